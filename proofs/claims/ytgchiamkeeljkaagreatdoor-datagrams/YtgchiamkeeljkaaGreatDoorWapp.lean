/-
  Package weave's appendNumber; bytes.Clone.
-/
import Derived.Test.YtgchiamkeeljkaaGreatDoorWsum
namespace Go.Proofs.YtgchiamkeeljkaaGreatDoor
open Go Go.RowKit

/-- What lies from B on may have changed. -/
def FromB (B : Nat) : Nat → Prop := fun b => B ≤ b
theorem lowL_take (n c j : Nat) (h : j < c) : (lowL n c).take (j + 1) = (lowL n c).take j ++ [UInt8.ofNat (n / 256 ^ (c - 1 - j) % 256)] := by
  induction c generalizing j with
  | zero => omega
  | succ c ih =>
    cases j with
    | zero => simp [lowL]
    | succ j =>
      rw [lowL, List.take_succ_cons, ih j (by omega), List.take_succ_cons, List.cons_append, show c + 1 - 1 - (j + 1) = c - 1 - j by omega]
theorem byteCells_snoc (l : List UInt8) (b : UInt8) : Lib.byteCells (l ++ [b]) = Lib.byteCells l ++ [.int .u8 (b.toNat : Nat)] := by simp [Lib.byteCells]
theorem byte_low (n q : Nat) : (n : Int) / 2 ^ (8 * q) % 256 = (((UInt8.ofNat (n / 256 ^ q % 256)).toNat : Nat) : Int) := by
  have e1 : (2 : Nat) ^ (8 * q) = 256 ^ q := Nat.pow_mul 2 8 q
  have e2 : (2 : Int) ^ (8 * q) = ((256 ^ q : Nat) : Int) := by rw [← e1, Int.natCast_pow]; rfl
  rw [e2, UInt8.toNat_ofNat', ← Int.natCast_ediv]
  generalize n / 256 ^ q = x
  omega
def AppPost (B k : Nat) (xs : List Value) (w : World) (v : Value) (w' : World) : Prop := w'.ownsRow B 5 1 v k xs ∧ Keeps (FromB B) w w'
set_option maxRecDepth 20000 in
set_option maxHeartbeats 2000000 in
theorem appnum_any (B k : Nat) (v : Value) (xs : List Value) (n c : Nat) (w : World) (hB : B ≤ w.heap.size) (hown : w.ownsRow B 5 1 v k xs) (hc : c ≤ 4) (hk : k ≤ 100000000) :
    Calls Tryz.prog 84 #[v, .int .i64 n, .int .i64 c] w fun e w' => ∃ v', e = .returned v' ∧ AppPost B (k + c) (xs ++ Lib.byteCells (lowL n c)) w v' w' := by
  have HO : Hid (w.ownsRow B 5 1 v k xs) := hown
  clear hown
  go_enter Tryz.func84, Tryz.ntmps84
  go_wp2
  go_loopw [0, 7] (fun u i wr => ∃ j : Nat, j ≤ c ∧ i = .int .i64 ((c : Int) - 1 - j) ∧ Hid (wr.ownsRow B 5 1 u (k + j) (xs ++ Lib.byteCells ((lowL n c).take j))) ∧ Hid (Keeps (FromB B) w wr)) (fun _ i _ => (intOf i + 1).toNat)
  case atStart => exact ⟨0, by omega, by simp, by simpa [Lib.byteCells] using HO, Keeps.refl _ _⟩
  case round =>
    obtain ⟨j, hj, rfl, ho, hkp⟩ := hrel
    by_cases hlt : j < c
    · obtain ⟨q, hq⟩ : ∃ q : Nat, (c : Int) - 1 - j = q := ⟨c - 1 - j, by omega⟩
      rw [hq]
      have HQ : Hid (c - 1 - j = q) := by show _ = _; omega
      have hq4 : q ≤ 4 := by omega
      have HX : Hid ((n : Int) / 2 ^ (8 * q) % 256 = (((UInt8.ofNat (n / 256 ^ q % 256)).toNat : Nat) : Int)) := byte_low n q
      obtain ⟨i0, hi0, hz0, hz1, hz2⟩ := info_parts winfo5
      go_wp2_with (at_builtin; refine wpList_append_lies _ rfl (.tmp 14) (.tmp 20) 54 rfl B 5 i0 _ 1 1 Tryz.underlying54 hi0 hz0 hz1 hz2 rfl (by decide) _ (k + j) (xs ++ Lib.byteCells ((lowL n c).take j)) rfl (ho.out.alloc _) ⟨wr.heap.size, 0, none⟩ 1 1 [.int .u8 ((n : Int) / 2 ^ (8 * q) % 256)] rfl rfl (World.news_of_block (cs := #[.int .u8 ((n : Int) / 2 ^ (8 * q) % 256)]) (t := 5) (fr := (0, 0)) (heap_alloc_new wr _)) (by simp [Value.oneCell']) (by decide) (by unfold maxLen; omega) (by omega) (by have := hkp.out.size; simp; omega) (wr.heap.size + 1) (by simp) ?_; intro g cap w1 O1 G1 A1 L1; have HO1 : Hid (w1.ownsRow B 5 1 (.slice (some ⟨g, 0, none⟩) (k + j + 1) cap) (k + j + 1) ((xs ++ Lib.byteCells ((lowL n c).take j)) ++ [.int .u8 ((n : Int) / 2 ^ (8 * q) % 256)])) := O1; have HK1 : Hid (Keeps (FromB B) w w1) := (hkp.out.alloc _).grown G1 (fun b e => .inr (ho.out.lt b e).1); clear O1 G1 A1 L1)
      have HO2 : Hid (w1.ownsRow B 5 1 (.slice (some ⟨g, 0, none⟩) (k + j + 1) cap) (k + (j + 1)) (xs ++ Lib.byteCells ((lowL n c).take (j + 1)))) := by
        have h0 := HO1.out
        rw [HX.out, ← HQ.out, List.append_assoc, ← byteCells_snoc, ← lowL_take n c j hlt] at h0
        exact h0
      go_roundw
      case rel => exact ⟨j + 1, by omega, by go_num, HO2, HK1⟩
      case measure => simp [intOf]
    · have e : j = c := by omega
      subst e
      have hi : ((j : Int) - 1 - j) = -1 := by omega
      rw [hi]
      have HE : Hid (AppPost B (k + j) (xs ++ Lib.byteCells (lowL n j)) w _ wr) := ⟨by have := ho.out; rwa [List.take_of_length_le (by rw [lowL_length]; exact Nat.le_refl _)] at this, hkp.out⟩
      clear ho hkp hi
      go_wp2
      go_ret
      exact ⟨_, rfl, HE.out⟩
end Go.Proofs.YtgchiamkeeljkaaGreatDoor
