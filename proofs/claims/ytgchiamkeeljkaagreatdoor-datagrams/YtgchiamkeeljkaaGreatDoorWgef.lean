/-
  weave.framed, ofStream; bytes.Clone.
-/
import Derived.Test.YtgchiamkeeljkaaGreatDoorWput
import Derived.Deep.QuietTactic
import Derived.BigQuiet
import Derived.Laws.ResultCell
namespace Go.Proofs.YtgchiamkeeljkaaGreatDoor
open Go Go.RowKit

set_option maxRecDepth 20000 in
set_option maxHeartbeats 1000000 in
theorem clone_any (T : ByteArray) (b o c : Nat) (w : World) (h0 : 0 < T.size) (h1 : T.size ≤ 100000) (hc : ∀ i, i < T.size → w.cell? ⟨b, o + i, none⟩ = some (byteAt T i)) (hb : b < w.heap.size) :
    Calls Tryz.prog 126 #[.slice (some ⟨b, o, none⟩) T.size c] w fun e w' => ∃ v, e = .returned v ∧ NewRow w T v w' := by
  have HC : Hid (∀ i, i < T.size → w.cell? ⟨b, o + i, none⟩ = some (byteAt T i)) := hc
  have HB : Hid (b < w.heap.size) := hb
  have HTL : Hid (T.data.toList.length = T.size) := by show _ = _; rw [← Lib.size_eq]
  have hnil := fun w => Lib.run_eql_slice_nil (P := Tryz.prog) w 54 5 (some ⟨b, o, none⟩) T.size c 0 0 Tryz.underlying54
  clear hc hb
  go_enter Tryz.func126, Tryz.ntmps126
  go_wp2_with (at_builtin; refine wpList_appB _ rfl (.tmp 5) (.tmp 6) rfl w.heap.size _ [] T.data.toList rfl (World.ownsRow_made (e := 5) (size := 1) w #[] 0 (Nat.le_refl _) (by decide) rfl) ⟨b, o, none⟩ T.size c rfl HTL.out (news_bytes (fun i hi => ((wkeeps w _).cell (a := ⟨b, o + i, none⟩) HB.out (fun x => x)).trans (HC.out i hi))) (by rw [HTL.out]; exact h0) (by rw [HTL.out]; simp; omega) (by simp) ?_; intro v1 w1 o1 k1; have O1 : Hid (OwnB w.heap.size v1 T.data.toList w1) := o1; have K1 : Hid (Keeps NoB w w1) := (wkeeps w _).trans' k1 (fun b hb h => by have h' : w.heap.size ≤ b := h; omega); clear o1 k1)
  go_ret
  exact ⟨v1, rfl, O1.out.new h0 (Nat.le_refl _) K1.out⟩
theorem drewN_cell (w : World) (n : Nat) (a : Addr) : (w.drewN n).cell? a = w.cell? a := by
  induction n generalizing w with
  | zero => rfl
  | succ n ih => exact ih w.drew
theorem drewN_cells {w : World} {b : Nat} {s : ByteArray} (h : ∀ i, i < s.size → w.cell? ⟨b, i, none⟩ = some (byteAt s i)) (n : Nat) : ∀ i, i < s.size → (w.drewN n).cell? ⟨b, i, none⟩ = some (byteAt s i) := fun i hi => (drewN_cell w n _).trans (h i hi)
/-- number, its place and its length any terms. -/
theorem number_at (s : ByteArray) (b i k c : Nat) (w : World) (hk : k ≤ 4) (hs : i + k ≤ s.size) (hz : s.size ≤ 281474976710656) (hc : ∀ i, i < s.size → w.cell? ⟨b, i, none⟩ = some (byteAt s i)) (I k' : Nat) (e1 : I = i) (e2 : k' = k) :
    Calls Tryz.prog 125 #[.slice (some ⟨b, I, none⟩) k' c] w fun e w' => e = .returned (.int .i64 (valOf s.data.toList i k : Nat)) ∧ w' = w := by
  subst e1 e2
  exact number_any s b I k' c w hk hs hz hc
set_option maxRecDepth 20000 in
set_option maxHeartbeats 2000000 in
theorem framed_any (s : ByteArray) (b c : Nat) (w : World) (hz : s.size ≤ 281474976710656) (hc : ∀ i, i < s.size → w.cell? ⟨b, i, none⟩ = some (byteAt s i)) (hcx : s.size ≤ c) :
    Calls Tryz.prog 88 #[.slice (some ⟨b, 0, none⟩) s.size c] w fun e w' => e = .returned (.bool (frameB s)) ∧ Keeps NoB w w' := by
  have HC : Hid (∀ i, i < s.size → w.cell? ⟨b, i, none⟩ = some (byteAt s i)) := hc
  clear hc
  by_cases hn : s.size < 19
  · have HF : Hid (frameB s = false) := by show _ = _; unfold frameB; simp; omega
    rw [HF.out]
    have d1 : decide ((s.size : Int) < 19) = true := by simp; omega
    go_enter Tryz.func88, Tryz.ntmps88
    go_wp2
    go_ret
    exact ⟨by simp, Keeps.refl _ _⟩
  have d1 : decide ((s.size : Int) < 19) = false := by simp; omega
  have c0 : w.cell? ⟨b, 0, none⟩ = some (.int .u8 (byteI s 0)) := HC.out 0 (by omega)
  by_cases f0 : byteI s 0 = 87
  case neg =>
    have HF : Hid (frameB s = false) := by show _ = _; unfold frameB; simp [f0]
    rw [HF.out]
    have t0 : (byteI s 0 != 87) = true := by simp [f0]
    clear f0
    go_enter Tryz.func88, Tryz.ntmps88
    go_wp2
    go_ret
    exact ⟨by simp, Keeps.refl _ _⟩
  have t0 : (byteI s 0 != 87) = false := by simp [f0]
  have c1 : w.cell? ⟨b, 1, none⟩ = some (.int .u8 (byteI s 1)) := HC.out 1 (by omega)
  by_cases f1 : byteI s 1 = 1
  case neg =>
    have HF : Hid (frameB s = false) := by show _ = _; unfold frameB; simp [f1]
    rw [HF.out]
    have t1 : (byteI s 1 != 1) = true := by simp [f1]
    clear f0 f1
    go_enter Tryz.func88, Tryz.ntmps88
    go_wp2
    go_ret
    exact ⟨by simp, Keeps.refl _ _⟩
  have t1 : (byteI s 1 != 1) = false := by simp [f1]
  have v9 := valOf_lt s.data.toList 9 2
  by_cases f2 : valOf s.data.toList 9 2 + 19 = s.size
  case neg =>
    have HF : Hid (frameB s = false) := by show _ = _; unfold frameB; simp [f2]
    rw [HF.out]
    have t2 : ((s.size : Int) != ((valOf s.data.toList 9 2 : Nat) : Int) + 19) = true := by simp; omega
    clear f0 f1 f2
    go_enter Tryz.func88, Tryz.ntmps88
    go_wp2_with (go_at_call 125; refine (number_at s b 9 2 _ _ (by omega) (by omega) hz HC.out _ _ (by rfl) (by rfl)).mono ?_; rintro e w' ⟨rfl, hw'⟩; obtain rfl := hw')
    go_ret
    exact ⟨by simp, Keeps.refl _ _⟩
  have t2 : ((s.size : Int) != ((valOf s.data.toList 9 2 : Nat) : Int) + 19) = false := by simp; omega
  have HF : Hid (frameB s = (((valOf s.data.toList (s.size - 4) 4 : Nat) : Int) == ((sumOf (s.extract 0 (s.size - 4)) : Nat) : Int))) := by
    show _ = _
    rw [Bool.eq_iff_iff]
    unfold frameB
    simp [f0, f1, f2]
    omega
  rw [HF.out]
  clear f0 f1 f2 HF
  have i0 : (0 : Int) ≤ (s.size : Int) - 4 := by omega
  have i1 : (s.size : Int) - 4 ≤ (s.size : Int) := by omega
  have b1 : IntKind.i64.wrap ((s.size : Int) - 4) = (s.size : Int) - 4 := by rw [IntWalk.i64_left]; exact IntWalk.wrap64_in _ (by omega)
  go_enter Tryz.func88, Tryz.ntmps88
  go_upto_region 4 with (go_at_call 125; refine (number_at s b 9 2 _ _ (by omega) (by omega) hz HC.out _ _ (by rfl) (by rfl)).mono ?_; rintro e w' ⟨rfl, hw'⟩; obtain rfl := hw')
  go_quiet (first | (go_at_call 125; exact Calls.quiet_of_same (number_at s b (s.size - 4) 4 _ _ (by omega) (by omega) hz (drewN_cells HC.out _) _ _ (by omega) (by omega))) | (go_at_call 85; exact Calls.quiet_of_same (sum_any s b (s.size - 4) _ _ (by omega) (by omega) (fun i hi => drewN_cells HC.out _ i (by omega)))))
  go_wp2
  go_ret
  exact ⟨by simp, (Keeps.refl _ _).drewN _⟩
end Go.Proofs.YtgchiamkeeljkaaGreatDoor
