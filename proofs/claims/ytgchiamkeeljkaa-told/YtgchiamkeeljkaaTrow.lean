/-
  weavekeep.rows, at one shard from the text's beginning.
-/
import Derived.Test.YtgchiamkeeljkaaTcfg
import Derived.Laws.AppendOwn
import Derived.Deep.AppendLies
namespace Go.Proofs.Ytgchiamkeeljkaa
open Go Go.RowKit

theorem infok5 : (Try.prog.info? 5).map (fun i => (i.zero, i.size, i.bytes)) = some (some (.int .u8 0), 1, 1) := by kernel_rfl
theorem infok36 : (Try.prog.info? 29).map (fun i => (i.zero, i.size, i.bytes)) = some (some (.slice none 0 0), 1, 24) := by kernel_rfl
/-- The bytes of the shard. -/
def tS (s : ByteArray) (n : Nat) : ByteArray := ⟨((List.range n).map fun p => if s.size = 0 then 0 else s.data.toList.getD (p % s.size) 0).toArray⟩
theorem tS_size (s : ByteArray) (n : Nat) : (tS s n).size = n := by rw [Lib.size_eq]; simp [tS]
theorem tS_at (s : ByteArray) (n p : Nat) (h : p < n) (hs : 0 < s.size) : byteAt (tS s n) p = .int .u8 (byteI s (p % s.size)) := by
  have e : (tS s n).data.toList.getD p 0 = s.data.toList.getD (p % s.size) 0 := by
    simp [tS, List.getD_eq_getElem?_getD, h, show ¬ s.size = 0 by omega]
  rw [byteAt, e]; rfl
theorem tS_zero (s : ByteArray) (n p : Nat) (h : p < n) (hs : s.size = 0) : byteAt (tS s n) p = .int .u8 0 := by
  have e : (tS s n).data.toList.getD p 0 = 0 := by simp [tS, List.getD_eq_getElem?_getD, h, hs]
  rw [byteAt, e]; rfl
def tUpto (s : ByteArray) (n j i : Nat) : Value := if i < j then byteAt (tS s n) i else .int .u8 0
theorem tUpto_step {w : World} {b n : Nat} {s : ByteArray} {j : Nat} {v : Value} (hv : byteAt (tS s n) j = v) (h : w.rowIs b 5 n (tUpto s n j)) : (w.setCell ⟨b, j, none⟩ v).rowIs b 5 n (tUpto s n (j + 1)) := by
  refine (h.set j _).congr fun i _ => ?_
  unfold tUpto
  by_cases h1 : i = j
  · subst h1; rw [if_pos rfl, if_pos (by omega), hv]
  · rw [if_neg h1]
    by_cases h2 : i < j
    · rw [if_pos h2, if_pos (by omega)]
    · rw [if_neg h2, if_neg (by omega)]
theorem one_slice (v : Value) {a : Option Addr} {l c : Nat} (e : v = .slice a l c := by rfl) : ∀ u ∈ [v], u.oneCell' = true := fun u hu => by
  simp only [List.mem_cons, List.not_mem_nil, or_false] at hu
  subst hu; subst e; rfl
def RowsPost (w : World) (n : Nat) (s : ByteArray) (out : Value) (w' : World) : Prop := ∃ go cap gb, out = .slice (some ⟨go, 0, none⟩) 1 cap ∧ w'.cell? ⟨go, 0, none⟩ = some (.slice (some ⟨gb, 0, none⟩) n n) ∧ w'.rowIs gb 5 n (byteAt (tS s n)) ∧ w.heap.size ≤ gb ∧ w.heap.size ≤ go ∧ go ≠ gb ∧ Keeps NoB w w'
set_option maxRecDepth 20000 in
set_option maxHeartbeats 2000000 in
theorem rows_one (n : Nat) (s : ByteArray) (w : World) (hn : n ≤ 1000) (hs : s.size ≤ 140737488351232) :
    Calls Try.prog 5 #[.int .i64 1, .int .i64 n, .string s, .int .i64 0] w fun e w' => ∃ out, e = .returned out ∧ RowsPost w n s out w' := by
  have hmk := run_make_row' (P := Try.prog) 29 5 (.int .u8 0) 1 Try.underlying29 infok5 rfl .i64 .i64 n (by omega) (by omega)
  go_enter Try.func5, Try.ntmps5
  go_wp2
  go_loopw [9, 10, 11, 12] (fun out i _ _ wr => (i = .int .i64 0 ∧ out = .slice none 0 0 ∧ wr = w) ∨ (i = .int .i64 1 ∧ Hid (RowsPost w n s out wr))) (fun _ i _ _ _ => 1 - (intOf i).toNat)
  case atStart => exact .inl ⟨rfl, rfl, rfl⟩
  case round =>
    rcases hrel with ⟨rfl, rfl, hw⟩ | ⟨rfl, hp⟩
    · obtain rfl : w = wr := hw.symm
      have HR0 : Hid ((w.alloc (.cells (madeCells #[.int .u8 0] n) 5)).rowIs w.heap.size 5 n (tUpto s n 0)) := (World.rowIs_made w (.int .u8 0) n 5).congr fun i _ => by unfold tUpto; rw [if_neg (by omega)]
      have HK0 : Hid (Keeps NoB w (w.alloc (.cells (madeCells #[.int .u8 0] n) 5))) := keepsk _ _
      have hz0 : (w.alloc (.cells (madeCells #[.int .u8 0] n) 5)).heap.size = w.heap.size + 1 := by simp
      go_wp2
      clear hmk
      go_loopw [12] (fun p wx => ∃ j : Nat, j ≤ n ∧ p = .int .i64 j ∧ Hid (wx.rowIs w.heap.size 5 n (tUpto s n j)) ∧ Hid (Keeps NoB w wx) ∧ wx.heap.size = w.heap.size + 1) (fun p _ => n - (intOf p).toNat)
      case atStart => exact ⟨0, by omega, rfl, HR0, HK0, hz0⟩
      case round =>
        clear HR0 HK0 hz0
        obtain ⟨j, hj, rfl, hr, hk, hz⟩ := hrel
        by_cases hlt : j < n
        · by_cases hs0 : 0 < s.size
          · have hm : j % s.size < s.size := Nat.mod_lt _ hs0
            have hm9 : ((j : Int) % (s.size : Int)).toNat = j % s.size := by rw [← Int.natCast_emod, Int.toNat_natCast]
            have h8 : ((s[j % s.size]'hm).toNat : Int) = byteI s (j % s.size) := byteI_at s _ hm
            have hm2 : (0 : Int) ≤ (j : Int) % (s.size : Int) := Int.emod_nonneg _ (by omega)
            have hm3 : (j : Int) % (s.size : Int) < (s.size : Int) := Int.emod_lt_of_pos _ (by omega)
            have hz' : ((s.size : Int) == 0) = false := beq_eq_false_iff_ne.2 (by omega)
            have hz2 : (s.size : Int) ≠ 0 := by omega
            have dlt : decide ((j : Int) < (n : Int)) = true := by simp; omega
            have dgt : decide ((0 : Int) < (s.size : Int)) = true := by simp; omega
            have hc := hr.out.cell hlt
            have hf := hr.out.frozen j
            have R : Hid ((wr.setCell ⟨w.heap.size, j, none⟩ (.int .u8 (byteI s (j % s.size)))).rowIs w.heap.size 5 n (tUpto s n (j + 1))) := tUpto_step (tS_at s n j hlt hs0) hr.out
            have K : Hid (Keeps NoB w (wr.setCell ⟨w.heap.size, j, none⟩ (.int .u8 (byteI s (j % s.size))))) := hk.out.setCell (Or.inl (Nat.le_refl _)) _
            clear hr hk
            go_wp2
            go_roundw
            case rel => exact ⟨j + 1, by omega, by go_num, R, K, by simp [hz]⟩
            case measure => simp [intOf]; omega
          · have RF : Hid (wr.rowIs w.heap.size 5 n (byteAt (tS s n))) := hr.out.congr fun i hi => by
              unfold tUpto
              rw [tS_zero s n i hi (by omega)]
              split <;> rfl
            have dlt : decide ((j : Int) < (n : Int)) = true := by simp; omega
            have dgt : decide ((0 : Int) < (s.size : Int)) = false := decide_eq_false (by omega)
            clear hr
            obtain ⟨i0, hi0, hz0, hz1, hz2⟩ := info_parts infok36
            go_wp2_with (at_builtin; refine wpList_append_own _ rfl (.tmp 45) (.tmp 47) 26 rfl (w.heap.size + 1) 29 i0 _ 1 24 Try.underlying26 hi0 hz0 hz1 hz2 rfl (by decide) (.slice none 0 0) 0 [] rfl (World.ownsRow_nil _ _ _ _) ⟨w.heap.size + 1, 0, none⟩ 1 1 [.slice (some ⟨w.heap.size, 0, none⟩) n n] rfl rfl (fun q u hq => (by rw [← hz]; exact World.news_of_block (t := 29) (fr := (0, 0)) (heap_alloc_new wr _) q u hq)) (one_slice _) (by decide) (by decide) (by simp; omega) ?_; intro v1 w1 O1 G1 _; have HO : Hid (w1.ownsRow (w.heap.size + 1) 29 1 v1 (0 + 1) ([] ++ [.slice (some ⟨w.heap.size, 0, none⟩) n n])) := O1; have HG : Hid (Keeps NoB wr w1) := ((Keeps.refl NoB wr).alloc _).grown G1 (fun k e => by cases e); clear O1 G1)
            have HP : Hid (RowsPost w n s v1 w1) := by
              obtain ⟨go, cap, hv, hg1, hg2⟩ := HO.out.form (by omega)
              subst hv
              have hc0 := HO.out.cellAt 0 (by decide)
              exact ⟨go, cap, w.heap.size, rfl, hc0, HG.out.rowIs RF.out (fun x => x), Nat.le_refl _, by omega, by omega, hk.out.trans HG.out⟩
            go_roundw
            case rel => exact .inr ⟨by go_num, HP⟩
            case measure => simp [intOf]
        · have RF : Hid (wr.rowIs w.heap.size 5 n (byteAt (tS s n))) := hr.out.congr fun i hi => by
            unfold tUpto
            rw [if_pos (by omega)]
          have dlt : decide ((j : Int) < (n : Int)) = false := by simp; omega
          clear hr
          obtain ⟨i0, hi0, hz0, hz1, hz2⟩ := info_parts infok36
          go_wp2_with (at_builtin; refine wpList_append_own _ rfl (.tmp 45) (.tmp 47) 26 rfl (w.heap.size + 1) 29 i0 _ 1 24 Try.underlying26 hi0 hz0 hz1 hz2 rfl (by decide) (.slice none 0 0) 0 [] rfl (World.ownsRow_nil _ _ _ _) ⟨w.heap.size + 1, 0, none⟩ 1 1 [.slice (some ⟨w.heap.size, 0, none⟩) n n] rfl rfl (fun q u hq => (by rw [← hz]; exact World.news_of_block (t := 29) (fr := (0, 0)) (heap_alloc_new wr _) q u hq)) (one_slice _) (by decide) (by decide) (by simp; omega) ?_; intro v1 w1 O1 G1 _; have HO : Hid (w1.ownsRow (w.heap.size + 1) 29 1 v1 (0 + 1) ([] ++ [.slice (some ⟨w.heap.size, 0, none⟩) n n])) := O1; have HG : Hid (Keeps NoB wr w1) := ((Keeps.refl NoB wr).alloc _).grown G1 (fun k e => by cases e); clear O1 G1)
          have HP : Hid (RowsPost w n s v1 w1) := by
            obtain ⟨go, cap, hv, hg1, hg2⟩ := HO.out.form (by omega)
            subst hv
            have hc0 := HO.out.cellAt 0 (by decide)
            exact ⟨go, cap, w.heap.size, rfl, hc0, HG.out.rowIs RF.out (fun x => x), Nat.le_refl _, by omega, by omega, hk.out.trans HG.out⟩
          go_roundw
          case rel => exact .inr ⟨by go_num, HP⟩
          case measure => simp [intOf]
    · have HP : Hid (RowsPost w n s _ wr) := hp
      clear hp
      go_wp2
      go_ret
      exact ⟨_, rfl, HP.out⟩
end Go.Proofs.Ytgchiamkeeljkaa
