/-
  weavelaw.lentBytes, wholeBytes: bytes that are lent, with room behind them; looked at again, and written over.
-/
import Derived.Test.YtgchiamkeeljkaaGreatDoorRows
import Derived.Test.YtgchiamkeeljkaaGreatDoorMem
import Derived.OpenShut
namespace Go.Proofs.YtgchiamkeeljkaaGreatDoor
open Go Go.RowKit

theorem info5 : (Tryz.prog.info? 5).map (fun i => (i.zero, i.size, i.bytes)) = some (some (.int .u8 0), 1, 1) := by kernel_rfl
theorem size5 : (Tryz.prog.info? 5).map (·.size) = some 1 := by kernel_rfl

/-- What lies in a lent row. -/
def lentF (s : ByteArray) (i : Nat) : Value := if i < s.size then byteAt s i else .int .u8 77
def lentUpto (s : ByteArray) (j : Nat) (i : Nat) : Value := if i < s.size then byteAt s i else if i < j then .int .u8 77 else .int .u8 0

theorem lent_step {w' : World} {b : Nat} {s : ByteArray} {j : Nat} (hj : s.size ≤ j) (h : w'.rowIs b 5 (s.size + 8) (lentUpto s j)) :
    (w'.setCell ⟨b, j, none⟩ (.int .u8 77)).rowIs b 5 (s.size + 8) (lentUpto s (j + 1)) := by
  refine (h.set j (.int .u8 77)).congr fun i _ => ?_
  unfold lentUpto
  by_cases h1 : i = j
  · subst h1; rw [if_pos rfl, if_neg (by omega), if_pos (by omega)]
  · rw [if_neg h1]
    by_cases h2 : i < s.size
    · rw [if_pos h2, if_pos h2]
    · rw [if_neg h2, if_neg h2]
      by_cases h3 : i < j
      · rw [if_pos h3, if_pos (by omega)]
      · rw [if_neg h3, if_neg (by omega)]

set_option maxHeartbeats 400000 in
set_option maxRecDepth 20000 in
theorem lent_any (s : ByteArray) (w : World) (hs : s.size ≤ 140737488351232) :
    Calls Tryz.prog 56 #[.string s] w fun e w' => e = .returned (.slice (some ⟨w.heap.size, 0, none⟩) s.size (s.size + 8)) ∧ w'.rowIs w.heap.size 5 (s.size + 8) (lentF s) ∧ Keeps NoB w w' ∧ w'.heap.size = w.heap.size + 1 := by
  have hmk := run_make_row' (P := Tryz.prog) 54 5 (.int .u8 0) 1 Tryz.underlying54 info5 rfl .i64 .i64 (s.size + 8) (by omega) (by omega)
  have ec : ((s.size + 8 : Nat) : Int) = (s.size : Int) + 8 := by omega
  rw [ec] at hmk
  clear ec
  obtain ⟨w1, hcp, hr1, hk1, hz1⟩ := run_copy_text (P := Tryz.prog) (w.alloc (.cells (madeCells #[.int .u8 0] (s.size + 8)) 5)) 54 9 3 5 Tryz.underlying54 size5 w.heap.size (s.size + 8) (s.size + 8) (s.size + 8) s 5 _ (World.rowIs_made w (.int .u8 0) (s.size + 8) 5) (by omega) (by omega)
  have hr : Hid (w1.rowIs w.heap.size 5 (s.size + 8) (lentUpto s s.size)) := hr1.congr fun i _ => by
    unfold lentUpto
    by_cases h : i < s.size
    · rw [if_pos h, if_pos h]
    · rw [if_neg h, if_neg h, if_neg h]
  have hk : Hid (Keeps NoB w w1) := ((Keeps.refl NoB w).alloc _).trans' hk1 (fun b hb h => by have h' : b = w.heap.size := h; omega)
  have hz : w1.heap.size = w.heap.size + 1 := by rw [hz1]; simp
  clear hr1 hk1 hz1
  go_enter Tryz.func56, Tryz.ntmps56
  go_wp2
  go_loopw [5] (fun i wr => ∃ j : Nat, s.size ≤ j ∧ j ≤ s.size + 8 ∧ i = .int .i64 j ∧ Hid (wr.rowIs w.heap.size 5 (s.size + 8) (lentUpto s j)) ∧ Hid (Keeps NoB w wr) ∧ wr.heap.size = w.heap.size + 1) (fun i _ => s.size + 8 - (intOf i).toNat)
  case atStart => exact ⟨s.size, Nat.le_refl _, by omega, rfl, hr, hk, hz⟩
  case round =>
    clear hr hk hz hcp hmk
    obtain ⟨j, hj1, hj2, rfl, hr, hk, hz⟩ := hrel
    by_cases hlt : j < s.size + 8
    · have hc := hr.out.cell hlt
      have hf := hr.out.frozen j
      have R : Hid ((wr.setCell ⟨w.heap.size, j, none⟩ (.int .u8 77)).rowIs w.heap.size 5 (s.size + 8) (lentUpto s (j + 1))) := lent_step hj1 hr.out
      have K : Hid (Keeps NoB w (wr.setCell ⟨w.heap.size, j, none⟩ (.int .u8 77))) := hk.out.setCell (Or.inl (Nat.le_refl _)) _
      go_wp2
      go_roundw
      case rel => exact ⟨j + 1, by omega, by omega, by go_num, R, K, by simp [World.setCell]; exact hz⟩
      case measure => simp [intOf]; omega
    · have ej : j = s.size + 8 := by omega
      have R : Hid (wr.rowIs w.heap.size 5 (s.size + 8) (lentF s)) := hr.out.congr fun i hi => by
        unfold lentUpto lentF
        by_cases h : i < s.size
        · rw [if_pos h, if_pos h]
        · rw [if_neg h, if_neg h, if_pos (by omega)]
      clear ej
      go_wp2
      go_ret
      exact ⟨rfl, R, hk, hz⟩

/-- A lent row, of which the first j places were written over. -/
def wholeUpto (s : ByteArray) (j : Nat) (i : Nat) : Value := if i < j then .int .u8 1 else lentF s i
theorem whole_step {w : World} {b : Nat} {s : ByteArray} {j : Nat} (h : w.rowIs b 5 (s.size + 8) (wholeUpto s j)) :
    (w.setCell ⟨b, j, none⟩ (.int .u8 1)).rowIs b 5 (s.size + 8) (wholeUpto s (j + 1)) := by
  refine (h.set j (.int .u8 1)).congr fun i _ => ?_
  unfold wholeUpto
  by_cases h1 : i = j
  · subst h1; rw [if_pos rfl, if_pos (by omega)]
  · rw [if_neg h1]
    by_cases h2 : i < j
    · rw [if_pos h2, if_pos (by omega)]
    · rw [if_neg h2, if_neg (by omega)]

set_option maxRecDepth 20000 in
set_option maxHeartbeats 400000 in
theorem whole_any (s : ByteArray) (b : Nat) (w : World) (hs : s.size ≤ 140737488351232) (hr : w.rowIs b 5 (s.size + 8) (lentF s)) :
    Calls Tryz.prog 59 #[.slice (some ⟨b, 0, none⟩) s.size (s.size + 8), .string s] w fun e w' => e = .returned (.bool true) ∧ w'.rowIs b 5 (s.size + 8) (fun _ => .int .u8 1) ∧ Keeps (OnlyB b) w w' ∧ w'.heap.size = w.heap.size := by
  have hcv := run_convert_text (P := Tryz.prog) w 54 5 9 Tryz.underlying54 Tryz.underlying5 Tryz.underlying9 b 0 s.size (s.size + 8) s rfl (fun i hi => by
    rw [Nat.zero_add, hr.cell (by omega), lentF, if_pos hi])
  have hr0 : Hid (w.rowIs b 5 (s.size + 8) (wholeUpto s 0)) := hr.congr fun i _ => by unfold wholeUpto; rw [if_neg (by omega)]
  clear hr
  go_enter Tryz.func59, Tryz.ntmps59
  go_wp2
  go_loopw [7, 8] (fun o i wr => ∃ j : Nat, j ≤ s.size + 8 ∧ i = .int .i64 j ∧ o = .bool true ∧ Hid (wr.rowIs b 5 (s.size + 8) (wholeUpto s j)) ∧ Hid (Keeps (OnlyB b) w wr) ∧ wr.heap.size = w.heap.size) (fun _ i _ => s.size + 8 - (intOf i).toNat)
  case atStart => exact ⟨0, by omega, rfl, by simp, hr0, Keeps.refl _ _, rfl⟩
  case round =>
    clear hr0 hcv
    obtain ⟨j, hj, rfl, rfl, hr, hk, hz⟩ := hrel
    by_cases hlt : j < s.size + 8
    · have hc := hr.out.cell hlt
      have hf := hr.out.frozen j
      have R : Hid ((wr.setCell ⟨b, j, none⟩ (.int .u8 1)).rowIs b 5 (s.size + 8) (wholeUpto s (j + 1))) := whole_step hr.out
      have K : Hid (Keeps (OnlyB b) w (wr.setCell ⟨b, j, none⟩ (.int .u8 1))) := hk.out.setCell (Or.inr (show OnlyB b b from rfl)) _
      have Z : Hid ((wr.setCell ⟨b, j, none⟩ (.int .u8 1)).heap.size = w.heap.size) := by show _ = _; simp [World.setCell]; exact hz
      rw [wholeUpto, if_neg (Nat.lt_irrefl j), lentF] at hc
      by_cases hn : j < s.size
      · rw [if_pos hn, byteAt] at hc
        go_wp2
        go_roundw
        case rel => exact ⟨j + 1, by omega, by go_num, rfl, R, K, Z⟩
        case measure => simp [intOf]; omega
      · rw [if_neg hn] at hc
        go_wp2
        go_roundw
        case rel => exact ⟨j + 1, by omega, by go_num, rfl, R, K, Z⟩
        case measure => simp [intOf]; omega
    · have R : Hid (wr.rowIs b 5 (s.size + 8) (fun _ => .int .u8 1)) := hr.out.congr fun i hi => by unfold wholeUpto; rw [if_pos (by omega)]
      go_wp2
      go_ret
      exact ⟨rfl, R, hk, hz⟩
end Go.Proofs.YtgchiamkeeljkaaGreatDoor
