/-
  weave.Get, whole.
-/
import Derived.Test.YtgchiamkeeljkaaGreatDoorWgdg
namespace Go.Proofs.YtgchiamkeeljkaaGreatDoor
open Go Go.RowKit

theorem getE_steps (K M S W P X R : Int) (s : ByteArray) : getE K M S W P X R s = if rightB K M S W P X R = false then 1 else if frameB s = false then 5 else if mineB K M S s = false then 6 else if fitB K M S ((valOf s.data.toList 2 4 : Nat) : Int) (byteI s 6) ((valOf s.data.toList 11 4 : Nat) : Int) (s.size - 19) = false then 5 else 0 := by
  unfold getE
  by_cases hr : rightB K M S W P X R = false
  · rw [if_pos hr, if_pos hr]
  · rw [if_neg hr, if_neg hr]
    by_cases hf : frameB s = false
    · rw [if_pos hf, if_pos hf]
    · rw [if_neg hf, if_neg hf]
      have hr' : rightB K M S W P X R = true := by simpa using hr
      have hf' : frameB s = true := by simpa using hf
      have hn : 19 ≤ s.size := by
        unfold frameB at hf'
        simp only [Bool.and_eq_true, decide_eq_true_eq] at hf'
        omega
      rw [takeB, put_fit, hr', Bool.true_and, extract_sz s hn, val_one]
theorem mine_size {K M S : Int} {s : ByteArray} (h : mineB K M S s = true) (hf : frameB s = true) (hS1 : 1 ≤ S) (hS2 : S ≤ 1024) : 20 ≤ s.size ∧ s.size ≤ 2000 := by
  unfold mineB at h
  unfold frameB at hf
  simp only [Bool.and_eq_true, decide_eq_true_eq] at h hf
  omega
theorem frame_size {s : ByteArray} (hf : frameB s = true) : 19 ≤ s.size := by
  unfold frameB at hf
  simp only [Bool.and_eq_true, decide_eq_true_eq] at hf
  omega
theorem NewRow.on {w w1 w2 : World} {T : ByteArray} {v : Value} (n : NewRow w T v w1) (k : Keeps NoB w1 w2) : NewRow w T v w2 := by
  obtain ⟨g, c, m, f, e1, e2, e3, e4, e5, e6, e7, e8⟩ := n
  exact ⟨g, c, m, f, e1, e2, Nat.lt_of_lt_of_le e3 k.size, k.rowIs e4 (fun x => x), e5, e6, e7, e8.trans k⟩
theorem D4C.lt {bd : Nat} {w : World} (h : D4C bd w) : bd < w.heap.size := World.block_lt_of_cell? w _ h.1
theorem dg_laid (w : World) (x y z v : Value) (t : TypeId) : ∃ w0, w.alloc (.cells #[x, y, z, v] t) = w0 ∧ Hid (DgC w.heap.size x y z v w0) ∧ Hid (Keeps NoB w w0) := ⟨_, rfl, DgC.new _ _ _ _ _ _, wkeeps _ _⟩
/-- Ahead of weave.Get's first test. -/
theorem get_start (w : World) (K M S W P X R : Int) (t u : TypeId) :
    ∃ w0, ((w.alloc (.cells #[.int .i64 K, .int .i64 M, .int .i64 S, .int .i64 W, .int .i64 P, .int .i64 X, .int .i64 R] t)).alloc (.cells #[.int .i64 0, .int .i64 0, .int .i64 0, .slice none 0 0] u)) = w0 ∧ Hid (CfC w.heap.size K M S W P X R w0) ∧ Hid (D4C (w.heap.size + 1) w0) ∧ Hid (Keeps NoB w w0) := by
  refine ⟨_, rfl, (CfC.new w K M S W P X R t).keeps (wkeeps _ _) (fun x => x), ?_, (wkeeps _ _).trans (wkeeps _ _)⟩
  have := D4C.new (w.alloc (.cells #[.int .i64 K, .int .i64 M, .int .i64 S, .int .i64 W, .int .i64 P, .int .i64 X, .int .i64 R] t)) u
  rwa [show (w.alloc (.cells #[.int .i64 K, .int .i64 M, .int .i64 S, .int .i64 W, .int .i64 P, .int .i64 X, .int .i64 R] t)).heap.size = w.heap.size + 1 by simp] at this
set_option maxRecDepth 20000 in
set_option maxHeartbeats 4000000 in
theorem wget_no (K M S W P X R : Int) (s : ByteArray) (bx cx : Nat) (w : World) (hz : s.size ≤ 281474976710656) (hc : ∀ i, i < s.size → w.cell? ⟨bx, i, none⟩ = some (byteAt s i)) (hcx : s.size ≤ cx) (hbx : bx < w.heap.size) (he : getE K M S W P X R s ≠ 0) :
    Calls Tryz.prog 49 #[.agg #[.int .i64 K, .int .i64 M, .int .i64 S, .int .i64 W, .int .i64 P, .int .i64 X, .int .i64 R], .slice (some ⟨bx, 0, none⟩) s.size cx] w fun e w' => e = .returned (.tuple #[.agg #[.int .i64 0, .int .i64 0, .int .i64 0, .slice none 0 0], .int .i64 (getE K M S W P X R s)]) ∧ Keeps NoB w w' := by
  rw [getE_steps] at he ⊢
  have HC : Hid (∀ i, i < s.size → w.cell? ⟨bx, i, none⟩ = some (byteAt s i)) := hc
  have HB : Hid (bx < w.heap.size) := hbx
  obtain ⟨w0, hw0, C0, D0, K0⟩ := get_start w K M S W P X R 37 112
  have W0 : Hid (_ = w0) := hw0
  have c0 := C0.out
  unfold CfC at c0
  clear hc hbx hw0
  by_cases hr : rightB K M S W P X R = false
  · rw [if_pos hr]
    clear he
    go_enter Tryz.func49, Tryz.ntmps49
    go_upto_region 1 with fail
    rw [W0.out]
    go_wp2_with (go_at_call 47; refine (right_any _ _ _ _ _ _ _ _).mono ?_; rintro e w1 ⟨rfl, k1⟩; have D1 := D0.out.keeps k1 (fun x => x); unfold D4C at D1; have K1 : Hid (Keeps NoB w w1) := K0.out.trans k1; clear k1)
    exact bodyPost_ret (v := .tuple #[.agg #[.int .i64 0, .int .i64 0, .int .i64 0, .slice none 0 0], .int .i64 1]) (by simp [results, Tryz.results49, go_sem, D1]) rfl ⟨rfl, keeps_set4 (Nat.le_succ _) K1.out⟩
  rw [if_neg hr] at he ⊢
  replace hr : rightB K M S W P X R = true := by simpa using hr
  by_cases hf : frameB s = false
  · rw [if_pos hf]
    clear he
    go_enter Tryz.func49, Tryz.ntmps49
    go_upto_region 1 with fail
    rw [W0.out]
    go_wp2_with (first | (go_at_call 47; refine (right_any _ _ _ _ _ _ _ _).mono ?_; rintro e w1 ⟨rfl, k1⟩; have K1 : Hid (Keeps NoB w w1) := K0.out.trans k1; replace D0 : Hid (D4C (w.heap.size + 1) w1) := D0.out.keeps k1 (fun x => x); clear k1) | (go_at_call 88; refine (framed_any s bx cx _ hz (fun i hi => (K1.out.cell (a := ⟨bx, i, none⟩) HB.out (fun x => x)).trans (HC.out i hi)) hcx).mono ?_; rintro e w2 ⟨rfl, k2⟩; have D2 := D0.out.keeps k2 (fun x => x); unfold D4C at D2; have K2 : Hid (Keeps NoB w w2) := K1.out.trans k2; clear k2))
    exact bodyPost_ret (v := .tuple #[.agg #[.int .i64 0, .int .i64 0, .int .i64 0, .slice none 0 0], .int .i64 5]) (by simp [results, Tryz.results49, go_sem, D2]) rfl ⟨rfl, keeps_set4 (Nat.le_succ _) K2.out⟩
  rw [if_neg hf] at he ⊢
  replace hf : frameB s = true := by simpa using hf
  have HN := frame_size hf
  by_cases hm : mineB K M S s = false
  · rw [if_pos hm]
    clear he
    go_enter Tryz.func49, Tryz.ntmps49
    go_upto_region 1 with fail
    rw [W0.out]
    go_wp2_with (first | (go_at_call 47; refine (right_any _ _ _ _ _ _ _ _).mono ?_; rintro e w1 ⟨rfl, k1⟩; have K1 : Hid (Keeps NoB w w1) := K0.out.trans k1; replace D0 : Hid (D4C (w.heap.size + 1) w1) := D0.out.keeps k1 (fun x => x); replace C0 : Hid (CfC w.heap.size K M S W P X R w1) := C0.out.keeps k1 (fun x => x); clear k1) | (go_at_call 88; refine (framed_any s bx cx _ hz (fun i hi => (K1.out.cell (a := ⟨bx, i, none⟩) HB.out (fun x => x)).trans (HC.out i hi)) hcx).mono ?_; rintro e w2 ⟨rfl, k2⟩; have c2 := C0.out.keeps k2 (fun x => x); unfold CfC at c2; replace D0 : Hid (D4C (w.heap.size + 1) w2) := D0.out.keeps k2 (fun x => x); have K2 : Hid (Keeps NoB w w2) := K1.out.trans k2; clear k2) | (go_at_call 89; refine (ofstream_any _ _ _ _ _ _ _ s bx cx _ hz (fun i hi => (K2.out.cell (a := ⟨bx, i, none⟩) HB.out (fun x => x)).trans (HC.out i hi)) hcx (Nat.lt_of_lt_of_le HB.out K2.out.size) HN).mono ?_; rintro e w3 ⟨rfl, k3⟩; have D3 := D0.out.keeps k3 (fun x => x); unfold D4C at D3; have K3 : Hid (Keeps NoB w w3) := K2.out.trans k3; clear k3))
    exact bodyPost_ret (v := .tuple #[.agg #[.int .i64 0, .int .i64 0, .int .i64 0, .slice none 0 0], .int .i64 6]) (by simp [results, Tryz.results49, go_sem, D3]) rfl ⟨rfl, keeps_set4 (Nat.le_succ _) K3.out⟩
  rw [if_neg hm] at he ⊢
  replace hm : mineB K M S s = true := by simpa using hm
  obtain ⟨_, _, _, _, s1, s2, _, _⟩ := right_bd hr
  obtain ⟨z1, z2⟩ := mine_size hm hf s1 s2
  have HR : Hid (rightB K M S W P X R = true) := hr
  by_cases ht : fitB K M S ((valOf s.data.toList 2 4 : Nat) : Int) (byteI s 6) ((valOf s.data.toList 11 4 : Nat) : Int) (s.size - 19) = false
  case neg => exact absurd (by rw [if_neg ht]) he
  rw [if_pos ht]
  clear he
  go_enter Tryz.func49, Tryz.ntmps49
  go_upto_region 1 with fail
  rw [W0.out]
  go_upto_region 8 with (first | (go_at_call 47; refine (right_any _ _ _ _ _ _ _ _).mono ?_; rintro e w1 ⟨rfl, k1⟩; have K1 : Hid (Keeps NoB w w1) := K0.out.trans k1; replace D0 : Hid (D4C (w.heap.size + 1) w1) := D0.out.keeps k1 (fun x => x); replace C0 : Hid (CfC w.heap.size K M S W P X R w1) := C0.out.keeps k1 (fun x => x); clear k1) | (go_at_call 88; refine (framed_any s bx cx _ hz (fun i hi => (K1.out.cell (a := ⟨bx, i, none⟩) HB.out (fun x => x)).trans (HC.out i hi)) hcx).mono ?_; rintro e w2 ⟨rfl, k2⟩; have c2 := C0.out.keeps k2 (fun x => x); replace C0 : Hid (CfC w.heap.size K M S W P X R w2) := c2; unfold CfC at c2; replace D0 : Hid (D4C (w.heap.size + 1) w2) := D0.out.keeps k2 (fun x => x); have K2 : Hid (Keeps NoB w w2) := K1.out.trans k2; clear k2) | (go_at_call 89; refine (ofstream_any _ _ _ _ _ _ _ s bx cx _ hz (fun i hi => (K2.out.cell (a := ⟨bx, i, none⟩) HB.out (fun x => x)).trans (HC.out i hi)) hcx (Nat.lt_of_lt_of_le HB.out K2.out.size) HN).mono ?_; rintro e w3 ⟨rfl, k3⟩; replace C0 : Hid (CfC w.heap.size K M S W P X R w3) := C0.out.keeps k3 (fun x => x); replace D0 : Hid (D4C (w.heap.size + 1) w3) := D0.out.keeps k3 (fun x => x); have K3 : Hid (Keeps NoB w w3) := K2.out.trans k3; clear k3) | (go_at_call 90; refine (datagram_any s bx cx _ (by omega) (fun i hi => (K3.out.cell (a := ⟨bx, i, none⟩) HB.out (fun x => x)).trans (HC.out i hi)) hcx (Nat.lt_of_lt_of_le HB.out K3.out.size) z1).mono ?_; rintro e w4 ⟨v4, rfl, n4⟩; obtain ⟨gx, cgx, hv4⟩ := n4.shape (extract_sz s HN); subst hv4; have N4 : Hid (NewRow w3 (s.extract 15 (s.size - 4)) (.slice (some ⟨gx, 0, none⟩) (s.size - 19) cgx) w4) := n4; replace C0 : Hid (CfC w.heap.size K M S W P X R w4) := C0.out.keeps n4.kept (fun x => x); have D4 : Hid (D4C (w.heap.size + 1) w4) := D0.out.keeps n4.kept (fun x => x); have K4 : Hid (Keeps NoB w w4) := K3.out.trans n4.kept; clear n4))
  obtain ⟨w5, hw5, d5, k5⟩ := dg_laid w4 (.int .i64 ((valOf s.data.toList 2 4 : Nat) : Int)) (.int .i64 (byteI s 6)) (.int .i64 ((valOf s.data.toList 11 4 : Nat) : Int)) (.slice (some ⟨gx, 0, none⟩) (s.size - 19) cgx) 112
  rw [hw5]
  have c5 := C0.out.keeps k5.out (fun x => x)
  unfold CfC at c5
  have d5' := d5.out
  unfold DgC at d5'
  clear hw5 c0 c2
  go_wp2_with (go_at_call 91; refine (fits_any _ _ _ _ _ _ _ _ _ _ _ _ _ _ HR.out).mono ?_; rintro e w6 ⟨rfl, k6⟩; have D6 := (D4.out.keeps k5.out (fun x => x)).keeps k6 (fun x => x); unfold D4C at D6; have K6 : Hid (Keeps NoB w w6) := (K4.out.trans k5.out).trans k6; clear k6)
  exact bodyPost_ret (v := .tuple #[.agg #[.int .i64 0, .int .i64 0, .int .i64 0, .slice none 0 0], .int .i64 5]) (by simp [results, Tryz.results49, go_sem, D6]) rfl ⟨rfl, keeps_set4 (Nat.le_succ _) K6.out⟩
set_option maxRecDepth 20000 in
set_option maxHeartbeats 4000000 in
theorem wget_yes (K M S W P X R : Int) (s : ByteArray) (bx cx : Nat) (w : World) (hz : s.size ≤ 281474976710656) (hc : ∀ i, i < s.size → w.cell? ⟨bx, i, none⟩ = some (byteAt s i)) (hcx : s.size ≤ cx) (hbx : bx < w.heap.size) (he : getE K M S W P X R s = 0) :
    Calls Tryz.prog 49 #[.agg #[.int .i64 K, .int .i64 M, .int .i64 S, .int .i64 W, .int .i64 P, .int .i64 X, .int .i64 R], .slice (some ⟨bx, 0, none⟩) s.size cx] w fun e w' => ∃ v, e = .returned (.tuple #[.agg #[.int .i64 ((valOf s.data.toList 2 4 : Nat) : Int), .int .i64 (byteI s 6), .int .i64 ((valOf s.data.toList 11 4 : Nat) : Int), v], .int .i64 0]) ∧ NewRow w (s.extract 15 (s.size - 4)) v w' := by
  rw [getE_steps] at he
  have HC : Hid (∀ i, i < s.size → w.cell? ⟨bx, i, none⟩ = some (byteAt s i)) := hc
  have HB : Hid (bx < w.heap.size) := hbx
  obtain ⟨w0, hw0, C0, D0, K0⟩ := get_start w K M S W P X R 37 112
  have W0 : Hid (_ = w0) := hw0
  have c0 := C0.out
  unfold CfC at c0
  clear hc hbx hw0
  by_cases hr : rightB K M S W P X R = false
  · rw [if_pos hr] at he; omega
  rw [if_neg hr] at he
  replace hr : rightB K M S W P X R = true := by simpa using hr
  by_cases hf : frameB s = false
  · rw [if_pos hf] at he; omega
  rw [if_neg hf] at he
  replace hf : frameB s = true := by simpa using hf
  have HN := frame_size hf
  by_cases hm : mineB K M S s = false
  · rw [if_pos hm] at he; omega
  rw [if_neg hm] at he
  replace hm : mineB K M S s = true := by simpa using hm
  obtain ⟨_, _, _, _, s1, s2, _, _⟩ := right_bd hr
  obtain ⟨z1, z2⟩ := mine_size hm hf s1 s2
  have HR : Hid (rightB K M S W P X R = true) := hr
  by_cases ht : fitB K M S ((valOf s.data.toList 2 4 : Nat) : Int) (byteI s 6) ((valOf s.data.toList 11 4 : Nat) : Int) (s.size - 19) = false
  · rw [if_pos ht] at he; omega
  replace ht : fitB K M S ((valOf s.data.toList 2 4 : Nat) : Int) (byteI s 6) ((valOf s.data.toList 11 4 : Nat) : Int) (s.size - 19) = true := by simpa using ht
  clear he
  go_enter Tryz.func49, Tryz.ntmps49
  go_upto_region 1 with fail
  rw [W0.out]
  go_upto_region 8 with (first | (go_at_call 47; refine (right_any _ _ _ _ _ _ _ _).mono ?_; rintro e w1 ⟨rfl, k1⟩; have K1 : Hid (Keeps NoB w w1) := K0.out.trans k1; replace D0 : Hid (D4C (w.heap.size + 1) w1) := D0.out.keeps k1 (fun x => x); replace C0 : Hid (CfC w.heap.size K M S W P X R w1) := C0.out.keeps k1 (fun x => x); clear k1) | (go_at_call 88; refine (framed_any s bx cx _ hz (fun i hi => (K1.out.cell (a := ⟨bx, i, none⟩) HB.out (fun x => x)).trans (HC.out i hi)) hcx).mono ?_; rintro e w2 ⟨rfl, k2⟩; have c2 := C0.out.keeps k2 (fun x => x); replace C0 : Hid (CfC w.heap.size K M S W P X R w2) := c2; unfold CfC at c2; replace D0 : Hid (D4C (w.heap.size + 1) w2) := D0.out.keeps k2 (fun x => x); have K2 : Hid (Keeps NoB w w2) := K1.out.trans k2; clear k2) | (go_at_call 89; refine (ofstream_any _ _ _ _ _ _ _ s bx cx _ hz (fun i hi => (K2.out.cell (a := ⟨bx, i, none⟩) HB.out (fun x => x)).trans (HC.out i hi)) hcx (Nat.lt_of_lt_of_le HB.out K2.out.size) HN).mono ?_; rintro e w3 ⟨rfl, k3⟩; replace C0 : Hid (CfC w.heap.size K M S W P X R w3) := C0.out.keeps k3 (fun x => x); replace D0 : Hid (D4C (w.heap.size + 1) w3) := D0.out.keeps k3 (fun x => x); have K3 : Hid (Keeps NoB w w3) := K2.out.trans k3; clear k3) | (go_at_call 90; refine (datagram_any s bx cx _ (by omega) (fun i hi => (K3.out.cell (a := ⟨bx, i, none⟩) HB.out (fun x => x)).trans (HC.out i hi)) hcx (Nat.lt_of_lt_of_le HB.out K3.out.size) z1).mono ?_; rintro e w4 ⟨v4, rfl, n4⟩; obtain ⟨gx, cgx, hv4⟩ := n4.shape (extract_sz s HN); subst hv4; have N4 : Hid (NewRow w3 (s.extract 15 (s.size - 4)) (.slice (some ⟨gx, 0, none⟩) (s.size - 19) cgx) w4) := n4; replace C0 : Hid (CfC w.heap.size K M S W P X R w4) := C0.out.keeps n4.kept (fun x => x); have D4 : Hid (D4C (w.heap.size + 1) w4) := D0.out.keeps n4.kept (fun x => x); have K4 : Hid (Keeps NoB w w4) := K3.out.trans n4.kept; clear n4))
  obtain ⟨w5, hw5, d5, k5⟩ := dg_laid w4 (.int .i64 ((valOf s.data.toList 2 4 : Nat) : Int)) (.int .i64 (byteI s 6)) (.int .i64 ((valOf s.data.toList 11 4 : Nat) : Int)) (.slice (some ⟨gx, 0, none⟩) (s.size - 19) cgx) 112
  rw [hw5]
  have c5 := C0.out.keeps k5.out (fun x => x)
  unfold CfC at c5
  have d5' := d5.out
  unfold DgC at d5'
  clear hw5 c0 c2
  go_wp2_with (go_at_call 91; refine (fits_any _ _ _ _ _ _ _ _ _ _ _ _ _ _ HR.out).mono ?_; rintro e w6 ⟨rfl, k6⟩; have D6 := (D4.out.keeps k5.out (fun x => x)).keeps k6 (fun x => x); unfold D4C at D6; have d6 := d5.out.keeps k6 (fun x => x); unfold DgC at d6; have N6 : Hid (NewRow w3 (s.extract 15 (s.size - 4)) (.slice (some ⟨gx, 0, none⟩) (s.size - 19) cgx) w6) := (N4.out.on k5.out).on k6; clear k6)
  exact bodyPost_ret (v := .tuple #[.agg #[.int .i64 ((valOf s.data.toList 2 4 : Nat) : Int), .int .i64 (byteI s 6), .int .i64 ((valOf s.data.toList 11 4 : Nat) : Int), .slice (some ⟨gx, 0, none⟩) (s.size - 19) cgx], .int .i64 0]) (by simp [results, Tryz.results49, go_sem, D6]) rfl ⟨_, rfl, N6.out.set4 K3.out (Nat.le_succ _) D0.out.lt⟩
end Go.Proofs.YtgchiamkeeljkaaGreatDoor
