/-
  weave.Put, whole.
-/
import Derived.Test.YtgchiamkeeljkaaGreatDoorWfrm
namespace Go.Proofs.YtgchiamkeeljkaaGreatDoor
open Go Go.RowKit

/-- The seven cells of a configuration that was laid, and the four of a datagram. -/
def CfC (bc : Nat) (K M S W P X R : Int) (w : World) : Prop := w.cell? ⟨bc, 0, none⟩ = some (.int .i64 K) ∧ w.cell? ⟨bc, 1, none⟩ = some (.int .i64 M) ∧ w.cell? ⟨bc, 2, none⟩ = some (.int .i64 S) ∧ w.cell? ⟨bc, 3, none⟩ = some (.int .i64 W) ∧ w.cell? ⟨bc, 4, none⟩ = some (.int .i64 P) ∧ w.cell? ⟨bc, 5, none⟩ = some (.int .i64 X) ∧ w.cell? ⟨bc, 6, none⟩ = some (.int .i64 R)
def DgC (bd : Nat) (x y z v : Value) (w : World) : Prop := w.cell? ⟨bd, 0, none⟩ = some x ∧ w.cell? ⟨bd, 1, none⟩ = some y ∧ w.cell? ⟨bd, 2, none⟩ = some z ∧ w.cell? ⟨bd, 3, none⟩ = some v
theorem CfC.keeps {Q : Nat → Prop} {bc : Nat} {K M S W P X R : Int} {w w' : World} (h : CfC bc K M S W P X R w) (q : Keeps Q w w') (h1 : ¬ Q bc) : CfC bc K M S W P X R w' := by
  obtain ⟨a0, a1, a2, a3, a4, a5, a6⟩ := h
  have l1 := World.block_lt_of_cell? w _ a0
  exact ⟨(q.cell (a := ⟨bc, 0, none⟩) l1 h1).trans a0, (q.cell (a := ⟨bc, 1, none⟩) l1 h1).trans a1, (q.cell (a := ⟨bc, 2, none⟩) l1 h1).trans a2, (q.cell (a := ⟨bc, 3, none⟩) l1 h1).trans a3, (q.cell (a := ⟨bc, 4, none⟩) l1 h1).trans a4, (q.cell (a := ⟨bc, 5, none⟩) l1 h1).trans a5, (q.cell (a := ⟨bc, 6, none⟩) l1 h1).trans a6⟩
theorem DgC.keeps {Q : Nat → Prop} {bd : Nat} {x y z v : Value} {w w' : World} (h : DgC bd x y z v w) (q : Keeps Q w w') (h1 : ¬ Q bd) : DgC bd x y z v w' := by
  obtain ⟨a0, a1, a2, a3⟩ := h
  have l1 := World.block_lt_of_cell? w _ a0
  exact ⟨(q.cell (a := ⟨bd, 0, none⟩) l1 h1).trans a0, (q.cell (a := ⟨bd, 1, none⟩) l1 h1).trans a1, (q.cell (a := ⟨bd, 2, none⟩) l1 h1).trans a2, (q.cell (a := ⟨bd, 3, none⟩) l1 h1).trans a3⟩
theorem CfC.new (w : World) (K M S W P X R : Int) (t : TypeId) : CfC w.heap.size K M S W P X R (w.alloc (.cells #[.int .i64 K, .int .i64 M, .int .i64 S, .int .i64 W, .int .i64 P, .int .i64 X, .int .i64 R] t)) :=
  ⟨wcells_new rfl, wcells_new rfl, wcells_new rfl, wcells_new rfl, wcells_new rfl, wcells_new rfl, wcells_new rfl⟩
theorem DgC.new (w : World) (x y z v : Value) (t : TypeId) : DgC w.heap.size x y z v (w.alloc (.cells #[x, y, z, v] t)) :=
  ⟨wcells_new rfl, wcells_new rfl, wcells_new rfl, wcells_new rfl⟩
theorem two_start (w : World) (K M S W P X R : Int) (x y z v : Value) (t u : TypeId) :
    ∃ w0, ((w.alloc (.cells #[.int .i64 K, .int .i64 M, .int .i64 S, .int .i64 W, .int .i64 P, .int .i64 X, .int .i64 R] t)).alloc (.cells #[x, y, z, v] u)) = w0 ∧ CfC w.heap.size K M S W P X R w0 ∧ DgC (w.heap.size + 1) x y z v w0 ∧ Keeps NoB w w0 ∧ w0.heap.size = w.heap.size + 2 := by
  refine ⟨_, rfl, (CfC.new w K M S W P X R t).keeps (wkeeps _ _) (fun x => x), ?_, (wkeeps _ _).trans (wkeeps _ _), by simp⟩
  have := DgC.new (w.alloc (.cells #[.int .i64 K, .int .i64 M, .int .i64 S, .int .i64 W, .int .i64 P, .int .i64 X, .int .i64 R] t)) x y z v u
  rwa [show (w.alloc (.cells #[.int .i64 K, .int .i64 M, .int .i64 S, .int .i64 W, .int .i64 P, .int .i64 X, .int .i64 R] t)).heap.size = w.heap.size + 1 by simp] at this
set_option maxRecDepth 20000 in
set_option maxHeartbeats 4000000 in
theorem wput_yes (K M S W P X R B I N : Int) (s : ByteArray) (bx cx : Nat) (w : World) (hcell : ∀ i, i < s.size → w.cell? ⟨bx, i, none⟩ = some (byteAt s i)) (hbx : bx < w.heap.size) (hp : putB K M S W P X R B I N s = true) :
    Calls Tryz.prog 78 #[.agg #[.int .i64 K, .int .i64 M, .int .i64 S, .int .i64 W, .int .i64 P, .int .i64 X, .int .i64 R], .agg #[.int .i64 B, .int .i64 I, .int .i64 N, .slice (some ⟨bx, 0, none⟩) s.size cx]] w fun e w' => ∃ v, e = .returned (.tuple #[v, .int .i64 0]) ∧ NewRow w (putS K M S B I N s) v w' := by
  have hp' := hp
  rw [put_fit, Bool.and_eq_true] at hp'
  obtain ⟨hr, hf⟩ := hp'
  have HP : Hid (putB K M S W P X R B I N s = true) := hp
  have HR : Hid (rightB K M S W P X R = true) := hr
  have HC : Hid (∀ i, i < s.size → w.cell? ⟨bx, i, none⟩ = some (byteAt s i)) := hcell
  have HB : Hid (bx < w.heap.size) := hbx
  clear hp hcell hbx
  go_enter Tryz.func78, Tryz.ntmps78
  go_upto_region 1 with fail
  obtain ⟨w0, hw0, c0, d0, k0, z0⟩ := two_start w K M S W P X R (.int .i64 B) (.int .i64 I) (.int .i64 N) (.slice (some ⟨bx, 0, none⟩) s.size cx) 37 112
  rw [hw0]
  have C0 : Hid (CfC w.heap.size K M S W P X R w0) := c0
  have D0 : Hid (DgC (w.heap.size + 1) (.int .i64 B) (.int .i64 I) (.int .i64 N) (.slice (some ⟨bx, 0, none⟩) s.size cx) w0) := d0
  have K0 : Hid (Keeps NoB w w0) := k0
  clear hw0 k0 z0
  unfold CfC at c0
  unfold DgC at d0
  go_upto_region 3 with (first | (go_at_call 47; refine (right_any _ _ _ _ _ _ _ _).mono ?_; rintro e w1 ⟨rfl, k1⟩; have c1 := C0.out.keeps k1 (fun x => x); have d1 := D0.out.keeps k1 (fun x => x); have C1 : Hid (CfC w.heap.size K M S W P X R w1) := c1; have D1 : Hid (DgC (w.heap.size + 1) (.int .i64 B) (.int .i64 I) (.int .i64 N) (.slice (some ⟨bx, 0, none⟩) s.size cx) w1) := d1; have K1 : Hid (Keeps NoB w w1) := K0.out.trans k1; clear k1; unfold CfC at c1; unfold DgC at d1) | (go_at_call 91; refine (fits_any _ _ _ _ _ _ _ _ _ _ _ _ _ _ HR.out).mono ?_; rintro e w2 ⟨rfl, k2⟩; have c2 := C1.out.keeps k2 (fun x => x); have d2 := D1.out.keeps k2 (fun x => x); have K2 : Hid (Keeps NoB w w2) := K1.out.trans k2; clear k2; unfold CfC at c2; unfold DgC at d2))
  go_wp2_with (go_at_call 46; refine (frame_any _ _ _ _ _ _ _ _ _ _ s bx cx _ HP.out (fun i hi => (K2.out.cell (a := ⟨bx, i, none⟩) HB.out (fun x => x)).trans (HC.out i hi)) (Nat.lt_of_lt_of_le HB.out K2.out.size)).mono ?_; rintro e w3 ⟨v3, rfl, n3⟩; have N3 : Hid (NewRow w2 (putS K M S B I N s) v3 w3) := n3; clear n3)
  go_ret2
  obtain ⟨g, c, m, f, e1, e2, e3, e4, e5, e6, e7, e8⟩ := N3.out
  exact ⟨v3, rfl, g, c, m, f, e1, Nat.le_trans K2.out.size e2, e3, e4, e5, e6, e7, K2.out.trans e8⟩
set_option maxRecDepth 20000 in
set_option maxHeartbeats 4000000 in
theorem wput_no (K M S W P X R B I N : Int) (s : ByteArray) (a : Option Addr) (cx : Nat) (w : World) (hp : putB K M S W P X R B I N s = false) :
    Calls Tryz.prog 78 #[.agg #[.int .i64 K, .int .i64 M, .int .i64 S, .int .i64 W, .int .i64 P, .int .i64 X, .int .i64 R], .agg #[.int .i64 B, .int .i64 I, .int .i64 N, .slice a s.size cx]] w fun e w' => e = .returned (.tuple #[.slice none 0 0, .int .i64 1]) ∧ Keeps NoB w w' := by
  rw [put_fit] at hp
  obtain ⟨w0, hw0, c0, d0, k0, z0⟩ := two_start w K M S W P X R (.int .i64 B) (.int .i64 I) (.int .i64 N) (.slice a s.size cx) 37 112
  have C0 : Hid (CfC w.heap.size K M S W P X R w0) := c0
  have D0 : Hid (DgC (w.heap.size + 1) (.int .i64 B) (.int .i64 I) (.int .i64 N) (.slice a s.size cx) w0) := d0
  have K0 : Hid (Keeps NoB w w0) := k0
  have W0 : Hid (_ = w0) := hw0
  clear hw0 k0 z0
  unfold CfC at c0
  unfold DgC at d0
  by_cases hr : rightB K M S W P X R = true
  · have hf : fitB K M S B I N s.size = false := by simpa [hr] using hp
    have HR : Hid (rightB K M S W P X R = true) := hr
    clear hp
    go_enter Tryz.func78, Tryz.ntmps78
    go_upto_region 1 with fail
    rw [W0.out]
    go_wp2_with (first | (go_at_call 47; refine (right_any _ _ _ _ _ _ _ _).mono ?_; rintro e w1 ⟨rfl, k1⟩; have c1 := C0.out.keeps k1 (fun x => x); have d1 := D0.out.keeps k1 (fun x => x); have K1 : Hid (Keeps NoB w w1) := K0.out.trans k1; clear k1; unfold CfC at c1; unfold DgC at d1) | (go_at_call 91; refine (fits_any _ _ _ _ _ _ _ _ _ _ _ _ _ _ HR.out).mono ?_; rintro e w2 ⟨rfl, k2⟩; have K2 : Hid (Keeps NoB w w2) := K1.out.trans k2; clear k2))
    go_ret2
    exact ⟨rfl, K2.out⟩
  · replace hr : rightB K M S W P X R = false := by simpa using hr
    clear hp
    go_enter Tryz.func78, Tryz.ntmps78
    go_upto_region 1 with fail
    rw [W0.out]
    go_wp2_with (go_at_call 47; refine (right_any _ _ _ _ _ _ _ _).mono ?_; rintro e w1 ⟨rfl, k1⟩; have K1 : Hid (Keeps NoB w w1) := K0.out.trans k1; clear k1)
    go_ret2
    exact ⟨rfl, K1.out⟩
end Go.Proofs.YtgchiamkeeljkaaGreatDoor
