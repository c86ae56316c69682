/-
  weavekeep.pick, config: what Told and its fellows make of raw numbers.
-/
import Derived.Test.YtgchiamkeeljkaaRows
import Derived.Test.YtgchiamkeeljkaaNum
import Derived.Test.YtgchiamkeeljkaaRmat
import Derived.Deep.RegionHeld3
import Derived.Laws.ResultCell
import Derived.Deep.CutRange
namespace Go.Proofs.Ytgchiamkeeljkaa
open Go Go.RowKit

theorem retk_num {a b : Int} (h : a = b) : Ending.returned (.int .i64 a) = .returned (.int .i64 b) := by rw [h]
def pkkN (x : Int) (n : Nat) : Nat := (pkI x n).toNat
theorem pkkN_lt (x : Int) (n : Nat) (h : 1 ≤ n) : pkkN x n < n := by have := pk_bd x n (by omega); unfold pkkN; omega
theorem pickk_nat (x : Int) (n : Nat) (w : World) (w0 : (Lit.int .i64 x).wf = true) (h1 : 1 ≤ n) (h2 : n ≤ 140737488355328) :
    Calls Try.prog 6 #[.int .i64 x, .int .i64 n] w fun e w' => e = .returned (.int .i64 (pkkN x n : Nat)) ∧ w' = w := by
  have hb := pk_bd x n (by omega)
  have hz : ((n : Int) == 0) = false := by simp; omega
  have hnz : (n : Int) ≠ 0 := by omega
  by_cases h : x < 0
  · have HP : Hid ((wrap64 (-wrap64 (x + 1))).tmod n = (pkkN x n : Nat)) := by
      show _ = _
      rw [pk_neg x n h (bounds_i64 w0).1]
      unfold pkkN
      omega
    clear hb
    go_enter Try.func6, Try.ntmps6
    go_wp2
    go_ret
    exact ⟨retk_num HP.out, rfl⟩
  · have HP : Hid (x % n = (pkkN x n : Nat)) := by
      show _ = _
      rw [pk_pos x n h]
      unfold pkkN
      omega
    clear hb
    go_enter Try.func6, Try.ntmps6
    go_wp2
    go_ret
    exact ⟨retk_num HP.out, rfl⟩
/-- The same, the number a literal of int's. -/
theorem pickk_any (x m : Int) (w : World) (w0 : (Lit.int .i64 x).wf = true) (h1 : 1 ≤ m) (h2 : m ≤ 140737488355328) :
    Calls Try.prog 6 #[.int .i64 x, .int .i64 m] w fun e w' => e = .returned (.int .i64 (pkkN x m.toNat : Nat)) ∧ w' = w := by
  obtain ⟨n, rfl⟩ := Int.eq_ofNat_of_zero_le (by omega : 0 ≤ m)
  exact pickk_nat x n w w0 (by omega) (by omega)

theorem cellsk_new {w : World} {cs : Array Value} {t : TypeId} {j : Nat} {v : Value} (h : cs[j]? = some v) : (w.alloc (.cells cs t)).cell? ⟨w.heap.size, j, none⟩ = some v := by
  have hj : j < cs.size := by
    rcases Nat.lt_or_ge j cs.size with q | q
    · exact q
    · rw [Array.getElem?_eq_none q] at h; cases h
  unfold World.cell?
  rw [heap_alloc_new]
  simpa using h
theorem keepsk (w : World) (o : Obj) : Keeps NoB w (w.alloc o) := (Keeps.refl NoB w).alloc o
theorem cellk_past {w : World} {b j k : Nat} {u v : Value} (h : w.cell? ⟨b, j, none⟩ = some v) : (w.setCell ⟨b + 1, k, none⟩ u).cell? ⟨b, j, none⟩ = some v :=
  (World.cell?_setCell_far _ _ _ _ (by show b + 1 ≠ b; omega)).trans h
theorem seven_past0 {w : World} {b j : Nat} {v u0 u1 u2 u3 u4 u5 u6 : Value} (h : w.cell? ⟨b, j, none⟩ = some v) : (((((((w.setCell ⟨b + 1, 0, none⟩ u0).setCell ⟨b + 1, 1, none⟩ u1).setCell ⟨b + 1, 2, none⟩ u2).setCell ⟨b + 1, 3, none⟩ u3).setCell ⟨b + 1, 4, none⟩ u4).setCell ⟨b + 1, 5, none⟩ u5).setCell ⟨b + 1, 6, none⟩ u6).cell? ⟨b, j, none⟩ = some v :=
  cellk_past (cellk_past (cellk_past (cellk_past (cellk_past (cellk_past (cellk_past h))))))
theorem drewk (w : World) (a : Addr) : w.drew.cell? a = w.cell? a := rfl
theorem seven_past {w : World} {b j : Nat} {v u0 u1 u2 u3 u4 u5 u6 : Value} (h : w.cell? ⟨b, j, none⟩ = some v) : (((((((w.setCell ⟨b + 1, 0, none⟩ u0).setCell ⟨b + 1, 1, none⟩ u1).setCell ⟨b + 1, 2, none⟩ u2).setCell ⟨b + 1, 3, none⟩ u3).setCell ⟨b + 1, 4, none⟩ u4).setCell ⟨b + 1, 5, none⟩ u5).setCell ⟨b + 1, 6, none⟩ u6).drew.cell? ⟨b, j, none⟩ = some v := (drewk _ _).trans (seven_past0 h)
theorem keepsk7 {w w1 : World} {u0 u1 u2 u3 u4 u5 u6 : Value} (k : Keeps NoB w w1) : Keeps NoB w (((((((w1.setCell ⟨w.heap.size + 1, 0, none⟩ u0).setCell ⟨w.heap.size + 1, 1, none⟩ u1).setCell ⟨w.heap.size + 1, 2, none⟩ u2).setCell ⟨w.heap.size + 1, 3, none⟩ u3).setCell ⟨w.heap.size + 1, 4, none⟩ u4).setCell ⟨w.heap.size + 1, 5, none⟩ u5).setCell ⟨w.heap.size + 1, 6, none⟩ u6).drew :=
  (((((((k.setCell (a := ⟨w.heap.size + 1, 0, none⟩) (.inl (Nat.le_succ _)) _).setCell (a := ⟨w.heap.size + 1, 1, none⟩) (.inl (Nat.le_succ _)) _).setCell (a := ⟨w.heap.size + 1, 2, none⟩) (.inl (Nat.le_succ _)) _).setCell (a := ⟨w.heap.size + 1, 3, none⟩) (.inl (Nat.le_succ _)) _).setCell (a := ⟨w.heap.size + 1, 4, none⟩) (.inl (Nat.le_succ _)) _).setCell (a := ⟨w.heap.size + 1, 5, none⟩) (.inl (Nat.le_succ _)) _).setCell (a := ⟨w.heap.size + 1, 6, none⟩) (.inl (Nat.le_succ _)) _).drew
/-- What config makes. -/
def kK (a : Int) : Int := 1 + (pkkN a 6 : Nat)
def kM (a : Int) : Int := (pkkN a 7 : Nat)
def kS (a : Int) : Int := 1 + (pkkN a 40 : Nat)
def kW (a : Int) : Int := 1 + (pkkN a 16 : Nat)
def kR (a : Int) : Int := (pkkN a 17 : Nat)
theorem k_right (a b c d e f g : Int) : rightB (kK a) (kM b) (kS c) (kW d) (kW e) (kW f) (kR g) = true := by
  have h1 := pkkN_lt a 6 (by decide)
  have h2 := pkkN_lt b 7 (by decide)
  have h3 := pkkN_lt c 40 (by decide)
  have h4 := pkkN_lt d 16 (by decide)
  have h5 := pkkN_lt e 16 (by decide)
  have h6 := pkkN_lt f 16 (by decide)
  have h7 := pkkN_lt g 17 (by decide)
  unfold rightB kK kM kS kW kR
  refine decide_eq_true ?_
  omega
theorem one_pk (x : Int) (n : Nat) (h : 1 ≤ n) (h2 : n ≤ 1000) : IntKind.i64.wrap (1 + (pkkN x n : Int)) = 1 + (pkkN x n : Int) := by
  have := pkkN_lt x n h
  rw [IntWalk.i64_left]; exact IntWalk.wrap64_in _ (by omega)
set_option maxRecDepth 20000 in
set_option maxHeartbeats 4000000 in
theorem config_any (a b c d e f g : Int) (w : World) (wa : (Lit.int .i64 a).wf = true) (wb : (Lit.int .i64 b).wf = true) (wc : (Lit.int .i64 c).wf = true) (wd : (Lit.int .i64 d).wf = true) (we : (Lit.int .i64 e).wf = true) (wf' : (Lit.int .i64 f).wf = true) (wg : (Lit.int .i64 g).wf = true) :
    Calls Try.prog 4 #[.agg #[.int .i64 a, .int .i64 b, .int .i64 c, .int .i64 d, .int .i64 e, .int .i64 f, .int .i64 g]] w fun e' w' => e' = .returned (.agg #[.int .i64 (kK a), .int .i64 (kM b), .int .i64 (kS c), .int .i64 (kW d), .int .i64 (kW e), .int .i64 (kW f), .int .i64 (kR g)]) ∧ Keeps NoB w w' := by
  have p1 := one_pk a 6 (by decide) (by decide)
  have p3 := one_pk c 40 (by decide) (by decide)
  have p4 := one_pk d 16 (by decide) (by decide)
  have p5 := one_pk e 16 (by decide) (by decide)
  have p6 := one_pk f 16 (by decide) (by decide)
  go_enter Try.func4, Try.ntmps4
  go_upto_region 1 with fail
  obtain ⟨w0, hw0, s0, r0, k0⟩ : ∃ w0, ((w.alloc (.cells #[.int .i64 a, .int .i64 b, .int .i64 c, .int .i64 d, .int .i64 e, .int .i64 f, .int .i64 g] 23)).alloc (.cells #[.int .i64 0, .int .i64 0, .int .i64 0, .int .i64 0, .int .i64 0, .int .i64 0, .int .i64 0] 24)) = w0 ∧ (w0.cell? ⟨w.heap.size, 0, none⟩ = some (.int .i64 a) ∧ w0.cell? ⟨w.heap.size, 1, none⟩ = some (.int .i64 b) ∧ w0.cell? ⟨w.heap.size, 2, none⟩ = some (.int .i64 c) ∧ w0.cell? ⟨w.heap.size, 3, none⟩ = some (.int .i64 d) ∧ w0.cell? ⟨w.heap.size, 4, none⟩ = some (.int .i64 e) ∧ w0.cell? ⟨w.heap.size, 5, none⟩ = some (.int .i64 f) ∧ w0.cell? ⟨w.heap.size, 6, none⟩ = some (.int .i64 g)) ∧ w0.rowIs (w.heap.size + 1) 24 7 (fun _ => .int .i64 0) ∧ Keeps NoB w w0 := by
    refine ⟨_, rfl, ?_, ?_, ((Keeps.refl NoB w).alloc _).alloc _⟩
    · have m : ∀ j v, (#[.int .i64 a, .int .i64 b, .int .i64 c, .int .i64 d, .int .i64 e, .int .i64 f, .int .i64 g] : Array Value)[j]? = some v → ((w.alloc (.cells #[.int .i64 a, .int .i64 b, .int .i64 c, .int .i64 d, .int .i64 e, .int .i64 f, .int .i64 g] 23)).alloc (.cells #[.int .i64 0, .int .i64 0, .int .i64 0, .int .i64 0, .int .i64 0, .int .i64 0, .int .i64 0] 24)).cell? ⟨w.heap.size, j, none⟩ = some v := fun j v hv => by
        have h1 : (w.alloc (.cells #[.int .i64 a, .int .i64 b, .int .i64 c, .int .i64 d, .int .i64 e, .int .i64 f, .int .i64 g] 23)).cell? ⟨w.heap.size, j, none⟩ = some v := by
          exact cellsk_new hv
        exact ((keepsk (w.alloc (.cells #[.int .i64 a, .int .i64 b, .int .i64 c, .int .i64 d, .int .i64 e, .int .i64 f, .int .i64 g] 23)) _).cell (a := ⟨w.heap.size, j, none⟩) (by simp) (fun x => x)).trans h1
      exact ⟨m 0 _ rfl, m 1 _ rfl, m 2 _ rfl, m 3 _ rfl, m 4 _ rfl, m 5 _ rfl, m 6 _ rfl⟩
    · have := World.rowIs_alloc (w.alloc (.cells #[.int .i64 a, .int .i64 b, .int .i64 c, .int .i64 d, .int .i64 e, .int .i64 f, .int .i64 g] 23)) #[.int .i64 0, .int .i64 0, .int .i64 0, .int .i64 0, .int .i64 0, .int .i64 0, .int .i64 0] 24 (fun _ => .int .i64 0) (fun i hi => by
        match i, hi with
        | 0, _ => rfl
        | 1, _ => rfl
        | 2, _ => rfl
        | 3, _ => rfl
        | 4, _ => rfl
        | 5, _ => rfl
        | 6, _ => rfl)
      rw [show (w.alloc (.cells #[.int .i64 a, .int .i64 b, .int .i64 c, .int .i64 d, .int .i64 e, .int .i64 f, .int .i64 g] 23)).heap.size = w.heap.size + 1 by simp] at this
      exact this
  rw [hw0]
  have K0 : Hid (Keeps NoB w w0) := k0
  have R0 : Hid (w0.rowIs (w.heap.size + 1) 24 7 (fun _ => .int .i64 0)) := r0
  clear hw0 k0 r0
  have sd : w0.drew.cell? ⟨w.heap.size, 0, none⟩ = some (.int .i64 a) ∧ w0.drew.cell? ⟨w.heap.size, 1, none⟩ = some (.int .i64 b) ∧ w0.drew.cell? ⟨w.heap.size, 2, none⟩ = some (.int .i64 c) ∧ w0.drew.cell? ⟨w.heap.size, 3, none⟩ = some (.int .i64 d) ∧ w0.drew.cell? ⟨w.heap.size, 4, none⟩ = some (.int .i64 e) ∧ w0.drew.cell? ⟨w.heap.size, 5, none⟩ = some (.int .i64 f) ∧ w0.drew.cell? ⟨w.heap.size, 6, none⟩ = some (.int .i64 g) := s0
  have R1 : Hid (w0.drew.rowIs (w.heap.size + 1) 24 7 (fun _ => .int .i64 0)) := R0.out
  have xx0 : w0.cell? ⟨w.heap.size + 1, 0, none⟩ = some (.int .i64 0) := R0.out.cell (i := 0) (by decide)
  have yy0 : w0.frozen? ⟨w.heap.size + 1, 0, none⟩ = false := R0.out.frozen 0
  have xx1 : w0.cell? ⟨w.heap.size + 1, 1, none⟩ = some (.int .i64 0) := R0.out.cell (i := 1) (by decide)
  have yy1 : w0.frozen? ⟨w.heap.size + 1, 1, none⟩ = false := R0.out.frozen 1
  have xx2 : w0.cell? ⟨w.heap.size + 1, 2, none⟩ = some (.int .i64 0) := R0.out.cell (i := 2) (by decide)
  have yy2 : w0.frozen? ⟨w.heap.size + 1, 2, none⟩ = false := R0.out.frozen 2
  have xx3 : w0.cell? ⟨w.heap.size + 1, 3, none⟩ = some (.int .i64 0) := R0.out.cell (i := 3) (by decide)
  have yy3 : w0.frozen? ⟨w.heap.size + 1, 3, none⟩ = false := R0.out.frozen 3
  have xx4 : w0.cell? ⟨w.heap.size + 1, 4, none⟩ = some (.int .i64 0) := R0.out.cell (i := 4) (by decide)
  have yy4 : w0.frozen? ⟨w.heap.size + 1, 4, none⟩ = false := R0.out.frozen 4
  have xx5 : w0.cell? ⟨w.heap.size + 1, 5, none⟩ = some (.int .i64 0) := R0.out.cell (i := 5) (by decide)
  have yy5 : w0.frozen? ⟨w.heap.size + 1, 5, none⟩ = false := R0.out.frozen 5
  have xx6 : w0.cell? ⟨w.heap.size + 1, 6, none⟩ = some (.int .i64 0) := R0.out.cell (i := 6) (by decide)
  have yy6 : w0.frozen? ⟨w.heap.size + 1, 6, none⟩ = false := R0.out.frozen 6
  go_region_held3 (fun w' => w'.cell? ⟨w.heap.size, 0, none⟩ = some (.int .i64 a) ∧ w'.cell? ⟨w.heap.size, 1, none⟩ = some (.int .i64 b) ∧ w'.cell? ⟨w.heap.size, 2, none⟩ = some (.int .i64 c) ∧ w'.cell? ⟨w.heap.size, 3, none⟩ = some (.int .i64 d) ∧ w'.cell? ⟨w.heap.size, 4, none⟩ = some (.int .i64 e) ∧ w'.cell? ⟨w.heap.size, 5, none⟩ = some (.int .i64 f) ∧ w'.cell? ⟨w.heap.size, 6, none⟩ = some (.int .i64 g)) (first | (with_reducible exact sd) | (with_reducible exact ⟨seven_past s0.1, seven_past s0.2.1, seven_past s0.2.2.1, seven_past s0.2.2.2.1, seven_past s0.2.2.2.2.1, seven_past s0.2.2.2.2.2.1, seven_past s0.2.2.2.2.2.2⟩)) (first | (go_at_call 6; refine (pickk_any _ _ _ (by assumption) (by decide) (by decide)).mono ?_; rintro e wx ⟨rfl, hwx⟩; obtain rfl := hwx.symm))
  go_wp2
  exact bodyPost_ret (v := .agg #[.int .i64 (kK a), .int .i64 (kM b), .int .i64 (kS c), .int .i64 (kW d), .int .i64 (kW e), .int .i64 (kW f), .int .i64 (kR g)]) (by simp [results, Try.results4, go_sem, kK, kM, kS, kW, kR, xx0, xx1, xx2, xx3, xx4, xx5, xx6]) rfl ⟨rfl, keepsk7 K0.out⟩
end Go.Proofs.Ytgchiamkeeljkaa
