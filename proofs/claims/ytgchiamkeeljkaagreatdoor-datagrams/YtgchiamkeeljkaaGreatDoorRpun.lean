/-
  The document's datagrams (package weaveref): Put, where it may not be.
-/
import Derived.Test.YtgchiamkeeljkaaGreatDoorRpuw
namespace Go.Proofs.YtgchiamkeeljkaaGreatDoor
open Go Go.RowKit

theorem empty_str : (ByteArray.empty) = ⟨#[]⟩ := rfl
set_option maxRecDepth 20000 in
set_option maxHeartbeats 4000000 in
theorem refput_no (K M S W P X R B I N : Int) (s : ByteArray) (w : World) (hp : putB K M S W P X R B I N s = false) :
    Calls Tryz.prog 79 #[.agg #[.int .i64 K, .int .i64 M, .int .i64 S, .int .i64 W, .int .i64 P, .int .i64 X, .int .i64 R], .agg #[.int .i64 B, .int .i64 I, .int .i64 N, .string s]] w fun e w' => e = .returned (.tuple #[.string ⟨#[]⟩, .int .i64 1]) ∧ Keeps NoB w w' := by
  by_cases hr : rightB K M S W P X R = true
  · obtain ⟨k1, k2, m1, m2, s1, s2, p1, p2⟩ := right_bd hr
    have hq : ¬ (0 ≤ B ∧ B ≤ 2147483647 ∧ 0 ≤ I ∧ I < K + M ∧ 0 ≤ N ∧ N ≤ K * S ∧ (s.size : Int) = S) := by
      have := hp
      rw [putB, hr, Bool.true_and] at this
      exact of_decide_eq_false this
    have HQ : Hid (¬ (0 ≤ B ∧ B ≤ 2147483647 ∧ 0 ≤ I ∧ I < K + M ∧ 0 ≤ N ∧ N ≤ K * S ∧ (s.size : Int) = S)) := hq
    clear hp hq
    by_cases c0 : B < 0
    · clear HQ
      go_enter Tryz.func79, Tryz.ntmps79
      go_wp2_with (go_at_call 119; refine (refright_any _ _ _ _ _ _ _ _).mono ?_; rintro e w1 ⟨rfl, kx⟩; have K1 : Hid (Keeps NoB _ w1) := kx; have sw := put_keeps (bc := w.heap.size) (bd := w.heap.size + 1) (k := .int .i64 K) (m := .int .i64 M) (z := .int .i64 S) (b := .int .i64 B) (i := .int .i64 I) (n := .int .i64 N) (s := .string s) (by refine ⟨?_, ?_, ?_, ?_, ?_, ?_, ?_⟩ <;> simp [World.cell?_alloc_past, World.cell?_alloc_at]) kx (fun x => x) (fun x => x); clear kx)
      go_ret2
      exact ⟨rfl, (((Keeps.refl NoB w).alloc _).alloc _).trans K1.out⟩
    by_cases c1 : 2147483647 < B
    · clear HQ
      go_enter Tryz.func79, Tryz.ntmps79
      go_wp2_with (go_at_call 119; refine (refright_any _ _ _ _ _ _ _ _).mono ?_; rintro e w1 ⟨rfl, kx⟩; have K1 : Hid (Keeps NoB _ w1) := kx; have sw := put_keeps (bc := w.heap.size) (bd := w.heap.size + 1) (k := .int .i64 K) (m := .int .i64 M) (z := .int .i64 S) (b := .int .i64 B) (i := .int .i64 I) (n := .int .i64 N) (s := .string s) (by refine ⟨?_, ?_, ?_, ?_, ?_, ?_, ?_⟩ <;> simp [World.cell?_alloc_past, World.cell?_alloc_at]) kx (fun x => x) (fun x => x); clear kx)
      go_ret2
      exact ⟨rfl, (((Keeps.refl NoB w).alloc _).alloc _).trans K1.out⟩
    by_cases c2 : I < 0
    · clear HQ
      go_enter Tryz.func79, Tryz.ntmps79
      go_wp2_with (go_at_call 119; refine (refright_any _ _ _ _ _ _ _ _).mono ?_; rintro e w1 ⟨rfl, kx⟩; have K1 : Hid (Keeps NoB _ w1) := kx; have sw := put_keeps (bc := w.heap.size) (bd := w.heap.size + 1) (k := .int .i64 K) (m := .int .i64 M) (z := .int .i64 S) (b := .int .i64 B) (i := .int .i64 I) (n := .int .i64 N) (s := .string s) (by refine ⟨?_, ?_, ?_, ?_, ?_, ?_, ?_⟩ <;> simp [World.cell?_alloc_past, World.cell?_alloc_at]) kx (fun x => x) (fun x => x); clear kx)
      go_ret2
      exact ⟨rfl, (((Keeps.refl NoB w).alloc _).alloc _).trans K1.out⟩
    by_cases c3 : K + M ≤ I
    · clear HQ
      go_enter Tryz.func79, Tryz.ntmps79
      go_wp2_with (go_at_call 119; refine (refright_any _ _ _ _ _ _ _ _).mono ?_; rintro e w1 ⟨rfl, kx⟩; have K1 : Hid (Keeps NoB _ w1) := kx; have sw := put_keeps (bc := w.heap.size) (bd := w.heap.size + 1) (k := .int .i64 K) (m := .int .i64 M) (z := .int .i64 S) (b := .int .i64 B) (i := .int .i64 I) (n := .int .i64 N) (s := .string s) (by refine ⟨?_, ?_, ?_, ?_, ?_, ?_, ?_⟩ <;> simp [World.cell?_alloc_past, World.cell?_alloc_at]) kx (fun x => x) (fun x => x); clear kx)
      go_ret2
      exact ⟨rfl, (((Keeps.refl NoB w).alloc _).alloc _).trans K1.out⟩
    by_cases c4 : N < 0
    · clear HQ
      go_enter Tryz.func79, Tryz.ntmps79
      go_wp2_with (go_at_call 119; refine (refright_any _ _ _ _ _ _ _ _).mono ?_; rintro e w1 ⟨rfl, kx⟩; have K1 : Hid (Keeps NoB _ w1) := kx; have sw := put_keeps (bc := w.heap.size) (bd := w.heap.size + 1) (k := .int .i64 K) (m := .int .i64 M) (z := .int .i64 S) (b := .int .i64 B) (i := .int .i64 I) (n := .int .i64 N) (s := .string s) (by refine ⟨?_, ?_, ?_, ?_, ?_, ?_, ?_⟩ <;> simp [World.cell?_alloc_past, World.cell?_alloc_at]) kx (fun x => x) (fun x => x); clear kx)
      go_ret2
      exact ⟨rfl, (((Keeps.refl NoB w).alloc _).alloc _).trans K1.out⟩
    by_cases c5 : K * S < N
    · clear HQ
      go_enter Tryz.func79, Tryz.ntmps79
      go_wp2_with (go_at_call 119; refine (refright_any _ _ _ _ _ _ _ _).mono ?_; rintro e w1 ⟨rfl, kx⟩; have K1 : Hid (Keeps NoB _ w1) := kx; have sw := put_keeps (bc := w.heap.size) (bd := w.heap.size + 1) (k := .int .i64 K) (m := .int .i64 M) (z := .int .i64 S) (b := .int .i64 B) (i := .int .i64 I) (n := .int .i64 N) (s := .string s) (by refine ⟨?_, ?_, ?_, ?_, ?_, ?_, ?_⟩ <;> simp [World.cell?_alloc_past, World.cell?_alloc_at]) kx (fun x => x) (fun x => x); clear kx)
      go_ret2
      exact ⟨rfl, (((Keeps.refl NoB w).alloc _).alloc _).trans K1.out⟩
    have hz : ((s.size : Int) != S) = true := by
      have := HQ.out
      simp only [bne_iff_ne, ne_eq]
      intro e
      exact this ⟨by omega, by omega, by omega, by omega, by omega, by omega, e⟩
    clear HQ
    go_enter Tryz.func79, Tryz.ntmps79
    go_wp2_with (go_at_call 119; refine (refright_any _ _ _ _ _ _ _ _).mono ?_; rintro e w1 ⟨rfl, kx⟩; have K1 : Hid (Keeps NoB _ w1) := kx; have sw := put_keeps (bc := w.heap.size) (bd := w.heap.size + 1) (k := .int .i64 K) (m := .int .i64 M) (z := .int .i64 S) (b := .int .i64 B) (i := .int .i64 I) (n := .int .i64 N) (s := .string s) (by refine ⟨?_, ?_, ?_, ?_, ?_, ?_, ?_⟩ <;> simp [World.cell?_alloc_past, World.cell?_alloc_at]) kx (fun x => x) (fun x => x); clear kx)
    go_ret2
    exact ⟨rfl, (((Keeps.refl NoB w).alloc _).alloc _).trans K1.out⟩
  · have hr' : rightB K M S W P X R = false := by simpa using hr
    clear hr hp
    go_enter Tryz.func79, Tryz.ntmps79
    go_wp2_with (go_at_call 119; refine (refright_any _ _ _ _ _ _ _ _).mono ?_; rintro e w1 ⟨rfl, kx⟩; have K1 : Hid (Keeps NoB _ w1) := kx; have sw := put_keeps (bc := w.heap.size) (bd := w.heap.size + 1) (k := .int .i64 K) (m := .int .i64 M) (z := .int .i64 S) (b := .int .i64 B) (i := .int .i64 I) (n := .int .i64 N) (s := .string s) (by refine ⟨?_, ?_, ?_, ?_, ?_, ?_, ?_⟩ <;> simp [World.cell?_alloc_past, World.cell?_alloc_at]) kx (fun x => x) (fun x => x); clear kx)
    go_ret2
    exact ⟨rfl, (((Keeps.refl NoB w).alloc _).alloc _).trans K1.out⟩
end Go.Proofs.YtgchiamkeeljkaaGreatDoor
