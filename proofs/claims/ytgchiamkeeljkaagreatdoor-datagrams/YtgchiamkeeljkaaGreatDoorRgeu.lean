/-
  The document's datagrams (package weaveref): Get, the rest: another stream's, what Put does not make, and the datagram.
-/
import Derived.Test.YtgchiamkeeljkaaGreatDoorRget
import Derived.Deep.QuietTactic
import Derived.BigQuiet
import Derived.Laws.ResultCell
import Derived.Deep.CutRange
namespace Go.Proofs.YtgchiamkeeljkaaGreatDoor
open Go Go.RowKit
def ResC (w : World) (K M S W P X R : Int) (w1 : World) : Prop := w1.cell? ⟨w.heap.size + 1, 0, none⟩ = some (.int .i64 0) ∧ w1.cell? ⟨w.heap.size + 1, 1, none⟩ = some (.int .i64 0) ∧ w1.cell? ⟨w.heap.size + 1, 2, none⟩ = some (.int .i64 0) ∧ w1.cell? ⟨w.heap.size + 1, 3, none⟩ = some (.string ⟨#[]⟩) ∧ w1.frozen? ⟨w.heap.size + 1, 0, none⟩ = false ∧ w1.frozen? ⟨w.heap.size + 1, 1, none⟩ = false ∧ w1.frozen? ⟨w.heap.size + 1, 2, none⟩ = false ∧ w1.frozen? ⟨w.heap.size + 1, 3, none⟩ = false ∧ w1.cell? ⟨w.heap.size, 0, none⟩ = some (.int .i64 K) ∧ w1.cell? ⟨w.heap.size, 1, none⟩ = some (.int .i64 M) ∧ w1.cell? ⟨w.heap.size, 2, none⟩ = some (.int .i64 S) ∧ w1.cell? ⟨w.heap.size, 3, none⟩ = some (.int .i64 W) ∧ w1.cell? ⟨w.heap.size, 4, none⟩ = some (.int .i64 P) ∧ w1.cell? ⟨w.heap.size, 5, none⟩ = some (.int .i64 X) ∧ w1.cell? ⟨w.heap.size, 6, none⟩ = some (.int .i64 R)
theorem next_world {w w1 : World} {K M S W P X R : Int} {n : Nat} (k : Hid (Keeps NoB w w1)) (rc : ResC w K M S W P X R w1) : ∃ w2, w1.drewN n = w2 ∧ Hid (Keeps NoB w w2) ∧ ResC w K M S W P X R w2 := ⟨_, rfl, k.out.drewN n, rc⟩
set_option maxRecDepth 20000 in
set_option maxHeartbeats 2000000 in
theorem refget_k (K M S W P X R : Int) (s : ByteArray) (w : World) (hr : rightB K M S W P X R = true) (hn : 19 ≤ s.size) (hz : s.size ≤ 281474976710656) (f0 : byteI s 0 = 87) (f1 : byteI s 1 = 1) (f2 : valOf s.data.toList 9 2 + 19 = s.size) (f3 : valOf s.data.toList (s.size - 4) 4 = sumOf (s.extract 0 (s.size - 4))) (f4 : ((valOf s.data.toList 7 1 : Nat) : Int) ≠ K) :
    Calls Tryz.prog 80 #[.agg #[.int .i64 K, .int .i64 M, .int .i64 S, .int .i64 W, .int .i64 P, .int .i64 X, .int .i64 R], .string s] w fun e w' => e = .returned (.tuple #[.agg #[.int .i64 0, .int .i64 0, .int .i64 0, .string ⟨#[]⟩], .int .i64 6]) ∧ Keeps NoB w w' := by
  have d1 : decide ((s.size : Int) < 19) = false := by simp; omega
  have g0 : 0 < s.size := Nat.lt_of_lt_of_le (by decide) hn
  have g1 : 1 < s.size := Nat.lt_of_lt_of_le (by decide) hn
  have h0 : ((s[0]'g0).toNat : Int) = byteI s 0 := byteI_at s 0 g0
  have h1 : ((s[1]'g1).toNat : Int) = byteI s 1 := byteI_at s 1 g1
  have i0 : (0 : Int) ≤ (s.size : Int) - 4 := by omega
  have i1 : (s.size : Int) - 4 ≤ (s.size : Int) := by omega
  have b1 : IntKind.i64.wrap ((s.size : Int) - 4) = (s.size : Int) - 4 := by rw [IntWalk.i64_left]; exact IntWalk.wrap64_in _ (by omega)
  have v9 := valOf_lt s.data.toList 9 2
  have b2 : IntKind.i64.wrap (((valOf s.data.toList 9 2 : Nat) : Int) + 19) = ((valOf s.data.toList 9 2 : Nat) : Int) + 19 := by rw [IntWalk.i64_left]; exact IntWalk.wrap64_in _ (by omega)
  clear v9
  have t0 : (byteI s 0 != 87) = false := by simp [f0]
  have t1 : (byteI s 1 != 1) = false := by simp [f1]
  have t2 : (((valOf s.data.toList 9 2 : Nat) : Int) + 19 != (s.size : Int)) = false := by simp; omega
  have t3 : (((valOf s.data.toList (s.size - 4) 4 : Nat) : Int) != ((sumOf (s.extract 0 (s.size - 4)) : Nat) : Int)) = false := by simp; omega
  have t4 : (((valOf s.data.toList 7 1 : Nat) : Int) != K) = true := by simp [f4]
  clear f0 f1 f2 f3 f4
  go_enter Tryz.func80, Tryz.ntmps80
  go_upto_region 5 with (go_at_call 119; refine (refright_any _ _ _ _ _ _ _ _).mono ?_; rintro e w1 ⟨rfl, kx⟩; have K1 : Hid (Keeps NoB w w1) := (((Keeps.refl NoB w).alloc _).alloc _).trans kx; have rc := res_cells kx; clear kx)
  go_quiet (first | (go_at_call 122; exact Calls.quiet_of_same (refvalueI _ _ _ _ (by omega) (by omega) (by omega) (by omega) hz)) | (go_at_call 121; exact Calls.quiet_of_same (refsum_any _ _ (by simp; omega))))
  go_upto_region 7 with fail
  obtain ⟨w2, hw2, K2, rc2⟩ := next_world (n := nq) K1 rc
  rw [hw2]
  clear hw2 rc K1
  unfold ResC at rc2
  go_quiet (first | (go_at_call 122; exact Calls.quiet_of_same (refvalueI _ _ _ _ (by omega) (by omega) (by omega) (by omega) hz)) | (go_at_call 121; exact Calls.quiet_of_same (refsum_any _ _ (by simp; omega))))
  go_wp2
  exact bodyPost_ret (v := .tuple #[.agg #[.int .i64 0, .int .i64 0, .int .i64 0, .string ⟨#[]⟩], .int .i64 6]) (by simp [results, Tryz.results80, go_sem, rc2]) rfl ⟨rfl, keeps4 (K2.out.drewN _)⟩
set_option maxRecDepth 20000 in
set_option maxHeartbeats 2000000 in
theorem refget_m (K M S W P X R : Int) (s : ByteArray) (w : World) (hr : rightB K M S W P X R = true) (hn : 19 ≤ s.size) (hz : s.size ≤ 281474976710656) (f0 : byteI s 0 = 87) (f1 : byteI s 1 = 1) (f2 : valOf s.data.toList 9 2 + 19 = s.size) (f3 : valOf s.data.toList (s.size - 4) 4 = sumOf (s.extract 0 (s.size - 4))) (f4 : ((valOf s.data.toList 7 1 : Nat) : Int) = K) (f5 : ((valOf s.data.toList 8 1 : Nat) : Int) ≠ M) :
    Calls Tryz.prog 80 #[.agg #[.int .i64 K, .int .i64 M, .int .i64 S, .int .i64 W, .int .i64 P, .int .i64 X, .int .i64 R], .string s] w fun e w' => e = .returned (.tuple #[.agg #[.int .i64 0, .int .i64 0, .int .i64 0, .string ⟨#[]⟩], .int .i64 6]) ∧ Keeps NoB w w' := by
  have d1 : decide ((s.size : Int) < 19) = false := by simp; omega
  have g0 : 0 < s.size := Nat.lt_of_lt_of_le (by decide) hn
  have g1 : 1 < s.size := Nat.lt_of_lt_of_le (by decide) hn
  have h0 : ((s[0]'g0).toNat : Int) = byteI s 0 := byteI_at s 0 g0
  have h1 : ((s[1]'g1).toNat : Int) = byteI s 1 := byteI_at s 1 g1
  have i0 : (0 : Int) ≤ (s.size : Int) - 4 := by omega
  have i1 : (s.size : Int) - 4 ≤ (s.size : Int) := by omega
  have b1 : IntKind.i64.wrap ((s.size : Int) - 4) = (s.size : Int) - 4 := by rw [IntWalk.i64_left]; exact IntWalk.wrap64_in _ (by omega)
  have v9 := valOf_lt s.data.toList 9 2
  have b2 : IntKind.i64.wrap (((valOf s.data.toList 9 2 : Nat) : Int) + 19) = ((valOf s.data.toList 9 2 : Nat) : Int) + 19 := by rw [IntWalk.i64_left]; exact IntWalk.wrap64_in _ (by omega)
  clear v9
  have t0 : (byteI s 0 != 87) = false := by simp [f0]
  have t1 : (byteI s 1 != 1) = false := by simp [f1]
  have t2 : (((valOf s.data.toList 9 2 : Nat) : Int) + 19 != (s.size : Int)) = false := by simp; omega
  have t3 : (((valOf s.data.toList (s.size - 4) 4 : Nat) : Int) != ((sumOf (s.extract 0 (s.size - 4)) : Nat) : Int)) = false := by simp; omega
  have t4 : (((valOf s.data.toList 7 1 : Nat) : Int) != K) = false := by simp [f4]
  have t5 : (((valOf s.data.toList 8 1 : Nat) : Int) != M) = true := by simp [f5]
  clear f0 f1 f2 f3 f4 f5
  go_enter Tryz.func80, Tryz.ntmps80
  go_upto_region 5 with (go_at_call 119; refine (refright_any _ _ _ _ _ _ _ _).mono ?_; rintro e w1 ⟨rfl, kx⟩; have K1 : Hid (Keeps NoB w w1) := (((Keeps.refl NoB w).alloc _).alloc _).trans kx; have rc := res_cells kx; clear kx)
  go_quiet (first | (go_at_call 122; exact Calls.quiet_of_same (refvalueI _ _ _ _ (by omega) (by omega) (by omega) (by omega) hz)) | (go_at_call 121; exact Calls.quiet_of_same (refsum_any _ _ (by simp; omega))))
  go_upto_region 7 with fail
  obtain ⟨w2, hw2, K2, rc2⟩ := next_world (n := nq) K1 rc
  rw [hw2]
  clear hw2 rc K1
  unfold ResC at rc2
  go_quiet (first | (go_at_call 122; exact Calls.quiet_of_same (refvalueI _ _ _ _ (by omega) (by omega) (by omega) (by omega) hz)) | (go_at_call 121; exact Calls.quiet_of_same (refsum_any _ _ (by simp; omega))))
  go_wp2
  exact bodyPost_ret (v := .tuple #[.agg #[.int .i64 0, .int .i64 0, .int .i64 0, .string ⟨#[]⟩], .int .i64 6]) (by simp [results, Tryz.results80, go_sem, rc2]) rfl ⟨rfl, keeps4 (K2.out.drewN _)⟩
set_option maxRecDepth 20000 in
set_option maxHeartbeats 2000000 in
theorem refget_s (K M S W P X R : Int) (s : ByteArray) (w : World) (hr : rightB K M S W P X R = true) (hn : 19 ≤ s.size) (hz : s.size ≤ 281474976710656) (f0 : byteI s 0 = 87) (f1 : byteI s 1 = 1) (f2 : valOf s.data.toList 9 2 + 19 = s.size) (f3 : valOf s.data.toList (s.size - 4) 4 = sumOf (s.extract 0 (s.size - 4))) (f4 : ((valOf s.data.toList 7 1 : Nat) : Int) = K) (f5 : ((valOf s.data.toList 8 1 : Nat) : Int) = M) (f6 : ((valOf s.data.toList 9 2 : Nat) : Int) ≠ S) :
    Calls Tryz.prog 80 #[.agg #[.int .i64 K, .int .i64 M, .int .i64 S, .int .i64 W, .int .i64 P, .int .i64 X, .int .i64 R], .string s] w fun e w' => e = .returned (.tuple #[.agg #[.int .i64 0, .int .i64 0, .int .i64 0, .string ⟨#[]⟩], .int .i64 6]) ∧ Keeps NoB w w' := by
  have d1 : decide ((s.size : Int) < 19) = false := by simp; omega
  have g0 : 0 < s.size := Nat.lt_of_lt_of_le (by decide) hn
  have g1 : 1 < s.size := Nat.lt_of_lt_of_le (by decide) hn
  have h0 : ((s[0]'g0).toNat : Int) = byteI s 0 := byteI_at s 0 g0
  have h1 : ((s[1]'g1).toNat : Int) = byteI s 1 := byteI_at s 1 g1
  have i0 : (0 : Int) ≤ (s.size : Int) - 4 := by omega
  have i1 : (s.size : Int) - 4 ≤ (s.size : Int) := by omega
  have b1 : IntKind.i64.wrap ((s.size : Int) - 4) = (s.size : Int) - 4 := by rw [IntWalk.i64_left]; exact IntWalk.wrap64_in _ (by omega)
  have v9 := valOf_lt s.data.toList 9 2
  have b2 : IntKind.i64.wrap (((valOf s.data.toList 9 2 : Nat) : Int) + 19) = ((valOf s.data.toList 9 2 : Nat) : Int) + 19 := by rw [IntWalk.i64_left]; exact IntWalk.wrap64_in _ (by omega)
  clear v9
  have t0 : (byteI s 0 != 87) = false := by simp [f0]
  have t1 : (byteI s 1 != 1) = false := by simp [f1]
  have t2 : (((valOf s.data.toList 9 2 : Nat) : Int) + 19 != (s.size : Int)) = false := by simp; omega
  have t3 : (((valOf s.data.toList (s.size - 4) 4 : Nat) : Int) != ((sumOf (s.extract 0 (s.size - 4)) : Nat) : Int)) = false := by simp; omega
  have t4 : (((valOf s.data.toList 7 1 : Nat) : Int) != K) = false := by simp [f4]
  have t5 : (((valOf s.data.toList 8 1 : Nat) : Int) != M) = false := by simp [f5]
  have t6 : (((valOf s.data.toList 9 2 : Nat) : Int) != S) = true := by simp [f6]
  clear f0 f1 f2 f3 f4 f5 f6
  go_enter Tryz.func80, Tryz.ntmps80
  go_upto_region 5 with (go_at_call 119; refine (refright_any _ _ _ _ _ _ _ _).mono ?_; rintro e w1 ⟨rfl, kx⟩; have K1 : Hid (Keeps NoB w w1) := (((Keeps.refl NoB w).alloc _).alloc _).trans kx; have rc := res_cells kx; clear kx)
  go_quiet (first | (go_at_call 122; exact Calls.quiet_of_same (refvalueI _ _ _ _ (by omega) (by omega) (by omega) (by omega) hz)) | (go_at_call 121; exact Calls.quiet_of_same (refsum_any _ _ (by simp; omega))))
  go_upto_region 7 with fail
  obtain ⟨w2, hw2, K2, rc2⟩ := next_world (n := nq) K1 rc
  rw [hw2]
  clear hw2 rc K1
  unfold ResC at rc2
  go_quiet (first | (go_at_call 122; exact Calls.quiet_of_same (refvalueI _ _ _ _ (by omega) (by omega) (by omega) (by omega) hz)) | (go_at_call 121; exact Calls.quiet_of_same (refsum_any _ _ (by simp; omega))))
  go_wp2
  exact bodyPost_ret (v := .tuple #[.agg #[.int .i64 0, .int .i64 0, .int .i64 0, .string ⟨#[]⟩], .int .i64 6]) (by simp [results, Tryz.results80, go_sem, rc2]) rfl ⟨rfl, keeps4 (K2.out.drewN _)⟩
theorem resC_keeps {w w3 w4 : World} {K M S W P X R : Int} (rc : ResC w K M S W P X R w3) (q : Keeps NoB w3 w4) : ResC w K M S W P X R w4 := by
  obtain ⟨a0, a1, a2, a3, f0, f1, f2, f3, c0, c1, c2, c3, c4, c5, c6⟩ := rc
  have l1 := World.block_lt_of_cell? w3 _ a0
  have l0 := World.block_lt_of_cell? w3 _ c0
  exact ⟨(q.cell (a := ⟨w.heap.size + 1, 0, none⟩) l1 (fun x => x)).trans a0, (q.cell (a := ⟨w.heap.size + 1, 1, none⟩) l1 (fun x => x)).trans a1, (q.cell (a := ⟨w.heap.size + 1, 2, none⟩) l1 (fun x => x)).trans a2, (q.cell (a := ⟨w.heap.size + 1, 3, none⟩) l1 (fun x => x)).trans a3,
    (q.frozen (a := ⟨w.heap.size + 1, 0, none⟩) l1 (fun x => x)).trans f0, (q.frozen (a := ⟨w.heap.size + 1, 1, none⟩) l1 (fun x => x)).trans f1, (q.frozen (a := ⟨w.heap.size + 1, 2, none⟩) l1 (fun x => x)).trans f2, (q.frozen (a := ⟨w.heap.size + 1, 3, none⟩) l1 (fun x => x)).trans f3,
    (q.cell (a := ⟨w.heap.size, 0, none⟩) l0 (fun x => x)).trans c0, (q.cell (a := ⟨w.heap.size, 1, none⟩) l0 (fun x => x)).trans c1, (q.cell (a := ⟨w.heap.size, 2, none⟩) l0 (fun x => x)).trans c2, (q.cell (a := ⟨w.heap.size, 3, none⟩) l0 (fun x => x)).trans c3, (q.cell (a := ⟨w.heap.size, 4, none⟩) l0 (fun x => x)).trans c4, (q.cell (a := ⟨w.heap.size, 5, none⟩) l0 (fun x => x)).trans c5, (q.cell (a := ⟨w.heap.size, 6, none⟩) l0 (fun x => x)).trans c6⟩
theorem made_world {w w3 : World} {K M S W P X R : Int} {b n l : Value} {t : ByteArray} (K3 : Hid (Keeps NoB w w3)) (rc3 : ResC w K M S W P X R w3) :
    ∃ wA bd, (w3.alloc (.cells #[b, n, l, .string t] 163)).drew = wA ∧ w3.heap.size = bd ∧ Hid (Keeps NoB w wA) ∧ ResC w K M S W P X R wA ∧ wA.cell? ⟨bd, 0, none⟩ = some b ∧ wA.cell? ⟨bd, 1, none⟩ = some n ∧ wA.cell? ⟨bd, 2, none⟩ = some l ∧ wA.cell? ⟨bd, 3, none⟩ = some (.string t) :=
  ⟨_, _, rfl, rfl, (K3.out.trans (keepsNo w3 _)).drew, resC_keeps rc3 (keepsNo w3 _).drew, box_cell (w := w3) (t := 163) (j := 0) rfl, box_cell (w := w3) (t := 163) (j := 1) rfl, box_cell (w := w3) (t := 163) (j := 2) rfl, box_cell (w := w3) (t := 163) (j := 3) rfl⟩
set_option maxRecDepth 20000 in
set_option maxHeartbeats 4000000 in
theorem refget_no (K M S W P X R : Int) (s : ByteArray) (w : World) (hr : rightB K M S W P X R = true) (hn : 19 ≤ s.size) (hz : s.size ≤ 281474976710656) (f0 : byteI s 0 = 87) (f1 : byteI s 1 = 1) (f2 : valOf s.data.toList 9 2 + 19 = s.size) (f3 : valOf s.data.toList (s.size - 4) 4 = sumOf (s.extract 0 (s.size - 4))) (f4 : ((valOf s.data.toList 7 1 : Nat) : Int) = K) (f5 : ((valOf s.data.toList 8 1 : Nat) : Int) = M) (f6 : ((valOf s.data.toList 9 2 : Nat) : Int) = S) (hp : putB K M S W P X R ((valOf s.data.toList 2 4 : Nat) : Int) ((valOf s.data.toList 6 1 : Nat) : Int) ((valOf s.data.toList 11 4 : Nat) : Int) (s.extract 15 (s.size - 4)) = false) :
    Calls Tryz.prog 80 #[.agg #[.int .i64 K, .int .i64 M, .int .i64 S, .int .i64 W, .int .i64 P, .int .i64 X, .int .i64 R], .string s] w fun e w' => e = .returned (.tuple #[.agg #[.int .i64 0, .int .i64 0, .int .i64 0, .string ⟨#[]⟩], .int .i64 5]) ∧ Keeps NoB w w' := by
  have d1 : decide ((s.size : Int) < 19) = false := by simp; omega
  have g0 : 0 < s.size := Nat.lt_of_lt_of_le (by decide) hn
  have g1 : 1 < s.size := Nat.lt_of_lt_of_le (by decide) hn
  have h0 : ((s[0]'g0).toNat : Int) = byteI s 0 := byteI_at s 0 g0
  have h1 : ((s[1]'g1).toNat : Int) = byteI s 1 := byteI_at s 1 g1
  have i0 : (0 : Int) ≤ (s.size : Int) - 4 := by omega
  have i1 : (s.size : Int) - 4 ≤ (s.size : Int) := by omega
  have i2 : (15 : Int) ≤ (s.size : Int) - 4 := by omega
  have b1 : IntKind.i64.wrap ((s.size : Int) - 4) = (s.size : Int) - 4 := by rw [IntWalk.i64_left]; exact IntWalk.wrap64_in _ (by omega)
  have v9 := valOf_lt s.data.toList 9 2
  have b2 : IntKind.i64.wrap (((valOf s.data.toList 9 2 : Nat) : Int) + 19) = ((valOf s.data.toList 9 2 : Nat) : Int) + 19 := by rw [IntWalk.i64_left]; exact IntWalk.wrap64_in _ (by omega)
  clear v9
  have t0 : (byteI s 0 != 87) = false := by simp [f0]
  have t1 : (byteI s 1 != 1) = false := by simp [f1]
  have t2 : (((valOf s.data.toList 9 2 : Nat) : Int) + 19 != (s.size : Int)) = false := by simp; omega
  have t3 : (((valOf s.data.toList (s.size - 4) 4 : Nat) : Int) != ((sumOf (s.extract 0 (s.size - 4)) : Nat) : Int)) = false := by simp; omega
  have t4 : (((valOf s.data.toList 7 1 : Nat) : Int) != K) = false := by simp [f4]
  have t5 : (((valOf s.data.toList 8 1 : Nat) : Int) != M) = false := by simp [f5]
  have t6 : (((valOf s.data.toList 9 2 : Nat) : Int) != S) = false := by simp [f6]
  clear f0 f1 f2 f3 f4 f5 f6
  go_enter Tryz.func80, Tryz.ntmps80
  go_upto_region 5 with (go_at_call 119; refine (refright_any _ _ _ _ _ _ _ _).mono ?_; rintro e w1 ⟨rfl, kx⟩; have K1 : Hid (Keeps NoB w w1) := (((Keeps.refl NoB w).alloc _).alloc _).trans kx; have rc := res_cells kx; clear kx)
  go_quiet (first | (go_at_call 122; exact Calls.quiet_of_same (refvalueI _ _ _ _ (by omega) (by omega) (by omega) (by omega) hz)) | (go_at_call 121; exact Calls.quiet_of_same (refsum_any _ _ (by simp; omega))))
  go_upto_region 7 with fail
  obtain ⟨w2, hw2, K2, rc2⟩ := next_world (n := nq) K1 rc
  rw [hw2]
  clear hw2 rc K1
  unfold ResC at rc2
  go_quiet (first | (go_at_call 122; exact Calls.quiet_of_same (refvalueI _ _ _ _ (by omega) (by omega) (by omega) (by omega) hz)) | (go_at_call 121; exact Calls.quiet_of_same (refsum_any _ _ (by simp; omega))))
  go_upto_region 9 with fail
  obtain ⟨w3, hw3, K3, rc3⟩ := next_world (n := nq) K2 rc2
  rw [hw3]
  clear hw3 rc2 K2
  go_cut [8] from 11 to 93 (fun v wx => v = .pointer (some ⟨w3.heap.size, 0, none⟩) ∧ wx = (w3.alloc (.cells #[.int .i64 (valOf s.data.toList 2 4 : Nat), .int .i64 (valOf s.data.toList 6 1 : Nat), .int .i64 (valOf s.data.toList 11 4 : Nat), .string (s.extract 15 (s.size - 4))] 163)).drew)
  case first =>
    go_region_held3 (fun w' => True) (trivial) (first | (go_at_call 122; refine (refvalueI _ _ _ _ (by omega) (by omega) (by omega) (by omega) hz).mono ?_; rintro e wx ⟨rfl, hwx⟩; obtain rfl := hwx.symm))
    all_goals (go_wp2_with fail; go_meet; exact ⟨rfl, by rw [show ((s.size : Int) - 4).toNat = s.size - 4 by omega]⟩)
  case rest =>
    obtain ⟨rfl, rfl⟩ := hcut
    obtain ⟨wA, bd, hwA, hbd, KA, rcA, d0, d1', d2, d3⟩ := made_world (b := .int .i64 (valOf s.data.toList 2 4 : Nat)) (n := .int .i64 (valOf s.data.toList 6 1 : Nat)) (l := .int .i64 (valOf s.data.toList 11 4 : Nat)) (t := s.extract 15 (s.size - 4)) K3 rc3
    rw [hwA, hbd]
    clear hwA hbd K3 rc3
    have rcB := rcA
    unfold ResC at rcB
    go_wp2_with (go_at_call 79; refine (refput_no _ _ _ _ _ _ _ _ _ _ _ _ hp).mono ?_; rintro e w4 ⟨rfl, k4⟩; have K4 : Hid (Keeps NoB w w4) := KA.out.trans k4; have rc4 := resC_keeps rcA k4; clear rcB rcA KA d0 d1' d2 d3 k4; unfold ResC at rc4)
    exact bodyPost_ret (v := .tuple #[.agg #[.int .i64 0, .int .i64 0, .int .i64 0, .string ⟨#[]⟩], .int .i64 5]) (by simp [results, Tryz.results80, go_sem, rc4]) rfl ⟨rfl, keeps4 K4.out⟩
theorem refput_back (K M S W P X R : Int) (s : ByteArray) (w : World) (f0 : byteI s 0 = 87) (f1 : byteI s 1 = 1) (f2 : valOf s.data.toList 9 2 + 19 = s.size) (f3 : valOf s.data.toList (s.size - 4) 4 = sumOf (s.extract 0 (s.size - 4))) (f4 : ((valOf s.data.toList 7 1 : Nat) : Int) = K) (f5 : ((valOf s.data.toList 8 1 : Nat) : Int) = M) (f6 : ((valOf s.data.toList 9 2 : Nat) : Int) = S) (hp : putB K M S W P X R ((valOf s.data.toList 2 4 : Nat) : Int) ((valOf s.data.toList 6 1 : Nat) : Int) ((valOf s.data.toList 11 4 : Nat) : Int) (s.extract 15 (s.size - 4)) = true) :
    Calls Tryz.prog 79 #[.agg #[.int .i64 K, .int .i64 M, .int .i64 S, .int .i64 W, .int .i64 P, .int .i64 X, .int .i64 R], .agg #[.int .i64 ((valOf s.data.toList 2 4 : Nat) : Int), .int .i64 ((valOf s.data.toList 6 1 : Nat) : Int), .int .i64 ((valOf s.data.toList 11 4 : Nat) : Int), .string (s.extract 15 (s.size - 4))]] w fun e w' => e = .returned (.tuple #[.string s, .int .i64 0]) ∧ Keeps NoB w w' := by
  unfold putB at hp
  rw [Bool.and_eq_true] at hp
  obtain ⟨hr, hq⟩ := hp
  obtain ⟨a1, a2, a3, a4, a5, a6, a7⟩ := of_decide_eq_true hq
  have h := refput_yes K M S W P X R ((valOf s.data.toList 2 4 : Nat) : Int) ((valOf s.data.toList 6 1 : Nat) : Int) ((valOf s.data.toList 11 4 : Nat) : Int) (s.extract 15 (s.size - 4)) w hr a1 a2 a3 a4 a5 a6 a7
  rw [put_back s K M S (valOf s.data.toList 9 2) f2.symm f0 f1 f4 f5 f6 f3] at h
  exact h
theorem d_keeps {w w' : World} {bd : Nat} {b i n t : Value} (q : Keeps NoB w w') (d0 : w.cell? ⟨bd, 0, none⟩ = some b) (d1 : w.cell? ⟨bd, 1, none⟩ = some i) (d2 : w.cell? ⟨bd, 2, none⟩ = some n) (d3 : w.cell? ⟨bd, 3, none⟩ = some t) :
    w'.cell? ⟨bd, 0, none⟩ = some b ∧ w'.cell? ⟨bd, 1, none⟩ = some i ∧ w'.cell? ⟨bd, 2, none⟩ = some n ∧ w'.cell? ⟨bd, 3, none⟩ = some t := by
  have l := World.block_lt_of_cell? w _ d0
  exact ⟨(q.cell (a := ⟨bd, 0, none⟩) l (fun x => x)).trans d0, (q.cell (a := ⟨bd, 1, none⟩) l (fun x => x)).trans d1, (q.cell (a := ⟨bd, 2, none⟩) l (fun x => x)).trans d2, (q.cell (a := ⟨bd, 3, none⟩) l (fun x => x)).trans d3⟩
set_option maxRecDepth 20000 in
set_option maxHeartbeats 4000000 in
theorem refget_ok (K M S W P X R : Int) (s : ByteArray) (w : World) (hr : rightB K M S W P X R = true) (hn : 19 ≤ s.size) (hz : s.size ≤ 281474976710656) (f0 : byteI s 0 = 87) (f1 : byteI s 1 = 1) (f2 : valOf s.data.toList 9 2 + 19 = s.size) (f3 : valOf s.data.toList (s.size - 4) 4 = sumOf (s.extract 0 (s.size - 4))) (f4 : ((valOf s.data.toList 7 1 : Nat) : Int) = K) (f5 : ((valOf s.data.toList 8 1 : Nat) : Int) = M) (f6 : ((valOf s.data.toList 9 2 : Nat) : Int) = S) (hp : putB K M S W P X R ((valOf s.data.toList 2 4 : Nat) : Int) ((valOf s.data.toList 6 1 : Nat) : Int) ((valOf s.data.toList 11 4 : Nat) : Int) (s.extract 15 (s.size - 4)) = true) :
    Calls Tryz.prog 80 #[.agg #[.int .i64 K, .int .i64 M, .int .i64 S, .int .i64 W, .int .i64 P, .int .i64 X, .int .i64 R], .string s] w fun e w' => e = .returned (.tuple #[.agg #[.int .i64 ((valOf s.data.toList 2 4 : Nat) : Int), .int .i64 ((valOf s.data.toList 6 1 : Nat) : Int), .int .i64 ((valOf s.data.toList 11 4 : Nat) : Int), .string (s.extract 15 (s.size - 4))], .int .i64 0]) ∧ Keeps NoB w w' := by
  have hback := fun w => refput_back K M S W P X R s w f0 f1 f2 f3 f4 f5 f6 hp
  clear hp
  have d1 : decide ((s.size : Int) < 19) = false := by simp; omega
  have g0 : 0 < s.size := Nat.lt_of_lt_of_le (by decide) hn
  have g1 : 1 < s.size := Nat.lt_of_lt_of_le (by decide) hn
  have h0 : ((s[0]'g0).toNat : Int) = byteI s 0 := byteI_at s 0 g0
  have h1 : ((s[1]'g1).toNat : Int) = byteI s 1 := byteI_at s 1 g1
  have i0 : (0 : Int) ≤ (s.size : Int) - 4 := by omega
  have i1 : (s.size : Int) - 4 ≤ (s.size : Int) := by omega
  have i2 : (15 : Int) ≤ (s.size : Int) - 4 := by omega
  have b1 : IntKind.i64.wrap ((s.size : Int) - 4) = (s.size : Int) - 4 := by rw [IntWalk.i64_left]; exact IntWalk.wrap64_in _ (by omega)
  have v9 := valOf_lt s.data.toList 9 2
  have b2 : IntKind.i64.wrap (((valOf s.data.toList 9 2 : Nat) : Int) + 19) = ((valOf s.data.toList 9 2 : Nat) : Int) + 19 := by rw [IntWalk.i64_left]; exact IntWalk.wrap64_in _ (by omega)
  clear v9
  have t0 : (byteI s 0 != 87) = false := by simp [f0]
  have t1 : (byteI s 1 != 1) = false := by simp [f1]
  have t2 : (((valOf s.data.toList 9 2 : Nat) : Int) + 19 != (s.size : Int)) = false := by simp; omega
  have t3 : (((valOf s.data.toList (s.size - 4) 4 : Nat) : Int) != ((sumOf (s.extract 0 (s.size - 4)) : Nat) : Int)) = false := by simp; omega
  have t4 : (((valOf s.data.toList 7 1 : Nat) : Int) != K) = false := by simp [f4]
  have t5 : (((valOf s.data.toList 8 1 : Nat) : Int) != M) = false := by simp [f5]
  have t6 : (((valOf s.data.toList 9 2 : Nat) : Int) != S) = false := by simp [f6]
  clear f0 f1 f2 f3 f4 f5 f6
  go_enter Tryz.func80, Tryz.ntmps80
  go_upto_region 5 with (go_at_call 119; refine (refright_any _ _ _ _ _ _ _ _).mono ?_; rintro e w1 ⟨rfl, kx⟩; have K1 : Hid (Keeps NoB w w1) := (((Keeps.refl NoB w).alloc _).alloc _).trans kx; have rc := res_cells kx; clear kx)
  go_quiet (first | (go_at_call 122; exact Calls.quiet_of_same (refvalueI _ _ _ _ (by omega) (by omega) (by omega) (by omega) hz)) | (go_at_call 121; exact Calls.quiet_of_same (refsum_any _ _ (by simp; omega))))
  go_upto_region 7 with fail
  obtain ⟨w2, hw2, K2, rc2⟩ := next_world (n := nq) K1 rc
  rw [hw2]
  clear hw2 rc K1
  unfold ResC at rc2
  go_quiet (first | (go_at_call 122; exact Calls.quiet_of_same (refvalueI _ _ _ _ (by omega) (by omega) (by omega) (by omega) hz)) | (go_at_call 121; exact Calls.quiet_of_same (refsum_any _ _ (by simp; omega))))
  go_upto_region 9 with fail
  obtain ⟨w3, hw3, K3, rc3⟩ := next_world (n := nq) K2 rc2
  rw [hw3]
  clear hw3 rc2 K2
  go_cut [8] from 11 to 93 (fun v wx => v = .pointer (some ⟨w3.heap.size, 0, none⟩) ∧ wx = (w3.alloc (.cells #[.int .i64 (valOf s.data.toList 2 4 : Nat), .int .i64 (valOf s.data.toList 6 1 : Nat), .int .i64 (valOf s.data.toList 11 4 : Nat), .string (s.extract 15 (s.size - 4))] 163)).drew)
  case first =>
    go_region_held3 (fun w' => True) (trivial) (first | (go_at_call 122; refine (refvalueI _ _ _ _ (by omega) (by omega) (by omega) (by omega) hz).mono ?_; rintro e wx ⟨rfl, hwx⟩; obtain rfl := hwx.symm))
    all_goals (go_wp2_with fail; go_meet; exact ⟨rfl, by rw [show ((s.size : Int) - 4).toNat = s.size - 4 by omega]⟩)
  case rest =>
    obtain ⟨rfl, rfl⟩ := hcut
    obtain ⟨wA, bd, hwA, hbd, KA, rcA, d0, d1', d2, d3⟩ := made_world (b := .int .i64 (valOf s.data.toList 2 4 : Nat)) (n := .int .i64 (valOf s.data.toList 6 1 : Nat)) (l := .int .i64 (valOf s.data.toList 11 4 : Nat)) (t := s.extract 15 (s.size - 4)) K3 rc3
    rw [hwA, hbd]
    clear hwA hbd K3 rc3
    have rcB := rcA
    unfold ResC at rcB
    go_wp2_with (go_at_call 79; refine (hback _).mono ?_; rintro e w4 ⟨rfl, k4⟩; have K4 : Hid (Keeps NoB w w4) := KA.out.trans k4; have rc4 := resC_keeps rcA k4; have dk := d_keeps k4 d0 d1' d2 d3; clear rcB rcA KA d0 d1' d2 d3 k4; unfold ResC at rc4)
    exact bodyPost_ret (v := .tuple #[.agg #[.int .i64 ((valOf s.data.toList 2 4 : Nat) : Int), .int .i64 ((valOf s.data.toList 6 1 : Nat) : Int), .int .i64 ((valOf s.data.toList 11 4 : Nat) : Int), .string (s.extract 15 (s.size - 4))], .int .i64 0]) (by simp [results, Tryz.results80, go_sem, rc4]) rfl ⟨rfl, keeps4 K4.out⟩
def getD (K M S W P X R : Int) (s : ByteArray) : Value := if getE K M S W P X R s = 0 then .agg #[.int .i64 ((valOf s.data.toList 2 4 : Nat) : Int), .int .i64 ((valOf s.data.toList 6 1 : Nat) : Int), .int .i64 ((valOf s.data.toList 11 4 : Nat) : Int), .string (s.extract 15 (s.size - 4))] else .agg #[.int .i64 0, .int .i64 0, .int .i64 0, .string ⟨#[]⟩]
theorem refget_any (K M S W P X R : Int) (s : ByteArray) (w : World) (hz : s.size ≤ 281474976710656) :
    Calls Tryz.prog 80 #[.agg #[.int .i64 K, .int .i64 M, .int .i64 S, .int .i64 W, .int .i64 P, .int .i64 X, .int .i64 R], .string s] w fun e w' => e = .returned (.tuple #[getD K M S W P X R s, .int .i64 (getE K M S W P X R s)]) ∧ Keeps NoB w w' := by
  by_cases hr : rightB K M S W P X R = false
  · have e : getE K M S W P X R s = 1 := by simp [getE, hr]
    rw [getD, e, if_neg (by decide)]
    exact refget_arg K M S W P X R s w hr
  have hr' : rightB K M S W P X R = true := by simpa using hr
  by_cases hf : frameB s = false
  · have e : getE K M S W P X R s = 5 := by simp [getE, hr', hf]
    rw [getD, e, if_neg (by decide)]
    by_cases hn : s.size < 19
    · exact refget_short K M S W P X R s w hr' hn
    have hn' : 19 ≤ s.size := by omega
    by_cases f0 : byteI s 0 = 87
    · by_cases f1 : byteI s 1 = 1
      · by_cases f2 : valOf s.data.toList 9 2 + 19 = s.size
        · by_cases f3 : valOf s.data.toList (s.size - 4) 4 = sumOf (s.extract 0 (s.size - 4))
          · exfalso
            simp [frameB, hn', f0, f1, f2, f3] at hf
          · exact refget_sum K M S W P X R s w hr' hn' hz f0 f1 f2 f3
        · exact refget_len K M S W P X R s w hr' hn' hz f0 f1 f2
      · exact refget_b1 K M S W P X R s w hr' hn' hz f0 f1
    · exact refget_b0 K M S W P X R s w hr' hn' hz f0
  have hf' : frameB s = true := by simpa using hf
  have hf2 := hf'
  unfold frameB at hf2
  simp only [Bool.and_eq_true, decide_eq_true_eq] at hf2
  obtain ⟨⟨⟨⟨hn, f0⟩, f1⟩, f2⟩, f3⟩ := hf2
  by_cases hm : mineB K M S s = false
  · have e : getE K M S W P X R s = 6 := by simp [getE, hr', hf', hm]
    rw [getD, e, if_neg (by decide)]
    by_cases f4 : ((valOf s.data.toList 7 1 : Nat) : Int) = K
    · by_cases f5 : ((valOf s.data.toList 8 1 : Nat) : Int) = M
      · by_cases f6 : ((valOf s.data.toList 9 2 : Nat) : Int) = S
        · exfalso
          unfold mineB at hm
          rw [decide_eq_true f4, decide_eq_true f5, decide_eq_true f6] at hm
          cases hm
        · exact refget_s K M S W P X R s w hr' hn hz f0 f1 f2 f3 f4 f5 f6
      · exact refget_m K M S W P X R s w hr' hn hz f0 f1 f2 f3 f4 f5
    · exact refget_k K M S W P X R s w hr' hn hz f0 f1 f2 f3 f4
  have hm' : mineB K M S s = true := by simpa using hm
  have hm2 := hm'
  unfold mineB at hm2
  simp only [Bool.and_eq_true, decide_eq_true_eq] at hm2
  obtain ⟨⟨f4, f5⟩, f6⟩ := hm2
  by_cases hp : takeB K M S W P X R s = false
  · have e : getE K M S W P X R s = 5 := by simp [getE, hr', hf', hm', hp]
    rw [getD, e, if_neg (by decide)]
    exact refget_no K M S W P X R s w hr' hn hz f0 f1 f2 f3 f4 f5 f6 hp
  · have hp' : takeB K M S W P X R s = true := by simpa using hp
    have e : getE K M S W P X R s = 0 := by simp [getE, hr', hf', hm', hp']
    rw [getD, e, if_pos rfl]
    exact refget_ok K M S W P X R s w hr' hn hz f0 f1 f2 f3 f4 f5 f6 hp'
end Go.Proofs.YtgchiamkeeljkaaGreatDoor
