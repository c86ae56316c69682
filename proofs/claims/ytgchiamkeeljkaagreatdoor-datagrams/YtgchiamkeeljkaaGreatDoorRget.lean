/-
  The document's datagrams (package weaveref): Get.
-/
import Derived.Test.YtgchiamkeeljkaaGreatDoorRpun
import Derived.Deep.QuietTactic
import Derived.BigQuiet
import Derived.Laws.ResultCell
namespace Go.Proofs.YtgchiamkeeljkaaGreatDoor
open Go Go.RowKit

theorem refvalueI (s : ByteArray) (i k : Int) (w : World) (h1 : 0 ≤ i) (h2 : 0 ≤ k) (hk : k ≤ 4) (hs : i + k ≤ s.size) (hz : s.size ≤ 281474976710656) :
    Calls Tryz.prog 122 #[.string s, .int .i64 i, .int .i64 k] w fun e w' => e = .returned (.int .i64 (valOf s.data.toList i.toNat k.toNat : Nat)) ∧ w' = w := by
  obtain ⟨a, rfl⟩ := Int.eq_ofNat_of_zero_le h1
  obtain ⟨b, rfl⟩ := Int.eq_ofNat_of_zero_le h2
  rw [Int.toNat_natCast, Int.toNat_natCast]
  exact refvalue_any s a b w (by omega) (by omega) hz
theorem keeps4 {w w1 : World} {v0 v1 v2 v3 : Value} (k : Keeps NoB w w1) : Keeps NoB w ((((w1.setCell ⟨w.heap.size + 1, 0, none⟩ v0).setCell ⟨w.heap.size + 1, 1, none⟩ v1).setCell ⟨w.heap.size + 1, 2, none⟩ v2).setCell ⟨w.heap.size + 1, 3, none⟩ v3) :=
  (((k.setCell (a := ⟨w.heap.size + 1, 0, none⟩) (.inl (Nat.le_succ _)) _).setCell (a := ⟨w.heap.size + 1, 1, none⟩) (.inl (Nat.le_succ _)) _).setCell (a := ⟨w.heap.size + 1, 2, none⟩) (.inl (Nat.le_succ _)) _).setCell (a := ⟨w.heap.size + 1, 3, none⟩) (.inl (Nat.le_succ _)) _
theorem res_cells {w w1 : World} {K M S W P X R : Int} (k : Keeps NoB ((w.alloc (.cells #[.int .i64 K, .int .i64 M, .int .i64 S, .int .i64 W, .int .i64 P, .int .i64 X, .int .i64 R] 37)).alloc (.cells #[.int .i64 0, .int .i64 0, .int .i64 0, .string ⟨#[]⟩] 163)) w1) : w1.cell? ⟨w.heap.size + 1, 0, none⟩ = some (.int .i64 0) ∧ w1.cell? ⟨w.heap.size + 1, 1, none⟩ = some (.int .i64 0) ∧ w1.cell? ⟨w.heap.size + 1, 2, none⟩ = some (.int .i64 0) ∧ w1.cell? ⟨w.heap.size + 1, 3, none⟩ = some (.string ⟨#[]⟩) ∧ w1.frozen? ⟨w.heap.size + 1, 0, none⟩ = false ∧ w1.frozen? ⟨w.heap.size + 1, 1, none⟩ = false ∧ w1.frozen? ⟨w.heap.size + 1, 2, none⟩ = false ∧ w1.frozen? ⟨w.heap.size + 1, 3, none⟩ = false ∧ w1.cell? ⟨w.heap.size, 0, none⟩ = some (.int .i64 K) ∧ w1.cell? ⟨w.heap.size, 1, none⟩ = some (.int .i64 M) ∧ w1.cell? ⟨w.heap.size, 2, none⟩ = some (.int .i64 S) ∧ w1.cell? ⟨w.heap.size, 3, none⟩ = some (.int .i64 W) ∧ w1.cell? ⟨w.heap.size, 4, none⟩ = some (.int .i64 P) ∧ w1.cell? ⟨w.heap.size, 5, none⟩ = some (.int .i64 X) ∧ w1.cell? ⟨w.heap.size, 6, none⟩ = some (.int .i64 R) := by
  have hsz : (w.alloc (.cells #[.int .i64 K, .int .i64 M, .int .i64 S, .int .i64 W, .int .i64 P, .int .i64 X, .int .i64 R] 37)).heap.size = w.heap.size + 1 := by simp
  have r : ((w.alloc (.cells #[.int .i64 K, .int .i64 M, .int .i64 S, .int .i64 W, .int .i64 P, .int .i64 X, .int .i64 R] 37)).alloc (.cells #[.int .i64 0, .int .i64 0, .int .i64 0, .string ⟨#[]⟩] 163)).rowIs (w.heap.size + 1) 163 4 (fun i => (#[.int .i64 0, .int .i64 0, .int .i64 0, .string ⟨#[]⟩] : Array Value)[i]?.getD (.int .i64 0)) := by
    have := World.rowIs_alloc (w.alloc (.cells #[.int .i64 K, .int .i64 M, .int .i64 S, .int .i64 W, .int .i64 P, .int .i64 X, .int .i64 R] 37)) #[.int .i64 0, .int .i64 0, .int .i64 0, .string ⟨#[]⟩] 163 (fun i => (#[.int .i64 0, .int .i64 0, .int .i64 0, .string ⟨#[]⟩] : Array Value)[i]?.getD (.int .i64 0)) (fun i hi => by
      match i, hi with
      | 0, _ => rfl
      | 1, _ => rfl
      | 2, _ => rfl
      | 3, _ => rfl)
    rw [hsz] at this
    exact this
  have r1 := k.rowIs r (fun x => x)
  have b : ∀ j v, (#[.int .i64 K, .int .i64 M, .int .i64 S, .int .i64 W, .int .i64 P, .int .i64 X, .int .i64 R] : Array Value)[j]? = some v → w1.cell? ⟨w.heap.size, j, none⟩ = some v := fun j v hv => by
    have c := box_cell (w := w) (t := 37) hv
    have k2 : Keeps NoB (w.alloc (.cells #[.int .i64 K, .int .i64 M, .int .i64 S, .int .i64 W, .int .i64 P, .int .i64 X, .int .i64 R] 37)) w1 := (keepsNo _ _).trans k
    exact (k2.cell (a := ⟨w.heap.size, j, none⟩) (by simp) (fun x => x)).trans c
  exact ⟨r1.cell (by decide), r1.cell (by decide), r1.cell (by decide), r1.cell (by decide), r1.frozen 0, r1.frozen 1, r1.frozen 2, r1.frozen 3, b 0 _ rfl, b 1 _ rfl, b 2 _ rfl, b 3 _ rfl, b 4 _ rfl, b 5 _ rfl, b 6 _ rfl⟩

set_option maxRecDepth 20000 in
set_option maxHeartbeats 1000000 in
theorem refget_arg (K M S W P X R : Int) (s : ByteArray) (w : World) (hr : rightB K M S W P X R = false) :
    Calls Tryz.prog 80 #[.agg #[.int .i64 K, .int .i64 M, .int .i64 S, .int .i64 W, .int .i64 P, .int .i64 X, .int .i64 R], .string s] w fun e w' => e = .returned (.tuple #[.agg #[.int .i64 0, .int .i64 0, .int .i64 0, .string ⟨#[]⟩], .int .i64 1]) ∧ Keeps NoB w w' := by
  go_enter Tryz.func80, Tryz.ntmps80
  go_wp2_with (go_at_call 119; refine (refright_any _ _ _ _ _ _ _ _).mono ?_; rintro e w1 ⟨rfl, kx⟩; have K1 : Hid (Keeps NoB w w1) := (((Keeps.refl NoB w).alloc _).alloc _).trans kx; have rc := res_cells kx; clear kx)
  exact bodyPost_ret (v := .tuple #[.agg #[.int .i64 0, .int .i64 0, .int .i64 0, .string ⟨#[]⟩], .int .i64 1]) (by simp [results, Tryz.results80, go_sem, rc]) rfl ⟨rfl, keeps4 K1.out⟩
set_option maxRecDepth 20000 in
set_option maxHeartbeats 1000000 in
theorem refget_short (K M S W P X R : Int) (s : ByteArray) (w : World) (hr : rightB K M S W P X R = true) (hn : s.size < 19) :
    Calls Tryz.prog 80 #[.agg #[.int .i64 K, .int .i64 M, .int .i64 S, .int .i64 W, .int .i64 P, .int .i64 X, .int .i64 R], .string s] w fun e w' => e = .returned (.tuple #[.agg #[.int .i64 0, .int .i64 0, .int .i64 0, .string ⟨#[]⟩], .int .i64 5]) ∧ Keeps NoB w w' := by
  have d1 : decide ((s.size : Int) < 19) = true := by simp; omega
  go_enter Tryz.func80, Tryz.ntmps80
  go_upto_region 5 with (go_at_call 119; refine (refright_any _ _ _ _ _ _ _ _).mono ?_; rintro e w1 ⟨rfl, kx⟩; have K1 : Hid (Keeps NoB w w1) := (((Keeps.refl NoB w).alloc _).alloc _).trans kx; have rc := res_cells kx; clear kx)
  go_quiet (fail)
  go_wp2
  exact bodyPost_ret (v := .tuple #[.agg #[.int .i64 0, .int .i64 0, .int .i64 0, .string ⟨#[]⟩], .int .i64 5]) (by simp [results, Tryz.results80, go_sem, rc]) rfl ⟨rfl, keeps4 (K1.out.drewN _)⟩
set_option maxRecDepth 20000 in
set_option maxHeartbeats 1000000 in
theorem refget_sum (K M S W P X R : Int) (s : ByteArray) (w : World) (hr : rightB K M S W P X R = true) (hn : 19 ≤ s.size) (hz : s.size ≤ 281474976710656) (f0 : byteI s 0 = 87) (f1 : byteI s 1 = 1) (f2 : valOf s.data.toList 9 2 + 19 = s.size) (f3 : valOf s.data.toList (s.size - 4) 4 ≠ sumOf (s.extract 0 (s.size - 4))) :
    Calls Tryz.prog 80 #[.agg #[.int .i64 K, .int .i64 M, .int .i64 S, .int .i64 W, .int .i64 P, .int .i64 X, .int .i64 R], .string s] w fun e w' => e = .returned (.tuple #[.agg #[.int .i64 0, .int .i64 0, .int .i64 0, .string ⟨#[]⟩], .int .i64 5]) ∧ Keeps NoB w w' := by
  have d1 : decide ((s.size : Int) < 19) = false := by simp; omega
  have g0 : 0 < s.size := Nat.lt_of_lt_of_le (by decide) hn
  have g1 : 1 < s.size := Nat.lt_of_lt_of_le (by decide) hn
  have h0 : ((s[0]'g0).toNat : Int) = byteI s 0 := byteI_at s 0 g0
  have h1 : ((s[1]'g1).toNat : Int) = byteI s 1 := byteI_at s 1 g1
  have t0 : (byteI s 0 != 87) = false := by simp [f0]
  have t1 : (byteI s 1 != 1) = false := by simp [f1]
  have t2 : (((valOf s.data.toList 9 2 : Nat) : Int) + 19 != (s.size : Int)) = false := by simp; omega
  have t3 : (((valOf s.data.toList (s.size - 4) 4 : Nat) : Int) != ((sumOf (s.extract 0 (s.size - 4)) : Nat) : Int)) = true := by simp; omega
  have i0 : (0 : Int) ≤ (s.size : Int) - 4 := by omega
  have i1 : (s.size : Int) - 4 ≤ (s.size : Int) := by omega
  have b1 : IntKind.i64.wrap ((s.size : Int) - 4) = (s.size : Int) - 4 := by rw [IntWalk.i64_left]; exact IntWalk.wrap64_in _ (by omega)
  have b2 : IntKind.i64.wrap (((valOf s.data.toList 9 2 : Nat) : Int) + 19) = ((valOf s.data.toList 9 2 : Nat) : Int) + 19 := by rw [IntWalk.i64_left]; exact IntWalk.wrap64_in _ (by omega)
  clear f0 f1 f2 f3
  go_enter Tryz.func80, Tryz.ntmps80
  go_upto_region 5 with (go_at_call 119; refine (refright_any _ _ _ _ _ _ _ _).mono ?_; rintro e w1 ⟨rfl, kx⟩; have K1 : Hid (Keeps NoB w w1) := (((Keeps.refl NoB w).alloc _).alloc _).trans kx; have rc := res_cells kx; clear kx)
  go_quiet (first | (go_at_call 122; exact Calls.quiet_of_same (refvalueI _ _ _ _ (by omega) (by omega) (by omega) (by omega) hz)) | (go_at_call 121; exact Calls.quiet_of_same (refsum_any _ _ (by simp; omega))))
  go_wp2
  exact bodyPost_ret (v := .tuple #[.agg #[.int .i64 0, .int .i64 0, .int .i64 0, .string ⟨#[]⟩], .int .i64 5]) (by simp [results, Tryz.results80, go_sem, rc]) rfl ⟨rfl, keeps4 (K1.out.drewN _)⟩
set_option maxRecDepth 20000 in
set_option maxHeartbeats 2000000 in
theorem refget_b0 (K M S W P X R : Int) (s : ByteArray) (w : World) (hr : rightB K M S W P X R = true) (hn : 19 ≤ s.size) (hz : s.size ≤ 281474976710656) (f0 : byteI s 0 ≠ 87) :
    Calls Tryz.prog 80 #[.agg #[.int .i64 K, .int .i64 M, .int .i64 S, .int .i64 W, .int .i64 P, .int .i64 X, .int .i64 R], .string s] w fun e w' => e = .returned (.tuple #[.agg #[.int .i64 0, .int .i64 0, .int .i64 0, .string ⟨#[]⟩], .int .i64 5]) ∧ Keeps NoB w w' := by
  have d1 : decide ((s.size : Int) < 19) = false := by simp; omega
  have g0 : 0 < s.size := Nat.lt_of_lt_of_le (by decide) hn
  have g1 : 1 < s.size := Nat.lt_of_lt_of_le (by decide) hn
  have h0 : ((s[0]'g0).toNat : Int) = byteI s 0 := byteI_at s 0 g0
  have h1 : ((s[1]'g1).toNat : Int) = byteI s 1 := byteI_at s 1 g1
  have i0 : (0 : Int) ≤ (s.size : Int) - 4 := by omega
  have i1 : (s.size : Int) - 4 ≤ (s.size : Int) := by omega
  have b1 : IntKind.i64.wrap ((s.size : Int) - 4) = (s.size : Int) - 4 := by rw [IntWalk.i64_left]; exact IntWalk.wrap64_in _ (by omega)
  have v9 := valOf_lt s.data.toList 9 2
  have b2 : IntKind.i64.wrap (((valOf s.data.toList 9 2 : Nat) : Int) + 19) = ((valOf s.data.toList 9 2 : Nat) : Int) + 19 := by rw [IntWalk.i64_left]; exact IntWalk.wrap64_in _ (by omega)
  clear v9
  have t0 : (byteI s 0 != 87) = true := by simp [f0]
  clear f0 h1
  go_enter Tryz.func80, Tryz.ntmps80
  go_upto_region 5 with (go_at_call 119; refine (refright_any _ _ _ _ _ _ _ _).mono ?_; rintro e w1 ⟨rfl, kx⟩; have K1 : Hid (Keeps NoB w w1) := (((Keeps.refl NoB w).alloc _).alloc _).trans kx; have rc := res_cells kx; clear kx)
  go_quiet (first | (go_at_call 122; exact Calls.quiet_of_same (refvalueI _ _ _ _ (by omega) (by omega) (by omega) (by omega) hz)) | (go_at_call 121; exact Calls.quiet_of_same (refsum_any _ _ (by simp; omega))))
  go_wp2
  exact bodyPost_ret (v := .tuple #[.agg #[.int .i64 0, .int .i64 0, .int .i64 0, .string ⟨#[]⟩], .int .i64 5]) (by simp [results, Tryz.results80, go_sem, rc]) rfl ⟨rfl, keeps4 (K1.out.drewN _)⟩
set_option maxRecDepth 20000 in
set_option maxHeartbeats 2000000 in
theorem refget_b1 (K M S W P X R : Int) (s : ByteArray) (w : World) (hr : rightB K M S W P X R = true) (hn : 19 ≤ s.size) (hz : s.size ≤ 281474976710656) (f0 : byteI s 0 = 87) (f1 : byteI s 1 ≠ 1) :
    Calls Tryz.prog 80 #[.agg #[.int .i64 K, .int .i64 M, .int .i64 S, .int .i64 W, .int .i64 P, .int .i64 X, .int .i64 R], .string s] w fun e w' => e = .returned (.tuple #[.agg #[.int .i64 0, .int .i64 0, .int .i64 0, .string ⟨#[]⟩], .int .i64 5]) ∧ Keeps NoB w w' := by
  have d1 : decide ((s.size : Int) < 19) = false := by simp; omega
  have g0 : 0 < s.size := Nat.lt_of_lt_of_le (by decide) hn
  have g1 : 1 < s.size := Nat.lt_of_lt_of_le (by decide) hn
  have h0 : ((s[0]'g0).toNat : Int) = byteI s 0 := byteI_at s 0 g0
  have h1 : ((s[1]'g1).toNat : Int) = byteI s 1 := byteI_at s 1 g1
  have i0 : (0 : Int) ≤ (s.size : Int) - 4 := by omega
  have i1 : (s.size : Int) - 4 ≤ (s.size : Int) := by omega
  have b1 : IntKind.i64.wrap ((s.size : Int) - 4) = (s.size : Int) - 4 := by rw [IntWalk.i64_left]; exact IntWalk.wrap64_in _ (by omega)
  have v9 := valOf_lt s.data.toList 9 2
  have b2 : IntKind.i64.wrap (((valOf s.data.toList 9 2 : Nat) : Int) + 19) = ((valOf s.data.toList 9 2 : Nat) : Int) + 19 := by rw [IntWalk.i64_left]; exact IntWalk.wrap64_in _ (by omega)
  clear v9
  have t0 : (byteI s 0 != 87) = false := by simp [f0]
  have t1 : (byteI s 1 != 1) = true := by simp [f1]
  clear f0 f1
  go_enter Tryz.func80, Tryz.ntmps80
  go_upto_region 5 with (go_at_call 119; refine (refright_any _ _ _ _ _ _ _ _).mono ?_; rintro e w1 ⟨rfl, kx⟩; have K1 : Hid (Keeps NoB w w1) := (((Keeps.refl NoB w).alloc _).alloc _).trans kx; have rc := res_cells kx; clear kx)
  go_quiet (first | (go_at_call 122; exact Calls.quiet_of_same (refvalueI _ _ _ _ (by omega) (by omega) (by omega) (by omega) hz)) | (go_at_call 121; exact Calls.quiet_of_same (refsum_any _ _ (by simp; omega))))
  go_wp2
  exact bodyPost_ret (v := .tuple #[.agg #[.int .i64 0, .int .i64 0, .int .i64 0, .string ⟨#[]⟩], .int .i64 5]) (by simp [results, Tryz.results80, go_sem, rc]) rfl ⟨rfl, keeps4 (K1.out.drewN _)⟩
set_option maxRecDepth 20000 in
set_option maxHeartbeats 2000000 in
theorem refget_len (K M S W P X R : Int) (s : ByteArray) (w : World) (hr : rightB K M S W P X R = true) (hn : 19 ≤ s.size) (hz : s.size ≤ 281474976710656) (f0 : byteI s 0 = 87) (f1 : byteI s 1 = 1) (f2 : valOf s.data.toList 9 2 + 19 ≠ s.size) :
    Calls Tryz.prog 80 #[.agg #[.int .i64 K, .int .i64 M, .int .i64 S, .int .i64 W, .int .i64 P, .int .i64 X, .int .i64 R], .string s] w fun e w' => e = .returned (.tuple #[.agg #[.int .i64 0, .int .i64 0, .int .i64 0, .string ⟨#[]⟩], .int .i64 5]) ∧ Keeps NoB w w' := by
  have d1 : decide ((s.size : Int) < 19) = false := by simp; omega
  have g0 : 0 < s.size := Nat.lt_of_lt_of_le (by decide) hn
  have g1 : 1 < s.size := Nat.lt_of_lt_of_le (by decide) hn
  have h0 : ((s[0]'g0).toNat : Int) = byteI s 0 := byteI_at s 0 g0
  have h1 : ((s[1]'g1).toNat : Int) = byteI s 1 := byteI_at s 1 g1
  have i0 : (0 : Int) ≤ (s.size : Int) - 4 := by omega
  have i1 : (s.size : Int) - 4 ≤ (s.size : Int) := by omega
  have b1 : IntKind.i64.wrap ((s.size : Int) - 4) = (s.size : Int) - 4 := by rw [IntWalk.i64_left]; exact IntWalk.wrap64_in _ (by omega)
  have v9 := valOf_lt s.data.toList 9 2
  have b2 : IntKind.i64.wrap (((valOf s.data.toList 9 2 : Nat) : Int) + 19) = ((valOf s.data.toList 9 2 : Nat) : Int) + 19 := by rw [IntWalk.i64_left]; exact IntWalk.wrap64_in _ (by omega)
  clear v9
  have t0 : (byteI s 0 != 87) = false := by simp [f0]
  have t1 : (byteI s 1 != 1) = false := by simp [f1]
  have t2 : (((valOf s.data.toList 9 2 : Nat) : Int) + 19 != (s.size : Int)) = true := by simp; omega
  clear f0 f1 f2
  go_enter Tryz.func80, Tryz.ntmps80
  go_upto_region 5 with (go_at_call 119; refine (refright_any _ _ _ _ _ _ _ _).mono ?_; rintro e w1 ⟨rfl, kx⟩; have K1 : Hid (Keeps NoB w w1) := (((Keeps.refl NoB w).alloc _).alloc _).trans kx; have rc := res_cells kx; clear kx)
  go_quiet (first | (go_at_call 122; exact Calls.quiet_of_same (refvalueI _ _ _ _ (by omega) (by omega) (by omega) (by omega) hz)) | (go_at_call 121; exact Calls.quiet_of_same (refsum_any _ _ (by simp; omega))))
  go_wp2
  exact bodyPost_ret (v := .tuple #[.agg #[.int .i64 0, .int .i64 0, .int .i64 0, .string ⟨#[]⟩], .int .i64 5]) (by simp [results, Tryz.results80, go_sem, rc]) rfl ⟨rfl, keeps4 (K1.out.drewN _)⟩
end Go.Proofs.YtgchiamkeeljkaaGreatDoor
