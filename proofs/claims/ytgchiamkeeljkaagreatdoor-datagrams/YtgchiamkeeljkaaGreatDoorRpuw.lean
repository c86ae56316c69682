/-
  The document's datagrams (package weaveref): Put.
-/
import Derived.Test.YtgchiamkeeljkaaGreatDoorRput
namespace Go.Proofs.YtgchiamkeeljkaaGreatDoor
open Go Go.RowKit Go.Proofs.YtgchiamkeeljkaaGreatDoor.M

theorem refbytesI (n k : Int) (w : World) (h1 : 0 ≤ n) (h2 : n ≤ 4294967296) (h3 : 0 ≤ k) (h4 : k ≤ 8) :
    Calls Tryz.prog 120 #[.int .i64 n, .int .i64 k] w fun e w' => e = .returned (.string (lowS n.toNat k.toNat)) ∧ Keeps NoB w w' := by
  obtain ⟨a, rfl⟩ := Int.eq_ofNat_of_zero_le h1
  obtain ⟨b, rfl⟩ := Int.eq_ofNat_of_zero_le h3
  rw [Int.toNat_natCast, Int.toNat_natCast]
  exact refbytes_any a b w (by omega) (by omega)
theorem put_keeps {S' : Nat → Prop} {w w' : World} {bc bd : Nat} {k m z b i n s : Value} (h : w.cell? ⟨bc, 0, none⟩ = some k ∧ w.cell? ⟨bc, 1, none⟩ = some m ∧ w.cell? ⟨bc, 2, none⟩ = some z ∧ w.cell? ⟨bd, 0, none⟩ = some b ∧ w.cell? ⟨bd, 1, none⟩ = some i ∧ w.cell? ⟨bd, 2, none⟩ = some n ∧ w.cell? ⟨bd, 3, none⟩ = some s) (q : Keeps S' w w') (h1 : ¬ S' bc) (h2 : ¬ S' bd) :
    w'.cell? ⟨bc, 0, none⟩ = some k ∧ w'.cell? ⟨bc, 1, none⟩ = some m ∧ w'.cell? ⟨bc, 2, none⟩ = some z ∧ w'.cell? ⟨bd, 0, none⟩ = some b ∧ w'.cell? ⟨bd, 1, none⟩ = some i ∧ w'.cell? ⟨bd, 2, none⟩ = some n ∧ w'.cell? ⟨bd, 3, none⟩ = some s := by
  obtain ⟨a0, a1, a2, a3, a4, a5, a6⟩ := h
  have c1 := World.block_lt_of_cell? w _ a0
  have c2 := World.block_lt_of_cell? w _ a3
  exact ⟨(q.cell (a := ⟨bc, 0, none⟩) c1 h1).trans a0, (q.cell (a := ⟨bc, 1, none⟩) c1 h1).trans a1, (q.cell (a := ⟨bc, 2, none⟩) c1 h1).trans a2, (q.cell (a := ⟨bd, 0, none⟩) c2 h2).trans a3, (q.cell (a := ⟨bd, 1, none⟩) c2 h2).trans a4, (q.cell (a := ⟨bd, 2, none⟩) c2 h2).trans a5, (q.cell (a := ⟨bd, 3, none⟩) c2 h2).trans a6⟩
theorem put_drew {w : World} {bc bd : Nat} {k m z b i n s : Value} (h : w.cell? ⟨bc, 0, none⟩ = some k ∧ w.cell? ⟨bc, 1, none⟩ = some m ∧ w.cell? ⟨bc, 2, none⟩ = some z ∧ w.cell? ⟨bd, 0, none⟩ = some b ∧ w.cell? ⟨bd, 1, none⟩ = some i ∧ w.cell? ⟨bd, 2, none⟩ = some n ∧ w.cell? ⟨bd, 3, none⟩ = some s) :
    w.drew.cell? ⟨bc, 0, none⟩ = some k ∧ w.drew.cell? ⟨bc, 1, none⟩ = some m ∧ w.drew.cell? ⟨bc, 2, none⟩ = some z ∧ w.drew.cell? ⟨bd, 0, none⟩ = some b ∧ w.drew.cell? ⟨bd, 1, none⟩ = some i ∧ w.drew.cell? ⟨bd, 2, none⟩ = some n ∧ w.drew.cell? ⟨bd, 3, none⟩ = some s := h
set_option maxRecDepth 20000 in
set_option maxHeartbeats 2000000 in
theorem refput_yes (K M S W P X R B I N : Int) (s : ByteArray) (w : World) (hr : rightB K M S W P X R = true) (b1 : 0 ≤ B) (b2 : B ≤ 2147483647) (i1 : 0 ≤ I) (i2 : I < K + M) (n1 : 0 ≤ N) (n2 : N ≤ K * S) (hs : (s.size : Int) = S) :
    Calls Tryz.prog 79 #[.agg #[.int .i64 K, .int .i64 M, .int .i64 S, .int .i64 W, .int .i64 P, .int .i64 X, .int .i64 R], .agg #[.int .i64 B, .int .i64 I, .int .i64 N, .string s]] w fun e w' => e = .returned (.tuple #[.string (putS K M S B I N s), .int .i64 0]) ∧ Keeps NoB w w' := by
  obtain ⟨k1, k2, m1, m2, s1, s2, p1, p2⟩ := right_bd hr
  have hs' : ((s.size : Int) != S) = false := by simp [hs]
  have hz := lowS_size
  have HS : Hid (s.size ≤ 1024) := by show _ ≤ _; omega
  have hc1 : ¬ (9223372036854775807 < 15 + s.size) := by omega
  have hc2 : (15 + s.size > 9223372036854775807) = False := by simp; omega
  have h87 : (⟨#[87]⟩ : ByteArray).size = 1 := rfl
  clear hs
  go_enter Tryz.func79, Tryz.ntmps79
  go_upto_region 4 with (go_at_call 119; refine (refright_any _ _ _ _ _ _ _ _).mono ?_; rintro e w1 ⟨rfl, kx⟩; have K1 : Hid (Keeps NoB _ w1) := kx; have sw := put_keeps (bc := w.heap.size) (bd := w.heap.size + 1) (k := .int .i64 K) (m := .int .i64 M) (z := .int .i64 S) (b := .int .i64 B) (i := .int .i64 I) (n := .int .i64 N) (s := .string s) (by refine ⟨?_, ?_, ?_, ?_, ?_, ?_, ?_⟩ <;> simp [World.cell?_alloc_past, World.cell?_alloc_at]) kx (fun x => x) (fun x => x); clear kx)
  have KW : Hid (Keeps NoB w w1) := (((Keeps.refl NoB w).alloc _).alloc _).trans K1.out
  have KD : Hid (Keeps NoB w w1.drew) := KW.out.drew
  replace sw := put_drew sw
  clear K1
  go_region_held3 (fun w' => w'.cell? ⟨w.heap.size, 0, none⟩ = some (.int .i64 K) ∧ w'.cell? ⟨w.heap.size, 1, none⟩ = some (.int .i64 M) ∧ w'.cell? ⟨w.heap.size, 2, none⟩ = some (.int .i64 S) ∧ w'.cell? ⟨w.heap.size + 1, 0, none⟩ = some (.int .i64 B) ∧ w'.cell? ⟨w.heap.size + 1, 1, none⟩ = some (.int .i64 I) ∧ w'.cell? ⟨w.heap.size + 1, 2, none⟩ = some (.int .i64 N) ∧ w'.cell? ⟨w.heap.size + 1, 3, none⟩ = some (.string s)) (first | (exact sw) | go_keep) (first | (go_at_call 120; refine (refbytesI _ _ _ (by omega) (by omega) (by omega) (by omega)).mono ?_; rintro e wx ⟨rfl, kx⟩; replace sw := put_keeps (S' := NoB) sw kx (fun x => x) (fun x => x); replace KD := Keeps.trans KD kx; clear kx))
  have EB : Hid ((⟨#[87]⟩ : ByteArray) ++ lowS 1 1 ++ lowS B.toNat 4 ++ lowS I.toNat 1 ++ lowS K.toNat 1 ++ lowS M.toNat 1 ++ lowS S.toNat 2 ++ lowS N.toNat 4 ++ s = bodyS K M S B I N s) := rfl
  have hb0 := bodyS_size K M S B I N s
  have hb1 : Hid ((bodyS K M S B I N s).size ≤ 281474976710656) := by have := HS.out; show _ ≤ _; omega
  have hb2 : sumOf (bodyS K M S B I N s) ≤ 4294967296 := Nat.le_of_lt (sumFrom_lt _ _ (by decide))
  have EP : Hid (bodyS K M S B I N s ++ lowS (sumOf (bodyS K M S B I N s)) 4 = putS K M S B I N s) := rfl
  have hc3 : ¬ (9223372036854775807 < s.size + 15 + 4) := by have := HS.out; omega
  rw [EB.out]
  generalize bodyS K M S B I N s = T at hb0 hb1 hb2 EP ⊢
  clear EB sw
  go_wp2_with (first | (go_at_call 121; refine (refsum_any _ _ hb1.out).mono ?_; rintro e w2 ⟨rfl, hw2⟩; obtain rfl := hw2.symm) | (go_at_call 120; refine (refbytesI _ _ _ (by omega) (by omega) (by omega) (by omega)).mono ?_; rintro e w3 ⟨rfl, k3⟩; have K3 : Hid (Keeps NoB _ w3) := k3; clear k3))
  go_ret2
  exact ⟨by rw [← EP.out]; rfl, Keeps.trans KD K3.out⟩
end Go.Proofs.YtgchiamkeeljkaaGreatDoor
