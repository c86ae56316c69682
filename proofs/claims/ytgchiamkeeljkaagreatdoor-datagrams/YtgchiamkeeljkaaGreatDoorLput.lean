/-
  weavelaw.World.put, over whatever weave.Put is held to (P8).
-/
import Derived.Test.YtgchiamkeeljkaaGreatDoorPlayg
import Derived.Test.YtgchiamkeeljkaaGreatDoorRpun
namespace Go.Proofs.YtgchiamkeeljkaaGreatDoor
open Go Go.RowKit

/-- weave.Put, where it may: a new row that reads as the document's datagram. -/
def PutYes : Prop := ∀ (K M S W P X R B I N : Int) (s : ByteArray) (bx cx : Nat) (w : World), s.size ≤ 140737488351232 → (∀ i, i < s.size → w.cell? ⟨bx, i, none⟩ = some (byteAt s i)) → s.size ≤ cx → bx < w.heap.size → putB K M S W P X R B I N s = true →
  Calls Tryz.prog 78 #[.agg #[.int .i64 K, .int .i64 M, .int .i64 S, .int .i64 W, .int .i64 P, .int .i64 X, .int .i64 R], .agg #[.int .i64 B, .int .i64 I, .int .i64 N, .slice (some ⟨bx, 0, none⟩) s.size cx]] w fun e w' => ∃ g c m f, e = .returned (.tuple #[.slice (some ⟨g, 0, none⟩) (s.size + 19) c, .int .i64 0]) ∧ w.heap.size ≤ g ∧ g < w'.heap.size ∧ w'.rowIs g 5 m f ∧ c ≤ m ∧ s.size + 19 ≤ c ∧ (∀ i, i < s.size + 19 → f i = byteAt (putS K M S B I N s) i) ∧ Keeps NoB w w'
/-- Where it may not: nil, and 1. -/
def PutNo : Prop := ∀ (K M S W P X R B I N : Int) (s : ByteArray) (bx cx : Nat) (w : World), s.size ≤ 140737488351232 → (∀ i, i < s.size → w.cell? ⟨bx, i, none⟩ = some (byteAt s i)) → s.size ≤ cx → bx < w.heap.size → putB K M S W P X R B I N s = false →
  Calls Tryz.prog 78 #[.agg #[.int .i64 K, .int .i64 M, .int .i64 S, .int .i64 W, .int .i64 P, .int .i64 X, .int .i64 R], .agg #[.int .i64 B, .int .i64 I, .int .i64 N, .slice (some ⟨bx, 0, none⟩) s.size cx]] w fun e w' => e = .returned (.tuple #[.slice none 0 0, .int .i64 1]) ∧ Keeps NoB w w'

/-- The cells that put reads: of the configuration and of the step. -/
def PutC (bc bo : Nat) (K M S W P X R B I N : Int) (s : ByteArray) (w : World) : Prop := w.cell? ⟨bc, 0, none⟩ = some (.int .i64 K) ∧ w.cell? ⟨bc, 1, none⟩ = some (.int .i64 M) ∧ w.cell? ⟨bc, 2, none⟩ = some (.int .i64 S) ∧ w.cell? ⟨bc, 3, none⟩ = some (.int .i64 W) ∧ w.cell? ⟨bc, 4, none⟩ = some (.int .i64 P) ∧ w.cell? ⟨bc, 5, none⟩ = some (.int .i64 X) ∧ w.cell? ⟨bc, 6, none⟩ = some (.int .i64 R) ∧ w.cell? ⟨bo, 2, none⟩ = some (.int .i64 B) ∧ w.cell? ⟨bo, 3, none⟩ = some (.int .i64 I) ∧ w.cell? ⟨bo, 4, none⟩ = some (.int .i64 N) ∧ w.cell? ⟨bo, 5, none⟩ = some (.string s)
theorem PutC.keeps {Q : Nat → Prop} {bc bo : Nat} {K M S W P X R B I N : Int} {s : ByteArray} {w w' : World} (h : PutC bc bo K M S W P X R B I N s w) (q : Keeps Q w w') (h1 : ¬ Q bc) (h2 : ¬ Q bo) : PutC bc bo K M S W P X R B I N s w' := by
  obtain ⟨a0, a1, a2, a3, a4, a5, a6, a7, a8, a9, aa⟩ := h
  have l1 := World.block_lt_of_cell? w _ a0
  have l2 := World.block_lt_of_cell? w _ a7
  exact ⟨(q.cell (a := ⟨bc, 0, none⟩) l1 h1).trans a0, (q.cell (a := ⟨bc, 1, none⟩) l1 h1).trans a1, (q.cell (a := ⟨bc, 2, none⟩) l1 h1).trans a2, (q.cell (a := ⟨bc, 3, none⟩) l1 h1).trans a3, (q.cell (a := ⟨bc, 4, none⟩) l1 h1).trans a4, (q.cell (a := ⟨bc, 5, none⟩) l1 h1).trans a5, (q.cell (a := ⟨bc, 6, none⟩) l1 h1).trans a6, (q.cell (a := ⟨bo, 2, none⟩) l2 h2).trans a7, (q.cell (a := ⟨bo, 3, none⟩) l2 h2).trans a8, (q.cell (a := ⟨bo, 4, none⟩) l2 h2).trans a9, (q.cell (a := ⟨bo, 5, none⟩) l2 h2).trans aa⟩
theorem putC_start (w : World) (K M S W P X R B I N k a : Int) (s t : ByteArray) (la lb : Option Addr) (ln lc hn hc : Nat) :
    ∃ w0, ((w.alloc (.cells #[.int .i64 K, .int .i64 M, .int .i64 S, .int .i64 W, .int .i64 P, .int .i64 X, .int .i64 R] 37)).alloc (.cells #[.int .i64 k, .int .i64 a, .int .i64 B, .int .i64 I, .int .i64 N, .string s, .string t, .slice la ln lc, .slice lb hn hc] 28)) = w0 ∧ PutC w.heap.size (w.heap.size + 1) K M S W P X R B I N s w0 ∧ Keeps NoB w w0 ∧ w0.heap.size = w.heap.size + 2 := by
  refine ⟨_, rfl, ?_, ((Keeps.refl NoB w).alloc _).alloc _, by simp⟩
  have c1 : ∀ j v, (#[.int .i64 k, .int .i64 a, .int .i64 B, .int .i64 I, .int .i64 N, .string s, .string t, .slice la ln lc, .slice lb hn hc] : Array Value)[j]? = some v → ((w.alloc (.cells #[.int .i64 K, .int .i64 M, .int .i64 S, .int .i64 W, .int .i64 P, .int .i64 X, .int .i64 R] 37)).alloc (.cells #[.int .i64 k, .int .i64 a, .int .i64 B, .int .i64 I, .int .i64 N, .string s, .string t, .slice la ln lc, .slice lb hn hc] 28)).cell? ⟨w.heap.size + 1, j, none⟩ = some v := fun j v hv => by
    have := box_cell (w := w.alloc (.cells #[.int .i64 K, .int .i64 M, .int .i64 S, .int .i64 W, .int .i64 P, .int .i64 X, .int .i64 R] 37)) (t := 28) hv
    rwa [show (w.alloc (.cells #[.int .i64 K, .int .i64 M, .int .i64 S, .int .i64 W, .int .i64 P, .int .i64 X, .int .i64 R] 37)).heap.size = w.heap.size + 1 by simp] at this
  have c0 : ∀ j v, (#[.int .i64 K, .int .i64 M, .int .i64 S, .int .i64 W, .int .i64 P, .int .i64 X, .int .i64 R] : Array Value)[j]? = some v → ((w.alloc (.cells #[.int .i64 K, .int .i64 M, .int .i64 S, .int .i64 W, .int .i64 P, .int .i64 X, .int .i64 R] 37)).alloc (.cells #[.int .i64 k, .int .i64 a, .int .i64 B, .int .i64 I, .int .i64 N, .string s, .string t, .slice la ln lc, .slice lb hn hc] 28)).cell? ⟨w.heap.size, j, none⟩ = some v := fun j v hv => by
    have h1 := box_cell (w := w) (t := 37) hv
    exact ((keepsNo (w.alloc (.cells #[.int .i64 K, .int .i64 M, .int .i64 S, .int .i64 W, .int .i64 P, .int .i64 X, .int .i64 R] 37)) _).cell (a := ⟨w.heap.size, j, none⟩) (by simp) (fun x => x)).trans h1
  exact ⟨c0 0 _ rfl, c0 1 _ rfl, c0 2 _ rfl, c0 3 _ rfl, c0 4 _ rfl, c0 5 _ rfl, c0 6 _ rfl, c1 2 _ rfl, c1 3 _ rfl, c1 4 _ rfl, c1 5 _ rfl⟩

set_option maxRecDepth 20000 in
set_option maxHeartbeats 4000000 in
theorem law_put_yes (hP : PutYes) (Bk bw : Nat) (F : Nat → Value) (L : List Sl) (w : World) (h : St Bk bw F L w) (hL : (L.length + 4) * 24 ≤ 140737488355328) (K M S W P X R k a B I N : Int) (s t : ByteArray) (hs : s.size ≤ 140737488351232) (la lb : Option Addr) (ln lc hn hc : Nat) (hp : putB K M S W P X R B I N s = true) :
    Calls Tryz.prog 41 #[.pointer (some ⟨bw, 0, none⟩), .agg #[.int .i64 K, .int .i64 M, .int .i64 S, .int .i64 W, .int .i64 P, .int .i64 X, .int .i64 R], .agg #[.int .i64 k, .int .i64 a, .int .i64 B, .int .i64 I, .int .i64 N, .string s, .string t, .slice la ln lc, .slice lb hn hc]] w fun e w' => e = .returned (.bool true) ∧ StepPost Bk bw F L w w' := by
  have HS : Hid (St Bk bw F L w) := h
  have hs1 : s.size + 19 ≤ 140737488351232 := by
    unfold putB at hp
    rw [Bool.and_eq_true] at hp
    obtain ⟨hr, hq⟩ := hp
    obtain ⟨_, _, _, _, _, _, a7⟩ := of_decide_eq_true hq
    obtain ⟨_, _, _, _, _, s2, _, _⟩ := right_bd hr
    omega
  have HR : Hid (∀ w, Calls Tryz.prog 79 #[.agg #[.int .i64 K, .int .i64 M, .int .i64 S, .int .i64 W, .int .i64 P, .int .i64 X, .int .i64 R], .agg #[.int .i64 B, .int .i64 I, .int .i64 N, .string s]] w fun e w' => e = .returned (.tuple #[.string (putS K M S B I N s), .int .i64 0]) ∧ Keeps NoB w w') := fun w => by
    have hp' := hp
    unfold putB at hp'
    rw [Bool.and_eq_true] at hp'
    obtain ⟨hr, hq⟩ := hp'
    obtain ⟨a1, a2, a3, a4, a5, a6, a7⟩ := of_decide_eq_true hq
    exact refput_yes K M S W P X R B I N s w hr a1 a2 a3 a4 a5 a6 a7
  have HPY : Hid (∀ (bx : Nat) (w : World), w.rowIs bx 5 (s.size + 8) (lentF s) → bx < w.heap.size → Calls Tryz.prog 78 #[.agg #[.int .i64 K, .int .i64 M, .int .i64 S, .int .i64 W, .int .i64 P, .int .i64 X, .int .i64 R], .agg #[.int .i64 B, .int .i64 I, .int .i64 N, .slice (some ⟨bx, 0, none⟩) s.size (s.size + 8)]] w fun e w' => ∃ g c m f, e = .returned (.tuple #[.slice (some ⟨g, 0, none⟩) (s.size + 19) c, .int .i64 0]) ∧ w.heap.size ≤ g ∧ g < w'.heap.size ∧ w'.rowIs g 5 m f ∧ c ≤ m ∧ s.size + 19 ≤ c ∧ (∀ i, i < s.size + 19 → f i = byteAt (putS K M S B I N s) i) ∧ Keeps NoB w w') := fun bx w h1 h2 => hP K M S W P X R B I N s bx _ w hs (lent_cells h1) (by omega) h2 hp
  have HTZ : Hid ((putS K M S B I N s).size = s.size + 19) := putS_size K M S B I N s
  generalize putS K M S B I N s = T at HR HPY HTZ
  clear h hp hP
  go_enter Tryz.func41, Tryz.ntmps41
  go_upto_region 1 with fail
  obtain ⟨w0, hw0, b0, k0, z0⟩ := putC_start w K M S W P X R B I N k a s t la lb ln lc hn hc
  rw [hw0]
  have B0 : Hid (PutC w.heap.size (w.heap.size + 1) K M S W P X R B I N s w0) := b0
  have K0 : Hid (Keeps NoB w w0) := k0
  have Z0 : Hid (w0.heap.size = w.heap.size + 2) := z0
  clear hw0 k0 z0
  unfold PutC at b0
  go_upto_region 5 with (first | (go_at_call 56; refine (lent_any s _ hs).mono ?_; rintro e w1 ⟨rfl, r1, k1, z1⟩; have R1 : Hid (w1.rowIs w0.heap.size 5 (s.size + 8) (lentF s)) := r1; have K1 : Hid (Keeps NoB w0 w1) := k1; have Z1 : Hid (w1.heap.size = w0.heap.size + 1) := z1; have b1 := B0.out.keeps k1 (fun x => x) (fun x => x); have B1 : Hid (PutC w.heap.size (w.heap.size + 1) K M S W P X R B I N s w1) := b1; clear r1 k1 z1; unfold PutC at b1) | (go_at_call 78; refine (HPY.out w0.heap.size w1 R1.out (by have := Z1.out; omega)).mono ?_; rintro e w2 ⟨g, c, m, f, rfl, g1, g2, r2, c1, c2, f2, k2⟩; have G2 : Hid (w1.heap.size ≤ g ∧ g < w2.heap.size ∧ w2.rowIs g 5 m f ∧ c ≤ m ∧ s.size + 19 ≤ c ∧ (∀ i, i < s.size + 19 → f i = byteAt T i)) := ⟨g1, g2, r2, c1, c2, f2⟩; have K2 : Hid (Keeps NoB w1 w2) := k2; have b2 := B1.out.keeps k2 (fun x => x) (fun x => x); have B2 : Hid (PutC w.heap.size (w.heap.size + 1) K M S W P X R B I N s w2) := b2; clear g1 g2 r2 c1 c2 f2 k2; unfold PutC at b2) | (go_at_call 79; refine (HR.out _).mono ?_; rintro e w3 ⟨rfl, k3⟩; have K3 : Hid (Keeps NoB w2 w3) := k3; have b3 := B2.out.keeps k3 (fun x => x) (fun x => x); clear k3; unfold PutC at b3) | (go_at_call 59; refine (whole_any s w0.heap.size _ hs (K3.out.rowIs (K2.out.rowIs R1.out (fun x => x)) (fun x => x))).mono ?_; rintro e w4 ⟨rfl, _, k4, z4⟩; have K4 : Hid (Keeps (OnlyB w0.heap.size) w3 w4) := k4; clear k4 z4))
  have R4 : Hid (w4.rowIs g 5 m f) := K4.out.rowIs (K3.out.rowIs G2.out.2.2.1 (fun x => x)) (show ¬ g = w0.heap.size by have := Z1.out; have := G2.out.1; omega)
  have hcv := run_convert_text (P := Tryz.prog) w4 54 5 9 Tryz.underlying54 Tryz.underlying5 Tryz.underlying9 g 0 (s.size + 19) c T HTZ.out (fun i hi => by rw [Nat.zero_add, R4.out.cell (by have := G2.out.2.2.2.1; have := G2.out.2.2.2.2.1; omega)]; rw [G2.out.2.2.2.2.2 i hi])
  have hnil := fun w => Lib.run_eql_slice_nil (P := Tryz.prog) w 54 5 (some ⟨g, 0, none⟩) (s.size + 19) c 0 0 Tryz.underlying54
  have K04 : Hid (Keeps NoB w w4) := (((K0.out.trans K1.out).trans K2.out).trans K3.out).trans' K4.out (fun x hx e => by have e' : x = w0.heap.size := e; have := Z0.out; omega)
  have S4 : Hid (St Bk bw F L w4) := HS.out.keeps K04.out (fun _ _ x => x.elim)
  have W4 : Hid (w.heap.size ≤ g ∧ g < w4.heap.size) := by
    have := Z0.out; have := Z1.out; have := G2.out.1; have := G2.out.2.1; have := K3.out.size; have := K4.out.size
    exact ⟨by omega, by omega⟩
  have RM : Hid (Roomy w4 ⟨some ⟨g, 0, none⟩, s.size + 19, c⟩) := .inr ⟨g, 0, m, f, rfl, R4.out, by have := G2.out.2.2.2.1; simp; omega, G2.out.2.2.2.2.1⟩
  clear K0 K1 K2 K3 K4 Z0 Z1 R1 b0 b1 b2 b3 B0 B1 B2 R4 HPY HR G2
  go_wp2_with (go_at_call 60; refine (keeps_row Bk bw F L _ g 0 (s.size + 19) c S4.out.book S4.out.four RM.out (far_new HS.out.book W4.out.1 W4.out.2) hs1 hL).mono ?_; rintro e w7 ⟨rfl, hp⟩; have HP : Hid (KeptPost Bk bw F L ⟨some ⟨g, 0, none⟩, s.size + 19, c⟩ w4 w7) := hp; clear hp)
  go_ret
  exact ⟨by simp, HS.out.kept K04.out hs1 HP.out⟩

set_option maxRecDepth 20000 in
set_option maxHeartbeats 4000000 in
theorem law_put_no (hP : PutNo) (Bk bw : Nat) (F : Nat → Value) (L : List Sl) (w : World) (h : St Bk bw F L w) (hL : (L.length + 4) * 24 ≤ 140737488355328) (K M S W P X R k a B I N : Int) (s t : ByteArray) (hs : s.size ≤ 140737488351232) (la lb : Option Addr) (ln lc hn hc : Nat) (hp : putB K M S W P X R B I N s = false) :
    Calls Tryz.prog 41 #[.pointer (some ⟨bw, 0, none⟩), .agg #[.int .i64 K, .int .i64 M, .int .i64 S, .int .i64 W, .int .i64 P, .int .i64 X, .int .i64 R], .agg #[.int .i64 k, .int .i64 a, .int .i64 B, .int .i64 I, .int .i64 N, .string s, .string t, .slice la ln lc, .slice lb hn hc]] w fun e w' => e = .returned (.bool true) ∧ StepPost Bk bw F L w w' := by
  have HS : Hid (St Bk bw F L w) := h
  have HR : Hid (∀ w, Calls Tryz.prog 79 #[.agg #[.int .i64 K, .int .i64 M, .int .i64 S, .int .i64 W, .int .i64 P, .int .i64 X, .int .i64 R], .agg #[.int .i64 B, .int .i64 I, .int .i64 N, .string s]] w fun e w' => e = .returned (.tuple #[.string ⟨#[]⟩, .int .i64 1]) ∧ Keeps NoB w w') := fun w => refput_no K M S W P X R B I N s w hp
  have HPN : Hid (∀ (bx : Nat) (w : World), w.rowIs bx 5 (s.size + 8) (lentF s) → bx < w.heap.size → Calls Tryz.prog 78 #[.agg #[.int .i64 K, .int .i64 M, .int .i64 S, .int .i64 W, .int .i64 P, .int .i64 X, .int .i64 R], .agg #[.int .i64 B, .int .i64 I, .int .i64 N, .slice (some ⟨bx, 0, none⟩) s.size (s.size + 8)]] w fun e w' => e = .returned (.tuple #[.slice none 0 0, .int .i64 1]) ∧ Keeps NoB w w') := fun bx w h1 h2 => hP K M S W P X R B I N s bx _ w hs (lent_cells h1) (by omega) h2 hp
  clear h hp hP
  go_enter Tryz.func41, Tryz.ntmps41
  go_upto_region 1 with fail
  obtain ⟨w0, hw0, b0, k0, z0⟩ := putC_start w K M S W P X R B I N k a s t la lb ln lc hn hc
  rw [hw0]
  have B0 : Hid (PutC w.heap.size (w.heap.size + 1) K M S W P X R B I N s w0) := b0
  have K0 : Hid (Keeps NoB w w0) := k0
  have Z0 : Hid (w0.heap.size = w.heap.size + 2) := z0
  clear hw0 k0 z0
  unfold PutC at b0
  go_upto_region 5 with (first | (go_at_call 56; refine (lent_any s _ hs).mono ?_; rintro e w1 ⟨rfl, r1, k1, z1⟩; have R1 : Hid (w1.rowIs w0.heap.size 5 (s.size + 8) (lentF s)) := r1; have K1 : Hid (Keeps NoB w0 w1) := k1; have Z1 : Hid (w1.heap.size = w0.heap.size + 1) := z1; have b1 := B0.out.keeps k1 (fun x => x) (fun x => x); have B1 : Hid (PutC w.heap.size (w.heap.size + 1) K M S W P X R B I N s w1) := b1; clear r1 k1 z1; unfold PutC at b1) | (go_at_call 78; refine (HPN.out w0.heap.size w1 R1.out (by have := Z1.out; omega)).mono ?_; rintro e w2 ⟨rfl, k2⟩; have K2 : Hid (Keeps NoB w1 w2) := k2; have b2 := B1.out.keeps k2 (fun x => x) (fun x => x); have B2 : Hid (PutC w.heap.size (w.heap.size + 1) K M S W P X R B I N s w2) := b2; clear k2; unfold PutC at b2) | (go_at_call 79; refine (HR.out _).mono ?_; rintro e w3 ⟨rfl, k3⟩; have K3 : Hid (Keeps NoB w2 w3) := k3; have b3 := B2.out.keeps k3 (fun x => x) (fun x => x); clear k3; unfold PutC at b3) | (go_at_call 59; refine (whole_any s w0.heap.size _ hs (K3.out.rowIs (K2.out.rowIs R1.out (fun x => x)) (fun x => x))).mono ?_; rintro e w4 ⟨rfl, _, k4, z4⟩; have K4 : Hid (Keeps (OnlyB w0.heap.size) w3 w4) := k4; clear k4 z4))
  have hcv := run_convert_bytes_nil (P := Tryz.prog) w4 54 5 Tryz.underlying54 Tryz.underlying5 0 0 9 Tryz.underlying9
  have hnil := fun w => Lib.run_eql_slice_nil (P := Tryz.prog) w 54 5 none 0 0 0 0 Tryz.underlying54
  have K04 : Hid (Keeps NoB w w4) := (((K0.out.trans K1.out).trans K2.out).trans K3.out).trans' K4.out (fun x hx e => by have e' : x = w0.heap.size := e; have := Z0.out; omega)
  have S4 : Hid (St Bk bw F L w4) := HS.out.keeps K04.out (fun _ _ x => x.elim)
  clear K0 K1 K2 K3 K4 Z0 Z1 R1 b0 b1 b2 b3 B0 B1 B2 HPN HR
  go_wp2_with (go_at_call 60; refine (keeps_nil Bk bw F L _ S4.out.book S4.out.four hL).mono ?_; rintro e w7 ⟨rfl, hp⟩; have HP : Hid (KeptPost Bk bw F L ⟨none, 0, 0⟩ w4 w7) := hp; clear hp)
  go_ret
  exact ⟨by simp, HS.out.kept K04.out (by show 0 ≤ _; omega) HP.out⟩
end Go.Proofs.YtgchiamkeeljkaaGreatDoor
