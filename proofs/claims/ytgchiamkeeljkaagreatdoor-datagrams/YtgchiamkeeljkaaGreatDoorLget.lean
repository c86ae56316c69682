/-
  weavelaw.World.get, over whatever weave.Get is held to (P9).
-/
import Derived.Test.YtgchiamkeeljkaaGreatDoorLput
import Derived.Test.YtgchiamkeeljkaaGreatDoorRgeu
namespace Go.Proofs.YtgchiamkeeljkaaGreatDoor
open Go Go.RowKit

/-- weave.Get, of a datagram: its numbers, and its shard in a new row. -/
def GetYes : Prop := ∀ (K M S W P X R : Int) (s : ByteArray) (bx cx : Nat) (w : World), s.size ≤ 140737488351232 → (∀ i, i < s.size → w.cell? ⟨bx, i, none⟩ = some (byteAt s i)) → s.size ≤ cx → bx < w.heap.size → getE K M S W P X R s = 0 →
  Calls Tryz.prog 49 #[.agg #[.int .i64 K, .int .i64 M, .int .i64 S, .int .i64 W, .int .i64 P, .int .i64 X, .int .i64 R], .slice (some ⟨bx, 0, none⟩) s.size cx] w fun e w' => ∃ g c m f, e = .returned (.tuple #[.agg #[.int .i64 ((valOf s.data.toList 2 4 : Nat) : Int), .int .i64 ((valOf s.data.toList 6 1 : Nat) : Int), .int .i64 ((valOf s.data.toList 11 4 : Nat) : Int), .slice (some ⟨g, 0, none⟩) (s.size - 19) c], .int .i64 0]) ∧ w.heap.size ≤ g ∧ g < w'.heap.size ∧ w'.rowIs g 5 m f ∧ c ≤ m ∧ s.size - 19 ≤ c ∧ (∀ i, i < s.size - 19 → f i = byteAt (s.extract 15 (s.size - 4)) i) ∧ Keeps NoB w w'
/-- Of what is none: zeros, and the error. -/
def GetNo : Prop := ∀ (K M S W P X R : Int) (s : ByteArray) (bx cx : Nat) (w : World), s.size ≤ 140737488351232 → (∀ i, i < s.size → w.cell? ⟨bx, i, none⟩ = some (byteAt s i)) → s.size ≤ cx → bx < w.heap.size → getE K M S W P X R s ≠ 0 →
  Calls Tryz.prog 49 #[.agg #[.int .i64 K, .int .i64 M, .int .i64 S, .int .i64 W, .int .i64 P, .int .i64 X, .int .i64 R], .slice (some ⟨bx, 0, none⟩) s.size cx] w fun e w' => e = .returned (.tuple #[.agg #[.int .i64 0, .int .i64 0, .int .i64 0, .slice none 0 0], .int .i64 (getE K M S W P X R s)]) ∧ Keeps NoB w w'

/-- The cells that get reads: of the configuration and of the step. -/
def GetC (bc bo : Nat) (K M S W P X R : Int) (s : ByteArray) (w : World) : Prop := w.cell? ⟨bc, 0, none⟩ = some (.int .i64 K) ∧ w.cell? ⟨bc, 1, none⟩ = some (.int .i64 M) ∧ w.cell? ⟨bc, 2, none⟩ = some (.int .i64 S) ∧ w.cell? ⟨bc, 3, none⟩ = some (.int .i64 W) ∧ w.cell? ⟨bc, 4, none⟩ = some (.int .i64 P) ∧ w.cell? ⟨bc, 5, none⟩ = some (.int .i64 X) ∧ w.cell? ⟨bc, 6, none⟩ = some (.int .i64 R) ∧ w.cell? ⟨bo, 5, none⟩ = some (.string s)
theorem GetC.keeps {Q : Nat → Prop} {bc bo : Nat} {K M S W P X R : Int} {s : ByteArray} {w w' : World} (h : GetC bc bo K M S W P X R s w) (q : Keeps Q w w') (h1 : ¬ Q bc) (h2 : ¬ Q bo) : GetC bc bo K M S W P X R s w' := by
  obtain ⟨a0, a1, a2, a3, a4, a5, a6, aa⟩ := h
  have l1 := World.block_lt_of_cell? w _ a0
  have l2 := World.block_lt_of_cell? w _ aa
  exact ⟨(q.cell (a := ⟨bc, 0, none⟩) l1 h1).trans a0, (q.cell (a := ⟨bc, 1, none⟩) l1 h1).trans a1, (q.cell (a := ⟨bc, 2, none⟩) l1 h1).trans a2, (q.cell (a := ⟨bc, 3, none⟩) l1 h1).trans a3, (q.cell (a := ⟨bc, 4, none⟩) l1 h1).trans a4, (q.cell (a := ⟨bc, 5, none⟩) l1 h1).trans a5, (q.cell (a := ⟨bc, 6, none⟩) l1 h1).trans a6, (q.cell (a := ⟨bo, 5, none⟩) l2 h2).trans aa⟩
theorem getC_start (w : World) (K M S W P X R k a b c d : Int) (s t : ByteArray) (la lb : Option Addr) (ln lc hn hc : Nat) :
    ∃ w0, ((w.alloc (.cells #[.int .i64 K, .int .i64 M, .int .i64 S, .int .i64 W, .int .i64 P, .int .i64 X, .int .i64 R] 37)).alloc (.cells #[.int .i64 k, .int .i64 a, .int .i64 b, .int .i64 c, .int .i64 d, .string s, .string t, .slice la ln lc, .slice lb hn hc] 28)) = w0 ∧ GetC w.heap.size (w.heap.size + 1) K M S W P X R s w0 ∧ Keeps NoB w w0 ∧ w0.heap.size = w.heap.size + 2 := by
  obtain ⟨w0, h1, h2, h3, h4⟩ := putC_start w K M S W P X R b c d k a s t la lb ln lc hn hc
  obtain ⟨a0, a1, a2, a3, a4, a5, a6, _, _, _, aa⟩ := h2
  exact ⟨w0, h1, ⟨a0, a1, a2, a3, a4, a5, a6, aa⟩, h3, h4⟩
/-- Four cells of a struct that was laid. -/
def D4 (bd : Nat) (x y z v : Value) (w : World) : Prop := w.cell? ⟨bd, 0, none⟩ = some x ∧ w.cell? ⟨bd, 1, none⟩ = some y ∧ w.cell? ⟨bd, 2, none⟩ = some z ∧ w.cell? ⟨bd, 3, none⟩ = some v
theorem D4.keeps {Q : Nat → Prop} {bd : Nat} {x y z v : Value} {w w' : World} (h : D4 bd x y z v w) (q : Keeps Q w w') (h1 : ¬ Q bd) : D4 bd x y z v w' := by
  obtain ⟨a0, a1, a2, a3⟩ := h
  have l := World.block_lt_of_cell? w _ a0
  exact ⟨(q.cell (a := ⟨bd, 0, none⟩) l h1).trans a0, (q.cell (a := ⟨bd, 1, none⟩) l h1).trans a1, (q.cell (a := ⟨bd, 2, none⟩) l h1).trans a2, (q.cell (a := ⟨bd, 3, none⟩) l h1).trans a3⟩
theorem D4.laid (w : World) (x y z v : Value) (t : TypeId) : ∃ wA, w.alloc (.cells #[x, y, z, v] t) = wA ∧ D4 w.heap.size x y z v wA ∧ Keeps NoB w wA ∧ wA.heap.size = w.heap.size + 1 :=
  ⟨_, rfl, ⟨box_cell (j := 0) rfl, box_cell (j := 1) rfl, box_cell (j := 2) rfl, box_cell (j := 3) rfl⟩, keepsNo _ _, by simp⟩

set_option maxRecDepth 20000 in
set_option maxHeartbeats 4000000 in
theorem law_get_yes (hP : GetYes) (Bk bw : Nat) (F : Nat → Value) (L : List Sl) (w : World) (h : St Bk bw F L w) (hL : (L.length + 4) * 24 ≤ 140737488355328) (K M S W P X R k a b c d : Int) (s t : ByteArray) (hs : s.size ≤ 140737488351232) (la lb : Option Addr) (ln lc hn hc : Nat) (hp : getE K M S W P X R s = 0) :
    Calls Tryz.prog 42 #[.pointer (some ⟨bw, 0, none⟩), .agg #[.int .i64 K, .int .i64 M, .int .i64 S, .int .i64 W, .int .i64 P, .int .i64 X, .int .i64 R], .agg #[.int .i64 k, .int .i64 a, .int .i64 b, .int .i64 c, .int .i64 d, .string s, .string t, .slice la ln lc, .slice lb hn hc]] w fun e w' => e = .returned (.bool true) ∧ StepPost Bk bw F L w w' := by
  have HS : Hid (St Bk bw F L w) := h
  have hbw : Hid (bw < w.heap.size) := Nat.lt_of_lt_of_le h.book.brow.lt h.book.brow.le
  have hs1 : s.size - 19 ≤ 140737488351232 := by omega
  have HR : Hid (∀ w, Calls Tryz.prog 80 #[.agg #[.int .i64 K, .int .i64 M, .int .i64 S, .int .i64 W, .int .i64 P, .int .i64 X, .int .i64 R], .string s] w fun e w' => e = .returned (.tuple #[.agg #[.int .i64 ((valOf s.data.toList 2 4 : Nat) : Int), .int .i64 ((valOf s.data.toList 6 1 : Nat) : Int), .int .i64 ((valOf s.data.toList 11 4 : Nat) : Int), .string (s.extract 15 (s.size - 4))], .int .i64 0]) ∧ Keeps NoB w w') := fun w => by
    have h0 := refget_any K M S W P X R s w (by omega)
    rw [getD, hp, if_pos rfl] at h0
    exact h0
  have HPY : Hid (∀ (bx : Nat) (w : World), w.rowIs bx 5 (s.size + 8) (lentF s) → bx < w.heap.size → Calls Tryz.prog 49 #[.agg #[.int .i64 K, .int .i64 M, .int .i64 S, .int .i64 W, .int .i64 P, .int .i64 X, .int .i64 R], .slice (some ⟨bx, 0, none⟩) s.size (s.size + 8)] w fun e w' => ∃ g c m f, e = .returned (.tuple #[.agg #[.int .i64 ((valOf s.data.toList 2 4 : Nat) : Int), .int .i64 ((valOf s.data.toList 6 1 : Nat) : Int), .int .i64 ((valOf s.data.toList 11 4 : Nat) : Int), .slice (some ⟨g, 0, none⟩) (s.size - 19) c], .int .i64 0]) ∧ w.heap.size ≤ g ∧ g < w'.heap.size ∧ w'.rowIs g 5 m f ∧ c ≤ m ∧ s.size - 19 ≤ c ∧ (∀ i, i < s.size - 19 → f i = byteAt (s.extract 15 (s.size - 4)) i) ∧ Keeps NoB w w') := fun bx w h1 h2 => hP K M S W P X R s bx _ w hs (lent_cells h1) (by omega) h2 hp
  have HTZ : Hid ((s.extract 15 (s.size - 4)).size = s.size - 19) := (getE_yes hp).2
  generalize (s.extract 15 (s.size - 4)) = T at HR HPY HTZ
  generalize ((valOf s.data.toList 2 4 : Nat) : Int) = vb at HR HPY
  generalize ((valOf s.data.toList 6 1 : Nat) : Int) = vi at HR HPY
  generalize ((valOf s.data.toList 11 4 : Nat) : Int) = vn at HR HPY
  generalize s.size - 19 = n at HPY HTZ hs1
  clear h hp hP
  go_enter Tryz.func42, Tryz.ntmps42
  go_upto_region 1 with fail
  obtain ⟨w0, hw0, b0, k0, z0⟩ := getC_start w K M S W P X R k a b c d s t la lb ln lc hn hc
  rw [hw0]
  have B0 : Hid (GetC w.heap.size (w.heap.size + 1) K M S W P X R s w0) := b0
  have K0 : Hid (Keeps NoB w w0) := k0
  have Z0 : Hid (w0.heap.size = w.heap.size + 2) := z0
  clear hw0 k0 z0
  unfold GetC at b0
  go_upto_region 3 with (first | (go_at_call 56; refine (lent_any s _ hs).mono ?_; rintro e w1 ⟨rfl, r1, k1, z1⟩; have R1 : Hid (w1.rowIs w0.heap.size 5 (s.size + 8) (lentF s)) := r1; have K1 : Hid (Keeps NoB w0 w1) := k1; have Z1 : Hid (w1.heap.size = w0.heap.size + 1) := z1; have b1 := B0.out.keeps k1 (fun x => x) (fun x => x); have B1 : Hid (GetC w.heap.size (w.heap.size + 1) K M S W P X R s w1) := b1; clear r1 k1 z1; unfold GetC at b1) | (go_at_call 49; refine (HPY.out w0.heap.size w1 R1.out (by have := Z1.out; omega)).mono ?_; rintro e w2 ⟨g, cp, m, f, rfl, g1, g2, r2, c1, c2, f2, k2⟩; have G2 : Hid (w1.heap.size ≤ g ∧ g < w2.heap.size ∧ w2.rowIs g 5 m f ∧ cp ≤ m ∧ n ≤ cp ∧ (∀ i, i < n → f i = byteAt T i)) := ⟨g1, g2, r2, c1, c2, f2⟩; have K2 : Hid (Keeps NoB w1 w2) := k2; have b2 := B1.out.keeps k2 (fun x => x) (fun x => x); have B2 : Hid (GetC w.heap.size (w.heap.size + 1) K M S W P X R s w2) := b2; clear g1 g2 r2 c1 c2 f2 k2 b2))
  obtain ⟨wA, hwA, dA, kA, zA⟩ := D4.laid w2 (.int .i64 vb) (.int .i64 vi) (.int .i64 vn) (.slice (some ⟨g, 0, none⟩) n cp) 112
  rw [hwA]
  have DA : Hid (D4 w2.heap.size (.int .i64 vb) (.int .i64 vi) (.int .i64 vn) (.slice (some ⟨g, 0, none⟩) n cp) wA) := dA
  have KA : Hid (Keeps NoB w2 wA) := kA
  have ZA : Hid (wA.heap.size = w2.heap.size + 1) := zA
  have bA := B2.out.keeps kA (fun x => x) (fun x => x)
  have BA : Hid (GetC w.heap.size (w.heap.size + 1) K M S W P X R s wA) := bA
  clear hwA dA kA zA b0 b1 B0 B1 B2
  unfold GetC at bA
  generalize hd1 : w2.heap.size = bd1 at DA ZA ⊢
  have HD1 : Hid (w2.heap.size = bd1) := hd1
  clear hd1
  go_upto_region 4 with (go_at_call 80; refine (HR.out _).mono ?_; rintro e w3 ⟨rfl, k3⟩; have K3 : Hid (Keeps NoB wA w3) := k3; have b3 := BA.out.keeps k3 (fun x => x) (fun x => x); have B3 : Hid (GetC w.heap.size (w.heap.size + 1) K M S W P X R s w3) := b3; clear k3 b3)
  obtain ⟨wB, hwB, dB, kB, zB⟩ := D4.laid w3 (.int .i64 vb) (.int .i64 vi) (.int .i64 vn) (.string T) 163
  rw [hwB]
  have DB : Hid (D4 w3.heap.size (.int .i64 vb) (.int .i64 vi) (.int .i64 vn) (.string T) wB) := dB
  have KB : Hid (Keeps NoB w3 wB) := kB
  have bB := B3.out.keeps kB (fun x => x) (fun x => x)
  clear hwB dB kB zB bA BA B3
  unfold GetC at bB
  generalize hd2 : w3.heap.size = bd2 at DB ⊢
  have HD2 : Hid (w3.heap.size = bd2) := hd2
  clear hd2
  have KAB : Hid (Keeps NoB wA wB) := K3.out.trans KB.out
  have RB : Hid (wB.rowIs w0.heap.size 5 (s.size + 8) (lentF s)) := KAB.out.rowIs (KA.out.rowIs (K2.out.rowIs R1.out (fun x => x)) (fun x => x)) (fun x => x)
  go_upto_region 5 with (go_at_call 59; refine (whole_any s w0.heap.size _ hs RB.out).mono ?_; rintro e w4 ⟨rfl, _, k4, z4⟩; have K4 : Hid (Keeps (OnlyB w0.heap.size) wB w4) := k4; clear k4 z4)
  have N1 : ¬ OnlyB w0.heap.size bd1 := fun e => by have e' : bd1 = w0.heap.size := e; have := Z1.out; have := G2.out.1; have := G2.out.2.1; have := HD1.out; omega
  have N2 : ¬ OnlyB w0.heap.size bd2 := fun e => by have e' : bd2 = w0.heap.size := e; have := Z1.out; have := G2.out.1; have := G2.out.2.1; have := HD1.out; have := HD2.out; have := ZA.out; have := K3.out.size; omega
  have d1 := (DA.out.keeps KAB.out (fun x => x)).keeps K4.out N1
  have d2 := DB.out.keeps K4.out N2
  unfold D4 at d1 d2
  have R4 : Hid (w4.rowIs g 5 m f) := K4.out.rowIs (KAB.out.rowIs (KA.out.rowIs G2.out.2.2.1 (fun x => x)) (fun x => x)) (show ¬ g = w0.heap.size by have := Z1.out; have := G2.out.1; omega)
  have hcv := run_convert_text (P := Tryz.prog) w4 54 5 9 Tryz.underlying54 Tryz.underlying5 Tryz.underlying9 g 0 n cp T HTZ.out (fun i hi => by rw [Nat.zero_add, R4.out.cell (by have := G2.out.2.2.2.1; have := G2.out.2.2.2.2.1; omega)]; rw [G2.out.2.2.2.2.2 i hi])
  have hnil := fun w => Lib.run_eql_slice_nil (P := Tryz.prog) w 54 5 (some ⟨g, 0, none⟩) n cp 0 0 Tryz.underlying54
  have K04 : Hid (Keeps NoB w w4) := ((((K0.out.trans K1.out).trans K2.out).trans KA.out).trans KAB.out).trans' K4.out (fun x hx e => by have e' : x = w0.heap.size := e; have := Z0.out; omega)
  have S4 : Hid (St Bk bw F L w4) := HS.out.keeps K04.out (fun _ _ x => x.elim)
  have W4 : Hid (w.heap.size ≤ g ∧ g < w4.heap.size) := by
    have := Z0.out; have := Z1.out; have := G2.out.1; have := G2.out.2.1; have := KA.out.size; have := KAB.out.size; have := K4.out.size
    exact ⟨by omega, by omega⟩
  have RM : Hid (Roomy w4 ⟨some ⟨g, 0, none⟩, n, cp⟩) := .inr ⟨g, 0, m, f, rfl, R4.out, by have := G2.out.2.2.2.1; simp; omega, G2.out.2.2.2.2.1⟩
  clear K0 K1 K2 K3 K4 KA KB KAB Z0 Z1 ZA R1 RB bB DA DB R4 HPY HR G2 N1 N2 HD1 HD2
  go_upto_region 6 with fail
  have d13 : w4.drew.cell? ⟨bd1, 3, none⟩ = some (.slice (some ⟨g, 0, none⟩) n cp) := d1.2.2.2
  have S5 : Hid (St Bk bw F L w4.drew) := S4.out.keeps ((Keeps.refl NoB w4).drew) (fun _ _ x => x.elim)
  have RM5 : Hid (Roomy w4.drew ⟨some ⟨g, 0, none⟩, n, cp⟩) := RM.out
  have K05 : Hid (Keeps NoB w w4.drew) := K04.out.drew
  clear d1 d2 hcv hnil S4 RM K04
  go_region_with (go_at_call 60; refine (keeps_row Bk bw F L _ g 0 n cp S5.out.book S5.out.four RM5.out (far_new HS.out.book W4.out.1 W4.out.2) hs1 hL).mono ?_; rintro e w7 ⟨rfl, hp⟩; have HP : Hid (KeptPost Bk bw F L ⟨some ⟨g, 0, none⟩, n, cp⟩ w4.drew w7) := hp; clear hp)
  all_goals (go_wp2; go_ret; exact ⟨by simp, HS.out.kept K05.out hs1 HP.out⟩)

set_option maxRecDepth 20000 in
set_option maxHeartbeats 4000000 in
theorem law_get_no (hP : GetNo) (Bk bw : Nat) (F : Nat → Value) (L : List Sl) (w : World) (h : St Bk bw F L w) (hL : (L.length + 4) * 24 ≤ 140737488355328) (K M S W P X R k a b c d : Int) (s t : ByteArray) (hs : s.size ≤ 140737488351232) (la lb : Option Addr) (ln lc hn hc : Nat) (hp : getE K M S W P X R s ≠ 0) :
    Calls Tryz.prog 42 #[.pointer (some ⟨bw, 0, none⟩), .agg #[.int .i64 K, .int .i64 M, .int .i64 S, .int .i64 W, .int .i64 P, .int .i64 X, .int .i64 R], .agg #[.int .i64 k, .int .i64 a, .int .i64 b, .int .i64 c, .int .i64 d, .string s, .string t, .slice la ln lc, .slice lb hn hc]] w fun e w' => e = .returned (.bool true) ∧ StepPost Bk bw F L w w' := by
  have HS : Hid (St Bk bw F L w) := h
  have HR : Hid (∀ w, Calls Tryz.prog 80 #[.agg #[.int .i64 K, .int .i64 M, .int .i64 S, .int .i64 W, .int .i64 P, .int .i64 X, .int .i64 R], .string s] w fun e w' => e = .returned (.tuple #[.agg #[.int .i64 0, .int .i64 0, .int .i64 0, .string ⟨#[]⟩], .int .i64 (getE K M S W P X R s)]) ∧ Keeps NoB w w') := fun w => by
    have h0 := refget_any K M S W P X R s w (by omega)
    rw [getD, if_neg hp] at h0
    exact h0
  have HPN : Hid (∀ (bx : Nat) (w : World), w.rowIs bx 5 (s.size + 8) (lentF s) → bx < w.heap.size → Calls Tryz.prog 49 #[.agg #[.int .i64 K, .int .i64 M, .int .i64 S, .int .i64 W, .int .i64 P, .int .i64 X, .int .i64 R], .slice (some ⟨bx, 0, none⟩) s.size (s.size + 8)] w fun e w' => e = .returned (.tuple #[.agg #[.int .i64 0, .int .i64 0, .int .i64 0, .slice none 0 0], .int .i64 (getE K M S W P X R s)]) ∧ Keeps NoB w w') := fun bx w h1 h2 => hP K M S W P X R s bx _ w hs (lent_cells h1) (by omega) h2 hp
  generalize getE K M S W P X R s = er at HR HPN
  clear h hp hP
  go_enter Tryz.func42, Tryz.ntmps42
  go_upto_region 1 with fail
  obtain ⟨w0, hw0, b0, k0, z0⟩ := getC_start w K M S W P X R k a b c d s t la lb ln lc hn hc
  rw [hw0]
  have B0 : Hid (GetC w.heap.size (w.heap.size + 1) K M S W P X R s w0) := b0
  have K0 : Hid (Keeps NoB w w0) := k0
  have Z0 : Hid (w0.heap.size = w.heap.size + 2) := z0
  clear hw0 k0 z0
  unfold GetC at b0
  go_upto_region 3 with (first | (go_at_call 56; refine (lent_any s _ hs).mono ?_; rintro e w1 ⟨rfl, r1, k1, z1⟩; have R1 : Hid (w1.rowIs w0.heap.size 5 (s.size + 8) (lentF s)) := r1; have K1 : Hid (Keeps NoB w0 w1) := k1; have Z1 : Hid (w1.heap.size = w0.heap.size + 1) := z1; have b1 := B0.out.keeps k1 (fun x => x) (fun x => x); have B1 : Hid (GetC w.heap.size (w.heap.size + 1) K M S W P X R s w1) := b1; clear r1 k1 z1; unfold GetC at b1) | (go_at_call 49; refine (HPN.out w0.heap.size w1 R1.out (by have := Z1.out; omega)).mono ?_; rintro e w2 ⟨rfl, k2⟩; have K2 : Hid (Keeps NoB w1 w2) := k2; have b2 := B1.out.keeps k2 (fun x => x) (fun x => x); have B2 : Hid (GetC w.heap.size (w.heap.size + 1) K M S W P X R s w2) := b2; clear k2 b2))
  obtain ⟨wA, hwA, dA, kA, zA⟩ := D4.laid w2 (.int .i64 0) (.int .i64 0) (.int .i64 0) (.slice none 0 0) 112
  rw [hwA]
  have DA : Hid (D4 w2.heap.size (.int .i64 0) (.int .i64 0) (.int .i64 0) (.slice none 0 0) wA) := dA
  have KA : Hid (Keeps NoB w2 wA) := kA
  have ZA : Hid (wA.heap.size = w2.heap.size + 1) := zA
  have bA := B2.out.keeps kA (fun x => x) (fun x => x)
  have BA : Hid (GetC w.heap.size (w.heap.size + 1) K M S W P X R s wA) := bA
  clear hwA dA kA zA b0 b1 B0 B1 B2
  unfold GetC at bA
  generalize hd1 : w2.heap.size = bd1 at DA ZA ⊢
  have HD1 : Hid (w2.heap.size = bd1) := hd1
  clear hd1
  go_upto_region 4 with (go_at_call 80; refine (HR.out _).mono ?_; rintro e w3 ⟨rfl, k3⟩; have K3 : Hid (Keeps NoB wA w3) := k3; have b3 := BA.out.keeps k3 (fun x => x) (fun x => x); have B3 : Hid (GetC w.heap.size (w.heap.size + 1) K M S W P X R s w3) := b3; clear k3 b3)
  obtain ⟨wB, hwB, dB, kB, zB⟩ := D4.laid w3 (.int .i64 0) (.int .i64 0) (.int .i64 0) (.string ⟨#[]⟩) 163
  rw [hwB]
  have DB : Hid (D4 w3.heap.size (.int .i64 0) (.int .i64 0) (.int .i64 0) (.string ⟨#[]⟩) wB) := dB
  have KB : Hid (Keeps NoB w3 wB) := kB
  have bB := B3.out.keeps kB (fun x => x) (fun x => x)
  clear hwB dB kB zB bA BA B3
  unfold GetC at bB
  generalize hd2 : w3.heap.size = bd2 at DB ⊢
  have HD2 : Hid (w3.heap.size = bd2) := hd2
  clear hd2
  have KAB : Hid (Keeps NoB wA wB) := K3.out.trans KB.out
  have RB : Hid (wB.rowIs w0.heap.size 5 (s.size + 8) (lentF s)) := KAB.out.rowIs (KA.out.rowIs (K2.out.rowIs R1.out (fun x => x)) (fun x => x)) (fun x => x)
  go_upto_region 5 with (go_at_call 59; refine (whole_any s w0.heap.size _ hs RB.out).mono ?_; rintro e w4 ⟨rfl, _, k4, z4⟩; have K4 : Hid (Keeps (OnlyB w0.heap.size) wB w4) := k4; clear k4 z4)
  have N1 : ¬ OnlyB w0.heap.size bd1 := fun e => by have e' : bd1 = w0.heap.size := e; have := Z1.out; have := K2.out.size; have := HD1.out; omega
  have N2 : ¬ OnlyB w0.heap.size bd2 := fun e => by have e' : bd2 = w0.heap.size := e; have := Z1.out; have := K2.out.size; have := HD1.out; have := HD2.out; have := ZA.out; have := K3.out.size; omega
  have d1 := (DA.out.keeps KAB.out (fun x => x)).keeps K4.out N1
  have d2 := DB.out.keeps K4.out N2
  unfold D4 at d1 d2
  have hcv := run_convert_bytes_nil (P := Tryz.prog) w4 54 5 Tryz.underlying54 Tryz.underlying5 0 0 9 Tryz.underlying9
  have hnil := fun w => Lib.run_eql_slice_nil (P := Tryz.prog) w 54 5 none 0 0 0 0 Tryz.underlying54
  have K04 : Hid (Keeps NoB w w4) := ((((K0.out.trans K1.out).trans K2.out).trans KA.out).trans KAB.out).trans' K4.out (fun x hx e => by have e' : x = w0.heap.size := e; have := Z0.out; omega)
  have S4 : Hid (St Bk bw F L w4) := HS.out.keeps K04.out (fun _ _ x => x.elim)
  clear K0 K1 K2 K3 K4 KA KB KAB Z0 Z1 ZA R1 RB bB DA DB HPN HR N1 N2 HD1 HD2
  go_upto_region 6 with fail
  have d13 : w4.drew.cell? ⟨bd1, 3, none⟩ = some (.slice none 0 0) := d1.2.2.2
  have S5 : Hid (St Bk bw F L w4.drew) := S4.out.keeps ((Keeps.refl NoB w4).drew) (fun _ _ x => x.elim)
  have K05 : Hid (Keeps NoB w w4.drew) := K04.out.drew
  clear d1 d2 hcv hnil S4 K04
  go_region_with (go_at_call 60; refine (keeps_nil Bk bw F L _ S5.out.book S5.out.four hL).mono ?_; rintro e w7 ⟨rfl, hp⟩; have HP : Hid (KeptPost Bk bw F L ⟨none, 0, 0⟩ w4.drew w7) := hp; clear hp)
  all_goals (go_wp2; go_ret; exact ⟨by simp, HS.out.kept K05.out (by show 0 ≤ _; omega) HP.out⟩)
end Go.Proofs.YtgchiamkeeljkaaGreatDoor
