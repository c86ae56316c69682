/-
  weave.datagram.
-/
import Derived.Test.YtgchiamkeeljkaaGreatDoorWgeo
namespace Go.Proofs.YtgchiamkeeljkaaGreatDoor
open Go Go.RowKit

theorem clone_at (T : ByteArray) (b o c : Nat) (w : World) (h0 : 0 < T.size) (h1 : T.size ≤ 100000) (hc : ∀ i, i < T.size → w.cell? ⟨b, o + i, none⟩ = some (byteAt T i)) (hb : b < w.heap.size) (O n : Nat) (e1 : O = o) (e2 : n = T.size) :
    Calls Tryz.prog 126 #[.slice (some ⟨b, O, none⟩) n c] w fun e w' => ∃ v, e = .returned v ∧ NewRow w T v w' := by
  subst e1 e2
  exact clone_any T b O c w h0 h1 hc hb
theorem extract_at (s : ByteArray) (i : Nat) (h : i < s.size - 19) : byteAt (s.extract 15 (s.size - 4)) i = byteAt s (15 + i) := by
  unfold byteAt
  rw [extract_toList _ 15 _ (by omega), List.getD_eq_getElem?_getD, List.getD_eq_getElem?_getD, List.getElem?_take, if_pos (by omega), List.getElem?_drop]
theorem extract_sz (s : ByteArray) (h : 19 ≤ s.size) : (s.extract 15 (s.size - 4)).size = s.size - 19 := by
  rw [ByteArray.size_extract]; omega
/-- A new datagram's four cells may be written. -/
def D4C (bd : Nat) (w : World) : Prop := w.cell? ⟨bd, 0, none⟩ = some (.int .i64 0) ∧ w.cell? ⟨bd, 1, none⟩ = some (.int .i64 0) ∧ w.cell? ⟨bd, 2, none⟩ = some (.int .i64 0) ∧ w.cell? ⟨bd, 3, none⟩ = some (.slice none 0 0) ∧ w.frozen? ⟨bd, 0, none⟩ = false ∧ w.frozen? ⟨bd, 1, none⟩ = false ∧ w.frozen? ⟨bd, 2, none⟩ = false ∧ w.frozen? ⟨bd, 3, none⟩ = false
theorem D4C.new (w : World) (t : TypeId) : D4C w.heap.size (w.alloc (.cells #[.int .i64 0, .int .i64 0, .int .i64 0, .slice none 0 0] t)) := by
  have r := World.rowIs_alloc w #[.int .i64 0, .int .i64 0, .int .i64 0, .slice none 0 0] t (fun i => (#[.int .i64 0, .int .i64 0, .int .i64 0, .slice none 0 0] : Array Value)[i]?.getD (.int .i64 0)) (fun i hi => by
    match i, hi with
    | 0, _ => rfl
    | 1, _ => rfl
    | 2, _ => rfl
    | 3, _ => rfl)
  exact ⟨r.cell (i := 0) (by decide), r.cell (i := 1) (by decide), r.cell (i := 2) (by decide), r.cell (i := 3) (by decide), r.frozen 0, r.frozen 1, r.frozen 2, r.frozen 3⟩
theorem D4C.keeps {Q : Nat → Prop} {bd : Nat} {w w' : World} (h : D4C bd w) (q : Keeps Q w w') (h1 : ¬ Q bd) : D4C bd w' := by
  obtain ⟨a0, a1, a2, a3, f0, f1, f2, f3⟩ := h
  have l1 := World.block_lt_of_cell? w _ a0
  exact ⟨(q.cell (a := ⟨bd, 0, none⟩) l1 h1).trans a0, (q.cell (a := ⟨bd, 1, none⟩) l1 h1).trans a1, (q.cell (a := ⟨bd, 2, none⟩) l1 h1).trans a2, (q.cell (a := ⟨bd, 3, none⟩) l1 h1).trans a3, (q.frozen (a := ⟨bd, 0, none⟩) l1 h1).trans f0, (q.frozen (a := ⟨bd, 1, none⟩) l1 h1).trans f1, (q.frozen (a := ⟨bd, 2, none⟩) l1 h1).trans f2, (q.frozen (a := ⟨bd, 3, none⟩) l1 h1).trans f3⟩
/-- Four cells of a new block are written: what lay there before is as it was. -/
theorem keeps_set4 {w w1 : World} {bd : Nat} {v0 v1 v2 v3 : Value} (h : w.heap.size ≤ bd) (k : Keeps NoB w w1) : Keeps NoB w ((((w1.setCell ⟨bd, 0, none⟩ v0).setCell ⟨bd, 1, none⟩ v1).setCell ⟨bd, 2, none⟩ v2).setCell ⟨bd, 3, none⟩ v3) :=
  (((k.setCell (a := ⟨bd, 0, none⟩) (.inl h) _).setCell (a := ⟨bd, 1, none⟩) (.inl h) _).setCell (a := ⟨bd, 2, none⟩) (.inl h) _).setCell (a := ⟨bd, 3, none⟩) (.inl h) _
theorem rowIs_set4 {w1 : World} {bd g m : Nat} {t : TypeId} {f : Nat → Value} {v0 v1 v2 v3 : Value} (h : g ≠ bd) (r : w1.rowIs g t m f) : ((((w1.setCell ⟨bd, 0, none⟩ v0).setCell ⟨bd, 1, none⟩ v1).setCell ⟨bd, 2, none⟩ v2).setCell ⟨bd, 3, none⟩ v3).rowIs g t m f :=
  (((r.setOther (a := ⟨bd, 0, none⟩) h _).setOther (a := ⟨bd, 1, none⟩) h _).setOther (a := ⟨bd, 2, none⟩) h _).setOther (a := ⟨bd, 3, none⟩) h _
theorem NewRow.kept {w w1 : World} {T : ByteArray} {v : Value} (n : NewRow w T v w1) : Keeps NoB w w1 := by
  obtain ⟨_, _, _, _, _, _, _, _, _, _, _, k⟩ := n
  exact k
theorem size_set (w1 : World) (a : Addr) (v : Value) : (w1.setCell a v).heap.size = w1.heap.size := by simp [World.setCell]
theorem NewRow.set1 {w w1 : World} {T : ByteArray} {v : Value} {bd j : Nat} {u : Value} (n : NewRow w T v w1) (h : w.heap.size ≤ bd) (h' : ∀ g c n, v = .slice (some ⟨g, 0, none⟩) n c → g ≠ bd) : NewRow w T v (w1.setCell ⟨bd, j, none⟩ u) := by
  obtain ⟨g, c, m, f, e1, e2, e3, e4, e5, e6, e7, e8⟩ := n
  exact ⟨g, c, m, f, e1, e2, by rw [size_set]; exact e3, e4.setOther (a := ⟨bd, j, none⟩) (h' g c _ e1) u, e5, e6, e7, e8.setCell (a := ⟨bd, j, none⟩) (.inl h) u⟩
theorem NewRow.from {w w0 w1 : World} {T : ByteArray} {v : Value} (n : NewRow w0 T v w1) (k : Keeps NoB w w0) : NewRow w T v w1 := by
  obtain ⟨g, c, m, f, e1, e2, e3, e4, e5, e6, e7, e8⟩ := n
  exact ⟨g, c, m, f, e1, Nat.le_trans k.size e2, e3, e4, e5, e6, e7, k.trans e8⟩
theorem NewRow.far {w w1 : World} {T : ByteArray} {v : Value} {bd : Nat} (n : NewRow w T v w1) (h : bd < w.heap.size) : ∀ g c n, v = .slice (some ⟨g, 0, none⟩) n c → g ≠ bd := fun g' c' n' e => by
  obtain ⟨g, c, m, f, e1, e2, _⟩ := n
  rw [e1] at e
  simp only [Value.slice.injEq, Option.some.injEq, Addr.mk.injEq] at e
  omega
theorem NewRow.set4 {w w0 w1 : World} {T : ByteArray} {v : Value} {bd : Nat} {v0 v1 v2 v3 : Value} (n : NewRow w0 T v w1) (k : Keeps NoB w w0) (h : w.heap.size ≤ bd) (h' : bd < w0.heap.size) : NewRow w T v ((((w1.setCell ⟨bd, 0, none⟩ v0).setCell ⟨bd, 1, none⟩ v1).setCell ⟨bd, 2, none⟩ v2).setCell ⟨bd, 3, none⟩ v3) := by
  have fr := n.far h'
  exact ((((n.from k).set1 h fr).set1 h fr).set1 h fr).set1 h fr
theorem cell1_past {w1 : World} {bd b i j : Nat} {v u : Value} (h : b ≠ bd) (hc : w1.cell? ⟨b, j, none⟩ = some u) : (w1.setCell ⟨bd, i, none⟩ v).cell? ⟨b, j, none⟩ = some u :=
  (World.cell?_setCell_far _ _ _ _ (fun e => h e.symm)).trans hc
theorem cell4_past {w1 : World} {bd b j : Nat} {v0 v1 v2 v3 u : Value} (h : b ≠ bd) (hc : w1.cell? ⟨b, j, none⟩ = some u) : ((((w1.setCell ⟨bd, 0, none⟩ v0).setCell ⟨bd, 1, none⟩ v1).setCell ⟨bd, 2, none⟩ v2).setCell ⟨bd, 3, none⟩ v3).cell? ⟨b, j, none⟩ = some u :=
  cell1_past h (cell1_past h (cell1_past h (cell1_past h hc)))
theorem NewRow.shape {w w1 : World} {T : ByteArray} {v : Value} {n : Nat} (h : NewRow w T v w1) (e : T.size = n) : ∃ g c, v = .slice (some ⟨g, 0, none⟩) n c := by
  obtain ⟨g, c, _, _, e1, _⟩ := h
  exact ⟨g, c, by rw [e1, e]⟩
theorem wdrew (w : World) (a : Addr) : w.drew.cell? a = w.cell? a := rfl
theorem cell4_pastd {w1 : World} {bd b j : Nat} {v0 v1 v2 v3 u : Value} (h : b ≠ bd) (hc : w1.cell? ⟨b, j, none⟩ = some u) : ((((w1.setCell ⟨bd, 0, none⟩ v0).setCell ⟨bd, 1, none⟩ v1).setCell ⟨bd, 2, none⟩ v2).setCell ⟨bd, 3, none⟩ v3).drew.cell? ⟨b, j, none⟩ = some u := (wdrew _ _).trans (cell4_past h hc)
set_option maxRecDepth 20000 in
set_option maxHeartbeats 4000000 in
theorem datagram_any (s : ByteArray) (b c : Nat) (w : World) (hz : s.size ≤ 100000) (hc : ∀ i, i < s.size → w.cell? ⟨b, i, none⟩ = some (byteAt s i)) (hcx : s.size ≤ c) (hb : b < w.heap.size) (hn : 20 ≤ s.size) :
    Calls Tryz.prog 90 #[.slice (some ⟨b, 0, none⟩) s.size c] w fun e w' => ∃ v, e = .returned (.agg #[.int .i64 ((valOf s.data.toList 2 4 : Nat) : Int), .int .i64 (byteI s 6), .int .i64 ((valOf s.data.toList 11 4 : Nat) : Int), v]) ∧ NewRow w (s.extract 15 (s.size - 4)) v w' := by
  obtain ⟨w0, hw0, cw, D0, K0, HB, HD⟩ : ∃ w0, w.alloc (.cells #[.int .i64 0, .int .i64 0, .int .i64 0, .slice none 0 0] 112) = w0 ∧ Hid (∀ i, i < s.size → w0.cell? ⟨b, i, none⟩ = some (byteAt s i)) ∧ Hid (D4C w.heap.size w0) ∧ Hid (Keeps NoB w w0) ∧ Hid (b < w0.heap.size) ∧ Hid (w.heap.size < w0.heap.size) := ⟨_, rfl, fun i hi => ((wkeeps w _).cell (a := ⟨b, i, none⟩) hb (fun x => x)).trans (hc i hi), D4C.new _ _, wkeeps _ _, by show _ < _; simp; omega, by show _ < _; simp⟩
  have W0 : Hid (_ = w0) := hw0
  have h6 : w0.cell? ⟨b, 6, none⟩ = some (.int .u8 (byteI s 6)) := cw.out 6 (by omega)
  have e6 := wrap_byte s 6
  have g6 : 6 < s.size := by omega
  have i0 : (0 : Int) ≤ (s.size : Int) - 4 := by omega
  have i1 : (s.size : Int) - 4 ≤ (s.size : Int) := by omega
  have b1 : IntKind.i64.wrap ((s.size : Int) - 4) = (s.size : Int) - 4 := by rw [IntWalk.i64_left]; exact IntWalk.wrap64_in _ (by omega)
  have i2 : (15 : Int) ≤ (s.size : Int) - 4 := by omega
  have i3 : (6 : Int) ≤ (c : Int) := by omega
  have i4 : (15 : Int) ≤ (c : Int) := by omega
  have i5 : (6 : Int) < (s.size : Int) := by omega
  have i6 : (s.size : Int) - 4 ≤ (c : Int) := by omega
  have n2 : ¬ c = 2 := by omega
  have n11 : ¬ c = 11 := by omega
  have n15 : ¬ c = 15 := by omega
  have NB : b ≠ w.heap.size := by omega
  clear hw0 hc hb
  go_enter Tryz.func90, Tryz.ntmps90
  go_upto_region 1 with fail
  rw [W0.out]
  replace cw : Hid (∀ i, i < s.size → w0.drew.cell? ⟨b, i, none⟩ = some (byteAt s i)) := cw.out
  replace K0 : Hid (Keeps NoB w w0.drew) := K0.out.drew
  replace HB : Hid (b < w0.drew.heap.size) := HB.out
  replace HD : Hid (w.heap.size < w0.drew.heap.size) := HD.out
  replace D0 : Hid (D4C w.heap.size w0.drew) := D0.out
  have h6d : w0.drew.cell? ⟨b, 6, none⟩ = some (.int .u8 (byteI s 6)) := h6
  go_region_held3 (fun w' => w'.cell? ⟨b, 6, none⟩ = some (.int .u8 (byteI s 6))) (first | (with_reducible exact h6d) | (with_reducible exact h61) | (with_reducible exact cell4_past NB h61) | (with_reducible exact cell4_pastd NB h61)) (first | (go_at_call 125; refine (number_at s b 2 4 _ _ (by omega) (by omega) (by omega) cw.out _ _ (by first | rfl | omega) (by first | rfl | omega)).mono ?_; rintro e wx ⟨rfl, hwx⟩; obtain rfl := hwx.symm) | (go_at_call 125; refine (number_at s b 11 4 _ _ (by omega) (by omega) (by omega) cw.out _ _ (by first | rfl | omega) (by first | rfl | omega)).mono ?_; rintro e wx ⟨rfl, hwx⟩; obtain rfl := hwx.symm) | (go_at_call 126; refine (clone_at (s.extract 15 (s.size - 4)) b 15 _ _ (by rw [extract_sz s (by omega)]; omega) (by rw [extract_sz s (by omega)]; omega) (fun i hi => (cw.out (15 + i) (by rw [extract_sz s (by omega)] at hi; omega)).trans (by rw [extract_at s i (by rw [extract_sz s (by omega)] at hi; exact hi)])) HB.out _ _ (by first | rfl | omega) (by rw [extract_sz s (by omega)]; omega)).mono ?_; rintro e w1 ⟨v1, rfl, n1⟩; obtain ⟨gx, cgx, hv1⟩ := n1.shape (extract_sz s (by omega)); subst hv1; have NR : Hid (NewRow w0.drew (s.extract 15 (s.size - 4)) (.slice (some ⟨gx, 0, none⟩) (s.size - 19) cgx) w1) := n1; have k1 := n1.kept; clear n1; have D1 := D0.out.keeps k1 (fun x => x); unfold D4C at D1; replace cw : Hid (∀ i, i < s.size → w1.cell? ⟨b, i, none⟩ = some (byteAt s i)) := fun i hi => (k1.cell (a := ⟨b, i, none⟩) HB.out (fun x => x)).trans (cw.out i hi); have h61 : w1.cell? ⟨b, 6, none⟩ = some (.int .u8 (byteI s 6)) := cw.out 6 g6; clear k1))
  go_wp2
  exact bodyPost_ret (v := .agg #[.int .i64 ((valOf s.data.toList 2 4 : Nat) : Int), .int .i64 (byteI s 6), .int .i64 ((valOf s.data.toList 11 4 : Nat) : Int), .slice (some ⟨gx, 0, none⟩) (s.size - 19) cgx]) (by simp [results, Tryz.results90, go_sem, D1]) rfl ⟨_, rfl, NR.out.set4 K0.out (Nat.le_refl _) HD.out⟩
end Go.Proofs.YtgchiamkeeljkaaGreatDoor
