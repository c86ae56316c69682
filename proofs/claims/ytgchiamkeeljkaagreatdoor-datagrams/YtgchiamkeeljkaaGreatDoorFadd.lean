/-
  weavelaw.World.field: Add.
-/
import Derived.Test.YtgchiamkeeljkaaGreatDoorField
import Derived.Deep.Cut
import Derived.Deep.RegionWith
namespace Go.Proofs.YtgchiamkeeljkaaGreatDoor
open Go Go.RowKit Go.Proofs.YtgchiamkeeljkaaGreatDoor.M

theorem bx_keeps {S : Nat → Prop} {w w' : World} {bo : Nat} {a : Value} {s t : Value} (h : w.cell? ⟨bo, 1, none⟩ = some a ∧ w.cell? ⟨bo, 5, none⟩ = some s ∧ w.cell? ⟨bo, 6, none⟩ = some t) (k : Keeps S w w') (hb : bo < w.heap.size) (hn : ¬ S bo) :
    w'.cell? ⟨bo, 1, none⟩ = some a ∧ w'.cell? ⟨bo, 5, none⟩ = some s ∧ w'.cell? ⟨bo, 6, none⟩ = some t :=
  ⟨(k.cell hb hn).trans h.1, (k.cell hb hn).trans h.2.1, (k.cell hb hn).trans h.2.2⟩
theorem lent_cells {w : World} {b : Nat} {s : ByteArray} (h : w.rowIs b 5 (s.size + 8) (lentF s)) : ∀ i, i < s.size → w.cell? ⟨b, i, none⟩ = some (byteAt s i) := fun i hi => by
  rw [h.cell (by omega), lentF, if_pos hi]
theorem box_cell {w : World} {cs : Array Value} {t : TypeId} {j : Nat} {v : Value} (h : cs[j]? = some v) : (w.alloc (.cells cs t)).cell? ⟨w.heap.size, j, none⟩ = some v := by
  have := cells_new (w := w) (t := t) h
  rwa [Addr.add_lit, Nat.zero_add] at this
/-- Behind keeps: a step's end. -/
theorem St.kept {B bw : Nat} {F : Nat → Value} {L : List Sl} {w w6 w7 : World} {l : Sl} (h : St B bw F L w) (k : Keeps NoB w w6) (hl : l.n ≤ 140737488351232) (hp : KeptPost B bw F L l w6 w7) : StepPost B bw F L w w7 := by
  obtain ⟨G, a1, a2, a3, hb, hG, hk, n1, n2, n3⟩ := hp
  have hK : Keeps (fun x => x = bw ∨ B ≤ x) w w7 := (k.mono (S' := fun x => x = bw ∨ B ≤ x) (fun _ _ x => x.elim)).trans hk
  have h0 : bw < w.heap.size := Nat.lt_of_lt_of_le h.book.brow.lt h.book.brow.le
  have hno : ∀ b, b ≤ 3 → ¬ (b = bw ∨ B ≤ b) := fun b hb x => by
    have := h.book.brow.lt
    have := h.base
    omega
  refine ⟨G, _, ⟨hb, h.tabs.keeps hK (hno 0 (by omega)) (hno 1 (by omega)) (hno 3 (by omega)), ?_, fun s hs => ?_, h.base⟩, by simp, hG, hK⟩
  · have := h.four; simp; omega
  · rcases List.mem_append.1 hs with hs | hs
    · exact h.small s hs
    · simp only [List.mem_cons, List.not_mem_nil, or_false] at hs
      rcases hs with rfl | rfl | rfl | rfl <;> omega

theorem far_new {B bw : Nat} {F : Nat → Value} {L : List Sl} {w w6 : World} {g n c : Nat} (h : BookOk B bw F L w) (h1 : w.heap.size ≤ g) (h2 : g < w6.heap.size) : ∀ x, (⟨some ⟨g, 0, none⟩, n, c⟩ : Sl).blk = some x → B ≤ x ∧ x < w6.heap.size ∧ ¬ BookB bw F L x := fun x e => by
  have e' : g = x := by simpa [Sl.blk] using e
  subst e'
  refine ⟨Nat.le_trans h.brow.le h1, h2, fun hx => ?_⟩
  rcases hx with hx | hx | ⟨s, hs, hx⟩
  · have := h.brow.lt; have := h.brow.le; omega
  · have := (h.brow.own.lt g hx).2; omega
  · have := (h.far s hs g hx).2.1; omega
set_option maxRecDepth 20000 in
set_option maxHeartbeats 1000000 in
theorem field_add (B bw : Nat) (F : Nat → Value) (L : List Sl) (w : World) (h : St B bw F L w) (hL : (L.length + 4) * 24 ≤ 140737488355328) (a b c d : Int) (s t : ByteArray) (hs : s.size ≤ 140737488351232) (ht : t.size ≤ 140737488351232) (la lb : Option Addr) (ln lc hn hc : Nat) :
    Calls Tryz.prog 35 #[.pointer (some ⟨bw, 0, none⟩), .agg #[.int .i64 3, .int .i64 a, .int .i64 b, .int .i64 c, .int .i64 d, .string s, .string t, .slice la ln lc, .slice lb hn hc]] w fun e w' => e = .returned (.bool true) ∧ StepPost B bw F L w w' := by
  have HS : Hid (St B bw F L w) := h
  have hbw : bw < w.heap.size := Nat.lt_of_lt_of_le h.book.brow.lt h.book.brow.le
  clear h
  by_cases hok : (0 ≤ a ∧ a ≤ 255) ∧ t.size = s.size
  · obtain ⟨⟨h1, h2⟩, hst⟩ := hok
    have HST : Hid (t.size = s.size) := hst
    clear hst
    go_enter Tryz.func35, Tryz.ntmps35
    go_upto_region 10 with fail
    have b0 : (w.alloc (.cells #[.int .i64 3, .int .i64 a, .int .i64 b, .int .i64 c, .int .i64 d, .string s, .string t, .slice la ln lc, .slice lb hn hc] 28)).cell? ⟨w.heap.size, 1, none⟩ = some (.int .i64 a) ∧ (w.alloc (.cells #[.int .i64 3, .int .i64 a, .int .i64 b, .int .i64 c, .int .i64 d, .string s, .string t, .slice la ln lc, .slice lb hn hc] 28)).cell? ⟨w.heap.size, 5, none⟩ = some (.string s) ∧ (w.alloc (.cells #[.int .i64 3, .int .i64 a, .int .i64 b, .int .i64 c, .int .i64 d, .string s, .string t, .slice la ln lc, .slice lb hn hc] 28)).cell? ⟨w.heap.size, 6, none⟩ = some (.string t) := by
      exact ⟨box_cell rfl, box_cell rfl, box_cell rfl⟩
    have K0 : Hid (Keeps NoB w (w.alloc (.cells #[.int .i64 3, .int .i64 a, .int .i64 b, .int .i64 c, .int .i64 d, .string s, .string t, .slice la ln lc, .slice lb hn hc] 28))) := keepsNo _ _
    have Z0 : Hid ((w.alloc (.cells #[.int .i64 3, .int .i64 a, .int .i64 b, .int .i64 c, .int .i64 d, .string s, .string t, .slice la ln lc, .slice lb hn hc] 28)).heap.size = w.heap.size + 1) := by show _ = _; simp
    generalize w.alloc (.cells #[.int .i64 3, .int .i64 a, .int .i64 b, .int .i64 c, .int .i64 d, .string s, .string t, .slice la ln lc, .slice lb hn hc] 28) = w0 at b0 K0 Z0 ⊢
    go_upto_region 16 with (first | (go_at_call_of 56 s; refine (lent_any s _ hs).mono ?_; rintro e w1 ⟨rfl, r1, k1, z1⟩; have R1 : Hid (w1.rowIs w0.heap.size 5 (s.size + 8) (lentF s)) := r1; have K1 : Hid (Keeps NoB w0 w1) := k1; have Z1 : Hid (w1.heap.size = w0.heap.size + 1) := z1; have b1 := bx_keeps b0 k1 (by have := Z0.out; omega) (fun x => x); clear r1 k1 z1) | (go_at_call_of 56 t; refine (lent_any t _ ht).mono ?_; rintro e w2 ⟨rfl, r2, k2, z2⟩; have R2 : Hid (w2.rowIs w1.heap.size 5 (t.size + 8) (lentF t)) := r2; have K2 : Hid (Keeps NoB w1 w2) := k2; have Z2 : Hid (w2.heap.size = w1.heap.size + 1) := z2; have b2 := bx_keeps b1 k2 (by have := Z0.out; have := Z1.out; omega) (fun x => x); clear r2 k2 z2) | (go_at_call 57; refine (add_yes s t a w0.heap.size w1.heap.size _ _ w2 (((HS.out.tabs.keeps K0.out (fun x => x) (fun x => x) (fun x => x)).keeps K1.out (fun x => x) (fun x => x) (fun x => x)).keeps K2.out (fun x => x) (fun x => x) (fun x => x)) hs HST.out h1 h2 (lent_cells (K2.out.rowIs R1.out (fun x => x))) (fun i hi => lent_cells R2.out i (by have := HST.out; omega)) (by have := Z1.out; have := Z2.out; omega) (by have := Z2.out; omega)).mono ?_; rintro e w3 ⟨rfl, r3, k3, z3⟩; have R3 : Hid (w3.rowIs w2.heap.size 5 s.size (byteAt (sumS s a t))) := r3; have K3 : Hid (Keeps NoB w2 w3) := k3; have Z3 : Hid (w3.heap.size = w2.heap.size + 1) := z3; have b3 := bx_keeps b2 k3 (by have := Z0.out; have := Z1.out; have := Z2.out; omega) (fun x => x); clear r3 k3 z3) | (go_at_call 58; refine (refadd_yes s t a _ hs HST.out h1 h2).mono ?_; rintro e w4 ⟨rfl, k4⟩; have K4 : Hid (Keeps NoB w3 w4) := k4; have b4 := bx_keeps b3 k4 (by have := Z0.out; have := Z1.out; have := Z2.out; have := Z3.out; omega) (fun x => x); clear k4) | (go_at_call_of 59 s; refine (whole_any s w0.heap.size _ hs (K4.out.rowIs (K3.out.rowIs (K2.out.rowIs R1.out (fun x => x)) (fun x => x)) (fun x => x))).mono ?_; rintro e w5 ⟨rfl, _, k5, z5⟩; have K5 : Hid (Keeps (OnlyB w0.heap.size) w4 w5) := k5; have b5 := bx_keeps b4 k5 (by have := Z0.out; have := Z1.out; have := Z2.out; have := Z3.out; have := K4.out.size; omega) (show ¬ _ = _ by have := Z0.out; have := Z1.out; omega); clear k5 z5) | (go_at_call_of 59 t; refine (whole_any t w1.heap.size _ ht (K5.out.rowIs (K4.out.rowIs (K3.out.rowIs R2.out (fun x => x)) (fun x => x)) (show ¬ w1.heap.size = w0.heap.size by have := Z1.out; omega))).mono ?_; rintro e w6 ⟨rfl, _, k6, z6⟩; have K6 : Hid (Keeps (OnlyB w1.heap.size) w5 w6) := k6; have b6 := bx_keeps b5 k6 (by have := Z0.out; have := Z1.out; have := Z2.out; have := Z3.out; have := K4.out.size; have := K5.out.size; omega) (show ¬ _ = _ by have := Z0.out; have := Z1.out; omega); clear k6 z6))
    have R6 : Hid (w6.rowIs w2.heap.size 5 s.size (byteAt (sumS s a t))) := K6.out.rowIs (K5.out.rowIs (K4.out.rowIs R3.out (fun x => x)) (show ¬ w2.heap.size = w0.heap.size by have := Z1.out; have := Z2.out; omega)) (show ¬ w2.heap.size = w1.heap.size by have := Z2.out; omega)
    have hcv := run_convert_text (P := Tryz.prog) w6 54 5 9 Tryz.underlying54 Tryz.underlying5 Tryz.underlying9 w2.heap.size 0 s.size s.size (sumS s a t) (sumS_size s a t) (fun i hi => by rw [Nat.zero_add]; exact R6.out.cell hi)
    have hnil := fun w => Lib.run_eql_slice_nil (P := Tryz.prog) w 54 5 (some ⟨w2.heap.size, 0, none⟩) s.size s.size 0 0 Tryz.underlying54
    have K06 : Hid (Keeps NoB w w6) := ((((((K0.out.trans K1.out).trans K2.out).trans K3.out).trans K4.out).trans' K5.out (fun x hx e => by have e' : x = w0.heap.size := e; have := Z0.out; omega)).trans' K6.out (fun x hx e => by have e' : x = w1.heap.size := e; have := Z0.out; have := Z1.out; omega))
    have S6 : Hid (St B bw F L w6) := HS.out.keeps K06.out (fun _ _ x => x.elim)
    have W2 : Hid (w.heap.size ≤ w2.heap.size ∧ w2.heap.size < w6.heap.size) := by
      have := Z0.out; have := Z1.out; have := Z2.out; have := Z3.out; have := K4.out.size; have := K5.out.size; have := K6.out.size
      exact ⟨by omega, by omega⟩
    clear K0 K1 K2 K3 K4 K5 K6 Z0 Z1 Z2 Z3 R1 R2 R3 b0 b1 b2 b3 b4 b5 b6
    go_wp2_with (go_at_call 60; refine (keeps_row B bw F L _ w2.heap.size 0 s.size s.size S6.out.book S6.out.four (.inr ⟨w2.heap.size, 0, s.size, _, rfl, R6.out, by simp, Nat.le_refl _⟩) (far_new HS.out.book W2.out.1 W2.out.2) hs hL).mono ?_; rintro e w7 ⟨rfl, hp⟩; have HP : Hid (KeptPost B bw F L ⟨some ⟨w2.heap.size, 0, none⟩, s.size, s.size⟩ w6 w7) := hp; clear hp)
    go_ret
    exact ⟨by simp, HS.out.kept K06.out hs HP.out⟩
  · have hno : Hid (numB a = false ∨ s.size ≠ t.size) := by
      by_cases ha : 0 ≤ a ∧ a ≤ 255
      · exact .inr (fun e => hok ⟨ha, e.symm⟩)
      · exact .inl (num_no a ha)
    clear hok
    go_enter Tryz.func35, Tryz.ntmps35
    go_upto_region 10 with fail
    have b0 : (w.alloc (.cells #[.int .i64 3, .int .i64 a, .int .i64 b, .int .i64 c, .int .i64 d, .string s, .string t, .slice la ln lc, .slice lb hn hc] 28)).cell? ⟨w.heap.size, 1, none⟩ = some (.int .i64 a) ∧ (w.alloc (.cells #[.int .i64 3, .int .i64 a, .int .i64 b, .int .i64 c, .int .i64 d, .string s, .string t, .slice la ln lc, .slice lb hn hc] 28)).cell? ⟨w.heap.size, 5, none⟩ = some (.string s) ∧ (w.alloc (.cells #[.int .i64 3, .int .i64 a, .int .i64 b, .int .i64 c, .int .i64 d, .string s, .string t, .slice la ln lc, .slice lb hn hc] 28)).cell? ⟨w.heap.size, 6, none⟩ = some (.string t) := by
      exact ⟨box_cell rfl, box_cell rfl, box_cell rfl⟩
    have K0 : Hid (Keeps NoB w (w.alloc (.cells #[.int .i64 3, .int .i64 a, .int .i64 b, .int .i64 c, .int .i64 d, .string s, .string t, .slice la ln lc, .slice lb hn hc] 28))) := keepsNo _ _
    have Z0 : Hid ((w.alloc (.cells #[.int .i64 3, .int .i64 a, .int .i64 b, .int .i64 c, .int .i64 d, .string s, .string t, .slice la ln lc, .slice lb hn hc] 28)).heap.size = w.heap.size + 1) := by show _ = _; simp
    generalize w.alloc (.cells #[.int .i64 3, .int .i64 a, .int .i64 b, .int .i64 c, .int .i64 d, .string s, .string t, .slice la ln lc, .slice lb hn hc] 28) = w0 at b0 K0 Z0 ⊢
    go_upto_region 16 with (first | (go_at_call_of 56 s; refine (lent_any s _ hs).mono ?_; rintro e w1 ⟨rfl, r1, k1, z1⟩; have R1 : Hid (w1.rowIs w0.heap.size 5 (s.size + 8) (lentF s)) := r1; have K1 : Hid (Keeps NoB w0 w1) := k1; have Z1 : Hid (w1.heap.size = w0.heap.size + 1) := z1; have b1 := bx_keeps b0 k1 (by have := Z0.out; omega) (fun x => x); clear r1 k1 z1) | (go_at_call_of 56 t; refine (lent_any t _ ht).mono ?_; rintro e w2 ⟨rfl, r2, k2, z2⟩; have R2 : Hid (w2.rowIs w1.heap.size 5 (t.size + 8) (lentF t)) := r2; have K2 : Hid (Keeps NoB w1 w2) := k2; have Z2 : Hid (w2.heap.size = w1.heap.size + 1) := z2; have b2 := bx_keeps b1 k2 (by have := Z0.out; have := Z1.out; omega) (fun x => x); clear r2 k2 z2) | (go_at_call 57; refine (add_no _ _ _ _ _ _ _ _ hno.out).mono ?_; rintro e w3 ⟨rfl, hw3⟩; obtain rfl := hw3.symm) | (go_at_call 58; refine (refadd_no _ _ _ _ hno.out).mono ?_; rintro e w3 ⟨rfl, hw3⟩; obtain rfl := hw3.symm) | (go_at_call_of 59 s; refine (whole_any s w0.heap.size _ hs (K2.out.rowIs R1.out (fun x => x))).mono ?_; rintro e w5 ⟨rfl, _, k5, z5⟩; have K5 : Hid (Keeps (OnlyB w0.heap.size) w2 w5) := k5; have b5 := bx_keeps b2 k5 (by have := Z0.out; have := Z1.out; have := Z2.out; omega) (show ¬ _ = _ by have := Z0.out; have := Z1.out; omega); clear k5 z5) | (go_at_call_of 59 t; refine (whole_any t w1.heap.size _ ht (K5.out.rowIs R2.out (show ¬ w1.heap.size = w0.heap.size by have := Z1.out; omega))).mono ?_; rintro e w6 ⟨rfl, _, k6, z6⟩; have K6 : Hid (Keeps (OnlyB w1.heap.size) w5 w6) := k6; have b6 := bx_keeps b5 k6 (by have := Z0.out; have := Z1.out; have := Z2.out; have := K5.out.size; omega) (show ¬ _ = _ by have := Z0.out; have := Z1.out; omega); clear k6 z6))
    have hcv := run_convert_bytes_nil (P := Tryz.prog) w6 54 5 Tryz.underlying54 Tryz.underlying5 0 0 9 Tryz.underlying9
    have hnil := fun w => Lib.run_eql_slice_nil (P := Tryz.prog) w 54 5 none 0 0 0 0 Tryz.underlying54
    have K06 : Hid (Keeps NoB w w6) := ((((K0.out.trans K1.out).trans K2.out).trans' K5.out (fun x hx e => by have e' : x = w0.heap.size := e; have := Z0.out; omega)).trans' K6.out (fun x hx e => by have e' : x = w1.heap.size := e; have := Z0.out; have := Z1.out; omega))
    have S6 : Hid (St B bw F L w6) := HS.out.keeps K06.out (fun _ _ x => x.elim)
    clear K0 K1 K2 K5 K6 Z0 Z1 Z2 R1 R2 b0 b1 b2 b5 b6
    go_wp2_with (go_at_call 60; refine (keeps_nil B bw F L _ S6.out.book S6.out.four hL).mono ?_; rintro e w7 ⟨rfl, hp⟩; have HP : Hid (KeptPost B bw F L ⟨none, 0, 0⟩ w6 w7) := hp; clear hp)
    go_ret
    exact ⟨by simp, HS.out.kept K06.out (by show 0 ≤ _; omega) HP.out⟩
end Go.Proofs.YtgchiamkeeljkaaGreatDoor
