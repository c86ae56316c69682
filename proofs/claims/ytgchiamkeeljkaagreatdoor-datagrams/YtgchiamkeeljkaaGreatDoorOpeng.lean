/-
  A script and configurations that come in, laid open, with what is known of their numbers.
-/
import Derived.Test.YtgchiamkeeljkaaGreatDoorOpen
import Derived.Test.YtgchiamkeeljkaaGreatDoorLstep
import Derived.Laws.AppendOwnNone
namespace Go.Proofs.YtgchiamkeeljkaaGreatDoor
open Go Go.RowKit Go.Deep

/-- Texts within the reach, numbers that are such. -/
def OpOk (o : OpD) : Prop := o.s.size ≤ 140737488351232 ∧ o.t.size ≤ 140737488351232 ∧ (Lit.int .i64 o.k).wf = true ∧ (Lit.int .i64 o.a).wf = true ∧ (Lit.int .i64 o.b).wf = true ∧ (Lit.int .i64 o.c).wf = true ∧ (Lit.int .i64 o.d).wf = true
theorem open_opg {H : Type} {enc : TypeId × Value → H} {W : World} {base : Nat} {spare : Nat → Bool} {held : Bool} {fuel : Nat} {cs : List Value} {x : DataW H × List MemPlace} (h : DataW.trod enc Tryz.prog W base spare held fuel 28 cs = some x)
    (hw : ∀ n ∈ x.1.weights Tryz.prog 28, n ≤ reachBytes) : ∃ o : OpD, cs = o.cells ∧ OpOk o := by
  obtain ⟨xs, m, _, rfl, hl, hxl, hf⟩ := DataW.trod_struct Tryz.underlying28 h
  rw [co28] at hl
  have hxl : xs.length = 9 := hxl
  obtain ⟨c0, c1, c2, c3, c4, c5, c6, c7, c8, rfl⟩ := len9 cs hl
  obtain ⟨x0, x1, x2, x3, x4, x5, x6, x7, x8, rfl⟩ := len9 xs hxl
  have f0 : DataW.trod enc Tryz.prog W base spare held m 3 [c0] = some x0 := by
    have q : DataW.trod enc Tryz.prog W base spare held m 3 ((List.drop 0 [c0, c1, c2, c3, c4, c5, c6, c7, c8]).take (Tryz.prog.cellsOf 3)) = some x0 := hf 0 _ rfl
    rw [co3] at q
    exact q
  have f1 : DataW.trod enc Tryz.prog W base spare held m 3 [c1] = some x1 := by
    have q : DataW.trod enc Tryz.prog W base spare held m 3 ((List.drop 1 [c0, c1, c2, c3, c4, c5, c6, c7, c8]).take (Tryz.prog.cellsOf 3)) = some x1 := hf 1 _ rfl
    rw [co3] at q
    exact q
  have f2 : DataW.trod enc Tryz.prog W base spare held m 3 [c2] = some x2 := by
    have q : DataW.trod enc Tryz.prog W base spare held m 3 ((List.drop 2 [c0, c1, c2, c3, c4, c5, c6, c7, c8]).take (Tryz.prog.cellsOf 3)) = some x2 := hf 2 _ rfl
    rw [co3] at q
    exact q
  have f3 : DataW.trod enc Tryz.prog W base spare held m 3 [c3] = some x3 := by
    have q : DataW.trod enc Tryz.prog W base spare held m 3 ((List.drop 3 [c0, c1, c2, c3, c4, c5, c6, c7, c8]).take (Tryz.prog.cellsOf 3)) = some x3 := hf 3 _ rfl
    rw [co3] at q
    exact q
  have f4 : DataW.trod enc Tryz.prog W base spare held m 3 [c4] = some x4 := by
    have q : DataW.trod enc Tryz.prog W base spare held m 3 ((List.drop 4 [c0, c1, c2, c3, c4, c5, c6, c7, c8]).take (Tryz.prog.cellsOf 3)) = some x4 := hf 4 _ rfl
    rw [co3] at q
    exact q
  have f5 : DataW.trod enc Tryz.prog W base spare held m 9 [c5] = some x5 := by
    have q : DataW.trod enc Tryz.prog W base spare held m 9 ((List.drop 5 [c0, c1, c2, c3, c4, c5, c6, c7, c8]).take (Tryz.prog.cellsOf 9)) = some x5 := hf 5 _ rfl
    rw [co9] at q
    exact q
  have f6 : DataW.trod enc Tryz.prog W base spare held m 9 [c6] = some x6 := by
    have q : DataW.trod enc Tryz.prog W base spare held m 9 ((List.drop 6 [c0, c1, c2, c3, c4, c5, c6, c7, c8]).take (Tryz.prog.cellsOf 9)) = some x6 := hf 6 _ rfl
    rw [co9] at q
    exact q
  have f7 : DataW.trod enc Tryz.prog W base spare held m 25 [c7] = some x7 := by
    have q : DataW.trod enc Tryz.prog W base spare held m 25 ((List.drop 7 [c0, c1, c2, c3, c4, c5, c6, c7, c8]).take (Tryz.prog.cellsOf 25)) = some x7 := hf 7 _ rfl
    rw [co25] at q
    exact q
  have f8 : DataW.trod enc Tryz.prog W base spare held m 26 [c8] = some x8 := by
    have q : DataW.trod enc Tryz.prog W base spare held m 26 ((List.drop 8 [c0, c1, c2, c3, c4, c5, c6, c7, c8]).take (Tryz.prog.cellsOf 26)) = some x8 := hf 8 _ rfl
    rw [co26] at q
    exact q
  obtain ⟨k, e0, _, z0⟩ := DataW.trod_int Tryz.underlying3 f0
  obtain ⟨a, e1, _, z1⟩ := DataW.trod_int Tryz.underlying3 f1
  obtain ⟨b, e2, _, z2⟩ := DataW.trod_int Tryz.underlying3 f2
  obtain ⟨c, e3, _, z3⟩ := DataW.trod_int Tryz.underlying3 f3
  obtain ⟨d, e4, _, z4⟩ := DataW.trod_int Tryz.underlying3 f4
  obtain ⟨s, e5, q5, _⟩ := DataW.trod_string Tryz.underlying9 f5
  obtain ⟨t, e6, q6, _⟩ := DataW.trod_string Tryz.underlying9 f6
  obtain ⟨la, ln, lc, e7⟩ := Joins.slice_form Tryz.underlying25 f7
  obtain ⟨lb, hn, hc, e8⟩ := Joins.slice_form Tryz.underlying26 f8
  simp at e0 e1 e2 e3 e4 e5 e6 e7 e8
  subst e0 e1 e2 e3 e4 e5 e6 e7 e8
  subst q5 q6
  have w5 : s.size ≤ reachBytes := hw _ (by
    show s.size ∈ DataW.weights Tryz.prog 28 (.agg _)
    simp only [DataW.weights, Tryz.underlying28]
    refine DataW.weights_mem_each (j := 5) (t := 9) (d := .lit (.string s.data.toList)) rfl rfl _ ?_
    rw [Lib.size_eq]; simp [DataW.weights])
  have w6 : t.size ≤ reachBytes := hw _ (by
    show t.size ∈ DataW.weights Tryz.prog 28 (.agg _)
    simp only [DataW.weights, Tryz.underlying28]
    refine DataW.weights_mem_each (j := 6) (t := 9) (d := .lit (.string t.data.toList)) rfl rfl _ ?_
    rw [Lib.size_eq]; simp [DataW.weights])
  exact ⟨⟨k, a, b, c, d, s, t, la, ln, lc, lb, hn, hc⟩, rfl, w5, w6, z0, z1, z2, z3, z4⟩

theorem open_scriptg {H : Type} {enc : TypeId × Value → H} {W : World} {base : Nat} {spare : Nat → Bool} {held : Bool} {fuel : Nat} {v : Value} {x : DataW H × List MemPlace} (h : DataW.trod enc Tryz.prog W base spare held fuel 23 [v] = some x)
    (hw : ∀ n ∈ x.1.weights Tryz.prog 23, n ≤ reachBytes) : ∃ sa n sc ops, v = .slice sa n sc ∧ ScriptAt W sa n sc ops ∧ n * 120 ≤ 140737488351232 ∧ ∀ o ∈ ops, OpOk o := by
  rcases open_slice Tryz.underlying23 h with ⟨hcs, rfl⟩ | ⟨a, len, cap, m, n, D, Pl, hcs, _, hl, _, hm, rfl, hx⟩
  · simp only [List.cons.injEq, and_true] at hcs
    exact ⟨none, 0, 0, [], hcs, ⟨rfl, .inl ⟨rfl, rfl, rfl⟩⟩, by omega, fun o ho => by simp at ho⟩
  · simp only [List.cons.injEq, and_true] at hcs
    rw [co28] at hx
    have hlm : len ≤ m := by rw [hm]; split <;> omega
    have hw' : ∀ q ∈ DataW.weightsAll Tryz.prog 28 ((List.range len).map D), q ≤ reachBytes := fun q hq => hw q (by
      simp only [DataW.weights, Tryz.underlying23, List.mem_cons, List.mem_append]
      exact .inr (.inl hq))
    have hlen : len * 120 ≤ 140737488351232 := by
      have := hw ((((List.range len).map D).length + ((List.range (m - len)).map fun j => D (len + j)).length) * Tryz.prog.bytesOf 28) (by
        simp only [DataW.weights, Tryz.underlying23, List.mem_cons]
        first | exact .inl rfl | exact .inl trivial)
      rw [bytes28] at this
      simp only [List.length_map, List.length_range, reachBytes] at this
      omega
    have each : ∀ i, i < len → ∃ o : OpD, (∀ j u, o.cells[j]? = some u → W.cell? (a.add (i * 9 + j)) = some u) ∧ OpOk o := fun i hi => by
      obtain ⟨cs', h1, h2⟩ := hx i (by omega)
      obtain ⟨_, hlen', hcell⟩ := World.cells?_some h1
      obtain ⟨o, ho, os⟩ := open_opg h2 (fun q hq => hw' q (weightsAll_mem (d := D i) (List.mem_map.2 ⟨i, by simpa using hi, rfl⟩) hq))
      refine ⟨o, fun j u hj => ?_, os⟩
      have hj9 : j < 9 := by
        rcases Nat.lt_or_ge j 9 with q | q
        · exact q
        · rw [List.getElem?_eq_none (show o.cells.length ≤ j from q)] at hj; cases hj
      have := hcell j hj9
      rw [Go.Addr.add_add] at this
      rw [this, ho, hj]
    haveI : Inhabited OpD := ⟨⟨0, 0, 0, 0, 0, ⟨#[]⟩, ⟨#[]⟩, none, 0, 0, none, 0, 0⟩⟩
    obtain ⟨O, hO⟩ := choose_lt (α := OpD) (p := fun i o => (∀ j u, o.cells[j]? = some u → W.cell? (a.add (i * 9 + j)) = some u) ∧ OpOk o) each
    refine ⟨some a, len, cap, (List.range len).map O, hcs, ⟨by simp, .inr ⟨a, rfl, fun q u hq => ?_⟩⟩, hlen, fun o ho => ?_⟩
    · have hql : q < len * 9 := by
        rcases Nat.lt_or_ge q (len * 9) with z | z
        · exact z
        · rw [List.getElem?_eq_none (by rw [opsCells_length]; simpa using z)] at hq; cases hq
      have hi : q / 9 < len := by omega
      have hoi : ((List.range len).map O)[q / 9]? = some (O (q / 9)) := by simp [hi]
      have hqe : q = q / 9 * 9 + q % 9 := by omega
      have hu : (O (q / 9)).cells[q % 9]? = some u := by
        have hlt : q % 9 < (O (q / 9)).cells.length := by show q % 9 < 9; omega
        have e := opsCells_at _ _ _ hoi (q % 9) _ (List.getElem?_eq_getElem hlt)
        rw [← hqe, hq] at e
        rw [List.getElem?_eq_getElem hlt, ← e]
      have := (hO (q / 9) hi).1 (q % 9) u hu
      rw [← hqe] at this
      exact this
    · obtain ⟨i, hi, rfl⟩ := List.mem_map.1 ho
      exact (hO i (by simpa using hi)).2

theorem co63 : Tryz.prog.cellsOf 37 = 7 := by kernel_rfl
theorem bytes63 : Tryz.prog.bytesOf 37 = 56 := by kernel_rfl
def cfgsCells (cs : List CfgD) : List Value := cs.flatMap CfgD.cells
theorem cfgsCells_length (cs : List CfgD) : (cfgsCells cs).length = cs.length * 7 := by
  induction cs with
  | nil => rfl
  | cons o r ih =>
    show (o.cells ++ cfgsCells r).length = _
    rw [List.length_append, ih]
    show 7 + r.length * 7 = (r.length + 1) * 7
    omega
theorem cfgsCells_at : ∀ (cs : List CfgD) (i : Nat) (o : CfgD), cs[i]? = some o → ∀ j v, o.cells[j]? = some v → (cfgsCells cs)[i * 7 + j]? = some v
  | [], i, o, h, _, _, _ => by simp at h
  | x :: r, 0, o, h, j, v, hv => by
    obtain rfl : x = o := by simpa using h
    have hj : j < x.cells.length := by
      rcases Nat.lt_or_ge j x.cells.length with q | q
      · exact q
      · rw [List.getElem?_eq_none q] at hv; cases hv
    show (x.cells ++ cfgsCells r)[0 * 7 + j]? = some v
    rw [Nat.zero_mul, Nat.zero_add, List.getElem?_append_left hj]; exact hv
  | x :: r, i + 1, o, h, j, v, hv => by
    show (x.cells ++ cfgsCells r)[(i + 1) * 7 + j]? = some v
    have hl : x.cells.length = 7 := rfl
    rw [List.getElem?_append_right (by omega), hl, show (i + 1) * 7 + j - 7 = i * 7 + j from by omega]
    exact cfgsCells_at r i o (by simpa using h) j v hv
theorem cfgsCells_one (cs : List CfgD) : ∀ u ∈ cfgsCells cs, u.oneCell' = true := fun u hu => by
  obtain ⟨o, _, ho⟩ := List.mem_flatMap.1 hu
  simp only [CfgD.cells, List.mem_cons, List.not_mem_nil, or_false] at ho
  rcases ho with rfl | rfl | rfl | rfl | rfl | rfl | rfl <;> rfl
theorem cfgsCells_append (p q : List CfgD) : cfgsCells p ++ cfgsCells q = cfgsCells (p ++ q) := by simp [cfgsCells]
/-- Configurations as they come in: nil, or in memory. -/
def CfgsIn (w : World) (sa : Option Addr) (n sc : Nat) (cs : List CfgD) : Prop := cs.length = n ∧ ((sa = none ∧ n = 0 ∧ sc = 0) ∨ ∃ ad, sa = some ad ∧ ∀ i v, (cfgsCells cs)[i]? = some v → w.cell? (ad.add i) = some v)
theorem CfgsIn.keeps {w w' : World} {sa : Option Addr} {n sc : Nat} {cs : List CfgD} (h : CfgsIn w sa n sc cs) (k : Keeps NoB w w') : CfgsIn w' sa n sc cs := by
  obtain ⟨h1, h2 | ⟨ad, h2, h3⟩⟩ := h
  · exact ⟨h1, .inl h2⟩
  · exact ⟨h1, .inr ⟨ad, h2, fun i v hv => (k.cell (World.block_lt_of_cell? w _ (h3 i v hv)) (fun x => x)).trans (h3 i v hv)⟩⟩
theorem len7 {α : Type} (l : List α) (h : l.length = 7) : ∃ a0 a1 a2 a3 a4 a5 a6, l = [a0, a1, a2, a3, a4, a5, a6] := by
  match l, h with
  | [a0, a1, a2, a3, a4, a5, a6], _ => exact ⟨a0, a1, a2, a3, a4, a5, a6, rfl⟩
def CfgOk (o : CfgD) : Prop := (Lit.int .i64 o.K).wf = true ∧ (Lit.int .i64 o.M).wf = true ∧ (Lit.int .i64 o.S).wf = true ∧ (Lit.int .i64 o.W).wf = true ∧ (Lit.int .i64 o.P).wf = true ∧ (Lit.int .i64 o.X).wf = true ∧ (Lit.int .i64 o.R).wf = true
theorem open_cfg {H : Type} {enc : TypeId × Value → H} {W : World} {base : Nat} {spare : Nat → Bool} {held : Bool} {fuel : Nat} {cs : List Value} {x : DataW H × List MemPlace} (h : DataW.trod enc Tryz.prog W base spare held fuel 37 cs = some x) : ∃ o : CfgD, cs = o.cells ∧ CfgOk o := by
  obtain ⟨xs, m, _, rfl, hl, hxl, hf⟩ := DataW.trod_struct Tryz.underlying37 h
  rw [co63] at hl
  have hxl : xs.length = 7 := hxl
  obtain ⟨c0, c1, c2, c3, c4, c5, c6, rfl⟩ := len7 cs hl
  obtain ⟨x0, x1, x2, x3, x4, x5, x6, rfl⟩ := len7 xs hxl
  have f0 : DataW.trod enc Tryz.prog W base spare held m 3 [c0] = some x0 := by
    have q : DataW.trod enc Tryz.prog W base spare held m 3 ((List.drop 0 [c0, c1, c2, c3, c4, c5, c6]).take (Tryz.prog.cellsOf 3)) = some x0 := hf 0 _ rfl
    rw [co3] at q
    exact q
  have f1 : DataW.trod enc Tryz.prog W base spare held m 3 [c1] = some x1 := by
    have q : DataW.trod enc Tryz.prog W base spare held m 3 ((List.drop 1 [c0, c1, c2, c3, c4, c5, c6]).take (Tryz.prog.cellsOf 3)) = some x1 := hf 1 _ rfl
    rw [co3] at q
    exact q
  have f2 : DataW.trod enc Tryz.prog W base spare held m 3 [c2] = some x2 := by
    have q : DataW.trod enc Tryz.prog W base spare held m 3 ((List.drop 2 [c0, c1, c2, c3, c4, c5, c6]).take (Tryz.prog.cellsOf 3)) = some x2 := hf 2 _ rfl
    rw [co3] at q
    exact q
  have f3 : DataW.trod enc Tryz.prog W base spare held m 3 [c3] = some x3 := by
    have q : DataW.trod enc Tryz.prog W base spare held m 3 ((List.drop 3 [c0, c1, c2, c3, c4, c5, c6]).take (Tryz.prog.cellsOf 3)) = some x3 := hf 3 _ rfl
    rw [co3] at q
    exact q
  have f4 : DataW.trod enc Tryz.prog W base spare held m 3 [c4] = some x4 := by
    have q : DataW.trod enc Tryz.prog W base spare held m 3 ((List.drop 4 [c0, c1, c2, c3, c4, c5, c6]).take (Tryz.prog.cellsOf 3)) = some x4 := hf 4 _ rfl
    rw [co3] at q
    exact q
  have f5 : DataW.trod enc Tryz.prog W base spare held m 3 [c5] = some x5 := by
    have q : DataW.trod enc Tryz.prog W base spare held m 3 ((List.drop 5 [c0, c1, c2, c3, c4, c5, c6]).take (Tryz.prog.cellsOf 3)) = some x5 := hf 5 _ rfl
    rw [co3] at q
    exact q
  have f6 : DataW.trod enc Tryz.prog W base spare held m 3 [c6] = some x6 := by
    have q : DataW.trod enc Tryz.prog W base spare held m 3 ((List.drop 6 [c0, c1, c2, c3, c4, c5, c6]).take (Tryz.prog.cellsOf 3)) = some x6 := hf 6 _ rfl
    rw [co3] at q
    exact q
  obtain ⟨v0, e0, _, z0⟩ := DataW.trod_int Tryz.underlying3 f0
  obtain ⟨v1, e1, _, z1⟩ := DataW.trod_int Tryz.underlying3 f1
  obtain ⟨v2, e2, _, z2⟩ := DataW.trod_int Tryz.underlying3 f2
  obtain ⟨v3, e3, _, z3⟩ := DataW.trod_int Tryz.underlying3 f3
  obtain ⟨v4, e4, _, z4⟩ := DataW.trod_int Tryz.underlying3 f4
  obtain ⟨v5, e5, _, z5⟩ := DataW.trod_int Tryz.underlying3 f5
  obtain ⟨v6, e6, _, z6⟩ := DataW.trod_int Tryz.underlying3 f6
  simp at e0 e1 e2 e3 e4 e5 e6
  subst e0 e1 e2 e3 e4 e5 e6
  exact ⟨⟨v0, v1, v2, v3, v4, v5, v6⟩, rfl, z0, z1, z2, z3, z4, z5, z6⟩
theorem open_cfgs {H : Type} {enc : TypeId × Value → H} {W : World} {base : Nat} {spare : Nat → Bool} {held : Bool} {fuel : Nat} {v : Value} {x : DataW H × List MemPlace} (h : DataW.trod enc Tryz.prog W base spare held fuel 22 [v] = some x)
    (hw : ∀ n ∈ x.1.weights Tryz.prog 22, n ≤ reachBytes) : ∃ sa n sc ops, v = .slice sa n sc ∧ CfgsIn W sa n sc ops ∧ n * 56 ≤ 140737488351232 ∧ ∀ o ∈ ops, CfgOk o := by
  rcases open_slice Tryz.underlying22 h with ⟨hcs, rfl⟩ | ⟨a, len, cap, m, n, D, Pl, hcs, _, hl, _, hm, rfl, hx⟩
  · simp only [List.cons.injEq, and_true] at hcs
    exact ⟨none, 0, 0, [], hcs, ⟨rfl, .inl ⟨rfl, rfl, rfl⟩⟩, by omega, fun o ho => by simp at ho⟩
  · simp only [List.cons.injEq, and_true] at hcs
    rw [co63] at hx
    have hlm : len ≤ m := by rw [hm]; split <;> omega
    have hlen : len * 56 ≤ 140737488351232 := by
      have := hw ((((List.range len).map D).length + ((List.range (m - len)).map fun j => D (len + j)).length) * Tryz.prog.bytesOf 37) (by
        simp only [DataW.weights, Tryz.underlying22, List.mem_cons]
        first | exact .inl rfl | exact .inl trivial)
      rw [bytes63] at this
      simp only [List.length_map, List.length_range, reachBytes] at this
      omega
    have each : ∀ i, i < len → ∃ o : CfgD, (∀ j u, o.cells[j]? = some u → W.cell? (a.add (i * 7 + j)) = some u) ∧ CfgOk o := fun i hi => by
      obtain ⟨cs', h1, h2⟩ := hx i (by omega)
      obtain ⟨_, hlen', hcell⟩ := World.cells?_some h1
      obtain ⟨o, ho, os⟩ := open_cfg h2
      refine ⟨o, fun j u hj => ?_, os⟩
      have hj7 : j < 7 := by
        rcases Nat.lt_or_ge j 7 with q | q
        · exact q
        · rw [List.getElem?_eq_none (show o.cells.length ≤ j from q)] at hj; cases hj
      have := hcell j hj7
      rw [Go.Addr.add_add] at this
      rw [this, ho, hj]
    haveI : Inhabited CfgD := ⟨⟨0, 0, 0, 0, 0, 0, 0⟩⟩
    obtain ⟨O, hO⟩ := choose_lt (α := CfgD) (p := fun i o => (∀ j u, o.cells[j]? = some u → W.cell? (a.add (i * 7 + j)) = some u) ∧ CfgOk o) each
    refine ⟨some a, len, cap, (List.range len).map O, hcs, ⟨by simp, .inr ⟨a, rfl, fun q u hq => ?_⟩⟩, hlen, fun o ho => ?_⟩
    · have hql : q < len * 7 := by
        rcases Nat.lt_or_ge q (len * 7) with z | z
        · exact z
        · rw [List.getElem?_eq_none (by rw [cfgsCells_length]; simpa using z)] at hq; cases hq
      have hi : q / 7 < len := by omega
      have hoi : ((List.range len).map O)[q / 7]? = some (O (q / 7)) := by simp [hi]
      have hqe : q = q / 7 * 7 + q % 7 := by omega
      have hu : (O (q / 7)).cells[q % 7]? = some u := by
        have hlt : q % 7 < (O (q / 7)).cells.length := by show q % 7 < 7; omega
        have e := cfgsCells_at _ _ _ hoi (q % 7) _ (List.getElem?_eq_getElem hlt)
        rw [← hqe, hq] at e
        rw [List.getElem?_eq_getElem hlt, ← e]
      have := (hO (q / 7) hi).1 (q % 7) u hu
      rw [← hqe] at this
      exact this
    · obtain ⟨i, hi, rfl⟩ := List.mem_map.1 ho
      exact (hO i (by simpa using hi)).2


theorem info63 : (Tryz.prog.info? 37).map (fun i => (i.zero, i.size, i.bytes)) = some (some (.agg #[.int .i64 0, .int .i64 0, .int .i64 0, .int .i64 0, .int .i64 0, .int .i64 0, .int .i64 0]), 7, 56) := by kernel_rfl
theorem wpList_append_cfgs {w : World} {ops : Array Oper} {rest : List Oper} {o : Oper} {a : Act} {Q : Exit → Act → World → Prop} (hgd : o.guard = none) (s x : Operand)
    (ho : o.op = .call { callee := .builtin .append, args := #[s, x], argTypes := #[22, 22] }) {base m : Nat} {v : Value} {p q : List CfgD} {sa : Option Addr} {n sc : Nat} (hs : a.eval s = v) (hown : w.ownsRow base 37 7 v m (cfgsCells p)) (hx : a.eval x = .slice sa n sc) (hq : CfgsIn w sa n sc q)
    (hb : (m + n) * 56 ≤ 140737488355328) (hbase : base ≤ w.heap.size)
    (h : ∀ v' w', Hid (w'.ownsRow base 37 7 v' (m + n) (cfgsCells (p ++ q))) → Hid (w.grownBy w' v.ownBlock) → wpList Tryz.prog ops Q rest (a.put o.dst v') w') : wpList Tryz.prog ops Q (o :: rest) a w := by
  obtain ⟨i0, hi0, hz0, hz1, hz2⟩ := info_parts info63
  obtain ⟨h1, ⟨rfl, rfl, rfl⟩ | ⟨ad, rfl, h3⟩⟩ := hq
  · obtain rfl : q = [] := List.eq_nil_of_length_eq_zero h1
    refine wpList_append_own_none hgd s x 22 ho base 37 i0 7 Tryz.underlying22 hi0 v m (cfgsCells p) hs hown hx ?_
    exact h v w (show w.ownsRow base 37 7 v (m + 0) (cfgsCells (p ++ [])) by simpa using hown) (show w.grownBy w _ from ⟨rfl, rfl, rfl, Nat.le_refl _, fun _ _ _ => rfl⟩)
  · refine wpList_append_own _ hgd s x 22 ho base 37 i0 _ 7 56 Tryz.underlying22 hi0 hz0 hz1 hz2 rfl (by decide) v m (cfgsCells p) hs hown ad n sc (cfgsCells q) hx (by rw [cfgsCells_length, h1]) h3 (cfgsCells_one _) (by unfold maxLen; omega) hb hbase (fun v' w' r1 r2 _ => h v' w' (by rw [← cfgsCells_append]; exact r1) r2)
/-- An owned row of configurations reads as the list. -/
theorem cfgs_owned {w : World} {base n : Nat} {g cap : Nat} {cs : List CfgD} (h : w.ownsRow base 37 7 (.slice (some ⟨g, 0, none⟩) n cap) n (cfgsCells cs)) (hl : cs.length = n) : CfgsAt w g cs := fun i c hc j v hv => by
  have hi : i < n := by
    rcases Nat.lt_or_ge i n with q | q
    · exact q
    · rw [List.getElem?_eq_none (by rw [hl]; exact q)] at hc; cases hc
  have hj : j < 7 := by
    rcases Nat.lt_or_ge j 7 with q | q
    · exact q
    · rw [List.getElem?_eq_none (show c.cells.length ≤ j from q)] at hv; cases hv
  rw [h.cellAt (i * 7 + j) (by omega)]
  exact cfgsCells_at cs i c hc j v hv
end Go.Proofs.YtgchiamkeeljkaaGreatDoor
