/-
  A script that comes in, laid open: its steps lie in memory, each text within the reach.
-/
import Derived.Test.YtgchiamkeeljkaaGreatDoorPlays
import Derived.Deep.Slices
import Derived.Lib.SmallJoins
import Derived.SizedLaws
namespace Go.Proofs.YtgchiamkeeljkaaGreatDoor
open Go Go.RowKit Go.Deep

theorem co28 : Tryz.prog.cellsOf 28 = 9 := by kernel_rfl
theorem co3 : Tryz.prog.cellsOf 3 = 1 := by kernel_rfl
theorem co9 : Tryz.prog.cellsOf 9 = 1 := by kernel_rfl
theorem co25 : Tryz.prog.cellsOf 25 = 1 := by kernel_rfl
theorem co26 : Tryz.prog.cellsOf 26 = 1 := by kernel_rfl
theorem bytes28 : Tryz.prog.bytesOf 28 = 120 := by kernel_rfl

theorem weightsAll_mem {H : Type} {P : Program} {e : TypeId} {n : Nat} {d : DataW H} : ∀ {ds : List (DataW H)}, d ∈ ds → n ∈ d.weights P e → n ∈ DataW.weightsAll P e ds
  | x :: r, hd, hn => by
    simp only [DataW.weightsAll, List.mem_append]
    rcases List.mem_cons.1 hd with rfl | hd
    · exact .inl hn
    · exact .inr (weightsAll_mem hd hn)

theorem len9 {α : Type} (l : List α) (h : l.length = 9) : ∃ a0 a1 a2 a3 a4 a5 a6 a7 a8, l = [a0, a1, a2, a3, a4, a5, a6, a7, a8] := by
  match l, h with
  | [a0, a1, a2, a3, a4, a5, a6, a7, a8], _ => exact ⟨a0, a1, a2, a3, a4, a5, a6, a7, a8, rfl⟩
theorem open_op {H : Type} {enc : TypeId × Value → H} {W : World} {base : Nat} {spare : Nat → Bool} {held : Bool} {fuel : Nat} {cs : List Value} {x : DataW H × List MemPlace} (h : DataW.trod enc Tryz.prog W base spare held fuel 28 cs = some x)
    (hw : ∀ n ∈ x.1.weights Tryz.prog 28, n ≤ reachBytes) : ∃ o : OpD, cs = o.cells ∧ o.s.size ≤ 140737488351232 ∧ o.t.size ≤ 140737488351232 := by
  obtain ⟨xs, m, _, rfl, hl, hxl, hf⟩ := DataW.trod_struct Tryz.underlying28 h
  rw [co28] at hl
  have hxl : xs.length = 9 := hxl
  obtain ⟨c0, c1, c2, c3, c4, c5, c6, c7, c8, rfl⟩ := len9 cs hl
  obtain ⟨x0, x1, x2, x3, x4, x5, x6, x7, x8, rfl⟩ := len9 xs hxl
  have f0 : DataW.trod enc Tryz.prog W base spare held m 3 [c0] = some x0 := by
    have q : DataW.trod enc Tryz.prog W base spare held m 3 ((List.drop 0 [c0, c1, c2, c3, c4, c5, c6, c7, c8]).take (Tryz.prog.cellsOf 3)) = some x0 := hf 0 _ rfl
    rw [co3] at q
    exact q
  have f1 : DataW.trod enc Tryz.prog W base spare held m 3 [c1] = some x1 := by
    have q : DataW.trod enc Tryz.prog W base spare held m 3 ((List.drop 1 [c0, c1, c2, c3, c4, c5, c6, c7, c8]).take (Tryz.prog.cellsOf 3)) = some x1 := hf 1 _ rfl
    rw [co3] at q
    exact q
  have f2 : DataW.trod enc Tryz.prog W base spare held m 3 [c2] = some x2 := by
    have q : DataW.trod enc Tryz.prog W base spare held m 3 ((List.drop 2 [c0, c1, c2, c3, c4, c5, c6, c7, c8]).take (Tryz.prog.cellsOf 3)) = some x2 := hf 2 _ rfl
    rw [co3] at q
    exact q
  have f3 : DataW.trod enc Tryz.prog W base spare held m 3 [c3] = some x3 := by
    have q : DataW.trod enc Tryz.prog W base spare held m 3 ((List.drop 3 [c0, c1, c2, c3, c4, c5, c6, c7, c8]).take (Tryz.prog.cellsOf 3)) = some x3 := hf 3 _ rfl
    rw [co3] at q
    exact q
  have f4 : DataW.trod enc Tryz.prog W base spare held m 3 [c4] = some x4 := by
    have q : DataW.trod enc Tryz.prog W base spare held m 3 ((List.drop 4 [c0, c1, c2, c3, c4, c5, c6, c7, c8]).take (Tryz.prog.cellsOf 3)) = some x4 := hf 4 _ rfl
    rw [co3] at q
    exact q
  have f5 : DataW.trod enc Tryz.prog W base spare held m 9 [c5] = some x5 := by
    have q : DataW.trod enc Tryz.prog W base spare held m 9 ((List.drop 5 [c0, c1, c2, c3, c4, c5, c6, c7, c8]).take (Tryz.prog.cellsOf 9)) = some x5 := hf 5 _ rfl
    rw [co9] at q
    exact q
  have f6 : DataW.trod enc Tryz.prog W base spare held m 9 [c6] = some x6 := by
    have q : DataW.trod enc Tryz.prog W base spare held m 9 ((List.drop 6 [c0, c1, c2, c3, c4, c5, c6, c7, c8]).take (Tryz.prog.cellsOf 9)) = some x6 := hf 6 _ rfl
    rw [co9] at q
    exact q
  have f7 : DataW.trod enc Tryz.prog W base spare held m 25 [c7] = some x7 := by
    have q : DataW.trod enc Tryz.prog W base spare held m 25 ((List.drop 7 [c0, c1, c2, c3, c4, c5, c6, c7, c8]).take (Tryz.prog.cellsOf 25)) = some x7 := hf 7 _ rfl
    rw [co25] at q
    exact q
  have f8 : DataW.trod enc Tryz.prog W base spare held m 26 [c8] = some x8 := by
    have q : DataW.trod enc Tryz.prog W base spare held m 26 ((List.drop 8 [c0, c1, c2, c3, c4, c5, c6, c7, c8]).take (Tryz.prog.cellsOf 26)) = some x8 := hf 8 _ rfl
    rw [co26] at q
    exact q
  obtain ⟨k, e0, _, _⟩ := DataW.trod_int Tryz.underlying3 f0
  obtain ⟨a, e1, _, _⟩ := DataW.trod_int Tryz.underlying3 f1
  obtain ⟨b, e2, _, _⟩ := DataW.trod_int Tryz.underlying3 f2
  obtain ⟨c, e3, _, _⟩ := DataW.trod_int Tryz.underlying3 f3
  obtain ⟨d, e4, _, _⟩ := DataW.trod_int Tryz.underlying3 f4
  obtain ⟨s, e5, q5, _⟩ := DataW.trod_string Tryz.underlying9 f5
  obtain ⟨t, e6, q6, _⟩ := DataW.trod_string Tryz.underlying9 f6
  obtain ⟨la, ln, lc, e7⟩ := Joins.slice_form Tryz.underlying25 f7
  obtain ⟨lb, hn, hc, e8⟩ := Joins.slice_form Tryz.underlying26 f8
  simp at e0 e1 e2 e3 e4 e5 e6 e7 e8
  subst e0 e1 e2 e3 e4 e5 e6 e7 e8
  subst q5 q6
  have w5 : s.size ≤ reachBytes := hw _ (by
    show s.size ∈ DataW.weights Tryz.prog 28 (.agg _)
    simp only [DataW.weights, Tryz.underlying28]
    refine DataW.weights_mem_each (j := 5) (t := 9) (d := .lit (.string s.data.toList)) rfl rfl _ ?_
    rw [Lib.size_eq]; simp [DataW.weights])
  have w6 : t.size ≤ reachBytes := hw _ (by
    show t.size ∈ DataW.weights Tryz.prog 28 (.agg _)
    simp only [DataW.weights, Tryz.underlying28]
    refine DataW.weights_mem_each (j := 6) (t := 9) (d := .lit (.string t.data.toList)) rfl rfl _ ?_
    rw [Lib.size_eq]; simp [DataW.weights])
  exact ⟨⟨k, a, b, c, d, s, t, la, ln, lc, lb, hn, hc⟩, rfl, w5, w6⟩

theorem open_script {H : Type} {enc : TypeId × Value → H} {W : World} {base : Nat} {spare : Nat → Bool} {held : Bool} {fuel : Nat} {v : Value} {x : DataW H × List MemPlace} (h : DataW.trod enc Tryz.prog W base spare held fuel 23 [v] = some x)
    (hw : ∀ n ∈ x.1.weights Tryz.prog 23, n ≤ reachBytes) : ∃ sa n sc ops, v = .slice sa n sc ∧ ScriptAt W sa n sc ops ∧ n * 120 ≤ 140737488351232 ∧ ∀ o ∈ ops, o.s.size ≤ 140737488351232 ∧ o.t.size ≤ 140737488351232 := by
  rcases open_slice Tryz.underlying23 h with ⟨hcs, rfl⟩ | ⟨a, len, cap, m, n, D, Pl, hcs, _, hl, _, hm, rfl, hx⟩
  · simp only [List.cons.injEq, and_true] at hcs
    exact ⟨none, 0, 0, [], hcs, ⟨rfl, .inl ⟨rfl, rfl, rfl⟩⟩, by omega, fun o ho => by simp at ho⟩
  · simp only [List.cons.injEq, and_true] at hcs
    rw [co28] at hx
    have hlm : len ≤ m := by rw [hm]; split <;> omega
    have hw' : ∀ q ∈ DataW.weightsAll Tryz.prog 28 ((List.range len).map D), q ≤ reachBytes := fun q hq => hw q (by
      simp only [DataW.weights, Tryz.underlying23, List.mem_cons, List.mem_append]
      exact .inr (.inl hq))
    have hlen : len * 120 ≤ 140737488351232 := by
      have := hw ((((List.range len).map D).length + ((List.range (m - len)).map fun j => D (len + j)).length) * Tryz.prog.bytesOf 28) (by
        simp only [DataW.weights, Tryz.underlying23, List.mem_cons]
        first | exact .inl rfl | exact .inl trivial)
      rw [bytes28] at this
      simp only [List.length_map, List.length_range, reachBytes] at this
      omega
    have each : ∀ i, i < len → ∃ o : OpD, (∀ j u, o.cells[j]? = some u → W.cell? (a.add (i * 9 + j)) = some u) ∧ o.s.size ≤ 140737488351232 ∧ o.t.size ≤ 140737488351232 := fun i hi => by
      obtain ⟨cs', h1, h2⟩ := hx i (by omega)
      obtain ⟨_, hlen', hcell⟩ := World.cells?_some h1
      obtain ⟨o, ho, os, ot⟩ := open_op h2 (fun q hq => hw' q (weightsAll_mem (d := D i) (List.mem_map.2 ⟨i, by simpa using hi, rfl⟩) hq))
      refine ⟨o, fun j u hj => ?_, os, ot⟩
      have hj9 : j < 9 := by
        rcases Nat.lt_or_ge j 9 with q | q
        · exact q
        · rw [List.getElem?_eq_none (show o.cells.length ≤ j from q)] at hj; cases hj
      have := hcell j hj9
      rw [Go.Addr.add_add] at this
      rw [this, ho, hj]
    haveI : Inhabited OpD := ⟨⟨0, 0, 0, 0, 0, ⟨#[]⟩, ⟨#[]⟩, none, 0, 0, none, 0, 0⟩⟩
    obtain ⟨O, hO⟩ := choose_lt (α := OpD) (p := fun i o => (∀ j u, o.cells[j]? = some u → W.cell? (a.add (i * 9 + j)) = some u) ∧ o.s.size ≤ 140737488351232 ∧ o.t.size ≤ 140737488351232) each
    refine ⟨some a, len, cap, (List.range len).map O, hcs, ⟨by simp, .inr ⟨a, rfl, fun q u hq => ?_⟩⟩, hlen, fun o ho => ?_⟩
    · have hql : q < len * 9 := by
        rcases Nat.lt_or_ge q (len * 9) with z | z
        · exact z
        · rw [List.getElem?_eq_none (by rw [opsCells_length]; simpa using z)] at hq; cases hq
      have hi : q / 9 < len := by omega
      have hoi : ((List.range len).map O)[q / 9]? = some (O (q / 9)) := by simp [hi]
      have hqe : q = q / 9 * 9 + q % 9 := by omega
      have hu : (O (q / 9)).cells[q % 9]? = some u := by
        have hlt : q % 9 < (O (q / 9)).cells.length := by show q % 9 < 9; omega
        have e := opsCells_at _ _ _ hoi (q % 9) _ (List.getElem?_eq_getElem hlt)
        rw [← hqe, hq] at e
        rw [List.getElem?_eq_getElem hlt, ← e]
      have := (hO (q / 9) hi).1 (q % 9) u hu
      rw [← hqe] at this
      exact this
    · obtain ⟨i, hi, rfl⟩ := List.mem_map.1 ho
      exact (hO i (by simpa using hi)).2

end Go.Proofs.YtgchiamkeeljkaaGreatDoor
