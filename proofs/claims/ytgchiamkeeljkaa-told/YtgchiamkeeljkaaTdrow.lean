/-
  weavekeep.Told: the row.
-/
import Derived.Test.YtgchiamkeeljkaaTwk
import Derived.SizedLaws
import Derived.ChangeOld
import Derived.Below
import Derived.OpenShut
import Derived.ChangeMaps5
import Derived.JoinedOf
import Derived.WideShapes
namespace Go.Proofs.Ytgchiamkeeljkaa
open Go Go.ChangeShapes Go.WideShapes Go.RowKit Go.ChangeMaps

theorem tco3 : Try.prog.cellsOf 3 = 1 := by kernel_rfl
theorem tcoS : Try.prog.cellsOf 23 = 7 := by kernel_rfl
theorem town : ownKnob Try.prog.godebug = none := by kernel_rfl
theorem tlaidOut : laidOutB Try.prog = true := by kernel_rfl
theorem tlen7 {α : Type} (l : List α) (h : l.length = 7) : ∃ a0 a1 a2 a3 a4 a5 a6, l = [a0, a1, a2, a3, a4, a5, a6] := by
  match l, h with
  | [a0, a1, a2, a3, a4, a5, a6], _ => exact ⟨a0, a1, a2, a3, a4, a5, a6, rfl⟩
theorem open_stream {H : Type} {enc : TypeId × Value → H} {W : World} {base : Nat} {spare : Nat → Bool} {held : Bool} {fuel : Nat} {cs : List Value} {x : DataW H × List MemPlace} (h : DataW.trod enc Try.prog W base spare held fuel 23 cs = some x) :
    ∃ v0 v1 v2 v3 v4 v5 v6 : Int, cs = [.int .i64 v0, .int .i64 v1, .int .i64 v2, .int .i64 v3, .int .i64 v4, .int .i64 v5, .int .i64 v6] ∧ (Lit.int .i64 v0).wf = true ∧ (Lit.int .i64 v1).wf = true ∧ (Lit.int .i64 v2).wf = true ∧ (Lit.int .i64 v3).wf = true ∧ (Lit.int .i64 v4).wf = true ∧ (Lit.int .i64 v5).wf = true ∧ (Lit.int .i64 v6).wf = true := by
  obtain ⟨xs, m, _, rfl, hl, hxl, hf⟩ := DataW.trod_struct Try.underlying23 h
  rw [tcoS] at hl
  have hxl : xs.length = 7 := hxl
  obtain ⟨c0, c1, c2, c3, c4, c5, c6, rfl⟩ := tlen7 cs hl
  obtain ⟨x0, x1, x2, x3, x4, x5, x6, rfl⟩ := tlen7 xs hxl
  have f0 : DataW.trod enc Try.prog W base spare held m 3 [c0] = some x0 := by
    have q : DataW.trod enc Try.prog W base spare held m 3 ((List.drop 0 [c0, c1, c2, c3, c4, c5, c6]).take (Try.prog.cellsOf 3)) = some x0 := hf 0 _ rfl
    rw [tco3] at q
    exact q
  have f1 : DataW.trod enc Try.prog W base spare held m 3 [c1] = some x1 := by
    have q : DataW.trod enc Try.prog W base spare held m 3 ((List.drop 1 [c0, c1, c2, c3, c4, c5, c6]).take (Try.prog.cellsOf 3)) = some x1 := hf 1 _ rfl
    rw [tco3] at q
    exact q
  have f2 : DataW.trod enc Try.prog W base spare held m 3 [c2] = some x2 := by
    have q : DataW.trod enc Try.prog W base spare held m 3 ((List.drop 2 [c0, c1, c2, c3, c4, c5, c6]).take (Try.prog.cellsOf 3)) = some x2 := hf 2 _ rfl
    rw [tco3] at q
    exact q
  have f3 : DataW.trod enc Try.prog W base spare held m 3 [c3] = some x3 := by
    have q : DataW.trod enc Try.prog W base spare held m 3 ((List.drop 3 [c0, c1, c2, c3, c4, c5, c6]).take (Try.prog.cellsOf 3)) = some x3 := hf 3 _ rfl
    rw [tco3] at q
    exact q
  have f4 : DataW.trod enc Try.prog W base spare held m 3 [c4] = some x4 := by
    have q : DataW.trod enc Try.prog W base spare held m 3 ((List.drop 4 [c0, c1, c2, c3, c4, c5, c6]).take (Try.prog.cellsOf 3)) = some x4 := hf 4 _ rfl
    rw [tco3] at q
    exact q
  have f5 : DataW.trod enc Try.prog W base spare held m 3 [c5] = some x5 := by
    have q : DataW.trod enc Try.prog W base spare held m 3 ((List.drop 5 [c0, c1, c2, c3, c4, c5, c6]).take (Try.prog.cellsOf 3)) = some x5 := hf 5 _ rfl
    rw [tco3] at q
    exact q
  have f6 : DataW.trod enc Try.prog W base spare held m 3 [c6] = some x6 := by
    have q : DataW.trod enc Try.prog W base spare held m 3 ((List.drop 6 [c0, c1, c2, c3, c4, c5, c6]).take (Try.prog.cellsOf 3)) = some x6 := hf 6 _ rfl
    rw [tco3] at q
    exact q
  obtain ⟨v0, e0, _, z0⟩ := DataW.trod_int Try.underlying3 f0
  obtain ⟨v1, e1, _, z1⟩ := DataW.trod_int Try.underlying3 f1
  obtain ⟨v2, e2, _, z2⟩ := DataW.trod_int Try.underlying3 f2
  obtain ⟨v3, e3, _, z3⟩ := DataW.trod_int Try.underlying3 f3
  obtain ⟨v4, e4, _, z4⟩ := DataW.trod_int Try.underlying3 f4
  obtain ⟨v5, e5, _, z5⟩ := DataW.trod_int Try.underlying3 f5
  obtain ⟨v6, e6, _, z6⟩ := DataW.trod_int Try.underlying3 f6
  simp at e0 e1 e2 e3 e4 e5 e6
  subst e0 e1 e2 e3 e4 e5 e6
  exact ⟨v0, v1, v2, v3, v4, v5, v6, rfl, z0, z1, z2, z3, z4, z5, z6⟩
set_option maxHeartbeats 1600000 in
set_option maxRecDepth 100000 in
theorem told_lifted (os : Os) (started : os.Started) (H : Type) (enc : TypeId × Value → H) :
    ReturnsInHanded {} Try.checked os 3 .any (Rows.toldSpec.pre6 enc Try.prog Try.f3 [] false) (Rows.toldSpec.post enc Try.prog Try.f3 false true false false) := by
  refine returnsInHanded_of_change_sized (C := Try.checked) town started (by kernel_rfl) Try.func3
    (ChangeSpec.witness6 (enc := enc) (C := Try.checked) false ⟨#[], #[.agg #[.int .i64 0, .int .i64 0, .int .i64 0, .int .i64 0, .int .i64 0, .int .i64 0, .int .i64 0], .int .i64 0, .int .i64 0, .int .i64 0, .string ⟨#[]⟩, .int .i64 0, .int .i64 0, .string ⟨#[]⟩], []⟩ 8 (by kernel_rfl) (by kernel_rfl) (by kernel_rfl) (by kernel_rfl)) ?_
  intro W base args ds gs before hval0 hW hcnd0 hsz0 _
  have hsz : (DataW.weightsEach Try.prog (Try.f3.params.toList ++ Rows.toldSpec.plain.varTypes Try.prog) (ds ++ gs)).all (· ≤ reachBytes) = true := hsz0
  have hval : ∀ (j : Nat) t v, Try.f3.params[j]? = some t → args[j]? = some v → Value.okWide Try.prog W .any base t v := hval0
  have hW' := hW
  obtain ⟨p, q, hA0, hV, rfl, hfz, hnd⟩ := hW
  have hA : DataW.TrodAll enc Try.prog W 0 (fun _ => true) true Try.f3.params.toList args.toList ds p := hA0
  rw [Try.params3] at hA hval hsz
  obtain ⟨v0, vs0, d0, ds0, p0, q0, hargs, rfl, rfl, h0, r0⟩ := trodAll_cons hA
  obtain ⟨v1, vs1, d1, ds1, p1, q1, rfl, rfl, rfl, h1, r1⟩ := trodAll_cons r0
  obtain ⟨v2, vs2, d2, ds2, p2, q2, rfl, rfl, rfl, h2, r2⟩ := trodAll_cons r1
  obtain ⟨v3, vs3, d3, ds3, p3, q3, rfl, rfl, rfl, h3, r3⟩ := trodAll_cons r2
  obtain ⟨v4, vs4, d4, ds4, p4, q4, rfl, rfl, rfl, h4, r4⟩ := trodAll_cons r3
  obtain ⟨v5, vs5, d5, ds5, p5, q5, rfl, rfl, rfl, h5, r5⟩ := trodAll_cons r4
  obtain ⟨v6, vs6, d6, ds6, p6, q6, rfl, rfl, rfl, h6, r6⟩ := trodAll_cons r5
  obtain ⟨v7, vs7, d7, ds7, p7, q7, rfl, rfl, rfl, h7, r7⟩ := trodAll_cons r6
  obtain ⟨rfl, rfl, rfl⟩ := trodAll_nil r7
  obtain rfl : args = #[v0, v1, v2, v3, v4, v5, v6, v7] := by cases args; simp_all
  obtain ⟨rfl, rfl⟩ := trodVars_none hV
  have k0 := h0
  have lt0 : ∀ x ∈ p0, x.block < W.heap.size := by obtain ⟨m, hm⟩ := k0; exact DataW.trod_lt m _ _ _ hm
  have k1 := h1
  have lt1 : ∀ x ∈ p1, x.block < W.heap.size := by obtain ⟨m, hm⟩ := k1; exact DataW.trod_lt m _ _ _ hm
  have k2 := h2
  have lt2 : ∀ x ∈ p2, x.block < W.heap.size := by obtain ⟨m, hm⟩ := k2; exact DataW.trod_lt m _ _ _ hm
  have k3 := h3
  have lt3 : ∀ x ∈ p3, x.block < W.heap.size := by obtain ⟨m, hm⟩ := k3; exact DataW.trod_lt m _ _ _ hm
  have k4 := h4
  have lt4 : ∀ x ∈ p4, x.block < W.heap.size := by obtain ⟨m, hm⟩ := k4; exact DataW.trod_lt m _ _ _ hm
  have k5 := h5
  have lt5 : ∀ x ∈ p5, x.block < W.heap.size := by obtain ⟨m, hm⟩ := k5; exact DataW.trod_lt m _ _ _ hm
  have k6 := h6
  have lt6 : ∀ x ∈ p6, x.block < W.heap.size := by obtain ⟨m, hm⟩ := k6; exact DataW.trod_lt m _ _ _ hm
  have k7 := h7
  have lt7 : ∀ x ∈ p7, x.block < W.heap.size := by obtain ⟨m, hm⟩ := k7; exact DataW.trod_lt m _ _ _ hm
  obtain ⟨cs, rfl, hcs⟩ := okWide_struct Try.underlying23 (hval 0 23 v0 rfl rfl)
  obtain ⟨a, b, c, d, e, f, g, hcl, wa, wb, wc, wd, we, wf', wg⟩ : ∃ a b c d e f g : Int, cs.toList = [.int .i64 a, .int .i64 b, .int .i64 c, .int .i64 d, .int .i64 e, .int .i64 f, .int .i64 g] ∧ (Lit.int .i64 a).wf = true ∧ (Lit.int .i64 b).wf = true ∧ (Lit.int .i64 c).wf = true ∧ (Lit.int .i64 d).wf = true ∧ (Lit.int .i64 e).wf = true ∧ (Lit.int .i64 f).wf = true ∧ (Lit.int .i64 g).wf = true := by
    obtain ⟨fuel, hf⟩ := h0
    exact open_stream (x := (d0, p0)) (by simpa [Value.cells] using hf)
  obtain rfl : cs = #[.int .i64 a, .int .i64 b, .int .i64 c, .int .i64 d, .int .i64 e, .int .i64 f, .int .i64 g] := by
    apply Array.toList_inj.1
    rw [hcl]
  obtain ⟨n1, rfl, _, _, w1⟩ := open_int Try.underlying3 (hval 1 3 v1 rfl rfl) h1
  obtain ⟨n2, rfl, _, _, w2⟩ := open_int Try.underlying3 (hval 2 3 v2 rfl rfl) h2
  obtain ⟨n3, rfl, _, _, w3⟩ := open_int Try.underlying3 (hval 3 3 v3 rfl rfl) h3
  obtain ⟨s4, rfl, e4, _, _⟩ := open_string Try.underlying9 (hval 4 9 v4 rfl rfl) h4
  obtain ⟨n5, rfl, _, _, w5⟩ := open_int Try.underlying3 (hval 5 3 v5 rfl rfl) h5
  obtain ⟨n6, rfl, _, _, w6⟩ := open_int Try.underlying3 (hval 6 3 v6 rfl rfl) h6
  obtain ⟨s7, rfl, e7, _, _⟩ := open_string Try.underlying9 (hval 7 9 v7 rfl rfl) h7
  have z4 : s4.size ≤ 140737488351232 := by
    have := sized_string hsz (j := 4) (t := 9) (bytes := s4.data.toList) rfl (by rw [e4]; rfl)
    rw [Lib.size_eq]
    simpa [reachBytes] using this
  have z7 : s7.size ≤ 140737488351232 := by
    have := sized_string hsz (j := 7) (t := 9) (bytes := s7.data.toList) rfl (by rw [e7]; rfl)
    rw [Lib.size_eq]
    simpa [reachBytes] using this
  clear hA0 hval0 hsz hsz0 hval
  refine (told_any a b c d e f g n1 n2 n3 n5 n6 s4 s7 W wa wb wc wd we wf' wg w1 w2 w3 w5 w6 z4 z7).mono fun e W' ⟨he, hk⟩ => ?_
  have bel : Below W.heap.size W W' := hk.below (Nat.le_refl _) (fun _ _ x => x)
  subst he
  exact ⟨_, rfl, _, _, _, [], _, [], hW', trodAll_mk1 (shut_bool Try.underlying4 _), (trodAll_cons_mk (Below.trod tlaidOut (by kernel_rfl) (of_decide_eq_true (by kernel_rfl)) k0 bel lt0) (trodAll_cons_mk (Below.trod tlaidOut (by kernel_rfl) (of_decide_eq_true (by kernel_rfl)) k1 bel lt1) (trodAll_cons_mk (Below.trod tlaidOut (by kernel_rfl) (of_decide_eq_true (by kernel_rfl)) k2 bel lt2) (trodAll_cons_mk (Below.trod tlaidOut (by kernel_rfl) (of_decide_eq_true (by kernel_rfl)) k3 bel lt3) (trodAll_cons_mk (Below.trod tlaidOut (by kernel_rfl) (of_decide_eq_true (by kernel_rfl)) k4 bel lt4) (trodAll_cons_mk (Below.trod tlaidOut (by kernel_rfl) (of_decide_eq_true (by kernel_rfl)) k5 bel lt5) (trodAll_cons_mk (Below.trod tlaidOut (by kernel_rfl) (of_decide_eq_true (by kernel_rfl)) k6 bel lt6) (trodAll_cons_mk (Below.trod tlaidOut (by kernel_rfl) (of_decide_eq_true (by kernel_rfl)) k7 bel lt7) (trodAll_mk0))))))))), rfl, bel.frame _, fun h => by cases h⟩

theorem told_holds : Rows.ToldSaid :=
  OpenClaim.holds_of_wide 3 Try.f3 rfl rfl rfl rfl rfl rfl rfl ⟨rfl, rfl, rfl, rfl, rfl⟩ rfl rfl rfl rfl rfl (by kernel_rfl) Try.func3 (by kernel_rfl)
    (of_decide_eq_true (by kernel_rfl)) (by unfold Func.isWrapper; first | (rw [if_pos (by decide +kernel)]; kernel_rfl) | (rw [if_neg (by decide +kernel)]; exact ⟨rfl, rfl⟩))
    (fun os started H enc _ => told_lifted os started H enc)
#print axioms told_holds
end Go.Proofs.Ytgchiamkeeljkaa
