/-
  weavelaw.plays at the field's kinds.
-/
import Derived.Test.YtgchiamkeeljkaaGreatDoorStep
import Derived.Laws.AppendOwnNone
namespace Go.Proofs.YtgchiamkeeljkaaGreatDoor
open Go Go.RowKit

/-- A step of a script. -/
structure OpD where
  k : Int
  a : Int
  b : Int
  c : Int
  d : Int
  s : ByteArray
  t : ByteArray
  la : Option Addr
  ln : Nat
  lc : Nat
  lb : Option Addr
  hn : Nat
  hc : Nat
def OpD.cells (o : OpD) : List Value := [.int .i64 o.k, .int .i64 o.a, .int .i64 o.b, .int .i64 o.c, .int .i64 o.d, .string o.s, .string o.t, .slice o.la o.ln o.lc, .slice o.lb o.hn o.hc]
def opsCells (ops : List OpD) : List Value := ops.flatMap OpD.cells
theorem opsCells_length (ops : List OpD) : (opsCells ops).length = ops.length * 9 := by
  induction ops with
  | nil => rfl
  | cons o r ih =>
    show (o.cells ++ opsCells r).length = _
    rw [List.length_append, ih]
    show 9 + r.length * 9 = (r.length + 1) * 9
    omega
theorem opsCells_at : ∀ (ops : List OpD) (i : Nat) (o : OpD), ops[i]? = some o → ∀ j v, o.cells[j]? = some v → (opsCells ops)[i * 9 + j]? = some v
  | [], i, o, h, _, _, _ => by simp at h
  | x :: r, 0, o, h, j, v, hv => by
    obtain rfl : x = o := by simpa using h
    have hj : j < x.cells.length := by
      rcases Nat.lt_or_ge j x.cells.length with q | q
      · exact q
      · rw [List.getElem?_eq_none q] at hv; cases hv
    show (x.cells ++ opsCells r)[0 * 9 + j]? = some v
    rw [Nat.zero_mul, Nat.zero_add, List.getElem?_append_left hj]; exact hv
  | x :: r, i + 1, o, h, j, v, hv => by
    show (x.cells ++ opsCells r)[(i + 1) * 9 + j]? = some v
    have hl : x.cells.length = 9 := rfl
    rw [List.getElem?_append_right (by omega), hl, show (i + 1) * 9 + j - 9 = i * 9 + j from by omega]
    exact opsCells_at r i o (by simpa using h) j v hv
theorem opsCells_one (ops : List OpD) : ∀ u ∈ opsCells ops, u.oneCell' = true := fun u hu => by
  obtain ⟨o, _, ho⟩ := List.mem_flatMap.1 hu
  simp only [OpD.cells, List.mem_cons, List.not_mem_nil, or_false] at ho
  rcases ho with rfl | rfl | rfl | rfl | rfl | rfl | rfl | rfl | rfl <;> rfl
theorem opsCells_append (p q : List OpD) : opsCells p ++ opsCells q = opsCells (p ++ q) := by simp [opsCells]

/-- The steps lie in memory, from a place on. -/
def OpsAt (w : World) (ad : Addr) (ops : List OpD) : Prop := ∀ i v, (opsCells ops)[i]? = some v → w.cell? (ad.add i) = some v

theorem info28 : (Tryz.prog.info? 28).map (fun i => (i.zero, i.size, i.bytes)) = some (some (.agg #[.int .i64 0, .int .i64 0, .int .i64 0, .int .i64 0, .int .i64 0, .string ⟨#[]⟩, .string ⟨#[]⟩, .slice none 0 0, .slice none 0 0]), 9, 120) := by kernel_rfl

/-- A script as it comes in: nil, or its steps in memory. -/
def ScriptAt (w : World) (sa : Option Addr) (n sc : Nat) (ops : List OpD) : Prop := ops.length = n ∧ ((sa = none ∧ n = 0 ∧ sc = 0) ∨ ∃ ad, sa = some ad ∧ OpsAt w ad ops)
theorem ScriptAt.keeps {w w' : World} {sa : Option Addr} {n sc : Nat} {ops : List OpD} (h : ScriptAt w sa n sc ops) (k : Keeps NoB w w') : ScriptAt w' sa n sc ops := by
  obtain ⟨h1, h2 | ⟨ad, h2, h3⟩⟩ := h
  · exact ⟨h1, .inl h2⟩
  · exact ⟨h1, .inr ⟨ad, h2, fun i v hv => (k.cell (World.block_lt_of_cell? w _ (h3 i v hv)) (fun x => x)).trans (h3 i v hv)⟩⟩
theorem wpList_append_script {w : World} {ops : Array Oper} {rest : List Oper} {o : Oper} {a : Act} {Q : Exit → Act → World → Prop} (hgd : o.guard = none) (s x : Operand)
    (ho : o.op = .call { callee := .builtin .append, args := #[s, x], argTypes := #[23, 23] }) {base m : Nat} {v : Value} {p q : List OpD} {sa : Option Addr} {n sc : Nat} (hs : a.eval s = v) (hown : w.ownsRow base 28 9 v m (opsCells p)) (hx : a.eval x = .slice sa n sc) (hq : ScriptAt w sa n sc q)
    (hb : (m + n) * 120 ≤ 140737488355328) (hbase : base ≤ w.heap.size)
    (h : ∀ v' w', Hid (w'.ownsRow base 28 9 v' (m + n) (opsCells (p ++ q))) → Hid (w.grownBy w' v.ownBlock) → wpList Tryz.prog ops Q rest (a.put o.dst v') w') : wpList Tryz.prog ops Q (o :: rest) a w := by
  obtain ⟨i0, hi0, hz0, hz1, hz2⟩ := info_parts info28
  obtain ⟨h1, ⟨rfl, rfl, rfl⟩ | ⟨ad, rfl, h3⟩⟩ := hq
  · obtain rfl : q = [] := List.eq_nil_of_length_eq_zero h1
    refine wpList_append_own_none hgd s x 23 ho base 28 i0 9 Tryz.underlying23 hi0 v m (opsCells p) hs hown hx ?_
    exact h v w (show w.ownsRow base 28 9 v (m + 0) (opsCells (p ++ [])) by simpa using hown) (show w.grownBy w _ from ⟨rfl, rfl, rfl, Nat.le_refl _, fun _ _ _ => rfl⟩)
  · refine wpList_append_own _ hgd s x 23 ho base 28 i0 _ 9 120 Tryz.underlying23 hi0 hz0 hz1 hz2 rfl (by decide) v m (opsCells p) hs hown ad n sc (opsCells q) hx (by rw [opsCells_length, h1]) h3 (opsCells_one _) (by unfold maxLen; omega) hb hbase (fun v' w' r1 r2 _ => h v' w' (by rw [← opsCells_append]; exact r1) r2)

/-- The world that plays makes: no things, an empty book. -/
def fresh7 (cs : Value) (j : Nat) : Value := if j = 0 then cs else .slice none 0 0
theorem book_start (w : World) (cs : Value) : BookOk (w.heap.size + 1) w.heap.size (fresh7 cs) [] (w.alloc (.cells #[cs, .slice none 0 0, .slice none 0 0, .slice none 0 0, .slice none 0 0, .slice none 0 0, .slice none 0 0] 75)) := by
  refine ⟨⟨?_, World.ownsRow_nil _ _ _ _, by simp [fresh7, Value.ownBlock], by omega, by simp⟩, rfl, rfl, fun i s h => by simp at h, fun s hs => by simp at hs, fun i j s t b h => by simp at h⟩
  refine World.rowIs_alloc w _ 75 (fresh7 cs) (fun i hi => ?_)
  match i, hi with
  | 0, _ => rfl
  | 1, _ => rfl
  | 2, _ => rfl
  | 3, _ => rfl
  | 4, _ => rfl
  | 5, _ => rfl
  | 6, _ => rfl

set_option maxRecDepth 20000 in
set_option maxHeartbeats 1000000 in
theorem plays_any (w : World) (hT : Tabs w) (ca : Option Addr) (cn cc ba bp : Nat) (o0 : OpD) (ops : List OpD) (sa : Option Addr) (n sc : Nat)
    (hsc : ScriptAt w sa n sc ops) (hsz : n * 120 ≤ 140737488351232) (hstr : ∀ o ∈ o0 :: ops, o.s.size ≤ 140737488351232 ∧ o.t.size ≤ 140737488351232)
    (hba : OpsAt w ⟨ba, 0, none⟩ [o0]) (p0 : w.cell? ⟨bp, 0, none⟩ = some (.int .i64 1)) (p1 : w.cell? ⟨bp, 1, none⟩ = some (.int .i64 2)) (p2 : w.cell? ⟨bp, 2, none⟩ = some (.int .i64 3)) :
    Calls Tryz.prog 11 #[.slice ca cn cc, .slice (some ⟨ba, 0, none⟩) 1 1, .slice sa n sc, .slice (some ⟨bp, 0, none⟩) 3 3] w fun e w' => e = .returned (.bool true) ∧ Keeps NoB w w' := by
  have HT : Hid (Tabs w) := hT
  have HSC : Hid (ScriptAt w sa n sc ops) := hsc
  have HBA : Hid (ScriptAt w (some ⟨ba, 0, none⟩) 1 1 [o0]) := ⟨rfl, .inr ⟨_, rfl, hba⟩⟩
  have HSTR : Hid (∀ o ∈ o0 :: ops, o.s.size ≤ 140737488351232 ∧ o.t.size ≤ 140737488351232) := hstr
  have HP : Hid (w.cell? ⟨bp, 0, none⟩ = some (.int .i64 1) ∧ w.cell? ⟨bp, 1, none⟩ = some (.int .i64 2) ∧ w.cell? ⟨bp, 2, none⟩ = some (.int .i64 3)) := ⟨p0, p1, p2⟩
  have hb3 : 3 < w.heap.size := World.block_lt_of_cell? w _ (hT.2.2 0 (by decide))
  have hbp : bp < w.heap.size := World.block_lt_of_cell? w _ p0
  clear hT hsc hba hstr p0 p1 p2
  go_enter Tryz.func11, Tryz.ntmps11
  go_upto_region 3 with (at_builtin; refine wpList_append_script rfl (.tmp 16) (.tmp 17) rfl (base := w.heap.size) (m := 0) (p := []) (q := [o0]) rfl (World.ownsRow_nil _ _ _ _) rfl HBA.out (by omega) (Nat.le_refl _) ?_; intro v1 w1 O1 G1; have K1 : Hid (Keeps NoB w w1) := (Keeps.refl NoB w).grown G1.out (fun k e => by cases e))
  go_upto_region 4 with (at_builtin; refine wpList_append_script rfl (.tmp 19) (.tmp 20) rfl (p := [o0]) (q := ops) rfl O1.out rfl (HSC.out.keeps K1.out) (by omega) K1.out.size ?_; intro v2 w2 O2 G2; have K2 : Hid (Keeps NoB w w2) := K1.out.grown G2.out (fun k e => .inl (O1.out.lt k e).1); clear O1 G1 G2 K1)
  obtain ⟨g, cap, hv2, hg1, hg2⟩ := O2.out.form (by omega)
  subst hv2
  have e1 : 0 + 1 + n = n + 1 := by omega
  rw [e1] at O2 ⊢
  clear e1
  have HL : Hid ((o0 :: ops).length = n + 1) := by have := HSC.out.1; show _ = _; simp; omega
  have HNB : Hid ((n + 1) * 120 ≤ 140737488351352) := by show _ ≤ _; omega
  generalize n + 1 = N at O2 HL HNB ⊢
  have HSZ : Hid (n * 120 ≤ 140737488351232) := hsz
  clear hsz
  go_wp2
  have HB : Hid (BookOk (w2.heap.size + 1) w2.heap.size (fresh7 (.slice ca cn cc)) [] (w2.alloc (.cells #[.slice ca cn cc, .slice none 0 0, .slice none 0 0, .slice none 0 0, .slice none 0 0, .slice none 0 0, .slice none 0 0] 75))) := book_start w2 _
  have HK : Hid (Keeps NoB w (w2.alloc (.cells #[.slice ca cn cc, .slice none 0 0, .slice none 0 0, .slice none 0 0, .slice none 0 0, .slice none 0 0, .slice none 0 0] 75))) := K2.out.alloc _
  have HZ : (w2.alloc (.cells #[.slice ca cn cc, .slice none 0 0, .slice none 0 0, .slice none 0 0, .slice none 0 0, .slice none 0 0, .slice none 0 0] 75)).heap.size = w2.heap.size + 1 := by simp
  have HA : Hid (∀ i o, (o0 :: ops)[i]? = some o → ∀ j v, o.cells[j]? = some v → (w2.alloc (.cells #[.slice ca cn cc, .slice none 0 0, .slice none 0 0, .slice none 0 0, .slice none 0 0, .slice none 0 0, .slice none 0 0] 75)).cell? ⟨g, i * 9 + j, none⟩ = some v) := fun i o ho j v hv => by
    have hi : i < N := by
      rcases Nat.lt_or_ge i N with q | q
      · exact q
      · rw [List.getElem?_eq_none (by rw [HL.out]; exact q)] at ho; cases ho
    have hj : j < 9 := by
      rcases Nat.lt_or_ge j 9 with q | q
      · exact q
      · rw [List.getElem?_eq_none (by exact q)] at hv; cases hv
    rw [(O2.out.alloc _).cellAt (i * 9 + j) (by omega)]
    exact opsCells_at (o0 :: ops) i o ho j v hv
  have hgw : g < w2.heap.size := hg2
  have hww : w.heap.size ≤ w2.heap.size := K2.out.size
  generalize (w2.alloc (.cells #[.slice ca cn cc, .slice none 0 0, .slice none 0 0, .slice none 0 0, .slice none 0 0, .slice none 0 0, .slice none 0 0] 75)) = W at HB HK HZ HA ⊢
  generalize w2.heap.size = bw at HB HZ hgw hww hg2 ⊢
  clear O2 K2 hg1 hg2 HBA HSC
  go_loopw [11, 12, 13, 14, 15] (fun t _ _ _ _ wr => ∃ i : Nat, i ≤ N ∧ t = .int .i64 i ∧ Hid (∃ F L, St (bw + 1) bw F L wr ∧ L.length ≤ 4 * i ∧ Keeps (OnlyB bw) W wr)) (fun t _ _ _ _ _ => N - (intOf t).toNat)
  case atStart => exact ⟨0, by omega, rfl, _, [], ⟨HB.out, HT.out.keeps HK.out (fun x => x) (fun x => x) (fun x => x), rfl, fun s hs => by simp at hs, by omega⟩, by simp, Keeps.refl _ _⟩
  case round =>
    obtain ⟨i, hi, rfl, hst⟩ := hrel
    by_cases hlt : i < N
    · have d2 : (i : Int) < 144115188075855872 := by have := HNB.out; omega
      obtain ⟨F, L, hS, hLn, hKw⟩ := hst.out
      obtain ⟨⟨k, a, b, c, d, s, t, la, ln, lc, lb, hn, hc⟩, ho⟩ : ∃ o, (o0 :: ops)[i]? = some o := ⟨(o0 :: ops)[i]'(by rw [HL.out]; exact hlt), List.getElem?_eq_getElem _⟩
      have hcell : ∀ j v, (OpD.cells ⟨k, a, b, c, d, s, t, la, ln, lc, lb, hn, hc⟩)[j]? = some v → wr.cell? ⟨g, i * 9 + j, none⟩ = some v := fun j v hv => (hKw.cell (by show g < _; omega) (fun e => by have e' : g = bw := e; omega)).trans (HA.out i _ ho j v hv)
      have c0 : wr.cell? ⟨g, i * 9, none⟩ = some (.int .i64 k) := hcell 0 _ rfl
      have c1 : wr.cell? ⟨g, i * 9 + 1, none⟩ = some (.int .i64 a) := hcell 1 _ rfl
      have c2 : wr.cell? ⟨g, i * 9 + 2, none⟩ = some (.int .i64 b) := hcell 2 _ rfl
      have c3 : wr.cell? ⟨g, i * 9 + 3, none⟩ = some (.int .i64 c) := hcell 3 _ rfl
      have c4 : wr.cell? ⟨g, i * 9 + 4, none⟩ = some (.int .i64 d) := hcell 4 _ rfl
      have c5 : wr.cell? ⟨g, i * 9 + 5, none⟩ = some (.string s) := hcell 5 _ rfl
      have c6 : wr.cell? ⟨g, i * 9 + 6, none⟩ = some (.string t) := hcell 6 _ rfl
      have c7 : wr.cell? ⟨g, i * 9 + 7, none⟩ = some (.slice la ln lc) := hcell 7 _ rfl
      have c8 : wr.cell? ⟨g, i * 9 + 8, none⟩ = some (.slice lb hn hc) := hcell 8 _ rfl
      obtain ⟨hs, ht⟩ : s.size ≤ 140737488351232 ∧ t.size ≤ 140737488351232 := HSTR.out _ (List.mem_of_getElem? ho)
      have HSt : Hid (St (bw + 1) bw F L wr) := hS
      have HLn : Hid (L.length ≤ 4 * i) := hLn
      have HKw : Hid (Keeps (OnlyB bw) W wr) := hKw
      clear hcell hst hS hLn hKw ho
      have q3 : (wr.alloc (.cells #[.int .i64 k, .int .i64 a, .int .i64 b, .int .i64 c, .int .i64 d, .string s, .string t, .slice la ln lc, .slice lb hn hc] 28)).cell? ⟨bp, 0, none⟩ = some (.int .i64 1) ∧ (wr.alloc (.cells #[.int .i64 k, .int .i64 a, .int .i64 b, .int .i64 c, .int .i64 d, .string s, .string t, .slice la ln lc, .slice lb hn hc] 28)).cell? ⟨bp, 1, none⟩ = some (.int .i64 2) ∧ (wr.alloc (.cells #[.int .i64 k, .int .i64 a, .int .i64 b, .int .i64 c, .int .i64 d, .string s, .string t, .slice la ln lc, .slice lb hn hc] 28)).cell? ⟨bp, 2, none⟩ = some (.int .i64 3) := by
        have kk : Keeps (OnlyB bw) w (wr.alloc (.cells #[.int .i64 k, .int .i64 a, .int .i64 b, .int .i64 c, .int .i64 d, .string s, .string t, .slice la ln lc, .slice lb hn hc] 28)) := ((HK.out.mono (S' := OnlyB bw) (fun _ _ x => x.elim)).trans HKw.out).alloc _
        have nb : ¬ OnlyB bw bp := fun e => by have e' : bp = bw := e; omega
        exact ⟨(kk.cell hbp nb).trans HP.out.1, (kk.cell hbp nb).trans HP.out.2.1, (kk.cell hbp nb).trans HP.out.2.2⟩
      have Q3 : Hid ((wr.alloc (.cells #[.int .i64 k, .int .i64 a, .int .i64 b, .int .i64 c, .int .i64 d, .string s, .string t, .slice la ln lc, .slice lb hn hc] 28)).cell? ⟨bp, 0, none⟩ = some (.int .i64 1) ∧ (wr.alloc (.cells #[.int .i64 k, .int .i64 a, .int .i64 b, .int .i64 c, .int .i64 d, .string s, .string t, .slice la ln lc, .slice lb hn hc] 28)).cell? ⟨bp, 1, none⟩ = some (.int .i64 2) ∧ (wr.alloc (.cells #[.int .i64 k, .int .i64 a, .int .i64 b, .int .i64 c, .int .i64 d, .string s, .string t, .slice la ln lc, .slice lb hn hc] 28)).cell? ⟨bp, 2, none⟩ = some (.int .i64 3)) := q3
      have S3 : Hid (St (bw + 1) bw F L (wr.alloc (.cells #[.int .i64 k, .int .i64 a, .int .i64 b, .int .i64 c, .int .i64 d, .string s, .string t, .slice la ln lc, .slice lb hn hc] 28))) := HSt.out.keeps (keepsNo _ _) (fun _ _ x => x.elim)
      have hL4 : Hid ((L.length + 4) * 24 ≤ 140737488355328) := by have := HLn.out; have := HNB.out; show _ ≤ _; omega
      clear q3
      by_cases hk : kindB k = true
      · go_wp2_with (first | (go_at_call 24; refine (among_any _ bp 3 _ Q3.out.1 Q3.out.2.1 Q3.out.2.2).mono ?_; rintro e w3 ⟨rfl, hw3⟩; subst hw3) | (go_at_call 25; refine (step_any (bw + 1) bw F L _ S3.out hL4.out k a b c d hk s t hs ht la lb ln lc hn hc).mono ?_; rintro e w4 ⟨rfl, hp⟩; obtain ⟨G, M, s4, m4, _, k4⟩ := hp; have S4 : Hid (St (bw + 1) bw G M w4) := s4; have M4 : Hid (M.length ≤ L.length + 4) := m4; have K4 : Hid (Keeps (fun x => x = bw ∨ bw + 1 ≤ x) _ w4) := k4; clear s4 m4 k4) | (go_at_call 26; refine (looks_any (bw + 1) bw G M _ S4.out.book (by have := M4.out; have := hL4.out; omega) S4.out.small).mono ?_; rintro e w5 ⟨rfl, k5⟩; have K5 : Hid (Keeps NoB w4 w5) := k5; clear k5))
        go_roundw
        case rel => exact ⟨i + 1, by omega, by go_num, G, M, S4.out.keeps K5.out (fun _ _ x => x.elim), by have := M4.out; have := HLn.out; omega, (((HKw.out.alloc _).trans' K4.out (fun x hx e => by rcases e with e | e; exact e; omega)).trans' K5.out (fun _ _ x => x.elim))⟩
        case measure => simp [intOf]; omega
      · have hk' : kindB k = false := by simpa using hk
        clear hk
        go_wp2_with (go_at_call 24; refine (among_any _ bp 3 _ Q3.out.1 Q3.out.2.1 Q3.out.2.2).mono ?_; rintro e w3 ⟨rfl, hw3⟩; subst hw3)
        go_roundw
        case rel => exact ⟨i + 1, by omega, by go_num, F, L, S3.out, by have := HLn.out; omega, HKw.out.alloc _⟩
        case measure => simp [intOf]; omega
    · obtain ⟨F, L, hS, hLn, hKw⟩ := hst.out
      have HSt : Hid (St (bw + 1) bw F L wr) := hS
      have HLb : Hid (L.length ≤ 140737488355328) := by have := HNB.out; show _ ≤ _; omega
      have HKw : Hid (Keeps NoB w wr) := HK.out.trans' hKw (fun x hx e => by have e' : x = bw := e; omega)
      clear hst hS hLn hKw
      go_wp2_with (go_at_call 27; refine (apart_any (bw + 1) bw F L _ HSt.out.book HSt.out.four HLb.out HSt.out.small).mono ?_; rintro e w4 ⟨rfl, k4⟩; have K4 : Hid (Keeps (fun b => bw + 1 ≤ b) wr w4) := k4; clear k4)
      go_ret
      exact ⟨rfl, HKw.out.trans' K4.out (fun x hx e => by have e' : bw + 1 ≤ x := e; omega)⟩
end Go.Proofs.YtgchiamkeeljkaaGreatDoor
