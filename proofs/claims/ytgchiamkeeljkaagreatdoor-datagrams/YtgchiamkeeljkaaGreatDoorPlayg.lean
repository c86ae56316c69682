/-
  weavelaw.plays at whatever kinds are in play, over whatever a step does.
-/
import Derived.Test.YtgchiamkeeljkaaGreatDoorPlays
namespace Go.Proofs.YtgchiamkeeljkaaGreatDoor
open Go Go.RowKit

/-- The kinds in play lie in memory. -/
def KindsAt (w : World) (bp : Nat) (ps : List Int) : Prop := ∀ j v, ps[j]? = some v → w.cell? ⟨bp, j, none⟩ = some (.int .i64 v)
theorem KindsAt.keeps {S : Nat → Prop} {w w' : World} {bp : Nat} {ps : List Int} (h : KindsAt w bp ps) (k : Keeps S w w') (hn : ¬ S bp) : KindsAt w' bp ps := fun j v hv => (k.cell (World.block_lt_of_cell? w _ (h j v hv)) hn).trans (h j v hv)
def inB (ps : List Int) (k : Int) : Bool := ps.contains k
theorem inB_take {ps : List Int} {k : Int} {j : Nat} (hn : inB (ps.take j) k = false) {v : Int} (hv : ps[j]? = some v) (hk : (v == k) = false) : inB (ps.take (j + 1)) k = false := by
  have e : ps.take (j + 1) = ps.take j ++ [v] := by rw [List.take_add_one, hv]; rfl
  unfold inB at hn ⊢
  rw [e, List.contains_eq_mem] 
  rw [List.contains_eq_mem] at hn
  simp only [List.mem_append, List.mem_singleton, decide_eq_false_iff_not, not_or] at hn ⊢
  exact ⟨hn, fun h => by subst h; simp at hk⟩
set_option maxRecDepth 20000 in
set_option maxHeartbeats 1000000 in
theorem among_gen (k : Int) (bp n c : Nat) (ps : List Int) (w : World) (hl : ps.length = n) (hb : n ≤ 140737488355328) (h : KindsAt w bp ps) :
    Calls Tryz.prog 24 #[.slice (some ⟨bp, 0, none⟩) n c, .int .i64 k] w fun e w' => e = .returned (.bool (inB ps k)) ∧ w' = w := by
  have HC : Hid (KindsAt w bp ps) := h
  have HL : Hid (ps.length = n) := hl
  clear h hl
  go_enter Tryz.func24, Tryz.ntmps24
  go_wp2
  go_loop [5] (fun i => ∃ j : Nat, j ≤ n ∧ i = .int .i64 j ∧ Hid (inB (ps.take j) k = false)) (fun i => n - (intOf i).toNat)
  case atStart => exact ⟨0, by omega, rfl, rfl⟩
  case round =>
    obtain ⟨j, hj, rfl, hn⟩ := hrel
    by_cases hlt : j < n
    · obtain ⟨v, hv⟩ : ∃ v, ps[j]? = some v := ⟨ps[j]'(by rw [HL.out]; exact hlt), List.getElem?_eq_getElem _⟩
      have hcj := HC.out j v hv
      by_cases hk : (v == k) = true
      · have hB : Hid (inB ps k = true) := by
          have e : v = k := by simpa using hk
          show List.contains ps k = true
          rw [List.contains_eq_mem]
          exact decide_eq_true (e ▸ List.mem_of_getElem? hv)
        clear hv
        go_wp2
        go_ret
        exact ⟨by rw [hB.out]; rfl, rfl⟩
      · have hk' : (v == k) = false := by simpa using hk
        have hn' : Hid (inB (ps.take (j + 1)) k = false) := inB_take hn.out hv hk'
        clear hk hv
        go_wp2
        go_round
        case rel => exact ⟨j + 1, by omega, by go_num, hn'⟩
        case measure => simp [intOf]; omega
    · have hB : Hid (inB ps k = false) := by
        have h2 := hn.out
        rw [List.take_of_length_le (by have := HL.out; omega)] at h2
        exact h2
      go_wp2
      go_ret
      exact ⟨by rw [hB.out]; rfl, rfl⟩
/-- What is asked of a step, at whatever state of the book. -/
def StepsOk (w : World) (cs : Value) (ps : List Int) (os : List OpD) : Prop :=
  ∀ bw F L w1, w.heap.size ≤ bw → St (bw + 1) bw F L w1 → (∀ j, j ≠ 4 → F j = fresh7 cs j) → Keeps NoB w w1 → (L.length + 4) * 24 ≤ 140737488355328 → ∀ o ∈ os, inB ps o.k = true →
    Calls Tryz.prog 25 #[.pointer (some ⟨bw, 0, none⟩), .agg #[.int .i64 o.k, .int .i64 o.a, .int .i64 o.b, .int .i64 o.c, .int .i64 o.d, .string o.s, .string o.t, .slice o.la o.ln o.lc, .slice o.lb o.hn o.hc]] w1 fun e w' => e = .returned (.bool true) ∧ StepPost (bw + 1) bw F L w1 w'

set_option maxRecDepth 20000 in
set_option maxHeartbeats 1000000 in
theorem plays_gen (w : World) (hT : Tabs w) (ca : Option Addr) (cn cc ba bp n0 c0 np pc : Nat) (ps : List Int) (o0 ops : List OpD) (sa : Option Addr) (n sc : Nat)
    (hsc : ScriptAt w sa n sc ops) (hsz : n * 120 ≤ 140737488351232) (hn0 : 1 ≤ n0) (hn9 : n0 ≤ 9) (hba : ScriptAt w (some ⟨ba, 0, none⟩) n0 c0 o0) (hpl : ps.length = np) (hnp : np ≤ 100) (hpk : KindsAt w bp ps) (hbp : bp < w.heap.size)
    (hstep : StepsOk w (.slice ca cn cc) ps (o0 ++ ops)) :
    Calls Tryz.prog 11 #[.slice ca cn cc, .slice (some ⟨ba, 0, none⟩) n0 c0, .slice sa n sc, .slice (some ⟨bp, 0, none⟩) np pc] w fun e w' => e = .returned (.bool true) ∧ Keeps NoB w w' := by
  have HT : Hid (Tabs w) := hT
  have HSC : Hid (ScriptAt w sa n sc ops) := hsc
  have HBA : Hid (ScriptAt w (some ⟨ba, 0, none⟩) n0 c0 o0) := hba
  have HST : Hid (StepsOk w (.slice ca cn cc) ps (o0 ++ ops)) := hstep
  have HP : Hid (KindsAt w bp ps) := hpk
  have hb3 : 3 < w.heap.size := World.block_lt_of_cell? w _ (hT.2.2 0 (by decide))
  clear hT hsc hba hstep hpk
  go_enter Tryz.func11, Tryz.ntmps11
  go_upto_region 3 with (at_builtin; refine wpList_append_script rfl (.tmp 16) (.tmp 17) rfl (base := w.heap.size) (m := 0) (p := []) (q := o0) rfl (World.ownsRow_nil _ _ _ _) rfl HBA.out (by omega) (Nat.le_refl _) ?_; intro v1 w1 O1 G1; have K1 : Hid (Keeps NoB w w1) := (Keeps.refl NoB w).grown G1.out (fun k e => by cases e))
  go_upto_region 4 with (at_builtin; refine wpList_append_script rfl (.tmp 19) (.tmp 20) rfl (p := o0) (q := ops) rfl O1.out rfl (HSC.out.keeps K1.out) (by omega) K1.out.size ?_; intro v2 w2 O2 G2; have K2 : Hid (Keeps NoB w w2) := K1.out.grown G2.out (fun k e => .inl (O1.out.lt k e).1); clear O1 G1 G2 K1)
  obtain ⟨g, cap, hv2, hg1, hg2⟩ := O2.out.form (by omega)
  subst hv2
  have e1 : 0 + n0 + n = n + n0 := by omega
  rw [e1] at O2 ⊢
  clear e1
  have HL : Hid ((o0 ++ ops).length = n + n0) := by have := HSC.out.1; have := HBA.out.1; show _ = _; simp; omega
  have HNB : Hid ((n + n0) * 120 ≤ 140737488352312) := by show _ ≤ _; omega
  generalize n + n0 = N at O2 HL HNB ⊢
  have HSZ : Hid (n * 120 ≤ 140737488351232) := hsz
  clear hsz
  go_wp2
  have HB : Hid (BookOk (w2.heap.size + 1) w2.heap.size (fresh7 (.slice ca cn cc)) [] (w2.alloc (.cells #[.slice ca cn cc, .slice none 0 0, .slice none 0 0, .slice none 0 0, .slice none 0 0, .slice none 0 0, .slice none 0 0] 75))) := book_start w2 _
  have HK : Hid (Keeps NoB w (w2.alloc (.cells #[.slice ca cn cc, .slice none 0 0, .slice none 0 0, .slice none 0 0, .slice none 0 0, .slice none 0 0, .slice none 0 0] 75))) := K2.out.alloc _
  have HZ : (w2.alloc (.cells #[.slice ca cn cc, .slice none 0 0, .slice none 0 0, .slice none 0 0, .slice none 0 0, .slice none 0 0, .slice none 0 0] 75)).heap.size = w2.heap.size + 1 := by simp
  have HA : Hid (∀ i o, (o0 ++ ops)[i]? = some o → ∀ j v, o.cells[j]? = some v → (w2.alloc (.cells #[.slice ca cn cc, .slice none 0 0, .slice none 0 0, .slice none 0 0, .slice none 0 0, .slice none 0 0, .slice none 0 0] 75)).cell? ⟨g, i * 9 + j, none⟩ = some v) := fun i o ho j v hv => by
    have hi : i < N := by
      rcases Nat.lt_or_ge i N with q | q
      · exact q
      · rw [List.getElem?_eq_none (by rw [HL.out]; exact q)] at ho; cases ho
    have hj : j < 9 := by
      rcases Nat.lt_or_ge j 9 with q | q
      · exact q
      · rw [List.getElem?_eq_none (by exact q)] at hv; cases hv
    rw [(O2.out.alloc _).cellAt (i * 9 + j) (by omega)]
    exact opsCells_at (o0 ++ ops) i o ho j v hv
  have hgw : g < w2.heap.size := hg2
  have hww : w.heap.size ≤ w2.heap.size := K2.out.size
  generalize (w2.alloc (.cells #[.slice ca cn cc, .slice none 0 0, .slice none 0 0, .slice none 0 0, .slice none 0 0, .slice none 0 0, .slice none 0 0] 75)) = W at HB HK HZ HA ⊢
  generalize w2.heap.size = bw at HB HZ hgw hww hg2 ⊢
  clear O2 K2 hg1 hg2 HBA HSC
  go_loopw [11, 12, 13, 14, 15] (fun t _ _ _ _ wr => ∃ i : Nat, i ≤ N ∧ t = .int .i64 i ∧ Hid (∃ F L, St (bw + 1) bw F L wr ∧ (∀ j, j ≠ 4 → F j = fresh7 (.slice ca cn cc) j) ∧ L.length ≤ 4 * i ∧ Keeps (OnlyB bw) W wr)) (fun t _ _ _ _ _ => N - (intOf t).toNat)
  case atStart => exact ⟨0, by omega, rfl, _, [], ⟨HB.out, HT.out.keeps HK.out (fun x => x) (fun x => x) (fun x => x), rfl, fun s hs => by simp at hs, by omega⟩, fun _ _ => rfl, by simp, Keeps.refl _ _⟩
  case round =>
    obtain ⟨i, hi, rfl, hst⟩ := hrel
    by_cases hlt : i < N
    · have d2 : (i : Int) < 144115188075855872 := by have := HNB.out; omega
      obtain ⟨F, L, hS, hF, hLn, hKw⟩ := hst.out
      obtain ⟨⟨k, a, b, c, d, s, t, la, ln, lc, lb, hn, hc⟩, ho⟩ : ∃ o, (o0 ++ ops)[i]? = some o := ⟨(o0 ++ ops)[i]'(by rw [HL.out]; exact hlt), List.getElem?_eq_getElem _⟩
      have hcell : ∀ j v, (OpD.cells ⟨k, a, b, c, d, s, t, la, ln, lc, lb, hn, hc⟩)[j]? = some v → wr.cell? ⟨g, i * 9 + j, none⟩ = some v := fun j v hv => (hKw.cell (by show g < _; omega) (fun e => by have e' : g = bw := e; omega)).trans (HA.out i _ ho j v hv)
      have c0 : wr.cell? ⟨g, i * 9, none⟩ = some (.int .i64 k) := hcell 0 _ rfl
      have c1 : wr.cell? ⟨g, i * 9 + 1, none⟩ = some (.int .i64 a) := hcell 1 _ rfl
      have c2 : wr.cell? ⟨g, i * 9 + 2, none⟩ = some (.int .i64 b) := hcell 2 _ rfl
      have c3 : wr.cell? ⟨g, i * 9 + 3, none⟩ = some (.int .i64 c) := hcell 3 _ rfl
      have c4 : wr.cell? ⟨g, i * 9 + 4, none⟩ = some (.int .i64 d) := hcell 4 _ rfl
      have c5 : wr.cell? ⟨g, i * 9 + 5, none⟩ = some (.string s) := hcell 5 _ rfl
      have c6 : wr.cell? ⟨g, i * 9 + 6, none⟩ = some (.string t) := hcell 6 _ rfl
      have c7 : wr.cell? ⟨g, i * 9 + 7, none⟩ = some (.slice la ln lc) := hcell 7 _ rfl
      have c8 : wr.cell? ⟨g, i * 9 + 8, none⟩ = some (.slice lb hn hc) := hcell 8 _ rfl
      have hmem : (⟨k, a, b, c, d, s, t, la, ln, lc, lb, hn, hc⟩ : OpD) ∈ o0 ++ ops := List.mem_of_getElem? ho
      have HSt : Hid (St (bw + 1) bw F L wr) := hS
      have HLn : Hid (L.length ≤ 4 * i) := hLn
      have HKw : Hid (Keeps (OnlyB bw) W wr) := hKw
      have HFr : Hid (∀ j, j ≠ 4 → F j = fresh7 (.slice ca cn cc) j) := hF
      clear hcell hst hS hLn hKw ho hF
      have KW3 : Hid (Keeps NoB w (wr.alloc (.cells #[.int .i64 k, .int .i64 a, .int .i64 b, .int .i64 c, .int .i64 d, .string s, .string t, .slice la ln lc, .slice lb hn hc] 28))) := (HK.out.trans' HKw.out (fun x hx e => by have e' : x = bw := e; omega)).alloc _
      have Q3 : Hid (KindsAt (wr.alloc (.cells #[.int .i64 k, .int .i64 a, .int .i64 b, .int .i64 c, .int .i64 d, .string s, .string t, .slice la ln lc, .slice lb hn hc] 28)) bp ps) := HP.out.keeps KW3.out (fun x => x)
      have S3 : Hid (St (bw + 1) bw F L (wr.alloc (.cells #[.int .i64 k, .int .i64 a, .int .i64 b, .int .i64 c, .int .i64 d, .string s, .string t, .slice la ln lc, .slice lb hn hc] 28))) := HSt.out.keeps (keepsNo _ _) (fun _ _ x => x.elim)
      have hL4 : Hid ((L.length + 4) * 24 ≤ 140737488355328) := by have := HLn.out; have := HNB.out; show _ ≤ _; omega
      by_cases hk : inB ps k = true
      · go_wp2_with (first | (go_at_call 24; refine (among_gen _ bp _ _ ps _ hpl (by omega) Q3.out).mono ?_; rintro e w3 ⟨rfl, hw3⟩; subst hw3) | (go_at_call 25; refine (HST.out bw F L _ hww S3.out HFr.out KW3.out hL4.out _ hmem hk).mono ?_; rintro e w4 ⟨rfl, hp⟩; obtain ⟨G, M, s4, m4, g4, k4⟩ := hp; have G4 : Hid (∀ j, j ≠ 4 → G j = fresh7 (.slice ca cn cc) j) := fun j hj => (g4 j hj).trans (HFr.out j hj); have S4 : Hid (St (bw + 1) bw G M w4) := s4; have M4 : Hid (M.length ≤ L.length + 4) := m4; have K4 : Hid (Keeps (fun x => x = bw ∨ bw + 1 ≤ x) _ w4) := k4; clear s4 m4 k4 g4) | (go_at_call 26; refine (looks_any (bw + 1) bw G M _ S4.out.book (by have := M4.out; have := hL4.out; omega) S4.out.small).mono ?_; rintro e w5 ⟨rfl, k5⟩; have K5 : Hid (Keeps NoB w4 w5) := k5; clear k5))
        go_roundw
        case rel => exact ⟨i + 1, by omega, by go_num, G, M, S4.out.keeps K5.out (fun _ _ x => x.elim), G4.out, by have := M4.out; have := HLn.out; omega, (((HKw.out.alloc _).trans' K4.out (fun x hx e => by rcases e with e | e; exact e; omega)).trans' K5.out (fun _ _ x => x.elim))⟩
        case measure => simp [intOf]; omega
      · have hk' : inB ps k = false := by simpa using hk
        clear hk
        go_wp2_with (go_at_call 24; refine (among_gen _ bp _ _ ps _ hpl (by omega) Q3.out).mono ?_; rintro e w3 ⟨rfl, hw3⟩; subst hw3)
        go_roundw
        case rel => exact ⟨i + 1, by omega, by go_num, F, L, S3.out, HFr.out, by have := HLn.out; omega, HKw.out.alloc _⟩
        case measure => simp [intOf]; omega
    · obtain ⟨F, L, hS, _, hLn, hKw⟩ := hst.out
      have HSt : Hid (St (bw + 1) bw F L wr) := hS
      have HLb : Hid (L.length ≤ 140737488355328) := by have := HNB.out; show _ ≤ _; omega
      have HKw : Hid (Keeps NoB w wr) := HK.out.trans' hKw (fun x hx e => by have e' : x = bw := e; omega)
      clear hst hS hLn hKw
      go_wp2_with (go_at_call 27; refine (apart_any (bw + 1) bw F L _ HSt.out.book HSt.out.four HLb.out HSt.out.small).mono ?_; rintro e w4 ⟨rfl, k4⟩; have K4 : Hid (Keeps (fun b => bw + 1 ≤ b) wr w4) := k4; clear k4)
      go_ret
      exact ⟨rfl, HKw.out.trans' K4.out (fun x hx e => by have e' : bw + 1 ≤ x := e; omega)⟩
end Go.Proofs.YtgchiamkeeljkaaGreatDoor
