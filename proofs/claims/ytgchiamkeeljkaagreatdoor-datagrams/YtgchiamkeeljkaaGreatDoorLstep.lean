/-
  weavelaw.World.step at Put and Get: the configuration is picked.
-/
import Derived.Test.YtgchiamkeeljkaaGreatDoorLget
import Derived.Deep.CutRange
namespace Go.Proofs.YtgchiamkeeljkaaGreatDoor
open Go Go.RowKit Go.Proofs.YtgchiamkeeljkaaGreatDoor.M

theorem ret_num {a b : Int} (h : a = b) : Ending.returned (.int .i64 a) = .returned (.int .i64 b) := by rw [h]
def pkN (x : Int) (n : Nat) : Nat := (pkI x n).toNat
theorem pkN_lt (x : Int) (n : Nat) (h : 1 ≤ n) : pkN x n < n := by have := pk_bd x n (by omega); unfold pkN; omega
theorem pickw_any (x : Int) (n : Nat) (w : World) (w0 : (Lit.int .i64 x).wf = true) (h1 : 1 ≤ n) (h2 : n ≤ 140737488355328) :
    Calls Tryz.prog 38 #[.int .i64 x, .int .i64 n] w fun e w' => e = .returned (.int .i64 (pkN x n : Nat)) ∧ w' = w := by
  have hb := pk_bd x n (by omega)
  have hz : ((n : Int) == 0) = false := by simp; omega
  have hnz : (n : Int) ≠ 0 := by omega
  by_cases h : x < 0
  · have HP : Hid ((wrap64 (-wrap64 (x + 1))).tmod n = (pkN x n : Nat)) := by
      show _ = _
      rw [pk_neg x n h (bounds_i64 w0).1]
      unfold pkN
      omega
    clear hb
    go_enter Tryz.func38, Tryz.ntmps38
    go_wp2
    go_ret
    exact ⟨ret_num HP.out, rfl⟩
  · have HP : Hid (x % n = (pkN x n : Nat)) := by
      show _ = _
      rw [pk_pos x n h]
      unfold pkN
      omega
    clear hb
    go_enter Tryz.func38, Tryz.ntmps38
    go_wp2
    go_ret
    exact ⟨ret_num HP.out, rfl⟩

/-- Configurations in memory. -/
structure CfgD where
  K : Int
  M : Int
  S : Int
  W : Int
  P : Int
  X : Int
  R : Int
def CfgD.cells (c : CfgD) : List Value := [.int .i64 c.K, .int .i64 c.M, .int .i64 c.S, .int .i64 c.W, .int .i64 c.P, .int .i64 c.X, .int .i64 c.R]
def CfgsAt (w : World) (g : Nat) (cs : List CfgD) : Prop := ∀ i c, cs[i]? = some c → ∀ j v, c.cells[j]? = some v → w.cell? ⟨g, i * 7 + j, none⟩ = some v
theorem CfgsAt.keeps {Q : Nat → Prop} {w w' : World} {g : Nat} {cs : List CfgD} (h : CfgsAt w g cs) (k : Keeps Q w w') (hn : ¬ Q g) : CfgsAt w' g cs := fun i c hc j v hv => (k.cell (World.block_lt_of_cell? w _ (h i c hc j v hv)) hn).trans (h i c hc j v hv)

theorem c7_laid (w : World) (K M S W P X R : Int) : ∃ w2, (w.alloc (.cells #[.int .i64 K, .int .i64 M, .int .i64 S, .int .i64 W, .int .i64 P, .int .i64 X, .int .i64 R] 37)).drew = w2 ∧ (w2.cell? ⟨w.heap.size, 0, none⟩ = some (.int .i64 K) ∧ w2.cell? ⟨w.heap.size, 1, none⟩ = some (.int .i64 M) ∧ w2.cell? ⟨w.heap.size, 2, none⟩ = some (.int .i64 S) ∧ w2.cell? ⟨w.heap.size, 3, none⟩ = some (.int .i64 W) ∧ w2.cell? ⟨w.heap.size, 4, none⟩ = some (.int .i64 P) ∧ w2.cell? ⟨w.heap.size, 5, none⟩ = some (.int .i64 X) ∧ w2.cell? ⟨w.heap.size, 6, none⟩ = some (.int .i64 R)) ∧ Keeps NoB w w2 :=
  ⟨_, rfl, ⟨box_cell (w := w) (t := 37) (j := 0) rfl, box_cell (w := w) (t := 37) (j := 1) rfl, box_cell (w := w) (t := 37) (j := 2) rfl, box_cell (w := w) (t := 37) (j := 3) rfl, box_cell (w := w) (t := 37) (j := 4) rfl, box_cell (w := w) (t := 37) (j := 5) rfl, box_cell (w := w) (t := 37) (j := 6) rfl⟩, (keepsNo w _).drew⟩
/-- What step reads: the world's configurations, the step, the configuration. -/
def SpC (bw g bo i n cc : Nat) (K M S W P X R k a b c d : Int) (s t : ByteArray) (la lb : Option Addr) (ln lc hn hc : Nat) (w : World) : Prop :=
  w.cell? ⟨bw, 0, none⟩ = some (.slice (some ⟨g, 0, none⟩) n cc) ∧ w.cell? ⟨g, i * 7, none⟩ = some (.int .i64 K) ∧ w.cell? ⟨g, i * 7 + 1, none⟩ = some (.int .i64 M) ∧ w.cell? ⟨g, i * 7 + 2, none⟩ = some (.int .i64 S) ∧ w.cell? ⟨g, i * 7 + 3, none⟩ = some (.int .i64 W) ∧ w.cell? ⟨g, i * 7 + 4, none⟩ = some (.int .i64 P) ∧ w.cell? ⟨g, i * 7 + 5, none⟩ = some (.int .i64 X) ∧ w.cell? ⟨g, i * 7 + 6, none⟩ = some (.int .i64 R) ∧ True ∧
  w.cell? ⟨bo, 0, none⟩ = some (.int .i64 k) ∧ w.cell? ⟨bo, 1, none⟩ = some (.int .i64 a) ∧ w.cell? ⟨bo, 2, none⟩ = some (.int .i64 b) ∧ w.cell? ⟨bo, 3, none⟩ = some (.int .i64 c) ∧ w.cell? ⟨bo, 4, none⟩ = some (.int .i64 d) ∧ w.cell? ⟨bo, 5, none⟩ = some (.string s) ∧ w.cell? ⟨bo, 6, none⟩ = some (.string t) ∧ w.cell? ⟨bo, 7, none⟩ = some (.slice la ln lc) ∧ w.cell? ⟨bo, 8, none⟩ = some (.slice lb hn hc)
theorem SpC.drew {bw g bo i n cc : Nat} {K M S W P X R k a b c d : Int} {s t : ByteArray} {la lb : Option Addr} {ln lc hn hc : Nat} {w : World} (h : SpC bw g bo i n cc K M S W P X R k a b c d s t la lb ln lc hn hc w) : SpC bw g bo i n cc K M S W P X R k a b c d s t la lb ln lc hn hc w.drew := h
theorem SpC.keeps {bw g bo i n cc : Nat} {K M S W P X R k a b c d : Int} {s t : ByteArray} {la lb : Option Addr} {ln lc hn hc : Nat} {w w' : World} (h : SpC bw g bo i n cc K M S W P X R k a b c d s t la lb ln lc hn hc w) (q : Keeps NoB w w') : SpC bw g bo i n cc K M S W P X R k a b c d s t la lb ln lc hn hc w' := by
  have m : ∀ x v, w.cell? x = some v → w'.cell? x = some v := fun x v hv => (q.cell (World.block_lt_of_cell? w _ hv) (fun x => x)).trans hv
  obtain ⟨e1, e2, e3, e4, e5, e6, e7, e8, _, q0, q1, q2, q3, q4, q5, q6, q7, q8⟩ := h
  exact ⟨m _ _ e1, m _ _ e2, m _ _ e3, m _ _ e4, m _ _ e5, m _ _ e6, m _ _ e7, m _ _ e8, trivial, m _ _ q0, m _ _ q1, m _ _ q2, m _ _ q3, m _ _ q4, m _ _ q5, m _ _ q6, m _ _ q7, m _ _ q8⟩
theorem spc_start (w : World) (bw g i n cc : Nat) (K M S W P X R k a b c d : Int) (s t : ByteArray) (la lb : Option Addr) (ln lc hn hc : Nat) (h0 : w.cell? ⟨bw, 0, none⟩ = some (.slice (some ⟨g, 0, none⟩) n cc)) (hC : ∀ j v, (CfgD.cells ⟨K, M, S, W, P, X, R⟩)[j]? = some v → w.cell? ⟨g, i * 7 + j, none⟩ = some v) :
    ∃ w1, w.alloc (.cells #[.int .i64 k, .int .i64 a, .int .i64 b, .int .i64 c, .int .i64 d, .string s, .string t, .slice la ln lc, .slice lb hn hc] 28) = w1 ∧ SpC bw g w.heap.size i n cc K M S W P X R k a b c d s t la lb ln lc hn hc w1 ∧ Keeps NoB w w1 ∧ w1.heap.size = w.heap.size + 1 := by
  have m : ∀ x v, w.cell? x = some v → (w.alloc (.cells #[.int .i64 k, .int .i64 a, .int .i64 b, .int .i64 c, .int .i64 d, .string s, .string t, .slice la ln lc, .slice lb hn hc] 28)).cell? x = some v := fun x v hv => ((keepsNo w _).cell (World.block_lt_of_cell? w _ hv) (fun x => x)).trans hv
  exact ⟨_, rfl, ⟨m _ _ h0, m _ _ (hC 0 _ rfl), m _ _ (hC 1 _ rfl), m _ _ (hC 2 _ rfl), m _ _ (hC 3 _ rfl), m _ _ (hC 4 _ rfl), m _ _ (hC 5 _ rfl), m _ _ (hC 6 _ rfl), trivial, box_cell (j := 0) rfl, box_cell (j := 1) rfl, box_cell (j := 2) rfl, box_cell (j := 3) rfl, box_cell (j := 4) rfl, box_cell (j := 5) rfl, box_cell (j := 6) rfl, box_cell (j := 7) rfl, box_cell (j := 8) rfl⟩, keepsNo _ _, by simp⟩
theorem spc_alloc {bw g bo i n cc : Nat} {K M S W P X R k a b c d : Int} {s t : ByteArray} {la lb : Option Addr} {ln lc hn hc : Nat} {w : World} (h : SpC bw g bo i n cc K M S W P X R k a b c d s t la lb ln lc hn hc w) (o : Obj) :
    (w.drew.alloc o).cell? ⟨bw, 0, none⟩ = some (.slice (some ⟨g, 0, none⟩) n cc) ∧ (w.drew.alloc o).cell? ⟨bo, 1, none⟩ = some (.int .i64 a) ∧ (w.drew.alloc o).cell? ⟨g, i * 7, none⟩ = some (.int .i64 K) ∧ (w.drew.alloc o).cell? ⟨g, i * 7 + 1, none⟩ = some (.int .i64 M) ∧ (w.drew.alloc o).cell? ⟨g, i * 7 + 2, none⟩ = some (.int .i64 S) ∧ (w.drew.alloc o).cell? ⟨g, i * 7 + 3, none⟩ = some (.int .i64 W) ∧ (w.drew.alloc o).cell? ⟨g, i * 7 + 4, none⟩ = some (.int .i64 P) ∧ (w.drew.alloc o).cell? ⟨g, i * 7 + 5, none⟩ = some (.int .i64 X) ∧ (w.drew.alloc o).cell? ⟨g, i * 7 + 6, none⟩ = some (.int .i64 R) := by
  obtain ⟨e1, e2, e3, e4, e5, e6, e7, e8, _, q0, q1, _⟩ := h.drew.keeps (keepsNo w.drew o)
  exact ⟨e1, q1, e2, e3, e4, e5, e6, e7, e8⟩
set_option maxRecDepth 20000 in
set_option maxHeartbeats 4000000 in
theorem step_put (hP : PutYes) (hQ : PutNo) (Bk bw : Nat) (F : Nat → Value) (L : List Sl) (w : World) (h : St Bk bw F L w) (hL : (L.length + 4) * 24 ≤ 140737488355328) (g n cc : Nat) (cs : List CfgD) (hF : F 0 = .slice (some ⟨g, 0, none⟩) n cc) (hn : cs.length = n) (h1 : 1 ≤ n) (h2 : n ≤ 140737488355328) (hcs : CfgsAt w g cs)
    (a b c d : Int) (wa : (Lit.int .i64 a).wf = true) (s t : ByteArray) (hs : s.size ≤ 140737488351232) (la lb : Option Addr) (ln lc hn' hc : Nat) :
    Calls Tryz.prog 25 #[.pointer (some ⟨bw, 0, none⟩), .agg #[.int .i64 20, .int .i64 a, .int .i64 b, .int .i64 c, .int .i64 d, .string s, .string t, .slice la ln lc, .slice lb hn' hc]] w fun e w' => e = .returned (.bool true) ∧ StepPost Bk bw F L w w' := by
  have HS : Hid (St Bk bw F L w) := h
  have hbw : bw < w.heap.size := Nat.lt_of_lt_of_le h.book.brow.lt h.book.brow.le
  have hip := pkN_lt a n h1
  have hi0 : (0 : Int) ≤ (pkN a n : Int) := by omega
  have hi1 : (pkN a n : Int) < (n : Int) := by omega
  obtain ⟨⟨K, M, S, W, P, X, R⟩, hc0⟩ : ∃ x, cs[pkN a n]? = some x := ⟨cs[pkN a n]'(by omega), List.getElem?_eq_getElem _⟩
  have cw0 : w.cell? ⟨bw, 0, none⟩ = some (.slice (some ⟨g, 0, none⟩) n cc) := by rw [← hF]; exact h.book.brow.row.cell (by decide)
  have HC : Hid (∀ j v, (CfgD.cells ⟨K, M, S, W, P, X, R⟩)[j]? = some v → w.cell? ⟨g, pkN a n * 7 + j, none⟩ = some v) := hcs _ _ hc0
  have HW : Hid (∀ w1, St Bk bw F L w1 → Calls Tryz.prog 41 #[.pointer (some ⟨bw, 0, none⟩), .agg #[.int .i64 K, .int .i64 M, .int .i64 S, .int .i64 W, .int .i64 P, .int .i64 X, .int .i64 R], .agg #[.int .i64 20, .int .i64 a, .int .i64 b, .int .i64 c, .int .i64 d, .string s, .string t, .slice la ln lc, .slice lb hn' hc]] w1 fun e w' => e = .returned (.bool true) ∧ StepPost Bk bw F L w1 w') := fun w1 hst => by
    by_cases hp : putB K M S W P X R b c d s = true
    · exact law_put_yes hP Bk bw F L w1 hst hL K M S W P X R 20 a b c d s t hs la lb ln lc hn' hc hp
    · exact law_put_no hQ Bk bw F L w1 hst hL K M S W P X R 20 a b c d s t hs la lb ln lc hn' hc (by simpa using hp)
  clear h hF hcs hc0
  go_enter Tryz.func25, Tryz.ntmps25
  go_upto_region 13 with fail
  obtain ⟨w1, hw1, s1, k1, z1⟩ := spc_start w bw g (pkN a n) n cc K M S W P X R (20) a b c d s t la lb ln lc hn' hc cw0 HC.out
  rw [hw1]
  have S1 : Hid (SpC bw g w.heap.size (pkN a n) n cc K M S W P X R (20) a b c d s t la lb ln lc hn' hc w1) := s1
  have K1 : Hid (Keeps NoB w w1) := k1
  clear hw1 k1 z1 cw0 HC
  have s1d := s1.drew
  unfold SpC at s1 s1d
  obtain ⟨e1, e2, e3, e4, e5, e6, e7, e8, e9, q0, q1, q2, q3, q4, q5, q6, q7, q8⟩ := s1d
  go_cut [5] from 6 to 157 (fun v wx => v = .pointer (some ⟨w1.heap.size, 0, none⟩) ∧ wx = (w1.alloc (.cells #[.int .i64 K, .int .i64 M, .int .i64 S, .int .i64 W, .int .i64 P, .int .i64 X, .int .i64 R] 37)).drew)
  case first =>
    go_region_held3 (fun w' => w'.cell? ⟨bw, 0, none⟩ = some (.slice (some ⟨g, 0, none⟩) n cc) ∧ w'.cell? ⟨w.heap.size, 1, none⟩ = some (.int .i64 a) ∧ w'.cell? ⟨g, pkN a n * 7, none⟩ = some (.int .i64 K) ∧ w'.cell? ⟨g, pkN a n * 7 + 1, none⟩ = some (.int .i64 M) ∧ w'.cell? ⟨g, pkN a n * 7 + 2, none⟩ = some (.int .i64 S) ∧ w'.cell? ⟨g, pkN a n * 7 + 3, none⟩ = some (.int .i64 W) ∧ w'.cell? ⟨g, pkN a n * 7 + 4, none⟩ = some (.int .i64 P) ∧ w'.cell? ⟨g, pkN a n * 7 + 5, none⟩ = some (.int .i64 X) ∧ w'.cell? ⟨g, pkN a n * 7 + 6, none⟩ = some (.int .i64 R)) (first | (exact ⟨e1, q1, e2, e3, e4, e5, e6, e7, e8⟩) | (exact spc_alloc S1.out _) | go_keep) (first | (go_at_call 38; refine (pickw_any _ _ _ wa h1 h2).mono ?_; rintro e wx ⟨rfl, hwx⟩; obtain rfl := hwx.symm))
    all_goals (go_wp2_with fail; go_meet; exact ⟨rfl, rfl⟩)
  case rest =>
    obtain ⟨rfl, rfl⟩ := hcut
    obtain ⟨w2, hw2, c7, k2⟩ := c7_laid w1 K M S W P X R
    rw [hw2]
    have s2 := S1.out.keeps k2
    have K2 : Hid (Keeps NoB w w2) := K1.out.trans k2
    have ST2 : Hid (St Bk bw F L w2) := HS.out.keeps K2.out (fun _ _ x => x.elim)
    clear e1 e2 e3 e4 e5 e6 e7 e8 e9 q0 q1 q2 q3 q4 q5 q6 q7 q8 s1 S1 K1 hw2 k2
    unfold SpC at s2
    go_wp2_with (go_at_call 41; refine (HW.out _ ST2.out).mono ?_; rintro e w3 ⟨rfl, hp⟩; have HP : Hid _ := hp; clear hp)
    go_ret
    exact ⟨rfl, StepPost.of_keeps K2.out HP.out⟩
set_option maxRecDepth 20000 in
set_option maxHeartbeats 4000000 in
theorem step_get (hP : GetYes) (hQ : GetNo) (Bk bw : Nat) (F : Nat → Value) (L : List Sl) (w : World) (h : St Bk bw F L w) (hL : (L.length + 4) * 24 ≤ 140737488355328) (g n cc : Nat) (cs : List CfgD) (hF : F 0 = .slice (some ⟨g, 0, none⟩) n cc) (hn : cs.length = n) (h1 : 1 ≤ n) (h2 : n ≤ 140737488355328) (hcs : CfgsAt w g cs)
    (a b c d : Int) (wa : (Lit.int .i64 a).wf = true) (s t : ByteArray) (hs : s.size ≤ 140737488351232) (la lb : Option Addr) (ln lc hn' hc : Nat) :
    Calls Tryz.prog 25 #[.pointer (some ⟨bw, 0, none⟩), .agg #[.int .i64 21, .int .i64 a, .int .i64 b, .int .i64 c, .int .i64 d, .string s, .string t, .slice la ln lc, .slice lb hn' hc]] w fun e w' => e = .returned (.bool true) ∧ StepPost Bk bw F L w w' := by
  have HS : Hid (St Bk bw F L w) := h
  have hbw : bw < w.heap.size := Nat.lt_of_lt_of_le h.book.brow.lt h.book.brow.le
  have hip := pkN_lt a n h1
  have hi0 : (0 : Int) ≤ (pkN a n : Int) := by omega
  have hi1 : (pkN a n : Int) < (n : Int) := by omega
  obtain ⟨⟨K, M, S, W, P, X, R⟩, hc0⟩ : ∃ x, cs[pkN a n]? = some x := ⟨cs[pkN a n]'(by omega), List.getElem?_eq_getElem _⟩
  have cw0 : w.cell? ⟨bw, 0, none⟩ = some (.slice (some ⟨g, 0, none⟩) n cc) := by rw [← hF]; exact h.book.brow.row.cell (by decide)
  have HC : Hid (∀ j v, (CfgD.cells ⟨K, M, S, W, P, X, R⟩)[j]? = some v → w.cell? ⟨g, pkN a n * 7 + j, none⟩ = some v) := hcs _ _ hc0
  have HW : Hid (∀ w1, St Bk bw F L w1 → Calls Tryz.prog 42 #[.pointer (some ⟨bw, 0, none⟩), .agg #[.int .i64 K, .int .i64 M, .int .i64 S, .int .i64 W, .int .i64 P, .int .i64 X, .int .i64 R], .agg #[.int .i64 21, .int .i64 a, .int .i64 b, .int .i64 c, .int .i64 d, .string s, .string t, .slice la ln lc, .slice lb hn' hc]] w1 fun e w' => e = .returned (.bool true) ∧ StepPost Bk bw F L w1 w') := fun w1 hst => by
    by_cases hp : getE K M S W P X R s = 0
    · exact law_get_yes hP Bk bw F L w1 hst hL K M S W P X R 21 a b c d s t hs la lb ln lc hn' hc hp
    · exact law_get_no hQ Bk bw F L w1 hst hL K M S W P X R 21 a b c d s t hs la lb ln lc hn' hc hp
  clear h hF hcs hc0
  go_enter Tryz.func25, Tryz.ntmps25
  go_upto_region 13 with fail
  obtain ⟨w1, hw1, s1, k1, z1⟩ := spc_start w bw g (pkN a n) n cc K M S W P X R (21) a b c d s t la lb ln lc hn' hc cw0 HC.out
  rw [hw1]
  have S1 : Hid (SpC bw g w.heap.size (pkN a n) n cc K M S W P X R (21) a b c d s t la lb ln lc hn' hc w1) := s1
  have K1 : Hid (Keeps NoB w w1) := k1
  clear hw1 k1 z1 cw0 HC
  have s1d := s1.drew
  unfold SpC at s1 s1d
  obtain ⟨e1, e2, e3, e4, e5, e6, e7, e8, e9, q0, q1, q2, q3, q4, q5, q6, q7, q8⟩ := s1d
  go_cut [5] from 6 to 157 (fun v wx => v = .pointer (some ⟨w1.heap.size, 0, none⟩) ∧ wx = (w1.alloc (.cells #[.int .i64 K, .int .i64 M, .int .i64 S, .int .i64 W, .int .i64 P, .int .i64 X, .int .i64 R] 37)).drew)
  case first =>
    go_region_held3 (fun w' => w'.cell? ⟨bw, 0, none⟩ = some (.slice (some ⟨g, 0, none⟩) n cc) ∧ w'.cell? ⟨w.heap.size, 1, none⟩ = some (.int .i64 a) ∧ w'.cell? ⟨g, pkN a n * 7, none⟩ = some (.int .i64 K) ∧ w'.cell? ⟨g, pkN a n * 7 + 1, none⟩ = some (.int .i64 M) ∧ w'.cell? ⟨g, pkN a n * 7 + 2, none⟩ = some (.int .i64 S) ∧ w'.cell? ⟨g, pkN a n * 7 + 3, none⟩ = some (.int .i64 W) ∧ w'.cell? ⟨g, pkN a n * 7 + 4, none⟩ = some (.int .i64 P) ∧ w'.cell? ⟨g, pkN a n * 7 + 5, none⟩ = some (.int .i64 X) ∧ w'.cell? ⟨g, pkN a n * 7 + 6, none⟩ = some (.int .i64 R)) (first | (exact ⟨e1, q1, e2, e3, e4, e5, e6, e7, e8⟩) | (exact spc_alloc S1.out _) | go_keep) (first | (go_at_call 38; refine (pickw_any _ _ _ wa h1 h2).mono ?_; rintro e wx ⟨rfl, hwx⟩; obtain rfl := hwx.symm))
    all_goals (go_wp2_with fail; go_meet; exact ⟨rfl, rfl⟩)
  case rest =>
    obtain ⟨rfl, rfl⟩ := hcut
    obtain ⟨w2, hw2, c7, k2⟩ := c7_laid w1 K M S W P X R
    rw [hw2]
    have s2 := S1.out.keeps k2
    have K2 : Hid (Keeps NoB w w2) := K1.out.trans k2
    have ST2 : Hid (St Bk bw F L w2) := HS.out.keeps K2.out (fun _ _ x => x.elim)
    clear e1 e2 e3 e4 e5 e6 e7 e8 e9 q0 q1 q2 q3 q4 q5 q6 q7 q8 s1 S1 K1 hw2 k2
    unfold SpC at s2
    go_wp2_with (go_at_call 42; refine (HW.out _ ST2.out).mono ?_; rintro e w3 ⟨rfl, hp⟩; have HP : Hid _ := hp; clear hp)
    go_ret
    exact ⟨rfl, StepPost.of_keeps K2.out HP.out⟩
end Go.Proofs.YtgchiamkeeljkaaGreatDoor
