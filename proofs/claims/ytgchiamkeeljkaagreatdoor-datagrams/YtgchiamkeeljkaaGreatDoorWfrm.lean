/-
  Package weave's frame; bytes.Clone.
-/
import Derived.Test.YtgchiamkeeljkaaGreatDoorWapp
import Derived.Laws.MakeOwn
import Derived.Deep.RegionHeld3
import Derived.Deep.CutRange
namespace Go.Proofs.YtgchiamkeeljkaaGreatDoor
open Go Go.RowKit

/-- A value that owns just these bytes, in memory from B on. -/
def OwnB (B : Nat) (v : Value) (l : List UInt8) (w : World) : Prop := w.ownsRow B 5 1 v l.length (Lib.byteCells l)
theorem byteCells_append (a b : List UInt8) : Lib.byteCells (a ++ b) = Lib.byteCells a ++ Lib.byteCells b := by simp [Lib.byteCells]
theorem byteCells_one (l : List UInt8) : ∀ u ∈ Lib.byteCells l, u.oneCell' = true := fun u hu => by
  simp only [Lib.byteCells, List.mem_map] at hu
  obtain ⟨b, _, rfl⟩ := hu
  rfl
theorem low_one (x : Int) (h0 : 0 ≤ x) (h1 : x ≤ 255) : Lib.byteCells (lowL x.toNat 1) = [.int .u8 x] := by
  simp only [lowL, Lib.byteCells, List.map_cons, List.map_nil, Nat.pow_zero, Nat.div_one, UInt8.toNat_ofNat']
  congr 2
  omega
theorem appnum_own (B : Nat) (v : Value) (l : List UInt8) (n c : Int) (w : World) (hB : B ≤ w.heap.size) (hown : OwnB B v l w) (hn : 0 ≤ n) (hc0 : 0 ≤ c) (hc : c ≤ 4) (hk : l.length ≤ 100000000) :
    Calls Tryz.prog 84 #[v, .int .i64 n, .int .i64 c] w fun e w' => ∃ v', e = .returned v' ∧ OwnB B v' (l ++ lowL n.toNat c.toNat) w' ∧ Keeps (FromB B) w w' := by
  obtain ⟨a, rfl⟩ := Int.eq_ofNat_of_zero_le hn
  obtain ⟨b, rfl⟩ := Int.eq_ofNat_of_zero_le hc0
  refine (appnum_any B l.length v _ a b w hB hown (by omega) hk).mono ?_
  rintro e w' ⟨v', rfl, h1, h2⟩
  refine ⟨v', rfl, ?_, h2⟩
  rw [OwnB, byteCells_append, List.length_append, lowL_length, Int.toNat_natCast, Int.toNat_natCast]
  exact h1
theorem news_bytes {w : World} {b o : Nat} {s : ByteArray} (h : ∀ i, i < s.size → w.cell? ⟨b, o + i, none⟩ = some (byteAt s i)) : ∀ j u, (Lib.byteCells s.data.toList)[j]? = some u → w.cell? ((⟨b, o, none⟩ : Addr).add j) = some u := fun j u hu => by
  have hj : j < s.size := by
    rcases Nat.lt_or_ge j s.size with q | q
    · exact q
    · rw [List.getElem?_eq_none (by rw [Lib.byteCells_length, ← Lib.size_eq]; exact q)] at hu; cases hu
  rw [byteCells_at s j hj] at hu
  rw [← Option.some.inj hu, ← h j hj]
  rw [show (⟨b, o, none⟩ : Addr).add j = ⟨b, o + j, none⟩ by unfold Addr.add; split <;> simp_all]
theorem OwnB.cells {B : Nat} {l : List UInt8} {w : World} {g cap : Nat} (h : OwnB B (.slice (some ⟨g, 0, none⟩) l.length cap) l w) : ∀ i, i < l.length → w.cell? ⟨g, i, none⟩ = some (byteAt ⟨l.toArray⟩ i) := fun i hi => by
  have h' : w.ownsRow B 5 1 (.slice (some ⟨g, 0, none⟩) l.length cap) l.length (Lib.byteCells l) := h
  have hz : (⟨l.toArray⟩ : ByteArray).size = l.length := by rw [Lib.size_eq]
  have h0 := h'.cellAt i (by omega)
  have := byteCells_at ⟨l.toArray⟩ i (by omega)
  rw [h0]
  simpa using this
theorem OwnB.form {B : Nat} {v : Value} {l : List UInt8} {w : World} (h : OwnB B v l w) (hl : 0 < l.length) : ∃ g cap, v = .slice (some ⟨g, 0, none⟩) l.length cap := by
  obtain ⟨g, cap, hv, _, _⟩ := World.ownsRow.form h hl
  exact ⟨g, cap, hv⟩
theorem OwnB.alloc {B : Nat} {v : Value} {l : List UInt8} {w : World} (h : OwnB B v l w) (o : Obj) : OwnB B v l (w.alloc o) := World.ownsRow.alloc h o
theorem OwnB.to {B : Nat} {v : Value} {l l' : List UInt8} {w : World} (h : OwnB B v l w) (e : l = l') : OwnB B v l' w := by rw [← e]; exact h
/-- 'append', onto bytes that are owned. -/
theorem wpList_appB {ops : Array Oper} {rest : List Oper} {o : Oper} {a : Act} {Q : Exit → Act → World → Prop} (w : World) (hgd : o.guard = none) (s x : Operand) (ho : o.op = .call { callee := .builtin .append, args := #[s, x], argTypes := #[54, 54] })
    (B : Nat) (v : Value) (l m : List UInt8) (hs : a.eval s = v) (hown : OwnB B v l w) (ad : Addr) (k c : Nat) (hx : a.eval x = .slice (some ad) k c) (hk : m.length = k) (hnews : ∀ j u, (Lib.byteCells m)[j]? = some u → w.cell? (ad.add j) = some u)
    (hm : 0 < m.length) (hsz : l.length + m.length ≤ 1000000) (hB : B ≤ w.heap.size)
    (h : ∀ v' w', OwnB B v' (l ++ m) w' → Keeps (FromB B) w w' → wpList Tryz.prog ops Q rest (a.put o.dst v') w') : wpList Tryz.prog ops Q (o :: rest) a w := by
  obtain ⟨i0, hi0, hz0, hz1, hz2⟩ := info_parts winfo5
  subst hk
  refine wpList_append_lies _ hgd s x 54 ho B 5 i0 _ 1 1 Tryz.underlying54 hi0 hz0 hz1 hz2 rfl (by decide) v l.length _ hs hown ad m.length c (Lib.byteCells m) hx (by rw [Lib.byteCells_length]; omega) hnews (byteCells_one m) hm (by unfold maxLen; omega) (by omega) hB w.heap.size rfl ?_
  intro g cap w1 O1 G1 _ _
  refine h _ _ ?_ ((Keeps.refl (FromB B) w).grown G1 (fun b e => .inr (World.ownsRow.lt hown b e).1))
  rw [OwnB, byteCells_append, List.length_append]
  exact O1
/-- A new row that reads as T. -/
def NewRow (w : World) (T : ByteArray) (v : Value) (w' : World) : Prop := ∃ g c m f, v = .slice (some ⟨g, 0, none⟩) T.size c ∧ w.heap.size ≤ g ∧ g < w'.heap.size ∧ w'.rowIs g 5 m f ∧ c ≤ m ∧ T.size ≤ c ∧ (∀ i, i < T.size → f i = byteAt T i) ∧ Keeps NoB w w'
theorem OwnB.new {B : Nat} {v : Value} {T : ByteArray} {w w' : World} (h : OwnB B v T.data.toList w') (hT : 0 < T.size) (hB : w.heap.size ≤ B) (k : Keeps NoB w w') : NewRow w T v w' := by
  have hl : T.data.toList.length = T.size := by rw [← Lib.size_eq]
  unfold OwnB at h
  rw [hl] at h
  rcases h.2 with ⟨_, h0⟩ | ⟨g, cap, cur, hv, hb, hg, h1, h2, h3, h4⟩
  · omega
  · have hlt : g < w'.heap.size := by
      rcases Nat.lt_or_ge g w'.heap.size with q | q
      · exact q
      · rw [Array.getElem?_eq_none q] at hg; cases hg
    refine ⟨g, cap, cap, fun i => cur.getD i (.int .u8 0), hv, by omega, hlt, ⟨cur, hg, by omega, fun i hi => ?_⟩, Nat.le_refl _, h1, fun i hi => ?_, k⟩
    · have : i < cur.size := by omega
      simp [Array.getD, this]
    · have hi' : i < cur.size := by omega
      have e1 : cur.toList[i]? = (Lib.byteCells T.data.toList)[i]? := by
        rw [← h4, List.getElem?_take, if_pos (by omega)]
      rw [byteCells_at T i hi] at e1
      simp [hi'] at e1
      simp [Array.getD, hi', e1]
/-- The cells that frame reads. -/
def FrC (bc bd : Nat) (K M S B I N : Int) (sh : Value) (w : World) : Prop := w.cell? ⟨bc, 0, none⟩ = some (.int .i64 K) ∧ w.cell? ⟨bc, 1, none⟩ = some (.int .i64 M) ∧ w.cell? ⟨bc, 2, none⟩ = some (.int .i64 S) ∧ w.cell? ⟨bd, 0, none⟩ = some (.int .i64 B) ∧ w.cell? ⟨bd, 1, none⟩ = some (.int .i64 I) ∧ w.cell? ⟨bd, 2, none⟩ = some (.int .i64 N) ∧ w.cell? ⟨bd, 3, none⟩ = some sh
theorem FrC.keeps {Q : Nat → Prop} {bc bd : Nat} {K M S B I N : Int} {sh : Value} {w w' : World} (h : FrC bc bd K M S B I N sh w) (q : Keeps Q w w') (h1 : ¬ Q bc) (h2 : ¬ Q bd) : FrC bc bd K M S B I N sh w' := by
  obtain ⟨a0, a1, a2, a3, a4, a5, a6⟩ := h
  have l1 := World.block_lt_of_cell? w _ a0
  have l2 := World.block_lt_of_cell? w _ a3
  exact ⟨(q.cell (a := ⟨bc, 0, none⟩) l1 h1).trans a0, (q.cell (a := ⟨bc, 1, none⟩) l1 h1).trans a1, (q.cell (a := ⟨bc, 2, none⟩) l1 h1).trans a2, (q.cell (a := ⟨bd, 0, none⟩) l2 h2).trans a3, (q.cell (a := ⟨bd, 1, none⟩) l2 h2).trans a4, (q.cell (a := ⟨bd, 2, none⟩) l2 h2).trans a5, (q.cell (a := ⟨bd, 3, none⟩) l2 h2).trans a6⟩
theorem wcells_new {w : World} {cs : Array Value} {t : TypeId} {j : Nat} {v : Value} (h : cs[j]? = some v) : (w.alloc (.cells cs t)).cell? ⟨w.heap.size, j, none⟩ = some v := by
  unfold World.cell?
  rw [heap_alloc_new]
  simpa using h
theorem frC_start (w : World) (K M S W P X R B I N : Int) (sh : Value) (t u : TypeId) :
    ∃ w0, ((w.alloc (.cells #[.int .i64 K, .int .i64 M, .int .i64 S, .int .i64 W, .int .i64 P, .int .i64 X, .int .i64 R] t)).alloc (.cells #[.int .i64 B, .int .i64 I, .int .i64 N, sh] u)) = w0 ∧ FrC w.heap.size (w.heap.size + 1) K M S B I N sh w0 ∧ Keeps NoB w w0 ∧ w0.heap.size = w.heap.size + 2 := by
  refine ⟨_, rfl, ?_, ((Keeps.refl NoB w).alloc _).alloc _, by simp⟩
  have c0 : ∀ j v, (#[.int .i64 K, .int .i64 M, .int .i64 S, .int .i64 W, .int .i64 P, .int .i64 X, .int .i64 R] : Array Value)[j]? = some v → ((w.alloc (.cells #[.int .i64 K, .int .i64 M, .int .i64 S, .int .i64 W, .int .i64 P, .int .i64 X, .int .i64 R] t)).alloc (.cells #[.int .i64 B, .int .i64 I, .int .i64 N, sh] u)).cell? ⟨w.heap.size, j, none⟩ = some v := fun j v hv =>
    ((wkeeps (w.alloc (.cells #[.int .i64 K, .int .i64 M, .int .i64 S, .int .i64 W, .int .i64 P, .int .i64 X, .int .i64 R] t)) _).cell (a := ⟨w.heap.size, j, none⟩) (by simp) (fun x => x)).trans (wcells_new hv)
  have c1 : ∀ j v, (#[.int .i64 B, .int .i64 I, .int .i64 N, sh] : Array Value)[j]? = some v → ((w.alloc (.cells #[.int .i64 K, .int .i64 M, .int .i64 S, .int .i64 W, .int .i64 P, .int .i64 X, .int .i64 R] t)).alloc (.cells #[.int .i64 B, .int .i64 I, .int .i64 N, sh] u)).cell? ⟨w.heap.size + 1, j, none⟩ = some v := fun j v hv => by
    have := wcells_new (w := w.alloc (.cells #[.int .i64 K, .int .i64 M, .int .i64 S, .int .i64 W, .int .i64 P, .int .i64 X, .int .i64 R] t)) (t := u) hv
    rwa [show (w.alloc (.cells #[.int .i64 K, .int .i64 M, .int .i64 S, .int .i64 W, .int .i64 P, .int .i64 X, .int .i64 R] t)).heap.size = w.heap.size + 1 by simp] at this
  exact ⟨c0 0 _ rfl, c0 1 _ rfl, c0 2 _ rfl, c1 0 _ rfl, c1 1 _ rfl, c1 2 _ rfl, c1 3 _ rfl⟩
theorem OwnB.made (w : World) (cap : Nat) (h : cap ≤ 1000000) : OwnB w.heap.size (.slice (some ⟨w.heap.size, 0, none⟩) 0 cap) [] (w.alloc (.cells (madeCells #[.int .u8 0] cap) 5)) :=
  World.ownsRow_made w _ cap (Nat.le_refl _) (by unfold maxLen; omega) (by simp [madeCells])
theorem run_make0 {P : Program} (t e : TypeId) (ht : P.underlying t = some (.slice e)) (hinfo : (P.info? e).map (fun i => (i.zero, i.size, i.bytes)) = some (some (.int .u8 0), 1, 1)) (c : Nat) (hc : c ≤ 1000000) (w : World) :
    (Instr.makeSlice t (.int .i64 0) (.int .i64 (c : Int))).run P w = .ok (.slice (some ⟨w.heap.size, 0, none⟩) 0 c) (w.alloc (.cells (madeCells #[.int .u8 0] c) e)) := by
  obtain ⟨i, hi, hz, hs, hb⟩ := info_parts hinfo
  have hr := run_make (P := P) w t e i _ ht hi hz .i64 .i64 0 c (Int.le_refl _) (by omega) (by rw [hb]; omega) (by omega)
  simp only [Int.toNat_natCast, hs, Nat.mul_one, Int.toNat_zero] at hr
  exact hr
set_option maxRecDepth 20000 in
set_option maxHeartbeats 4000000 in
theorem frame_any (K M S W P X R B I N : Int) (s : ByteArray) (bx cx : Nat) (w : World) (hp : putB K M S W P X R B I N s = true) (hcell : ∀ i, i < s.size → w.cell? ⟨bx, i, none⟩ = some (byteAt s i)) (hbx : bx < w.heap.size) :
    Calls Tryz.prog 46 #[.agg #[.int .i64 K, .int .i64 M, .int .i64 S, .int .i64 W, .int .i64 P, .int .i64 X, .int .i64 R], .agg #[.int .i64 B, .int .i64 I, .int .i64 N, .slice (some ⟨bx, 0, none⟩) s.size cx]] w fun e w' => ∃ v, e = .returned v ∧ NewRow w (putS K M S B I N s) v w' := by
  have hp' := hp
  unfold putB at hp'
  rw [Bool.and_eq_true] at hp'
  obtain ⟨hr, hq⟩ := hp'
  obtain ⟨b1, b2, i1, i2, n1, n2, hsz⟩ := of_decide_eq_true hq
  obtain ⟨k1, k2, m1, m2, s1, s2, p1, p2⟩ := right_bd hr
  have hs1 : 1 ≤ s.size := by omega
  have hs2 : s.size ≤ 1024 := by omega
  have HCE : Hid (∀ i, i < s.size → w.cell? ⟨bx, i, none⟩ = some (byteAt s i)) := hcell
  have HBX : Hid (bx < w.heap.size) := hbx
  have HSZ : Hid ((s.size : Int) = S) := hsz
  have N2 : Hid (N ≤ K * S) := n2
  have hN : N ≤ 261120 := by omega
  have hmk := run_make0 (P := Tryz.prog) 54 5 Tryz.underlying54 winfo5 (19 + s.size) (by omega)
  have ec : ((19 + s.size : Nat) : Int) = 19 + (s.size : Int) := by omega
  rw [ec] at hmk
  clear ec hp hq hcell hbx hsz n2 p1 p2 hr
  go_enter Tryz.func46, Tryz.ntmps46
  go_upto_region 1 with fail
  obtain ⟨w0, hw0, c0, k0, z0⟩ := frC_start w K M S W P X R B I N (.slice (some ⟨bx, 0, none⟩) s.size cx) 37 112
  rw [hw0]
  have C0 : Hid (FrC w.heap.size (w.heap.size + 1) K M S B I N (.slice (some ⟨bx, 0, none⟩) s.size cx) w0) := c0
  have K0 : Hid (Keeps NoB w w0) := k0
  have Z0 : Hid (w0.heap.size = w.heap.size + 2) := z0
  clear hw0 k0 z0
  unfold FrC at c0
  go_upto_region 2 with fail
  obtain ⟨w1, hw1, o1, k1'⟩ : ∃ w1, w0.alloc (.cells (madeCells #[.int .u8 0] (19 + s.size)) 5) = w1 ∧ OwnB w0.heap.size (.slice (some ⟨w0.heap.size, 0, none⟩) 0 (19 + s.size)) [] w1 ∧ Keeps (FromB w0.heap.size) w0 w1 := ⟨_, rfl, OwnB.made w0 _ (by omega), (Keeps.refl _ w0).alloc _⟩
  rw [hw1]
  have O1 : Hid (OwnB w0.heap.size (.slice (some ⟨w0.heap.size, 0, none⟩) 0 (19 + s.size)) [] w1) := o1
  have KW1 : Hid (Keeps (FromB w0.heap.size) w0 w1) := k1'
  have NB1 : Hid (¬ FromB w0.heap.size w.heap.size) := fun h => by have h' : w0.heap.size ≤ w.heap.size := h; have := Z0.out; omega
  have NB2 : Hid (¬ FromB w0.heap.size (w.heap.size + 1)) := fun h => by have h' : w0.heap.size ≤ w.heap.size + 1 := h; have := Z0.out; omega
  clear hw1 o1 k1' c0 hmk
  go_upto_region 3 with (at_builtin; refine wpList_appB _ rfl (.tmp 11) (.tmp 12) rfl w0.heap.size _ [] [87, 1] rfl (O1.out.alloc _) ⟨w1.heap.size, 0, none⟩ 2 2 rfl rfl (World.news_of_block (cs := #[.int .u8 87, .int .u8 1]) (t := 5) (fr := (0, 0)) (heap_alloc_new w1 _)) (by decide) (by decide) (by have := KW1.out.size; simp; omega) ?_; intro v2 w2 o2 k2; have O2 : Hid (OwnB w0.heap.size v2 [87, 1] w2) := o2; have KW2 : Hid (Keeps (FromB w0.heap.size) w0 w2) := (KW1.out.alloc _).trans k2; clear o2 k2)
  have c2 := C0.out.keeps KW2.out NB1.out NB2.out
  clear O1 KW1
  unfold FrC at c2
  go_upto_region 4 with (go_at_call 84; refine (appnum_own w0.heap.size _ _ _ _ _ KW2.out.size O2.out (by omega) (by omega) (by omega) (by decide)).mono ?_; rintro e w3 ⟨v3, rfl, o3, k3⟩; have O3 : Hid (OwnB w0.heap.size v3 ([87, 1] ++ lowL B.toNat 4) w3) := o3; have KW3 : Hid (Keeps (FromB w0.heap.size) w0 w3) := KW2.out.trans k3; clear o3 k3)
  have c3 := C0.out.keeps KW3.out NB1.out NB2.out
  clear O2 KW2 c2
  unfold FrC at c3
  have eI : I % 256 = I := by omega
  have eK : K % 256 = K := by omega
  have eM : M % 256 = M := by omega
  have EB3 : Hid (Lib.byteCells (lowL I.toNat 1 ++ (lowL K.toNat 1 ++ lowL M.toNat 1)) = [.int .u8 I, .int .u8 K, .int .u8 M]) := by
    show _ = _
    rw [byteCells_append, byteCells_append, low_one I i1 (by omega), low_one K (by omega) k2, low_one M m1 (by omega)]
    rfl
  go_upto_region 5 with (at_builtin; refine wpList_appB _ rfl (.tmp 18) (.tmp 28) rfl w0.heap.size _ ([87, 1] ++ lowL B.toNat 4) (lowL I.toNat 1 ++ (lowL K.toNat 1 ++ lowL M.toNat 1)) rfl (O3.out.alloc _) ⟨w3.heap.size, 0, none⟩ 3 3 rfl rfl (by rw [EB3.out]; exact World.news_of_block (cs := #[.int .u8 I, .int .u8 K, .int .u8 M]) (t := 5) (fr := (0, 0)) (heap_alloc_new w3 _)) (by simp [lowL_length]) (by simp [lowL_length]) (by have := KW3.out.size; simp; omega) ?_; intro v4 w4 o4 k4; have O4 : Hid (OwnB w0.heap.size v4 ([87, 1] ++ lowL B.toNat 4 ++ (lowL I.toNat 1 ++ (lowL K.toNat 1 ++ lowL M.toNat 1))) w4) := o4; have KW4 : Hid (Keeps (FromB w0.heap.size) w0 w4) := (KW3.out.alloc _).trans k4; clear o4 k4)
  have c4 := C0.out.keeps KW4.out NB1.out NB2.out
  clear O3 KW3 c3 EB3 eI eK eM
  unfold FrC at c4
  go_upto_region 6 with (go_at_call 84; refine (appnum_own w0.heap.size _ _ _ _ _ KW4.out.size O4.out (by omega) (by omega) (by omega) (by simp [lowL_length])).mono ?_; rintro e w5 ⟨v5, rfl, o5, k5⟩; have O5 : Hid (OwnB w0.heap.size v5 ([87, 1] ++ lowL B.toNat 4 ++ (lowL I.toNat 1 ++ (lowL K.toNat 1 ++ lowL M.toNat 1)) ++ lowL S.toNat 2) w5) := o5; have KW5 : Hid (Keeps (FromB w0.heap.size) w0 w5) := KW4.out.trans k5; clear o5 k5)
  have c5 := C0.out.keeps KW5.out NB1.out NB2.out
  clear O4 KW4 c4
  unfold FrC at c5
  go_upto_region 7 with (go_at_call 84; refine (appnum_own w0.heap.size _ _ _ _ _ KW5.out.size O5.out (by omega) (by omega) (by omega) (by simp [lowL_length])).mono ?_; rintro e w6 ⟨v6, rfl, o6, k6⟩; have O6 : Hid (OwnB w0.heap.size v6 ([87, 1] ++ lowL B.toNat 4 ++ (lowL I.toNat 1 ++ (lowL K.toNat 1 ++ lowL M.toNat 1)) ++ lowL S.toNat 2 ++ lowL N.toNat 4) w6) := o6; have KW6 : Hid (Keeps (FromB w0.heap.size) w0 w6) := KW5.out.trans k6; clear o6 k6)
  have c6 := C0.out.keeps KW6.out NB1.out NB2.out
  clear O5 KW5 c5
  unfold FrC at c6
  have NEW : Hid (∀ j u, (Lib.byteCells s.data.toList)[j]? = some u → w6.cell? ((⟨bx, 0, none⟩ : Addr).add j) = some u) := news_bytes (fun i hi => by
    have q : Keeps NoB w w6 := K0.out.trans' KW6.out (fun b hb h => by have h' : w0.heap.size ≤ b := h; have := Z0.out; omega)
    rw [Nat.zero_add]
    exact (q.cell (a := ⟨bx, i, none⟩) HBX.out (fun x => x)).trans (HCE.out i hi))
  have hsl : s.data.toList.length = s.size := by rw [← Lib.size_eq]
  have HSL : Hid (s.data.toList.length = s.size) := hsl
  clear hsl
  go_upto_region 8 with (at_builtin; refine wpList_appB _ rfl (.tmp 38) (.tmp 40) rfl w0.heap.size _ ([87, 1] ++ lowL B.toNat 4 ++ (lowL I.toNat 1 ++ (lowL K.toNat 1 ++ lowL M.toNat 1)) ++ lowL S.toNat 2 ++ lowL N.toNat 4) s.data.toList rfl O6.out ⟨bx, 0, none⟩ s.size cx rfl HSL.out NEW.out (by rw [HSL.out]; omega) (by rw [HSL.out]; simp [lowL_length]; omega) KW6.out.size ?_; intro v7 w7 o7 k7; have O7 : Hid (OwnB w0.heap.size v7 (bodyS K M S B I N s).data.toList w7) := o7.to (by simp only [bodyS, append_toList, lowS, List.append_assoc]; rfl); have KW7 : Hid (Keeps (FromB w0.heap.size) w0 w7) := KW6.out.trans k7; clear o7 k7)
  clear O6 KW6 c6 NEW HSL
  have hbz := bodyS_size K M S B I N s
  have hbl : (bodyS K M S B I N s).data.toList.length = s.size + 15 := by rw [← Lib.size_eq]; exact hbz
  obtain ⟨g, cap, hv7⟩ := O7.out.form (by omega)
  subst hv7
  have CE : Hid (∀ i, i < s.size + 15 → w7.cell? ⟨g, i, none⟩ = some (byteAt (bodyS K M S B I N s) i)) := fun i hi => O7.out.cells i (by omega)
  have ES : Hid ((bodyS K M S B I N s).extract 0 (s.size + 15) = bodyS K M S B I N s) := by
    show _ = _
    apply bytes_ext
    rw [take_extract _ _ (by omega), List.take_of_length_le (by omega)]
  have EP : Hid (∀ T, (bodyS K M S B I N s).data.toList ++ lowL (sumOf (bodyS K M S B I N s)) 4 = T → T = (putS K M S B I N s).data.toList) := fun T e => by
    rw [← e, putS, append_toList]; rfl
  rw [hbl]
  have HBL : Hid ((bodyS K M S B I N s).data.toList.length = s.size + 15) := hbl
  have HBZ : Hid ((bodyS K M S B I N s).size = s.size + 15) := hbz
  have HPZ : Hid (0 < (putS K M S B I N s).size) := by show _ < _; rw [putS_size]; omega
  clear hbz hbl
  have O8 : Hid (OwnB w0.heap.size (.slice (some ⟨g, 0, none⟩) (s.size + 15) cap) (bodyS K M S B I N s).data.toList w7) := by
    have := O7.out
    rw [HBL.out] at this
    exact this
  clear O7
  go_wp2_with (first | (go_at_call 85; refine (sum_any (bodyS K M S B I N s) g (s.size + 15) cap _ (by rw [HBZ.out]; exact Nat.le_refl _) (by omega) CE.out).mono ?_; rintro e w8 ⟨rfl, hw8⟩; obtain rfl := hw8.symm; rw [ES.out]) | (go_at_call 84; refine (appnum_own w0.heap.size _ _ _ _ _ KW7.out.size O8.out (by omega) (by omega) (by omega) (by rw [HBL.out]; omega)).mono ?_; rintro e w9 ⟨v9, rfl, o9, k9⟩; have O9 : Hid (OwnB w0.heap.size v9 (putS K M S B I N s).data.toList w9) := o9.to (EP.out _ (by rw [Int.toNat_natCast]; rfl)); have KW9 : Hid (Keeps NoB w w9) := K0.out.trans' (KW7.out.trans k9) (fun b hb h => by have h' : w0.heap.size ≤ b := h; have := Z0.out; omega); clear o9 k9))
  go_ret
  exact ⟨v9, rfl, O9.out.new HPZ.out (by have := Z0.out; omega) KW9.out⟩
end Go.Proofs.YtgchiamkeeljkaaGreatDoor
