/-
  The book of lists of bytes that came out (weavelaw.Book): what it is in memory, and what a store, a new block, an append make of it. No walk here.
-/
import Derived.Test.YtgchiamkeeljkaaGreatDoorRows
import Derived.Test.YtgchiamkeeljkaaGreatDoorMem
import Derived.Deep.AppendLies
import Derived.ArgAppend
namespace Go.Proofs.YtgchiamkeeljkaaGreatDoor
open Go Go.RowKit

/-- A slice of bytes. -/
structure Sl where
  ad : Option Addr
  n : Nat
  c : Nat
def Sl.val (s : Sl) : Value := .slice s.ad s.n s.c
def Sl.blk (s : Sl) : Option Nat := s.ad.map (·.block)

/-- The caller's mark in the i-th list. -/
def mkN (i : Nat) : Nat := 200 + i / 4 % 50
def mkV (i : Nat) : Value := .int .u8 (mkN i : Nat)

/-- The list's places lie in a row of bytes. -/
def Sized (w : World) (s : Sl) : Prop := s.n = 0 ∨ ∃ b o N f, s.ad = some ⟨b, o, none⟩ ∧ w.rowIs b 5 N f ∧ o + s.n ≤ N
/-- .. and hold v, all of them. -/
def Marked (w : World) (s : Sl) (v : Value) : Prop := s.n = 0 ∨ ∃ b o N f, s.ad = some ⟨b, o, none⟩ ∧ w.rowIs b 5 N f ∧ o + s.n ≤ N ∧ ∀ j, j < s.n → f (o + j) = v
/-- Its spare room too lies in a row; or it is nil. -/
def Roomy (w : World) (s : Sl) : Prop := (s.ad = none ∧ s.n = 0 ∧ s.c = 0) ∨ ∃ b o N f, s.ad = some ⟨b, o, none⟩ ∧ w.rowIs b 5 N f ∧ o + s.c ≤ N ∧ s.n ≤ s.c

theorem Marked.sized {w : World} {s : Sl} {v : Value} (h : Marked w s v) : Sized w s := by
  rcases h with h | ⟨b, o, N, f, h1, h2, h3, _⟩
  · exact .inl h
  · exact .inr ⟨b, o, N, f, h1, h2, h3⟩
theorem Roomy.sized {w : World} {s : Sl} (h : Roomy w s) : Sized w s := by
  rcases h with h | ⟨b, o, N, f, h1, h2, h3, h4⟩
  · exact .inl h.2.1
  · exact .inr ⟨b, o, N, f, h1, h2, by omega⟩
theorem Sized.set {w : World} {s : Sl} (h : Sized w s) (a : Addr) (ha : a = ⟨a.block, a.off, none⟩) (v : Value) : Sized (w.setCell a v) s := by
  rcases h with h | ⟨b, o, N, f, h1, h2, h3⟩
  · exact .inl h
  · by_cases hb : b = a.block
    · rw [ha, ← hb]; exact .inr ⟨b, o, N, _, h1, h2.set _ _, h3⟩
    · exact .inr ⟨b, o, N, f, h1, h2.setOther hb v, h3⟩
theorem Roomy.set {w : World} {s : Sl} (h : Roomy w s) (a : Addr) (ha : a = ⟨a.block, a.off, none⟩) (v : Value) : Roomy (w.setCell a v) s := by
  rcases h with h | ⟨b, o, N, f, h1, h2, h3, h4⟩
  · exact .inl h
  · by_cases hb : b = a.block
    · rw [ha, ← hb]; exact .inr ⟨b, o, N, _, h1, h2.set _ _, h3, h4⟩
    · exact .inr ⟨b, o, N, f, h1, h2.setOther hb v, h3, h4⟩
/-- The same mark written anywhere turns nothing. -/
theorem Marked.setSame {w : World} {s : Sl} {v : Value} (h : Marked w s v) (b' o' : Nat) : Marked (w.setCell ⟨b', o', none⟩ v) s v := by
  rcases h with h | ⟨b, o, N, f, h1, h2, h3, h4⟩
  · exact .inl h
  · by_cases hb : b = b'
    · subst hb
      refine .inr ⟨b, o, N, _, h1, h2.set _ _, h3, fun j hj => ?_⟩
      show (if o + j = o' then v else f (o + j)) = v
      split
      · rfl
      · exact h4 j hj
    · exact .inr ⟨b, o, N, f, h1, h2.setOther hb v, h3, h4⟩
theorem Marked.setOther {w : World} {s : Sl} {v : Value} (h : Marked w s v) (a : Addr) (u : Value) (hb : s.blk ≠ some a.block) : Marked (w.setCell a u) s v := by
  rcases h with h | ⟨b, o, N, f, h1, h2, h3, h4⟩
  · exact .inl h
  · exact .inr ⟨b, o, N, f, h1, h2.setOther (fun e => hb (by simp [Sl.blk, h1, e])) u, h3, h4⟩
theorem Marked.keeps {S : Nat → Prop} {w w' : World} {s : Sl} {v : Value} (h : Marked w s v) (k : Keeps S w w') (hb : ∀ b, s.blk = some b → ¬ S b) : Marked w' s v := by
  rcases h with h | ⟨b, o, N, f, h1, h2, h3, h4⟩
  · exact .inl h
  · exact .inr ⟨b, o, N, f, h1, k.rowIs h2 (hb b (by simp [Sl.blk, h1])), h3, h4⟩
theorem Sized.keeps {S : Nat → Prop} {w w' : World} {s : Sl} (h : Sized w s) (k : Keeps S w w') (hb : ∀ b, s.blk = some b → ¬ S b) : Sized w' s := by
  rcases h with h | ⟨b, o, N, f, h1, h2, h3⟩
  · exact .inl h
  · exact .inr ⟨b, o, N, f, h1, k.rowIs h2 (hb b (by simp [Sl.blk, h1])), h3⟩
theorem Roomy.keeps {S : Nat → Prop} {w w' : World} {s : Sl} (h : Roomy w s) (k : Keeps S w w') (hb : ∀ b, s.blk = some b → ¬ S b) : Roomy w' s := by
  rcases h with h | ⟨b, o, N, f, h1, h2, h3, h4⟩
  · exact .inl h
  · exact .inr ⟨b, o, N, f, h1, k.rowIs h2 (hb b (by simp [Sl.blk, h1])), h3, h4⟩
theorem Marked.at {w : World} {s : Sl} {v : Value} (h : Marked w s v) {j : Nat} (hj : j < s.n) : ∃ b o, s.ad = some ⟨b, o, none⟩ ∧ w.cell? ⟨b, o + j, none⟩ = some v ∧ w.frozen? ⟨b, o + j, none⟩ = false := by
  rcases h with h | ⟨b, o, N, f, h1, h2, h3, h4⟩
  · omega
  · exact ⟨b, o, h1, by rw [h2.cell (by omega), h4 j hj], h2.frozen _⟩
theorem Sized.at {w : World} {s : Sl} (h : Sized w s) {j : Nat} (hj : j < s.n) : ∃ b o u, s.ad = some ⟨b, o, none⟩ ∧ w.cell? ⟨b, o + j, none⟩ = some u ∧ w.frozen? ⟨b, o + j, none⟩ = false := by
  rcases h with h | ⟨b, o, N, f, h1, h2, h3⟩
  · omega
  · exact ⟨b, o, _, h1, h2.cell (by omega), h2.frozen _⟩

/-- The first j places hold v. -/
def MarkedUpto (w : World) (s : Sl) (v : Value) (k : Nat) : Prop := s.n = 0 ∨ ∃ b o N f, s.ad = some ⟨b, o, none⟩ ∧ w.rowIs b 5 N f ∧ o + s.n ≤ N ∧ ∀ j, j < k → f (o + j) = v
theorem MarkedUpto.start {w : World} {s : Sl} {v : Value} (h : Sized w s) : MarkedUpto w s v 0 := by
  rcases h with h | ⟨b, o, N, f, h1, h2, h3⟩
  · exact .inl h
  · exact .inr ⟨b, o, N, f, h1, h2, h3, fun j hj => by omega⟩
theorem MarkedUpto.step {w : World} {s : Sl} {v : Value} {k : Nat} (h : MarkedUpto w s v k) {b o : Nat} (hk : k < s.n) (ha : s.ad = some ⟨b, o, none⟩) : MarkedUpto (w.setCell ⟨b, o + k, none⟩ v) s v (k + 1) := by
  rcases h with h | ⟨b', o', N, f, h1, h2, h3, h4⟩
  · omega
  · rw [h1] at ha
    simp only [Option.some.injEq, Addr.mk.injEq, and_true] at ha
    obtain ⟨rfl, rfl⟩ := ha
    refine .inr ⟨b', o', N, _, h1, h2.set _ _, h3, fun j hj => ?_⟩
    show (if o' + j = o' + k then v else f (o' + j)) = v
    by_cases e : j = k
    · subst e; rw [if_pos rfl]
    · rw [if_neg (by omega)]; exact h4 j (by omega)
theorem MarkedUpto.done {w : World} {s : Sl} {v : Value} (h : MarkedUpto w s v s.n) : Marked w s v := h
theorem MarkedUpto.sized {w : World} {s : Sl} {v : Value} {k : Nat} (h : MarkedUpto w s v k) : Sized w s := by
  rcases h with h | ⟨b, o, N, f, h1, h2, h3, _⟩
  · exact .inl h
  · exact .inr ⟨b, o, N, f, h1, h2, h3⟩
theorem MarkedUpto.at {w : World} {s : Sl} {v : Value} {k : Nat} (h : MarkedUpto w s v k) {j : Nat} (hj : j < s.n) : ∃ b o u, s.ad = some ⟨b, o, none⟩ ∧ w.cell? ⟨b, o + j, none⟩ = some u ∧ w.frozen? ⟨b, o + j, none⟩ = false := h.sized.at hj

/-- So many marks, laid behind one another. -/
theorem rowIs_setMarks {b t N : Nat} {v : Value} : ∀ (k off : Nat) (w : World) (f : Nat → Value), w.rowIs b t N f → (w.setCells b off (List.replicate k v)).rowIs b t N (fun j => if off ≤ j ∧ j < off + k then v else f j)
  | 0, off, w, f, h => h.congr fun j _ => by rw [if_neg (by omega)]
  | k + 1, off, w, f, h => by
    refine (rowIs_setMarks k (off + 1) (w.setCell ⟨b, off, none⟩ v) _ (h.set off v)).congr fun j _ => ?_
    show (if off + 1 ≤ j ∧ j < off + 1 + k then v else if j = off then v else f j) = _
    by_cases e : j = off
    · subst e; rw [if_neg (by omega), if_pos rfl, if_pos (by omega)]
    · by_cases e2 : off + 1 ≤ j ∧ j < off + 1 + k
      · rw [if_pos e2, if_pos (by omega)]
      · rw [if_neg e2, if_neg e, if_neg (by omega)]
theorem marked_setMarks {b : Nat} {v : Value} {s : Sl} : ∀ (k off : Nat) (w : World), Marked w s v → Marked (w.setCells b off (List.replicate k v)) s v
  | 0, _, _, h => h
  | k + 1, off, _, h => marked_setMarks k (off + 1) _ (h.setSame b off)
theorem keeps_setCells {S : Nat → Prop} {b : Nat} {w0 : World} (hb : w0.heap.size ≤ b ∨ S b) : ∀ (vs : List Value) (off : Nat) (w : World), Keeps S w0 w → Keeps S w0 (w.setCells b off vs)
  | [], _, _, h => h
  | v :: r, off, _, h => keeps_setCells hb r (off + 1) _ (h.setCell (a := ⟨b, off, none⟩) hb v)

/-- What 'append(l, m, .., m)' leaves, l marked m. -/
structure Pushed (l s : Sl) (v : Value) (w w' : World) : Prop where
  marked : Marked w' s v
  all : ∀ t, Marked w t v → Marked w' t v
  room : Roomy w' l
  keeps : Keeps (fun b => l.blk = some b) w w'
  blk : s.blk = l.blk ∨ ∃ g, w.heap.size ≤ g ∧ s.blk = some g

theorem marked_of_owned {w : World} {base : Nat} {v' : Value} {n : Nat} {xs : List Value} {v : Value} (h : w.ownsRow base 5 1 v' n xs) (hn : 0 < n) (hx : ∀ u ∈ xs, u = v) :
    ∃ s : Sl, v' = s.val ∧ s.n = n ∧ Marked w s v ∧ ∃ g, base ≤ g ∧ s.blk = some g := by
  obtain ⟨hl, h | ⟨g, cap, cur, rfl, hb, hg, hc, _, hs, ht⟩⟩ := h
  · omega
  · refine ⟨⟨some ⟨g, 0, none⟩, n, cap⟩, rfl, rfl, .inr ⟨g, 0, cap, fun j => cur[j]?.getD v, rfl, ⟨cur, hg, by omega, fun i hi => ?_⟩, by simpa using hc, fun j hj => ?_⟩, g, hb, rfl⟩
    · have hi' : i < cur.size := by omega
      simp [hi']
    · have hj : j < n := hj
      have hjs : j < cur.size := by omega
      have e : cur[j]? = xs[j]? := by
        rw [← ht, List.getElem?_take, if_pos (by omega), Array.getElem?_toList]
      have hjx : j < xs.length := by omega
      simp only [Nat.zero_add, e, List.getElem?_eq_getElem hjx, Option.getD_some]
      exact hx _ (List.getElem_mem hjx)

theorem wpList_append_marks {w : World} {ops : Array Oper} {rest : List Oper} {o : Oper} {a : Act} {Q : Exit → Act → World → Prop} (hgd : o.guard = none) (s x : Operand)
    (ho : o.op = .call { callee := .builtin .append, args := #[s, x], argTypes := #[54, 54] }) (l : Sl) (hs : a.eval s = l.val) (ad : Addr) (k c : Nat) (hx : a.eval x = .slice (some ad) k c)
    (hinfo : (Tryz.prog.info? 5).map (fun i => (i.zero, i.size, i.bytes)) = some (some (.int .u8 0), 1, 1))
    (m : Int) (hr : Roomy w l) (hm : Marked w l (.int .u8 m)) (hk : 0 < k) (hc : ∀ j, j < k → w.cell? (ad.add j) = some (.int .u8 m)) (hb : l.n + k ≤ 140737488355328)
    (h : ∀ (t : Sl) w', Hid (t.n = l.n + k) → Hid (Pushed l t (.int .u8 m) w w') → wpList Tryz.prog ops Q rest (a.put o.dst (.slice t.ad t.n t.c)) w') : wpList Tryz.prog ops Q (o :: rest) a w := by
  obtain ⟨i, hi, hzz⟩ := Option.map_eq_some_iff.1 hinfo
  simp only [Prod.mk.injEq] at hzz
  obtain ⟨hz, hsz, hby⟩ := hzz
  have hb1 : l.n + k ≤ maxLen := by unfold maxLen; omega
  have hnews : ∀ j u, (List.replicate k (Value.int .u8 m))[j]? = some u → w.cell? (ad.add j) = some u := fun j u hj => by
    rw [List.getElem?_replicate] at hj
    by_cases e : j < k
    · rw [if_pos e] at hj; rw [← hj]; exact hc j e
    · rw [if_neg e] at hj; cases hj
  have hone : ∀ u ∈ List.replicate k (Value.int .u8 m), u.oneCell' = true := fun u hu => by rw [List.eq_of_mem_replicate hu]; rfl
  rcases hr with ⟨r1, r2, r3⟩ | ⟨b, off, N, f, r1, r2, r3, r4⟩
  · refine wpList_append_grows w hgd s x 54 ho 5 i (.int .u8 0) 1 1 Tryz.underlying54 hi hz hsz hby rfl (by decide) l.ad l.n l.c [] hs (fun _ => ⟨r2, r3⟩) (by simp [r2]) (fun b e => by rw [r1] at e; cases e)
      ad k c (List.replicate k (.int .u8 m)) hx (by simp) hnews hone (by omega) hb1 (by omega) fun v' w' ho hg => ?_
    obtain ⟨t, rfl, tn, tm, g, hg1, hg2⟩ := marked_of_owned (v := .int .u8 m) ho (by omega) (fun u hu => by simpa using List.eq_of_mem_replicate (by simpa using hu))
    have K : Keeps (fun b => l.blk = some b) w w' := (Keeps.refl _ w).grown hg (fun k e => by cases e)
    have K0 : Keeps NoB w w' := (Keeps.refl _ w).grown hg (fun k e => by cases e)
    exact h t w' tn ⟨tm, fun t ht => ht.keeps K0 (fun _ _ x => x), .inl ⟨r1, r2, r3⟩, K, .inr ⟨g, hg1, hg2⟩⟩
  · have hmf : ∀ j, j < l.n → f (off + j) = .int .u8 m := by
      rcases hm with hm | ⟨b', o', N', f', m1, m2, m3, m4⟩
      · intro j hj; omega
      · rw [r1] at m1
        simp only [Option.some.injEq, Addr.mk.injEq, and_true] at m1
        obtain ⟨rfl, rfl⟩ := m1
        intro j hj
        have e1 := r2.cell (i := off + j) (by omega)
        have e2 := m2.cell (i := off + j) (by omega)
        rw [e1] at e2
        rw [Option.some.inj e2]; exact m4 j hj
    refine wpList_append_arg w hgd s x 54 ho 5 i (.int .u8 0) 1 1 Tryz.underlying54 hi hz hsz hby rfl (by decide) b off l.n l.c (List.replicate l.n (.int .u8 m)) (by rw [hs, Sl.val, r1]) (by simp)
      (fun j u hj => by
        rw [List.getElem?_replicate] at hj
        by_cases e : j < l.n
        · rw [if_pos e] at hj; rw [← hj, r2.cell (by omega), hmf j e]
        · rw [if_neg e] at hj; cases hj)
      ad k c (List.replicate k (.int .u8 m)) hx (by simp) hnews hone
      (fun hroom j hj => by
        simp only [List.length_replicate] at hj
        exact ⟨by rw [r2.cell (by omega)]; rfl, r2.frozen _⟩) hb1 (by omega) (fun hroom => ?_) (fun hfull v' w' ho hg => ?_)
    · have R := rowIs_setMarks (v := .int .u8 m) k (off + l.n * 1) w f r2
      have K : Keeps (fun b => l.blk = some b) w (w.setCells b (off + l.n * 1) (List.replicate k (.int .u8 m))) := keeps_setCells (.inr (by simp [Sl.blk, r1])) _ _ _ (Keeps.refl _ w)
      refine h ⟨some ⟨b, off, none⟩, l.n + k, l.c⟩ _ rfl ⟨.inr ⟨b, off, N, _, rfl, R, by show off + (l.n + k) ≤ N; omega, fun j hj => ?_⟩, fun t ht => marked_setMarks _ _ _ ht, .inr ⟨b, off, N, _, r1, R, r3, r4⟩, K, .inl (by simp [Sl.blk, r1])⟩
      have hj : j < l.n + k := hj
      show (if off + l.n * 1 ≤ off + j ∧ off + j < off + l.n * 1 + k then _ else f (off + j)) = _
      by_cases e : l.n ≤ j
      · rw [if_pos (by omega)]
      · rw [if_neg (by omega)]; exact hmf j (by omega)
    · obtain ⟨t, rfl, tn, tm, g, hg1, hg2⟩ := marked_of_owned (v := .int .u8 m) ho (by omega) (fun u hu => by
        rcases List.mem_append.1 hu with hu | hu <;> exact List.eq_of_mem_replicate hu)
      have K : Keeps (fun b => l.blk = some b) w w' := (Keeps.refl _ w).grown hg (fun k e => by cases e)
      have K0 : Keeps NoB w w' := (Keeps.refl _ w).grown hg (fun k e => by cases e)
      exact h t w' tn ⟨tm, fun t ht => ht.keeps K0 (fun _ _ x => x), .inr ⟨b, off, N, f, r1, K0.rowIs r2 (fun x => x), r3, r4⟩, K, .inr ⟨g, hg1, hg2⟩⟩
end Go.Proofs.YtgchiamkeeljkaaGreatDoor
