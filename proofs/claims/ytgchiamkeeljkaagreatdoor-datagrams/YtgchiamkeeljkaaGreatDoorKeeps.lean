/-
  weavelaw.Book.keeps.
-/
import Derived.Test.YtgchiamkeeljkaaGreatDoorBook
namespace Go.Proofs.YtgchiamkeeljkaaGreatDoor
open Go Go.RowKit

/-- THE BOOK, WHOLE: n lists, each marked; groups of four share no block. -/
structure BookOk (B bw : Nat) (F : Nat → Value) (L : List Sl) (w : World) : Prop where
  brow : BRow B bw F L.length (L.map Sl.val) w
  f5 : F 5 = .slice none 0 0
  f6 : F 6 = .slice none 0 0
  marks : ∀ i s, L[i]? = some s → Marked w s (mkV i)
  far : ∀ s ∈ L, ∀ b, s.blk = some b → B ≤ b ∧ b < w.heap.size ∧ (F 4).ownBlock ≠ some b
  sep : ∀ i j s t b, L[i]? = some s → L[j]? = some t → i / 4 ≠ j / 4 → s.blk = some b → t.blk ≠ some b

/-- The header's own blocks, and the lists'. -/
def BookB (bw : Nat) (F : Nat → Value) (L : List Sl) (b : Nat) : Prop := b = bw ∨ (F 4).ownBlock = some b ∨ ∃ s ∈ L, s.blk = some b

theorem BookOk.keeps {S : Nat → Prop} {B bw : Nat} {F : Nat → Value} {L : List Sl} {w w' : World} (h : BookOk B bw F L w) (k : Keeps S w w') (hS : ∀ b, b < w.heap.size → S b → ¬ BookB bw F L b) : BookOk B bw F L w' := by
  have hlt : bw < w.heap.size := Nat.lt_of_lt_of_le h.brow.lt h.brow.le
  refine ⟨h.brow.keeps k (fun x => hS _ hlt x (.inl rfl)) (fun b e x => hS b (h.brow.own.lt b e).2 x (.inr (.inl e))), h.f5, h.f6, fun i s hi => ?_, fun s hs b e => ?_, h.sep⟩
  · have hm : s ∈ L := List.mem_of_getElem? hi
    exact (h.marks i s hi).keeps k (fun b e x => hS b (h.far s hm b e).2.1 x (.inr (.inr ⟨s, hm, e⟩)))
  · obtain ⟨h1, h2, h3⟩ := h.far s hs b e
    exact ⟨h1, Nat.lt_of_lt_of_le h2 k.size, h3⟩

/-- On the way: lists are laid at the row's end. -/
structure PSt (B bw : Nat) (F : Nat → Value) (w3 : World) (G : Nat → Value) (n : Nat) (xs : List Value) (w : World) : Prop where
  brow : BRow B bw G n xs w
  keeps : Keeps (fun b => b = bw ∨ (F 4).ownBlock = some b) w3 w
  blk : (G 4).ownBlock = (F 4).ownBlock ∨ ∃ g, w3.heap.size ≤ g ∧ (G 4).ownBlock = some g
  same : ∀ j, j ≠ 4 → G j = F j

theorem PSt.push {B bw : Nat} {F : Nat → Value} {w3 : World} {G : Nat → Value} {n : Nat} {xs : List Value} {w w1 : World} (h : PSt B bw F w3 G n xs w) {o : Obj} {x : Value} {g cap : Nat}
    (ho : w1.ownsRow B 54 1 (.slice (some ⟨g, 0, none⟩) (n + 1) cap) (n + 1) (xs ++ [x])) (hg : (w.alloc o).grownBy w1 (G 4).ownBlock) (hat : (G 4).ownBlock = some g ∨ g = w.heap.size + 1) :
    PSt B bw F w3 (upd G (.slice (some ⟨g, 0, none⟩) (n + 1) cap)) (n + 1) (xs ++ [x]) (w1.setCell ⟨bw, 4, none⟩ (.slice (some ⟨g, 0, none⟩) (n + 1) cap)) := by
  obtain ⟨r1, r2, r3⟩ := h.brow.push rfl ho hg hat
  refine ⟨r1, h.keeps.trans' r2 (fun b hb e => ?_), ?_, fun j hj => by rw [upd_ne _ _ _ hj, h.same j hj]⟩
  · rcases e with e | e
    · exact .inl e
    · rcases h.blk with e' | ⟨g', e1, e2⟩
      · exact .inr (by rw [← e', e])
      · rw [e2] at e; have := Option.some.inj e; omega
  · rw [upd4]
    rcases r3 with e | e
    · rcases h.blk with e' | ⟨g', e1, e2⟩
      · exact .inl (e.trans e')
      · exact .inr ⟨g', e1, by rw [e, e2]⟩
    · exact .inr ⟨_, by have := h.keeps.size; omega, e⟩
theorem PSt.head {B bw : Nat} {F : Nat → Value} {w3 : World} {G : Nat → Value} {n : Nat} {xs : List Value} {w : World} (h : PSt B bw F w3 G n xs w) : w.cell? ⟨bw, 4, none⟩ = some (G 4) ∧ w.frozen? ⟨bw, 4, none⟩ = false :=
  ⟨h.brow.row.cell (by decide), h.brow.row.frozen 4⟩
theorem PSt.behind {B bw : Nat} {F : Nat → Value} {w3 : World} {G : Nat → Value} {n : Nat} {xs : List Value} {w w1 : World} (h : PSt B bw F w3 G n xs w) {o : Obj} (hg : (w.alloc o).grownBy w1 (G 4).ownBlock) : w1.cell? ⟨bw, 4, none⟩ = some (G 4) ∧ w1.frozen? ⟨bw, 4, none⟩ = false := by
  have hra := h.brow.row.alloc o
  have hr1 : w1.rowIs bw 75 7 G := hra.of_block (hg.block bw hra.lt (fun e => h.brow.ne e.symm))
  exact ⟨hr1.cell (by decide), hr1.frozen 4⟩

/-- The four lists of a group are laid: the book is whole. -/
theorem BookOk.grow {B bw : Nat} {F G : Nat → Value} {L : List Sl} {w w3 w7 : World} {l a b c : Sl} (h : BookOk B bw F L w) (h4 : L.length % 4 = 0)
    (hfar : ∀ x, l.blk = some x → B ≤ x ∧ x < w.heap.size ∧ ¬ BookB bw F L x)
    (k3 : Keeps (fun x => l.blk = some x) w w3) (ml : Marked w3 l (mkV L.length)) (ma : Marked w3 a (mkV L.length)) (mb : Marked w3 b (mkV L.length)) (mc : Marked w3 c (mkV L.length))
    (na : 0 < a.n) (nb : 0 < b.n) (nc : 0 < c.n)
    (ba : a.blk = l.blk ∨ ∃ g, w.heap.size ≤ g ∧ a.blk = some g) (bb : b.blk = l.blk ∨ ∃ g, w.heap.size ≤ g ∧ b.blk = some g) (bc : c.blk = l.blk ∨ ∃ g, w.heap.size ≤ g ∧ c.blk = some g)
    (hp : PSt B bw F w3 G (L.length + 4) (L.map Sl.val ++ [l.val] ++ [a.val] ++ [b.val] ++ [c.val]) w7) :
    BookOk B bw G (L ++ [l, a, b, c]) w7 ∧ Keeps (fun x => x = bw ∨ B ≤ x) w w7 := by
  have hlt : bw < w.heap.size := Nat.lt_of_lt_of_le h.brow.lt h.brow.le
  have hin : ∀ (s : Sl), Marked w3 s (mkV L.length) → 0 < s.n → ∀ x, s.blk = some x → x < w3.heap.size := fun s hm hn x e => by
    rcases hm with hm | ⟨b', o', N, f, e1, e2, _⟩
    · omega
    · have : b' = x := by simpa [Sl.blk, e1] using e
      subst this; exact e2.lt
  -- each of the four lies apart from the book, in memory from B on
  have four : ∀ s ∈ [l, a, b, c], ∀ x, s.blk = some x → B ≤ x ∧ x < w3.heap.size ∧ (l.blk = some x ∨ w.heap.size ≤ x) := fun s hs x e => by
    have base : l.blk = some x → B ≤ x ∧ x < w3.heap.size ∧ (l.blk = some x ∨ w.heap.size ≤ x) := fun e => ⟨(hfar x e).1, Nat.lt_of_lt_of_le (hfar x e).2.1 k3.size, .inl e⟩
    have new : ∀ (t : Sl), Marked w3 t (mkV L.length) → 0 < t.n → (t.blk = l.blk ∨ ∃ g, w.heap.size ≤ g ∧ t.blk = some g) → t.blk = some x → B ≤ x ∧ x < w3.heap.size ∧ (l.blk = some x ∨ w.heap.size ≤ x) := fun t hm hn hb e => by
      rcases hb with e' | ⟨g, e1, e2⟩
      · exact base (by rw [← e', e])
      · have : g = x := Option.some.inj (e2.symm.trans e)
        subst this
        exact ⟨Nat.le_trans h.brow.le e1, hin t hm hn _ e, .inr e1⟩
    simp only [List.mem_cons, List.not_mem_nil, or_false] at hs
    rcases hs with rfl | rfl | rfl | rfl
    · exact base e
    · exact new _ ma na ba e
    · exact new _ mb nb bb e
    · exact new _ mc nc bc e
  have old : ∀ s ∈ L, ∀ x, s.blk = some x → ¬ (l.blk = some x) := fun s hs x e e' => (hfar x e').2.2 (.inr (.inr ⟨s, hs, e⟩))
  have m4 : ∀ s ∈ [l, a, b, c], Marked w3 s (mkV L.length) := fun s hs => by
    simp only [List.mem_cons, List.not_mem_nil, or_false] at hs
    rcases hs with rfl | rfl | rfl | rfl <;> assumption
  have fb : (F 4).ownBlock ≠ none → ∀ x, (F 4).ownBlock = some x → B ≤ x ∧ x < w.heap.size := fun _ x e => h.brow.own.lt x e
  have k7 := hp.keeps
  -- no list's block is let go on the way from w3 on
  have safe : ∀ (s : Sl) x, s.blk = some x → (s ∈ L ∨ s ∈ [l, a, b, c]) → ¬ (x = bw ∨ (F 4).ownBlock = some x) := fun s x e hs hx => by
    rcases hs with hs | hs
    · obtain ⟨q1, q2, q3⟩ := h.far s hs x e
      rcases hx with rfl | hx
      · have := h.brow.lt; omega
      · exact q3 hx
    · obtain ⟨q1, q2, q3⟩ := four s hs x e
      rcases hx with rfl | hx
      · have := h.brow.lt; omega
      · rcases q3 with q3 | q3
        · exact (hfar x q3).2.2 (.inr (.inl hx))
        · have := (h.brow.own.lt x hx).2; omega
  have hidx : ∀ i s, (L ++ [l, a, b, c])[i]? = some s → (i < L.length ∧ L[i]? = some s ∧ s ∈ L) ∨ (L.length ≤ i ∧ i / 4 = L.length / 4 ∧ s ∈ [l, a, b, c]) := fun i s hi => by
    rcases Nat.lt_or_ge i L.length with hl | hl
    · rw [List.getElem?_append_left hl] at hi
      exact .inl ⟨hl, hi, List.mem_of_getElem? hi⟩
    · rw [List.getElem?_append_right hl] at hi
      have h3 : i - L.length < 4 := by
        rcases Nat.lt_or_ge (i - L.length) 4 with x | x
        · exact x
        · rw [List.getElem?_eq_none (by simpa using x)] at hi; cases hi
      exact .inr ⟨hl, by omega, List.mem_of_getElem? hi⟩
  have mk4 : ∀ i, i / 4 = L.length / 4 → mkV i = mkV L.length := fun i hi => by unfold mkV mkN; rw [hi]
  refine ⟨⟨?_, ?_, ?_, fun i s hi => ?_, fun s hs x e => ?_, fun i j s t x hi hj hne e e' => ?_⟩, ?_⟩
  · have := hp.brow
    simpa [List.append_assoc] using this
  · rw [hp.same 5 (by decide), h.f5]
  · rw [hp.same 6 (by decide), h.f6]
  · rcases hidx i s hi with ⟨q1, q2, q3⟩ | ⟨q1, q2, q3⟩
    · have m3 : Marked w3 s (mkV i) := (h.marks i s q2).keeps k3 (fun x e => old s q3 x e)
      exact m3.keeps k7 (fun x e => safe s x e (.inl q3))
    · rw [mk4 i q2]
      exact (m4 s q3).keeps k7 (fun x e => safe s x e (.inr q3))
  · have hm : s ∈ L ∨ s ∈ [l, a, b, c] := List.mem_append.1 hs
    have hB : B ≤ x ∧ x < w3.heap.size := by
      rcases hm with hm | hm
      · obtain ⟨q1, q2, _⟩ := h.far s hm x e
        exact ⟨q1, Nat.lt_of_lt_of_le q2 k3.size⟩
      · obtain ⟨q1, q2, _⟩ := four s hm x e
        exact ⟨q1, q2⟩
    refine ⟨hB.1, Nat.lt_of_lt_of_le hB.2 k7.size, fun hx => ?_⟩
    rcases hp.blk with q | ⟨g, q1, q2⟩
    · exact safe s x e hm (.inr (by rw [← q, hx]))
    · have : g = x := Option.some.inj (q2.symm.trans hx)
      omega
  · rcases hidx i s hi with ⟨q1, q2, q3⟩ | ⟨q1, q2, q3⟩ <;> rcases hidx j t hj with ⟨r1, r2, r3⟩ | ⟨r1, r2, r3⟩
    · exact h.sep i j s t x q2 r2 hne e e'
    · rcases (four t r3 x e').2.2 with z | z
      · exact old s q3 x e z
      · have := (h.far s q3 x e).2.1; omega
    · rcases (four s q3 x e).2.2 with z | z
      · exact old t r3 x e' z
      · have := (h.far t r3 x e').2.1; omega
    · omega
  · refine (k3.mono (S' := fun x => x = bw ∨ B ≤ x) (fun x _ e => .inr (hfar x e).1)).trans' k7 (fun x _ e => ?_)
    rcases e with e | e
    · exact .inl e
    · exact .inr (h.brow.own.lt x e).1
end Go.Proofs.YtgchiamkeeljkaaGreatDoor
