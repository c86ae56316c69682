/-
  weavelaw.Book.keeps: the walk.
-/
import Derived.Test.YtgchiamkeeljkaaGreatDoorKeeps
import Derived.Deep.Cut
namespace Go.Proofs.YtgchiamkeeljkaaGreatDoor
open Go Go.RowKit

theorem cells_new {w : World} {cs : Array Value} {t : TypeId} {u : Value} {j : Nat} (hc : cs[j]? = some u) : (w.alloc (.cells cs t)).cell? ((⟨w.heap.size, 0, none⟩ : Addr).add j) = some u := by
  refine World.news_of_block (cs := cs) (t := t) (fr := (0, 0)) (heap_alloc_new w _) j u ?_
  rw [Array.getElem?_toList]; exact hc
theorem cells1 (w : World) (t : TypeId) (u : Value) : ∀ j, j < 1 → (w.alloc (.cells #[u] t)).cell? ((⟨w.heap.size, 0, none⟩ : Addr).add j) = some u
  | 0, _ => cells_new rfl
theorem cells2 (w : World) (t : TypeId) (u : Value) : ∀ j, j < 2 → (w.alloc (.cells #[u, u] t)).cell? ((⟨w.heap.size, 0, none⟩ : Addr).add j) = some u
  | 0, _ => cells_new rfl
  | 1, _ => cells_new rfl
theorem cells3 (w : World) (t : TypeId) (u : Value) : ∀ j, j < 3 → (w.alloc (.cells #[u, u, u] t)).cell? ((⟨w.heap.size, 0, none⟩ : Addr).add j) = some u
  | 0, _ => cells_new rfl
  | 1, _ => cells_new rfl
  | 2, _ => cells_new rfl
theorem newsBlk {w : World} {u : Value} {t : TypeId} {B : Nat} (hB : B = w.heap.size) : ∀ j x, [u][j]? = some x → (w.alloc (.cells #[u] t)).cell? ((⟨B, 0, none⟩ : Addr).add j) = some x := fun j x hj => by
  subst hB
  exact World.news_of_block (cs := #[u]) (t := t) (fr := (0, 0)) (heap_alloc_new w _) j x hj
theorem wpList_push {B bw : Nat} {F : Nat → Value} {w3 : World} {G : Nat → Value} {n : Nat} {xs : List Value} {w : World} {ops : Array Oper} {rest : List Oper} {o : Oper} {a : Act} {Q : Exit → Act → World → Prop} (hgd : o.guard = none) (s x : Operand)
    (ho : o.op = .call { callee := .builtin .append, args := #[s, x], argTypes := #[50, 50] }) (h : Hid (PSt B bw F w3 G n xs w)) (v : Value) (hv : G 4 = v) (hs : a.eval s = v) (val : Value) (Bk : Nat) (hx : a.eval x = .slice (some ⟨Bk, 0, none⟩) 1 1) (hBk : Bk = w.heap.size)
    (h1 : val.oneCell' = true) (hb : (n + 1) * 24 ≤ 140737488355328)
    (K : ∀ g cap w1, w1.cell? ⟨bw, 4, none⟩ = some v → w1.frozen? ⟨bw, 4, none⟩ = false → Hid (PSt B bw F w3 (upd G (.slice (some ⟨g, 0, none⟩) (n + 1) cap)) (n + 1) (xs ++ [val]) (w1.setCell ⟨bw, 4, none⟩ (.slice (some ⟨g, 0, none⟩) (n + 1) cap))) →
      wpList Tryz.prog ops Q rest (a.put o.dst (.slice (some ⟨g, 0, none⟩) (n + 1) cap)) w1) : wpList Tryz.prog ops Q (o :: rest) a (w.alloc (.cells #[val] 54)) := by
  obtain ⟨i1, hi1, hy0, hy1, hy2⟩ := info_parts info72
  subst hv
  refine wpList_append_lies _ hgd s x 50 ho B 54 i1 (.slice none 0 0) 1 24 Tryz.underlying50 hi1 hy0 hy1 hy2 rfl (by decide) (G 4) n xs hs (h.out.brow.own.alloc _) ⟨Bk, 0, none⟩ 1 1 [val] hx rfl (newsBlk hBk) (by simp [h1]) (by decide) (by unfold maxLen; omega) hb (by have := h.out.brow.le; simp; omega) (w.heap.size + 1) (by simp) fun g cap w1 ho hg ha _ => ?_
  obtain ⟨c1, c2⟩ := h.out.behind hg
  exact K g cap w1 c1 c2 (h.out.push ho hg ha)
theorem keepsNo (w : World) (o : Obj) : Keeps NoB w (w.alloc o) := (Keeps.refl _ w).alloc o
theorem pst_start {B bw : Nat} {F : Nat → Value} {L : List Sl} {w w3 : World} {l : Sl} {v : Value} (h : BookOk B bw F L w) (k : Keeps (fun x => l.blk = some x) w w3) (hfar : ∀ x, l.blk = some x → B ≤ x ∧ x < w.heap.size ∧ ¬ BookB bw F L x) (hv : F 4 = v) :
    PSt B bw F w3 (upd F v) L.length (L.map Sl.val) w3 := by
  have e : upd F v = F := by funext j; unfold upd; split; (rename_i q; rw [q, hv]); rfl
  rw [e]
  exact ⟨h.brow.keeps k (fun e => (hfar _ e).2.2 (.inl rfl)) (fun _ e e' => (hfar _ e').2.2 (.inr (.inl e))), Keeps.refl _ _, .inl rfl, fun _ _ => rfl⟩
/-- What keeps leaves. -/
def KeptPost (B bw : Nat) (F : Nat → Value) (L : List Sl) (l : Sl) (w w' : World) : Prop := ∃ G a1 a2 a3, BookOk B bw G (L ++ [l, a1, a2, a3]) w' ∧ (∀ j, j ≠ 4 → G j = F j) ∧ Keeps (fun x => x = bw ∨ B ≤ x) w w' ∧ a1.n = l.n + 1 ∧ a2.n = l.n + 2 ∧ a3.n = l.n + 3
theorem blk_back {l s : Sl} {w w1 : World} (h : s.blk = l.blk ∨ ∃ g, w1.heap.size ≤ g ∧ s.blk = some g) (hs : w.heap.size ≤ w1.heap.size) : s.blk = l.blk ∨ ∃ g, w.heap.size ≤ g ∧ s.blk = some g := by
  rcases h with h | ⟨g, h1, h2⟩
  · exact .inl h
  · exact .inr ⟨g, by omega, h2⟩

set_option maxRecDepth 20000 in
set_option maxHeartbeats 400000 in
theorem keeps_row (B bw : Nat) (F : Nat → Value) (L : List Sl) (w : World) (b o n c : Nat) (h : BookOk B bw F L w) (h4 : L.length % 4 = 0) (hr : Roomy w (⟨some ⟨b, o, none⟩, n, c⟩ : Sl)) (hfar : ∀ x, (⟨some ⟨b, o, none⟩, n, c⟩ : Sl).blk = some x → B ≤ x ∧ x < w.heap.size ∧ ¬ BookB bw F L x) (hn : n ≤ 140737488351232) (hL : (L.length + 4) * 24 ≤ 140737488355328) :
    Calls Tryz.prog 60 #[.pointer (some ⟨bw, 4, none⟩), .slice (some ⟨b, o, none⟩) n c] w fun e w' => e = .returned (.tuple #[]) ∧ KeptPost B bw F L (⟨some ⟨b, o, none⟩, n, c⟩ : Sl) w w' := by
  obtain ⟨A, cp, hF4⟩ := h.brow.form
  have hc0 : w.cell? ⟨bw, 4, none⟩ = some (.slice A L.length cp) := by rw [← hF4]; exact h.brow.row.cell (by decide)
  have HF4 : Hid (F 4 = .slice A L.length cp) := hF4
  have H : Hid (BookOk B bw F L w) := h
  have H4 : Hid (L.length % 4 = 0) := h4
  have hL4 : (L.length + 1) * 24 ≤ 140737488355328 := Nat.le_trans (Nat.mul_le_mul_right 24 (show L.length + 1 ≤ L.length + 4 by omega)) hL
  have hL5 : (L.length + 1 + 1) * 24 ≤ 140737488355328 := Nat.le_trans (Nat.mul_le_mul_right 24 (show L.length + 1 + 1 ≤ L.length + 4 by omega)) hL
  have hL6 : (L.length + 1 + 1 + 1) * 24 ≤ 140737488355328 := Nat.le_trans (Nat.mul_le_mul_right 24 (show L.length + 1 + 1 + 1 ≤ L.length + 4 by omega)) hL
  have hL7 : (L.length + 1 + 1 + 1 + 1) * 24 ≤ 140737488355328 := Nat.le_trans (Nat.mul_le_mul_right 24 (show L.length + 1 + 1 + 1 + 1 ≤ L.length + 4 by omega)) hL
  have HR : Hid (Roomy w (⟨some ⟨b, o, none⟩, n, c⟩ : Sl)) := hr
  have HFAR : Hid (∀ x, (⟨some ⟨b, o, none⟩, n, c⟩ : Sl).blk = some x → B ≤ x ∧ x < w.heap.size ∧ ¬ BookB bw F L x) := hfar
  clear hF4 h h4 hr hfar
  go_enter Tryz.func60, Tryz.ntmps60
  go_wp2_with (go_at_call 44; refine (mark_any _ _ (by omega)).mono ?_; rintro e w1 ⟨rfl, hw1⟩; obtain rfl := hw1.symm)
  go_loopw [5] (fun i wr => ∃ j : Nat, j ≤ n ∧ i = .int .i64 j ∧ Hid (MarkedUpto wr (⟨some ⟨b, o, none⟩, n, c⟩ : Sl) (.int .u8 (mkN L.length : Nat)) j) ∧ Hid (Roomy wr (⟨some ⟨b, o, none⟩, n, c⟩ : Sl)) ∧ Hid (Keeps (fun x => (⟨some ⟨b, o, none⟩, n, c⟩ : Sl).blk = some x) w wr)) (fun i _ => n - (intOf i).toNat)
  case atStart => exact ⟨0, by omega, rfl, MarkedUpto.start HR.out.sized, HR, Keeps.refl _ _⟩
  case round =>
    clear HR hc0
    obtain ⟨j, hj, rfl, hmk, hrm, hk⟩ := hrel
    by_cases hlt : j < n
    · obtain ⟨b', o', u, e1, e2, e3⟩ := hmk.out.at hlt
      have e1' : (⟨b, o, none⟩ : Addr) = ⟨b', o', none⟩ := Option.some.inj e1
      simp only [Addr.mk.injEq, and_true] at e1'
      obtain ⟨rfl, rfl⟩ := e1'
      have R1 : Hid (MarkedUpto (wr.setCell ⟨b, o + j, none⟩ (.int .u8 (mkN L.length : Nat))) (⟨some ⟨b, o, none⟩, n, c⟩ : Sl) (.int .u8 (mkN L.length : Nat)) (j + 1)) := hmk.out.step hlt rfl
      have R2 : Hid (Roomy (wr.setCell ⟨b, o + j, none⟩ (.int .u8 (mkN L.length : Nat))) (⟨some ⟨b, o, none⟩, n, c⟩ : Sl)) := hrm.out.set _ rfl _
      have R3 : Hid (Keeps (fun x => (⟨some ⟨b, o, none⟩, n, c⟩ : Sl).blk = some x) w (wr.setCell ⟨b, o + j, none⟩ (.int .u8 (mkN L.length : Nat)))) := hk.out.setCell (a := ⟨b, o + j, none⟩) (.inr rfl) _
      go_wp2
      go_roundw
      case rel => exact ⟨j + 1, by omega, by go_num, R1, R2, R3⟩
      case measure => simp [intOf]; omega
    · have hm0 : Hid (Marked wr (⟨some ⟨b, o, none⟩, n, c⟩ : Sl) (.int .u8 (mkN L.length : Nat))) := by
        have e : j = n := by omega
        subst e; exact hmk.out.done
      clear hmk
      go_upto_region 9 with (first | (at_builtin; refine wpList_append_marks rfl (.tmp 25) (.tmp 27) rfl (⟨some ⟨b, o, none⟩, n, c⟩ : Sl) rfl ⟨(wr).heap.size, 0, none⟩ 1 1 rfl info5 (mkN L.length : Nat) (hrm.out.keeps (keepsNo _ _) (fun _ _ x => x)) (hm0.out.keeps (keepsNo _ _) (fun _ _ x => x)) (by decide) (cells1 _ _ _) (by show n + 1 ≤ _; omega) ?_; intro t1 w1 n1 q1; have p1 : Hid (Pushed (⟨some ⟨b, o, none⟩, n, c⟩ : Sl) t1 (.int .u8 (mkN L.length : Nat)) (wr) w1) := q1.out.of_alloc; clear q1) | (at_builtin; refine wpList_append_marks rfl (.tmp 29) (.tmp 32) rfl (⟨some ⟨b, o, none⟩, n, c⟩ : Sl) rfl ⟨(w1).heap.size, 0, none⟩ 2 2 rfl info5 (mkN L.length : Nat) (p1.out.room.keeps (keepsNo _ _) (fun _ _ x => x)) ((p1.out.all _ hm0.out).keeps (keepsNo _ _) (fun _ _ x => x)) (by decide) (cells2 _ _ _) (by show n + 2 ≤ _; omega) ?_; intro t2 w2 n2 q2; have p2 : Hid (Pushed (⟨some ⟨b, o, none⟩, n, c⟩ : Sl) t2 (.int .u8 (mkN L.length : Nat)) (w1) w2) := q2.out.of_alloc; clear q2) | (at_builtin; refine wpList_append_marks rfl (.tmp 34) (.tmp 38) rfl (⟨some ⟨b, o, none⟩, n, c⟩ : Sl) rfl ⟨(w2).heap.size, 0, none⟩ 3 3 rfl info5 (mkN L.length : Nat) (p2.out.room.keeps (keepsNo _ _) (fun _ _ x => x)) ((p2.out.all _ (p1.out.all _ hm0.out)).keeps (keepsNo _ _) (fun _ _ x => x)) (by decide) (cells3 _ _ _) (by show n + 3 ≤ _; omega) ?_; intro t3 w3 n3 q3; have p3 : Hid (Pushed (⟨some ⟨b, o, none⟩, n, c⟩ : Sl) t3 (.int .u8 (mkN L.length : Nat)) (w2) w3) := q3.out.of_alloc; clear q3; have K3 : Hid (Keeps (fun x => (⟨some ⟨b, o, none⟩, n, c⟩ : Sl).blk = some x) w w3) := ((hk.out.trans p1.out.keeps).trans p2.out.keeps).trans p3.out.keeps; have S0 : Hid (PSt B bw F w3 (upd F (.slice A L.length cp)) L.length (L.map Sl.val) w3) := pst_start H.out K3.out HFAR.out HF4.out; have hh0 := S0.out.head; rw [upd4] at hh0) | (at_builtin; refine wpList_push rfl (.tmp 44) (.tmp 46) rfl S0 (.slice A L.length cp) rfl rfl (.slice (some ⟨b, o, none⟩) n c) _ rfl (by simp) rfl hL4 ?_; intro g4 cap4 v4 hb4 hf4 p4; have hh4 := p4.out.head; rw [upd4] at hh4))
      generalize v4.setCell ⟨bw, 4, none⟩ (.slice (some ⟨g4, 0, none⟩) (L.length + 1) cap4) = W4 at p4 hh4 ⊢
      clear hb4 hf4
      go_upto_region 10 with ((at_builtin; refine wpList_push rfl (.tmp 54) (.tmp 56) rfl p4 (.slice (some ⟨g4, 0, none⟩) (L.length + 1) cap4) rfl rfl (.slice t1.ad t1.n t1.c) _ rfl (by simp) rfl hL5 ?_; intro g5 cap5 v5 hb5 hf5 p5; have hh5 := p5.out.head; rw [upd4] at hh5))
      generalize v5.setCell ⟨bw, 4, none⟩ (.slice (some ⟨g5, 0, none⟩) (L.length + 1 + 1) cap5) = W5 at p5 hh5 ⊢
      clear hb5 hf5
      go_upto_region 11 with ((at_builtin; refine wpList_push rfl (.tmp 64) (.tmp 66) rfl p5 (.slice (some ⟨g5, 0, none⟩) (L.length + 1 + 1) cap5) rfl rfl (.slice t2.ad t2.n t2.c) _ rfl (by simp) rfl hL6 ?_; intro g6 cap6 v6 hb6 hf6 p6; have hh6 := p6.out.head; rw [upd4] at hh6))
      generalize v6.setCell ⟨bw, 4, none⟩ (.slice (some ⟨g6, 0, none⟩) (L.length + 1 + 1 + 1) cap6) = W6 at p6 hh6 ⊢
      clear hb6 hf6
      go_wp2_with ((at_builtin; refine wpList_push rfl (.tmp 74) (.tmp 76) rfl p6 (.slice (some ⟨g6, 0, none⟩) (L.length + 1 + 1 + 1) cap6) rfl rfl (.slice t3.ad t3.n t3.c) _ rfl (by simp) rfl hL7 ?_; intro g7 cap7 v7 hb7 hf7 p7; have hh7 := p7.out.head; rw [upd4] at hh7))
      go_end0
      refine ⟨rfl, ?_⟩
      unfold KeptPost
      have FIN := H.out.grow H4.out HFAR.out K3.out (p3.out.all _ (p2.out.all _ (p1.out.all _ hm0.out))) (p3.out.all _ (p2.out.all _ p1.out.marked)) (p3.out.all _ p2.out.marked) p3.out.marked (by have := n1.out; omega) (by have := n2.out; omega) (by have := n3.out; omega)
        (blk_back p1.out.blk hk.out.size) (blk_back p2.out.blk (Nat.le_trans hk.out.size p1.out.keeps.size)) (blk_back p3.out.blk (Nat.le_trans (Nat.le_trans hk.out.size p1.out.keeps.size) p2.out.keeps.size)) p7.out
      exact ⟨_, t1, t2, t3, FIN.1, p7.out.same, FIN.2, n1.out, n2.out, n3.out⟩

set_option maxRecDepth 20000 in
set_option maxHeartbeats 400000 in
theorem keeps_nil (B bw : Nat) (F : Nat → Value) (L : List Sl) (w : World) (h : BookOk B bw F L w) (h4 : L.length % 4 = 0) (hL : (L.length + 4) * 24 ≤ 140737488355328) :
    Calls Tryz.prog 60 #[.pointer (some ⟨bw, 4, none⟩), .slice none 0 0] w fun e w' => e = .returned (.tuple #[]) ∧ KeptPost B bw F L (⟨none, 0, 0⟩ : Sl) w w' := by
  obtain ⟨A, cp, hF4⟩ := h.brow.form
  have hc0 : w.cell? ⟨bw, 4, none⟩ = some (.slice A L.length cp) := by rw [← hF4]; exact h.brow.row.cell (by decide)
  have HF4 : Hid (F 4 = .slice A L.length cp) := hF4
  have H : Hid (BookOk B bw F L w) := h
  have H4 : Hid (L.length % 4 = 0) := h4
  have hL4 : (L.length + 1) * 24 ≤ 140737488355328 := Nat.le_trans (Nat.mul_le_mul_right 24 (show L.length + 1 ≤ L.length + 4 by omega)) hL
  have hL5 : (L.length + 1 + 1) * 24 ≤ 140737488355328 := Nat.le_trans (Nat.mul_le_mul_right 24 (show L.length + 1 + 1 ≤ L.length + 4 by omega)) hL
  have hL6 : (L.length + 1 + 1 + 1) * 24 ≤ 140737488355328 := Nat.le_trans (Nat.mul_le_mul_right 24 (show L.length + 1 + 1 + 1 ≤ L.length + 4 by omega)) hL
  have hL7 : (L.length + 1 + 1 + 1 + 1) * 24 ≤ 140737488355328 := Nat.le_trans (Nat.mul_le_mul_right 24 (show L.length + 1 + 1 + 1 + 1 ≤ L.length + 4 by omega)) hL
  have HR : Hid (Roomy w (⟨none, 0, 0⟩ : Sl)) := .inl ⟨rfl, rfl, rfl⟩
  have HFAR : Hid (∀ x, (⟨none, 0, 0⟩ : Sl).blk = some x → B ≤ x ∧ x < w.heap.size ∧ ¬ BookB bw F L x) := fun x e => by simp [Sl.blk] at e
  clear hF4 h h4
  go_enter Tryz.func60, Tryz.ntmps60
  go_wp2_with (go_at_call 44; refine (mark_any _ _ (by omega)).mono ?_; rintro e w1 ⟨rfl, hw1⟩; obtain rfl := hw1.symm)
  go_loopw [5] (fun i wr => ∃ j : Nat, j ≤ 0 ∧ i = .int .i64 j ∧ Hid (MarkedUpto wr (⟨none, 0, 0⟩ : Sl) (.int .u8 (mkN L.length : Nat)) j) ∧ Hid (Roomy wr (⟨none, 0, 0⟩ : Sl)) ∧ Hid (Keeps (fun x => (⟨none, 0, 0⟩ : Sl).blk = some x) w wr)) (fun i _ => 0 - (intOf i).toNat)
  case atStart => exact ⟨0, by omega, rfl, MarkedUpto.start HR.out.sized, HR, Keeps.refl _ _⟩
  case round =>
    clear HR hc0
    obtain ⟨j, hj, rfl, hmk, hrm, hk⟩ := hrel
    by_cases hlt : j < 0
    · omega
    · have hm0 : Hid (Marked wr (⟨none, 0, 0⟩ : Sl) (.int .u8 (mkN L.length : Nat))) := by
        have e : j = 0 := by omega
        subst e; exact hmk.out.done
      clear hmk
      go_upto_region 9 with (first | (at_builtin; refine wpList_append_marks rfl (.tmp 25) (.tmp 27) rfl (⟨none, 0, 0⟩ : Sl) rfl ⟨(wr).heap.size, 0, none⟩ 1 1 rfl info5 (mkN L.length : Nat) (hrm.out.keeps (keepsNo _ _) (fun _ _ x => x)) (hm0.out.keeps (keepsNo _ _) (fun _ _ x => x)) (by decide) (cells1 _ _ _) (by show 0 + 1 ≤ _; omega) ?_; intro t1 w1 n1 q1; have p1 : Hid (Pushed (⟨none, 0, 0⟩ : Sl) t1 (.int .u8 (mkN L.length : Nat)) (wr) w1) := q1.out.of_alloc; clear q1) | (at_builtin; refine wpList_append_marks rfl (.tmp 29) (.tmp 32) rfl (⟨none, 0, 0⟩ : Sl) rfl ⟨(w1).heap.size, 0, none⟩ 2 2 rfl info5 (mkN L.length : Nat) (p1.out.room.keeps (keepsNo _ _) (fun _ _ x => x)) ((p1.out.all _ hm0.out).keeps (keepsNo _ _) (fun _ _ x => x)) (by decide) (cells2 _ _ _) (by show 0 + 2 ≤ _; omega) ?_; intro t2 w2 n2 q2; have p2 : Hid (Pushed (⟨none, 0, 0⟩ : Sl) t2 (.int .u8 (mkN L.length : Nat)) (w1) w2) := q2.out.of_alloc; clear q2) | (at_builtin; refine wpList_append_marks rfl (.tmp 34) (.tmp 38) rfl (⟨none, 0, 0⟩ : Sl) rfl ⟨(w2).heap.size, 0, none⟩ 3 3 rfl info5 (mkN L.length : Nat) (p2.out.room.keeps (keepsNo _ _) (fun _ _ x => x)) ((p2.out.all _ (p1.out.all _ hm0.out)).keeps (keepsNo _ _) (fun _ _ x => x)) (by decide) (cells3 _ _ _) (by show 0 + 3 ≤ _; omega) ?_; intro t3 w3 n3 q3; have p3 : Hid (Pushed (⟨none, 0, 0⟩ : Sl) t3 (.int .u8 (mkN L.length : Nat)) (w2) w3) := q3.out.of_alloc; clear q3; have K3 : Hid (Keeps (fun x => (⟨none, 0, 0⟩ : Sl).blk = some x) w w3) := ((hk.out.trans p1.out.keeps).trans p2.out.keeps).trans p3.out.keeps; have S0 : Hid (PSt B bw F w3 (upd F (.slice A L.length cp)) L.length (L.map Sl.val) w3) := pst_start H.out K3.out HFAR.out HF4.out; have hh0 := S0.out.head; rw [upd4] at hh0) | (at_builtin; refine wpList_push rfl (.tmp 44) (.tmp 46) rfl S0 (.slice A L.length cp) rfl rfl (.slice none 0 0) _ rfl (by simp) rfl hL4 ?_; intro g4 cap4 v4 hb4 hf4 p4; have hh4 := p4.out.head; rw [upd4] at hh4))
      generalize v4.setCell ⟨bw, 4, none⟩ (.slice (some ⟨g4, 0, none⟩) (L.length + 1) cap4) = W4 at p4 hh4 ⊢
      clear hb4 hf4
      go_upto_region 10 with ((at_builtin; refine wpList_push rfl (.tmp 54) (.tmp 56) rfl p4 (.slice (some ⟨g4, 0, none⟩) (L.length + 1) cap4) rfl rfl (.slice t1.ad t1.n t1.c) _ rfl (by simp) rfl hL5 ?_; intro g5 cap5 v5 hb5 hf5 p5; have hh5 := p5.out.head; rw [upd4] at hh5))
      generalize v5.setCell ⟨bw, 4, none⟩ (.slice (some ⟨g5, 0, none⟩) (L.length + 1 + 1) cap5) = W5 at p5 hh5 ⊢
      clear hb5 hf5
      go_upto_region 11 with ((at_builtin; refine wpList_push rfl (.tmp 64) (.tmp 66) rfl p5 (.slice (some ⟨g5, 0, none⟩) (L.length + 1 + 1) cap5) rfl rfl (.slice t2.ad t2.n t2.c) _ rfl (by simp) rfl hL6 ?_; intro g6 cap6 v6 hb6 hf6 p6; have hh6 := p6.out.head; rw [upd4] at hh6))
      generalize v6.setCell ⟨bw, 4, none⟩ (.slice (some ⟨g6, 0, none⟩) (L.length + 1 + 1 + 1) cap6) = W6 at p6 hh6 ⊢
      clear hb6 hf6
      go_wp2_with ((at_builtin; refine wpList_push rfl (.tmp 74) (.tmp 76) rfl p6 (.slice (some ⟨g6, 0, none⟩) (L.length + 1 + 1 + 1) cap6) rfl rfl (.slice t3.ad t3.n t3.c) _ rfl (by simp) rfl hL7 ?_; intro g7 cap7 v7 hb7 hf7 p7; have hh7 := p7.out.head; rw [upd4] at hh7))
      go_end0
      refine ⟨rfl, ?_⟩
      unfold KeptPost
      have FIN := H.out.grow H4.out HFAR.out K3.out (p3.out.all _ (p2.out.all _ (p1.out.all _ hm0.out))) (p3.out.all _ (p2.out.all _ p1.out.marked)) (p3.out.all _ p2.out.marked) p3.out.marked (by have := n1.out; omega) (by have := n2.out; omega) (by have := n3.out; omega)
        (blk_back p1.out.blk hk.out.size) (blk_back p2.out.blk (Nat.le_trans hk.out.size p1.out.keeps.size)) (blk_back p3.out.blk (Nat.le_trans (Nat.le_trans hk.out.size p1.out.keeps.size) p2.out.keeps.size)) p7.out
      exact ⟨_, t1, t2, t3, FIN.1, p7.out.same, FIN.2, n1.out, n2.out, n3.out⟩
end Go.Proofs.YtgchiamkeeljkaaGreatDoor
