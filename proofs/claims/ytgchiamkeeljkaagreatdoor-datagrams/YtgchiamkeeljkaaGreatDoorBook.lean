/-
  weavelaw.Book: mark, keeps, looks, apart.
-/
import Derived.Test.YtgchiamkeeljkaaGreatDoorBk
import Derived.Test.YtgchiamkeeljkaaGreatDoorLent
import Derived.Deep.RegionHeld3
namespace Go.Proofs.YtgchiamkeeljkaaGreatDoor
open Go Go.RowKit

theorem info72 : (Tryz.prog.info? 54).map (fun i => (i.zero, i.size, i.bytes)) = some (some (.slice none 0 0), 1, 24) := by kernel_rfl

/-- The book's header, and its row of lists. -/
structure BRow (B bw : Nat) (F : Nat → Value) (n : Nat) (xs : List Value) (w : World) : Prop where
  row : w.rowIs bw 75 7 F
  own : w.ownsRow B 54 1 (F 4) n xs
  ne : (F 4).ownBlock ≠ some bw
  lt : bw < B
  le : B ≤ w.heap.size

def upd (F : Nat → Value) (v : Value) : Nat → Value := fun j => if j = 4 then v else F j
theorem upd4 (F : Nat → Value) (v : Value) : upd F v 4 = v := rfl
theorem upd_ne (F : Nat → Value) (v : Value) (j : Nat) (h : j ≠ 4) : upd F v j = F j := by unfold upd; rw [if_neg h]

theorem BRow.form {B bw : Nat} {F : Nat → Value} {n : Nat} {xs : List Value} {w : World} (h : BRow B bw F n xs w) : ∃ A c, F 4 = .slice A n c := by
  rcases h.own.2 with ⟨h1, h2⟩ | ⟨g, cap, cur, h1, _⟩
  · exact ⟨none, 0, by rw [h1, h2]⟩
  · exact ⟨_, cap, h1⟩
theorem BRow.keeps {S : Nat → Prop} {B bw : Nat} {F : Nat → Value} {n : Nat} {xs : List Value} {w w' : World} (h : BRow B bw F n xs w) (k : Keeps S w w') (h1 : ¬ S bw) (h2 : ∀ b, (F 4).ownBlock = some b → ¬ S b) : BRow B bw F n xs w' := by
  refine ⟨k.rowIs h.row h1, ?_, h.ne, h.lt, Nat.le_trans h.le k.size⟩
  obtain ⟨hl, h' | ⟨g, cap, cur, hv, hb, hg, hr⟩⟩ := h.own
  · exact ⟨hl, .inl h'⟩
  · refine ⟨hl, .inr ⟨g, cap, cur, hv, hb, ?_, hr⟩⟩
    rw [k.block g ?_ (h2 g (by rw [hv]; rfl)), hg]
    rcases Nat.lt_or_ge g w.heap.size with x | x
    · exact x
    · rw [Array.getElem?_eq_none x] at hg; cases hg
/-- One list more. -/
theorem BRow.push {B bw : Nat} {F : Nat → Value} {n : Nat} {xs : List Value} {w w1 : World} (h : BRow B bw F n xs w) {o : Obj} {v : Value} {x : Value} {g cap : Nat} (hv : v = .slice (some ⟨g, 0, none⟩) (n + 1) cap)
    (ho : w1.ownsRow B 54 1 v (n + 1) (xs ++ [x])) (hg : (w.alloc o).grownBy w1 (F 4).ownBlock) (hat : (F 4).ownBlock = some g ∨ g = w.heap.size + 1) :
    BRow B bw (upd F v) (n + 1) (xs ++ [x]) (w1.setCell ⟨bw, 4, none⟩ v) ∧ Keeps (fun b => b = bw ∨ (F 4).ownBlock = some b) w (w1.setCell ⟨bw, 4, none⟩ v) ∧ (v.ownBlock = (F 4).ownBlock ∨ v.ownBlock = some (w.heap.size + 1)) := by
  have hbs : bw < w.heap.size := Nat.lt_of_lt_of_le h.lt h.le
  have K1 : Keeps (fun b => b = bw ∨ (F 4).ownBlock = some b) w w1 := ((Keeps.refl _ w).alloc o).grown hg (fun k e => .inr (.inr e))
  have hgb : g ≠ bw := by
    rcases hat with e | e
    · intro e'; rw [e'] at e; exact h.ne e
    · omega
  have hv' : v.ownBlock = some g := by rw [hv]; rfl
  have hr1 : w1.rowIs bw 75 7 F := by
    have hra := h.row.alloc o
    exact hra.of_block (hg.block bw hra.lt (fun e => h.ne e.symm))
  refine ⟨⟨(hr1.set 4 v).congr fun i _ => ?_, ?_, ?_, h.lt, ?_⟩, K1.setCell (.inr (.inl rfl)) _, ?_⟩
  · unfold upd; rfl
  · rw [upd4]
    exact ho.kept (Lib.grownBy_setCell w1 bw 4 v) (.inr (by rw [hv']; intro e; exact hgb (Option.some.inj e)))
  · rw [upd4, hv']; intro e; exact hgb (Option.some.inj e)
  · have := K1.size
    have := h.le
    simp [World.setCell]; omega
  · rcases hat with e | e
    · left; rw [hv', e]
    · right; rw [hv', e]

theorem Pushed.of_alloc {l s : Sl} {v : Value} {w w' : World} {o : Obj} (h : Pushed l s v (w.alloc o) w') : Pushed l s v w w' :=
  have k0 : Keeps NoB w (w.alloc o) := (Keeps.refl _ w).alloc o
  ⟨h.marked, fun t ht => h.all t (ht.keeps k0 (fun _ _ x => x)), h.room, ((Keeps.refl _ w).alloc o).trans h.keeps, by
    rcases h.blk with e | ⟨g, h1, h2⟩
    · exact .inl e
    · exact .inr ⟨g, by simp at h1; omega, h2⟩⟩

theorem ret_u8 {k : IntKind} {a b : Int} (h : a = b) : Ending.returned (.int k a) = .returned (.int k b) := by rw [h]
set_option maxRecDepth 20000 in
theorem mark_any (i : Nat) (w : World) (hi : i ≤ 140737488355328) : Calls Tryz.prog 44 #[.int .i64 i] w fun e w' => e = .returned (.int .u8 (mkN i : Nat)) ∧ w' = w := by
  have e : (200 + (i : Int) / 4 % 50) = ((mkN i : Nat) : Int) := by unfold mkN; omega
  have HE : Hid ((200 + (i : Int) / 4 % 50) = ((mkN i : Nat) : Int)) := e
  clear e
  go_enter Tryz.func44, Tryz.ntmps44
  go_wp2
  go_ret
  exact ⟨ret_u8 HE.out, rfl⟩
end Go.Proofs.YtgchiamkeeljkaaGreatDoor
