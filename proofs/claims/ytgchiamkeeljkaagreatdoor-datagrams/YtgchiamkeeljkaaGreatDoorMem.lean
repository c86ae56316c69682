/-
  Memory, of no program: which old blocks a call leaves alone ('Keeps'); rows of bytes; a text copied into a row.
-/
import Derived.WalkKit
import Derived.WalkSpells
import Derived.WalkLawsBesides
import Derived.Lib.BufferWrite
import Derived.Deep.OwnRows
namespace Go.Proofs.YtgchiamkeeljkaaGreatDoor
open Go Go.RowKit

/-- Every block that was there, but for those of S, is as it was. -/
structure Keeps (S : Nat → Prop) (w w' : World) : Prop where
  os : w'.os = w.os
  tape : w'.tape = w.tape
  output : w'.output = w.output
  size : w.heap.size ≤ w'.heap.size
  block : ∀ k, k < w.heap.size → ¬ S k → w'.heap[k]? = w.heap[k]?

namespace Keeps
variable {S S' : Nat → Prop} {w w1 w2 : World}
theorem refl (S : Nat → Prop) (w : World) : Keeps S w w := ⟨rfl, rfl, rfl, Nat.le_refl _, fun _ _ _ => rfl⟩
theorem trans' (h : Keeps S w w1) (k : Keeps S' w1 w2) (hs : ∀ b, b < w.heap.size → S' b → S b) : Keeps S w w2 :=
  ⟨k.os.trans h.os, k.tape.trans h.tape, k.output.trans h.output, Nat.le_trans h.size k.size,
    fun b hb hn => (k.block b (Nat.lt_of_lt_of_le hb h.size) (fun x => hn (hs b hb x))).trans (h.block b hb hn)⟩
theorem trans (h : Keeps S w w1) (k : Keeps S w1 w2) : Keeps S w w2 := h.trans' k fun _ _ x => x
theorem mono (h : Keeps S w w1) (hs : ∀ b, b < w.heap.size → S b → S' b) : Keeps S' w w1 :=
  ⟨h.os, h.tape, h.output, h.size, fun b hb hn => h.block b hb (fun x => hn (hs b hb x))⟩
theorem drew (h : Keeps S w w1) : Keeps S w w1.drew := ⟨h.os, h.tape, h.output, h.size, h.block⟩
theorem alloc (h : Keeps S w w1) (o : Obj) : Keeps S w (w1.alloc o) :=
  h.trans ⟨rfl, rfl, rfl, by simp, fun b hb _ => Below.heap_alloc _ _ _ hb⟩
theorem setCell (h : Keeps S w w1) {a : Addr} (ha : w.heap.size ≤ a.block ∨ S a.block) (v : Value) : Keeps S w (w1.setCell a v) :=
  ⟨h.os, h.tape, h.output, by simp [World.setCell]; exact h.size, fun b hb hn => by
    rw [Below.heap_setCell _ _ _ _ (fun e => by subst e; rcases ha with ha | ha; omega; exact hn ha)]
    exact h.block b hb hn⟩
theorem grown {row : Option Nat} (h : Keeps S w w1) (hg : w1.grownBy w2 row) (hr : ∀ k, row = some k → w.heap.size ≤ k ∨ S k) : Keeps S w w2 :=
  ⟨hg.os.trans h.os, hg.tape.trans h.tape, hg.output.trans h.output, Nat.le_trans h.size hg.size,
    fun b hb hn => (hg.block b (Nat.lt_of_lt_of_le hb h.size) (fun e => by rcases hr b e.symm with x | x; omega; exact hn x)).trans (h.block b hb hn)⟩
theorem cell (h : Keeps S w w1) {a : Addr} (hb : a.block < w.heap.size) (hn : ¬ S a.block) : w1.cell? a = w.cell? a := World.cell?_of_block (h.block _ hb hn)
theorem frozen (h : Keeps S w w1) {a : Addr} (hb : a.block < w.heap.size) (hn : ¬ S a.block) : w1.frozen? a = w.frozen? a := World.frozen?_of_block (h.block _ hb hn)
theorem rowIs {b : Nat} {t : TypeId} {n : Nat} {f : Nat → Value} (h : Keeps S w w1) (hr : w.rowIs b t n f) (hn : ¬ S b) : w1.rowIs b t n f := hr.of_block (h.block b hr.lt hn)
theorem below (h : Keeps S w w1) {B : Nat} (hB : B ≤ w.heap.size) (hn : ∀ b, b < B → ¬ S b) : Below B w w1 :=
  ⟨h.os, h.tape, h.output, h.size, fun b hb => h.block b (Nat.lt_of_lt_of_le hb hB) (hn b hb)⟩
theorem of_below {B : Nat} (h : Below B w w1) (hB : w.heap.size ≤ B) : Keeps S w w1 := ⟨h.os, h.tape, h.output, h.size, fun b hb _ => h.block b (by omega)⟩
theorem setRow (h : Keeps S w w1) {g : Nat} (hg : w.heap.size ≤ g ∨ S g) (cs : Array Value) : Keeps S w (w1.setRow g cs) :=
  ⟨h.os, h.tape, h.output, by simp [World.setRow]; exact h.size, fun b hb hn => by
    rw [setRow_other _ _ _ _ (fun e => by subst e; rcases hg with x | x; omega; exact hn x)]
    exact h.block b hb hn⟩
theorem drewN (h : Keeps S w w1) (n : Nat) : Keeps S w (w1.drewN n) := by
  induction n with
  | zero => exact h
  | succ n ih => exact ih.drew
end Keeps

/-- No block at all. -/
def NoB : Nat → Prop := fun _ => False
def OnlyB (b : Nat) : Nat → Prop := fun k => k = b

/-- The n-th byte of a text, as a cell. -/
def byteAt (s : ByteArray) (i : Nat) : Value := .int .u8 (((s.data.toList.getD i 0).toNat : Nat) : Int)
theorem byteCells_at (s : ByteArray) (i : Nat) (h : i < s.size) : (Lib.byteCells s.data.toList)[i]? = some (byteAt s i) := by
  have h' : i < s.data.toList.length := by rw [← Lib.size_eq]; exact h
  simp only [Lib.byteCells, byteAt, List.getElem?_map, List.getD_eq_getElem?_getD, List.getElem?_eq_getElem h', Option.map_some, Option.getD_some]

/-- The same, as what the builtin's run gives. -/
theorem run_copy_text {P : Program} (w : World) (dT sT ty elem : TypeId) (hu : P.underlying dT = some (.slice elem)) (hsz : (P.info? elem).map (·.size) = some 1)
    (g n dLen dCap : Nat) (txt : ByteArray) (t : TypeId) (f : Nat → Value) (hrow : w.rowIs g t n f) (hle : txt.size ≤ dLen) (hfit : txt.size ≤ n) :
    ∃ w', (Builtin.copy_ #[dT, sT] ty #[.slice (some ⟨g, 0, none⟩) dLen dCap, .string txt]).run P w = .ok (goInt txt.size) w' ∧
      w'.rowIs g t n (fun i => if i < txt.size then byteAt txt i else f i) ∧ Keeps (OnlyB g) w w' ∧ w'.heap.size = w.heap.size := by
  obtain ⟨cur, hb, hcs, hc⟩ := hrow
  refine ⟨_, Lib.run_copy_row_string (P := P) w dT sT ty elem g 0 dLen dCap txt cur t hu hsz hb hle (by omega), ?_, (Keeps.refl (OnlyB g) w).setRow (Or.inr (show OnlyB g g from rfl)) _, by simp⟩
  have hbl : (Lib.byteCells txt.data.toList).length = txt.size := by rw [Lib.byteCells_length, ← Lib.size_eq]
  refine ⟨_, setRow_heap w g _ _ t _ hb, ?_, fun i hi => ?_⟩
  · simp [hbl]; omega
  · simp only [List.take_zero, List.nil_append, List.getElem?_toArray, Nat.zero_add]
    by_cases hlt : i < txt.size
    · rw [if_pos hlt, List.getElem?_append_left (by omega), byteCells_at _ _ hlt]
    · rw [if_neg hlt, List.getElem?_append_right (by omega), List.getElem?_drop, hbl, show txt.size + (i - txt.size) = i from by omega, ← hc i hi]
      simp
theorem strOfNums_bytes (s : ByteArray) : strOfNums (s.data.toList.map fun x => (x.toNat : Int)) = s := by
  have e : (s.data.toList.map fun x => (x.toNat : Int)).map (fun n => UInt8.ofNat n.toNat) = s.data.toList := by
    rw [List.map_map]
    conv => rhs; rw [← List.map_id s.data.toList]
    refine List.map_congr_left fun x _ => ?_
    simp
  unfold strOfNums
  rw [e]
/-- 'string(l)', l's cells being a text's bytes. -/
theorem run_convert_text {P : Program} (w : World) (src e dst : TypeId) (hs : P.underlying src = some (.slice e)) (he : P.underlying e = some (.int .u8)) (hd : P.underlying dst = some .string)
    (b off len cap : Nat) (s : ByteArray) (hlen : s.size = len) (hcell : ∀ i, i < len → w.cell? ⟨b, off + i, none⟩ = some (byteAt s i)) :
    (convert src dst (.slice (some ⟨b, off, none⟩) len cap)).run P w = .ok (.string s) w := by
  have h := run_convert_bytes_arg (P := P) w src e hs he b off len cap (s.data.toList.map fun x => (x.toNat : Int)) (by rw [List.length_map, ← Lib.size_eq]; exact hlen) (fun i hi => by
    rw [hcell i hi]
    have h' : i < s.data.toList.length := by rw [← Lib.size_eq]; omega
    simp only [byteAt, List.getD_eq_getElem?_getD, List.getElem?_map, List.getElem?_eq_getElem h', Option.map_some, Option.getD_some]) dst hd
  rw [strOfNums_bytes] at h
  exact h
theorem bytes_eq_empty (s : ByteArray) (h : s.size = 0) : s = ByteArray.empty := by
  have : s.data.toList.length = 0 := by rw [← Lib.size_eq]; exact h
  have h' : s.data = #[] := Array.toList_inj.1 (List.eq_nil_of_length_eq_zero this)
  cases s
  simp at h'
  subst h'
  rfl
/-- 'string(l)', l a row of the call's own. -/
theorem run_convert_owned {P : Program} (w : World) (src e dst : TypeId) (hs : P.underlying src = some (.slice e)) (he : P.underlying e = some (.int .u8)) (hd : P.underlying dst = some .string)
    {base : Nat} {v : Value} {n : Nat} {xs : List Value} (hown : w.ownsRow base e 1 v n xs) (s : ByteArray) (hn : s.size = n) (hx : ∀ i, i < n → xs[i]? = some (byteAt s i)) :
    (convert src dst v).run P w = .ok (.string s) w := by
  have hown' := hown
  rcases hown.2 with ⟨rfl, rfl⟩ | ⟨g, cap, cur, rfl, _⟩
  · rw [run_convert_bytes_nil (P := P) w src e hs he 0 0 dst hd, bytes_eq_empty s hn]
  · exact run_convert_text w src e dst hs he hd g 0 n cap s hn fun i hi => by
      rw [Nat.zero_add, hown'.cellAt i (by omega), hx i hi]
end Go.Proofs.YtgchiamkeeljkaaGreatDoor
