/-
  weavelaw.World.field: Mul and Inv.
-/
import Derived.Test.YtgchiamkeeljkaaGreatDoorAdd
import Derived.Test.YtgchiamkeeljkaaGreatDoorKeepw
import Derived.Test.YtgchiamkeeljkaaGreatDoorApart
namespace Go.Proofs.YtgchiamkeeljkaaGreatDoor
open Go Go.RowKit Go.Proofs.YtgchiamkeeljkaaGreatDoor.M

/-- The state between steps: the tables, the book. -/
structure St (B bw : Nat) (F : Nat → Value) (L : List Sl) (w : World) : Prop where
  book : BookOk B bw F L w
  tabs : Tabs w
  four : L.length % 4 = 0
  small : ∀ s ∈ L, s.n ≤ 140737488355328
  base : 3 < bw

/-- What a step leaves: at most four lists more. -/
def StepPost (B bw : Nat) (F : Nat → Value) (L : List Sl) (w w' : World) : Prop := ∃ G M, St B bw G M w' ∧ M.length ≤ L.length + 4 ∧ (∀ j, j ≠ 4 → G j = F j) ∧ Keeps (fun x => x = bw ∨ B ≤ x) w w'

theorem St.keeps {S : Nat → Prop} {B bw : Nat} {F : Nat → Value} {L : List Sl} {w w' : World} (h : St B bw F L w) (k : Keeps S w w') (hS : ∀ b, b < w.heap.size → S b → B ≤ b ∧ ¬ BookB bw F L b) : St B bw F L w' := by
  have h0 : bw < w.heap.size := Nat.lt_of_lt_of_le h.book.brow.lt h.book.brow.le
  have hno : ∀ b, b ≤ 3 → ¬ S b := fun b hb x => by
    have := hS b (by have := h.base; omega) x
    have := h.book.brow.lt
    have := h.base
    omega
  exact ⟨h.book.keeps k (fun b hb x => (hS b hb x).2), h.tabs.keeps k (hno 0 (by omega)) (hno 1 (by omega)) (hno 3 (by omega)), h.four, h.small, h.base⟩
theorem St.same {B bw : Nat} {F : Nat → Value} {L : List Sl} {w w' : World} (h : St B bw F L w) (k : Keeps NoB w w') : StepPost B bw F L w w' :=
  ⟨F, L, h.keeps k (fun _ _ x => x.elim), by omega, fun _ _ => rfl, k.mono (fun _ _ x => x.elim)⟩

/-- A step's cells. -/
def opV (k a b c d : Int) (s t : ByteArray) (l h : Value) : Array Value := #[.int .i64 k, .int .i64 a, .int .i64 b, .int .i64 c, .int .i64 d, .string s, .string t, l, h]

set_option maxRecDepth 20000 in
set_option maxHeartbeats 400000 in
theorem field_mul (B bw : Nat) (F : Nat → Value) (L : List Sl) (w : World) (h : St B bw F L w) (a b c d : Int) (s t : ByteArray) (la lb : Option Addr) (ln lc hn hc : Nat) :
    Calls Tryz.prog 35 #[.pointer (some ⟨bw, 0, none⟩), .agg #[.int .i64 1, .int .i64 a, .int .i64 b, .int .i64 c, .int .i64 d, .string s, .string t, .slice la ln lc, .slice lb hn hc]] w fun e w' => e = .returned (.bool true) ∧ StepPost B bw F L w w' := by
  have HS : Hid (St B bw F L w) := h
  have hT : Tabs (w.alloc (.cells #[.int .i64 1, .int .i64 a, .int .i64 b, .int .i64 c, .int .i64 d, .string s, .string t, .slice la ln lc, .slice lb hn hc] 28)) := h.tabs.keeps (keepsNo _ _) (fun x => x) (fun x => x) (fun x => x)
  clear h
  by_cases hab : (0 ≤ a ∧ a ≤ 255) ∧ (0 ≤ b ∧ b ≤ 255)
  · obtain ⟨⟨h1, h2⟩, h3, h4⟩ := hab
    go_enter Tryz.func35, Tryz.ntmps35
    go_wp2_with (first | (go_at_call 52; refine (mul_yes _ _ _ hT h1 h2 h3 h4).mono ?_; rintro e w1 ⟨rfl, hw1⟩; subst hw1) | (go_at_call 53; refine (refMul_yes _ _ _ h1 h2 h3 h4).mono ?_; rintro e w1 ⟨rfl, hw1⟩; subst hw1))
    go_ret
    exact ⟨rfl, HS.out.same (keepsNo _ _)⟩
  · have hno : Hid (numB a = false ∨ numB b = false) := by
      by_cases ha : 0 ≤ a ∧ a ≤ 255
      · exact .inr (num_no b (fun hb => hab ⟨ha, hb⟩))
      · exact .inl (num_no a ha)
    clear hab hT
    go_enter Tryz.func35, Tryz.ntmps35
    go_wp2_with (first | (go_at_call 52; refine (mul_no _ _ _ hno.out).mono ?_; rintro e w1 ⟨rfl, hw1⟩; subst hw1) | (go_at_call 53; refine (refMul_no _ _ _ hno.out).mono ?_; rintro e w1 ⟨rfl, hw1⟩; subst hw1))
    go_ret
    exact ⟨rfl, HS.out.same (keepsNo _ _)⟩
set_option maxRecDepth 20000 in
set_option maxHeartbeats 400000 in
theorem field_inv (B bw : Nat) (F : Nat → Value) (L : List Sl) (w : World) (h : St B bw F L w) (a b c d : Int) (s t : ByteArray) (la lb : Option Addr) (ln lc hn hc : Nat) :
    Calls Tryz.prog 35 #[.pointer (some ⟨bw, 0, none⟩), .agg #[.int .i64 2, .int .i64 a, .int .i64 b, .int .i64 c, .int .i64 d, .string s, .string t, .slice la ln lc, .slice lb hn hc]] w fun e w' => e = .returned (.bool true) ∧ StepPost B bw F L w w' := by
  have HS : Hid (St B bw F L w) := h
  have hT : Tabs (w.alloc (.cells #[.int .i64 2, .int .i64 a, .int .i64 b, .int .i64 c, .int .i64 d, .string s, .string t, .slice la ln lc, .slice lb hn hc] 28)) := h.tabs.keeps (keepsNo _ _) (fun x => x) (fun x => x) (fun x => x)
  clear h
  by_cases ha : 1 ≤ a ∧ a ≤ 255
  · obtain ⟨h1, h2⟩ := ha
    go_enter Tryz.func35, Tryz.ntmps35
    go_wp2_with (first | (go_at_call 54; refine (inv_yes _ _ hT h1 h2).mono ?_; rintro e w1 ⟨rfl, hw1⟩; subst hw1) | (go_at_call 55; refine (refInv_yes _ _ h1 h2).mono ?_; rintro e w1 ⟨rfl, hw1⟩; subst hw1))
    go_ret
    exact ⟨rfl, HS.out.same (keepsNo _ _)⟩
  · have hno : Hid (¬ (1 ≤ a ∧ a ≤ 255)) := ha
    clear ha hT
    go_enter Tryz.func35, Tryz.ntmps35
    go_wp2_with (first | (go_at_call 54; refine (inv_no _ _ hno.out).mono ?_; rintro e w1 ⟨rfl, hw1⟩; subst hw1) | (go_at_call 55; refine (refInv_no _ _ hno.out).mono ?_; rintro e w1 ⟨rfl, hw1⟩; subst hw1))
    go_ret
    exact ⟨rfl, HS.out.same (keepsNo _ _)⟩
end Go.Proofs.YtgchiamkeeljkaaGreatDoor
