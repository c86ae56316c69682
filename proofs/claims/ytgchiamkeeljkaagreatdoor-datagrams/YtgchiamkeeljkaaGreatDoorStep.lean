/-
  weavelaw.World.step at the field's kinds; weavelaw.among.
-/
import Derived.Test.YtgchiamkeeljkaaGreatDoorFadd
namespace Go.Proofs.YtgchiamkeeljkaaGreatDoor
open Go Go.RowKit

theorem StepPost.of_keeps {B bw : Nat} {F : Nat → Value} {L : List Sl} {w w0 w' : World} (k : Keeps NoB w w0) (h : StepPost B bw F L w0 w') : StepPost B bw F L w w' := by
  obtain ⟨G, M, h1, h2, h3, h4⟩ := h
  exact ⟨G, M, h1, h2, h3, (k.mono (S' := fun x => x = bw ∨ B ≤ x) (fun _ _ x => x.elim)).trans h4⟩

def kindB (k : Int) : Bool := decide (k = 1 ∨ k = 2 ∨ k = 3)
set_option maxRecDepth 20000 in
set_option maxHeartbeats 1000000 in
theorem among_any (k : Int) (bp c : Nat) (w : World) (h0 : w.cell? ⟨bp, 0, none⟩ = some (.int .i64 1)) (h1 : w.cell? ⟨bp, 1, none⟩ = some (.int .i64 2)) (h2 : w.cell? ⟨bp, 2, none⟩ = some (.int .i64 3)) :
    Calls Tryz.prog 24 #[.slice (some ⟨bp, 0, none⟩) 3 c, .int .i64 k] w fun e w' => e = .returned (.bool (kindB k)) ∧ w' = w := by
  have hc : ∀ j : Nat, j < 3 → w.cell? ⟨bp, j, none⟩ = some (.int .i64 ((j : Int) + 1)) := fun j hj => by
    match j, hj with
    | 0, _ => exact h0
    | 1, _ => exact h1
    | 2, _ => exact h2
  have HC : Hid (∀ j : Nat, j < 3 → w.cell? ⟨bp, j, none⟩ = some (.int .i64 ((j : Int) + 1))) := hc
  clear h0 h1 h2 hc
  go_enter Tryz.func24, Tryz.ntmps24
  go_wp2
  go_loop [5] (fun i => ∃ j : Nat, j ≤ 3 ∧ i = .int .i64 j ∧ Hid (k < 1 ∨ (j : Int) < k)) (fun i => 3 - (intOf i).toNat)
  case atStart => exact ⟨0, by omega, rfl, show _ ∨ _ by omega⟩
  case round =>
    obtain ⟨j, hj, rfl, hn⟩ := hrel
    by_cases hlt : j < 3
    · have hcj := HC.out j hlt
      by_cases hk : k = (j : Int) + 1
      · have hk' : (((j : Int) + 1) == k) = true := by simp; omega
        have hB : Hid (kindB k = true) := by show _ = _; unfold kindB; simp; omega
        clear hk
        go_wp2
        go_ret
        exact ⟨by rw [hB.out]; rfl, rfl⟩
      · have hk' : (((j : Int) + 1) == k) = false := by simp; omega
        have hn' : Hid (k < 1 ∨ ((j + 1 : Nat) : Int) < k) := by have := hn.out; show _ ∨ _; omega
        clear hk
        go_wp2
        go_round
        case rel => exact ⟨j + 1, by omega, by go_num, hn'⟩
        case measure => simp [intOf]; omega
    · have hB : Hid (kindB k = false) := by have := hn.out; show _ = _; unfold kindB; simp; omega
      go_wp2
      go_ret
      exact ⟨by rw [hB.out]; rfl, rfl⟩

set_option maxRecDepth 20000 in
set_option maxHeartbeats 1000000 in
theorem step_any (B bw : Nat) (F : Nat → Value) (L : List Sl) (w : World) (h : St B bw F L w) (hL : (L.length + 4) * 24 ≤ 140737488355328) (k a b c d : Int) (hk : kindB k = true) (s t : ByteArray) (hs : s.size ≤ 140737488351232) (ht : t.size ≤ 140737488351232) (la lb : Option Addr) (ln lc hn hc : Nat) :
    Calls Tryz.prog 25 #[.pointer (some ⟨bw, 0, none⟩), .agg #[.int .i64 k, .int .i64 a, .int .i64 b, .int .i64 c, .int .i64 d, .string s, .string t, .slice la ln lc, .slice lb hn hc]] w fun e w' => e = .returned (.bool true) ∧ StepPost B bw F L w w' := by
  have hk' : k = 1 ∨ k = 2 ∨ k = 3 := by simpa [kindB] using hk
  clear hk
  rcases hk' with rfl | rfl | rfl
  · have HS : Hid (St B bw F L (w.alloc (.cells #[.int .i64 1, .int .i64 a, .int .i64 b, .int .i64 c, .int .i64 d, .string s, .string t, .slice la ln lc, .slice lb hn hc] 28))) := h.keeps (keepsNo _ _) (fun _ _ x => x.elim)
    clear h
    go_enter Tryz.func25, Tryz.ntmps25
    go_wp2_with (go_at_call 35; refine (field_mul B bw F L _ HS.out _ _ _ _ _ _ _ _ _ _ _ _).mono ?_; rintro e w1 ⟨rfl, hp⟩; have HP : Hid _ := hp; clear hp)
    go_ret
    exact ⟨rfl, StepPost.of_keeps (keepsNo _ _) HP.out⟩
  · have HS : Hid (St B bw F L (w.alloc (.cells #[.int .i64 2, .int .i64 a, .int .i64 b, .int .i64 c, .int .i64 d, .string s, .string t, .slice la ln lc, .slice lb hn hc] 28))) := h.keeps (keepsNo _ _) (fun _ _ x => x.elim)
    clear h
    go_enter Tryz.func25, Tryz.ntmps25
    go_wp2_with (go_at_call 35; refine (field_inv B bw F L _ HS.out _ _ _ _ _ _ _ _ _ _ _ _).mono ?_; rintro e w1 ⟨rfl, hp⟩; have HP : Hid _ := hp; clear hp)
    go_ret
    exact ⟨rfl, StepPost.of_keeps (keepsNo _ _) HP.out⟩
  · have HS : Hid (St B bw F L (w.alloc (.cells #[.int .i64 3, .int .i64 a, .int .i64 b, .int .i64 c, .int .i64 d, .string s, .string t, .slice la ln lc, .slice lb hn hc] 28))) := h.keeps (keepsNo _ _) (fun _ _ x => x.elim)
    clear h
    go_enter Tryz.func25, Tryz.ntmps25
    go_wp2_with (go_at_call 35; refine (field_add B bw F L _ HS.out hL _ _ _ _ _ _ hs ht _ _ _ _ _ _).mono ?_; rintro e w1 ⟨rfl, hp⟩; have HP : Hid _ := hp; clear hp)
    go_ret
    exact ⟨rfl, StepPost.of_keeps (keepsNo _ _) HP.out⟩
end Go.Proofs.YtgchiamkeeljkaaGreatDoor
