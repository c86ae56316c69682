/-
  weavekeep.Axioms: the walk.
-/
import Derived.Test.YtgchiamkeeljkaaDoorAxn
namespace Go.Proofs.YtgchiamkeeljkaaDoor
open Go.RowKit Go.Proofs.YtgchiamkeeljkaaDoor.M

theorem pick_any (x : Int) (w : World) (w0 : (Lit.int .i64 x).wf = true) :
    Calls Tryd.prog 6 #[.int .i64 x, .int .i64 256] w fun e w' => e = .returned (.int .i64 (pkI x 256)) ∧ w' = w := by
  by_cases h : x < 0
  · have HP : Hid ((wrap64 (-wrap64 (x + 1))).tmod 256 = pkI x 256) := pk_neg x 256 h (bounds_i64 w0).1
    go_enter Tryd.func6, Tryd.ntmps6
    go_wp2
    go_ret
    exact ⟨ret_int HP.out, rfl⟩
  · have HP : Hid (x % 256 = pkI x 256) := pk_pos x 256 h
    go_enter Tryd.func6, Tryd.ntmps6
    go_wp2
    go_ret
    exact ⟨ret_int HP.out, rfl⟩

set_option maxRecDepth 100000 in
set_option maxHeartbeats 4000000 in
theorem ax_walk (x y z : Int) (w0 : (Lit.int .i64 x).wf = true) (w1 : (Lit.int .i64 y).wf = true) (w2 : (Lit.int .i64 z).wf = true) (w : World) (hT : Tabs w) :
    Calls Tryd.prog 3 #[.int .i64 x, .int .i64 y, .int .i64 z] w fun e w' => e = .returned (.bool true) ∧ w' = w := by
  have pa : ∀ w, Calls Tryd.prog 6 #[.int .i64 x, .int .i64 256] w fun e w' => e = .returned (.int .i64 (pkI x 256)) ∧ w' = w := fun w => pick_any x w w0
  have pb : ∀ w, Calls Tryd.prog 6 #[.int .i64 y, .int .i64 256] w fun e w' => e = .returned (.int .i64 (pkI y 256)) ∧ w' = w := fun w => pick_any y w w1
  have pc : ∀ w, Calls Tryd.prog 6 #[.int .i64 z, .int .i64 256] w fun e w' => e = .returned (.int .i64 (pkI z 256)) ∧ w' = w := fun w => pick_any z w w2
  obtain ⟨a1, a2'⟩ := pk_bd x 256 (by decide)
  obtain ⟨b1, b2'⟩ := pk_bd y 256 (by decide)
  obtain ⟨c1, c2'⟩ := pk_bd z 256 (by decide)
  have PICK : ∀ v w, (v = x ∨ v = y ∨ v = z) → Calls Tryd.prog 6 #[.int .i64 v, .int .i64 256] w fun e w' => e = .returned (.int .i64 (pkI v 256)) ∧ w' = w := by
    rintro v w (rfl | rfl | rfl)
    · exact pa w
    · exact pb w
    · exact pc w
  clear w0 w1 w2 pa pb pc
  revert PICK a1 a2' b1 b2' c1 c2'
  generalize ha : pkI x 256 = a
  generalize hb : pkI y 256 = b
  generalize hc : pkI z 256 = c
  intro a1 a2' b1 b2' c1 c2' PICK
  have a2 : a ≤ 255 := by omega
  have b2 : b ≤ 255 := by omega
  have c2 : c ≤ 255 := by omega
  clear a2' b2' c2'
  obtain ⟨f1, f2, f3, f4, f5, f6, f7⟩ := ax_facts a b c a1 a2 b1 b2 c1 c2
  have g1 := pr_bd a b
  have g2 := pr_bd b c
  have g3 := pr_bd a c
  have g4 := xo_bd b c b2 c2
  have g5 := iv_bd a
  have x1 : bits .xor .i64 b c = xoI b c := xo_of b c b1 (by omega) c1 (by omega)
  have x2 : bits .xor .i64 (prI a b) (prI a c) = xoI (prI a b) (prI a c) := xo_of _ _ (by omega) (by omega) (by omega) (by omega)
  have x3 : bits .xor .i64 (a * 2) 285 = xoI (a * 2) 285 := xo_of _ _ (by omega) (by omega) (by omega) (by omega)
  have PK : Hid (∀ v w, (v = x ∨ v = y ∨ v = z) → Calls Tryd.prog 6 #[.int .i64 v, .int .i64 256] w fun e w' => e = .returned (.int .i64 (pkI v 256)) ∧ w' = w) := PICK
  clear PICK
  by_cases h0 : a ≤ 0
  · have h0' : (a == 0) = true := by simp; omega
    have h2 : ¬ 255 < a * 2 := by omega
    rw [if_neg h2] at f6
    clear f7
    go_enter Tryd.func3, Tryd.ntmps3
    go_wp2_with (first | (go_at_call 6; refine (PK.out _ _ (by simp)).mono ?_; rintro e w' ⟨rfl, rfl⟩) | (go_at_call 7; refine (mul_yes _ _ _ hT (by omega) (by omega) (by omega) (by omega)).mono ?_; rintro e w' ⟨rfl, rfl⟩) | (go_at_call 8; refine (inv_no _ _ (by omega)).mono ?_; rintro e w' ⟨rfl, rfl⟩))
    go_ret
    exact ⟨rfl, rfl⟩
  · have h0' : (a == 0) = false := by simp; omega
    have h1 : 1 ≤ a := by omega
    have f7' := f7 h1
    clear f7
    by_cases h2 : 255 < a * 2
    · rw [if_pos h2] at f6
      go_enter Tryd.func3, Tryd.ntmps3
      go_wp2_with (first | (go_at_call 6; refine (PK.out _ _ (by simp)).mono ?_; rintro e w' ⟨rfl, rfl⟩) | (go_at_call 7; refine (mul_yes _ _ _ hT (by omega) (by omega) (by omega) (by omega)).mono ?_; rintro e w' ⟨rfl, rfl⟩) | (go_at_call 8; refine (inv_yes _ _ hT (by omega) (by omega)).mono ?_; rintro e w' ⟨rfl, rfl⟩))
      go_ret
      exact ⟨rfl, rfl⟩
    · rw [if_neg h2] at f6
      go_enter Tryd.func3, Tryd.ntmps3
      go_wp2_with (first | (go_at_call 6; refine (PK.out _ _ (by simp)).mono ?_; rintro e w' ⟨rfl, rfl⟩) | (go_at_call 7; refine (mul_yes _ _ _ hT (by omega) (by omega) (by omega) (by omega)).mono ?_; rintro e w' ⟨rfl, rfl⟩) | (go_at_call 8; refine (inv_yes _ _ hT (by omega) (by omega)).mono ?_; rintro e w' ⟨rfl, rfl⟩))
      go_ret
      exact ⟨rfl, rfl⟩
end Go.Proofs.YtgchiamkeeljkaaDoor
