/-
  Package weave's small functions: within, right, fits; sum, number, appendNumber.
-/
import Derived.Test.YtgchiamkeeljkaaGreatDoorRows
import Derived.Test.YtgchiamkeeljkaaGreatDoorNum
import Derived.Test.YtgchiamkeeljkaaGreatDoorRmat
import Derived.Deep.AppendLies
namespace Go.Proofs.YtgchiamkeeljkaaGreatDoor
open Go Go.RowKit

theorem winfo5 : (Tryz.prog.info? 5).map (fun i => (i.zero, i.size, i.bytes)) = some (some (.int .u8 0), 1, 1) := by kernel_rfl
theorem wret_int {k : IntKind} {a b : Int} (h : a = b) : Ending.returned (.int k a) = .returned (.int k b) := by rw [h]
theorem wkeeps (w : World) (o : Obj) : Keeps NoB w (w.alloc o) := (Keeps.refl NoB w).alloc o

def winB (l n m : Int) : Bool := decide (l ≤ n ∧ n ≤ m)
theorem winB_yes {l n m : Int} (h : winB l n m = true) : l ≤ n ∧ n ≤ m := of_decide_eq_true h
set_option maxHeartbeats 400000 in
theorem within_any (n l m : Int) (w : World) : Calls Tryz.prog 86 #[.int .i64 n, .int .i64 l, .int .i64 m] w fun e w' => e = .returned (.bool (winB l n m)) ∧ w' = w := by
  by_cases h1 : l ≤ n
  · by_cases h2 : n ≤ m
    · have hb : Hid (winB l n m = true) := decide_eq_true ⟨h1, h2⟩
      rw [hb.out]
      have d1 : decide (l ≤ n) = true := decide_eq_true h1
      have d2 : decide (n ≤ m) = true := decide_eq_true h2
      clear h1 h2
      go_enter Tryz.func86, Tryz.ntmps86
      go_wp2
      go_ret
      exact ⟨by simp, rfl⟩
    · have hb : Hid (winB l n m = false) := decide_eq_false (fun x => h2 x.2)
      rw [hb.out]
      have d1 : decide (l ≤ n) = true := decide_eq_true h1
      have d2 : decide (n ≤ m) = false := decide_eq_false h2
      clear h1 h2
      go_enter Tryz.func86, Tryz.ntmps86
      go_wp2
      go_ret
      exact ⟨by simp, rfl⟩
  · have hb : Hid (winB l n m = false) := decide_eq_false (fun x => h1 x.1)
    rw [hb.out]
    have d1 : decide (l ≤ n) = false := decide_eq_false h1
    clear h1
    go_enter Tryz.func86, Tryz.ntmps86
    go_wp2
    go_ret
    exact ⟨by simp, rfl⟩
theorem right_win (K M S W P X R : Int) : rightB K M S W P X R = (winB 1 K 255 && winB 0 M (255 - K) && winB 1 S 1024 && winB 1 W 16 && winB 1 P 16 && winB 1 X 16 && winB 0 R 16) := by
  rw [Bool.eq_iff_iff]
  simp only [rightB, winB, Bool.and_eq_true, decide_eq_true_eq]
  omega
/-- weave.right tells whether a configuration is right. -/
def RightOk : Prop := ∀ (K M S W P X R : Int) (w : World), Calls Tryz.prog 47 #[.agg #[.int .i64 K, .int .i64 M, .int .i64 S, .int .i64 W, .int .i64 P, .int .i64 X, .int .i64 R]] w fun e w' => e = .returned (.bool (rightB K M S W P X R)) ∧ Keeps NoB w w'
set_option maxRecDepth 20000 in
set_option maxHeartbeats 4000000 in
theorem right_any : RightOk := by
  intro K M S W P X R w
  rw [right_win]
  by_cases h1 : winB 1 K 255 = true
  · have hk := winB_yes h1
    have k1 := hk.1
    have k2 := hk.2
    clear hk
    by_cases h2 : winB 0 M (255 - K) = true
    · by_cases h3 : winB 1 S 1024 = true
      · by_cases h4 : winB 1 W 16 = true
        · by_cases h5 : winB 1 P 16 = true
          · by_cases h6 : winB 1 X 16 = true
            · go_enter Tryz.func47, Tryz.ntmps47
              go_wp2_with (go_at_call 86; refine (within_any _ _ _ _).mono ?_; rintro e w' ⟨rfl, hw'⟩; obtain rfl := hw')
              go_ret
              exact ⟨by simp [h1, h2, h3, h4, h5, h6], wkeeps _ _⟩
            · replace h6 : winB 1 X 16 = false := by simpa using h6
              go_enter Tryz.func47, Tryz.ntmps47
              go_wp2_with (go_at_call 86; refine (within_any _ _ _ _).mono ?_; rintro e w' ⟨rfl, hw'⟩; obtain rfl := hw')
              go_ret
              exact ⟨by simp [h1, h2, h3, h4, h5, h6], wkeeps _ _⟩
          · replace h5 : winB 1 P 16 = false := by simpa using h5
            go_enter Tryz.func47, Tryz.ntmps47
            go_wp2_with (go_at_call 86; refine (within_any _ _ _ _).mono ?_; rintro e w' ⟨rfl, hw'⟩; obtain rfl := hw')
            go_ret
            exact ⟨by simp [h1, h2, h3, h4, h5], wkeeps _ _⟩
        · replace h4 : winB 1 W 16 = false := by simpa using h4
          go_enter Tryz.func47, Tryz.ntmps47
          go_wp2_with (go_at_call 86; refine (within_any _ _ _ _).mono ?_; rintro e w' ⟨rfl, hw'⟩; obtain rfl := hw')
          go_ret
          exact ⟨by simp [h1, h2, h3, h4], wkeeps _ _⟩
      · replace h3 : winB 1 S 1024 = false := by simpa using h3
        go_enter Tryz.func47, Tryz.ntmps47
        go_wp2_with (go_at_call 86; refine (within_any _ _ _ _).mono ?_; rintro e w' ⟨rfl, hw'⟩; obtain rfl := hw')
        go_ret
        exact ⟨by simp [h1, h2, h3], wkeeps _ _⟩
    · replace h2 : winB 0 M (255 - K) = false := by simpa using h2
      go_enter Tryz.func47, Tryz.ntmps47
      go_wp2_with (go_at_call 86; refine (within_any _ _ _ _).mono ?_; rintro e w' ⟨rfl, hw'⟩; obtain rfl := hw')
      go_ret
      exact ⟨by simp [h1, h2], wkeeps _ _⟩
  · replace h1 : winB 1 K 255 = false := by simpa using h1
    go_enter Tryz.func47, Tryz.ntmps47
    go_wp2_with (go_at_call 86; refine (within_any _ _ _ _).mono ?_; rintro e w' ⟨rfl, hw'⟩; obtain rfl := hw')
    go_ret
    exact ⟨by simp [h1], wkeeps _ _⟩
end Go.Proofs.YtgchiamkeeljkaaGreatDoor
