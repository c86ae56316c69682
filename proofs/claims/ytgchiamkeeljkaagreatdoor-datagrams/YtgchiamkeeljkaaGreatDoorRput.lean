/-
  The document's datagrams (package weaveref): right, Put.
-/
import Derived.Test.YtgchiamkeeljkaaGreatDoorRstr
import Derived.Test.YtgchiamkeeljkaaGreatDoorFadd
namespace Go.Proofs.YtgchiamkeeljkaaGreatDoor
open Go Go.RowKit Go.Proofs.YtgchiamkeeljkaaGreatDoor.M

set_option maxRecDepth 20000 in
set_option maxHeartbeats 4000000 in
theorem refright_any (K M S W P X R : Int) (w : World) : Calls Tryz.prog 119 #[.agg #[.int .i64 K, .int .i64 M, .int .i64 S, .int .i64 W, .int .i64 P, .int .i64 X, .int .i64 R]] w fun e w' => e = .returned (.bool (rightB K M S W P X R)) ∧ Keeps NoB w w' := by
  by_cases h0 : K < 1
  · rw [right_no K M S W P X R (by omega)]
    go_enter Tryz.func119, Tryz.ntmps119
    go_wp2
    go_ret
    exact ⟨by first | rfl | (simp; done) | (simp; omega), keepsNo _ _⟩
  by_cases h1 : 255 < K
  · rw [right_no K M S W P X R (by omega)]
    go_enter Tryz.func119, Tryz.ntmps119
    go_wp2
    go_ret
    exact ⟨by first | rfl | (simp; done) | (simp; omega), keepsNo _ _⟩
  by_cases h2 : M < 0
  · rw [right_no K M S W P X R (by omega)]
    go_enter Tryz.func119, Tryz.ntmps119
    go_wp2
    go_ret
    exact ⟨by first | rfl | (simp; done) | (simp; omega), keepsNo _ _⟩
  by_cases h3 : 255 - K < M
  · rw [right_no K M S W P X R (by omega)]
    go_enter Tryz.func119, Tryz.ntmps119
    go_wp2
    go_ret
    exact ⟨by first | rfl | (simp; done) | (simp; omega), keepsNo _ _⟩
  by_cases h4 : S < 1
  · rw [right_no K M S W P X R (by omega)]
    go_enter Tryz.func119, Tryz.ntmps119
    go_wp2
    go_ret
    exact ⟨by first | rfl | (simp; done) | (simp; omega), keepsNo _ _⟩
  by_cases h5 : 1024 < S
  · rw [right_no K M S W P X R (by omega)]
    go_enter Tryz.func119, Tryz.ntmps119
    go_wp2
    go_ret
    exact ⟨by first | rfl | (simp; done) | (simp; omega), keepsNo _ _⟩
  by_cases h6 : W < 1
  · rw [right_no K M S W P X R (by omega)]
    go_enter Tryz.func119, Tryz.ntmps119
    go_wp2
    go_ret
    exact ⟨by first | rfl | (simp; done) | (simp; omega), keepsNo _ _⟩
  by_cases h7 : 16 < W
  · rw [right_no K M S W P X R (by omega)]
    go_enter Tryz.func119, Tryz.ntmps119
    go_wp2
    go_ret
    exact ⟨by first | rfl | (simp; done) | (simp; omega), keepsNo _ _⟩
  by_cases h8 : P < 1
  · rw [right_no K M S W P X R (by omega)]
    go_enter Tryz.func119, Tryz.ntmps119
    go_wp2
    go_ret
    exact ⟨by first | rfl | (simp; done) | (simp; omega), keepsNo _ _⟩
  by_cases h9 : 16 < P
  · rw [right_no K M S W P X R (by omega)]
    go_enter Tryz.func119, Tryz.ntmps119
    go_wp2
    go_ret
    exact ⟨by first | rfl | (simp; done) | (simp; omega), keepsNo _ _⟩
  by_cases h10 : X < 1
  · rw [right_no K M S W P X R (by omega)]
    go_enter Tryz.func119, Tryz.ntmps119
    go_wp2
    go_ret
    exact ⟨by first | rfl | (simp; done) | (simp; omega), keepsNo _ _⟩
  by_cases h11 : 16 < X
  · rw [right_no K M S W P X R (by omega)]
    go_enter Tryz.func119, Tryz.ntmps119
    go_wp2
    go_ret
    exact ⟨by first | rfl | (simp; done) | (simp; omega), keepsNo _ _⟩
  by_cases h12 : R < 0
  · rw [right_no K M S W P X R (by omega)]
    go_enter Tryz.func119, Tryz.ntmps119
    go_wp2
    go_ret
    exact ⟨by first | rfl | (simp; done) | (simp; omega), keepsNo _ _⟩
  by_cases h13 : 16 < R
  · rw [right_no K M S W P X R (by omega)]
    go_enter Tryz.func119, Tryz.ntmps119
    go_wp2
    go_ret
    exact ⟨by first | rfl | (simp; done) | (simp; omega), keepsNo _ _⟩
  have hr : Hid (rightB K M S W P X R = true) := by
    show _ = _
    unfold rightB; exact decide_eq_true (by omega)
  rw [hr.out]
  go_enter Tryz.func119, Tryz.ntmps119
  go_wp2
  go_ret
  exact ⟨by first | rfl | (simp; done) | (simp; omega), keepsNo _ _⟩
end Go.Proofs.YtgchiamkeeljkaaGreatDoor
