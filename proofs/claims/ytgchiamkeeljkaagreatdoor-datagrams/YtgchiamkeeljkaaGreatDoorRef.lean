/-
  The document's own field (package weaveref): what each call does, in the words of the plain numbers.
-/
import Derived.Test.YtgchiamkeeljkaaGreatDoorAxn
import Derived.Test.YtgchiamkeeljkaaGreatDoorMathr
namespace Go.Proofs.YtgchiamkeeljkaaGreatDoor
open Go.RowKit Go.Proofs.YtgchiamkeeljkaaGreatDoor.M

def clI (a b : Int) (k : Nat) : Int := (clN a.toNat b.toNat k : Nat)
def rdI (a b : Int) (k : Nat) : Int := (rdN (clN a.toNat b.toNat 8) k : Nat)
theorem bit_int (B k : Nat) : (((B : Int) / 2 ^ k).tmod 2 == 1) = decide (B / 2 ^ k % 2 = 1) := by
  have e : ((B : Int) / 2 ^ k) = ((B / 2 ^ k : Nat) : Int) := by rw [Int.natCast_ediv, Int.natCast_pow]; rfl
  rw [e, Int.tmod_eq_emod_of_nonneg (Int.natCast_nonneg _), show ((B / 2 ^ k : Nat) : Int) % 2 = ((B / 2 ^ k % 2 : Nat) : Int) from rfl]
  rw [Bool.eq_iff_iff]
  simp only [beq_iff_eq, decide_eq_true_eq]
  omega
theorem two16 : (2 : Nat) ^ 16 = 65536 := rfl
theorem cl_bd (a b : Int) (k : Nat) (h2 : a ≤ 255) (hk : k ≤ 8) : 0 ≤ clI a b k ∧ clI a b k ≤ 65535 := by
  have h := cl_lt a.toNat b.toNat k (by omega)
  have hp : 2 ^ (8 + k) ≤ 2 ^ 16 := Nat.pow_le_pow_right (by decide) (by omega)
  rw [two16] at hp
  unfold clI; omega
theorem rd_bd (a b : Int) (k : Nat) (h2 : a ≤ 255) : 0 ≤ rdI a b k ∧ rdI a b k ≤ 65535 := by
  have h := rd_lt (clN a.toNat b.toNat 8) k (cl_lt a.toNat b.toNat 8 (by omega))
  rw [two16] at h
  unfold rdI; omega
theorem shl_bd (A k : Nat) (hA : A < 256) (hk : k < 8) : A * 2 ^ k < 65536 := by
  have : 2 ^ k ≤ 2 ^ 7 := Nat.pow_le_pow_right (by decide) (by omega)
  have := Nat.mul_le_mul (Nat.le_of_lt hA) this
  omega
theorem cl_yes (a b : Int) (k : Nat) (h1 : 0 ≤ a) (h2 : a ≤ 255) (h3 : 0 ≤ b) (hk : k < 8) (h : ((b / 2 ^ k).tmod 2 == 1) = true) :
    bits .xor .i64 (clI a b k) (wrap64 (a * 2 ^ k)) = clI a b (k + 1) := by
  obtain ⟨A, rfl⟩ := Int.eq_ofNat_of_zero_le h1
  obtain ⟨B, rfl⟩ := Int.eq_ofNat_of_zero_le h3
  have hb := cl_bd (A : Int) (B : Int) k h2 (by omega)
  rw [bit_int] at h
  have h' : B / 2 ^ k % 2 = 1 := by simpa using h
  have hs := shl_bd A k (by omega) hk
  have e : ((A : Int) * 2 ^ k) = ((A * 2 ^ k : Nat) : Int) := by rw [Int.natCast_mul, Int.natCast_pow]; rfl
  rw [e, IntWalk.wrap64_in _ (by omega)]
  rw [clI, Int.toNat_natCast, Int.toNat_natCast] at hb ⊢
  rw [i64_xor_nat _ _ (by omega) (by omega), clI, Int.toNat_natCast, Int.toNat_natCast, clN, if_pos h']
theorem cl_no (a b : Int) (k : Nat) (h3 : 0 ≤ b) (h : ((b / 2 ^ k).tmod 2 == 1) = false) : clI a b k = clI a b (k + 1) := by
  obtain ⟨B, rfl⟩ := Int.eq_ofNat_of_zero_le h3
  rw [bit_int] at h
  have h' : ¬ B / 2 ^ k % 2 = 1 := by simpa using h
  rw [clI, clI, Int.toNat_natCast, clN, if_neg h']
theorem rd_yes (a b : Int) (k : Nat) (h2 : a ≤ 255) (hk : k < 7) (h : ((rdI a b k / 2 ^ (14 - k)).tmod 2 == 1) = true) :
    bits .xor .i64 (rdI a b k) (wrap64 (285 * 2 ^ (14 - k - 8))) = rdI a b (k + 1) := by
  have hb := rd_bd a b k h2
  rw [rdI] at h hb ⊢
  rw [bit_int] at h
  have h' := of_decide_eq_true h
  have hp : 2 ^ (14 - k - 8) ≤ 2 ^ 6 := Nat.pow_le_pow_right (by decide) (by omega)
  have e : ((285 : Int) * 2 ^ (14 - k - 8)) = ((285 * 2 ^ (14 - k - 8) : Nat) : Int) := by rw [Int.natCast_mul, Int.natCast_pow]; rfl
  rw [e, IntWalk.wrap64_in _ (by omega), i64_xor_nat _ _ (by omega) (by omega), rdI, rdN, if_pos h', show 14 - k - 8 = 6 - k from by omega]
theorem rd_no (a b : Int) (k : Nat) (h : ((rdI a b k / 2 ^ (14 - k)).tmod 2 == 1) = false) : rdI a b k = rdI a b (k + 1) := by
  rw [rdI] at h ⊢
  rw [bit_int] at h
  have h' := of_decide_eq_false h
  rw [rdI, rdN, if_neg h']
theorem rd_pr (a b : Int) (h1 : 0 ≤ a) (h2 : a ≤ 255) (h3 : 0 ≤ b) (h4 : b ≤ 255) : rdI a b 7 = prI a b := by
  rw [rdI, prI, ← mu_pr a.toNat b.toNat (by omega) (by omega)]; rfl

set_option maxHeartbeats 400000 in
theorem refmul_any (a b : Int) (w : World) (h1 : 0 ≤ a) (h2 : a ≤ 255) (h3 : 0 ≤ b) (h4 : b ≤ 255) :
    Calls Tryz.prog 96 #[.int .i64 a, .int .i64 b] w fun e w' => e = .returned (.int .i64 (prI a b)) ∧ w' = w := by
  go_enter Tryz.func96, Tryz.ntmps96
  go_wp2
  go_loop [5, 6] (fun n i => ∃ k : Nat, k ≤ 8 ∧ i = .int .i64 k ∧ n = .int .i64 (clI a b k)) (fun _ i => 8 - (intOf i).toNat)
  case atStart => exact ⟨0, by omega, rfl, rfl⟩
  case round =>
    obtain ⟨k, hk, rfl, rfl⟩ := hrel
    by_cases hlt : k < 8
    · go_wp2
      · go_round
        case rel => exact ⟨k + 1, by omega, by go_num, by rw [cl_yes a b k h1 h2 h3 hlt ‹_›]⟩
        case measure => simp [intOf]; omega
      · go_round
        case rel => exact ⟨k + 1, by omega, by go_num, by rw [← cl_no a b k h3 ‹_›]⟩
        case measure => simp [intOf]; omega
    · have e8 : k = 8 := by omega
      subst e8
      clear hlt hk
      go_wp2
      go_loop [5, 7] (fun n i => ∃ k : Nat, k ≤ 7 ∧ i = .int .i64 (14 - k) ∧ n = .int .i64 (rdI a b k)) (fun _ i => (intOf i).toNat + 1 - 8)
      case atStart => exact ⟨0, by omega, rfl, rfl⟩
      case round =>
        obtain ⟨k, hk, rfl, rfl⟩ := hrel
        by_cases hlt : k < 7
        · go_wp2
          · go_round
            case rel => exact ⟨k + 1, by omega, by go_num, by rw [rd_yes a b k h2 hlt ‹_›]⟩
            case measure => simp [intOf]; omega
          · go_round
            case rel => exact ⟨k + 1, by omega, by go_num, by rw [← rd_no a b k ‹_›]⟩
            case measure => simp [intOf]; omega
        · have e7 : k = 7 := by omega
          subst e7
          have HP : Hid (rdI a b 7 = prI a b) := rd_pr a b h1 h2 h3 h4
          go_wp2
          go_ret
          exact ⟨ret_int HP.out, rfl⟩
def inAI (a : Int) (k : Nat) : Int := (inA a.toNat k : Nat)
def inOI (a : Int) (k : Nat) : Int := (inO a.toNat k : Nat)
theorem inA_bd (a : Int) (k : Nat) (h : a ≤ 255) : 0 ≤ inAI a k ∧ inAI a k ≤ 255 := by
  have := inA_lt a.toNat k (by omega)
  unfold inAI; omega
theorem inO_bd (a : Int) (k : Nat) : 0 ≤ inOI a k ∧ inOI a k ≤ 255 := by
  have := inO_lt a.toNat k
  unfold inOI; omega
theorem inA_step (a : Int) (k : Nat) : prI (inAI a k) (inAI a k) = inAI a (k + 1) := by
  rw [inAI, prI, Int.toNat_natCast, inAI, inA]
theorem inO_step (a : Int) (k : Nat) : prI (inOI a k) (inAI a (k + 1)) = inOI a (k + 1) := by
  rw [inAI, inOI, prI, Int.toNat_natCast, Int.toNat_natCast, inOI, inO]
set_option maxHeartbeats 400000 in
theorem refinv_any (a : Int) (w : World) (h1 : 1 ≤ a) (h2 : a ≤ 255) :
    Calls Tryz.prog 99 #[.int .i64 a] w fun e w' => e = .returned (.int .i64 (ivI a)) ∧ w' = w := by
  have r0 : .int .i64 a = Value.int .i64 (inAI a 0) := by rw [inAI, inA, Int.toNat_of_nonneg (by omega)]
  have R0 := r0
  clear r0
  go_enter Tryz.func99, Tryz.ntmps99
  go_wp2
  go_loop [0, 3, 4] (fun s o i => ∃ k : Nat, k ≤ 7 ∧ i = .int .i64 k ∧ s = .int .i64 (inAI a k) ∧ o = .int .i64 (inOI a k)) (fun _ _ i => 7 - (intOf i).toNat)
  case atStart => exact ⟨0, by omega, rfl, by first | rfl | exact R0, rfl⟩
  case round =>
    clear R0
    obtain ⟨k, hk, rfl, rfl, rfl⟩ := hrel
    have b1 := inA_bd a k h2
    have b2 := inO_bd a k
    have b3 := inA_bd a (k + 1) h2
    have e1 := inA_step a k
    have e2 := inO_step a k
    by_cases hlt : k < 7
    · go_wp2_with (go_at_call 96; refine (refmul_any _ _ _ (by omega) (by omega) (by omega) (by omega)).mono ?_; rintro e w' ⟨rfl, rfl⟩)
      go_round
      case rel => exact ⟨k + 1, by omega, by go_num, rfl, rfl⟩
      case measure => simp [intOf]; omega
    · have e7 : k = 7 := by omega
      subst e7
      have HP : Hid (inOI a 7 = ivI a) := by
        show inOI a 7 = ivI a
        rw [inOI, ivI, in_iv a.toNat (by omega) (by omega)]
      clear e1 e2
      go_wp2
      go_ret
      exact ⟨ret_int HP.out, rfl⟩
theorem refnum_any (a : Int) (w : World) :
    Calls Tryz.prog 95 #[.int .i64 a] w fun e w' => e = .returned (.bool (numB a)) ∧ w' = w := by
  by_cases h : 0 ≤ a ∧ a ≤ 255
  · rw [num_yes a h.1 h.2]
    obtain ⟨h1, h2⟩ := h
    go_enter Tryz.func95, Tryz.ntmps95
    go_wp2
    go_ret
    exact ⟨by simp, rfl⟩
  · rw [num_no a h]
    by_cases h1 : 0 ≤ a
    · have h2 : ¬ a ≤ 255 := fun h' => h ⟨h1, h'⟩
      clear h
      go_enter Tryz.func95, Tryz.ntmps95
      go_wp2
      go_ret
      exact ⟨by simp, rfl⟩
    · clear h
      go_enter Tryz.func95, Tryz.ntmps95
      go_wp2
      go_ret
      exact ⟨by simp, rfl⟩
set_option maxHeartbeats 400000 in
theorem refMul_yes (a b : Int) (w : World) (h1 : 0 ≤ a) (h2 : a ≤ 255) (h3 : 0 ≤ b) (h4 : b ≤ 255) :
    Calls Tryz.prog 53 #[.int .i64 a, .int .i64 b] w fun e w' => e = .returned (.tuple #[.int .i64 (prI a b), .int .i64 0]) ∧ w' = w := by
  have na := num_yes a h1 h2
  have nb := num_yes b h3 h4
  go_enter Tryz.func53, Tryz.ntmps53
  go_wp2_with (first | (go_at_call 95; refine (refnum_any _ _).mono ?_; rintro e w' ⟨rfl, rfl⟩) | (go_at_call 96; refine (refmul_any _ _ _ h1 h2 h3 h4).mono ?_; rintro e w' ⟨rfl, rfl⟩))
  go_ret2
  exact ⟨rfl, rfl⟩
set_option maxHeartbeats 400000 in
theorem refMul_no (a b : Int) (w : World) (h : numB a = false ∨ numB b = false) :
    Calls Tryz.prog 53 #[.int .i64 a, .int .i64 b] w fun e w' => e = .returned (.tuple #[.int .i64 0, .int .i64 1]) ∧ w' = w := by
  by_cases ha : numB a = true
  · have hb : numB b = false := by simpa [ha] using h
    clear h
    go_enter Tryz.func53, Tryz.ntmps53
    go_wp2_with (go_at_call 95; refine (refnum_any _ _).mono ?_; rintro e w' ⟨rfl, rfl⟩)
    go_ret2
    exact ⟨rfl, rfl⟩
  · clear h
    have ha' : numB a = false := by simpa using ha
    clear ha
    go_enter Tryz.func53, Tryz.ntmps53
    go_wp2_with (go_at_call 95; refine (refnum_any _ _).mono ?_; rintro e w' ⟨rfl, rfl⟩)
    go_ret2
    exact ⟨rfl, rfl⟩
set_option maxHeartbeats 400000 in
theorem refInv_yes (a : Int) (w : World) (h1 : 1 ≤ a) (h2 : a ≤ 255) :
    Calls Tryz.prog 55 #[.int .i64 a] w fun e w' => e = .returned (.tuple #[.int .i64 (ivI a), .int .i64 0]) ∧ w' = w := by
  have ha' : (a == 0) = false := by simp; omega
  have na := num_yes a (by omega) h2
  go_enter Tryz.func55, Tryz.ntmps55
  go_wp2_with (first | (go_at_call 95; refine (refnum_any _ _).mono ?_; rintro e w' ⟨rfl, rfl⟩) | (go_at_call 99; refine (refinv_any _ _ h1 h2).mono ?_; rintro e w' ⟨rfl, rfl⟩))
  go_ret2
  exact ⟨rfl, rfl⟩
set_option maxHeartbeats 400000 in
theorem refInv_no (a : Int) (w : World) (h : ¬ (1 ≤ a ∧ a ≤ 255)) :
    Calls Tryz.prog 55 #[.int .i64 a] w fun e w' => e = .returned (.tuple #[.int .i64 0, .int .i64 1]) ∧ w' = w := by
  by_cases ha : a = 0
  · subst ha
    clear h
    have na : numB 0 = true := rfl
    go_enter Tryz.func55, Tryz.ntmps55
    go_wp2_with (go_at_call 95; refine (refnum_any _ _).mono ?_; rintro e w' ⟨rfl, rfl⟩)
    go_ret2
    exact ⟨rfl, rfl⟩
  · have na : numB a = false := num_no a (fun x => h (by omega))
    clear h ha
    go_enter Tryz.func55, Tryz.ntmps55
    go_wp2_with (go_at_call 95; refine (refnum_any _ _).mono ?_; rintro e w' ⟨rfl, rfl⟩)
    go_ret2
    exact ⟨rfl, rfl⟩
end Go.Proofs.YtgchiamkeeljkaaGreatDoor
