/-
  The document's product and inverse, by polynomials, are the tables'.
-/
import Derived.Test.YtgchiamkeeljkaaGreatDoorMath
namespace Go.Proofs.YtgchiamkeeljkaaGreatDoor.M
open Go
set_option linter.unusedSimpArgs false

/-- The first k coefficients' multiples, summed. -/
def clN (a b : Nat) : Nat → Nat
  | 0 => 0
  | k + 1 => if b / 2 ^ k % 2 = 1 then clN a b k ^^^ (a * 2 ^ k) else clN a b k
/-- What is left behind k steps of the division. -/
def rdN (n : Nat) : Nat → Nat
  | 0 => n
  | k + 1 => if rdN n k / 2 ^ (14 - k) % 2 = 1 then rdN n k ^^^ (285 * 2 ^ (6 - k)) else rdN n k
def muN (a b : Nat) : Nat := rdN (clN a b 8) 7

theorem bit_xor (x y k : Nat) : ((x ^^^ y) / 2 ^ k % 2 = 1) ↔ ((x / 2 ^ k % 2 = 1) ↔ ¬ (y / 2 ^ k % 2 = 1)) := by
  have e : ∀ z : Nat, (z / 2 ^ k % 2 = 1) ↔ z.testBit k = true := fun z => by rw [Nat.testBit_eq_decide_div_mod_eq]; simp
  rw [e, e, e, Nat.testBit_xor]
  cases x.testBit k <;> cases y.testBit k <;> simp
theorem xor4 (p q r : Nat) : (p ^^^ q) ^^^ r = (p ^^^ r) ^^^ q := by rw [Nat.xor_assoc, Nat.xor_comm q r, ← Nat.xor_assoc]
theorem cl_add (a b c k : Nat) : clN a (b ^^^ c) k = clN a b k ^^^ clN a c k := by
  induction k with
  | zero => simp [clN]
  | succ k ih =>
    simp only [clN, bit_xor, ih]
    by_cases h1 : b / 2 ^ k % 2 = 1 <;> by_cases h2 : c / 2 ^ k % 2 = 1
    · simp only [h1, h2, not_true, iff_false, if_false, if_true]
      rw [xor4, Nat.xor_assoc, Nat.xor_assoc, Nat.xor_self, Nat.xor_zero]
    · simp only [h1, h2, not_false_iff, iff_true, if_false, if_true]
      rw [xor4]
    · simp only [h1, h2, not_true, iff_false, not_false_iff, if_false, if_true]
      rw [Nat.xor_assoc]
    · simp only [h1, h2, not_false_iff, iff_true, if_false]
theorem rd_add (x y k : Nat) : rdN (x ^^^ y) k = rdN x k ^^^ rdN y k := by
  induction k with
  | zero => simp [rdN]
  | succ k ih =>
    simp only [rdN, ih, bit_xor]
    generalize 285 * 2 ^ (6 - k) = D
    by_cases h1 : rdN x k / 2 ^ (14 - k) % 2 = 1 <;> by_cases h2 : rdN y k / 2 ^ (14 - k) % 2 = 1
    · simp only [h1, h2, not_true, iff_false, if_false, if_true]
      rw [xor4, Nat.xor_assoc, Nat.xor_assoc, Nat.xor_self, Nat.xor_zero]
    · simp only [h1, h2, not_false_iff, iff_true, if_false, if_true]
      rw [xor4]
    · simp only [h1, h2, not_true, iff_false, not_false_iff, if_false, if_true]
      rw [Nat.xor_assoc]
    · simp only [h1, h2, not_false_iff, iff_true, if_false]
theorem mu_add (a b c : Nat) : muN a (b ^^^ c) = muN a b ^^^ muN a c := by rw [muN, cl_add, rd_add]; rfl
theorem mu_basis : ∀ a, a < 256 → ∀ i, i < 8 → muN a (2 ^ i) = prN a (2 ^ i) := by decide +kernel
theorem top_xor : ∀ i, i < 8 → ∀ r, r < 2 ^ i → 2 ^ i ^^^ r = 2 ^ i + r := by decide +kernel
theorem mu_pr_upto (a : Nat) (ha : a < 256) : ∀ i, i ≤ 8 → ∀ b, b < 2 ^ i → muN a b = prN a b
  | 0, _, b, hb => by
    have : b = 0 := by simpa using hb
    subst this
    rw [pr_zero, muN]
    have e : ∀ k, clN a 0 k = 0 := fun k => by
      induction k with
      | zero => rfl
      | succ k ih => simp [clN, ih]
    rw [e]; decide +kernel
  | i + 1, hi, b, hb => by
    by_cases h : b < 2 ^ i
    · exact mu_pr_upto a ha i (by omega) b h
    · have hp : 2 ^ (i + 1) = 2 * 2 ^ i := by rw [Nat.pow_succ]; omega
      have hr : b - 2 ^ i < 2 ^ i := by omega
      have e := top_xor i (by omega) (b - 2 ^ i) hr
      have hb' : 2 ^ i ^^^ (b - 2 ^ i) = b := by rw [e]; omega
      have h8 : 2 ^ i < 256 := Nat.lt_of_lt_of_le (Nat.pow_lt_pow_right (by decide) (show i < 8 by omega)) (by decide)
      rw [← hb', mu_add, pr_over a _ _ h8 (by omega), mu_basis a ha i (by omega), mu_pr_upto a ha i (by omega) _ hr]
theorem mu_pr (a b : Nat) (ha : a < 256) (hb : b < 256) : muN a b = prN a b := mu_pr_upto a ha 8 (Nat.le_refl _) b hb

/-- The document's inverse: k rounds: the number squared, and the product. -/
def inA (a : Nat) : Nat → Nat
  | 0 => a
  | k + 1 => prN (inA a k) (inA a k)
def inO (a : Nat) : Nat → Nat
  | 0 => 1
  | k + 1 => prN (inO a k) (inA a (k + 1))
theorem in_iv : ∀ a, a < 256 → a ≠ 0 → inO a 7 = ivN a := by decide +kernel
theorem inA_lt (a k : Nat) (h : a < 256) : inA a k < 256 := by
  cases k with
  | zero => exact h
  | succ k => exact pr_lt _ _
theorem inO_lt (a k : Nat) : inO a k < 256 := by
  cases k with
  | zero => show 1 < 256; decide
  | succ k => exact pr_lt _ _

/-- Bounds on the way. -/
theorem cl_lt (a b k : Nat) (ha : a < 256) : clN a b k < 2 ^ (8 + k) := by
  induction k with
  | zero => exact Nat.two_pow_pos 8
  | succ k ih =>
    have hp : 2 ^ (8 + k) ≤ 2 ^ (8 + (k + 1)) := Nat.pow_le_pow_right (by decide) (by omega)
    have hm : a * 2 ^ k < 2 ^ (8 + k) := by rw [Nat.pow_add]; exact Nat.mul_lt_mul_of_pos_right ha (Nat.two_pow_pos k)
    unfold clN
    split
    · exact Nat.xor_lt_two_pow (by omega) (by omega)
    · omega
theorem rd_lt (n k : Nat) (hn : n < 2 ^ 16) : rdN n k < 2 ^ 16 := by
  induction k with
  | zero => exact hn
  | succ k ih =>
    have hm : 285 * 2 ^ (6 - k) < 2 ^ 16 := by
      have : 2 ^ (6 - k) ≤ 2 ^ 6 := Nat.pow_le_pow_right (by decide) (by omega)
      omega
    unfold rdN
    split
    · exact Nat.xor_lt_two_pow ih hm
    · exact ih
end Go.Proofs.YtgchiamkeeljkaaGreatDoor.M
