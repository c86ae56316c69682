/-
  Plain facts of numbers, behind Gf: pick, xor, products, inverses.
-/
import Derived.Test.YtgchiamkeeljkaaGreatDoorGf
import Derived.Test.YtgchiamkeeljkaaGreatDoorNum
namespace Go.Proofs.YtgchiamkeeljkaaGreatDoor
open Go.RowKit Go.Proofs.YtgchiamkeeljkaaGreatDoor.M

def xoI (a b : Int) : Int := (a.toNat ^^^ b.toNat : Nat)
theorem xo_of (a b : Int) (h1 : 0 ≤ a) (h2 : a ≤ 65535) (h3 : 0 ≤ b) (h4 : b ≤ 65535) : bits .xor .i64 a b = xoI a b := by
  obtain ⟨m, rfl⟩ := Int.eq_ofNat_of_zero_le h1
  obtain ⟨n, rfl⟩ := Int.eq_ofNat_of_zero_le h3
  rw [i64_xor_nat m n (by omega) (by omega), xoI, Int.toNat_natCast, Int.toNat_natCast]
theorem xo_bd (a b : Int) (h2 : a ≤ 255) (h4 : b ≤ 255) : 0 ≤ xoI a b ∧ xoI a b ≤ 255 := by
  have := xor_lt a.toNat b.toNat (by omega) (by omega)
  unfold xoI; omega
theorem pr_bd (a b : Int) : 0 ≤ prI a b ∧ prI a b ≤ 255 := by
  have := pr_lt a.toNat b.toNat
  unfold prI; omega
theorem prI_nat (a b : Nat) : prI (a : Int) (b : Int) = (prN a b : Nat) := by rw [prI, Int.toNat_natCast, Int.toNat_natCast]

theorem ax_facts (a b c : Int) (a1 : 0 ≤ a) (a2 : a ≤ 255) (b1 : 0 ≤ b) (b2 : b ≤ 255) (c1 : 0 ≤ c) (c2 : c ≤ 255) :
    (prI a b != prI b a) = false ∧ (prI (prI a b) c != prI a (prI b c)) = false ∧ (prI a (xoI b c) != xoI (prI a b) (prI a c)) = false ∧
    (prI a 1 != a) = false ∧ (prI a 0 != 0) = false ∧ (prI a 2 != if 255 < a * 2 then xoI (a * 2) 285 else a * 2) = false ∧ (1 ≤ a → (prI a (ivI a) == 1) = true) := by
  obtain ⟨m, rfl⟩ := Int.eq_ofNat_of_zero_le a1
  obtain ⟨n, rfl⟩ := Int.eq_ofNat_of_zero_le b1
  obtain ⟨k, rfl⟩ := Int.eq_ofNat_of_zero_le c1
  simp only [bne_eq_false_iff_eq, beq_iff_eq]
  refine ⟨?_, ?_, ?_, ?_, ?_, ?_, fun h => ?_⟩
  · rw [prI_nat, prI_nat, pr_comm]
  · rw [prI_nat, prI_nat, prI_nat, prI_nat, pr_assoc]
  · rw [xoI, xoI, Int.toNat_natCast, Int.toNat_natCast, prI_nat, prI_nat, prI_nat, Int.toNat_natCast, Int.toNat_natCast, pr_over m n k (by omega) (by omega)]
  · rw [show (1 : Int) = ((1 : Nat) : Int) from rfl, prI_nat, pr_one m (by omega)]
  · rw [show (0 : Int) = ((0 : Nat) : Int) from rfl, prI_nat, pr_zero]
  · rw [show (2 : Int) = ((2 : Nat) : Int) from rfl, prI_nat, pr_two m (by omega), xt, xoI, show ((m : Int) * ((2 : Nat) : Int)).toNat = m * 2 from by omega, show (285 : Int).toNat = 285 from rfl]
    by_cases h : 255 < m * 2
    · rw [if_pos h, if_pos (by omega)]
    · rw [if_neg h, if_neg (by omega)]; omega
  · rw [ivI, Int.toNat_natCast, prI_nat, pr_iv m (by omega) (by omega)]; rfl
theorem iv_bd (a : Int) : 0 ≤ ivI a ∧ ivI a ≤ 255 := by
  have := iv_lt a.toNat
  unfold ivI; omega

end Go.Proofs.YtgchiamkeeljkaaGreatDoor
