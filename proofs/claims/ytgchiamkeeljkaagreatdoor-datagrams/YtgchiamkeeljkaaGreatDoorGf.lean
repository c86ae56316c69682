/-
  The calls of package gf: what each does, in the words of the plain numbers.
-/
import Derived.Test.YtgchiamkeeljkaaGreatDoorRows
import Derived.Test.YtgchiamkeeljkaaGreatDoorMath
import Derived.WalkKit
import Derived.WalkSpells
import Derived.WalkLawsBesides
import Derived.OpenShut
namespace Go.Proofs.YtgchiamkeeljkaaGreatDoor
open Go.RowKit Go.Proofs.YtgchiamkeeljkaaGreatDoor.M

/-- The tables' cells, as the program's text lays them. -/
def Tabs (w : World) : Prop := (∀ i : Nat, i < 247 → w.cell? ⟨0, i, none⟩ = some (.int .u8 (pows.getD i 0))) ∧ (∀ i : Nat, i < 128 → w.cell? ⟨1, i, none⟩ = some (.int .u8 (odds.getD i 0))) ∧ (∀ i : Nat, i < 64 → w.cell? ⟨3, i, none⟩ = some (.int .u8 (dbs.getD i 0)))

def tzI (x : Int) : Int := (tzN x.toNat : Nat)
def dbI (x : Int) : Int := (dbN x.toNat : Nat)
def oddI (x : Int) : Int := (oddN x.toNat : Nat)
def loI (x : Int) : Int := (loN x.toNat : Nat)
def lgI (x : Int) : Int := (lgN x.toNat : Nat)
def pwI (x : Int) : Int := (pwN x.toNat : Nat)
def prI (x y : Int) : Int := (prN x.toNat y.toNat : Nat)
def ivI (x : Int) : Int := (ivN x.toNat : Nat)

theorem ret_int {k : IntKind} {a b : Int} (h : a = b) : Ending.returned (.int k a) = .returned (.int k b) := by rw [h]
theorem db_all : ∀ n : Nat, n < 256 → n ≠ 0 → (n &&& (18446744073709551616 - n)) * 285870213051353865 % 18446744073709551616 / 288230376151711744 = dbN n ∧ dbN n < 64 ∧ dbs.getD (dbN n) 0 = (tzN n : Int) ∧ tzN n ≤ 7 := by decide +kernel
theorem db_left (n : Nat) (h : n < 256) (h0 : n ≠ 0) : IntKind.u64.wrap (bits .and .u64 (n : Int) (IntKind.u64.wrap (-(n : Int))) * 285870213051353865) / 288230376151711744 = (((n &&& (18446744073709551616 - n)) * 285870213051353865 % 18446744073709551616 / 288230376151711744 : Nat) : Int) := by
  have e : IntKind.u64.wrap (-(n : Int)) = ((18446744073709551616 - n : Nat) : Int) := by rw [IntKind.wrap_u64]; omega
  rw [e, u64_and_nat n (18446744073709551616 - n) (by omega) (by omega), IntKind.wrap_u64]
  generalize (n &&& (18446744073709551616 - n)) = k
  omega
theorem dbI_nat (n : Nat) : dbI (n : Int) = (dbN n : Int) := by rw [dbI, Int.toNat_natCast]
theorem tzI_nat (n : Nat) : tzI (n : Int) = (tzN n : Int) := by rw [tzI, Int.toNat_natCast]
theorem db_of_nat (n : Nat) (h1 : n < 256) (h2 : n ≠ 0) : IntKind.u64.wrap (bits .and .u64 (n : Int) (IntKind.u64.wrap (-(n : Int))) * 285870213051353865) / 288230376151711744 = dbI n ∧ 0 ≤ dbI n ∧ dbI n < 64 ∧ dbs.getD (dbI n).toNat 0 = tzI n ∧ 0 ≤ tzI n ∧ tzI n ≤ 7 := by
  obtain ⟨e1, e2, e3, e4⟩ := db_all n h1 h2
  rw [dbI_nat, tzI_nat, Int.toNat_natCast, db_left n h1 h2, e1]
  generalize dbN n = D at *
  exact ⟨rfl, Int.natCast_nonneg _, Int.ofNat_lt.2 e2, e3, Int.natCast_nonneg _, Int.ofNat_le.2 e4⟩
theorem db_of (x : Int) (h1 : 1 ≤ x) (h2 : x ≤ 255) : IntKind.u64.wrap (bits .and .u64 x (IntKind.u64.wrap (-x)) * 285870213051353865) / 288230376151711744 = dbI x ∧ 0 ≤ dbI x ∧ dbI x < 64 ∧ dbs.getD (dbI x).toNat 0 = tzI x ∧ 0 ≤ tzI x ∧ tzI x ≤ 7 := by
  obtain ⟨n, rfl⟩ := Int.eq_ofNat_of_zero_le (show 0 ≤ x by omega)
  exact db_of_nat n (by omega) (by omega)
theorem odd_all : ∀ n, n < 256 → n ≠ 0 → oddN n ≤ 255 ∧ odds.getD (oddN n / 2) 0 = (loN n : Int) ∧ loN n ≤ 254 := by decide +kernel
theorem odd_of (x : Int) (h1 : 1 ≤ x) (h2 : x ≤ 255) : x / 2 ^ (tzI x).toNat = oddI x ∧ 0 ≤ oddI x ∧ oddI x ≤ 255 ∧ odds.getD (oddI x / 2).toNat 0 = loI x ∧ 0 ≤ loI x ∧ loI x ≤ 254 ∧ lgI x = loI x + tzI x ∧ 0 ≤ lgI x ∧ lgI x < 255 := by
  obtain ⟨n, rfl⟩ := Int.eq_ofNat_of_zero_le (show 0 ≤ x by omega)
  obtain ⟨e1, e2, e3⟩ := odd_all n (by omega) (by omega)
  have e4 := lg_lt n (by omega) (by omega)
  have r1 : oddI (n : Int) = (oddN n : Int) := rfl
  have r2 : tzI (n : Int) = (tzN n : Int) := rfl
  have r3 : loI (n : Int) = (loN n : Int) := rfl
  have r4 : lgI (n : Int) = (lgN n : Int) := rfl
  rw [r1, r2, r3, r4]
  refine ⟨?_, by omega, by omega, ?_, by omega, by omega, ?_, by omega, by omega⟩
  · rw [oddN]; simp
  · rw [show ((oddN n : Int) / 2).toNat = oddN n / 2 from by omega]; exact e2
  · rw [lgN]; simp

set_option maxHeartbeats 400000 in
theorem tz64_any (x : Int) (w : World) (hT : Tabs w) (h1 : 1 ≤ x) (h2 : x ≤ 255) :
    Calls Tryz.prog 149 #[.int .u64 x] w fun e w' => e = .returned (.int .i64 (tzI x)) ∧ w' = w := by
  obtain ⟨e1, e2, e3, e4, e5, e6⟩ := db_of x h1 h2
  have hc : w.cell? ⟨3, (dbI x).toNat, none⟩ = some (.int .u8 (tzI x)) := by rw [hT.2.2 _ (by omega), e4]
  have hx : (x == 0) = false := by simp; omega
  clear e4 hT
  go_enter Tryz.func149, Tryz.ntmps149
  go_wp2
  go_ret
  exact ⟨rfl, rfl⟩
set_option maxHeartbeats 400000 in
theorem tz_any (x : Int) (w : World) (hT : Tabs w) (h1 : 1 ≤ x) (h2 : x ≤ 255) :
    Calls Tryz.prog 127 #[.int .u64 x] w fun e w' => e = .returned (.int .i64 (tzI x)) ∧ w' = w := by
  go_enter Tryz.func127, Tryz.ntmps127
  go_wp2_with (go_at_call 149; refine (tz64_any _ _ hT (by omega) (by omega)).mono ?_; rintro e w' ⟨rfl, rfl⟩)
  go_ret
  exact ⟨rfl, rfl⟩
set_option maxHeartbeats 400000 in
theorem lg_any (x : Int) (w : World) (hT : Tabs w) (h1 : 1 ≤ x) (h2 : x ≤ 255) :
    Calls Tryz.prog 98 #[.int .i64 x] w fun e w' => e = .returned (.int .i64 (lgI x)) ∧ w' = w := by
  obtain ⟨e1, e2, e3, e4, e5, e6, e7, e8, e9⟩ := odd_of x h1 h2
  obtain ⟨_, _, _, _, e10, e11⟩ := db_of x h1 h2
  have hc : w.cell? ⟨1, (oddI x / 2).toNat, none⟩ = some (.int .u8 (loI x)) := by rw [hT.2.1 _ (by omega), e4]
  have E7 : Hid (lgI x = loI x + tzI x) := e7
  clear e4 e7
  go_enter Tryz.func98, Tryz.ntmps98
  go_wp2_with (go_at_call 127; refine (tz_any _ _ hT (by omega) (by omega)).mono ?_; rintro e w' ⟨rfl, rfl⟩)
  go_ret
  exact ⟨ret_int E7.out.symm, rfl⟩
theorem pow_small : ∀ e, e < 8 → ((2 : Int) ^ e = (pwN e : Int)) := by decide +kernel
theorem pow_large : ∀ e, e < 255 → 8 ≤ e → pows.getD (e - 8) 0 = (pwN e : Int) := by decide +kernel
theorem wrap64_of (x : Int) (h1 : 0 ≤ x) (h2 : x ≤ 255) : wrap64 x = x := by unfold wrap64; omega
theorem pw_of (x : Int) (h1 : 0 ≤ x) : (x % 255 < 8 → wrap64 (2 ^ (x % 255).toNat) = pwI x) ∧ (8 ≤ x % 255 → pows.getD (x % 255 - 8).toNat 0 = pwI x) ∧ 0 ≤ pwI x ∧ pwI x ≤ 255 := by
  obtain ⟨n, rfl⟩ := Int.eq_ofNat_of_zero_le h1
  have hp : pwI (n : Int) = (pwN (n % 255) : Nat) := by rw [pwI, Int.toNat_natCast, pw_mod]
  have hl := pw_lt (n % 255)
  have t : ((n : Int) % 255).toNat = n % 255 := by omega
  rw [hp, t]
  refine ⟨fun h => ?_, fun h => ?_, by omega, by omega⟩
  · rw [pow_small (n % 255) (by omega), wrap64_of _ (by omega) (by omega)]
  · rw [show ((n : Int) % 255 - 8).toNat = n % 255 - 8 from by omega, pow_large (n % 255) (Nat.mod_lt _ (by decide)) (by omega)]
set_option maxHeartbeats 400000 in
theorem pw_any (x : Int) (w : World) (hT : Tabs w) (h1 : 0 ≤ x) (h2 : x ≤ 1000) :
    Calls Tryz.prog 97 #[.int .i64 x] w fun e w' => e = .returned (.int .i64 (pwI x)) ∧ w' = w := by
  obtain ⟨p1, p2, p3, p4⟩ := pw_of x h1
  by_cases h : x % 255 < 8
  · have HP : Hid (wrap64 (2 ^ (x % 255).toNat) = pwI x) := p1 h
    clear p1 p2 hT
    go_enter Tryz.func97, Tryz.ntmps97
    go_wp2
    go_ret
    exact ⟨ret_int HP.out, rfl⟩
  · have hc : w.cell? ⟨0, (x % 255 - 8).toNat, none⟩ = some (.int .u8 (pwI x)) := by
      rw [hT.1 _ (by omega), p2 (by omega)]
    clear hT p1 p2
    go_enter Tryz.func97, Tryz.ntmps97
    go_wp2
    go_ret
    exact ⟨rfl, rfl⟩
theorem lg_bd (x : Int) (h1 : 1 ≤ x) (h2 : x ≤ 255) : 0 ≤ lgI x ∧ lgI x < 255 := by
  obtain ⟨_, _, _, _, _, _, _, e8, e9⟩ := odd_of x h1 h2
  exact ⟨e8, e9⟩
theorem pr_is (a b : Int) (h1 : 1 ≤ a) (h2 : a ≤ 255) (h3 : 1 ≤ b) (h4 : b ≤ 255) : pwI (lgI a + lgI b) = prI a b := by
  obtain ⟨m, rfl⟩ := Int.eq_ofNat_of_zero_le (show 0 ≤ a by omega)
  obtain ⟨n, rfl⟩ := Int.eq_ofNat_of_zero_le (show 0 ≤ b by omega)
  rw [show prI (m : Int) (n : Int) = (prN m n : Nat) from rfl, pr_of m n (by omega) (by omega)]
  rfl
set_option maxHeartbeats 400000 in
theorem pr_any (a b : Int) (w : World) (hT : Tabs w) (h1 : 0 ≤ a) (h2 : a ≤ 255) (h3 : 0 ≤ b) (h4 : b ≤ 255) :
    Calls Tryz.prog 94 #[.int .i64 a, .int .i64 b] w fun e w' => e = .returned (.int .i64 (prI a b)) ∧ w' = w := by
  by_cases ha : a = 0
  · subst ha
    go_enter Tryz.func94, Tryz.ntmps94
    go_wp2
    go_ret
    exact ⟨ret_int (by simp [prI, zero_pr]), rfl⟩
  · have ha' : (a == 0) = false := by simpa using ha
    by_cases hb : b = 0
    · subst hb
      go_enter Tryz.func94, Tryz.ntmps94
      go_wp2
      go_ret
      exact ⟨ret_int (by simp [prI, pr_zero]), rfl⟩
    · have hb' : (b == 0) = false := by simpa using hb
      have HP : Hid (pwI (lgI a + lgI b) = prI a b) := pr_is a b (by omega) h2 (by omega) h4
      obtain ⟨l1, l2⟩ := lg_bd a (by omega) h2
      obtain ⟨l3, l4⟩ := lg_bd b (by omega) h4
      go_enter Tryz.func94, Tryz.ntmps94
      go_wp2_with (first | (go_at_call 98; refine (lg_any _ _ hT (by omega) (by omega)).mono ?_; rintro e w' ⟨rfl, rfl⟩) | (go_at_call 97; refine (pw_any _ _ hT (by omega) (by omega)).mono ?_; rintro e w' ⟨rfl, rfl⟩))
      go_ret
      exact ⟨ret_int HP.out, rfl⟩
theorem isnum_yes (a : Int) (w : World) (h1 : 0 ≤ a) (h2 : a ≤ 255) :
    Calls Tryz.prog 93 #[.int .i64 a] w fun e w' => e = .returned (.bool true) ∧ w' = w := by
  go_enter Tryz.func93, Tryz.ntmps93
  go_wp2
  go_ret
  exact ⟨by simp, rfl⟩
theorem isnum_no (a : Int) (w : World) (h : ¬ (0 ≤ a ∧ a ≤ 255)) :
    Calls Tryz.prog 93 #[.int .i64 a] w fun e w' => e = .returned (.bool false) ∧ w' = w := by
  by_cases h1 : 0 ≤ a
  · have h2 : ¬ a ≤ 255 := fun h' => h ⟨h1, h'⟩
    clear h
    go_enter Tryz.func93, Tryz.ntmps93
    go_wp2
    go_ret
    exact ⟨by simp, rfl⟩
  · clear h
    go_enter Tryz.func93, Tryz.ntmps93
    go_wp2
    go_ret
    exact ⟨by simp, rfl⟩
def numB (a : Int) : Bool := decide (0 ≤ a ∧ a ≤ 255)
theorem num_yes (a : Int) (h1 : 0 ≤ a) (h2 : a ≤ 255) : numB a = true := by simp [numB]; omega
theorem num_no (a : Int) (h : ¬ (0 ≤ a ∧ a ≤ 255)) : numB a = false := by simp only [numB, decide_eq_false_iff_not]; exact h
theorem isnum_any (a : Int) (w : World) :
    Calls Tryz.prog 93 #[.int .i64 a] w fun e w' => e = .returned (.bool (numB a)) ∧ w' = w := by
  by_cases h : 0 ≤ a ∧ a ≤ 255
  · rw [num_yes a h.1 h.2]; exact isnum_yes a w h.1 h.2
  · rw [num_no a h]; exact isnum_no a w h
set_option maxHeartbeats 400000 in
theorem mul_yes (a b : Int) (w : World) (hT : Tabs w) (h1 : 0 ≤ a) (h2 : a ≤ 255) (h3 : 0 ≤ b) (h4 : b ≤ 255) :
    Calls Tryz.prog 52 #[.int .i64 a, .int .i64 b] w fun e w' => e = .returned (.tuple #[.int .i64 (prI a b), .int .i64 0]) ∧ w' = w := by
  have na := num_yes a h1 h2
  have nb := num_yes b h3 h4
  go_enter Tryz.func52, Tryz.ntmps52
  go_wp2_with (first | (go_at_call 93; refine (isnum_any _ _).mono ?_; rintro e w' ⟨rfl, rfl⟩) | (go_at_call 94; refine (pr_any _ _ _ hT h1 h2 h3 h4).mono ?_; rintro e w' ⟨rfl, rfl⟩))
  go_ret2
  exact ⟨rfl, rfl⟩
set_option maxHeartbeats 400000 in
theorem mul_no (a b : Int) (w : World) (h : numB a = false ∨ numB b = false) :
    Calls Tryz.prog 52 #[.int .i64 a, .int .i64 b] w fun e w' => e = .returned (.tuple #[.int .i64 0, .int .i64 1]) ∧ w' = w := by
  by_cases ha : numB a = true
  · have hb : numB b = false := by simpa [ha] using h
    clear h
    go_enter Tryz.func52, Tryz.ntmps52
    go_wp2_with (go_at_call 93; refine (isnum_any _ _).mono ?_; rintro e w' ⟨rfl, rfl⟩)
    go_ret2
    exact ⟨rfl, rfl⟩
  · clear h
    have ha' : numB a = false := by simpa using ha
    clear ha
    go_enter Tryz.func52, Tryz.ntmps52
    go_wp2_with (go_at_call 93; refine (isnum_any _ _).mono ?_; rintro e w' ⟨rfl, rfl⟩)
    go_ret2
    exact ⟨rfl, rfl⟩
set_option maxHeartbeats 400000 in
theorem inv_yes (a : Int) (w : World) (hT : Tabs w) (h1 : 1 ≤ a) (h2 : a ≤ 255) :
    Calls Tryz.prog 54 #[.int .i64 a] w fun e w' => e = .returned (.tuple #[.int .i64 (ivI a), .int .i64 0]) ∧ w' = w := by
  have ha' : (a == 0) = false := by simp; omega
  have na := num_yes a (by omega) h2
  obtain ⟨l1, l2⟩ := lg_bd a h1 h2
  have HI : Hid (pwI (255 - lgI a) = ivI a) := by
    obtain ⟨n, rfl⟩ := Int.eq_ofNat_of_zero_le (show 0 ≤ a by omega)
    show pwI (255 - (lgN n : Int)) = (pwN (255 - lgN n) : Nat)
    rw [show lgI (n : Int) = (lgN n : Int) from rfl] at l2
    rw [pwI, show (255 - (lgN n : Int)).toNat = 255 - lgN n from by omega]
  go_enter Tryz.func54, Tryz.ntmps54
  go_wp2_with (first | (go_at_call 93; refine (isnum_any _ _).mono ?_; rintro e w' ⟨rfl, rfl⟩) | (go_at_call 98; refine (lg_any _ _ hT h1 h2).mono ?_; rintro e w' ⟨rfl, rfl⟩) | (go_at_call 97; refine (pw_any _ _ hT (by omega) (by omega)).mono ?_; rintro e w' ⟨rfl, rfl⟩))
  go_ret2
  exact ⟨by rw [← HI.out]; rfl, rfl⟩
set_option maxHeartbeats 400000 in
theorem inv_no (a : Int) (w : World) (h : ¬ (1 ≤ a ∧ a ≤ 255)) :
    Calls Tryz.prog 54 #[.int .i64 a] w fun e w' => e = .returned (.tuple #[.int .i64 0, .int .i64 1]) ∧ w' = w := by
  by_cases ha : a = 0
  · subst ha
    clear h
    have na : numB 0 = true := rfl
    go_enter Tryz.func54, Tryz.ntmps54
    go_wp2_with (go_at_call 93; refine (isnum_any _ _).mono ?_; rintro e w' ⟨rfl, rfl⟩)
    go_ret2
    exact ⟨rfl, rfl⟩
  · have na : numB a = false := num_no a (fun x => h (by omega))
    clear h ha
    go_enter Tryz.func54, Tryz.ntmps54
    go_wp2_with (go_at_call 93; refine (isnum_any _ _).mono ?_; rintro e w' ⟨rfl, rfl⟩)
    go_ret2
    exact ⟨rfl, rfl⟩
end Go.Proofs.YtgchiamkeeljkaaGreatDoor
