/-
  The field in plain numbers: logarithms and powers by the program's two tables; products are those of a field. Nothing of the program's text is imported here.
-/
import Derived.Laws.BitsAllLaws
namespace Go.Proofs.YtgchiamkeeljkaaGreatDoor.M
open Go

def pows : List Int := [29, 58, 116, 232, 205, 135, 19, 38, 76, 152, 45, 90, 180, 117, 234, 201, 143, 3, 6, 12, 24, 48, 96, 192,
  157, 39, 78, 156, 37, 74, 148, 53, 106, 212, 181, 119, 238, 193, 159, 35, 70, 140, 5, 10, 20, 40, 80, 160,
  93, 186, 105, 210, 185, 111, 222, 161, 95, 190, 97, 194, 153, 47, 94, 188, 101, 202, 137, 15, 30, 60, 120, 240,
  253, 231, 211, 187, 107, 214, 177, 127, 254, 225, 223, 163, 91, 182, 113, 226, 217, 175, 67, 134, 17, 34, 68, 136,
  13, 26, 52, 104, 208, 189, 103, 206, 129, 31, 62, 124, 248, 237, 199, 147, 59, 118, 236, 197, 151, 51, 102, 204,
  133, 23, 46, 92, 184, 109, 218, 169, 79, 158, 33, 66, 132, 21, 42, 84, 168, 77, 154, 41, 82, 164, 85, 170,
  73, 146, 57, 114, 228, 213, 183, 115, 230, 209, 191, 99, 198, 145, 63, 126, 252, 229, 215, 179, 123, 246, 241, 255,
  227, 219, 171, 75, 150, 49, 98, 196, 149, 55, 110, 220, 165, 87, 174, 65, 130, 25, 50, 100, 200, 141, 7, 14,
  28, 56, 112, 224, 221, 167, 83, 166, 81, 162, 89, 178, 121, 242, 249, 239, 195, 155, 43, 86, 172, 69, 138, 9,
  18, 36, 72, 144, 61, 122, 244, 245, 247, 243, 251, 235, 203, 139, 11, 22, 44, 88, 176, 125, 250, 233, 207, 131,
  27, 54, 108, 216, 173, 71, 142]
def odds : List Int := [0, 25, 50, 198, 223, 238, 104, 75, 100, 14, 141, 129, 193, 248, 8, 113, 138, 47, 36, 33, 147, 218, 18, 69,
  181, 125, 39, 185, 154, 120, 228, 166, 191, 98, 221, 253, 152, 179, 145, 136, 208, 206, 150, 189, 210, 92, 56, 64,
  66, 163, 72, 110, 58, 84, 133, 61, 94, 159, 21, 43, 212, 172, 243, 87, 112, 247, 128, 13, 74, 237, 197, 24,
  165, 119, 184, 124, 68, 217, 32, 46, 63, 91, 188, 205, 135, 178, 252, 97, 86, 171, 42, 158, 60, 83, 109, 162,
  45, 216, 123, 118, 23, 236, 12, 246, 161, 82, 157, 170, 96, 177, 204, 90, 89, 176, 169, 81, 245, 235, 117, 215,
  174, 233, 231, 232, 214, 234, 80, 175]
def dbs : List Int := [0, 1, 56, 2, 57, 49, 28, 3, 61, 58, 42, 50, 38, 29, 17, 4, 62, 47, 59, 36, 45, 43, 51, 22,
  53, 39, 33, 30, 24, 18, 12, 5, 63, 55, 48, 27, 60, 41, 37, 16, 46, 35, 44, 21, 52, 32, 23, 11,
  54, 26, 40, 15, 34, 20, 31, 10, 25, 14, 19, 9, 13, 8, 7, 6]

/-- How many times 2 divides n (n from 1 to 255). -/
def tzN (n : Nat) : Nat := if n % 2 = 1 then 0 else if n % 4 = 2 then 1 else if n % 8 = 4 then 2 else if n % 16 = 8 then 3 else if n % 32 = 16 then 4 else if n % 64 = 32 then 5 else if n % 128 = 64 then 6 else 7
def oddN (n : Nat) : Nat := n / 2 ^ tzN n
def loN (n : Nat) : Nat := (odds.getD (oddN n / 2) 0).toNat
def lgN (n : Nat) : Nat := loN n + tzN n
def pwN (e : Nat) : Nat := if e % 255 < 8 then 2 ^ (e % 255) else (pows.getD (e % 255 - 8) 0).toNat
def prN (a b : Nat) : Nat := if a = 0 ∨ b = 0 then 0 else pwN (lgN a + lgN b)
def xt (x : Nat) : Nat := if 255 < x * 2 then (x * 2) ^^^ 285 else x * 2
def dbN (n : Nat) : Nat := 2 ^ tzN n * 285870213051353865 % 18446744073709551616 / 288230376151711744

theorem lg_all : ∀ n, n < 256 → n ≠ 0 → lgN n < 255 ∧ pwN (lgN n) = n := by decide +kernel
theorem pw_all : ∀ e, e < 255 → pwN e ≠ 0 ∧ pwN e < 256 ∧ lgN (pwN e) = e ∧ xt (pwN e) = pwN (e + 1) := by decide +kernel
theorem xt_add_all : ∀ x, x < 256 → ∀ y, y < 256 → xt (x ^^^ y) = xt x ^^^ xt y := by decide +kernel
theorem xt_lt_all : ∀ x, x < 256 → xt x < 256 := by decide +kernel

theorem pw_mod (e : Nat) : pwN (e % 255) = pwN e := by unfold pwN; rw [Nat.mod_mod]
theorem pw_ne (e : Nat) : pwN e ≠ 0 := by rw [← pw_mod]; exact (pw_all _ (Nat.mod_lt _ (by decide))).1
theorem pw_lt (e : Nat) : pwN e < 256 := by rw [← pw_mod]; exact (pw_all _ (Nat.mod_lt _ (by decide))).2.1
theorem lg_pw (e : Nat) : lgN (pwN e) = e % 255 := by rw [← pw_mod]; exact (pw_all _ (Nat.mod_lt _ (by decide))).2.2.1
theorem pw_add_mod (e f : Nat) : pwN (e % 255 + f) = pwN (e + f) := by
  rw [← pw_mod, ← pw_mod (e + f)]; congr 1; omega
theorem xt_pw (e : Nat) : xt (pwN e) = pwN (e + 1) := by
  rw [← pw_mod e, (pw_all _ (Nat.mod_lt _ (by decide))).2.2.2, pw_add_mod]
theorem pw_lg (n : Nat) (h : n < 256) (h0 : n ≠ 0) : pwN (lgN n) = n := (lg_all n h h0).2
theorem lg_lt (n : Nat) (h : n < 256) (h0 : n ≠ 0) : lgN n < 255 := (lg_all n h h0).1

theorem pr_lt (a b : Nat) : prN a b < 256 := by
  unfold prN; split
  · decide
  · exact pw_lt _
theorem pr_comm (a b : Nat) : prN a b = prN b a := by
  unfold prN
  rw [Nat.add_comm (lgN a)]
  by_cases h : a = 0 <;> by_cases h' : b = 0 <;> simp [h, h']
theorem pr_zero (a : Nat) : prN a 0 = 0 := by simp [prN]
theorem zero_pr (a : Nat) : prN 0 a = 0 := by simp [prN]
theorem pr_of (a b : Nat) (ha : a ≠ 0) (hb : b ≠ 0) : prN a b = pwN (lgN a + lgN b) := by simp [prN, ha, hb]
theorem pr_ne (a b : Nat) (ha : a ≠ 0) (hb : b ≠ 0) : prN a b ≠ 0 := by rw [pr_of a b ha hb]; exact pw_ne _
theorem pr_assoc (a b c : Nat) : prN (prN a b) c = prN a (prN b c) := by
  by_cases ha : a = 0
  · subst ha; simp [zero_pr]
  by_cases hb : b = 0
  · subst hb; simp [zero_pr, pr_zero]
  by_cases hc : c = 0
  · subst hc; simp [pr_zero]
  rw [pr_of _ c (pr_ne a b ha hb) hc, pr_of a _ ha (pr_ne b c hb hc), pr_of a b ha hb, pr_of b c hb hc, lg_pw, lg_pw, pw_add_mod, Nat.add_comm (lgN a) ((lgN b + lgN c) % 255), pw_add_mod]
  congr 1; omega
theorem pr_one (a : Nat) (h : a < 256) : prN a 1 = a := by
  by_cases ha : a = 0
  · subst ha; simp [zero_pr]
  · rw [pr_of a 1 ha (by decide), show lgN 1 = 0 from by decide +kernel, Nat.add_zero, pw_lg a h ha]
theorem pr_two (a : Nat) (h : a < 256) : prN a 2 = xt a := by
  by_cases ha : a = 0
  · subst ha; decide +kernel
  · rw [pr_of a 2 ha (by decide), show lgN 2 = 1 from by decide +kernel, ← xt_pw, pw_lg a h ha]

def xts : Nat → Nat → Nat
  | 0, x => x
  | k + 1, x => xt (xts k x)
theorem xts_lt (k x : Nat) (h : x < 256) : xts k x < 256 := by
  induction k with
  | zero => exact h
  | succ k ih => exact xt_lt_all _ ih
theorem xts_zero (k : Nat) : xts k 0 = 0 := by
  induction k with
  | zero => rfl
  | succ k ih => show xt (xts k 0) = 0; rw [ih]; decide
theorem xts_pw (k e : Nat) : xts k (pwN e) = pwN (e + k) := by
  induction k with
  | zero => rfl
  | succ k ih => show xt (xts k (pwN e)) = _; rw [ih, xt_pw]; rfl
theorem xor_lt (x y : Nat) (hx : x < 256) (hy : y < 256) : x ^^^ y < 256 := Nat.xor_lt_two_pow (n := 8) hx hy
theorem xts_add (k x y : Nat) (hx : x < 256) (hy : y < 256) : xts k (x ^^^ y) = xts k x ^^^ xts k y := by
  induction k with
  | zero => rfl
  | succ k ih => show xt (xts k (x ^^^ y)) = _; rw [ih, xt_add_all _ (xts_lt k x hx) _ (xts_lt k y hy)]; rfl
theorem pr_xts (a b : Nat) (hb : b < 256) (ha : a ≠ 0) : prN a b = xts (lgN a) b := by
  by_cases h0 : b = 0
  · subst h0; rw [pr_zero, xts_zero]
  · rw [pr_of a b ha h0]
    conv => rhs; rw [← pw_lg b hb h0]
    rw [xts_pw, Nat.add_comm]
theorem pr_over (a b c : Nat) (hb : b < 256) (hc : c < 256) : prN a (b ^^^ c) = prN a b ^^^ prN a c := by
  by_cases ha : a = 0
  · subst ha; simp [zero_pr]
  · rw [pr_xts a _ (xor_lt b c hb hc) ha, pr_xts a b hb ha, pr_xts a c hc ha, xts_add _ _ _ hb hc]
def ivN (a : Nat) : Nat := pwN (255 - lgN a)
theorem iv_lt (a : Nat) : ivN a < 256 := pw_lt _
theorem pr_iv (a : Nat) (h : a < 256) (h0 : a ≠ 0) : prN a (ivN a) = 1 := by
  have hl := lg_lt a h h0
  unfold ivN
  rw [pr_of a _ h0 (pw_ne _), lg_pw, Nat.add_comm, pw_add_mod, show 255 - lgN a + lgN a = 255 from by omega]
  decide +kernel

end Go.Proofs.YtgchiamkeeljkaaGreatDoor.M
