/-
  Numbers in bytes, the sum, what Put makes and what Get takes, as plain mathematics: nothing here walks the program.
-/
import Derived.Test.YtgchiamkeeljkaaGreatDoorMem
namespace Go.Proofs.YtgchiamkeeljkaaGreatDoor
open Go Go.RowKit

/-- The i-th byte of a text, as a number. -/
def byteI (s : ByteArray) (i : Nat) : Int := (((s.data.toList.getD i 0).toNat : Nat) : Int)
theorem byteI_bd (s : ByteArray) (i : Nat) : 0 ≤ byteI s i ∧ byteI s i ≤ 255 := by
  have := (s.data.toList.getD i 0).toNat_lt
  unfold byteI; omega
theorem byteI_at (s : ByteArray) (i : Nat) (h : i < s.size) : ((s[i]'h).toNat : Int) = byteI s i := by
  have h' : i < s.data.toList.length := by rw [← Lib.size_eq]; exact h
  rw [byteI, List.getD_eq_getElem?_getD, List.getElem?_eq_getElem h', Option.getD_some]
  rfl
/-- The lowest k bytes of a number, the highest first. -/
def lowL (n : Nat) : Nat → List UInt8
  | 0 => []
  | k + 1 => UInt8.ofNat (n / 256 ^ k % 256) :: lowL n k
def lowS (n k : Nat) : ByteArray := ⟨(lowL n k).toArray⟩
theorem lowL_length (n k : Nat) : (lowL n k).length = k := by
  induction k with
  | zero => rfl
  | succ k ih => simp [lowL, ih]
theorem lowS_size (n k : Nat) : (lowS n k).size = k := by rw [Lib.size_eq]; exact lowL_length n k
/-- One byte, as a text. -/
def oneS (b : Nat) : ByteArray := ⟨#[UInt8.ofNat b]⟩
theorem lowS_succ (n k : Nat) : oneS (n / 256 ^ k % 256) ++ lowS n k = lowS n (k + 1) := by
  apply ByteArray.ext
  show (oneS (n / 256 ^ k % 256) ++ lowS n k).data = _
  rw [ByteArray.data_append]
  simp [oneS, lowS, lowL]
/-- One step of the sum. -/
def sumStep (h b : Nat) : Nat := (h ^^^ b) * 16777619 % 4294967296
def sumFrom (h : Nat) : List UInt8 → Nat
  | [] => h
  | b :: r => sumFrom (sumStep h b.toNat) r
def sumOf (s : ByteArray) : Nat := sumFrom 2166136261 s.data.toList
theorem sumFrom_snoc (l : List UInt8) (b : UInt8) : ∀ h, sumFrom h (l ++ [b]) = sumStep (sumFrom h l) b.toNat := by
  induction l with
  | nil => intro h; rfl
  | cons x r ih => intro h; exact ih _
theorem sumFrom_lt : ∀ (l : List UInt8) (h : Nat), h < 4294967296 → sumFrom h l < 4294967296
  | [], _, hh => hh
  | _ :: r, _, _ => sumFrom_lt r _ (Nat.mod_lt _ (by decide))
/-- The number in bytes i up to i + k. -/
def valOf (l : List UInt8) (i : Nat) : Nat → Nat
  | 0 => 0
  | k + 1 => valOf l i k * 256 + (l.getD (i + k) 0).toNat
theorem oneS_size (b : Nat) : (oneS b).size = 1 := rfl
theorem pow_step (n j : Nat) : n / 256 ^ j / 256 = n / 256 ^ (j + 1) := by rw [Nat.div_div_eq_div_mul, Nat.pow_succ]
theorem valOf_lt (l : List UInt8) (i k : Nat) : valOf l i k < 256 ^ k := by
  induction k with
  | zero => exact Nat.one_pos
  | succ k ih =>
    have := (l.getD (i + k) 0).toNat_lt
    rw [valOf, Nat.pow_succ]; omega
/-- May a configuration be? -/
def rightB (K M S W P X R : Int) : Bool := decide (1 ≤ K ∧ K ≤ 255 ∧ 0 ≤ M ∧ M ≤ 255 - K ∧ 1 ≤ S ∧ S ≤ 1024 ∧ 1 ≤ W ∧ W ≤ 16 ∧ 1 ≤ P ∧ P ≤ 16 ∧ 1 ≤ X ∧ X ≤ 16 ∧ 0 ≤ R ∧ R ≤ 16)
theorem right_no (K M S W P X R : Int) (h : ¬ (1 ≤ K ∧ K ≤ 255 ∧ 0 ≤ M ∧ M ≤ 255 - K ∧ 1 ≤ S ∧ S ≤ 1024 ∧ 1 ≤ W ∧ W ≤ 16 ∧ 1 ≤ P ∧ P ≤ 16 ∧ 1 ≤ X ∧ X ≤ 16 ∧ 0 ≤ R ∧ R ≤ 16)) : rightB K M S W P X R = false := by
  unfold rightB; exact decide_eq_false h
def bodyS (K M S B I N : Int) (s : ByteArray) : ByteArray := (((((((⟨#[87]⟩ : ByteArray) ++ lowS 1 1) ++ lowS B.toNat 4) ++ lowS I.toNat 1) ++ lowS K.toNat 1) ++ lowS M.toNat 1) ++ lowS S.toNat 2) ++ lowS N.toNat 4 ++ s
def putS (K M S B I N : Int) (s : ByteArray) : ByteArray := bodyS K M S B I N s ++ lowS (sumOf (bodyS K M S B I N s)) 4
def putB (K M S W P X R B I N : Int) (s : ByteArray) : Bool := rightB K M S W P X R && decide (0 ≤ B ∧ B ≤ 2147483647 ∧ 0 ≤ I ∧ I < K + M ∧ 0 ≤ N ∧ N ≤ K * S ∧ (s.size : Int) = S)
theorem right_bd {K M S W P X R : Int} (h : rightB K M S W P X R = true) : 1 ≤ K ∧ K ≤ 255 ∧ 0 ≤ M ∧ M ≤ 255 - K ∧ 1 ≤ S ∧ S ≤ 1024 ∧ 0 ≤ K * S ∧ K * S ≤ 261120 := by
  have := of_decide_eq_true h
  refine ⟨by omega, by omega, by omega, by omega, by omega, by omega, Int.mul_nonneg (by omega) (by omega), ?_⟩
  have h1 : K * S ≤ 255 * S := Int.mul_le_mul_of_nonneg_right (by omega) (by omega)
  omega
theorem bodyS_size (K M S B I N : Int) (s : ByteArray) : (bodyS K M S B I N s).size = s.size + 15 := by
  simp only [bodyS, ByteArray.size_append, lowS_size]
  show 1 + 1 + 4 + 1 + 1 + 1 + 2 + 4 + s.size = _
  omega
theorem lowL_back (n k : Nat) : lowL n (k + 1) = lowL (n / 256) k ++ [UInt8.ofNat (n % 256)] := by
  induction k with
  | zero => simp [lowL]
  | succ k ih =>
    rw [lowL, ih, lowL]
    simp only [List.cons_append, List.cons.injEq, and_true]
    rw [Nat.div_div_eq_div_mul, Nat.pow_succ, Nat.mul_comm]
theorem lowL_val (l : List UInt8) (i : Nat) : ∀ k, i + k ≤ l.length → lowL (valOf l i k) k = (l.drop i).take k
  | 0, _ => by simp [lowL]
  | k + 1, h => by
    have hb := (l.getD (i + k) 0).toNat_lt
    have hk : i + k < l.length := by omega
    have e1 : (valOf l i k * 256 + (l.getD (i + k) 0).toNat) / 256 = valOf l i k := by omega
    have e2 : (valOf l i k * 256 + (l.getD (i + k) 0).toNat) % 256 = (l.getD (i + k) 0).toNat := by omega
    rw [lowL_back, valOf, e1, e2, lowL_val l i k (by omega), UInt8.ofNat_toNat, List.getD_eq_getElem?_getD, List.getElem?_eq_getElem hk, Option.getD_some, List.take_succ_eq_append_getElem (by simp; omega)]
    simp
theorem lowS_val (s : ByteArray) (i k : Nat) (h : i + k ≤ s.size) : (lowS (valOf s.data.toList i k) k).data.toList = (s.data.toList.drop i).take k := lowL_val _ i k (by rw [← Lib.size_eq]; exact h)
theorem cut_at {α : Type} (l : List α) (a b : Nat) : l.drop a = (l.drop a).take b ++ l.drop (a + b) := by
  conv => lhs; rw [← List.take_append_drop b (l.drop a)]
  rw [List.drop_drop]
theorem bytes_ext {a b : ByteArray} (h : a.data.toList = b.data.toList) : a = b := ByteArray.ext (Array.toList_inj.1 h)
theorem append_toList (a b : ByteArray) : (a ++ b).data.toList = a.data.toList ++ b.data.toList := by rw [ByteArray.data_append]; simp
theorem extract_toList (s : ByteArray) (a b : Nat) (h : b ≤ s.size) : (s.extract a b).data.toList = (s.data.toList.drop a).take (b - a) := by
  have : b ≤ s.data.size := h
  simp [ByteArray.data_extract, List.take_drop]
/-- What is read off bytes of the right form is written into just these bytes. -/
theorem body_back (s : ByteArray) (K M S : Int) (n : Nat) (hn : s.size = n + 19) (f0 : byteI s 0 = 87) (f1 : byteI s 1 = 1) (k : ((valOf s.data.toList 7 1 : Nat) : Int) = K) (m : ((valOf s.data.toList 8 1 : Nat) : Int) = M) (z : ((valOf s.data.toList 9 2 : Nat) : Int) = S) :
    bodyS K M S ((valOf s.data.toList 2 4 : Nat) : Int) ((valOf s.data.toList 6 1 : Nat) : Int) ((valOf s.data.toList 11 4 : Nat) : Int) (s.extract 15 (s.size - 4)) = s.extract 0 (s.size - 4) := by
  subst k m z
  have hl : s.data.toList.length = n + 19 := by rw [← Lib.size_eq]; exact hn
  apply bytes_ext
  simp only [bodyS, append_toList, Int.toNat_natCast, lowS_val s 2 4 (by omega), lowS_val s 6 1 (by omega), lowS_val s 7 1 (by omega), lowS_val s 8 1 (by omega), lowS_val s 9 2 (by omega), lowS_val s 11 4 (by omega), extract_toList s 15 (s.size - 4) (by omega), extract_toList s 0 (s.size - 4) (by omega)]
  have step : ∀ (l : List UInt8) (i j k : Nat), k = i + j → l.take i ++ (l.drop i).take j = l.take k := fun l i j k e => by rw [e, List.take_add]
  generalize hL : s.data.toList = l at *
  rw [byteI, hL] at f0 f1
  have h2 : (⟨#[87]⟩ : ByteArray).data.toList ++ (lowS 1 1).data.toList = l.take 2 := by
    cases l with
    | nil => simp at hl
    | cons a r =>
      cases r with
      | nil => simp at hl
      | cons b r =>
        have ea : a = 87 := by
          have q : ((a.toNat : Nat) : Int) = 87 := by simpa using f0
          have : a.toNat = 87 := by omega
          exact UInt8.toNat_inj.1 this
        have eb : b = 1 := by
          have q : ((b.toNat : Nat) : Int) = 1 := by simpa using f1
          have : b.toNat = 1 := by omega
          exact UInt8.toNat_inj.1 this
        subst ea eb
        rfl
  rw [h2, step l 2 4 6 rfl, step l 6 1 7 rfl, step l 7 1 8 rfl, step l 8 1 9 rfl, step l 9 2 11 rfl, step l 11 4 15 rfl, step l 15 (s.size - 4 - 15) (s.size - 4 - 0) (by omega)]
  simp
theorem sum_back (s : ByteArray) (n : Nat) (hn : s.size = n + 19) (f : valOf s.data.toList (s.size - 4) 4 = sumOf (s.extract 0 (s.size - 4))) : s.extract 0 (s.size - 4) ++ lowS (sumOf (s.extract 0 (s.size - 4))) 4 = s := by
  apply bytes_ext
  rw [append_toList, ← f, lowS_val s (s.size - 4) 4 (by omega), extract_toList s 0 (s.size - 4) (by omega)]
  have hl : s.data.toList.length = s.size := by rw [← Lib.size_eq]
  rw [List.drop_zero, Nat.sub_zero, ← List.take_add]
  exact List.take_of_length_le (by omega)
theorem put_back (s : ByteArray) (K M S : Int) (n : Nat) (hn : s.size = n + 19) (f0 : byteI s 0 = 87) (f1 : byteI s 1 = 1) (k : ((valOf s.data.toList 7 1 : Nat) : Int) = K) (m : ((valOf s.data.toList 8 1 : Nat) : Int) = M) (z : ((valOf s.data.toList 9 2 : Nat) : Int) = S) (f : valOf s.data.toList (s.size - 4) 4 = sumOf (s.extract 0 (s.size - 4))) :
    putS K M S ((valOf s.data.toList 2 4 : Nat) : Int) ((valOf s.data.toList 6 1 : Nat) : Int) ((valOf s.data.toList 11 4 : Nat) : Int) (s.extract 15 (s.size - 4)) = s := by
  rw [putS, body_back s K M S n hn f0 f1 k m z, sum_back s n hn f]
/-- What Get answers (P9). -/
def frameB (s : ByteArray) : Bool := decide (19 ≤ s.size) && decide (byteI s 0 = 87) && decide (byteI s 1 = 1) && decide (valOf s.data.toList 9 2 + 19 = s.size) && decide (valOf s.data.toList (s.size - 4) 4 = sumOf (s.extract 0 (s.size - 4)))
def mineB (K M S : Int) (s : ByteArray) : Bool := decide (((valOf s.data.toList 7 1 : Nat) : Int) = K) && decide (((valOf s.data.toList 8 1 : Nat) : Int) = M) && decide (((valOf s.data.toList 9 2 : Nat) : Int) = S)
def takeB (K M S W P X R : Int) (s : ByteArray) : Bool := putB K M S W P X R ((valOf s.data.toList 2 4 : Nat) : Int) ((valOf s.data.toList 6 1 : Nat) : Int) ((valOf s.data.toList 11 4 : Nat) : Int) (s.extract 15 (s.size - 4))
def getE (K M S W P X R : Int) (s : ByteArray) : Int := if rightB K M S W P X R = false then 1 else if frameB s = false then 5 else if mineB K M S s = false then 6 else if takeB K M S W P X R s = false then 5 else 0
theorem putS_size (K M S B I N : Int) (s : ByteArray) : (putS K M S B I N s).size = s.size + 19 := by
  rw [putS, ByteArray.size_append, bodyS_size, lowS_size]
theorem getE_yes {K M S W P X R : Int} {s : ByteArray} (h : getE K M S W P X R s = 0) : 19 ≤ s.size ∧ (s.extract 15 (s.size - 4)).size = s.size - 19 := by
  have h1 : ¬ rightB K M S W P X R = false := fun e => by simp [getE, e] at h
  have hf : frameB s = true := by
    by_cases e : frameB s = false
    · simp [getE, h1, e] at h
    · simpa using e
  unfold frameB at hf
  simp only [Bool.and_eq_true, decide_eq_true_eq] at hf
  obtain ⟨⟨⟨⟨hn, _⟩, _⟩, _⟩, _⟩ := hf
  refine ⟨hn, ?_⟩
  rw [ByteArray.size_extract]
  omega
theorem mul_inj32 (x y : Nat) (hx : x < 4294967296) (hy : y < 4294967296) (h : x * 16777619 % 4294967296 = y * 16777619 % 4294967296) : x = y := by
  have e : ∀ z, z < 4294967296 → z * 16777619 % 4294967296 * 899433627 % 4294967296 = z := fun z hz => by
    rw [Nat.mod_mul_mod, Nat.mul_assoc, show (16777619 * 899433627 : Nat) = 3513497 * 4294967296 + 1 from by decide, Nat.mul_add, Nat.mul_one, ← Nat.mul_assoc, Nat.mul_add_mod_self_right]
    exact Nat.mod_eq_of_lt hz
  rw [← e x hx, ← e y hy, h]
theorem xor_lt32 (h b : Nat) (hh : h < 4294967296) (hb : b < 256) : h ^^^ b < 4294967296 := Nat.xor_lt_two_pow (n := 32) hh (by omega)
theorem sumStep_inj_h (h h' b : Nat) (hh : h < 4294967296) (hh' : h' < 4294967296) (hb : b < 256) (e : sumStep h b = sumStep h' b) : h = h' := by
  have := mul_inj32 _ _ (xor_lt32 h b hh hb) (xor_lt32 h' b hh' hb) e
  have := congrArg (· ^^^ b) this
  simpa [Nat.xor_assoc] using this
theorem sumStep_inj_b (h b b' : Nat) (hh : h < 4294967296) (hb : b < 256) (hb' : b' < 256) (e : sumStep h b = sumStep h b') : b = b' := by
  have := mul_inj32 _ _ (xor_lt32 h b hh hb) (xor_lt32 h b' hh hb') e
  have := congrArg (h ^^^ ·) this
  simpa [← Nat.xor_assoc] using this
theorem sumStep_lt (h b : Nat) : sumStep h b < 4294967296 := Nat.mod_lt _ (by decide)
theorem sumFrom_inj : ∀ (l : List UInt8) (h h' : Nat), h < 4294967296 → h' < 4294967296 → sumFrom h l = sumFrom h' l → h = h'
  | [], _, _, _, _, e => e
  | b :: r, h, h', hh, hh', e => sumStep_inj_h h h' b.toNat hh hh' b.toNat_lt (sumFrom_inj r _ _ (sumStep_lt _ _) (sumStep_lt _ _) e)
/-- One byte changed: another sum. -/
theorem sumFrom_set : ∀ (l : List UInt8) (i : Nat) (b : UInt8) (h : Nat), h < 4294967296 → i < l.length → l.getD i 0 ≠ b → sumFrom h (l.set i b) ≠ sumFrom h l
  | [], _, _, _, _, hi, _ => by simp at hi
  | x :: r, 0, b, h, hh, _, hne => fun e => by
    have e' := sumFrom_inj r _ _ (sumStep_lt _ _) (sumStep_lt _ _) e
    have := sumStep_inj_b h b.toNat x.toNat hh b.toNat_lt x.toNat_lt e'
    exact hne (UInt8.toNat_inj.1 this).symm
  | x :: r, i + 1, b, h, hh, hi, hne => sumFrom_set r i b _ (sumStep_lt _ _) (by simpa using hi) (by simpa using hne)
theorem valOf_congr {l l' : List UInt8} {i : Nat} : ∀ k, (∀ j, j < k → l.getD (i + j) 0 = l'.getD (i + j) 0) → valOf l i k = valOf l' i k
  | 0, _ => rfl
  | k + 1, h => by rw [valOf, valOf, valOf_congr k (fun j hj => h j (by omega)), h k (by omega)]
theorem valOf_digits {l l' : List UInt8} {i : Nat} : ∀ k, valOf l i k = valOf l' i k → ∀ j, j < k → l.getD (i + j) 0 = l'.getD (i + j) 0
  | 0, _, j, hj => by omega
  | k + 1, h, j, hj => by
    have a := (l.getD (i + k) 0).toNat_lt
    have b := (l'.getD (i + k) 0).toNat_lt
    rw [valOf, valOf] at h
    have h1 : valOf l i k = valOf l' i k := by omega
    have h2 : (l.getD (i + k) 0).toNat = (l'.getD (i + k) 0).toNat := by omega
    rcases Nat.lt_or_ge j k with q | q
    · exact valOf_digits k h1 j q
    · obtain rfl : j = k := by omega
      exact UInt8.toNat_inj.1 h2
theorem getD_set_ne {l : List UInt8} {i j : Nat} {b : UInt8} (h : i ≠ j) : (l.set i b).getD j 0 = l.getD j 0 := by
  rw [List.getD_eq_getElem?_getD, List.getD_eq_getElem?_getD, List.getElem?_set_ne h]
theorem getD_set_eq {l : List UInt8} {i : Nat} {b : UInt8} (h : i < l.length) : (l.set i b).getD i 0 = b := by
  rw [List.getD_eq_getElem?_getD, List.getElem?_set_self h]; rfl
theorem valOf_set_out {l : List UInt8} {i a k : Nat} {b : UInt8} (h : i < a ∨ a + k ≤ i) : valOf (l.set i b) a k = valOf l a k := valOf_congr k (fun j hj => getD_set_ne (by omega))
theorem valOf_set_in {l : List UInt8} {i a k : Nat} {b : UInt8} (h1 : a ≤ i) (h2 : i < a + k) (hi : i < l.length) (hne : l.getD i 0 ≠ b) : valOf (l.set i b) a k ≠ valOf l a k := fun e => by
  have := valOf_digits k e (i - a) (by omega)
  rw [show a + (i - a) = i by omega, getD_set_eq hi] at this
  exact hne this.symm
def setS (s : ByteArray) (i : Nat) (b : UInt8) : ByteArray := ⟨(s.data.toList.set i b).toArray⟩
theorem setS_toList (s : ByteArray) (i : Nat) (b : UInt8) : (setS s i b).data.toList = s.data.toList.set i b := by simp [setS]
theorem setS_size (s : ByteArray) (i : Nat) (b : UInt8) : (setS s i b).size = s.size := by rw [Lib.size_eq, setS_toList, List.length_set, ← Lib.size_eq]
theorem byteI_getD (s : ByteArray) (i : Nat) : byteI s i = ((s.data.toList.getD i 0).toNat : Nat) := rfl
/-- A frame of which one byte was changed is none. -/
theorem frame_set (s : ByteArray) (i : Nat) (b : UInt8) (hf : frameB s = true) (hi : i < s.size) (hne : s.data.toList.getD i 0 ≠ b) : frameB (setS s i b) = false := by
  have hl : s.data.toList.length = s.size := by rw [← Lib.size_eq]
  unfold frameB at hf
  simp only [Bool.and_eq_true, decide_eq_true_eq] at hf
  obtain ⟨⟨⟨⟨hn, f0⟩, f1⟩, f2⟩, f3⟩ := hf
  by_cases hx : frameB (setS s i b) = true
  · exfalso
    unfold frameB at hx
    simp only [Bool.and_eq_true, decide_eq_true_eq] at hx
    obtain ⟨⟨⟨⟨_, g0⟩, g1⟩, g2⟩, g3⟩ := hx
    rw [setS_size, setS_toList] at g2
    rw [setS_size, setS_toList] at g3
    rw [byteI_getD, setS_toList] at g0 g1
    rw [byteI_getD] at f0 f1
    by_cases i0 : i = 0
    · subst i0
      rw [getD_set_eq (by omega)] at g0
      exact hne (UInt8.toNat_inj.1 (by omega))
    by_cases i1 : i = 1
    · subst i1
      rw [getD_set_eq (by omega)] at g1
      exact hne (UInt8.toNat_inj.1 (by omega))
    by_cases i9 : 9 ≤ i ∧ i < 9 + 2
    · have := valOf_set_in (l := s.data.toList) (k := 2) i9.1 i9.2 (by omega) hne
      omega
    have hsum : (setS s i b).extract 0 (s.size - 4) = if i < s.size - 4 then setS (s.extract 0 (s.size - 4)) i b else s.extract 0 (s.size - 4) := by
      apply bytes_ext
      rw [extract_toList _ 0 _ (by rw [setS_size]; omega), setS_toList]
      by_cases q : i < s.size - 4
      · rw [if_pos q, setS_toList, extract_toList _ 0 _ (by omega)]
        simp [List.take_set]
      · rw [if_neg q, extract_toList _ 0 _ (by omega)]
        simp [List.take_set, List.set_eq_of_length_le, show s.size - 4 ≤ i by omega]
    rw [hsum] at g3
    by_cases q : i < s.size - 4
    · rw [if_pos q, valOf_set_out (.inl q), f3] at g3
      have hlen : i < (s.extract 0 (s.size - 4)).data.toList.length := by rw [extract_toList _ 0 _ (by omega)]; simp; omega
      have hget : (s.extract 0 (s.size - 4)).data.toList.getD i 0 = s.data.toList.getD i 0 := by
        rw [extract_toList _ 0 _ (by omega), List.getD_eq_getElem?_getD, List.getD_eq_getElem?_getD, List.drop_zero, Nat.sub_zero, List.getElem?_take, if_pos q]
      have := sumFrom_set (s.extract 0 (s.size - 4)).data.toList i b 2166136261 (by decide) hlen (by rw [hget]; exact hne)
      rw [sumOf, sumOf, setS_toList] at g3
      exact this g3.symm
    · rw [if_neg q, ← f3] at g3
      exact valOf_set_in (l := s.data.toList) (a := s.size - 4) (k := 4) (by omega) (by omega) (by omega) hne g3
  · simpa using hx
/-- Of another length: none. -/
theorem frame_other (s s' : ByteArray) (hf : frameB s = true) (hne : s'.size ≠ s.size) (hpre : ∀ j, j < 11 → j < s'.size → s'.data.toList.getD j 0 = s.data.toList.getD j 0) : frameB s' = false := by
  unfold frameB at hf
  simp only [Bool.and_eq_true, decide_eq_true_eq] at hf
  obtain ⟨⟨⟨⟨hn, f0⟩, f1⟩, f2⟩, f3⟩ := hf
  by_cases hx : frameB s' = true
  · exfalso
    unfold frameB at hx
    simp only [Bool.and_eq_true, decide_eq_true_eq] at hx
    obtain ⟨⟨⟨⟨hn', g0⟩, g1⟩, g2⟩, g3⟩ := hx
    have := valOf_congr (l := s'.data.toList) (l' := s.data.toList) (i := 9) 2 (fun j hj => hpre (9 + j) (by omega) (by omega))
    omega
  · simpa using hx
theorem getE_frame {K M S W P X R : Int} {s : ByteArray} (hr : rightB K M S W P X R = true) (hf : frameB s = false) : getE K M S W P X R s = 5 := by simp [getE, hr, hf]
theorem valOf_mid : ∀ (k : Nat) (m : Nat) (pre post : List UInt8), valOf (pre ++ (lowL m k ++ post)) pre.length k = m % 256 ^ k
  | 0, m, _, _ => by simp [valOf, Nat.mod_one]
  | k + 1, m, pre, post => by
    rw [lowL_back, List.append_assoc, valOf, valOf_mid k (m / 256) pre ([UInt8.ofNat (m % 256)] ++ post)]
    have hd : (pre ++ (lowL (m / 256) k ++ ([UInt8.ofNat (m % 256)] ++ post))).getD (pre.length + k) 0 = UInt8.ofNat (m % 256) := by
      rw [List.getD_eq_getElem?_getD, List.getElem?_append_right (by omega), show pre.length + k - pre.length = k by omega, List.getElem?_append_right (by rw [lowL_length]; omega), lowL_length, Nat.sub_self]
      rfl
    rw [hd, UInt8.toNat_ofNat', show m % 256 % 2 ^ 8 = m % 256 from Nat.mod_mod _ _, Nat.pow_succ, Nat.mul_comm (256 ^ k) 256, Nat.mod_mul]
    omega
theorem putL (K M S B I N : Int) (s : ByteArray) : (putS K M S B I N s).data.toList = [87] ++ (lowL 1 1 ++ (lowL B.toNat 4 ++ (lowL I.toNat 1 ++ (lowL K.toNat 1 ++ (lowL M.toNat 1 ++ (lowL S.toNat 2 ++ (lowL N.toNat 4 ++ (s.data.toList ++ lowL (sumOf (bodyS K M S B I N s)) 4)))))))) := by
  simp only [putS, bodyS, append_toList, lowS, List.append_assoc]
theorem valOf_putL {L pre post : List UInt8} {m k i : Nat} (h : L = pre ++ (lowL m k ++ post)) (hi : pre.length = i) : valOf L i k = m % 256 ^ k := by
  subst h hi
  exact valOf_mid k m pre post
theorem putVals (K M S B I N : Int) (s : ByteArray) : let L := (putS K M S B I N s).data.toList
    valOf L 2 4 = B.toNat % 256 ^ 4 ∧ valOf L 6 1 = I.toNat % 256 ^ 1 ∧ valOf L 7 1 = K.toNat % 256 ^ 1 ∧ valOf L 8 1 = M.toNat % 256 ^ 1 ∧ valOf L 9 2 = S.toNat % 256 ^ 2 ∧ valOf L 11 4 = N.toNat % 256 ^ 4 ∧ valOf L (s.size + 15) 4 = sumOf (bodyS K M S B I N s) % 256 ^ 4 ∧ L.getD 0 0 = 87 ∧ L.getD 1 0 = 1 := by
  intro L
  have hL : L = _ := putL K M S B I N s
  have ls : s.data.toList.length = s.size := by rw [← Lib.size_eq]
  refine ⟨?_, ?_, ?_, ?_, ?_, ?_, ?_, ?_, ?_⟩
  · exact valOf_putL (pre := [87] ++ lowL 1 1) (by rw [hL]; simp only [List.append_assoc]; rfl) (by simp [lowL_length])
  · exact valOf_putL (pre := [87] ++ (lowL 1 1 ++ lowL B.toNat 4)) (by rw [hL]; simp only [List.append_assoc]; rfl) (by simp [lowL_length])
  · exact valOf_putL (pre := [87] ++ (lowL 1 1 ++ (lowL B.toNat 4 ++ lowL I.toNat 1))) (by rw [hL]; simp only [List.append_assoc]; rfl) (by simp [lowL_length])
  · exact valOf_putL (pre := [87] ++ (lowL 1 1 ++ (lowL B.toNat 4 ++ (lowL I.toNat 1 ++ lowL K.toNat 1)))) (by rw [hL]; simp only [List.append_assoc]; rfl) (by simp [lowL_length])
  · exact valOf_putL (pre := [87] ++ (lowL 1 1 ++ (lowL B.toNat 4 ++ (lowL I.toNat 1 ++ (lowL K.toNat 1 ++ lowL M.toNat 1))))) (by rw [hL]; simp only [List.append_assoc]; rfl) (by simp [lowL_length])
  · exact valOf_putL (pre := [87] ++ (lowL 1 1 ++ (lowL B.toNat 4 ++ (lowL I.toNat 1 ++ (lowL K.toNat 1 ++ (lowL M.toNat 1 ++ lowL S.toNat 2)))))) (by rw [hL]; simp only [List.append_assoc]; rfl) (by simp [lowL_length])
  · refine valOf_putL (pre := [87] ++ (lowL 1 1 ++ (lowL B.toNat 4 ++ (lowL I.toNat 1 ++ (lowL K.toNat 1 ++ (lowL M.toNat 1 ++ (lowL S.toNat 2 ++ (lowL N.toNat 4 ++ s.data.toList)))))))) (post := []) (by rw [hL]; simp only [List.append_assoc, List.append_nil]) ?_
    simp only [List.length_append, lowL_length, ls, List.length_cons, List.length_nil]
    omega
  · rw [hL]; rfl
  · rw [hL]; rfl
theorem put_shard (K M S B I N : Int) (s : ByteArray) : (putS K M S B I N s).extract 15 ((putS K M S B I N s).size - 4) = s ∧ (putS K M S B I N s).extract 0 ((putS K M S B I N s).size - 4) = bodyS K M S B I N s := by
  have hz := bodyS_size K M S B I N s
  have hp : (putS K M S B I N s).size = s.size + 19 := by rw [putS, ByteArray.size_append, hz, lowS_size]
  have hb : (putS K M S B I N s).extract 0 ((putS K M S B I N s).size - 4) = bodyS K M S B I N s := by
    apply bytes_ext
    rw [extract_toList _ 0 _ (by omega), hp]
    show List.take (s.size + 19 - 4 - 0) (List.drop 0 (bodyS K M S B I N s ++ lowS (sumOf (bodyS K M S B I N s)) 4).data.toList) = _
    rw [append_toList, List.drop_zero, List.take_append_of_le_length (by rw [← Lib.size_eq, hz]; omega), List.take_of_length_le (by rw [← Lib.size_eq, hz]; omega)]
  refine ⟨?_, hb⟩
  apply bytes_ext
  rw [extract_toList _ 15 _ (by omega), hp, putL]
  have e : [87] ++ (lowL 1 1 ++ (lowL B.toNat 4 ++ (lowL I.toNat 1 ++ (lowL K.toNat 1 ++ (lowL M.toNat 1 ++ (lowL S.toNat 2 ++ (lowL N.toNat 4 ++ (s.data.toList ++ lowL (sumOf (bodyS K M S B I N s)) 4)))))))) = ([87] ++ (lowL 1 1 ++ (lowL B.toNat 4 ++ (lowL I.toNat 1 ++ (lowL K.toNat 1 ++ (lowL M.toNat 1 ++ (lowL S.toNat 2 ++ lowL N.toNat 4))))))) ++ (s.data.toList ++ lowL (sumOf (bodyS K M S B I N s)) 4) := by simp only [List.append_assoc]
  have l15 : ([87] ++ (lowL 1 1 ++ (lowL B.toNat 4 ++ (lowL I.toNat 1 ++ (lowL K.toNat 1 ++ (lowL M.toNat 1 ++ (lowL S.toNat 2 ++ lowL N.toNat 4))))))).length = 15 := by simp [lowL_length]
  have ls : s.data.toList.length = s.size := by rw [← Lib.size_eq]
  rw [e, List.drop_left' l15, List.take_append_of_le_length (by omega), List.take_of_length_le (by omega)]
/-- Get reads a datagram as Put wrote it. -/
theorem put_got (K M S W P X R B I N : Int) (s : ByteArray) (hp : putB K M S W P X R B I N s = true) : getE K M S W P X R (putS K M S B I N s) = 0 ∧ frameB (putS K M S B I N s) = true ∧ ((valOf (putS K M S B I N s).data.toList 2 4 : Nat) : Int) = B ∧ ((valOf (putS K M S B I N s).data.toList 6 1 : Nat) : Int) = I ∧ ((valOf (putS K M S B I N s).data.toList 11 4 : Nat) : Int) = N := by
  have hp0 := hp
  unfold putB at hp
  rw [Bool.and_eq_true] at hp
  obtain ⟨hr, hq⟩ := hp
  obtain ⟨a1, a2, a3, a4, a5, a6, a7⟩ := of_decide_eq_true hq
  obtain ⟨k1, k2, m1, m2, s1, s2, p1, p2⟩ := right_bd hr
  obtain ⟨v1, v2, v3, v4, v5, v6, v7, g0, g1⟩ := putVals K M S B I N s
  obtain ⟨x1, x2⟩ := put_shard K M S B I N s
  have hz : (putS K M S B I N s).size = s.size + 19 := by rw [putS, ByteArray.size_append, bodyS_size, lowS_size]
  have hlt : sumOf (bodyS K M S B I N s) < 4294967296 := sumFrom_lt _ _ (by decide)
  rw [Nat.mod_eq_of_lt (by omega)] at v1 v2 v3 v4 v5 v6
  rw [Nat.mod_eq_of_lt hlt] at v7
  have e1 : ((valOf (putS K M S B I N s).data.toList 2 4 : Nat) : Int) = B := by rw [v1]; omega
  have e2 : ((valOf (putS K M S B I N s).data.toList 6 1 : Nat) : Int) = I := by rw [v2]; omega
  have e6 : ((valOf (putS K M S B I N s).data.toList 11 4 : Nat) : Int) = N := by rw [v6]; omega
  have hf : frameB (putS K M S B I N s) = true := by
    unfold frameB
    simp only [Bool.and_eq_true, decide_eq_true_eq]
    refine ⟨⟨⟨⟨by omega, by rw [byteI_getD, g0]; rfl⟩, by rw [byteI_getD, g1]; rfl⟩, by rw [v5, hz]; omega⟩, ?_⟩
    rw [x2, hz, show s.size + 19 - 4 = s.size + 15 by omega]
    exact v7
  have hm : mineB K M S (putS K M S B I N s) = true := by
    unfold mineB
    simp only [Bool.and_eq_true, decide_eq_true_eq]
    exact ⟨⟨by rw [v3]; omega, by rw [v4]; omega⟩, by rw [v5]; omega⟩
  have ht : takeB K M S W P X R (putS K M S B I N s) = true := by
    unfold takeB
    rw [e1, e2, e6, x1]
    exact hp0
  exact ⟨by simp [getE, hr, hf, hm, ht], hf, e1, e2, e6⟩
end Go.Proofs.YtgchiamkeeljkaaGreatDoor
