/-
  Package weave's small functions: fits, sum, number, appendNumber.
-/
import Derived.Test.YtgchiamkeeljkaaGreatDoorWnum
namespace Go.Proofs.YtgchiamkeeljkaaGreatDoor
open Go Go.RowKit

def fitB (K M S B I N : Int) (n : Nat) : Bool := winB 0 B 2147483647 && winB 0 I (K + M - 1) && winB 0 N (K * S) && ((n : Int) == S)
theorem put_fit (K M S W P X R B I N : Int) (s : ByteArray) : putB K M S W P X R B I N s = (rightB K M S W P X R && fitB K M S B I N s.size) := by
  unfold putB
  congr 1
  rw [Bool.eq_iff_iff]
  simp only [fitB, winB, Bool.and_eq_true, decide_eq_true_eq, beq_iff_eq]
  constructor
  · rintro ⟨a1, a2, a3, a4, a5, a6, a7⟩
    exact ⟨⟨⟨⟨a1, a2⟩, a3, by omega⟩, a5, a6⟩, a7⟩
  · rintro ⟨⟨⟨⟨a1, a2⟩, a3, a4⟩, a5, a6⟩, a7⟩
    exact ⟨a1, a2, a3, by omega, a5, a6, a7⟩
set_option maxRecDepth 20000 in
set_option maxHeartbeats 4000000 in
theorem fits_any (K M S W P X R B I N : Int) (a : Option Addr) (n c : Nat) (w : World) (hr : rightB K M S W P X R = true) :
    Calls Tryz.prog 91 #[.agg #[.int .i64 K, .int .i64 M, .int .i64 S, .int .i64 W, .int .i64 P, .int .i64 X, .int .i64 R], .agg #[.int .i64 B, .int .i64 I, .int .i64 N, .slice a n c]] w fun e w' => e = .returned (.bool (fitB K M S B I N n)) ∧ Keeps NoB w w' := by
  obtain ⟨k1, k2, m1, m2, s1, s2, p1, p2⟩ := right_bd hr
  unfold fitB
  by_cases h1 : winB 0 B 2147483647 = true
  · by_cases h2 : winB 0 I (K + M - 1) = true
    · by_cases h3 : winB 0 N (K * S) = true
      · go_enter Tryz.func91, Tryz.ntmps91
        go_wp2_with (go_at_call 86; refine (within_any _ _ _ _).mono ?_; rintro e w' ⟨rfl, hw'⟩; obtain rfl := hw')
        go_ret
        exact ⟨by simp [h1, h2, h3], (wkeeps _ _).trans (wkeeps _ _)⟩
      · replace h3 : winB 0 N (K * S) = false := by simpa using h3
        go_enter Tryz.func91, Tryz.ntmps91
        go_wp2_with (go_at_call 86; refine (within_any _ _ _ _).mono ?_; rintro e w' ⟨rfl, hw'⟩; obtain rfl := hw')
        go_ret
        exact ⟨by simp [h1, h2, h3], (wkeeps _ _).trans (wkeeps _ _)⟩
    · replace h2 : winB 0 I (K + M - 1) = false := by simpa using h2
      go_enter Tryz.func91, Tryz.ntmps91
      go_wp2_with (go_at_call 86; refine (within_any _ _ _ _).mono ?_; rintro e w' ⟨rfl, hw'⟩; obtain rfl := hw')
      go_ret
      exact ⟨by simp [h1, h2], (wkeeps _ _).trans (wkeeps _ _)⟩
  · replace h1 : winB 0 B 2147483647 = false := by simpa using h1
    go_enter Tryz.func91, Tryz.ntmps91
    go_wp2_with (go_at_call 86; refine (within_any _ _ _ _).mono ?_; rintro e w' ⟨rfl, hw'⟩; obtain rfl := hw')
    go_ret
    exact ⟨by simp [h1], (wkeeps _ _).trans (wkeeps _ _)⟩

theorem wsum_step (H : Nat) (s : ByteArray) (j : Nat) (hb : H < 4294967296) : IntKind.u32.wrap (bits .xor .u32 (H : Int) (byteI s j) * 16777619) = ((sumStep H (s.data.toList.getD j 0).toNat : Nat) : Int) := by
  have h8 := (s.data.toList.getD j 0).toNat_lt
  rw [byteI, u32_xor_nat _ _ hb (by omega), sumStep, IntKind.wrap_u32]
  omega
theorem take_extract (s : ByteArray) (n : Nat) (h : n ≤ s.size) : (s.extract 0 n).data.toList = s.data.toList.take n := by
  rw [extract_toList _ 0 _ h]; simp
set_option maxRecDepth 20000 in
set_option maxHeartbeats 1000000 in
theorem sum_any (s : ByteArray) (b n c : Nat) (w : World) (hn : n ≤ s.size) (hs : n ≤ 281474976710656) (hc : ∀ i, i < n → w.cell? ⟨b, i, none⟩ = some (byteAt s i)) :
    Calls Tryz.prog 85 #[.slice (some ⟨b, 0, none⟩) n c] w fun e w' => e = .returned (.int .i64 (sumOf (s.extract 0 n) : Nat)) ∧ w' = w := by
  have HC : Hid (∀ i, i < n → w.cell? ⟨b, i, none⟩ = some (byteAt s i)) := hc
  have HS : Hid (n ≤ s.size) := hn
  clear hc hn
  go_enter Tryz.func85, Tryz.ntmps85
  go_wp2
  go_loop [3, 5, 8] (fun h _ i => ∃ j : Nat, j ≤ n ∧ i = .int .i64 j ∧ h = .int .u32 ((sumFrom 2166136261 (s.data.toList.take j) : Nat) : Int)) (fun _ _ i => n - (intOf i).toNat)
  case atStart => exact ⟨0, by omega, rfl, rfl⟩
  case round =>
    obtain ⟨j, hj, rfl, rfl⟩ := hrel
    have hb := sumFrom_lt (s.data.toList.take j) 2166136261 (by decide)
    by_cases hlt : j < n
    · have nx : sumFrom 2166136261 (s.data.toList.take (j + 1)) = sumStep (sumFrom 2166136261 (s.data.toList.take j)) (s.data.toList.getD j 0).toNat := by
        have h' : j < s.data.toList.length := by rw [← Lib.size_eq]; have := HS.out; omega
        rw [List.take_succ_eq_append_getElem h', sumFrom_snoc, List.getD_eq_getElem?_getD, List.getElem?_eq_getElem h', Option.getD_some]
      obtain ⟨H, hH⟩ : ∃ H, sumFrom 2166136261 (s.data.toList.take j) = H := ⟨_, rfl⟩
      rw [hH] at hb nx ⊢
      have NX : Hid (sumFrom 2166136261 (s.data.toList.take (j + 1)) = sumStep H (s.data.toList.getD j 0).toNat) := nx
      have SS : Hid (IntKind.u32.wrap (bits .xor .u32 (H : Int) (byteI s j) * 16777619) = ((sumStep H (s.data.toList.getD j 0).toNat : Nat) : Int)) := wsum_step H s j hb
      clear hH nx
      have hcj : w.cell? ⟨b, j, none⟩ = some (.int .u8 (byteI s j)) := HC.out j hlt
      have bj := byteI_bd s j
      have bj1 : (0 : Int) ≤ byteI s j := bj.1
      have bj2 : byteI s j ≤ 255 := bj.2
      clear bj
      go_wp2
      go_round
      case rel => exact ⟨j + 1, by omega, by go_num, by rw [NX.out, ← SS.out, IntKind.wrap_u32]⟩
      case measure => simp [intOf]; omega
    · have e : j = n := by omega
      subst e
      have E : Hid (sumFrom 2166136261 (s.data.toList.take j) = sumOf (s.extract 0 j)) := by
        show _ = _
        rw [sumOf, take_extract _ _ HS.out]
      rw [E.out] at hb ⊢
      go_wp2
      go_ret
      exact ⟨rfl, rfl⟩
set_option maxRecDepth 20000 in
set_option maxHeartbeats 1000000 in
theorem number_any (s : ByteArray) (b i k c : Nat) (w : World) (hk : k ≤ 4) (hs : i + k ≤ s.size) (hz : s.size ≤ 281474976710656) (hc : ∀ i, i < s.size → w.cell? ⟨b, i, none⟩ = some (byteAt s i)) :
    Calls Tryz.prog 125 #[.slice (some ⟨b, i, none⟩) k c] w fun e w' => e = .returned (.int .i64 (valOf s.data.toList i k : Nat)) ∧ w' = w := by
  have HC : Hid (∀ i, i < s.size → w.cell? ⟨b, i, none⟩ = some (byteAt s i)) := hc
  clear hc
  go_enter Tryz.func125, Tryz.ntmps125
  go_wp2
  go_loop [3, 5, 8] (fun n _ j => ∃ m : Nat, m ≤ k ∧ j = .int .i64 (m : Int) ∧ n = .int .i64 ((valOf s.data.toList i m : Nat) : Int)) (fun _ _ j => k - (intOf j).toNat)
  case atStart => exact ⟨0, by omega, rfl, rfl⟩
  case round =>
    obtain ⟨m, hm, rfl, rfl⟩ := hrel
    by_cases hlt : m < k
    · have hb : valOf s.data.toList i m < 16777216 := Nat.lt_of_lt_of_le (valOf_lt _ i m) (show 256 ^ m ≤ 256 ^ 3 from Nat.pow_le_pow_right (by decide) (by omega))
      have nx : valOf s.data.toList i (m + 1) = valOf s.data.toList i m * 256 + (s.data.toList.getD (i + m) 0).toNat := rfl
      obtain ⟨H, hH⟩ : ∃ H, valOf s.data.toList i m = H := ⟨_, rfl⟩
      rw [hH] at hb nx ⊢
      have h8 := (s.data.toList.getD (i + m) 0).toNat_lt
      have NX : Hid (((valOf s.data.toList i (m + 1) : Nat) : Int) = bits .or .i64 ((H : Int) * 256) (byteI s (i + m))) := by show _ = _; rw [nx, byteI, or_byte _ _ (by omega) h8]
      have hcj : w.cell? ⟨b, i + m, none⟩ = some (.int .u8 (byteI s (i + m))) := HC.out (i + m) (by omega)
      clear hH nx h8
      have bj := byteI_bd s (i + m)
      have bj1 : (0 : Int) ≤ byteI s (i + m) := bj.1
      have bj2 : byteI s (i + m) ≤ 255 := bj.2
      clear bj
      go_wp2
      go_round
      case rel => exact ⟨m + 1, by omega, by go_num, by rw [NX.out]⟩
      case measure => simp [intOf]; omega
    · have e : m = k := by omega
      subst e
      go_wp2
      go_ret
      exact ⟨rfl, rfl⟩
end Go.Proofs.YtgchiamkeeljkaaGreatDoor
