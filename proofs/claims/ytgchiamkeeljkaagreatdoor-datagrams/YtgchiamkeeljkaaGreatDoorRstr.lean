/-
  The document's datagrams (package weaveref): bytes, sum, value.
-/
import Derived.Test.YtgchiamkeeljkaaGreatDoorAdd
namespace Go.Proofs.YtgchiamkeeljkaaGreatDoor
open Go Go.RowKit Go.Proofs.YtgchiamkeeljkaaGreatDoor.M

theorem sum_step_of (H : Nat) (s : ByteArray) (j : Nat) (hb : H < 4294967296) : (wrap64 (bits .xor .i64 (H : Int) (byteI s j) * 16777619)).tmod 4294967296 = ((sumStep H (s.data.toList.getD j 0).toNat : Nat) : Int) := by
  have h8 := (s.data.toList.getD j 0).toNat_lt
  have hx : H ^^^ (s.data.toList.getD j 0).toNat < 2 ^ 32 := Nat.xor_lt_two_pow (by omega) (by omega)
  rw [byteI, i64_xor_nat _ _ (by omega) (by omega), sumStep]
  generalize (H ^^^ (s.data.toList.getD j 0).toNat) = X at *
  rw [IntWalk.wrap64_in _ (by omega), Int.tmod_eq_emod_of_nonneg (by omega)]
  omega
theorem byteAt_one (b : Nat) (h : b < 256) : byteAt (oneS b) 0 = .int .u8 (b : Nat) := by
  show Value.int .u8 (((UInt8.ofNat b).toNat : Nat) : Int) = _
  rw [UInt8.toNat_ofNat', Nat.mod_eq_of_lt h]
theorem run_convert_one (w : World) (b : Nat) (h : b < 256) (v : Int) (hv : v = (b : Int)) :
    (convert 54 9 (.slice (some ⟨w.heap.size, 0, none⟩) 1 1)).run Tryz.prog (w.alloc (.cells #[.int .u8 v] 5)) = .ok (.string (oneS b)) (w.alloc (.cells #[.int .u8 v] 5)) := by
  subst hv
  refine run_convert_text (P := Tryz.prog) _ 54 5 9 Tryz.underlying54 Tryz.underlying5 Tryz.underlying9 w.heap.size 0 1 1 (oneS b) rfl (fun i hi => ?_)
  have e : i = 0 := by omega
  subst e
  have := World.news_of_block (cs := #[Value.int .u8 (b : Nat)]) (t := 5) (fr := (0, 0)) (heap_alloc_new w _) 0 _ rfl
  rw [Addr.add_lit] at this
  rw [byteAt_one b h]; exact this
set_option maxRecDepth 20000 in
set_option maxHeartbeats 400000 in
theorem refbytes_any (n k : Nat) (w : World) (hn : n ≤ 4294967296) (hk : k ≤ 8) :
    Calls Tryz.prog 120 #[.int .i64 n, .int .i64 k] w fun e w' => e = .returned (.string (lowS n k)) ∧ Keeps NoB w w' := by
  go_enter Tryz.func120, Tryz.ntmps120
  go_wp2
  go_loopw [0, 5, 6] (fun t s i wr => ∃ j : Nat, j ≤ k ∧ i = .int .i64 j ∧ t = .int .i64 ((n / 256 ^ j : Nat) : Int) ∧ s = .string (lowS n j) ∧ Hid (Keeps NoB w wr)) (fun _ _ i _ => k - (intOf i).toNat)
  case atStart => exact ⟨0, by omega, rfl, by simp, rfl, Keeps.refl _ _⟩
  case round =>
    obtain ⟨j, hj, rfl, rfl, rfl, hk'⟩ := hrel
    by_cases hlt : j < k
    · have hm : n / 256 ^ j ≤ n := Nat.div_le_self _ _
      have st := lowS_succ n j
      have ps := pow_step n j
      obtain ⟨q, hq⟩ : ∃ q, n / 256 ^ j = q := ⟨_, rfl⟩
      rw [hq] at hm st ps ⊢
      have ST : Hid (oneS (q % 256) ++ lowS n j = lowS n (j + 1)) := st
      have PS : Hid (q / 256 = n / 256 ^ (j + 1)) := ps
      have z1 := oneS_size (q % 256)
      have z2 := lowS_size n j
      have hcv := run_convert_one wr (q % 256) (Nat.mod_lt _ (by decide)) ((q : Int) % 256) (by omega)
      have K : Hid (Keeps NoB w (wr.alloc (.cells #[.int .u8 ((q : Int) % 256)] 5))) := hk'.out.alloc _
      clear hq st ps
      go_wp2
      go_roundw
      case rel => exact ⟨j + 1, by omega, by go_num, by rw [← PS.out]; go_num, by rw [ST.out], K⟩
      case measure => simp [intOf]; omega
    · have e : j = k := by omega
      subst e
      go_wp2
      go_ret
      exact ⟨rfl, hk'⟩
set_option maxRecDepth 20000 in
set_option maxHeartbeats 400000 in
theorem refsum_any (s : ByteArray) (w : World) (hs : s.size ≤ 281474976710656) :
    Calls Tryz.prog 121 #[.string s] w fun e w' => e = .returned (.int .i64 (sumOf s : Nat)) ∧ w' = w := by
  go_enter Tryz.func121, Tryz.ntmps121
  go_wp2
  go_loop [3, 4] (fun h i => ∃ j : Nat, j ≤ s.size ∧ i = .int .i64 j ∧ h = .int .i64 ((sumFrom 2166136261 (s.data.toList.take j) : Nat) : Int)) (fun _ i => s.size - (intOf i).toNat)
  case atStart => exact ⟨0, by omega, rfl, rfl⟩
  case round =>
    obtain ⟨j, hj, rfl, rfl⟩ := hrel
    by_cases hlt : j < s.size
    · have hb := sumFrom_lt (s.data.toList.take j) 2166136261 (by decide)
      have nx : sumFrom 2166136261 (s.data.toList.take (j + 1)) = sumStep (sumFrom 2166136261 (s.data.toList.take j)) (s.data.toList.getD j 0).toNat := by
        have h' : j < s.data.toList.length := by rw [← Lib.size_eq]; exact hlt
        rw [List.take_succ_eq_append_getElem h', sumFrom_snoc, List.getD_eq_getElem?_getD, List.getElem?_eq_getElem h', Option.getD_some]
      obtain ⟨H, hH⟩ : ∃ H, sumFrom 2166136261 (s.data.toList.take j) = H := ⟨_, rfl⟩
      rw [hH] at hb nx ⊢
      have NX : Hid (sumFrom 2166136261 (s.data.toList.take (j + 1)) = sumStep H (s.data.toList.getD j 0).toNat) := nx
      have SS : Hid ((wrap64 (bits .xor .i64 (H : Int) (byteI s j) * 16777619)).tmod 4294967296 = ((sumStep H (s.data.toList.getD j 0).toNat : Nat) : Int)) := sum_step_of H s j hb
      clear hH nx
      have hsj : ((s[j]'hlt).toNat : Int) = byteI s j := byteI_at s j hlt
      have bj := byteI_bd s j
      go_wp2
      go_round
      case rel => exact ⟨j + 1, by omega, by go_num, by rw [NX.out, SS.out]⟩
      case measure => simp [intOf]; omega
    · have e : j = s.size := by omega
      subst e
      have E : Hid (sumFrom 2166136261 (s.data.toList.take s.size) = sumOf s) := by
        show _ = _
        rw [List.take_of_length_le (by rw [← Lib.size_eq]; exact Nat.le_refl _)]; rfl
      go_wp2
      go_ret
      exact ⟨ret_int (by rw [E.out]), rfl⟩
set_option maxRecDepth 20000 in
set_option maxHeartbeats 400000 in
theorem refvalue_any (s : ByteArray) (i k : Nat) (w : World) (hk : k ≤ 4) (hs : i + k ≤ s.size) (hz : s.size ≤ 281474976710656) :
    Calls Tryz.prog 122 #[.string s, .int .i64 i, .int .i64 k] w fun e w' => e = .returned (.int .i64 (valOf s.data.toList i k : Nat)) ∧ w' = w := by
  go_enter Tryz.func122, Tryz.ntmps122
  go_wp2
  go_loop [7, 8] (fun n j => ∃ m : Nat, m ≤ k ∧ j = .int .i64 ((i + m : Nat) : Int) ∧ n = .int .i64 ((valOf s.data.toList i m : Nat) : Int)) (fun _ j => i + k - (intOf j).toNat)
  case atStart => exact ⟨0, by omega, rfl, rfl⟩
  case round =>
    obtain ⟨m, hm, rfl, rfl⟩ := hrel
    by_cases hlt : m < k
    · have hb : valOf s.data.toList i m < 16777216 := Nat.lt_of_lt_of_le (valOf_lt _ i m) (show 256 ^ m ≤ 256 ^ 3 from Nat.pow_le_pow_right (by decide) (by omega))
      have nx : valOf s.data.toList i (m + 1) = valOf s.data.toList i m * 256 + (s.data.toList.getD (i + m) 0).toNat := rfl
      obtain ⟨H, hH⟩ : ∃ H, valOf s.data.toList i m = H := ⟨_, rfl⟩
      rw [hH] at hb nx ⊢
      obtain ⟨p, hp⟩ : ∃ p, i + m = p := ⟨_, rfl⟩
      rw [hp] at nx ⊢
      have hps : p < s.size := by omega
      have NX : Hid (((valOf s.data.toList i (m + 1) : Nat) : Int) = (H : Int) * 256 + byteI s p) := by show _ = _; rw [nx, byteI]; omega
      have HP : Hid (i + m = p) := hp
      have hpl : (p : Int) < (i : Int) + (k : Int) := by omega
      clear hH nx hp
      have hsj : ((s[p]'hps).toNat : Int) = byteI s p := byteI_at s p hps
      have bj := byteI_bd s p
      go_wp2
      go_round
      case rel => exact ⟨m + 1, by omega, by have := HP.out; go_num, by rw [NX.out]⟩
      case measure => have := HP.out; simp [intOf]; omega
    · have e : m = k := by omega
      subst e
      go_wp2
      go_ret
      exact ⟨rfl, rfl⟩
end Go.Proofs.YtgchiamkeeljkaaGreatDoor
