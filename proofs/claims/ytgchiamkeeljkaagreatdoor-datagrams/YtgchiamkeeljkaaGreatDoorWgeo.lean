/-
  weave.ofStream, datagram.
-/
import Derived.Test.YtgchiamkeeljkaaGreatDoorWgef
namespace Go.Proofs.YtgchiamkeeljkaaGreatDoor
open Go Go.RowKit

theorem val_one (s : ByteArray) (i : Nat) : ((valOf s.data.toList i 1 : Nat) : Int) = byteI s i := by
  simp [valOf, byteI]
theorem wrap_byte (s : ByteArray) (i : Nat) : IntKind.i64.wrap (byteI s i) = byteI s i := by
  have := byteI_bd s i
  rw [IntWalk.i64_left]; exact IntWalk.wrap64_in _ (by omega)
set_option maxRecDepth 20000 in
set_option maxHeartbeats 2000000 in
theorem ofstream_any (K M S W P X R : Int) (s : ByteArray) (b c : Nat) (w : World) (hz : s.size ≤ 281474976710656) (hc : ∀ i, i < s.size → w.cell? ⟨b, i, none⟩ = some (byteAt s i)) (hcx : s.size ≤ c) (hb : b < w.heap.size) (hn : 19 ≤ s.size) :
    Calls Tryz.prog 89 #[.agg #[.int .i64 K, .int .i64 M, .int .i64 S, .int .i64 W, .int .i64 P, .int .i64 X, .int .i64 R], .slice (some ⟨b, 0, none⟩) s.size c] w fun e w' => e = .returned (.bool (mineB K M S s)) ∧ Keeps NoB w w' := by
  have HC : Hid (∀ i, i < s.size → (w.alloc (.cells #[.int .i64 K, .int .i64 M, .int .i64 S, .int .i64 W, .int .i64 P, .int .i64 X, .int .i64 R] 37)).cell? ⟨b, i, none⟩ = some (byteAt s i)) := fun i hi => ((wkeeps w _).cell (a := ⟨b, i, none⟩) hb (fun x => x)).trans (hc i hi)
  obtain ⟨w0, hw0, C0, k0⟩ : ∃ w0, w.alloc (.cells #[.int .i64 K, .int .i64 M, .int .i64 S, .int .i64 W, .int .i64 P, .int .i64 X, .int .i64 R] 37) = w0 ∧ CfC w.heap.size K M S W P X R w0 ∧ Keeps NoB w w0 := ⟨_, rfl, CfC.new _ _ _ _ _ _ _ _ _, wkeeps _ _⟩
  rw [hw0] at HC
  have W0 : Hid (_ = w0) := hw0
  have K0 : Hid (Keeps NoB w w0) := k0
  have h7 : w0.cell? ⟨b, 7, none⟩ = some (.int .u8 (byteI s 7)) := HC.out 7 (by omega)
  have h8 : w0.cell? ⟨b, 8, none⟩ = some (.int .u8 (byteI s 8)) := HC.out 8 (by omega)
  have e7 := wrap_byte s 7
  have e8 := wrap_byte s 8
  clear hw0 k0 hc hb
  unfold CfC at C0
  have HM : Hid (mineB K M S s = ((byteI s 7 == K) && (byteI s 8 == M) && (((valOf s.data.toList 9 2 : Nat) : Int) == S))) := by
    show _ = _
    rw [mineB, val_one, val_one, Bool.eq_iff_iff]
    simp
  rw [HM.out]
  have g7 : 7 < s.size := by omega
  have g8 : 8 < s.size := by omega
  by_cases t7 : (byteI s 7 == K) = true
  · by_cases t8 : (byteI s 8 == M) = true
    · go_enter Tryz.func89, Tryz.ntmps89
      go_upto_region 1 with fail
      rw [W0.out]
      go_quiet (first | (go_at_call 125; exact Calls.quiet_of_same (number_at s b 9 2 _ _ (by omega) (by omega) hz (drewN_cells HC.out _) _ _ (by rfl) (by rfl))))
      go_wp2
      go_ret
      exact ⟨by simp [t7, t8], K0.out.drewN _⟩
    · replace t8 : (byteI s 8 == M) = false := by simpa using t8
      go_enter Tryz.func89, Tryz.ntmps89
      go_upto_region 1 with fail
      rw [W0.out]
      go_quiet (fail)
      go_wp2
      go_ret
      exact ⟨by simp [t7, t8], K0.out.drewN _⟩
  · replace t7 : (byteI s 7 == K) = false := by simpa using t7
    go_enter Tryz.func89, Tryz.ntmps89
    go_upto_region 1 with fail
    rw [W0.out]
    go_quiet (fail)
    go_wp2
    go_ret
    exact ⟨by simp [t7], K0.out.drewN _⟩
end Go.Proofs.YtgchiamkeeljkaaGreatDoor
