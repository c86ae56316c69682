/-
  weavelaw.Book.looks.
-/
import Derived.Test.YtgchiamkeeljkaaGreatDoorKeeps
import Derived.Deep.QuietTactic
import Derived.BigQuiet
namespace Go.Proofs.YtgchiamkeeljkaaGreatDoor
open Go Go.RowKit

/-- What the walks read of the book's header and row. -/
theorem BookOk.reads {B bw : Nat} {F : Nat → Value} {L : List Sl} {w : World} (h : BookOk B bw F L w) : ∃ A cp, F 4 = .slice A L.length cp ∧ w.cell? ⟨bw, 4, none⟩ = some (.slice A L.length cp) ∧ w.cell? ⟨bw, 5, none⟩ = some (.slice none 0 0) ∧ w.cell? ⟨bw, 6, none⟩ = some (.slice none 0 0) ∧
    ∀ i s, L[i]? = some s → ∃ g, A = some ⟨g, 0, none⟩ ∧ g < w.heap.size ∧ B ≤ g ∧ w.cell? ⟨g, i, none⟩ = some (.slice s.ad s.n s.c) := by
  have c4 := h.brow.row.cell (i := 4) (by decide)
  have c5 := h.brow.row.cell (i := 5) (by decide)
  have c6 := h.brow.row.cell (i := 6) (by decide)
  rw [h.f5] at c5
  rw [h.f6] at c6
  have hlt := h.brow.own.lt
  obtain ⟨hl, ⟨h1, h2⟩ | ⟨g, cap, cur, h1, h2, h3, h4, h5, h6, h7⟩⟩ := h.brow.own
  · refine ⟨none, 0, by rw [h1, h2], by rw [c4, h1, h2], c5, c6, fun i s hi => ?_⟩
    rw [List.getElem?_eq_none (by omega)] at hi; cases hi
  · refine ⟨some ⟨g, 0, none⟩, cap, h1, by rw [c4, h1], c5, c6, fun i s hi => ⟨g, rfl, (hlt g (by rw [h1]; rfl)).2, h2, ?_⟩⟩
    have hi' : i < L.length := by
      rcases Nat.lt_or_ge i L.length with x | x
      · exact x
      · rw [List.getElem?_eq_none x] at hi; cases hi
    have e : cur[i]? = some s.val := by
      have : (L.map Sl.val)[i]? = some s.val := by simp [hi]
      rw [← h7, List.getElem?_take, if_pos (by omega), Array.getElem?_toList] at this
      exact this
    show w.cell? ⟨g, i, none⟩ = some s.val
    simp [World.cell?, h3, e]

set_option maxRecDepth 20000 in
set_option maxHeartbeats 400000 in
theorem looks_any (B bw : Nat) (F : Nat → Value) (L : List Sl) (w : World) (h : BookOk B bw F L w) (hL : L.length ≤ 140737488355328) (hn : ∀ s ∈ L, s.n ≤ 140737488355328) :
    Calls Tryz.prog 26 #[.pointer (some ⟨bw, 4, none⟩)] w fun e w' => e = .returned (.bool true) ∧ Keeps NoB w w' := by
  obtain ⟨A, cp, hF4, c4, c5, c6, hrow⟩ := h.reads
  have H : Hid (BookOk B bw F L w) := h
  have HR : Hid (∀ i s, L[i]? = some s → ∃ g, A = some ⟨g, 0, none⟩ ∧ g < w.heap.size ∧ B ≤ g ∧ w.cell? ⟨g, i, none⟩ = some (.slice s.ad s.n s.c)) := hrow
  have HN : Hid (∀ s ∈ L, s.n ≤ 140737488355328) := hn
  have hbw : bw < w.heap.size := Nat.lt_of_lt_of_le h.brow.lt h.brow.le
  have C4 : Hid (w.cell? ⟨bw, 4, none⟩ = some (.slice A L.length cp)) := c4
  have C5 : Hid (w.cell? ⟨bw, 5, none⟩ = some (.slice none 0 0)) := c5
  have C6 : Hid (w.cell? ⟨bw, 6, none⟩ = some (.slice none 0 0)) := c6
  clear h hrow hn hF4 c4 c5 c6
  go_enter Tryz.func26, Tryz.ntmps26
  go_wp2
  go_loopw [3, 4] (fun t _ wr => ∃ i : Nat, i ≤ L.length ∧ t = .int .i64 i ∧ Hid (Keeps NoB w wr)) (fun t _ _ => L.length - (intOf t).toNat)
  case atStart => exact ⟨0, by omega, rfl, Keeps.refl _ _⟩
  case round =>
    obtain ⟨i, hi, rfl, hk⟩ := hrel
    have c4 : wr.cell? ⟨bw, 4, none⟩ = some (.slice A L.length cp) := (hk.out.cell hbw (fun x => x)).trans C4.out
    by_cases hlt : i < L.length
    · obtain ⟨⟨sad, sn, sc⟩, hs⟩ : ∃ s, L[i]? = some s := ⟨L[i], List.getElem?_eq_getElem hlt⟩
      obtain ⟨g, rfl, hg, _, hgc⟩ := HR.out i _ hs
      have hsn := HN.out _ (List.mem_of_getElem? hs)
      have gc : wr.cell? ⟨g, i, none⟩ = some (.slice sad sn sc) := (hk.out.cell hg (fun x => x)).trans hgc
      have hi0 : (0 : Int) ≤ (i : Int) := by omega
      have hi1 : (i : Int) < (L.length : Int) := by omega
      have HM : Hid (Marked w ⟨sad, sn, sc⟩ (mkV i)) := H.out.marks i _ hs
      have HGC : Hid (w.cell? ⟨g, i, none⟩ = some (.slice sad sn sc)) := hgc
      have hsn' : sn ≤ 140737488355328 := hsn
      clear hgc hsn hs
      go_wp2
      clear c4 gc
      go_loopw [4] (fun t wr => ∃ j : Nat, j ≤ sn ∧ t = .int .i64 j ∧ Hid (Keeps NoB w wr)) (fun t _ => sn - (intOf t).toNat)
      case atStart => exact ⟨0, by omega, rfl, hk⟩
      case round =>
        clear hk
        obtain ⟨j, hj, rfl, hk⟩ := hrel
        have c4 : wr.cell? ⟨bw, 4, none⟩ = some (.slice (some ⟨g, 0, none⟩) L.length cp) := (hk.out.cell hbw (fun x => x)).trans C4.out
        have gc : wr.cell? ⟨g, i, none⟩ = some (.slice sad sn sc) := (hk.out.cell hg (fun x => x)).trans HGC.out
        by_cases hjn : j < sn
        · obtain ⟨b, o, hsad, hc, hf⟩ := (HM.out.keeps hk.out (fun _ _ x => x)).at hjn
          obtain rfl : sad = some ⟨b, o, none⟩ := hsad
          have hj0 : (0 : Int) ≤ (j : Int) := by omega
          have hj1 : (j : Int) < (sn : Int) := by omega
          rw [mkV] at hc
          go_wp2
          go_quiet ((go_at_call 44; exact Calls.quiet_of_same (mark_any _ _ (by omega))))
          go_wp2
          go_roundw
          case rel => exact ⟨j + 1, by omega, by go_num, hk.out.drewN _⟩
          case measure => simp [intOf]; omega
        · go_wp2
          go_roundw
          case rel => exact ⟨i + 1, by omega, by go_num, hk⟩
          case measure => simp [intOf]; omega
    · go_wp2
      go_loopw [5, 6] (fun t _ wr => t = .int .i64 0 ∧ Hid (Keeps NoB w wr)) (fun _ _ _ => 0)
      case atStart => exact ⟨rfl, hk⟩
      case round =>
        clear hk c4
        obtain ⟨rfl, hk⟩ := hrel
        have c5 : wr.cell? ⟨bw, 5, none⟩ = some (.slice none 0 0) := (hk.out.cell hbw (fun x => x)).trans C5.out
        go_wp2
        go_loopw [7, 8] (fun t _ wr => t = .int .i64 0 ∧ Hid (Keeps NoB w wr)) (fun _ _ _ => 0)
        case atStart => exact ⟨rfl, hk⟩
        case round =>
          clear hk c5
          obtain ⟨rfl, hk⟩ := hrel
          have c6 : wr.cell? ⟨bw, 6, none⟩ = some (.slice none 0 0) := (hk.out.cell hbw (fun x => x)).trans C6.out
          go_wp2
          go_ret
          exact ⟨rfl, hk⟩
end Go.Proofs.YtgchiamkeeljkaaGreatDoor
