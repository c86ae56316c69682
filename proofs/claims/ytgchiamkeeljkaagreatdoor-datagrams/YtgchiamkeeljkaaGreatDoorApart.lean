/-
  weavelaw.Book.apart.
-/
import Derived.Test.YtgchiamkeeljkaaGreatDoorLooks
import Derived.Deep.RegionHeld3
namespace Go.Proofs.YtgchiamkeeljkaaGreatDoor
open Go Go.RowKit

/-- The blocks of the group of the n-th list. -/
def GB (L : List Sl) (n : Nat) (b : Nat) : Prop := ∃ i s, i / 4 = n / 4 ∧ L[i]? = some s ∧ s.blk = some b

theorem BookOk.gb {B bw : Nat} {F : Nat → Value} {L : List Sl} {w : World} (h : BookOk B bw F L w) {n b : Nat} (hg : GB L n b) : B ≤ b ∧ b ≠ bw ∧ (F 4).ownBlock ≠ some b := by
  obtain ⟨i, s, _, hs, hb⟩ := hg
  obtain ⟨q1, _, q3⟩ := h.far s (List.mem_of_getElem? hs) b hb
  exact ⟨q1, by have := h.brow.lt; omega, q3⟩
/-- Behind the group's lists are marked again, the book is whole. -/
theorem BookOk.regroup {B bw : Nat} {F : Nat → Value} {L : List Sl} {w w' : World} (h : BookOk B bw F L w) {n : Nat} (k : Keeps (GB L n) w w') (hm : ∀ i s, L[i]? = some s → i / 4 = n / 4 → Marked w' s (mkV i)) : BookOk B bw F L w' := by
  refine ⟨h.brow.keeps k (fun x => (h.gb x).2.1 rfl) (fun b e x => (h.gb x).2.2 e), h.f5, h.f6, fun i s hi => ?_, fun s hs b e => ?_, h.sep⟩
  · by_cases hg : i / 4 = n / 4
    · exact hm i s hi hg
    · refine (h.marks i s hi).keeps k (fun b e x => ?_)
      obtain ⟨i', s', hg', hs', hb'⟩ := x
      exact h.sep i' i s' s b hs' hi (by omega) hb' e
  · obtain ⟨h1, h2, h3⟩ := h.far s hs b e
    exact ⟨h1, Nat.lt_of_lt_of_le h2 k.size, h3⟩

/-- On the way: the group's lists are written. -/
structure ApSt (L : List Sl) (n : Nat) (w0 w : World) : Prop where
  keeps : Keeps (GB L n) w0 w
  sized : ∀ s ∈ L, Sized w s
theorem ApSt.start {B bw : Nat} {F : Nat → Value} {L : List Sl} {w : World} (h : BookOk B bw F L w) (n : Nat) : ApSt L n w w :=
  ⟨Keeps.refl _ _, fun s hs => by
    obtain ⟨i, hi⟩ := List.mem_iff_getElem?.1 hs
    exact (h.marks i s hi).sized⟩
theorem ApSt.store {L : List Sl} {n : Nat} {w0 w : World} (h : ApSt L n w0 w) {i : Nat} {s : Sl} (hi : i / 4 = n / 4) (hs : L[i]? = some s) {b o : Nat} (ha : s.ad = some ⟨b, o, none⟩) (j : Nat) (v : Value) : ApSt L n w0 (w.setCell ⟨b, o + j, none⟩ v) :=
  ⟨h.keeps.setCell (a := ⟨b, o + j, none⟩) (.inr ⟨i, s, hi, hs, by simp [Sl.blk, ha]⟩) v, fun t ht => (h.sized t ht).set _ rfl v⟩
theorem ApSt.drew {L : List Sl} {n : Nat} {w0 w : World} (h : ApSt L n w0 w) : ApSt L n w0 w.drew := ⟨h.keeps.drew, h.sized⟩
theorem ApSt.other {B bw : Nat} {F : Nat → Value} {L : List Sl} {n : Nat} {w0 w : World} (hb : BookOk B bw F L w0) (h : ApSt L n w0 w) {i : Nat} {s : Sl} (hs : L[i]? = some s) (hg : i / 4 ≠ n / 4) : Marked w s (mkV i) :=
  (hb.marks i s hs).keeps h.keeps (fun b e x => by
    obtain ⟨i', s', hg', hs', hb'⟩ := x
    exact hb.sep i' i s' s b hs' hs (by omega) hb' e)
/-- Of the group those up to i are marked again. -/
def Done (L : List Sl) (n i : Nat) (w : World) : Prop := ∀ i' s, L[i']? = some s → n ≤ i' → i' < i → Marked w s (mkV n)
theorem Done.store {L : List Sl} {n i : Nat} {w : World} (h : Done L n i w) (b o : Nat) : Done L n i (w.setCell ⟨b, o, none⟩ (mkV n)) := fun i' s hs h1 h2 => (h i' s hs h1 h2).setSame b o
theorem mkV_group {i n : Nat} (h : i / 4 = n / 4) : mkV i = mkV n := by unfold mkV mkN; rw [h]

theorem mk7 (i : Nat) : (((mkN i : Nat) : Int) == 7) = false := by
  have : (mkN i : Nat) ≠ 7 := by unfold mkN; omega
  simp; omega
set_option maxRecDepth 20000 in
set_option maxHeartbeats 4000000 in
theorem apart_any (B bw : Nat) (F : Nat → Value) (L : List Sl) (w : World) (h : BookOk B bw F L w) (h4 : L.length % 4 = 0) (hL : L.length ≤ 140737488355328) (hn : ∀ s ∈ L, s.n ≤ 140737488355328) :
    Calls Tryz.prog 27 #[.pointer (some ⟨bw, 4, none⟩)] w fun e w' => e = .returned (.bool true) ∧ Keeps (fun b => B ≤ b) w w' := by
  obtain ⟨A, cp, hF4, _⟩ := h.reads
  have H : Hid (BookOk B bw F L w) := h
  have HN : Hid (∀ s ∈ L, s.n ≤ 140737488355328) := hn
  have HF : Hid (F 4 = .slice A L.length cp) := hF4
  have hBw : bw < B := h.brow.lt
  clear h hn hF4
  go_enter Tryz.func27, Tryz.ntmps27
  go_wp2
  go_loopw [3, 4, 5, 6, 7, 8, 9] (fun t _ _ _ _ _ _ wr => ∃ n : Nat, n ≤ L.length ∧ n % 4 = 0 ∧ t = .int .i64 n ∧ Hid (BookOk B bw F L wr) ∧ Hid (Keeps (fun b => B ≤ b) w wr)) (fun t _ _ _ _ _ _ _ => L.length - (intOf t).toNat)
  case atStart => exact ⟨0, by omega, rfl, rfl, H, Keeps.refl _ _⟩
  case round =>
    clear H
    obtain ⟨n, hnl, hn4, rfl, H, hk0⟩ := hrel
    obtain ⟨A', cp', hF4', c4', _, _, hrow⟩ := H.out.reads
    have e0 := hF4'.symm.trans HF.out
    simp only [Value.slice.injEq, true_and] at e0
    obtain ⟨rfl, rfl⟩ := e0
    have HR : Hid (∀ i s, L[i]? = some s → ∃ g, A' = some ⟨g, 0, none⟩ ∧ g < wr.heap.size ∧ B ≤ g ∧ wr.cell? ⟨g, i, none⟩ = some (.slice s.ad s.n s.c)) := hrow
    have C4 : Hid (wr.cell? ⟨bw, 4, none⟩ = some (.slice A' L.length cp')) := c4'
    clear hrow hF4'
    by_cases hlt : n < L.length
    · obtain ⟨w0, hw0⟩ : ∃ w0, w0 = wr := ⟨wr, rfl⟩
      subst hw0
      obtain ⟨g, rfl, hg, hBg, _⟩ := HR.out n _ (List.getElem?_eq_getElem hlt)
      have HG : Hid (∀ i s, L[i]? = some s → w0.cell? ⟨g, i, none⟩ = some (.slice s.ad s.n s.c)) := fun i s hs => by
        obtain ⟨g', e, _, _, hc⟩ := HR.out i s hs
        simp only [Option.some.injEq, Addr.mk.injEq, and_true] at e
        subst e; exact hc
      have hbw : bw < w0.heap.size := Nat.lt_of_lt_of_le hBw H.out.brow.le
      have NB : ¬ GB L n bw := fun x => (H.out.gb x).2.1 rfl
      have NG : ¬ GB L n g := fun x => (H.out.gb x).2.2 (by rw [HF.out]; rfl)
      have hn5 : n + 4 ≤ L.length := by omega
      have NBh : Hid (¬ GB L n bw) := NB
      have NGh : Hid (¬ GB L n g) := NG
      clear NB NG HR
      have S0 : Hid (ApSt L n w0 w0) := ApSt.start H.out n
      go_wp2
      clear c4'
      go_loopw [4, 5] (fun t _ wr => ∃ i : Nat, n ≤ i ∧ i ≤ n + 4 ∧ t = .int .i64 i ∧ Hid (ApSt L n w0 wr)) (fun t _ _ => n + 4 - (intOf t).toNat)
      case atStart => exact ⟨n, Nat.le_refl _, by omega, rfl, S0⟩
      case round =>
        clear S0
        obtain ⟨i, hi1, hi2, rfl, S1⟩ := hrel
        by_cases hi3 : i < n + 4
        · obtain ⟨⟨sad, sn, sc⟩, hs⟩ : ∃ s, L[i]? = some s := ⟨L[i], List.getElem?_eq_getElem (by omega)⟩
          have hsn : sn ≤ 140737488355328 := HN.out _ (List.mem_of_getElem? hs)
          have HS : Hid (L[i]? = some ⟨sad, sn, sc⟩) := hs
          have hiL0 : (0 : Int) ≤ (i : Int) := by omega
          have hiL : (i : Int) < (L.length : Int) := by omega
          clear hs
          go_wp2
          go_loopw [5] (fun t wr => ∃ j : Nat, j ≤ sn ∧ t = .int .i64 j ∧ Hid (ApSt L n w0 wr)) (fun t _ => sn - (intOf t).toNat)
          case atStart => exact ⟨0, by omega, rfl, S1⟩
          case round =>
            clear S1
            obtain ⟨j, hj, rfl, S1⟩ := hrel
            have c4 : wr.cell? ⟨bw, 4, none⟩ = some (.slice (some ⟨g, 0, none⟩) L.length cp') := (S1.out.keeps.cell hbw NBh.out).trans C4.out
            have gc : wr.cell? ⟨g, i, none⟩ = some (.slice sad sn sc) := (S1.out.keeps.cell hg NGh.out).trans (HG.out i _ HS.out)
            by_cases hjn : j < sn
            · obtain ⟨b, o, u, hsad, hc, hf⟩ := (S1.out.sized _ (List.mem_of_getElem? HS.out)).at hjn
              obtain rfl : sad = some ⟨b, o, none⟩ := hsad
              have S2 : Hid (ApSt L n w0 (wr.setCell ⟨b, o + j, none⟩ (.int .u8 7))) := S1.out.store (by omega) HS.out rfl j _
              go_wp2
              go_roundw
              case rel => exact ⟨j + 1, by omega, by go_num, S2⟩
              case measure => simp [intOf]; omega
            · go_wp2
              go_roundw
              case rel => exact ⟨i + 1, by omega, by omega, by go_num, S1⟩
              case measure => simp [intOf]; omega
        · obtain ⟨w2, hw2⟩ : ∃ w2, w2 = wr := ⟨wr, rfl⟩
          subst hw2
          have C42 : Hid (w2.cell? ⟨bw, 4, none⟩ = some (.slice (some ⟨g, 0, none⟩) L.length cp')) := (S1.out.keeps.cell hbw NBh.out).trans C4.out
          have HG2 : Hid (∀ i s, L[i]? = some s → w2.cell? ⟨g, i, none⟩ = some (.slice s.ad s.n s.c)) := fun i s hs => (S1.out.keeps.cell hg NGh.out).trans (HG.out i s hs)
          go_wp2
          go_loopw [6, 7] (fun t _ wr => ∃ i : Nat, i ≤ L.length ∧ t = .int .i64 i ∧ wr = w2) (fun t _ _ => L.length - (intOf t).toNat)
          case atStart => exact ⟨0, by omega, rfl, rfl⟩
          case round =>
            obtain ⟨i, hi, rfl, hwr⟩ := hrel
            subst hwr
            have c4 := C42.out
            by_cases hiL : i < L.length
            · obtain ⟨⟨sad, sn, sc⟩, hs⟩ : ∃ s, L[i]? = some s := ⟨L[i], List.getElem?_eq_getElem hiL⟩
              have hsn : sn ≤ 140737488355328 := HN.out _ (List.mem_of_getElem? hs)
              have gc : wr.cell? ⟨g, i, none⟩ = some (.slice sad sn sc) := HG2.out i _ hs
              have HS : Hid (L[i]? = some ⟨sad, sn, sc⟩) := hs
              clear hs
              obtain ⟨w2, hw2⟩ : ∃ w2, w2 = wr := ⟨wr, rfl⟩
              subst hw2
              go_wp2
              go_loopw [7] (fun t wr => ∃ j : Nat, j ≤ sn ∧ t = .int .i64 j ∧ wr = w2) (fun t _ => sn - (intOf t).toNat)
              case atStart => exact ⟨0, by omega, rfl, rfl⟩
              case round =>
                obtain ⟨j, hj, rfl, hwr⟩ := hrel
                subst hwr
                by_cases hjn : j < sn
                · by_cases h1 : i < n
                  · obtain ⟨b, o, hsad, hc, hf⟩ := (S1.out.other H.out HS.out (by omega)).at hjn
                    obtain rfl : sad = some ⟨b, o, none⟩ := hsad
                    rw [mkV] at hc
                    have h7 := mk7 i
                    have d1 : decide ((i : Int) < (n : Int)) = true := by simp; omega
                    go_wp2
                    go_roundw
                    case rel => exact ⟨j + 1, by omega, by go_num, by first | trivial | rfl⟩
                    case measure => simp [intOf]; omega
                  · by_cases h2 : n + 4 ≤ i
                    · obtain ⟨b, o, hsad, hc, hf⟩ := (S1.out.other H.out HS.out (by omega)).at hjn
                      obtain rfl : sad = some ⟨b, o, none⟩ := hsad
                      rw [mkV] at hc
                      have h7 := mk7 i
                      go_wp2
                      go_roundw
                      case rel => exact ⟨j + 1, by omega, by go_num, by first | trivial | rfl⟩
                      case measure => simp [intOf]; omega
                    · go_wp2
                      go_roundw
                      case rel => exact ⟨j + 1, by omega, by go_num, by first | trivial | rfl⟩
                      case measure => simp [intOf]; omega
                · go_wp2
                  go_roundw
                  case rel => exact ⟨i + 1, by omega, by go_num, by first | trivial | rfl⟩
                  case measure => simp [intOf]; omega
            · have D0 : Hid (Done L n n wr) := fun i' s _ h1 h2 => by omega
              have S1' : Hid (ApSt L n w0 wr) := S1
              go_wp2
              clear c4 C42 HG2 S1
              go_loopw [8, 9] (fun t _ wr => ∃ i : Nat, n ≤ i ∧ i ≤ n + 4 ∧ t = .int .i64 i ∧ Hid (ApSt L n w0 wr) ∧ Hid (Done L n i wr)) (fun t _ _ => n + 4 - (intOf t).toNat)
              case atStart => exact ⟨n, Nat.le_refl _, by omega, rfl, S1', D0⟩
              case round =>
                clear S1' D0
                obtain ⟨i, hi1, hi2, rfl, S1, D1⟩ := hrel
                by_cases hi3 : i < n + 4
                · obtain ⟨⟨sad, sn, sc⟩, hs⟩ : ∃ s, L[i]? = some s := ⟨L[i], List.getElem?_eq_getElem (by omega)⟩
                  have hsn : sn ≤ 140737488355328 := HN.out _ (List.mem_of_getElem? hs)
                  have HS : Hid (L[i]? = some ⟨sad, sn, sc⟩) := hs
                  have hiL0 : (0 : Int) ≤ (i : Int) := by omega
                  have hiL : (i : Int) < (L.length : Int) := by omega
                  have hd94 : decide ((i : Int) < (n : Int) + 4) = true := by simp; omega
                  have M0 : Hid (MarkedUpto wr ⟨sad, sn, sc⟩ (mkV n) 0) := MarkedUpto.start (S1.out.sized _ (List.mem_of_getElem? hs))
                  clear hs
                  go_wp2
                  go_loopw [9] (fun t wr => ∃ j : Nat, j ≤ sn ∧ t = .int .i64 j ∧ Hid (ApSt L n w0 wr) ∧ Hid (Done L n i wr) ∧ Hid (MarkedUpto wr ⟨sad, sn, sc⟩ (mkV n) j)) (fun t _ => sn - (intOf t).toNat)
                  case atStart => exact ⟨0, by omega, rfl, S1, D1, M0⟩
                  case round =>
                    clear S1 D1 M0
                    obtain ⟨j, hj, rfl, S1, D1, M1⟩ := hrel
                    have c4 : wr.cell? ⟨bw, 4, none⟩ = some (.slice (some ⟨g, 0, none⟩) L.length cp') := (S1.out.keeps.cell hbw NBh.out).trans C4.out
                    have gc : wr.cell? ⟨g, i, none⟩ = some (.slice sad sn sc) := (S1.out.keeps.cell hg NGh.out).trans (HG.out i _ HS.out)
                    by_cases hjn : j < sn
                    · obtain ⟨b, o, u, hsad, hc, hf⟩ := M1.out.at hjn
                      obtain rfl : sad = some ⟨b, o, none⟩ := hsad
                      have hj0 : (0 : Int) ≤ (j : Int) := by omega
                      have hj1 : (j : Int) < (sn : Int) := by omega
                      have ev : Hid (Value.int .u8 (mkN i : Nat) = mkV n) := mkV_group (show i / 4 = n / 4 by omega)
                      have S2 : Hid (ApSt L n w0 (wr.setCell ⟨b, o + j, none⟩ (.int .u8 (mkN i : Nat)))) := S1.out.store (by omega) HS.out rfl j _
                      have D2 : Hid (Done L n i (wr.setCell ⟨b, o + j, none⟩ (.int .u8 (mkN i : Nat)))) := by rw [ev.out]; exact D1.out.store b (o + j)
                      have M2 : Hid (MarkedUpto (wr.setCell ⟨b, o + j, none⟩ (.int .u8 (mkN i : Nat))) ⟨some ⟨b, o, none⟩, sn, sc⟩ (mkV n) (j + 1)) := by rw [ev.out]; exact M1.out.step hjn rfl
                      have c42 : (wr.setCell ⟨b, o + j, none⟩ (.int .u8 (mkN i : Nat))).cell? ⟨bw, 4, none⟩ = some (.slice (some ⟨g, 0, none⟩) L.length cp') := (S2.out.keeps.cell hbw NBh.out).trans C4.out
                      have gc2 : (wr.setCell ⟨b, o + j, none⟩ (.int .u8 (mkN i : Nat))).cell? ⟨g, i, none⟩ = some (.slice (some ⟨b, o, none⟩) sn sc) := (S2.out.keeps.cell hg NGh.out).trans (HG.out i _ HS.out)
                      go_wp2
                      go_region_held3 (fun w' => w'.cell? ⟨bw, 4, none⟩ = some (.slice (some ⟨g, 0, none⟩) L.length cp') ∧ w'.cell? ⟨g, i, none⟩ = some (.slice (some ⟨b, o, none⟩) sn sc)) (first | (exact ⟨c42, gc2⟩) | (exact ⟨c4, gc⟩) | go_keep) (first | (go_at_call 44; refine (mark_any _ _ (by omega)).mono ?_; rintro e w1 ⟨rfl, hw1⟩; obtain rfl := hw1.symm))
                      go_wp2
                      go_roundw
                      case rel => first | exact ⟨j + 1, by omega, by go_num, S2.out.drew, D2, M2⟩ | ((repeat apply Exists.intro); refine ⟨?_, rfl⟩; exact ⟨j + 1, by omega, by go_num, S2.out.drew, D2, M2⟩)
                      case measure => simp [intOf]; omega
                    · have D2 : Hid (Done L n (i + 1) wr) := fun i' s hs h1 h2 => by
                        by_cases e : i' = i
                        · subst e
                          have e2 := Option.some.inj (hs.symm.trans HS.out)
                          subst e2
                          have ej : j = sn := by omega
                          subst ej; exact M1.out.done
                        · exact D1.out i' s hs h1 (by omega)
                      go_wp2
                      go_roundw
                      case rel => exact ⟨i + 1, by omega, by omega, by go_num, S1, D2⟩
                      case measure => simp [intOf]; omega
                · have B1 : Hid (BookOk B bw F L wr) := H.out.regroup S1.out.keeps (fun i' s hs hg' => by
                    rw [mkV_group hg']
                    exact D1.out i' s hs (by omega) (by omega))
                  have K1 : Hid (Keeps (fun b => B ≤ b) w wr) := hk0.out.trans' S1.out.keeps (fun b _ x => (H.out.gb x).1)
                  go_wp2
                  go_roundw
                  case rel => exact ⟨n + 4, by omega, by omega, by go_num, B1, K1⟩
                  case measure => simp [intOf]; omega
    · go_wp2
      go_ret
      exact ⟨rfl, hk0⟩
end Go.Proofs.YtgchiamkeeljkaaGreatDoor
