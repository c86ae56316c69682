/-
  gf.Add and weaveref.Add.
-/
import Derived.Test.YtgchiamkeeljkaaGreatDoorRef
import Derived.Test.YtgchiamkeeljkaaGreatDoorLent
import Derived.Test.YtgchiamkeeljkaaGreatDoorRmat
import Derived.Deep.RegionHeld3
import Derived.Deep.AppendLies
import Derived.Deep.DrawnRows
namespace Go.Proofs.YtgchiamkeeljkaaGreatDoor
open Go Go.RowKit Go.Proofs.YtgchiamkeeljkaaGreatDoor.M

theorem Tabs.keeps {S : Nat → Prop} {w w' : World} (h : Tabs w) (k : Keeps S w w') (h0 : ¬ S 0) (h1 : ¬ S 1) (h3 : ¬ S 3) : Tabs w' := by
  obtain ⟨a, b, c⟩ := h
  exact ⟨fun i hi => (k.cell (World.block_lt_of_cell? w _ (a i hi)) h0).trans (a i hi), fun i hi => (k.cell (World.block_lt_of_cell? w _ (b i hi)) h1).trans (b i hi), fun i hi => (k.cell (World.block_lt_of_cell? w _ (c i hi)) h3).trans (c i hi)⟩
theorem Tabs.drew {w : World} (h : Tabs w) : Tabs w.drew := h

def sumN (s : ByteArray) (c : Int) (t : ByteArray) (i : Nat) : Nat := (s.data.toList.getD i 0).toNat ^^^ prN c.toNat (t.data.toList.getD i 0).toNat
theorem sumN_lt (s : ByteArray) (c : Int) (t : ByteArray) (i : Nat) : sumN s c t i < 256 := xor_lt _ _ (s.data.toList.getD i 0).toNat_lt (pr_lt _ _)
def sumS (s : ByteArray) (c : Int) (t : ByteArray) : ByteArray := ⟨((List.range s.size).map fun i => UInt8.ofNat (sumN s c t i)).toArray⟩
theorem sumS_size (s : ByteArray) (c : Int) (t : ByteArray) : (sumS s c t).size = s.size := by rw [Lib.size_eq]; simp [sumS]
theorem sumS_at (s : ByteArray) (c : Int) (t : ByteArray) (i : Nat) (h : i < s.size) : byteAt (sumS s c t) i = .int .u8 (sumN s c t i : Nat) := by
  have e : (sumS s c t).data.toList.getD i 0 = UInt8.ofNat (sumN s c t i) := by
    simp [sumS, List.getD_eq_getElem?_getD, h]
  rw [byteAt, e]
  congr 2
  rw [UInt8.toNat_ofNat']
  exact Nat.mod_eq_of_lt (sumN_lt s c t i)
theorem sum_of (s : ByteArray) (c : Int) (t : ByteArray) (i : Nat) : bits .xor .u8 (byteI s i) (prI c (byteI t i)) = (sumN s c t i : Nat) := by
  have h := pr_lt c.toNat (t.data.toList.getD i 0).toNat
  have h' := (s.data.toList.getD i 0).toNat_lt
  rw [prI, byteI, byteI, Int.toNat_natCast, u8_xor_nat _ _ (by omega) (by omega), sumN]

/-- A row of sums, of which the first j places are done. -/
def sumUpto (s : ByteArray) (c : Int) (t : ByteArray) (j i : Nat) : Value := if i < j then .int .u8 (sumN s c t i : Nat) else .int .u8 0
theorem sum_step {w : World} {b n : Nat} {s t : ByteArray} {c : Int} {j : Nat} (h : w.rowIs b 5 n (sumUpto s c t j)) :
    (w.setCell ⟨b, j, none⟩ (.int .u8 (sumN s c t j : Nat))).rowIs b 5 n (sumUpto s c t (j + 1)) := by
  refine (h.set j _).congr fun i _ => ?_
  unfold sumUpto
  by_cases h1 : i = j
  · subst h1; rw [if_pos rfl, if_pos (by omega)]
  · rw [if_neg h1]
    by_cases h2 : i < j
    · rw [if_pos h2, if_pos (by omega)]
    · rw [if_neg h2, if_neg (by omega)]

set_option maxRecDepth 20000 in
set_option maxHeartbeats 1000000 in
theorem add_yes (s t : ByteArray) (c : Int) (bx by' cx cy : Nat) (w : World) (hT : Tabs w) (hs : s.size ≤ 140737488351232) (hst : t.size = s.size) (h1 : 0 ≤ c) (h2 : c ≤ 255)
    (hx : ∀ i, i < s.size → w.cell? ⟨bx, i, none⟩ = some (byteAt s i)) (hy : ∀ i, i < s.size → w.cell? ⟨by', i, none⟩ = some (byteAt t i)) (hbx : bx < w.heap.size) (hby : by' < w.heap.size) :
    Calls Tryz.prog 57 #[.slice (some ⟨bx, 0, none⟩) s.size cx, .int .i64 c, .slice (some ⟨by', 0, none⟩) t.size cy] w fun e w' =>
      e = .returned (.tuple #[.slice (some ⟨w.heap.size, 0, none⟩) s.size s.size, .int .i64 0]) ∧ w'.rowIs w.heap.size 5 s.size (byteAt (sumS s c t)) ∧ Keeps NoB w w' ∧ w'.heap.size = w.heap.size + 1 := by
  have hmk := run_make_row' (P := Tryz.prog) 54 5 (.int .u8 0) 1 Tryz.underlying54 info5 rfl .i64 .i64 s.size (by omega) (by omega)
  have nc := num_yes c h1 h2
  have hT0 := hT
  have HX : Hid (∀ i, i < s.size → w.cell? ⟨bx, i, none⟩ = some (byteAt s i)) := hx
  have HY : Hid (∀ i, i < s.size → w.cell? ⟨by', i, none⟩ = some (byteAt t i)) := hy
  clear hx hy
  go_enter Tryz.func57, Tryz.ntmps57
  go_wp2_with (go_at_call 93; refine (isnum_any _ _).mono ?_; rintro e w1 ⟨rfl, hw1⟩; obtain rfl := hw1.symm)
  have hr0 : Hid ((w.alloc (.cells (madeCells #[.int .u8 0] s.size) 5)).rowIs w.heap.size 5 s.size (sumUpto s c t 0)) := (World.rowIs_made w (.int .u8 0) s.size 5).congr fun i _ => by unfold sumUpto; rw [if_neg (by omega)]
  have hk0 : Hid (Keeps NoB w (w.alloc (.cells (madeCells #[.int .u8 0] s.size) 5))) := (Keeps.refl _ _).alloc _
  go_loopw [25, 9] (fun i _ wr => ∃ j : Nat, j ≤ s.size ∧ i = .int .i64 j ∧ Hid (wr.rowIs w.heap.size 5 s.size (sumUpto s c t j)) ∧ Hid (Keeps NoB w wr) ∧ wr.heap.size = w.heap.size + 1) (fun i _ _ => s.size - (intOf i).toNat)
  case atStart => exact ⟨0, by omega, rfl, hr0, hk0, by simp⟩
  case round =>
    clear hr0 hk0 hmk
    obtain ⟨j, hj, rfl, hr, hk, hz⟩ := hrel
    by_cases hlt : j < s.size
    · have hc := hr.out.cell hlt
      have hf := hr.out.frozen j
      have hcx : wr.cell? ⟨bx, j, none⟩ = some (.int .u8 (byteI s j)) := (hk.out.cell hbx (fun x => x)).trans (HX.out j hlt)
      have hcy : wr.cell? ⟨by', j, none⟩ = some (.int .u8 (byteI t j)) := (hk.out.cell hby (fun x => x)).trans (HY.out j hlt)
      have hTr : Tabs wr.drew := (hT0.keeps (S := NoB) hk.out (fun x => x) (fun x => x) (fun x => x)).drew
      have hj0 : (0 : Int) ≤ (j : Int) := by omega
      have hj1 : (j : Int) < (s.size : Int) := by omega
      have bt := byteI_bd t j
      have bp := pr_bd c (byteI t j)
      have hsum := sum_of s c t j
      have hwi : IntKind.i64.wrap (byteI t j) = byteI t j := by rw [IntWalk.i64_left]; exact IntWalk.wrap64_in _ (by omega)
      have hwu : IntKind.u8.wrap (prI c (byteI t j)) = prI c (byteI t j) := by rw [IntKind.wrap_u8']; omega
      have R : Hid ((wr.setCell ⟨w.heap.size, j, none⟩ (.int .u8 (sumN s c t j : Nat))).rowIs w.heap.size 5 s.size (sumUpto s c t (j + 1))) := sum_step hr.out
      have K : Hid (Keeps NoB w (wr.setCell ⟨w.heap.size, j, none⟩ (.int .u8 (sumN s c t j : Nat)))) := hk.out.setCell (Or.inl (Nat.le_refl _)) _
      have hcx2 : (wr.setCell ⟨w.heap.size, j, none⟩ (.int .u8 (sumN s c t j : Nat))).cell? ⟨bx, j, none⟩ = some (.int .u8 (byteI s j)) := (K.out.cell (a := ⟨bx, j, none⟩) hbx (fun x => x)).trans (HX.out j hlt)
      have hcy2 : (wr.setCell ⟨w.heap.size, j, none⟩ (.int .u8 (sumN s c t j : Nat))).cell? ⟨by', j, none⟩ = some (.int .u8 (byteI t j)) := (K.out.cell (a := ⟨by', j, none⟩) hby (fun x => x)).trans (HY.out j hlt)
      clear hT hT0 HX HY
      go_wp2
      go_region_held3 (fun w' => w'.cell? ⟨bx, j, none⟩ = some (.int .u8 (byteI s j)) ∧ w'.cell? ⟨by', j, none⟩ = some (.int .u8 (byteI t j))) (first | (exact ⟨hcx2, hcy2⟩) | go_keep) (first | (go_at_call 94; refine (pr_any _ _ _ hTr h1 h2 bt.1 bt.2).mono ?_; rintro e w1 ⟨rfl, hw1⟩; obtain rfl := hw1.symm))
      go_wp2
      go_roundw
      case rel => exact ⟨j + 1, by omega, by go_num, R, K.out.drew, by simp [World.setCell]; exact hz⟩
      case measure => simp [intOf]; omega
    · have R : Hid (wr.rowIs w.heap.size 5 s.size (byteAt (sumS s c t))) := hr.out.congr fun i hi => by
        unfold sumUpto
        rw [if_pos (by omega), sumS_at s c t i hi]
      go_wp2
      go_ret2
      exact ⟨rfl, R, hk, hz⟩
set_option maxRecDepth 20000 in
set_option maxHeartbeats 400000 in
theorem add_no (c : Int) (a1 a2 : Option Addr) (n1 c1 n2 c2 : Nat) (w : World) (h : numB c = false ∨ n1 ≠ n2) :
    Calls Tryz.prog 57 #[.slice a1 n1 c1, .int .i64 c, .slice a2 n2 c2] w fun e w' => e = .returned (.tuple #[.slice none 0 0, .int .i64 1]) ∧ w' = w := by
  by_cases hc : numB c = true
  · have hn : n1 ≠ n2 := by simpa [hc] using h
    have hn' : ((n1 : Int) != (n2 : Int)) = true := by simp; omega
    clear h hn
    go_enter Tryz.func57, Tryz.ntmps57
    go_wp2_with (go_at_call 93; refine (isnum_any _ _).mono ?_; rintro e w1 ⟨rfl, hw1⟩; obtain rfl := hw1.symm)
    go_ret2
    exact ⟨rfl, rfl⟩
  · have hc' : numB c = false := by simpa using hc
    clear h hc
    go_enter Tryz.func57, Tryz.ntmps57
    go_wp2_with (go_at_call 93; refine (isnum_any _ _).mono ?_; rintro e w1 ⟨rfl, hw1⟩; obtain rfl := hw1.symm)
    go_ret2
    exact ⟨rfl, rfl⟩
set_option maxRecDepth 20000 in
set_option maxHeartbeats 400000 in
theorem refadd_no (c : Int) (s t : ByteArray) (w : World) (h : numB c = false ∨ s.size ≠ t.size) :
    Calls Tryz.prog 58 #[.string s, .int .i64 c, .string t] w fun e w' => e = .returned (.tuple #[.string ⟨#[]⟩, .int .i64 1]) ∧ w' = w := by
  by_cases hc : numB c = true
  · have hn : s.size ≠ t.size := by simpa [hc] using h
    have hn' : ((s.size : Int) != (t.size : Int)) = true := by simp; omega
    clear h hn
    go_enter Tryz.func58, Tryz.ntmps58
    go_wp2_with (go_at_call 95; refine (refnum_any _ _).mono ?_; rintro e w1 ⟨rfl, hw1⟩; obtain rfl := hw1.symm)
    go_ret2
    exact ⟨rfl, rfl⟩
  · have hc' : numB c = false := by simpa using hc
    clear h hc
    go_enter Tryz.func58, Tryz.ntmps58
    go_wp2_with (go_at_call 95; refine (refnum_any _ _).mono ?_; rintro e w1 ⟨rfl, hw1⟩; obtain rfl := hw1.symm)
    go_ret2
    exact ⟨rfl, rfl⟩

def sumL (s : ByteArray) (c : Int) (t : ByteArray) (j : Nat) : List Value := (List.range j).map fun i => .int .u8 (sumN s c t i : Nat)
theorem sumL_succ (s : ByteArray) (c : Int) (t : ByteArray) (j : Nat) : sumL s c t j ++ [.int .u8 (sumN s c t j : Nat)] = sumL s c t (j + 1) := by simp [sumL, List.range_succ]
set_option maxRecDepth 20000 in
set_option maxHeartbeats 1000000 in
theorem refadd_yes (s t : ByteArray) (c : Int) (w : World) (hs : s.size ≤ 140737488351232) (hst : t.size = s.size) (h1 : 0 ≤ c) (h2 : c ≤ 255) :
    Calls Tryz.prog 58 #[.string s, .int .i64 c, .string t] w fun e w' => e = .returned (.tuple #[.string (sumS s c t), .int .i64 0]) ∧ Keeps NoB w w' := by
  have nc := num_yes c h1 h2
  obtain ⟨i0, hi0, hz0, hz1, hz2⟩ := info_parts info5
  go_enter Tryz.func58, Tryz.ntmps58
  go_wp2_with (go_at_call 95; refine (refnum_any _ _).mono ?_; rintro e w1 ⟨rfl, hw1⟩; obtain rfl := hw1.symm)
  go_loopw [8, 9] (fun v i wr => ∃ j : Nat, j ≤ s.size ∧ i = .int .i64 j ∧ Hid (wr.ownsRow w.heap.size 5 1 v j (sumL s c t j)) ∧ Hid (Keeps NoB w wr)) (fun _ i _ => s.size - (intOf i).toNat)
  case atStart => exact ⟨0, by omega, rfl, World.ownsRow_nil _ _ _ _, Keeps.refl _ _⟩
  case round =>
    obtain ⟨j, hj, rfl, hown, hk⟩ := hrel
    by_cases hlt : j < s.size
    · have hj0 : (0 : Int) ≤ (j : Int) := by omega
      have hj1 : (j : Int) < (s.size : Int) := by omega
      have hjt : j < t.size := by omega
      have hsj : ((s[j]'hlt).toNat : Int) = byteI s j := byteI_at s j hlt
      have htj : ((t[j]'hjt).toNat : Int) = byteI t j := byteI_at t j hjt
      have bt := byteI_bd t j
      have bp := pr_bd c (byteI t j)
      have hsum := sum_of s c t j
      have hwi : IntKind.i64.wrap (byteI t j) = byteI t j := by rw [IntWalk.i64_left]; exact IntWalk.wrap64_in _ (by omega)
      have hwu : IntKind.u8.wrap (prI c (byteI t j)) = prI c (byteI t j) := by rw [IntKind.wrap_u8']; omega
      go_wp2
      go_region_held3 (fun _ => True) (trivial) (first | (go_at_call 96; refine (refmul_any _ _ _ h1 h2 bt.1 bt.2).mono ?_; rintro e w1 ⟨rfl, hw1⟩; obtain rfl := hw1.symm) | ((refine step_append_lies _ (by rfl) _ _ _ (by rfl) w.heap.size 5 i0 _ 1 1 Tryz.underlying54 hi0 hz0 hz1 hz2 rfl (by omega) _ j (sumL s c t j) (by rfl) ((hown.out.alloc _).drew) ⟨wr.heap.size, 0, none⟩ 1 1 [.int .u8 (sumN s c t j : Nat)] (by rfl) (by rfl) (World.news_of_block (cs := #[.int .u8 (sumN s c t j : Nat)]) (t := 5) (fr := (0, 0)) (heap_alloc_new wr _)) (by simp [Value.oneCell']) (by omega) (by unfold maxLen; omega) (by omega) (by have := hk.out.size; simp; omega) (wr.heap.size + 1) (by simp) ?_; intro gg cap w1 hown1 hgrow hat hlt1)))
      all_goals
        have R : Hid (w1.ownsRow w.heap.size 5 1 (.slice (some ⟨gg, 0, none⟩) (j + 1) cap) (j + 1) (sumL s c t (j + 1))) := by rw [← sumL_succ]; exact hown1
        have K : Hid (Keeps NoB w w1) := (hk.out.alloc _).drew.grown hgrow (fun k e => Or.inl (hown.out.lt k e).1)
        clear hown1 hgrow hown hk hat hlt1
        go_wp2
        go_roundw
        case rel => exact ⟨j + 1, by omega, by go_num, R, K⟩
        case measure => simp [intOf]; omega
    · have ej : j = s.size := by omega
      subst ej
      have hcv := run_convert_owned (P := Tryz.prog) wr 54 5 9 Tryz.underlying54 Tryz.underlying5 Tryz.underlying9 hown.out (sumS s c t) (sumS_size s c t) (fun i hi => by
        rw [sumS_at s c t i hi]; simp [sumL, hi])
      go_wp2
      go_ret2
      exact ⟨rfl, hk⟩
end Go.Proofs.YtgchiamkeeljkaaGreatDoor
