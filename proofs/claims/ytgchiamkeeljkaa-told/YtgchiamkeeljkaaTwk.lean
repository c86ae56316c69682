/-
  weavekeep.Told, whole.
-/
import Derived.Test.YtgchiamkeeljkaaTrow
import Derived.Test.YtgchiamkeeljkaaWget
import Derived.Laws.IdiomStrings
namespace Go.Proofs.Ytgchiamkeeljkaa
open Go Go.RowKit

theorem past_alloc {w : World} {b j : Nat} {v : Value} (h : w.cell? ⟨b, j, none⟩ = some v) (o : Obj) : (w.alloc o).cell? ⟨b, j, none⟩ = some v := ((wkeeps w o).cell (a := ⟨b, j, none⟩) (World.block_lt_of_cell? w _ h) (fun x => x)).trans h
theorem past_allocd {w : World} {b j : Nat} {v : Value} (h : w.cell? ⟨b, j, none⟩ = some v) (o : Obj) : (w.alloc o).drew.cell? ⟨b, j, none⟩ = some v := (wdrew _ _).trans (past_alloc h o)
theorem cfg_laid (w w1 : World) (k : Keeps NoB w w1) (K M S W P X R : Int) (t : TypeId) : ∃ w2 bc, w1.alloc (.cells #[.int .i64 K, .int .i64 M, .int .i64 S, .int .i64 W, .int .i64 P, .int .i64 X, .int .i64 R] t) = w2 ∧ w1.heap.size = bc ∧ Hid (CfC bc K M S W P X R w2) ∧ Hid (Keeps NoB w w2) := ⟨_, _, rfl, rfl, CfC.new _ _ _ _ _ _ _ _ _, k.trans (wkeeps _ _)⟩
theorem told_cfg (a b c d e f g : Int) (wa : (Lit.int .i64 a).wf = true) (wb : (Lit.int .i64 b).wf = true) (wc : (Lit.int .i64 c).wf = true) (wd : (Lit.int .i64 d).wf = true) (we : (Lit.int .i64 e).wf = true) (wf' : (Lit.int .i64 f).wf = true) (wg : (Lit.int .i64 g).wf = true) :
    ∃ (K M : Int) (n : Nat) (W P X R : Int), Hid (∀ w, Calls Try.prog 4 #[.agg #[.int .i64 a, .int .i64 b, .int .i64 c, .int .i64 d, .int .i64 e, .int .i64 f, .int .i64 g]] w fun e' w' => e' = .returned (.agg #[.int .i64 K, .int .i64 M, .int .i64 n, .int .i64 W, .int .i64 P, .int .i64 X, .int .i64 R]) ∧ Keeps NoB w w') ∧ Hid (rightB K M n W P X R = true) ∧ 1 ≤ K ∧ K ≤ 6 ∧ 0 ≤ M ∧ M ≤ 6 ∧ 1 ≤ n ∧ n ≤ 40 := by
  have h1 := pkkN_lt a 6 (by decide)
  have h2 := pkkN_lt b 7 (by decide)
  have h3 := pkkN_lt c 40 (by decide)
  have e3 : kS c = ((1 + pkkN c 40 : Nat) : Int) := by unfold kS; omega
  refine ⟨kK a, kM b, 1 + pkkN c 40, kW d, kW e, kW f, kR g, fun w => ?_, ?_, by unfold kK; omega, by unfold kK; omega, by unfold kM; omega, by unfold kM; omega, by omega, by omega⟩
  · rw [← e3]; exact config_any a b c d e f g w wa wb wc wd we wf' wg
  · rw [← e3]; exact k_right a b c d e f g
theorem seven_alloc {w : World} {bc : Nat} {K M S W P X R : Int} (h : w.cell? ⟨bc, 0, none⟩ = some (.int .i64 K) ∧ w.cell? ⟨bc, 1, none⟩ = some (.int .i64 M) ∧ w.cell? ⟨bc, 2, none⟩ = some (.int .i64 S) ∧ w.cell? ⟨bc, 3, none⟩ = some (.int .i64 W) ∧ w.cell? ⟨bc, 4, none⟩ = some (.int .i64 P) ∧ w.cell? ⟨bc, 5, none⟩ = some (.int .i64 X) ∧ w.cell? ⟨bc, 6, none⟩ = some (.int .i64 R)) (o : Obj) : (w.alloc o).cell? ⟨bc, 0, none⟩ = some (.int .i64 K) ∧ (w.alloc o).cell? ⟨bc, 1, none⟩ = some (.int .i64 M) ∧ (w.alloc o).cell? ⟨bc, 2, none⟩ = some (.int .i64 S) ∧ (w.alloc o).cell? ⟨bc, 3, none⟩ = some (.int .i64 W) ∧ (w.alloc o).cell? ⟨bc, 4, none⟩ = some (.int .i64 P) ∧ (w.alloc o).cell? ⟨bc, 5, none⟩ = some (.int .i64 X) ∧ (w.alloc o).cell? ⟨bc, 6, none⟩ = some (.int .i64 R) := by
  obtain ⟨h0, h1, h2, h3, h4, h5, h6⟩ := h
  exact ⟨past_alloc h0 o, past_alloc h1 o, past_alloc h2 o, past_alloc h3 o, past_alloc h4 o, past_alloc h5 o, past_alloc h6 o⟩
theorem seven_allocd {w : World} {bc : Nat} {K M S W P X R : Int} (h : w.cell? ⟨bc, 0, none⟩ = some (.int .i64 K) ∧ w.cell? ⟨bc, 1, none⟩ = some (.int .i64 M) ∧ w.cell? ⟨bc, 2, none⟩ = some (.int .i64 S) ∧ w.cell? ⟨bc, 3, none⟩ = some (.int .i64 W) ∧ w.cell? ⟨bc, 4, none⟩ = some (.int .i64 P) ∧ w.cell? ⟨bc, 5, none⟩ = some (.int .i64 X) ∧ w.cell? ⟨bc, 6, none⟩ = some (.int .i64 R)) (o : Obj) : (w.alloc o).drew.cell? ⟨bc, 0, none⟩ = some (.int .i64 K) ∧ (w.alloc o).drew.cell? ⟨bc, 1, none⟩ = some (.int .i64 M) ∧ (w.alloc o).drew.cell? ⟨bc, 2, none⟩ = some (.int .i64 S) ∧ (w.alloc o).drew.cell? ⟨bc, 3, none⟩ = some (.int .i64 W) ∧ (w.alloc o).drew.cell? ⟨bc, 4, none⟩ = some (.int .i64 P) ∧ (w.alloc o).drew.cell? ⟨bc, 5, none⟩ = some (.int .i64 X) ∧ (w.alloc o).drew.cell? ⟨bc, 6, none⟩ = some (.int .i64 R) := by
  obtain ⟨h0, h1, h2, h3, h4, h5, h6⟩ := h
  exact ⟨past_allocd h0 o, past_allocd h1 o, past_allocd h2 o, past_allocd h3 o, past_allocd h4 o, past_allocd h5 o, past_allocd h6 o⟩
theorem seven_set4 {w : World} {bc bd : Nat} {K M S W P X R : Int} {v0 v1 v2 v3 : Value} (hb : bc ≠ bd) (h : w.cell? ⟨bc, 0, none⟩ = some (.int .i64 K) ∧ w.cell? ⟨bc, 1, none⟩ = some (.int .i64 M) ∧ w.cell? ⟨bc, 2, none⟩ = some (.int .i64 S) ∧ w.cell? ⟨bc, 3, none⟩ = some (.int .i64 W) ∧ w.cell? ⟨bc, 4, none⟩ = some (.int .i64 P) ∧ w.cell? ⟨bc, 5, none⟩ = some (.int .i64 X) ∧ w.cell? ⟨bc, 6, none⟩ = some (.int .i64 R)) : ((((w.setCell ⟨bd, 0, none⟩ v0).setCell ⟨bd, 1, none⟩ v1).setCell ⟨bd, 2, none⟩ v2).setCell ⟨bd, 3, none⟩ v3).cell? ⟨bc, 0, none⟩ = some (.int .i64 K) ∧ ((((w.setCell ⟨bd, 0, none⟩ v0).setCell ⟨bd, 1, none⟩ v1).setCell ⟨bd, 2, none⟩ v2).setCell ⟨bd, 3, none⟩ v3).cell? ⟨bc, 1, none⟩ = some (.int .i64 M) ∧ ((((w.setCell ⟨bd, 0, none⟩ v0).setCell ⟨bd, 1, none⟩ v1).setCell ⟨bd, 2, none⟩ v2).setCell ⟨bd, 3, none⟩ v3).cell? ⟨bc, 2, none⟩ = some (.int .i64 S) ∧ ((((w.setCell ⟨bd, 0, none⟩ v0).setCell ⟨bd, 1, none⟩ v1).setCell ⟨bd, 2, none⟩ v2).setCell ⟨bd, 3, none⟩ v3).cell? ⟨bc, 3, none⟩ = some (.int .i64 W) ∧ ((((w.setCell ⟨bd, 0, none⟩ v0).setCell ⟨bd, 1, none⟩ v1).setCell ⟨bd, 2, none⟩ v2).setCell ⟨bd, 3, none⟩ v3).cell? ⟨bc, 4, none⟩ = some (.int .i64 P) ∧ ((((w.setCell ⟨bd, 0, none⟩ v0).setCell ⟨bd, 1, none⟩ v1).setCell ⟨bd, 2, none⟩ v2).setCell ⟨bd, 3, none⟩ v3).cell? ⟨bc, 5, none⟩ = some (.int .i64 X) ∧ ((((w.setCell ⟨bd, 0, none⟩ v0).setCell ⟨bd, 1, none⟩ v1).setCell ⟨bd, 2, none⟩ v2).setCell ⟨bd, 3, none⟩ v3).cell? ⟨bc, 6, none⟩ = some (.int .i64 R) := by
  obtain ⟨h0, h1, h2, h3, h4, h5, h6⟩ := h
  exact ⟨cell4_past hb h0, cell4_past hb h1, cell4_past hb h2, cell4_past hb h3, cell4_past hb h4, cell4_past hb h5, cell4_past hb h6⟩
theorem seven_set4d {w : World} {bc bd : Nat} {K M S W P X R : Int} {v0 v1 v2 v3 : Value} (hb : bc ≠ bd) (h : w.cell? ⟨bc, 0, none⟩ = some (.int .i64 K) ∧ w.cell? ⟨bc, 1, none⟩ = some (.int .i64 M) ∧ w.cell? ⟨bc, 2, none⟩ = some (.int .i64 S) ∧ w.cell? ⟨bc, 3, none⟩ = some (.int .i64 W) ∧ w.cell? ⟨bc, 4, none⟩ = some (.int .i64 P) ∧ w.cell? ⟨bc, 5, none⟩ = some (.int .i64 X) ∧ w.cell? ⟨bc, 6, none⟩ = some (.int .i64 R)) : ((((w.setCell ⟨bd, 0, none⟩ v0).setCell ⟨bd, 1, none⟩ v1).setCell ⟨bd, 2, none⟩ v2).setCell ⟨bd, 3, none⟩ v3).drew.cell? ⟨bc, 0, none⟩ = some (.int .i64 K) ∧ ((((w.setCell ⟨bd, 0, none⟩ v0).setCell ⟨bd, 1, none⟩ v1).setCell ⟨bd, 2, none⟩ v2).setCell ⟨bd, 3, none⟩ v3).drew.cell? ⟨bc, 1, none⟩ = some (.int .i64 M) ∧ ((((w.setCell ⟨bd, 0, none⟩ v0).setCell ⟨bd, 1, none⟩ v1).setCell ⟨bd, 2, none⟩ v2).setCell ⟨bd, 3, none⟩ v3).drew.cell? ⟨bc, 2, none⟩ = some (.int .i64 S) ∧ ((((w.setCell ⟨bd, 0, none⟩ v0).setCell ⟨bd, 1, none⟩ v1).setCell ⟨bd, 2, none⟩ v2).setCell ⟨bd, 3, none⟩ v3).drew.cell? ⟨bc, 3, none⟩ = some (.int .i64 W) ∧ ((((w.setCell ⟨bd, 0, none⟩ v0).setCell ⟨bd, 1, none⟩ v1).setCell ⟨bd, 2, none⟩ v2).setCell ⟨bd, 3, none⟩ v3).drew.cell? ⟨bc, 4, none⟩ = some (.int .i64 P) ∧ ((((w.setCell ⟨bd, 0, none⟩ v0).setCell ⟨bd, 1, none⟩ v1).setCell ⟨bd, 2, none⟩ v2).setCell ⟨bd, 3, none⟩ v3).drew.cell? ⟨bc, 5, none⟩ = some (.int .i64 X) ∧ ((((w.setCell ⟨bd, 0, none⟩ v0).setCell ⟨bd, 1, none⟩ v1).setCell ⟨bd, 2, none⟩ v2).setCell ⟨bd, 3, none⟩ v3).drew.cell? ⟨bc, 6, none⟩ = some (.int .i64 R) := by
  obtain ⟨h0, h1, h2, h3, h4, h5, h6⟩ := h
  exact ⟨cell4_pastd hb h0, cell4_pastd hb h1, cell4_pastd hb h2, cell4_pastd hb h3, cell4_pastd hb h4, cell4_pastd hb h5, cell4_pastd hb h6⟩
theorem ext0_getD (T : ByteArray) (j i : Nat) (h : i < j) (hj : j ≤ T.size) : (T.extract 0 j).data.toList.getD i 0 = T.data.toList.getD i 0 := by
  rw [take_extract _ _ hj, List.getD_eq_getElem?_getD, List.getD_eq_getElem?_getD, List.getElem?_take, if_pos h]
theorem ext0_size (T : ByteArray) (j : Nat) (hj : j ≤ T.size) : (T.extract 0 j).size = j := by rw [ByteArray.size_extract]; omega
theorem short_frame (T : ByteArray) (j : Nat) (hf : frameB T = true) (hj : j < T.size) : frameB (T.extract 0 j) = false := by
  have hz := ext0_size T j (by omega)
  exact frame_other T _ hf (by omega) (fun k _ hk2 => ext0_getD T j k (by omega) (by omega))
theorem app_getD (T U : ByteArray) (i : Nat) (h : i < T.size) : (T ++ U).data.toList.getD i 0 = T.data.toList.getD i 0 := by
  have hl : T.data.toList.length = T.size := by rw [← Lib.size_eq]
  rw [append_toList, List.getD_eq_getElem?_getD, List.getD_eq_getElem?_getD, List.getElem?_append_left (by omega)]
theorem long_frame (T U : ByteArray) (hf : frameB T = true) (hU : 0 < U.size) : frameB (T ++ U) = false := by
  have h19 := frame_size hf
  exact frame_other T _ hf (by rw [ByteArray.size_append]; omega) (fun k hk _ => app_getD T U k (by omega))
theorem pick_len (x : Int) (n : Nat) (w0 : (Lit.int .i64 x).wf = true) (h : 1 ≤ n) (h2 : n ≤ 100000) : ∃ j : Nat, j < n ∧ Hid (∀ (m : Int) (w : World), m = (n : Int) → Calls Try.prog 6 #[.int .i64 x, .int .i64 m] w fun e w' => e = .returned (.int .i64 (j : Nat)) ∧ w' = w) :=
  ⟨pkkN x n, pkkN_lt x n h, fun m w hm => by subst hm; exact pickk_nat x n w w0 h (by omega)⟩
/-- '[]byte(s)': a new row that reads as s. -/
theorem told_bytes {P : Program} (w : World) (src dst e : TypeId) (s : ByteArray) (hs : P.underlying src = some .string) (hd : P.underlying dst = some (.slice e)) (he : P.underlying e = some (.int .u8)) :
    ∃ c w1, (convert src dst (.string s)).run P w = .ok (.slice (some ⟨w.heap.size, 0, none⟩) s.size c) w1 ∧ s.size ≤ c ∧ Hid (∀ i, i < s.size → w1.cell? ⟨w.heap.size, i, none⟩ = some (byteAt s i)) ∧ Hid (Keeps NoB w w1) ∧ Hid (w.heap.size < w1.heap.size) := by
  refine ⟨_, _, run_bytes_of_string w src dst e s hs hd he, grownCap_ge _ _ _ _, fun i hi => ?_, (Keeps.refl NoB w).drew.trans (wkeeps _ _), by show _ < _; simp⟩
  have hb := heap_alloc_new w.drew (.cells (bytesRow s (grownCap w s.size 0 e)) e ((bytesRow s (grownCap w s.size 0 e)).size, (bytesRow s (grownCap w s.size 0 e)).size + 1))
  rw [cell_of_row _ w.heap.size i _ _ _ hb, bytesRow_at s _ i hi, byteAt, List.getD_eq_getElem?_getD, List.getElem?_eq_getElem (by simpa using hi), Option.getD_some]
  simp
theorem u8_xor_nat (a b : Nat) (ha : a < 256) (hb : b < 256) : bits .xor .u8 (a : Int) (b : Int) = ((a ^^^ b : Nat) : Int) := by
  have hx : a ^^^ b < 2 ^ 8 := Nat.xor_lt_two_pow (by omega) (by omega)
  show IntKind.u8.wrap ((BitVec.ofInt 8 (a : Int) ^^^ BitVec.ofInt 8 (b : Int)).toNat : Int) = _
  have e : ∀ n : Nat, n < 256 → (BitVec.ofInt 8 (n : Int)).toNat = n := fun n hn => by
    rw [BitVec.toNat_ofInt]; omega
  rw [BitVec.toNat_xor, e a ha, e b hb, IntKind.wrap_u8]
  omega
/-- A byte is changed by what is not 0. -/
theorem told_xor (T : ByteArray) (j y : Nat) (hy : y < 255) : ∃ X : UInt8, T.data.toList.getD j 0 ≠ X ∧ bits .xor .u8 (byteI T j) (1 + (y : Int)) = ((X.toNat : Nat) : Int) := by
  have h8 := (T.data.toList.getD j 0).toNat_lt
  have hx : (T.data.toList.getD j 0).toNat ^^^ (1 + y) < 256 := Nat.xor_lt_two_pow (n := 8) (by omega) (by omega)
  refine ⟨UInt8.ofNat ((T.data.toList.getD j 0).toNat ^^^ (1 + y)), fun e => ?_, ?_⟩
  · have e1 := congrArg UInt8.toNat e
    rw [UInt8.toNat_ofNat', Nat.mod_eq_of_lt hx] at e1
    have e2 := congrArg ((T.data.toList.getD j 0).toNat ^^^ ·) e1
    simp only [Nat.xor_self, ← Nat.xor_assoc, Nat.zero_xor] at e2
    omega
  · rw [byteI, show (1 + (y : Int)) = ((1 + y : Nat) : Int) by omega, u8_xor_nat _ _ (by omega) (by omega), UInt8.toNat_ofNat', Nat.mod_eq_of_lt hx]
theorem setS_byte (T : ByteArray) (j i : Nat) (X : UInt8) (hj : j < T.size) : byteAt (setS T j X) i = if i = j then .int .u8 ((X.toNat : Nat) : Int) else byteAt T i := by
  have hl : T.data.toList.length = T.size := by rw [← Lib.size_eq]
  unfold byteAt
  rw [setS_toList]
  by_cases h : i = j
  · subst h; rw [if_pos rfl, getD_set_eq (by omega)]
  · rw [if_neg h, getD_set_ne (by omega)]
theorem told_put (K M S W P X R B I N : Int) (s : ByteArray) (n : Nat) (hn : s.size = n) (bx cx : Nat) (w : World) (hcell : ∀ i, i < s.size → w.cell? ⟨bx, i, none⟩ = some (byteAt s i)) (hbx : bx < w.heap.size) (hp : putB K M S W P X R B I N s = true) :
    Calls Try.prog 7 #[.agg #[.int .i64 K, .int .i64 M, .int .i64 S, .int .i64 W, .int .i64 P, .int .i64 X, .int .i64 R], .agg #[.int .i64 B, .int .i64 I, .int .i64 N, .slice (some ⟨bx, 0, none⟩) n cx]] w fun e w' => ∃ v, e = .returned (.tuple #[v, .int .i64 0]) ∧ NewRow w (putS K M S B I N s) v w' := by
  subst hn
  exact wput_yes K M S W P X R B I N s bx cx w hcell hbx hp
/-- What Put wrote is read back. -/
theorem told_get (K M S W P X R B I N : Int) (s : ByteArray) (n : Nat) (hn : (putS K M S B I N s).size = n) (bx cx : Nat) (w : World) (hcell : ∀ i, i < (putS K M S B I N s).size → w.cell? ⟨bx, i, none⟩ = some (byteAt (putS K M S B I N s) i)) (hcx : n ≤ cx) (hbx : bx < w.heap.size) (hz : n ≤ 100000) (hp : putB K M S W P X R B I N s = true) :
    Calls Try.prog 8 #[.agg #[.int .i64 K, .int .i64 M, .int .i64 S, .int .i64 W, .int .i64 P, .int .i64 X, .int .i64 R], .slice (some ⟨bx, 0, none⟩) n cx] w fun e w' => ∃ v, e = .returned (.tuple #[.agg #[.int .i64 B, .int .i64 I, .int .i64 N, v], .int .i64 0]) ∧ NewRow w s v w' := by
  subst hn
  obtain ⟨h0, _, h1, h2, h3⟩ := put_got K M S W P X R B I N s hp
  have hsh := (put_shard K M S B I N s).1
  refine (wget_yes K M S W P X R _ bx cx w (by omega) hcell hcx hbx h0).mono ?_
  rintro e w' ⟨v, rfl, hn⟩
  rw [h1, ← val_one, h2, h3]
  rw [hsh] at hn
  exact ⟨v, rfl, hn⟩
theorem told_no (K M S W P X R : Int) (s : ByteArray) (n : Nat) (hn : s.size = n) (bx cx : Nat) (w : World) (hcell : ∀ i, i < s.size → w.cell? ⟨bx, i, none⟩ = some (byteAt s i)) (hcx : n ≤ cx) (hbx : bx < w.heap.size) (hz : n ≤ 281474976710656) (hr : rightB K M S W P X R = true) (hf : frameB s = false) :
    Calls Try.prog 8 #[.agg #[.int .i64 K, .int .i64 M, .int .i64 S, .int .i64 W, .int .i64 P, .int .i64 X, .int .i64 R], .slice (some ⟨bx, 0, none⟩) n cx] w fun e w' => e = .returned (.tuple #[.agg #[.int .i64 0, .int .i64 0, .int .i64 0, .slice none 0 0], .int .i64 5]) ∧ Keeps NoB w w' := by
  subst hn
  have he : getE K M S W P X R s = 5 := getE_frame hr hf
  have := wget_no K M S W P X R s bx cx w hz hcell hcx hbx (by rw [he]; decide)
  rw [he] at this
  exact this
set_option maxRecDepth 20000 in
set_option maxHeartbeats 4000000 in
theorem told_any (a b c d e f g blk idx len at' by' : Int) (s more : ByteArray) (w : World) (wa : (Lit.int .i64 a).wf = true) (wb : (Lit.int .i64 b).wf = true) (wc : (Lit.int .i64 c).wf = true) (wd : (Lit.int .i64 d).wf = true) (we : (Lit.int .i64 e).wf = true) (wf' : (Lit.int .i64 f).wf = true) (wg : (Lit.int .i64 g).wf = true)
    (w1 : (Lit.int .i64 blk).wf = true) (w2 : (Lit.int .i64 idx).wf = true) (w3 : (Lit.int .i64 len).wf = true) (w4 : (Lit.int .i64 at').wf = true) (w5 : (Lit.int .i64 by').wf = true) (hs : s.size ≤ 140737488351232) (hm : more.size ≤ 140737488351232) :
    Calls Try.prog 3 #[.agg #[.int .i64 a, .int .i64 b, .int .i64 c, .int .i64 d, .int .i64 e, .int .i64 f, .int .i64 g], .int .i64 blk, .int .i64 idx, .int .i64 len, .string s, .int .i64 at', .int .i64 by', .string more] w fun e w' => e = .returned (.bool true) ∧ Keeps NoB w w' := by
  obtain ⟨K, M, n, W, P, X, R, HCF, HR, k1, k2, m1, m2, n1, n2⟩ := told_cfg a b c d e f g wa wb wc wd we wf' wg
  clear wa wb wc wd we wf' wg
  have KM1 : 1 ≤ K * (n : Int) + 1 := by
    have : 0 ≤ K * (n : Int) := Int.mul_nonneg (by omega) (by omega)
    omega
  have KM2 : K * (n : Int) ≤ 240 := by
    have h1 : K * (n : Int) ≤ 6 * (n : Int) := Int.mul_le_mul_of_nonneg_right (by omega) (by omega)
    omega
  have q1 : IntKind.i64.wrap (K + M) = K + M := by rw [IntWalk.i64_left]; exact IntWalk.wrap64_in _ (by omega)
  have q2 : IntKind.i64.wrap (K * (n : Int)) = K * (n : Int) := by rw [IntWalk.i64_left]; exact IntWalk.wrap64_in _ (by omega)
  have q3 : IntKind.i64.wrap (K * (n : Int) + 1) = K * (n : Int) + 1 := by rw [IntWalk.i64_left]; exact IntWalk.wrap64_in _ (by omega)
  go_enter Try.func3, Try.ntmps3
  go_upto_region 2 with (go_at_call 4; refine (HCF.out _).mono ?_; rintro e xa ⟨rfl, ka⟩; have KA : Hid (Keeps NoB w xa) := (wkeeps _ _).trans ka; clear ka)
  obtain ⟨xb, bc, hwb, hbc, CB, KB⟩ := cfg_laid w xa KA.out K M n W P X R 24
  rw [hwb, hbc]
  have cb := CB.out
  unfold CfC at cb
  clear hwb hbc KA HCF
  go_upto_region 3 with (go_at_call 5; refine (rows_one n s _ (by omega) hs).mono ?_; rintro e xc ⟨out, rfl, hp⟩; have HP : Hid (RowsPost xb n s out xc) := hp; clear hp)
  obtain ⟨go, cap, gb, hout, G0, R0, gl, gl2, gl3, kc⟩ := HP.out
  subst hout
  have CC : Hid (CfC bc K M n W P X R xc) := CB.out.keeps kc (fun x => x)
  have KC : Hid (Keeps NoB w xc) := KB.out.trans kc
  clear HP CB KB kc cb
  have sd : xc.drew.cell? ⟨bc, 0, none⟩ = some (.int .i64 K) ∧ xc.drew.cell? ⟨bc, 1, none⟩ = some (.int .i64 M) ∧ xc.drew.cell? ⟨bc, 2, none⟩ = some (.int .i64 n) ∧ xc.drew.cell? ⟨go, 0, none⟩ = some (.slice (some ⟨gb, 0, none⟩) n n) := ⟨CC.out.1, CC.out.2.1, CC.out.2.2.1, G0⟩
  have y0 : xc.cell? ⟨bc, 0, none⟩ = some (.int .i64 K) := CC.out.1
  have y1 : xc.cell? ⟨bc, 1, none⟩ = some (.int .i64 M) := CC.out.2.1
  have y2 : xc.cell? ⟨bc, 2, none⟩ = some (.int .i64 n) := CC.out.2.2.1
  have NBc : bc ≠ xc.heap.size := by have := World.block_lt_of_cell? xc _ CC.out.1; simp at this; omega
  have NBg : go ≠ xc.heap.size := by have := World.block_lt_of_cell? xc _ G0; simp at this; omega
  have KM3 : (1 : Int) ≤ K + M := by omega
  have KM4 : K + M ≤ 140737488355328 := by omega
  have KM5 : K * (n : Int) + 1 ≤ 140737488355328 := by omega
  obtain ⟨B, hB⟩ : ∃ B : Int, ((pkkN blk 2147483647 : Nat) : Int) = B := ⟨_, rfl⟩
  obtain ⟨I, hI⟩ : ∃ I : Int, ((pkkN idx (K + M).toNat : Nat) : Int) = I := ⟨_, rfl⟩
  obtain ⟨N, hN⟩ : ∃ N : Int, ((pkkN len (K * (n : Int) + 1).toNat : Nat) : Int) = N := ⟨_, rfl⟩
  obtain ⟨SH, hSH⟩ : ∃ SH, tS s n = SH := ⟨_, rfl⟩
  have HSZ : Hid (SH.size = n) := by show _ = _; rw [← hSH]; exact tS_size s n
  have HPB : Hid (putB K M n W P X R B I N SH = true) := by
    show _ = _
    have b1 := pkkN_lt blk 2147483647 (by decide)
    have b2 := pkkN_lt idx (K + M).toNat (by omega)
    have b3 := pkkN_lt len (K * (n : Int) + 1).toNat (by omega)
    rw [putB, HR.out, Bool.true_and]
    exact decide_eq_true ⟨by omega, by omega, by omega, by omega, by omega, by omega, by rw [HSZ.out]⟩
  have HBI : Hid (((pkkN blk 2147483647 : Nat) : Int) = B ∧ ((pkkN idx (K + M).toNat : Nat) : Int) = I ∧ ((pkkN len (K * (n : Int) + 1).toNat : Nat) : Int) = N) := ⟨hB, hI, hN⟩
  have SHC : Hid (∀ i, i < SH.size → xc.cell? ⟨gb, i, none⟩ = some (byteAt SH i)) := fun i hi => by
    rw [← hSH] at hi ⊢
    exact R0.cell (by rw [tS_size] at hi; exact hi)
  have GBL : Hid (gb < xc.heap.size) := R0.lt
  have HDG : Hid (DgC xc.heap.size (.int .i64 B) (.int .i64 I) (.int .i64 N) (.slice (some ⟨gb, 0, none⟩) n n) (xc.alloc (.cells #[.int .i64 (pkkN blk 2147483647 : Nat), .int .i64 (pkkN idx (K + M).toNat : Nat), .int .i64 (pkkN len (K * (n : Int) + 1).toNat : Nat), .slice (some ⟨gb, 0, none⟩) n n] 31)).drew) := by
    rw [hB, hI, hN]
    exact DgC.new xc _ _ _ _ _
  clear hB hI hN hSH R0 gl gl2 gl3 HBI
  go_cut [19] from 28 (fun v wx => ∃ bw, v = .pointer (some ⟨bw, 0, none⟩) ∧ Hid (DgC bw (.int .i64 B) (.int .i64 I) (.int .i64 N) (.slice (some ⟨gb, 0, none⟩) n n) wx) ∧ Hid (Keeps NoB xc wx))
  case first =>
    go_region_held3 (fun w' => w'.cell? ⟨bc, 0, none⟩ = some (.int .i64 K) ∧ w'.cell? ⟨bc, 1, none⟩ = some (.int .i64 M) ∧ w'.cell? ⟨bc, 2, none⟩ = some (.int .i64 n) ∧ w'.cell? ⟨go, 0, none⟩ = some (.slice (some ⟨gb, 0, none⟩) n n)) (first | (with_reducible exact sd) | (with_reducible exact ⟨past_allocd y0 _, past_allocd y1 _, past_allocd y2 _, past_allocd G0 _⟩) | (with_reducible exact ⟨cell4_pastd NBc (past_alloc y0 _), cell4_pastd NBc (past_alloc y1 _), cell4_pastd NBc (past_alloc y2 _), cell4_pastd NBg (past_alloc G0 _)⟩)) (first | (go_at_call 6; refine (pickk_any _ _ _ (by assumption) (by first | assumption | decide) (by first | assumption | decide)).mono ?_; rintro e wx ⟨rfl, hwx⟩; obtain rfl := hwx.symm))
    all_goals (go_wp2_with fail; go_meet; exact ⟨_, rfl, HDG, (wkeeps _ _).drew⟩)
  case rest =>
    obtain ⟨bw, rfl, DW, KW⟩ := hcut
    have CW : Hid (CfC bc K M n W P X R wc) := CC.out.keeps KW.out (fun x => x)
    have cw := CW.out
    unfold CfC at cw
    have dw := DW.out
    unfold DgC at dw
    have SHW : Hid (∀ i, i < SH.size → wc.cell? ⟨gb, i, none⟩ = some (byteAt SH i)) := fun i hi => (KW.out.cell (a := ⟨gb, i, none⟩) GBL.out (fun x => x)).trans (SHC.out i hi)
    have GBW : Hid (gb < wc.heap.size) := Nat.lt_of_lt_of_le GBL.out KW.out.size
    have G0W : wc.cell? ⟨go, 0, none⟩ = some (.slice (some ⟨gb, 0, none⟩) n n) := (KW.out.cell (a := ⟨go, 0, none⟩) (World.block_lt_of_cell? xc _ G0) (fun x => x)).trans G0
    have HG0 : Hid (wc.cell? ⟨go, 0, none⟩ = some (.slice (some ⟨gb, 0, none⟩) n n)) := G0W
    have KWW : Hid (Keeps NoB w wc) := KC.out.trans KW.out
    clear SHC GBL G0 KC KW CC sd y0 y1 y2 NBc NBg HDG KM1 KM3 KM4 KM5 q1 q2 q3 G0W
    go_upto_region 5 with (go_at_call 7; refine (told_put K M n W P X R B I N SH n HSZ.out gb n _ SHW.out GBW.out HPB.out).mono ?_; rintro e xd ⟨v, rfl, hn⟩; have NP : Hid (NewRow wc (putS K M n B I N SH) v xd) := hn; clear hn)
    have HTS : Hid ((putS K M n B I N SH).size = n + 19) := by show _ = _; rw [putS_size, HSZ.out]
    obtain ⟨g, cg, m, fr, hv, gl, gL, RG, cm, tc, FR, kd⟩ := NP.out
    rw [HTS.out] at hv tc FR
    subst hv
    have HRG : Hid (xd.rowIs g 5 m fr) := RG
    have BCG : Hid (bc < g) := by have := World.block_lt_of_cell? wc _ CW.out.1; simp at this; show _ < _; omega
    have GNW : Hid (w.heap.size ≤ g) := Nat.le_trans KWW.out.size gl
    have HFR : Hid (∀ i, i < n + 19 → fr i = byteAt (putS K M n B I N SH) i) := FR
    have CD : Hid (CfC bc K M n W P X R xd) := CW.out.keeps kd (fun x => x)
    have DD : Hid (DgC bw (.int .i64 B) (.int .i64 I) (.int .i64 N) (.slice (some ⟨gb, 0, none⟩) n n) xd) := DW.out.keeps kd (fun x => x)
    have SHD : Hid (∀ i, i < SH.size → xd.cell? ⟨gb, i, none⟩ = some (byteAt SH i)) := fun i hi => (kd.cell (a := ⟨gb, i, none⟩) GBW.out (fun x => x)).trans (SHW.out i hi)
    have HG1 : Hid (xd.cell? ⟨go, 0, none⟩ = some (.slice (some ⟨gb, 0, none⟩) n n)) := (kd.cell (a := ⟨go, 0, none⟩) (World.block_lt_of_cell? wc _ HG0.out) (fun x => x)).trans HG0.out
    have KD : Hid (Keeps NoB w xd) := KWW.out.trans kd
    have GBD : Hid (gb < xd.heap.size) := Nat.lt_of_lt_of_le GBW.out kd.size
    have TC : Hid (∀ i, i < (putS K M n B I N SH).size → xd.cell? ⟨g, i, none⟩ = some (byteAt (putS K M n B I N SH) i)) := fun i hi => by
      rw [HTS.out] at hi
      rw [HRG.out.cell (by omega), HFR.out i hi]
    have cd := CD.out
    unfold CfC at cd
    clear NP CW DW cw dw SHW GBW HG0 KWW RG FR kd
    go_upto_region 8 with (go_at_call 8; refine (told_get K M n W P X R B I N SH (n + 19) HTS.out g cg _ TC.out tc gL (by omega) HPB.out).mono ?_; rintro e xe ⟨v, rfl, hn⟩; obtain ⟨gs, cs, hv⟩ := hn.shape HSZ.out; subst hv; have NG : Hid (NewRow xd SH (.slice (some ⟨gs, 0, none⟩) n cs) xe) := hn; clear hn)
    obtain ⟨xf, hxf, d2, kef⟩ := dg_laid xe (.int .i64 B) (.int .i64 I) (.int .i64 N) (.slice (some ⟨gs, 0, none⟩) n cs) 31
    rw [hxf]
    generalize xe.heap.size = bg at d2 ⊢
    have kdf : Hid (Keeps NoB xd xf) := NG.out.kept.trans kef.out
    have CF : Hid (CfC bc K M n W P X R xf) := CD.out.keeps kdf.out (fun x => x)
    have KF : Hid (Keeps NoB w xf) := KD.out.trans kdf.out
    have SHF : Hid (∀ i, i < SH.size → xf.cell? ⟨gb, i, none⟩ = some (byteAt SH i)) := fun i hi => (kdf.out.cell (a := ⟨gb, i, none⟩) GBD.out (fun x => x)).trans (SHD.out i hi)
    have RF : Hid (xf.rowIs g 5 m fr) := kdf.out.rowIs HRG.out (fun x => x)
    have GLF : Hid (g < xf.heap.size) := Nat.lt_of_lt_of_le gL kdf.out.size
    have SGF : Hid (∀ i, i < n → xf.cell? ⟨gs, i, none⟩ = some (byteAt SH i)) := fun i hi => by
      obtain ⟨g', c', m', f', e1, _, _, e4, e5, e6, e7, _⟩ := NG.out.on kef.out
      rw [HSZ.out] at e1 e6 e7
      simp only [Value.slice.injEq, Option.some.injEq, Addr.mk.injEq] at e1
      obtain ⟨⟨rfl, _⟩, _, rfl⟩ := e1
      rw [e4.cell (by omega), e7 i hi]
    have g1 : xf.cell? ⟨go, 0, none⟩ = some (.slice (some ⟨gb, 0, none⟩) n n) := (kdf.out.cell (a := ⟨go, 0, none⟩) (World.block_lt_of_cell? xd _ HG1.out) (fun x => x)).trans HG1.out
    have df := DD.out.keeps kdf.out (fun x => x)
    have dg := d2.out
    unfold DgC at df dg
    have hcv1 : ∀ k, (convert 29 9 (.slice (some ⟨gs, 0, none⟩) n cs)).run Try.prog (xf.drewN k) = .ok (.string SH) (xf.drewN k) := fun k => run_convert_text (P := Try.prog) _ 29 5 9 Try.underlying29 Try.underlying5 Try.underlying9 gs 0 n cs SH HSZ.out (fun i hi => by rw [Nat.zero_add, drewN_cell]; exact SGF.out i hi)
    have hcv2 : ∀ k, (convert 29 9 (.slice (some ⟨gb, 0, none⟩) n n)).run Try.prog (xf.drewN k) = .ok (.string SH) (xf.drewN k) := fun k => run_convert_text (P := Try.prog) _ 29 5 9 Try.underlying29 Try.underlying5 Try.underlying9 gb 0 n n SH HSZ.out (fun i hi => by rw [Nat.zero_add, drewN_cell]; exact SHF.out i (by rw [HSZ.out]; exact hi))
    clear hxf NG kef kdf CD DD SHD HG1 KD GBD TC cd HRG d2
    go_quiet (fail)
    obtain ⟨xg, hxg, ke⟩ : ∃ xg, xf.drewN nq = xg ∧ Hid (Keeps NoB xf xg) := ⟨_, rfl, (Keeps.refl NoB xf).drewN nq⟩
    rw [hxg]
    have CG : Hid (CfC bc K M n W P X R xg) := CF.out.keeps ke.out (fun x => x)
    have KG : Hid (Keeps NoB w xg) := KF.out.trans ke.out
    have RG : Hid (xg.rowIs g 5 m fr) := ke.out.rowIs RF.out (fun x => x)
    have GLG : Hid (g < xg.heap.size) := Nat.lt_of_lt_of_le GLF.out ke.out.size
    have HF : Hid (frameB (putS K M n B I N SH) = true) := (put_got K M n W P X R B I N SH HPB.out).2.1
    obtain ⟨j, hj, PJ⟩ := pick_len at' (n + 19) w4 (by omega) (by omega)
    clear hcv1 hcv2 df dg g1 SGF SHF hxg ke CF KF RF GLF w1 w2 w3
    go_upto_region 10 with fail
    have cgd : xg.drew.cell? ⟨bc, 0, none⟩ = some (.int .i64 K) ∧ xg.drew.cell? ⟨bc, 1, none⟩ = some (.int .i64 M) ∧ xg.drew.cell? ⟨bc, 2, none⟩ = some (.int .i64 n) ∧ xg.drew.cell? ⟨bc, 3, none⟩ = some (.int .i64 W) ∧ xg.drew.cell? ⟨bc, 4, none⟩ = some (.int .i64 P) ∧ xg.drew.cell? ⟨bc, 5, none⟩ = some (.int .i64 X) ∧ xg.drew.cell? ⟨bc, 6, none⟩ = some (.int .i64 R) := CG.out
    have j0 : (0 : Int) ≤ (j : Int) := by omega
    have j1 : (j : Int) ≤ (cg : Int) := by omega
    have j2 : (j : Int) ≤ (n : Int) + 19 := by omega
    have TCG : Hid (∀ i, i < n + 19 → xg.drew.cell? ⟨g, i, none⟩ = some (byteAt (putS K M n B I N SH) i)) := fun i hi => by
      have := RG.out.cell (i := i) (by omega)
      rw [HFR.out i hi] at this
      exact this
    have GLD : Hid (g < xg.drew.heap.size) := GLG.out
    have NBx : bc ≠ xg.heap.size := by have := World.block_lt_of_cell? xg _ CG.out.1; simp at this; omega
    have cgp : xg.cell? ⟨bc, 0, none⟩ = some (.int .i64 K) ∧ xg.cell? ⟨bc, 1, none⟩ = some (.int .i64 M) ∧ xg.cell? ⟨bc, 2, none⟩ = some (.int .i64 n) ∧ xg.cell? ⟨bc, 3, none⟩ = some (.int .i64 W) ∧ xg.cell? ⟨bc, 4, none⟩ = some (.int .i64 P) ∧ xg.cell? ⟨bc, 5, none⟩ = some (.int .i64 X) ∧ xg.cell? ⟨bc, 6, none⟩ = some (.int .i64 R) := CG.out
    have cga : (xg.alloc (.cells #[.int .i64 0, .int .i64 0, .int .i64 0, .slice none 0 0] 31)).cell? ⟨bc, 0, none⟩ = some (.int .i64 K) ∧ (xg.alloc (.cells #[.int .i64 0, .int .i64 0, .int .i64 0, .slice none 0 0] 31)).cell? ⟨bc, 1, none⟩ = some (.int .i64 M) ∧ (xg.alloc (.cells #[.int .i64 0, .int .i64 0, .int .i64 0, .slice none 0 0] 31)).cell? ⟨bc, 2, none⟩ = some (.int .i64 n) ∧ (xg.alloc (.cells #[.int .i64 0, .int .i64 0, .int .i64 0, .slice none 0 0] 31)).cell? ⟨bc, 3, none⟩ = some (.int .i64 W) ∧ (xg.alloc (.cells #[.int .i64 0, .int .i64 0, .int .i64 0, .slice none 0 0] 31)).cell? ⟨bc, 4, none⟩ = some (.int .i64 P) ∧ (xg.alloc (.cells #[.int .i64 0, .int .i64 0, .int .i64 0, .slice none 0 0] 31)).cell? ⟨bc, 5, none⟩ = some (.int .i64 X) ∧ (xg.alloc (.cells #[.int .i64 0, .int .i64 0, .int .i64 0, .slice none 0 0] 31)).cell? ⟨bc, 6, none⟩ = some (.int .i64 R) := CG.out.keeps (wkeeps xg _) (fun x => x)
    have cgb : (xg.alloc (.cells #[.int .i64 0, .int .i64 0, .int .i64 0, .slice none 0 0] 31)).drew.cell? ⟨bc, 0, none⟩ = some (.int .i64 K) ∧ (xg.alloc (.cells #[.int .i64 0, .int .i64 0, .int .i64 0, .slice none 0 0] 31)).drew.cell? ⟨bc, 1, none⟩ = some (.int .i64 M) ∧ (xg.alloc (.cells #[.int .i64 0, .int .i64 0, .int .i64 0, .slice none 0 0] 31)).drew.cell? ⟨bc, 2, none⟩ = some (.int .i64 n) ∧ (xg.alloc (.cells #[.int .i64 0, .int .i64 0, .int .i64 0, .slice none 0 0] 31)).drew.cell? ⟨bc, 3, none⟩ = some (.int .i64 W) ∧ (xg.alloc (.cells #[.int .i64 0, .int .i64 0, .int .i64 0, .slice none 0 0] 31)).drew.cell? ⟨bc, 4, none⟩ = some (.int .i64 P) ∧ (xg.alloc (.cells #[.int .i64 0, .int .i64 0, .int .i64 0, .slice none 0 0] 31)).drew.cell? ⟨bc, 5, none⟩ = some (.int .i64 X) ∧ (xg.alloc (.cells #[.int .i64 0, .int .i64 0, .int .i64 0, .slice none 0 0] 31)).drew.cell? ⟨bc, 6, none⟩ = some (.int .i64 R) := cga
    have SCA : Hid (∀ i, i < ((putS K M n B I N SH).extract 0 j).size → xg.drew.cell? ⟨g, i, none⟩ = some (byteAt ((putS K M n B I N SH).extract 0 j) i)) := fun i hi => by
      rw [ext0_size _ _ (by rw [HTS.out]; omega)] at hi
      rw [TCG.out i (by omega), byteAt, byteAt, ext0_getD _ _ _ hi (by rw [HTS.out]; omega)]
    have KXB : Hid (Keeps NoB xg (xg.alloc (.cells #[.int .i64 0, .int .i64 0, .int .i64 0, .slice none 0 0] 31)).drew) := (wkeeps _ _).drew
    have SCB : Hid (∀ i, i < ((putS K M n B I N SH).extract 0 j).size → (xg.alloc (.cells #[.int .i64 0, .int .i64 0, .int .i64 0, .slice none 0 0] 31)).drew.cell? ⟨g, i, none⟩ = some (byteAt ((putS K M n B I N SH).extract 0 j) i)) := fun i hi => (KXB.out.cell (a := ⟨g, i, none⟩) GLG.out (fun x => x)).trans (SCA.out i hi)
    have GLB : Hid (g < (xg.alloc (.cells #[.int .i64 0, .int .i64 0, .int .i64 0, .slice none 0 0] 31)).drew.heap.size) := Nat.lt_of_lt_of_le GLG.out KXB.out.size
    have DXB : Hid (D4C xg.heap.size (xg.alloc (.cells #[.int .i64 0, .int .i64 0, .int .i64 0, .slice none 0 0] 31)).drew) := D4C.new xg _
    go_cut [23, 24] from 28 (fun v e wx => ∃ bs, v = .pointer (some ⟨bs, 0, none⟩) ∧ e = .int .i64 5 ∧ Hid (Keeps NoB xg wx))
    case first =>
      go_region_held3 (fun w' => w'.cell? ⟨bc, 0, none⟩ = some (.int .i64 K) ∧ w'.cell? ⟨bc, 1, none⟩ = some (.int .i64 M) ∧ w'.cell? ⟨bc, 2, none⟩ = some (.int .i64 n) ∧ w'.cell? ⟨bc, 3, none⟩ = some (.int .i64 W) ∧ w'.cell? ⟨bc, 4, none⟩ = some (.int .i64 P) ∧ w'.cell? ⟨bc, 5, none⟩ = some (.int .i64 X) ∧ w'.cell? ⟨bc, 6, none⟩ = some (.int .i64 R)) (first | (with_reducible exact cgd) | (with_reducible exact cgb) | (with_reducible exact shh) | (with_reducible exact seven_alloc shh _) | (with_reducible exact seven_allocd shh _) | (with_reducible exact seven_set4 NBx shh) | (with_reducible exact seven_set4d NBx shh)) (first | (go_at_call 6; refine (PJ.out _ _ (by simp)).mono ?_; rintro e wx ⟨rfl, hwx⟩; obtain rfl := hwx.symm) | (go_at_call 8; refine (told_no K M n W P X R ((putS K M n B I N SH).extract 0 j) j (ext0_size _ _ (by rw [HTS.out]; omega)) g _ _ SCA.out (by omega) GLD.out (by omega) HR.out (short_frame _ _ HF.out (by rw [HTS.out]; exact hj))).mono ?_; rintro e xh ⟨rfl, kh⟩; have KH : Hid (Keeps NoB xg xh) := (Keeps.refl NoB xg).drew.trans kh; have shh := CG.out.keeps KH.out (fun x => x); unfold CfC at shh; clear kh) | (go_at_call 8; refine (told_no K M n W P X R ((putS K M n B I N SH).extract 0 j) j (ext0_size _ _ (by rw [HTS.out]; omega)) g _ _ SCB.out (by omega) GLB.out (by omega) HR.out (short_frame _ _ HF.out (by rw [HTS.out]; exact hj))).mono ?_; rintro e xh ⟨rfl, kh⟩; have KH : Hid (Keeps NoB xg xh) := KXB.out.trans kh; have dh := DXB.out.keeps kh (fun x => x); unfold D4C at dh; have shh := CG.out.keeps KH.out (fun x => x); unfold CfC at shh; clear kh))
      all_goals (go_wp2_with fail; go_meet; exact ⟨_, rfl, rfl, by first | exact KH.out.trans (wkeeps _ _) | exact keeps_set4 (Nat.le_refl _) KH.out⟩)
    case rest =>
      obtain ⟨bs, rfl, rfl, kw⟩ := hcut
      obtain ⟨xw, hxw⟩ : ∃ xw, wc = xw := ⟨_, rfl⟩
      subst hxw
      have CH : Hid (CfC bc K M n W P X R wc) := CG.out.keeps kw.out (fun x => x)
      have KH : Hid (Keeps NoB w wc) := KG.out.trans kw.out
      have RH : Hid (wc.rowIs g 5 m fr) := kw.out.rowIs RG.out (fun x => x)
      have GLH : Hid (g < wc.heap.size) := Nat.lt_of_lt_of_le GLG.out kw.out.size
      have ch := CH.out
      unfold CfC at ch
      clear cgd cgp cga cgb SCA SCB KXB GLB DXB GLD TCG CG KG RG GLG kw NBx j0 j1 j2
      obtain ⟨y, hy, PY⟩ := pick_len by' 255 w5 (by decide) (by decide)
      obtain ⟨Xb, hne, hX⟩ := told_xor (putS K M n B I N SH) j y hy
      have HNE : Hid ((putS K M n B I N SH).data.toList.getD j 0 ≠ Xb) := hne
      have hcv : (convert 29 9 (.slice (some ⟨g, 0, none⟩) (n + 19) cg)).run Try.prog wc = .ok (.string (putS K M n B I N SH)) wc := run_convert_text (P := Try.prog) _ 29 5 9 Try.underlying29 Try.underlying5 Try.underlying9 g 0 (n + 19) cg (putS K M n B I N SH) HTS.out (fun i hi => by rw [Nat.zero_add, RH.out.cell (by omega), HFR.out i hi])
      obtain ⟨cl, xi, hcb, hcl, LC, LK, LL⟩ := told_bytes (P := Try.prog) wc 9 29 5 (putS K M n B I N SH ++ more) Try.underlying9 Try.underlying29 Try.underlying5
      have hls : (putS K M n B I N SH ++ more).size = n + 19 + more.size := by rw [ByteArray.size_append, HTS.out]
      have HLS : Hid ((putS K M n B I N SH ++ more).size = n + 19 + more.size) := hls
      have hov : ¬ 9223372036854775807 < (putS K M n B I N SH).size + more.size := by rw [HTS.out]; omega
      rw [hls] at hcb hcl
      have ci := CH.out.keeps LK.out (fun x => x)
      have CI : Hid (CfC bc K M n W P X R xi) := ci
      unfold CfC at ci
      clear hls hne
      go_upto_region 11 with fail
      go_cut [25, 26] from 28 (fun v e wx => ((more.size = 0 ∧ e = .int .i64 0) ∨ (0 < more.size ∧ e = .int .i64 5)) ∧ Hid (Keeps NoB wc wx))
      case first =>
        by_cases hm0 : more.size = 0
        · have eT : putS K M n B I N SH ++ more = putS K M n B I N SH := by
            rw [bytes_eq_empty more hm0]
            exact ByteArray.append_empty
          have LCE : Hid (∀ i, i < (putS K M n B I N SH).size → xi.cell? ⟨wc.heap.size, i, none⟩ = some (byteAt (putS K M n B I N SH) i)) := fun i hi => by
            have := LC.out i (by rw [eT]; exact hi)
            rwa [eT] at this
          have HM0 : Hid (more.size = 0) := hm0
          clear eT hm0
          go_wp2_with (go_at_call 8; refine (told_get K M n W P X R B I N SH (n + 19 + more.size) (by rw [HTS.out, HM0.out]) wc.heap.size cl _ LCE.out hcl LL.out (by rw [HM0.out]; omega) HPB.out).mono ?_; rintro e xj ⟨v, rfl, hn⟩; obtain ⟨gs2, cs2, hv⟩ := hn.shape HSZ.out; subst hv; have KJ : Hid (Keeps NoB wc xj) := LK.out.trans hn.kept; clear hn)
          go_meet
          exact ⟨.inl ⟨HM0.out, rfl⟩, KJ.out.trans (wkeeps _ _)⟩
        · go_wp2_with (go_at_call 8; refine (told_no K M n W P X R (putS K M n B I N SH ++ more) (n + 19 + more.size) HLS.out wc.heap.size cl _ LC.out hcl LL.out (by omega) HR.out (long_frame _ _ HF.out (by omega))).mono ?_; rintro e xj ⟨rfl, kj⟩; have KJ : Hid (Keeps NoB wc xj) := LK.out.trans kj; clear kj)
          go_meet
          exact ⟨.inr ⟨by omega, rfl⟩, KJ.out.trans (wkeeps _ _)⟩
      case rest =>
        obtain ⟨hcase, kk⟩ := hcut
        have CK : Hid (CfC bc K M n W P X R wc) := CH.out.keeps kk.out (fun x => x)
        have KK : Hid (Keeps NoB w wc) := KH.out.trans kk.out
        have RK : Hid (wc.rowIs g 5 m fr) := kk.out.rowIs RH.out (fun x => x)
        have GLK : Hid (g < wc.heap.size) := Nat.lt_of_lt_of_le GLH.out kk.out.size
        clear CH KH RH GLH ch hcv hcb hcl LC LK LL HLS hov ci CI kk
        go_upto_region 12 with fail
        go_cut [140] from 28 (fun v wx => v = .bool false ∧ wx = wc)
        case first =>
          rcases hcase with ⟨hm0, rfl⟩ | ⟨hm0, rfl⟩
          · obtain rfl : more = ByteArray.empty := bytes_eq_empty more hm0
            go_wp2
            go_meet
            exact ⟨rfl, rfl⟩
          · have hme3 : ¬ more.toList = [] := fun e => by
              rw [ByteArray.toList_eq] at e
              rw [Lib.size_eq, e] at hm0
              exact absurd hm0 (by decide)
            have hme1 : (more.toList == (⟨#[]⟩ : ByteArray).toList) = false := by
              rw [ByteArray.toList_eq (⟨#[]⟩ : ByteArray), beq_eq_false_iff_ne]
              exact hme3
            have hme2 : (more.toList == []) = false := beq_eq_false_iff_ne.2 hme3
            go_wp2
            go_meet
            exact ⟨rfl, rfl⟩
        case rest =>
          obtain ⟨rfl, hwc⟩ := hcut
          subst hwc
          go_upto_region 14 with fail
          go_upto_region 15 with (go_at_call 6; refine (PJ.out _ _ (by simp)).mono ?_; rintro e wx ⟨rfl, hwx⟩; obtain rfl := hwx.symm)
          have NBG : Hid (¬ OnlyB g bc) := fun h => by have h' : bc = g := h; have := BCG.out; omega
          have cj : wc.cell? ⟨g, j, none⟩ = some (.int .u8 (byteI (putS K M n B I N SH) j)) := by
            have := RK.out.cell (i := j) (by omega)
            rw [HFR.out j hj] at this
            exact this
          have fj : wc.frozen? ⟨g, j, none⟩ = false := RK.out.frozen j
          have cjd : wc.drew.cell? ⟨g, j, none⟩ = some (.int .u8 (byteI (putS K M n B I N SH) j)) := cj
          have fjd : wc.drew.frozen? ⟨g, j, none⟩ = false := fj
          have j3 : (0 : Int) ≤ (j : Int) := by omega
          have j4 : (j : Int) < (n : Int) + 19 := by omega
          have j5 : IntKind.i64.wrap (1 + (y : Int)) = 1 + (y : Int) := by rw [IntWalk.i64_left]; exact IntWalk.wrap64_in _ (by omega)
          have j6 : (1 + (y : Int)) % 256 = 1 + (y : Int) := by omega
          have j7 : IntKind.u8.wrap (1 + (y : Int)) = 1 + (y : Int) := by rw [IntKind.wrap_u8]; omega
          obtain ⟨xz, hxz, R15, C15, L15, W15⟩ : ∃ xz, (wc.setCell ⟨g, j, none⟩ (.int .u8 ((Xb.toNat : Nat) : Int))).drew = xz ∧ Hid (xz.rowIs g 5 m (fun i => if i = j then .int .u8 ((Xb.toNat : Nat) : Int) else fr i)) ∧ Hid (CfC bc K M n W P X R xz) ∧ Hid (g < xz.heap.size) ∧ Hid (Keeps NoB w xz) := by
            have k15 : Keeps (OnlyB g) wc (wc.setCell ⟨g, j, none⟩ (.int .u8 ((Xb.toNat : Nat) : Int))).drew := ((Keeps.refl (OnlyB g) wc).setCell (a := ⟨g, j, none⟩) (.inr rfl) _).drew
            exact ⟨_, rfl, (RK.out.set j _).drew, CK.out.keeps k15 NBG.out, Nat.lt_of_lt_of_le GLK.out k15.size, KK.out.trans' k15 (fun b hb h => by have h' : b = g := h; have := GNW.out; omega)⟩
          have HXZ : Hid ((wc.setCell ⟨g, j, none⟩ (.int .u8 ((Xb.toNat : Nat) : Int))).drew = xz) := hxz
          clear hxz
          go_cut [] from 28 (fun wx => wx = xz)
          case first =>
            go_region_with (first | (go_at_call 6; refine (PY.out _ _ (by rfl)).mono ?_; rintro e wx ⟨rfl, hwx⟩; obtain rfl := hwx.symm))
            all_goals (go_wp2_with fail; go_meet; exact HXZ.out)
          case rest =>
            obtain rfl := hcut
            have cz := C15.out
            unfold CfC at cz
            have SZ : Hid (∀ i, i < (setS (putS K M n B I N SH) j Xb).size → wc.cell? ⟨g, i, none⟩ = some (byteAt (setS (putS K M n B I N SH) j Xb) i)) := fun i hi => by
              rw [setS_size, HTS.out] at hi
              rw [R15.out.cell (by omega), setS_byte _ _ _ _ (by rw [HTS.out]; exact hj), HFR.out i hi]
            clear cj fj cjd fjd j3 j4 j5 j6 j7 hX
            go_wp2_with (go_at_call 8; refine (told_no K M n W P X R (setS (putS K M n B I N SH) j Xb) (n + 19) (by rw [setS_size, HTS.out]) g cg _ SZ.out tc L15.out (by omega) HR.out (frame_set _ _ _ HF.out (by rw [HTS.out]; exact hj) HNE.out)).mono ?_; rintro e xy ⟨rfl, ky⟩; have KY : Hid (Keeps NoB w xy) := W15.out.trans ky; clear ky)
            go_ret
            exact ⟨by simp, KY.out⟩
end Go.Proofs.Ytgchiamkeeljkaa
