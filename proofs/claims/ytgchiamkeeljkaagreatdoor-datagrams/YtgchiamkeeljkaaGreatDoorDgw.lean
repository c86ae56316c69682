/-
  weavelaw.stream, and weavelaw.Datagrams over whatever weave.Put and weave.Get are held to.
-/
import Derived.Test.YtgchiamkeeljkaaGreatDoorDgs
import Derived.Laws.OwnMore
namespace Go.Proofs.YtgchiamkeeljkaaGreatDoor
open Go Go.RowKit

def cfg0 : CfgD := ⟨2, 1, 2, 2, 2, 1, 0⟩
def ahead5 : List OpD := [⟨20, 0, 7, 2, 3, ⟨#[97, 98]⟩, ⟨#[]⟩, none, 0, 0, none, 0, 0⟩, ⟨22, 0, 0, 0, 0, ⟨#[]⟩, ⟨#[]⟩, none, 0, 0, none, 0, 0⟩, ⟨23, 0, 0, 0, 0, ⟨#[97, 98, 99]⟩, ⟨#[]⟩, none, 0, 0, none, 0, 0⟩, ⟨24, 0, 0, 0, 0, ⟨#[]⟩, ⟨#[]⟩, none, 0, 0, none, 0, 0⟩, ⟨26, 0, 0, 0, 0, ⟨#[]⟩, ⟨#[]⟩, none, 0, 0, none, 0, 0⟩]
def StreamPost (w : World) (cn : Nat) (cs : List CfgD) (e : Ending) (w' : World) : Prop := ∃ g cap bo, e = .returned (.tuple #[.slice (some ⟨g, 0, none⟩) (cn + 1) cap, .slice (some ⟨bo, 0, none⟩) 5 5]) ∧ CfgsAt w' g (cfg0 :: cs) ∧ ScriptAt w' (some ⟨bo, 0, none⟩) 5 5 ahead5 ∧ Keeps NoB w w'
theorem ahead_block (w : World) : ScriptAt (w.alloc (.cells #[.int .i64 20, .int .i64 0, .int .i64 7, .int .i64 2, .int .i64 3, .string ⟨#[97, 98]⟩, .string ⟨#[]⟩, .slice none 0 0, .slice none 0 0, .int .i64 22, .int .i64 0, .int .i64 0, .int .i64 0, .int .i64 0, .string ⟨#[]⟩, .string ⟨#[]⟩, .slice none 0 0, .slice none 0 0, .int .i64 23, .int .i64 0, .int .i64 0, .int .i64 0, .int .i64 0, .string ⟨#[97, 98, 99]⟩, .string ⟨#[]⟩, .slice none 0 0, .slice none 0 0, .int .i64 24, .int .i64 0, .int .i64 0, .int .i64 0, .int .i64 0, .string ⟨#[]⟩, .string ⟨#[]⟩, .slice none 0 0, .slice none 0 0, .int .i64 26, .int .i64 0, .int .i64 0, .int .i64 0, .int .i64 0, .string ⟨#[]⟩, .string ⟨#[]⟩, .slice none 0 0, .slice none 0 0] 28)) (some ⟨w.heap.size, 0, none⟩) 5 5 ahead5 :=
  ⟨rfl, .inr ⟨_, rfl, fun i v hv => World.news_of_block (t := 28) (fr := (0, 0)) (heap_alloc_new w _) i v hv⟩⟩
theorem ahead_ok : ∀ o ∈ ahead5, OpOk o := by
  intro o ho
  simp only [ahead5, List.mem_cons, List.not_mem_nil, or_false] at ho
  rcases ho with rfl | rfl | rfl | rfl | rfl <;> exact ⟨by decide, by decide, by decide, by decide, by decide, by decide, by decide⟩
theorem CfgsAt.cons_alloc {w : World} {g : Nat} {cs : List CfgD} (h : CfgsAt w g cs) (o : Obj) : CfgsAt (w.alloc o) g cs := h.keeps (keepsNo w o) (fun x => x)

set_option maxRecDepth 20000 in
set_option maxHeartbeats 1000000 in
theorem stream_any (w : World) (ca : Option Addr) (cn cc : Nat) (cs : List CfgD) (hcs : CfgsIn w ca cn cc cs) (hb : cn * 56 ≤ 140737488351232) :
    Calls Tryz.prog 13 #[.slice ca cn cc] w fun e w' => StreamPost w cn cs e w' := by
  have HCS : Hid (CfgsIn w ca cn cc cs) := hcs
  have HL : Hid (cs.length = cn) := hcs.1
  have K0 : Hid (Keeps NoB w ((w.alloc (.cells #[.int .i64 2, .int .i64 1, .int .i64 2, .int .i64 2, .int .i64 2, .int .i64 1, .int .i64 0] 37)).alloc (.cells #[.int .i64 2, .int .i64 1, .int .i64 2, .int .i64 2, .int .i64 2, .int .i64 1, .int .i64 0] 37))) := ((Keeps.refl NoB w).alloc _).alloc _
  have OW : Hid (((w.alloc (.cells #[.int .i64 2, .int .i64 1, .int .i64 2, .int .i64 2, .int .i64 2, .int .i64 1, .int .i64 0] 37)).alloc (.cells #[.int .i64 2, .int .i64 1, .int .i64 2, .int .i64 2, .int .i64 2, .int .i64 1, .int .i64 0] 37)).ownsRow w.heap.size 37 7 (.slice (some ⟨w.heap.size + 1, 0, none⟩) 1 1) 1 (cfgsCells [cfg0])) := by
    have h := World.ownsRow_lit (base := w.heap.size) (e := 37) (size := 7) (w.alloc (.cells #[.int .i64 2, .int .i64 1, .int .i64 2, .int .i64 2, .int .i64 2, .int .i64 1, .int .i64 0] 37)) #[.int .i64 2, .int .i64 1, .int .i64 2, .int .i64 2, .int .i64 2, .int .i64 1, .int .i64 0] 1 (by simp) (by decide) rfl
    rw [show (w.alloc (.cells #[.int .i64 2, .int .i64 1, .int .i64 2, .int .i64 2, .int .i64 2, .int .i64 1, .int .i64 0] 37)).heap.size = w.heap.size + 1 by simp] at h
    exact h
  have hZ : ((w.alloc (.cells #[.int .i64 2, .int .i64 1, .int .i64 2, .int .i64 2, .int .i64 2, .int .i64 1, .int .i64 0] 37)).alloc (.cells #[.int .i64 2, .int .i64 1, .int .i64 2, .int .i64 2, .int .i64 2, .int .i64 1, .int .i64 0] 37)).heap.size = w.heap.size + 2 := by simp
  clear hcs
  go_enter Tryz.func13, Tryz.ntmps13
  go_upto_region 3 with fail
  generalize ((w.alloc (.cells #[.int .i64 2, .int .i64 1, .int .i64 2, .int .i64 2, .int .i64 2, .int .i64 1, .int .i64 0] 37)).alloc (.cells #[.int .i64 2, .int .i64 1, .int .i64 2, .int .i64 2, .int .i64 2, .int .i64 1, .int .i64 0] 37)) = w0 at K0 OW hZ ⊢
  go_upto_region 4 with (at_builtin; refine wpList_append_cfgs rfl (.tmp 9) (.tmp 10) rfl (base := w.heap.size) (m := 1) (p := [cfg0]) (q := cs) rfl OW.out rfl (HCS.out.keeps K0.out) (by omega) (by omega) ?_; intro v1 w1 O1 G1; have K1 : Hid (Keeps NoB w w1) := K0.out.grown G1.out (fun k e => .inl (OW.out.lt k e).1))
  obtain ⟨g, cap, hv, hg1, hg2⟩ := O1.out.form (by omega)
  subst hv
  have e1 : 1 + cn = cn + 1 := by omega
  rw [e1] at O1 ⊢
  have HA : Hid (CfgsAt w1 g (cfg0 :: cs)) := cfgs_owned O1.out (by have := HL.out; simp; omega)
  clear O1 G1 OW HCS K0 e1
  have HP : Hid (∀ w2, w1.alloc (.cells #[.int .i64 20, .int .i64 0, .int .i64 7, .int .i64 2, .int .i64 3, .string ⟨#[97, 98]⟩, .string ⟨#[]⟩, .slice none 0 0, .slice none 0 0, .int .i64 22, .int .i64 0, .int .i64 0, .int .i64 0, .int .i64 0, .string ⟨#[]⟩, .string ⟨#[]⟩, .slice none 0 0, .slice none 0 0, .int .i64 23, .int .i64 0, .int .i64 0, .int .i64 0, .int .i64 0, .string ⟨#[97, 98, 99]⟩, .string ⟨#[]⟩, .slice none 0 0, .slice none 0 0, .int .i64 24, .int .i64 0, .int .i64 0, .int .i64 0, .int .i64 0, .string ⟨#[]⟩, .string ⟨#[]⟩, .slice none 0 0, .slice none 0 0, .int .i64 26, .int .i64 0, .int .i64 0, .int .i64 0, .int .i64 0, .string ⟨#[]⟩, .string ⟨#[]⟩, .slice none 0 0, .slice none 0 0] 28) = w2 → StreamPost w cn cs (.returned (.tuple #[.slice (some ⟨g, 0, none⟩) (cn + 1) cap, .slice (some ⟨w1.heap.size, 0, none⟩) 5 5])) w2) := fun w2 e2 => by
    subst e2
    exact ⟨g, cap, _, rfl, HA.out.cons_alloc _, ahead_block w1, K1.out.alloc _⟩
  go_wp2
  go_ret2
  exact HP.out _ rfl

theorem kinds_block (w : World) : KindsAt (w.alloc (.cells #[.int .i64 20, .int .i64 21] 3)) w.heap.size [20, 21] := fun j v hv => by
  match j, hv with
  | 0, hv => obtain rfl : (20 : Int) = v := by simpa using hv
             exact box_cell (w := w) (t := 3) (j := 0) rfl
  | 1, hv => obtain rfl : (21 : Int) = v := by simpa using hv
             exact box_cell (w := w) (t := 3) (j := 1) rfl
  | j + 2, hv => simp at hv
set_option maxRecDepth 20000 in
set_option maxHeartbeats 1000000 in
theorem datagrams_walk (hPY : PutYes) (hPN : PutNo) (hGY : GetYes) (hGN : GetNo) (W : World) (hT : Tabs W) (ca : Option Addr) (cn cc : Nat) (cs : List CfgD) (hcs : CfgsIn W ca cn cc cs) (hcb : cn * 56 ≤ 140737488351232) (sa : Option Addr) (n sc : Nat) (ops : List OpD) (hsc : ScriptAt W sa n sc ops) (hsz : n * 120 ≤ 140737488351232) (hops : ∀ o ∈ ops, OpOk o) :
    Calls Tryz.prog 5 #[.slice ca cn cc, .slice sa n sc] W fun e w' => e = .returned (.bool true) ∧ Keeps NoB W w' := by
  have HT : Hid (Tabs W) := hT
  have HCS : Hid (CfgsIn W ca cn cc cs) := hcs
  have HL : Hid ((cfg0 :: cs).length = cn + 1) := by have := hcs.1; show _ = _; simp; omega
  have HSC : Hid (ScriptAt W sa n sc ops) := hsc
  have HB : Hid (cn + 1 ≤ 140737488355328) := by show _ ≤ _; omega
  have HCB : Hid (cn * 56 ≤ 140737488351232) := hcb
  have HSZ : Hid (n * 120 ≤ 140737488351232) := hsz
  have HO : Hid (∀ o ∈ ahead5 ++ ops, OpOk o) := fun o ho => by
    rcases List.mem_append.1 ho with h | h
    · exact ahead_ok o h
    · exact hops o h
  have HC : Hid (PutYes ∧ PutNo ∧ GetYes ∧ GetNo) := ⟨hPY, hPN, hGY, hGN⟩
  clear hT hcs hsc hops hcb hsz hPY hPN hGY hGN
  go_enter Tryz.func5, Tryz.ntmps5
  go_wp2_with (first | (go_at_call 13; refine (stream_any W ca cn cc cs HCS.out HCB.out).mono ?_; rintro e w1 hp; obtain ⟨g, cap, bo, rfl, hA, hB, hK⟩ := hp; have A1 : Hid (CfgsAt w1 g (cfg0 :: cs)) := hA; have B1 : Hid (ScriptAt w1 (some ⟨bo, 0, none⟩) 5 5 ahead5) := hB; have K1 : Hid (Keeps NoB W w1) := hK; clear hA hB hK) | (go_at_call 11; refine (plays_gen (w1.alloc (.cells #[.int .i64 20, .int .i64 21] 3)) (HT.out.keeps (K1.out.alloc _) (fun x => x) (fun x => x) (fun x => x)) _ _ _ bo w1.heap.size 5 5 2 2 [20, 21] ahead5 ops _ _ _ ((HSC.out.keeps K1.out).keeps (keepsNo _ _)) HSZ.out (by decide) (by decide) (B1.out.keeps (keepsNo _ _)) rfl (by decide) (kinds_block w1) (by simp) (dg_steps HC.out.1 HC.out.2.1 HC.out.2.2.1 HC.out.2.2.2 _ g (cn + 1) cap (cfg0 :: cs) HL.out (by omega) HB.out (A1.out.cons_alloc _) _ HO.out)).mono ?_; rintro e w2 ⟨rfl, k2⟩; have K2 : Hid (Keeps NoB (w1.alloc (.cells #[.int .i64 20, .int .i64 21] 3)) w2) := k2; clear k2))
  go_ret
  exact ⟨rfl, (K1.out.alloc _).trans K2.out⟩
end Go.Proofs.YtgchiamkeeljkaaGreatDoor
