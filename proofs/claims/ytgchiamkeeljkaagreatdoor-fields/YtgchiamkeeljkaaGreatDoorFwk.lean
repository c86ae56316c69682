/-
  weavelaw.Fields: the walk.
-/
import Derived.Test.YtgchiamkeeljkaaGreatDoorOpen
namespace Go.Proofs.YtgchiamkeeljkaaGreatDoor
open Go Go.RowKit Go.Deep

set_option maxRecDepth 20000 in
set_option maxHeartbeats 400000 in
theorem fields_walk (W : World) (hT : Tabs W) (ca : Option Addr) (cn cc : Nat) (sa : Option Addr) (n sc : Nat) (ops : List OpD) (hsc : ScriptAt W sa n sc ops) (hsz : n * 120 ≤ 140737488351232) (hstr : ∀ o ∈ ops, o.s.size ≤ 140737488351232 ∧ o.t.size ≤ 140737488351232) :
    Calls Tryz.prog 3 #[.slice ca cn cc, .slice sa n sc] W fun e w' => e = .returned (.bool true) ∧ Keeps NoB W w' := by
  have HT : Hid (Tabs W) := hT
  have HSC : Hid (ScriptAt W sa n sc ops) := hsc
  have HSZ : Hid (n * 120 ≤ 140737488351232) := hsz
  have HSTR : Hid (∀ o ∈ ops, o.s.size ≤ 140737488351232 ∧ o.t.size ≤ 140737488351232) := hstr
  clear hT hsc hsz hstr
  have K : Hid (Keeps NoB W ((W.alloc (.cells #[.int .i64 1, .int .i64 2, .int .i64 128, .int .i64 0, .int .i64 0, .string ⟨#[]⟩, .string ⟨#[]⟩, .slice none 0 0, .slice none 0 0] 28)).alloc (.cells #[.int .i64 1, .int .i64 2, .int .i64 3] 3))) := ((Keeps.refl NoB W).alloc _).alloc _
  have hB : Hid (OpsAt ((W.alloc (.cells #[.int .i64 1, .int .i64 2, .int .i64 128, .int .i64 0, .int .i64 0, .string ⟨#[]⟩, .string ⟨#[]⟩, .slice none 0 0, .slice none 0 0] 28)).alloc (.cells #[.int .i64 1, .int .i64 2, .int .i64 3] 3)) ⟨W.heap.size, 0, none⟩ [(⟨1, 2, 128, 0, 0, ⟨#[]⟩, ⟨#[]⟩, none, 0, 0, none, 0, 0⟩ : OpD)]) := fun i v hv => by
    have h1 : (W.alloc (.cells #[.int .i64 1, .int .i64 2, .int .i64 128, .int .i64 0, .int .i64 0, .string ⟨#[]⟩, .string ⟨#[]⟩, .slice none 0 0, .slice none 0 0] 28)).cell? ((⟨W.heap.size, 0, none⟩ : Addr).add i) = some v :=
      World.news_of_block (t := 28) (fr := (0, 0)) (heap_alloc_new W _) i v hv
    exact ((keepsNo _ _).cell (World.block_lt_of_cell? _ _ h1) (fun x => x)).trans h1
  have hP : Hid (((W.alloc (.cells #[.int .i64 1, .int .i64 2, .int .i64 128, .int .i64 0, .int .i64 0, .string ⟨#[]⟩, .string ⟨#[]⟩, .slice none 0 0, .slice none 0 0] 28)).alloc (.cells #[.int .i64 1, .int .i64 2, .int .i64 3] 3)).cell? ⟨W.heap.size + 1, 0, none⟩ = some (.int .i64 1) ∧ ((W.alloc (.cells #[.int .i64 1, .int .i64 2, .int .i64 128, .int .i64 0, .int .i64 0, .string ⟨#[]⟩, .string ⟨#[]⟩, .slice none 0 0, .slice none 0 0] 28)).alloc (.cells #[.int .i64 1, .int .i64 2, .int .i64 3] 3)).cell? ⟨W.heap.size + 1, 1, none⟩ = some (.int .i64 2) ∧ ((W.alloc (.cells #[.int .i64 1, .int .i64 2, .int .i64 128, .int .i64 0, .int .i64 0, .string ⟨#[]⟩, .string ⟨#[]⟩, .slice none 0 0, .slice none 0 0] 28)).alloc (.cells #[.int .i64 1, .int .i64 2, .int .i64 3] 3)).cell? ⟨W.heap.size + 1, 2, none⟩ = some (.int .i64 3)) := by
    have e : (W.alloc (.cells #[.int .i64 1, .int .i64 2, .int .i64 128, .int .i64 0, .int .i64 0, .string ⟨#[]⟩, .string ⟨#[]⟩, .slice none 0 0, .slice none 0 0] 28)).heap.size = W.heap.size + 1 := by simp
    rw [← e]
    exact ⟨box_cell rfl, box_cell rfl, box_cell rfl⟩
  go_enter Tryz.func3, Tryz.ntmps3
  go_wp2_with (go_at_call 11; refine (plays_any _ (HT.out.keeps K.out (fun x => x) (fun x => x) (fun x => x)) _ _ _ _ _ ⟨1, 2, 128, 0, 0, ⟨#[]⟩, ⟨#[]⟩, none, 0, 0, none, 0, 0⟩ ops _ _ _ (HSC.out.keeps K.out) HSZ.out (fun o ho => by rcases List.mem_cons.1 ho with rfl | ho; exact ⟨Nat.zero_le _, Nat.zero_le _⟩; exact HSTR.out o ho) hB.out hP.out.1 hP.out.2.1 hP.out.2.2).mono ?_; rintro e w1 ⟨rfl, k1⟩; have K1 : Hid (Keeps NoB ((W.alloc (.cells #[.int .i64 1, .int .i64 2, .int .i64 128, .int .i64 0, .int .i64 0, .string ⟨#[]⟩, .string ⟨#[]⟩, .slice none 0 0, .slice none 0 0] 28)).alloc (.cells #[.int .i64 1, .int .i64 2, .int .i64 3] 3)) w1) := k1; clear k1)
  go_ret
  exact ⟨rfl, K.out.trans K1.out⟩
end Go.Proofs.YtgchiamkeeljkaaGreatDoor
