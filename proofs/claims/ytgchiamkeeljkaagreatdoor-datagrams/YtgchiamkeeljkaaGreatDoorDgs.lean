/-
  Every step of a script of Put and Get is right, if weave.Put and weave.Get are what they are held to.
-/
import Derived.Test.YtgchiamkeeljkaaGreatDoorOpeng
namespace Go.Proofs.YtgchiamkeeljkaaGreatDoor
open Go Go.RowKit

theorem dg_steps (hPY : PutYes) (hPN : PutNo) (hGY : GetYes) (hGN : GetNo) (w : World) (g n cc : Nat) (cs : List CfgD) (hn : cs.length = n) (h1 : 1 ≤ n) (h2 : n ≤ 140737488355328) (hcs : CfgsAt w g cs) (os : List OpD) (hos : ∀ o ∈ os, OpOk o) :
    StepsOk w (.slice (some ⟨g, 0, none⟩) n cc) [20, 21] os := fun bw F L w1 _ hst hF hk hL o ho hin => by
  obtain ⟨q1, _, _, q4, _⟩ := hos o ho
  have hF0 : F 0 = .slice (some ⟨g, 0, none⟩) n cc := hF 0 (by decide)
  have hcs1 : CfgsAt w1 g cs := hcs.keeps hk (fun x => x)
  obtain ⟨k, a, b, c, d, s, t, la, ln, lc, lb, hn', hc⟩ := o
  have hkk : k = 20 ∨ k = 21 := by
    have hin' : List.contains [20, 21] k = true := hin
    rw [List.contains_eq_mem] at hin'
    simpa using of_decide_eq_true hin'
  rcases hkk with rfl | rfl
  · exact step_put hPY hPN (bw + 1) bw F L w1 hst hL g n cc cs hF0 hn h1 h2 hcs1 a b c d q4 s t q1 la lb ln lc hn' hc
  · exact step_get hGY hGN (bw + 1) bw F L w1 hst hL g n cc cs hF0 hn h1 h2 hcs1 a b c d q4 s t q1 la lb ln lc hn' hc
end Go.Proofs.YtgchiamkeeljkaaGreatDoor
