/-
  weave.Put and weave.Get keep the four contracts.
-/
import Derived.Test.YtgchiamkeeljkaaGreatDoorLget
import Derived.Test.YtgchiamkeeljkaaGreatDoorWget
namespace Go.Proofs.YtgchiamkeeljkaaGreatDoor
open Go Go.RowKit

theorem weave_put_yes : PutYes := fun K M S W P X R B I N s bx cx w _ hc _ hb hp => by
  refine (wput_yes K M S W P X R B I N s bx cx w hc hb hp).mono ?_
  rintro e w' ⟨v, rfl, g, c, m, f, rfl, e2, e3, e4, e5, e6, e7, e8⟩
  rw [putS_size] at e6 e7 ⊢
  exact ⟨g, c, m, f, rfl, e2, e3, e4, e5, e6, e7, e8⟩
theorem weave_put_no : PutNo := fun K M S W P X R B I N s bx cx w _ _ _ _ hp => wput_no K M S W P X R B I N s (some ⟨bx, 0, none⟩) cx w hp
theorem weave_get_yes : GetYes := fun K M S W P X R s bx cx w hs hc hcx hb he => by
  have h19 := (getE_yes he).1
  refine (wget_yes K M S W P X R s bx cx w (by omega) hc hcx hb he).mono ?_
  rintro e w' ⟨v, rfl, g, c, m, f, rfl, e2, e3, e4, e5, e6, e7, e8⟩
  rw [extract_sz s h19] at e6 e7 ⊢
  exact ⟨g, c, m, f, by rw [val_one], e2, e3, e4, e5, e6, e7, e8⟩
theorem weave_get_no : GetNo := fun K M S W P X R s bx cx w hs hc hcx hb he => wget_no K M S W P X R s bx cx w (by omega) hc hcx hb he
end Go.Proofs.YtgchiamkeeljkaaGreatDoor
