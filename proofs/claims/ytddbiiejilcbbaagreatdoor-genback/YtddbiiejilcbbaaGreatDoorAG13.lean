/- texts put together: DSumsMath -/
import Derived.Test.YtddbiiejilcbbaaGreatDoorAG10
import Derived.Test.YtddbiiejilcbbaaGreatDoorAG1
namespace Go.Proofs.YtddbiiejilcbbaaGreatDoor
open Go Go.RowKit

theorem monV_le (y m d : Nat) (n : Int) (h : Dt y m d) : monV y m d n ≤ 73048 := by
  obtain ⟨h1, h2, h3, h4⟩ := h
  unfold monV
  split
  · omega
  · split
    · omega
    · have hM : (monK y m n).toNat % 12 < 12 := by omega
      have hg := ml_ge (1900 + (monK y m n).toNat / 12) hM
      exact dn_le ⟨by omega, hM, by omega, by omega⟩
end Go.Proofs.YtddbiiejilcbbaaGreatDoor
