/- the text PRefH -/
import Derived.Test.YtcmgclkbhhdnaaaGreatDoorPRefGC
namespace Go.Proofs.YtcmgclkbhhdnaaaGreatDoor
open Go Go.RowKit

theorem make896 (w : World) : (Instr.makeSlice 49 (.int .i64 896) (.int .i64 896)).run Tryz.prog w = .ok (.slice (some ⟨w.heap.size, 0, none⟩) 896 896) (w.alloc (.cells (cells8 z896).toArray 5)) := by
  have h := (make_row (z := .int .u8 0) (by_ := 1) Tryz.underlying49 info8 rfl (by decide) 896 (by decide) w).1
  have e : ∀ n, madeCells #[Value.int .u8 0] n = (cells8 (List.replicate n 0)).toArray := fun n => by
    apply Array.ext'
    rw [made_list]
    simp [cells8]
    exact .inr rfl
  rw [e] at h
  exact h
end Go.Proofs.YtcmgclkbhhdnaaaGreatDoor
