/- What the rows' conditions give the walks of layer 5: the two arrays, how long an argument is. -/
import Derived.Test.YtcjhimakbopipaaDoorRows
import Derived.Test.YtcjhimakbopipaaDoorMArr
import Derived.ProofKit
import Derived.LaidMore
import Derived.OpenShut
import Derived.ShutString
import Derived.ChangeMaps5
import Derived.Stop.Joined
import Derived.Stop.LaidErr
import Derived.Lib.LaidTab
import Derived.Deep.DeepHandedRow
namespace Go.Proofs.YtcjhimakbopipaaDoor
open Go Go.ChangeShapes Go.WideShapes Go.ChangeAt Go.WideMaps Go.WideElems Go.RowKit Go.ChangeMaps

theorem own : ownKnob Tryd.prog.godebug = none := by kernel_rfl
theorem laidOut : laidOutB Tryd.prog = true := by kernel_rfl

/-- The rows' list of arrays. -/
def laid1 : List (String × DataW Unit) := [("usance/mac.firstNumbers", Rows.laid_usance_mac_firstNumbers), ("usance/mac.cubeRoots", Rows.laid_usance_mac_cubeRoots)]
theorem laid_met (os : Os) (args : Array Value) : laidMetH Tryd.prog laid1 ((World.doorLaid Tryd.prog 24 os).forCall (fun _ _ => 0) ⟨#[], args, []⟩).memory :=
  laidMetH_of_parts3 (fuel := 8) (laidMet_of_run' 8 (by kernel_rfl) (by kernel_rfl)) (by kernel_rfl) (by kernel_rfl)
theorem first_datum : (Rows.laid_usance_mac_firstNumbers : DataW Unit) = Lib.tabData .u32 (h0s.map fun n : Nat => (n : Int)) := by kernel_rfl
theorem roots_datum : (Rows.laid_usance_mac_cubeRoots : DataW Unit) = Lib.tabData .u32 (kts.map fun n : Nat => (n : Int)) := by kernel_rfl
theorem tab_of_laid {W : World} (h : laidMetH Tryd.prog laid1 W) : Glob W := by
  rw [MakeChecks.laidMetH_plain _ _ _ (by kernel_rfl)] at h
  unfold laid1 at h
  rw [first_datum, roots_datum] at h
  have h1 := Lib.tabIs_of_head (g := 0) (t := 48) (e := 37) (n := 8) (by kernel_rfl) (by kernel_rfl) under48 Tryd.underlying37 (by kernel_rfl) (by kernel_rfl) h
  have h2 := Lib.tabIs_of_head (g := 1) (t := 38) (e := 37) (n := 64) (by kernel_rfl) (by kernel_rfl) under38 Tryd.underlying37 (by kernel_rfl) (by kernel_rfl) (laidMet.tail h)
  refine ⟨fun k hk => ?_, fun k hk => ?_⟩
  · have hc := Lib.TabIs.cell h1 (g := 0) (by kernel_rfl) k (by rw [List.length_map]; exact hk)
    rw [hc]
    have hk' : k < h0s.length := hk
    simp only [List.getD, List.getElem?_map, List.getElem?_eq_getElem hk', Option.map_some, Option.getD_some]
  · have hc := Lib.TabIs.cell h2 (g := 1) (by kernel_rfl) k (by rw [List.length_map]; exact hk)
    rw [hc]
    have hk' : k < kts.length := hk
    simp only [List.getD, List.getElem?_map, List.getElem?_eq_getElem hk', Option.map_some, Option.getD_some]
theorem bulk_pos {H : Type} (d : DataW H) : 1 ≤ Rows.uptoBulk d := by
  cases d with
  | lit l => cases l <;> simp [Rows.uptoBulk]
  | _ => simp [Rows.uptoBulk]
end Go.Proofs.YtcjhimakbopipaaDoor
