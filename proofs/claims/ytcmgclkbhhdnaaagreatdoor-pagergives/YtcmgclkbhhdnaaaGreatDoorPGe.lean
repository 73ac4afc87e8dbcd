/- texts put together: PFrame -/
import Derived.Test.YtcmgclkbhhdnaaaGreatDoorRows
import Derived.Test.YtcmgclkbhhdnaaaGreatDoorPGd
import Derived.ProofKit
import Derived.LaidMore
import Derived.OpenShut
import Derived.ShutString
import Derived.ChangeMaps5
import Derived.Stop.Joined
import Derived.Stop.LaidErr
import Derived.Lib.LaidTab
import Derived.Deep.DeepHandedRow
import Derived.Deep.Slices
import Derived.Deep.Matrix
namespace Go.Proofs.YtcmgclkbhhdnaaaGreatDoor
open Go Go.ChangeShapes Go.WideShapes Go.ChangeAt Go.WideMaps Go.WideElems Go.RowKit Go.ChangeMaps Go.Deep

theorem own : ownKnob Tryz.prog.godebug = none := by kernel_rfl
theorem laidOut : laidOutB Tryz.prog = true := by kernel_rfl
/-- The rows' list of tables. -/
def laid1 : List (String × DataW Unit) := [("usance/wire.crcSteps", Rows.laid_usance_wire_crcSteps)]
theorem laid_met (os : Os) (args : Array Value) : laidMetH Tryz.prog laid1 ((World.doorLaid Tryz.prog 24 os).forCall (fun _ _ => 0) ⟨#[], args, []⟩).memory :=
  laidMetH_of_parts3 (fuel := 8) (laidMet_of_run' 8 (by kernel_rfl) (by kernel_rfl)) (by kernel_rfl) (by kernel_rfl)
theorem crc_datum : (Rows.laid_usance_wire_crcSteps : DataW Unit) = Lib.tabData .u32 (crcTab.map fun n : Nat => (n : Int)) := by kernel_rfl
theorem tab_of_laid {W : World} (h : laidMetH Tryz.prog laid1 W) : Tab W := by
  rw [MakeChecks.laidMetH_plain _ _ _ (by kernel_rfl)] at h
  unfold laid1 at h
  rw [crc_datum] at h
  have ht := Lib.tabIs_of_head (g := 0) (t := 205) (e := 172) (n := 16) (by kernel_rfl) (by kernel_rfl) Tryz.underlying205 Tryz.underlying172 (by kernel_rfl) (by kernel_rfl) h
  intro k hk
  have hc := Lib.TabIs.cell ht (g := 0) (by kernel_rfl) k hk
  rw [hc]
  have hk' : k < crcTab.length := hk
  simp [crcAt, List.getD, hk']

theorem spot_none {w : World} {ad : Addr} {v : Value} (h : w.cell? (ad.add 0) = some v) : ad.spot = none := by
  simpa [Addr.add] using World.cell?_spot h
theorem ints_trod {H : Type} {enc : TypeId × Value → H} {W : World} {cs : List Value} {x : DataW H × List MemPlace} {fuel : Nat}
    (hf : DataW.trod enc Tryz.prog W 0 (fun _ => true) true fuel 42 cs = some x) :
    ∃ a len cap zs, cs = [.slice a len cap] ∧ Iz W (.slice a len cap) zs ∧ zs.length = len ∧ (∀ z ∈ zs, -9223372036854775808 ≤ z ∧ z ≤ 9223372036854775807) ∧ len ≤ 9223372036854775807 ∧ (x.1 = .nil ∧ len = 0 ∨ ∃ elems spare, x.1 = .slice elems spare ∧ elems.length = len) := by
  rcases open_ints Tryz.underlying42 Tryz.underlying3 (by kernel_rfl) hf with ⟨hcs, hx⟩ | ⟨ad, len, cap, zs, hcs, _, hl, hm, hz, hx, hcell, hwz⟩
  · exact ⟨none, 0, 0, [], hcs, ⟨none, 0, rfl, fun k x h => by simp at h⟩, rfl, by simp, by omega, .inl ⟨by rw [hx], rfl⟩⟩
  · simp only [if_true] at hz
    have hm' : cap ≤ 9223372036854775807 := hm
    have hzl : (zs.take len).length = len := by simp; omega
    refine ⟨some ad, len, cap, zs.take len, hcs, ⟨some ad, cap, by rw [hzl], fun j x hj => ?_⟩, hzl, fun z hz => bounds_i64 (hwz z (List.mem_of_mem_take hz)), by omega, .inr ⟨_, _, by rw [hx], by simp [lits]; omega⟩⟩
    have hj' : j < len := by have := (List.getElem?_eq_some_iff.1 hj).1; omega
    obtain ⟨b, off, sp⟩ := ad
    obtain rfl : sp = none := spot_none (hcell 0 (by omega))
    refine ⟨b, off, rfl, ?_⟩
    have h1 := hcell j (by omega)
    rw [Addr.add_lit] at h1
    rw [h1]
    rw [List.getElem?_take_of_lt hj'] at hj
    simp [List.getD, hj]
theorem ints_arg {H : Type} {enc : TypeId × Value → H} {W : World} {a : Option Addr} {len cap : Nat} {d : DataW H} {p : List MemPlace}
    (h0 : DataW.Trod enc Tryz.prog W 0 (fun _ => true) true 42 (.slice a len cap) d p) :
    ∃ zs : List Int, Iz W (.slice a len cap) zs ∧ zs.length = len ∧ (∀ z ∈ zs, -9223372036854775808 ≤ z ∧ z ≤ 9223372036854775807) ∧ len ≤ 9223372036854775807 ∧ (d = .nil ∧ len = 0 ∨ ∃ elems spare, d = .slice elems spare ∧ elems.length = len) := by
  obtain ⟨fuel, hf⟩ := h0
  obtain ⟨a', len', cap', zs, hcs, h1, h2, h3, h4, h5⟩ := ints_trod hf
  simp [Value.cells] at hcs
  obtain ⟨rfl, rfl, rfl⟩ := hcs
  exact ⟨zs, h1, h2, h3, h4, h5⟩
end Go.Proofs.YtcmgclkbhhdnaaaGreatDoor
