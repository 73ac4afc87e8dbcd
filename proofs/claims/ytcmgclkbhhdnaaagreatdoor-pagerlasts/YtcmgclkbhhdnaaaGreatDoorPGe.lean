/- texts put together: PFrame -/
import Derived.Test.YtcmgclkbhhdnaaaGreatDoorRows
import Derived.Test.YtcmgclkbhhdnaaaGreatDoorPGd
import Derived.ProofKit
import Derived.LaidMore
import Derived.OpenShut
import Derived.ShutString
import Derived.ChangeMaps5
import Derived.Stop.Joined
import Derived.Stop.LaidErr
import Derived.Lib.LaidTab
import Derived.Deep.DeepHandedRow
import Derived.Deep.Slices
import Derived.Deep.Matrix
namespace Go.Proofs.YtcmgclkbhhdnaaaGreatDoor
open Go Go.ChangeShapes Go.WideShapes Go.ChangeAt Go.WideMaps Go.WideElems Go.RowKit Go.ChangeMaps Go.Deep

theorem own : ownKnob Tryz.prog.godebug = none := by kernel_rfl
theorem laidOut : laidOutB Tryz.prog = true := by kernel_rfl
/-- The rows' list of tables. -/
def laid1 : List (String × DataW Unit) := [("usance/wire.crcSteps", Rows.laid_usance_wire_crcSteps)]
theorem laid_met (os : Os) (args : Array Value) : laidMetH Tryz.prog laid1 ((World.doorLaid Tryz.prog 24 os).forCall (fun _ _ => 0) ⟨#[], args, []⟩).memory :=
  laidMetH_of_parts3 (fuel := 8) (laidMet_of_run' 8 (by kernel_rfl) (by kernel_rfl)) (by kernel_rfl) (by kernel_rfl)
theorem crc_datum : (Rows.laid_usance_wire_crcSteps : DataW Unit) = Lib.tabData .u32 (crcTab.map fun n : Nat => (n : Int)) := by kernel_rfl
theorem tab_of_laid {W : World} (h : laidMetH Tryz.prog laid1 W) : Tab W := by
  rw [MakeChecks.laidMetH_plain _ _ _ (by kernel_rfl)] at h
  unfold laid1 at h
  rw [crc_datum] at h
  have ht := Lib.tabIs_of_head (g := 0) (t := 205) (e := 172) (n := 16) (by kernel_rfl) (by kernel_rfl) Tryz.underlying205 Tryz.underlying172 (by kernel_rfl) (by kernel_rfl) h
  intro k hk
  have hc := Lib.TabIs.cell ht (g := 0) (by kernel_rfl) k hk
  rw [hc]
  have hk' : k < crcTab.length := hk
  simp [crcAt, List.getD, hk']

theorem spot_none {w : World} {ad : Addr} {v : Value} (h : w.cell? (ad.add 0) = some v) : ad.spot = none := by
  simpa [Addr.add] using World.cell?_spot h
theorem ints_trod {H : Type} {enc : TypeId × Value → H} {W : World} {cs : List Value} {x : DataW H × List MemPlace} {fuel : Nat}
    (hf : DataW.trod enc Tryz.prog W 0 (fun _ => true) true fuel 42 cs = some x) :
    ∃ a len cap zs, cs = [.slice a len cap] ∧ Iz W (.slice a len cap) zs ∧ zs.length = len ∧ (∀ z ∈ zs, -9223372036854775808 ≤ z ∧ z ≤ 9223372036854775807) ∧ len ≤ 9223372036854775807 ∧ (x.1 = .nil ∧ len = 0 ∨ ∃ elems spare, x.1 = .slice elems spare ∧ elems.length = len) := by
  rcases open_ints Tryz.underlying42 Tryz.underlying3 (by kernel_rfl) hf with ⟨hcs, hx⟩ | ⟨ad, len, cap, zs, hcs, _, hl, hm, hz, hx, hcell, hwz⟩
  · exact ⟨none, 0, 0, [], hcs, ⟨none, 0, rfl, fun k x h => by simp at h⟩, rfl, by simp, by omega, .inl ⟨by rw [hx], rfl⟩⟩
  · simp only [if_true] at hz
    have hm' : cap ≤ 9223372036854775807 := hm
    have hzl : (zs.take len).length = len := by simp; omega
    refine ⟨some ad, len, cap, zs.take len, hcs, ⟨some ad, cap, by rw [hzl], fun j x hj => ?_⟩, hzl, fun z hz => bounds_i64 (hwz z (List.mem_of_mem_take hz)), by omega, .inr ⟨_, _, by rw [hx], by simp [lits]; omega⟩⟩
    have hj' : j < len := by have := (List.getElem?_eq_some_iff.1 hj).1; omega
    obtain ⟨b, off, sp⟩ := ad
    obtain rfl : sp = none := spot_none (hcell 0 (by omega))
    refine ⟨b, off, rfl, ?_⟩
    have h1 := hcell j (by omega)
    rw [Addr.add_lit] at h1
    rw [h1]
    rw [List.getElem?_take_of_lt hj'] at hj
    simp [List.getD, hj]
theorem list3 {α : Type} : ∀ {l : List α}, l.length = 3 → ∃ a b c, l = [a, b, c]
  | [a, b, c], _ => ⟨a, b, c, rfl⟩
/-- A script's call. -/
structure Op8 where
  kd : Int
  pg : Int
  by_ : Int
def Op8.ok (o : Op8) : Prop := (-9223372036854775808 ≤ o.kd ∧ o.kd ≤ 9223372036854775807) ∧ (-9223372036854775808 ≤ o.pg ∧ o.pg ≤ 9223372036854775807) ∧ 0 ≤ o.by_ ∧ o.by_ ≤ 255
/-- A script in memory. -/
def Ops8 (W : World) (a : Option Addr) (len : Nat) (xs : List Op8) : Prop := xs.length = len ∧ ∀ (j : Nat) (x : Op8), xs[j]? = some x → x.ok ∧ ∃ b off, a = some ⟨b, off, none⟩ ∧ W.cell? ⟨b, off + j * 3, none⟩ = some (.int .i64 x.kd) ∧ W.cell? ⟨b, off + (j * 3 + 1), none⟩ = some (.int .i64 x.pg) ∧ W.cell? ⟨b, off + (j * 3 + 2), none⟩ = some (.int .u8 x.by_)
theorem ops_trod {H : Type} {enc : TypeId × Value → H} {W : World} {cs : List Value} {x : DataW H × List MemPlace} {fuel : Nat}
    (hf : DataW.trod enc Tryz.prog W 0 (fun _ => true) true fuel 22 cs = some x) :
    ∃ a len cap xs, cs = [.slice a len cap] ∧ Ops8 W a len xs ∧ len ≤ 9223372036854775807 := by
  rcases open_slice Tryz.underlying22 hf with ⟨hcs, hx⟩ | ⟨ad, len, cap, m, n, D, Pl, hcs, _, hl, hm, hmm, hx, hel⟩
  · exact ⟨none, 0, 0, [], hcs, ⟨rfl, fun j x hj => by simp at hj⟩, by omega⟩
  · simp only [if_true] at hmm
    have hm' : cap ≤ 9223372036854775807 := hm
    have hc5 : Tryz.prog.cellsOf 32 = 3 := by kernel_rfl
    have hci : Tryz.prog.cellsOf 3 = 1 := by kernel_rfl
    have hcb : Tryz.prog.cellsOf 5 = 1 := by kernel_rfl
    have each : ∀ i, i < len → ∃ v : Op8, v.ok ∧ W.cell? (ad.add (i * 3)) = some (.int .i64 v.kd) ∧ W.cell? (ad.add (i * 3 + 1)) = some (.int .i64 v.pg) ∧ W.cell? (ad.add (i * 3 + 2)) = some (.int .u8 v.by_) := by
      intro i hi
      obtain ⟨cs2, h1, h2⟩ := hel i (by omega)
      rw [hc5] at h1
      obtain ⟨_, hlen2, hcell⟩ := World.cells?_some h1
      obtain ⟨ys, k, hk, hxy, _, hxl, hfd⟩ := DataW.trod_struct Tryz.underlying32 h2
      have hy3 : ys.length = 3 := hxl
      obtain ⟨y0, y1, y2, rfl⟩ := list3 hy3
      obtain ⟨v0, v1, v2, rfl⟩ := list3 hlen2
      · have g0 := hfd 0 _ rfl
        have g1 := hfd 1 _ rfl
        have g2 := hfd 2 _ rfl
        simp [hci, hcb] at g0 g1 g2
        obtain ⟨n0, e0, _, w0⟩ := DataW.trod_int Tryz.underlying3 g0
        obtain ⟨n1, e1, _, w1⟩ := DataW.trod_int Tryz.underlying3 g1
        obtain ⟨n2, e2, _, w2⟩ := DataW.trod_int Tryz.underlying5 g2
        simp only [List.cons.injEq, and_true] at e0 e1 e2
        subst e0 e1 e2
        have c0 := hcell 0 (by omega)
        have c1 := hcell 1 (by omega)
        have c2 := hcell 2 (by omega)
        rw [add_add] at c0 c1 c2
        exact ⟨⟨n0, n1, n2⟩, ⟨bounds_i64 w0, bounds_i64 w1, bounds_u8 w2⟩, by simpa using c0, by simpa using c1, by simpa using c2⟩
    haveI : Inhabited Op8 := ⟨⟨0, 0, 0⟩⟩
    obtain ⟨q, hq⟩ := choose_lt each
    refine ⟨some ad, len, cap, (List.range len).map q, hcs, ⟨by simp, fun j x hj => ?_⟩, by omega⟩
    have hj' : j < len := by have := (List.getElem?_eq_some_iff.1 hj).1; simpa using this
    obtain rfl : q j = x := by simpa [hj'] using hj
    obtain ⟨h1, c0, c1, c2⟩ := hq j hj'
    have hz0 := (hq 0 (by omega)).2.1
    rw [Nat.zero_mul] at hz0
    obtain ⟨b, off, sp⟩ := ad
    obtain rfl : sp = none := spot_none hz0
    rw [Addr.add_lit] at c0 c1 c2
    exact ⟨h1, b, off, rfl, c0, c1, c2⟩
end Go.Proofs.YtcmgclkbhhdnaaaGreatDoor
