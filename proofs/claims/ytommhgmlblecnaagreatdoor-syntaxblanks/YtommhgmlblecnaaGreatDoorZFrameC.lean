/- the text ZFrame -/
import Derived.Test.YtommhgmlblecnaaGreatDoorYFrameC
import Derived.Test.YtommhgmlblecnaaGreatDoorZBlanksWC
import Derived.Deep.Slices
import Derived.Deep.Matrix
namespace Go.Proofs.YtommhgmlblecnaaGreatDoor
open Go Go.ChangeShapes Go.WideShapes Go.ChangeAt Go.WideMaps Go.WideElems Go.RowKit Go.ChangeMaps Go.Deep

theorem laidOut : laidOutB Tryz.prog = true := by kernel_rfl
theorem spot_none {w : World} {ad : Addr} {v : Value} (h : w.cell? (ad.add 0) = some v) : ad.spot = none := by
  simpa [Addr.add] using World.cell?_spot h
theorem ints_trod {H : Type} {enc : TypeId × Value → H} {W : World} {cs : List Value} {x : DataW H × List MemPlace} {fuel : Nat}
    (hf : DataW.trod enc Tryz.prog W 0 (fun _ => true) true fuel 31 cs = some x) :
    ∃ a len cap zs, cs = [.slice a len cap] ∧ MoreF a zs W ∧ zs.length = len ∧ (∀ z ∈ zs, -9223372036854775808 ≤ z ∧ z ≤ 9223372036854775807) ∧ len ≤ 9223372036854775807 ∧ (x.1 = .nil ∧ len = 0 ∨ ∃ elems spare, x.1 = .slice elems spare ∧ elems.length = len) := by
  rcases open_ints Tryz.underlying31 Tryz.underlying3 (by kernel_rfl) hf with ⟨hcs, hx⟩ | ⟨ad, len, cap, zs, hcs, _, hl, hm, hz, hx, hcell, hwz⟩
  · exact ⟨none, 0, 0, [], hcs, fun k x h => by simp at h, rfl, by simp, by omega, .inl ⟨by rw [hx], rfl⟩⟩
  · simp only [if_true] at hz
    have hm' : cap ≤ 9223372036854775807 := hm
    have hzl : (zs.take len).length = len := by simp; omega
    refine ⟨some ad, len, cap, zs.take len, hcs, fun j x hj => ?_, hzl, fun z hz => bounds_i64 (hwz z (List.mem_of_mem_take hz)), by omega, .inr ⟨_, _, by rw [hx], by simp [lits]; omega⟩⟩
    have hj' : j < len := by have := (List.getElem?_eq_some_iff.1 hj).1; omega
    obtain ⟨b, off, sp⟩ := ad
    obtain rfl : sp = none := spot_none (hcell 0 (by omega))
    refine ⟨b, off, rfl, ?_⟩
    have h1 := hcell j (by omega)
    rw [Addr.add_lit] at h1
    rw [h1]
    rw [List.getElem?_take_of_lt hj'] at hj
    simp [List.getD, hj]
theorem ints_arg {H : Type} {enc : TypeId × Value → H} {W : World} {a : Option Addr} {len cap : Nat} {d : DataW H} {p : List MemPlace}
    (h0 : DataW.Trod enc Tryz.prog W 0 (fun _ => true) true 31 (.slice a len cap) d p) :
    ∃ zs : List Int, MoreF a zs W ∧ zs.length = len ∧ (∀ z ∈ zs, -9223372036854775808 ≤ z ∧ z ≤ 9223372036854775807) ∧ len ≤ 9223372036854775807 ∧ (d = .nil ∧ len = 0 ∨ ∃ elems spare, d = .slice elems spare ∧ elems.length = len) := by
  obtain ⟨fuel, hf⟩ := h0
  obtain ⟨a', len', cap', zs, hcs, h1, h2, h3, h4, h5⟩ := ints_trod hf
  simp [Value.cells] at hcs
  obtain ⟨rfl, rfl, rfl⟩ := hcs
  exact ⟨zs, h1, h2, h3, h4, h5⟩
theorem syntaxBlanks_walk (s : ByteArray) (a : Option Addr) (zs : List Int) (cap : Nat) (w : World) (ht : Tab w) (hs : s.size ≤ 140737488351232) (hz : MoreF a zs w) : Calls Tryz.prog 4 #[.string s, .slice a zs.length cap] w fun e w' => e = .returned (.bool true) ∧ Below w.heap.size w w' := by
  have := blanks_any s.data.toList a zs cap w ht hz (by have : s.data.toList.length = s.size := rfl; omega)
  exact this
end Go.Proofs.YtommhgmlblecnaaGreatDoor
