/- the text GByA -/
import Derived.Test.YtddbiiejilcbbaaGreatDoorAG3
import Derived.Test.YtddbiiejilcbbaaGreatDoorGFrameC
import Derived.Test.YtddbiiejilcbbaaGreatDoorAG15
namespace Go.Proofs.YtddbiiejilcbbaaGreatDoor
open Go Go.ChangeShapes Go.WideShapes Go.ChangeAt Go.WideMaps Go.WideElems Go.RowKit Go.ChangeMaps

theorem cells8of : Tryz.prog.cellsOf 5 = 1 := by kernel_rfl
/-- An argument of type []byte, opened, nil or not. -/
theorem bytes_arg {H : Type} {enc : TypeId × Value → H} {W : World} {a : Option Addr} {len cap : Nat} {d : DataW H} {p : List MemPlace}
    (h0 : DataW.Trod enc Tryz.prog W 0 (fun _ => true) true 22 (.slice a len cap) d p) :
    ∃ l : List UInt8, l.length = len ∧ Sl W (.slice a len cap) l ∧ (d = .nil ∧ len = 0 ∨ ∃ elems spare, d = .slice elems spare ∧ elems.length = len) := by
  obtain ⟨fuel, hf⟩ := h0
  rcases open_ints Tryz.underlying22 Tryz.underlying5 cells8of hf with ⟨hcs, hx⟩ | ⟨ad, len', cap', zs, hcs, _, hl, hm, hz, hx, hcell, hwz⟩
  · simp [Value.cells] at hcs
    obtain ⟨rfl, rfl, rfl⟩ := hcs
    simp only [Prod.mk.injEq] at hx
    exact ⟨[], rfl, Sl.nil W, .inl ⟨hx.1, rfl⟩⟩
  · simp [Value.cells] at hcs
    obtain ⟨rfl, rfl, rfl⟩ := hcs
    simp only [Prod.mk.injEq] at hx
    simp only [if_true] at hz
    have hll : ((zs.take len).map fun z => UInt8.ofNat z.toNat).length = len := by simp; omega
    refine ⟨(zs.take len).map fun z => UInt8.ofNat z.toNat, hll, ?_, .inr ⟨_, _, hx.1, by simp [lits]; omega⟩⟩
    have key : Sl W (.slice (some ad) ((zs.take len).map fun z => UInt8.ofNat z.toNat).length cap) ((zs.take len).map fun z => UInt8.ofNat z.toNat) := by
      refine ⟨_, _, rfl, by rw [hll]; exact hl, fun h => (by cases h), fun hne => ?_⟩
      have hpos : 0 < zs.length := by
        rcases Nat.eq_zero_or_pos zs.length with h | h
        · exfalso; apply hne; apply List.eq_nil_of_length_eq_zero; rw [hll]; omega
        · exact h
      obtain ⟨b, off, sp⟩ := ad
      obtain rfl : sp = none := by simpa [Addr.add] using World.cell?_spot (hcell 0 hpos)
      refine ⟨b, off, rfl, fun k hk => ?_⟩
      rw [hll] at hk
      have hkz : k < zs.length := by omega
      have hc := hcell k hkz
      rw [Addr.add_lit] at hc
      rw [hc]
      have hb : 0 ≤ zs[k] ∧ zs[k] ≤ 255 := bounds_u8 (hwz _ (List.getElem_mem hkz))
      have e1 : zs.getD k 0 = zs[k] := by simp [List.getD, hkz]
      have e2 : at8 ((zs.take len).map fun z => UInt8.ofNat z.toNat) k = zs[k] := by
        unfold at8
        have : ((zs.take len).map fun z => UInt8.ofNat z.toNat).getD k 0 = UInt8.ofNat zs[k].toNat := by simp [List.getD, hk, hkz]
        rw [this, u8_ofNat (by omega)]; omega
      rw [e1, e2]
    rwa [hll] at key

/-- How long it is, at most. -/
theorem bytes_sized {H : Type} {ts : List TypeId} {ds : List (DataW H)} (h : (DataW.weightsEach Tryz.prog ts ds).all (· ≤ reachBytes) = true) {j len : Nat} {d : DataW H} (ht : ts[j]? = some 22) (hd : ds[j]? = some d)
    (hx : d = .nil ∧ len = 0 ∨ ∃ elems spare, d = .slice elems spare ∧ elems.length = len) : len ≤ 140737488351232 := by
  rcases hx with ⟨_, rfl⟩ | ⟨elems, spare, rfl, hl⟩
  · omega
  · have hs := sized_slice h ht hd Tryz.underlying22
    have hb : Tryz.prog.bytesOf 5 = 1 := by kernel_rfl
    rw [hb] at hs
    have : reachBytes = 140737488351232 := rfl
    omega
theorem sl_stay {w : World} {v : Value} {l : List UInt8} (h : Sl w v l) : Stay [] w (fun w' => Sl w' v l) := fun w' hc => h.below (hc.toB fun x hx => by cases hx)
end Go.Proofs.YtddbiiejilcbbaaGreatDoor
