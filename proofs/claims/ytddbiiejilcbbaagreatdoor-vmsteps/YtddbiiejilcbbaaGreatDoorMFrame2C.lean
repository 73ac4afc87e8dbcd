/- the text MFrame2 -/
import Derived.Test.YtddbiiejilcbbaaGreatDoorAG25
import Derived.Test.DevTool
import Derived.Test.YtddbiiejilcbbaaGreatDoorAG16
namespace Go.Proofs.YtddbiiejilcbbaaGreatDoor
open Go Go.ChangeShapes Go.WideShapes Go.ChangeAt Go.WideMaps Go.WideElems Go.RowKit Go.ChangeMaps Go.Deep

set_option maxRecDepth 100000 in
theorem hold_trod {H : Type} {enc : TypeId × Value → H} {W : World} {fuel : Nat} {cs : List Value} {x : DataW H × List MemPlace} (hf : DataW.trod enc Tryz.prog W 0 (fun _ => true) true fuel 86 cs = some x) : ∃ d n, cs = [.int .i64 d, .int .i64 n] ∧ i64P d ∧ i64P n := by
  have hc2 : Tryz.prog.cellsOf 86 = 2 := by kernel_chk
  have hci : Tryz.prog.cellsOf 3 = 1 := by kernel_chk
  have hcl : Tryz.prog.cellsOf 2 = 1 := by kernel_chk
  obtain ⟨ys, m, hm, hxy, hcl', hxl, hfd⟩ := DataW.trod_struct Tryz.underlying86 hf
  obtain ⟨y0, y1, rfl⟩ := list2 (show ys.length = 2 from hxl)
  rw [hc2] at hcl'
  obtain ⟨v0, v1, rfl⟩ := list2 hcl'
  have g0 := hfd 0 _ rfl
  have g1 := hfd 1 _ rfl
  simp [hci, hcl] at g0 g1
  obtain ⟨d, e0, _, w0⟩ := DataW.trod_int Tryz.underlying3 g0
  obtain ⟨n, e1, _, w1⟩ := DataW.trod_int Tryz.underlying2 g1
  simp only [List.cons.injEq, and_true] at e0 e1
  subst e0 e1
  exact ⟨d, n, rfl, bounds_i64 w0, bounds_i64 w1⟩
set_option maxRecDepth 100000 in
theorem holds_trod {H : Type} {enc : TypeId × Value → H} {W : World} {fuel : Nat} {v : Value} {x : DataW H × List MemPlace} (hf : DataW.trod enc Tryz.prog W 0 (fun _ => true) true fuel 37 [v] = some x) : ∃ l, Sts W.heap.size W v l ∧ ∀ q ∈ l, i64P q.1 ∧ i64P q.2 := by
  have hc2 : Tryz.prog.cellsOf 86 = 2 := by kernel_chk
  rcases DataW.trod_slice Tryz.underlying37 hf with ⟨e3, _⟩ | ⟨ad, len, cap, elems, rest, q, hq, e3, _, _, hlc, hcm, hel, hea, _, _⟩
  · simp only [List.cons.injEq, and_true] at e3
    subst e3
    exact ⟨[], ⟨none, 0, rfl, ⟨Nat.le_refl _, by omega⟩, by simp⟩, by simp⟩
  · simp only [List.cons.injEq, and_true] at e3
    subst e3
    rw [hc2] at hea
    have each : ∀ i, i < len → ∃ z : Int × Int, W.cell? (ad.add (i * 2)) = some (.int .i64 z.1) ∧ W.cell? (ad.add (i * 2 + 1)) = some (.int .i64 z.2) ∧ i64P z.1 ∧ i64P z.2 := by
      intro i hi
      have h1 := hea i hi
      rw [List.getElem?_eq_getElem (by omega)] at h1
      obtain ⟨cs2, h2, h3⟩ := Option.bind_eq_some_iff.1 h1
      obtain ⟨_, hlen2, hcell⟩ := World.cells?_some h2
      obtain ⟨d, n, rfl, b1, b2⟩ := hold_trod h3
      have c0 := hcell 0 (by omega)
      have c1 := hcell 1 (by omega)
      rw [add_add] at c0 c1
      exact ⟨(d, n), by simpa using c0, by simpa using c1, b1, b2⟩
    obtain ⟨f, hq'⟩ := choose_lt each
    have hkl : ((List.range len).map f).length = len := by simp
    have hkg : ∀ i t, ((List.range len).map f)[i]? = some t → i < len ∧ f i = t := by
      intro i t h
      have hi : i < len := by have := (List.getElem?_eq_some_iff.1 h).1; simpa using this
      exact ⟨hi, by simpa [hi] using h⟩
    refine ⟨(List.range len).map f, ⟨some ad, cap, by rw [hkl], ⟨by rw [hkl]; exact hlc, hcm⟩, fun i t h => ?_⟩, fun t ht => ?_⟩
    · obtain ⟨hi, rfl⟩ := hkg i t h
      obtain ⟨c0, c1, _⟩ := hq' i hi
      obtain ⟨z0, _⟩ := hq' 0 (by omega)
      rw [Nat.zero_mul] at z0
      obtain ⟨b, off, sp⟩ := ad
      obtain rfl : sp = none := spot_none z0
      rw [Addr.add_lit] at c0 c1
      exact ⟨b, off, rfl, World.block_lt_of_cell? W _ c0, c0, by rw [Nat.add_assoc]; exact c1⟩
    · obtain ⟨i, hi, rfl⟩ := List.mem_map.1 ht
      exact (hq' i (List.mem_range.1 hi)).2.2
/-- Holds that are handed in. -/
theorem holds_arg {H : Type} {enc : TypeId × Value → H} {W : World} {v : Value} {d : DataW H} {p : List MemPlace} (h0 : DataW.Trod enc Tryz.prog W 0 (fun _ => true) true 37 v d p) (hv : v.cells.toList = [v]) : ∃ l, Sts W.heap.size W v l ∧ ∀ q ∈ l, i64P q.1 ∧ i64P q.2 := by
  obtain ⟨fuel, hf⟩ := h0
  rw [hv] at hf
  exact holds_trod hf
set_option maxRecDepth 100000 in
theorem choice_trod {H : Type} {enc : TypeId × Value → H} {W : World} {fuel : Nat} {cs : List Value} {x : DataW H × List MemPlace} (hf : DataW.trod enc Tryz.prog W 0 (fun _ => true) true fuel 45 cs = some x) : ∃ lab k, cs = [strV lab, .int .i64 k] ∧ lab.length ≤ 9223372036854775807 ∧ i64P k := by
  have hc2 : Tryz.prog.cellsOf 45 = 2 := by kernel_chk
  have hci : Tryz.prog.cellsOf 3 = 1 := by kernel_chk
  have hcs : Tryz.prog.cellsOf 9 = 1 := by kernel_chk
  obtain ⟨ys, m, hm, hxy, hcl', hxl, hfd⟩ := DataW.trod_struct Tryz.underlying45 hf
  obtain ⟨y0, y1, rfl⟩ := list2 (show ys.length = 2 from hxl)
  rw [hc2] at hcl'
  obtain ⟨v0, v1, rfl⟩ := list2 hcl'
  have g0 := hfd 0 _ rfl
  have g1 := hfd 1 _ rfl
  simp [hci, hcs] at g0 g1
  obtain ⟨s, e0, _, w0⟩ := DataW.trod_string Tryz.underlying9 g0
  obtain ⟨n, e1, _, w1⟩ := DataW.trod_int Tryz.underlying3 g1
  simp only [List.cons.injEq, and_true] at e0 e1
  subst e0 e1
  exact ⟨s.data.toList, n, by unfold strV; simp, by simpa [maxLen] using w0, bounds_i64 w1⟩
set_option maxRecDepth 100000 in
/-- A choice that is handed in. -/
theorem choice_arg {H : Type} {enc : TypeId × Value → H} {W : World} {base : Nat} {v : Value} {d : DataW H} {p : List MemPlace} (hv : Value.okWide Tryz.prog W .any base 45 v) (h0 : DataW.Trod enc Tryz.prog W 0 (fun _ => true) true 45 v d p) : ∃ lab k, v = chV lab k ∧ lab.length ≤ 9223372036854775807 ∧ i64P k := by
  obtain ⟨cs, hcv, _⟩ := okWide_struct Tryz.underlying45 hv
  subst hcv
  obtain ⟨fuel, hf⟩ := h0
  obtain ⟨lab, k, hcs, h1, h2⟩ := choice_trod hf
  refine ⟨lab, k, ?_, h1, h2⟩
  have e : cs = #[strV lab, .int .i64 k] := by
    have h : cs.toList = [strV lab, .int .i64 k] := by simpa [Value.cells] using hcs
    rw [← Array.toArray_toList (xs := cs), h]
  rw [e]
  rfl
end Go.Proofs.YtddbiiejilcbbaaGreatDoor
