/- the text GArg -/
import Derived.Test.YtddbiiejilcbbaaGreatDoorAG20
import Derived.Test.YtddbiiejilcbbaaGreatDoorAG21
import Derived.Test.YtddbiiejilcbbaaGreatDoorAG5
namespace Go.Proofs.YtddbiiejilcbbaaGreatDoor
open Go Go.ChangeShapes Go.WideShapes Go.ChangeAt Go.WideMaps Go.WideElems Go.RowKit Go.ChangeMaps Go.Deep

theorem list3 {α : Type} : ∀ {l : List α}, l.length = 3 → ∃ a b c, l = [a, b, c]
  | [a, b, c], _ => ⟨a, b, c, rfl⟩
theorem list5 {α : Type} : ∀ {l : List α}, l.length = 5 → ∃ a b c d e, l = [a, b, c, d, e]
  | [a, b, c, d, e], _ => ⟨a, b, c, d, e, rfl⟩
theorem list7 {α : Type} : ∀ {l : List α}, l.length = 7 → ∃ a b c d e f g, l = [a, b, c, d, e, f, g]
  | [a, b, c, d, e, f, g], _ => ⟨a, b, c, d, e, f, g, rfl⟩
set_option maxRecDepth 100000 in
theorem wait_trod {H : Type} {enc : TypeId × Value → H} {W : World} {fuel : Nat} {cs : List Value} {x : DataW H × List MemPlace} (hf : DataW.trod enc Tryz.prog W 0 (fun _ => true) true fuel 70 cs = some x) : ∃ y : Wk, cs = wC y ∧ y.label.length ≤ 9223372036854775807 := by
  have hc2 : Tryz.prog.cellsOf 70 = 5 := by kernel_rfl
  have hci : Tryz.prog.cellsOf 3 = 1 := by kernel_rfl
  have hcs : Tryz.prog.cellsOf 9 = 1 := by kernel_rfl
  obtain ⟨ys, m, hm, hxy, hcl', hxl, hfd⟩ := DataW.trod_struct Tryz.underlying70 hf
  obtain ⟨y0, y1, y2, y3, y4, rfl⟩ := list5 (show ys.length = 5 from hxl)
  rw [hc2] at hcl'
  obtain ⟨v0, v1, v2, v3, v4, rfl⟩ := list5 hcl'
  have g0 := hfd 0 _ rfl
  have g1 := hfd 1 _ rfl
  have g2 := hfd 2 _ rfl
  have g3 := hfd 3 _ rfl
  have g4 := hfd 4 _ rfl
  simp [hci, hcs] at g0 g1 g2 g3 g4
  obtain ⟨d0, e0, _, w0⟩ := DataW.trod_int Tryz.underlying3 g0
  obtain ⟨d1, e1, _, w1⟩ := DataW.trod_int Tryz.underlying3 g1
  obtain ⟨s, e2, _, w2⟩ := DataW.trod_string Tryz.underlying9 g2
  obtain ⟨d3, e3, _, w3⟩ := DataW.trod_int Tryz.underlying3 g3
  obtain ⟨d4, e4, _, w4⟩ := DataW.trod_int Tryz.underlying3 g4
  simp only [List.cons.injEq, and_true] at e0 e1 e2 e3 e4
  subst e0 e1 e2 e3 e4
  exact ⟨⟨d0, d1, s.data.toList, d3, d4⟩, by unfold wC strV; simp, by simpa [maxLen] using w2⟩
set_option maxRecDepth 100000 in
theorem instr_trod {H : Type} {enc : TypeId × Value → H} {W : World} {fuel : Nat} {cs : List Value} {x : DataW H × List MemPlace} (hf : DataW.trod enc Tryz.prog W 0 (fun _ => true) true fuel 72 cs = some x) : ∃ y : Ik, cs = iC y ∧ y.s.length ≤ 9223372036854775807 ∧ I64 y.n := by
  have hc2 : Tryz.prog.cellsOf 72 = 7 := by kernel_rfl
  have hci : Tryz.prog.cellsOf 3 = 1 := by kernel_rfl
  have hcl : Tryz.prog.cellsOf 2 = 1 := by kernel_rfl
  have hcs : Tryz.prog.cellsOf 9 = 1 := by kernel_rfl
  obtain ⟨ys, m, hm, hxy, hcl', hxl, hfd⟩ := DataW.trod_struct Tryz.underlying72 hf
  obtain ⟨y0, y1, y2, y3, y4, y5, y6, rfl⟩ := list7 (show ys.length = 7 from hxl)
  rw [hc2] at hcl'
  obtain ⟨v0, v1, v2, v3, v4, v5, v6, rfl⟩ := list7 hcl'
  have g0 := hfd 0 _ rfl
  have g1 := hfd 1 _ rfl
  have g2 := hfd 2 _ rfl
  have g3 := hfd 3 _ rfl
  have g4 := hfd 4 _ rfl
  have g5 := hfd 5 _ rfl
  have g6 := hfd 6 _ rfl
  simp [hci, hcs, hcl] at g0 g1 g2 g3 g4 g5 g6
  obtain ⟨d0, e0, _, w0⟩ := DataW.trod_int Tryz.underlying3 g0
  obtain ⟨d1, e1, _, w1⟩ := DataW.trod_int Tryz.underlying3 g1
  obtain ⟨d2, e2, _, w2⟩ := DataW.trod_int Tryz.underlying3 g2
  obtain ⟨d3, e3, _, w3⟩ := DataW.trod_int Tryz.underlying3 g3
  obtain ⟨d4, e4, _, w4⟩ := DataW.trod_int Tryz.underlying2 g4
  obtain ⟨s, e5, _, w5⟩ := DataW.trod_string Tryz.underlying9 g5
  obtain ⟨d6, e6, _, w6⟩ := DataW.trod_int Tryz.underlying3 g6
  simp only [List.cons.injEq, and_true] at e0 e1 e2 e3 e4 e5 e6
  subst e0 e1 e2 e3 e4 e5 e6
  exact ⟨⟨d0, d1, d2, d3, d4, s.data.toList, d6⟩, by unfold iC strV; simp, by simpa [maxLen] using w5, bounds_i64 w4⟩
set_option maxRecDepth 100000 in
theorem waits_trod {H : Type} {enc : TypeId × Value → H} {W : World} {fuel : Nat} {v : Value} {x : DataW H × List MemPlace} (hf : DataW.trod enc Tryz.prog W 0 (fun _ => true) true fuel 24 [v] = some x) : ∃ (a : Option Addr) (n c : Nat) (l : List Wk), v = .slice a n c ∧ l.length = n ∧ (n ≤ c ∧ c ≤ 9223372036854775807) ∧ ∀ i y, l[i]? = some y → y.label.length ≤ 9223372036854775807 ∧ ∃ b o, a = some ⟨b, o, none⟩ ∧ b < W.heap.size ∧ WcAt W b (o + i * 5) y := by
  have hc2 : Tryz.prog.cellsOf 70 = 5 := by kernel_rfl
  rcases DataW.trod_slice Tryz.underlying24 hf with ⟨e3, _⟩ | ⟨ad, len, cap, elems, rest, q, hq, e3, _, _, hlc, hcm, hel, hea, _, _⟩
  · simp only [List.cons.injEq, and_true] at e3
    exact ⟨none, 0, 0, [], e3, rfl, ⟨Nat.le_refl _, by omega⟩, by simp⟩
  · simp only [List.cons.injEq, and_true] at e3
    subst e3
    rw [hc2] at hea
    have each : ∀ i, i < len → ∃ y : Wk, (∀ j u, (wC y)[j]? = some u → W.cell? ((ad.add (i * 5)).add j) = some u) ∧ y.label.length ≤ 9223372036854775807 := by
      intro i hi
      have h1 := hea i hi
      rw [List.getElem?_eq_getElem (by omega)] at h1
      obtain ⟨cs2, h2, h3⟩ := Option.bind_eq_some_iff.1 h1
      obtain ⟨_, hlen2, hcell⟩ := World.cells?_some h2
      obtain ⟨y, rfl, b1⟩ := wait_trod h3
      exact ⟨y, fun j u hj => by rw [hcell j ((List.getElem?_eq_some_iff.1 hj).1)]; exact hj, b1⟩
    haveI : Inhabited Wk := ⟨⟨0, 0, [], 0, 0⟩⟩
    obtain ⟨f, hq'⟩ := choose_lt each
    have hkl : ((List.range len).map f).length = len := by simp
    have hkg : ∀ i t, ((List.range len).map f)[i]? = some t → i < len ∧ f i = t := by
      intro i t h
      have hi : i < len := by have := (List.getElem?_eq_some_iff.1 h).1; simpa using this
      exact ⟨hi, by simpa [hi] using h⟩
    refine ⟨some ad, len, cap, (List.range len).map f, rfl, hkl, ⟨hlc, hcm⟩, fun i t h => ?_⟩
    obtain ⟨hi, rfl⟩ := hkg i t h
    obtain ⟨c0, b1⟩ := hq' i hi
    have z0 := (hq' 0 (by omega)).1 0 _ rfl
    rw [Nat.zero_mul, add_add] at z0
    obtain ⟨b, off, sp⟩ := ad
    obtain rfl : sp = none := spot_none z0
    have c1 : WcAt W b (off + i * 5) (f i) := fun j u hj => by have := c0 j u hj; rw [add_add, Addr.add_lit] at this; rw [Nat.add_assoc]; exact this
    exact ⟨b1, b, off, rfl, World.block_lt_of_cell? W _ (c1 0 _ rfl), c1⟩
set_option maxRecDepth 100000 in
theorem instrs_trod {H : Type} {enc : TypeId × Value → H} {W : World} {fuel : Nat} {v : Value} {x : DataW H × List MemPlace} (hf : DataW.trod enc Tryz.prog W 0 (fun _ => true) true fuel 25 [v] = some x) : ∃ (a : Option Addr) (n c : Nat) (l : List Ik), v = .slice a n c ∧ l.length = n ∧ (n ≤ c ∧ c ≤ 9223372036854775807) ∧ (∀ i y, l[i]? = some y → y.s.length ≤ 9223372036854775807 ∧ ∃ b o, a = some ⟨b, o, none⟩ ∧ b < W.heap.size ∧ IcAt W b (o + i * 7) y) ∧ ∀ y ∈ l, I64 y.n := by
  have hc2 : Tryz.prog.cellsOf 72 = 7 := by kernel_rfl
  rcases DataW.trod_slice Tryz.underlying25 hf with ⟨e3, _⟩ | ⟨ad, len, cap, elems, rest, q, hq, e3, _, _, hlc, hcm, hel, hea, _, _⟩
  · simp only [List.cons.injEq, and_true] at e3
    exact ⟨none, 0, 0, [], e3, rfl, ⟨Nat.le_refl _, by omega⟩, by simp, by simp⟩
  · simp only [List.cons.injEq, and_true] at e3
    subst e3
    rw [hc2] at hea
    have each : ∀ i, i < len → ∃ y : Ik, (∀ j u, (iC y)[j]? = some u → W.cell? ((ad.add (i * 7)).add j) = some u) ∧ y.s.length ≤ 9223372036854775807 ∧ I64 y.n := by
      intro i hi
      have h1 := hea i hi
      rw [List.getElem?_eq_getElem (by omega)] at h1
      obtain ⟨cs2, h2, h3⟩ := Option.bind_eq_some_iff.1 h1
      obtain ⟨_, hlen2, hcell⟩ := World.cells?_some h2
      obtain ⟨y, rfl, b1⟩ := instr_trod h3
      exact ⟨y, fun j u hj => by rw [hcell j ((List.getElem?_eq_some_iff.1 hj).1)]; exact hj, b1⟩
    haveI : Inhabited Ik := ⟨⟨0, 0, 0, 0, 0, [], 0⟩⟩
    obtain ⟨f, hq'⟩ := choose_lt each
    have hkl : ((List.range len).map f).length = len := by simp
    have hkg : ∀ i t, ((List.range len).map f)[i]? = some t → i < len ∧ f i = t := by
      intro i t h
      have hi : i < len := by have := (List.getElem?_eq_some_iff.1 h).1; simpa using this
      exact ⟨hi, by simpa [hi] using h⟩
    refine ⟨some ad, len, cap, (List.range len).map f, rfl, hkl, ⟨hlc, hcm⟩, fun i t h => ?_, fun y hy => ?_⟩
    · obtain ⟨hi, rfl⟩ := hkg i t h
      obtain ⟨c0, b1, -⟩ := hq' i hi
      have z0 := (hq' 0 (by omega)).1 0 _ rfl
      rw [Nat.zero_mul, add_add] at z0
      obtain ⟨b, off, sp⟩ := ad
      obtain rfl : sp = none := spot_none z0
      have c1 : IcAt W b (off + i * 7) (f i) := fun j u hj => by have := c0 j u hj; rw [add_add, Addr.add_lit] at this; rw [Nat.add_assoc]; exact this
      exact ⟨b1, b, off, rfl, World.block_lt_of_cell? W _ (c1 0 _ rfl), c1⟩
    · obtain ⟨i, hi, rfl⟩ := List.mem_map.1 hy
      exact (hq' i (List.mem_range.1 hi)).2.2
set_option maxRecDepth 100000 in
/-- A bytecode that is handed in. -/
theorem code_arg {H : Type} {enc : TypeId × Value → H} {W : World} {base : Nat} {v : Value} {d : DataW H} {p : List MemPlace} (hv : Value.okWide Tryz.prog W .any base 27 v) (h0 : DataW.Trod enc Tryz.prog W 0 (fun _ => true) true 27 v d p) : ∃ rg aW nW cW aI nI cI k, v = cdV rg aW nW cW aI nI cI ∧ CdM W aW nW cW aI nI cI k ∧ k.regs = rg ∧ k.wf := by
  obtain ⟨cs, hcv, _⟩ := okWide_struct Tryz.underlying27 hv
  subst hcv
  obtain ⟨fuel, hf⟩ := h0
  have hc2 : Tryz.prog.cellsOf 27 = 3 := by kernel_rfl
  have hci : Tryz.prog.cellsOf 3 = 1 := by kernel_rfl
  have hcw : Tryz.prog.cellsOf 24 = 1 := by kernel_rfl
  have hcn : Tryz.prog.cellsOf 25 = 1 := by kernel_rfl
  obtain ⟨ys, m, hm, hxy, hcl', hxl, hfd⟩ := DataW.trod_struct Tryz.underlying27 hf
  obtain ⟨y0, y1, y2, rfl⟩ := list3 (show ys.length = 3 from hxl)
  rw [hc2] at hcl'
  obtain ⟨v0, v1, v2, hcs⟩ := list3 hcl'
  rw [hcs] at hfd
  have g0 := hfd 0 _ rfl
  have g1 := hfd 1 _ rfl
  have g2 := hfd 2 _ rfl
  simp [hci, hcw, hcn] at g0 g1 g2
  obtain ⟨rg, e0, _, w0⟩ := DataW.trod_int Tryz.underlying3 g0
  simp only [List.cons.injEq, and_true] at e0
  subst e0
  obtain ⟨aW, nW, cW, lw, rfl, hlw, hcw2, hw⟩ := waits_trod g1
  obtain ⟨aI, nI, cI, li, rfl, hli, hci2, hi, hwf⟩ := instrs_trod g2
  refine ⟨rg, aW, nW, cW, aI, nI, cI, ⟨rg, lw, li⟩, ?_, ⟨hlw, hli, hcw2, hci2, hw, hi⟩, rfl, hwf⟩
  have h : cs.toList = [.int .i64 rg, .slice aW nW cW, .slice aI nI cI] := by simpa [Value.cells] using hcs
  unfold cdV
  rw [← Array.toArray_toList (xs := cs), h]
end Go.Proofs.YtddbiiejilcbbaaGreatDoor
