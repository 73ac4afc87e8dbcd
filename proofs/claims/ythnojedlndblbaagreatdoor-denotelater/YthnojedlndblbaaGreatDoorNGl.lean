/- texts put together: CFrame VFrame NFrame NFrame2 NFsz -/
import Derived.Test.YthnojedlndblbaaGreatDoorRows
import Derived.Test.YthnojedlndblbaaGreatDoorNGc
import Derived.ProofKit
import Derived.LaidMore
import Derived.OpenShut
import Derived.ShutString
import Derived.ChangeMaps5
import Derived.Stop.Joined
import Derived.Stop.LaidErr
import Derived.Lib.LaidTab
import Derived.Deep.DeepHandedRow
import Derived.Deep.Slices
import Derived.Deep.Matrix
import Derived.Test.YthnojedlndblbaaGreatDoorNGf
import Derived.Test.YthnojedlndblbaaGreatDoorNGg
import Derived.Test.DevTool
namespace Go.Proofs.YthnojedlndblbaaGreatDoor
open Go Go.ChangeShapes Go.WideShapes Go.ChangeAt Go.WideMaps Go.WideElems Go.RowKit Go.ChangeMaps Go.Deep

theorem own : ownKnob Tryz.prog.godebug = none := by kernel_rfl
theorem laidOut : laidOutB Tryz.prog = true := by kernel_rfl
theorem spot_none {w : World} {ad : Addr} {v : Value} (h : w.cell? (ad.add 0) = some v) : ad.spot = none := by
  simpa [Addr.add] using World.cell?_spot h
theorem list4 {α : Type} : ∀ {l : List α}, l.length = 4 → ∃ a b c d, l = [a, b, c, d]
  | [a, b, c, d], _ => ⟨a, b, c, d, rfl⟩
theorem core_trod {H : Type} {enc : TypeId × Value → H} {W : World} : ∀ (fuel : Nat) (cs : List Value) (x : DataW H × List MemPlace), DataW.trod enc Tryz.prog W 0 (fun _ => true) true fuel 24 cs = some x →
    ∃ op k s v c, cs = [.int .i64 op, .int .i64 k, strV s, v] ∧ Nc W.heap.size W (cv op k s v) c := by
  intro fuel
  induction fuel using Nat.strongRecOn with
  | _ fuel ih =>
    intro cs x hf
    have hc4 : Tryz.prog.cellsOf 24 = 4 := by kernel_rfl
    have hci : Tryz.prog.cellsOf 3 = 1 := by kernel_rfl
    have hcl : Tryz.prog.cellsOf 2 = 1 := by kernel_rfl
    have hcs : Tryz.prog.cellsOf 9 = 1 := by kernel_rfl
    have hcn : Tryz.prog.cellsOf 22 = 1 := by kernel_rfl
    obtain ⟨ys, m, hm, hxy, hcl', hxl, hfd⟩ := DataW.trod_struct Tryz.underlying24 hf
    have hy4 : ys.length = 4 := hxl
    obtain ⟨y0, y1, y2, y3, rfl⟩ := list4 hy4
    rw [hc4] at hcl'
    obtain ⟨v0, v1, v2, v3, rfl⟩ := list4 hcl'
    have g0 := hfd 0 _ rfl
    have g1 := hfd 1 _ rfl
    have g2 := hfd 2 _ rfl
    have g3 := hfd 3 _ rfl
    simp [hci, hcl, hcs, hcn] at g0 g1 g2 g3
    obtain ⟨op, e0, _, w0⟩ := DataW.trod_int Tryz.underlying3 g0
    obtain ⟨k, e1, _, w1⟩ := DataW.trod_int Tryz.underlying2 g1
    obtain ⟨s, e2, _, w2⟩ := DataW.trod_string Tryz.underlying9 g2
    simp only [List.cons.injEq, and_true] at e0 e1 e2
    subst e0 e1 e2
    have hs : Value.string s = strV s.data.toList := by unfold strV; simp
    have hsl : s.data.toList.length ≤ 9223372036854775807 := by simpa [maxLen] using w2
    have hfit : Fits op k s.data.toList := ⟨bounds_i64 w0, bounds_i64 w1, hsl⟩
    rcases DataW.trod_slice Tryz.underlying22 g3 with ⟨e3, _⟩ | ⟨ad, len, cap, elems, rest, q, hq, e3, _, _, hlc, hcm, hel, hea, _, _⟩
    · simp only [List.cons.injEq, and_true] at e3
      subst e3
      refine ⟨op, k, s.data.toList, _, .mk op k s.data.toList [], by rw [hs], ?_⟩
      exact .mk op k s.data.toList [] none 0 (fun _ => .bool false) hfit ⟨Nat.le_refl _, by omega⟩ (fun i h => absurd h (by simp)) (fun i t h => by simp at h)
    · simp only [List.cons.injEq, and_true] at e3
      subst e3
      rw [hc4] at hea
      have each : ∀ i, i < len → ∃ z : Value × Co, (∃ op k s u, z.1 = cv op k s u ∧ W.cell? (ad.add (i * 4)) = some (.int .i64 op) ∧ W.cell? (ad.add (i * 4 + 1)) = some (.int .i64 k) ∧ W.cell? (ad.add (i * 4 + 2)) = some (strV s) ∧ W.cell? (ad.add (i * 4 + 3)) = some u) ∧ Nc W.heap.size W z.1 z.2 := by
        intro i hi
        have h1 := hea i hi
        rw [List.getElem?_eq_getElem (by omega)] at h1
        obtain ⟨cs2, h2, h3⟩ := Option.bind_eq_some_iff.1 h1
        obtain ⟨_, hlen2, hcell⟩ := World.cells?_some h2
        obtain ⟨op', k', s', v', c', rfl, hN⟩ := ih q (by omega) cs2 _ h3
        have c0 := hcell 0 (by omega)
        have c1 := hcell 1 (by omega)
        have c2 := hcell 2 (by omega)
        have c3 := hcell 3 (by omega)
        rw [add_add] at c0 c1 c2 c3
        exact ⟨(_, c'), ⟨op', k', s', v', rfl, by simpa using c0, by simpa using c1, by simpa using c2, by simpa using c3⟩, hN⟩
      haveI : Inhabited (Value × Co) := ⟨(.bool false, .mk 0 0 [] [])⟩
      obtain ⟨f, hq'⟩ := choose_lt each
      have hkl : ((List.range len).map fun i => (f i).2).length = len := by simp
      have hkg : ∀ i t, ((List.range len).map fun i => (f i).2)[i]? = some t → i < len ∧ (f i).2 = t := by
        intro i t h
        have hi : i < len := by have := (List.getElem?_eq_some_iff.1 h).1; simpa using this
        exact ⟨hi, by simpa [hi] using h⟩
      refine ⟨op, k, s.data.toList, _, .mk op k s.data.toList ((List.range len).map fun i => (f i).2), by rw [hs], ?_⟩
      have hN := Nc.mk (n := W.heap.size) (w := W) op k s.data.toList ((List.range len).map fun i => (f i).2) (some ad) cap (fun i => (f i).1) hfit ⟨by rw [hkl]; exact hlc, hcm⟩ (fun i hi => by
        rw [hkl] at hi
        obtain ⟨⟨op', k', s', u', e, c0, c1, c2, c3⟩, _⟩ := hq' i hi
        obtain ⟨⟨_, _, _, _, _, z0, _⟩, _⟩ := hq' 0 (by omega)
        rw [Nat.zero_mul] at z0
        obtain ⟨b, off, sp⟩ := ad
        obtain rfl : sp = none := spot_none z0
        rw [Addr.add_lit] at c0 c1 c2 c3
        refine ⟨b, off, rfl, World.block_lt_of_cell? W _ c0, op', k', s', u', e, c0, by rw [Nat.add_assoc]; exact c1, by rw [Nat.add_assoc]; exact c2, by rw [Nat.add_assoc]; exact c3⟩) (fun i t h => by
        obtain ⟨hi, rfl⟩ := hkg i t h
        exact (hq' i hi).2)
      rw [hkl] at hN
      exact hN
set_option maxRecDepth 100000 in
theorem core_arg {H : Type} {enc : TypeId × Value → H} {W : World} {base : Nat} {v : Value} {d : DataW H} {p : List MemPlace} (hv : Value.okWide Tryz.prog W .any base 24 v)
    (h0 : DataW.Trod enc Tryz.prog W 0 (fun _ => true) true 24 v d p) : ∃ c, Nc W.heap.size W v c := by
  obtain ⟨cs, hcv, _⟩ := okWide_struct Tryz.underlying24 hv
  subst hcv
  obtain ⟨fuel, hf⟩ := h0
  obtain ⟨op, k, s, u, c, hcs, h1⟩ := core_trod _ _ _ hf
  refine ⟨c, ?_⟩
  have e : cs = #[.int .i64 op, .int .i64 k, strV s, u] := by
    have h : cs.toList = [.int .i64 op, .int .i64 k, strV s, u] := by simpa [Value.cells] using hcs
    rw [← Array.toArray_toList (xs := cs), h]
  rw [e]
  exact h1
end Go.Proofs.YthnojedlndblbaaGreatDoor
namespace Go.Proofs.YthnojedlndblbaaGreatDoor
open Go Go.ChangeShapes Go.WideShapes Go.ChangeAt Go.WideMaps Go.WideElems Go.RowKit Go.ChangeMaps Go.Deep

def i64P (z : Int) : Prop := -9223372036854775808 ≤ z ∧ z ≤ 9223372036854775807
theorem list2 {α : Type} : ∀ {l : List α}, l.length = 2 → ∃ a b, l = [a, b]
  | [a, b], _ => ⟨a, b, rfl⟩
set_option maxRecDepth 100000 in
theorem stamp_trod {H : Type} {enc : TypeId × Value → H} {W : World} {fuel : Nat} {cs : List Value} {x : DataW H × List MemPlace} (hf : DataW.trod enc Tryz.prog W 0 (fun _ => true) true fuel 81 cs = some x) : ∃ d n, cs = [.int .i64 d, .int .i64 n] ∧ i64P d ∧ i64P n := by
  have hc2 : Tryz.prog.cellsOf 81 = 2 := by kernel_rfl
  have hci : Tryz.prog.cellsOf 3 = 1 := by kernel_rfl
  have hcl : Tryz.prog.cellsOf 2 = 1 := by kernel_rfl
  obtain ⟨ys, m, hm, hxy, hcl', hxl, hfd⟩ := DataW.trod_struct Tryz.underlying81 hf
  obtain ⟨y0, y1, rfl⟩ := list2 (show ys.length = 2 from hxl)
  rw [hc2] at hcl'
  obtain ⟨v0, v1, rfl⟩ := list2 hcl'
  have g0 := hfd 0 _ rfl
  have g1 := hfd 1 _ rfl
  simp [hci, hcl] at g0 g1
  obtain ⟨d, e0, _, w0⟩ := DataW.trod_int Tryz.underlying3 g0
  obtain ⟨n, e1, _, w1⟩ := DataW.trod_int Tryz.underlying2 g1
  simp only [List.cons.injEq, and_true] at e0 e1
  subst e0 e1
  exact ⟨d, n, rfl, bounds_i64 w0, bounds_i64 w1⟩
end Go.Proofs.YthnojedlndblbaaGreatDoor
namespace Go.Proofs.YthnojedlndblbaaGreatDoor
open Go Go.ChangeShapes Go.WideShapes Go.ChangeAt Go.WideMaps Go.WideElems Go.RowKit Go.ChangeMaps Go.Deep

/-- The rows' list of tables. -/
def laid1 : List (String × DataW Unit) := [("usance/date.monthDays", Rows.laid_usance_date_monthDays)]
theorem laid_met (os : Os) (args : Array Value) : laidMetH Tryz.prog laid1 ((World.doorLaid Tryz.prog 24 os).forCall (fun _ _ => 0) ⟨#[], args, []⟩).memory :=
  laidMetH_of_parts3 (fuel := 8) (laidMet_of_run' 8 (by kernel_rfl) (by kernel_rfl)) (by kernel_rfl) (by kernel_rfl)
def monthTab : List Int := [31, 28, 31, 30, 31, 30, 31, 31, 30, 31, 30, 31]
theorem month_datum : (Rows.laid_usance_date_monthDays : DataW Unit) = Lib.tabData .i64 monthTab := by kernel_rfl
theorem tab_of_laid {W : World} (h : laidMetH Tryz.prog laid1 W) : Tab W := by
  rw [MakeChecks.laidMetH_plain _ _ _ (by kernel_rfl)] at h
  unfold laid1 at h
  rw [month_datum] at h
  have ht := Lib.tabIs_of_head (g := 1) (t := 143) (e := 3) (n := 12) (by kernel_rfl) (by kernel_rfl) Tryz.underlying143 Tryz.underlying3 (by kernel_rfl) (by kernel_rfl) h
  intro k hk
  have hc := Lib.TabIs.cell ht (g := 1) (by kernel_rfl) k hk
  rw [hc]
  match k, hk with
  | 0, _ | 1, _ | 2, _ | 3, _ | 4, _ | 5, _ | 6, _ | 7, _ | 8, _ | 9, _ | 10, _ | 11, _ => rfl
theorem Tab.lt {w : World} (h : Tab w) : 1 < w.heap.size := World.block_lt_of_cell? w ⟨1, 0, none⟩ (h 0 (by omega))
set_option maxRecDepth 100000 in
theorem live_trod {H : Type} {enc : TypeId × Value → H} {W : World} {fuel : Nat} {cs : List Value} {x : DataW H × List MemPlace} (hf : DataW.trod enc Tryz.prog W 0 (fun _ => true) true fuel 70 cs = some x) : ∃ d n, cs = [.int .i64 d, .int .i64 n] ∧ i64P d ∧ i64P n := by
  have hc2 : Tryz.prog.cellsOf 70 = 2 := by kernel_rfl
  have hci : Tryz.prog.cellsOf 3 = 1 := by kernel_rfl
  have hcl : Tryz.prog.cellsOf 2 = 1 := by kernel_rfl
  obtain ⟨ys, m, hm, hxy, hcl', hxl, hfd⟩ := DataW.trod_struct Tryz.underlying70 hf
  obtain ⟨y0, y1, rfl⟩ := list2 (show ys.length = 2 from hxl)
  rw [hc2] at hcl'
  obtain ⟨v0, v1, rfl⟩ := list2 hcl'
  have g0 := hfd 0 _ rfl
  have g1 := hfd 1 _ rfl
  simp [hci, hcl] at g0 g1
  obtain ⟨d, e0, _, w0⟩ := DataW.trod_int Tryz.underlying3 g0
  obtain ⟨n, e1, _, w1⟩ := DataW.trod_int Tryz.underlying2 g1
  simp only [List.cons.injEq, and_true] at e0 e1
  subst e0 e1
  exact ⟨d, n, rfl, bounds_i64 w0, bounds_i64 w1⟩
set_option maxRecDepth 100000 in
theorem lives_trod {H : Type} {enc : TypeId × Value → H} {W : World} {fuel : Nat} {v : Value} {x : DataW H × List MemPlace} (hf : DataW.trod enc Tryz.prog W 0 (fun _ => true) true fuel 31 [v] = some x) : ∃ l, Sts W.heap.size W v l ∧ ∀ q ∈ l, i64P q.1 ∧ i64P q.2 := by
  have hc2 : Tryz.prog.cellsOf 70 = 2 := by kernel_rfl
  rcases DataW.trod_slice Tryz.underlying31 hf with ⟨e3, _⟩ | ⟨ad, len, cap, elems, rest, q, hq, e3, _, _, hlc, hcm, hel, hea, _, _⟩
  · simp only [List.cons.injEq, and_true] at e3
    subst e3
    exact ⟨[], ⟨none, 0, rfl, ⟨Nat.le_refl _, by omega⟩, by simp⟩, by simp⟩
  · simp only [List.cons.injEq, and_true] at e3
    subst e3
    rw [hc2] at hea
    have each : ∀ i, i < len → ∃ z : Int × Int, W.cell? (ad.add (i * 2)) = some (.int .i64 z.1) ∧ W.cell? (ad.add (i * 2 + 1)) = some (.int .i64 z.2) ∧ i64P z.1 ∧ i64P z.2 := by
      intro i hi
      have h1 := hea i hi
      rw [List.getElem?_eq_getElem (by omega)] at h1
      obtain ⟨cs2, h2, h3⟩ := Option.bind_eq_some_iff.1 h1
      obtain ⟨_, hlen2, hcell⟩ := World.cells?_some h2
      obtain ⟨d, n, rfl, b1, b2⟩ := live_trod h3
      have c0 := hcell 0 (by omega)
      have c1 := hcell 1 (by omega)
      rw [add_add] at c0 c1
      exact ⟨(d, n), by simpa using c0, by simpa using c1, b1, b2⟩
    obtain ⟨f, hq'⟩ := choose_lt each
    have hkl : ((List.range len).map f).length = len := by simp
    have hkg : ∀ i t, ((List.range len).map f)[i]? = some t → i < len ∧ f i = t := by
      intro i t h
      have hi : i < len := by have := (List.getElem?_eq_some_iff.1 h).1; simpa using this
      exact ⟨hi, by simpa [hi] using h⟩
    refine ⟨(List.range len).map f, ⟨some ad, cap, by rw [hkl], ⟨by rw [hkl]; exact hlc, hcm⟩, fun i t h => ?_⟩, fun t ht => ?_⟩
    · obtain ⟨hi, rfl⟩ := hkg i t h
      obtain ⟨c0, c1, _⟩ := hq' i hi
      obtain ⟨z0, _⟩ := hq' 0 (by omega)
      rw [Nat.zero_mul] at z0
      obtain ⟨b, off, sp⟩ := ad
      obtain rfl : sp = none := spot_none z0
      rw [Addr.add_lit] at c0 c1
      exact ⟨b, off, rfl, World.block_lt_of_cell? W _ c0, c0, by rw [Nat.add_assoc]; exact c1⟩
    · obtain ⟨i, hi, rfl⟩ := List.mem_map.1 ht
      exact (hq' i (List.mem_range.1 hi)).2.2
/-- Lives that are handed in. -/
theorem lives_arg {H : Type} {enc : TypeId × Value → H} {W : World} {v : Value} {d : DataW H} {p : List MemPlace} (h0 : DataW.Trod enc Tryz.prog W 0 (fun _ => true) true 31 v d p) (hv : v.cells.toList = [v]) : ∃ l, Sts W.heap.size W v l ∧ ∀ q ∈ l, i64P q.1 ∧ i64P q.2 := by
  obtain ⟨fuel, hf⟩ := h0
  rw [hv] at hf
  exact lives_trod hf
end Go.Proofs.YthnojedlndblbaaGreatDoor
namespace Go.Proofs.YthnojedlndblbaaGreatDoor
open Go Go.ChangeShapes Go.WideShapes Go.ChangeAt Go.WideMaps Go.WideElems Go.RowKit Go.ChangeMaps Go.Deep

set_option maxRecDepth 100000 in
theorem choice_trod {H : Type} {enc : TypeId × Value → H} {W : World} {fuel : Nat} {cs : List Value} {x : DataW H × List MemPlace} (hf : DataW.trod enc Tryz.prog W 0 (fun _ => true) true fuel 38 cs = some x) : ∃ lab k, cs = [strV lab, .int .i64 k] ∧ lab.length ≤ 9223372036854775807 ∧ i64P k := by
  have hc2 : Tryz.prog.cellsOf 38 = 2 := by kernel_rfl
  have hci : Tryz.prog.cellsOf 3 = 1 := by kernel_rfl
  have hcs : Tryz.prog.cellsOf 9 = 1 := by kernel_rfl
  obtain ⟨ys, m, hm, hxy, hcl', hxl, hfd⟩ := DataW.trod_struct Tryz.underlying38 hf
  obtain ⟨y0, y1, rfl⟩ := list2 (show ys.length = 2 from hxl)
  rw [hc2] at hcl'
  obtain ⟨v0, v1, rfl⟩ := list2 hcl'
  have g0 := hfd 0 _ rfl
  have g1 := hfd 1 _ rfl
  simp [hci, hcs] at g0 g1
  obtain ⟨s, e0, _, w0⟩ := DataW.trod_string Tryz.underlying9 g0
  obtain ⟨n, e1, _, w1⟩ := DataW.trod_int Tryz.underlying3 g1
  simp only [List.cons.injEq, and_true] at e0 e1
  subst e0 e1
  exact ⟨s.data.toList, n, by unfold strV; simp, by simpa [maxLen] using w0, bounds_i64 w1⟩
set_option maxRecDepth 100000 in
/-- A choice that is handed in. -/
theorem choice_arg {H : Type} {enc : TypeId × Value → H} {W : World} {base : Nat} {v : Value} {d : DataW H} {p : List MemPlace} (hv : Value.okWide Tryz.prog W .any base 38 v) (h0 : DataW.Trod enc Tryz.prog W 0 (fun _ => true) true 38 v d p) : ∃ lab k, v = chV lab k ∧ lab.length ≤ 9223372036854775807 ∧ i64P k := by
  obtain ⟨cs, hcv, _⟩ := okWide_struct Tryz.underlying38 hv
  subst hcv
  obtain ⟨fuel, hf⟩ := h0
  obtain ⟨lab, k, hcs, h1, h2⟩ := choice_trod hf
  refine ⟨lab, k, ?_, h1, h2⟩
  have e : cs = #[strV lab, .int .i64 k] := by
    have h : cs.toList = [strV lab, .int .i64 k] := by simpa [Value.cells] using hcs
    rw [← Array.toArray_toList (xs := cs), h]
  rw [e]
  rfl
end Go.Proofs.YthnojedlndblbaaGreatDoor
namespace Go.Proofs.YthnojedlndblbaaGreatDoor
open Go Go.ChangeShapes Go.WideShapes Go.ChangeAt Go.WideMaps Go.WideElems Go.RowKit Go.ChangeMaps Go.Deep

theorem wts_all {H : Type} {P : Program} {e : TypeId} {n : Nat} : ∀ {L : List (DataW H)} {d : DataW H}, d ∈ L → n ∈ d.weights P e → n ∈ DataW.weightsAll P e L
  | x :: r, d, hd, hn => by
    rw [DataW.weightsAll]
    rcases List.mem_cons.1 hd with rfl | hd
    · exact List.mem_append_left _ hn
    · exact List.mem_append_right _ (wts_all hd hn)
set_option maxRecDepth 100000 in
theorem stamps_trod2 {H : Type} {enc : TypeId × Value → H} {W : World} {fuel : Nat} {v : Value} {x : DataW H × List MemPlace} (hf : DataW.trod enc Tryz.prog W 0 (fun _ => true) true fuel 77 [v] = some x) (hw : ∀ n ∈ x.1.weights Tryz.prog 77, n ≤ reachBytes) : ∃ l, Sts W.heap.size W v l ∧ l.length * 16 ≤ 140737488351232 := by
  have hc2 : Tryz.prog.cellsOf 81 = 2 := by kernel_chk
  rcases DataW.trod_slice Tryz.underlying77 hf with ⟨e3, _⟩ | ⟨ad, len, cap, elems, rest, q, hq, e3, hx, _, hlc, hcm, hel, hea, _, _⟩
  · simp only [List.cons.injEq, and_true] at e3
    subst e3
    exact ⟨[], ⟨none, 0, rfl, ⟨Nat.le_refl _, by omega⟩, by simp⟩, by simp⟩
  · simp only [List.cons.injEq, and_true] at e3
    subst e3
    rw [hc2] at hea
    have each : ∀ i, i < len → ∃ z : Int × Int, W.cell? (ad.add (i * 2)) = some (.int .i64 z.1) ∧ W.cell? (ad.add (i * 2 + 1)) = some (.int .i64 z.2) ∧ i64P z.1 ∧ i64P z.2 := by
      intro i hi
      have h1 := hea i hi
      rw [List.getElem?_eq_getElem (by omega)] at h1
      obtain ⟨cs2, h2, h3⟩ := Option.bind_eq_some_iff.1 h1
      obtain ⟨_, hlen2, hcell⟩ := World.cells?_some h2
      obtain ⟨d, n, rfl, b1, b2⟩ := stamp_trod h3
      have c0 := hcell 0 (by omega)
      have c1 := hcell 1 (by omega)
      rw [add_add] at c0 c1
      exact ⟨(d, n), by simpa using c0, by simpa using c1, b1, b2⟩
    obtain ⟨f, hq'⟩ := choose_lt each
    have hkl : ((List.range len).map f).length = len := by simp
    have hkg : ∀ i t, ((List.range len).map f)[i]? = some t → i < len ∧ f i = t := by
      intro i t h
      have hi : i < len := by have := (List.getElem?_eq_some_iff.1 h).1; simpa using this
      exact ⟨hi, by simpa [hi] using h⟩
    have hb16 : Tryz.prog.bytesOf 81 = 16 := by kernel_chk
    have hw1 := hw ((elems.length + rest.length) * 16) (by rw [hx]; simp [DataW.weights, Tryz.underlying77, hb16])
    have hrb : reachBytes = 140737488351232 := rfl
    refine ⟨(List.range len).map f, ⟨some ad, cap, by rw [hkl], ⟨by rw [hkl]; exact hlc, hcm⟩, fun i t h => ?_⟩, ?_⟩
    · obtain ⟨hi, rfl⟩ := hkg i t h
      obtain ⟨c0, c1, _⟩ := hq' i hi
      obtain ⟨z0, _⟩ := hq' 0 (by omega)
      rw [Nat.zero_mul] at z0
      obtain ⟨b, off, sp⟩ := ad
      obtain rfl : sp = none := spot_none z0
      rw [Addr.add_lit] at c0 c1
      exact ⟨b, off, rfl, World.block_lt_of_cell? W _ c0, c0, by rw [Nat.add_assoc]; exact c1⟩
    · rw [hkl]; omega

set_option maxRecDepth 100000 in
theorem feed_trod2 {H : Type} {enc : TypeId × Value → H} {W : World} {fuel : Nat} {cs : List Value} {x : DataW H × List MemPlace} (hf : DataW.trod enc Tryz.prog W 0 (fun _ => true) true fuel 79 cs = some x) (hw : ∀ n ∈ x.1.weights Tryz.prog 79, n ≤ reachBytes) : ∃ nm u l, cs = [strV nm, u] ∧ nm.length ≤ 9223372036854775807 ∧ Sts W.heap.size W u l ∧ l.length * 16 ≤ 140737488351232 := by
  have hc2 : Tryz.prog.cellsOf 79 = 2 := by kernel_chk
  have hcs : Tryz.prog.cellsOf 9 = 1 := by kernel_chk
  have hcn : Tryz.prog.cellsOf 77 = 1 := by kernel_chk
  obtain ⟨ys, m, hm, hxy, hcl', hxl, hfd⟩ := DataW.trod_struct Tryz.underlying79 hf
  obtain ⟨y0, y1, rfl⟩ := list2 (show ys.length = 2 from hxl)
  rw [hc2] at hcl'
  obtain ⟨v0, v1, rfl⟩ := list2 hcl'
  have g0 := hfd 0 _ rfl
  have g1 := hfd 1 _ rfl
  simp [hcs, hcn] at g0 g1
  obtain ⟨s, e0, _, w0⟩ := DataW.trod_string Tryz.underlying9 g0
  simp only [List.cons.injEq, and_true] at e0
  subst e0
  have hDi : x.1 = .agg [y0.1, y1.1] := by simpa using congrArg (·.1) hxy
  obtain ⟨l, h1, h2⟩ := stamps_trod2 g1 (fun n hn => hw n (by
    rw [hDi, DataW.weights, Tryz.underlying79]
    exact DataW.weights_mem_each (j := 1) (t := 77) rfl rfl n hn))
  exact ⟨s.data.toList, v1, l, by unfold strV; simp, by simpa [maxLen] using w0, h1, h2⟩
set_option maxRecDepth 100000 in
theorem feeds_arg2 {H : Type} {enc : TypeId × Value → H} {W : World} {v : Value} {d : DataW H} {p : List MemPlace} (h0 : DataW.Trod enc Tryz.prog W 0 (fun _ => true) true 25 v d p) (hv : v.cells.toList = [v]) (hw : ∀ n ∈ d.weights Tryz.prog 25, n ≤ reachBytes) : ∃ fs, Fds W.heap.size W v fs ∧ (∀ f ∈ fs, f.1.length ≤ 9223372036854775807 ∧ f.2.length * 16 ≤ 140737488351232) ∧ fs.length * 40 ≤ 140737488351232 := by
  obtain ⟨fuel, hf⟩ := h0
  rw [hv] at hf
  have hc2 : Tryz.prog.cellsOf 79 = 2 := by kernel_chk
  rcases DataW.trod_slice Tryz.underlying25 hf with ⟨e3, _⟩ | ⟨ad, len, cap, elems, rest, q, hq, e3, hx, _, hlc, hcm, hel, hea, _, _⟩
  · simp only [List.cons.injEq, and_true] at e3
    subst e3
    exact ⟨[], ⟨none, 0, rfl, ⟨Nat.le_refl _, by omega⟩, by simp⟩, by simp, by simp⟩
  · simp only [List.cons.injEq, and_true] at e3
    subst e3
    rw [hc2] at hea
    have hb40 : Tryz.prog.bytesOf 79 = 40 := by kernel_chk
    have hd : d = .slice (elems.map (·.1)) (rest.map (·.1)) := congrArg (fun y : DataW H × List MemPlace => y.1) hx
    have hw1 := hw ((elems.length + rest.length) * 40) (by rw [hd]; simp [DataW.weights, Tryz.underlying25, hb40])
    have hrb : reachBytes = 140737488351232 := rfl
    have each : ∀ i, i < len → ∃ z : List UInt8 × List (Int × Int), W.cell? (ad.add (i * 2)) = some (strV z.1) ∧ (∃ u, W.cell? (ad.add (i * 2 + 1)) = some u ∧ Sts W.heap.size W u z.2) ∧ z.1.length ≤ 9223372036854775807 ∧ z.2.length * 16 ≤ 140737488351232 := by
      intro i hi
      have h1 := hea i hi
      rw [List.getElem?_eq_getElem (by omega)] at h1
      obtain ⟨cs2, h2, h3⟩ := Option.bind_eq_some_iff.1 h1
      obtain ⟨_, hlen2, hcell⟩ := World.cells?_some h2
      obtain ⟨nm, u, l, rfl, b1, b2, b3⟩ := feed_trod2 h3 (fun n hn => hw n (by rw [hd, DataW.weights, Tryz.underlying25]; exact List.mem_cons_of_mem _ (List.mem_append_left _ (wts_all (List.mem_map.2 ⟨_, List.getElem_mem (by omega), rfl⟩) hn))))
      have c0 := hcell 0 (by omega)
      have c1 := hcell 1 (by omega)
      rw [add_add] at c0 c1
      exact ⟨(nm, l), by simpa using c0, ⟨u, by simpa using c1, b2⟩, b1, b3⟩
    obtain ⟨f, hq'⟩ := choose_lt each
    have hkl : ((List.range len).map f).length = len := by simp
    have hkg : ∀ i t, ((List.range len).map f)[i]? = some t → i < len ∧ f i = t := by
      intro i t h
      have hi : i < len := by have := (List.getElem?_eq_some_iff.1 h).1; simpa using this
      exact ⟨hi, by simpa [hi] using h⟩
    refine ⟨(List.range len).map f, ⟨some ad, cap, by rw [hkl], ⟨by rw [hkl]; exact hlc, hcm⟩, fun i t h => ?_⟩, fun t ht => ?_, by rw [hkl]; omega⟩
    · obtain ⟨hi, rfl⟩ := hkg i t h
      obtain ⟨c0, ⟨u, c1, hu⟩, _⟩ := hq' i hi
      obtain ⟨z0, _⟩ := hq' 0 (by omega)
      rw [Nat.zero_mul] at z0
      obtain ⟨b, off, sp⟩ := ad
      obtain rfl : sp = none := spot_none z0
      rw [Addr.add_lit] at c0 c1
      exact ⟨b, off, u, rfl, World.block_lt_of_cell? W _ c0, c0, by rw [Nat.add_assoc]; exact c1, hu⟩
    · obtain ⟨i, hi, rfl⟩ := List.mem_map.1 ht
      exact (hq' i (List.mem_range.1 hi)).2.2
end Go.Proofs.YthnojedlndblbaaGreatDoor
