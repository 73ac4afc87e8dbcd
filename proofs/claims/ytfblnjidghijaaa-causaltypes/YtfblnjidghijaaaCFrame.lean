/- What the rows' conditions give the walks of layer 14: a core term that is handed in. -/
import Derived.Test.YtfblnjidghijaaaRows
import Derived.Test.YtfblnjidghijaaaCTree
import Derived.ProofKit
import Derived.LaidMore
import Derived.OpenShut
import Derived.ShutString
import Derived.ChangeMaps5
import Derived.Stop.Joined
import Derived.Stop.LaidErr
import Derived.Lib.LaidTab
import Derived.Deep.DeepHandedRow
import Derived.Deep.Slices
import Derived.Deep.Matrix
namespace Go.Proofs.Ytfblnjidghijaaa
open Go Go.ChangeShapes Go.WideShapes Go.ChangeAt Go.WideMaps Go.WideElems Go.RowKit Go.ChangeMaps Go.Deep

theorem own : ownKnob Try.prog.godebug = none := by kernel_rfl
theorem laidOut : laidOutB Try.prog = true := by kernel_rfl
theorem laid_none (w : World) : laidMetH Try.prog [] w := by
  show laidMet Try.prog [] w
  exact ⟨[], rfl, List.nodup_nil, fun b off h => by cases h⟩
theorem spot_none {w : World} {ad : Addr} {v : Value} (h : w.cell? (ad.add 0) = some v) : ad.spot = none := by
  simpa [Addr.add] using World.cell?_spot h
theorem list4 {α : Type} : ∀ {l : List α}, l.length = 4 → ∃ a b c d, l = [a, b, c, d]
  | [a, b, c, d], _ => ⟨a, b, c, d, rfl⟩
theorem core_trod {H : Type} {enc : TypeId × Value → H} {W : World} : ∀ (fuel : Nat) (cs : List Value) (x : DataW H × List MemPlace), DataW.trod enc Try.prog W 0 (fun _ => true) true fuel 24 cs = some x →
    ∃ op k s v c, cs = [.int .i64 op, .int .i64 k, strV s, v] ∧ Nc W.heap.size W (cv op k s v) c := by
  intro fuel
  induction fuel using Nat.strongRecOn with
  | _ fuel ih =>
    intro cs x hf
    have hc4 : Try.prog.cellsOf 24 = 4 := by kernel_rfl
    have hci : Try.prog.cellsOf 3 = 1 := by kernel_rfl
    have hcl : Try.prog.cellsOf 2 = 1 := by kernel_rfl
    have hcs : Try.prog.cellsOf 9 = 1 := by kernel_rfl
    have hcn : Try.prog.cellsOf 22 = 1 := by kernel_rfl
    obtain ⟨ys, m, hm, hxy, hcl', hxl, hfd⟩ := DataW.trod_struct Try.underlying24 hf
    have hy4 : ys.length = 4 := hxl
    obtain ⟨y0, y1, y2, y3, rfl⟩ := list4 hy4
    rw [hc4] at hcl'
    obtain ⟨v0, v1, v2, v3, rfl⟩ := list4 hcl'
    have g0 := hfd 0 _ rfl
    have g1 := hfd 1 _ rfl
    have g2 := hfd 2 _ rfl
    have g3 := hfd 3 _ rfl
    simp [hci, hcl, hcs, hcn] at g0 g1 g2 g3
    obtain ⟨op, e0, _, w0⟩ := DataW.trod_int Try.underlying3 g0
    obtain ⟨k, e1, _, w1⟩ := DataW.trod_int Try.underlying2 g1
    obtain ⟨s, e2, _, w2⟩ := DataW.trod_string Try.underlying9 g2
    simp only [List.cons.injEq, and_true] at e0 e1 e2
    subst e0 e1 e2
    have hs : Value.string s = strV s.data.toList := by unfold strV; simp
    have hsl : s.data.toList.length ≤ 9223372036854775807 := by simpa [maxLen] using w2
    have hfit : Fits op k s.data.toList := ⟨bounds_i64 w0, bounds_i64 w1, hsl⟩
    rcases DataW.trod_slice Try.underlying22 g3 with ⟨e3, _⟩ | ⟨ad, len, cap, elems, rest, q, hq, e3, _, _, hlc, hcm, hel, hea, _, _⟩
    · simp only [List.cons.injEq, and_true] at e3
      subst e3
      refine ⟨op, k, s.data.toList, _, .mk op k s.data.toList [], by rw [hs], ?_⟩
      exact .mk op k s.data.toList [] none 0 (fun _ => .bool false) hfit ⟨Nat.le_refl _, by omega⟩ (fun i h => absurd h (by simp)) (fun i t h => by simp at h)
    · simp only [List.cons.injEq, and_true] at e3
      subst e3
      rw [hc4] at hea
      have each : ∀ i, i < len → ∃ z : Value × Co, (∃ op k s u, z.1 = cv op k s u ∧ W.cell? (ad.add (i * 4)) = some (.int .i64 op) ∧ W.cell? (ad.add (i * 4 + 1)) = some (.int .i64 k) ∧ W.cell? (ad.add (i * 4 + 2)) = some (strV s) ∧ W.cell? (ad.add (i * 4 + 3)) = some u) ∧ Nc W.heap.size W z.1 z.2 := by
        intro i hi
        have h1 := hea i hi
        rw [List.getElem?_eq_getElem (by omega)] at h1
        obtain ⟨cs2, h2, h3⟩ := Option.bind_eq_some_iff.1 h1
        obtain ⟨_, hlen2, hcell⟩ := World.cells?_some h2
        obtain ⟨op', k', s', v', c', rfl, hN⟩ := ih q (by omega) cs2 _ h3
        have c0 := hcell 0 (by omega)
        have c1 := hcell 1 (by omega)
        have c2 := hcell 2 (by omega)
        have c3 := hcell 3 (by omega)
        rw [add_add] at c0 c1 c2 c3
        exact ⟨(_, c'), ⟨op', k', s', v', rfl, by simpa using c0, by simpa using c1, by simpa using c2, by simpa using c3⟩, hN⟩
      haveI : Inhabited (Value × Co) := ⟨(.bool false, .mk 0 0 [] [])⟩
      obtain ⟨f, hq'⟩ := choose_lt each
      have hkl : ((List.range len).map fun i => (f i).2).length = len := by simp
      have hkg : ∀ i t, ((List.range len).map fun i => (f i).2)[i]? = some t → i < len ∧ (f i).2 = t := by
        intro i t h
        have hi : i < len := by have := (List.getElem?_eq_some_iff.1 h).1; simpa using this
        exact ⟨hi, by simpa [hi] using h⟩
      refine ⟨op, k, s.data.toList, _, .mk op k s.data.toList ((List.range len).map fun i => (f i).2), by rw [hs], ?_⟩
      have hN := Nc.mk (n := W.heap.size) (w := W) op k s.data.toList ((List.range len).map fun i => (f i).2) (some ad) cap (fun i => (f i).1) hfit ⟨by rw [hkl]; exact hlc, hcm⟩ (fun i hi => by
        rw [hkl] at hi
        obtain ⟨⟨op', k', s', u', e, c0, c1, c2, c3⟩, _⟩ := hq' i hi
        obtain ⟨⟨_, _, _, _, _, z0, _⟩, _⟩ := hq' 0 (by omega)
        rw [Nat.zero_mul] at z0
        obtain ⟨b, off, sp⟩ := ad
        obtain rfl : sp = none := spot_none z0
        rw [Addr.add_lit] at c0 c1 c2 c3
        refine ⟨b, off, rfl, World.block_lt_of_cell? W _ c0, op', k', s', u', e, c0, by rw [Nat.add_assoc]; exact c1, by rw [Nat.add_assoc]; exact c2, by rw [Nat.add_assoc]; exact c3⟩) (fun i t h => by
        obtain ⟨hi, rfl⟩ := hkg i t h
        exact (hq' i hi).2)
      rw [hkl] at hN
      exact hN
theorem core_arg {H : Type} {enc : TypeId × Value → H} {W : World} {base : Nat} {v : Value} {d : DataW H} {p : List MemPlace} (hv : Value.okWide Try.prog W .any base 24 v)
    (h0 : DataW.Trod enc Try.prog W 0 (fun _ => true) true 24 v d p) : ∃ c, Nc W.heap.size W v c := by
  obtain ⟨cs, hcv, _⟩ := okWide_struct Try.underlying24 hv
  subst hcv
  obtain ⟨fuel, hf⟩ := h0
  obtain ⟨op, k, s, u, c, hcs, h1⟩ := core_trod _ _ _ hf
  refine ⟨c, ?_⟩
  have e : cs = #[.int .i64 op, .int .i64 k, strV s, u] := by
    have h : cs.toList = [.int .i64 op, .int .i64 k, strV s, u] := by simpa [Value.cells] using hcs
    rw [← Array.toArray_toList (xs := cs), h]
  rw [e]
  exact h1
end Go.Proofs.Ytfblnjidghijaaa
