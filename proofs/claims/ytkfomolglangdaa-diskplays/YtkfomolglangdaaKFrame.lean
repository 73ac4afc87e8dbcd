/- What the rows' conditions give the walks of layer 4. -/
import Derived.Test.YtkfomolglangdaaRows
import Derived.Test.YtkfomolglangdaaKPlays
import Derived.ProofKit
import Derived.LaidMore
import Derived.OpenShut
import Derived.ShutString
import Derived.ChangeMaps5
import Derived.Stop.Joined
import Derived.Stop.LaidErr
import Derived.Lib.LaidTab
import Derived.Deep.DeepHandedRow
import Derived.Deep.Slices
namespace Go.Proofs.Ytkfomolglangdaa
open Go Go.ChangeShapes Go.WideShapes Go.ChangeAt Go.WideMaps Go.WideElems Go.RowKit Go.ChangeMaps Go.Deep

theorem own : ownKnob Try.prog.godebug = none := by kernel_rfl
theorem laidOut : laidOutB Try.prog = true := by kernel_rfl

theorem wf_i64 {x : Int} (h : (Lit.int .i64 x).wf = true) : i64 x := by
  have := bounds_i64 h
  exact ⟨this.1, this.2⟩

theorem spot_none {w : World} {ad : Addr} {v : Value} (h : w.cell? (ad.add 0) = some v) : ad.spot = none := by
  simpa [Addr.add] using World.cell?_spot h
theorem list5 {α : Type} : ∀ {l : List α}, l.length = 5 → ∃ a b c d e, l = [a, b, c, d, e]
  | [a, b, c, d, e], _ => ⟨a, b, c, d, e, rfl⟩

theorem ints_trod {H : Type} {enc : TypeId × Value → H} {W : World} {cs : List Value} {x : DataW H × List MemPlace} {fuel : Nat}
    (hf : DataW.trod enc Try.prog W 0 (fun _ => true) true fuel 36 cs = some x) :
    ∃ a len cap zs, cs = [.slice a len cap] ∧ Ints W.heap.size W a len zs ∧ (∀ z ∈ zs, i64 z) ∧ len ≤ 9223372036854775807 ∧ (x.1 = .nil ∧ len = 0 ∨ ∃ elems spare, x.1 = .slice elems spare ∧ elems.length = len) := by
  rcases open_ints Try.underlying36 Try.underlying3 (by kernel_rfl) hf with ⟨hcs, hx⟩ | ⟨ad, len, cap, zs, hcs, _, hl, hm, hz, hx, hcell, hwz⟩
  · exact ⟨none, 0, 0, [], hcs, ⟨rfl, fun h => absurd rfl h⟩, by simp, by omega, .inl ⟨by rw [hx], rfl⟩⟩
  · simp only [if_true] at hz
    have hm' : cap ≤ 9223372036854775807 := hm
    refine ⟨some ad, len, cap, zs.take len, hcs, ⟨by simp; omega, fun h0 => ?_⟩, fun z hz => wf_i64 (hwz z (List.mem_of_mem_take hz)), by omega, .inr ⟨_, _, by rw [hx], by simp [lits]; omega⟩⟩
    obtain ⟨b, off, sp⟩ := ad
    obtain rfl : sp = none := spot_none (hcell 0 (by omega))
    have hb := World.block_lt_of_cell? W _ (hcell 0 (by omega))
    rw [Addr.add_lit] at hb
    refine ⟨b, off, rfl, hb, fun j hj => ?_⟩
    have hj' : j < len := by simp at hj; omega
    have := hcell j (by omega)
    rw [Addr.add_lit] at this
    rw [this]
    simp [List.getD, hj']
theorem bytes_trod {H : Type} {enc : TypeId × Value → H} {W : World} {cs : List Value} {x : DataW H × List MemPlace} {fuel : Nat}
    (hf : DataW.trod enc Try.prog W 0 (fun _ => true) true fuel 35 cs = some x) :
    ∃ a len cap l, cs = [.slice a len cap] ∧ Sl W (.slice a len cap) l ∧ l.length = len := by
  rcases open_ints Try.underlying35 Try.underlying5 (by kernel_rfl) hf with ⟨hcs, hx⟩ | ⟨ad, len, cap, zs, hcs, _, hl, hm, hz, hx, hcell, hwz⟩
  · exact ⟨none, 0, 0, [], hcs, Sl.nil W, rfl⟩
  · simp only [if_true] at hz
    have hll : ((zs.take len).map fun z => UInt8.ofNat z.toNat).length = len := by simp; omega
    refine ⟨some ad, len, cap, (zs.take len).map fun z => UInt8.ofNat z.toNat, hcs, ?_, hll⟩
    refine ⟨some ad, cap, by rw [hll], by rw [hll]; exact hl, fun h => (by cases h), fun hne => ?_⟩
    have hpos : 0 < len := by
      rcases Nat.eq_zero_or_pos len with h | h
      · exfalso; apply hne; apply List.eq_nil_of_length_eq_zero; rw [hll]; exact h
      · exact h
    obtain ⟨b, off, sp⟩ := ad
    obtain rfl : sp = none := spot_none (hcell 0 (by omega))
    refine ⟨b, off, rfl, fun k hk => ?_⟩
    rw [hll] at hk
    have h1 := hcell k (by omega)
    rw [Addr.add_lit] at h1
    rw [h1]
    have hw := bounds_u8 (hwz (zs.getD k 0) (by rw [List.getD, List.getElem?_eq_getElem (by omega)]; exact List.getElem_mem _))
    simp only [at8, List.getD, List.getElem?_map, List.getElem?_take, if_pos hk]
    rw [List.getD] at hw
    rw [List.getElem?_eq_getElem (show k < zs.length by omega)] at hw ⊢
    simp only [Option.map_some, Option.getD_some] at hw ⊢
    rw [u8_ofNat (by omega)]
    congr 2; omega

/-- What more is so of a script's call. -/
def OpF (w : World) (x : OpV) : Prop := (∃ l, Sl w (.slice x.ba x.bl x.bc) l ∧ l.length = x.bl) ∧ ∃ zs, Ints w.heap.size w x.sa x.sl zs ∧ ∀ z ∈ zs, i64 z

theorem ops_trod {H : Type} {enc : TypeId × Value → H} {W : World} {cs : List Value} {x : DataW H × List MemPlace} {fuel : Nat}
    (hf : DataW.trod enc Try.prog W 0 (fun _ => true) true fuel 22 cs = some x) :
    ∃ a len cap xs, cs = [.slice a len cap] ∧ Ops W a len xs ∧ (∀ x ∈ xs, OpF W x) ∧ len ≤ 9223372036854775807 := by
  rcases open_slice Try.underlying22 hf with ⟨hcs, hx⟩ | ⟨ad, len, cap, m, n, D, Pl, hcs, _, hl, hm, hmm, hx, hel⟩
  · exact ⟨none, 0, 0, [], hcs, ⟨rfl, fun j x hj => by simp at hj⟩, by simp, by omega⟩
  · simp only [if_true] at hmm
    have hm' : cap ≤ 9223372036854775807 := hm
    have hc5 : Try.prog.cellsOf 38 = 5 := by kernel_rfl
    have hci : Try.prog.cellsOf 3 = 1 := by kernel_rfl
    have hcb : Try.prog.cellsOf 35 = 1 := by kernel_rfl
    have hcs' : Try.prog.cellsOf 36 = 1 := by kernel_rfl
    have each : ∀ i, i < len → ∃ v : OpV, i64 v.kind ∧ i64 v.at_ ∧ i64 v.nn ∧ OpF W v ∧
        W.cell? (ad.add (i * 5)) = some (.int .i64 v.kind) ∧ W.cell? (ad.add (i * 5 + 1)) = some (.int .i64 v.at_) ∧ W.cell? (ad.add (i * 5 + 2)) = some (.int .i64 v.nn) ∧
        W.cell? (ad.add (i * 5 + 3)) = some (.slice v.ba v.bl v.bc) ∧ W.cell? (ad.add (i * 5 + 4)) = some (.slice v.sa v.sl v.sc) := by
      intro i hi
      obtain ⟨cs2, h1, h2⟩ := hel i (by omega)
      rw [hc5] at h1
      obtain ⟨_, hlen2, hcell⟩ := World.cells?_some h1
      obtain ⟨ys, k, hk, hxy, _, hxl, hfd⟩ := DataW.trod_struct Try.underlying38 h2
      have hy5 : ys.length = 5 := hxl
      obtain ⟨y0, y1, y2, y3, y4, rfl⟩ := list5 hy5
      obtain ⟨v0, v1, v2, v3, v4, rfl⟩ := list5 hlen2
      · have g0 := hfd 0 _ rfl
        have g1 := hfd 1 _ rfl
        have g2 := hfd 2 _ rfl
        have g3 := hfd 3 _ rfl
        have g4 := hfd 4 _ rfl
        simp [hci, hcb, hcs'] at g0 g1 g2 g3 g4
        obtain ⟨n0, e0, _, w0⟩ := DataW.trod_int Try.underlying3 g0
        obtain ⟨n1, e1, _, w1⟩ := DataW.trod_int Try.underlying3 g1
        obtain ⟨n2, e2, _, w2⟩ := DataW.trod_int Try.underlying3 g2
        obtain ⟨ba, bl, bc, l, e3, hsl, hll⟩ := bytes_trod g3
        obtain ⟨sa, sl, sc, zs, e4, hI, hz, _⟩ := ints_trod g4
        simp only [List.cons.injEq, and_true] at e0 e1 e2 e3 e4
        subst e0 e1 e2 e3 e4
        have c0 := hcell 0 (by omega)
        have c1 := hcell 1 (by omega)
        have c2 := hcell 2 (by omega)
        have c3 := hcell 3 (by omega)
        have c4 := hcell 4 (by omega)
        rw [add_add] at c0 c1 c2 c3 c4
        exact ⟨⟨n0, n1, n2, ba, bl, bc, sa, sl, sc⟩, wf_i64 w0, wf_i64 w1, wf_i64 w2, ⟨⟨l, hsl, hll⟩, zs, hI, hz⟩, by simpa using c0, by simpa using c1, by simpa using c2, by simpa using c3, by simpa using c4⟩
    haveI : Inhabited OpV := ⟨⟨0, 0, 0, none, 0, 0, none, 0, 0⟩⟩
    obtain ⟨q, hq⟩ := choose_lt each
    refine ⟨some ad, len, cap, (List.range len).map q, hcs, ⟨by simp, fun j x hj => ?_⟩, fun x hxm => ?_, by omega⟩
    · have hj' : j < len := by have := (List.getElem?_eq_some_iff.1 hj).1; simpa using this
      obtain rfl : q j = x := by simpa [hj'] using hj
      obtain ⟨h1, h2, h3, _, c0, c1, c2, c3, c4⟩ := hq j hj'
      have hz0 := (hq 0 (by omega)).2.2.2.2.1
      rw [Nat.zero_mul] at hz0
      obtain ⟨b, off, sp⟩ := ad
      obtain rfl : sp = none := spot_none hz0
      rw [Addr.add_lit] at c0 c1 c2 c3 c4
      exact ⟨h1, h2, h3, b, off, rfl, c0, c1, c2, c3, c4⟩
    · obtain ⟨j, hj, rfl⟩ := List.mem_map.1 hxm
      exact (hq j (by simpa using hj)).2.2.2.1

theorem laid_none (w : World) : laidMetH Try.prog [] w := by
  show laidMet Try.prog [] w
  exact ⟨[], rfl, List.nodup_nil, fun b off h => by cases h⟩
theorem ints_arg {H : Type} {enc : TypeId × Value → H} {W : World} {a : Option Addr} {len cap : Nat} {d : DataW H} {p : List MemPlace}
    (h0 : DataW.Trod enc Try.prog W 0 (fun _ => true) true 36 (.slice a len cap) d p) :
    ∃ zs : List Int, Ints W.heap.size W a len zs ∧ (∀ z ∈ zs, i64 z) ∧ len ≤ 9223372036854775807 ∧ (d = .nil ∧ len = 0 ∨ ∃ elems spare, d = .slice elems spare ∧ elems.length = len) := by
  obtain ⟨fuel, hf⟩ := h0
  obtain ⟨a', len', cap', zs, hcs, h1, h2, h3, h4⟩ := ints_trod hf
  simp [Value.cells] at hcs
  obtain ⟨rfl, rfl, rfl⟩ := hcs
  exact ⟨zs, h1, h2, h3, h4⟩
theorem ops_arg {H : Type} {enc : TypeId × Value → H} {W : World} {a : Option Addr} {len cap : Nat} {d : DataW H} {p : List MemPlace}
    (h0 : DataW.Trod enc Try.prog W 0 (fun _ => true) true 22 (.slice a len cap) d p) :
    ∃ xs : List OpV, Ops W a len xs ∧ (∀ x ∈ xs, OpF W x) ∧ len ≤ 9223372036854775807 := by
  obtain ⟨fuel, hf⟩ := h0
  obtain ⟨a', len', cap', xs, hcs, h1, h2, h3⟩ := ops_trod hf
  simp [Value.cells] at hcs
  obtain ⟨rfl, rfl, rfl⟩ := hcs
  exact ⟨xs, h1, h2, h3⟩
theorem ints_sized {H : Type} {ts : List TypeId} {ds : List (DataW H)} (h : (DataW.weightsEach Try.prog ts ds).all (· ≤ reachBytes) = true) {j len : Nat} {d : DataW H} (ht : ts[j]? = some 36) (hd : ds[j]? = some d)
    (hx : d = .nil ∧ len = 0 ∨ ∃ elems spare, d = .slice elems spare ∧ elems.length = len) : len * 8 ≤ 140737488351232 := by
  rcases hx with ⟨_, rfl⟩ | ⟨elems, spare, rfl, hl⟩
  · omega
  · have hs := sized_slice h ht hd Try.underlying36
    have hb : Try.prog.bytesOf 3 = 8 := by kernel_rfl
    rw [hb] at hs
    have : reachBytes = 140737488351232 := rfl
    omega
end Go.Proofs.Ytkfomolglangdaa
