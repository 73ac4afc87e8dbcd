/- A script that is handed in: how long its calls' own slices are. -/
import Derived.Test.YtkfomolglangdaaKFrame
namespace Go.Proofs.Ytkfomolglangdaa
open Go Go.ChangeShapes Go.WideShapes Go.ChangeAt Go.WideMaps Go.WideElems Go.RowKit Go.ChangeMaps Go.Deep

theorem mem_weightsAll {H : Type} {P : Program} {e : TypeId} {n : Nat} : ∀ {L : List (DataW H)} {d : DataW H}, d ∈ L → n ∈ d.weights P e → n ∈ DataW.weightsAll P e L
  | x :: r, d, hd, hn => by
    rw [DataW.weightsAll]
    rcases List.mem_cons.1 hd with rfl | hd
    · exact List.mem_append_left _ hn
    · exact List.mem_append_right _ (mem_weightsAll hd hn)
theorem mem_weightsEach {H : Type} {P : Program} {n : Nat} : ∀ {ts : List TypeId} {ds : List (DataW H)} {k : Nat} {t : TypeId} {d : DataW H}, ts[k]? = some t → ds[k]? = some d → n ∈ d.weights P t → n ∈ DataW.weightsEach P ts ds
  | [], _, k, t, d, ht, _, _ => by simp at ht
  | _ :: _, [], k, t, d, _, hd, _ => by simp at hd
  | a :: ts, b :: ds, 0, t, d, ht, hd, hn => by
    simp only [List.getElem?_cons_zero, Option.some.injEq] at ht hd
    subst ht hd
    rw [DataW.weightsEach]
    exact List.mem_append_left _ hn
  | a :: ts, b :: ds, k + 1, t, d, ht, hd, hn => by
    rw [List.getElem?_cons_succ] at ht hd
    rw [DataW.weightsEach]
    exact List.mem_append_right _ (mem_weightsEach ht hd hn)
theorem weights_slice {H : Type} {P : Program} {t e : TypeId} (hu : P.underlying t = some (.slice e)) (elems spare : List (DataW H)) : (DataW.slice elems spare).weights P t = (elems.length + spare.length) * P.bytesOf e :: (DataW.weightsAll P e elems ++ DataW.weightsAll P e spare) := by
  rw [DataW.weights]; rw [hu]
theorem weights_struct {H : Type} {P : Program} {t : TypeId} {fs : Array Field} (hu : P.underlying t = some (.struct fs)) (parts : List (DataW H)) : (DataW.agg parts).weights P t = DataW.weightsEach P (fs.toList.map (·.type)) parts := by
  rw [DataW.weights]; rw [hu]
theorem slice_len {H : Type} {enc : TypeId × Value → H} {W : World} {t e : TypeId} {k : IntKind} {cs : List Value} {x : DataW H × List MemPlace} {fuel : Nat} {a : Option Addr} {len cap : Nat} (ht : Try.prog.underlying t = some (.slice e)) (he : Try.prog.underlying e = some (.int k)) (hc : Try.prog.cellsOf e = 1)
    (hf : DataW.trod enc Try.prog W 0 (fun _ => true) true fuel t cs = some x) (hcs : cs = [.slice a len cap]) (hw : ∀ n ∈ x.1.weights Try.prog t, n ≤ reachBytes) : len * Try.prog.bytesOf e ≤ 140737488351232 := by
  rcases open_ints ht he hc hf with ⟨hcs', hx⟩ | ⟨ad, len', cap', zs, hcs', _, hl, hm, hz, hx, _⟩
  · rw [hcs] at hcs'
    simp only [List.cons.injEq, Value.slice.injEq, and_true] at hcs'
    obtain ⟨_, rfl, _⟩ := hcs'
    omega
  · rw [hcs] at hcs'
    simp only [List.cons.injEq, Value.slice.injEq, and_true] at hcs'
    obtain ⟨_, rfl, _⟩ := hcs'
    simp only [if_true] at hz
    rw [hx, weights_slice ht] at hw
    have h1 := hw _ (List.mem_cons_self ..)
    have hll : (lits (H := H) k (zs.take len)).length = len := by simp [lits]; omega
    have : reachBytes = 140737488351232 := rfl
    rw [hll] at h1
    have h2 : len * Try.prog.bytesOf e ≤ (len + (lits (H := H) k (zs.drop len)).length) * Try.prog.bytesOf e := Nat.mul_le_mul_right _ (Nat.le_add_right _ _)
    omega
theorem ops_trod2 {H : Type} {enc : TypeId × Value → H} {W : World} {cs : List Value} {x : DataW H × List MemPlace} {fuel : Nat}
    (hf : DataW.trod enc Try.prog W 0 (fun _ => true) true fuel 22 cs = some x) (hw : ∀ n ∈ x.1.weights Try.prog 22, n ≤ reachBytes) :
    ∃ a len cap xs, cs = [.slice a len cap] ∧ Ops W a len xs ∧ (∀ x ∈ xs, OpF W x ∧ x.bl ≤ 140737488351232 ∧ x.sl * 8 ≤ 140737488351232) ∧ len ≤ 9223372036854775807 := by
  rcases open_slice Try.underlying22 hf with ⟨hcs, hx⟩ | ⟨ad, len, cap, m, n, D, Pl, hcs, _, hl, hm, hmm, hx, hel⟩
  · exact ⟨none, 0, 0, [], hcs, ⟨rfl, fun j x hj => by simp at hj⟩, by simp, by omega⟩
  · simp only [if_true] at hmm
    have hm' : cap ≤ 9223372036854775807 := hm
    have hc5 : Try.prog.cellsOf 38 = 5 := by kernel_rfl
    have hci : Try.prog.cellsOf 3 = 1 := by kernel_rfl
    have hcb : Try.prog.cellsOf 35 = 1 := by kernel_rfl
    have hcs' : Try.prog.cellsOf 36 = 1 := by kernel_rfl
    have hbb : Try.prog.bytesOf 5 = 1 := by kernel_rfl
    have hbi : Try.prog.bytesOf 3 = 8 := by kernel_rfl
    rw [hx, weights_slice Try.underlying22] at hw
    have each : ∀ i, i < len → ∃ v : OpV, i64 v.kind ∧ i64 v.at_ ∧ i64 v.nn ∧ (OpF W v ∧ v.bl ≤ 140737488351232 ∧ v.sl * 8 ≤ 140737488351232) ∧
        W.cell? (ad.add (i * 5)) = some (.int .i64 v.kind) ∧ W.cell? (ad.add (i * 5 + 1)) = some (.int .i64 v.at_) ∧ W.cell? (ad.add (i * 5 + 2)) = some (.int .i64 v.nn) ∧
        W.cell? (ad.add (i * 5 + 3)) = some (.slice v.ba v.bl v.bc) ∧ W.cell? (ad.add (i * 5 + 4)) = some (.slice v.sa v.sl v.sc) := by
      intro i hi
      have hwD : ∀ n ∈ (D i).weights Try.prog 38, n ≤ reachBytes := fun n hn => hw n (List.mem_cons_of_mem _ (List.mem_append_left _ (mem_weightsAll (List.mem_map.2 ⟨i, by simpa using hi, rfl⟩) hn)))
      obtain ⟨cs2, h1, h2⟩ := hel i (by omega)
      rw [hc5] at h1
      obtain ⟨_, hlen2, hcell⟩ := World.cells?_some h1
      obtain ⟨ys, k, hk, hxy, _, hxl, hfd⟩ := DataW.trod_struct Try.underlying38 h2
      have hy5 : ys.length = 5 := hxl
      obtain ⟨y0, y1, y2, y3, y4, rfl⟩ := list5 hy5
      obtain ⟨v0, v1, v2, v3, v4, rfl⟩ := list5 hlen2
      · have g0 := hfd 0 _ rfl
        have g1 := hfd 1 _ rfl
        have g2 := hfd 2 _ rfl
        have g3 := hfd 3 _ rfl
        have g4 := hfd 4 _ rfl
        simp [hci, hcb, hcs'] at g0 g1 g2 g3 g4
        have hDi : D i = .agg [y0.1, y1.1, y2.1, y3.1, y4.1] := by simpa using congrArg (·.1) hxy
        rw [hDi, weights_struct Try.underlying38] at hwD
        have w3 : ∀ n ∈ y3.1.weights Try.prog 35, n ≤ reachBytes := fun n hn => hwD n (mem_weightsEach (k := 3) (t := 35) rfl rfl hn)
        have w4 : ∀ n ∈ y4.1.weights Try.prog 36, n ≤ reachBytes := fun n hn => hwD n (mem_weightsEach (k := 4) (t := 36) rfl rfl hn)
        obtain ⟨n0, e0, _, w0⟩ := DataW.trod_int Try.underlying3 g0
        obtain ⟨n1, e1, _, w1⟩ := DataW.trod_int Try.underlying3 g1
        obtain ⟨n2, e2, _, w2⟩ := DataW.trod_int Try.underlying3 g2
        obtain ⟨ba, bl, bc, l, e3, hsl, hll⟩ := bytes_trod g3
        obtain ⟨sa, sl, sc, zs, e4, hI, hz, _⟩ := ints_trod g4
        have z3 := slice_len Try.underlying35 Try.underlying5 (by kernel_rfl) g3 e3 w3
        have z4 := slice_len Try.underlying36 Try.underlying3 (by kernel_rfl) g4 e4 w4
        rw [hbb] at z3
        rw [hbi] at z4
        simp only [List.cons.injEq, and_true] at e0 e1 e2 e3 e4
        subst e0 e1 e2 e3 e4
        have c0 := hcell 0 (by omega)
        have c1 := hcell 1 (by omega)
        have c2 := hcell 2 (by omega)
        have c3 := hcell 3 (by omega)
        have c4 := hcell 4 (by omega)
        rw [add_add] at c0 c1 c2 c3 c4
        exact ⟨⟨n0, n1, n2, ba, bl, bc, sa, sl, sc⟩, wf_i64 w0, wf_i64 w1, wf_i64 w2, ⟨⟨⟨l, hsl, hll⟩, zs, hI, hz⟩, by simpa using z3, z4⟩, by simpa using c0, by simpa using c1, by simpa using c2, by simpa using c3, by simpa using c4⟩
    haveI : Inhabited OpV := ⟨⟨0, 0, 0, none, 0, 0, none, 0, 0⟩⟩
    obtain ⟨q, hq⟩ := choose_lt each
    refine ⟨some ad, len, cap, (List.range len).map q, hcs, ⟨by simp, fun j x hj => ?_⟩, fun x hxm => ?_, by omega⟩
    · have hj' : j < len := by have := (List.getElem?_eq_some_iff.1 hj).1; simpa using this
      obtain rfl : q j = x := by simpa [hj'] using hj
      obtain ⟨h1, h2, h3, _, c0, c1, c2, c3, c4⟩ := hq j hj'
      have hz0 := (hq 0 (by omega)).2.2.2.2.1
      rw [Nat.zero_mul] at hz0
      obtain ⟨b, off, sp⟩ := ad
      obtain rfl : sp = none := spot_none hz0
      rw [Addr.add_lit] at c0 c1 c2 c3 c4
      exact ⟨h1, h2, h3, b, off, rfl, c0, c1, c2, c3, c4⟩
    · obtain ⟨j, hj, rfl⟩ := List.mem_map.1 hxm
      exact (hq j (by simpa using hj)).2.2.2.1
theorem ops_arg2 {H : Type} {enc : TypeId × Value → H} {W : World} {a : Option Addr} {len cap : Nat} {ts : List TypeId} {ds : List (DataW H)} {j : Nat} {d : DataW H} {p : List MemPlace}
    (h : (DataW.weightsEach Try.prog ts ds).all (· ≤ reachBytes) = true) (ht : ts[j]? = some 22) (hd : ds[j]? = some d)
    (h0 : DataW.Trod enc Try.prog W 0 (fun _ => true) true 22 (.slice a len cap) d p) :
    ∃ xs : List OpV, Ops W a len xs ∧ (∀ x ∈ xs, OpF W x ∧ x.bl ≤ 140737488351232 ∧ x.sl * 8 ≤ 140737488351232) ∧ len ≤ 9223372036854775807 := by
  obtain ⟨fuel, hf⟩ := h0
  obtain ⟨a', len', cap', xs, hcs, h1, h2, h3⟩ := ops_trod2 hf (fun n hn => by
    have := List.all_eq_true.1 h n (mem_weightsEach ht hd hn)
    simpa using this)
  simp [Value.cells] at hcs
  obtain ⟨rfl, rfl, rfl⟩ := hcs
  exact ⟨xs, h1, h2, h3⟩
end Go.Proofs.Ytkfomolglangdaa
