/- the text PLives -/
import Derived.Test.YtcmgclkbhhdnaaaGreatDoorPGe
namespace Go.Proofs.YtcmgclkbhhdnaaaGreatDoor
open Go Go.ChangeShapes Go.WideShapes Go.ChangeAt Go.WideMaps Go.WideElems Go.RowKit Go.ChangeMaps Go.Deep

structure Life8 where
  sa : Option Addr
  sn : Nat
  sc : Nat
  xs : List Op8
  cut : Int
  ta : Option Addr
  tn : Nat
  tc : Nat
  zs : List Int
def LifeF (W : World) (v : Life8) : Prop := (Ops8 W v.sa v.sn v.xs ∧ v.sn ≤ 9223372036854775807) ∧ (-9223372036854775808 ≤ v.cut ∧ v.cut ≤ 9223372036854775807) ∧ Iz W (.slice v.ta v.tn v.tc) v.zs ∧ v.zs.length = v.tn ∧ v.tn * 8 ≤ 140737488351232
def Lives8 (W : World) (a : Option Addr) (len : Nat) (vs : List Life8) : Prop := vs.length = len ∧ ∀ (k : Nat) (v : Life8), vs[k]? = some v → LifeF W v ∧ ∃ b o, a = some ⟨b, o, none⟩ ∧ W.cell? ⟨b, o + k * 3, none⟩ = some (.slice v.sa v.sn v.sc) ∧ W.cell? ⟨b, o + k * 3 + 1, none⟩ = some (.int .i64 v.cut) ∧ W.cell? ⟨b, o + k * 3 + 2, none⟩ = some (.slice v.ta v.tn v.tc)
theorem Iz.ints {W : World} {a : Option Addr} {len cap : Nat} {zs : List Int} (h : Iz W (.slice a len cap) zs) (hl : zs.length = len) : Ints W.heap.size W a len zs := by
  obtain ⟨a', cap', e, hc⟩ := h
  injection e with e1 _ _
  subst e1
  refine ⟨hl, fun h0 => ?_⟩
  obtain ⟨b, o, rfl, hc0⟩ := hc 0 (zs[0]'(by omega)) (List.getElem?_eq_getElem (by omega))
  refine ⟨b, o, rfl, World.block_lt_of_cell? W _ hc0, fun j hj => ?_⟩
  obtain ⟨b', o', e, hj'⟩ := hc j _ (List.getElem?_eq_getElem hj)
  cases e
  rw [hj', List.getElem?_eq_getElem hj]
  rfl
theorem Ints.mono {n m : Nat} {W : World} {a : Option Addr} {len : Nat} {zs : List Int} (h : Ints n W a len zs) (hm : n ≤ m) : Ints m W a len zs := ⟨h.1, fun hl => by
  obtain ⟨b, off, e, hb, hc⟩ := h.2 hl
  exact ⟨b, off, e, Nat.lt_of_lt_of_le hb hm, hc⟩⟩
theorem mem_weightsAll {H : Type} {P : Program} {e : TypeId} {n : Nat} : ∀ {L : List (DataW H)} {d : DataW H}, d ∈ L → n ∈ d.weights P e → n ∈ DataW.weightsAll P e L
  | x :: r, d, hd, hn => by
    rw [DataW.weightsAll]
    rcases List.mem_cons.1 hd with rfl | hd
    · exact List.mem_append_left _ hn
    · exact List.mem_append_right _ (mem_weightsAll hd hn)
theorem mem_weightsEach {H : Type} {P : Program} {n : Nat} : ∀ {ts : List TypeId} {ds : List (DataW H)} {k : Nat} {t : TypeId} {d : DataW H}, ts[k]? = some t → ds[k]? = some d → n ∈ d.weights P t → n ∈ DataW.weightsEach P ts ds
  | [], _, k, t, d, ht, _, _ => by simp at ht
  | _ :: _, [], k, t, d, _, hd, _ => by simp at hd
  | a :: ts, b :: ds, 0, t, d, ht, hd, hn => by
    simp only [List.getElem?_cons_zero, Option.some.injEq] at ht hd
    subst ht hd
    rw [DataW.weightsEach]
    exact List.mem_append_left _ hn
  | a :: ts, b :: ds, k + 1, t, d, ht, hd, hn => by
    rw [List.getElem?_cons_succ] at ht hd
    rw [DataW.weightsEach]
    exact List.mem_append_right _ (mem_weightsEach ht hd hn)
theorem weights_slice {H : Type} {P : Program} {t e : TypeId} (hu : P.underlying t = some (.slice e)) (elems spare : List (DataW H)) : (DataW.slice elems spare).weights P t = (elems.length + spare.length) * P.bytesOf e :: (DataW.weightsAll P e elems ++ DataW.weightsAll P e spare) := by
  rw [DataW.weights]; rw [hu]
theorem weights_struct {H : Type} {P : Program} {t : TypeId} {fs : Array Field} (hu : P.underlying t = some (.struct fs)) (parts : List (DataW H)) : (DataW.agg parts).weights P t = DataW.weightsEach P (fs.toList.map (·.type)) parts := by
  rw [DataW.weights]; rw [hu]
theorem slice_len {H : Type} {enc : TypeId × Value → H} {W : World} {t e : TypeId} {k : IntKind} {cs : List Value} {x : DataW H × List MemPlace} {fuel : Nat} {a : Option Addr} {len cap : Nat} (ht : Tryz.prog.underlying t = some (.slice e)) (he : Tryz.prog.underlying e = some (.int k)) (hc : Tryz.prog.cellsOf e = 1)
    (hf : DataW.trod enc Tryz.prog W 0 (fun _ => true) true fuel t cs = some x) (hcs : cs = [.slice a len cap]) (hw : ∀ n ∈ x.1.weights Tryz.prog t, n ≤ reachBytes) : len * Tryz.prog.bytesOf e ≤ 140737488351232 := by
  rcases open_ints ht he hc hf with ⟨hcs', hx⟩ | ⟨ad, len', cap', zs, hcs', _, hl, hm, hz, hx, _⟩
  · rw [hcs] at hcs'
    simp only [List.cons.injEq, Value.slice.injEq, and_true] at hcs'
    obtain ⟨_, rfl, _⟩ := hcs'
    omega
  · rw [hcs] at hcs'
    simp only [List.cons.injEq, Value.slice.injEq, and_true] at hcs'
    obtain ⟨_, rfl, _⟩ := hcs'
    simp only [if_true] at hz
    rw [hx, weights_slice ht] at hw
    have h1 := hw _ (List.mem_cons_self ..)
    have hll : (lits (H := H) k (zs.take len)).length = len := by simp [lits]; omega
    have : reachBytes = 140737488351232 := rfl
    rw [hll] at h1
    have h2 : len * Tryz.prog.bytesOf e ≤ (len + (lits (H := H) k (zs.drop len)).length) * Tryz.prog.bytesOf e := Nat.mul_le_mul_right _ (Nat.le_add_right _ _)
    omega
theorem life_trod {H : Type} {enc : TypeId × Value → H} {W : World} {cs : List Value} {x : DataW H × List MemPlace} {fuel : Nat}
    (hf : DataW.trod enc Tryz.prog W 0 (fun _ => true) true fuel 44 cs = some x) (hw : ∀ n ∈ x.1.weights Tryz.prog 44, n ≤ reachBytes) :
    ∃ v : Life8, cs = [.slice v.sa v.sn v.sc, .int .i64 v.cut, .slice v.ta v.tn v.tc] ∧ LifeF W v := by
  have hc3 : Tryz.prog.cellsOf 44 = 3 := by kernel_rfl
  have hci : Tryz.prog.cellsOf 3 = 1 := by kernel_rfl
  have hco : Tryz.prog.cellsOf 22 = 1 := by kernel_rfl
  have hcs' : Tryz.prog.cellsOf 42 = 1 := by kernel_rfl
  have hbi : Tryz.prog.bytesOf 3 = 8 := by kernel_rfl
  obtain ⟨ys, k, hk, hxy, hcl, hxl, hfd⟩ := DataW.trod_struct Tryz.underlying44 hf
  have hy3 : ys.length = 3 := hxl
  obtain ⟨y0, y1, y2, rfl⟩ := list3 hy3
  rw [hc3] at hcl
  obtain ⟨v0, v1, v2, rfl⟩ := list3 hcl
  have g0 := hfd 0 _ rfl
  have g1 := hfd 1 _ rfl
  have g2 := hfd 2 _ rfl
  simp [hci, hco, hcs'] at g0 g1 g2
  have hDi : x.1 = .agg [y0.1, y1.1, y2.1] := by simpa using congrArg (·.1) hxy
  rw [hDi, weights_struct Tryz.underlying44] at hw
  have w2 : ∀ n ∈ y2.1.weights Tryz.prog 42, n ≤ reachBytes := fun n hn => hw n (mem_weightsEach (k := 2) (t := 42) rfl rfl hn)
  obtain ⟨sa, sn, sc, xs, e0, hO, hle⟩ := ops_trod g0
  obtain ⟨n1, e1, _, w1⟩ := DataW.trod_int Tryz.underlying3 g1
  obtain ⟨ta, tn, tc, zs, e2, hI, hzl, hz, _, _⟩ := ints_trod g2
  have z2 := slice_len Tryz.underlying42 Tryz.underlying3 (by kernel_rfl) g2 e2 w2
  rw [hbi] at z2
  simp only [List.cons.injEq, and_true] at e0 e1 e2
  subst e0 e1 e2
  exact ⟨⟨sa, sn, sc, xs, n1, ta, tn, tc, zs⟩, rfl, ⟨hO, hle⟩, bounds_i64 w1, hI, hzl, z2⟩
theorem lives_trod {H : Type} {enc : TypeId × Value → H} {W : World} {cs : List Value} {x : DataW H × List MemPlace} {fuel : Nat}
    (hf : DataW.trod enc Tryz.prog W 0 (fun _ => true) true fuel 39 cs = some x) (hw : ∀ n ∈ x.1.weights Tryz.prog 39, n ≤ reachBytes) :
    ∃ a len cap vs, cs = [.slice a len cap] ∧ Lives8 W a len vs ∧ len ≤ 9223372036854775807 := by
  rcases open_slice Tryz.underlying39 hf with ⟨hcs, hx⟩ | ⟨ad, len, cap, m, n, D, Pl, hcs, _, hl, hm, hmm, hx, hel⟩
  · exact ⟨none, 0, 0, [], hcs, ⟨rfl, fun j x hj => by simp at hj⟩, by omega⟩
  · simp only [if_true] at hmm
    have hm' : cap ≤ 9223372036854775807 := hm
    have hc3 : Tryz.prog.cellsOf 44 = 3 := by kernel_rfl
    rw [hx, weights_slice Tryz.underlying39] at hw
    have each : ∀ i, i < len → ∃ v : Life8, LifeF W v ∧ W.cell? (ad.add (i * 3)) = some (.slice v.sa v.sn v.sc) ∧ W.cell? (ad.add (i * 3 + 1)) = some (.int .i64 v.cut) ∧ W.cell? (ad.add (i * 3 + 2)) = some (.slice v.ta v.tn v.tc) := by
      intro i hi
      have hwD : ∀ n ∈ (D i).weights Tryz.prog 44, n ≤ reachBytes := fun n hn => hw n (List.mem_cons_of_mem _ (List.mem_append_left _ (mem_weightsAll (List.mem_map.2 ⟨i, by simpa using hi, rfl⟩) hn)))
      obtain ⟨cs2, h1, h2⟩ := hel i (by omega)
      rw [hc3] at h1
      obtain ⟨_, hlen2, hcell⟩ := World.cells?_some h1
      obtain ⟨o, rfl, ho⟩ := life_trod h2 hwD
      have c0 := hcell 0 (by omega)
      have c1 := hcell 1 (by omega)
      have c2 := hcell 2 (by omega)
      rw [add_add] at c0 c1 c2
      exact ⟨o, ho, by simpa using c0, by simpa using c1, by simpa using c2⟩
    haveI : Inhabited Life8 := ⟨⟨none, 0, 0, [], 0, none, 0, 0, []⟩⟩
    obtain ⟨q, hq⟩ := choose_lt each
    refine ⟨some ad, len, cap, (List.range len).map q, hcs, ⟨by simp, fun j x hj => ?_⟩, by omega⟩
    have hj' : j < len := by have := (List.getElem?_eq_some_iff.1 hj).1; simpa using this
    obtain rfl : q j = x := by simpa [hj'] using hj
    obtain ⟨hF, c0, c1, c2⟩ := hq j hj'
    have hz0 := (hq 0 (by omega)).2.1
    rw [Nat.zero_mul] at hz0
    obtain ⟨b, off, sp⟩ := ad
    obtain rfl : sp = none := spot_none hz0
    rw [Addr.add_lit] at c0 c1 c2
    exact ⟨hF, b, off, rfl, c0, by rw [Nat.add_assoc]; exact c1, by rw [Nat.add_assoc]; exact c2⟩
theorem lives_arg {H : Type} {enc : TypeId × Value → H} {W : World} {a : Option Addr} {len cap : Nat} {ts : List TypeId} {ds : List (DataW H)} {j : Nat} {d : DataW H} {p : List MemPlace}
    (h : (DataW.weightsEach Tryz.prog ts ds).all (· ≤ reachBytes) = true) (ht : ts[j]? = some 39) (hd : ds[j]? = some d)
    (h0 : DataW.Trod enc Tryz.prog W 0 (fun _ => true) true 39 (.slice a len cap) d p) :
    ∃ vs : List Life8, Lives8 W a len vs ∧ len ≤ 9223372036854775807 := by
  obtain ⟨fuel, hf⟩ := h0
  obtain ⟨a', len', cap', vs, hcs, h1, h3⟩ := lives_trod hf (fun n hn => by
    have := List.all_eq_true.1 h n (mem_weightsEach ht hd hn)
    simpa using this)
  simp [Value.cells] at hcs
  obtain ⟨rfl, rfl, rfl⟩ := hcs
  exact ⟨vs, h1, h3⟩
end Go.Proofs.YtcmgclkbhhdnaaaGreatDoor
