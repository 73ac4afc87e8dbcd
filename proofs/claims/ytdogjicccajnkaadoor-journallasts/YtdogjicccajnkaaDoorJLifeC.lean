/- A life that is handed in: its script, its cut, what stays. -/
import Derived.Test.YtdogjicccajnkaaDoorJGh
namespace Go.Proofs.YtdogjicccajnkaaDoor
open Go Go.ChangeShapes Go.WideShapes Go.ChangeAt Go.WideMaps Go.WideElems Go.RowKit Go.ChangeMaps Go.Deep

theorem mem_weightsAll {H : Type} {P : Program} {e : TypeId} {n : Nat} : ∀ {L : List (DataW H)} {d : DataW H}, d ∈ L → n ∈ d.weights P e → n ∈ DataW.weightsAll P e L
  | x :: r, d, hd, hn => by
    rw [DataW.weightsAll]
    rcases List.mem_cons.1 hd with rfl | hd
    · exact List.mem_append_left _ hn
    · exact List.mem_append_right _ (mem_weightsAll hd hn)
theorem mem_weightsEach {H : Type} {P : Program} {n : Nat} : ∀ {ts : List TypeId} {ds : List (DataW H)} {k : Nat} {t : TypeId} {d : DataW H}, ts[k]? = some t → ds[k]? = some d → n ∈ d.weights P t → n ∈ DataW.weightsEach P ts ds
  | [], _, k, t, d, ht, _, _ => by simp at ht
  | _ :: _, [], k, t, d, _, hd, _ => by simp at hd
  | a :: ts, b :: ds, 0, t, d, ht, hd, hn => by
    simp only [List.getElem?_cons_zero, Option.some.injEq] at ht hd
    subst ht hd
    rw [DataW.weightsEach]
    exact List.mem_append_left _ hn
  | a :: ts, b :: ds, k + 1, t, d, ht, hd, hn => by
    rw [List.getElem?_cons_succ] at ht hd
    rw [DataW.weightsEach]
    exact List.mem_append_right _ (mem_weightsEach ht hd hn)
theorem weights_slice {H : Type} {P : Program} {t e : TypeId} (hu : P.underlying t = some (.slice e)) (elems spare : List (DataW H)) : (DataW.slice elems spare).weights P t = (elems.length + spare.length) * P.bytesOf e :: (DataW.weightsAll P e elems ++ DataW.weightsAll P e spare) := by
  rw [DataW.weights]; rw [hu]
theorem weights_struct {H : Type} {P : Program} {t : TypeId} {fs : Array Field} (hu : P.underlying t = some (.struct fs)) (parts : List (DataW H)) : (DataW.agg parts).weights P t = DataW.weightsEach P (fs.toList.map (·.type)) parts := by
  rw [DataW.weights]; rw [hu]
theorem slice_len {H : Type} {enc : TypeId × Value → H} {W : World} {t e : TypeId} {k : IntKind} {cs : List Value} {x : DataW H × List MemPlace} {fuel : Nat} {a : Option Addr} {len cap : Nat} (ht : Tryd.prog.underlying t = some (.slice e)) (he : Tryd.prog.underlying e = some (.int k)) (hc : Tryd.prog.cellsOf e = 1)
    (hf : DataW.trod enc Tryd.prog W 0 (fun _ => true) true fuel t cs = some x) (hcs : cs = [.slice a len cap]) (hw : ∀ n ∈ x.1.weights Tryd.prog t, n ≤ reachBytes) : len * Tryd.prog.bytesOf e ≤ 140737488351232 := by
  rcases open_ints ht he hc hf with ⟨hcs', hx⟩ | ⟨ad, len', cap', zs, hcs', _, hl, hm, hz, hx, _⟩
  · rw [hcs] at hcs'
    simp only [List.cons.injEq, Value.slice.injEq, and_true] at hcs'
    obtain ⟨_, rfl, _⟩ := hcs'
    omega
  · rw [hcs] at hcs'
    simp only [List.cons.injEq, Value.slice.injEq, and_true] at hcs'
    obtain ⟨_, rfl, _⟩ := hcs'
    simp only [if_true] at hz
    rw [hx, weights_slice ht] at hw
    have h1 := hw _ (List.mem_cons_self ..)
    have hll : (lits (H := H) k (zs.take len)).length = len := by simp [lits]; omega
    have : reachBytes = 140737488351232 := rfl
    rw [hll] at h1
    have h2 : len * Tryd.prog.bytesOf e ≤ (len + (lits (H := H) k (zs.drop len)).length) * Tryd.prog.bytesOf e := Nat.mul_le_mul_right _ (Nat.le_add_right _ _)
    omega
structure LifeV where
  sa : Option Addr
  sn : Nat
  sc : Nat
  xs : List OpV6
  cut : Int
  ta : Option Addr
  tn : Nat
  tc : Nat
  zs : List Int
  ga : Option Addr
  gn : Nat
  gc : Nat
def LifeF (W : World) (v : LifeV) : Prop := Ops6 W v.sa v.sn v.xs ∧ (∀ x ∈ v.xs, OpF6 W x) ∧ v.sn ≤ 9223372036854775807 ∧ (-9223372036854775808 ≤ v.cut ∧ v.cut ≤ 9223372036854775807) ∧ Iz W (.slice v.ta v.tn v.tc) v.zs ∧ v.zs.length = v.tn ∧ v.tn * 8 ≤ 140737488351232
theorem slice_trod {H : Type} {enc : TypeId × Value → H} {W : World} {t e : TypeId} {cs : List Value} {x : DataW H × List MemPlace} {fuel : Nat} (ht : Tryd.prog.underlying t = some (.slice e))
    (hf : DataW.trod enc Tryd.prog W 0 (fun _ => true) true fuel t cs = some x) : ∃ a len cap, cs = [.slice a len cap] := by
  rcases open_slice ht hf with ⟨hcs, _⟩ | ⟨ad, len, cap, m, n, D, Pl, hcs, _⟩
  · exact ⟨none, 0, 0, hcs⟩
  · exact ⟨some ad, len, cap, hcs⟩
theorem life_trod {H : Type} {enc : TypeId × Value → H} {W : World} {cs : List Value} {x : DataW H × List MemPlace} {fuel : Nat}
    (hf : DataW.trod enc Tryd.prog W 0 (fun _ => true) true fuel 59 cs = some x) (hw : ∀ n ∈ x.1.weights Tryd.prog 59, n ≤ reachBytes) :
    ∃ v : LifeV, cs = [.slice v.sa v.sn v.sc, .int .i64 v.cut, .slice v.ta v.tn v.tc, .slice v.ga v.gn v.gc] ∧ LifeF W v := by
  have hc4 : Tryd.prog.cellsOf 59 = 4 := by kernel_rfl
  have hci : Tryd.prog.cellsOf 3 = 1 := by kernel_rfl
  have hco : Tryd.prog.cellsOf 22 = 1 := by kernel_rfl
  have hcs' : Tryd.prog.cellsOf 43 = 1 := by kernel_rfl
  have hcf : Tryd.prog.cellsOf 57 = 1 := by kernel_rfl
  have hbi : Tryd.prog.bytesOf 3 = 8 := by kernel_rfl
  obtain ⟨ys, k, hk, hxy, hcl, hxl, hfd⟩ := DataW.trod_struct Tryd.underlying59 hf
  have hy4 : ys.length = 4 := hxl
  obtain ⟨y0, y1, y2, y3, rfl⟩ := list4 hy4
  rw [hc4] at hcl
  obtain ⟨v0, v1, v2, v3, rfl⟩ := list4 hcl
  have g0 := hfd 0 _ rfl
  have g1 := hfd 1 _ rfl
  have g2 := hfd 2 _ rfl
  have g3 := hfd 3 _ rfl
  simp [hci, hco, hcs', hcf] at g0 g1 g2 g3
  have hDi : x.1 = .agg [y0.1, y1.1, y2.1, y3.1] := by simpa using congrArg (·.1) hxy
  rw [hDi, weights_struct Tryd.underlying59] at hw
  have w2 : ∀ n ∈ y2.1.weights Tryd.prog 43, n ≤ reachBytes := fun n hn => hw n (mem_weightsEach (k := 2) (t := 43) rfl rfl hn)
  obtain ⟨sa, sn, sc, xs, e0, hO, hOF, hle⟩ := ops_trod g0
  obtain ⟨n1, e1, _, w1⟩ := DataW.trod_int Tryd.underlying3 g1
  obtain ⟨ta, tn, tc, zs, e2, hI, hzl, hz, _, _⟩ := ints_trod g2
  obtain ⟨ga, gn, gc, e3⟩ := slice_trod Tryd.underlying57 g3
  have z2 := slice_len Tryd.underlying43 Tryd.underlying3 (by kernel_rfl) g2 e2 w2
  rw [hbi] at z2
  simp only [List.cons.injEq, and_true] at e0 e1 e2 e3
  subst e0 e1 e2 e3
  exact ⟨⟨sa, sn, sc, xs, n1, ta, tn, tc, zs, ga, gn, gc⟩, rfl, hO, hOF, hle, bounds_i64 w1, hI, hzl, z2⟩
set_option maxRecDepth 100000 in
theorem life_arg {H : Type} {enc : TypeId × Value → H} {W : World} {base : Nat} {v : Value} {ts : List TypeId} {ds : List (DataW H)} {j : Nat} {d : DataW H} {p : List MemPlace} (hv : Value.okWide Tryd.prog W .any base 59 v)
    (h : (DataW.weightsEach Tryd.prog ts ds).all (· ≤ reachBytes) = true) (ht : ts[j]? = some 59) (hd : ds[j]? = some d)
    (h0 : DataW.Trod enc Tryd.prog W 0 (fun _ => true) true 59 v d p) :
    ∃ o : LifeV, v = .agg #[.slice o.sa o.sn o.sc, .int .i64 o.cut, .slice o.ta o.tn o.tc, .slice o.ga o.gn o.gc] ∧ LifeF W o := by
  obtain ⟨cs, hcv, _⟩ := okWide_struct Tryd.underlying59 hv
  subst hcv
  obtain ⟨fuel, hf⟩ := h0
  obtain ⟨o, hcs, ho⟩ := life_trod hf (fun n hn => by
    have := List.all_eq_true.1 h n (mem_weightsEach ht hd hn)
    simpa using this)
  refine ⟨o, ?_, ho⟩
  have : cs.toList = [.slice o.sa o.sn o.sc, .int .i64 o.cut, .slice o.ta o.tn o.tc, .slice o.ga o.gn o.gc] := hcs
  rw [← Array.toArray_toList (xs := cs), this]
theorem Iz.ints {W : World} {a : Option Addr} {len cap : Nat} {zs : List Int} (h : Iz W (.slice a len cap) zs) (hl : zs.length = len) : Ints W.heap.size W a len zs := by
  obtain ⟨a', cap', e, hc⟩ := h
  injection e with e1 _ _
  subst e1
  refine ⟨hl, fun hne => ?_⟩
  obtain ⟨z, hz⟩ : ∃ z, zs[0]? = some z := ⟨_, List.getElem?_eq_getElem (by omega)⟩
  obtain ⟨b, o, rfl, h0⟩ := hc 0 z hz
  refine ⟨b, o, rfl, World.block_lt_of_cell? W _ h0, fun j hj => ?_⟩
  obtain ⟨y, hy⟩ : ∃ y, zs[j]? = some y := ⟨_, List.getElem?_eq_getElem hj⟩
  obtain ⟨b', o', e, hcy⟩ := hc j y hy
  injection e with e
  injection e with e1 e2
  subst e1 e2
  rw [hcy, hy]
  rfl
end Go.Proofs.YtdogjicccajnkaaDoor
