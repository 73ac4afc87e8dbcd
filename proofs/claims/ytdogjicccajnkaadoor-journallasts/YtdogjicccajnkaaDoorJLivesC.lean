/- Lives that are handed in. -/
import Derived.Test.YtdogjicccajnkaaDoorJAgainC
namespace Go.Proofs.YtdogjicccajnkaaDoor
open Go Go.ChangeShapes Go.WideShapes Go.ChangeAt Go.WideMaps Go.WideElems Go.RowKit Go.ChangeMaps Go.Deep

theorem list2 {α : Type} : ∀ {l : List α}, l.length = 2 → ∃ a b, l = [a, b]
  | [a, b], _ => ⟨a, b, rfl⟩
theorem fall_trod {H : Type} {enc : TypeId × Value → H} {W : World} {cs : List Value} {x : DataW H × List MemPlace} {fuel : Nat}
    (hf : DataW.trod enc Tryd.prog W 0 (fun _ => true) true fuel 102 cs = some x) (hw : ∀ n ∈ x.1.weights Tryd.prog 102, n ≤ reachBytes) :
    ∃ v : FallV, cs = [.int .i64 v.cut, .slice v.ta v.tn v.tc] ∧ FallF W v := by
  have hc2 : Tryd.prog.cellsOf 102 = 2 := by kernel_rfl
  have hci : Tryd.prog.cellsOf 3 = 1 := by kernel_rfl
  have hcs' : Tryd.prog.cellsOf 43 = 1 := by kernel_rfl
  have hbi : Tryd.prog.bytesOf 3 = 8 := by kernel_rfl
  obtain ⟨ys, k, hk, hxy, hcl, hxl, hfd⟩ := DataW.trod_struct Tryd.underlying102 hf
  have hy2 : ys.length = 2 := hxl
  obtain ⟨y0, y1, rfl⟩ := list2 hy2
  rw [hc2] at hcl
  obtain ⟨v0, v1, rfl⟩ := list2 hcl
  have g0 := hfd 0 _ rfl
  have g1 := hfd 1 _ rfl
  simp [hci, hcs'] at g0 g1
  have hDi : x.1 = .agg [y0.1, y1.1] := by simpa using congrArg (·.1) hxy
  rw [hDi, weights_struct Tryd.underlying102] at hw
  have w1 : ∀ n ∈ y1.1.weights Tryd.prog 43, n ≤ reachBytes := fun n hn => hw n (mem_weightsEach (k := 1) (t := 43) rfl rfl hn)
  obtain ⟨n0, e0, _, w0⟩ := DataW.trod_int Tryd.underlying3 g0
  obtain ⟨ta, tn, tc, zs, e1, hI, hzl, hz, _, _⟩ := ints_trod g1
  have z1 := slice_len Tryd.underlying43 Tryd.underlying3 (by kernel_rfl) g1 e1 w1
  rw [hbi] at z1
  simp only [List.cons.injEq, and_true] at e0 e1
  subst e0 e1
  exact ⟨⟨n0, ta, tn, tc, zs⟩, rfl, bounds_i64 w0, hI, hzl, z1⟩
theorem falls_trod {H : Type} {enc : TypeId × Value → H} {W : World} {cs : List Value} {x : DataW H × List MemPlace} {fuel : Nat}
    (hf : DataW.trod enc Tryd.prog W 0 (fun _ => true) true fuel 57 cs = some x) (hw : ∀ n ∈ x.1.weights Tryd.prog 57, n ≤ reachBytes) :
    ∃ a len cap fs, cs = [.slice a len cap] ∧ Falls W a len fs ∧ ∀ f ∈ fs, FallF W f := by
  rcases open_slice Tryd.underlying57 hf with ⟨hcs, hx⟩ | ⟨ad, len, cap, m, n, D, Pl, hcs, _, hl, hm, hmm, hx, hel⟩
  · exact ⟨none, 0, 0, [], hcs, ⟨rfl, fun j x hj => by simp at hj⟩, by simp⟩
  · simp only [if_true] at hmm
    have hc2 : Tryd.prog.cellsOf 102 = 2 := by kernel_rfl
    rw [hx, weights_slice Tryd.underlying57] at hw
    have each : ∀ i, i < len → ∃ v : FallV, FallF W v ∧ W.cell? (ad.add (i * 2)) = some (.int .i64 v.cut) ∧ W.cell? (ad.add (i * 2 + 1)) = some (.slice v.ta v.tn v.tc) := by
      intro i hi
      have hwD : ∀ n ∈ (D i).weights Tryd.prog 102, n ≤ reachBytes := fun n hn => hw n (List.mem_cons_of_mem _ (List.mem_append_left _ (mem_weightsAll (List.mem_map.2 ⟨i, by simpa using hi, rfl⟩) hn)))
      obtain ⟨cs2, h1, h2⟩ := hel i (by omega)
      rw [hc2] at h1
      obtain ⟨_, hlen2, hcell⟩ := World.cells?_some h1
      obtain ⟨o, rfl, ho⟩ := fall_trod h2 hwD
      have c0 := hcell 0 (by omega)
      have c1 := hcell 1 (by omega)
      rw [add_add] at c0 c1
      exact ⟨o, ho, by simpa using c0, by simpa using c1⟩
    haveI : Inhabited FallV := ⟨⟨0, none, 0, 0, []⟩⟩
    obtain ⟨q, hq⟩ := choose_lt each
    refine ⟨some ad, len, cap, (List.range len).map q, hcs, ⟨by simp, fun j x hj => ?_⟩, fun x hxm => ?_⟩
    · have hj' : j < len := by have := (List.getElem?_eq_some_iff.1 hj).1; simpa using this
      obtain rfl : q j = x := by simpa [hj'] using hj
      obtain ⟨_, c0, c1⟩ := hq j hj'
      have hz0 := (hq 0 (by omega)).2.1
      rw [Nat.zero_mul] at hz0
      obtain ⟨b, off, sp⟩ := ad
      obtain rfl : sp = none := spot_none hz0
      rw [Addr.add_lit] at c0 c1
      exact ⟨b, off, rfl, c0, c1⟩
    · obtain ⟨j, hj, rfl⟩ := List.mem_map.1 hxm
      exact (hq j (by simpa using hj)).1
/-- A life, and its falls. -/
def LifeG (W : World) (v : LifeV) : Prop := LifeF W v ∧ ∃ fs, Falls W v.ga v.gn fs ∧ ∀ f ∈ fs, FallF W f
theorem life_trod2 {H : Type} {enc : TypeId × Value → H} {W : World} {cs : List Value} {x : DataW H × List MemPlace} {fuel : Nat}
    (hf : DataW.trod enc Tryd.prog W 0 (fun _ => true) true fuel 59 cs = some x) (hw : ∀ n ∈ x.1.weights Tryd.prog 59, n ≤ reachBytes) :
    ∃ v : LifeV, cs = [.slice v.sa v.sn v.sc, .int .i64 v.cut, .slice v.ta v.tn v.tc, .slice v.ga v.gn v.gc] ∧ LifeG W v := by
  obtain ⟨v, hcs, hv⟩ := life_trod hf hw
  refine ⟨v, hcs, hv, ?_⟩
  have hcf : Tryd.prog.cellsOf 57 = 1 := by kernel_rfl
  obtain ⟨ys, k, hk, hxy, hcl, hxl, hfd⟩ := DataW.trod_struct Tryd.underlying59 hf
  have hy4 : ys.length = 4 := hxl
  obtain ⟨y0, y1, y2, y3, rfl⟩ := list4 hy4
  subst hcs
  have g3 := hfd 3 _ rfl
  simp [hcf] at g3
  have hDi : x.1 = .agg [y0.1, y1.1, y2.1, y3.1] := by simpa using congrArg (·.1) hxy
  rw [hDi, weights_struct Tryd.underlying59] at hw
  have w3 : ∀ n ∈ y3.1.weights Tryd.prog 57, n ≤ reachBytes := fun n hn => hw n (mem_weightsEach (k := 3) (t := 57) rfl rfl hn)
  obtain ⟨ga, gn, gc, fs, e3, h1, h2⟩ := falls_trod g3 w3
  simp only [List.cons.injEq, and_true, Value.slice.injEq] at e3
  obtain ⟨e4, e5, _⟩ := e3
  rw [e4, e5]
  exact ⟨fs, h1, h2⟩
def Lives (W : World) (a : Option Addr) (len : Nat) (vs : List LifeV) : Prop := vs.length = len ∧ ∀ (k : Nat) (v : LifeV), vs[k]? = some v → ∃ b o, a = some ⟨b, o, none⟩ ∧ W.cell? ⟨b, o + k * 4, none⟩ = some (.slice v.sa v.sn v.sc) ∧ W.cell? ⟨b, o + k * 4 + 1, none⟩ = some (.int .i64 v.cut) ∧ W.cell? ⟨b, o + k * 4 + 2, none⟩ = some (.slice v.ta v.tn v.tc) ∧ W.cell? ⟨b, o + k * 4 + 3, none⟩ = some (.slice v.ga v.gn v.gc)
theorem lives_trod {H : Type} {enc : TypeId × Value → H} {W : World} {cs : List Value} {x : DataW H × List MemPlace} {fuel : Nat}
    (hf : DataW.trod enc Tryd.prog W 0 (fun _ => true) true fuel 56 cs = some x) (hw : ∀ n ∈ x.1.weights Tryd.prog 56, n ≤ reachBytes) :
    ∃ a len cap vs, cs = [.slice a len cap] ∧ Lives W a len vs ∧ (∀ v ∈ vs, LifeG W v) ∧ len ≤ 9223372036854775807 := by
  rcases open_slice Tryd.underlying56 hf with ⟨hcs, hx⟩ | ⟨ad, len, cap, m, n, D, Pl, hcs, _, hl, hm, hmm, hx, hel⟩
  · exact ⟨none, 0, 0, [], hcs, ⟨rfl, fun j x hj => by simp at hj⟩, by simp, by omega⟩
  · simp only [if_true] at hmm
    have hm' : cap ≤ 9223372036854775807 := hm
    have hc4 : Tryd.prog.cellsOf 59 = 4 := by kernel_rfl
    rw [hx, weights_slice Tryd.underlying56] at hw
    have each : ∀ i, i < len → ∃ v : LifeV, LifeG W v ∧ W.cell? (ad.add (i * 4)) = some (.slice v.sa v.sn v.sc) ∧ W.cell? (ad.add (i * 4 + 1)) = some (.int .i64 v.cut) ∧ W.cell? (ad.add (i * 4 + 2)) = some (.slice v.ta v.tn v.tc) ∧ W.cell? (ad.add (i * 4 + 3)) = some (.slice v.ga v.gn v.gc) := by
      intro i hi
      have hwD : ∀ n ∈ (D i).weights Tryd.prog 59, n ≤ reachBytes := fun n hn => hw n (List.mem_cons_of_mem _ (List.mem_append_left _ (mem_weightsAll (List.mem_map.2 ⟨i, by simpa using hi, rfl⟩) hn)))
      obtain ⟨cs2, h1, h2⟩ := hel i (by omega)
      rw [hc4] at h1
      obtain ⟨_, hlen2, hcell⟩ := World.cells?_some h1
      obtain ⟨o, rfl, ho⟩ := life_trod2 h2 hwD
      have c0 := hcell 0 (by omega)
      have c1 := hcell 1 (by omega)
      have c2 := hcell 2 (by omega)
      have c3 := hcell 3 (by omega)
      rw [add_add] at c0 c1 c2 c3
      exact ⟨o, ho, by simpa using c0, by simpa using c1, by simpa using c2, by simpa using c3⟩
    haveI : Inhabited LifeV := ⟨⟨none, 0, 0, [], 0, none, 0, 0, [], none, 0, 0⟩⟩
    obtain ⟨q, hq⟩ := choose_lt each
    refine ⟨some ad, len, cap, (List.range len).map q, hcs, ⟨by simp, fun j x hj => ?_⟩, fun x hxm => ?_, by omega⟩
    · have hj' : j < len := by have := (List.getElem?_eq_some_iff.1 hj).1; simpa using this
      obtain rfl : q j = x := by simpa [hj'] using hj
      obtain ⟨_, c0, c1, c2, c3⟩ := hq j hj'
      have hz0 := (hq 0 (by omega)).2.1
      rw [Nat.zero_mul] at hz0
      obtain ⟨b, off, sp⟩ := ad
      obtain rfl : sp = none := spot_none hz0
      rw [Addr.add_lit] at c0 c1 c2 c3
      exact ⟨b, off, rfl, c0, by rw [Nat.add_assoc]; exact c1, by rw [Nat.add_assoc]; exact c2, by rw [Nat.add_assoc]; exact c3⟩
    · obtain ⟨j, hj, rfl⟩ := List.mem_map.1 hxm
      exact (hq j (by simpa using hj)).1
theorem lives_arg {H : Type} {enc : TypeId × Value → H} {W : World} {a : Option Addr} {len cap : Nat} {ts : List TypeId} {ds : List (DataW H)} {j : Nat} {d : DataW H} {p : List MemPlace}
    (h : (DataW.weightsEach Tryd.prog ts ds).all (· ≤ reachBytes) = true) (ht : ts[j]? = some 56) (hd : ds[j]? = some d)
    (h0 : DataW.Trod enc Tryd.prog W 0 (fun _ => true) true 56 (.slice a len cap) d p) :
    ∃ vs : List LifeV, Lives W a len vs ∧ (∀ v ∈ vs, LifeG W v) ∧ len ≤ 9223372036854775807 := by
  obtain ⟨fuel, hf⟩ := h0
  obtain ⟨a', len', cap', vs, hcs, h1, h2, h3⟩ := lives_trod hf (fun n hn => by
    have := List.all_eq_true.1 h n (mem_weightsEach ht hd hn)
    simpa using this)
  simp [Value.cells] at hcs
  obtain ⟨rfl, rfl, rfl⟩ := hcs
  exact ⟨vs, h1, h2, h3⟩
end Go.Proofs.YtdogjicccajnkaaDoor
