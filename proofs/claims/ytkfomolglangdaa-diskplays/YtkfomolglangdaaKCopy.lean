/- 'append([]T{}, xs...)': a copy of a slice, in a row of the call's own. -/
import Derived.Test.YtkfomolglangdaaKDoes
import Derived.Deep.AppendSrc
namespace Go.Proofs.Ytkfomolglangdaa
open Go Go.RowKit

theorem addII (x y z : Int) (hz : IntKind.i64.wrap (x + y) = z) (w : World) : (binOp .add 3 (.int .i64 x) (.int .i64 y)).run Try.prog w = .ok (.int .i64 z) w := by
  subst hz; go_simp
theorem Ref.bothFr {w w' : World} {B r q p r0 : Nat} {s : DS} (h : Ref w B r s) (hb : Bo w q p r0) (hF : Fr [q] w w') : Ref w' B r s := by
  have ne : ∀ (g : Nat) (c : Array Value) (t : TypeId), t ≠ 33 → w.heap[g]? = some (.cells c t (0, 0)) → g ∉ [q] := fun g c t ht hg hm => by
    obtain rfl : g = q := by simpa using hm
    rw [Bo, hg] at hb; cases hb; exact ht rfl
  obtain ⟨vs, vl, hB, hR, hS, hL, hok⟩ := h
  exact ⟨vs, vl, hB, hR.fr hF (ne _ _ _ (by decide) hR), hS.fr hF (fun g c => ne g c _ (by decide)) (fun g c => ne g c _ (by decide)), hL.fr hF (fun g c => ne g c _ (by decide)) (fun g c => ne g c _ (by decide)), hok⟩
theorem ob_both {w : World} {ob q p r : Nat} {x : OpV} (ho : Ob w ob x) (hb : Bo w q p r) : ob ∉ [q] := fun hm => by
  obtain rfl : ob = q := by simpa using hm
  rw [Ob] at ho; rw [Bo, ho] at hb; cases hb
theorem ext0 (a b : Value) (w : World) : (Instr.extract (.tuple #[a, b]) 0).run Try.prog w = .ok a w := by go_simp
theorem ext1 (a b : Value) (w : World) : (Instr.extract (.tuple #[a, b]) 1).run Try.prog w = .ok b w := by go_simp
theorem bslice0b (w : World) : (Instr.buildSlice 35 0 #[]).run Try.prog w = .ok (.slice (some ⟨w.heap.size, 0, none⟩) 0 0) (w.alloc (.cells #[] 5)) := by go_simp
theorem bslice0i (w : World) : (Instr.buildSlice 36 0 #[]).run Try.prog w = .ok (.slice (some ⟨w.heap.size, 0, none⟩) 0 0) (w.alloc (.cells #[] 3)) := by go_simp
theorem run_bs0 {o : Oper} {a : Act} {w w1 : World} {t : TypeId} {v : Value} (hop : o.op = .buildSlice t 0 #[]) (hr : (Instr.buildSlice t 0 #[]).run Try.prog w = .ok v w1) :
    (execOp a.eval o).run Try.prog w = .ok (.value v) w1 := by
  unfold execOp; rw [hop]
  simp only [List.map_toArray, List.map_nil, Sem.run_bind, hr, Result.andThen_ok]; rfl
theorem copyE {t e ty : TypeId} {z : Value} {bs : Nat} (ht : Try.prog.underlying t = some (.slice e)) (hinfo : (Try.prog.info? e).map (fun i => (i.zero, i.size, i.bytes)) = some (some z, 1, bs)) (hzc : z.cells.size = 1) (hbs : 0 < bs)
    (w : World) (a : Option Addr) (len cap : Nat) (cs : List Value) (hlen : cs.length = len) (hcells : len ≠ 0 → ∃ b off, a = some ⟨b, off, none⟩ ∧ ∀ (j : Nat) (u : Value), cs[j]? = some u → w.cell? ⟨b, off + j, none⟩ = some u) (hone : ∀ u ∈ cs, u.oneCell' = true) (hb : len * bs ≤ 140737488351232) :
    ∃ g c w', (Builtin.append_ #[t, t] ty #[.slice (some ⟨w.heap.size, 0, none⟩) 0 0, .slice a len cap]).run Try.prog (w.alloc (.cells #[] e)) = .ok (.slice (some ⟨g, 0, none⟩) len c) w' ∧ w'.ownsRow w.heap.size e 1 (.slice (some ⟨g, 0, none⟩) len c) len cs ∧ Below w.heap.size w w' := by
  obtain ⟨i0, hi, hz0, hz1, hz2⟩ := info_parts hinfo
  have hB0 : Below w.heap.size w (w.alloc (.cells #[] e)) := (Below.refl _ _).alloc (Nat.le_refl _) _
  have hown0 : (w.alloc (.cells #[] e)).ownsRow w.heap.size e 1 (.slice (some ⟨w.heap.size, 0, none⟩) 0 0) 0 [] := ⟨rfl, .inr ⟨w.heap.size, 0, #[], rfl, Nat.le_refl _, heap_alloc_last w _, Nat.le_refl _, Nat.zero_le _, rfl, rfl⟩⟩
  have hll : len ≤ 140737488351232 := Nat.le_trans (Nat.le_mul_of_pos_right _ hbs) hb
  cases a with
  | none =>
    have h0 : len = 0 := by
      rcases Nat.eq_zero_or_pos len with h | h
      · exact h
      · obtain ⟨b, off, e', _⟩ := hcells (by omega); cases e'
    subst h0
    obtain rfl : cs = [] := List.eq_nil_of_length_eq_zero hlen
    have hs : Src Try.prog i0.size t (.slice none 0 cap) 0 [] (w.alloc (.cells #[] e)) := Src.ofNil _ ht cap
    have hr := run_append_room_src (P := Try.prog) (w.alloc (.cells #[] e)) t t ty e i0 ht hi w.heap.size 0 0 0 (.slice none 0 cap) 0 [] hs (Nat.le_refl _) (by simp) (by simp)
    exact ⟨w.heap.size, 0, _, hr, hown0, hB0⟩
  | some ad =>
    obtain ⟨v', w', hr, ho, hg, hv⟩ := run_append_own (P := Try.prog) (w.alloc (.cells #[] e)) w.heap.size t ty e i0 z 1 bs ht hi hz0 hz1 hz2 hzc (by decide) (.slice (some ⟨w.heap.size, 0, none⟩) 0 0) 0 [] hown0 ad len cap cs (by omega)
      (fun j u hu => by
        have hj : j < cs.length := (List.getElem?_eq_some_iff.1 hu).1
        obtain ⟨b, off, e', hc⟩ := hcells (by omega)
        cases e'
        rw [Addr.add_lit, hB0.cell (p := ⟨b, off + j, none⟩) (World.block_lt_of_cell? w _ (hc j u hu))]
        exact hc j u hu) hone (by unfold maxLen; omega) (by rw [Nat.zero_add]; omega) (by simp)
    rw [Nat.zero_add, List.nil_append] at ho
    have hne : v' ≠ .slice none 0 0 := fun e => by have := (hv.1 e).1; cases this
    rcases ho.2 with ⟨e, _⟩ | ⟨g, c, cur, rfl, r⟩
    · exact absurd e hne
    · exact ⟨g, c, w', hr, ho, hB0.grown hg (by simp) (fun k hk => by simp [Value.ownBlock] at hk; omega)⟩
theorem copyB {w : World} {a : Option Addr} {len cap : Nat} {l : List UInt8} (ty : TypeId) (hs : Sl w (.slice a len cap) l) (hb : len ≤ 140737488351232) :
    ∃ g c w', (Builtin.append_ #[35, 35] ty #[.slice (some ⟨w.heap.size, 0, none⟩) 0 0, .slice a len cap]).run Try.prog (w.alloc (.cells #[] 5)) = .ok (.slice (some ⟨g, 0, none⟩) len c) w' ∧ w'.ownsRow w.heap.size 5 1 (.slice (some ⟨g, 0, none⟩) len c) len (cells8 l) ∧ Below w.heap.size w w' := by
  obtain ⟨a', cap', e, hc, hn, hr⟩ := hs
  cases e
  refine copyE Try.underlying35 info8 rfl (by decide) w a l.length cap (cells8 l) (cells8_len l) (fun h => ?_) (cells8_one l) (by omega)
  obtain ⟨b, off, e, hrd⟩ := hr (by intro e; rw [e] at h; exact h rfl)
  exact ⟨b, off, e, fun j u hu => by
    have hj : j < l.length := by have := (List.getElem?_eq_some_iff.1 hu).1; rwa [cells8_len] at this
    rw [hrd j hj, ← hu, cells8_get l j hj]⟩
theorem infoI : (Try.prog.info? 3).map (fun i => (i.zero, i.size, i.bytes)) = some (some (.int .i64 0), 1, 8) := by kernel_rfl
def cellsI (zs : List Int) : List Value := zs.map fun z => .int .i64 z
theorem copyI {w : World} {n₀ : Nat} {a : Option Addr} {len cap : Nat} {zs : List Int} (ty : TypeId) (hs : Ints n₀ w a len zs) (hb : len * 8 ≤ 140737488351232) :
    ∃ g c w', (Builtin.append_ #[36, 36] ty #[.slice (some ⟨w.heap.size, 0, none⟩) 0 0, .slice a len cap]).run Try.prog (w.alloc (.cells #[] 3)) = .ok (.slice (some ⟨g, 0, none⟩) len c) w' ∧ w'.ownsRow w.heap.size 3 1 (.slice (some ⟨g, 0, none⟩) len c) len (cellsI zs) ∧ Below w.heap.size w w' := by
  obtain ⟨hl, hr⟩ := hs
  refine copyE Try.underlying36 infoI rfl (by decide) w a len cap (cellsI zs) (by simp [cellsI, hl]) (fun h => ?_) (fun u hu => by obtain ⟨_, _, rfl⟩ := List.mem_map.1 hu; rfl) hb
  obtain ⟨b, off, e, _, hc⟩ := hr h
  exact ⟨b, off, e, fun j u hu => by
    have hj : j < zs.length := by have := (List.getElem?_eq_some_iff.1 hu).1; simpa [cellsI] using this
    rw [hc j hj, ← hu]
    simp [cellsI, hj]⟩
theorem ints_owned {w : World} {B g len c : Nat} {zs : List Int} (h : w.ownsRow B 3 1 (.slice (some ⟨g, 0, none⟩) len c) len (cellsI zs)) : Ints w.heap.size w (some ⟨g, 0, none⟩) len zs :=
  ⟨by have := h.1; simpa [cellsI] using this, fun _ => ⟨g, 0, rfl, (h.lt g rfl).2, fun j hj => by
    rw [Nat.zero_add]
    exact own_cell h (by simp [cellsI, hj])⟩⟩
end Go.Proofs.Ytkfomolglangdaa
