/- the text PGuard -/
import Derived.Test.YtcmgclkbhhdnaaaGreatDoorPOfC
namespace Go.Proofs.YtcmgclkbhhdnaaaGreatDoor
open Go Go.RowKit

section
variable {ops : Array Oper} {o : Oper} {w : World} {rest : List Oper} {Q : Exit → Act → World → Prop}
/-- As wp_y, guarded or not: where it is not wanted, it yields nothing. -/
theorem wp_yg {v : Value} {d : Nat} {tmps T : Array Value} {ds : List Deferred} (hd : o.dst = some d) (hy : YieldsIf Tryz.prog ops (fun w' => w' = w) o v ⟨tmps, ds⟩) (hT : tmps.setIfInBounds d v = T) (hK : wpList Tryz.prog ops Q rest ⟨T, ds⟩ w) : wpList Tryz.prog ops Q (o :: rest) ⟨tmps, ds⟩ w := by
  subst hT
  rcases hy with ⟨hw, h⟩ | ⟨hw, rfl⟩
  · refine wpList_step fun K hK' => ?_
    simp only [hw, if_true]
    unfold Oper.wp
    rw [h w rfl, Oper.upon_value]
    refine hK' _ _ ?_
    rw [hd]; exact hK
  · refine wpList_skip hw ?_
    rw [hd]; exact hK
end
theorem Mk.look1 {w : World} {m : Nat} {ks : List Int} {f : Int → Option Value} (h : Mk w m ks f) {T E : TypeId} (hu : Tryz.prog.underlying T = some (.map 3 E)) {z : Value} (hz : ∀ w, (zeroValue E).run Tryz.prog w = .ok z w) (k : Int) :
    (Instr.lookup T (.map (some m)) (.int .i64 k) false).run Tryz.prog w = .ok ((f k).getD z) w := by
  obtain ⟨es, cl, hm, hv⟩ := h
  have hn : Instr.findKey 3 (.int .i64 k) es.toList = (do
      match Instr.findNow (← underlying 3) (.int .i64 k) es.toList 0 with
      | some r => pure r
      | none => Instr.findAsking 3 (.int .i64 k) es.toList) := rfl
  by_cases hk : k ∈ ks
  · obtain ⟨i, hi⟩ := List.getElem?_of_mem hk
    have hil : i < es.toList.length := by rw [hv.len]; exact (List.getElem?_eq_some_iff.1 hi).1
    have hx : es.toList[i]? = some es.toList[i] := List.getElem?_eq_getElem hil
    have hf := fn_in es.toList ks 0 i k _ hv.keys hv.nd hi hx
    rw [hv.vals i _ k hx hi]
    simp only [Instr.lookup, Sem.run_bind, run_underlying hu, Result.andThen_ok, MapKept.run_getObj_map hm, Sem.run_pure, check_int, hn, run_underlying Tryz.underlying3, hf]
    rfl
  · have hf := fn_out es.toList ks 0 k hv.keys hk
    rw [hv.out k hk]
    simp only [Instr.lookup, Sem.run_bind, run_underlying hu, Result.andThen_ok, MapKept.run_getObj_map hm, Sem.run_pure, check_int, hn, run_underlying Tryz.underlying3, hf, hz]
    rfl
theorem Mk.new (w : World) : Mk (w.alloc (.map #[] 0)) w.heap.size [] (fun _ => none) := ⟨#[], 0, heap_alloc_last w _, Mv.empty⟩
theorem Mk.len {w : World} {m : Nat} {ks : List Int} {f : Int → Option Value} (h : Mk w m ks f) (ty : TypeId) : (Builtin.len_ #[67] ty #[.map (some m)]).run Tryz.prog w = .ok (.int .i64 ks.length) w := by
  obtain ⟨es, cl, hm, hv⟩ := h
  have hl : es.size = ks.length := by rw [← hv.len]; simp
  rw [← hl]
  simp [Builtin.len_, MapKept.run_getObj_map hm, Sem.run_bind, Sem.run_pure, Result.andThen, run_underlying Tryz.underlying67]
  rfl
end Go.Proofs.YtcmgclkbhhdnaaaGreatDoor
