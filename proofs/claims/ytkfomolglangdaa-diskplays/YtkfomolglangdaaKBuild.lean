/- A write is built of where and what. -/
import Derived.Test.YtkfomolglangdaaKMem
namespace Go.Proofs.Ytkfomolglangdaa
open Go Go.RowKit

theorem fold_get : ∀ (vs : List Value) (k : Nat) (off : Nat) (cells : Array Value) (i : Nat), off + k + vs.length ≤ cells.size →
    ((vs.zipIdx k).foldl (fun (cs : Array Value) (x : Value × Nat) => cs.setIfInBounds (off + x.2) x.1) cells)[i]? = if off + k ≤ i ∧ i < off + k + vs.length then vs[i - (off + k)]? else cells[i]?
  | [], k, off, cells, i, _ => by
    have : ¬ (off + k ≤ i ∧ i < off + k + ([] : List Value).length) := by simp
    rw [if_neg this]; rfl
  | v :: r, k, off, cells, i, h => by
    have ih := fold_get r (k + 1) off (cells.setIfInBounds (off + k) v) i (by simp at h ⊢; omega)
    simp only [List.zipIdx_cons, List.foldl_cons]
    rw [ih]
    simp only [List.length_cons] at h ⊢
    by_cases e : i = off + k
    · subst e
      rw [if_neg (by omega), if_pos (by omega), Array.getElem?_setIfInBounds_self_of_lt (by omega)]
      simp
    · by_cases hin : off + (k + 1) ≤ i ∧ i < off + (k + 1) + r.length
      · rw [if_pos hin, if_pos (by omega)]
        have : i - (off + k) = (i - (off + (k + 1))) + 1 := by omega
        rw [this, List.getElem?_cons_succ]
      · rw [if_neg hin, if_neg (by omega)]
        rw [Array.getElem?_setIfInBounds_ne (by omega)]

theorem fold_size : ∀ (vs : List Value) (k : Nat) (off : Nat) (cells : Array Value), ((vs.zipIdx k).foldl (fun (cs : Array Value) (x : Value × Nat) => cs.setIfInBounds (off + x.2) x.1) cells).size = cells.size
  | [], _, _, _ => rfl
  | v :: r, k, off, cells => by simp [List.zipIdx_cons, fold_size r (k + 1) off]

theorem fill_two (z : Array Value) (hz : z.size = 129) (x : Value) (hx : x.cells = #[x]) (cs : List Value) (hc : cs.length = 128) (pl : Nat → Option (Nat × Nat)) (h0 : pl 0 = some (0, 1)) (h1 : pl 1 = some (1, 128)) :
    Instr.fill pl z [(0, x), (1, .agg cs.toArray)] = some (x :: cs).toArray := by
  have hs : (z.setIfInBounds 0 x).size = 129 := by simp [hz]
  unfold Instr.fill
  rw [h0]
  simp only [hx, List.size_toArray, List.length_cons, List.length_nil, hz]
  rw [if_neg (by simp)]
  unfold Instr.fill
  rw [h1]
  have e0' : ((#[x] : Array Value).zipIdx.foldl (fun (cs : Array Value) (y : Value × Nat) => match y with | (c, j) => cs.setIfInBounds (0 + j) c) z) = z.setIfInBounds 0 x := by simp
  simp only [Value.cells, List.size_toArray, hc, e0', hs]
  rw [if_neg (by simp)]
  unfold Instr.fill
  congr 1
  apply Array.ext_getElem?
  intro i
  have := fold_get cs 0 1 (z.setIfInBounds 0 x) i (by rw [hs, hc]; omega)
  rw [← Array.foldl_toList, Array.toList_zipIdx]
  simp only at this ⊢
  rw [this]
  rcases i with _ | i
  · simp [hz]
  · by_cases hi : i < 128
    · rw [if_pos (by omega)]; simp
    · rw [if_neg (by omega), Array.getElem?_eq_none (by simp [hz]; omega), List.getElem?_toArray, List.getElem?_eq_none (by simp [hc]; omega)]

theorem build76 (w : World) (n : Int) (cs : List Value) (hc : cs.length = 128) :
    (Instr.build 76 #[(0, .int .i64 n), (1, .agg cs.toArray)]).run Try.prog w = .ok (.agg (.int .i64 n :: cs).toArray) w := by
  unfold Instr.build
  simp only [Sem.run_bind, zero76, Result.andThen_ok, run_underlying Try.underlying76]
  have e : ∀ a : Array (Nat × Nat), a = #[(0, 1), (1, 128)] → Instr.fill (fun x => a[x]?) zw.cells [(0, .int .i64 n), (1, .agg cs.toArray)] = some (.int .i64 n :: cs).toArray := fun a ha => by
    subst ha
    exact fill_two zw.cells (by decide +kernel) _ rfl cs hc _ rfl rfl
  have hm := fun (w : World) => run_size size70 w
  have hmm : ∀ f g : Field, f.type = 3 → f.offset = 0 → g.type = 70 → g.offset = 1 → Sem.run Try.prog (Array.mapM (fun f => do
      let s ← Go.sizeOf f.type
      pure (f.offset, s)) #[f, g]) w = .ok #[(0, 1), (1, 128)] w := fun f g h1 h2 h3 h4 => by
    simp [h1, h2, h3, h4, hm, Try.sizeOf3]
  rw [hmm _ _ rfl rfl rfl rfl, Result.andThen_ok, e _ rfl]
  rfl
end Go.Proofs.Ytkfomolglangdaa
