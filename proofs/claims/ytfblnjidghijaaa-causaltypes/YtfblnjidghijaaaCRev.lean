/- slices.Reverse of a row of numbers in a block of its own. -/
import Derived.Test.YtfblnjidghijaaaShelf
import Derived.Test.YtfblnjidghijaaaCKids
namespace Go.Proofs.Ytfblnjidghijaaa
open Go Go.RowKit

theorem rev_any {w : World} {g : Nat} {ks : List Int} (c : Nat) (hg : w.heap[g]? = some (.cells (ks.map (Value.int .i64)).toArray 3 (0, 0))) (hl : ks.length ≤ 3) :
    Calls Try.prog 47 #[.slice (some ⟨g, 0, none⟩) ks.length c] w fun e w' => e = .returned (.tuple #[]) ∧ Ch [g] w w' ∧ w'.heap[g]? = some (.cells (ks.reverse.map (Value.int .i64)).toArray 3 (0, 0)) := by
  have hH : Sort.Holds (Value.int .i64) w g 0 ks.toArray := by
    intro j hj
    have hj' : j < ks.length := by simpa using hj
    unfold World.cell? World.frozen?
    simp only [hg]
    simp [hj']
  refine (Try.slices_Reverse_int g 0 c ks w hH (by omega)).mono fun e w' ⟨he, n, hw⟩ => ⟨he, ?_⟩
  subst hw
  refine ⟨⟨rfl, rfl, rfl, by simp [Sort.ahead], fun i hi hx => ?_⟩, ?_⟩
  · have hne : g ≠ i := fun e => hx (by simp [e])
    show (w.heap.modify g _)[i]? = _
    rw [Array.getElem?_modify, if_neg hne]
  · show (w.heap.modify g _)[g]? = _
    rw [Array.getElem?_modify, if_pos rfl, hg]
    simp only [Option.map_some, Option.some.injEq]
    clear hg hH
    match ks, hl with
    | [], _ => rfl
    | [_], _ => rfl
    | [_, _], _ => rfl
    | [_, _, _], _ => rfl
    | _ :: _ :: _ :: _ :: _, h => simp at h
end Go.Proofs.Ytfblnjidghijaaa
