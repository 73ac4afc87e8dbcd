/- the text OTwW -/
import Derived.Test.YtekgfdbeinacjaaGreatDoorAG15
import Derived.Test.YtekgfdbeinacjaaGreatDoorAG3
namespace Go.Proofs.YtekgfdbeinacjaaGreatDoor
open Go Go.RowKit

abbrev nilV : Value := .slice none 0 0
theorem KI.begin {w : World} {m : World → Prop} : ∀ w', (Ch (Mem.ids []) w w' ∧ m w') → KI w (fun _ => False) w nilV 0 [] w' := fun w' h => ⟨h.1, w'.ownsRow_nil _ _ _, fun x hx => hx.elim, fun r hr => by cases hr⟩
section
variable {A B : Nat → Prop} {w wf w1 w2 : World} {v : Value} {c : Co} (hA : ∀ x, A x → x < w.heap.size) (hAw : ∀ x, A x → wf.heap[x]? = w.heap[x]?) (hI : KI w B wf nilV 0 [] w1)
include hA hI
theorem KI.lt : ∀ x, (A x ∨ B x) → x < w1.heap.size := fun x hx => by
  rcases hx with hx | hx
  · exact Nat.lt_of_lt_of_le (hA x hx) hI.ch.size
  · exact (hI.stay x hx).2.2
include hAw
/-- A term that stays is there. -/
theorem KI.nc (h : NcS (fun x => A x ∨ B x) wf v c) : NcS (fun x => A x ∨ B x) w1 v c := h.later fun x hx => by
  rcases hx with hx | hx
  · rw [hAw x hx, hI.bel.block x (hA x hx)]
  · exact (hI.stay x hx).1
theorem KI.nc' (h : NcS (fun x => A x ∨ B x) wf v c) : Nc w1.heap.size w1 v c := (KI.nc hA hAw hI h).toN (KI.lt hA hI)
/-- It stays behind a call. -/
theorem KI.lift (hB : Below w1.heap.size w1 w2) (h : NcS (fun x => A x ∨ B x) wf v c) : NcS (fun x => A x ∨ (B x ∨ (w1.heap.size ≤ x ∧ x < w2.heap.size))) w2 v c := ((KI.nc hA hAw hI h).bel (KI.lt hA hI) hB).mono fun _ hx => hx.elim .inl fun hx => .inr (.inl hx)
omit hAw in
theorem KI.old (hB : Below w1.heap.size w1 w2) : ∀ x, A x → w2.heap[x]? = w.heap[x]? := fun x hx => by
  rw [hB.block x (Nat.lt_of_lt_of_le (hA x hx) hI.ch.size), hI.bel.block x (hA x hx)]
omit hA hAw hI in
theorem since_lift (h : NcS (Since (fun x => A x ∨ B x) w1 w2) w2 v c) : NcS (fun x => A x ∨ (B x ∨ (w1.heap.size ≤ x ∧ x < w2.heap.size))) w2 v c := h.mono fun x hx => by
  rcases hx with (hx | hx) | hx
  · exact .inl hx
  · exact .inr (.inl hx)
  · exact .inr (.inr hx)
end
end Go.Proofs.YtekgfdbeinacjaaGreatDoor
