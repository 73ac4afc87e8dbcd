/- texts put together: NRf -/
import Derived.Test.YthnojedlndblbaaGreatDoorNGg
namespace Go.Proofs.YthnojedlndblbaaGreatDoor
open Go Go.RowKit

def lstD (l : List (Int × Int)) : Nat → Int
  | 0 => -1
  | j + 1 => ((l[j]?).map (·.1)).getD (-1)
theorem Cel.same {w w' : World} {b o : Nat} {v : Value} {ob : Obj} (h : w.cell? ⟨b, o, none⟩ = some v) (e : w.heap[b]? = some ob) (e' : w'.heap[b]? = some ob) : w'.cell? ⟨b, o, none⟩ = some v := (cell_same (e'.trans e.symm)).trans h
end Go.Proofs.YthnojedlndblbaaGreatDoor
