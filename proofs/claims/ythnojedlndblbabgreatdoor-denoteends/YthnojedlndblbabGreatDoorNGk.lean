/- texts put together: NRf -/
import Derived.Test.YthnojedlndblbabGreatDoorNGg
namespace Go.Proofs.YthnojedlndblbabGreatDoor
open Go Go.RowKit

theorem Cel.same {w w' : World} {b o : Nat} {v : Value} {ob : Obj} (h : w.cell? ⟨b, o, none⟩ = some v) (e : w.heap[b]? = some ob) (e' : w'.heap[b]? = some ob) : w'.cell? ⟨b, o, none⟩ = some v := (cell_same (e'.trans e.symm)).trans h
end Go.Proofs.YthnojedlndblbabGreatDoor
