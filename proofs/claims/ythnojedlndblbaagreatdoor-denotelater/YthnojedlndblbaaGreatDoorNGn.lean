/- texts put together: NTerm NRl NRbeg -/
import Derived.Test.YthnojedlndblbaaGreatDoorNGm
import Derived.Test.YthnojedlndblbaaGreatDoorNGd
import Derived.Test.YthnojedlndblbaaGreatDoorNGk
namespace Go.Proofs.YthnojedlndblbaaGreatDoor
open Go Go.RowKit

end Go.Proofs.YthnojedlndblbaaGreatDoor
namespace Go.Proofs.YthnojedlndblbaaGreatDoor
open Go Go.RowKit

theorem bel1 {s : St} {b : Nat} {ob : Obj} {w w' : World} {Q : World → Prop} (hob : w.heap[b]? = some ob) (hm : Holds s.mem w') (hI : Stay s.mem.ids w' (fun w2 => Ch (Mem.ids [(b, ob)]) w w2 ∧ Q w2)) (e : s.mem.take 1 = [(b, ob)] := by kernel_rfl) : Below w.heap.size w w' := below_end (holds1 hob) hI.now.1 hm e
end Go.Proofs.YthnojedlndblbaaGreatDoor
namespace Go.Proofs.YthnojedlndblbaaGreatDoor
open Go Go.RowKit

theorem beg_len {fs : Fs} {day : Int} {c : Co} : (begR fs day c).1.1.length ≤ 1000000000 ∧ (begR fs day c).1.2.length ≤ 1000000000 := by
  rcases beg_cases fs day c with ⟨h1, h2⟩ | ⟨h1, -⟩
  · have hc := (chk_typ (c := c) (by simp only [Bool.and_eq_true] at h2; exact h2.1)).2.1
    have := acq_len fs day c 0 1000000
    rw [h1]
    constructor <;> (simp only; omega)
  · rw [h1]; simp [r0]
end Go.Proofs.YthnojedlndblbaaGreatDoor
