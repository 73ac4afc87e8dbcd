/- The engine: regions that draw their order, with calls that only make new blocks, and with blocks that are known by a fact. -/
import Derived.Test.YtfblnjidghijaaaEIn
namespace Go.Proofs.Ytfblnjidghijaaa
open Go Go.RowKit

section
variable {P : Program} {F : Exit → Act → World → Prop} {Inv : World → Prop} {s : St} {fn : Func} {R : Ending → World → Prop}
/-- A region that draws its order is opened; it reads other blocks, too. -/
def openedY (js : List Nat) (ex : Mem) (s : St) : St :=
  match s.todo with
  | .code (.region _ ops true) :: k => { s with todo := .any ops (sub js s.mem ++ ex) ops.size (Array.replicate ops.size false) :: k }
  | _ => s
theorem Holds.cat {m m' : Mem} {w : World} (h : Holds m w) (h' : Holds m' w) : Holds (m ++ m') w := by
  intro j b o hj
  rcases List.mem_append.1 (List.mem_of_getElem? hj) with hx | hx
  · obtain ⟨i, hi⟩ := List.getElem?_of_mem hx
    exact h i b o hi
  · obtain ⟨i, hi⟩ := List.getElem?_of_mem hx
    exact h' i b o hi
theorem Goes.openY (js : List Nat) (ex : Mem) (hex : ∀ w, Inv w → Holds ex w) (h : Goes P F Inv (openedY js ex s)) (hm : P.follows .mixedOrders = true := by kernel_rfl) : Goes P F Inv s := by
  unfold openedY at h
  split at h
  · rename_i id ops k ht
    intro w h1 h2 h3
    rw [ht]
    exact qk_any hm ((sub_holds h1).cat (hex w h3.now)) (h { w with drawn := w.drawn + 1 } h1 h2 (h3.ch ⟨rfl, rfl, rfl, Nat.le_refl _, fun _ _ _ => rfl⟩ (fun x hx => .inl hx)))
  · exact h
theorem Holds.bel {m : Mem} {w w' : World} (h : Holds m w) (hB : Below w.heap.size w w') : Holds m w' := fun j b o hj => (hB.block b (lt_of_get (h j b o hj))).trans (h j b o hj)
theorem Stay.bel {L : List Nat} {w w' : World} (h : Stay L w Inv) (hB : Below w.heap.size w w') : Stay L w' Inv := h.ch ⟨hB.os, hB.tape, hB.output, hB.size, fun i hi _ => hB.block i hi⟩ (fun _ hx => .inl hx)
/-- The one that may come up is a call that only makes new blocks. -/
theorem Goes.callA0 (i : Nat) (f : FuncId) (args : Array Value) (v : Value) (hr : ∀ w, Holds s.mem w → Stay s.mem.ids w Inv → Calls P f args w fun e w' => e = .returned v ∧ Below w.heap.size w w') (h : Goes P F Inv (putA0 i s v)) (ha : askA i s = some (f, args) := by kernel_rfl) (hw : anyLone i s = true := by kernel_rfl) (hf : okf P f = true := by kernel_rfl) : Goes P F Inv s :=
  Goes.callA i f args (fun _ _ _ _ _ _ w hm hn hI h0 => (hr w hm hI).mono fun _ _ ⟨he, hB⟩ => ⟨v, Inv, s.mem, he, h0.bel hB, hm.bel hB, hn, hI.bel hB, h⟩) ha hw hf
end
end Go.Proofs.Ytfblnjidghijaaa
