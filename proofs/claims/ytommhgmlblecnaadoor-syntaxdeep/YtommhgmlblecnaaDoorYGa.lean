/- texts put together: WMath WRow SBase SRow STree -/
import Derived.WalkKit
import Derived.Test.YtommhgmlblecnaaDoorChecked
import Derived.WalkSpells
import Derived.WalkLawsBesides
import Derived.OwnWalk
import Derived.Room.AppendFits
import Derived.Deep.AppendSrc
import Derived.Deep.AppendLies
import Derived.Laws.IdiomStrings
import Derived.Laws.Bits64b
import Derived.Deep.WholeRow
import Derived.Laws.CopyRow
import Derived.Laws.IdiomCopy
import Derived.Deep.QuietTactic
import Derived.BigQuiet
import Derived.MapKept
import Derived.ChangeMaps5
import Derived.OrdersHeld
import Derived.BigRegion
import Derived.Deep.Cut
namespace Go.Proofs.YtommhgmlblecnaaDoor
open Go Go.RowKit

theorem u8_ext {a b : UInt8} (h : a.toNat = b.toNat) : a = b := UInt8.toNat_inj.1 h

end Go.Proofs.YtommhgmlblecnaaDoor
namespace Go.Proofs.YtommhgmlblecnaaDoor
open Go Go.RowKit

theorem hid {p : Prop} (h : p) : Hid p := h

end Go.Proofs.YtommhgmlblecnaaDoor
namespace Go.Proofs.YtommhgmlblecnaaDoor
open Go Go.RowKit

section
variable {P : Program} {w w' : World} {ops : Array Oper} {rest : List Oper} {a : Act} {Q : Exit → Act → World → Prop} {dst : Option Nat} {ty : TypeId} {pos : String} {after : Array Edge}

end

theorem add_lit (b o j : Nat) : (⟨b, o, none⟩ : Addr).add j = ⟨b, o + j, none⟩ := by unfold Addr.add; split <;> simp_all

/-- A row of cells with some of them laid anew. -/
def relaid (cur : Array Value) (o : Nat) (cs : List Value) : Array Value := (cur.toList.take o ++ cs ++ cur.toList.drop (o + cs.length)).toArray

theorem stores (P : Program) (w : World) (b o : Nat) (cur : Array Value) (t : TypeId) (cs : List Value) (hg : w.heap[b]? = some (.cells cur t (0, 0))) (hl : o + cs.length ≤ cur.size) (h1 : ∀ v ∈ cs, v.oneCell' = true) :
    (storeCells ⟨b, o, none⟩ cs 0).run P w = .ok () (w.setRow b (relaid cur o cs)) := by
  have := run_storeCells_at (P := P) b o t cs 0 cur w hg (by simpa using hl) h1
  simpa [relaid] using this

theorem run_size {P : Program} {t : TypeId} {n : Nat} (h : (P.info? t).map (·.size) = some n) (w : World) : (Go.sizeOf t).run P w = .ok n w := by
  cases hq : P.info? t with
  | none => simp [hq] at h
  | some i => simp [hq] at h; simp [Go.sizeOf, typeInfo, hq, h]

end Go.Proofs.YtommhgmlblecnaaDoor
namespace Go.Proofs.YtommhgmlblecnaaDoor
open Go Go.RowKit

end Go.Proofs.YtommhgmlblecnaaDoor
namespace Go.Proofs.YtommhgmlblecnaaDoor
open Go Go.RowKit

variable {ops : Array Oper} {S : World → Prop} {o : Oper} {a : Act}

variable {Q : Exit → Act → World → Prop} {md : Region.Mode} {fuel : Nat} {listed : Array Bool} {w w1 : World} {i : Nat} {L L' : Array Bool}

end Go.Proofs.YtommhgmlblecnaaDoor
namespace Go.Proofs.YtommhgmlblecnaaDoor
open Go Go.RowKit

section
variable {ops : Array Oper} {Q : Exit → Act → World → Prop} {md : Region.Mode} {S : World → Prop} {z : Nat}
variable {o : Oper} {a : Act} {fuel : Nat} {w w1 : World} {i : Nat} {L L' : Array Bool}
end
section
variable {ops : Array Oper} {S : World → Prop} {o : Oper} {a : Act}
end
section
variable {ops : Array Oper} {Q : Exit → Act → World → Prop} {md : Region.Mode} {S : World → Prop} {z : Nat} {o : Oper} {a : Act} {fuel : Nat} {w w1 : World} {i : Nat} {L L' : Array Bool}
end
section
variable {ops : Array Oper} {o : Oper} {a : Act} {w w' : World} {rest : List Oper} {Q : Exit → Act → World → Prop}
end
section
variable {o : Oper} {a : Act} {w w1 : World}
end
section
variable {ops : Array Oper} {S : World → Prop} {o : Oper} {a : Act}
end
end Go.Proofs.YtommhgmlblecnaaDoor
namespace Go.Proofs.YtommhgmlblecnaaDoor
open Go Go.RowKit

theorem load1 {t : TypeId} (ha : ∀ w, (isAgg t).run Tryd.prog w = .ok false w) {w : World} {p i : Nat} {v : Value} (hc : w.cell? ⟨p, i, none⟩ = some v) : (Instr.loadAt t (.pointer (some ⟨p, i, none⟩))).run Tryd.prog w = .ok v w := by
  simp only [Instr.loadAt, Instr.sureAddr, Sem.run_bind, Sem.run_pure, Result.andThen, loadVar, ha]
  go_simp
def strV (b : List UInt8) : Value := .string ⟨b.toArray⟩
theorem eqlS (a b : List UInt8) (r : Bool) (h : decide (a = b) = r) (w : World) : (binOp .eql 9 (strV a) (strV b)).run Tryd.prog w = .ok (.bool r) w := by
  subst h
  unfold strV
  go_simp
  by_cases hab : a = b <;> simp [hab]
section
variable {ops : Array Oper} {o : Oper} {w : World} {rest : List Oper} {Q : Exit → Act → World → Prop}
end
end Go.Proofs.YtommhgmlblecnaaDoor
namespace Go.Proofs.YtommhgmlblecnaaDoor
open Go Go.RowKit

inductive Tr where
  | mk (k : Int) (tx : List UInt8) (n : Int) (kids : List Tr) (at_ : Int)
/-- A node as a value. -/
def nv (k : Int) (tx : List UInt8) (n : Int) (v : Value) (at_ : Int) : Value := .agg #[.int .i64 k, strV tx, .int .i64 n, v, .int .i64 at_]
/-- Five cells that are a node's. -/
def At5 (w : World) (b o : Nat) (k : Int) (tx : List UInt8) (n : Int) (v : Value) (at_ : Int) : Prop := w.cell? ⟨b, o, none⟩ = some (.int .i64 k) ∧ w.cell? ⟨b, o + 1, none⟩ = some (strV tx) ∧ w.cell? ⟨b, o + 2, none⟩ = some (.int .i64 n) ∧ w.cell? ⟨b, o + 3, none⟩ = some v ∧ w.cell? ⟨b, o + 4, none⟩ = some (.int .i64 at_)
/-- The node v lies there. -/
def Cl (w : World) (b o : Nat) (v : Value) : Prop := ∃ k tx n s at_, v = nv k tx n s at_ ∧ At5 w b o k tx n s at_
/-- The node v is the tree t, all the way down. -/
inductive Nd (w : World) : Value → Tr → Prop
  | mk (k : Int) (tx : List UInt8) (n : Int) (kids : List Tr) (at_ : Int) (a : Option Addr) (c : Nat) (vs : Nat → Value) (hl : kids.length ≤ c ∧ c ≤ 9223372036854775807)
      (hc : ∀ i, i < kids.length → ∃ b o, a = some ⟨b, o, none⟩ ∧ Cl w b (o + i * 5) (vs i)) (hk : ∀ i t, kids[i]? = some t → Nd w (vs i) t) : Nd w (nv k tx n (.slice a kids.length c) at_) (.mk k tx n kids at_)
/-- What a node's value is. -/
theorem Nd.open {w : World} {v : Value} {k : Int} {tx : List UInt8} {n : Int} {kids : List Tr} {at_ : Int} (h : Nd w v (.mk k tx n kids at_)) : ∃ a c, v = nv k tx n (.slice a kids.length c) at_ ∧ (kids.length ≤ c ∧ c ≤ 9223372036854775807) ∧ ∀ i t, kids[i]? = some t → ∃ b o u, a = some ⟨b, o, none⟩ ∧ Cl w b (o + i * 5) u ∧ Nd w u t := by
  cases h with
  | mk _ _ _ _ _ a c vs hl hc hk =>
    refine ⟨a, c, rfl, hl, fun i t ht => ?_⟩
    obtain ⟨b, o, e, h⟩ := hc i (List.getElem?_eq_some_iff.1 ht).1
    exact ⟨b, o, vs i, e, h, hk i t ht⟩
theorem idx24 (b o n cap k : Nat) (h : k < n) (w : World) : (Instr.indexAt 23 (.slice (some ⟨b, o, none⟩) n cap) (.int .i64 k)).run Tryd.prog w = .ok (.pointer (some ⟨b, o + k * 5, none⟩)) w := by go_simp
end Go.Proofs.YtommhgmlblecnaaDoor
