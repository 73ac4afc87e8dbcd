/- texts put together: WMath WRow SBase SRow STree SLeft SSame -/
import Derived.WalkKit
import Derived.Test.YtommhgmlblecnaaGreatDoorChecked
import Derived.WalkSpells
import Derived.WalkLawsBesides
import Derived.OwnWalk
import Derived.Room.AppendFits
import Derived.Deep.AppendSrc
import Derived.Deep.AppendLies
import Derived.Laws.IdiomStrings
import Derived.Laws.Bits64b
import Derived.Deep.WholeRow
import Derived.Laws.CopyRow
import Derived.Laws.IdiomCopy
import Derived.Deep.QuietTactic
import Derived.BigQuiet
import Derived.MapKept
import Derived.ChangeMaps5
import Derived.OrdersHeld
import Derived.BigRegion
import Derived.Deep.Cut
namespace Go.Proofs.YtommhgmlblecnaaGreatDoor
open Go Go.RowKit

/-- The byte at a place, as a number. -/
def at8 (l : List UInt8) (k : Nat) : Int := ((l.getD k 0).toNat : Int)
theorem u8_ofNat {k : Nat} (h : k < 256) : (UInt8.ofNat k).toNat = k := by simp; omega
theorem u8_ext {a b : UInt8} (h : a.toNat = b.toNat) : a = b := UInt8.toNat_inj.1 h

end Go.Proofs.YtommhgmlblecnaaGreatDoor
namespace Go.Proofs.YtommhgmlblecnaaGreatDoor
open Go Go.RowKit

theorem info8 : (Tryz.prog.info? 5).map (fun i => (i.zero, i.size, i.bytes)) = some (some (.int .u8 0), 1, 1) := by kernel_rfl

theorem hid {p : Prop} (h : p) : Hid p := h

/-- A byte as a cell. -/
def cb (b : UInt8) : Value := .int .u8 (b.toNat : Int)
def cells8 (l : List UInt8) : List Value := l.map cb
theorem cells8_len (l : List UInt8) : (cells8 l).length = l.length := by simp [cells8]
theorem cells8_one (l : List UInt8) : ∀ u ∈ cells8 l, u.oneCell' = true := by
  intro u hu
  obtain ⟨_, _, rfl⟩ := List.mem_map.1 hu
  rfl
theorem cells8_append (a b : List UInt8) : cells8 a ++ cells8 b = cells8 (a ++ b) := by simp [cells8]
theorem cells8_get (l : List UInt8) (k : Nat) (h : k < l.length) : (cells8 l)[k]? = some (.int .u8 (at8 l k)) := by
  simp [cells8, at8, List.getD, h, cb]
/-- The bytes l lie in block b from off on. -/
def Rd (w : World) (b off : Nat) (l : List UInt8) : Prop := ∀ k, k < l.length → w.cell? ⟨b, off + k, none⟩ = some (.int .u8 (at8 l k))
/-- The slice v reads as the bytes l. -/
def Sl (w : World) (v : Value) (l : List UInt8) : Prop :=
  ∃ a cap, v = .slice a l.length cap ∧ l.length ≤ cap ∧ (a = none → cap = 0) ∧ (l ≠ [] → ∃ b off, a = some ⟨b, off, none⟩ ∧ Rd w b off l)

theorem Sl.mk {w : World} {b off cap : Nat} {l : List UInt8} (h : Rd w b off l) (hc : l.length ≤ cap) : Sl w (.slice (some ⟨b, off, none⟩) l.length cap) l :=
  ⟨_, _, rfl, hc, fun h => (by cases h), fun _ => ⟨b, off, rfl, h⟩⟩

/-- What a call owns reads as its bytes. -/
theorem owns_rd {w : World} {B g n cap : Nat} {l : List UInt8} (h : w.ownsRow B 5 1 (.slice (some ⟨g, 0, none⟩) n cap) n (cells8 l)) : Rd w g 0 l := fun k hk => by
  have := h.cells (g := g) rfl k _ (cells8_get l k hk)
  rwa [Addr.add_lit] at this
theorem owns_cap {w : World} {B g n cap : Nat} {xs : List Value} (h : w.ownsRow B 5 1 (.slice (some ⟨g, 0, none⟩) n cap) n xs) : n ≤ cap ∧ cap ≤ maxLen ∧ B ≤ g ∧ g < w.heap.size := by
  have hl := h.lt g rfl
  rcases h.2 with ⟨h, _⟩ | ⟨g', cap', cur, hv, hb, hg, h1, h2, _⟩
  · cases h
  · cases hv
    exact ⟨h1, h2, hl⟩
theorem owns_sl {w : World} {B g cap : Nat} {l : List UInt8} (h : w.ownsRow B 5 1 (.slice (some ⟨g, 0, none⟩) l.length cap) l.length (cells8 l)) : Sl w (.slice (some ⟨g, 0, none⟩) l.length cap) l :=
  Sl.mk (owns_rd h) (owns_cap h).1

/-- 'string(b)'. -/
theorem conv_sl {w : World} {v : Value} {l : List UInt8} (h : Sl w v l) : (convert 80 9 v).run Tryz.prog w = .ok (.string ⟨l.toArray⟩) w := by
  obtain ⟨a, cap, rfl, h2, h3, h4⟩ := h
  cases l with
  | nil =>
    rw [run_convert_bytes_string w _ _ 5 a _ cap Tryz.underlying80 Tryz.underlying5 Tryz.underlying9]
    cases a with
    | none => rfl
    | some ad => rw [run_bytesToString w ad _ cap [] (by simpa using run_loadCells_list (P := Tryz.prog) w ad [] (fun j v hj => by simp at hj))]; rfl
  | cons c r =>
    obtain ⟨b, off, rfl, hr⟩ := h4 (by simp)
    refine run_convert_bytes_back w _ _ 5 ⟨b, off, none⟩ cap (c :: r) Tryz.underlying80 Tryz.underlying5 Tryz.underlying9 (fun j hj => ?_)
    rw [Addr.add_lit, hr j hj]
    simp only [at8, List.getD, List.getElem?_eq_getElem hj, Option.getD_some]
end Go.Proofs.YtommhgmlblecnaaGreatDoor
namespace Go.Proofs.YtommhgmlblecnaaGreatDoor
open Go Go.RowKit

section
variable {P : Program} {w w' : World} {ops : Array Oper} {rest : List Oper} {a : Act} {Q : Exit → Act → World → Prop} {dst : Option Nat} {ty : TypeId} {pos : String} {after : Array Edge}

end

theorem add_lit (b o j : Nat) : (⟨b, o, none⟩ : Addr).add j = ⟨b, o + j, none⟩ := by unfold Addr.add; split <;> simp_all

/-- A row of cells with some of them laid anew. -/
def relaid (cur : Array Value) (o : Nat) (cs : List Value) : Array Value := (cur.toList.take o ++ cs ++ cur.toList.drop (o + cs.length)).toArray

theorem stores (P : Program) (w : World) (b o : Nat) (cur : Array Value) (t : TypeId) (cs : List Value) (hg : w.heap[b]? = some (.cells cur t (0, 0))) (hl : o + cs.length ≤ cur.size) (h1 : ∀ v ∈ cs, v.oneCell' = true) :
    (storeCells ⟨b, o, none⟩ cs 0).run P w = .ok () (w.setRow b (relaid cur o cs)) := by
  have := run_storeCells_at (P := P) b o t cs 0 cur w hg (by simpa using hl) h1
  simpa [relaid] using this

theorem run_size {P : Program} {t : TypeId} {n : Nat} (h : (P.info? t).map (·.size) = some n) (w : World) : (Go.sizeOf t).run P w = .ok n w := by
  cases hq : P.info? t with
  | none => simp [hq] at h
  | some i => simp [hq] at h; simp [Go.sizeOf, typeInfo, hq, h]

end Go.Proofs.YtommhgmlblecnaaGreatDoor
namespace Go.Proofs.YtommhgmlblecnaaGreatDoor
open Go Go.RowKit

end Go.Proofs.YtommhgmlblecnaaGreatDoor
namespace Go.Proofs.YtommhgmlblecnaaGreatDoor
open Go Go.RowKit

variable {ops : Array Oper} {S : World → Prop} {o : Oper} {a : Act}

variable {Q : Exit → Act → World → Prop} {md : Region.Mode} {fuel : Nat} {listed : Array Bool} {w w1 : World} {i : Nat} {L L' : Array Bool}

end Go.Proofs.YtommhgmlblecnaaGreatDoor
namespace Go.Proofs.YtommhgmlblecnaaGreatDoor
open Go Go.RowKit

section
variable {ops : Array Oper} {Q : Exit → Act → World → Prop} {md : Region.Mode} {S : World → Prop} {z : Nat}
variable {o : Oper} {a : Act} {fuel : Nat} {w w1 : World} {i : Nat} {L L' : Array Bool}
end
section
variable {ops : Array Oper} {S : World → Prop} {o : Oper} {a : Act}
end
section
variable {ops : Array Oper} {Q : Exit → Act → World → Prop} {md : Region.Mode} {S : World → Prop} {z : Nat} {o : Oper} {a : Act} {fuel : Nat} {w w1 : World} {i : Nat} {L L' : Array Bool}
end
section
variable {ops : Array Oper} {o : Oper} {a : Act} {w w' : World} {rest : List Oper} {Q : Exit → Act → World → Prop}
end
section
variable {o : Oper} {a : Act} {w w1 : World}
end
section
variable {ops : Array Oper} {S : World → Prop} {o : Oper} {a : Act}
end
end Go.Proofs.YtommhgmlblecnaaGreatDoor
namespace Go.Proofs.YtommhgmlblecnaaGreatDoor
open Go Go.RowKit

theorem load1 {t : TypeId} (ha : ∀ w, (isAgg t).run Tryz.prog w = .ok false w) {w : World} {p i : Nat} {v : Value} (hc : w.cell? ⟨p, i, none⟩ = some v) : (Instr.loadAt t (.pointer (some ⟨p, i, none⟩))).run Tryz.prog w = .ok v w := by
  simp only [Instr.loadAt, Instr.sureAddr, Sem.run_bind, Sem.run_pure, Result.andThen, loadVar, ha]
  go_simp
def strV (b : List UInt8) : Value := .string ⟨b.toArray⟩
theorem eqlS (a b : List UInt8) (r : Bool) (h : decide (a = b) = r) (w : World) : (binOp .eql 9 (strV a) (strV b)).run Tryz.prog w = .ok (.bool r) w := by
  subst h
  unfold strV
  go_simp
  by_cases hab : a = b <;> simp [hab]
section
variable {ops : Array Oper} {o : Oper} {w : World} {rest : List Oper} {Q : Exit → Act → World → Prop}
end
end Go.Proofs.YtommhgmlblecnaaGreatDoor
namespace Go.Proofs.YtommhgmlblecnaaGreatDoor
open Go Go.RowKit

inductive Tr where
  | mk (k : Int) (tx : List UInt8) (n : Int) (kids : List Tr) (at_ : Int)
theorem Tr.lt_of_mem {k : Int} {tx : List UInt8} {n : Int} {kids : List Tr} {at_ : Int} {t : Tr} (h : t ∈ kids) : SizeOf.sizeOf t < SizeOf.sizeOf (Tr.mk k tx n kids at_) := by
  have := List.sizeOf_lt_of_mem h
  simp only [Tr.mk.sizeOf_spec]
  omega
theorem Tr.ind {P : Tr → Prop} (h : ∀ k tx n kids at_, (∀ t ∈ kids, P t) → P (.mk k tx n kids at_)) (t : Tr) : P t :=
  match t with
  | .mk k tx n kids at_ => h k tx n kids at_ (fun t _ => Tr.ind h t)
termination_by SizeOf.sizeOf t
decreasing_by exact Tr.lt_of_mem (by assumption)
/-- A node as a value. -/
def nv (k : Int) (tx : List UInt8) (n : Int) (v : Value) (at_ : Int) : Value := .agg #[.int .i64 k, strV tx, .int .i64 n, v, .int .i64 at_]
/-- Five cells that are a node's. -/
def At5 (w : World) (b o : Nat) (k : Int) (tx : List UInt8) (n : Int) (v : Value) (at_ : Int) : Prop := w.cell? ⟨b, o, none⟩ = some (.int .i64 k) ∧ w.cell? ⟨b, o + 1, none⟩ = some (strV tx) ∧ w.cell? ⟨b, o + 2, none⟩ = some (.int .i64 n) ∧ w.cell? ⟨b, o + 3, none⟩ = some v ∧ w.cell? ⟨b, o + 4, none⟩ = some (.int .i64 at_)
theorem At5.below {w w' : World} {b o : Nat} {k : Int} {tx : List UInt8} {n : Int} {v : Value} {at_ : Int} (h : At5 w b o k tx n v at_) (hB : Below w.heap.size w w') : At5 w' b o k tx n v at_ := by
  have hb : b < w.heap.size := World.block_lt_of_cell? w _ h.1
  obtain ⟨h0, h1, h2, h3, h4⟩ := h
  exact ⟨(hB.cell (p := ⟨b, o, none⟩) hb).trans h0, (hB.cell (p := ⟨b, o + 1, none⟩) hb).trans h1, (hB.cell (p := ⟨b, o + 2, none⟩) hb).trans h2, (hB.cell (p := ⟨b, o + 3, none⟩) hb).trans h3, (hB.cell (p := ⟨b, o + 4, none⟩) hb).trans h4⟩
/-- The node v lies there. -/
def Cl (w : World) (b o : Nat) (v : Value) : Prop := ∃ k tx n s at_, v = nv k tx n s at_ ∧ At5 w b o k tx n s at_
theorem Cl.below {w w' : World} {b o : Nat} {v : Value} (h : Cl w b o v) (hB : Below w.heap.size w w') : Cl w' b o v := by
  obtain ⟨k, tx, n, s, at_, e, h⟩ := h
  exact ⟨k, tx, n, s, at_, e, h.below hB⟩
/-- The node v is the tree t, all the way down. -/
inductive Nd (w : World) : Value → Tr → Prop
  | mk (k : Int) (tx : List UInt8) (n : Int) (kids : List Tr) (at_ : Int) (a : Option Addr) (c : Nat) (vs : Nat → Value) (hl : kids.length ≤ c ∧ c ≤ 9223372036854775807)
      (hc : ∀ i, i < kids.length → ∃ b o, a = some ⟨b, o, none⟩ ∧ Cl w b (o + i * 5) (vs i)) (hk : ∀ i t, kids[i]? = some t → Nd w (vs i) t) : Nd w (nv k tx n (.slice a kids.length c) at_) (.mk k tx n kids at_)
theorem Nd.later {w w' : World} {v : Value} {t : Tr} (h : Nd w v t) (hB : Below w.heap.size w w') : Nd w' v t := by
  induction h with
  | mk k tx n kids at_ a c vs hl hc hk ih =>
    refine .mk k tx n kids at_ a c vs hl (fun i hi => ?_) (fun i t ht => ih i t ht)
    obtain ⟨b, o, e, h⟩ := hc i hi
    exact ⟨b, o, e, h.below hB⟩
/-- What a node's value is. -/
theorem Nd.open {w : World} {v : Value} {k : Int} {tx : List UInt8} {n : Int} {kids : List Tr} {at_ : Int} (h : Nd w v (.mk k tx n kids at_)) : ∃ a c, v = nv k tx n (.slice a kids.length c) at_ ∧ (kids.length ≤ c ∧ c ≤ 9223372036854775807) ∧ ∀ i t, kids[i]? = some t → ∃ b o u, a = some ⟨b, o, none⟩ ∧ Cl w b (o + i * 5) u ∧ Nd w u t := by
  cases h with
  | mk _ _ _ _ _ a c vs hl hc hk =>
    refine ⟨a, c, rfl, hl, fun i t ht => ?_⟩
    obtain ⟨b, o, e, h⟩ := hc i (List.getElem?_eq_some_iff.1 ht).1
    exact ⟨b, o, vs i, e, h, hk i t ht⟩
theorem size24 : (Tryz.prog.info? 25).map (·.size) = some 5 := by kernel_rfl
/-- A node is loaded from where it lies. -/
theorem load24 {w : World} {b o : Nat} {v : Value} (h : Cl w b o v) : (Instr.loadAt 25 (.pointer (some ⟨b, o, none⟩))).run Tryz.prog w = .ok v w := by
  obtain ⟨k, tx, n, s, at_, rfl, h0, h1, h2, h3, h4⟩ := h
  have hc := run_loadCells_list (P := Tryz.prog) w ⟨b, o, none⟩ [.int .i64 k, strV tx, .int .i64 n, s, .int .i64 at_] (fun j x hx => by
    match j, hx with
    | 0, hx => cases hx; rw [add_lit]; exact h0
    | 1, hx => cases hx; rw [add_lit]; exact h1
    | 2, hx => cases hx; rw [add_lit]; exact h2
    | 3, hx => cases hx; rw [add_lit]; exact h3
    | 4, hx => cases hx; rw [add_lit]; exact h4)
  unfold nv
  simp only [Instr.loadAt, Instr.sureAddr, Sem.run_bind, Sem.run_pure, Result.andThen, loadVar, Tryz.isAgg25, run_size size24, show 5 = [Value.int .i64 k, strV tx, .int .i64 n, s, .int .i64 at_].length from rfl, hc, if_true]
theorem idx24 (b o n cap k : Nat) (h : k < n) (w : World) : (Instr.indexAt 23 (.slice (some ⟨b, o, none⟩) n cap) (.int .i64 k)).run Tryz.prog w = .ok (.pointer (some ⟨b, o + k * 5, none⟩)) w := by go_simp
end Go.Proofs.YtommhgmlblecnaaGreatDoor
namespace Go.Proofs.YtommhgmlblecnaaGreatDoor
open Go Go.RowKit

end Go.Proofs.YtommhgmlblecnaaGreatDoor
namespace Go.Proofs.YtommhgmlblecnaaGreatDoor
open Go Go.RowKit

end Go.Proofs.YtommhgmlblecnaaGreatDoor
