/- texts put together: WMath WRow SBase SRow STree SLeft SSame -/
import Derived.WalkKit
import Derived.Test.YtommhgmlblecnaaGreatDoorChecked
import Derived.WalkSpells
import Derived.WalkLawsBesides
import Derived.OwnWalk
import Derived.Room.AppendFits
import Derived.Deep.AppendSrc
import Derived.Deep.AppendLies
import Derived.Laws.IdiomStrings
import Derived.Laws.Bits64b
import Derived.Deep.WholeRow
import Derived.Laws.CopyRow
import Derived.Laws.IdiomCopy
import Derived.Deep.QuietTactic
import Derived.BigQuiet
import Derived.MapKept
import Derived.ChangeMaps5
import Derived.OrdersHeld
import Derived.BigRegion
import Derived.Deep.Cut
namespace Go.Proofs.YtommhgmlblecnaaGreatDoor
open Go Go.RowKit

/-- The byte at a place, as a number. -/
def at8 (l : List UInt8) (k : Nat) : Int := ((l.getD k 0).toNat : Int)
theorem u8_ofNat {k : Nat} (h : k < 256) : (UInt8.ofNat k).toNat = k := by simp; omega
theorem u8_ext {a b : UInt8} (h : a.toNat = b.toNat) : a = b := UInt8.toNat_inj.1 h

end Go.Proofs.YtommhgmlblecnaaGreatDoor
namespace Go.Proofs.YtommhgmlblecnaaGreatDoor
open Go Go.RowKit

theorem info8 : (Tryz.prog.info? 5).map (fun i => (i.zero, i.size, i.bytes)) = some (some (.int .u8 0), 1, 1) := by kernel_rfl

theorem hid {p : Prop} (h : p) : Hid p := h

/-- A byte as a cell. -/
def cb (b : UInt8) : Value := .int .u8 (b.toNat : Int)
def cells8 (l : List UInt8) : List Value := l.map cb
theorem cells8_len (l : List UInt8) : (cells8 l).length = l.length := by simp [cells8]
theorem cells8_one (l : List UInt8) : ∀ u ∈ cells8 l, u.oneCell' = true := by
  intro u hu
  obtain ⟨_, _, rfl⟩ := List.mem_map.1 hu
  rfl
theorem cells8_append (a b : List UInt8) : cells8 a ++ cells8 b = cells8 (a ++ b) := by simp [cells8]
theorem cells8_get (l : List UInt8) (k : Nat) (h : k < l.length) : (cells8 l)[k]? = some (.int .u8 (at8 l k)) := by
  simp [cells8, at8, List.getD, h, cb]
/-- The bytes l lie in block b from off on. -/
def Rd (w : World) (b off : Nat) (l : List UInt8) : Prop := ∀ k, k < l.length → w.cell? ⟨b, off + k, none⟩ = some (.int .u8 (at8 l k))
/-- The slice v reads as the bytes l. -/
def Sl (w : World) (v : Value) (l : List UInt8) : Prop :=
  ∃ a cap, v = .slice a l.length cap ∧ l.length ≤ cap ∧ (a = none → cap = 0) ∧ (l ≠ [] → ∃ b off, a = some ⟨b, off, none⟩ ∧ Rd w b off l)

theorem Sl.mk {w : World} {b off cap : Nat} {l : List UInt8} (h : Rd w b off l) (hc : l.length ≤ cap) : Sl w (.slice (some ⟨b, off, none⟩) l.length cap) l :=
  ⟨_, _, rfl, hc, fun h => (by cases h), fun _ => ⟨b, off, rfl, h⟩⟩

/-- What a call owns reads as its bytes. -/
theorem owns_rd {w : World} {B g n cap : Nat} {l : List UInt8} (h : w.ownsRow B 5 1 (.slice (some ⟨g, 0, none⟩) n cap) n (cells8 l)) : Rd w g 0 l := fun k hk => by
  have := h.cells (g := g) rfl k _ (cells8_get l k hk)
  rwa [Addr.add_lit] at this
theorem owns_cap {w : World} {B g n cap : Nat} {xs : List Value} (h : w.ownsRow B 5 1 (.slice (some ⟨g, 0, none⟩) n cap) n xs) : n ≤ cap ∧ cap ≤ maxLen ∧ B ≤ g ∧ g < w.heap.size := by
  have hl := h.lt g rfl
  rcases h.2 with ⟨h, _⟩ | ⟨g', cap', cur, hv, hb, hg, h1, h2, _⟩
  · cases h
  · cases hv
    exact ⟨h1, h2, hl⟩
theorem owns_sl {w : World} {B g cap : Nat} {l : List UInt8} (h : w.ownsRow B 5 1 (.slice (some ⟨g, 0, none⟩) l.length cap) l.length (cells8 l)) : Sl w (.slice (some ⟨g, 0, none⟩) l.length cap) l :=
  Sl.mk (owns_rd h) (owns_cap h).1

/-- 'string(b)'. -/
theorem conv_sl {w : World} {v : Value} {l : List UInt8} (h : Sl w v l) : (convert 80 9 v).run Tryz.prog w = .ok (.string ⟨l.toArray⟩) w := by
  obtain ⟨a, cap, rfl, h2, h3, h4⟩ := h
  cases l with
  | nil =>
    rw [run_convert_bytes_string w _ _ 5 a _ cap Tryz.underlying80 Tryz.underlying5 Tryz.underlying9]
    cases a with
    | none => rfl
    | some ad => rw [run_bytesToString w ad _ cap [] (by simpa using run_loadCells_list (P := Tryz.prog) w ad [] (fun j v hj => by simp at hj))]; rfl
  | cons c r =>
    obtain ⟨b, off, rfl, hr⟩ := h4 (by simp)
    refine run_convert_bytes_back w _ _ 5 ⟨b, off, none⟩ cap (c :: r) Tryz.underlying80 Tryz.underlying5 Tryz.underlying9 (fun j hj => ?_)
    rw [Addr.add_lit, hr j hj]
    simp only [at8, List.getD, List.getElem?_eq_getElem hj, Option.getD_some]
end Go.Proofs.YtommhgmlblecnaaGreatDoor
namespace Go.Proofs.YtommhgmlblecnaaGreatDoor
open Go Go.RowKit

section
variable {P : Program} {w w' : World} {ops : Array Oper} {rest : List Oper} {a : Act} {Q : Exit → Act → World → Prop} {dst : Option Nat} {ty : TypeId} {pos : String} {after : Array Edge}

theorem wp_end (h : Q .normal a w) : wpList P ops Q [] a w := h
end

theorem add_lit (b o j : Nat) : (⟨b, o, none⟩ : Addr).add j = ⟨b, o + j, none⟩ := by unfold Addr.add; split <;> simp_all

/-- A row of cells with some of them laid anew. -/
def relaid (cur : Array Value) (o : Nat) (cs : List Value) : Array Value := (cur.toList.take o ++ cs ++ cur.toList.drop (o + cs.length)).toArray

theorem stores (P : Program) (w : World) (b o : Nat) (cur : Array Value) (t : TypeId) (cs : List Value) (hg : w.heap[b]? = some (.cells cur t (0, 0))) (hl : o + cs.length ≤ cur.size) (h1 : ∀ v ∈ cs, v.oneCell' = true) :
    (storeCells ⟨b, o, none⟩ cs 0).run P w = .ok () (w.setRow b (relaid cur o cs)) := by
  have := run_storeCells_at (P := P) b o t cs 0 cur w hg (by simpa using hl) h1
  simpa [relaid] using this

theorem run_size {P : Program} {t : TypeId} {n : Nat} (h : (P.info? t).map (·.size) = some n) (w : World) : (Go.sizeOf t).run P w = .ok n w := by
  cases hq : P.info? t with
  | none => simp [hq] at h
  | some i => simp [hq] at h; simp [Go.sizeOf, typeInfo, hq, h]

end Go.Proofs.YtommhgmlblecnaaGreatDoor
namespace Go.Proofs.YtommhgmlblecnaaGreatDoor
open Go Go.RowKit

theorem heap_lt {w : World} {k : Nat} {o : Obj} (h : w.heap[k]? = some o) : k < w.heap.size := (Array.getElem?_eq_some_iff.1 h).1
theorem below_at {B : Nat} {w a : World} (h : Below B w a) {k : Nat} {o : Obj} (hk : w.heap[k]? = some o) (hB : k < B) : a.heap[k]? = some o := (h.block k hB).trans hk

/-- A cell of a block. -/
theorem cell_at {w : World} {p : Nat} {c : Array Value} {t : TypeId} {z : Nat × Nat} (h : w.heap[p]? = some (.cells c t z)) (i : Nat) {v : Value} (hi : c[i]? = some v) : w.cell? ⟨p, i, none⟩ = some v := by simp [World.cell?, h, hi]
end Go.Proofs.YtommhgmlblecnaaGreatDoor
namespace Go.Proofs.YtommhgmlblecnaaGreatDoor
open Go Go.RowKit

variable {ops : Array Oper} {S : World → Prop} {o : Oper} {a : Act}

theorem y_move {x : Operand} {v : Value} (hop : o.op = .move x) (hw : Region.wanted o (yielded ops a.tmps) = true) (hv : a.eval x = v) : YieldsIf Tryz.prog ops S o v a :=
  .inl ⟨hw, fun w _ => hv ▸ BigFrame.run_move x hop w⟩
theorem y_assign {x : Operand} {v : Value} (hop : o.op = .assign x) (hw : Region.wanted o (yielded ops a.tmps) = true) (hv : a.eval x = v) : YieldsIf Tryz.prog ops S o v a :=
  .inl ⟨hw, fun w _ => hv ▸ BigFrame.run_assign x hop w⟩
theorem y_pick {c x y : Operand} {b : Bool} {v : Value} (hop : o.op = .pick c x y) (hw : Region.wanted o (yielded ops a.tmps) = true) (hc : a.eval c = .bool b) (hv : (if b then a.eval x else a.eval y) = v) :
    YieldsIf Tryz.prog ops S o v a :=
  .inl ⟨hw, fun w _ => by unfold execOp; rw [hop]; simp only [hc]; cases b <;> (simp at hv; simp [asBool, hv])⟩
theorem y_skip {v : Value} (hw : Region.wanted o (yielded ops a.tmps) = false) (hv : v = undef) : YieldsIf Tryz.prog ops S o v a := .inr ⟨hw, hv⟩

theorem y_faddr {x : Operand} {t f : Nat} {b i j : Nat} (hop : o.op = .fieldAddr t x f) (hw : Region.wanted o (yielded ops a.tmps) = true) (hx : a.eval x = .pointer (some ⟨b, i, none⟩))
    (hf : ∀ w, (Instr.fieldAt t (.pointer (some ⟨b, i, none⟩)) f).run Tryz.prog w = .ok (.pointer (some ⟨b, j, none⟩)) w) : YieldsIf Tryz.prog ops S o (.pointer (some ⟨b, j, none⟩)) a :=
  .inl ⟨hw, fun w _ => by unfold execOp; rw [hop]; simp only [hx, Sem.run_bind, hf w, Result.andThen_ok]; rfl⟩
theorem y_load {x : Operand} {t : TypeId} {p v : Value} (hop : o.op = .load t x) (hw : Region.wanted o (yielded ops a.tmps) = true) (hx : a.eval x = p)
    (hl : ∀ w, S w → (Instr.loadAt t p).run Tryz.prog w = .ok v w) : YieldsIf Tryz.prog ops S o v a :=
  .inl ⟨hw, fun w h => by unfold execOp; rw [hop]; simp only [hx, Sem.run_bind, hl w h, Result.andThen_ok]; rfl⟩
variable {Q : Exit → Act → World → Prop} {md : Region.Mode} {fuel : Nat} {listed : Array Bool} {w w1 : World} {i : Nat} {L L' : Array Bool}

/-- The one operation that may come up. -/
theorem h_one (hr : Region.ready md ops listed = [i]) (hi : ops[i]? = some o) (hw : Region.wanted o (yielded ops a.tmps) = true)
    (h : o.wp Tryz.prog a w (fun a' w' => S w' ∧ wpAnyH Tryz.prog md ops Q S fuel (listed.setIfInBounds i true) a' w') Q) : wpAnyH Tryz.prog md ops Q S (fuel + 1) listed a w := by
  refine wpAnyH_all hr (by simp) (fun j hj => ?_)
  obtain rfl : j = i := by simpa using hj
  unfold wpOp
  rw [hi]
  simp only [hw, if_true]
  exact .inl h
/-- .. a call of a Go function. -/
theorem h_call {f : FuncId} {args : Array Value} (hr : Region.ready md ops listed = [i]) (hi : ops[i]? = some o) (hw : Region.wanted o (yielded ops a.tmps) = true)
    (he : ∀ w, (execOp a.eval o).run Tryz.prog w = .ok (.enter f args) w)
    (h : Calls Tryz.prog f args w fun e w' => ∃ v, e = .returned v ∧ S w' ∧ wpAnyH Tryz.prog md ops Q S fuel (listed.setIfInBounds i true) (a.put o.dst v) w') : wpAnyH Tryz.prog md ops Q S (fuel + 1) listed a w := by
  refine h_one hr hi hw ?_
  unfold Oper.wp
  rw [he w, Oper.upon_enter]
  refine h.mono fun e w' ⟨v, he, h1, h2⟩ => ?_
  subst he
  exact ⟨h1, h2⟩
/-- .. one operation, its slot named, the frame behind it written out. -/
theorem h_take {d : Nat} {v : Value} {tmps T : Array Value} {ds : List Deferred} (hi : ops[i]? = some o) (hd : o.dst = some d)
    (hs : Region.noSelect ops = true) (hf : Region.free md ops listed i = true) (hr : (Region.ready md ops listed).contains i = true)
    (hP : ∀ c T T' ds w, Q (.panic c) ⟨T, ds⟩ w → Q (.panic c) ⟨T', ds⟩ w) (hy : YieldsIf Tryz.prog ops S o v ⟨tmps, ds⟩) (hS : S w) (hT : tmps.setIfInBounds d v = T)
    (h : wpAnyH Tryz.prog md ops Q S fuel (listed.setIfInBounds i true) ⟨T, ds⟩ w) : wpAnyH Tryz.prog md ops Q S (fuel + 1) listed ⟨tmps, ds⟩ w := by
  refine wpAnyH_take hi hs hf hr (fun c a w h => by rw [hd] at h; exact hP c (a.tmps.setIfInBounds d v) a.tmps a.defers w h) hy hS ?_
  rw [hd]
  subst hT
  exact h
theorem h_call2 {d : Nat} {f : FuncId} {args : Array Value} {tmps : Array Value} {ds : List Deferred} (hr : Region.ready md ops listed = [i]) (hi : ops[i]? = some o) (hd : o.dst = some d) (hw : Region.wanted o (yielded ops tmps) = true)
    (he : ∀ w, (execOp (Act.mk tmps ds).eval o).run Tryz.prog w = .ok (.enter f args) w)
    (h : Calls Tryz.prog f args w fun e w' => ∃ v, e = .returned v ∧ S w' ∧ wpAnyH Tryz.prog md ops Q S fuel (listed.setIfInBounds i true) ⟨tmps.setIfInBounds d v, ds⟩ w') : wpAnyH Tryz.prog md ops Q S (fuel + 1) listed ⟨tmps, ds⟩ w := by
  refine h_call hr hi hw he (h.mono fun e w' ⟨v, he, h1, h2⟩ => ⟨v, he, h1, ?_⟩)
  rw [hd]
  exact h2
/-- The beginning, what stands behind it under a name. -/
theorem h_open {id : Nat} {a : Act} (hm : Tryz.prog.follows .mixedOrders = true) (hP : ∀ c T T' ds w, Q (.panic c) ⟨T, ds⟩ w → Q (.panic c) ⟨T', ds⟩ w)
    (h : ∀ Q' : Exit → Act → World → Prop, (∀ c T T' ds w, Q' (.panic c) ⟨T, ds⟩ w → Q' (.panic c) ⟨T', ds⟩ w) → (∀ a w, Q .normal a w → Q' .normal a w) →
      wpAnyH Tryz.prog .any ops Q' S ops.size (Array.replicate ops.size false) a w.drew) : (Code.region id ops true).wp Tryz.prog Q a w :=
  wp_region_held hm (h Q hP fun _ _ h => h)
theorem enter_go {f : FuncId} {xs : Array Operand} {ats : Array TypeId} {args : Array Value} (hop : o.op = .call { callee := .value (.func f), args := xs, argTypes := ats }) (hxs : #[] ++ xs.map a.eval ++ #[] = args)
    (hf : ∀ w, (callFunc f args).run Tryz.prog w = .ok (.enter f args) w) : ∀ w, (execOp a.eval o).run Tryz.prog w = .ok (.enter f args) w := by
  intro w
  have e : execOp a.eval o = callFunc f (#[] ++ xs.map a.eval ++ #[]) := by unfold execOp; rw [hop]; rfl
  rw [e, hxs, hf w]
theorem h_openL {id : Nat} (hm : Tryz.prog.follows .mixedOrders = true) (hns : Region.noSelect ops = true) (hP : ∀ c T T' ds w, Q (.panic c) ⟨T, ds⟩ w → Q (.panic c) ⟨T', ds⟩ w) (hL : Array.replicate ops.size false = L)
    (h : ∀ Q' : Exit → Act → World → Prop, Region.noSelect ops = true → (∀ c T T' ds w, Q' (.panic c) ⟨T, ds⟩ w → Q' (.panic c) ⟨T', ds⟩ w) → (∀ a w, Q .normal a w → Q' .normal a w) →
      wpAnyH Tryz.prog .any ops Q' S ops.size L a w.drew) : (Code.region id ops true).wp Tryz.prog Q a w := by
  refine h_open (S := S) hm hP fun Q' hP' hN => ?_
  rw [hL]
  exact h Q' hns hP' hN
theorem h_takeL {d : Nat} {v : Value} {tmps T : Array Value} {ds : List Deferred} (hns : Region.noSelect ops = true) (hi : ops[i]? = some o) (hd : o.dst = some d)
    (hf : Region.free md ops L i = true) (hr : (Region.ready md ops L).contains i = true)
    (hP : ∀ c T T' ds w, Q (.panic c) ⟨T, ds⟩ w → Q (.panic c) ⟨T', ds⟩ w) (hy : YieldsIf Tryz.prog ops S o v ⟨tmps, ds⟩) (hS : S w) (hT : tmps.setIfInBounds d v = T) (hL : L.setIfInBounds i true = L')
    (h : wpAnyH Tryz.prog md ops Q S fuel L' ⟨T, ds⟩ w) : wpAnyH Tryz.prog md ops Q S (fuel + 1) L ⟨tmps, ds⟩ w := by
  subst hL
  exact h_take hi hd hns hf hr hP hy hS hT h
theorem h_callL {d : Nat} {f : FuncId} {args : Array Value} {tmps : Array Value} {ds : List Deferred} (hr : Region.ready md ops L = [i]) (hi : ops[i]? = some o) (hd : o.dst = some d) (hw : Region.wanted o (yielded ops tmps) = true)
    (he : ∀ w, (execOp (Act.mk tmps ds).eval o).run Tryz.prog w = .ok (.enter f args) w) (hL : L.setIfInBounds i true = L')
    (h : Calls Tryz.prog f args w fun e w' => ∃ v, e = .returned v ∧ S w' ∧ wpAnyH Tryz.prog md ops Q S fuel L' ⟨tmps.setIfInBounds d v, ds⟩ w') : wpAnyH Tryz.prog md ops Q S (fuel + 1) L ⟨tmps, ds⟩ w := by
  subst hL
  exact h_call2 hr hi hd hw he h
end Go.Proofs.YtommhgmlblecnaaGreatDoor
namespace Go.Proofs.YtommhgmlblecnaaGreatDoor
open Go Go.RowKit

section
variable {ops : Array Oper} {Q : Exit → Act → World → Prop} {md : Region.Mode} {S : World → Prop} {z : Nat}
variable {o : Oper} {a : Act} {fuel : Nat} {w w1 : World} {i : Nat} {L L' : Array Bool}
end
section
variable {ops : Array Oper} {S : World → Prop} {o : Oper} {a : Act}
theorem y_bin {x y : Operand} {t t' : TypeId} {b : BinOp} {k k' : IntKind} {m n : Int} {v : Value} (hop : o.op = .binOp b t x y t') (hw : Region.wanted o (yielded ops a.tmps) = true) (hx : a.eval x = .int k m) (hy : a.eval y = .int k' n)
    (hr : ∀ w, (binOp b t (.int k m) (.int k' n)).run Tryz.prog w = .ok v w) : YieldsIf Tryz.prog ops S o v a :=
  .inl ⟨hw, fun w _ => by
    unfold execOp; rw [hop]; simp only [hx, hy, Sem.run_bind]
    have : (eqGuard b t x y (.int k m) (.int k' n)).run Tryz.prog w = .ok () w := by
      unfold eqGuard; go_simp
    rw [this]; simp only [Result.andThen_ok, hr w]; rfl⟩
end
section
variable {ops : Array Oper} {Q : Exit → Act → World → Prop} {md : Region.Mode} {S : World → Prop} {z : Nat} {o : Oper} {a : Act} {fuel : Nat} {w w1 : World} {i : Nat} {L L' : Array Bool}
end
section
variable {ops : Array Oper} {o : Oper} {a : Act} {w w' : World} {rest : List Oper} {Q : Exit → Act → World → Prop}
/-- An operation of a region that keeps its order, by the same laws. -/
theorem wp_y {v : Value} {d : Nat} {tmps T : Array Value} {ds : List Deferred} (hg : o.guard = none) (hd : o.dst = some d) (hy : YieldsIf Tryz.prog ops (fun w' => w' = w) o v ⟨tmps, ds⟩) (hT : tmps.setIfInBounds d v = T) (hK : wpList Tryz.prog ops Q rest ⟨T, ds⟩ w) : wpList Tryz.prog ops Q (o :: rest) ⟨tmps, ds⟩ w := by
  subst hT
  refine wpList_plain hg fun K hK' => ?_
  rcases hy with ⟨_, h⟩ | ⟨h, _⟩
  · unfold Oper.wp
    rw [h w rfl, Oper.upon_value]
    refine hK' _ _ ?_
    rw [hd]; exact hK
  · rw [Region.wanted, hg] at h; cases h
theorem wp_run {v : Value} {d : Nat} {tmps T : Array Value} {ds : List Deferred} (hg : o.guard = none) (hd : o.dst = some d) (hr : (execOp (Act.mk tmps ds).eval o).run Tryz.prog w = .ok (.value v) w') (hT : tmps.setIfInBounds d v = T) (hK : wpList Tryz.prog ops Q rest ⟨T, ds⟩ w') : wpList Tryz.prog ops Q (o :: rest) ⟨tmps, ds⟩ w := by
  subst hT
  refine wpList_plain hg fun K hK' => ?_
  unfold Oper.wp
  rw [hr, Oper.upon_value]
  refine hK' _ _ ?_
  rw [hd]; exact hK
end
section
variable {o : Oper} {a : Act} {w w1 : World}
end
section
variable {ops : Array Oper} {S : World → Prop} {o : Oper} {a : Act}
theorem y_index {x y : Operand} {t : TypeId} {p k v : Value} (hop : o.op = .indexAddr t x y) (hw : Region.wanted o (yielded ops a.tmps) = true) (hx : a.eval x = p) (hy : a.eval y = k)
    (hr : ∀ w, (Instr.indexAt t p k).run Tryz.prog w = .ok v w) : YieldsIf Tryz.prog ops S o v a :=
  .inl ⟨hw, fun w _ => by unfold execOp; rw [hop]; simp only [hx, hy, Sem.run_bind, hr w, Result.andThen_ok]; rfl⟩
end
end Go.Proofs.YtommhgmlblecnaaGreatDoor
namespace Go.Proofs.YtommhgmlblecnaaGreatDoor
open Go Go.RowKit

theorem load1 {t : TypeId} (ha : ∀ w, (isAgg t).run Tryz.prog w = .ok false w) {w : World} {p i : Nat} {v : Value} (hc : w.cell? ⟨p, i, none⟩ = some v) : (Instr.loadAt t (.pointer (some ⟨p, i, none⟩))).run Tryz.prog w = .ok v w := by
  simp only [Instr.loadAt, Instr.sureAddr, Sem.run_bind, Sem.run_pure, Result.andThen, loadVar, ha]
  go_simp
theorem run_boxOp {o : Oper} {a : Act} {w w1 : World} {t : TypeId} {x : Operand} {p v : Value} (hop : o.op = .box t x) (hx : a.eval x = p) (hr : (Instr.box t p).run Tryz.prog w = .ok v w1) :
    (execOp a.eval o).run Tryz.prog w = .ok (.value v) w1 := by
  unfold execOp; rw [hop]; simp only [hx, Sem.run_bind, hr, Result.andThen_ok]; rfl
theorem box_agg (T : TypeId) (w : World) (c : Array Value) : (Instr.box T (.agg c)).run Tryz.prog w = .ok (.pointer (some ⟨w.heap.size, 0, none⟩)) (w.alloc (.cells c T)) := by
  simp [Instr.box, newVar, newRow, Value.cells]
def strV (b : List UInt8) : Value := .string ⟨b.toArray⟩
theorem neqS (a b : List UInt8) (r : Bool) (h : decide (a ≠ b) = r) (w : World) : (binOp .neq 9 (strV a) (strV b)).run Tryz.prog w = .ok (.bool r) w := by
  subst h
  unfold strV
  go_simp
  by_cases hab : a = b <;> simp [hab]
theorem y_neqS {ops : Array Oper} {S : World → Prop} {o : Oper} {a : Act} {x y : Operand} {t' : TypeId} {l m : List UInt8} {r : Bool} (hop : o.op = .binOp .neq 9 x y t') (hw : Region.wanted o (yielded ops a.tmps) = true) (hx : a.eval x = strV l) (hy : a.eval y = strV m) (hr : decide (l ≠ m) = r) : YieldsIf Tryz.prog ops S o (.bool r) a :=
  .inl ⟨hw, fun w _ => by
    unfold execOp; rw [hop]; simp only [hx, hy, Sem.run_bind]
    have : (eqGuard .neq 9 x y (strV l) (strV m)).run Tryz.prog w = .ok () w := by
      unfold eqGuard strV; go_simp
    rw [this]; simp only [Result.andThen_ok, neqS l m r hr w]; rfl⟩
theorem neqI (a b : Int) (r : Bool) (h : (a != b) = r) (w : World) : (binOp .neq 3 (.int .i64 a) (.int .i64 b)).run Tryz.prog w = .ok (.bool r) w := by subst h; go_simp
theorem y_lenT {t : TypeId} (hl : ∀ (p : Option Addr) (n c : Nat) (ty : TypeId) (w : World), (Builtin.len_ #[t] ty #[.slice p n c]).run Tryz.prog w = .ok (.int .i64 n) w) {ops : Array Oper} {S : World → Prop} {o : Oper} {a : Act} {x : Operand} {p : Option Addr} {n c : Nat} (hop : o.op = .call { callee := .builtin .len, args := #[x], argTypes := #[t] }) (hw : Region.wanted o (yielded ops a.tmps) = true) (hx : a.eval x = .slice p n c) : YieldsIf Tryz.prog ops S o (.int .i64 n) a :=
  .inl ⟨hw, fun w _ => by
    have h1 : (Builtin.len_ #[t] o.type #[a.eval x]).run Tryz.prog w = .ok (.int .i64 n) w := by rw [hx]; exact hl p n c o.type w
    unfold execOp
    simp only [hop, resolve, invoke, builtin, Sem.run_bind, Sem.run_pure, Result.andThen_ok, List.map_toArray, List.map_cons, List.map_nil, h1]⟩
theorem eqlS (a b : List UInt8) (r : Bool) (h : decide (a = b) = r) (w : World) : (binOp .eql 9 (strV a) (strV b)).run Tryz.prog w = .ok (.bool r) w := by
  subst h
  unfold strV
  go_simp
  by_cases hab : a = b <;> simp [hab]
section
variable {ops : Array Oper} {o : Oper} {w : World} {rest : List Oper} {Q : Exit → Act → World → Prop}
/-- As wp_y, guarded or not: where it is not wanted, it yields nothing. -/
theorem wp_yg {v : Value} {d : Nat} {tmps T : Array Value} {ds : List Deferred} (hd : o.dst = some d) (hy : YieldsIf Tryz.prog ops (fun w' => w' = w) o v ⟨tmps, ds⟩) (hT : tmps.setIfInBounds d v = T) (hK : wpList Tryz.prog ops Q rest ⟨T, ds⟩ w) : wpList Tryz.prog ops Q (o :: rest) ⟨tmps, ds⟩ w := by
  subst hT
  rcases hy with ⟨hw, h⟩ | ⟨hw, rfl⟩
  · refine wpList_step fun K hK' => ?_
    simp only [hw, if_true]
    unfold Oper.wp
    rw [h w rfl, Oper.upon_value]
    refine hK' _ _ ?_
    rw [hd]; exact hK
  · refine wpList_skip hw ?_
    rw [hd]; exact hK
/-- A guarded one that is not wanted. (By wp_yg and y_skip the elaborator's time is fourfold with each that follows.) -/
theorem wp_sk {d : Nat} {tmps T : Array Value} {ds : List Deferred} (hd : o.dst = some d) (hw : Region.wanted o (yielded ops tmps) = false) (hT : tmps.setIfInBounds d undef = T) (hK : wpList Tryz.prog ops Q rest ⟨T, ds⟩ w) : wpList Tryz.prog ops Q (o :: rest) ⟨tmps, ds⟩ w := by
  subst hT
  refine wpList_skip hw ?_
  rw [hd]; exact hK
end
theorem neqL (a b : Int) (r : Bool) (h : (a != b) = r) (w : World) : (binOp .neq 2 (.int .i64 a) (.int .i64 b)).run Tryz.prog w = .ok (.bool r) w := by subst h; go_simp
end Go.Proofs.YtommhgmlblecnaaGreatDoor
namespace Go.Proofs.YtommhgmlblecnaaGreatDoor
open Go Go.RowKit

inductive Tr where
  | mk (k : Int) (tx : List UInt8) (n : Int) (kids : List Tr) (at_ : Int)
theorem Tr.lt_of_mem {k : Int} {tx : List UInt8} {n : Int} {kids : List Tr} {at_ : Int} {t : Tr} (h : t ∈ kids) : SizeOf.sizeOf t < SizeOf.sizeOf (Tr.mk k tx n kids at_) := by
  have := List.sizeOf_lt_of_mem h
  simp only [Tr.mk.sizeOf_spec]
  omega
theorem Tr.ind {P : Tr → Prop} (h : ∀ k tx n kids at_, (∀ t ∈ kids, P t) → P (.mk k tx n kids at_)) (t : Tr) : P t :=
  match t with
  | .mk k tx n kids at_ => h k tx n kids at_ (fun t _ => Tr.ind h t)
termination_by SizeOf.sizeOf t
decreasing_by exact Tr.lt_of_mem (by assumption)
/-- A node as a value. -/
def nv (k : Int) (tx : List UInt8) (n : Int) (v : Value) (at_ : Int) : Value := .agg #[.int .i64 k, strV tx, .int .i64 n, v, .int .i64 at_]
/-- Five cells that are a node's. -/
def At5 (w : World) (b o : Nat) (k : Int) (tx : List UInt8) (n : Int) (v : Value) (at_ : Int) : Prop := w.cell? ⟨b, o, none⟩ = some (.int .i64 k) ∧ w.cell? ⟨b, o + 1, none⟩ = some (strV tx) ∧ w.cell? ⟨b, o + 2, none⟩ = some (.int .i64 n) ∧ w.cell? ⟨b, o + 3, none⟩ = some v ∧ w.cell? ⟨b, o + 4, none⟩ = some (.int .i64 at_)
theorem At5.below {w w' : World} {b o : Nat} {k : Int} {tx : List UInt8} {n : Int} {v : Value} {at_ : Int} (h : At5 w b o k tx n v at_) (hB : Below w.heap.size w w') : At5 w' b o k tx n v at_ := by
  have hb : b < w.heap.size := World.block_lt_of_cell? w _ h.1
  obtain ⟨h0, h1, h2, h3, h4⟩ := h
  exact ⟨(hB.cell (p := ⟨b, o, none⟩) hb).trans h0, (hB.cell (p := ⟨b, o + 1, none⟩) hb).trans h1, (hB.cell (p := ⟨b, o + 2, none⟩) hb).trans h2, (hB.cell (p := ⟨b, o + 3, none⟩) hb).trans h3, (hB.cell (p := ⟨b, o + 4, none⟩) hb).trans h4⟩
/-- The node v lies there. -/
def Cl (w : World) (b o : Nat) (v : Value) : Prop := ∃ k tx n s at_, v = nv k tx n s at_ ∧ At5 w b o k tx n s at_
theorem Cl.below {w w' : World} {b o : Nat} {v : Value} (h : Cl w b o v) (hB : Below w.heap.size w w') : Cl w' b o v := by
  obtain ⟨k, tx, n, s, at_, e, h⟩ := h
  exact ⟨k, tx, n, s, at_, e, h.below hB⟩
/-- The node v is the tree t, all the way down. -/
inductive Nd (w : World) : Value → Tr → Prop
  | mk (k : Int) (tx : List UInt8) (n : Int) (kids : List Tr) (at_ : Int) (a : Option Addr) (c : Nat) (vs : Nat → Value) (hl : kids.length ≤ c ∧ c ≤ 9223372036854775807)
      (hc : ∀ i, i < kids.length → ∃ b o, a = some ⟨b, o, none⟩ ∧ Cl w b (o + i * 5) (vs i)) (hk : ∀ i t, kids[i]? = some t → Nd w (vs i) t) : Nd w (nv k tx n (.slice a kids.length c) at_) (.mk k tx n kids at_)
theorem Nd.later {w w' : World} {v : Value} {t : Tr} (h : Nd w v t) (hB : Below w.heap.size w w') : Nd w' v t := by
  induction h with
  | mk k tx n kids at_ a c vs hl hc hk ih =>
    refine .mk k tx n kids at_ a c vs hl (fun i hi => ?_) (fun i t ht => ih i t ht)
    obtain ⟨b, o, e, h⟩ := hc i hi
    exact ⟨b, o, e, h.below hB⟩
/-- What a node's value is. -/
theorem Nd.open {w : World} {v : Value} {k : Int} {tx : List UInt8} {n : Int} {kids : List Tr} {at_ : Int} (h : Nd w v (.mk k tx n kids at_)) : ∃ a c, v = nv k tx n (.slice a kids.length c) at_ ∧ (kids.length ≤ c ∧ c ≤ 9223372036854775807) ∧ ∀ i t, kids[i]? = some t → ∃ b o u, a = some ⟨b, o, none⟩ ∧ Cl w b (o + i * 5) u ∧ Nd w u t := by
  cases h with
  | mk _ _ _ _ _ a c vs hl hc hk =>
    refine ⟨a, c, rfl, hl, fun i t ht => ?_⟩
    obtain ⟨b, o, e, h⟩ := hc i (List.getElem?_eq_some_iff.1 ht).1
    exact ⟨b, o, vs i, e, h, hk i t ht⟩
theorem size24 : (Tryz.prog.info? 25).map (·.size) = some 5 := by kernel_rfl
/-- A node is loaded from where it lies. -/
theorem load24 {w : World} {b o : Nat} {v : Value} (h : Cl w b o v) : (Instr.loadAt 25 (.pointer (some ⟨b, o, none⟩))).run Tryz.prog w = .ok v w := by
  obtain ⟨k, tx, n, s, at_, rfl, h0, h1, h2, h3, h4⟩ := h
  have hc := run_loadCells_list (P := Tryz.prog) w ⟨b, o, none⟩ [.int .i64 k, strV tx, .int .i64 n, s, .int .i64 at_] (fun j x hx => by
    match j, hx with
    | 0, hx => cases hx; rw [add_lit]; exact h0
    | 1, hx => cases hx; rw [add_lit]; exact h1
    | 2, hx => cases hx; rw [add_lit]; exact h2
    | 3, hx => cases hx; rw [add_lit]; exact h3
    | 4, hx => cases hx; rw [add_lit]; exact h4)
  unfold nv
  simp only [Instr.loadAt, Instr.sureAddr, Sem.run_bind, Sem.run_pure, Result.andThen, loadVar, Tryz.isAgg25, run_size size24, show 5 = [Value.int .i64 k, strV tx, .int .i64 n, s, .int .i64 at_].length from rfl, hc, if_true]
/-- A node is boxed: it lies in a block of its own. -/
theorem box24 (w : World) (k : Int) (tx : List UInt8) (n : Int) (s : Value) (at_ : Int) : ∃ w1, (Instr.box 25 (nv k tx n s at_)).run Tryz.prog w = .ok (.pointer (some ⟨w.heap.size, 0, none⟩)) w1 ∧ w1.heap[w.heap.size]? = some (.cells #[.int .i64 k, strV tx, .int .i64 n, s, .int .i64 at_] 25 (0, 0)) ∧ Below w.heap.size w w1 ∧ w1.heap.size = w.heap.size + 1 :=
  ⟨_, box_agg _ w _, heap_alloc_last w _, (Below.refl _ _).alloc (Nat.le_refl _) _, by show (w.heap.push _).size = _; simp⟩
theorem fg24_0 (b o : Nat) (w : World) : (Instr.fieldAt 25 (.pointer (some ⟨b, o, none⟩)) 0).run Tryz.prog w = .ok (.pointer (some ⟨b, o, none⟩)) w := by go_simp
theorem fg24_1 (b o : Nat) (w : World) : (Instr.fieldAt 25 (.pointer (some ⟨b, o, none⟩)) 1).run Tryz.prog w = .ok (.pointer (some ⟨b, o + 1, none⟩)) w := by go_simp
theorem fg24_2 (b o : Nat) (w : World) : (Instr.fieldAt 25 (.pointer (some ⟨b, o, none⟩)) 2).run Tryz.prog w = .ok (.pointer (some ⟨b, o + 2, none⟩)) w := by go_simp
theorem fg24_3 (b o : Nat) (w : World) : (Instr.fieldAt 25 (.pointer (some ⟨b, o, none⟩)) 3).run Tryz.prog w = .ok (.pointer (some ⟨b, o + 3, none⟩)) w := by go_simp
theorem idx24 (b o n cap k : Nat) (h : k < n) (w : World) : (Instr.indexAt 23 (.slice (some ⟨b, o, none⟩) n cap) (.int .i64 k)).run Tryz.prog w = .ok (.pointer (some ⟨b, o + k * 5, none⟩)) w := by go_simp
theorem len24 (p : Option Addr) (n c : Nat) (ty : TypeId) (w : World) : (Builtin.len_ #[23] ty #[.slice p n c]).run Tryz.prog w = .ok (.int .i64 n) w := by go_simp
end Go.Proofs.YtommhgmlblecnaaGreatDoor
namespace Go.Proofs.YtommhgmlblecnaaGreatDoor
open Go Go.RowKit

end Go.Proofs.YtommhgmlblecnaaGreatDoor
namespace Go.Proofs.YtommhgmlblecnaaGreatDoor
open Go Go.RowKit

mutual
/-- Are they the same but for their places? -/
def sam : Tr → Tr → Bool
  | .mk k tx n ks _, .mk k' tx' n' ks' _ => k == k' && decide (tx = tx') && n == n' && decide (ks.length = ks'.length) && sams ks ks'
def sams : List Tr → List Tr → Bool
  | t :: r, t' :: r' => sam t t' && sams r r'
  | [], _ => true
  | _ :: _, [] => true
end
theorem sams_take : ∀ (ks ks' : List Tr) (i : Nat) (t t' : Tr), ks[i]? = some t → ks'[i]? = some t' → sams (ks.take (i + 1)) (ks'.take (i + 1)) = (sams (ks.take i) (ks'.take i) && sam t t')
  | [], _, i, t, t', h, _ => by simp at h
  | _ :: _, [], i, t, t', _, h => by simp at h
  | s :: r, s' :: r', 0, t, t', h, h' => by
    simp only [List.getElem?_cons_zero, Option.some.injEq] at h h'
    subst h h'
    simp [sams]
  | s :: r, s' :: r', i + 1, t, t', h, h' => by
    simp only [List.getElem?_cons_succ] at h h'
    rw [List.take_succ_cons, List.take_succ_cons, sams, sams_take r r' i t t' h h', List.take_succ_cons, List.take_succ_cons, sams, Bool.and_assoc]
theorem sams_no : ∀ (ks ks' : List Tr) (i : Nat) (t t' : Tr), ks[i]? = some t → ks'[i]? = some t' → sam t t' = false → sams ks ks' = false
  | [], _, i, t, t', h, _, _ => by simp at h
  | _ :: _, [], i, t, t', _, h, _ => by simp at h
  | s :: r, s' :: r', 0, t, t', h, h', hs => by
    simp only [List.getElem?_cons_zero, Option.some.injEq] at h h'
    subst h h'
    simp [sams, hs]
  | s :: r, s' :: r', i + 1, t, t', h, h', hs => by
    simp only [List.getElem?_cons_succ] at h h'
    rw [sams, sams_no r r' i t t' h h' hs, Bool.and_false]
set_option maxRecDepth 100000 in
set_option maxHeartbeats 2000000 in
seal wpList in
theorem rsame_any (t : Tr) : ∀ (t' : Tr) (w : World) (v v' : Value), Nd w v t → Nd w v' t' → Calls Tryz.prog 12 #[v, v'] w fun e w' => e = .returned (.bool (sam t t')) ∧ Below w.heap.size w w' := by
  refine Tr.ind (P := fun t => ∀ (t' : Tr) (w : World) (v v' : Value), Nd w v t → Nd w v' t' → Calls Tryz.prog 12 #[v, v'] w fun e w' => e = .returned (.bool (sam t t')) ∧ Below w.heap.size w w') ?_ t
  intro k tx n kids at_ ih t' w v v' hN hM
  obtain ⟨k', tx', n', kids', at'⟩ := t'
  obtain ⟨a, c, rfl, hlc, hk⟩ := hN.open
  obtain ⟨a', c', rfl, hlc', hk'⟩ := hM.open
  obtain ⟨N, hN'⟩ : ∃ N, kids.length = N := ⟨_, rfl⟩
  obtain ⟨M, hM'⟩ : ∃ M, kids'.length = M := ⟨_, rfl⟩
  rw [hN'] at hlc ⊢
  rw [hM'] at hlc' ⊢
  obtain ⟨w1, hbx, hS1, hB1, hz1⟩ := box24 w k tx n (.slice a N c) at_
  obtain ⟨w2, hbx2, hT2, hB2, hz2⟩ := box24 w1 k' tx' n' (.slice a' M c') at'
  obtain ⟨g0, hg0⟩ : ∃ g, w.heap.size = g := ⟨_, rfl⟩
  obtain ⟨g1, hg1⟩ : ∃ g, w1.heap.size = g := ⟨_, rfl⟩
  rw [hg0] at hbx hS1 hB1 hz1 ⊢
  rw [hg1] at hbx2 hT2 hB2 hz2 hz1
  have hS2 := below_at hB2 hS1 (by omega)
  have HBX := hid hbx
  have HBX2 := hid hbx2
  have HA0 := hid (load1 Tryz.isAgg3 (cell_at hS2 0 rfl))
  have HA1 := hid (load1 Tryz.isAgg9 (cell_at hS2 1 rfl))
  have HA2 := hid (load1 Tryz.isAgg2 (cell_at hS2 2 rfl))
  have HA3 := hid (load1 Tryz.isAgg23 (cell_at hS2 3 rfl))
  have HC0 := hid (load1 Tryz.isAgg3 (cell_at hT2 0 rfl))
  have HC1 := hid (load1 Tryz.isAgg9 (cell_at hT2 1 rfl))
  have HC2 := hid (load1 Tryz.isAgg2 (cell_at hT2 2 rfl))
  have HC3 := hid (load1 Tryz.isAgg23 (cell_at hT2 3 rfl))
  have HS := hid (And.intro hS2 hT2)
  have HB : Hid (Below g0 w w2) := hid (hB1.trans (hB2.mono (by omega)))
  have HG : Hid (w.heap.size = g0 ∧ g1 = g0 + 1) := hid ⟨hg0, hz1⟩
  have HK := hid (And.intro hk hk')
  have HIH := hid ih
  have HL : Hid (N ≤ c ∧ c ≤ 9223372036854775807 ∧ kids.length = N ∧ kids'.length = M) := hid ⟨hlc.1, hlc.2, hN', hM'⟩
  rw [sam, hN', hM']
  obtain ⟨B0, hB0⟩ : ∃ B0, (k == k' && decide (tx = tx') && n == n' && decide (N = M) && sams kids kids') = B0 := ⟨_, rfl⟩
  rw [hB0]
  have HB0 := hid hB0
  clear hB0
  clear hbx hbx2 hS1 hS2 hT2 hB1 hB2 hz1 hz2 hg0 hg1 hk hk' ih hN hM hlc hlc' hN' hM'
  go_enter Tryz.func12, Tryz.ntmps12
  go_upto_region 0 with fail
  refine wp_region_lit ?_
  refine wp_run (v := .pointer (some ⟨g0, 0, none⟩)) rfl rfl (run_boxOp rfl (by kernel_rfl) HBX.out) rfl ?_
  try simp only [List.setIfInBounds_toArray, List.set_cons_zero, List.set_cons_succ]
  refine wp_run (v := .pointer (some ⟨g1, 0, none⟩)) rfl rfl (run_boxOp rfl (by kernel_rfl) HBX2.out) rfl ?_
  try simp only [List.setIfInBounds_toArray, List.set_cons_zero, List.set_cons_succ]
  refine wp_y (v := (.bool false)) rfl rfl (y_assign rfl (by kernel_rfl) (by kernel_rfl)) rfl ?_
  try simp only [List.setIfInBounds_toArray, List.set_cons_zero, List.set_cons_succ]
  refine wp_end ?_
  clear HBX HBX2
  go_upto_region 1 with fail
  by_cases hk0 : k = k'
  case neg =>
    have HF : Hid (B0 = false) := hid (by have h := HB0.out; rw [← h]; simp [hk0])
    have H1 : Hid ((k != k') = true) := hid (by simpa using hk0)
    refine wp_region_lit ?_
    refine wp_y (v := .pointer (some ⟨g0, 0, none⟩)) rfl rfl (y_faddr rfl (by kernel_rfl) (by kernel_rfl) (fg24_0 (g0) (0))) rfl ?_
    try simp only [List.setIfInBounds_toArray, List.set_cons_zero, List.set_cons_succ]
    refine wp_y (v := .int .i64 k) rfl rfl (y_load rfl (by kernel_rfl) (by kernel_rfl) (fun w' h => by rw [h]; exact HA0.out)) rfl ?_
    try simp only [List.setIfInBounds_toArray, List.set_cons_zero, List.set_cons_succ]
    refine wp_y (v := .pointer (some ⟨g1, 0, none⟩)) rfl rfl (y_faddr rfl (by kernel_rfl) (by kernel_rfl) (fg24_0 (g1) (0))) rfl ?_
    try simp only [List.setIfInBounds_toArray, List.set_cons_zero, List.set_cons_succ]
    refine wp_y (v := (.int .i64 k')) rfl rfl (y_load rfl (by kernel_rfl) (by kernel_rfl) (fun w' h => by rw [h]; exact HC0.out)) rfl ?_
    try simp only [List.setIfInBounds_toArray, List.set_cons_zero, List.set_cons_succ]
    refine wp_y (v := .bool true) rfl rfl (y_bin (k := .i64) (k' := .i64) (m := k) (n := k') rfl (by kernel_rfl) (by kernel_rfl) (by kernel_rfl) (neqI _ _ _ H1.out)) rfl ?_
    try simp only [List.setIfInBounds_toArray, List.set_cons_zero, List.set_cons_succ]
    refine wp_y (v := .bool true) rfl rfl (y_move rfl (by kernel_rfl) (by kernel_rfl)) rfl ?_
    try simp only [List.setIfInBounds_toArray, List.set_cons_zero, List.set_cons_succ]
    refine wp_sk rfl (by kernel_rfl) rfl ?_
    try simp only [List.setIfInBounds_toArray, List.set_cons_zero, List.set_cons_succ]
    refine wp_sk rfl (by kernel_rfl) rfl ?_
    try simp only [List.setIfInBounds_toArray, List.set_cons_zero, List.set_cons_succ]
    refine wp_sk rfl (by kernel_rfl) rfl ?_
    try simp only [List.setIfInBounds_toArray, List.set_cons_zero, List.set_cons_succ]
    refine wp_sk rfl (by kernel_rfl) rfl ?_
    try simp only [List.setIfInBounds_toArray, List.set_cons_zero, List.set_cons_succ]
    refine wp_sk rfl (by kernel_rfl) rfl ?_
    try simp only [List.setIfInBounds_toArray, List.set_cons_zero, List.set_cons_succ]
    refine wp_y (v := .bool true) rfl rfl (y_pick (b := true) rfl (by kernel_rfl) (by kernel_rfl) (by kernel_rfl)) rfl ?_
    try simp only [List.setIfInBounds_toArray, List.set_cons_zero, List.set_cons_succ]
    refine wp_y (v := .bool true) rfl rfl (y_move rfl (by kernel_rfl) (by kernel_rfl)) rfl ?_
    try simp only [List.setIfInBounds_toArray, List.set_cons_zero, List.set_cons_succ]
    refine wp_sk rfl (by kernel_rfl) rfl ?_
    try simp only [List.setIfInBounds_toArray, List.set_cons_zero, List.set_cons_succ]
    refine wp_sk rfl (by kernel_rfl) rfl ?_
    try simp only [List.setIfInBounds_toArray, List.set_cons_zero, List.set_cons_succ]
    refine wp_sk rfl (by kernel_rfl) rfl ?_
    try simp only [List.setIfInBounds_toArray, List.set_cons_zero, List.set_cons_succ]
    refine wp_sk rfl (by kernel_rfl) rfl ?_
    try simp only [List.setIfInBounds_toArray, List.set_cons_zero, List.set_cons_succ]
    refine wp_sk rfl (by kernel_rfl) rfl ?_
    try simp only [List.setIfInBounds_toArray, List.set_cons_zero, List.set_cons_succ]
    refine wp_y (v := .bool true) rfl rfl (y_pick (b := true) rfl (by kernel_rfl) (by kernel_rfl) (by kernel_rfl)) rfl ?_
    try simp only [List.setIfInBounds_toArray, List.set_cons_zero, List.set_cons_succ]
    refine wp_y (v := .bool true) rfl rfl (y_move rfl (by kernel_rfl) (by kernel_rfl)) rfl ?_
    try simp only [List.setIfInBounds_toArray, List.set_cons_zero, List.set_cons_succ]
    refine wp_sk rfl (by kernel_rfl) rfl ?_
    try simp only [List.setIfInBounds_toArray, List.set_cons_zero, List.set_cons_succ]
    refine wp_sk rfl (by kernel_rfl) rfl ?_
    try simp only [List.setIfInBounds_toArray, List.set_cons_zero, List.set_cons_succ]
    refine wp_sk rfl (by kernel_rfl) rfl ?_
    try simp only [List.setIfInBounds_toArray, List.set_cons_zero, List.set_cons_succ]
    refine wp_sk rfl (by kernel_rfl) rfl ?_
    try simp only [List.setIfInBounds_toArray, List.set_cons_zero, List.set_cons_succ]
    refine wp_sk rfl (by kernel_rfl) rfl ?_
    try simp only [List.setIfInBounds_toArray, List.set_cons_zero, List.set_cons_succ]
    refine wp_sk rfl (by kernel_rfl) rfl ?_
    try simp only [List.setIfInBounds_toArray, List.set_cons_zero, List.set_cons_succ]
    refine wp_sk rfl (by kernel_rfl) rfl ?_
    try simp only [List.setIfInBounds_toArray, List.set_cons_zero, List.set_cons_succ]
    refine wp_y (v := .bool true) rfl rfl (y_pick (b := true) rfl (by kernel_rfl) (by kernel_rfl) (by kernel_rfl)) rfl ?_
    try simp only [List.setIfInBounds_toArray, List.set_cons_zero, List.set_cons_succ]
    refine wp_end ?_
    clear HA0 HA1 HA2 HA3 HC0 HC1 HC2 HC3 HS HK HIH HL HB0 HG H1
    go_wp2_with fail
    go_ret
    exact ⟨by rw [HF.out]; rfl, HB.out⟩
  have H1 : Hid ((k != k') = false) := hid (by simpa using hk0)
  by_cases hk1 : tx = tx'
  case neg =>
    have HF : Hid (B0 = false) := hid (by have h := HB0.out; rw [← h]; simp [hk1])
    have H2 : Hid (decide (tx ≠ tx') = true) := hid (by simpa using hk1)
    refine wp_region_lit ?_
    refine wp_y (v := .pointer (some ⟨g0, 0, none⟩)) rfl rfl (y_faddr rfl (by kernel_rfl) (by kernel_rfl) (fg24_0 (g0) (0))) rfl ?_
    try simp only [List.setIfInBounds_toArray, List.set_cons_zero, List.set_cons_succ]
    refine wp_y (v := .int .i64 k) rfl rfl (y_load rfl (by kernel_rfl) (by kernel_rfl) (fun w' h => by rw [h]; exact HA0.out)) rfl ?_
    try simp only [List.setIfInBounds_toArray, List.set_cons_zero, List.set_cons_succ]
    refine wp_y (v := .pointer (some ⟨g1, 0, none⟩)) rfl rfl (y_faddr rfl (by kernel_rfl) (by kernel_rfl) (fg24_0 (g1) (0))) rfl ?_
    try simp only [List.setIfInBounds_toArray, List.set_cons_zero, List.set_cons_succ]
    refine wp_y (v := (.int .i64 k')) rfl rfl (y_load rfl (by kernel_rfl) (by kernel_rfl) (fun w' h => by rw [h]; exact HC0.out)) rfl ?_
    try simp only [List.setIfInBounds_toArray, List.set_cons_zero, List.set_cons_succ]
    refine wp_y (v := .bool false) rfl rfl (y_bin (k := .i64) (k' := .i64) (m := k) (n := k') rfl (by kernel_rfl) (by kernel_rfl) (by kernel_rfl) (neqI _ _ _ H1.out)) rfl ?_
    try simp only [List.setIfInBounds_toArray, List.set_cons_zero, List.set_cons_succ]
    refine wp_y (v := .bool false) rfl rfl (y_move rfl (by kernel_rfl) (by kernel_rfl)) rfl ?_
    try simp only [List.setIfInBounds_toArray, List.set_cons_zero, List.set_cons_succ]
    refine wp_yg (v := .pointer (some ⟨g0, 1, none⟩)) rfl (y_faddr rfl (by kernel_rfl) (by kernel_rfl) (fg24_1 (g0) (0))) rfl ?_
    try simp only [List.setIfInBounds_toArray, List.set_cons_zero, List.set_cons_succ]
    refine wp_yg (v := strV tx) rfl (y_load rfl (by kernel_rfl) (by kernel_rfl) (fun w' h => by rw [h]; exact HA1.out)) rfl ?_
    try simp only [List.setIfInBounds_toArray, List.set_cons_zero, List.set_cons_succ]
    refine wp_yg (v := .pointer (some ⟨g1, 1, none⟩)) rfl (y_faddr rfl (by kernel_rfl) (by kernel_rfl) (fg24_1 (g1) (0))) rfl ?_
    try simp only [List.setIfInBounds_toArray, List.set_cons_zero, List.set_cons_succ]
    refine wp_yg (v := strV tx') rfl (y_load rfl (by kernel_rfl) (by kernel_rfl) (fun w' h => by rw [h]; exact HC1.out)) rfl ?_
    try simp only [List.setIfInBounds_toArray, List.set_cons_zero, List.set_cons_succ]
    refine wp_yg (v := .bool true) rfl (y_neqS (l := tx) (m := tx') rfl (by kernel_rfl) (by kernel_rfl) (by kernel_rfl) H2.out) rfl ?_
    try simp only [List.setIfInBounds_toArray, List.set_cons_zero, List.set_cons_succ]
    refine wp_y (v := .bool true) rfl rfl (y_pick (b := false) rfl (by kernel_rfl) (by kernel_rfl) (by kernel_rfl)) rfl ?_
    try simp only [List.setIfInBounds_toArray, List.set_cons_zero, List.set_cons_succ]
    refine wp_y (v := .bool true) rfl rfl (y_move rfl (by kernel_rfl) (by kernel_rfl)) rfl ?_
    try simp only [List.setIfInBounds_toArray, List.set_cons_zero, List.set_cons_succ]
    refine wp_sk rfl (by kernel_rfl) rfl ?_
    try simp only [List.setIfInBounds_toArray, List.set_cons_zero, List.set_cons_succ]
    refine wp_sk rfl (by kernel_rfl) rfl ?_
    try simp only [List.setIfInBounds_toArray, List.set_cons_zero, List.set_cons_succ]
    refine wp_sk rfl (by kernel_rfl) rfl ?_
    try simp only [List.setIfInBounds_toArray, List.set_cons_zero, List.set_cons_succ]
    refine wp_sk rfl (by kernel_rfl) rfl ?_
    try simp only [List.setIfInBounds_toArray, List.set_cons_zero, List.set_cons_succ]
    refine wp_sk rfl (by kernel_rfl) rfl ?_
    try simp only [List.setIfInBounds_toArray, List.set_cons_zero, List.set_cons_succ]
    refine wp_y (v := .bool true) rfl rfl (y_pick (b := true) rfl (by kernel_rfl) (by kernel_rfl) (by kernel_rfl)) rfl ?_
    try simp only [List.setIfInBounds_toArray, List.set_cons_zero, List.set_cons_succ]
    refine wp_y (v := .bool true) rfl rfl (y_move rfl (by kernel_rfl) (by kernel_rfl)) rfl ?_
    try simp only [List.setIfInBounds_toArray, List.set_cons_zero, List.set_cons_succ]
    refine wp_sk rfl (by kernel_rfl) rfl ?_
    try simp only [List.setIfInBounds_toArray, List.set_cons_zero, List.set_cons_succ]
    refine wp_sk rfl (by kernel_rfl) rfl ?_
    try simp only [List.setIfInBounds_toArray, List.set_cons_zero, List.set_cons_succ]
    refine wp_sk rfl (by kernel_rfl) rfl ?_
    try simp only [List.setIfInBounds_toArray, List.set_cons_zero, List.set_cons_succ]
    refine wp_sk rfl (by kernel_rfl) rfl ?_
    try simp only [List.setIfInBounds_toArray, List.set_cons_zero, List.set_cons_succ]
    refine wp_sk rfl (by kernel_rfl) rfl ?_
    try simp only [List.setIfInBounds_toArray, List.set_cons_zero, List.set_cons_succ]
    refine wp_sk rfl (by kernel_rfl) rfl ?_
    try simp only [List.setIfInBounds_toArray, List.set_cons_zero, List.set_cons_succ]
    refine wp_sk rfl (by kernel_rfl) rfl ?_
    try simp only [List.setIfInBounds_toArray, List.set_cons_zero, List.set_cons_succ]
    refine wp_y (v := .bool true) rfl rfl (y_pick (b := true) rfl (by kernel_rfl) (by kernel_rfl) (by kernel_rfl)) rfl ?_
    try simp only [List.setIfInBounds_toArray, List.set_cons_zero, List.set_cons_succ]
    refine wp_end ?_
    clear HA0 HA1 HA2 HA3 HC0 HC1 HC2 HC3 HS HK HIH HL HB0 HG H1
    go_wp2_with fail
    go_ret
    exact ⟨by rw [HF.out]; rfl, HB.out⟩
  have H2 : Hid (decide (tx ≠ tx') = false) := hid (by simpa using hk1)
  by_cases hk2 : n = n'
  case neg =>
    have HF : Hid (B0 = false) := hid (by have h := HB0.out; rw [← h]; simp [hk2])
    have H3 : Hid ((n != n') = true) := hid (by simpa using hk2)
    refine wp_region_lit ?_
    refine wp_y (v := .pointer (some ⟨g0, 0, none⟩)) rfl rfl (y_faddr rfl (by kernel_rfl) (by kernel_rfl) (fg24_0 (g0) (0))) rfl ?_
    try simp only [List.setIfInBounds_toArray, List.set_cons_zero, List.set_cons_succ]
    refine wp_y (v := .int .i64 k) rfl rfl (y_load rfl (by kernel_rfl) (by kernel_rfl) (fun w' h => by rw [h]; exact HA0.out)) rfl ?_
    try simp only [List.setIfInBounds_toArray, List.set_cons_zero, List.set_cons_succ]
    refine wp_y (v := .pointer (some ⟨g1, 0, none⟩)) rfl rfl (y_faddr rfl (by kernel_rfl) (by kernel_rfl) (fg24_0 (g1) (0))) rfl ?_
    try simp only [List.setIfInBounds_toArray, List.set_cons_zero, List.set_cons_succ]
    refine wp_y (v := (.int .i64 k')) rfl rfl (y_load rfl (by kernel_rfl) (by kernel_rfl) (fun w' h => by rw [h]; exact HC0.out)) rfl ?_
    try simp only [List.setIfInBounds_toArray, List.set_cons_zero, List.set_cons_succ]
    refine wp_y (v := .bool false) rfl rfl (y_bin (k := .i64) (k' := .i64) (m := k) (n := k') rfl (by kernel_rfl) (by kernel_rfl) (by kernel_rfl) (neqI _ _ _ H1.out)) rfl ?_
    try simp only [List.setIfInBounds_toArray, List.set_cons_zero, List.set_cons_succ]
    refine wp_y (v := .bool false) rfl rfl (y_move rfl (by kernel_rfl) (by kernel_rfl)) rfl ?_
    try simp only [List.setIfInBounds_toArray, List.set_cons_zero, List.set_cons_succ]
    refine wp_yg (v := .pointer (some ⟨g0, 1, none⟩)) rfl (y_faddr rfl (by kernel_rfl) (by kernel_rfl) (fg24_1 (g0) (0))) rfl ?_
    try simp only [List.setIfInBounds_toArray, List.set_cons_zero, List.set_cons_succ]
    refine wp_yg (v := strV tx) rfl (y_load rfl (by kernel_rfl) (by kernel_rfl) (fun w' h => by rw [h]; exact HA1.out)) rfl ?_
    try simp only [List.setIfInBounds_toArray, List.set_cons_zero, List.set_cons_succ]
    refine wp_yg (v := .pointer (some ⟨g1, 1, none⟩)) rfl (y_faddr rfl (by kernel_rfl) (by kernel_rfl) (fg24_1 (g1) (0))) rfl ?_
    try simp only [List.setIfInBounds_toArray, List.set_cons_zero, List.set_cons_succ]
    refine wp_yg (v := strV tx') rfl (y_load rfl (by kernel_rfl) (by kernel_rfl) (fun w' h => by rw [h]; exact HC1.out)) rfl ?_
    try simp only [List.setIfInBounds_toArray, List.set_cons_zero, List.set_cons_succ]
    refine wp_yg (v := .bool false) rfl (y_neqS (l := tx) (m := tx') rfl (by kernel_rfl) (by kernel_rfl) (by kernel_rfl) H2.out) rfl ?_
    try simp only [List.setIfInBounds_toArray, List.set_cons_zero, List.set_cons_succ]
    refine wp_y (v := .bool false) rfl rfl (y_pick (b := false) rfl (by kernel_rfl) (by kernel_rfl) (by kernel_rfl)) rfl ?_
    try simp only [List.setIfInBounds_toArray, List.set_cons_zero, List.set_cons_succ]
    refine wp_y (v := .bool false) rfl rfl (y_move rfl (by kernel_rfl) (by kernel_rfl)) rfl ?_
    try simp only [List.setIfInBounds_toArray, List.set_cons_zero, List.set_cons_succ]
    refine wp_yg (v := .pointer (some ⟨g0, 2, none⟩)) rfl (y_faddr rfl (by kernel_rfl) (by kernel_rfl) (fg24_2 (g0) (0))) rfl ?_
    try simp only [List.setIfInBounds_toArray, List.set_cons_zero, List.set_cons_succ]
    refine wp_yg (v := .int .i64 n) rfl (y_load rfl (by kernel_rfl) (by kernel_rfl) (fun w' h => by rw [h]; exact HA2.out)) rfl ?_
    try simp only [List.setIfInBounds_toArray, List.set_cons_zero, List.set_cons_succ]
    refine wp_yg (v := .pointer (some ⟨g1, 2, none⟩)) rfl (y_faddr rfl (by kernel_rfl) (by kernel_rfl) (fg24_2 (g1) (0))) rfl ?_
    try simp only [List.setIfInBounds_toArray, List.set_cons_zero, List.set_cons_succ]
    refine wp_yg (v := (.int .i64 n')) rfl (y_load rfl (by kernel_rfl) (by kernel_rfl) (fun w' h => by rw [h]; exact HC2.out)) rfl ?_
    try simp only [List.setIfInBounds_toArray, List.set_cons_zero, List.set_cons_succ]
    refine wp_yg (v := .bool true) rfl (y_bin (k := .i64) (k' := .i64) (m := n) (n := n') rfl (by kernel_rfl) (by kernel_rfl) (by kernel_rfl) (neqL _ _ _ H3.out)) rfl ?_
    try simp only [List.setIfInBounds_toArray, List.set_cons_zero, List.set_cons_succ]
    refine wp_y (v := .bool true) rfl rfl (y_pick (b := false) rfl (by kernel_rfl) (by kernel_rfl) (by kernel_rfl)) rfl ?_
    try simp only [List.setIfInBounds_toArray, List.set_cons_zero, List.set_cons_succ]
    refine wp_y (v := .bool true) rfl rfl (y_move rfl (by kernel_rfl) (by kernel_rfl)) rfl ?_
    try simp only [List.setIfInBounds_toArray, List.set_cons_zero, List.set_cons_succ]
    refine wp_sk rfl (by kernel_rfl) rfl ?_
    try simp only [List.setIfInBounds_toArray, List.set_cons_zero, List.set_cons_succ]
    refine wp_sk rfl (by kernel_rfl) rfl ?_
    try simp only [List.setIfInBounds_toArray, List.set_cons_zero, List.set_cons_succ]
    refine wp_sk rfl (by kernel_rfl) rfl ?_
    try simp only [List.setIfInBounds_toArray, List.set_cons_zero, List.set_cons_succ]
    refine wp_sk rfl (by kernel_rfl) rfl ?_
    try simp only [List.setIfInBounds_toArray, List.set_cons_zero, List.set_cons_succ]
    refine wp_sk rfl (by kernel_rfl) rfl ?_
    try simp only [List.setIfInBounds_toArray, List.set_cons_zero, List.set_cons_succ]
    refine wp_sk rfl (by kernel_rfl) rfl ?_
    try simp only [List.setIfInBounds_toArray, List.set_cons_zero, List.set_cons_succ]
    refine wp_sk rfl (by kernel_rfl) rfl ?_
    try simp only [List.setIfInBounds_toArray, List.set_cons_zero, List.set_cons_succ]
    refine wp_y (v := .bool true) rfl rfl (y_pick (b := true) rfl (by kernel_rfl) (by kernel_rfl) (by kernel_rfl)) rfl ?_
    try simp only [List.setIfInBounds_toArray, List.set_cons_zero, List.set_cons_succ]
    refine wp_end ?_
    clear HA0 HA1 HA2 HA3 HC0 HC1 HC2 HC3 HS HK HIH HL HB0 HG H1
    go_wp2_with fail
    go_ret
    exact ⟨by rw [HF.out]; rfl, HB.out⟩
  have H3 : Hid ((n != n') = false) := hid (by simpa using hk2)
  by_cases hk3 : N = M
  case neg =>
    have HF : Hid (B0 = false) := hid (by have h := HB0.out; rw [← h]; simp [hk3])
    have H4 : Hid (((N : Int) != (M : Int)) = true) := hid (by simp; omega)
    refine wp_region_lit ?_
    refine wp_y (v := .pointer (some ⟨g0, 0, none⟩)) rfl rfl (y_faddr rfl (by kernel_rfl) (by kernel_rfl) (fg24_0 (g0) (0))) rfl ?_
    try simp only [List.setIfInBounds_toArray, List.set_cons_zero, List.set_cons_succ]
    refine wp_y (v := .int .i64 k) rfl rfl (y_load rfl (by kernel_rfl) (by kernel_rfl) (fun w' h => by rw [h]; exact HA0.out)) rfl ?_
    try simp only [List.setIfInBounds_toArray, List.set_cons_zero, List.set_cons_succ]
    refine wp_y (v := .pointer (some ⟨g1, 0, none⟩)) rfl rfl (y_faddr rfl (by kernel_rfl) (by kernel_rfl) (fg24_0 (g1) (0))) rfl ?_
    try simp only [List.setIfInBounds_toArray, List.set_cons_zero, List.set_cons_succ]
    refine wp_y (v := (.int .i64 k')) rfl rfl (y_load rfl (by kernel_rfl) (by kernel_rfl) (fun w' h => by rw [h]; exact HC0.out)) rfl ?_
    try simp only [List.setIfInBounds_toArray, List.set_cons_zero, List.set_cons_succ]
    refine wp_y (v := .bool false) rfl rfl (y_bin (k := .i64) (k' := .i64) (m := k) (n := k') rfl (by kernel_rfl) (by kernel_rfl) (by kernel_rfl) (neqI _ _ _ H1.out)) rfl ?_
    try simp only [List.setIfInBounds_toArray, List.set_cons_zero, List.set_cons_succ]
    refine wp_y (v := .bool false) rfl rfl (y_move rfl (by kernel_rfl) (by kernel_rfl)) rfl ?_
    try simp only [List.setIfInBounds_toArray, List.set_cons_zero, List.set_cons_succ]
    refine wp_yg (v := .pointer (some ⟨g0, 1, none⟩)) rfl (y_faddr rfl (by kernel_rfl) (by kernel_rfl) (fg24_1 (g0) (0))) rfl ?_
    try simp only [List.setIfInBounds_toArray, List.set_cons_zero, List.set_cons_succ]
    refine wp_yg (v := strV tx) rfl (y_load rfl (by kernel_rfl) (by kernel_rfl) (fun w' h => by rw [h]; exact HA1.out)) rfl ?_
    try simp only [List.setIfInBounds_toArray, List.set_cons_zero, List.set_cons_succ]
    refine wp_yg (v := .pointer (some ⟨g1, 1, none⟩)) rfl (y_faddr rfl (by kernel_rfl) (by kernel_rfl) (fg24_1 (g1) (0))) rfl ?_
    try simp only [List.setIfInBounds_toArray, List.set_cons_zero, List.set_cons_succ]
    refine wp_yg (v := strV tx') rfl (y_load rfl (by kernel_rfl) (by kernel_rfl) (fun w' h => by rw [h]; exact HC1.out)) rfl ?_
    try simp only [List.setIfInBounds_toArray, List.set_cons_zero, List.set_cons_succ]
    refine wp_yg (v := .bool false) rfl (y_neqS (l := tx) (m := tx') rfl (by kernel_rfl) (by kernel_rfl) (by kernel_rfl) H2.out) rfl ?_
    try simp only [List.setIfInBounds_toArray, List.set_cons_zero, List.set_cons_succ]
    refine wp_y (v := .bool false) rfl rfl (y_pick (b := false) rfl (by kernel_rfl) (by kernel_rfl) (by kernel_rfl)) rfl ?_
    try simp only [List.setIfInBounds_toArray, List.set_cons_zero, List.set_cons_succ]
    refine wp_y (v := .bool false) rfl rfl (y_move rfl (by kernel_rfl) (by kernel_rfl)) rfl ?_
    try simp only [List.setIfInBounds_toArray, List.set_cons_zero, List.set_cons_succ]
    refine wp_yg (v := .pointer (some ⟨g0, 2, none⟩)) rfl (y_faddr rfl (by kernel_rfl) (by kernel_rfl) (fg24_2 (g0) (0))) rfl ?_
    try simp only [List.setIfInBounds_toArray, List.set_cons_zero, List.set_cons_succ]
    refine wp_yg (v := .int .i64 n) rfl (y_load rfl (by kernel_rfl) (by kernel_rfl) (fun w' h => by rw [h]; exact HA2.out)) rfl ?_
    try simp only [List.setIfInBounds_toArray, List.set_cons_zero, List.set_cons_succ]
    refine wp_yg (v := .pointer (some ⟨g1, 2, none⟩)) rfl (y_faddr rfl (by kernel_rfl) (by kernel_rfl) (fg24_2 (g1) (0))) rfl ?_
    try simp only [List.setIfInBounds_toArray, List.set_cons_zero, List.set_cons_succ]
    refine wp_yg (v := (.int .i64 n')) rfl (y_load rfl (by kernel_rfl) (by kernel_rfl) (fun w' h => by rw [h]; exact HC2.out)) rfl ?_
    try simp only [List.setIfInBounds_toArray, List.set_cons_zero, List.set_cons_succ]
    refine wp_yg (v := .bool false) rfl (y_bin (k := .i64) (k' := .i64) (m := n) (n := n') rfl (by kernel_rfl) (by kernel_rfl) (by kernel_rfl) (neqL _ _ _ H3.out)) rfl ?_
    try simp only [List.setIfInBounds_toArray, List.set_cons_zero, List.set_cons_succ]
    refine wp_y (v := .bool false) rfl rfl (y_pick (b := false) rfl (by kernel_rfl) (by kernel_rfl) (by kernel_rfl)) rfl ?_
    try simp only [List.setIfInBounds_toArray, List.set_cons_zero, List.set_cons_succ]
    refine wp_y (v := .bool false) rfl rfl (y_move rfl (by kernel_rfl) (by kernel_rfl)) rfl ?_
    try simp only [List.setIfInBounds_toArray, List.set_cons_zero, List.set_cons_succ]
    refine wp_yg (v := .pointer (some ⟨g0, 3, none⟩)) rfl (y_faddr rfl (by kernel_rfl) (by kernel_rfl) (fg24_3 (g0) (0))) rfl ?_
    try simp only [List.setIfInBounds_toArray, List.set_cons_zero, List.set_cons_succ]
    refine wp_yg (v := .slice a N c) rfl (y_load rfl (by kernel_rfl) (by kernel_rfl) (fun w' h => by rw [h]; exact HA3.out)) rfl ?_
    try simp only [List.setIfInBounds_toArray, List.set_cons_zero, List.set_cons_succ]
    refine wp_yg (v := .int .i64 (N : Nat)) rfl (y_lenT len24 (p := a) (c := c) rfl (by kernel_rfl) (by kernel_rfl)) rfl ?_
    try simp only [List.setIfInBounds_toArray, List.set_cons_zero, List.set_cons_succ]
    refine wp_yg (v := .pointer (some ⟨g1, 3, none⟩)) rfl (y_faddr rfl (by kernel_rfl) (by kernel_rfl) (fg24_3 (g1) (0))) rfl ?_
    try simp only [List.setIfInBounds_toArray, List.set_cons_zero, List.set_cons_succ]
    refine wp_yg (v := (.slice a' M c')) rfl (y_load rfl (by kernel_rfl) (by kernel_rfl) (fun w' h => by rw [h]; exact HC3.out)) rfl ?_
    try simp only [List.setIfInBounds_toArray, List.set_cons_zero, List.set_cons_succ]
    refine wp_yg (v := .int .i64 (M : Nat)) rfl (y_lenT len24 (p := a') (c := c') rfl (by kernel_rfl) (by kernel_rfl)) rfl ?_
    try simp only [List.setIfInBounds_toArray, List.set_cons_zero, List.set_cons_succ]
    refine wp_yg (v := .bool true) rfl (y_bin (k := .i64) (k' := .i64) (m := (N : Nat)) (n := (M : Nat)) rfl (by kernel_rfl) (by kernel_rfl) (by kernel_rfl) (neqI _ _ _ H4.out)) rfl ?_
    try simp only [List.setIfInBounds_toArray, List.set_cons_zero, List.set_cons_succ]
    refine wp_y (v := .bool true) rfl rfl (y_pick (b := false) rfl (by kernel_rfl) (by kernel_rfl) (by kernel_rfl)) rfl ?_
    try simp only [List.setIfInBounds_toArray, List.set_cons_zero, List.set_cons_succ]
    refine wp_end ?_
    clear HA0 HA1 HA2 HA3 HC0 HC1 HC2 HC3 HS HK HIH HL HB0 HG H1
    go_wp2_with fail
    go_ret
    exact ⟨by rw [HF.out]; rfl, HB.out⟩
  have H4 : Hid (((N : Int) != (M : Int)) = false) := hid (by simp; omega)
  refine wp_region_lit ?_
  refine wp_y (v := .pointer (some ⟨g0, 0, none⟩)) rfl rfl (y_faddr rfl (by kernel_rfl) (by kernel_rfl) (fg24_0 (g0) (0))) rfl ?_
  try simp only [List.setIfInBounds_toArray, List.set_cons_zero, List.set_cons_succ]
  refine wp_y (v := .int .i64 k) rfl rfl (y_load rfl (by kernel_rfl) (by kernel_rfl) (fun w' h => by rw [h]; exact HA0.out)) rfl ?_
  try simp only [List.setIfInBounds_toArray, List.set_cons_zero, List.set_cons_succ]
  refine wp_y (v := .pointer (some ⟨g1, 0, none⟩)) rfl rfl (y_faddr rfl (by kernel_rfl) (by kernel_rfl) (fg24_0 (g1) (0))) rfl ?_
  try simp only [List.setIfInBounds_toArray, List.set_cons_zero, List.set_cons_succ]
  refine wp_y (v := (.int .i64 k')) rfl rfl (y_load rfl (by kernel_rfl) (by kernel_rfl) (fun w' h => by rw [h]; exact HC0.out)) rfl ?_
  try simp only [List.setIfInBounds_toArray, List.set_cons_zero, List.set_cons_succ]
  refine wp_y (v := .bool false) rfl rfl (y_bin (k := .i64) (k' := .i64) (m := k) (n := k') rfl (by kernel_rfl) (by kernel_rfl) (by kernel_rfl) (neqI _ _ _ H1.out)) rfl ?_
  try simp only [List.setIfInBounds_toArray, List.set_cons_zero, List.set_cons_succ]
  refine wp_y (v := .bool false) rfl rfl (y_move rfl (by kernel_rfl) (by kernel_rfl)) rfl ?_
  try simp only [List.setIfInBounds_toArray, List.set_cons_zero, List.set_cons_succ]
  refine wp_yg (v := .pointer (some ⟨g0, 1, none⟩)) rfl (y_faddr rfl (by kernel_rfl) (by kernel_rfl) (fg24_1 (g0) (0))) rfl ?_
  try simp only [List.setIfInBounds_toArray, List.set_cons_zero, List.set_cons_succ]
  refine wp_yg (v := strV tx) rfl (y_load rfl (by kernel_rfl) (by kernel_rfl) (fun w' h => by rw [h]; exact HA1.out)) rfl ?_
  try simp only [List.setIfInBounds_toArray, List.set_cons_zero, List.set_cons_succ]
  refine wp_yg (v := .pointer (some ⟨g1, 1, none⟩)) rfl (y_faddr rfl (by kernel_rfl) (by kernel_rfl) (fg24_1 (g1) (0))) rfl ?_
  try simp only [List.setIfInBounds_toArray, List.set_cons_zero, List.set_cons_succ]
  refine wp_yg (v := strV tx') rfl (y_load rfl (by kernel_rfl) (by kernel_rfl) (fun w' h => by rw [h]; exact HC1.out)) rfl ?_
  try simp only [List.setIfInBounds_toArray, List.set_cons_zero, List.set_cons_succ]
  refine wp_yg (v := .bool false) rfl (y_neqS (l := tx) (m := tx') rfl (by kernel_rfl) (by kernel_rfl) (by kernel_rfl) H2.out) rfl ?_
  try simp only [List.setIfInBounds_toArray, List.set_cons_zero, List.set_cons_succ]
  refine wp_y (v := .bool false) rfl rfl (y_pick (b := false) rfl (by kernel_rfl) (by kernel_rfl) (by kernel_rfl)) rfl ?_
  try simp only [List.setIfInBounds_toArray, List.set_cons_zero, List.set_cons_succ]
  refine wp_y (v := .bool false) rfl rfl (y_move rfl (by kernel_rfl) (by kernel_rfl)) rfl ?_
  try simp only [List.setIfInBounds_toArray, List.set_cons_zero, List.set_cons_succ]
  refine wp_yg (v := .pointer (some ⟨g0, 2, none⟩)) rfl (y_faddr rfl (by kernel_rfl) (by kernel_rfl) (fg24_2 (g0) (0))) rfl ?_
  try simp only [List.setIfInBounds_toArray, List.set_cons_zero, List.set_cons_succ]
  refine wp_yg (v := .int .i64 n) rfl (y_load rfl (by kernel_rfl) (by kernel_rfl) (fun w' h => by rw [h]; exact HA2.out)) rfl ?_
  try simp only [List.setIfInBounds_toArray, List.set_cons_zero, List.set_cons_succ]
  refine wp_yg (v := .pointer (some ⟨g1, 2, none⟩)) rfl (y_faddr rfl (by kernel_rfl) (by kernel_rfl) (fg24_2 (g1) (0))) rfl ?_
  try simp only [List.setIfInBounds_toArray, List.set_cons_zero, List.set_cons_succ]
  refine wp_yg (v := (.int .i64 n')) rfl (y_load rfl (by kernel_rfl) (by kernel_rfl) (fun w' h => by rw [h]; exact HC2.out)) rfl ?_
  try simp only [List.setIfInBounds_toArray, List.set_cons_zero, List.set_cons_succ]
  refine wp_yg (v := .bool false) rfl (y_bin (k := .i64) (k' := .i64) (m := n) (n := n') rfl (by kernel_rfl) (by kernel_rfl) (by kernel_rfl) (neqL _ _ _ H3.out)) rfl ?_
  try simp only [List.setIfInBounds_toArray, List.set_cons_zero, List.set_cons_succ]
  refine wp_y (v := .bool false) rfl rfl (y_pick (b := false) rfl (by kernel_rfl) (by kernel_rfl) (by kernel_rfl)) rfl ?_
  try simp only [List.setIfInBounds_toArray, List.set_cons_zero, List.set_cons_succ]
  refine wp_y (v := .bool false) rfl rfl (y_move rfl (by kernel_rfl) (by kernel_rfl)) rfl ?_
  try simp only [List.setIfInBounds_toArray, List.set_cons_zero, List.set_cons_succ]
  refine wp_yg (v := .pointer (some ⟨g0, 3, none⟩)) rfl (y_faddr rfl (by kernel_rfl) (by kernel_rfl) (fg24_3 (g0) (0))) rfl ?_
  try simp only [List.setIfInBounds_toArray, List.set_cons_zero, List.set_cons_succ]
  refine wp_yg (v := .slice a N c) rfl (y_load rfl (by kernel_rfl) (by kernel_rfl) (fun w' h => by rw [h]; exact HA3.out)) rfl ?_
  try simp only [List.setIfInBounds_toArray, List.set_cons_zero, List.set_cons_succ]
  refine wp_yg (v := .int .i64 (N : Nat)) rfl (y_lenT len24 (p := a) (c := c) rfl (by kernel_rfl) (by kernel_rfl)) rfl ?_
  try simp only [List.setIfInBounds_toArray, List.set_cons_zero, List.set_cons_succ]
  refine wp_yg (v := .pointer (some ⟨g1, 3, none⟩)) rfl (y_faddr rfl (by kernel_rfl) (by kernel_rfl) (fg24_3 (g1) (0))) rfl ?_
  try simp only [List.setIfInBounds_toArray, List.set_cons_zero, List.set_cons_succ]
  refine wp_yg (v := (.slice a' M c')) rfl (y_load rfl (by kernel_rfl) (by kernel_rfl) (fun w' h => by rw [h]; exact HC3.out)) rfl ?_
  try simp only [List.setIfInBounds_toArray, List.set_cons_zero, List.set_cons_succ]
  refine wp_yg (v := .int .i64 (M : Nat)) rfl (y_lenT len24 (p := a') (c := c') rfl (by kernel_rfl) (by kernel_rfl)) rfl ?_
  try simp only [List.setIfInBounds_toArray, List.set_cons_zero, List.set_cons_succ]
  refine wp_yg (v := .bool false) rfl (y_bin (k := .i64) (k' := .i64) (m := (N : Nat)) (n := (M : Nat)) rfl (by kernel_rfl) (by kernel_rfl) (by kernel_rfl) (neqI _ _ _ H4.out)) rfl ?_
  try simp only [List.setIfInBounds_toArray, List.set_cons_zero, List.set_cons_succ]
  refine wp_y (v := .bool false) rfl rfl (y_pick (b := false) rfl (by kernel_rfl) (by kernel_rfl) (by kernel_rfl)) rfl ?_
  try simp only [List.setIfInBounds_toArray, List.set_cons_zero, List.set_cons_succ]
  refine wp_end ?_
  have HB1 : Hid (sams kids kids' = B0) := hid (by have := HB0.out; simp [hk0, hk1, hk2, hk3] at this; exact this)
  have HNM := hid hk3
  clear HB0 H1 H2 H3 H4 HA0 HA1 HA2 HA3 HC0 HC1 HC2 HC3 hk0 hk1 hk2 hk3
  go_wp2_with fail
  go_loopw [5] (fun v5 wr => ∃ i : Nat, i ≤ N ∧ v5 = .int .i64 i ∧ sams (kids.take i) (kids'.take i) = true ∧ Below g0 w wr ∧ wr.heap[g0]? = some (.cells #[.int .i64 k, strV tx, .int .i64 n, .slice a N c, .int .i64 at_] 25 (0, 0)) ∧ wr.heap[g1]? = some (.cells #[.int .i64 k', strV tx', .int .i64 n', .slice a' M c', .int .i64 at'] 25 (0, 0))) (fun v5 _ => N - (intOf v5).toNat)
  case atStart => exact ⟨0, Nat.zero_le _, rfl, by rw [List.take_zero, sams], HB.out, HS.out.1, HS.out.2⟩
  case round =>
    clear HB HS
    obtain ⟨i, hi, rfl, hsm, hBw, hS, hT⟩ := hrel
    have hgg := HG.out
    have hll := HL.out
    have hc3 : wr.cell? ⟨g0, 3, none⟩ = some (.slice a N c) := cell_at hS 3 rfl
    have hd3 : wr.cell? ⟨g1, 3, none⟩ = some (.slice a' M c') := cell_at hT 3 rfl
    by_cases hlt : i < N
    · have hlt' : (i : Int) < (N : Int) := by omega
      have hnm := HNM.out
      obtain ⟨t, ht⟩ : ∃ t, kids[i]? = some t := ⟨_, List.getElem?_eq_getElem (by omega)⟩
      obtain ⟨t', ht'⟩ : ∃ t, kids'[i]? = some t := ⟨_, List.getElem?_eq_getElem (by omega)⟩
      obtain ⟨b, o, u, hab, hcl, hNt⟩ := HK.out.1 i t ht
      obtain ⟨b', o', u', hab', hcl', hNt'⟩ := HK.out.2 i t' ht'
      have hb : Below w.heap.size w wr := by rw [hgg.1]; exact hBw
      clear HK
      subst hab hab'
      have HLD := hid (fun (w' : World) (h : Below wr.heap.size wr w') => load24 ((hcl.below hb).below h))
      have HLD' := hid (fun (w' : World) (h : Below wr.heap.size wr w') => load24 ((hcl'.below hb).below h))
      have HCA := hid (HIH.out t (List.mem_of_getElem? ht) t' wr.drew u u' (hNt.later hb.drew) (hNt'.later hb.drew))
      have HLC := hid (fun (w' : World) (h : Below wr.heap.size wr w') => load1 Tryz.isAgg23 ((h.cell (p := ⟨g0, 3, none⟩) (heap_lt hS)).trans hc3))
      have HLC' := hid (fun (w' : World) (h : Below wr.heap.size wr w') => load1 Tryz.isAgg23 ((h.cell (p := ⟨g1, 3, none⟩) (heap_lt hT)).trans hd3))
      have HIX := hid (And.intro hlt (show i < M by omega))
      have hwk : IntKind.i64.wrap ((i : Int) + 1) = ((i + 1 : Nat) : Int) := by rw [IntWalk.i64_in _ ⟨by omega, by omega⟩]; omega
      have HZ : Hid (∀ w', Below wr.heap.size wr w' → Below g0 w w' ∧ w'.heap[g0]? = some (.cells #[.int .i64 k, strV tx, .int .i64 n, .slice (some ⟨b, o, none⟩) N c, .int .i64 at_] 25 (0, 0)) ∧ w'.heap[g1]? = some (.cells #[.int .i64 k', strV tx', .int .i64 n', .slice (some ⟨b', o', none⟩) M c', .int .i64 at'] 25 (0, 0))) := hid (fun w' hb' => ⟨hBw.trans (hb'.mono (by have := heap_lt hS; omega)), below_at hb' hS (heap_lt hS), below_at hb' hT (heap_lt hT)⟩)
      have HSM : Hid (sams (kids.take (i + 1)) (kids'.take (i + 1)) = sam t t' ∧ (sam t t' = false → sams kids kids' = false)) := hid ⟨by rw [sams_take _ _ _ _ _ ht ht', hsm, Bool.true_and], sams_no _ _ _ _ _ ht ht'⟩
      have HR : Hid (∀ w', Below wr.drew.heap.size wr.drew w' → Below wr.heap.size wr w') := hid (fun w' h => ⟨h.os, h.tape, h.output, h.size, h.block⟩)
      clear hcl hcl' hNt hNt' ht ht' hb hS hT hBw hgg hll hsm hi hlt hnm HIH
      go_upto_region 6 with fail
      refine h_openL (S := fun w' => Below wr.heap.size wr w') (by kernel_rfl) (by kernel_rfl) (fun _ _ _ _ _ h => h) (L := #[false, false, false, false, false, false, false, false, false, false, false, false]) (by kernel_rfl) ?_
      intro Q' hns hP hN
      have hS := (show Below wr.heap.size wr wr.drew from (Below.refl _ _).drew)
      refine h_takeL (i := 0) (v := .pointer (some ⟨g0, 3, none⟩)) hns rfl rfl (by kernel_rfl) (by kernel_rfl) hP (y_faddr rfl (by kernel_rfl) (by kernel_rfl) (fg24_3 (g0) (0))) hS rfl (L' := #[true, false, false, false, false, false, false, false, false, false, false, false]) (by kernel_rfl) ?_
      refine h_takeL (i := 1) (v := .slice (some ⟨b, o, none⟩) N c) hns rfl rfl (by kernel_rfl) (by kernel_rfl) hP (y_load rfl (by kernel_rfl) (by kernel_rfl) (fun w' h => HLC.out w' h)) hS rfl (L' := #[true, true, false, false, false, false, false, false, false, false, false, false]) (by kernel_rfl) ?_
      refine h_takeL (i := 2) (v := .int .i64 (i : Nat)) hns rfl rfl (by kernel_rfl) (by kernel_rfl) hP (y_move rfl (by kernel_rfl) (by kernel_rfl)) hS rfl (L' := #[true, true, true, false, false, false, false, false, false, false, false, false]) (by kernel_rfl) ?_
      refine h_takeL (i := 3) (v := .pointer (some ⟨b, o + i * 5, none⟩)) hns rfl rfl (by kernel_rfl) (by kernel_rfl) hP (y_index rfl (by kernel_rfl) (by kernel_rfl) (by kernel_rfl) (idx24 b o N c i HIX.out.1)) hS rfl (L' := #[true, true, true, true, false, false, false, false, false, false, false, false]) (by kernel_rfl) ?_
      refine h_takeL (i := 4) (v := u) hns rfl rfl (by kernel_rfl) (by kernel_rfl) hP (y_load rfl (by kernel_rfl) (by kernel_rfl) (fun w' h => HLD.out w' h)) hS rfl (L' := #[true, true, true, true, true, false, false, false, false, false, false, false]) (by kernel_rfl) ?_
      refine h_takeL (i := 5) (v := .pointer (some ⟨g1, 3, none⟩)) hns rfl rfl (by kernel_rfl) (by kernel_rfl) hP (y_faddr rfl (by kernel_rfl) (by kernel_rfl) (fg24_3 (g1) (0))) hS rfl (L' := #[true, true, true, true, true, true, false, false, false, false, false, false]) (by kernel_rfl) ?_
      refine h_takeL (i := 6) (v := .slice (some ⟨b', o', none⟩) M c') hns rfl rfl (by kernel_rfl) (by kernel_rfl) hP (y_load rfl (by kernel_rfl) (by kernel_rfl) (fun w' h => HLC'.out w' h)) hS rfl (L' := #[true, true, true, true, true, true, true, false, false, false, false, false]) (by kernel_rfl) ?_
      try simp only [List.setIfInBounds_toArray, List.set_cons_zero, List.set_cons_succ]
      refine h_takeL (i := 7) (v := .int .i64 (i : Nat)) hns rfl rfl (by kernel_rfl) (by kernel_rfl) hP (y_move rfl (by kernel_rfl) (by kernel_rfl)) hS rfl (L' := #[true, true, true, true, true, true, true, true, false, false, false, false]) (by kernel_rfl) ?_
      refine h_takeL (i := 8) (v := .pointer (some ⟨b', o' + i * 5, none⟩)) hns rfl rfl (by kernel_rfl) (by kernel_rfl) hP (y_index rfl (by kernel_rfl) (by kernel_rfl) (by kernel_rfl) (idx24 b' o' M c' i HIX.out.2)) hS rfl (L' := #[true, true, true, true, true, true, true, true, true, false, false, false]) (by kernel_rfl) ?_
      refine h_takeL (i := 9) (v := u') hns rfl rfl (by kernel_rfl) (by kernel_rfl) hP (y_load rfl (by kernel_rfl) (by kernel_rfl) (fun w' h => HLD'.out w' h)) hS rfl (L' := #[true, true, true, true, true, true, true, true, true, true, false, false]) (by kernel_rfl) ?_
      refine h_callL (i := 10) (f := 12) (args := #[u, u']) (by kernel_rfl) rfl rfl (by kernel_rfl) (enter_go rfl (by kernel_rfl) (fun w => by go_simp)) (L' := #[true, true, true, true, true, true, true, true, true, true, true, false]) (by kernel_rfl) ?_
      refine HCA.out.mono ?_
      rintro e w3 ⟨rfl, hB3⟩
      replace hS := HR.out w3 hB3
      refine ⟨_, rfl, hS, ?_⟩
      have HZ2 := hid (HZ.out w3 hS)
      refine h_takeL (i := 11) (v := .bool (sam t t')) hns rfl rfl (by kernel_rfl) (by kernel_rfl) hP (y_assign rfl (by kernel_rfl) (by kernel_rfl)) hS rfl (L' := #[true, true, true, true, true, true, true, true, true, true, true, true]) (by kernel_rfl) ?_
      try simp only [List.setIfInBounds_toArray, List.set_cons_zero, List.set_cons_succ]
      refine wpAnyH_done (by kernel_rfl) ?_ _
      refine hN _ _ ?_
      clear hP hN hns
      clear hS
      cases hss : sam t t' with
      | true =>
        rw [hss] at HSM
        go_wp2_with fail
        exact ⟨⟨i + 1, HIX.out.1, rfl, HSM.out.1, HZ2.out⟩, by have := HIX.out; simp [intOf]; omega⟩
      | false =>
        rw [hss] at HSM
        go_wp2_with fail
        go_ret
        exact ⟨by rw [← HB1.out, HSM.out.2 trivial]; rfl, HZ2.out.1⟩
    · have hiN : i = N := by omega
      subst i
      have hlt' : ¬ (N : Int) < (N : Int) := by omega
      have HZ : Hid (sams kids kids' = true ∧ Below g0 w wr) := hid ⟨by rw [← hsm, List.take_of_length_le (by omega), List.take_of_length_le (by have := HNM.out; omega)], hBw⟩
      clear hS hT hBw hgg hll hsm hi hlt
      go_wp2_with fail
      go_ret
      exact ⟨by rw [← HB1.out, HZ.out.1]; rfl, HZ.out.2⟩
end Go.Proofs.YtommhgmlblecnaaGreatDoor
