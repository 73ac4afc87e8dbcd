/- texts put together: WMath WRow SBase SRow STree SLeft SSame SSameP SSames SArg -/
import Derived.WalkKit
import Derived.Test.YtgpkcjpanpbhdaaGreatDoorChecked
import Derived.WalkSpells
import Derived.WalkLawsBesides
import Derived.OwnWalk
import Derived.Room.AppendFits
import Derived.Deep.AppendSrc
import Derived.Deep.AppendLies
import Derived.Laws.IdiomStrings
import Derived.Laws.Bits64b
import Derived.Deep.WholeRow
import Derived.Laws.CopyRow
import Derived.Laws.IdiomCopy
import Derived.Deep.QuietTactic
import Derived.BigQuiet
import Derived.MapKept
import Derived.ChangeMaps5
import Derived.OrdersHeld
import Derived.BigRegion
import Derived.Deep.Cut
import Derived.ProofKit
import Derived.LaidMore
import Derived.OpenShut
import Derived.ShutString
import Derived.Deep.DeepHandedRow
import Derived.Deep.Slices
import Derived.Deep.Matrix
set_option maxRecDepth 100000
set_option maxHeartbeats 4000000
namespace Go.Proofs.YtgpkcjpanpbhdaaGreatDoor
open Go Go.RowKit
def at8 (l : List UInt8) (k : Nat) : Int := ((l.getD k 0).toNat : Int)
theorem u8_ofNat {k : Nat} (h : k < 256) : (UInt8.ofNat k).toNat = k := by simp; omega
theorem info8 : (Tryz.prog.info? 5).map (fun i => (i.zero, i.size, i.bytes)) = some (some (.int .u8 0), 1, 1) := by kernel_rfl
theorem hid {p : Prop} (h : p) : Hid p := h
def cb (b : UInt8) : Value := .int .u8 (b.toNat : Int)
def cells8 (l : List UInt8) : List Value := l.map cb
theorem cells8_len (l : List UInt8) : (cells8 l).length = l.length := by simp [cells8]
theorem cells8_one (l : List UInt8) : ∀ u ∈ cells8 l, u.oneCell' = true := by
 intro u hu
 obtain ⟨_, _, rfl⟩ := List.mem_map.1 hu
 rfl
theorem cells8_append (a b : List UInt8) : cells8 a ++ cells8 b = cells8 (a ++ b) := by simp [cells8]
theorem cells8_get (l : List UInt8) (k : Nat) (h : k < l.length) : (cells8 l)[k]? = some (.int .u8 (at8 l k)) := by
 simp [cells8, at8, List.getD, h, cb]
def Rd (w : World) (b off : Nat) (l : List UInt8) : Prop := ∀ k, k < l.length → w.cell? ⟨b, off + k, none⟩ = some (.int .u8 (at8 l k))
def Sl (w : World) (v : Value) (l : List UInt8) : Prop :=
 ∃ a cap, v = .slice a l.length cap ∧ l.length ≤ cap ∧ (a = none → cap = 0) ∧ (l ≠ [] → ∃ b off, a = some ⟨b, off, none⟩ ∧ Rd w b off l)
theorem Sl.mk {w : World} {b off cap : Nat} {l : List UInt8} (h : Rd w b off l) (hc : l.length ≤ cap) : Sl w (.slice (some ⟨b, off, none⟩) l.length cap) l :=
 ⟨_, _, rfl, hc, fun h => (by cases h), fun _ => ⟨b, off, rfl, h⟩⟩
theorem owns_rd {w : World} {B g n cap : Nat} {l : List UInt8} (h : w.ownsRow B 5 1 (.slice (some ⟨g, 0, none⟩) n cap) n (cells8 l)) : Rd w g 0 l := fun k hk => by
 have := h.cells (g := g) rfl k _ (cells8_get l k hk)
 rwa [Addr.add_lit] at this
theorem owns_cap {w : World} {B g n cap : Nat} {xs : List Value} (h : w.ownsRow B 5 1 (.slice (some ⟨g, 0, none⟩) n cap) n xs) : n ≤ cap ∧ cap ≤ maxLen ∧ B ≤ g ∧ g < w.heap.size := by
 have hl := h.lt g rfl
 rcases h.2 with ⟨h, _⟩ | ⟨g', cap', cur, hv, hb, hg, h1, h2, _⟩
 ·cases h
 ·cases hv
  exact ⟨h1, h2, hl⟩
theorem owns_sl {w : World} {B g cap : Nat} {l : List UInt8} (h : w.ownsRow B 5 1 (.slice (some ⟨g, 0, none⟩) l.length cap) l.length (cells8 l)) : Sl w (.slice (some ⟨g, 0, none⟩) l.length cap) l :=
 Sl.mk (owns_rd h) (owns_cap h).1
theorem conv_sl {w : World} {v : Value} {l : List UInt8} (h : Sl w v l) : (convert 56 9 v).run Tryz.prog w = .ok (.string ⟨l.toArray⟩) w := by
 obtain ⟨a, cap, rfl, h2, h3, h4⟩ := h
 cases l with
 | nil =>
  rw [run_convert_bytes_string w _ _ 5 a _ cap Tryz.underlying56 Tryz.underlying5 Tryz.underlying9]
  cases a with
  | none => rfl
  | some ad => rw [run_bytesToString w ad _ cap [] (by simpa using run_loadCells_list (P := Tryz.prog) w ad [] (fun j v hj => by simp at hj))]; rfl
 | cons c r =>
  obtain ⟨b, off, rfl, hr⟩ := h4 (by simp)
  refine run_convert_bytes_back w _ _ 5 ⟨b, off, none⟩ cap (c :: r) Tryz.underlying56 Tryz.underlying5 Tryz.underlying9 (fun j hj => ?_)
  rw [Addr.add_lit, hr j hj]
  simp only [at8, List.getD, List.getElem?_eq_getElem hj, Option.getD_some]
section
variable {P : Program} {w w' : World} {ops : Array Oper} {rest : List Oper} {a : Act} {Q : Exit → Act → World → Prop} {dst : Option Nat} {ty : TypeId} {pos : String} {after : Array Edge}
theorem we (h : Q .normal a w) : wpList P ops Q [] a w := h
theorem wp_build {t : TypeId} {p q : Operand} {i j : Nat} {x y v : Value} (hp : a.eval p = x) (hq : a.eval q = y) (hr : (Instr.build t #[(i, x), (j, y)]).run P w = .ok v w')
  (hK : wpList P ops Q rest (a.put dst v) w') : wpList P ops Q (⟨dst, .build t #[(i, p), (j, q)], ty, pos, after, none⟩ :: rest) a w := by
 refine wpList_plain rfl fun K hK' => ?_
 have e : (#[(i, p), (j, q)] : Array (Nat × Operand)).map (fun (i, x) => (i, a.eval x)) = #[(i, x), (j, y)] := by simp [hp, hq]
 unfold Oper.wp
 simp only [execOp, e, Sem.run_bind, hr, Result.andThen_ok]
 exact hK' _ _ hK
theorem wp_call {f : FuncId} {xs : Array Operand} {ats : Array TypeId} {args : Array Value} (hxs : #[] ++ xs.map a.eval ++ #[] = args) (hf : ∀ w, (callFunc f args).run P w = .ok (.enter f args) w)
  (h : Calls P f args w fun e w' => ∃ v, e = .returned v ∧ wpList P ops Q rest (a.put dst v) w') : wpList P ops Q (⟨dst, .call { callee := .value (.func f), args := xs, argTypes := ats }, ty, pos, after, none⟩ :: rest) a w := by
 refine wpList_plain rfl fun K hK' => ?_
 have e : (execOp a.eval (⟨dst, .call { callee := .value (.func f), args := xs, argTypes := ats }, ty, pos, after, none⟩ : Oper)).run P w = .ok (.enter f args) w := by
  have e1 : execOp a.eval (⟨dst, .call { callee := .value (.func f), args := xs, argTypes := ats }, ty, pos, after, none⟩ : Oper) = callFunc f (#[] ++ xs.map a.eval ++ #[]) := by unfold execOp; rfl
  rw [e1, hxs, hf w]
 unfold Oper.wp
 rw [e, Oper.upon_enter]
 refine h.mono fun e w' ⟨v, he, h2⟩ => ?_
 subst he
 exact hK' _ _ h2
end
theorem add_lit (b o j : Nat) : (⟨b, o, none⟩ : Addr).add j = ⟨b, o + j, none⟩ := by unfold Addr.add; split <;> simp_all
theorem loads (P : Program) (w : World) (b o k : Nat) (cur : Array Value) (t : TypeId) (z : Nat × Nat) (cs : List Value) (hk : cs.length = k) (hg : w.heap[b]? = some (.cells cur t z)) (hc : ∀ j v, cs[j]? = some v → cur[o + j]? = some v) :
  (loadCellsFrom ⟨b, o, none⟩ 0 k #[]).run P w = .ok cs.toArray w := by
 subst hk
 have := run_loadCells_list (P := P) w ⟨b, o, none⟩ cs (fun j v hv => by
  rw [add_lit, World.cell?, hg]; simpa using hc j v hv)
 simpa [loadCells] using this
def relaid (cur : Array Value) (o : Nat) (cs : List Value) : Array Value := (cur.toList.take o ++ cs ++ cur.toList.drop (o + cs.length)).toArray
theorem stores (P : Program) (w : World) (b o : Nat) (cur : Array Value) (t : TypeId) (cs : List Value) (hg : w.heap[b]? = some (.cells cur t (0, 0))) (hl : o + cs.length ≤ cur.size) (h1 : ∀ v ∈ cs, v.oneCell' = true) :
  (storeCells ⟨b, o, none⟩ cs 0).run P w = .ok () (w.setRow b (relaid cur o cs)) := by
 have := run_storeCells_at (P := P) b o t cs 0 cur w hg (by simpa using hl) h1
 simpa [relaid] using this
theorem run_size {P : Program} {t : TypeId} {n : Nat} (h : (P.info? t).map (·.size) = some n) (w : World) : (Go.sizeOf t).run P w = .ok n w := by
 cases hq : P.info? t with
 | none => simp [hq] at h
 | some i => simp [hq] at h; simp [Go.sizeOf, typeInfo, hq, h]
theorem loadAt_k {P : Program} {t : TypeId} {k : Nat} (ha : ∀ w, (isAgg t).run P w = .ok true w) (hz : (P.info? t).map (·.size) = some k) (w : World) (b o : Nat) (cur : Array Value) (e : TypeId) (z : Nat × Nat) (cs : List Value) (hk : cs.length = k) (hg : w.heap[b]? = some (.cells cur e z)) (hc : ∀ j v, cs[j]? = some v → cur[o + j]? = some v) :
  (Instr.loadAt t (.pointer (some ⟨b, o, none⟩))).run P w = .ok (.agg cs.toArray) w := by
 simp only [Instr.loadAt, Instr.sureAddr, Sem.run_bind, Sem.run_pure, Result.andThen, loadVar, ha, run_size hz, loadCells, loads P w b o k cur e z cs hk hg hc, if_true]
theorem storeAt_k {P : Program} {t : TypeId} {k : Nat} (hz : (P.info? t).map (·.size) = some k) (w : World) (b o : Nat) (cur : Array Value) (e : TypeId) (cs : List Value) (hk : cs.length = k) (hg : w.heap[b]? = some (.cells cur e (0, 0))) (hl : o + cs.length ≤ cur.size) (h1 : ∀ v ∈ cs, v.oneCell' = true) :
  (Instr.storeAt t (.pointer (some ⟨b, o, none⟩)) (.agg cs.toArray)).run P w = .ok () (w.setRow b (relaid cur o cs)) := by
 simp only [Instr.storeAt, Instr.sureAddr, Sem.run_bind, Sem.run_pure, Result.andThen, storeVar, run_size hz, Value.cells, List.size_toArray, hk, ne_eq, not_true_eq_false, if_false, List.toList_toArray, stores P w b o cur e cs hg hl h1]
structure Fr (X : List Nat) (w w' : World) : Prop where
 os : w'.os = w.os
 tape : w'.tape = w.tape
 output : w'.output = w.output
 size : w.heap.size ≤ w'.heap.size
 block : ∀ k, k < w.heap.size → k ∉ X → w'.heap[k]? = w.heap[k]?
theorem Fr.refl (X : List Nat) (w : World) : Fr X w w := ⟨rfl, rfl, rfl, Nat.le_refl _, fun _ _ _ => rfl⟩
theorem Fr.trans {X Y : List Nat} {w a b : World} (h : Fr X w a) (k : Fr Y a b) (hY : ∀ x ∈ Y, x ∈ X ∨ w.heap.size ≤ x) : Fr X w b :=
 ⟨k.os.trans h.os, k.tape.trans h.tape, k.output.trans h.output, Nat.le_trans h.size k.size, fun i hi hX => (k.block i (Nat.lt_of_lt_of_le hi h.size) (fun hm => by rcases hY i hm with h | h; exact hX h; omega)).trans (h.block i hi hX)⟩
theorem Fr.below {X : List Nat} {w a : World} (h : Fr X w a) {B : Nat} (hB : B ≤ w.heap.size) (hX : ∀ x ∈ X, B ≤ x) : Below B w a :=
 ⟨h.os, h.tape, h.output, h.size, fun i hi => h.block i (by omega) (fun hm => by have := hX i hm; omega)⟩
theorem Fr.of_below {X : List Nat} {w a : World} (h : Below w.heap.size w a) : Fr X w a := ⟨h.os, h.tape, h.output, h.size, fun i hi _ => h.block i hi⟩
theorem Fr.setCell (w : World) (p i : Nat) (v : Value) : Fr [p] w (w.setCell ⟨p, i, none⟩ v) :=
 ⟨rfl, rfl, rfl, by simp, fun k _ hk => Below.heap_setCell w _ v k (by simpa using hk)⟩
theorem Fr.setRow (w : World) (p : Nat) (c : Array Value) : Fr [p] w (w.setRow p c) :=
 ⟨rfl, rfl, rfl, by simp, fun k _ hk => setRow_other w p k c (by simpa using hk)⟩
theorem Fr.undrew {X : List Nat} {w a : World} (h : Fr X w.drew a) : Fr X w a := ⟨h.os, h.tape, h.output, h.size, h.block⟩
theorem heap_lt {w : World} {k : Nat} {o : Obj} (h : w.heap[k]? = some o) : k < w.heap.size := (Array.getElem?_eq_some_iff.1 h).1
theorem Fr.at {X : List Nat} {w a : World} (h : Fr X w a) {k : Nat} {o : Obj} (hk : w.heap[k]? = some o) (hX : k ∉ X) : a.heap[k]? = some o := (h.block k (heap_lt hk) hX).trans hk
theorem below_at {B : Nat} {w a : World} (h : Below B w a) {k : Nat} {o : Obj} (hk : w.heap[k]? = some o) (hB : k < B) : a.heap[k]? = some o := (h.block k hB).trans hk
theorem cell_at {w : World} {p : Nat} {c : Array Value} {t : TypeId} {z : Nat × Nat} (h : w.heap[p]? = some (.cells c t z)) (i : Nat) {v : Value} (hi : c[i]? = some v) : w.cell? ⟨p, i, none⟩ = some v := by simp [World.cell?, h, hi]
theorem open_at {w : World} {p : Nat} {c : Array Value} {t : TypeId} (h : w.heap[p]? = some (.cells c t (0, 0))) (i : Nat) : w.frozen? ⟨p, i, none⟩ = false := by simp [World.frozen?, h]
theorem heap_setCell {w : World} {p : Nat} {c : Array Value} {t : TypeId} {z : Nat × Nat} (h : w.heap[p]? = some (.cells c t z)) (i : Nat) (v : Value) : (w.setCell ⟨p, i, none⟩ v).heap[p]? = some (.cells (c.setIfInBounds i v) t z) := by
 have hl := heap_lt h
 unfold World.setCell
 simp only [Array.getElem?_modify, if_true, h, Option.map_some]
 simp
def wv (x : Nat × List UInt8) : Value := .agg (.int .i64 x.1 :: cells8 x.2).toArray
theorem nA {α : Type} (l : List α) (i : Nat) (a : α) : l.toArray.setIfInBounds i a = (l.set i a).toArray := List.setIfInBounds_toArray ..
theorem nB {α : Type} (x y : α) (l : List α) : (x :: l).set 0 y = y :: l := rfl
theorem nC {α : Type} (x y : α) (l : List α) (n : Nat) : (x :: l).set (n + 1) y = x :: l.set n y := rfl
variable {ops : Array Oper} {S : World → Prop} {o : Oper} {a : Act}
theorem y_move {x : Operand} {v : Value} (hop : o.op = .move x) (hw : Region.wanted o (yielded ops a.tmps) = true := by kernel_rfl) (hv : a.eval x = v := by kernel_rfl) : YieldsIf Tryz.prog ops S o v a :=
 .inl ⟨hw, fun w _ => hv ▸ BigFrame.run_move x hop w⟩
theorem y_assign {x : Operand} {v : Value} (hop : o.op = .assign x) (hw : Region.wanted o (yielded ops a.tmps) = true := by kernel_rfl) (hv : a.eval x = v := by kernel_rfl) : YieldsIf Tryz.prog ops S o v a :=
 .inl ⟨hw, fun w _ => hv ▸ BigFrame.run_assign x hop w⟩
theorem y_pick {c x y : Operand} {b : Bool} {v : Value} (hop : o.op = .pick c x y) (hw : Region.wanted o (yielded ops a.tmps) = true := by kernel_rfl) (hc : a.eval c = .bool b := by kernel_rfl) (hv : (if b then a.eval x else a.eval y) = v := by kernel_rfl) :
  YieldsIf Tryz.prog ops S o v a :=
 .inl ⟨hw, fun w _ => by unfold execOp; rw [hop]; simp only [hc]; cases b <;> (simp at hv; simp [asBool, hv])⟩
theorem y_skip {v : Value} (hw : Region.wanted o (yielded ops a.tmps) = false) (hv : v = undef) : YieldsIf Tryz.prog ops S o v a := .inr ⟨hw, hv⟩
theorem y_nil {x : Operand} {p : Addr} (hop : o.op = .nilCheck x) (hw : Region.wanted o (yielded ops a.tmps) = true := by kernel_rfl) (hx : a.eval x = .pointer (some p) := by kernel_rfl) : YieldsIf Tryz.prog ops S o (.pointer (some p)) a :=
 .inl ⟨hw, fun w _ => by unfold execOp; rw [hop]; simp only [hx]; rfl⟩
theorem y_faddr {x : Operand} {t f : Nat} {b i j : Nat} (hop : o.op = .fieldAddr t x f) (hw : Region.wanted o (yielded ops a.tmps) = true := by kernel_rfl) (hx : a.eval x = .pointer (some ⟨b, i, none⟩) := by kernel_rfl)
  (hf : ∀ w, (Instr.fieldAt t (.pointer (some ⟨b, i, none⟩)) f).run Tryz.prog w = .ok (.pointer (some ⟨b, j, none⟩)) w) : YieldsIf Tryz.prog ops S o (.pointer (some ⟨b, j, none⟩)) a :=
 .inl ⟨hw, fun w _ => by unfold execOp; rw [hop]; simp only [hx, Sem.run_bind, hf w, Result.andThen_ok]; rfl⟩
theorem y_load {x : Operand} {t : TypeId} {p v : Value} (hop : o.op = .load t x) (hw : Region.wanted o (yielded ops a.tmps) = true := by kernel_rfl) (hx : a.eval x = p := by kernel_rfl)
  (hl : ∀ w, S w → (Instr.loadAt t p).run Tryz.prog w = .ok v w) : YieldsIf Tryz.prog ops S o v a :=
 .inl ⟨hw, fun w h => by unfold execOp; rw [hop]; simp only [hx, Sem.run_bind, hl w h, Result.andThen_ok]; rfl⟩
variable {Q : Exit → Act → World → Prop} {md : Region.Mode} {fuel : Nat} {listed : Array Bool} {w w1 : World} {i : Nat} {L L' : Array Bool}
theorem h_one (hr : Region.ready md ops listed = [i]) (hi : ops[i]? = some o) (hw : Region.wanted o (yielded ops a.tmps) = true)
  (h : o.wp Tryz.prog a w (fun a' w' => S w' ∧ wpAnyH Tryz.prog md ops Q S fuel (listed.setIfInBounds i true) a' w') Q) : wpAnyH Tryz.prog md ops Q S (fuel + 1) listed a w := by
 refine wpAnyH_all hr (by simp) (fun j hj => ?_)
 obtain rfl : j = i := by simpa using hj
 unfold wpOp
 rw [hi]
 simp only [hw, if_true]
 exact .inl h
theorem h_call {f : FuncId} {args : Array Value} (hr : Region.ready md ops listed = [i]) (hi : ops[i]? = some o) (hw : Region.wanted o (yielded ops a.tmps) = true)
  (he : ∀ w, (execOp a.eval o).run Tryz.prog w = .ok (.enter f args) w)
  (h : Calls Tryz.prog f args w fun e w' => ∃ v, e = .returned v ∧ S w' ∧ wpAnyH Tryz.prog md ops Q S fuel (listed.setIfInBounds i true) (a.put o.dst v) w') : wpAnyH Tryz.prog md ops Q S (fuel + 1) listed a w := by
 refine h_one hr hi hw ?_
 unfold Oper.wp
 rw [he w, Oper.upon_enter]
 refine h.mono fun e w' ⟨v, he, h1, h2⟩ => ?_
 subst he
 exact ⟨h1, h2⟩
theorem h_take {d : Nat} {v : Value} {tmps T : Array Value} {ds : List Deferred} (hi : ops[i]? = some o) (hd : o.dst = some d)
  (hs : Region.noSelect ops = true) (hf : Region.free md ops listed i = true) (hr : (Region.ready md ops listed).contains i = true)
  (hP : ∀ c T T' ds w, Q (.panic c) ⟨T, ds⟩ w → Q (.panic c) ⟨T', ds⟩ w) (hy : YieldsIf Tryz.prog ops S o v ⟨tmps, ds⟩) (hS : S w) (hT : tmps.setIfInBounds d v = T)
  (h : wpAnyH Tryz.prog md ops Q S fuel (listed.setIfInBounds i true) ⟨T, ds⟩ w) : wpAnyH Tryz.prog md ops Q S (fuel + 1) listed ⟨tmps, ds⟩ w := by
 refine wpAnyH_take hi hs hf hr (fun c a w h => by rw [hd] at h; exact hP c (a.tmps.setIfInBounds d v) a.tmps a.defers w h) hy hS ?_
 rw [hd]
 subst hT
 exact h
theorem h_call2 {d : Nat} {f : FuncId} {args : Array Value} {tmps : Array Value} {ds : List Deferred} (hr : Region.ready md ops listed = [i]) (hi : ops[i]? = some o) (hd : o.dst = some d) (hw : Region.wanted o (yielded ops tmps) = true)
  (he : ∀ w, (execOp (Act.mk tmps ds).eval o).run Tryz.prog w = .ok (.enter f args) w)
  (h : Calls Tryz.prog f args w fun e w' => ∃ v, e = .returned v ∧ S w' ∧ wpAnyH Tryz.prog md ops Q S fuel (listed.setIfInBounds i true) ⟨tmps.setIfInBounds d v, ds⟩ w') : wpAnyH Tryz.prog md ops Q S (fuel + 1) listed ⟨tmps, ds⟩ w := by
 refine h_call hr hi hw he (h.mono fun e w' ⟨v, he, h1, h2⟩ => ⟨v, he, h1, ?_⟩)
 rw [hd]
 exact h2
theorem h_open {id : Nat} {a : Act} (hm : Tryz.prog.follows .mixedOrders = true) (hP : ∀ c T T' ds w, Q (.panic c) ⟨T, ds⟩ w → Q (.panic c) ⟨T', ds⟩ w)
  (h : ∀ Q' : Exit → Act → World → Prop, (∀ c T T' ds w, Q' (.panic c) ⟨T, ds⟩ w → Q' (.panic c) ⟨T', ds⟩ w) → (∀ a w, Q .normal a w → Q' .normal a w) →
   wpAnyH Tryz.prog .any ops Q' S ops.size (Array.replicate ops.size false) a w.drew) : (Code.region id ops true).wp Tryz.prog Q a w :=
 wp_region_held hm (h Q hP fun _ _ h => h)
theorem enter_go {f : FuncId} {xs : Array Operand} {ats : Array TypeId} {args : Array Value} (hop : o.op = .call { callee := .value (.func f), args := xs, argTypes := ats }) (hxs : #[] ++ xs.map a.eval ++ #[] = args)
  (hf : ∀ w, (callFunc f args).run Tryz.prog w = .ok (.enter f args) w) : ∀ w, (execOp a.eval o).run Tryz.prog w = .ok (.enter f args) w := by
 intro w
 have e : execOp a.eval o = callFunc f (#[] ++ xs.map a.eval ++ #[]) := by unfold execOp; rw [hop]; rfl
 rw [e, hxs, hf w]
theorem h_openL {id : Nat} (hm : Tryz.prog.follows .mixedOrders = true) (hns : Region.noSelect ops = true) (hP : ∀ c T T' ds w, Q (.panic c) ⟨T, ds⟩ w → Q (.panic c) ⟨T', ds⟩ w) (hL : Array.replicate ops.size false = L)
  (h : ∀ Q' : Exit → Act → World → Prop, Region.noSelect ops = true → (∀ c T T' ds w, Q' (.panic c) ⟨T, ds⟩ w → Q' (.panic c) ⟨T', ds⟩ w) → (∀ a w, Q .normal a w → Q' .normal a w) →
   wpAnyH Tryz.prog .any ops Q' S ops.size L a w.drew) : (Code.region id ops true).wp Tryz.prog Q a w := by
 refine h_open (S := S) hm hP fun Q' hP' hN => ?_
 rw [hL]
 exact h Q' hns hP' hN
theorem h_takeL {d : Nat} {v : Value} {tmps T : Array Value} {ds : List Deferred} (hns : Region.noSelect ops = true) (hi : ops[i]? = some o) (hd : o.dst = some d)
  (hf : Region.free md ops L i = true) (hr : (Region.ready md ops L).contains i = true)
  (hP : ∀ c T T' ds w, Q (.panic c) ⟨T, ds⟩ w → Q (.panic c) ⟨T', ds⟩ w) (hy : YieldsIf Tryz.prog ops S o v ⟨tmps, ds⟩) (hS : S w) (hT : tmps.setIfInBounds d v = T) (hL : L.setIfInBounds i true = L')
  (h : wpAnyH Tryz.prog md ops Q S fuel L' ⟨T, ds⟩ w) : wpAnyH Tryz.prog md ops Q S (fuel + 1) L ⟨tmps, ds⟩ w := by
 subst hL
 exact h_take hi hd hns hf hr hP hy hS hT h
theorem h_callL {d : Nat} {f : FuncId} {args : Array Value} {tmps : Array Value} {ds : List Deferred} (hr : Region.ready md ops L = [i]) (hi : ops[i]? = some o) (hd : o.dst = some d) (hw : Region.wanted o (yielded ops tmps) = true)
  (he : ∀ w, (execOp (Act.mk tmps ds).eval o).run Tryz.prog w = .ok (.enter f args) w) (hL : L.setIfInBounds i true = L')
  (h : Calls Tryz.prog f args w fun e w' => ∃ v, e = .returned v ∧ S w' ∧ wpAnyH Tryz.prog md ops Q S fuel L' ⟨tmps.setIfInBounds d v, ds⟩ w') : wpAnyH Tryz.prog md ops Q S (fuel + 1) L ⟨tmps, ds⟩ w := by
 subst hL
 exact h_call2 hr hi hd hw he h
theorem run_storeOp {t : TypeId} {p q : Operand} {x y : Value} (hop : o.op = .store t p q) (hp : a.eval p = x) (hq : a.eval q = y) (hr : (Instr.storeAt t x y).run Tryz.prog w = .ok () w1) :
  (execOp a.eval o).run Tryz.prog w = .ok .skip w1 := by
 unfold execOp; rw [hop]; simp only [hp, hq, Sem.run_bind, hr, Result.andThen_ok]; rfl
section
variable {ops : Array Oper} {Q : Exit → Act → World → Prop} {md : Region.Mode} {S : World → Prop} {z : Nat}
def Until (md : Region.Mode) (ops : Array Oper) (Q : Exit → Act → World → Prop) (S : World → Prop) (z : Nat) : Nat → Array Bool → Act → World → Prop
 | 0, listed, a, w => Region.ready md ops listed = [] ∧ Q .normal a w
 | fuel + 1, listed, a, w =>
  (Region.ready md ops listed = [] → Q .normal a w) ∧
  ∀ i ∈ Region.ready md ops listed, wpOp Tryz.prog ops Q i (fun a' w' => ((listed.setIfInBounds i true).getD z true = false → S w') ∧ Until md ops Q S z fuel (listed.setIfInBounds i true) a' w') a w
theorem Until.any : ∀ (fuel : Nat) (listed : Array Bool) (a : Act) (w : World), Until md ops Q S z fuel listed a w → wpAny Tryz.prog md ops Q fuel listed a w
 | 0, _, _, _, h => h
 | fuel + 1, _, _, _, h => ⟨h.1, fun i hi => wpOp_mono (fun a' w' h' => Until.any fuel _ a' w' h'.2) (h.2 i hi)⟩
theorem not_on {listed : Array Bool} {i j : Nat} {oj : Oper} (hr : i ∈ Region.ready md ops listed) (hj : j ∈ Region.ready md ops listed) (hoj : ops[j]? = some oj) : ∀ e ∈ oj.after, Region.binds md e = true → e.on ≠ i := fun e he hb heq => by
 obtain ⟨_, oj', hoj', hall⟩ := mem_ready.1 hj
 rw [hoj] at hoj'
 cases hoj'
 have h1 := hall e he hb
 have h0 := (mem_ready.1 hr).1
 rw [heq] at h1
 rcases Nat.lt_or_ge i listed.size with h' | h'
 ·simp [h'] at h0 h1; rw [h0] at h1; cases h1
 ·simp [Array.getElem?_eq_none h'] at h1
theorem Until.first {S' : World → Prop} {i : Nat} {oi : Oper} {v : Value} (hiz : i ≠ z) (hi : ops[i]? = some oi) (hsel : ∀ (j : Nat) (o : Oper) cs b, ops[j]? = some o → o.op ≠ .select cs b)
  (hQ : ∀ c a w, Q (.panic c) (a.put oi.dst v) w → Q (.panic c) a w)
  (hS' : ∀ (listed : Array Bool) (w : World), i ∈ Region.ready md ops listed → (listed.getD z true = false → S w) → S' w ∨ ¬ listed.getD z true = false)
  (hz : (∀ w, S' w) ∨ ∀ oz, ops[z]? = some oz → ∃ e ∈ oz.after, Region.binds md e = true ∧ e.on = i) :
  ∀ (fuel : Nat) (listed : Array Bool) (a : Act) (w : World),
   (∀ j oj, ops[j]? = some oj → j ≠ i → listed.getD j true = false → (∀ e ∈ oj.after, Region.binds md e = true → e.on ≠ i) → oi.apart ops oj = true) →
   i ∈ Region.ready md ops listed → YieldsIf Tryz.prog ops S' oi v a → (listed.getD z true = false → S w) → ((∀ w, S' w) ∨ listed.getD z true = false) →
   Until md ops Q S z fuel (listed.setIfInBounds i true) (a.put oi.dst v) w → Until md ops Q S z (fuel + 1) listed a w := by
 intro fuel
 induction fuel with
 | zero =>
  intro listed a w _ hr hy hS hl H
  have hSw : S' w := by rcases hl with hl | hl; exact hl w; rcases hS' listed w hr hS with h | h; exact h; exact absurd hl h
  refine ⟨fun h => (by rw [h] at hr; cases hr), fun j hj => ?_⟩
  by_cases hji : j = i
  ·subst hji
   refine hy.wpOp hi hSw ⟨fun h => ?_, H⟩
   rw [getD_set_ne true hiz] at h; exact hS h
  ·have := ready_mono hj hji
   rw [H.1] at this
   cases this
 | succ fuel ih =>
  intro listed a w hfree hr hy hS hl H
  have hSw : S' w := by rcases hl with hl | hl; exact hl w; rcases hS' listed w hr hS with h | h; exact h; exact absurd hl h
  refine ⟨fun h => (by rw [h] at hr; cases hr), fun j hj => ?_⟩
  by_cases hji : j = i
  ·subst hji
   refine hy.wpOp hi hSw ⟨fun h => ?_, H⟩
   rw [getD_set_ne true hiz] at h; exact hS h
  ·have h1 := H.2 j (ready_mono hj hji)
   obtain ⟨hjun, oj, hoj, hall⟩ := mem_ready.1 hj
   have hnot := not_on hr hj hoj
   have h2 := wpOp_putIf hoj (hfree j oj hoj hji hjun hnot) (fun cs b => hsel i oi cs b hi) (fun cs b => hsel j oj cs b hoj) hQ hy h1
   have hfree' : ∀ k ok, ops[k]? = some ok → k ≠ i → (listed.setIfInBounds j true).getD k true = false →
     (∀ e ∈ ok.after, Region.binds md e = true → e.on ≠ i) → oi.apart ops ok = true := fun k ok hk hki hun hno => by
    refine hfree k ok hk hki ?_ hno
    by_cases hjk : j = k
    ·subst hjk; exact hjun
    ·rw [getD_set_ne true hjk] at hun; exact hun
   have hl' : (∀ w, S' w) ∨ (listed.setIfInBounds j true).getD z true = false := by
    rcases hl with hl | hl
    ·exact .inl hl
    ·rcases hz with hz | hz
     ·exact .inl hz
     ·refine .inr ?_
      have hjz : j ≠ z := fun e => by
       subst e
       obtain ⟨e, he, hb, hon⟩ := hz oj hoj
       exact hnot e he hb hon
      rw [getD_set_ne true hjz]; exact hl
   refine wpOp_mono (fun a' w' h3 => ?_) h2
   have hS2 : (listed.setIfInBounds j true).getD z true = false → S w' := fun h => h3.2.1 (by
    rw [Array.setIfInBounds_comm _ _ (Ne.symm hji)]
    rw [getD_set_ne true hiz]; exact h)
   refine ⟨hS2, ih (listed.setIfInBounds j true) a' w' hfree' (ready_mono hr (Ne.symm hji)) h3.1 hS2 hl' ?_⟩
   rw [Array.setIfInBounds_comm _ _ hji]
   exact h3.2.2
def waitsFor (md : Region.Mode) (ops : Array Oper) (z i : Nat) : Bool := match ops[z]? with
 | some oz => oz.after.any fun e => Region.binds md e && e.on == i
 | none => false
variable {o : Oper} {a : Act} {fuel : Nat} {w w1 : World} {i : Nat} {L L' : Array Bool}
theorem z_pure {d : Nat} {v : Value} {tmps T : Array Value} {ds : List Deferred} (hns : Region.noSelect ops = true) (hiz : (i == z) = false) (hi : ops[i]? = some o) (hd : o.dst = some d)
  (hf : Region.free md ops L i = true) (hr : (Region.ready md ops L).contains i = true)
  (hP : ∀ c T T' ds w, Q (.panic c) ⟨T, ds⟩ w → Q (.panic c) ⟨T', ds⟩ w) (hy : YieldsIf Tryz.prog ops (fun _ => True) o v ⟨tmps, ds⟩) (hS : L.getD z true = false → S w) (hT : tmps.setIfInBounds d v = T) (hL : L.setIfInBounds i true = L')
  (h : Until md ops Q S z fuel L' ⟨T, ds⟩ w) : Until md ops Q S z (fuel + 1) L ⟨tmps, ds⟩ w := by
 subst hL; subst hT
 refine Until.first (S' := fun _ => True) (by simpa using hiz) hi (Region.noSelect_spec hns) (fun c a w h => by rw [hd] at h; exact hP c (a.tmps.setIfInBounds d v) a.tmps a.defers w h) (fun _ _ _ _ => .inl trivial) (.inl fun _ => trivial) fuel L _ w (Region.free_spec hi hf) (by simpa using hr) hy hS (.inl fun _ => trivial) ?_
 rw [hd]; exact h
theorem z_read {d : Nat} {v : Value} {tmps T : Array Value} {ds : List Deferred} (hns : Region.noSelect ops = true) (hiz : (i == z) = false) (hw : waitsFor md ops z i = true) (hi : ops[i]? = some o) (hd : o.dst = some d)
  (hf : Region.free md ops L i = true) (hr : (Region.ready md ops L).contains i = true)
  (hP : ∀ c T T' ds w, Q (.panic c) ⟨T, ds⟩ w → Q (.panic c) ⟨T', ds⟩ w) (hy : YieldsIf Tryz.prog ops S o v ⟨tmps, ds⟩) (hzl : L.getD z true = false) (hS : S w) (hT : tmps.setIfInBounds d v = T) (hL : L.setIfInBounds i true = L')
  (h : Until md ops Q S z fuel L' ⟨T, ds⟩ w) : Until md ops Q S z (fuel + 1) L ⟨tmps, ds⟩ w := by
 subst hL; subst hT
 refine Until.first (S' := S) (by simpa using hiz) hi (Region.noSelect_spec hns) (fun c a w h => by rw [hd] at h; exact hP c (a.tmps.setIfInBounds d v) a.tmps a.defers w h)
  (fun listed w _ h => if e : listed.getD z true = false then .inl (h e) else .inr e) (.inr fun oz hoz => ?_) fuel L _ w (Region.free_spec hi hf) (by simpa using hr) hy (fun _ => hS) (.inr hzl) ?_
 ·unfold waitsFor at hw
  rw [hoz] at hw
  simp only [Array.any_eq_true'] at hw
  obtain ⟨e, he, hb⟩ := hw
  simp only [Bool.and_eq_true, beq_iff_eq] at hb
  exact ⟨e, he, hb⟩
 ·rw [hd]; exact h
theorem z_all {rs : List Nat} (hr : Region.ready md ops L = rs) (hne : rs ≠ [])
  (h : ∀ i ∈ rs, wpOp Tryz.prog ops Q i (fun a' w' => ((L.setIfInBounds i true).getD z true = false → S w') ∧ Until md ops Q S z fuel (L.setIfInBounds i true) a' w') a w) : Until md ops Q S z (fuel + 1) L a w :=
 ⟨fun h0 => absurd (hr ▸ h0) hne, hr ▸ h⟩
theorem z_done (hr : Region.ready md ops L = []) (h : Q .normal a w) : ∀ fuel, Until md ops Q S z fuel L a w
 | 0 => ⟨hr, h⟩
 | _ + 1 => ⟨fun _ => h, by rw [hr]; simp⟩
theorem z_one (hr : Region.ready md ops L = [i]) (hi : ops[i]? = some o) (hw : Region.wanted o (yielded ops a.tmps) = true)
  (h : o.wp Tryz.prog a w (fun a' w' => ((L.setIfInBounds i true).getD z true = false → S w') ∧ Until md ops Q S z fuel (L.setIfInBounds i true) a' w') Q) : Until md ops Q S z (fuel + 1) L a w := by
 refine z_all hr (by simp) (fun j hj => ?_)
 obtain rfl : j = i := by simpa using hj
 unfold wpOp
 rw [hi]
 simp only [hw, if_true]
 exact .inl h
theorem z_val {d : Nat} {v : Value} {tmps T : Array Value} {ds : List Deferred} (hr : Region.ready md ops L = [i]) (hi : ops[i]? = some o) (hd : o.dst = some d) (hw : Region.wanted o (yielded ops tmps) = true)
  (he : (execOp (Act.mk tmps ds).eval o).run Tryz.prog w = .ok (.value v) w1) (hS : S w1) (hT : tmps.setIfInBounds d v = T) (hL : L.setIfInBounds i true = L')
  (h : Until md ops Q S z fuel L' ⟨T, ds⟩ w1) : Until md ops Q S z (fuel + 1) L ⟨tmps, ds⟩ w := by
 subst hL; subst hT
 refine z_one hr hi hw ?_
 unfold Oper.wp
 rw [he, Oper.upon_value, hd]
 exact ⟨fun _ => hS, h⟩
theorem z_last {tmps : Array Value} {ds : List Deferred} (hr : Region.ready md ops L = [z]) (hi : ops[z]? = some o) (hd : o.dst = none) (hw : Region.wanted o (yielded ops tmps) = true)
  (he : (execOp (Act.mk tmps ds).eval o).run Tryz.prog w = .ok .skip w1) (hz : L'.getD z true = true) (hL : L.setIfInBounds z true = L')
  (h : Until md ops Q S z fuel L' ⟨tmps, ds⟩ w1) : Until md ops Q S z (fuel + 1) L ⟨tmps, ds⟩ w := by
 subst hL
 refine z_one hr hi hw ?_
 unfold Oper.wp
 rw [he]
 simp only [Oper.upon, hd]
 exact ⟨fun e => (by rw [hz] at e; cases e), h⟩
theorem z_open {id : Nat} (z : Nat) (hm : Tryz.prog.follows .mixedOrders = true) (hns : Region.noSelect ops = true) (hP : ∀ c T T' ds w, Q (.panic c) ⟨T, ds⟩ w → Q (.panic c) ⟨T', ds⟩ w) (hL : Array.replicate ops.size false = L)
  (h : ∀ Q' : Exit → Act → World → Prop, Region.noSelect ops = true → (∀ c T T' ds w, Q' (.panic c) ⟨T, ds⟩ w → Q' (.panic c) ⟨T', ds⟩ w) → (∀ a w, Q .normal a w → Q' .normal a w) →
   Until .any ops Q' S z ops.size L a w.drew) : (Code.region id ops true).wp Tryz.prog Q a w :=
 wp_region_any hm (Until.any _ _ _ _ (hL ▸ h Q hns hP fun _ _ h => h))
end
section
variable {ops : Array Oper} {S : World → Prop} {o : Oper} {a : Act}
theorem y_idx {x y : Operand} {t : TypeId} {p k v : Value} (hop : o.op = .index t x y) (hw : Region.wanted o (yielded ops a.tmps) = true) (hx : a.eval x = p) (hy : a.eval y = k)
  (hr : ∀ w, (Instr.index t p k).run Tryz.prog w = .ok v w) : YieldsIf Tryz.prog ops S o v a :=
 .inl ⟨hw, fun w _ => by unfold execOp; rw [hop]; simp only [hx, hy, Sem.run_bind, hr w, Result.andThen_ok]; rfl⟩
theorem y_un {x : Operand} {t : TypeId} {u : UnOp} {p v : Value} (hop : o.op = .unOp u t x) (hw : Region.wanted o (yielded ops a.tmps) = true) (hx : a.eval x = p)
  (hr : ∀ w, (Op.unary u p).run Tryz.prog w = .ok v w) : YieldsIf Tryz.prog ops S o v a :=
 .inl ⟨hw, fun w _ => by unfold execOp; rw [hop]; simp only [hx, Sem.run_bind, hr w, Result.andThen_ok]; rfl⟩
theorem y_bin {x y : Operand} {t t' : TypeId} {b : BinOp} {k k' : IntKind} {m n : Int} {v : Value} (hop : o.op = .binOp b t x y t') (hw : Region.wanted o (yielded ops a.tmps) = true := by kernel_rfl) (hx : a.eval x = .int k m := by kernel_rfl) (hy : a.eval y = .int k' n := by kernel_rfl)
  (hr : ∀ w, (binOp b t (.int k m) (.int k' n)).run Tryz.prog w = .ok v w) : YieldsIf Tryz.prog ops S o v a :=
 .inl ⟨hw, fun w _ => by
  unfold execOp; rw [hop]; simp only [hx, hy, Sem.run_bind]
  have : (eqGuard b t x y (.int k m) (.int k' n)).run Tryz.prog w = .ok () w := by
   unfold eqGuard; go_simp
  rw [this]; simp only [Result.andThen_ok, hr w]; rfl⟩
end
section
variable {ops : Array Oper} {Q : Exit → Act → World → Prop} {md : Region.Mode} {S : World → Prop} {z : Nat} {o : Oper} {a : Act} {fuel : Nat} {w w1 : World} {i : Nat} {L L' : Array Bool}
end
section
variable {ops : Array Oper} {o : Oper} {a : Act} {w w' : World} {rest : List Oper} {Q : Exit → Act → World → Prop}
theorem wp_y {v : Value} {d : Nat} {tmps T : Array Value} {ds : List Deferred} (hg : o.guard = none) (hd : o.dst = some d) (hy : YieldsIf Tryz.prog ops (fun w' => w' = w) o v ⟨tmps, ds⟩) (hT : tmps.setIfInBounds d v = T) (hK : wpList Tryz.prog ops Q rest ⟨T, ds⟩ w) : wpList Tryz.prog ops Q (o :: rest) ⟨tmps, ds⟩ w := by
 subst hT
 refine wpList_plain hg fun K hK' => ?_
 rcases hy with ⟨_, h⟩ | ⟨h, _⟩
 ·unfold Oper.wp
  rw [h w rfl, Oper.upon_value]
  refine hK' _ _ ?_
  rw [hd]; exact hK
 ·rw [Region.wanted, hg] at h; cases h
theorem wp_do {tmps : Array Value} {ds : List Deferred} (hg : o.guard = none) (hd : o.dst = none) (hr : (execOp (Act.mk tmps ds).eval o).run Tryz.prog w = .ok .skip w') (hK : wpList Tryz.prog ops Q rest ⟨tmps, ds⟩ w') : wpList Tryz.prog ops Q (o :: rest) ⟨tmps, ds⟩ w := by
 refine wpList_plain hg fun K hK' => ?_
 unfold Oper.wp
 rw [hr]
 simp only [Oper.upon, hd]
 exact hK' _ _ hK
theorem wp_run {v : Value} {d : Nat} {tmps T : Array Value} {ds : List Deferred} (hg : o.guard = none) (hd : o.dst = some d) (hr : (execOp (Act.mk tmps ds).eval o).run Tryz.prog w = .ok (.value v) w') (hT : tmps.setIfInBounds d v = T) (hK : wpList Tryz.prog ops Q rest ⟨T, ds⟩ w') : wpList Tryz.prog ops Q (o :: rest) ⟨tmps, ds⟩ w := by
 subst hT
 refine wpList_plain hg fun K hK' => ?_
 unfold Oper.wp
 rw [hr, Oper.upon_value]
 refine hK' _ _ ?_
 rw [hd]; exact hK
end
section
variable {o : Oper} {a : Act} {w w1 : World}
theorem run_appOp {t : TypeId} {x y : Operand} {p q v : Value} (hop : o.op = .call { callee := .builtin .append, args := #[x, y], argTypes := #[t, t] }) (hx : a.eval x = p) (hy : a.eval y = q) (hr : (Builtin.append_ #[t, t] o.type #[p, q]).run Tryz.prog w = .ok v w1) :
  (execOp a.eval o).run Tryz.prog w = .ok (.value v) w1 := by
 unfold execOp
 simp only [hop, resolve, invoke, builtin, Sem.run_bind, Sem.run_pure, Result.andThen_ok, List.map_toArray, List.map_cons, List.map_nil, hx, hy, hr]
theorem run_bsOp {t : TypeId} {n : Nat} {ps : Array (Nat × Operand)} {xs : Array (Nat × Value)} {v : Value} (hop : o.op = .buildSlice t n ps) (hp : (ps.map fun (i, x) => (i, a.eval x)) = xs) (hr : (Instr.buildSlice t n xs).run Tryz.prog w = .ok v w1) :
  (execOp a.eval o).run Tryz.prog w = .ok (.value v) w1 := by
 unfold execOp; rw [hop]; simp only [hp, Sem.run_bind, hr, Result.andThen_ok]; rfl
theorem run_buildOp {t : TypeId} {ps : Array (Nat × Operand)} {xs : Array (Nat × Value)} {v : Value} (hop : o.op = .build t ps) (hp : (ps.map fun (i, x) => (i, a.eval x)) = xs) (hr : (Instr.build t xs).run Tryz.prog w = .ok v w1) :
  (execOp a.eval o).run Tryz.prog w = .ok (.value v) w1 := by
 unfold execOp; rw [hop]; simp only [hp, Sem.run_bind, hr, Result.andThen_ok]; rfl
theorem run_alOp {t : TypeId} {v : Value} (hop : o.op = .alloc t) (hr : (Instr.alloc t true (.tuple #[])).run Tryz.prog w = .ok v w1) :
  (execOp a.eval o).run Tryz.prog w = .ok (.value v) w1 := by
 unfold execOp; rw [hop]; simp only [Sem.run_bind, hr, Result.andThen_ok]; rfl
end
section
variable {ops : Array Oper} {S : World → Prop} {o : Oper} {a : Act}
theorem y_index {x y : Operand} {t : TypeId} {p k v : Value} (hop : o.op = .indexAddr t x y) (hw : Region.wanted o (yielded ops a.tmps) = true := by kernel_rfl) (hx : a.eval x = p := by kernel_rfl) (hy : a.eval y = k := by kernel_rfl)
  (hr : ∀ w, (Instr.indexAt t p k).run Tryz.prog w = .ok v w) : YieldsIf Tryz.prog ops S o v a :=
 .inl ⟨hw, fun w _ => by unfold execOp; rw [hop]; simp only [hx, hy, Sem.run_bind, hr w, Result.andThen_ok]; rfl⟩
theorem y_slice {x : Operand} {t : TypeId} {lo hi mx : Option Operand} {p v : Value} {l h m : Option Value} (hop : o.op = .slice t x lo hi mx) (hw : Region.wanted o (yielded ops a.tmps) = true) (hx : a.eval x = p)
  (hl : lo.map a.eval = l) (hh : hi.map a.eval = h) (hm : mx.map a.eval = m) (hr : ∀ w, (Instr.sliceAt t p l h m).run Tryz.prog w = .ok v w) : YieldsIf Tryz.prog ops S o v a :=
 .inl ⟨hw, fun w _ => by unfold execOp; rw [hop]; simp only [hx, hl, hh, hm, Sem.run_bind, hr w, Result.andThen_ok]; rfl⟩
theorem y_ext {x : Operand} {i : Nat} {p v : Value} (hop : o.op = .extract x i) (hw : Region.wanted o (yielded ops a.tmps) = true := by kernel_rfl) (hx : a.eval x = p := by kernel_rfl)
  (hr : ∀ w, (Instr.extract p i).run Tryz.prog w = .ok v w) : YieldsIf Tryz.prog ops S o v a :=
 .inl ⟨hw, fun w _ => by unfold execOp; rw [hop]; simp only [hx, Sem.run_bind, hr w, Result.andThen_ok]; rfl⟩
end
theorem load1 {t : TypeId} (ha : ∀ w, (isAgg t).run Tryz.prog w = .ok false w) {w : World} {p i : Nat} {v : Value} (hc : w.cell? ⟨p, i, none⟩ = some v) : (Instr.loadAt t (.pointer (some ⟨p, i, none⟩))).run Tryz.prog w = .ok v w := by
 simp only [Instr.loadAt, Instr.sureAddr, Sem.run_bind, Sem.run_pure, Result.andThen, loadVar, ha]
 go_simp
theorem store1 {t : TypeId} (hz : ∀ w, (Go.sizeOf t).run Tryz.prog w = .ok 1 w) {w : World} {p i : Nat} {old : Value} (v : Value) (h1 : v.oneCell' = true) (hv : v.cells = #[v]) (hc : w.cell? ⟨p, i, none⟩ = some old) (hf : w.frozen? ⟨p, i, none⟩ = false) :
  (Instr.storeAt t (.pointer (some ⟨p, i, none⟩)) v).run Tryz.prog w = .ok () (w.setCell ⟨p, i, none⟩ v) := by
 simp only [Instr.storeAt, Instr.sureAddr, Sem.run_bind, Sem.run_pure, Result.andThen, storeVar, hz, hv]
 simp [storeCells, add_lit, run_store _ w _ v _ h1, hc, hf]
theorem run_boxOp {o : Oper} {a : Act} {w w1 : World} {t : TypeId} {x : Operand} {p v : Value} (hop : o.op = .box t x) (hx : a.eval x = p) (hr : (Instr.box t p).run Tryz.prog w = .ok v w1) :
  (execOp a.eval o).run Tryz.prog w = .ok (.value v) w1 := by
 unfold execOp; rw [hop]; simp only [hx, Sem.run_bind, hr, Result.andThen_ok]; rfl
theorem box_agg (T : TypeId) (w : World) (c : Array Value) : (Instr.box T (.agg c)).run Tryz.prog w = .ok (.pointer (some ⟨w.heap.size, 0, none⟩)) (w.alloc (.cells c T)) := by
 simp [Instr.box, newVar, newRow, Value.cells]
theorem storeAt_all {T : TypeId} {k : Nat} (hz : (Tryz.prog.info? T).map (·.size) = some k) {w : World} {g : Nat} {c c' : Array Value} {t : TypeId} (hk : c.size = k) (hk' : c'.size = k) (hg : w.heap[g]? = some (.cells c t (0, 0))) (h1 : ∀ v ∈ c'.toList, v.oneCell' = true) :
  (Instr.storeAt T (.pointer (some ⟨g, 0, none⟩)) (.agg c')).run Tryz.prog w = .ok () (w.setRow g c') := by
 have h := storeAt_k hz w g 0 c t c'.toList (by simpa using hk') hg (by simp; omega) h1
 have e : relaid c 0 c'.toList = c' := by
  unfold relaid
  rw [List.take_zero, List.nil_append, Nat.zero_add, List.drop_of_length_le (by simp; omega), List.append_nil]
 rw [e] at h
 simpa using h
def strV (b : List UInt8) : Value := .string ⟨b.toArray⟩
theorem y_lenT {t : TypeId} (hl : ∀ (p : Option Addr) (n c : Nat) (ty : TypeId) (w : World), (Builtin.len_ #[t] ty #[.slice p n c]).run Tryz.prog w = .ok (.int .i64 n) w) {ops : Array Oper} {S : World → Prop} {o : Oper} {a : Act} {x : Operand} {p : Option Addr} {n c : Nat} (hop : o.op = .call { callee := .builtin .len, args := #[x], argTypes := #[t] }) (hw : Region.wanted o (yielded ops a.tmps) = true) (hx : a.eval x = .slice p n c) : YieldsIf Tryz.prog ops S o (.int .i64 n) a :=
 .inl ⟨hw, fun w _ => by
  have h1 : (Builtin.len_ #[t] o.type #[a.eval x]).run Tryz.prog w = .ok (.int .i64 n) w := by rw [hx]; exact hl p n c o.type w
  unfold execOp
  simp only [hop, resolve, invoke, builtin, Sem.run_bind, Sem.run_pure, Result.andThen_ok, List.map_toArray, List.map_cons, List.map_nil, h1]⟩
theorem eqlS (a b : List UInt8) (r : Bool) (h : decide (a = b) = r) (w : World) : (binOp .eql 9 (strV a) (strV b)).run Tryz.prog w = .ok (.bool r) w := by
 subst h
 unfold strV
 go_simp
 by_cases hab : a = b <;> simp [hab]
theorem y_eqlS {ops : Array Oper} {S : World → Prop} {o : Oper} {a : Act} {x y : Operand} {t' : TypeId} {l m : List UInt8} {r : Bool} (hop : o.op = .binOp .eql 9 x y t') (hw : Region.wanted o (yielded ops a.tmps) = true) (hx : a.eval x = strV l) (hy : a.eval y = strV m) (hr : decide (l = m) = r) : YieldsIf Tryz.prog ops S o (.bool r) a :=
 .inl ⟨hw, fun w _ => by
  unfold execOp; rw [hop]; simp only [hx, hy, Sem.run_bind]
  have : (eqGuard .eql 9 x y (strV l) (strV m)).run Tryz.prog w = .ok () w := by
   unfold eqGuard strV; go_simp
  rw [this]; simp only [Result.andThen_ok, eqlS l m r hr w]; rfl⟩
theorem results_cell1 {fn : Func} {p : Tmp} {ty : TypeId} (h : fn.results = #[.cell p ty]) (tmps : Array Value) (P : Program) (w : World) :
  (results fn tmps).run P w = ((asAddr (tmps.getD p undef)).run P w).andThen fun a w₁ => (loadVar ty a).run P w₁ := by
 simp only [results, h]
 simp [Sem.run_bind, Result.andThen]
theorem ret_cell {f : Func} {R : Ending → World → Prop} {a : Act} {w : World} {p : Tmp} {ty : TypeId} {b : Nat} {v : Value} (hf : f.results = #[.cell p ty]) (hd : a.defers = []) (hp : a.tmps.getD p undef = .pointer (some ⟨b, 0, none⟩))
  (hl : (Instr.loadAt ty (.pointer (some ⟨b, 0, none⟩))).run Tryz.prog w = .ok v w) (hR : R (.returned v) w) : bodyPost Tryz.prog f R .ret a w := by
 refine bodyPost_ret (v := v) ?_ hd hR
 have hl' : (loadVar ty ⟨b, 0, none⟩).run Tryz.prog w = .ok v w := by
  simpa [Instr.loadAt, Instr.sureAddr, Sem.run_bind, Sem.run_pure, Result.andThen] using hl
 rw [results_cell1 hf, hp]
 simp only [asAddr, Sem.run_pure, Result.andThen]
 exact hl'
theorem qadd (a b c : Int) (h : IntKind.i64.wrap (a + b) = c) (w : World) : (binOp .add 3 (.int .i64 a) (.int .i64 b)).run Tryz.prog w = .ok (.int .i64 c) w := by subst h; go_simp
theorem qlss (a b : Int) (r : Bool) (h : decide (a < b) = r) (w : World) : (binOp .lss 3 (.int .i64 a) (.int .i64 b)).run Tryz.prog w = .ok (.bool r) w := by subst h; go_simp
theorem qeql (a b : Int) (r : Bool) (h : (a == b) = r) (w : World) : (binOp .eql 3 (.int .i64 a) (.int .i64 b)).run Tryz.prog w = .ok (.bool r) w := by subst h; go_simp
section
variable {ops : Array Oper} {o : Oper} {w : World} {rest : List Oper} {Q : Exit → Act → World → Prop}
theorem wp_yg {v : Value} {d : Nat} {tmps T : Array Value} {ds : List Deferred} (hd : o.dst = some d) (hy : YieldsIf Tryz.prog ops (fun w' => w' = w) o v ⟨tmps, ds⟩) (hT : tmps.setIfInBounds d v = T) (hK : wpList Tryz.prog ops Q rest ⟨T, ds⟩ w) : wpList Tryz.prog ops Q (o :: rest) ⟨tmps, ds⟩ w := by
 subst hT
 rcases hy with ⟨hw, h⟩ | ⟨hw, rfl⟩
 ·refine wpList_step fun K hK' => ?_
  simp only [hw, if_true]
  unfold Oper.wp
  rw [h w rfl, Oper.upon_value]
  refine hK' _ _ ?_
  rw [hd]; exact hK
 ·refine wpList_skip hw ?_
  rw [hd]; exact hK
theorem wp_callg {d : Nat} {f : FuncId} {args : Array Value} {tmps : Array Value} {ds : List Deferred} (hd : o.dst = some d) (hw : Region.wanted o (yielded ops tmps) = true)
  (he : ∀ w, (execOp (Act.mk tmps ds).eval o).run Tryz.prog w = .ok (.enter f args) w)
  (h : Calls Tryz.prog f args w fun e w' => ∃ v, e = .returned v ∧ wpList Tryz.prog ops Q rest ⟨tmps.setIfInBounds d v, ds⟩ w') : wpList Tryz.prog ops Q (o :: rest) ⟨tmps, ds⟩ w := by
 refine wpList_step fun K hK' => ?_
 simp only [hw, if_true]
 unfold Oper.wp
 rw [he w, Oper.upon_enter]
 refine h.mono fun e w' ⟨v, he, h2⟩ => ?_
 subst he
 refine hK' _ _ ?_
 rw [hd]
 exact h2
theorem wp_sk {d : Nat} {tmps T : Array Value} {ds : List Deferred} (hd : o.dst = some d) (hw : Region.wanted o (yielded ops tmps) = false) (hT : tmps.setIfInBounds d undef = T) (hK : wpList Tryz.prog ops Q rest ⟨T, ds⟩ w) : wpList Tryz.prog ops Q (o :: rest) ⟨tmps, ds⟩ w := by
 subst hT
 refine wpList_skip hw ?_
 rw [hd]; exact hK
end
theorem qnotB (b : Bool) (w : World) : (Op.unary .not (.bool b)).run Tryz.prog w = .ok (.bool (!b)) w := by go_simp
section
variable {ops : Array Oper} {Q : Exit → Act → World → Prop} {rest : List Oper} {w : World} {d : Nat} {op : Op} {ty : TypeId} {pos : String} {after : Array Edge} {tmps : Array Value} {ds : List Deferred}
theorem qv (v : Value) (hK : wpList Tryz.prog ops Q rest ⟨tmps.setIfInBounds d v, ds⟩ w) (h : ∀ w, (execOp (Act.mk tmps ds).eval ⟨some d, op, ty, pos, after, none⟩).run Tryz.prog w = .ok (.value v) w := by intro w; kernel_rfl) : wpList Tryz.prog ops Q (⟨some d, op, ty, pos, after, none⟩ :: rest) ⟨tmps, ds⟩ w := wp_y rfl rfl (.inl ⟨rfl, fun w _ => h w⟩) rfl hK
theorem qb {b : BinOp} {t t' : TypeId} {x y : Operand} {k k' : IntKind} {m n : Int} {v : Value} (hr : ∀ w, (binOp b t (.int k m) (.int k' n)).run Tryz.prog w = .ok v w) (hK : wpList Tryz.prog ops Q rest ⟨tmps.setIfInBounds d v, ds⟩ w) (hx : (Act.mk tmps ds).eval x = .int k m := by kernel_rfl) (hy : (Act.mk tmps ds).eval y = .int k' n := by kernel_rfl) : wpList Tryz.prog ops Q (⟨some d, .binOp b t x y t', ty, pos, after, none⟩ :: rest) ⟨tmps, ds⟩ w := wp_y rfl rfl (y_bin rfl rfl hx hy hr) rfl hK
theorem ql {t : TypeId} {x : Operand} {g : Nat} {c : Array Value} {e : TypeId} {z : Nat × Nat} (v : Value) (ha : ∀ w, (isAgg t).run Tryz.prog w = .ok false w) (i : Nat) (hg : Hid (w.heap[g]? = some (.cells c e z))) (hK : wpList Tryz.prog ops Q rest ⟨tmps.setIfInBounds d v, ds⟩ w) (hc : c[i]? = some v := by kernel_rfl) (hx : (Act.mk tmps ds).eval x = .pointer (some ⟨g, i, none⟩) := by kernel_rfl) : wpList Tryz.prog ops Q (⟨some d, .load t x, ty, pos, after, none⟩ :: rest) ⟨tmps, ds⟩ w := wp_y rfl rfl (y_load rfl rfl hx (fun w' h => by rw [h]; exact load1 ha (cell_at hg.out i hc))) rfl hK
theorem qf {t f : Nat} {x : Operand} {b i j : Nat} (hf : ∀ w, (Instr.fieldAt t (.pointer (some ⟨b, i, none⟩)) f).run Tryz.prog w = .ok (.pointer (some ⟨b, j, none⟩)) w) (hK : wpList Tryz.prog ops Q rest ⟨tmps.setIfInBounds d (.pointer (some ⟨b, j, none⟩)), ds⟩ w) (hx : (Act.mk tmps ds).eval x = .pointer (some ⟨b, i, none⟩) := by kernel_rfl) : wpList Tryz.prog ops Q (⟨some d, .fieldAddr t x f, ty, pos, after, none⟩ :: rest) ⟨tmps, ds⟩ w := wp_y rfl rfl (y_faddr rfl rfl hx hf) rfl hK
theorem qk {t : TypeId} {x : Operand} {g : Nat} {c : Array Value} {e : TypeId} {z : Nat × Nat} (v : Value) (ha : ∀ w, (isAgg t).run Tryz.prog w = .ok true w) (hg : Hid (w.heap[g]? = some (.cells c e z))) (hK : wpList Tryz.prog ops Q rest ⟨tmps.setIfInBounds d v, ds⟩ w) (hv : Value.agg c = v := by kernel_rfl) (hz : (Tryz.prog.info? t).map (·.size) = some c.size := by kernel_rfl) (hx : (Act.mk tmps ds).eval x = .pointer (some ⟨g, 0, none⟩) := by kernel_rfl) : wpList Tryz.prog ops Q (⟨some d, .load t x, ty, pos, after, none⟩ :: rest) ⟨tmps, ds⟩ w := wp_y rfl rfl (y_load rfl rfl hx (fun w' h => by rw [h, ← hv]; exact by have h2 := loadAt_k ha hz w g 0 c e z c.toList (by simp) hg.out (fun j v hj => by simpa using hj); simpa using h2)) rfl hK
theorem qg {o : Oper} (v : Value) (hd : o.dst = some d) (hK : wpList Tryz.prog ops Q rest ⟨tmps.setIfInBounds d v, ds⟩ w) (hw : Region.wanted o (yielded ops tmps) = true := by kernel_rfl) (h : ∀ w, (execOp (Act.mk tmps ds).eval o).run Tryz.prog w = .ok (.value v) w := by intro w; kernel_rfl) : wpList Tryz.prog ops Q (o :: rest) ⟨tmps, ds⟩ w := wp_yg hd (.inl ⟨hw, fun w _ => h w⟩) rfl hK
theorem qs {o : Oper} (hd : o.dst = some d) (hK : wpList Tryz.prog ops Q rest ⟨tmps.setIfInBounds d undef, ds⟩ w) (hw : Region.wanted o (yielded ops tmps) = false := by kernel_rfl) : wpList Tryz.prog ops Q (o :: rest) ⟨tmps, ds⟩ w := wp_sk hd hw rfl hK
end
theorem ka {w w' : World} {g : Nat} {x : Obj} (hB : Hid (Below w.heap.size w w')) (h : Hid (w.heap[g]? = some x)) : Hid (w'.heap[g]? = some x) := hid (below_at hB.out h.out (heap_lt h.out))
theorem kb {a w w' : World} (h : Hid (Below a.heap.size a w)) (hB : Hid (Below w.heap.size w w')) : Hid (Below a.heap.size a w') := hid (h.out.trans (hB.out.mono h.out.size))
theorem kn {w : World} {b g : Nat} {x : Obj} (h : Hid (w.heap[b]? = some x)) (hg : Hid (w.heap.size ≤ g)) : Hid (b ≠ g) := hid (Nat.ne_of_lt (Nat.lt_of_lt_of_le (heap_lt h.out) hg.out))
section
variable {ops : Array Oper} {Q : Exit → Act → World → Prop} {rest : List Oper} {a : Act} {w : World} {dst : Option Nat} {ty : TypeId} {pos : String} {after : Array Edge}
theorem qc {f : FuncId} {xs : Array Operand} {ats : Array TypeId} (args : Array Value) (h : Calls Tryz.prog f args w fun e w' => ∃ v, e = .returned v ∧ wpList Tryz.prog ops Q rest (a.put dst v) w') (hxs : #[] ++ xs.map a.eval ++ #[] = args := by kernel_rfl) (hf : ∀ w, (callFunc f args).run Tryz.prog w = .ok (.enter f args) w := by intro w; go_simp) : wpList Tryz.prog ops Q (⟨dst, .call { callee := .value (.func f), args := xs, argTypes := ats }, ty, pos, after, none⟩ :: rest) a w := wp_call hxs hf h
end
theorem rl {P : Program} {Q : Exit → Act → World → Prop} {a : Act} {w : World} {id : Nat} {l : List Oper} (h : wpList P l.toArray Q l a w) : (Code.region id l.toArray false).wp P Q a w := wp_region_lit h
theorem bt (b : Bool) : Hid (b = true) ∨ Hid (b = false) := Bool.eq_false_or_eq_true b
theorem kg {X : List Nat} {a w : World} {g : Nat} (h : Hid (Fr X a w)) (hg : Hid (w.heap.size ≤ g)) : Hid (a.heap.size ≤ g) := hid (Nat.le_trans h.out.size hg.out)
theorem kh {n : Nat} {a w : World} {g : Nat} (h : Hid (Below n a w)) (hg : Hid (w.heap.size ≤ g)) : Hid (a.heap.size ≤ g) := hid (Nat.le_trans h.out.size hg.out)
theorem kf {X : List Nat} {a w w' : World} (h : Hid (Fr X a w)) (hB : Hid (Below w.heap.size w w')) : Hid (Fr X a w') := hid (h.out.trans (Fr.of_below (X := []) hB.out) (by simp))
inductive Tr where
 | mk (k : Int) (tx : List UInt8) (n : Int) (kids : List Tr) (at_ : Int)
theorem Tr.lt_of_mem {k : Int} {tx : List UInt8} {n : Int} {kids : List Tr} {at_ : Int} {t : Tr} (h : t ∈ kids) : SizeOf.sizeOf t < SizeOf.sizeOf (Tr.mk k tx n kids at_) := by
 have := List.sizeOf_lt_of_mem h
 simp only [Tr.mk.sizeOf_spec]
 omega
theorem Tr.ind {P : Tr → Prop} (h : ∀ k tx n kids at_, (∀ t ∈ kids, P t) → P (.mk k tx n kids at_)) (t : Tr) : P t :=
 match t with
 | .mk k tx n kids at_ => h k tx n kids at_ (fun t _ => Tr.ind h t)
termination_by SizeOf.sizeOf t
decreasing_by exact Tr.lt_of_mem (by assumption)
def nv (k : Int) (tx : List UInt8) (n : Int) (v : Value) (at_ : Int) : Value := .agg #[.int .i64 k, strV tx, .int .i64 n, v, .int .i64 at_]
def At5 (w : World) (b o : Nat) (k : Int) (tx : List UInt8) (n : Int) (v : Value) (at_ : Int) : Prop := w.cell? ⟨b, o, none⟩ = some (.int .i64 k) ∧ w.cell? ⟨b, o + 1, none⟩ = some (strV tx) ∧ w.cell? ⟨b, o + 2, none⟩ = some (.int .i64 n) ∧ w.cell? ⟨b, o + 3, none⟩ = some v ∧ w.cell? ⟨b, o + 4, none⟩ = some (.int .i64 at_)
theorem At5.below {w w' : World} {b o : Nat} {k : Int} {tx : List UInt8} {n : Int} {v : Value} {at_ : Int} (h : At5 w b o k tx n v at_) (hB : Below w.heap.size w w') : At5 w' b o k tx n v at_ := by
 have hb : b < w.heap.size := World.block_lt_of_cell? w _ h.1
 obtain ⟨h0, h1, h2, h3, h4⟩ := h
 exact ⟨(hB.cell (p := ⟨b, o, none⟩) hb).trans h0, (hB.cell (p := ⟨b, o + 1, none⟩) hb).trans h1, (hB.cell (p := ⟨b, o + 2, none⟩) hb).trans h2, (hB.cell (p := ⟨b, o + 3, none⟩) hb).trans h3, (hB.cell (p := ⟨b, o + 4, none⟩) hb).trans h4⟩
def Cl (w : World) (b o : Nat) (v : Value) : Prop := ∃ k tx n s at_, v = nv k tx n s at_ ∧ At5 w b o k tx n s at_
theorem Cl.below {w w' : World} {b o : Nat} {v : Value} (h : Cl w b o v) (hB : Below w.heap.size w w') : Cl w' b o v := by
 obtain ⟨k, tx, n, s, at_, e, h⟩ := h
 exact ⟨k, tx, n, s, at_, e, h.below hB⟩
inductive Nd (w : World) : Value → Tr → Prop
 | mk (k : Int) (tx : List UInt8) (n : Int) (kids : List Tr) (at_ : Int) (a : Option Addr) (c : Nat) (vs : Nat → Value) (hl : kids.length ≤ c ∧ c ≤ 9223372036854775807)
   (hc : ∀ i, i < kids.length → ∃ b o, a = some ⟨b, o, none⟩ ∧ Cl w b (o + i * 5) (vs i)) (hk : ∀ i t, kids[i]? = some t → Nd w (vs i) t) : Nd w (nv k tx n (.slice a kids.length c) at_) (.mk k tx n kids at_)
theorem Nd.later {w w' : World} {v : Value} {t : Tr} (h : Nd w v t) (hB : Below w.heap.size w w') : Nd w' v t := by
 induction h with
 | mk k tx n kids at_ a c vs hl hc hk ih =>
  refine .mk k tx n kids at_ a c vs hl (fun i hi => ?_) (fun i t ht => ih i t ht)
  obtain ⟨b, o, e, h⟩ := hc i hi
  exact ⟨b, o, e, h.below hB⟩
theorem Nd.open {w : World} {v : Value} {k : Int} {tx : List UInt8} {n : Int} {kids : List Tr} {at_ : Int} (h : Nd w v (.mk k tx n kids at_)) : ∃ a c, v = nv k tx n (.slice a kids.length c) at_ ∧ (kids.length ≤ c ∧ c ≤ 9223372036854775807) ∧ ∀ i t, kids[i]? = some t → ∃ b o u, a = some ⟨b, o, none⟩ ∧ Cl w b (o + i * 5) u ∧ Nd w u t := by
 cases h with
 | mk _ _ _ _ _ a c vs hl hc hk =>
  refine ⟨a, c, rfl, hl, fun i t ht => ?_⟩
  obtain ⟨b, o, e, h⟩ := hc i (List.getElem?_eq_some_iff.1 ht).1
  exact ⟨b, o, vs i, e, h, hk i t ht⟩
theorem size24 : (Tryz.prog.info? 24).map (·.size) = some 5 := by kernel_rfl
theorem load24 {w : World} {b o : Nat} {v : Value} (h : Cl w b o v) : (Instr.loadAt 24 (.pointer (some ⟨b, o, none⟩))).run Tryz.prog w = .ok v w := by
 obtain ⟨k, tx, n, s, at_, rfl, h0, h1, h2, h3, h4⟩ := h
 have hc := run_loadCells_list (P := Tryz.prog) w ⟨b, o, none⟩ [.int .i64 k, strV tx, .int .i64 n, s, .int .i64 at_] (fun j x hx => by
  match j, hx with
  | 0, hx => cases hx; rw [add_lit]; exact h0
  | 1, hx => cases hx; rw [add_lit]; exact h1
  | 2, hx => cases hx; rw [add_lit]; exact h2
  | 3, hx => cases hx; rw [add_lit]; exact h3
  | 4, hx => cases hx; rw [add_lit]; exact h4)
 unfold nv
 simp only [Instr.loadAt, Instr.sureAddr, Sem.run_bind, Sem.run_pure, Result.andThen, loadVar, Tryz.isAgg24, run_size size24, show 5 = [Value.int .i64 k, strV tx, .int .i64 n, s, .int .i64 at_].length from rfl, hc, if_true]
theorem box24 (w : World) (k : Int) (tx : List UInt8) (n : Int) (s : Value) (at_ : Int) : ∃ w1, (Instr.box 24 (nv k tx n s at_)).run Tryz.prog w = .ok (.pointer (some ⟨w.heap.size, 0, none⟩)) w1 ∧ w1.heap[w.heap.size]? = some (.cells #[.int .i64 k, strV tx, .int .i64 n, s, .int .i64 at_] 24 (0, 0)) ∧ Below w.heap.size w w1 ∧ w1.heap.size = w.heap.size + 1 :=
 ⟨_, box_agg _ w _, heap_alloc_last w _, (Below.refl _ _).alloc (Nat.le_refl _) _, by show (w.heap.push _).size = _; simp⟩
theorem fg24_3 (b o : Nat) (w : World) : (Instr.fieldAt 24 (.pointer (some ⟨b, o, none⟩)) 3).run Tryz.prog w = .ok (.pointer (some ⟨b, o + 3, none⟩)) w := by go_simp
theorem idx24 (b o n cap k : Nat) (h : k < n) (w : World) : (Instr.indexAt 22 (.slice (some ⟨b, o, none⟩) n cap) (.int .i64 k)).run Tryz.prog w = .ok (.pointer (some ⟨b, o + k * 5, none⟩)) w := by go_simp
theorem len24 (p : Option Addr) (n c : Nat) (ty : TypeId) (w : World) : (Builtin.len_ #[22] ty #[.slice p n c]).run Tryz.prog w = .ok (.int .i64 n) w := by go_simp
mutual
def lft : Tr → Int → Int
 | .mk _ _ _ ks _, m => lfts ks (m - 1)
def lfts : List Tr → Int → Int
 | [], m => m
 | t :: r, m => if 0 ≤ m then lfts r (lft t m) else m
end
theorem lfts_neg (ks : List Tr) (m : Int) (h : m < 0) : lfts ks m = m := by
 cases ks with
 | nil => rw [lfts]
 | cons t r => rw [lfts, if_neg (by omega)]
theorem lfts_snoc : ∀ (ks : List Tr) (t : Tr) (m : Int), 0 ≤ lfts ks m → lfts (ks ++ [t]) m = lft t (lfts ks m)
 | [], t, m, h => by
  simp only [lfts] at h
  simp only [List.nil_append, lfts, if_pos h]
 | s :: r, t, m, h => by
  rw [lfts] at h
  by_cases hm : 0 ≤ m
  ·rw [if_pos hm] at h
   rw [List.cons_append, lfts, if_pos hm, lfts_snoc r t _ h, lfts, if_pos hm]
  ·rw [if_neg hm] at h; omega
theorem lfts_over : ∀ (ks : List Tr) (i : Nat) (m : Int), lfts (ks.take i) m < 0 → lfts ks m = lfts (ks.take i) m
 | [], i, m, _ => by simp
 | s :: r, 0, m, h => by
  rw [List.take_zero, lfts] at h
  rw [List.take_zero, lfts_neg _ m h, lfts]
 | s :: r, i + 1, m, h => by
  rw [List.take_succ_cons, lfts] at h ⊢
  rw [lfts]
  by_cases hm : 0 ≤ m
  ·rw [if_pos hm] at h ⊢
   rw [if_pos hm]
   exact lfts_over r i _ h
  ·rw [if_neg hm, if_neg hm]
theorem lfts_le (ks : List Tr) (ih : ∀ t ∈ ks, ∀ m : Int, 0 ≤ m → -1 ≤ lft t m ∧ lft t m < m) : ∀ m : Int, -1 ≤ m → -1 ≤ lfts ks m ∧ lfts ks m ≤ m := by
 induction ks with
 | nil => intro m h; rw [lfts]; omega
 | cons t r ihr =>
  intro m h
  rw [lfts]
  by_cases hm : 0 ≤ m
  ·rw [if_pos hm]
   have h1 := ih t (by simp) m hm
   have h2 := ihr (fun s hs => ih s (by simp [hs])) (lft t m) h1.1
   omega
  ·rw [if_neg hm]; omega
theorem lft_le (t : Tr) : ∀ m : Int, 0 ≤ m → -1 ≤ lft t m ∧ lft t m < m := by
 refine Tr.ind (P := fun t => ∀ m : Int, 0 ≤ m → -1 ≤ lft t m ∧ lft t m < m) ?_ t
 intro k tx n kids at_ ih m hm
 rw [lft]
 have := lfts_le kids ih (m - 1) (by omega)
 omega
theorem lfts_cnt : ∀ (ks : List Tr) (m : Int), 0 ≤ lfts ks m → lfts ks m + ks.length ≤ m
 | [], m, _ => by simp [lfts]
 | t :: r, m, h => by
  rw [lfts] at h ⊢
  by_cases hm : 0 ≤ m
  ·rw [if_pos hm] at h ⊢
   have h1 := lfts_cnt r _ h
   have h2 := (lft_le t m hm).2
   rw [List.length_cons]
   omega
  ·rw [if_neg hm] at h; omega
theorem qgeq (a b : Int) (r : Bool) (h : decide (b ≤ a) = r) (w : World) : (binOp .geq 3 (.int .i64 a) (.int .i64 b)).run Tryz.prog w = .ok (.bool r) w := by subst h; go_simp
theorem take_next {α : Type} {l : List α} {i : Nat} {x : α} (h : l[i]? = some x) : l.take (i + 1) = l.take i ++ [x] := by
 rw [List.take_add_one, h]; rfl
theorem left_any (t : Tr) : ∀ (m : Int) (w : World) (v : Value), 0 ≤ m → m ≤ 8192 → Nd w v t → Calls Tryz.prog 37 #[v, .int .i64 m] w fun e w' => e = .returned (.int .i64 (lft t m)) ∧ Below w.heap.size w w' := by
 refine Tr.ind (P := fun t => ∀ (m : Int) (w : World) (v : Value), 0 ≤ m → m ≤ 8192 → Nd w v t → Calls Tryz.prog 37 #[v, .int .i64 m] w fun e w' => e = .returned (.int .i64 (lft t m)) ∧ Below w.heap.size w w') ?_ t
 intro k tx n kids at_ ih m w v hm0 hm1 hN
 obtain ⟨a, c, rfl, hlc, hk⟩ := hN.open
 obtain ⟨w1, hbx, hS1, hB1, hz1⟩ := box24 w k tx n (.slice a kids.length c) at_
 obtain ⟨g0, hg0⟩ : ∃ g, w.heap.size = g := ⟨_, rfl⟩
 rw [hg0] at hbx hS1 hB1 hz1 ⊢
 obtain ⟨N, hN'⟩ : ∃ N, kids.length = N := ⟨_, rfl⟩
 rw [hN'] at hbx hS1 hlc
 have hsub : IntKind.i64.wrap (m - 1) = m - 1 := by rw [IntWalk.i64_in _ ⟨by omega, by omega⟩]
 have HBX := hid hbx
 have HS1 := hid hS1
 have HG := hid (And.intro hg0 hz1)
 have HB1 := hid hB1
 have HK := hid hk
 have HIH := hid ih
 have HM := hid (And.intro hm0 hm1)
 have HN : Hid (kids.length = N ∧ N ≤ c) := hid ⟨hN', hlc.1⟩
 have HLE := hid (lfts_le kids (fun t _ => lft_le t) (m - 1) (by omega))
 have HND := hid hN
 rw [lft, hN']
 clear hbx hS1 hB1 hz1 hg0 hk ih hm0 hm1 hN hlc hN'
 go_enter Tryz.func37, Tryz.ntmps37
 go_upto_region 0 with fail
 refine rl ?_
 refine wp_run (v := .pointer (some ⟨g0, 0, none⟩)) rfl rfl (run_boxOp rfl (by kernel_rfl) HBX.out) rfl ?_
 try simp only [nA, nB, nC]
 refine qv (.int .i64 0) ?_
 simp only [nA, nB, nC]
 refine we ?_
 clear HBX
 go_wp2_with fail
 go_loopw [1, 5] (fun v1 v5 wr => ∃ i : Nat, i ≤ N ∧ v5 = .int .i64 i ∧ v1 = .int .i64 (lfts (kids.take i) (m - 1)) ∧ Below g0 w wr ∧ wr.heap[g0]? = some (.cells #[.int .i64 k, strV tx, .int .i64 n, .slice a N c, .int .i64 at_] 24 (0, 0))) (fun _ v5 _ => N - (intOf v5).toNat)
 case atStart => exact ⟨0, Nat.zero_le _, rfl, by rw [List.take_zero, lfts], HB1.out, HS1.out⟩
 case round =>
  clear HB1 HS1
  obtain ⟨i, hi, rfl, rfl, hBw, hS⟩ := hrel
  have hnn := HN.out
  have hgg := HG.out
  have hll : N ≤ c := hnn.2
  have hsz := lfts_le (kids.take i) (fun t _ => lft_le t) (m - 1) (by have := HM.out; omega)
  obtain ⟨x, hx⟩ : ∃ x, lfts (kids.take i) (m - 1) = x := ⟨_, rfl⟩
  rw [hx] at hsz ⊢
  have hc3 : wr.cell? ⟨g0, 3, none⟩ = some (.slice a N c) := cell_at hS 3 rfl
  by_cases hlt : i < N
  ·have hlt' : (i : Int) < (N : Int) := by omega
   by_cases hx0 : 0 ≤ x
   ·obtain ⟨t, ht⟩ : ∃ t, kids[i]? = some t := ⟨_, List.getElem?_eq_getElem (by omega)⟩
    obtain ⟨b, o, u, rfl, hcl, _⟩ := HK.out i t ht
    have hb : Below w.heap.size w wr := by rw [hgg.1]; exact hBw
    have HLD := hid (load24 (hcl.below hb))
    have hNt : Nd wr u t := by
     obtain ⟨b', o', u', e, hcl', hNt'⟩ := HK.out i t ht
     cases e
     obtain ⟨k1, tx1, n1, s1, a1, rfl, h1⟩ := hcl
     obtain ⟨k2, tx2, n2, s2, a2, rfl, h2⟩ := hcl'
     have e0 := h1.1.symm.trans h2.1
     have e1 := h1.2.1.symm.trans h2.2.1
     have e2 := h1.2.2.1.symm.trans h2.2.2.1
     have e3 := h1.2.2.2.1.symm.trans h2.2.2.2.1
     have e4 := h1.2.2.2.2.symm.trans h2.2.2.2.2
     cases Option.some.inj e0
     cases Option.some.inj e2
     cases Option.some.inj e3
     cases Option.some.inj e4
     unfold nv at hNt' ⊢
     rw [Option.some.inj e1]
     exact hNt'.later hb
    have hcall := HIH.out t (List.mem_of_getElem? ht) x wr u hx0 (by have := HM.out; omega) hNt
    have HCA := hid hcall
    have HLC := hid (load1 Tryz.isAgg22 hc3)
    have HIX := hid hlt
    have hcn := lfts_cnt (kids.take i) (m - 1) (by rw [hx]; exact hx0)
    rw [hx, List.length_take] at hcn
    have hwk : IntKind.i64.wrap ((i : Int) + 1) = ((i + 1 : Nat) : Int) := by have := HM.out; rw [IntWalk.i64_in _ ⟨by omega, by omega⟩]; omega
    have HZ : Hid (∀ w', Below wr.heap.size wr w' → Below g0 w w' ∧ w'.heap[g0]? = some (.cells #[.int .i64 k, strV tx, .int .i64 n, .slice (some ⟨b, o, none⟩) N c, .int .i64 at_] 24 (0, 0))) := hid (fun w' hb' => ⟨hBw.trans (hb'.mono (by have := heap_lt hS; omega)), below_at hb' hS (heap_lt hS)⟩)
    have HLF : Hid (lfts (kids.take (i + 1)) (m - 1) = lft t x) := hid (by rw [take_next ht, lfts_snoc _ _ _ (by rw [hx]; exact hx0), hx])
    clear hcall hNt hcl ht hb hS hBw hnn hgg hll hsz hx hi hlt hcn
    go_upto_region 5 with fail
    refine rl ?_
    refine qf (fg24_3 (g0) (0)) ?_
    simp only [nA, nB, nC]
    refine wp_y (v := .slice (some ⟨b, o, none⟩) N c) rfl rfl (y_load rfl (hl := fun w' h => by rw [h]; exact HLC.out)) rfl ?_
    simp only [nA, nB, nC]
    refine qv (.int .i64 (i : Nat)) ?_
    simp only [nA, nB, nC]
    refine wp_y (v := .pointer (some ⟨b, o + i * 5, none⟩)) rfl rfl (y_index rfl (hr := idx24 b o N c i HIX.out)) rfl ?_
    simp only [nA, nB, nC]
    refine wp_y (v := u) rfl rfl (y_load rfl (hl := fun w' h => by rw [h]; exact HLD.out)) rfl ?_
    simp only [nA, nB, nC]
    refine qv (.int .i64 x) ?_
    simp only [nA, nB, nC]
    refine qc #[u, .int .i64 x] ?_
    refine HCA.out.mono ?_
    rintro e w3 ⟨rfl, hB3⟩
    refine ⟨_, rfl, ?_⟩
    have HZ2 := hid (HZ.out w3 hB3)
    clear hB3 HCA
    try simp only [Act.put, nA, nB, nC]
    refine qv (.int .i64 (lft t x)) ?_
    simp only [nA, nB, nC]
    refine we ?_
    go_wp2_with fail
    exact ⟨⟨i + 1, HIX.out, rfl, by rw [HLF.out], HZ2.out⟩, by have := HIX.out; simp [intOf]; omega⟩
   ·have hx1 : ¬ 0 ≤ x := hx0
    have HZ : Hid (lfts kids (m - 1) = x ∧ Below g0 w wr) := hid ⟨by rw [lfts_over kids i (m - 1) (by omega), hx], hBw⟩
    clear hS hBw hnn hgg hll hsz hx hi hlt hx0
    go_wp2_with fail
    go_ret
    exact ⟨by rw [HZ.out.1]; rfl, HZ.out.2⟩
  ·have hiN : i = N := by omega
   subst i
   have hlt' : ¬ (N : Int) < (N : Int) := by omega
   have HZ : Hid (lfts kids (m - 1) = x ∧ Below g0 w wr) := hid ⟨by rw [← hx, List.take_of_length_le (by omega)], hBw⟩
   clear hS hBw hnn hgg hll hsz hx hi hlt
   go_wp2_with fail
   go_ret
   exact ⟨by rw [HZ.out.1]; rfl, HZ.out.2⟩
def sml (t : Tr) : Bool := decide (0 ≤ lft t 8192)
theorem small_any {w : World} {v : Value} {t : Tr} (h : Nd w v t) : Calls Tryz.prog 20 #[v] w fun e w' => e = .returned (.bool (sml t)) ∧ Below w.heap.size w w' := by
 obtain ⟨k, tx, n, kids, at_⟩ := t
 obtain ⟨a, c, rfl, hlc, hk⟩ := h.open
 obtain ⟨w1, hbx, hS1, hB1, hz1⟩ := box24 w k tx n (.slice a kids.length c) at_
 obtain ⟨g0, hg0⟩ : ∃ g, w.heap.size = g := ⟨_, rfl⟩
 have hcall := left_any (.mk k tx n kids at_) 8192 w1 _ (by decide) (by decide) (h.later hB1)
 rw [hg0] at hbx hS1 hB1 hz1 ⊢
 have HCA := hid hcall
 have HBX := hid hbx
 have HLD := hid (load24 (w := w1) (b := g0) (o := 0) ⟨k, tx, n, _, at_, rfl, cell_at hS1 0 rfl, cell_at hS1 1 rfl, cell_at hS1 2 rfl, cell_at hS1 3 rfl, cell_at hS1 4 rfl⟩)
 have HB1 := hid (And.intro hB1 hz1)
 unfold sml
 generalize lft (.mk k tx n kids at_) 8192 = x at *
 clear hbx hS1 hB1 hz1 hg0 hk hlc h hcall
 go_enter Tryz.func20, Tryz.ntmps20
 go_upto_region 0 with fail
 refine rl ?_
 refine wp_run (v := .pointer (some ⟨g0, 0, none⟩)) rfl rfl (run_boxOp rfl (by kernel_rfl) HBX.out) rfl ?_
 try simp only [nA, nB, nC]
 refine qv (.bool false) ?_
 simp only [nA, nB, nC]
 refine we ?_
 go_upto_region 1 with fail
 refine rl ?_
 refine wp_y (v := nv k tx n (.slice a kids.length c) at_) rfl rfl (y_load rfl (hl := fun w' h => by rw [h]; exact HLD.out)) rfl ?_
 simp only [nA, nB, nC]
 refine qc #[nv k tx n (.slice a kids.length c) at_, .int .i64 8192] ?_
 refine HCA.out.mono ?_
 rintro e w3 ⟨rfl, hB3⟩
 refine ⟨_, rfl, ?_⟩
 have HZ : Hid (Below g0 w w3) := hid (HB1.out.1.trans (hB3.mono (by have := HB1.out.2; omega)))
 clear hB3 HCA
 try simp only [Act.put, nA, nB, nC]
 refine wp_y (v := .bool (decide (0 ≤ x))) rfl rfl (y_bin (k := .i64) (k' := .i64) (m := x) (n := 0) rfl (hr := qgeq _ _ _ rfl)) rfl ?_
 simp only [nA, nB, nC]
 refine qv (.bool (decide (0 ≤ x))) ?_
 simp only [nA, nB, nC]
 refine we ?_
 go_wp2_with fail
 go_ret
 exact ⟨rfl, HZ.out⟩
theorem At5.fr {w w' : World} {p : Nat} {c0 : Value} {ty : TypeId} {z : Nat × Nat} (hF : Fr [p] w w') (hp : w.heap[p]? = some (.cells #[c0] ty z)) {b o : Nat} {k : Int} {tx : List UInt8} {n : Int} {v : Value} {at_ : Int} (h : At5 w b o k tx n v at_) : At5 w' b o k tx n v at_ := by
 have hb : b < w.heap.size := World.block_lt_of_cell? w _ h.1
 obtain ⟨h0, h1, h2, h3, h4⟩ := h
 have hne : b ≠ p := by
  rintro rfl
  have e : w.cell? ⟨b, o + 1, none⟩ = none := by simp [World.cell?, hp]
  rw [e] at h1
  cases h1
 have hk : w'.heap[b]? = w.heap[b]? := hF.block b hb (by simpa using hne)
 have hc : ∀ i, w'.cell? ⟨b, i, none⟩ = w.cell? ⟨b, i, none⟩ := fun i => World.cell?_of_block (w := w) (a := ⟨b, i, none⟩) hk
 exact ⟨(hc _).trans h0, (hc _).trans h1, (hc _).trans h2, (hc _).trans h3, (hc _).trans h4⟩
theorem Cl.fr {w w' : World} {p : Nat} {c0 : Value} {ty : TypeId} {z : Nat × Nat} (hF : Fr [p] w w') (hp : w.heap[p]? = some (.cells #[c0] ty z)) {b o : Nat} {v : Value} (h : Cl w b o v) : Cl w' b o v := by
 obtain ⟨k, tx, n, s, at_, e, h⟩ := h
 exact ⟨k, tx, n, s, at_, e, h.fr hF hp⟩
theorem Nd.fr {w w' : World} {p : Nat} {c0 : Value} {ty : TypeId} {z : Nat × Nat} (hF : Fr [p] w w') (hp : w.heap[p]? = some (.cells #[c0] ty z)) {v : Value} {t : Tr} (h : Nd w v t) : Nd w' v t := by
 induction h with
 | mk k tx n kids at_ a c vs hl hc hk ih =>
  refine .mk k tx n kids at_ a c vs hl (fun i hi => ?_) (fun i t ht => ih i t ht)
  obtain ⟨b, o, e, h⟩ := hc i hi
  exact ⟨b, o, e, h.fr hF hp⟩
theorem qsub (a b c : Int) (h : IntKind.i64.wrap (a - b) = c) (w : World) : (binOp .sub 3 (.int .i64 a) (.int .i64 b)).run Tryz.prog w = .ok (.int .i64 c) w := by subst h; go_simp
end Go.Proofs.YtgpkcjpanpbhdaaGreatDoor
namespace Go.Proofs.YtgpkcjpanpbhdaaGreatDoor
open Go Go.ChangeShapes Go.WideShapes Go.ChangeAt Go.WideMaps Go.WideElems Go.RowKit Go.ChangeMaps Go.Deep
inductive Tr.Ok : Tr → Prop
 | mk (k : Int) (tx : List UInt8) (n : Int) (kids : List Tr) (at_ : Int) (hk : -9223372036854775808 ≤ k ∧ k ≤ 9223372036854775807) (hn : -9223372036854775808 ≤ n ∧ n ≤ 9223372036854775807) (ha : -9223372036854775808 ≤ at_ ∧ at_ ≤ 9223372036854775807)
   (ht : tx.length ≤ 9223372036854775807) (hs : ∀ (i : Nat) (t : Tr), kids[i]? = some t → Tr.Ok t) : Tr.Ok (.mk k tx n kids at_)
theorem spot_none {w : World} {ad : Addr} {v : Value} (h : w.cell? (ad.add 0) = some v) : ad.spot = none := by
 simpa [Addr.add] using World.cell?_spot h
theorem list5 {α : Type} : ∀ {l : List α}, l.length = 5 → ∃ a b c d e, l = [a, b, c, d, e]
 | [a, b, c, d, e], _ => ⟨a, b, c, d, e, rfl⟩
theorem node_trod {H : Type} {enc : TypeId × Value → H} {W : World} : ∀ (fuel : Nat) (cs : List Value) (x : DataW H × List MemPlace), DataW.trod enc Tryz.prog W 0 (fun _ => true) true fuel 24 cs = some x →
  ∃ k tx n v at_ t, cs = [.int .i64 k, strV tx, .int .i64 n, v, .int .i64 at_] ∧ Nd W (nv k tx n v at_) t ∧ t.Ok := by
 intro fuel
 induction fuel using Nat.strongRecOn with
 | _ fuel ih =>
  intro cs x hf
  have hc5 : Tryz.prog.cellsOf 24 = 5 := by kernel_rfl
  have hci : Tryz.prog.cellsOf 3 = 1 := by kernel_rfl
  have hcl : Tryz.prog.cellsOf 2 = 1 := by kernel_rfl
  have hcs : Tryz.prog.cellsOf 9 = 1 := by kernel_rfl
  have hcn : Tryz.prog.cellsOf 22 = 1 := by kernel_rfl
  obtain ⟨ys, m, hm, hxy, hcl', hxl, hfd⟩ := DataW.trod_struct Tryz.underlying24 hf
  have hy5 : ys.length = 5 := hxl
  obtain ⟨y0, y1, y2, y3, y4, rfl⟩ := list5 hy5
  rw [hc5] at hcl'
  obtain ⟨v0, v1, v2, v3, v4, rfl⟩ := list5 hcl'
  have g0 := hfd 0 _ rfl
  have g1 := hfd 1 _ rfl
  have g2 := hfd 2 _ rfl
  have g3 := hfd 3 _ rfl
  have g4 := hfd 4 _ rfl
  simp [hci, hcl, hcs, hcn] at g0 g1 g2 g3 g4
  obtain ⟨k, e0, _, w0⟩ := DataW.trod_int Tryz.underlying3 g0
  obtain ⟨s, e1, _, w1⟩ := DataW.trod_string Tryz.underlying9 g1
  obtain ⟨n, e2, _, w2⟩ := DataW.trod_int Tryz.underlying2 g2
  obtain ⟨at_, e4, _, w4⟩ := DataW.trod_int Tryz.underlying3 g4
  simp only [List.cons.injEq, and_true] at e0 e1 e2 e4
  subst e0 e1 e2 e4
  have hs : Value.string s = strV s.data.toList := by unfold strV; simp
  have hsl : s.data.toList.length ≤ 9223372036854775807 := by simpa [maxLen] using w1
  rcases DataW.trod_slice Tryz.underlying22 g3 with ⟨e3, _⟩ | ⟨ad, len, cap, elems, rest, q, hq, e3, _, _, hlc, hcm, hel, hea, _, _⟩
  ·simp only [List.cons.injEq, and_true] at e3
   subst e3
   refine ⟨k, s.data.toList, n, _, at_, .mk k s.data.toList n [] at_, by rw [hs], ?_, .mk _ _ _ _ _ (bounds_i64 w0) (bounds_i64 w2) (bounds_i64 w4) hsl (fun i t h => by simp at h)⟩
   exact .mk k s.data.toList n [] at_ none 0 (fun _ => .bool false) ⟨Nat.le_refl _, by omega⟩ (fun i h => absurd h (by simp)) (fun i t h => by simp at h)
  ·simp only [List.cons.injEq, and_true] at e3
   subst e3
   rw [hc5] at hea
   have each : ∀ i, i < len → ∃ z : Value × Tr, (∃ k tx n s at_, z.1 = nv k tx n s at_ ∧ W.cell? (ad.add (i * 5)) = some (.int .i64 k) ∧ W.cell? (ad.add (i * 5 + 1)) = some (strV tx) ∧ W.cell? (ad.add (i * 5 + 2)) = some (.int .i64 n) ∧ W.cell? (ad.add (i * 5 + 3)) = some s ∧ W.cell? (ad.add (i * 5 + 4)) = some (.int .i64 at_)) ∧ Nd W z.1 z.2 ∧ z.2.Ok := by
    intro i hi
    have h1 := hea i hi
    rw [List.getElem?_eq_getElem (by omega)] at h1
    obtain ⟨cs2, h2, h3⟩ := Option.bind_eq_some_iff.1 h1
    obtain ⟨_, hlen2, hcell⟩ := World.cells?_some h2
    obtain ⟨k', tx', n', v', at', t', rfl, hN, hO⟩ := ih q (by omega) cs2 _ h3
    have c0 := hcell 0 (by omega)
    have c1 := hcell 1 (by omega)
    have c2 := hcell 2 (by omega)
    have c3 := hcell 3 (by omega)
    have c4 := hcell 4 (by omega)
    rw [add_add] at c0 c1 c2 c3 c4
    exact ⟨(_, t'), ⟨k', tx', n', v', at', rfl, by simpa using c0, by simpa using c1, by simpa using c2, by simpa using c3, by simpa using c4⟩, hN, hO⟩
   haveI : Inhabited (Value × Tr) := ⟨(.bool false, .mk 0 [] 0 [] 0)⟩
   obtain ⟨f, hq'⟩ := choose_lt each
   have hkl : ((List.range len).map fun i => (f i).2).length = len := by simp
   have hkg : ∀ i t, ((List.range len).map fun i => (f i).2)[i]? = some t → i < len ∧ (f i).2 = t := by
    intro i t h
    have hi : i < len := by have := (List.getElem?_eq_some_iff.1 h).1; simpa using this
    exact ⟨hi, by simpa [hi] using h⟩
   refine ⟨k, s.data.toList, n, _, at_, .mk k s.data.toList n ((List.range len).map fun i => (f i).2) at_, by rw [hs], ?_, .mk _ _ _ _ _ (bounds_i64 w0) (bounds_i64 w2) (bounds_i64 w4) hsl (fun i t h => by
    obtain ⟨hi, rfl⟩ := hkg i t h
    exact (hq' i hi).2.2)⟩
   have hN := Nd.mk (w := W) k s.data.toList n ((List.range len).map fun i => (f i).2) at_ (some ad) cap (fun i => (f i).1) ⟨by rw [hkl]; exact hlc, hcm⟩ (fun i hi => by
    rw [hkl] at hi
    obtain ⟨⟨k', tx', n', s', at', e, c0, c1, c2, c3, c4⟩, _, _⟩ := hq' i hi
    obtain ⟨⟨_, _, _, _, _, _, z0, _⟩, _, _⟩ := hq' 0 (by omega)
    rw [Nat.zero_mul] at z0
    obtain ⟨b, off, sp⟩ := ad
    obtain rfl : sp = none := spot_none z0
    rw [Addr.add_lit] at c0 c1 c2 c3 c4
    exact ⟨b, off, rfl, k', tx', n', s', at', e, c0, by rw [Nat.add_assoc]; exact c1, by rw [Nat.add_assoc]; exact c2, by rw [Nat.add_assoc]; exact c3, by rw [Nat.add_assoc]; exact c4⟩) (fun i t h => by
    obtain ⟨hi, rfl⟩ := hkg i t h
    exact (hq' i hi).2.1)
   rw [hkl] at hN
   exact hN
theorem node_arg {H : Type} {enc : TypeId × Value → H} {W : World} {c : Array Value} {d : DataW H} {p : List MemPlace}
  (h0 : DataW.Trod enc Tryz.prog W 0 (fun _ => true) true 24 (.agg c) d p) : ∃ t, Nd W (.agg c) t ∧ t.Ok := by
 obtain ⟨fuel, hf⟩ := h0
 obtain ⟨k, tx, n, v, at_, t, hcs, h1, h2⟩ := node_trod _ _ _ hf
 refine ⟨t, ?_, h2⟩
 have e : c = #[.int .i64 k, strV tx, .int .i64 n, v, .int .i64 at_] := by
  have h : c.toList = [.int .i64 k, strV tx, .int .i64 n, v, .int .i64 at_] := by simpa [Value.cells] using hcs
  rw [← Array.toArray_toList (xs := c), h]
 rw [e]
 exact h1
end Go.Proofs.YtgpkcjpanpbhdaaGreatDoor
