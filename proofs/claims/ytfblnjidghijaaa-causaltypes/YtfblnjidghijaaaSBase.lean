/- Laws for walks, of layers 4 and 6's texts, without what speaks of a disk. -/
import Derived.Test.YtfblnjidghijaaaChecked
import Derived.WalkKit
import Derived.WalkSpells
import Derived.WalkLawsBesides
import Derived.Deep.WholeRow
import Derived.Laws.CopyRow
import Derived.Laws.IdiomCopy
import Derived.Deep.QuietTactic
import Derived.BigQuiet
import Derived.OwnWalk
import Derived.Test.YtfblnjidghijaaaWRow
import Derived.MapKept
import Derived.ChangeMaps5
import Derived.OrdersHeld
import Derived.BigRegion
namespace Go.Proofs.Ytfblnjidghijaaa
open Go Go.RowKit

section
variable {P : Program} {w w' : World} {ops : Array Oper} {rest : List Oper} {a : Act} {Q : Exit → Act → World → Prop} {dst : Option Nat} {ty : TypeId} {pos : String} {after : Array Edge}

theorem wp_end (h : Q .normal a w) : wpList P ops Q [] a w := h
theorem wp_move {x : Operand} {v : Value} (hx : a.eval x = v) (hK : wpList P ops Q rest (a.put dst v) w) : wpList P ops Q (⟨dst, .move x, ty, pos, after, none⟩ :: rest) a w := by
  refine wpList_plain rfl fun K hK' => ?_
  unfold Oper.wp
  subst hx
  simp only [execOp, Sem.run_pure]
  exact hK' _ _ hK
theorem wp_assign {x : Operand} {v : Value} (hx : a.eval x = v) (hK : wpList P ops Q rest (a.put dst v) w) : wpList P ops Q (⟨dst, .assign x, ty, pos, after, none⟩ :: rest) a w := by
  refine wpList_plain rfl fun K hK' => ?_
  unfold Oper.wp
  subst hx
  simp only [execOp, Sem.run_pure]
  exact hK' _ _ hK
theorem wp_nil {x : Operand} {v : Addr} (hx : a.eval x = .pointer (some v)) (hK : wpList P ops Q rest (a.put dst (.pointer (some v))) w) : wpList P ops Q (⟨dst, .nilCheck x, ty, pos, after, none⟩ :: rest) a w := by
  refine wpList_plain rfl fun K hK' => ?_
  unfold Oper.wp
  simp only [execOp, hx, Sem.run_pure]
  exact hK' _ _ hK
theorem wp_faddr {t f : Nat} {x : Operand} {p v : Value} (hx : a.eval x = p) (hr : (Instr.fieldAt t p f).run P w = .ok v w) (hK : wpList P ops Q rest (a.put dst v) w) : wpList P ops Q (⟨dst, .fieldAddr t x f, ty, pos, after, none⟩ :: rest) a w := by
  refine wpList_plain rfl fun K hK' => ?_
  unfold Oper.wp
  simp only [execOp, hx, Sem.run_bind, hr, Result.andThen_ok]
  exact hK' _ _ hK
theorem wp_addi {p q : Operand} {x y z : Int} (hp : a.eval p = .int .i64 x) (hq : a.eval q = .int .i64 y) (hz : IntKind.i64.wrap (x + y) = z) (hK : wpList Try.prog ops Q rest (a.put dst (.int .i64 z)) w) : wpList Try.prog ops Q (⟨dst, .binOp .add 3 p q 3, ty, pos, after, none⟩ :: rest) a w := by
  refine wpList_plain rfl fun K hK' => ?_
  have e : (execOp a.eval (⟨dst, .binOp .add 3 p q 3, ty, pos, after, none⟩ : Oper)).run Try.prog w = .ok (.value (.int .i64 z)) w := by
    subst hz
    unfold execOp; simp only [hp, hq]; go_simp
  unfold Oper.wp
  rw [e]
  exact hK' _ _ hK
theorem wp_load {t : TypeId} {p : Operand} {x v : Value} (hp : a.eval p = x) (hr : (Instr.loadAt t x).run P w = .ok v w')
    (hK : wpList P ops Q rest (a.put dst v) w') : wpList P ops Q (⟨dst, .load t p, ty, pos, after, none⟩ :: rest) a w := by
  refine wpList_plain rfl fun K hK' => ?_
  unfold Oper.wp
  simp [execOp, hp, hr, Result.andThen]
  exact hK' _ _ hK

theorem wp_store {t : TypeId} {p q : Operand} {x y : Value} (hp : a.eval p = x) (hq : a.eval q = y) (hr : (Instr.storeAt t x y).run P w = .ok () w')
    (hK : wpList P ops Q rest (a.put dst undef) w') : wpList P ops Q (⟨dst, .store t p q, ty, pos, after, none⟩ :: rest) a w := by
  refine wpList_plain rfl fun K hK' => ?_
  unfold Oper.wp
  simp [execOp, hp, hq, hr, Result.andThen]
  exact hK' _ _ hK

theorem wp_alloc {t : TypeId} {v : Value} (hr : (Instr.alloc t true (.tuple #[])).run P w = .ok v w')
    (hK : wpList P ops Q rest (a.put dst v) w') : wpList P ops Q (⟨dst, .alloc t, ty, pos, after, none⟩ :: rest) a w := by
  refine wpList_plain rfl fun K hK' => ?_
  unfold Oper.wp
  simp [execOp, hr, Result.andThen]
  exact hK' _ _ hK

theorem wp_build {t : TypeId} {p q : Operand} {i j : Nat} {x y v : Value} (hp : a.eval p = x) (hq : a.eval q = y) (hr : (Instr.build t #[(i, x), (j, y)]).run P w = .ok v w')
    (hK : wpList P ops Q rest (a.put dst v) w') : wpList P ops Q (⟨dst, .build t #[(i, p), (j, q)], ty, pos, after, none⟩ :: rest) a w := by
  refine wpList_plain rfl fun K hK' => ?_
  have e : (#[(i, p), (j, q)] : Array (Nat × Operand)).map (fun (i, x) => (i, a.eval x)) = #[(i, x), (j, y)] := by simp [hp, hq]
  unfold Oper.wp
  simp only [execOp, e, Sem.run_bind, hr, Result.andThen_ok]
  exact hK' _ _ hK

theorem wp_lookup {t : TypeId} {p q : Operand} {ok : Bool} {x y v : Value} (hp : a.eval p = x) (hq : a.eval q = y) (hr : (Instr.lookup t x y ok).run P w = .ok v w')
    (hK : wpList P ops Q rest (a.put dst v) w') : wpList P ops Q (⟨dst, .lookup t p q ok, ty, pos, after, none⟩ :: rest) a w := by
  refine wpList_plain rfl fun K hK' => ?_
  unfold Oper.wp
  simp [execOp, hp, hq, hr, Result.andThen]
  exact hK' _ _ hK

theorem wp_mapUpdate {t : TypeId} {p q r : Operand} {x y z : Value} (hp : a.eval p = x) (hq : a.eval q = y) (hz : a.eval r = z) (hr : (Instr.mapUpdate t x y z).run P w = .ok () w')
    (hK : wpList P ops Q rest (a.put dst undef) w') : wpList P ops Q (⟨dst, .mapUpdate t p q r, ty, pos, after, none⟩ :: rest) a w := by
  refine wpList_plain rfl fun K hK' => ?_
  unfold Oper.wp
  simp [execOp, hp, hq, hz, hr, Result.andThen]
  exact hK' _ _ hK

theorem wp_makeMap {t : TypeId} {v : Value} (hr : (Instr.makeMap t none).run P w = .ok v w')
    (hK : wpList P ops Q rest (a.put dst v) w') : wpList P ops Q (⟨dst, .makeMap t none, ty, pos, after, none⟩ :: rest) a w := by
  refine wpList_plain rfl fun K hK' => ?_
  unfold Oper.wp
  simp [execOp, hr, Result.andThen]
  exact hK' _ _ hK

theorem wp_extract {p : Operand} {i : Nat} {x v : Value} (hp : a.eval p = x) (hr : (Instr.extract x i).run P w = .ok v w)
    (hK : wpList P ops Q rest (a.put dst v) w) : wpList P ops Q (⟨dst, .extract p i, ty, pos, after, none⟩ :: rest) a w := by
  refine wpList_plain rfl fun K hK' => ?_
  unfold Oper.wp
  simp [execOp, hp, hr, Result.andThen]
  exact hK' _ _ hK

theorem wp_call {f : FuncId} {xs : Array Operand} {ats : Array TypeId} {args : Array Value} (hxs : #[] ++ xs.map a.eval ++ #[] = args) (hf : ∀ w, (callFunc f args).run P w = .ok (.enter f args) w)
    (h : Calls P f args w fun e w' => ∃ v, e = .returned v ∧ wpList P ops Q rest (a.put dst v) w') : wpList P ops Q (⟨dst, .call { callee := .value (.func f), args := xs, argTypes := ats }, ty, pos, after, none⟩ :: rest) a w := by
  refine wpList_plain rfl fun K hK' => ?_
  have e : (execOp a.eval (⟨dst, .call { callee := .value (.func f), args := xs, argTypes := ats }, ty, pos, after, none⟩ : Oper)).run P w = .ok (.enter f args) w := by
    have e1 : execOp a.eval (⟨dst, .call { callee := .value (.func f), args := xs, argTypes := ats }, ty, pos, after, none⟩ : Oper) = callFunc f (#[] ++ xs.map a.eval ++ #[]) := by unfold execOp; rfl
    rw [e1, hxs, hf w]
  unfold Oper.wp
  rw [e, Oper.upon_enter]
  refine h.mono fun e w' ⟨v, he, h2⟩ => ?_
  subst he
  exact hK' _ _ h2

theorem wp_arrayAt {t : TypeId} {p : Operand} {x v : Value} (hp : a.eval p = x) (hr : (Instr.arrayAt t x).run P w = .ok v w')
    (hK : wpList P ops Q rest (a.put dst v) w') : wpList P ops Q (⟨dst, .sliceToArrayPointer t p, ty, pos, after, none⟩ :: rest) a w := by
  refine wpList_plain rfl fun K hK' => ?_
  unfold Oper.wp
  simp [execOp, hp, hr, Result.andThen]
  exact hK' _ _ hK
end

theorem add_lit (b o j : Nat) : (⟨b, o, none⟩ : Addr).add j = ⟨b, o + j, none⟩ := by unfold Addr.add; split <;> simp_all

/-- k cells out of a row of cells. -/
theorem loads (P : Program) (w : World) (b o k : Nat) (cur : Array Value) (t : TypeId) (z : Nat × Nat) (cs : List Value) (hk : cs.length = k) (hg : w.heap[b]? = some (.cells cur t z)) (hc : ∀ j v, cs[j]? = some v → cur[o + j]? = some v) :
    (loadCellsFrom ⟨b, o, none⟩ 0 k #[]).run P w = .ok cs.toArray w := by
  subst hk
  have := run_loadCells_list (P := P) w ⟨b, o, none⟩ cs (fun j v hv => by
    rw [add_lit, World.cell?, hg]; simpa using hc j v hv)
  simpa [loadCells] using this

/-- A row of cells with some of them laid anew. -/
def relaid (cur : Array Value) (o : Nat) (cs : List Value) : Array Value := (cur.toList.take o ++ cs ++ cur.toList.drop (o + cs.length)).toArray

theorem stores (P : Program) (w : World) (b o : Nat) (cur : Array Value) (t : TypeId) (cs : List Value) (hg : w.heap[b]? = some (.cells cur t (0, 0))) (hl : o + cs.length ≤ cur.size) (h1 : ∀ v ∈ cs, v.oneCell' = true) :
    (storeCells ⟨b, o, none⟩ cs 0).run P w = .ok () (w.setRow b (relaid cur o cs)) := by
  have := run_storeCells_at (P := P) b o t cs 0 cur w hg (by simpa using hl) h1
  simpa [relaid] using this

theorem run_size {P : Program} {t : TypeId} {n : Nat} (h : (P.info? t).map (·.size) = some n) (w : World) : (Go.sizeOf t).run P w = .ok n w := by
  cases hq : P.info? t with
  | none => simp [hq] at h
  | some i => simp [hq] at h; simp [Go.sizeOf, typeInfo, hq, h]

/-- A value of k cells is loaded. -/
theorem loadAt_k {P : Program} {t : TypeId} {k : Nat} (ha : ∀ w, (isAgg t).run P w = .ok true w) (hz : (P.info? t).map (·.size) = some k) (w : World) (b o : Nat) (cur : Array Value) (e : TypeId) (z : Nat × Nat) (cs : List Value) (hk : cs.length = k) (hg : w.heap[b]? = some (.cells cur e z)) (hc : ∀ j v, cs[j]? = some v → cur[o + j]? = some v) :
    (Instr.loadAt t (.pointer (some ⟨b, o, none⟩))).run P w = .ok (.agg cs.toArray) w := by
  simp only [Instr.loadAt, Instr.sureAddr, Sem.run_bind, Sem.run_pure, Result.andThen, loadVar, ha, run_size hz, loadCells, loads P w b o k cur e z cs hk hg hc, if_true]

theorem storeAt_k {P : Program} {t : TypeId} {k : Nat} (hz : (P.info? t).map (·.size) = some k) (w : World) (b o : Nat) (cur : Array Value) (e : TypeId) (cs : List Value) (hk : cs.length = k) (hg : w.heap[b]? = some (.cells cur e (0, 0))) (hl : o + cs.length ≤ cur.size) (h1 : ∀ v ∈ cs, v.oneCell' = true) :
    (Instr.storeAt t (.pointer (some ⟨b, o, none⟩)) (.agg cs.toArray)).run P w = .ok () (w.setRow b (relaid cur o cs)) := by
  simp only [Instr.storeAt, Instr.sureAddr, Sem.run_bind, Sem.run_pure, Result.andThen, storeVar, run_size hz, Value.cells, List.size_toArray, hk, ne_eq, not_true_eq_false, if_false, List.toList_toArray, stores P w b o cur e cs hg hl h1]
end Go.Proofs.Ytfblnjidghijaaa
namespace Go.Proofs.Ytfblnjidghijaaa
open Go Go.RowKit

/-- What lay there is as it was, but for the blocks X. -/
structure Fr (X : List Nat) (w w' : World) : Prop where
  os : w'.os = w.os
  tape : w'.tape = w.tape
  output : w'.output = w.output
  size : w.heap.size ≤ w'.heap.size
  block : ∀ k, k < w.heap.size → k ∉ X → w'.heap[k]? = w.heap[k]?
theorem Fr.refl (X : List Nat) (w : World) : Fr X w w := ⟨rfl, rfl, rfl, Nat.le_refl _, fun _ _ _ => rfl⟩
theorem Fr.trans {X Y : List Nat} {w a b : World} (h : Fr X w a) (k : Fr Y a b) (hY : ∀ x ∈ Y, x ∈ X ∨ w.heap.size ≤ x) : Fr X w b :=
  ⟨k.os.trans h.os, k.tape.trans h.tape, k.output.trans h.output, Nat.le_trans h.size k.size, fun i hi hX => (k.block i (Nat.lt_of_lt_of_le hi h.size) (fun hm => by rcases hY i hm with h | h; exact hX h; omega)).trans (h.block i hi hX)⟩
theorem Fr.mono {X Y : List Nat} {w a : World} (h : Fr X w a) (hY : ∀ x ∈ X, x ∈ Y ∨ w.heap.size ≤ x) : Fr Y w a :=
  ⟨h.os, h.tape, h.output, h.size, fun i hi hX => h.block i hi (fun hm => by rcases hY i hm with h | h; exact hX h; omega)⟩
theorem Fr.below {X : List Nat} {w a : World} (h : Fr X w a) {B : Nat} (hB : B ≤ w.heap.size) (hX : ∀ x ∈ X, B ≤ x) : Below B w a :=
  ⟨h.os, h.tape, h.output, h.size, fun i hi => h.block i (by omega) (fun hm => by have := hX i hm; omega)⟩
theorem Fr.of_below {X : List Nat} {w a : World} (h : Below w.heap.size w a) : Fr X w a := ⟨h.os, h.tape, h.output, h.size, fun i hi _ => h.block i hi⟩
theorem Fr.setCell (w : World) (p i : Nat) (v : Value) : Fr [p] w (w.setCell ⟨p, i, none⟩ v) :=
  ⟨rfl, rfl, rfl, by simp, fun k _ hk => Below.heap_setCell w _ v k (by simpa using hk)⟩
theorem Fr.setRow (w : World) (p : Nat) (c : Array Value) : Fr [p] w (w.setRow p c) :=
  ⟨rfl, rfl, rfl, by simp, fun k _ hk => setRow_other w p k c (by simpa using hk)⟩
theorem Fr.alloc (w : World) (o : Obj) : Fr [] w (w.alloc o) := Fr.of_below ((Below.refl _ w).alloc (Nat.le_refl _) o)
theorem Fr.drew (w : World) : Fr [] w w.drew := ⟨rfl, rfl, rfl, Nat.le_refl _, fun _ _ _ => rfl⟩

theorem Fr.undrew {X : List Nat} {w a : World} (h : Fr X w.drew a) : Fr X w a := ⟨h.os, h.tape, h.output, h.size, h.block⟩

theorem heap_lt {w : World} {k : Nat} {o : Obj} (h : w.heap[k]? = some o) : k < w.heap.size := (Array.getElem?_eq_some_iff.1 h).1
theorem Fr.at {X : List Nat} {w a : World} (h : Fr X w a) {k : Nat} {o : Obj} (hk : w.heap[k]? = some o) (hX : k ∉ X) : a.heap[k]? = some o := (h.block k (heap_lt hk) hX).trans hk
theorem below_at {B : Nat} {w a : World} (h : Below B w a) {k : Nat} {o : Obj} (hk : w.heap[k]? = some o) (hB : k < B) : a.heap[k]? = some o := (h.block k hB).trans hk

/-- A cell of a block. -/
theorem cell_at {w : World} {p : Nat} {c : Array Value} {t : TypeId} {z : Nat × Nat} (h : w.heap[p]? = some (.cells c t z)) (i : Nat) {v : Value} (hi : c[i]? = some v) : w.cell? ⟨p, i, none⟩ = some v := by simp [World.cell?, h, hi]
theorem open_at {w : World} {p : Nat} {c : Array Value} {t : TypeId} (h : w.heap[p]? = some (.cells c t (0, 0))) (i : Nat) : w.frozen? ⟨p, i, none⟩ = false := by simp [World.frozen?, h]
theorem heap_setCell {w : World} {p : Nat} {c : Array Value} {t : TypeId} {z : Nat × Nat} (h : w.heap[p]? = some (.cells c t z)) (i : Nat) (v : Value) : (w.setCell ⟨p, i, none⟩ v).heap[p]? = some (.cells (c.setIfInBounds i v) t z) := by
  have hl := heap_lt h
  unfold World.setCell
  simp only [Array.getElem?_modify, if_true, h, Option.map_some]
  simp

theorem relaid_size (cur : Array Value) (o : Nat) (cs : List Value) (h : o + cs.length ≤ cur.size) : (relaid cur o cs).size = cur.size := by
  simp only [relaid, List.size_toArray, List.length_append, List.length_take, List.length_drop, Array.length_toList]
  omega
theorem relaid_in (cur : Array Value) (o : Nat) (cs : List Value) (h : o + cs.length ≤ cur.size) (j : Nat) (hj : j < cs.length) : (relaid cur o cs)[o + j]? = cs[j]? := by
  simp only [relaid, List.getElem?_toArray, List.append_assoc]
  rw [List.getElem?_append_right (by simp; omega), List.getElem?_append_left (by simp; omega)]
  congr 1
  simp; omega
theorem relaid_out (cur : Array Value) (o : Nat) (cs : List Value) (h : o + cs.length ≤ cur.size) (k : Nat) (hk : k < o ∨ o + cs.length ≤ k) : (relaid cur o cs)[k]? = cur[k]? := by
  simp only [relaid, List.getElem?_toArray, List.append_assoc]
  rcases hk with hk | hk
  · rw [List.getElem?_append_left (by simp; omega), List.getElem?_take_of_lt hk, Array.getElem?_toList]
  · rw [List.getElem?_append_right (by simp; omega), List.getElem?_append_right (by simp; omega), List.getElem?_drop, Array.getElem?_toList]
    congr 1
    simp; omega

/-- A loose write: where, and what. -/
def wv (x : Nat × List UInt8) : Value := .agg (.int .i64 x.1 :: cells8 x.2).toArray
def entL : Nat → List (Nat × List UInt8) → List MapEntry
  | _, [] => []
  | i, x :: r => ⟨.int .i64 i, wv x, i⟩ :: entL (i + 1) r
theorem entL_len : ∀ (i : Nat) (L : List (Nat × List UInt8)), (entL i L).length = L.length
  | _, [] => rfl
  | i, x :: r => by simp [entL, entL_len (i + 1) r]
theorem entL_append : ∀ (i : Nat) (L : List (Nat × List UInt8)) (x : Nat × List UInt8), entL i (L ++ [x]) = entL i L ++ [⟨.int .i64 ((i + L.length : Nat) : Int), wv x, i + L.length⟩]
  | i, [], x => by simp [entL]
  | i, y :: r, x => by simp [entL, entL_append (i + 1) r x]; omega
theorem entL_get : ∀ (i : Nat) (L : List (Nat × List UInt8)) (n : Nat), (entL i L)[n]? = L[n]?.map fun x => ⟨.int .i64 ((i + n : Nat) : Int), wv x, i + n⟩
  | _, [], _ => by simp [entL]
  | i, x :: r, 0 => by simp [entL]
  | i, x :: r, n + 1 => by simp only [entL, List.getElem?_cons_succ, entL_get (i + 1) r n]; congr 2; funext y; simp; omega
theorem entL_set : ∀ (i : Nat) (L : List (Nat × List UInt8)) (n : Nat) (x : Nat × List UInt8), entL i (L.set n x) = (entL i L).modify n fun e => { e with key := .int .i64 ((i + n : Nat) : Int), val := wv x }
  | _, [], _, _ => by simp [entL]
  | i, y :: r, 0, x => by simp [entL]
  | i, y :: r, n + 1, x => by
    simp only [List.set_cons_succ, entL, List.modify_succ_cons, entL_set (i + 1) r n x]
    congr 3; funext e; simp; omega
theorem find_in : ∀ (L : List (Nat × List UInt8)) (i j n : Nat) (x : Nat × List UInt8), L[n]? = some x → Instr.findNow (.int .i64) (.int .i64 ((i + n : Nat) : Int)) (entL i L) j = some (some (j + n, wv x))
  | [], _, _, _, _, h => by simp at h
  | y :: r, i, j, 0, x, h => by
    simp at h; subst h
    simp [entL, Instr.findNow, Instr.sameNow]
  | y :: r, i, j, n + 1, x, h => by
    simp only [List.getElem?_cons_succ] at h
    have ih := find_in r (i + 1) (j + 1) n x h
    have e : ((i + (n + 1) : Nat) : Int) = ((i + 1 + n : Nat) : Int) := by omega
    have hb : (((i + 1 + n : Nat) : Int) == (i : Int)) = false := by rw [beq_eq_false_iff_ne]; omega
    simp only [entL, Instr.findNow, Instr.sameNow, if_true, e, hb, ih]
    congr 3; omega
theorem find_out : ∀ (L : List (Nat × List UInt8)) (i j : Nat) (k : Int), (k < i ∨ ((i + L.length : Nat) : Int) ≤ k) → Instr.findNow (.int .i64) (.int .i64 k) (entL i L) j = some none
  | [], _, _, _, _ => rfl
  | y :: r, i, j, k, h => by
    have ih := find_out r (i + 1) (j + 1) k (by simp at h; omega)
    have hb : (k == (i : Int)) = false := by rw [beq_eq_false_iff_ne]; simp at h; omega
    simp only [entL, Instr.findNow, Instr.sameNow, if_true, hb, ih]

theorem check_int (w : World) (em : Bool) (k : Int) : (Instr.checkKey em 10000 3 (.int .i64 k)).run Try.prog w = .ok () w := by
  have h : ∀ n, (Instr.checkKey em (n + 1) 3 (.int .i64 k)).run Try.prog w = .ok () w := fun n => by
    simp only [Instr.checkKey, Sem.run_bind, run_underlying Try.underlying3, Result.andThen_ok]
    rfl
  exact h 9999

def zw : Value := .agg (.int .i64 0 :: List.replicate 128 (.int .u8 0)).toArray
/-- The loose writes, in block m. -/
def Mp (w : World) (m : Nat) (L : List (Nat × List UInt8)) : Prop := w.heap[m]? = some (.map (entL 0 L).toArray L.length)

def reMap (w : World) (m : Nat) (L : List (Nat × List UInt8)) : World := { w with heap := w.heap.setIfInBounds m (.map (entL 0 L).toArray L.length) }
theorem reMap_at {w : World} {m : Nat} {o : Obj} (h : w.heap[m]? = some o) (L : List (Nat × List UInt8)) : Mp (reMap w m L) m L := by
  have := heap_lt h
  simp [Mp, reMap, this]
theorem Fr.reMap (w : World) (m : Nat) (L : List (Nat × List UInt8)) : Fr [m] w (reMap w m L) :=
  ⟨rfl, rfl, rfl, by simp [Go.Proofs.Ytfblnjidghijaaa.reMap], fun k _ hk => by
    have : m ≠ k := fun e => hk (by simp [e])
    simp [Go.Proofs.Ytfblnjidghijaaa.reMap, this]⟩

theorem stays_int (w : World) (k : Int) : (Instr.keyThatStays (.int .i64 k) (.int .i64 k)).run Try.prog w = .ok (.int .i64 k) w := by
  have h : ∀ n, Instr.sameBits n (.int .i64 k) (.int .i64 k) = true := fun n => by cases n <;> simp [Instr.sameBits]
  simp only [Instr.keyThatStays, h, if_true, Sem.run_pure]

/-- A sector's or a write's cells are stored over a new block. -/
theorem store_new (P : Program) (w : World) (t : TypeId) (k : Nat) (hz : (P.info? t).map (·.size) = some k) (c : Array Value) (cs : List Value) (hc : c.size = k) (hk : cs.length = k) (h1 : ∀ v ∈ cs, v.oneCell' = true) :
    (Instr.storeAt t (.pointer (some ⟨w.heap.size, 0, none⟩)) (.agg cs.toArray)).run P (w.alloc (.cells c t)) = .ok () (w.alloc (.cells cs.toArray t)) :=
  run_storeAt_new w t c cs.toArray (by rw [hz]; simp [hk]) (by simp [hc, hk]) (by simpa using h1)
end Go.Proofs.Ytfblnjidghijaaa
namespace Go.Proofs.Ytfblnjidghijaaa
open Go Go.RowKit

variable {ops : Array Oper} {S : World → Prop} {o : Oper} {a : Act}

theorem y_move {x : Operand} {v : Value} (hop : o.op = .move x) (hw : Region.wanted o (yielded ops a.tmps) = true) (hv : a.eval x = v) : YieldsIf Try.prog ops S o v a :=
  .inl ⟨hw, fun w _ => hv ▸ BigFrame.run_move x hop w⟩
theorem y_assign {x : Operand} {v : Value} (hop : o.op = .assign x) (hw : Region.wanted o (yielded ops a.tmps) = true) (hv : a.eval x = v) : YieldsIf Try.prog ops S o v a :=
  .inl ⟨hw, fun w _ => hv ▸ BigFrame.run_assign x hop w⟩
theorem y_pick {c x y : Operand} {b : Bool} {v : Value} (hop : o.op = .pick c x y) (hw : Region.wanted o (yielded ops a.tmps) = true) (hc : a.eval c = .bool b) (hv : (if b then a.eval x else a.eval y) = v) :
    YieldsIf Try.prog ops S o v a :=
  .inl ⟨hw, fun w _ => by unfold execOp; rw [hop]; simp only [hc]; cases b <;> (simp at hv; simp [asBool, hv])⟩
theorem y_skip {v : Value} (hw : Region.wanted o (yielded ops a.tmps) = false) (hv : v = undef) : YieldsIf Try.prog ops S o v a := .inr ⟨hw, hv⟩

theorem y_nil {x : Operand} {p : Addr} (hop : o.op = .nilCheck x) (hw : Region.wanted o (yielded ops a.tmps) = true) (hx : a.eval x = .pointer (some p)) : YieldsIf Try.prog ops S o (.pointer (some p)) a :=
  .inl ⟨hw, fun w _ => by unfold execOp; rw [hop]; simp only [hx]; rfl⟩
theorem y_val {v : Value} (hw : Region.wanted o (yielded ops a.tmps) = true) (h : ∀ w, S w → (execOp a.eval o).run Try.prog w = .ok (.value v) w) : YieldsIf Try.prog ops S o v a := .inl ⟨hw, h⟩
theorem y_faddr {x : Operand} {t f : Nat} {b i j : Nat} (hop : o.op = .fieldAddr t x f) (hw : Region.wanted o (yielded ops a.tmps) = true) (hx : a.eval x = .pointer (some ⟨b, i, none⟩))
    (hf : ∀ w, (Instr.fieldAt t (.pointer (some ⟨b, i, none⟩)) f).run Try.prog w = .ok (.pointer (some ⟨b, j, none⟩)) w) : YieldsIf Try.prog ops S o (.pointer (some ⟨b, j, none⟩)) a :=
  .inl ⟨hw, fun w _ => by unfold execOp; rw [hop]; simp only [hx, Sem.run_bind, hf w, Result.andThen_ok]; rfl⟩
theorem y_load {x : Operand} {t : TypeId} {p v : Value} (hop : o.op = .load t x) (hw : Region.wanted o (yielded ops a.tmps) = true) (hx : a.eval x = p)
    (hl : ∀ w, S w → (Instr.loadAt t p).run Try.prog w = .ok v w) : YieldsIf Try.prog ops S o v a :=
  .inl ⟨hw, fun w h => by unfold execOp; rw [hop]; simp only [hx, Sem.run_bind, hl w h, Result.andThen_ok]; rfl⟩
theorem y_look {x y : Operand} {t : TypeId} {ok : Bool} {p k v : Value} (hop : o.op = .lookup t x y ok) (hw : Region.wanted o (yielded ops a.tmps) = true) (hx : a.eval x = p) (hy : a.eval y = k)
    (hl : ∀ w, S w → (Instr.lookup t p k ok).run Try.prog w = .ok v w) : YieldsIf Try.prog ops S o v a :=
  .inl ⟨hw, fun w h => by unfold execOp; rw [hop]; simp only [hx, hy, Sem.run_bind, hl w h, Result.andThen_ok]; rfl⟩
theorem y_leq {x y : Operand} {m n : Int} {r : Bool} (hop : o.op = .binOp .leq 3 x y 3) (hw : Region.wanted o (yielded ops a.tmps) = true) (hx : a.eval x = .int .i64 m) (hy : a.eval y = .int .i64 n) (hr : decide (m ≤ n) = r) :
    YieldsIf Try.prog ops S o (.bool r) a :=
  .inl ⟨hw, fun w _ => by subst hr; unfold execOp; rw [hop]; simp only [hx, hy]; go_simp⟩

variable {Q : Exit → Act → World → Prop} {md : Region.Mode} {fuel : Nat} {listed : Array Bool} {w w1 : World} {i : Nat} {L L' : Array Bool}

/-- The one operation that may come up. -/
theorem h_one (hr : Region.ready md ops listed = [i]) (hi : ops[i]? = some o) (hw : Region.wanted o (yielded ops a.tmps) = true)
    (h : o.wp Try.prog a w (fun a' w' => S w' ∧ wpAnyH Try.prog md ops Q S fuel (listed.setIfInBounds i true) a' w') Q) : wpAnyH Try.prog md ops Q S (fuel + 1) listed a w := by
  refine wpAnyH_all hr (by simp) (fun j hj => ?_)
  obtain rfl : j = i := by simpa using hj
  unfold wpOp
  rw [hi]
  simp only [hw, if_true]
  exact .inl h
/-- .. a call of a Go function. -/
theorem h_call {f : FuncId} {args : Array Value} (hr : Region.ready md ops listed = [i]) (hi : ops[i]? = some o) (hw : Region.wanted o (yielded ops a.tmps) = true)
    (he : ∀ w, (execOp a.eval o).run Try.prog w = .ok (.enter f args) w)
    (h : Calls Try.prog f args w fun e w' => ∃ v, e = .returned v ∧ S w' ∧ wpAnyH Try.prog md ops Q S fuel (listed.setIfInBounds i true) (a.put o.dst v) w') : wpAnyH Try.prog md ops Q S (fuel + 1) listed a w := by
  refine h_one hr hi hw ?_
  unfold Oper.wp
  rw [he w, Oper.upon_enter]
  refine h.mono fun e w' ⟨v, he, h1, h2⟩ => ?_
  subst he
  exact ⟨h1, h2⟩
/-- .. one operation, its slot named, the frame behind it written out. -/
theorem h_take {d : Nat} {v : Value} {tmps T : Array Value} {ds : List Deferred} (hi : ops[i]? = some o) (hd : o.dst = some d)
    (hs : Region.noSelect ops = true) (hf : Region.free md ops listed i = true) (hr : (Region.ready md ops listed).contains i = true)
    (hP : ∀ c T T' ds w, Q (.panic c) ⟨T, ds⟩ w → Q (.panic c) ⟨T', ds⟩ w) (hy : YieldsIf Try.prog ops S o v ⟨tmps, ds⟩) (hS : S w) (hT : tmps.setIfInBounds d v = T)
    (h : wpAnyH Try.prog md ops Q S fuel (listed.setIfInBounds i true) ⟨T, ds⟩ w) : wpAnyH Try.prog md ops Q S (fuel + 1) listed ⟨tmps, ds⟩ w := by
  refine wpAnyH_take hi hs hf hr (fun c a w h => by rw [hd] at h; exact hP c (a.tmps.setIfInBounds d v) a.tmps a.defers w h) hy hS ?_
  rw [hd]
  subst hT
  exact h
theorem h_call2 {d : Nat} {f : FuncId} {args : Array Value} {tmps : Array Value} {ds : List Deferred} (hr : Region.ready md ops listed = [i]) (hi : ops[i]? = some o) (hd : o.dst = some d) (hw : Region.wanted o (yielded ops tmps) = true)
    (he : ∀ w, (execOp (Act.mk tmps ds).eval o).run Try.prog w = .ok (.enter f args) w)
    (h : Calls Try.prog f args w fun e w' => ∃ v, e = .returned v ∧ S w' ∧ wpAnyH Try.prog md ops Q S fuel (listed.setIfInBounds i true) ⟨tmps.setIfInBounds d v, ds⟩ w') : wpAnyH Try.prog md ops Q S (fuel + 1) listed ⟨tmps, ds⟩ w := by
  refine h_call hr hi hw he (h.mono fun e w' ⟨v, he, h1, h2⟩ => ⟨v, he, h1, ?_⟩)
  rw [hd]
  exact h2
theorem h_norm {tmps T : Array Value} {ds : List Deferred} (hT : tmps = T) (h : wpAnyH Try.prog md ops Q S fuel listed ⟨T, ds⟩ w) : wpAnyH Try.prog md ops Q S fuel listed ⟨tmps, ds⟩ w := by
  subst hT; exact h
/-- The beginning, what stands behind it under a name. -/
theorem h_open {id : Nat} {a : Act} (hm : Try.prog.follows .mixedOrders = true) (hP : ∀ c T T' ds w, Q (.panic c) ⟨T, ds⟩ w → Q (.panic c) ⟨T', ds⟩ w)
    (h : ∀ Q' : Exit → Act → World → Prop, (∀ c T T' ds w, Q' (.panic c) ⟨T, ds⟩ w → Q' (.panic c) ⟨T', ds⟩ w) → (∀ a w, Q .normal a w → Q' .normal a w) →
      wpAnyH Try.prog .any ops Q' S ops.size (Array.replicate ops.size false) a w.drew) : (Code.region id ops true).wp Try.prog Q a w :=
  wp_region_held hm (h Q hP fun _ _ h => h)
theorem enter_go {f : FuncId} {xs : Array Operand} {ats : Array TypeId} {args : Array Value} (hop : o.op = .call { callee := .value (.func f), args := xs, argTypes := ats }) (hxs : #[] ++ xs.map a.eval ++ #[] = args)
    (hf : ∀ w, (callFunc f args).run Try.prog w = .ok (.enter f args) w) : ∀ w, (execOp a.eval o).run Try.prog w = .ok (.enter f args) w := by
  intro w
  have e : execOp a.eval o = callFunc f (#[] ++ xs.map a.eval ++ #[]) := by unfold execOp; rw [hop]; rfl
  rw [e, hxs, hf w]
theorem h_openL {id : Nat} (hm : Try.prog.follows .mixedOrders = true) (hns : Region.noSelect ops = true) (hP : ∀ c T T' ds w, Q (.panic c) ⟨T, ds⟩ w → Q (.panic c) ⟨T', ds⟩ w) (hL : Array.replicate ops.size false = L)
    (h : ∀ Q' : Exit → Act → World → Prop, Region.noSelect ops = true → (∀ c T T' ds w, Q' (.panic c) ⟨T, ds⟩ w → Q' (.panic c) ⟨T', ds⟩ w) → (∀ a w, Q .normal a w → Q' .normal a w) →
      wpAnyH Try.prog .any ops Q' S ops.size L a w.drew) : (Code.region id ops true).wp Try.prog Q a w := by
  refine h_open (S := S) hm hP fun Q' hP' hN => ?_
  rw [hL]
  exact h Q' hns hP' hN
theorem h_takeL {d : Nat} {v : Value} {tmps T : Array Value} {ds : List Deferred} (hns : Region.noSelect ops = true) (hi : ops[i]? = some o) (hd : o.dst = some d)
    (hf : Region.free md ops L i = true) (hr : (Region.ready md ops L).contains i = true)
    (hP : ∀ c T T' ds w, Q (.panic c) ⟨T, ds⟩ w → Q (.panic c) ⟨T', ds⟩ w) (hy : YieldsIf Try.prog ops S o v ⟨tmps, ds⟩) (hS : S w) (hT : tmps.setIfInBounds d v = T) (hL : L.setIfInBounds i true = L')
    (h : wpAnyH Try.prog md ops Q S fuel L' ⟨T, ds⟩ w) : wpAnyH Try.prog md ops Q S (fuel + 1) L ⟨tmps, ds⟩ w := by
  subst hL
  exact h_take hi hd hns hf hr hP hy hS hT h
theorem h_callL {d : Nat} {f : FuncId} {args : Array Value} {tmps : Array Value} {ds : List Deferred} (hr : Region.ready md ops L = [i]) (hi : ops[i]? = some o) (hd : o.dst = some d) (hw : Region.wanted o (yielded ops tmps) = true)
    (he : ∀ w, (execOp (Act.mk tmps ds).eval o).run Try.prog w = .ok (.enter f args) w) (hL : L.setIfInBounds i true = L')
    (h : Calls Try.prog f args w fun e w' => ∃ v, e = .returned v ∧ S w' ∧ wpAnyH Try.prog md ops Q S fuel L' ⟨tmps.setIfInBounds d v, ds⟩ w') : wpAnyH Try.prog md ops Q S (fuel + 1) L ⟨tmps, ds⟩ w := by
  subst hL
  exact h_call2 hr hi hd hw he h
/-- The one operation that may come up, by its run. -/
theorem h_valL {d : Nat} {v : Value} {tmps T : Array Value} {ds : List Deferred} (hr : Region.ready md ops L = [i]) (hi : ops[i]? = some o) (hd : o.dst = some d) (hw : Region.wanted o (yielded ops tmps) = true)
    (he : (execOp (Act.mk tmps ds).eval o).run Try.prog w = .ok (.value v) w1) (hS : S w1) (hT : tmps.setIfInBounds d v = T) (hL : L.setIfInBounds i true = L')
    (h : wpAnyH Try.prog md ops Q S fuel L' ⟨T, ds⟩ w1) : wpAnyH Try.prog md ops Q S (fuel + 1) L ⟨tmps, ds⟩ w := by
  subst hL
  subst hT
  refine h_one hr hi hw ?_
  unfold Oper.wp
  rw [he, Oper.upon_value, hd]
  exact ⟨hS, h⟩
theorem h_skipL {tmps : Array Value} {ds : List Deferred} (hr : Region.ready md ops L = [i]) (hi : ops[i]? = some o) (hd : o.dst = none) (hw : Region.wanted o (yielded ops tmps) = true)
    (he : (execOp (Act.mk tmps ds).eval o).run Try.prog w = .ok .skip w1) (hS : S w1) (hL : L.setIfInBounds i true = L')
    (h : wpAnyH Try.prog md ops Q S fuel L' ⟨tmps, ds⟩ w1) : wpAnyH Try.prog md ops Q S (fuel + 1) L ⟨tmps, ds⟩ w := by
  subst hL
  refine h_one hr hi hw ?_
  unfold Oper.wp
  rw [he]
  simp only [Oper.upon, hd]
  exact ⟨hS, h⟩
theorem run_mapUpdate {t : TypeId} {p q r : Operand} {x y z : Value} (hop : o.op = .mapUpdate t p q r) (hp : a.eval p = x) (hq : a.eval q = y) (hz : a.eval r = z) (hr : (Instr.mapUpdate t x y z).run Try.prog w = .ok () w1) :
    (execOp a.eval o).run Try.prog w = .ok .skip w1 := by
  unfold execOp; rw [hop]; simp only [hp, hq, hz, Sem.run_bind, hr, Result.andThen_ok]; rfl
theorem run_storeOp {t : TypeId} {p q : Operand} {x y : Value} (hop : o.op = .store t p q) (hp : a.eval p = x) (hq : a.eval q = y) (hr : (Instr.storeAt t x y).run Try.prog w = .ok () w1) :
    (execOp a.eval o).run Try.prog w = .ok .skip w1 := by
  unfold execOp; rw [hop]; simp only [hp, hq, Sem.run_bind, hr, Result.andThen_ok]; rfl
end Go.Proofs.Ytfblnjidghijaaa
namespace Go.Proofs.Ytfblnjidghijaaa
open Go Go.RowKit

section
variable {ops : Array Oper} {Q : Exit → Act → World → Prop} {md : Region.Mode} {S : World → Prop} {z : Nat}
/-- Whatever order is picked, and S holds until z has come up. -/
def Until (md : Region.Mode) (ops : Array Oper) (Q : Exit → Act → World → Prop) (S : World → Prop) (z : Nat) : Nat → Array Bool → Act → World → Prop
  | 0, listed, a, w => Region.ready md ops listed = [] ∧ Q .normal a w
  | fuel + 1, listed, a, w =>
    (Region.ready md ops listed = [] → Q .normal a w) ∧
    ∀ i ∈ Region.ready md ops listed, wpOp Try.prog ops Q i (fun a' w' => ((listed.setIfInBounds i true).getD z true = false → S w') ∧ Until md ops Q S z fuel (listed.setIfInBounds i true) a' w') a w
theorem Until.any : ∀ (fuel : Nat) (listed : Array Bool) (a : Act) (w : World), Until md ops Q S z fuel listed a w → wpAny Try.prog md ops Q fuel listed a w
  | 0, _, _, _, h => h
  | fuel + 1, _, _, _, h => ⟨h.1, fun i hi => wpOp_mono (fun a' w' h' => Until.any fuel _ a' w' h'.2) (h.2 i hi)⟩
theorem not_on {listed : Array Bool} {i j : Nat} {oj : Oper} (hr : i ∈ Region.ready md ops listed) (hj : j ∈ Region.ready md ops listed) (hoj : ops[j]? = some oj) : ∀ e ∈ oj.after, Region.binds md e = true → e.on ≠ i := fun e he hb heq => by
  obtain ⟨_, oj', hoj', hall⟩ := mem_ready.1 hj
  rw [hoj] at hoj'
  cases hoj'
  have h1 := hall e he hb
  have h0 := (mem_ready.1 hr).1
  rw [heq] at h1
  rcases Nat.lt_or_ge i listed.size with h' | h'
  · simp [h'] at h0 h1; rw [h0] at h1; cases h1
  · simp [Array.getElem?_eq_none h'] at h1
/-- An operation is taken first: S' is what it needs, which holds as long as it has not come up. -/
theorem Until.first {S' : World → Prop} {i : Nat} {oi : Oper} {v : Value} (hiz : i ≠ z) (hi : ops[i]? = some oi) (hsel : ∀ (j : Nat) (o : Oper) cs b, ops[j]? = some o → o.op ≠ .select cs b)
    (hQ : ∀ c a w, Q (.panic c) (a.put oi.dst v) w → Q (.panic c) a w)
    (hS' : ∀ (listed : Array Bool) (w : World), i ∈ Region.ready md ops listed → (listed.getD z true = false → S w) → S' w ∨ ¬ listed.getD z true = false)
    (hz : (∀ w, S' w) ∨ ∀ oz, ops[z]? = some oz → ∃ e ∈ oz.after, Region.binds md e = true ∧ e.on = i) :
    ∀ (fuel : Nat) (listed : Array Bool) (a : Act) (w : World),
      (∀ j oj, ops[j]? = some oj → j ≠ i → listed.getD j true = false → (∀ e ∈ oj.after, Region.binds md e = true → e.on ≠ i) → oi.apart ops oj = true) →
      i ∈ Region.ready md ops listed → YieldsIf Try.prog ops S' oi v a → (listed.getD z true = false → S w) → ((∀ w, S' w) ∨ listed.getD z true = false) →
      Until md ops Q S z fuel (listed.setIfInBounds i true) (a.put oi.dst v) w → Until md ops Q S z (fuel + 1) listed a w := by
  intro fuel
  induction fuel with
  | zero =>
    intro listed a w _ hr hy hS hl H
    have hSw : S' w := by rcases hl with hl | hl; exact hl w; rcases hS' listed w hr hS with h | h; exact h; exact absurd hl h
    refine ⟨fun h => (by rw [h] at hr; cases hr), fun j hj => ?_⟩
    by_cases hji : j = i
    · subst hji
      refine hy.wpOp hi hSw ⟨fun h => ?_, H⟩
      rw [getD_set_ne true hiz] at h; exact hS h
    · have := ready_mono hj hji
      rw [H.1] at this
      cases this
  | succ fuel ih =>
    intro listed a w hfree hr hy hS hl H
    have hSw : S' w := by rcases hl with hl | hl; exact hl w; rcases hS' listed w hr hS with h | h; exact h; exact absurd hl h
    refine ⟨fun h => (by rw [h] at hr; cases hr), fun j hj => ?_⟩
    by_cases hji : j = i
    · subst hji
      refine hy.wpOp hi hSw ⟨fun h => ?_, H⟩
      rw [getD_set_ne true hiz] at h; exact hS h
    · have h1 := H.2 j (ready_mono hj hji)
      obtain ⟨hjun, oj, hoj, hall⟩ := mem_ready.1 hj
      have hnot := not_on hr hj hoj
      have h2 := wpOp_putIf hoj (hfree j oj hoj hji hjun hnot) (fun cs b => hsel i oi cs b hi) (fun cs b => hsel j oj cs b hoj) hQ hy h1
      have hfree' : ∀ k ok, ops[k]? = some ok → k ≠ i → (listed.setIfInBounds j true).getD k true = false →
          (∀ e ∈ ok.after, Region.binds md e = true → e.on ≠ i) → oi.apart ops ok = true := fun k ok hk hki hun hno => by
        refine hfree k ok hk hki ?_ hno
        by_cases hjk : j = k
        · subst hjk; exact hjun
        · rw [getD_set_ne true hjk] at hun; exact hun
      have hl' : (∀ w, S' w) ∨ (listed.setIfInBounds j true).getD z true = false := by
        rcases hl with hl | hl
        · exact .inl hl
        · rcases hz with hz | hz
          · exact .inl hz
          · refine .inr ?_
            have hjz : j ≠ z := fun e => by
              subst e
              obtain ⟨e, he, hb, hon⟩ := hz oj hoj
              exact hnot e he hb hon
            rw [getD_set_ne true hjz]; exact hl
      refine wpOp_mono (fun a' w' h3 => ?_) h2
      have hS2 : (listed.setIfInBounds j true).getD z true = false → S w' := fun h => h3.2.1 (by
        rw [Array.setIfInBounds_comm _ _ (Ne.symm hji)]
        rw [getD_set_ne true hiz]; exact h)
      refine ⟨hS2, ih (listed.setIfInBounds j true) a' w' hfree' (ready_mono hr (Ne.symm hji)) h3.1 hS2 hl' ?_⟩
      rw [Array.setIfInBounds_comm _ _ hji]
      exact h3.2.2

def waitsFor (md : Region.Mode) (ops : Array Oper) (z i : Nat) : Bool := match ops[z]? with
  | some oz => oz.after.any fun e => Region.binds md e && e.on == i
  | none => false
variable {o : Oper} {a : Act} {fuel : Nat} {w w1 : World} {i : Nat} {L L' : Array Bool}
/-- An operation that needs nothing of the world. -/
theorem z_pure {d : Nat} {v : Value} {tmps T : Array Value} {ds : List Deferred} (hns : Region.noSelect ops = true) (hiz : (i == z) = false) (hi : ops[i]? = some o) (hd : o.dst = some d)
    (hf : Region.free md ops L i = true) (hr : (Region.ready md ops L).contains i = true)
    (hP : ∀ c T T' ds w, Q (.panic c) ⟨T, ds⟩ w → Q (.panic c) ⟨T', ds⟩ w) (hy : YieldsIf Try.prog ops (fun _ => True) o v ⟨tmps, ds⟩) (hS : L.getD z true = false → S w) (hT : tmps.setIfInBounds d v = T) (hL : L.setIfInBounds i true = L')
    (h : Until md ops Q S z fuel L' ⟨T, ds⟩ w) : Until md ops Q S z (fuel + 1) L ⟨tmps, ds⟩ w := by
  subst hL; subst hT
  refine Until.first (S' := fun _ => True) (by simpa using hiz) hi (Region.noSelect_spec hns) (fun c a w h => by rw [hd] at h; exact hP c (a.tmps.setIfInBounds d v) a.tmps a.defers w h) (fun _ _ _ _ => .inl trivial) (.inl fun _ => trivial) fuel L _ w (Region.free_spec hi hf) (by simpa using hr) hy hS (.inl fun _ => trivial) ?_
  rw [hd]; exact h
/-- An operation that reads: z waits for it. -/
theorem z_read {d : Nat} {v : Value} {tmps T : Array Value} {ds : List Deferred} (hns : Region.noSelect ops = true) (hiz : (i == z) = false) (hw : waitsFor md ops z i = true) (hi : ops[i]? = some o) (hd : o.dst = some d)
    (hf : Region.free md ops L i = true) (hr : (Region.ready md ops L).contains i = true)
    (hP : ∀ c T T' ds w, Q (.panic c) ⟨T, ds⟩ w → Q (.panic c) ⟨T', ds⟩ w) (hy : YieldsIf Try.prog ops S o v ⟨tmps, ds⟩) (hzl : L.getD z true = false) (hS : S w) (hT : tmps.setIfInBounds d v = T) (hL : L.setIfInBounds i true = L')
    (h : Until md ops Q S z fuel L' ⟨T, ds⟩ w) : Until md ops Q S z (fuel + 1) L ⟨tmps, ds⟩ w := by
  subst hL; subst hT
  refine Until.first (S' := S) (by simpa using hiz) hi (Region.noSelect_spec hns) (fun c a w h => by rw [hd] at h; exact hP c (a.tmps.setIfInBounds d v) a.tmps a.defers w h)
    (fun listed w _ h => if e : listed.getD z true = false then .inl (h e) else .inr e) (.inr fun oz hoz => ?_) fuel L _ w (Region.free_spec hi hf) (by simpa using hr) hy (fun _ => hS) (.inr hzl) ?_
  · unfold waitsFor at hw
    rw [hoz] at hw
    simp only [Array.any_eq_true'] at hw
    obtain ⟨e, he, hb⟩ := hw
    simp only [Bool.and_eq_true, beq_iff_eq] at hb
    exact ⟨e, he, hb⟩
  · rw [hd]; exact h
theorem z_all {rs : List Nat} (hr : Region.ready md ops L = rs) (hne : rs ≠ [])
    (h : ∀ i ∈ rs, wpOp Try.prog ops Q i (fun a' w' => ((L.setIfInBounds i true).getD z true = false → S w') ∧ Until md ops Q S z fuel (L.setIfInBounds i true) a' w') a w) : Until md ops Q S z (fuel + 1) L a w :=
  ⟨fun h0 => absurd (hr ▸ h0) hne, hr ▸ h⟩
theorem z_done (hr : Region.ready md ops L = []) (h : Q .normal a w) : ∀ fuel, Until md ops Q S z fuel L a w
  | 0 => ⟨hr, h⟩
  | _ + 1 => ⟨fun _ => h, by rw [hr]; simp⟩
theorem z_one (hr : Region.ready md ops L = [i]) (hi : ops[i]? = some o) (hw : Region.wanted o (yielded ops a.tmps) = true)
    (h : o.wp Try.prog a w (fun a' w' => ((L.setIfInBounds i true).getD z true = false → S w') ∧ Until md ops Q S z fuel (L.setIfInBounds i true) a' w') Q) : Until md ops Q S z (fuel + 1) L a w := by
  refine z_all hr (by simp) (fun j hj => ?_)
  obtain rfl : j = i := by simpa using hj
  unfold wpOp
  rw [hi]
  simp only [hw, if_true]
  exact .inl h
/-- The one operation that may come up, by its run. -/
theorem z_val {d : Nat} {v : Value} {tmps T : Array Value} {ds : List Deferred} (hr : Region.ready md ops L = [i]) (hi : ops[i]? = some o) (hd : o.dst = some d) (hw : Region.wanted o (yielded ops tmps) = true)
    (he : (execOp (Act.mk tmps ds).eval o).run Try.prog w = .ok (.value v) w1) (hS : S w1) (hT : tmps.setIfInBounds d v = T) (hL : L.setIfInBounds i true = L')
    (h : Until md ops Q S z fuel L' ⟨T, ds⟩ w1) : Until md ops Q S z (fuel + 1) L ⟨tmps, ds⟩ w := by
  subst hL; subst hT
  refine z_one hr hi hw ?_
  unfold Oper.wp
  rw [he, Oper.upon_value, hd]
  exact ⟨fun _ => hS, h⟩
/-- z itself. -/
theorem z_last {tmps : Array Value} {ds : List Deferred} (hr : Region.ready md ops L = [z]) (hi : ops[z]? = some o) (hd : o.dst = none) (hw : Region.wanted o (yielded ops tmps) = true)
    (he : (execOp (Act.mk tmps ds).eval o).run Try.prog w = .ok .skip w1) (hz : L'.getD z true = true) (hL : L.setIfInBounds z true = L')
    (h : Until md ops Q S z fuel L' ⟨tmps, ds⟩ w1) : Until md ops Q S z (fuel + 1) L ⟨tmps, ds⟩ w := by
  subst hL
  refine z_one hr hi hw ?_
  unfold Oper.wp
  rw [he]
  simp only [Oper.upon, hd]
  exact ⟨fun e => (by rw [hz] at e; cases e), h⟩
theorem z_open {id : Nat} (z : Nat) (hm : Try.prog.follows .mixedOrders = true) (hns : Region.noSelect ops = true) (hP : ∀ c T T' ds w, Q (.panic c) ⟨T, ds⟩ w → Q (.panic c) ⟨T', ds⟩ w) (hL : Array.replicate ops.size false = L)
    (h : ∀ Q' : Exit → Act → World → Prop, Region.noSelect ops = true → (∀ c T T' ds w, Q' (.panic c) ⟨T, ds⟩ w → Q' (.panic c) ⟨T', ds⟩ w) → (∀ a w, Q .normal a w → Q' .normal a w) →
      Until .any ops Q' S z ops.size L a w.drew) : (Code.region id ops true).wp Try.prog Q a w :=
  wp_region_any hm (Until.any _ _ _ _ (hL ▸ h Q hns hP fun _ _ h => h))
end
section
variable {ops : Array Oper} {S : World → Prop} {o : Oper} {a : Act}
theorem y_idx {x y : Operand} {t : TypeId} {p k v : Value} (hop : o.op = .index t x y) (hw : Region.wanted o (yielded ops a.tmps) = true) (hx : a.eval x = p) (hy : a.eval y = k)
    (hr : ∀ w, (Instr.index t p k).run Try.prog w = .ok v w) : YieldsIf Try.prog ops S o v a :=
  .inl ⟨hw, fun w _ => by unfold execOp; rw [hop]; simp only [hx, hy, Sem.run_bind, hr w, Result.andThen_ok]; rfl⟩
theorem y_cnv {x : Operand} {s t : TypeId} {p v : Value} (hop : o.op = .convert s t x) (hw : Region.wanted o (yielded ops a.tmps) = true) (hx : a.eval x = p)
    (hr : ∀ w, (convert s t p).run Try.prog w = .ok v w) : YieldsIf Try.prog ops S o v a :=
  .inl ⟨hw, fun w _ => by unfold execOp; rw [hop]; simp only [hx, Sem.run_bind, hr w, Result.andThen_ok]; rfl⟩
theorem y_un {x : Operand} {t : TypeId} {u : UnOp} {p v : Value} (hop : o.op = .unOp u t x) (hw : Region.wanted o (yielded ops a.tmps) = true) (hx : a.eval x = p)
    (hr : ∀ w, (Op.unary u p).run Try.prog w = .ok v w) : YieldsIf Try.prog ops S o v a :=
  .inl ⟨hw, fun w _ => by unfold execOp; rw [hop]; simp only [hx, Sem.run_bind, hr w, Result.andThen_ok]; rfl⟩
theorem y_bin {x y : Operand} {t t' : TypeId} {b : BinOp} {k k' : IntKind} {m n : Int} {v : Value} (hop : o.op = .binOp b t x y t') (hw : Region.wanted o (yielded ops a.tmps) = true) (hx : a.eval x = .int k m) (hy : a.eval y = .int k' n)
    (hr : ∀ w, (binOp b t (.int k m) (.int k' n)).run Try.prog w = .ok v w) : YieldsIf Try.prog ops S o v a :=
  .inl ⟨hw, fun w _ => by
    unfold execOp; rw [hop]; simp only [hx, hy, Sem.run_bind]
    have : (eqGuard b t x y (.int k m) (.int k' n)).run Try.prog w = .ok () w := by
      unfold eqGuard; go_simp
    rw [this]; simp only [Result.andThen_ok, hr w]; rfl⟩
end
section
variable {ops : Array Oper} {Q : Exit → Act → World → Prop} {md : Region.Mode} {S : World → Prop} {z : Nat} {o : Oper} {a : Act} {fuel : Nat} {w w1 : World} {i : Nat} {L L' : Array Bool}
/-- .. a call of a Go function, the only one that may come up. -/
theorem z_call {d : Nat} {f : FuncId} {args : Array Value} {tmps : Array Value} {ds : List Deferred} (hr : Region.ready md ops L = [i]) (hi : ops[i]? = some o) (hd : o.dst = some d) (hw : Region.wanted o (yielded ops tmps) = true)
    (he : ∀ w, (execOp (Act.mk tmps ds).eval o).run Try.prog w = .ok (.enter f args) w) (hL : L.setIfInBounds i true = L')
    (h : Calls Try.prog f args w fun e w' => ∃ v, e = .returned v ∧ S w' ∧ Until md ops Q S z fuel L' ⟨tmps.setIfInBounds d v, ds⟩ w') : Until md ops Q S z (fuel + 1) L ⟨tmps, ds⟩ w := by
  subst hL
  refine z_one hr hi hw ?_
  unfold Oper.wp
  rw [he w, Oper.upon_enter]
  refine h.mono fun e w' ⟨v, he, h1, h2⟩ => ?_
  subst he
  show _ ∧ Until _ _ _ _ _ _ _ (Act.put _ _ _) _
  rw [hd]
  exact ⟨fun _ => h1, h2⟩
/-- .. two of them. -/
theorem z_two {j : Nat} (hr : Region.ready md ops L = [i, j])
    (h1 : wpOp Try.prog ops Q i (fun a' w' => ((L.setIfInBounds i true).getD z true = false → S w') ∧ Until md ops Q S z fuel (L.setIfInBounds i true) a' w') a w)
    (h2 : wpOp Try.prog ops Q j (fun a' w' => ((L.setIfInBounds j true).getD z true = false → S w') ∧ Until md ops Q S z fuel (L.setIfInBounds j true) a' w') a w) : Until md ops Q S z (fuel + 1) L a w := by
  refine z_all hr (by simp) (fun k hk => ?_)
  simp only [List.mem_cons, List.not_mem_nil, or_false] at hk
  rcases hk with rfl | rfl
  · exact h1
  · exact h2
theorem op_call {d : Nat} {f : FuncId} {args : Array Value} {tmps : Array Value} {ds : List Deferred} {K : Act → World → Prop} (hi : ops[i]? = some o) (hd : o.dst = some d) (hw : Region.wanted o (yielded ops tmps) = true)
    (he : ∀ w, (execOp (Act.mk tmps ds).eval o).run Try.prog w = .ok (.enter f args) w)
    (h : Calls Try.prog f args w fun e w' => ∃ v, e = .returned v ∧ K ⟨tmps.setIfInBounds d v, ds⟩ w') : wpOp Try.prog ops Q i K ⟨tmps, ds⟩ w := by
  unfold wpOp
  rw [hi]
  simp only [hw, if_true]
  refine .inl ?_
  unfold Oper.wp
  rw [he w, Oper.upon_enter]
  refine h.mono fun e w' ⟨v, he, h2⟩ => ?_
  subst he
  show K (Act.put _ _ _) _
  rw [hd]
  exact h2
theorem op_val {d : Nat} {v : Value} {tmps : Array Value} {ds : List Deferred} {K : Act → World → Prop} (hi : ops[i]? = some o) (hd : o.dst = some d) (hw : Region.wanted o (yielded ops tmps) = true)
    (he : (execOp (Act.mk tmps ds).eval o).run Try.prog w = .ok (.value v) w1)
    (h : K ⟨tmps.setIfInBounds d v, ds⟩ w1) : wpOp Try.prog ops Q i K ⟨tmps, ds⟩ w := by
  unfold wpOp
  rw [hi]
  simp only [hw, if_true]
  refine .inl ?_
  unfold Oper.wp
  rw [he, Oper.upon_value, hd]
  exact h
end
section
variable {ops : Array Oper} {o : Oper} {a : Act} {w w' : World} {rest : List Oper} {Q : Exit → Act → World → Prop}
/-- An operation of a region that keeps its order, by the same laws. -/
theorem wp_y {v : Value} {d : Nat} {tmps T : Array Value} {ds : List Deferred} (hg : o.guard = none) (hd : o.dst = some d) (hy : YieldsIf Try.prog ops (fun w' => w' = w) o v ⟨tmps, ds⟩) (hT : tmps.setIfInBounds d v = T) (hK : wpList Try.prog ops Q rest ⟨T, ds⟩ w) : wpList Try.prog ops Q (o :: rest) ⟨tmps, ds⟩ w := by
  subst hT
  refine wpList_plain hg fun K hK' => ?_
  rcases hy with ⟨_, h⟩ | ⟨h, _⟩
  · unfold Oper.wp
    rw [h w rfl, Oper.upon_value]
    refine hK' _ _ ?_
    rw [hd]; exact hK
  · rw [Region.wanted, hg] at h; cases h
theorem wp_do {tmps : Array Value} {ds : List Deferred} (hg : o.guard = none) (hd : o.dst = none) (hr : (execOp (Act.mk tmps ds).eval o).run Try.prog w = .ok .skip w') (hK : wpList Try.prog ops Q rest ⟨tmps, ds⟩ w') : wpList Try.prog ops Q (o :: rest) ⟨tmps, ds⟩ w := by
  refine wpList_plain hg fun K hK' => ?_
  unfold Oper.wp
  rw [hr]
  simp only [Oper.upon, hd]
  exact hK' _ _ hK
theorem wp_run {v : Value} {d : Nat} {tmps T : Array Value} {ds : List Deferred} (hg : o.guard = none) (hd : o.dst = some d) (hr : (execOp (Act.mk tmps ds).eval o).run Try.prog w = .ok (.value v) w') (hT : tmps.setIfInBounds d v = T) (hK : wpList Try.prog ops Q rest ⟨T, ds⟩ w') : wpList Try.prog ops Q (o :: rest) ⟨tmps, ds⟩ w := by
  subst hT
  refine wpList_plain hg fun K hK' => ?_
  unfold Oper.wp
  rw [hr, Oper.upon_value]
  refine hK' _ _ ?_
  rw [hd]; exact hK
end
section
variable {o : Oper} {a : Act} {w w1 : World}
theorem run_mkOp {t : TypeId} {p q : Operand} {x y v : Value} (hop : o.op = .makeSlice t p q) (hp : a.eval p = x) (hq : a.eval q = y) (hr : (Instr.makeSlice t x y).run Try.prog w = .ok v w1) :
    (execOp a.eval o).run Try.prog w = .ok (.value v) w1 := by
  unfold execOp; rw [hop]; simp only [hp, hq, Sem.run_bind, hr, Result.andThen_ok]; rfl
theorem run_appOp {t : TypeId} {x y : Operand} {p q v : Value} (hop : o.op = .call { callee := .builtin .append, args := #[x, y], argTypes := #[t, t] }) (hx : a.eval x = p) (hy : a.eval y = q) (hr : (Builtin.append_ #[t, t] o.type #[p, q]).run Try.prog w = .ok v w1) :
    (execOp a.eval o).run Try.prog w = .ok (.value v) w1 := by
  unfold execOp
  simp only [hop, resolve, invoke, builtin, Sem.run_bind, Sem.run_pure, Result.andThen_ok, List.map_toArray, List.map_cons, List.map_nil, hx, hy, hr]
theorem run_copyOp {t : TypeId} {x y : Operand} {p q v : Value} (hop : o.op = .call { callee := .builtin .copy, args := #[x, y], argTypes := #[t, t] }) (hx : a.eval x = p) (hy : a.eval y = q) (hr : (Builtin.copy_ #[t, t] o.type #[p, q]).run Try.prog w = .ok v w1) :
    (execOp a.eval o).run Try.prog w = .ok (.value v) w1 := by
  unfold execOp
  simp only [hop, resolve, invoke, builtin, Sem.run_bind, Sem.run_pure, Result.andThen_ok, List.map_toArray, List.map_cons, List.map_nil, hx, hy, hr]
theorem run_bsOp {t : TypeId} {n : Nat} {ps : Array (Nat × Operand)} {xs : Array (Nat × Value)} {v : Value} (hop : o.op = .buildSlice t n ps) (hp : (ps.map fun (i, x) => (i, a.eval x)) = xs) (hr : (Instr.buildSlice t n xs).run Try.prog w = .ok v w1) :
    (execOp a.eval o).run Try.prog w = .ok (.value v) w1 := by
  unfold execOp; rw [hop]; simp only [hp, Sem.run_bind, hr, Result.andThen_ok]; rfl
theorem run_buildOp {t : TypeId} {ps : Array (Nat × Operand)} {xs : Array (Nat × Value)} {v : Value} (hop : o.op = .build t ps) (hp : (ps.map fun (i, x) => (i, a.eval x)) = xs) (hr : (Instr.build t xs).run Try.prog w = .ok v w1) :
    (execOp a.eval o).run Try.prog w = .ok (.value v) w1 := by
  unfold execOp; rw [hop]; simp only [hp, Sem.run_bind, hr, Result.andThen_ok]; rfl
theorem run_alOp {t : TypeId} {v : Value} (hop : o.op = .alloc t) (hr : (Instr.alloc t true (.tuple #[])).run Try.prog w = .ok v w1) :
    (execOp a.eval o).run Try.prog w = .ok (.value v) w1 := by
  unfold execOp; rw [hop]; simp only [Sem.run_bind, hr, Result.andThen_ok]; rfl
theorem run_cvOp {s t : TypeId} {x : Operand} {p v : Value} (hop : o.op = .convert s t x) (hx : a.eval x = p) (hr : (convert s t p).run Try.prog w = .ok v w1) :
    (execOp a.eval o).run Try.prog w = .ok (.value v) w1 := by
  unfold execOp; rw [hop]; simp only [hx, Sem.run_bind, hr, Result.andThen_ok]; rfl
theorem run_asg {x : Operand} {v : Value} (hop : o.op = .assign x) (hv : a.eval x = v) : (execOp a.eval o).run Try.prog w = .ok (.value v) w := by
  unfold execOp; rw [hop]; simp only [hv, Sem.run_pure]
end
section
variable {ops : Array Oper} {S : World → Prop} {o : Oper} {a : Act}
theorem y_index {x y : Operand} {t : TypeId} {p k v : Value} (hop : o.op = .indexAddr t x y) (hw : Region.wanted o (yielded ops a.tmps) = true) (hx : a.eval x = p) (hy : a.eval y = k)
    (hr : ∀ w, (Instr.indexAt t p k).run Try.prog w = .ok v w) : YieldsIf Try.prog ops S o v a :=
  .inl ⟨hw, fun w _ => by unfold execOp; rw [hop]; simp only [hx, hy, Sem.run_bind, hr w, Result.andThen_ok]; rfl⟩
theorem y_slice {x : Operand} {t : TypeId} {lo hi mx : Option Operand} {p v : Value} {l h m : Option Value} (hop : o.op = .slice t x lo hi mx) (hw : Region.wanted o (yielded ops a.tmps) = true) (hx : a.eval x = p)
    (hl : lo.map a.eval = l) (hh : hi.map a.eval = h) (hm : mx.map a.eval = m) (hr : ∀ w, (Instr.sliceAt t p l h m).run Try.prog w = .ok v w) : YieldsIf Try.prog ops S o v a :=
  .inl ⟨hw, fun w _ => by unfold execOp; rw [hop]; simp only [hx, hl, hh, hm, Sem.run_bind, hr w, Result.andThen_ok]; rfl⟩
theorem y_ext {x : Operand} {i : Nat} {p v : Value} (hop : o.op = .extract x i) (hw : Region.wanted o (yielded ops a.tmps) = true) (hx : a.eval x = p)
    (hr : ∀ w, (Instr.extract p i).run Try.prog w = .ok v w) : YieldsIf Try.prog ops S o v a :=
  .inl ⟨hw, fun w _ => by unfold execOp; rw [hop]; simp only [hx, Sem.run_bind, hr w, Result.andThen_ok]; rfl⟩
end
end Go.Proofs.Ytfblnjidghijaaa
