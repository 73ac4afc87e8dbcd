/- Laws for the operations of a walk on values of many cells, each by its run. -/
import Derived.Test.YtkfomolglangdaaChecked
import Derived.WalkKit
import Derived.WalkSpells
import Derived.WalkLawsBesides
import Derived.Deep.WholeRow
import Derived.Laws.CopyRow
import Derived.Laws.IdiomCopy
import Derived.Deep.QuietTactic
import Derived.BigQuiet
import Derived.OwnWalk
import Derived.Test.YtkfomolglangdaaWRow
namespace Go.Proofs.Ytkfomolglangdaa
open Go Go.RowKit

section
variable {P : Program} {w w' : World} {ops : Array Oper} {rest : List Oper} {a : Act} {Q : Exit → Act → World → Prop} {dst : Option Nat} {ty : TypeId} {pos : String} {after : Array Edge}

theorem wp_end (h : Q .normal a w) : wpList P ops Q [] a w := h
theorem wp_move {x : Operand} {v : Value} (hx : a.eval x = v) (hK : wpList P ops Q rest (a.put dst v) w) : wpList P ops Q (⟨dst, .move x, ty, pos, after, none⟩ :: rest) a w := by
  refine wpList_plain rfl fun K hK' => ?_
  unfold Oper.wp
  subst hx
  simp only [execOp, Sem.run_pure]
  exact hK' _ _ hK
theorem wp_assign {x : Operand} {v : Value} (hx : a.eval x = v) (hK : wpList P ops Q rest (a.put dst v) w) : wpList P ops Q (⟨dst, .assign x, ty, pos, after, none⟩ :: rest) a w := by
  refine wpList_plain rfl fun K hK' => ?_
  unfold Oper.wp
  subst hx
  simp only [execOp, Sem.run_pure]
  exact hK' _ _ hK
theorem wp_nil {x : Operand} {v : Addr} (hx : a.eval x = .pointer (some v)) (hK : wpList P ops Q rest (a.put dst (.pointer (some v))) w) : wpList P ops Q (⟨dst, .nilCheck x, ty, pos, after, none⟩ :: rest) a w := by
  refine wpList_plain rfl fun K hK' => ?_
  unfold Oper.wp
  simp only [execOp, hx, Sem.run_pure]
  exact hK' _ _ hK
theorem wp_faddr {t f : Nat} {x : Operand} {p v : Value} (hx : a.eval x = p) (hr : (Instr.fieldAt t p f).run P w = .ok v w) (hK : wpList P ops Q rest (a.put dst v) w) : wpList P ops Q (⟨dst, .fieldAddr t x f, ty, pos, after, none⟩ :: rest) a w := by
  refine wpList_plain rfl fun K hK' => ?_
  unfold Oper.wp
  simp only [execOp, hx, Sem.run_bind, hr, Result.andThen_ok]
  exact hK' _ _ hK
theorem wp_addi {p q : Operand} {x y z : Int} (hp : a.eval p = .int .i64 x) (hq : a.eval q = .int .i64 y) (hz : IntKind.i64.wrap (x + y) = z) (hK : wpList Try.prog ops Q rest (a.put dst (.int .i64 z)) w) : wpList Try.prog ops Q (⟨dst, .binOp .add 3 p q 3, ty, pos, after, none⟩ :: rest) a w := by
  refine wpList_plain rfl fun K hK' => ?_
  have e : (execOp a.eval (⟨dst, .binOp .add 3 p q 3, ty, pos, after, none⟩ : Oper)).run Try.prog w = .ok (.value (.int .i64 z)) w := by
    subst hz
    unfold execOp; simp only [hp, hq]; go_simp
  unfold Oper.wp
  rw [e]
  exact hK' _ _ hK
theorem wp_load {t : TypeId} {p : Operand} {x v : Value} (hp : a.eval p = x) (hr : (Instr.loadAt t x).run P w = .ok v w')
    (hK : wpList P ops Q rest (a.put dst v) w') : wpList P ops Q (⟨dst, .load t p, ty, pos, after, none⟩ :: rest) a w := by
  refine wpList_plain rfl fun K hK' => ?_
  unfold Oper.wp
  simp [execOp, hp, hr, Result.andThen]
  exact hK' _ _ hK

theorem wp_store {t : TypeId} {p q : Operand} {x y : Value} (hp : a.eval p = x) (hq : a.eval q = y) (hr : (Instr.storeAt t x y).run P w = .ok () w')
    (hK : wpList P ops Q rest (a.put dst undef) w') : wpList P ops Q (⟨dst, .store t p q, ty, pos, after, none⟩ :: rest) a w := by
  refine wpList_plain rfl fun K hK' => ?_
  unfold Oper.wp
  simp [execOp, hp, hq, hr, Result.andThen]
  exact hK' _ _ hK

theorem wp_alloc {t : TypeId} {v : Value} (hr : (Instr.alloc t true (.tuple #[])).run P w = .ok v w')
    (hK : wpList P ops Q rest (a.put dst v) w') : wpList P ops Q (⟨dst, .alloc t, ty, pos, after, none⟩ :: rest) a w := by
  refine wpList_plain rfl fun K hK' => ?_
  unfold Oper.wp
  simp [execOp, hr, Result.andThen]
  exact hK' _ _ hK

theorem wp_build {t : TypeId} {p q : Operand} {i j : Nat} {x y v : Value} (hp : a.eval p = x) (hq : a.eval q = y) (hr : (Instr.build t #[(i, x), (j, y)]).run P w = .ok v w')
    (hK : wpList P ops Q rest (a.put dst v) w') : wpList P ops Q (⟨dst, .build t #[(i, p), (j, q)], ty, pos, after, none⟩ :: rest) a w := by
  refine wpList_plain rfl fun K hK' => ?_
  have e : (#[(i, p), (j, q)] : Array (Nat × Operand)).map (fun (i, x) => (i, a.eval x)) = #[(i, x), (j, y)] := by simp [hp, hq]
  unfold Oper.wp
  simp only [execOp, e, Sem.run_bind, hr, Result.andThen_ok]
  exact hK' _ _ hK

theorem wp_lookup {t : TypeId} {p q : Operand} {ok : Bool} {x y v : Value} (hp : a.eval p = x) (hq : a.eval q = y) (hr : (Instr.lookup t x y ok).run P w = .ok v w')
    (hK : wpList P ops Q rest (a.put dst v) w') : wpList P ops Q (⟨dst, .lookup t p q ok, ty, pos, after, none⟩ :: rest) a w := by
  refine wpList_plain rfl fun K hK' => ?_
  unfold Oper.wp
  simp [execOp, hp, hq, hr, Result.andThen]
  exact hK' _ _ hK

theorem wp_mapUpdate {t : TypeId} {p q r : Operand} {x y z : Value} (hp : a.eval p = x) (hq : a.eval q = y) (hz : a.eval r = z) (hr : (Instr.mapUpdate t x y z).run P w = .ok () w')
    (hK : wpList P ops Q rest (a.put dst undef) w') : wpList P ops Q (⟨dst, .mapUpdate t p q r, ty, pos, after, none⟩ :: rest) a w := by
  refine wpList_plain rfl fun K hK' => ?_
  unfold Oper.wp
  simp [execOp, hp, hq, hz, hr, Result.andThen]
  exact hK' _ _ hK

theorem wp_makeMap {t : TypeId} {v : Value} (hr : (Instr.makeMap t none).run P w = .ok v w')
    (hK : wpList P ops Q rest (a.put dst v) w') : wpList P ops Q (⟨dst, .makeMap t none, ty, pos, after, none⟩ :: rest) a w := by
  refine wpList_plain rfl fun K hK' => ?_
  unfold Oper.wp
  simp [execOp, hr, Result.andThen]
  exact hK' _ _ hK

theorem wp_extract {p : Operand} {i : Nat} {x v : Value} (hp : a.eval p = x) (hr : (Instr.extract x i).run P w = .ok v w)
    (hK : wpList P ops Q rest (a.put dst v) w) : wpList P ops Q (⟨dst, .extract p i, ty, pos, after, none⟩ :: rest) a w := by
  refine wpList_plain rfl fun K hK' => ?_
  unfold Oper.wp
  simp [execOp, hp, hr, Result.andThen]
  exact hK' _ _ hK

theorem wp_call {f : FuncId} {xs : Array Operand} {ats : Array TypeId} {args : Array Value} (hxs : #[] ++ xs.map a.eval ++ #[] = args) (hf : ∀ w, (callFunc f args).run P w = .ok (.enter f args) w)
    (h : Calls P f args w fun e w' => ∃ v, e = .returned v ∧ wpList P ops Q rest (a.put dst v) w') : wpList P ops Q (⟨dst, .call { callee := .value (.func f), args := xs, argTypes := ats }, ty, pos, after, none⟩ :: rest) a w := by
  refine wpList_plain rfl fun K hK' => ?_
  have e : (execOp a.eval (⟨dst, .call { callee := .value (.func f), args := xs, argTypes := ats }, ty, pos, after, none⟩ : Oper)).run P w = .ok (.enter f args) w := by
    have e1 : execOp a.eval (⟨dst, .call { callee := .value (.func f), args := xs, argTypes := ats }, ty, pos, after, none⟩ : Oper) = callFunc f (#[] ++ xs.map a.eval ++ #[]) := by unfold execOp; rfl
    rw [e1, hxs, hf w]
  unfold Oper.wp
  rw [e, Oper.upon_enter]
  refine h.mono fun e w' ⟨v, he, h2⟩ => ?_
  subst he
  exact hK' _ _ h2

theorem wp_arrayAt {t : TypeId} {p : Operand} {x v : Value} (hp : a.eval p = x) (hr : (Instr.arrayAt t x).run P w = .ok v w')
    (hK : wpList P ops Q rest (a.put dst v) w') : wpList P ops Q (⟨dst, .sliceToArrayPointer t p, ty, pos, after, none⟩ :: rest) a w := by
  refine wpList_plain rfl fun K hK' => ?_
  unfold Oper.wp
  simp [execOp, hp, hr, Result.andThen]
  exact hK' _ _ hK
end

theorem add_lit (b o j : Nat) : (⟨b, o, none⟩ : Addr).add j = ⟨b, o + j, none⟩ := by unfold Addr.add; split <;> simp_all

/-- k cells out of a row of cells. -/
theorem loads (P : Program) (w : World) (b o k : Nat) (cur : Array Value) (t : TypeId) (z : Nat × Nat) (cs : List Value) (hk : cs.length = k) (hg : w.heap[b]? = some (.cells cur t z)) (hc : ∀ j v, cs[j]? = some v → cur[o + j]? = some v) :
    (loadCellsFrom ⟨b, o, none⟩ 0 k #[]).run P w = .ok cs.toArray w := by
  subst hk
  have := run_loadCells_list (P := P) w ⟨b, o, none⟩ cs (fun j v hv => by
    rw [add_lit, World.cell?, hg]; simpa using hc j v hv)
  simpa [loadCells] using this

/-- A row of cells with some of them laid anew. -/
def relaid (cur : Array Value) (o : Nat) (cs : List Value) : Array Value := (cur.toList.take o ++ cs ++ cur.toList.drop (o + cs.length)).toArray

theorem stores (P : Program) (w : World) (b o : Nat) (cur : Array Value) (t : TypeId) (cs : List Value) (hg : w.heap[b]? = some (.cells cur t (0, 0))) (hl : o + cs.length ≤ cur.size) (h1 : ∀ v ∈ cs, v.oneCell' = true) :
    (storeCells ⟨b, o, none⟩ cs 0).run P w = .ok () (w.setRow b (relaid cur o cs)) := by
  have := run_storeCells_at (P := P) b o t cs 0 cur w hg (by simpa using hl) h1
  simpa [relaid] using this

theorem size70 : (Try.prog.info? 70).map (·.size) = some 128 := by kernel_rfl
theorem size76 : (Try.prog.info? 76).map (·.size) = some 129 := by kernel_rfl
theorem run_size {P : Program} {t : TypeId} {n : Nat} (h : (P.info? t).map (·.size) = some n) (w : World) : (Go.sizeOf t).run P w = .ok n w := by
  cases hq : P.info? t with
  | none => simp [hq] at h
  | some i => simp [hq] at h; simp [Go.sizeOf, typeInfo, hq, h]

theorem agg70 (w : World) : (isAgg 70).run Try.prog w = .ok true w := by simp [isAgg, run_underlying Try.underlying70]
theorem agg76 (w : World) : (isAgg 76).run Try.prog w = .ok true w := by simp [isAgg, run_underlying Try.underlying76]

/-- A value of k cells is loaded. -/
theorem loadAt_k {P : Program} {t : TypeId} {k : Nat} (ha : ∀ w, (isAgg t).run P w = .ok true w) (hz : (P.info? t).map (·.size) = some k) (w : World) (b o : Nat) (cur : Array Value) (e : TypeId) (z : Nat × Nat) (cs : List Value) (hk : cs.length = k) (hg : w.heap[b]? = some (.cells cur e z)) (hc : ∀ j v, cs[j]? = some v → cur[o + j]? = some v) :
    (Instr.loadAt t (.pointer (some ⟨b, o, none⟩))).run P w = .ok (.agg cs.toArray) w := by
  simp only [Instr.loadAt, Instr.sureAddr, Sem.run_bind, Sem.run_pure, Result.andThen, loadVar, ha, run_size hz, loadCells, loads P w b o k cur e z cs hk hg hc, if_true]

theorem storeAt_k {P : Program} {t : TypeId} {k : Nat} (hz : (P.info? t).map (·.size) = some k) (w : World) (b o : Nat) (cur : Array Value) (e : TypeId) (cs : List Value) (hk : cs.length = k) (hg : w.heap[b]? = some (.cells cur e (0, 0))) (hl : o + cs.length ≤ cur.size) (h1 : ∀ v ∈ cs, v.oneCell' = true) :
    (Instr.storeAt t (.pointer (some ⟨b, o, none⟩)) (.agg cs.toArray)).run P w = .ok () (w.setRow b (relaid cur o cs)) := by
  simp only [Instr.storeAt, Instr.sureAddr, Sem.run_bind, Sem.run_pure, Result.andThen, storeVar, run_size hz, Value.cells, List.size_toArray, hk, ne_eq, not_true_eq_false, if_false, List.toList_toArray, stores P w b o cur e cs hg hl h1]
end Go.Proofs.Ytkfomolglangdaa
