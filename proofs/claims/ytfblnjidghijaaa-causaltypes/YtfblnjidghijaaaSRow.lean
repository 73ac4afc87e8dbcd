/- Loads, stores, boxes; texts compared. -/
import Derived.Test.YtfblnjidghijaaaSBase
import Derived.Deep.Cut
namespace Go.Proofs.Ytfblnjidghijaaa
open Go Go.RowKit

theorem load1 {t : TypeId} (ha : ∀ w, (isAgg t).run Try.prog w = .ok false w) {w : World} {p i : Nat} {v : Value} (hc : w.cell? ⟨p, i, none⟩ = some v) : (Instr.loadAt t (.pointer (some ⟨p, i, none⟩))).run Try.prog w = .ok v w := by
  simp only [Instr.loadAt, Instr.sureAddr, Sem.run_bind, Sem.run_pure, Result.andThen, loadVar, ha]
  go_simp
theorem store1 {t : TypeId} (hz : ∀ w, (Go.sizeOf t).run Try.prog w = .ok 1 w) {w : World} {p i : Nat} {old : Value} (v : Value) (h1 : v.oneCell' = true) (hv : v.cells = #[v]) (hc : w.cell? ⟨p, i, none⟩ = some old) (hf : w.frozen? ⟨p, i, none⟩ = false) :
    (Instr.storeAt t (.pointer (some ⟨p, i, none⟩)) v).run Try.prog w = .ok () (w.setCell ⟨p, i, none⟩ v) := by
  simp only [Instr.storeAt, Instr.sureAddr, Sem.run_bind, Sem.run_pure, Result.andThen, storeVar, hz, hv]
  simp [storeCells, add_lit, run_store _ w _ v _ h1, hc, hf]
theorem run_boxOp {o : Oper} {a : Act} {w w1 : World} {t : TypeId} {x : Operand} {p v : Value} (hop : o.op = .box t x) (hx : a.eval x = p) (hr : (Instr.box t p).run Try.prog w = .ok v w1) :
    (execOp a.eval o).run Try.prog w = .ok (.value v) w1 := by
  unfold execOp; rw [hop]; simp only [hx, Sem.run_bind, hr, Result.andThen_ok]; rfl
theorem box_agg (T : TypeId) (w : World) (c : Array Value) : (Instr.box T (.agg c)).run Try.prog w = .ok (.pointer (some ⟨w.heap.size, 0, none⟩)) (w.alloc (.cells c T)) := by
  simp [Instr.box, newVar, newRow, Value.cells]
theorem alloc_agg {T : TypeId} {c : Array Value} (hz : ∀ w, (zeroValue T).run Try.prog w = .ok (.agg c) w) (w : World) : (Instr.alloc T true (.tuple #[])).run Try.prog w = .ok (.pointer (some ⟨w.heap.size, 0, none⟩)) (w.alloc (.cells c T)) := by
  simp only [Instr.alloc, Sem.run_bind, hz, Result.andThen_ok]
  rfl
theorem storeAt_all {T : TypeId} {k : Nat} (hz : (Try.prog.info? T).map (·.size) = some k) {w : World} {g : Nat} {c c' : Array Value} {t : TypeId} (hk : c.size = k) (hk' : c'.size = k) (hg : w.heap[g]? = some (.cells c t (0, 0))) (h1 : ∀ v ∈ c'.toList, v.oneCell' = true) :
    (Instr.storeAt T (.pointer (some ⟨g, 0, none⟩)) (.agg c')).run Try.prog w = .ok () (w.setRow g c') := by
  have h := storeAt_k hz w g 0 c t c'.toList (by simpa using hk') hg (by simp; omega) h1
  have e : relaid c 0 c'.toList = c' := by
    unfold relaid
    rw [List.take_zero, List.nil_append, Nat.zero_add, List.drop_of_length_le (by simp; omega), List.append_nil]
  rw [e] at h
  simpa using h
def strV (b : List UInt8) : Value := .string ⟨b.toArray⟩
theorem neqS (a b : List UInt8) (r : Bool) (h : decide (a ≠ b) = r) (w : World) : (binOp .neq 9 (strV a) (strV b)).run Try.prog w = .ok (.bool r) w := by
  subst h
  unfold strV
  go_simp
  by_cases hab : a = b <;> simp [hab]
theorem y_neqS {ops : Array Oper} {S : World → Prop} {o : Oper} {a : Act} {x y : Operand} {t' : TypeId} {l m : List UInt8} {r : Bool} (hop : o.op = .binOp .neq 9 x y t') (hw : Region.wanted o (yielded ops a.tmps) = true) (hx : a.eval x = strV l) (hy : a.eval y = strV m) (hr : decide (l ≠ m) = r) : YieldsIf Try.prog ops S o (.bool r) a :=
  .inl ⟨hw, fun w _ => by
    unfold execOp; rw [hop]; simp only [hx, hy, Sem.run_bind]
    have : (eqGuard .neq 9 x y (strV l) (strV m)).run Try.prog w = .ok () w := by
      unfold eqGuard strV; go_simp
    rw [this]; simp only [Result.andThen_ok, neqS l m r hr w]; rfl⟩
theorem neqI (a b : Int) (r : Bool) (h : (a != b) = r) (w : World) : (binOp .neq 3 (.int .i64 a) (.int .i64 b)).run Try.prog w = .ok (.bool r) w := by subst h; go_simp
theorem y_lenT {t : TypeId} (hl : ∀ (p : Option Addr) (n c : Nat) (ty : TypeId) (w : World), (Builtin.len_ #[t] ty #[.slice p n c]).run Try.prog w = .ok (.int .i64 n) w) {ops : Array Oper} {S : World → Prop} {o : Oper} {a : Act} {x : Operand} {p : Option Addr} {n c : Nat} (hop : o.op = .call { callee := .builtin .len, args := #[x], argTypes := #[t] }) (hw : Region.wanted o (yielded ops a.tmps) = true) (hx : a.eval x = .slice p n c) : YieldsIf Try.prog ops S o (.int .i64 n) a :=
  .inl ⟨hw, fun w _ => by
    have h1 : (Builtin.len_ #[t] o.type #[a.eval x]).run Try.prog w = .ok (.int .i64 n) w := by rw [hx]; exact hl p n c o.type w
    unfold execOp
    simp only [hop, resolve, invoke, builtin, Sem.run_bind, Sem.run_pure, Result.andThen_ok, List.map_toArray, List.map_cons, List.map_nil, h1]⟩
theorem eqlE (a b : Int) (r : Bool) (h : (a == b) = r) (w : World) : (binOp .eql 28 (.int .i64 a) (.int .i64 b)).run Try.prog w = .ok (.bool r) w := by subst h; go_simp
theorem eqlS (a b : List UInt8) (r : Bool) (h : decide (a = b) = r) (w : World) : (binOp .eql 9 (strV a) (strV b)).run Try.prog w = .ok (.bool r) w := by
  subst h
  unfold strV
  go_simp
  by_cases hab : a = b <;> simp [hab]
theorem y_eqlS {ops : Array Oper} {S : World → Prop} {o : Oper} {a : Act} {x y : Operand} {t' : TypeId} {l m : List UInt8} {r : Bool} (hop : o.op = .binOp .eql 9 x y t') (hw : Region.wanted o (yielded ops a.tmps) = true) (hx : a.eval x = strV l) (hy : a.eval y = strV m) (hr : decide (l = m) = r) : YieldsIf Try.prog ops S o (.bool r) a :=
  .inl ⟨hw, fun w _ => by
    unfold execOp; rw [hop]; simp only [hx, hy, Sem.run_bind]
    have : (eqGuard .eql 9 x y (strV l) (strV m)).run Try.prog w = .ok () w := by
      unfold eqGuard strV; go_simp
    rw [this]; simp only [Result.andThen_ok, eqlS l m r hr w]; rfl⟩
theorem results_cell1 {fn : Func} {p : Tmp} {ty : TypeId} (h : fn.results = #[.cell p ty]) (tmps : Array Value) (P : Program) (w : World) :
    (results fn tmps).run P w = ((asAddr (tmps.getD p undef)).run P w).andThen fun a w₁ => (loadVar ty a).run P w₁ := by
  simp only [results, h]
  simp [Sem.run_bind, Result.andThen]
/-- A value that is returned out of its cell. -/
theorem ret_cell {f : Func} {R : Ending → World → Prop} {a : Act} {w : World} {p : Tmp} {ty : TypeId} {b : Nat} {v : Value} (hf : f.results = #[.cell p ty]) (hd : a.defers = []) (hp : a.tmps.getD p undef = .pointer (some ⟨b, 0, none⟩))
    (hl : (Instr.loadAt ty (.pointer (some ⟨b, 0, none⟩))).run Try.prog w = .ok v w) (hR : R (.returned v) w) : bodyPost Try.prog f R .ret a w := by
  refine bodyPost_ret (v := v) ?_ hd hR
  have hl' : (loadVar ty ⟨b, 0, none⟩).run Try.prog w = .ok v w := by
    simpa [Instr.loadAt, Instr.sureAddr, Sem.run_bind, Sem.run_pure, Result.andThen] using hl
  rw [results_cell1 hf, hp]
  simp only [asAddr, Sem.run_pure, Result.andThen]
  exact hl'
theorem qadd (a b c : Int) (h : IntKind.i64.wrap (a + b) = c) (w : World) : (binOp .add 3 (.int .i64 a) (.int .i64 b)).run Try.prog w = .ok (.int .i64 c) w := by subst h; go_simp
theorem qlss (a b : Int) (r : Bool) (h : decide (a < b) = r) (w : World) : (binOp .lss 3 (.int .i64 a) (.int .i64 b)).run Try.prog w = .ok (.bool r) w := by subst h; go_simp
theorem qeql (a b : Int) (r : Bool) (h : (a == b) = r) (w : World) : (binOp .eql 3 (.int .i64 a) (.int .i64 b)).run Try.prog w = .ok (.bool r) w := by subst h; go_simp
theorem ret_pair {f : Func} {R : Ending → World → Prop} {a : Act} {w : World} {p q : Tmp} {ty : TypeId} {b : Nat} {v : Value} (hf : f.results = #[.cell p ty, .tmp q]) (hd : a.defers = []) (hp : a.tmps.getD p undef = .pointer (some ⟨b, 0, none⟩))
    (hl : (Instr.loadAt ty (.pointer (some ⟨b, 0, none⟩))).run Try.prog w = .ok v w) (hR : R (.returned (.tuple #[v, a.tmps.getD q undef])) w) : bodyPost Try.prog f R .ret a w := by
  refine bodyPost_ret ?_ hd hR
  have hl' : (loadVar ty ⟨b, 0, none⟩).run Try.prog w = .ok v w := by
    simpa [Instr.loadAt, Instr.sureAddr, Sem.run_bind, Sem.run_pure, Result.andThen] using hl
  have hp' : a.tmps[p]?.getD undef = .pointer (some ⟨b, 0, none⟩) := by simpa using hp
  simp only [results, hf]
  simp [hp', asAddr, hl', Result.andThen]
section
variable {ops : Array Oper} {o : Oper} {w : World} {rest : List Oper} {Q : Exit → Act → World → Prop}
/-- As wp_y, guarded or not: where it is not wanted, it yields nothing. -/
theorem wp_yg {v : Value} {d : Nat} {tmps T : Array Value} {ds : List Deferred} (hd : o.dst = some d) (hy : YieldsIf Try.prog ops (fun w' => w' = w) o v ⟨tmps, ds⟩) (hT : tmps.setIfInBounds d v = T) (hK : wpList Try.prog ops Q rest ⟨T, ds⟩ w) : wpList Try.prog ops Q (o :: rest) ⟨tmps, ds⟩ w := by
  subst hT
  rcases hy with ⟨hw, h⟩ | ⟨hw, rfl⟩
  · refine wpList_step fun K hK' => ?_
    simp only [hw, if_true]
    unfold Oper.wp
    rw [h w rfl, Oper.upon_value]
    refine hK' _ _ ?_
    rw [hd]; exact hK
  · refine wpList_skip hw ?_
    rw [hd]; exact hK
/-- A guarded call that is wanted. -/
theorem wp_callg {d : Nat} {f : FuncId} {args : Array Value} {tmps : Array Value} {ds : List Deferred} (hd : o.dst = some d) (hw : Region.wanted o (yielded ops tmps) = true)
    (he : ∀ w, (execOp (Act.mk tmps ds).eval o).run Try.prog w = .ok (.enter f args) w)
    (h : Calls Try.prog f args w fun e w' => ∃ v, e = .returned v ∧ wpList Try.prog ops Q rest ⟨tmps.setIfInBounds d v, ds⟩ w') : wpList Try.prog ops Q (o :: rest) ⟨tmps, ds⟩ w := by
  refine wpList_step fun K hK' => ?_
  simp only [hw, if_true]
  unfold Oper.wp
  rw [he w, Oper.upon_enter]
  refine h.mono fun e w' ⟨v, he, h2⟩ => ?_
  subst he
  refine hK' _ _ ?_
  rw [hd]
  exact h2
/-- A guarded one that is not wanted. (By wp_yg and y_skip the elaborator's time is fourfold with each that follows.) -/
theorem wp_sk {d : Nat} {tmps T : Array Value} {ds : List Deferred} (hd : o.dst = some d) (hw : Region.wanted o (yielded ops tmps) = false) (hT : tmps.setIfInBounds d undef = T) (hK : wpList Try.prog ops Q rest ⟨T, ds⟩ w) : wpList Try.prog ops Q (o :: rest) ⟨tmps, ds⟩ w := by
  subst hT
  refine wpList_skip hw ?_
  rw [hd]; exact hK
end
theorem neqE (a b : Int) (r : Bool) (h : (a != b) = r) (w : World) : (binOp .neq 28 (.int .i64 a) (.int .i64 b)).run Try.prog w = .ok (.bool r) w := by subst h; go_simp
theorem neqL (a b : Int) (r : Bool) (h : (a != b) = r) (w : World) : (binOp .neq 2 (.int .i64 a) (.int .i64 b)).run Try.prog w = .ok (.bool r) w := by subst h; go_simp
theorem qnotB (b : Bool) (w : World) : (Op.unary .not (.bool b)).run Try.prog w = .ok (.bool (!b)) w := by go_simp
end Go.Proofs.Ytfblnjidghijaaa
