/- texts put together: JZ JMath JRow JFramed JEq JHead JBase JNotes JLay -/
import Derived.Test.YtcmgclkbhhdnaaaGreatDoorJGa
import Derived.Test.YtcmgclkbhhdnaaaGreatDoorJGb
import Derived.Laws.CopyRow
import Derived.Laws.IdiomCopy
import Derived.Lib.LazyBuf
import Derived.Laws.StructEq
namespace Go.Proofs.YtcmgclkbhhdnaaaGreatDoor
open Go Go.RowKit

section
variable {ops : Array Oper} {Q : Exit → Act → World → Prop} {md : Region.Mode} {S : World → Prop} {z : Nat}
/-- Whatever order is picked, and S holds until z has come up. -/
def Until (md : Region.Mode) (ops : Array Oper) (Q : Exit → Act → World → Prop) (S : World → Prop) (z : Nat) : Nat → Array Bool → Act → World → Prop
  | 0, listed, a, w => Region.ready md ops listed = [] ∧ Q .normal a w
  | fuel + 1, listed, a, w =>
    (Region.ready md ops listed = [] → Q .normal a w) ∧
    ∀ i ∈ Region.ready md ops listed, wpOp Tryz.prog ops Q i (fun a' w' => ((listed.setIfInBounds i true).getD z true = false → S w') ∧ Until md ops Q S z fuel (listed.setIfInBounds i true) a' w') a w
theorem Until.any : ∀ (fuel : Nat) (listed : Array Bool) (a : Act) (w : World), Until md ops Q S z fuel listed a w → wpAny Tryz.prog md ops Q fuel listed a w
  | 0, _, _, _, h => h
  | fuel + 1, _, _, _, h => ⟨h.1, fun i hi => wpOp_mono (fun a' w' h' => Until.any fuel _ a' w' h'.2) (h.2 i hi)⟩
theorem not_on {listed : Array Bool} {i j : Nat} {oj : Oper} (hr : i ∈ Region.ready md ops listed) (hj : j ∈ Region.ready md ops listed) (hoj : ops[j]? = some oj) : ∀ e ∈ oj.after, Region.binds md e = true → e.on ≠ i := fun e he hb heq => by
  obtain ⟨_, oj', hoj', hall⟩ := mem_ready.1 hj
  rw [hoj] at hoj'
  cases hoj'
  have h1 := hall e he hb
  have h0 := (mem_ready.1 hr).1
  rw [heq] at h1
  rcases Nat.lt_or_ge i listed.size with h' | h'
  · simp [h'] at h0 h1; rw [h0] at h1; cases h1
  · simp [Array.getElem?_eq_none h'] at h1
/-- An operation is taken first: S' is what it needs, which holds as long as it has not come up. -/
theorem Until.first {S' : World → Prop} {i : Nat} {oi : Oper} {v : Value} (hiz : i ≠ z) (hi : ops[i]? = some oi) (hsel : ∀ (j : Nat) (o : Oper) cs b, ops[j]? = some o → o.op ≠ .select cs b)
    (hQ : ∀ c a w, Q (.panic c) (a.put oi.dst v) w → Q (.panic c) a w)
    (hS' : ∀ (listed : Array Bool) (w : World), i ∈ Region.ready md ops listed → (listed.getD z true = false → S w) → S' w ∨ ¬ listed.getD z true = false)
    (hz : (∀ w, S' w) ∨ ∀ oz, ops[z]? = some oz → ∃ e ∈ oz.after, Region.binds md e = true ∧ e.on = i) :
    ∀ (fuel : Nat) (listed : Array Bool) (a : Act) (w : World),
      (∀ j oj, ops[j]? = some oj → j ≠ i → listed.getD j true = false → (∀ e ∈ oj.after, Region.binds md e = true → e.on ≠ i) → oi.apart ops oj = true) →
      i ∈ Region.ready md ops listed → YieldsIf Tryz.prog ops S' oi v a → (listed.getD z true = false → S w) → ((∀ w, S' w) ∨ listed.getD z true = false) →
      Until md ops Q S z fuel (listed.setIfInBounds i true) (a.put oi.dst v) w → Until md ops Q S z (fuel + 1) listed a w := by
  intro fuel
  induction fuel with
  | zero =>
    intro listed a w _ hr hy hS hl H
    have hSw : S' w := by rcases hl with hl | hl; exact hl w; rcases hS' listed w hr hS with h | h; exact h; exact absurd hl h
    refine ⟨fun h => (by rw [h] at hr; cases hr), fun j hj => ?_⟩
    by_cases hji : j = i
    · subst hji
      refine hy.wpOp hi hSw ⟨fun h => ?_, H⟩
      rw [getD_set_ne true hiz] at h; exact hS h
    · have := ready_mono hj hji
      rw [H.1] at this
      cases this
  | succ fuel ih =>
    intro listed a w hfree hr hy hS hl H
    have hSw : S' w := by rcases hl with hl | hl; exact hl w; rcases hS' listed w hr hS with h | h; exact h; exact absurd hl h
    refine ⟨fun h => (by rw [h] at hr; cases hr), fun j hj => ?_⟩
    by_cases hji : j = i
    · subst hji
      refine hy.wpOp hi hSw ⟨fun h => ?_, H⟩
      rw [getD_set_ne true hiz] at h; exact hS h
    · have h1 := H.2 j (ready_mono hj hji)
      obtain ⟨hjun, oj, hoj, hall⟩ := mem_ready.1 hj
      have hnot := not_on hr hj hoj
      have h2 := wpOp_putIf hoj (hfree j oj hoj hji hjun hnot) (fun cs b => hsel i oi cs b hi) (fun cs b => hsel j oj cs b hoj) hQ hy h1
      have hfree' : ∀ k ok, ops[k]? = some ok → k ≠ i → (listed.setIfInBounds j true).getD k true = false →
          (∀ e ∈ ok.after, Region.binds md e = true → e.on ≠ i) → oi.apart ops ok = true := fun k ok hk hki hun hno => by
        refine hfree k ok hk hki ?_ hno
        by_cases hjk : j = k
        · subst hjk; exact hjun
        · rw [getD_set_ne true hjk] at hun; exact hun
      have hl' : (∀ w, S' w) ∨ (listed.setIfInBounds j true).getD z true = false := by
        rcases hl with hl | hl
        · exact .inl hl
        · rcases hz with hz | hz
          · exact .inl hz
          · refine .inr ?_
            have hjz : j ≠ z := fun e => by
              subst e
              obtain ⟨e, he, hb, hon⟩ := hz oj hoj
              exact hnot e he hb hon
            rw [getD_set_ne true hjz]; exact hl
      refine wpOp_mono (fun a' w' h3 => ?_) h2
      have hS2 : (listed.setIfInBounds j true).getD z true = false → S w' := fun h => h3.2.1 (by
        rw [Array.setIfInBounds_comm _ _ (Ne.symm hji)]
        rw [getD_set_ne true hiz]; exact h)
      refine ⟨hS2, ih (listed.setIfInBounds j true) a' w' hfree' (ready_mono hr (Ne.symm hji)) h3.1 hS2 hl' ?_⟩
      rw [Array.setIfInBounds_comm _ _ hji]
      exact h3.2.2

def waitsFor (md : Region.Mode) (ops : Array Oper) (z i : Nat) : Bool := match ops[z]? with
  | some oz => oz.after.any fun e => Region.binds md e && e.on == i
  | none => false
variable {o : Oper} {a : Act} {fuel : Nat} {w w1 : World} {i : Nat} {L L' : Array Bool}
/-- An operation that needs nothing of the world. -/
theorem z_pure {d : Nat} {v : Value} {tmps T : Array Value} {ds : List Deferred} (hns : Region.noSelect ops = true) (hiz : (i == z) = false) (hi : ops[i]? = some o) (hd : o.dst = some d)
    (hf : Region.free md ops L i = true) (hr : (Region.ready md ops L).contains i = true)
    (hP : ∀ c T T' ds w, Q (.panic c) ⟨T, ds⟩ w → Q (.panic c) ⟨T', ds⟩ w) (hy : YieldsIf Tryz.prog ops (fun _ => True) o v ⟨tmps, ds⟩) (hS : L.getD z true = false → S w) (hT : tmps.setIfInBounds d v = T) (hL : L.setIfInBounds i true = L')
    (h : Until md ops Q S z fuel L' ⟨T, ds⟩ w) : Until md ops Q S z (fuel + 1) L ⟨tmps, ds⟩ w := by
  subst hL; subst hT
  refine Until.first (S' := fun _ => True) (by simpa using hiz) hi (Region.noSelect_spec hns) (fun c a w h => by rw [hd] at h; exact hP c (a.tmps.setIfInBounds d v) a.tmps a.defers w h) (fun _ _ _ _ => .inl trivial) (.inl fun _ => trivial) fuel L _ w (Region.free_spec hi hf) (by simpa using hr) hy hS (.inl fun _ => trivial) ?_
  rw [hd]; exact h
/-- An operation that reads: z waits for it. -/
theorem z_read {d : Nat} {v : Value} {tmps T : Array Value} {ds : List Deferred} (hns : Region.noSelect ops = true) (hiz : (i == z) = false) (hw : waitsFor md ops z i = true) (hi : ops[i]? = some o) (hd : o.dst = some d)
    (hf : Region.free md ops L i = true) (hr : (Region.ready md ops L).contains i = true)
    (hP : ∀ c T T' ds w, Q (.panic c) ⟨T, ds⟩ w → Q (.panic c) ⟨T', ds⟩ w) (hy : YieldsIf Tryz.prog ops S o v ⟨tmps, ds⟩) (hzl : L.getD z true = false) (hS : S w) (hT : tmps.setIfInBounds d v = T) (hL : L.setIfInBounds i true = L')
    (h : Until md ops Q S z fuel L' ⟨T, ds⟩ w) : Until md ops Q S z (fuel + 1) L ⟨tmps, ds⟩ w := by
  subst hL; subst hT
  refine Until.first (S' := S) (by simpa using hiz) hi (Region.noSelect_spec hns) (fun c a w h => by rw [hd] at h; exact hP c (a.tmps.setIfInBounds d v) a.tmps a.defers w h)
    (fun listed w _ h => if e : listed.getD z true = false then .inl (h e) else .inr e) (.inr fun oz hoz => ?_) fuel L _ w (Region.free_spec hi hf) (by simpa using hr) hy (fun _ => hS) (.inr hzl) ?_
  · unfold waitsFor at hw
    rw [hoz] at hw
    simp only [Array.any_eq_true'] at hw
    obtain ⟨e, he, hb⟩ := hw
    simp only [Bool.and_eq_true, beq_iff_eq] at hb
    exact ⟨e, he, hb⟩
  · rw [hd]; exact h
theorem z_all {rs : List Nat} (hr : Region.ready md ops L = rs) (hne : rs ≠ [])
    (h : ∀ i ∈ rs, wpOp Tryz.prog ops Q i (fun a' w' => ((L.setIfInBounds i true).getD z true = false → S w') ∧ Until md ops Q S z fuel (L.setIfInBounds i true) a' w') a w) : Until md ops Q S z (fuel + 1) L a w :=
  ⟨fun h0 => absurd (hr ▸ h0) hne, hr ▸ h⟩
theorem z_done (hr : Region.ready md ops L = []) (h : Q .normal a w) : ∀ fuel, Until md ops Q S z fuel L a w
  | 0 => ⟨hr, h⟩
  | _ + 1 => ⟨fun _ => h, by rw [hr]; simp⟩
theorem z_one (hr : Region.ready md ops L = [i]) (hi : ops[i]? = some o) (hw : Region.wanted o (yielded ops a.tmps) = true)
    (h : o.wp Tryz.prog a w (fun a' w' => ((L.setIfInBounds i true).getD z true = false → S w') ∧ Until md ops Q S z fuel (L.setIfInBounds i true) a' w') Q) : Until md ops Q S z (fuel + 1) L a w := by
  refine z_all hr (by simp) (fun j hj => ?_)
  obtain rfl : j = i := by simpa using hj
  unfold wpOp
  rw [hi]
  simp only [hw, if_true]
  exact .inl h
/-- The one operation that may come up, by its run. -/
theorem z_val {d : Nat} {v : Value} {tmps T : Array Value} {ds : List Deferred} (hr : Region.ready md ops L = [i]) (hi : ops[i]? = some o) (hd : o.dst = some d) (hw : Region.wanted o (yielded ops tmps) = true)
    (he : (execOp (Act.mk tmps ds).eval o).run Tryz.prog w = .ok (.value v) w1) (hS : S w1) (hT : tmps.setIfInBounds d v = T) (hL : L.setIfInBounds i true = L')
    (h : Until md ops Q S z fuel L' ⟨T, ds⟩ w1) : Until md ops Q S z (fuel + 1) L ⟨tmps, ds⟩ w := by
  subst hL; subst hT
  refine z_one hr hi hw ?_
  unfold Oper.wp
  rw [he, Oper.upon_value, hd]
  exact ⟨fun _ => hS, h⟩
/-- z itself. -/
theorem z_last {tmps : Array Value} {ds : List Deferred} (hr : Region.ready md ops L = [z]) (hi : ops[z]? = some o) (hd : o.dst = none) (hw : Region.wanted o (yielded ops tmps) = true)
    (he : (execOp (Act.mk tmps ds).eval o).run Tryz.prog w = .ok .skip w1) (hz : L'.getD z true = true) (hL : L.setIfInBounds z true = L')
    (h : Until md ops Q S z fuel L' ⟨tmps, ds⟩ w1) : Until md ops Q S z (fuel + 1) L ⟨tmps, ds⟩ w := by
  subst hL
  refine z_one hr hi hw ?_
  unfold Oper.wp
  rw [he]
  simp only [Oper.upon, hd]
  exact ⟨fun e => (by rw [hz] at e; cases e), h⟩
theorem z_open {id : Nat} (z : Nat) (hm : Tryz.prog.follows .mixedOrders = true) (hns : Region.noSelect ops = true) (hP : ∀ c T T' ds w, Q (.panic c) ⟨T, ds⟩ w → Q (.panic c) ⟨T', ds⟩ w) (hL : Array.replicate ops.size false = L)
    (h : ∀ Q' : Exit → Act → World → Prop, Region.noSelect ops = true → (∀ c T T' ds w, Q' (.panic c) ⟨T, ds⟩ w → Q' (.panic c) ⟨T', ds⟩ w) → (∀ a w, Q .normal a w → Q' .normal a w) →
      Until .any ops Q' S z ops.size L a w.drew) : (Code.region id ops true).wp Tryz.prog Q a w :=
  wp_region_any hm (Until.any _ _ _ _ (hL ▸ h Q hns hP fun _ _ h => h))
end
section
variable {ops : Array Oper} {S : World → Prop} {o : Oper} {a : Act}
theorem y_cnv {x : Operand} {s t : TypeId} {p v : Value} (hop : o.op = .convert s t x) (hw : Region.wanted o (yielded ops a.tmps) = true) (hx : a.eval x = p)
    (hr : ∀ w, (convert s t p).run Tryz.prog w = .ok v w) : YieldsIf Tryz.prog ops S o v a :=
  .inl ⟨hw, fun w _ => by unfold execOp; rw [hop]; simp only [hx, Sem.run_bind, hr w, Result.andThen_ok]; rfl⟩
theorem y_un {x : Operand} {t : TypeId} {u : UnOp} {p v : Value} (hop : o.op = .unOp u t x) (hw : Region.wanted o (yielded ops a.tmps) = true) (hx : a.eval x = p)
    (hr : ∀ w, (Op.unary u p).run Tryz.prog w = .ok v w) : YieldsIf Tryz.prog ops S o v a :=
  .inl ⟨hw, fun w _ => by unfold execOp; rw [hop]; simp only [hx, Sem.run_bind, hr w, Result.andThen_ok]; rfl⟩
theorem y_bin {x y : Operand} {t t' : TypeId} {b : BinOp} {k k' : IntKind} {m n : Int} {v : Value} (hop : o.op = .binOp b t x y t') (hw : Region.wanted o (yielded ops a.tmps) = true) (hx : a.eval x = .int k m) (hy : a.eval y = .int k' n)
    (hr : ∀ w, (binOp b t (.int k m) (.int k' n)).run Tryz.prog w = .ok v w) : YieldsIf Tryz.prog ops S o v a :=
  .inl ⟨hw, fun w _ => by
    unfold execOp; rw [hop]; simp only [hx, hy, Sem.run_bind]
    have : (eqGuard b t x y (.int k m) (.int k' n)).run Tryz.prog w = .ok () w := by
      unfold eqGuard; go_simp
    rw [this]; simp only [Result.andThen_ok, hr w]; rfl⟩
end
section
variable {ops : Array Oper} {Q : Exit → Act → World → Prop} {md : Region.Mode} {S : World → Prop} {z : Nat} {o : Oper} {a : Act} {fuel : Nat} {w w1 : World} {i : Nat} {L L' : Array Bool}
/-- .. a call of a Go function, the only one that may come up. -/
theorem z_call {d : Nat} {f : FuncId} {args : Array Value} {tmps : Array Value} {ds : List Deferred} (hr : Region.ready md ops L = [i]) (hi : ops[i]? = some o) (hd : o.dst = some d) (hw : Region.wanted o (yielded ops tmps) = true)
    (he : ∀ w, (execOp (Act.mk tmps ds).eval o).run Tryz.prog w = .ok (.enter f args) w) (hL : L.setIfInBounds i true = L')
    (h : Calls Tryz.prog f args w fun e w' => ∃ v, e = .returned v ∧ S w' ∧ Until md ops Q S z fuel L' ⟨tmps.setIfInBounds d v, ds⟩ w') : Until md ops Q S z (fuel + 1) L ⟨tmps, ds⟩ w := by
  subst hL
  refine z_one hr hi hw ?_
  unfold Oper.wp
  rw [he w, Oper.upon_enter]
  refine h.mono fun e w' ⟨v, he, h1, h2⟩ => ?_
  subst he
  show _ ∧ Until _ _ _ _ _ _ _ (Act.put _ _ _) _
  rw [hd]
  exact ⟨fun _ => h1, h2⟩
end
section
variable {ops : Array Oper} {o : Oper} {a : Act} {w w' : World} {rest : List Oper} {Q : Exit → Act → World → Prop}
/-- An operation of a region that keeps its order, by the same laws. -/
theorem wp_y {v : Value} {d : Nat} {tmps T : Array Value} {ds : List Deferred} (hg : o.guard = none) (hd : o.dst = some d) (hy : YieldsIf Tryz.prog ops (fun w' => w' = w) o v ⟨tmps, ds⟩) (hT : tmps.setIfInBounds d v = T) (hK : wpList Tryz.prog ops Q rest ⟨T, ds⟩ w) : wpList Tryz.prog ops Q (o :: rest) ⟨tmps, ds⟩ w := by
  subst hT
  refine wpList_plain hg fun K hK' => ?_
  rcases hy with ⟨_, h⟩ | ⟨h, _⟩
  · unfold Oper.wp
    rw [h w rfl, Oper.upon_value]
    refine hK' _ _ ?_
    rw [hd]; exact hK
  · rw [Region.wanted, hg] at h; cases h
theorem wp_do {tmps : Array Value} {ds : List Deferred} (hg : o.guard = none) (hd : o.dst = none) (hr : (execOp (Act.mk tmps ds).eval o).run Tryz.prog w = .ok .skip w') (hK : wpList Tryz.prog ops Q rest ⟨tmps, ds⟩ w') : wpList Tryz.prog ops Q (o :: rest) ⟨tmps, ds⟩ w := by
  refine wpList_plain hg fun K hK' => ?_
  unfold Oper.wp
  rw [hr]
  simp only [Oper.upon, hd]
  exact hK' _ _ hK
theorem wp_run {v : Value} {d : Nat} {tmps T : Array Value} {ds : List Deferred} (hg : o.guard = none) (hd : o.dst = some d) (hr : (execOp (Act.mk tmps ds).eval o).run Tryz.prog w = .ok (.value v) w') (hT : tmps.setIfInBounds d v = T) (hK : wpList Tryz.prog ops Q rest ⟨T, ds⟩ w') : wpList Tryz.prog ops Q (o :: rest) ⟨tmps, ds⟩ w := by
  subst hT
  refine wpList_plain hg fun K hK' => ?_
  unfold Oper.wp
  rw [hr, Oper.upon_value]
  refine hK' _ _ ?_
  rw [hd]; exact hK
end
section
variable {o : Oper} {a : Act} {w w1 : World}
theorem run_mkOp {t : TypeId} {p q : Operand} {x y v : Value} (hop : o.op = .makeSlice t p q) (hp : a.eval p = x) (hq : a.eval q = y) (hr : (Instr.makeSlice t x y).run Tryz.prog w = .ok v w1) :
    (execOp a.eval o).run Tryz.prog w = .ok (.value v) w1 := by
  unfold execOp; rw [hop]; simp only [hp, hq, Sem.run_bind, hr, Result.andThen_ok]; rfl
theorem run_appOp {t : TypeId} {x y : Operand} {p q v : Value} (hop : o.op = .call { callee := .builtin .append, args := #[x, y], argTypes := #[t, t] }) (hx : a.eval x = p) (hy : a.eval y = q) (hr : (Builtin.append_ #[t, t] o.type #[p, q]).run Tryz.prog w = .ok v w1) :
    (execOp a.eval o).run Tryz.prog w = .ok (.value v) w1 := by
  unfold execOp
  simp only [hop, resolve, invoke, builtin, Sem.run_bind, Sem.run_pure, Result.andThen_ok, List.map_toArray, List.map_cons, List.map_nil, hx, hy, hr]
theorem run_copyOp {t : TypeId} {x y : Operand} {p q v : Value} (hop : o.op = .call { callee := .builtin .copy, args := #[x, y], argTypes := #[t, t] }) (hx : a.eval x = p) (hy : a.eval y = q) (hr : (Builtin.copy_ #[t, t] o.type #[p, q]).run Tryz.prog w = .ok v w1) :
    (execOp a.eval o).run Tryz.prog w = .ok (.value v) w1 := by
  unfold execOp
  simp only [hop, resolve, invoke, builtin, Sem.run_bind, Sem.run_pure, Result.andThen_ok, List.map_toArray, List.map_cons, List.map_nil, hx, hy, hr]
theorem run_bsOp {t : TypeId} {n : Nat} {ps : Array (Nat × Operand)} {xs : Array (Nat × Value)} {v : Value} (hop : o.op = .buildSlice t n ps) (hp : (ps.map fun (i, x) => (i, a.eval x)) = xs) (hr : (Instr.buildSlice t n xs).run Tryz.prog w = .ok v w1) :
    (execOp a.eval o).run Tryz.prog w = .ok (.value v) w1 := by
  unfold execOp; rw [hop]; simp only [hp, Sem.run_bind, hr, Result.andThen_ok]; rfl
theorem run_buildOp {t : TypeId} {ps : Array (Nat × Operand)} {xs : Array (Nat × Value)} {v : Value} (hop : o.op = .build t ps) (hp : (ps.map fun (i, x) => (i, a.eval x)) = xs) (hr : (Instr.build t xs).run Tryz.prog w = .ok v w1) :
    (execOp a.eval o).run Tryz.prog w = .ok (.value v) w1 := by
  unfold execOp; rw [hop]; simp only [hp, Sem.run_bind, hr, Result.andThen_ok]; rfl
theorem run_alOp {t : TypeId} {v : Value} (hop : o.op = .alloc t) (hr : (Instr.alloc t true (.tuple #[])).run Tryz.prog w = .ok v w1) :
    (execOp a.eval o).run Tryz.prog w = .ok (.value v) w1 := by
  unfold execOp; rw [hop]; simp only [Sem.run_bind, hr, Result.andThen_ok]; rfl
theorem run_cvOp {s t : TypeId} {x : Operand} {p v : Value} (hop : o.op = .convert s t x) (hx : a.eval x = p) (hr : (convert s t p).run Tryz.prog w = .ok v w1) :
    (execOp a.eval o).run Tryz.prog w = .ok (.value v) w1 := by
  unfold execOp; rw [hop]; simp only [hx, Sem.run_bind, hr, Result.andThen_ok]; rfl
theorem run_asg {x : Operand} {v : Value} (hop : o.op = .assign x) (hv : a.eval x = v) : (execOp a.eval o).run Tryz.prog w = .ok (.value v) w := by
  unfold execOp; rw [hop]; simp only [hv, Sem.run_pure]
end
section
variable {ops : Array Oper} {S : World → Prop} {o : Oper} {a : Act}
theorem y_index {x y : Operand} {t : TypeId} {p k v : Value} (hop : o.op = .indexAddr t x y) (hw : Region.wanted o (yielded ops a.tmps) = true := by kernel_rfl) (hx : a.eval x = p := by kernel_rfl) (hy : a.eval y = k := by kernel_rfl)
    (hr : ∀ w, (Instr.indexAt t p k).run Tryz.prog w = .ok v w) : YieldsIf Tryz.prog ops S o v a :=
  .inl ⟨hw, fun w _ => by unfold execOp; rw [hop]; simp only [hx, hy, Sem.run_bind, hr w, Result.andThen_ok]; rfl⟩
theorem y_slice {x : Operand} {t : TypeId} {lo hi mx : Option Operand} {p v : Value} {l h m : Option Value} (hop : o.op = .slice t x lo hi mx) (hw : Region.wanted o (yielded ops a.tmps) = true) (hx : a.eval x = p)
    (hl : lo.map a.eval = l) (hh : hi.map a.eval = h) (hm : mx.map a.eval = m) (hr : ∀ w, (Instr.sliceAt t p l h m).run Tryz.prog w = .ok v w) : YieldsIf Tryz.prog ops S o v a :=
  .inl ⟨hw, fun w _ => by unfold execOp; rw [hop]; simp only [hx, hl, hh, hm, Sem.run_bind, hr w, Result.andThen_ok]; rfl⟩
theorem y_ext {x : Operand} {i : Nat} {p v : Value} (hop : o.op = .extract x i) (hw : Region.wanted o (yielded ops a.tmps) = true := by kernel_rfl) (hx : a.eval x = p := by kernel_rfl)
    (hr : ∀ w, (Instr.extract p i).run Tryz.prog w = .ok v w) : YieldsIf Tryz.prog ops S o v a :=
  .inl ⟨hw, fun w _ => by unfold execOp; rw [hop]; simp only [hx, Sem.run_bind, hr w, Result.andThen_ok]; rfl⟩
end
end Go.Proofs.YtcmgclkbhhdnaaaGreatDoor
namespace Go.Proofs.YtcmgclkbhhdnaaaGreatDoor
open Go Go.RowKit

/-- Bytes, cut or filled up with noughts. -/
def padTo (n : Nat) (l : List UInt8) : List UInt8 := l.take n ++ List.replicate (n - l.length) 0
theorem padTo_len (n : Nat) (l : List UInt8) : (padTo n l).length = n := by
  unfold padTo; rw [List.length_append, List.length_take, List.length_replicate]; omega
theorem padTo_self {n : Nat} {l : List UInt8} (h : l.length = n) : padTo n l = l := by
  unfold padTo; rw [List.take_of_length_le (by omega), h, Nat.sub_self]; simp
def hdB (s m : Int) : List UInt8 := vb (zig s) ++ vb (zig m)
def frBody (b : List UInt8) (s m : Int) : List UInt8 := padTo 112 b ++ padTo 12 (hdB s m)
theorem frBody_len (b : List UInt8) (s m : Int) : (frBody b s m).length = 124 := by unfold frBody; rw [List.length_append, padTo_len, padTo_len]
/-- A sum's four bytes, the lowest first. -/
def le4 (x : Nat) : List UInt8 := (List.range 4).map fun i => UInt8.ofNat (x / 2 ^ (8 * i) % 256)
theorem le4_len (x : Nat) : (le4 x).length = 4 := by simp [le4]
/-- A whole sector. -/
def frameOf (kd b : List UInt8) (s m : Int) : List UInt8 := frBody b s m ++ le4 (crcOf (kd ++ frBody b s m))
theorem frameOf_len (kd b : List UInt8) (s m : Int) : (frameOf kd b s m).length = 128 := by unfold frameOf; rw [List.length_append, frBody_len, le4_len]
theorem frameOf_body (kd b : List UInt8) (s m : Int) : (frameOf kd b s m).take 124 = frBody b s m := by
  unfold frameOf; rw [List.take_append_of_le_length (by rw [frBody_len]; exact Nat.le_refl _), List.take_of_length_le (by rw [frBody_len]; exact Nat.le_refl _)]
theorem frameOf_bytes (kd b : List UInt8) (s m : Int) : (frameOf kd b s m).take 112 = padTo 112 b := by
  have : (frameOf kd b s m).take 112 = ((frameOf kd b s m).take 124).take 112 := by rw [List.take_take]; rfl
  rw [this, frameOf_body]
  unfold frBody
  rw [List.take_append_of_le_length (by rw [padTo_len]; exact Nat.le_refl _), List.take_of_length_le (by rw [padTo_len]; exact Nat.le_refl _)]
/-- What a frame says. -/
def headOf (kd f : List UInt8) : Int × Int × Bool := match tInt (f.take 124) 112 with
  | none => (0, 0, false)
  | some (s, k) => match tInt (f.take 124) (112 + k) with
    | none => (0, 0, false)
    | some (m, _) => if frameOf kd (f.take 112) s m = f then (s, m, true) else (0, 0, false)
/-- May these be a head's numbers? -/
def HdOk (s m : Int) : Prop := (-9223372036854775808 ≤ s ∧ s ≤ 9223372036854775807) ∧ 0 ≤ m ∧ m < 8192
theorem hdB_len {s m : Int} (h : HdOk s m) : (hdB s m).length ≤ 12 := by
  have h1 := zvb_len h.1.1 h.1.2
  have h2 : (vb (zig m)).length ≤ 1 + 1 := vb_len 1 _ (by unfold zig; have := h.2; split <;> omega)
  unfold hdB; rw [List.length_append]; omega
theorem padTo_pre {n : Nat} {l : List UInt8} (h : l.length ≤ n) : ∃ r, padTo n l = l ++ r := by
  unfold padTo; rw [List.take_of_length_le h]; exact ⟨_, rfl⟩
theorem tInt_here {l p r : List UInt8} {n : Int} {j : Nat} (hl : l = p ++ (vb (zig n) ++ r)) (hj : p.length = j) (h0 : -9223372036854775808 ≤ n) (h1 : n ≤ 9223372036854775807) : tInt l (j : Int) = some (n, (vb (zig n)).length) := by
  subst hl hj
  unfold tInt
  rw [if_pos ⟨by omega, by rw [List.length_append]; omega⟩, Int.toNat_natCast, List.drop_left, takeI_put h0 h1]
theorem headOf_frame (kd b : List UInt8) {s m : Int} (h : HdOk s m) : headOf kd (frameOf kd b s m) = (s, m, true) := by
  obtain ⟨r, hr⟩ := padTo_pre (hdB_len h)
  have hb : frBody b s m = padTo 112 b ++ (vb (zig s) ++ (vb (zig m) ++ r)) := by unfold frBody; rw [hr]; unfold hdB; rw [List.append_assoc]
  have t1 : tInt (frBody b s m) ((112 : Nat) : Int) = some (s, (vb (zig s)).length) := tInt_here hb (padTo_len 112 b) h.1.1 h.1.2
  have t2 : tInt (frBody b s m) ((112 + (vb (zig s)).length : Nat) : Int) = some (m, (vb (zig m)).length) :=
    tInt_here (p := padTo 112 b ++ vb (zig s)) (r := r) (by rw [hb]; simp only [List.append_assoc]) (by rw [List.length_append, padTo_len]) (by have := h.2; omega) (by have := h.2; omega)
  unfold headOf
  rw [frameOf_body, show (112 : Int) = ((112 : Nat) : Int) from rfl, t1]
  simp only
  rw [show ((112 : Nat) : Int) + ((vb (zig s)).length : Nat) = ((112 + (vb (zig s)).length : Nat) : Int) by omega, t2]
  simp only
  have hp : padTo 112 (padTo 112 b) = padTo 112 b := padTo_self (padTo_len 112 b)
  have hfe : frBody (padTo 112 b) s m = frBody b s m := by unfold frBody; rw [hp]
  rw [frameOf_bytes, if_pos (by unfold frameOf; rw [hfe])]
end Go.Proofs.YtcmgclkbhhdnaaaGreatDoor
namespace Go.Proofs.YtcmgclkbhhdnaaaGreatDoor
open Go Go.RowKit

/-- A row of bytes lies in block g. -/
def Rw (w : World) (g : Nat) (t : TypeId) (m : List UInt8) : Prop := w.heap[g]? = some (.cells (cells8 m).toArray t (0, 0))
theorem Rw.lt {w : World} {g : Nat} {t : TypeId} {m : List UInt8} (h : Rw w g t m) : g < w.heap.size := heap_lt h
theorem Rw.below {B : Nat} {w w' : World} {g : Nat} {t : TypeId} {m : List UInt8} (h : Rw w g t m) (hB : Below B w w') (hg : g < B) : Rw w' g t m := below_at hB h hg
theorem Rw.rd {w : World} {g : Nat} {t : TypeId} {m : List UInt8} (h : Rw w g t m) : Rd w g 0 m := fun k hk => by
  rw [Nat.zero_add]
  exact cell_at h k (by simpa using cells8_get m k hk)
theorem Rd.part {w : World} {g o : Nat} {m : List UInt8} (h : Rd w g o m) (k n : Nat) : Rd w g (o + k) ((m.drop k).take n) := fun j hj => by
  rw [List.length_take, List.length_drop] at hj
  have := h (k + j) (by omega)
  rw [Nat.add_assoc, this]
  simp only [at8, List.getD]
  rw [List.getElem?_take_of_lt (by omega), List.getElem?_drop]
theorem cells8_size (l : List UInt8) : (cells8 l).toArray.size = l.length := by simp [cells8]
/-- An array of bytes as a value. -/
def V8 (l : List UInt8) : Value := .agg (cells8 l).toArray
theorem under75 : Tryz.prog.underlying 141 = some (.array 128 5) := by kernel_rfl
theorem size75 : (Tryz.prog.info? 141).map (·.size) = some 128 := by kernel_rfl
theorem agg75 (w : World) : (isAgg 141).run Tryz.prog w = .ok true w := by simp [isAgg, run_underlying under75]
def z128 : List UInt8 := List.replicate 128 0
theorem z128_len : z128.length = 128 := by simp [z128]
theorem alloc75 (w : World) : (Instr.alloc 141 true (.tuple #[])).run Tryz.prog w = .ok (.pointer (some ⟨w.heap.size, 0, none⟩)) (w.alloc (.cells (cells8 z128).toArray 141)) := by
  have hz : (zeroValue 141).run Tryz.prog w = .ok (.agg (cells8 z128).toArray) w := (zero_of_info (n := 128) (by kernel_rfl)).1 w
  simp only [Instr.alloc, Sem.run_bind, hz, Result.andThen_ok]
  rfl
theorem load75 {w : World} {g : Nat} {t : TypeId} {l : List UInt8} (hl : l.length = 128) (h : Rw w g t l) : (Instr.loadAt 141 (.pointer (some ⟨g, 0, none⟩))).run Tryz.prog w = .ok (V8 l) w :=
  loadAt_k agg75 size75 w g 0 (cells8 l).toArray t (0, 0) (cells8 l) (by rw [cells8_len]; exact hl) h (fun j v hv => by simpa using hv)
theorem store75 {w : World} {g : Nat} {t : TypeId} {l l' : List UInt8} (hl : l.length = 128) (hl' : l'.length = 128) (h : Rw w g t l) : (Instr.storeAt 141 (.pointer (some ⟨g, 0, none⟩)) (V8 l')).run Tryz.prog w = .ok () (w.setRow g (cells8 l').toArray) := by
  simp only [Instr.storeAt, Instr.sureAddr, Sem.run_bind, Sem.run_pure, Result.andThen]
  exact run_storeVar_row w g _ _ (cells8 l).toArray (cells8 l').toArray h (by rw [cells8_size, hl']; exact size75) (by rw [cells8_size, cells8_size, hl, hl']) (by simp [cells8]; intro x _; rfl)
theorem Rw.row {w : World} {g : Nat} {t : TypeId} {l : List UInt8} (h : Rw w g t l) (l' : List UInt8) : Rw (w.setRow g (cells8 l').toArray) g t l' := setRow_heap w g _ _ t _ h
theorem Rw.other {w : World} {g : Nat} {t : TypeId} {l : List UInt8} (h : Rw w g t l) {g' : Nat} (hg : g ≠ g') (c : Array Value) : Rw (w.setRow g' c) g t l := (setRow_other w g' g c hg).trans h
theorem below_row {B : Nat} {a w : World} (h : Below B a w) {g : Nat} (hg : B ≤ g) (c : Array Value) : Below B a (w.setRow g c) :=
  h.trans ⟨rfl, rfl, rfl, by simp [World.setRow], fun k hk => setRow_other w g k c (by omega)⟩
theorem Rw.set {w : World} {g : Nat} {t : TypeId} {l : List UInt8} (h : Rw w g t l) (k : Nat) (x : UInt8) : Rw (w.setCell ⟨g, k, none⟩ (cb x)) g t (l.set k x) := by
  unfold Rw; rw [heap_setCell h]
  congr 2
  simp [cells8, List.map_set]
theorem store5r {w : World} {g k : Nat} {t : TypeId} {l : List UInt8} (h : Rw w g t l) (hk : k < l.length) (x : UInt8) : (Instr.storeAt 5 (.pointer (some ⟨g, k, none⟩)) (cb x)).run Tryz.prog w = .ok () (w.setCell ⟨g, k, none⟩ (cb x)) := by
  have hc := h.rd k hk
  rw [Nat.zero_add] at hc
  exact store1 Tryz.sizeOf5 (cb x) rfl rfl hc (open_at h k)
theorem sl75b (g : Nat) (w : World) : (Instr.sliceAt 141 (.pointer (some ⟨g, 0, none⟩)) none (some (.int .i64 112)) none).run Tryz.prog w = .ok (.slice (some ⟨g, 0, none⟩) 112 128) w := by go_simp
theorem sl75c (g : Nat) (w : World) : (Instr.sliceAt 141 (.pointer (some ⟨g, 0, none⟩)) none (some (.int .i64 124)) none).run Tryz.prog w = .ok (.slice (some ⟨g, 0, none⟩) 124 128) w := by go_simp
theorem sl75h (g : Nat) (w : World) : (Instr.sliceAt 141 (.pointer (some ⟨g, 0, none⟩)) (some (.int .i64 112)) (some (.int .i64 124)) none).run Tryz.prog w = .ok (.slice (some ⟨g, 112, none⟩) 12 16) w := by go_simp
theorem sl75a (g : Nat) (w : World) : (Instr.sliceAt 141 (.pointer (some ⟨g, 0, none⟩)) none none none).run Tryz.prog w = .ok (.slice (some ⟨g, 0, none⟩) 128 128) w := by go_simp
theorem idx75 (g k : Nat) (h : k < 128) (w : World) : (Instr.indexAt 141 (.pointer (some ⟨g, 0, none⟩)) (.int .i64 k)).run Tryz.prog w = .ok (.pointer (some ⟨g, k, none⟩)) w := by
  have h1 : (k : Int) < 128 := by omega
  go_simp
/-- Bytes are copied into a row. -/
theorem copy_row {w : World} {g o n cap : Nat} {t ty : TypeId} {m l : List UInt8} {v : Value} (h : Rw w g t m) (hv : Sl w v l) (hon : o + n ≤ m.length) :
    ∃ w', (Builtin.copy_ #[49, 49] ty #[.slice (some ⟨g, o, none⟩) n cap, v]).run Tryz.prog w = .ok (goInt ((min l.length n : Nat) : Int)) w' ∧ Rw w' g t (m.take o ++ l.take n ++ m.drop (o + min l.length n)) ∧ Fr [g] w w' := by
  obtain ⟨a, c, rfl, _, hnil, hr⟩ := hv
  have hsz : (Tryz.prog.info? 5).map (·.size) = some 1 := by kernel_rfl
  by_cases h0 : min l.length n = 0
  · have hr := run_copy_none (P := Tryz.prog) w 49 49 ty 5 (some ⟨g, o, none⟩) a n cap l.length c Tryz.underlying49 hsz h0
    refine ⟨w, by rw [h0]; exact hr, ?_, Fr.refl _ _⟩
    have : l.take n = [] := by apply List.eq_nil_of_length_eq_zero; rw [List.length_take]; omega
    rw [this, h0]
    simpa using h
  · obtain ⟨b, off, rfl, hrd⟩ := hr (by intro e; rw [e] at h0; simp at h0)
    have hlen : (cells8 (l.take n)).length = min l.length n := by rw [cells8_len, List.length_take]; omega
    have hrun := run_copy_row (P := Tryz.prog) w 49 49 ty 5 g o n cap ⟨b, off, none⟩ l.length c (cells8 m).toArray t (cells8 (l.take n)) Tryz.underlying49 hsz h hlen
      (fun j u hu => by
        have hj : j < (l.take n).length := by have := (List.getElem?_eq_some_iff.1 hu).1; rwa [cells8_len] at this
        rw [Addr.add_lit, hrd j (by rw [List.length_take] at hj; omega), ← hu, cells8_get _ j hj]
        have hj2 := hj; rw [List.length_take] at hj2
        simp only [at8, List.getD]; rw [List.getElem?_take_of_lt (by omega)]) (by rw [hlen, cells8_size]; omega) (cells8_one _)
    rw [hlen] at hrun
    refine ⟨_, hrun, ?_, Fr.setRow w g _⟩
    have e : ((cells8 m).toArray.toList.take o ++ cells8 (l.take n) ++ (cells8 m).toArray.toList.drop (o + min l.length n)).toArray = (cells8 (m.take o ++ l.take n ++ m.drop (o + min l.length n))).toArray := by
      simp [cells8, List.map_take, List.map_drop]
    rw [e]
    exact h.row _
theorem results_cell1 {fn : Func} {p : Tmp} {ty : TypeId} (h : fn.results = #[.cell p ty]) (tmps : Array Value) (P : Program) (w : World) :
    (results fn tmps).run P w = ((asAddr (tmps.getD p undef)).run P w).andThen fun a w₁ => (loadVar ty a).run P w₁ := by
  simp only [results, h]
  simp [Sem.run_bind, Result.andThen]
/-- An array that is returned out of its cell. -/
theorem ret_arr {f : Func} {R : Ending → World → Prop} {a : Act} {w : World} {p : Tmp} {ty : TypeId} {b n : Nat} {e : TypeId} {c : Array Value} (hf : f.results = #[.cell p ty]) (hd : a.defers = []) (hp : a.tmps.getD p undef = .pointer (some ⟨b, 0, none⟩))
    (hg : w.heap[b]? = some (.cells c ty (0, 0))) (hu : Tryz.prog.underlying ty = some (.array n e)) (hi : (Tryz.prog.info? ty).map (·.size) = some c.size) (hR : R (.returned (.agg c)) w) : bodyPost Tryz.prog f R .ret a w := by
  refine bodyPost_ret (v := .agg c) ?_ hd hR
  rw [results_cell1 hf, hp]
  simp only [asAddr, Sem.run_pure, Result.andThen]
  exact run_loadVar_row _ _ ty ty c (0, 0) _ hg hu rfl hi
/-- '[]byte(s)'. -/
theorem conv_any (w : World) (l : List UInt8) : ∃ w' cap, (convert 9 49 (.string ⟨l.toArray⟩)).run Tryz.prog w = .ok (.slice (some ⟨w.heap.size, 0, none⟩) l.length cap) w' ∧ Sl w' (.slice (some ⟨w.heap.size, 0, none⟩) l.length cap) l ∧ w.heap.size < w'.heap.size ∧ Below w.heap.size w w' := by
  have hsz : (⟨l.toArray⟩ : ByteArray).size = l.length := by simp [ByteArray.size]
  have h := run_bytes_of_string (P := Tryz.prog) w 9 49 5 ⟨l.toArray⟩ Tryz.underlying9 Tryz.underlying49 Tryz.underlying5
  rw [hsz] at h
  have hcap : l.length ≤ grownCap w l.length 0 5 := grownCap_ge w l.length 0 _
  generalize grownCap w l.length 0 5 = cap at *
  refine ⟨_, cap, h, Sl.mk (fun k hk => ?_) hcap, by show _ < (w.heap.push _).size; simp, ((Below.refl w.heap.size w).drew).alloc (Nat.le_refl _) _⟩
  rw [Nat.zero_add]
  show (w.drew.alloc _).cell? ⟨w.drew.heap.size, k, none⟩ = _
  have hk' : k < (⟨l.toArray⟩ : ByteArray).data.size := by simpa using hk
  rw [World.cell?_alloc_mark, bytesRow_at _ cap k hk']
  simp [at8, List.getD, hk]
end Go.Proofs.YtcmgclkbhhdnaaaGreatDoor
namespace Go.Proofs.YtcmgclkbhhdnaaaGreatDoor
open Go Go.RowKit

/-- A head in a block of its own. -/
def Hd (w : World) (hb : Nat) (s m : Int) : Prop := w.heap[hb]? = some (.cells #[.int .i64 s, .int .i64 m] 131 (0, 0))
theorem run_boxOp {o : Oper} {a : Act} {w w1 : World} {t : TypeId} {x : Operand} {p v : Value} (hop : o.op = .box t x) (hx : a.eval x = p) (hr : (Instr.box t p).run Tryz.prog w = .ok v w1) :
    (execOp a.eval o).run Tryz.prog w = .ok (.value v) w1 := by
  unfold execOp; rw [hop]; simp only [hx, Sem.run_bind, hr, Result.andThen_ok]; rfl
theorem box78 (w : World) (s m : Int) : (Instr.box 131 (.agg #[.int .i64 s, .int .i64 m])).run Tryz.prog w = .ok (.pointer (some ⟨w.heap.size, 0, none⟩)) (w.alloc (.cells #[.int .i64 s, .int .i64 m] 131)) := by go_simp
theorem fa78_0 (b : Nat) (w : World) : (Instr.fieldAt 131 (.pointer (some ⟨b, 0, none⟩)) 0).run Tryz.prog w = .ok (.pointer (some ⟨b, 0, none⟩)) w := by go_simp
theorem fa78_1 (b : Nat) (w : World) : (Instr.fieldAt 131 (.pointer (some ⟨b, 0, none⟩)) 1).run Tryz.prog w = .ok (.pointer (some ⟨b, 1, none⟩)) w := by go_simp
theorem bslice46 (w : World) (kb n kc fb : Nat) : (Instr.buildSlice 104 2 #[(0, .slice (some ⟨kb, 0, none⟩) n kc), (1, .slice (some ⟨fb, 0, none⟩) 124 128)]).run Tryz.prog w = .ok (.slice (some ⟨w.heap.size, 0, none⟩) 2 2) (w.alloc (.cells #[.slice (some ⟨kb, 0, none⟩) n kc, .slice (some ⟨fb, 0, none⟩) 124 128] 49)) := by go_simp
theorem add124 (k : Nat) (h : k < 4) (w : World) : (binOp .add 3 (.int .i64 124) (.int .i64 k)).run Tryz.prog w = .ok (.int .i64 (124 + k : Nat)) w := by
  have h1 : IntKind.i64.wrap (124 + (k : Int)) = ((124 + k : Nat) : Int) := by rw [IntWalk.i64_in _ ⟨by omega, by omega⟩]; omega
  generalize 124 + k = q at *
  go_simp
theorem mul8 (k : Nat) (h : k < 4) (w : World) : (binOp .mul 3 (.int .i64 8) (.int .i64 k)).run Tryz.prog w = .ok (.int .i64 (8 * k : Nat)) w := by
  have h1 : IntKind.i64.wrap (8 * (k : Int)) = ((8 * k : Nat) : Int) := by rw [IntWalk.i64_in _ ⟨by omega, by omega⟩]; omega
  generalize 8 * k = q at *
  go_simp
theorem shr114 (x s : Nat) (h : s ≤ 32) (w : World) : (binOp .shr 172 (.int .u32 x) (.int .i64 (s : Nat))).run Tryz.prog w = .ok (.int .u32 (x / 2 ^ s : Nat)) w := by
  have h1 : (x : Int) / 2 ^ s = ((x / 2 ^ s : Nat) : Int) := by rw [Int.natCast_ediv, Int.natCast_pow]; rfl
  have h2 : (s : Int) ≤ 32 := by omega
  generalize x / 2 ^ s = q at *
  go_simp
theorem cvt114 (x : Nat) (w : World) : (convert 172 5 (.int .u32 x)).run Tryz.prog w = .ok (cb (UInt8.ofNat (x % 256))) w := by
  have h1 : IntKind.u8.wrap (x : Int) = ((x % 256 : Nat) : Int) := by rw [IntKind.wrap_u8]; omega
  unfold cb; rw [u8_ofNat (Nat.mod_lt _ (by decide))]
  generalize x % 256 = q at *
  go_simp
theorem le4_take (x k : Nat) (hk : k < 4) : (le4 x).take (k + 1) = (le4 x).take k ++ [UInt8.ofNat (x / 2 ^ (8 * k) % 256)] := by
  rw [List.take_add_one, List.getElem?_eq_getElem (by rw [le4_len]; exact hk), Option.toList_some]
  simp [le4]
theorem set_end (p q : List UInt8) (k : Nat) (x : UInt8) (hk : k < 4) (hq : q.length = k) (hp : p.length = 124) : (p ++ q ++ List.replicate (4 - k) 0).set (124 + k) x = p ++ (q ++ [x]) ++ List.replicate (4 - (k + 1)) 0 := by
  obtain ⟨j, hj⟩ : ∃ j, 4 - k = j + 1 := ⟨4 - k - 1, by omega⟩
  rw [hj, show 4 - (k + 1) = j by omega, List.replicate_succ, List.set_append_right _ _ (by rw [List.length_append]; omega)]
  rw [List.length_append, hp, hq, Nat.sub_self, List.set_cons_zero]
  simp
theorem lay_one (b : List UInt8) : z128.take 0 ++ b.take 112 ++ z128.drop (0 + min b.length 112) = padTo 112 b ++ List.replicate 16 0 := by
  unfold z128 padTo
  rw [List.take_zero, List.nil_append, Nat.zero_add, List.drop_replicate, List.append_assoc, List.replicate_append_replicate]
  congr 2; omega
theorem lay_two (b h : List UInt8) : (padTo 112 b ++ List.replicate 16 0).take 112 ++ h.take 12 ++ (padTo 112 b ++ List.replicate 16 (0 : UInt8)).drop (112 + min h.length 12) = padTo 112 b ++ padTo 12 h ++ List.replicate 4 0 := by
  have h1 := padTo_len 112 b
  rw [List.take_append_of_le_length (by omega), List.take_of_length_le (by omega), List.drop_append, List.drop_of_length_le (by omega), List.nil_append, h1, List.drop_replicate]
  unfold padTo
  simp only [List.append_assoc, List.replicate_append_replicate]
  congr 4; omega
set_option maxRecDepth 100000 in
set_option maxHeartbeats 2000000 in
theorem framed_any (kd b : List UInt8) (s m : Int) (v : Value) (w : World) (ht : Tab w) (hv : Sl w v b) (hs : -9223372036854775808 ≤ s ∧ s ≤ 9223372036854775807) (hm : -9223372036854775808 ≤ m ∧ m ≤ 9223372036854775807) (hk : kd.length ≤ 1000) :
    Calls Tryz.prog 74 #[.string ⟨kd.toArray⟩, v, .agg #[.int .i64 s, .int .i64 m]] w fun e w' => e = .returned (V8 (frameOf kd b s m)) ∧ Below w.heap.size w w' := by
  have hz1 : (w.alloc (.cells #[.int .i64 s, .int .i64 m] 131)).heap.size = w.heap.size + 1 := by show (w.heap.push _).size = _; simp
  have ha0 := alloc75 (w.alloc (.cells #[.int .i64 s, .int .i64 m] 131))
  rw [hz1] at ha0
  obtain ⟨w1, hw1⟩ : ∃ w1, w1 = w.alloc (.cells #[.int .i64 s, .int .i64 m] 131) := ⟨_, rfl⟩
  rw [← hw1] at ha0 hz1
  have hB1 : Below w.heap.size w w1 := by rw [hw1]; exact (Below.refl _ _).alloc (Nat.le_refl _) _
  have hh1 : Hd w1 w.heap.size s m := by rw [hw1]; exact heap_alloc_last w _
  obtain ⟨w2, hw2⟩ : ∃ w2, w2 = w1.alloc (.cells (cells8 z128).toArray 141) := ⟨_, rfl⟩
  have hz2 : w2.heap.size = w.heap.size + 2 := by rw [hw2]; show (w1.heap.push _).size = _; simp; omega
  have ha1 := alloc75 w2
  rw [hz2] at ha1
  have hB2 : Below w1.heap.size w1 w2 := by rw [hw2]; exact (Below.refl _ _).alloc (Nat.le_refl _) _
  have hr2 : Rw w2 (w.heap.size + 1) 141 z128 := by have := heap_alloc_last w1 (.cells (cells8 z128).toArray 141); rw [← hw2, hz1] at this; exact this
  obtain ⟨w3, hw3⟩ : ∃ w3, w3 = w2.alloc (.cells (cells8 z128).toArray 141) := ⟨_, rfl⟩
  have hB3 : Below w2.heap.size w2 w3 := by rw [hw3]; exact (Below.refl _ _).alloc (Nat.le_refl _) _
  have hf3 : Rw w3 (w.heap.size + 2) 141 z128 := by have := heap_alloc_last w2 (.cells (cells8 z128).toArray 141); rw [← hw3, hz2] at this; exact this
  have hr3 := hr2.below hB3 (by omega)
  have hB13 : Below w1.heap.size w1 w3 := hB2.trans (hB3.mono (by omega))
  have hh3 : Hd w3 w.heap.size s m := below_at hB13 hh1 (by omega)
  have hBw3 : Below w.heap.size w w3 := hB1.trans (hB13.mono (by omega))
  obtain ⟨w4, hc4, hf4, hF4⟩ := copy_row (o := 0) (n := 112) (cap := 128) (ty := 3) hf3 (hv.below hBw3) (by rw [z128_len]; decide)
  have hz3 : w3.heap.size = w.heap.size + 3 := by rw [hw3]; show (w2.heap.push _).size = _; simp; omega
  rw [← hw2] at ha0
  rw [← hw3] at ha1
  have HA0 := hid ha0
  have HA1 := hid ha1
  have HW1 := hid hw1
  have hbd := box78 w s m
  rw [← hw1] at hbd
  clear ha0 ha1 hw1 hw2 hw3 hz1 hz2 hB2 hB3 hr2 hB13 hh1 hB1
  rw [lay_one] at hf4
  have hh4 : Hd w4 w.heap.size s m := hF4.at hh3 (by simp)
  have hr4 : Rw w4 (w.heap.size + 1) 141 z128 := hF4.at hr3 (by simp)
  have hB4 : Below w.heap.size w w4 := hBw3.trans (hF4.below (by omega) (by intro k hk; simp at hk; omega))
  have HBD := hid hbd
  have HC1 := hid hc4
  have HH := hid hh4
  have HF4 := hid hf4
  have HR4 := hid hr4
  have HB4 := hid hB4
  have HT0 := hid ht
  have HS := hid hs
  have HM := hid hm
  have HKD := hid hk
  have HFL : Hid ((padTo 112 b ++ List.replicate 16 (0 : UInt8)).length = 128) := hid (by rw [List.length_append, padTo_len, List.length_replicate])
  clear hf3 hr3 hh3 hBw3 hc4 hf4 hF4 hz3 HW1 hbd hh4 hr4 hB4 hs hm hk hv ht
  go_enter Tryz.func74, Tryz.ntmps74
  go_upto_region 0 with fail
  refine wp_region_lit ?_
  refine wp_run (v := .pointer (some ⟨w.heap.size, 0, none⟩)) rfl rfl (run_boxOp rfl (by kernel_rfl) HBD.out) rfl ?_
  refine wp_run (v := .pointer (some ⟨(w.heap.size + 1), 0, none⟩)) rfl rfl (run_alOp rfl HA0.out) rfl ?_
  try simp only [List.setIfInBounds_toArray, List.set_cons_zero, List.set_cons_succ]
  refine wp_end ?_
  go_upto_region 1 with fail
  refine wp_region_lit ?_
  refine wp_run (v := .pointer (some ⟨(w.heap.size + 2), 0, none⟩)) rfl rfl (run_alOp rfl HA1.out) rfl ?_
  try simp only [List.setIfInBounds_toArray, List.set_cons_zero, List.set_cons_succ]
  refine wp_end ?_
  clear HA0 HA1 HBD
  generalize hhb : w.heap.size = hb at *
  generalize hrb : hb + 1 = rb at *
  generalize hfb : hb + 2 = fb at *
  have HNE : Hid (hb ∉ [fb]) := hid (by simp; omega)
  go_upto_region 2 with fail
  refine wp_region_lit ?_
  refine wp_y (v := .slice (some ⟨fb, 0, none⟩) 112 128) rfl rfl (y_slice rfl (by kernel_rfl) (by kernel_rfl) (by kernel_rfl) (by kernel_rfl) (by kernel_rfl) (sl75b fb)) rfl ?_
  refine wp_y (v := v) rfl rfl (y_move rfl) rfl ?_
  refine wp_run (v := goInt ((min b.length 112 : Nat) : Int)) rfl rfl (run_copyOp rfl (by kernel_rfl) (by kernel_rfl) HC1.out) rfl ?_
  try simp only [List.setIfInBounds_toArray, List.set_cons_zero, List.set_cons_succ]
  refine wp_end ?_
  clear HC1
  go_upto_region 3 with fail
  refine h_openL (S := fun w' => Hd w' hb s m) (by kernel_rfl) (by kernel_rfl) (fun _ _ _ _ _ h => h) (L := #[false, false, false, false, false, false, false, false]) (by kernel_rfl) ?_
  intro Q' hns hP hN
  have hS := (show Hd w4.drew hb s m from HH.out)
  refine h_takeL (i := 0) (v := .slice (some ⟨fb, 112, none⟩) 12 16) hns rfl rfl (by kernel_rfl) (by kernel_rfl) hP (y_slice rfl (by kernel_rfl) (by kernel_rfl) (by kernel_rfl) (by kernel_rfl) (by kernel_rfl) (sl75h fb)) hS rfl (L' := #[true, false, false, false, false, false, false, false]) (by kernel_rfl) ?_
  refine h_takeL (i := 1) (v := .pointer (some ⟨hb, 0, none⟩)) hns rfl rfl (by kernel_rfl) (by kernel_rfl) hP (y_faddr rfl (hf := fa78_0 (hb))) hS rfl (L' := #[true, true, false, false, false, false, false, false]) (by kernel_rfl) ?_
  refine h_takeL (i := 2) (v := .int .i64 s) hns rfl rfl (by kernel_rfl) (by kernel_rfl) hP (y_load rfl (hl := fun w' h => load1 Tryz.isAgg2 (cell_at h 0 rfl))) hS rfl (L' := #[true, true, true, false, false, false, false, false]) (by kernel_rfl) ?_
  refine h_takeL (i := 4) (v := .pointer (some ⟨hb, 1, none⟩)) hns rfl rfl (by kernel_rfl) (by kernel_rfl) hP (y_faddr rfl (hf := fa78_1 (hb))) hS rfl (L' := #[true, true, true, false, true, false, false, false]) (by kernel_rfl) ?_
  refine h_takeL (i := 5) (v := .int .i64 m) hns rfl rfl (by kernel_rfl) (by kernel_rfl) hP (y_load rfl (hl := fun w' h => load1 Tryz.isAgg3 (cell_at h 1 rfl))) hS rfl (L' := #[true, true, true, false, true, true, false, false]) (by kernel_rfl) ?_
  refine h_callL (i := 3) (f := 108) (args := #[.slice none 0 0, .int .i64 s]) (by kernel_rfl) rfl rfl (by kernel_rfl) (enter_go rfl (by kernel_rfl) (fun w => by go_simp)) (L' := #[true, true, true, true, true, true, false, false]) (by kernel_rfl) ?_
  refine (putInt_any none [] 0 s _ (Sl.nil _) HS.out.1 HS.out.2 (by decide)).mono ?_
  rintro e w5 ⟨rfl, ho5, hB5⟩
  rw [List.nil_append] at ho5 ⊢
  have hsl5 := owns_sl ho5
  have hB45 : Below w4.heap.size w4 w5 := ⟨hB5.os, hB5.tape, hB5.output, hB5.size, hB5.block⟩
  have hS5 : Hd w5 hb s m := below_at hB45 HH.out (heap_lt HH.out)
  obtain ⟨g1, hg1⟩ : ∃ g1, g1 = w4.drew.heap.size := ⟨_, rfl⟩
  rw [← hg1] at hsl5 ⊢
  refine ⟨_, rfl, hS5, ?_⟩
  simp only [List.length_nil, Nat.zero_add]
  refine h_callL (i := 6) (f := 108) (args := #[.slice (some ⟨g1, 0, none⟩) (vb (zig s)).length 10, .int .i64 m]) (by kernel_rfl) rfl rfl (by kernel_rfl) (enter_go rfl (by kernel_rfl) (fun w => by go_simp)) (L' := #[true, true, true, true, true, true, true, false]) (by kernel_rfl) ?_
  refine (putInt_any _ _ 10 m w5 hsl5 HM.out.1 HM.out.2 (by have := zvb_len HS.out.1 HS.out.2; omega)).mono ?_
  rintro e w6 ⟨rfl, ho6, hB6⟩
  have hsl6 := owns_sl ho6
  have hB46 : Below w4.heap.size w4 w6 := hB45.trans (hB6.mono hB45.size)
  have hS6 : Hd w6 hb s m := below_at hB46 HH.out (heap_lt HH.out)
  have hf6 := HF4.out.below hB46 HF4.out.lt
  obtain ⟨w7, hc7, hf7, hF7⟩ := copy_row (o := 112) (n := 12) (cap := 16) (ty := 3) hf6 hsl6 (by rw [HFL.out]; decide)
  have hS7 : Hd w7 hb s m := hF7.at hS6 HNE.out
  obtain ⟨g2, hg2⟩ : ∃ g2, g2 = w5.heap.size := ⟨_, rfl⟩
  rw [← hg2] at hc7 ⊢
  refine ⟨_, rfl, hS6, ?_⟩
  simp only [List.setIfInBounds_toArray, List.set_cons_zero, List.set_cons_succ]
  refine h_valL (i := 7) (v := goInt ((min (hdB s m).length 12 : Nat) : Int)) (by kernel_rfl) rfl rfl (by kernel_rfl) (run_copyOp rfl (by kernel_rfl) (by kernel_rfl) hc7) hS7 rfl (L' := #[true, true, true, true, true, true, true, true]) (by kernel_rfl) ?_
  simp only [List.setIfInBounds_toArray, List.set_cons_zero, List.set_cons_succ]
  refine wpAnyH_done (by kernel_rfl) ?_ _
  refine hN _ _ ?_
  clear hP hN hns
  rw [lay_two] at hf7
  have hB47 : Below hb w w7 := HB4.out.trans ((hB46.mono (by have := HB4.out.size; omega)).trans (hF7.below (by have := HB4.out.size; have := hB46.size; omega) (by intro k hk; simp at hk; omega)))
  have hr7 : Rw w7 rb 141 z128 := hF7.at (HR4.out.below hB46 HR4.out.lt) (by simp; omega)
  obtain ⟨P, hP⟩ : ∃ P, P = frBody b s m := ⟨_, rfl⟩
  have hPl : P.length = 124 := by rw [hP]; exact frBody_len _ _ _
  have hf7' : Rw w7 fb 141 (P ++ List.replicate 4 0) := by rw [hP]; exact hf7
  obtain ⟨w8, kc, hcv, hsl8, hz8, hB8⟩ := conv_any w7 kd
  obtain ⟨kb, hkb⟩ : ∃ kb, kb = w7.heap.size := ⟨_, rfl⟩
  rw [← hkb] at hcv hsl8 hz8
  have hf8 := hf7'.below hB8 hf7'.lt
  have hr8 := hr7.below hB8 hr7.lt
  have hB9 : Below w8.heap.size w8 (w8.alloc (.cells #[.slice (some ⟨kb, 0, none⟩) kd.length kc, .slice (some ⟨fb, 0, none⟩) 124 128] 49)) := (Below.refl _ _).alloc (Nat.le_refl _) _
  have hrow9 := heap_alloc_last w8 (.cells #[.slice (some ⟨kb, 0, none⟩) kd.length kc, .slice (some ⟨fb, 0, none⟩) 124 128] 49)
  have hf9 := hf8.below hB9 hf8.lt
  have hr9 := hr8.below hB9 hr8.lt
  have hslP : Sl (w8.alloc (.cells #[.slice (some ⟨kb, 0, none⟩) kd.length kc, .slice (some ⟨fb, 0, none⟩) 124 128] 49)) (.slice (some ⟨fb, 0, none⟩) 124 128) P := by
    have h1 := hf9.rd.part 0 124
    rw [List.drop_zero, List.take_append_of_le_length (by omega), List.take_of_length_le (by omega)] at h1
    have h2 := Sl.mk (cap := 128) h1 (by omega)
    rw [hPl] at h2
    exact h2
  have hBw9 : Below hb w (w8.alloc (.cells #[.slice (some ⟨kb, 0, none⟩) kd.length kc, .slice (some ⟨fb, 0, none⟩) 124 128] 49)) := (hB47.trans (hB8.mono (by have := hB47.size; omega))).trans (hB9.mono (by have := hB47.size; have := hB8.size; omega))
  have hcrc := crc_any (some ⟨w8.heap.size, 0, none⟩) 2 2 [kd, P] (w8.alloc (.cells #[.slice (some ⟨kb, 0, none⟩) kd.length kc, .slice (some ⟨fb, 0, none⟩) 124 128] 49))
    (fun k hk => by
      match k, hk with
      | 0, _ => exact ⟨_, _, _, kc, rfl, by rw [Nat.zero_add]; exact cell_at hrow9 0 rfl, hsl8.below hB9⟩
      | 1, _ => exact ⟨_, _, _, 128, rfl, by show World.cell? _ ⟨_, 0 + 1, none⟩ = _; rw [cell_at hrow9 (0 + 1) rfl]; show some (Value.slice _ 124 128) = some (.slice _ P.length 128); rw [hPl], by show Sl _ (.slice _ P.length 128) P; rw [hPl]; exact hslP⟩) rfl (by decide)
    (by intro l hl; simp only [List.mem_cons, List.not_mem_nil, or_false] at hl; have := HKD.out; rcases hl with rfl | rfl <;> omega)
    (HT0.out.below (by rw [hhb]; exact hBw9))
  have hfl : [kd, P].flatten = kd ++ P := by simp
  rw [hfl] at hcrc
  have HCV := hid hcv
  have HCRC := hid hcrc
  have HF9 := hid hf9
  have HR9 := hid hr9
  have HB9 := hid hBw9
  have HPL := hid hPl
  have HP := hid hP
  clear hf7 hB47 hr7 hf7' hcv hsl8 hz8 hB8 hf8 hr8 hB9 hrow9 hf9 hr9 hslP hBw9 hcrc hfl hP hPl hS hS5 hS6 hS7 hsl5 hsl6 hB45 hB46 hf6 hc7 hF7 hB5 hB6 ho5 ho6 HF4 HR4 HB4 HH
  go_upto_region 4 with fail
  refine wp_region_lit ?_
  refine wp_y (v := .string ⟨kd.toArray⟩) rfl rfl (y_move rfl) rfl ?_
  refine wp_run (v := .slice (some ⟨kb, 0, none⟩) kd.length kc) rfl rfl (run_cvOp rfl (by kernel_rfl) HCV.out) rfl ?_
  refine wp_y (v := .slice (some ⟨fb, 0, none⟩) 124 128) rfl rfl (y_slice rfl (by kernel_rfl) (by kernel_rfl) (by kernel_rfl) (by kernel_rfl) (by kernel_rfl) (sl75c fb)) rfl ?_
  refine wp_run (v := .slice (some ⟨w8.heap.size, 0, none⟩) 2 2) rfl rfl (run_bsOp rfl (by kernel_rfl) (bslice46 w8 kb kd.length kc fb)) rfl ?_
  refine wp_call (f := 109) (args := #[.slice (some ⟨w8.heap.size, 0, none⟩) 2 2]) (by kernel_rfl) (fun w => by go_simp) ?_
  refine HCRC.out.mono ?_
  rintro e w9 ⟨rfl, hw9⟩
  subst hw9
  refine ⟨_, rfl, ?_⟩
  dsimp only [Act.put]
  refine wp_y (v := .int .u32 (crcOf (kd ++ P) : Nat)) rfl rfl (y_assign rfl) rfl ?_
  try simp only [List.setIfInBounds_toArray, List.set_cons_zero, List.set_cons_succ]
  refine wp_end ?_
  clear HCV HCRC
  generalize w8.alloc (.cells #[.slice (some ⟨kb, 0, none⟩) kd.length kc, .slice (some ⟨fb, 0, none⟩) 124 128] 49) = w9 at *
  obtain ⟨x, hx⟩ : ∃ x, x = crcOf (kd ++ P) := ⟨_, rfl⟩
  rw [← hx]
  have HXC := hid hx
  clear hx
  go_wp2_with fail
  go_loopw [26, 9] (fun y _ wr => ∃ k : Nat, k ≤ 4 ∧ y = .int .i64 k ∧ Rw wr fb 141 (P ++ (le4 x).take k ++ List.replicate (4 - k) 0) ∧ Rw wr rb 141 z128 ∧ Below hb w wr) (fun y _ _ => 4 - (intOf y).toNat)
  case atStart => exact ⟨0, Nat.zero_le _, rfl, by simpa using HF9.out, HR9.out, HB9.out⟩
  case round =>
    clear HF9 HR9 HB9
    obtain ⟨k, hk, rfl, hf, hr, hB⟩ := hrel
    by_cases hlt : k < 4
    · have hlt' : (k : Int) < 4 := by omega
      have hwk : IntKind.i64.wrap ((k : Int) + 1) = ((k + 1 : Nat) : Int) := by rw [IntWalk.i64_in _ ⟨by omega, by omega⟩]; omega
      have hset := set_end P ((le4 x).take k) k (UInt8.ofNat (x / 2 ^ (8 * k) % 256)) hlt (by rw [List.length_take, le4_len]; omega) HPL.out
      rw [← le4_take x k hlt] at hset
      have hln : (P ++ (le4 x).take k ++ List.replicate (4 - k) (0 : UInt8)).length = 128 := by
        rw [List.length_append, List.length_append, HPL.out, List.length_take, le4_len, List.length_replicate]; omega
      generalize P ++ (le4 x).take k ++ List.replicate (4 - k) (0 : UInt8) = st at *
      have HSET := hid hset
      have HR := hid hf
      have HRL := hid hln
      have HRB := hid hr
      have HB := hid hB
      have HK := hid hlt
      clear hset hf hln hr hB
      go_upto_region 7 with fail
      refine wp_region_lit ?_
      refine wp_y (v := .int .i64 k) rfl rfl (y_move rfl) rfl ?_
      refine wp_y (v := .int .i64 k) rfl rfl (y_assign rfl) rfl ?_
      try simp only [List.setIfInBounds_toArray, List.set_cons_zero, List.set_cons_succ]
      refine wp_end ?_
      go_upto_region 8 with fail
      refine wp_region_lit ?_
      refine wp_y (v := .int .i64 k) rfl rfl (y_move rfl) rfl ?_
      refine wp_y (v := .int .i64 (124 + k : Nat)) rfl rfl (y_bin rfl (by kernel_rfl) (by kernel_rfl) (by kernel_rfl) (add124 k HK.out)) rfl ?_
      refine wp_y (v := .int .u32 (x : Nat)) rfl rfl (y_move rfl) rfl ?_
      refine wp_y (v := .int .i64 k) rfl rfl (y_move rfl) rfl ?_
      refine wp_y (v := .int .i64 (8 * k : Nat)) rfl rfl (y_bin rfl (by kernel_rfl) (by kernel_rfl) (by kernel_rfl) (mul8 k HK.out)) rfl ?_
      refine wp_y (v := .int .u32 (x / 2 ^ (8 * k) : Nat)) rfl rfl (y_bin rfl (by kernel_rfl) (by kernel_rfl) (by kernel_rfl) (shr114 x (8 * k) (by have := HK.out; omega))) rfl ?_
      refine wp_y (v := cb (UInt8.ofNat (x / 2 ^ (8 * k) % 256))) rfl rfl (y_cnv rfl (by kernel_rfl) (by kernel_rfl) (cvt114 _)) rfl ?_
      refine wp_y (v := .pointer (some ⟨fb, (124 + k), none⟩)) rfl rfl (y_index rfl (hr := idx75 fb (124 + k) (by have := HK.out; omega))) rfl ?_
      simp only [List.setIfInBounds_toArray, List.set_cons_zero, List.set_cons_succ]
      refine wp_do rfl rfl (run_storeOp rfl (by kernel_rfl) (by kernel_rfl) (store5r (k := 124 + k) HR.out (by rw [HRL.out]; have := HK.out; omega) (UInt8.ofNat (x / 2 ^ (8 * k) % 256)))) ?_
      try simp only [List.setIfInBounds_toArray, List.set_cons_zero, List.set_cons_succ]
      refine wp_end ?_
      have hf2 : Rw (wr.setCell ⟨fb, 124 + k, none⟩ (cb (UInt8.ofNat (x / 2 ^ (8 * k) % 256)))) fb 141 (P ++ (le4 x).take (k + 1) ++ List.replicate (4 - (k + 1)) 0) := by rw [← HSET.out]; exact HR.out.set _ _
      have hr2 : Rw (wr.setCell ⟨fb, 124 + k, none⟩ (cb (UInt8.ofNat (x / 2 ^ (8 * k) % 256)))) rb 141 z128 := (Fr.setCell wr fb (124 + k) _).at HRB.out (by simp; omega)
      have hB2 : Below hb w (wr.setCell ⟨fb, 124 + k, none⟩ (cb (UInt8.ofNat (x / 2 ^ (8 * k) % 256)))) := HB.out.setCell (by show hb ≤ fb; omega) _
      have HF5 := hid hf2
      have HR5 := hid hr2
      have HB5 := hid hB2
      clear hf2 hr2 hB2 HR HRB HB
      generalize wr.setCell ⟨fb, 124 + k, none⟩ (cb (UInt8.ofNat (x / 2 ^ (8 * k) % 256))) = w10 at *
      go_wp2
      exact ⟨⟨k + 1, by omega, rfl, HF5.out, HR5.out, HB5.out⟩, by simp [intOf]; omega⟩
    · have hk4 : k = 4 := by omega
      subst hk4
      rw [List.take_of_length_le (by rw [le4_len]; exact Nat.le_refl _), Nat.sub_self, List.replicate_zero, List.append_nil] at hf
      obtain ⟨F, hF⟩ : ∃ F, F = P ++ le4 x := ⟨_, rfl⟩
      rw [← hF] at hf
      have hFl : F.length = 128 := by rw [hF, List.length_append, HPL.out, le4_len]
      have hFe : F = frameOf kd b s m := by rw [hF, HXC.out, HP.out]; rfl
      have HR := hid hf
      have HRB := hid hr
      have HB := hid hB
      have HFF := hid hFl
      have HFE := hid hFe
      clear hf hr hB hFl hF hFe
      go_upto_region 10 with fail
      refine wp_region_lit ?_
      refine wp_y (v := V8 F) rfl rfl (y_load rfl (hl := fun w' h => by subst h; exact load75 HFF.out HR.out)) rfl ?_
      refine wp_do rfl rfl (run_storeOp rfl (by kernel_rfl) (by kernel_rfl) (store75 z128_len HFF.out HRB.out)) ?_
      try simp only [List.setIfInBounds_toArray, List.set_cons_zero, List.set_cons_succ]
      refine wp_end ?_
      rename_i hkr
      refine hkr _ _ (wp_ret ?_)
      change bodyPost Tryz.prog Tryz.f74 _ .ret _ _
      refine ret_arr rfl rfl (by kernel_rfl) (HRB.out.row F) under75 (by rw [cells8_size, HFF.out]; exact size75) ⟨by rw [← HFE.out]; rfl, by rw [hhb]; exact below_row HB.out (by omega) _⟩
end Go.Proofs.YtcmgclkbhhdnaaaGreatDoor
namespace Go.Proofs.YtcmgclkbhhdnaaaGreatDoor
open Go Go.RowKit

theorem equal75 (a b : List UInt8) (ha : a.length = 128) (hb : b.length = 128) (w : World) : (Op.equalIn 10000 141 (V8 a) (V8 b)).run Tryz.prog w = .ok (decide (a = b)) w := by
  unfold V8
  rw [show (10000 : Nat) = 9998 + 1 + 1 from rfl]
  have hs : ∀ w, (Go.sizeOf 5).run Tryz.prog w = .ok 1 w := Tryz.sizeOf5
  have hg : ∀ w, (isAgg 5).run Tryz.prog w = .ok false w := Tryz.isAgg5
  rw [Op.equalIn]
  simp only [Sem.run_bind, run_underlying under75, Result.andThen_ok, hs]
  rw [Std.Legacy.Range.forIn_eq_forIn_range']
  have key : ∀ n s, s + n = 128 → (Sem.run Tryz.prog
          (forIn (List.range' s n 1) ((none, ()) : Option Bool × Unit) fun i __s => do
            let x ← part 5 (cells8 a).toArray (i * 1)
            let y ← part 5 (cells8 b).toArray (i * 1)
            let r ← Op.equalIn (9998 + 1) 5 x y
            if (!r) = true then pure (ForInStep.done (some false, ())) else pure (ForInStep.yield (none, ()))) w) =
        .ok (if a.drop s = b.drop s then (none, ()) else (some false, ())) w := by
    intro n
    induction n with
    | zero =>
      intro s h
      rw [List.drop_of_length_le (by omega), List.drop_of_length_le (by omega)]
      simp
    | succ n ih =>
      intro s h
      have h1 : (part 5 (cells8 a).toArray (s * 1)).run Tryz.prog w = .ok (.int .u8 (at8 a s)) w := by
        have hc : (cells8 a).toArray[s * 1]? = some (.int .u8 (at8 a s)) := by rw [Nat.mul_one]; simpa using cells8_get a s (by omega)
        simp only [part, Sem.run_bind, hg, Result.andThen_ok, hc]
        rfl
      have h2 : (part 5 (cells8 b).toArray (s * 1)).run Tryz.prog w = .ok (.int .u8 (at8 b s)) w := by
        have hc : (cells8 b).toArray[s * 1]? = some (.int .u8 (at8 b s)) := by rw [Nat.mul_one]; simpa using cells8_get b s (by omega)
        simp only [part, Sem.run_bind, hg, Result.andThen_ok, hc]
        rfl
      have h3 : (Op.equalIn (9998 + 1) 5 (.int .u8 (at8 a s)) (.int .u8 (at8 b s))).run Tryz.prog w = .ok (at8 a s == at8 b s) w := run_equalIn_int w 9998 5 .u8 .u8 _ _ Tryz.underlying5
      rw [List.range'_succ, List.forIn_cons]
      simp only [Sem.run_bind, h1, h2, h3, Result.andThen_ok]
      rw [drop_cons8 a s (by omega), drop_cons8 b s (by omega)]
      by_cases he : at8 a s = at8 b s
      · have hab : a.getD s 0 = b.getD s 0 := by unfold at8 at he; exact u8_ext (by omega)
        have hbe : (at8 a s == at8 b s) = true := by simp [he]
        rw [hbe]
        simp only [Bool.not_true, Bool.false_eq_true, if_false, Sem.run_pure, Result.andThen_ok]
        rw [ih (s + 1) (by omega), hab]
        simp
      · have hab : a.getD s 0 ≠ b.getD s 0 := fun e => he (by unfold at8; rw [e])
        have hbe : (at8 a s == at8 b s) = false := by simp [he]
        rw [hbe]
        simp only [Bool.not_false, if_true, Sem.run_pure, Result.andThen_ok]
        rw [if_neg (by intro e; simp only [List.cons.injEq] at e; exact hab e.1)]
  have hk := key 128 0 rfl
  rw [List.drop_zero, List.drop_zero] at hk
  have hsz : ({ start := 0, stop := 128, step := 1, step_pos := by decide } : Std.Legacy.Range).size = 128 := by decide
  simp only [hsz]
  rw [hk]
  by_cases e : a = b
  · simp [e]
  · simp [e]
theorem neq75 (a b : List UInt8) (ha : a.length = 128) (hb : b.length = 128) (w : World) : (binOp .neq 141 (V8 a) (V8 b)).run Tryz.prog w = .ok (.bool (!decide (a = b))) w := by
  have h := equal75 a b ha hb w
  unfold V8 at h ⊢
  rw [run_neq_struct, h]
  rfl
theorem y_neq75 {ops : Array Oper} {S : World → Prop} {o : Oper} {x : Act} {p q : Operand} {a b : List UInt8} {r : Bool} (ha : a.length = 128) (hb : b.length = 128) (hop : o.op = .binOp .neq 141 p q 141) (hw : Region.wanted o (yielded ops x.tmps) = true) (hp : x.eval p = V8 a) (hq : x.eval q = V8 b) (hr : (!decide (a = b)) = r) :
    YieldsIf Tryz.prog ops S o (.bool r) x :=
  .inl ⟨hw, fun w _ => by
    subst hr
    unfold execOp; rw [hop]; simp only [hp, hq, Sem.run_bind]
    have hg : (eqGuard .neq 141 p q (V8 a) (V8 b)).run Tryz.prog w = .ok () w := run_eqGuard_agg w .neq 141 p q _ _ (by kernel_rfl)
    rw [hg]; simp only [Result.andThen_ok, neq75 a b ha hb]; rfl⟩
end Go.Proofs.YtcmgclkbhhdnaaaGreatDoor
namespace Go.Proofs.YtcmgclkbhhdnaaaGreatDoor
open Go Go.RowKit

theorem not_b (b : Bool) (w : World) : (Op.unary .not (.bool b)).run Tryz.prog w = .ok (.bool (!b)) w := by go_simp
theorem ext3_0 (a b c : Value) (w : World) : (Instr.extract (.tuple #[a, b, c]) 0).run Tryz.prog w = .ok a w := by go_simp
theorem ext3_1 (a b c : Value) (w : World) : (Instr.extract (.tuple #[a, b, c]) 1).run Tryz.prog w = .ok b w := by go_simp
theorem ext3_2 (a b c : Value) (w : World) : (Instr.extract (.tuple #[a, b, c]) 2).run Tryz.prog w = .ok c w := by go_simp
theorem build78z (w : World) : (Instr.build 131 #[]).run Tryz.prog w = .ok (.agg #[.int .i64 0, .int .i64 0]) w := by go_simp
theorem build78 (w : World) (s m : Int) : (Instr.build 131 #[(0, .int .i64 s), (1, .int .i64 m)]).run Tryz.prog w = .ok (.agg #[.int .i64 s, .int .i64 m]) w := by go_simp
theorem alloc78 (w : World) : (Instr.alloc 131 true (.tuple #[])).run Tryz.prog w = .ok (.pointer (some ⟨w.heap.size, 0, none⟩)) (w.alloc (.cells #[.int .i64 0, .int .i64 0] 131)) := by go_simp
theorem size78 : (Tryz.prog.info? 131).map (·.size) = some 2 := by kernel_rfl
theorem agg78 (w : World) : (isAgg 131).run Tryz.prog w = .ok true w := by simp [isAgg, run_underlying Tryz.underlying131]
theorem load78 {w : World} {g : Nat} {s m : Int} (h : Hd w g s m) : (Instr.loadAt 131 (.pointer (some ⟨g, 0, none⟩))).run Tryz.prog w = .ok (.agg #[.int .i64 s, .int .i64 m]) w :=
  loadAt_k agg78 size78 w g 0 #[.int .i64 s, .int .i64 m] _ (0, 0) [.int .i64 s, .int .i64 m] rfl h (fun j v hv => by simpa using hv)
theorem store78 {w : World} {g : Nat} {s m : Int} (h : Hd w g s m) (s' m' : Int) : (Instr.storeAt 131 (.pointer (some ⟨g, 0, none⟩)) (.agg #[.int .i64 s', .int .i64 m'])).run Tryz.prog w = .ok () (w.setRow g #[.int .i64 s', .int .i64 m']) := by
  simp only [Instr.storeAt, Instr.sureAddr, Sem.run_bind, Sem.run_pure, Result.andThen]
  exact run_storeVar_row w g _ _ #[.int .i64 s, .int .i64 m] #[.int .i64 s', .int .i64 m'] h (by rw [size78]; rfl) rfl (by simp; exact ⟨rfl, rfl⟩)
theorem Hd.row {w : World} {g : Nat} {s m : Int} (h : Hd w g s m) (s' m' : Int) : Hd (w.setRow g #[.int .i64 s', .int .i64 m']) g s' m' := setRow_heap w g _ _ _ _ h
theorem box75 (w : World) (f : List UInt8) (hf : f.length = 128) : (Instr.box 141 (V8 f)).run Tryz.prog w = .ok (.pointer (some ⟨w.heap.size, 0, none⟩)) (w.alloc (.cells (cells8 f).toArray 141)) := by
  unfold V8
  have : ∀ c : Array Value, c.size = 128 → (Instr.box 141 (.agg c)).run Tryz.prog w = .ok (.pointer (some ⟨w.heap.size, 0, none⟩)) (w.alloc (.cells c 141)) := fun c hc => by
    simp [Instr.box, newVar, newRow, Value.cells]
  exact this _ (by rw [cells8_size]; exact hf)
theorem ret_pair {f : Func} {R : Ending → World → Prop} {a : Act} {w : World} {p q : Tmp} {ty : TypeId} {b : Nat} {v : Value} (hf : f.results = #[.cell p ty, .tmp q]) (hd : a.defers = []) (hp : a.tmps.getD p undef = .pointer (some ⟨b, 0, none⟩))
    (hl : (Instr.loadAt ty (.pointer (some ⟨b, 0, none⟩))).run Tryz.prog w = .ok v w) (hR : R (.returned (.tuple #[v, a.tmps.getD q undef])) w) : bodyPost Tryz.prog f R .ret a w := by
  refine bodyPost_ret ?_ hd hR
  have hl' : (loadVar ty ⟨b, 0, none⟩).run Tryz.prog w = .ok v w := by
    simpa [Instr.loadAt, Instr.sureAddr, Sem.run_bind, Sem.run_pure, Result.andThen] using hl
  have hp' : a.tmps[p]?.getD undef = .pointer (some ⟨b, 0, none⟩) := by simpa using hp
  simp only [results, hf]
  simp [hp', asAddr, hl', Result.andThen]
set_option maxRecDepth 100000 in
set_option maxHeartbeats 2000000 in
theorem head_any (kd f : List UInt8) (w : World) (ht : Tab w) (hfl : f.length = 128) (hk : kd.length ≤ 1000) :
    Calls Tryz.prog 101 #[V8 f, .string ⟨kd.toArray⟩] w fun e w' => e = .returned (.tuple #[.agg #[.int .i64 (headOf kd f).1, .int .i64 (headOf kd f).2.1], .bool (headOf kd f).2.2]) ∧ Below w.heap.size w w' := by
  obtain ⟨S0, M0, ok0, hho⟩ : ∃ a b c, headOf kd f = (a, b, c) := ⟨_, _, _, rfl⟩
  rw [hho]
  have HHO := hid hho
  clear hho
  obtain ⟨w1, hw1⟩ : ∃ w1, w1 = w.alloc (.cells (cells8 f).toArray 141) := ⟨_, rfl⟩
  have hz1 : w1.heap.size = w.heap.size + 1 := by rw [hw1]; show (w.heap.push _).size = _; simp
  have hbx := box75 w f hfl
  rw [← hw1] at hbx
  have hf1 : Rw w1 w.heap.size 141 f := by rw [hw1]; exact heap_alloc_last w _
  have hB1 : Below w.heap.size w w1 := by rw [hw1]; exact (Below.refl _ _).alloc (Nat.le_refl _) _
  have ha0 := alloc78 w1
  obtain ⟨w2, hw2⟩ : ∃ w2, w2 = w1.alloc (.cells #[.int .i64 0, .int .i64 0] 131) := ⟨_, rfl⟩
  rw [← hw2, hz1] at ha0
  have hB2 : Below w1.heap.size w1 w2 := by rw [hw2]; exact (Below.refl _ _).alloc (Nat.le_refl _) _
  have hr2 : Hd w2 (w.heap.size + 1) 0 0 := by have := heap_alloc_last w1 (.cells #[.int .i64 0, .int .i64 0] 131); rw [← hw2, hz1] at this; exact this
  have hf2 := hf1.below hB2 hf1.lt
  have hB12 : Below w.heap.size w w2 := hB1.trans (hB2.mono (by omega))
  have ht2 := ht.below hB12
  have hz2 : w2.heap.size = w.heap.size + 2 := by rw [hw2]; show (w1.heap.push _).size = _; simp; omega
  have hsl : Sl w2 (.slice (some ⟨w.heap.size, 0, none⟩) 124 128) (f.take 124) := by
    have h1 := hf2.rd.part 0 124
    rw [List.drop_zero] at h1
    have h2 := Sl.mk (cap := 128) h1 (by rw [List.length_take]; omega)
    rw [List.length_take, show min 124 f.length = 124 by omega] at h2
    exact h2
  have htk := fun at_ => takeInt_any (some ⟨w.heap.size, 0, none⟩) (f.take 124) 128 at_ w2 (by rw [List.length_take, show min 124 f.length = 124 by omega]; exact hsl) (by rw [List.length_take]; omega)
  rw [List.length_take, show min 124 f.length = 124 by omega] at htk
  have HBX := hid hbx
  have HA0 := hid ha0
  have HF2 := hid hf2
  have HRB := hid hr2
  have HB2 := hid hB12
  have HT2 := hid ht2
  have HFL := hid hfl
  have HTK := hid htk
  have HSL := hid hsl
  have HKD := hid hk
  have HZ2 := hid hz2
  clear hbx ha0 hf1 hB1 hw1 hw2 hB2 hr2 hf2 hB12 ht2 hsl htk hfl hk hz1 hz2 ht
  go_enter Tryz.func101, Tryz.ntmps101
  go_upto_region 0 with fail
  refine wp_region_lit ?_
  refine wp_run (v := .pointer (some ⟨w.heap.size, 0, none⟩)) rfl rfl (run_boxOp rfl (by kernel_rfl) HBX.out) rfl ?_
  refine wp_run (v := .pointer (some ⟨(w.heap.size + 1), 0, none⟩)) rfl rfl (run_alOp rfl HA0.out) rfl ?_
  refine wp_y (v := (.bool false)) rfl rfl (y_assign rfl) rfl ?_
  try simp only [List.setIfInBounds_toArray, List.set_cons_zero, List.set_cons_succ]
  refine wp_end ?_
  clear HBX HA0
  generalize hfb : w.heap.size = fb at *
  generalize hrb : fb + 1 = rb at *
  cases h1 : tInt (f.take 124) 112 with
  | none =>
    have hho : headOf kd f = (0, 0, false) := by unfold headOf; rw [h1]
    rw [HHO.out] at hho
    simp only [Prod.mk.injEq] at hho
    obtain ⟨rfl, rfl, rfl⟩ := hho
    have htk1 := HTK.out 112
    rw [h1] at htk1
    have HTK1 := hid htk1
    clear htk1 h1 HTK
    go_upto_region 1 with fail
    refine wp_region_lit ?_
    refine wp_y (v := .slice (some ⟨fb, 0, none⟩) 124 128) rfl rfl (y_slice rfl (by kernel_rfl) (by kernel_rfl) (by kernel_rfl) (by kernel_rfl) (by kernel_rfl) (sl75c fb)) rfl ?_
    refine wp_call (f := 122) (args := #[.slice (some ⟨fb, 0, none⟩) 124 128, .int .i64 112]) (by kernel_rfl) (fun w => by go_simp) ?_
    refine HTK1.out.mono ?_
    rintro e wz ⟨rfl, hwz⟩
    obtain rfl := hwz.symm
    refine ⟨_, rfl, ?_⟩
    dsimp only [Act.put]
    refine wp_y (v := .tuple #[.int .i64 0, .int .i64 0, .bool false]) rfl rfl (y_move rfl) rfl ?_
    refine wp_y (v := .int .i64 0) rfl rfl (y_ext rfl (hr := ext3_0 (.int .i64 0) (.int .i64 0) (.bool false))) rfl ?_
    refine wp_y (v := .int .i64 0) rfl rfl (y_ext rfl (hr := ext3_1 (.int .i64 0) (.int .i64 0) (.bool false))) rfl ?_
    refine wp_y (v := .bool false) rfl rfl (y_ext rfl (hr := ext3_2 (.int .i64 0) (.int .i64 0) (.bool false))) rfl ?_
    refine wp_y (v := .int .i64 0) rfl rfl (y_assign rfl) rfl ?_
    refine wp_y (v := .int .i64 0) rfl rfl (y_assign rfl) rfl ?_
    simp only [List.setIfInBounds_toArray, List.set_cons_zero, List.set_cons_succ]
    refine wp_y (v := .bool false) rfl rfl (y_assign rfl) rfl ?_
    try simp only [List.setIfInBounds_toArray, List.set_cons_zero, List.set_cons_succ]
    refine wp_end ?_
    go_upto_region 3 with fail
    refine wp_region_lit ?_
    refine wp_run (v := .agg #[.int .i64 0, .int .i64 0]) rfl rfl (run_buildOp rfl (by kernel_rfl) (build78z w2)) rfl ?_
    refine wp_do rfl rfl (run_storeOp rfl (by kernel_rfl) (by kernel_rfl) (store78 HRB.out 0 0)) ?_
    refine wp_y (v := (.bool false)) rfl rfl (y_assign rfl) rfl ?_
    try simp only [List.setIfInBounds_toArray, List.set_cons_zero, List.set_cons_succ]
    refine wp_end ?_
    go_wp2
    refine ret_pair rfl rfl (by kernel_rfl) (load78 (HRB.out.row 0 0)) ⟨rfl, by first | exact below_row HB2.out (by omega) _ | (rw [hfb]; exact below_row HB2.out (by omega) _)⟩
  | some p =>
    obtain ⟨s, k⟩ := p
    have htk1 := HTK.out 112
    rw [h1] at htk1
    have HTK1 := hid htk1
    clear htk1
    have hs : -9223372036854775808 ≤ s ∧ s ≤ 9223372036854775807 := by
      unfold tInt at h1; split at h1
      · exact ((takeI_iff _ _ _).1 h1).1
      · cases h1
    have HS := hid hs
    clear hs
    have ha1 := alloc78 w2
    rw [HZ2.out] at ha1
    obtain ⟨hb, hhb⟩ : ∃ hb, hb = fb + 2 := ⟨_, rfl⟩
    rw [← hhb] at ha1
    have hB3 : Below w2.heap.size w2 (w2.alloc (.cells #[.int .i64 0, .int .i64 0] 131)) := (Below.refl _ _).alloc (Nat.le_refl _) _
    have hh3 : Hd (w2.alloc (.cells #[.int .i64 0, .int .i64 0] 131)) hb 0 0 := by have := heap_alloc_last w2 (.cells #[.int .i64 0, .int .i64 0] 131); rw [HZ2.out, ← hhb] at this; exact this
    have HA1 := hid ha1
    have HH0 := hid hh3
    clear ha1 hh3
    go_upto_region 1 with fail
    refine wp_region_lit ?_
    refine wp_y (v := .slice (some ⟨fb, 0, none⟩) 124 128) rfl rfl (y_slice rfl (by kernel_rfl) (by kernel_rfl) (by kernel_rfl) (by kernel_rfl) (by kernel_rfl) (sl75c fb)) rfl ?_
    refine wp_call (f := 122) (args := #[.slice (some ⟨fb, 0, none⟩) 124 128, .int .i64 112]) (by kernel_rfl) (fun w => by go_simp) ?_
    refine HTK1.out.mono ?_
    rintro e wz ⟨rfl, hwz⟩
    obtain rfl := hwz.symm
    refine ⟨_, rfl, ?_⟩
    dsimp only [Act.put]
    refine wp_y (v := .tuple #[.int .i64 s, .int .i64 (112 + k), .bool true]) rfl rfl (y_move rfl) rfl ?_
    refine wp_y (v := .int .i64 s) rfl rfl (y_ext rfl (hr := ext3_0 (.int .i64 s) (.int .i64 (112 + k)) (.bool true))) rfl ?_
    refine wp_y (v := .int .i64 (112 + k)) rfl rfl (y_ext rfl (hr := ext3_1 (.int .i64 s) (.int .i64 (112 + k)) (.bool true))) rfl ?_
    refine wp_y (v := .bool true) rfl rfl (y_ext rfl (hr := ext3_2 (.int .i64 s) (.int .i64 (112 + k)) (.bool true))) rfl ?_
    refine wp_y (v := .int .i64 s) rfl rfl (y_assign rfl) rfl ?_
    refine wp_y (v := .int .i64 (112 + k)) rfl rfl (y_assign rfl) rfl ?_
    simp only [List.setIfInBounds_toArray, List.set_cons_zero, List.set_cons_succ]
    refine wp_y (v := .bool true) rfl rfl (y_assign rfl) rfl ?_
    try simp only [List.setIfInBounds_toArray, List.set_cons_zero, List.set_cons_succ]
    refine wp_end ?_
    cases h2 : tInt (f.take 124) (112 + k) with
    | none =>
      have hho : headOf kd f = (0, 0, false) := by unfold headOf; rw [h1]; simp only; rw [h2]
      rw [HHO.out] at hho
      simp only [Prod.mk.injEq] at hho
      obtain ⟨rfl, rfl, rfl⟩ := hho
      have htk4 := HTK.out (112 + k)
      rw [h2] at htk4
      have HTK4 := hid htk4
      clear htk4 h1 h2 HTK HHO
      go_upto_region 4 with fail
      refine wp_region_lit ?_
      refine wp_y (v := .slice (some ⟨fb, 0, none⟩) 124 128) rfl rfl (y_slice rfl (by kernel_rfl) (by kernel_rfl) (by kernel_rfl) (by kernel_rfl) (by kernel_rfl) (sl75c fb)) rfl ?_
      refine wp_y (v := .int .i64 (112 + k)) rfl rfl (y_move rfl) rfl ?_
      refine wp_call (f := 122) (args := #[.slice (some ⟨fb, 0, none⟩) 124 128, .int .i64 (112 + k)]) (by kernel_rfl) (fun w => by go_simp) ?_
      refine HTK4.out.mono ?_
      rintro e wz ⟨rfl, hwz⟩
      obtain rfl := hwz.symm
      refine ⟨_, rfl, ?_⟩
      dsimp only [Act.put]
      refine wp_y (v := .tuple #[.int .i64 0, .int .i64 0, .bool false]) rfl rfl (y_move rfl) rfl ?_
      refine wp_y (v := .int .i64 0) rfl rfl (y_ext rfl (hr := ext3_0 (.int .i64 0) (.int .i64 0) (.bool false))) rfl ?_
      refine wp_y (v := .int .i64 0) rfl rfl (y_ext rfl (hr := ext3_1 (.int .i64 0) (.int .i64 0) (.bool false))) rfl ?_
      refine wp_y (v := .bool false) rfl rfl (y_ext rfl (hr := ext3_2 (.int .i64 0) (.int .i64 0) (.bool false))) rfl ?_
      refine wp_y (v := .int .i64 0) rfl rfl (y_assign rfl) rfl ?_
      simp only [List.setIfInBounds_toArray, List.set_cons_zero, List.set_cons_succ]
      refine wp_y (v := .int .i64 0) rfl rfl (y_assign rfl) rfl ?_
      refine wp_y (v := .bool false) rfl rfl (y_assign rfl) rfl ?_
      try simp only [List.setIfInBounds_toArray, List.set_cons_zero, List.set_cons_succ]
      refine wp_end ?_
      go_upto_region 5 with fail
      refine wp_region_lit ?_
      refine wp_y (v := .int .i64 s) rfl rfl (y_move rfl) rfl ?_
      refine wp_y (v := .int .i64 0) rfl rfl (y_move rfl) rfl ?_
      refine wp_run (v := .agg #[.int .i64 s, .int .i64 0]) rfl rfl (run_buildOp rfl (by kernel_rfl) (build78 w2 s 0)) rfl ?_
      refine wp_run (v := .pointer (some ⟨hb, 0, none⟩)) rfl rfl (run_alOp rfl HA1.out) rfl ?_
      refine wp_do rfl rfl (run_storeOp rfl (by kernel_rfl) (by kernel_rfl) (store78 HH0.out s 0)) ?_
      try simp only [List.setIfInBounds_toArray, List.set_cons_zero, List.set_cons_succ]
      refine wp_end ?_
      have hr3 := below_at hB3 HRB.out (heap_lt HRB.out)
      have hr4 : Hd ((w2.alloc (.cells #[.int .i64 0, .int .i64 0] 131)).setRow hb #[.int .i64 s, .int .i64 0]) rb 0 0 := (setRow_other _ hb rb _ (by omega)).trans hr3
      have hB4 : Below fb w ((w2.alloc (.cells #[.int .i64 0, .int .i64 0] 131)).setRow hb #[.int .i64 s, .int .i64 0]) := below_row (HB2.out.trans (hB3.mono (by have := HZ2.out; omega))) (by omega) _
      have HRB3 := hid hr4
      have HB4 := hid hB4
      clear hr3 hr4 hB4 hB3 HRB HB2 HH0 HA1
      generalize (w2.alloc (.cells #[.int .i64 0, .int .i64 0] 131)).setRow hb #[.int .i64 s, .int .i64 0] = w3 at *
      go_upto_region 6 with fail
      refine h_openL (S := fun w' => w' = w3.drew) (by kernel_rfl) (by kernel_rfl) (fun _ _ _ _ _ h => h) (L := #[false, false, false, false, false, false, false, false, false, false]) (by kernel_rfl) ?_
      intro Q' hns hP hN
      have hS := (show w3.drew = w3.drew from rfl)
      refine h_takeL (i := 0) (v := .bool false) hns rfl rfl (by kernel_rfl) (by kernel_rfl) hP (y_move rfl) hS rfl (L' := #[true, false, false, false, false, false, false, false, false, false]) (by kernel_rfl) ?_
      refine h_takeL (i := 1) (v := .bool true) hns rfl rfl (by kernel_rfl) (by kernel_rfl) hP (y_un rfl (by kernel_rfl) (by kernel_rfl) (not_b false)) hS rfl (L' := #[true, true, false, false, false, false, false, false, false, false]) (by kernel_rfl) ?_
      refine h_takeL (i := 2) (v := .bool true) hns rfl rfl (by kernel_rfl) (by kernel_rfl) hP (y_move rfl) hS rfl (L' := #[true, true, true, false, false, false, false, false, false, false]) (by kernel_rfl) ?_
      refine h_takeL (i := 3) (v := undef) hns rfl rfl (by kernel_rfl) (by kernel_rfl) hP (y_skip (by kernel_rfl) rfl) hS rfl (L' := #[true, true, true, true, false, false, false, false, false, false]) (by kernel_rfl) ?_
      refine h_takeL (i := 4) (v := undef) hns rfl rfl (by kernel_rfl) (by kernel_rfl) hP (y_skip (by kernel_rfl) rfl) hS rfl (L' := #[true, true, true, true, true, false, false, false, false, false]) (by kernel_rfl) ?_
      refine h_takeL (i := 5) (v := undef) hns rfl rfl (by kernel_rfl) (by kernel_rfl) hP (y_skip (by kernel_rfl) rfl) hS rfl (L' := #[true, true, true, true, true, true, false, false, false, false]) (by kernel_rfl) ?_
      refine h_takeL (i := 6) (v := undef) hns rfl rfl (by kernel_rfl) (by kernel_rfl) hP (y_skip (by kernel_rfl) rfl) hS rfl (L' := #[true, true, true, true, true, true, true, false, false, false]) (by kernel_rfl) ?_
      simp only [List.setIfInBounds_toArray, List.set_cons_zero, List.set_cons_succ]
      refine h_takeL (i := 7) (v := undef) hns rfl rfl (by kernel_rfl) (by kernel_rfl) hP (y_skip (by kernel_rfl) rfl) hS rfl (L' := #[true, true, true, true, true, true, true, true, false, false]) (by kernel_rfl) ?_
      refine h_takeL (i := 8) (v := undef) hns rfl rfl (by kernel_rfl) (by kernel_rfl) hP (y_skip (by kernel_rfl) rfl) hS rfl (L' := #[true, true, true, true, true, true, true, true, true, false]) (by kernel_rfl) ?_
      refine h_takeL (i := 9) (v := .bool true) hns rfl rfl (by kernel_rfl) (by kernel_rfl) hP (y_pick (b := true) rfl (by kernel_rfl) (by kernel_rfl) rfl) hS rfl (L' := #[true, true, true, true, true, true, true, true, true, true]) (by kernel_rfl) ?_
      simp only [List.setIfInBounds_toArray, List.set_cons_zero, List.set_cons_succ]
      refine wpAnyH_done (by kernel_rfl) ?_ _
      refine hN _ _ ?_
      clear hP hN hns
      clear hS
      have HRB := hid (show Hd w3.drew rb 0 0 from HRB3.out)
      have HB5 := hid (show Below fb w w3.drew from HB4.out.drew)
      clear HRB3 HB4
      generalize w3.drew = w2 at *
      go_upto_region 7 with fail
      refine wp_region_lit ?_
      refine wp_run (v := .agg #[.int .i64 0, .int .i64 0]) rfl rfl (run_buildOp rfl (by kernel_rfl) (build78z w2)) rfl ?_
      refine wp_do rfl rfl (run_storeOp rfl (by kernel_rfl) (by kernel_rfl) (store78 HRB.out 0 0)) ?_
      refine wp_y (v := (.bool false)) rfl rfl (y_assign rfl) rfl ?_
      try simp only [List.setIfInBounds_toArray, List.set_cons_zero, List.set_cons_succ]
      refine wp_end ?_
      go_wp2
      refine ret_pair rfl rfl (by kernel_rfl) (load78 (HRB.out.row 0 0)) ⟨rfl, by first | exact below_row HB5.out (by omega) _ | (rw [hfb]; exact below_row HB5.out (by omega) _)⟩
    | some p2 =>
      obtain ⟨m, k2⟩ := p2
      have htk4 := HTK.out (112 + k)
      rw [h2] at htk4
      have HTK4 := hid htk4
      have hm : -9223372036854775808 ≤ m ∧ m ≤ 9223372036854775807 := by
        unfold tInt at h2; split at h2
        · exact ((takeI_iff _ _ _).1 h2).1
        · cases h2
      obtain ⟨bb, hbb⟩ : ∃ bb, bb = !decide (frameOf kd (f.take 112) s m = f) := ⟨_, rfl⟩
      have hho : headOf kd f = if frameOf kd (f.take 112) s m = f then (s, m, true) else (0, 0, false) := by unfold headOf; rw [h1]; simp only; rw [h2]
      rw [HHO.out] at hho
      have HBB := hid hbb.symm
      have HHO2 := hid hho
      have HM := hid hm
      clear htk4 h1 h2 HTK HHO hho hm
      go_upto_region 4 with fail
      refine wp_region_lit ?_
      refine wp_y (v := .slice (some ⟨fb, 0, none⟩) 124 128) rfl rfl (y_slice rfl (by kernel_rfl) (by kernel_rfl) (by kernel_rfl) (by kernel_rfl) (by kernel_rfl) (sl75c fb)) rfl ?_
      refine wp_y (v := .int .i64 (112 + k)) rfl rfl (y_move rfl) rfl ?_
      refine wp_call (f := 122) (args := #[.slice (some ⟨fb, 0, none⟩) 124 128, .int .i64 (112 + k)]) (by kernel_rfl) (fun w => by go_simp) ?_
      refine HTK4.out.mono ?_
      rintro e wz ⟨rfl, hwz⟩
      obtain rfl := hwz.symm
      refine ⟨_, rfl, ?_⟩
      dsimp only [Act.put]
      refine wp_y (v := .tuple #[.int .i64 m, .int .i64 (112 + k + k2), .bool true]) rfl rfl (y_move rfl) rfl ?_
      refine wp_y (v := .int .i64 m) rfl rfl (y_ext rfl (hr := ext3_0 (.int .i64 m) (.int .i64 (112 + k + k2)) (.bool true))) rfl ?_
      refine wp_y (v := .int .i64 (112 + k + k2)) rfl rfl (y_ext rfl (hr := ext3_1 (.int .i64 m) (.int .i64 (112 + k + k2)) (.bool true))) rfl ?_
      refine wp_y (v := .bool true) rfl rfl (y_ext rfl (hr := ext3_2 (.int .i64 m) (.int .i64 (112 + k + k2)) (.bool true))) rfl ?_
      refine wp_y (v := .int .i64 m) rfl rfl (y_assign rfl) rfl ?_
      simp only [List.setIfInBounds_toArray, List.set_cons_zero, List.set_cons_succ]
      refine wp_y (v := .int .i64 (112 + k + k2)) rfl rfl (y_assign rfl) rfl ?_
      refine wp_y (v := .bool true) rfl rfl (y_assign rfl) rfl ?_
      try simp only [List.setIfInBounds_toArray, List.set_cons_zero, List.set_cons_succ]
      refine wp_end ?_
      go_upto_region 5 with fail
      refine wp_region_lit ?_
      refine wp_y (v := .int .i64 s) rfl rfl (y_move rfl) rfl ?_
      refine wp_y (v := .int .i64 m) rfl rfl (y_move rfl) rfl ?_
      refine wp_run (v := .agg #[.int .i64 s, .int .i64 m]) rfl rfl (run_buildOp rfl (by kernel_rfl) (build78 w2 s m)) rfl ?_
      refine wp_run (v := .pointer (some ⟨hb, 0, none⟩)) rfl rfl (run_alOp rfl HA1.out) rfl ?_
      refine wp_do rfl rfl (run_storeOp rfl (by kernel_rfl) (by kernel_rfl) (store78 HH0.out s m)) ?_
      try simp only [List.setIfInBounds_toArray, List.set_cons_zero, List.set_cons_succ]
      refine wp_end ?_
      have hr3 := below_at hB3 HRB.out (heap_lt HRB.out)
      have hr4 : Hd ((w2.alloc (.cells #[.int .i64 0, .int .i64 0] 131)).setRow hb #[.int .i64 s, .int .i64 m]) rb 0 0 := (setRow_other _ hb rb _ (by omega)).trans hr3
      have hh4 : Hd ((w2.alloc (.cells #[.int .i64 0, .int .i64 0] 131)).setRow hb #[.int .i64 s, .int .i64 m]) hb s m := HH0.out.row s m
      have hf4 : Rw ((w2.alloc (.cells #[.int .i64 0, .int .i64 0] 131)).setRow hb #[.int .i64 s, .int .i64 m]) fb 141 f := (HF2.out.below hB3 HF2.out.lt).other (by omega) _
      have hB4 : Below fb w ((w2.alloc (.cells #[.int .i64 0, .int .i64 0] 131)).setRow hb #[.int .i64 s, .int .i64 m]) := below_row (HB2.out.trans (hB3.mono (by have := HZ2.out; omega))) (by omega) _
      have hB24 : Below w2.heap.size w2 ((w2.alloc (.cells #[.int .i64 0, .int .i64 0] 131)).setRow hb #[.int .i64 s, .int .i64 m]) := below_row hB3 (by have := HZ2.out; omega) _
      have ht4 := HT2.out.below hB24
      have HRB3 := hid hr4
      have HB4 := hid hB4
      have HH3 := hid hh4
      have HF3 := hid hf4
      have HT4 := hid ht4
      clear hr3 hr4 hB4 hB3 hh4 hf4 ht4 hB24 HRB HB2 HH0 HA1 HF2 HT2
      generalize (w2.alloc (.cells #[.int .i64 0, .int .i64 0] 131)).setRow hb #[.int .i64 s, .int .i64 m] = w3 at *
      have hsl3 : Sl w3.drew (.slice (some ⟨fb, 0, none⟩) 112 128) (f.take 112) := by
        have h1 := HF3.out.rd.part 0 112
        rw [List.drop_zero] at h1
        have h2 := Sl.mk (cap := 128) h1 (by rw [List.length_take]; omega)
        rw [List.length_take, show min 112 f.length = 112 by have := HFL.out; omega] at h2
        exact h2
      have hfrm := framed_any kd (f.take 112) s m _ w3.drew HT4.out hsl3 HS.out HM.out HKD.out
      have HFRM := hid hfrm
      clear hsl3 hfrm
      go_upto_region 6 with fail
      refine h_openL (S := fun w' => Rw w' fb 141 f ∧ Hd w' hb s m) (by kernel_rfl) (by kernel_rfl) (fun _ _ _ _ _ h => h) (L := #[false, false, false, false, false, false, false, false, false, false]) (by kernel_rfl) ?_
      intro Q' hns hP hN
      have hS := (show Rw w3.drew fb 141 f ∧ Hd w3.drew hb s m from ⟨HF3.out, HH3.out⟩)
      refine h_takeL (i := 0) (v := .bool true) hns rfl rfl (by kernel_rfl) (by kernel_rfl) hP (y_move rfl) hS rfl (L' := #[true, false, false, false, false, false, false, false, false, false]) (by kernel_rfl) ?_
      refine h_takeL (i := 1) (v := .bool false) hns rfl rfl (by kernel_rfl) (by kernel_rfl) hP (y_un rfl (by kernel_rfl) (by kernel_rfl) (not_b true)) hS rfl (L' := #[true, true, false, false, false, false, false, false, false, false]) (by kernel_rfl) ?_
      refine h_takeL (i := 2) (v := .bool false) hns rfl rfl (by kernel_rfl) (by kernel_rfl) hP (y_move rfl) hS rfl (L' := #[true, true, true, false, false, false, false, false, false, false]) (by kernel_rfl) ?_
      refine h_takeL (i := 3) (v := .string ⟨kd.toArray⟩) hns rfl rfl (by kernel_rfl) (by kernel_rfl) hP (y_move rfl) hS rfl (L' := #[true, true, true, true, false, false, false, false, false, false]) (by kernel_rfl) ?_
      refine h_takeL (i := 4) (v := .slice (some ⟨fb, 0, none⟩) 112 128) hns rfl rfl (by kernel_rfl) (by kernel_rfl) hP (y_slice rfl (by kernel_rfl) (by kernel_rfl) (by kernel_rfl) (by kernel_rfl) (by kernel_rfl) (sl75b fb)) hS rfl (L' := #[true, true, true, true, true, false, false, false, false, false]) (by kernel_rfl) ?_
      refine h_takeL (i := 5) (v := .agg #[.int .i64 s, .int .i64 m]) hns rfl rfl (by kernel_rfl) (by kernel_rfl) hP (y_load rfl (hl := fun w' h => load78 h.2)) hS rfl (L' := #[true, true, true, true, true, true, false, false, false, false]) (by kernel_rfl) ?_
      refine h_takeL (i := 7) (v := V8 f) hns rfl rfl (by kernel_rfl) (by kernel_rfl) hP (y_load rfl (hl := fun w' h => load75 HFL.out h.1)) hS rfl (L' := #[true, true, true, true, true, true, false, true, false, false]) (by kernel_rfl) ?_
      simp only [List.setIfInBounds_toArray, List.set_cons_zero, List.set_cons_succ]
      refine h_callL (i := 6) (f := 74) (args := #[.string ⟨kd.toArray⟩, .slice (some ⟨fb, 0, none⟩) 112 128, .agg #[.int .i64 s, .int .i64 m]]) (by kernel_rfl) rfl rfl (by kernel_rfl) (enter_go rfl (by kernel_rfl) (fun w => by go_simp)) (L' := #[true, true, true, true, true, true, true, true, false, false]) (by kernel_rfl) ?_
      refine HFRM.out.mono ?_
      rintro e w4 ⟨rfl, hB4⟩
      have hB34 : Below w3.heap.size w3 w4 := ⟨hB4.os, hB4.tape, hB4.output, hB4.size, hB4.block⟩
      have hS4 : Rw w4 fb 141 f ∧ Hd w4 hb s m := ⟨HF3.out.below hB34 HF3.out.lt, below_at hB34 HH3.out (heap_lt HH3.out)⟩
      refine ⟨_, rfl, hS4, ?_⟩
      clear hS
      have hS := hS4
      refine h_takeL (i := 8) (v := .bool bb) hns rfl rfl (by kernel_rfl) (by kernel_rfl) hP (y_neq75 (frameOf_len _ _ _ _) HFL.out rfl (by kernel_rfl) (by kernel_rfl) (by kernel_rfl) HBB.out) hS rfl (L' := #[true, true, true, true, true, true, true, true, true, false]) (by kernel_rfl) ?_
      refine h_takeL (i := 9) (v := .bool bb) hns rfl rfl (by kernel_rfl) (by kernel_rfl) hP (y_pick (b := false) rfl (by kernel_rfl) (by kernel_rfl) rfl) hS rfl (L' := #[true, true, true, true, true, true, true, true, true, true]) (by kernel_rfl) ?_
      simp only [List.setIfInBounds_toArray, List.set_cons_zero, List.set_cons_succ]
      refine wpAnyH_done (by kernel_rfl) ?_ _
      refine hN _ _ ?_
      clear hP hN hns
      have hr5 : Hd w4 rb 0 0 := below_at hB34 HRB3.out (heap_lt HRB3.out)
      have hB5 : Below fb w w4 := HB4.out.trans (hB34.mono (by have := HB4.out.size; omega))
      have HRB := hid hr5
      have HB5 := hid hB5
      have HH4 := hid hS4.2
      clear hr5 hB5 hS hS4 hB4 hB34 HRB3 HB4 HFRM
      by_cases he : frameOf kd (f.take 112) s m = f
      · have hb2 : bb = false := by rw [hbb]; simp [he]
        subst hb2
        have hho := HHO2.out
        rw [if_pos he] at hho
        simp only [Prod.mk.injEq] at hho
        obtain ⟨rfl, rfl, rfl⟩ := hho
        clear he hbb HBB HHO2
        go_upto_region 8 with fail
        refine wp_region_lit ?_
        refine wp_y (v := .agg #[.int .i64 S0, .int .i64 M0]) rfl rfl (y_load rfl (hl := fun w' h => by subst h; exact load78 HH4.out)) rfl ?_
        refine wp_do rfl rfl (run_storeOp rfl (by kernel_rfl) (by kernel_rfl) (store78 HRB.out S0 M0)) ?_
        refine wp_y (v := (.bool true)) rfl rfl (y_assign rfl) rfl ?_
        try simp only [List.setIfInBounds_toArray, List.set_cons_zero, List.set_cons_succ]
        refine wp_end ?_
        go_wp2
        refine ret_pair rfl rfl (by kernel_rfl) (load78 (HRB.out.row S0 M0)) ⟨rfl, by first | exact below_row HB5.out (by omega) _ | (rw [hfb]; exact below_row HB5.out (by omega) _)⟩
      · have hb2 : bb = true := by rw [hbb]; simp [he]
        subst hb2
        have hho := HHO2.out
        rw [if_neg he] at hho
        simp only [Prod.mk.injEq] at hho
        obtain ⟨rfl, rfl, rfl⟩ := hho
        clear he hbb HBB HHO2
        generalize w4 = w2 at *
        go_upto_region 7 with fail
        refine wp_region_lit ?_
        refine wp_run (v := .agg #[.int .i64 0, .int .i64 0]) rfl rfl (run_buildOp rfl (by kernel_rfl) (build78z w2)) rfl ?_
        refine wp_do rfl rfl (run_storeOp rfl (by kernel_rfl) (by kernel_rfl) (store78 HRB.out 0 0)) ?_
        refine wp_y (v := (.bool false)) rfl rfl (y_assign rfl) rfl ?_
        try simp only [List.setIfInBounds_toArray, List.set_cons_zero, List.set_cons_succ]
        refine wp_end ?_
        go_wp2
        refine ret_pair rfl rfl (by kernel_rfl) (load78 (HRB.out.row 0 0)) ⟨rfl, by first | exact below_row HB5.out (by omega) _ | (rw [hfb]; exact below_row HB5.out (by omega) _)⟩
end Go.Proofs.YtcmgclkbhhdnaaaGreatDoor
namespace Go.Proofs.YtcmgclkbhhdnaaaGreatDoor
open Go Go.RowKit

/-- The block of a journal. -/
def Jn (w : World) (j p nb : Nat) (seq off : Int) : Prop := w.heap[j]? = some (.cells #[.pointer (some ⟨p, 0, none⟩), .int .i64 nb, .int .i64 seq, .int .i64 off] 140 (0, 0))
section
variable {w : World} {j p nb : Nat} {seq off : Int} (h : Jn w j p nb seq off)
include h
theorem Jn.c0 : w.cell? ⟨j, 0, none⟩ = some (.pointer (some ⟨p, 0, none⟩)) := cell_at h 0 rfl
theorem Jn.c1 : w.cell? ⟨j, 1, none⟩ = some (.int .i64 nb) := cell_at h 1 rfl
theorem Jn.c2 : w.cell? ⟨j, 2, none⟩ = some (.int .i64 seq) := cell_at h 2 rfl
theorem Jn.c3 : w.cell? ⟨j, 3, none⟩ = some (.int .i64 off) := cell_at h 3 rfl
theorem Jn.f (i : Nat) : w.frozen? ⟨j, i, none⟩ = false := open_at h i
end
theorem fa82_0 (b : Nat) (w : World) : (Instr.fieldAt 140 (.pointer (some ⟨b, 0, none⟩)) 0).run Tryz.prog w = .ok (.pointer (some ⟨b, 0, none⟩)) w := by go_simp
theorem fa82_1 (b : Nat) (w : World) : (Instr.fieldAt 140 (.pointer (some ⟨b, 0, none⟩)) 1).run Tryz.prog w = .ok (.pointer (some ⟨b, 1, none⟩)) w := by go_simp
theorem fa82_2 (b : Nat) (w : World) : (Instr.fieldAt 140 (.pointer (some ⟨b, 0, none⟩)) 2).run Tryz.prog w = .ok (.pointer (some ⟨b, 2, none⟩)) w := by go_simp
theorem Disk.other {w : World} {p : Nat} {X : List Nat} {s : DS} (h : Disk w p X s) {g : Nat} {c : Array Value} {t : TypeId} {z : Nat × Nat} (hg : w.heap[g]? = some (.cells c t z)) (h1 : t ≠ 102) (h2 : t ≠ 120) : g ∉ X := by
  obtain ⟨a, ca, b, cb, m, rfl, hD, hA, hB, hM, _⟩ := h
  intro hm
  simp only [List.mem_cons, List.not_mem_nil, or_false] at hm
  rcases hm with rfl | rfl | rfl | rfl
  · rw [Dc, hg] at hD; cases hD; exact h1 rfl
  · obtain ⟨cur, hc, _⟩ := hA; rw [hg] at hc; cases hc; exact h2 rfl
  · obtain ⟨cur, hc, _⟩ := hB; rw [hg] at hc; cases hc; exact h2 rfl
  · rw [Mp, hg] at hM; cases hM
theorem Disk.jother {w : World} {p : Nat} {X : List Nat} {s : DS} (h : Disk w p X s) {j nb : Nat} {p' : Nat} {seq off : Int} (hj : Jn w j p' nb seq off) : j ∉ X := h.other hj (by decide) (by decide)
theorem Disk.jnot {w : World} {p : Nat} {X : List Nat} {s : DS} (h : Disk w p X s) {j nb : Nat} {p' : Nat} {seq off : Int} (hj : Jn w j p' nb seq off) : ∀ k ∈ X, k ∉ [j] := fun k hk hm => by
  obtain rfl : k = j := by simpa using hm
  exact h.jother hj hk
set_option maxHeartbeats 400000 in
theorem told_any {w : World} {j p nb : Nat} {seq off : Int} (h : Jn w j p nb seq off) (x : Int) :
    Calls Tryz.prog 110 #[.pointer (some ⟨j, 0, none⟩), .int .i64 x] w fun e w' => e = .returned (.int .i64 x) ∧ Jn w' j p nb seq x ∧ Fr [j] w w' := by
  have h3 := h.c3
  have f3 := h.f 3
  have H := hid h
  clear h
  go_enter Tryz.func110, Tryz.ntmps110
  go_wp2
  go_ret
  exact ⟨rfl, heap_setCell H.out 3 (.int .i64 x), Fr.setCell w j 3 _⟩
theorem noteAt_any (i : Nat) (h : i ≤ 1000000) (w : World) : Calls Tryz.prog 76 #[.int .i64 i] w fun e w' => e = .returned (.int .i64 (2 + i : Nat)) ∧ w' = w := by
  have h1 : IntKind.i64.wrap (2 + (i : Int)) = ((2 + i : Nat) : Int) := by rw [IntWalk.i64_in _ ⟨by omega, by omega⟩]; omega
  generalize 2 + i = k at *
  go_enter Tryz.func76, Tryz.ntmps76
  go_wp2
  go_ret
  exact ⟨rfl, rfl⟩
theorem blockAt_any {w : World} {j p nb : Nat} {seq off : Int} (hj : Jn w j p nb seq off) (hn : nb ≤ 1000000) (i : Nat) (h : i ≤ 1000000) : Calls Tryz.prog 77 #[.pointer (some ⟨j, 0, none⟩), .int .i64 i] w fun e w' => e = .returned (.int .i64 (2 + nb + i : Nat)) ∧ w' = w := by
  have h1 : IntKind.i64.wrap (2 + (nb : Int)) = ((2 + nb : Nat) : Int) := by rw [IntWalk.i64_in _ ⟨by omega, by omega⟩]; omega
  have h2 : IntKind.i64.wrap (((2 + nb : Nat) : Int) + (i : Int)) = ((2 + nb + i : Nat) : Int) := by rw [IntWalk.i64_in _ ⟨by omega, by omega⟩]; omega
  have c1 := hj.c1
  generalize 2 + nb + i = k at *
  generalize 2 + nb = k2 at *
  clear hj
  go_enter Tryz.func77, Tryz.ntmps77
  go_wp2
  go_ret
  exact ⟨rfl, rfl⟩
theorem jhas_any {w : World} {j p nb : Nat} {seq off : Int} (hj : Jn w j p nb seq off) (x : Int) : Calls Tryz.prog 103 #[.pointer (some ⟨j, 0, none⟩), .int .i64 x] w fun e w' => e = .returned (.bool (hasB x nb)) ∧ w' = w := by
  have c1 := hj.c1
  clear hj
  by_cases h0 : 0 ≤ x
  · have d0 : decide (0 ≤ x) = true := decide_eq_true h0
    by_cases hn : x < (nb : Int)
    · have d1 : decide (x < (nb : Int)) = true := decide_eq_true hn
      go_enter Tryz.func103, Tryz.ntmps103
      go_wp2
      go_ret
      exact ⟨by unfold hasB; rw [d0, d1]; rfl, rfl⟩
    · have d1 : decide (x < (nb : Int)) = false := decide_eq_false hn
      go_enter Tryz.func103, Tryz.ntmps103
      go_wp2
      go_ret
      exact ⟨by unfold hasB; rw [d0, d1]; rfl, rfl⟩
  · have d0 : decide (0 ≤ x) = false := decide_eq_false h0
    go_enter Tryz.func103, Tryz.ntmps103
    go_wp2
    go_ret
    exact ⟨by unfold hasB; rw [d0]; rfl, rfl⟩
set_option maxHeartbeats 800000 in
theorem put_any {w : World} {j p nb : Nat} {seq off : Int} {X : List Nat} {s : DS} (hj : Jn w j p nb seq off) (hD : Disk w p X s) (x : Int) (f : List UInt8) (hf : f.length = 128) :
    Calls Tryz.prog 75 #[.pointer (some ⟨j, 0, none⟩), .int .i64 x, V8 f] w fun e w' => e = .returned (.int .i64 (s.wr x f).1) ∧ Jn w' j p nb seq (s.wr x f).1 ∧ Disk w' p X (s.wr x f).2 ∧ Fr (j :: X) w w' := by
  have hbx := box75 w f hf
  obtain ⟨w1, hw1⟩ : ∃ w1, w1 = w.alloc (.cells (cells8 f).toArray 141) := ⟨_, rfl⟩
  rw [← hw1] at hbx
  have hB1 : Below w.heap.size w w1 := by rw [hw1]; exact (Below.refl _ _).alloc (Nat.le_refl _) _
  have hr1 : Rw w1 w.heap.size 141 f := by rw [hw1]; exact heap_alloc_last w _
  have hsl : Sl w1 (.slice (some ⟨w.heap.size, 0, none⟩) 128 128) f := by
    have := Sl.mk (cap := 128) hr1.rd (by omega)
    rw [hf] at this; exact this
  have HBX := hid hbx
  have HSL := hid hsl
  have HD := hid (hD.below hB1)
  have HJ := hid (show Jn w1 j p nb seq off from below_at hB1 hj (heap_lt hj))
  have HB1 := hid hB1
  clear hbx hsl hr1 hB1 hj hD hw1 hf
  go_enter Tryz.func75, Tryz.ntmps75
  go_upto_region 0 with fail
  refine wp_region_lit ?_
  refine wp_run (v := .pointer (some ⟨w.heap.size, 0, none⟩)) rfl rfl (run_boxOp rfl (by kernel_rfl) HBX.out) rfl ?_
  refine wp_y (v := (.int .i64 0)) rfl rfl (y_assign rfl) rfl ?_
  try simp only [List.setIfInBounds_toArray, List.set_cons_zero, List.set_cons_succ]
  refine wp_end ?_
  clear HBX
  generalize hfb : w.heap.size = fb at *
  go_upto_region 1 with fail
  refine z_open (S := fun w' => ∃ o, Jn w' j p nb seq o) 9 (by kernel_rfl) (by kernel_rfl) (fun _ _ _ _ _ h => h) (L := #[false, false, false, false, false, false, false, false, false, false]) (by kernel_rfl) ?_
  intro Q' hns hP hN
  have hS := (show ∃ o, Jn w1.drew j p nb seq o from ⟨off, HJ.out⟩)
  refine z_pure (i := 0) (v := .pointer (some ⟨j, 0, none⟩)) hns rfl rfl rfl (by kernel_rfl) (by kernel_rfl) hP (y_move rfl) (fun _ => hS) rfl (L' := #[true, false, false, false, false, false, false, false, false, false]) (by kernel_rfl) ?_
  refine z_pure (i := 1) (v := .pointer (some ⟨j, 0, none⟩)) hns rfl rfl rfl (by kernel_rfl) (by kernel_rfl) hP (y_move rfl) (fun _ => hS) rfl (L' := #[true, true, false, false, false, false, false, false, false, false]) (by kernel_rfl) ?_
  refine z_pure (i := 2) (v := .pointer (some ⟨j, 0, none⟩)) hns rfl rfl rfl (by kernel_rfl) (by kernel_rfl) hP (y_nil rfl) (fun _ => hS) rfl (L' := #[true, true, true, false, false, false, false, false, false, false]) (by kernel_rfl) ?_
  refine z_pure (i := 3) (v := .pointer (some ⟨j, 0, none⟩)) hns rfl rfl rfl (by kernel_rfl) (by kernel_rfl) hP (y_faddr rfl (hf := fa82_0 (j))) (fun _ => hS) rfl (L' := #[true, true, true, true, false, false, false, false, false, false]) (by kernel_rfl) ?_
  refine z_read (i := 4) (v := .pointer (some ⟨p, 0, none⟩)) hns rfl (by kernel_rfl) rfl rfl (by kernel_rfl) (by kernel_rfl) hP (y_load rfl (hl := fun w' h => by obtain ⟨o, ho⟩ := h; exact load1 Tryz.isAgg24 ho.c0)) rfl hS rfl (L' := #[true, true, true, true, true, false, false, false, false, false]) (by kernel_rfl) ?_
  refine z_pure (i := 5) (v := .int .i64 x) hns rfl rfl rfl (by kernel_rfl) (by kernel_rfl) hP (y_move rfl) (fun _ => hS) rfl (L' := #[true, true, true, true, true, true, false, false, false, false]) (by kernel_rfl) ?_
  refine z_pure (i := 6) (v := .slice (some ⟨fb, 0, none⟩) 128 128) hns rfl rfl rfl (by kernel_rfl) (by kernel_rfl) hP (y_slice rfl (by kernel_rfl) (by kernel_rfl) (by kernel_rfl) (by kernel_rfl) (by kernel_rfl) (sl75a fb)) (fun _ => hS) rfl (L' := #[true, true, true, true, true, true, true, false, false, false]) (by kernel_rfl) ?_
  simp only [List.setIfInBounds_toArray, List.set_cons_zero, List.set_cons_succ]
  refine z_call (i := 7) (f := 111) (args := #[.pointer (some ⟨p, 0, none⟩), .int .i64 x, .slice (some ⟨fb, 0, none⟩) 128 128]) (by kernel_rfl) rfl rfl (by kernel_rfl) (enter_go rfl (by kernel_rfl) (fun w => by go_simp)) (L' := #[true, true, true, true, true, true, true, true, false, false]) (by kernel_rfl) ?_
  refine (write_d (show Disk w1.drew p X s from HD.out) x (show Sl w1.drew _ f from HSL.out)).mono ?_
  rintro e w2 ⟨rfl, hD2, hF2⟩
  have hF2 : Fr X w1 w2 := hF2.undrew
  have hJ2 : Jn w2 j p nb seq off := hF2.at HJ.out (HD.out.jother HJ.out)
  refine ⟨_, rfl, ⟨_, hJ2⟩, ?_⟩
  refine z_call (i := 8) (f := 110) (args := #[.pointer (some ⟨j, 0, none⟩), .int .i64 (s.wr x f).1]) (by kernel_rfl) rfl rfl (by kernel_rfl) (enter_go rfl (by kernel_rfl) (fun w => by go_simp)) (L' := #[true, true, true, true, true, true, true, true, true, false]) (by kernel_rfl) ?_
  refine (told_any hJ2 (s.wr x f).1).mono ?_
  rintro e w3 ⟨rfl, hJ3, hF3⟩
  have hD3 := hD2.fr hF3 (hD2.jnot hJ2)
  refine ⟨_, rfl, ⟨_, hJ3⟩, ?_⟩
  refine z_val (i := 9) (v := .int .i64 (s.wr x f).1) (by kernel_rfl) rfl rfl (by kernel_rfl) (run_asg rfl (by kernel_rfl)) ⟨_, hJ3⟩ rfl (L' := #[true, true, true, true, true, true, true, true, true, true]) (by kernel_rfl) ?_
  try simp only [List.setIfInBounds_toArray, List.set_cons_zero, List.set_cons_succ]
  refine z_done (by kernel_rfl) ?_ _
  refine hN _ _ ?_
  clear hP hN hns
  clear hS
  go_wp2
  go_ret
  refine ⟨rfl, hJ3, hD3, ?_⟩
  have h1 : Fr (j :: X) w w1 := Fr.of_below (X := j :: X) (by rw [hfb]; exact HB1.out)
  exact (h1.trans hF2 (fun k hk => .inl (List.mem_cons_of_mem _ hk))).trans hF3 (fun k hk => .inl (by simp at hk; simp [hk]))
set_option maxHeartbeats 800000 in
theorem jflush_any {w : World} {j p nb : Nat} {seq off : Int} {X : List Nat} {s : DS} (hj : Jn w j p nb seq off) (hD : Disk w p X s) :
    Calls Tryz.prog 78 #[.pointer (some ⟨j, 0, none⟩)] w fun e w' => e = .returned (.int .i64 s.fl.1) ∧ Jn w' j p nb seq s.fl.1 ∧ ∃ X', Disk w' p X' s.fl.2 ∧ (∀ k ∈ X', k ∈ X ∨ w.heap.size ≤ k) ∧ Fr (j :: X) w w' := by
  have HD := hid hD
  have HJ := hid hj
  clear hD hj
  go_enter Tryz.func78, Tryz.ntmps78
  go_upto_region 1 with fail
  refine wp_region_lit ?_
  refine wp_y (v := .pointer (some ⟨j, 0, none⟩)) rfl rfl (y_move rfl) rfl ?_
  refine wp_y (v := .pointer (some ⟨j, 0, none⟩)) rfl rfl (y_move rfl) rfl ?_
  refine wp_y (v := .pointer (some ⟨j, 0, none⟩)) rfl rfl (y_nil rfl) rfl ?_
  refine wp_y (v := .pointer (some ⟨j, 0, none⟩)) rfl rfl (y_faddr rfl (hf := fa82_0 (j))) rfl ?_
  refine wp_y (v := .pointer (some ⟨p, 0, none⟩)) rfl rfl (y_load rfl (hl := fun w' h => by subst h; exact load1 Tryz.isAgg24 HJ.out.c0)) rfl ?_
  refine wp_call (f := 112) (args := #[.pointer (some ⟨p, 0, none⟩)]) (by kernel_rfl) (fun w => by go_simp) ?_
  refine (flush_d HD.out).mono ?_
  rintro e w2 ⟨rfl, X2, hD2, hX2, hF2⟩
  have hJ2 : Jn w2 j p nb seq off := hF2.at HJ.out (HD.out.jother HJ.out)
  refine ⟨_, rfl, ?_⟩
  dsimp only [Act.put]
  refine wp_call (f := 110) (args := #[.pointer (some ⟨j, 0, none⟩), .int .i64 s.fl.1]) (by kernel_rfl) (fun w => by go_simp) ?_
  refine (told_any hJ2 s.fl.1).mono ?_
  rintro e w3 ⟨rfl, hJ3, hF3⟩
  have hD3 := hD2.fr hF3 (hD2.jnot hJ2)
  refine ⟨_, rfl, ?_⟩
  dsimp only [Act.put]
  refine wp_y (v := .int .i64 s.fl.1) rfl rfl (y_assign rfl) rfl ?_
  try simp only [List.setIfInBounds_toArray, List.set_cons_zero, List.set_cons_succ]
  refine wp_end ?_
  go_wp2
  go_ret
  exact ⟨rfl, hJ3, X2, hD3, hX2, (hF2.mono (fun k hk => .inl (List.mem_cons_of_mem _ hk))).trans hF3 (fun k hk => .inl (by simp at hk; simp [hk]))⟩
end Go.Proofs.YtcmgclkbhhdnaaaGreatDoor
namespace Go.Proofs.YtcmgclkbhhdnaaaGreatDoor
open Go Go.RowKit

def noteC (x : Nat × List UInt8) : List Value := .int .i64 x.1 :: cells8 x.2
theorem noteC_len {x : Nat × List UInt8} (h : x.2.length = 128) : (noteC x).length = 129 := by simp [noteC, cells8_len, h]
/-- The slice v has the notes ns, in block g. -/
def Nts (w : World) (g : Nat) (v : Value) (ns : List (Nat × List UInt8)) : Prop :=
  (∀ x ∈ ns, x.2.length = 128) ∧ (v = .slice none 0 0 ∧ ns = [] ∨ ∃ cap cur, v = .slice (some ⟨g, 0, none⟩) ns.length cap ∧ w.heap[g]? = some (.cells cur 160 (0, 0)) ∧ ∀ (k : Nat) x, ns[k]? = some x → ∀ (i : Nat) u, (noteC x)[i]? = some u → cur[k * 129 + i]? = some u)
theorem Nts.shape {w : World} {g : Nat} {v : Value} {ns : List (Nat × List UInt8)} (h : Nts w g v ns) : ∃ a cap, v = .slice a ns.length cap := by
  rcases h.2 with ⟨rfl, rfl⟩ | ⟨cap, cur, rfl, _⟩
  · exact ⟨_, _, rfl⟩
  · exact ⟨_, _, rfl⟩
theorem Nts.fr {X : List Nat} {w w' : World} {g : Nat} {v : Value} {ns : List (Nat × List UInt8)} (h : Nts w g v ns) (hF : Fr X w w') (hX : ∀ c, w.heap[g]? = some (.cells c 160 (0, 0)) → g ∉ X) : Nts w' g v ns := by
  refine ⟨h.1, ?_⟩
  rcases h.2 with h2 | ⟨cap, cur, rfl, hg, hc⟩
  · exact .inl h2
  · exact .inr ⟨cap, cur, rfl, hF.at hg (hX _ hg), hc⟩
theorem Nts.below {w w' : World} {g : Nat} {v : Value} {ns : List (Nat × List UInt8)} (h : Nts w g v ns) (hB : Below w.heap.size w w') : Nts w' g v ns := h.fr (Fr.of_below (X := []) hB) (by simp)
theorem Nts.get {w : World} {g : Nat} {v : Value} {ns : List (Nat × List UInt8)} (h : Nts w g v ns) {k : Nat} {x : Nat × List UInt8} (hx : ns[k]? = some x) :
    ∃ cap cur, v = .slice (some ⟨g, 0, none⟩) ns.length cap ∧ w.heap[g]? = some (.cells cur 160 (0, 0)) ∧ cur[k * 129]? = some (.int .i64 x.1) ∧ (∀ (i : Nat) u, (cells8 x.2)[i]? = some u → cur[k * 129 + 1 + i]? = some u) ∧ x.2.length = 128 := by
  rcases h.2 with ⟨_, rfl⟩ | ⟨cap, cur, rfl, hg, hc⟩
  · simp at hx
  · refine ⟨cap, cur, rfl, hg, hc k x hx 0 _ rfl, fun i u hu => ?_, h.1 x (List.mem_of_getElem? hx)⟩
    have := hc k x hx (1 + i) u (by rw [Nat.add_comm]; exact hu)
    rw [← Nat.add_assoc] at this
    exact this
theorem idx86 (g n cap k : Nat) (h : k < n) (w : World) : (Instr.indexAt 134 (.slice (some ⟨g, 0, none⟩) n cap) (.int .i64 k)).run Tryz.prog w = .ok (.pointer (some ⟨g, k * 129, none⟩)) w := by
  have h1 : (k : Int) < n := by omega
  go_simp
theorem fa96_0 (g o : Nat) (w : World) : (Instr.fieldAt 160 (.pointer (some ⟨g, o, none⟩)) 0).run Tryz.prog w = .ok (.pointer (some ⟨g, o, none⟩)) w := by go_simp
theorem fa96_1 (g o : Nat) (w : World) : (Instr.fieldAt 160 (.pointer (some ⟨g, o, none⟩)) 1).run Tryz.prog w = .ok (.pointer (some ⟨g, o + 1, none⟩)) w := by go_simp
theorem load75at {w : World} {g o : Nat} {t : TypeId} {cur : Array Value} {l : List UInt8} (hl : l.length = 128) (h : w.heap[g]? = some (.cells cur t (0, 0))) (hc : ∀ (i : Nat) u, (cells8 l)[i]? = some u → cur[o + i]? = some u) : (Instr.loadAt 141 (.pointer (some ⟨g, o, none⟩))).run Tryz.prog w = .ok (V8 l) w :=
  loadAt_k agg75 size75 w g o cur t (0, 0) (cells8 l) (by rw [cells8_len]; exact hl) h hc
/-- Writes, one behind the other, until the disk answers an error. -/
def DS.puts (s : DS) : List (Nat × List UInt8) → Int × DS
  | [] => (0, s)
  | x :: r => if (s.wr x.1 x.2).1 = 0 then (s.wr x.1 x.2).2.puts r else s.wr x.1 x.2
theorem DS.puts_snoc (L : List (Nat × List UInt8)) (x : Nat × List UInt8) : ∀ s : DS, s.puts (L ++ [x]) = if (s.puts L).1 = 0 then (s.puts L).2.wr x.1 x.2 else s.puts L := by
  induction L with
  | nil =>
    intro s
    simp only [List.nil_append, DS.puts, if_true]
    split
    · rename_i h; rw [← h]
    · rfl
  | cons y L ih =>
    intro s
    simp only [List.cons_append, DS.puts]
    split
    · exact ih _
    · simp
theorem DS.puts_take {ns : List (Nat × List UInt8)} {k : Nat} {x : Nat × List UInt8} (hx : ns[k]? = some x) (s : DS) : s.puts (ns.take (k + 1)) = if (s.puts (ns.take k)).1 = 0 then (s.puts (ns.take k)).2.wr x.1 x.2 else s.puts (ns.take k) := by
  rw [List.take_add_one, hx]; exact DS.puts_snoc _ _ s
theorem DS.puts_stop (L : List (Nat × List UInt8)) : ∀ (s : DS) (k : Nat), (s.puts (L.take k)).1 ≠ 0 → s.puts L = s.puts (L.take k) := by
  induction L with
  | nil => intro s k h; simp [DS.puts] at h
  | cons y L ih =>
    intro s k h
    cases k with
    | zero => simp [DS.puts] at h
    | succ k =>
      simp only [List.take_succ_cons, DS.puts] at h ⊢
      split
      · rename_i h0
        rw [if_pos h0] at h
        exact ih _ k h
      · rfl
/-- Where notes lie, and where the blocks that they are of. -/
def noteAtL (ns : List (Nat × List UInt8)) : List (Nat × List UInt8) := ns.zipIdx.map fun y => (2 + y.2, y.1.2)
def blockAtL (nb : Nat) (ns : List (Nat × List UInt8)) : List (Nat × List UInt8) := ns.map fun x => (2 + nb + x.1, x.2)
theorem noteAtL_len (ns : List (Nat × List UInt8)) : (noteAtL ns).length = ns.length := by simp [noteAtL]
theorem blockAtL_len (nb : Nat) (ns : List (Nat × List UInt8)) : (blockAtL nb ns).length = ns.length := by simp [blockAtL]
theorem noteAtL_get {ns : List (Nat × List UInt8)} {k : Nat} {x : Nat × List UInt8} (hx : ns[k]? = some x) : (noteAtL ns)[k]? = some (2 + k, x.2) := by
  simp [noteAtL, hx]
theorem blockAtL_get {nb : Nat} {ns : List (Nat × List UInt8)} {k : Nat} {x : Nat × List UInt8} (hx : ns[k]? = some x) : (blockAtL nb ns)[k]? = some (2 + nb + x.1, x.2) := by
  simp [blockAtL, hx]
/-- What lay does. -/
def DS.layR (s : DS) (nb : Nat) (ns : List (Nat × List UInt8)) : Int × DS := if (s.puts (blockAtL nb ns)).1 = 0 then (s.puts (blockAtL nb ns)).2.fl else s.puts (blockAtL nb ns)
end Go.Proofs.YtcmgclkbhhdnaaaGreatDoor
namespace Go.Proofs.YtcmgclkbhhdnaaaGreatDoor
open Go Go.RowKit

/-- What stays through the writes: the journal's block and the notes'. -/
theorem note_not {w : World} {p : Nat} {X : List Nat} {s : DS} {j nb : Nat} {seq off : Int} {g : Nat} {c : Array Value} (hD : Disk w p X s) (hj : Jn w j p nb seq off) (hg : w.heap[g]? = some (.cells c 160 (0, 0))) : g ∉ j :: X := fun hm => by
  rcases List.mem_cons.1 hm with rfl | hm
  · rw [Jn, hg] at hj; cases hj
  · exact hD.other hg (by decide) (by decide) hm
set_option maxRecDepth 100000 in
set_option maxHeartbeats 2000000 in
theorem jlay_any {w : World} {j p nb g : Nat} {seq off : Int} {X : List Nat} {s : DS} {v : Value} {ns : List (Nat × List UInt8)} (hj : Jn w j p nb seq off) (hD : Disk w p X s) (hn : Nts w g v ns) (hnb : nb ≤ 1000000) (hns : ns.length ≤ 1000000) (hi : ∀ x ∈ ns, x.1 ≤ 1000000) :
    Calls Tryz.prog 106 #[.pointer (some ⟨j, 0, none⟩), v] w fun e w' => e = .returned (.int .i64 (s.layR nb ns).1) ∧ Jn w' j p nb seq (s.layR nb ns).1 ∧ ∃ X', Disk w' p X' (s.layR nb ns).2 ∧ (∀ k ∈ X', k ∈ X ∨ w.heap.size ≤ k) ∧ Fr (j :: X) w w' := by
  obtain ⟨va, vc, rfl⟩ := hn.shape
  have HJ0 := hid hj
  have HD0 := hid hD
  have HN0 := hid hn
  have HNB := hid hnb
  have HNL := hid hns
  have HIX := hid hi
  clear hj hD hn hnb hns hi
  go_enter Tryz.func106, Tryz.ntmps106
  go_wp2_with fail
  go_loopw [9, 5, 6] (fun y _ _ wr => ∃ (k : Nat) (of : Int), k ≤ ns.length ∧ y = .int .i64 k ∧ Jn wr j p nb seq of ∧ (s.puts ((blockAtL nb ns).take k)).1 = 0 ∧ Disk wr p X (s.puts ((blockAtL nb ns).take k)).2 ∧ Nts wr g (.slice va ns.length vc) ns ∧ Fr (j :: X) w wr) (fun y _ _ _ => ns.length - (intOf y).toNat)
  case atStart => exact ⟨0, off, Nat.zero_le _, rfl, HJ0.out, rfl, HD0.out, HN0.out, Fr.refl _ _⟩
  case round =>
    obtain ⟨k, of, hk, rfl, hJr, h0, hDr, hNr, hFr⟩ := hrel
    have hnl := HNL.out
    have hwk : IntKind.i64.wrap ((k : Int) + 1) = ((k + 1 : Nat) : Int) := by rw [IntWalk.i64_in _ ⟨by omega, by omega⟩]; omega
    clear hnl
    by_cases hlt : k < ns.length
    · have hlt' : (k : Int) < (ns.length : Int) := by omega
      obtain ⟨⟨i1, l1⟩, hx⟩ : ∃ x, ns[k]? = some x := ⟨_, List.getElem?_eq_getElem hlt⟩
      obtain ⟨cap, cur, e, hg, hc0, hc1, hfl⟩ := hNr.get hx
      cases e
      have hst := DS.puts_take (blockAtL_get (nb := nb) hx) s
      rw [if_pos h0] at hst
      have HI1 := hid (HIX.out _ (List.mem_of_getElem? hx))
      have HGN := hid (note_not hDr hJr hg)
      have HJ := hid hJr
      have HD := hid hDr
      have HG := hid hg
      have HC0 := hid hc0
      have HC1 := hid hc1
      have HFL := hid hfl
      have HFR := hid hFr
      have HNR := hid hNr
      have HST := hid hst
      obtain ⟨s2, hs2⟩ : ∃ s2, s2 = (s.puts ((blockAtL nb ns).take k)).2 := ⟨_, rfl⟩
      rw [← hs2] at HD HST
      clear hx hJr hDr hNr hg hc0 hc1 hfl hst hFr h0 hs2
      go_upto_region 4 with fail
      refine z_open (S := fun w' => (∃ o, Jn w' j p nb seq o) ∧ w'.heap[g]? = some (.cells cur 160 (0, 0))) 14 (by kernel_rfl) (by kernel_rfl) (fun _ _ _ _ _ h => h) (L := #[false, false, false, false, false, false, false, false, false, false, false, false, false, false, false]) (by kernel_rfl) ?_
      intro Q' hns hP hN
      have hS := (show (∃ o, Jn wr.drew j p nb seq o) ∧ wr.drew.heap[g]? = some (.cells cur 160 (0, 0)) from ⟨⟨of, HJ.out⟩, HG.out⟩)
      refine z_pure (i := 0) (v := .pointer (some ⟨j, 0, none⟩)) hns rfl rfl rfl (by kernel_rfl) (by kernel_rfl) hP (y_move rfl) (fun _ => hS) rfl (L' := #[true, false, false, false, false, false, false, false, false, false, false, false, false, false, false]) (by kernel_rfl) ?_
      refine z_pure (i := 1) (v := .pointer (some ⟨j, 0, none⟩)) hns rfl rfl rfl (by kernel_rfl) (by kernel_rfl) hP (y_move rfl) (fun _ => hS) rfl (L' := #[true, true, false, false, false, false, false, false, false, false, false, false, false, false, false]) (by kernel_rfl) ?_
      refine z_pure (i := 2) (v := .slice (some ⟨g, 0, none⟩) ns.length vc) hns rfl rfl rfl (by kernel_rfl) (by kernel_rfl) hP (y_move rfl) (fun _ => hS) rfl (L' := #[true, true, true, false, false, false, false, false, false, false, false, false, false, false, false]) (by kernel_rfl) ?_
      refine z_pure (i := 3) (v := .int .i64 k) hns rfl rfl rfl (by kernel_rfl) (by kernel_rfl) hP (y_move rfl) (fun _ => hS) rfl (L' := #[true, true, true, true, false, false, false, false, false, false, false, false, false, false, false]) (by kernel_rfl) ?_
      refine z_pure (i := 4) (v := .pointer (some ⟨g, k * 129, none⟩)) hns rfl rfl rfl (by kernel_rfl) (by kernel_rfl) hP (y_index rfl (hr := idx86 g ns.length vc k hlt)) (fun _ => hS) rfl (L' := #[true, true, true, true, true, false, false, false, false, false, false, false, false, false, false]) (by kernel_rfl) ?_
      refine z_pure (i := 5) (v := .pointer (some ⟨g, k * 129, none⟩)) hns rfl rfl rfl (by kernel_rfl) (by kernel_rfl) hP (y_faddr rfl (hf := fa96_0 g (k * 129))) (fun _ => hS) rfl (L' := #[true, true, true, true, true, true, false, false, false, false, false, false, false, false, false]) (by kernel_rfl) ?_
      refine z_read (i := 6) (v := .int .i64 i1) hns rfl (by kernel_rfl) rfl rfl (by kernel_rfl) (by kernel_rfl) hP (y_load rfl (hl := fun w' h => load1 Tryz.isAgg3 (cell_at h.2 (k * 129) HC0.out))) rfl hS rfl (L' := #[true, true, true, true, true, true, true, false, false, false, false, false, false, false, false]) (by kernel_rfl) ?_
      simp only [List.setIfInBounds_toArray, List.set_cons_zero, List.set_cons_succ]
      refine z_pure (i := 8) (v := .slice (some ⟨g, 0, none⟩) ns.length vc) hns rfl rfl rfl (by kernel_rfl) (by kernel_rfl) hP (y_move rfl) (fun _ => hS) rfl (L' := #[true, true, true, true, true, true, true, false, true, false, false, false, false, false, false]) (by kernel_rfl) ?_
      refine z_pure (i := 9) (v := .int .i64 k) hns rfl rfl rfl (by kernel_rfl) (by kernel_rfl) hP (y_move rfl) (fun _ => hS) rfl (L' := #[true, true, true, true, true, true, true, false, true, true, false, false, false, false, false]) (by kernel_rfl) ?_
      refine z_pure (i := 10) (v := .pointer (some ⟨g, k * 129, none⟩)) hns rfl rfl rfl (by kernel_rfl) (by kernel_rfl) hP (y_index rfl (hr := idx86 g ns.length vc k hlt)) (fun _ => hS) rfl (L' := #[true, true, true, true, true, true, true, false, true, true, true, false, false, false, false]) (by kernel_rfl) ?_
      refine z_pure (i := 11) (v := .pointer (some ⟨g, k * 129 + 1, none⟩)) hns rfl rfl rfl (by kernel_rfl) (by kernel_rfl) hP (y_faddr rfl (hf := fa96_1 g (k * 129))) (fun _ => hS) rfl (L' := #[true, true, true, true, true, true, true, false, true, true, true, true, false, false, false]) (by kernel_rfl) ?_
      refine z_read (i := 12) (v := V8 l1) hns rfl (by kernel_rfl) rfl rfl (by kernel_rfl) (by kernel_rfl) hP (y_load rfl (hl := fun w' h => load75at HFL.out h.2 HC1.out)) rfl hS rfl (L' := #[true, true, true, true, true, true, true, false, true, true, true, true, true, false, false]) (by kernel_rfl) ?_
      refine z_call (i := 7) (f := 77) (args := #[.pointer (some ⟨j, 0, none⟩), .int .i64 i1]) (by kernel_rfl) rfl rfl (by kernel_rfl) (enter_go rfl (by kernel_rfl) (fun w => by go_simp)) (L' := #[true, true, true, true, true, true, true, true, true, true, true, true, true, false, false]) (by kernel_rfl) ?_
      refine (blockAt_any (show Jn wr.drew j p nb seq of from HJ.out) HNB.out i1 HI1.out).mono ?_
      rintro e wz ⟨rfl, hwz⟩
      subst hwz
      refine ⟨_, rfl, hS, ?_⟩
      refine z_call (i := 13) (f := 75) (args := #[.pointer (some ⟨j, 0, none⟩), .int .i64 (2 + nb + i1 : Nat), V8 l1]) (by kernel_rfl) rfl rfl (by kernel_rfl) (enter_go rfl (by kernel_rfl) (fun w => by go_simp)) (L' := #[true, true, true, true, true, true, true, true, true, true, true, true, true, true, false]) (by kernel_rfl) ?_
      refine (put_any (show Jn wr.drew j p nb seq of from HJ.out) (show Disk wr.drew p X s2 from HD.out) ((2 + nb + i1 : Nat) : Int) l1 HFL.out).mono ?_
      rintro e w3 ⟨rfl, hJ3, hD3, hF3⟩
      have hF3 : Fr (j :: X) wr w3 := hF3.undrew
      have hg3 : w3.heap[g]? = some (.cells cur 160 (0, 0)) := hF3.at HG.out HGN.out
      have hS3 : (∃ o, Jn w3 j p nb seq o) ∧ w3.heap[g]? = some (.cells cur 160 (0, 0)) := ⟨⟨_, hJ3⟩, hg3⟩
      refine ⟨_, rfl, hS3, ?_⟩
      refine z_val (i := 14) (v := .int .i64 (s2.wr (2 + nb + i1 : Nat) l1).1) (by kernel_rfl) rfl rfl (by kernel_rfl) (run_asg rfl (by kernel_rfl)) hS3 rfl (L' := #[true, true, true, true, true, true, true, true, true, true, true, true, true, true, true]) (by kernel_rfl) ?_
      try simp only [List.setIfInBounds_toArray, List.set_cons_zero, List.set_cons_succ]
      refine z_done (by kernel_rfl) ?_ _
      refine hN _ _ ?_
      clear hP hN hns
      clear hS
      have hN3 := HNR.out.fr hF3 (fun c hc => HGN.out)
      have hF03 : Fr (j :: X) w w3 := HFR.out.trans hF3 (fun k hk => .inl hk)
      by_cases he : (s2.wr ((2 + nb + i1 : Nat) : Int) l1).1 = 0
      · have hst0 : (s.puts ((blockAtL nb ns).take (k + 1))).1 = 0 := by rw [HST.out]; exact he
        have hD5 : Disk w3 p X (s.puts ((blockAtL nb ns).take (k + 1))).2 := by rw [HST.out]; exact hD3
        rw [he] at hJ3 ⊢
        have HZ := hid (And.intro hJ3 (And.intro hst0 (And.intro hD5 (And.intro hN3 hF03))))
        clear hJ3 hst0 hD5 hN3 hF03 hD3 hF3 hg3 hS3 he HJ HD HG HC0 HC1 HFL HFR HNR HST HGN HI1
        go_wp2
        exact ⟨⟨k + 1, 0, hlt, rfl, HZ.out⟩, by simp [intOf]; omega⟩
      · have hne : (s.puts ((blockAtL nb ns).take (k + 1))).1 ≠ 0 := by rw [HST.out]; exact he
        have hall := DS.puts_stop (blockAtL nb ns) s (k + 1) hne
        have hlr : s.layR nb ns = s2.wr ((2 + nb + i1 : Nat) : Int) l1 := by
          unfold DS.layR
          rw [hall, if_neg hne, HST.out]
        obtain ⟨ev, hev⟩ : ∃ ev, ev = (s2.wr ((2 + nb + i1 : Nat) : Int) l1).1 := ⟨_, rfl⟩
        rw [← hev] at he hJ3 ⊢
        have hlr1 : (s.layR nb ns).1 = ev := by rw [hlr, hev]
        have HZ := hid (And.intro hJ3 (And.intro hD3 (And.intro hF03 (And.intro hlr1 hlr))))
        clear hJ3 hN3 hF03 hD3 hF3 hg3 hS3 HJ HD HG HC0 HC1 HFL HFR HNR HST HGN HI1 hne hall hlr hev hlr1
        go_wp2
        go_ret
        obtain ⟨z1, z2, z3, z4, z5⟩ := HZ.out
        refine ⟨by rw [z4]; rfl, by rw [z4]; exact z1, X, by rw [z5]; exact z2, fun k hk => .inl hk, z3⟩
    · have hlt' : ¬ (k : Int) < (ns.length : Int) := by omega
      have hkl : k = ns.length := by omega
      rw [hkl, List.take_of_length_le (by rw [blockAtL_len]; exact Nat.le_refl _)] at h0 hDr
      have hlr : s.layR nb ns = (s.puts (blockAtL nb ns)).2.fl := by unfold DS.layR; rw [if_pos h0]
      have HJ := hid hJr
      have HD := hid hDr
      have HFR := hid hFr
      have HLR := hid hlr
      clear hJr hDr hNr hFr h0 hlr hkl
      go_wp2_with fail
      refine (jflush_any HJ.out HD.out).mono ?_
      rintro e w3 ⟨rfl, hJ3, X3, hD3, hX3, hF3⟩
      have hF03 : Fr (j :: X) w w3 := HFR.out.trans hF3 (fun k hk => .inl hk)
      have hX3' : ∀ k ∈ X3, k ∈ X ∨ w.heap.size ≤ k := fun k hk => by
        rcases hX3 k hk with h | h
        · exact .inl h
        · exact .inr (Nat.le_trans HFR.out.size h)
      rw [← HLR.out] at hJ3 hD3 ⊢
      have HZ := hid (And.intro hJ3 (And.intro hD3 (And.intro hX3' hF03)))
      clear hJ3 hD3 hX3 hX3' hF3 hF03 HJ HD HFR HLR
      go_wp2
      go_ret
      obtain ⟨z1, z2, z3, z4⟩ := HZ.out
      exact ⟨rfl, z1, X3, z2, z3, z4⟩
end Go.Proofs.YtcmgclkbhhdnaaaGreatDoor
