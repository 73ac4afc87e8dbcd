/- The engine's laws: how a proof goes on where the engine stops. -/
import Derived.Test.YtfblnjidghijaaaERun
namespace Go.Proofs.Ytfblnjidghijaaa
open Go Go.RowKit

def AllB : List (Bool × Bool) → Prop
  | [] => True
  | p :: r => p.1 = p.2 ∧ AllB r
theorem AllB.all : ∀ {l : List (Bool × Bool)}, AllB l → ∀ p ∈ l, p.1 = p.2
  | [], _ => by simp
  | _ :: _, h => by
    intro q hq
    rcases List.mem_cons.1 hq with e | e
    · rw [e]; exact h.1
    · exact h.2.all q e
theorem all_of_map {l : List (Nat × Nat)} (h : l.map (·.1) = l.map (·.2)) : ∀ p ∈ l, p.1 = p.2 := by
  induction l with
  | nil => simp
  | cons a r ih =>
    simp only [List.map_cons, List.cons.injEq] at h
    intro p hp
    rcases List.mem_cons.1 hp with e | e
    · rw [e]; exact h.1
    · exact ih h.2 p e
section
variable {P : Program} {F : Exit → Act → World → Prop} {Inv : World → Prop} {s : St} {fn : Func} {R : Ending → World → Prop}
theorem bp_panic : ∀ c T T' ds w, bodyPost P fn R (.panic c) ⟨T, ds⟩ w → bodyPost P fn R (.panic c) ⟨T', ds⟩ w := fun _ _ _ _ _ h => h
/-- The next operation of a region that keeps its order. -/
def nextOp (s : St) : Option (Array Oper × Oper × List Oper × List Nat × List TI) :=
  match s.todo with
  | .reg ops (o :: rest) res :: k => some (ops, o, rest, res, k)
  | _ => none
/-- Is it wanted? -/
def wants (s : St) : Bool :=
  match nextOp s with
  | some (ops, o, _, res, _) =>
    match o.guard with
    | none => true
    | some (j, want) => res.contains j && (match opDst ops j with | some t => boolAt s.tmps t == some want | none => false)
  | none => false
theorem wants_ok {ops : Array Oper} {o : Oper} {rest : List Oper} {res : List Nat} {k : List TI} (hn : nextOp s = some (ops, o, rest, res, k)) (h : wants s = true) : Region.wanted o (yielded ops s.tmps.toArray) = true := by
  unfold wants at h
  rw [hn] at h
  simp only at h
  unfold Region.wanted
  split at h
  · rename_i hg; rw [hg]
  · rename_i j want hg
    rw [hg]
    simp only [yielded_eq]
    rw [Bool.and_eq_true] at h
    split at h
    · rename_i t ht
      rw [ht]
      simpa using h.2
    · exact absurd h.2 (by simp)
theorem nextOp_todo {ops : Array Oper} {o : Oper} {rest : List Oper} {res : List Nat} {k : List TI} (hn : nextOp s = some (ops, o, rest, res, k)) : s.todo = .reg ops (o :: rest) res :: k := by
  unfold nextOp at hn
  split at hn
  · rename_i h; cases hn; exact h
  · cases hn
/-- Behind an operation that answered v, with the blocks m. -/
def put (s : St) (v : Value) (m : Mem) : St :=
  match nextOp s with
  | some (ops, o, rest, res, k) => ⟨.reg ops rest res :: k, putL s.tmps o.dst v, m⟩
  | none => s
def put0 (s : St) (v : Value) : St := put s v s.mem
/-- Behind one that changed the block j. -/
def putM (s : St) (v : Value) (j b : Nat) (o : Obj) : St := put s v (s.mem.set j (b, o))
/-- What is made gets a name. -/
def mkG (P : Program) (x : X) : List Nat → Option (X × List Nat)
  | [] => none
  | g :: gs =>
    match nextOp x.st with
    | some (ops, o, rest, res, k) =>
      match cls o.op == 2 && wants x.st with
      | true =>
        match doOp P o 0 (some g) x (.reg ops rest res :: k) with
        | some y => some (y, gs)
        | none => none
      | false => none
    | none => none
def exG (P : Program) : Nat → X → List Nat → X
  | 0, x, _ => x
  | n + 1, x, gs =>
    match mkG P x gs with
    | some (y, gs') => exG P n y gs'
    | none =>
      match step P x with
      | some y => exG P n y gs
      | none => x
theorem step_two {x : X} {ops : Array Oper} {o : Oper} {rest : List Oper} {res : List Nat} {k : List TI} (hn : nextOp x.st = some (ops, o, rest, res, k)) (hc : cls o.op = 2) (hw : wants x.st = true) : step P x = none := by
  have ht := nextOp_todo hn
  unfold wants at hw
  rw [hn] at hw
  simp only at hw
  unfold step
  rw [ht]
  simp only
  split at hw
  · rename_i hg
    rw [hg]
    simp only [hc]
  · rename_i j want hg
    rw [hg]
    rw [Bool.and_eq_true] at hw
    simp only
    split at hw
    · rename_i t ht
      rw [ht]
      simp only [hw.1]
      rw [eq_of_beq hw.2]
      simp [hc]
    · exact absurd hw.2 (by simp)
theorem exG_goes (hF : ∀ c T T' ds w, F (.panic c) ⟨T, ds⟩ w → F (.panic c) ⟨T', ds⟩ w) : ∀ (n m : Nat) {x : X}, (∀ gs : List Nat, gs.length = m → Ok (exG P n x gs) ∧ Goes P F Inv (exG P n x gs).st) → Ok x ∧ Goes P F Inv x.st
  | 0, m, x, h => h (List.replicate m 0) (by simp)
  | n + 1, m, x, h => by
    unfold exG at h
    have plain : (∀ gs : List Nat, gs.length = m → mkG P x gs = none) → Ok x ∧ Goes P F Inv x.st := by
      intro hno
      cases hs : step P x with
      | none => have := h (List.replicate m 0) (by simp); rw [hno _ (by simp), hs] at this; exact this
      | some y =>
        have h1 : Ok y ∧ Goes P F Inv y.st := exG_goes hF n m (fun gs hl => by have := h gs hl; rw [hno gs hl, hs] at this; exact this)
        exact step_goes hF hs h1.1 h1.2
    cases m with
    | zero => exact plain (fun gs hl => by cases gs with | nil => rfl | cons => cases hl)
    | succ m =>
      cases hno : nextOp x.st with
      | none => exact plain (fun gs hl => by cases gs with | nil => rfl | cons => unfold mkG; rw [hno])
      | some q =>
        obtain ⟨ops, o, rest, res, k⟩ := q
        cases hc : (cls o.op == 2 && wants x.st) with
        | false => exact plain (fun gs hl => by cases gs with | nil => rfl | cons => unfold mkG; rw [hno]; simp only [hc])
        | true =>
          have hc' := hc
          rw [Bool.and_eq_true] at hc'
          have hst := step_two (P := P) hno (eq_of_beq hc'.1) hc'.2
          have key : ∀ g, (doOp P o 0 (some g) x (.reg ops rest res :: k) = none → Ok x ∧ Goes P F Inv x.st) ∧ ∀ y, doOp P o 0 (some g) x (.reg ops rest res :: k) = some y → Ok y ∧ Goes P F Inv y.st := by
            intro g
            refine ⟨fun hd => ?_, fun y hd => ?_⟩
            · have := h (g :: List.replicate m 0) (by simp)
              rw [show mkG P x (g :: List.replicate m 0) = none by unfold mkG; rw [hno]; simp only [hc, hd], hst] at this
              exact this
            · refine exG_goes hF n m (fun gs hl => ?_)
              have := h (g :: gs) (by simp [hl])
              rw [show mkG P x (g :: gs) = some (y, gs) by unfold mkG; rw [hno]; simp only [hc, hd]] at this
              exact this
          refine ⟨?_, fun w hm hn hI => ?_⟩
          · cases hd : doOp P o 0 (some 0) x (.reg ops rest res :: k) with
            | none => exact ((key 0).1 hd).1
            | some y =>
              have h1 := doOp_on hd
              have h2 := ((key 0).2 y hd).1
              exact ⟨h1.2.2 h2.1, h1.2.1 ▸ h2.2⟩
          · cases hd : doOp P o 0 (some w.heap.size) x (.reg ops rest res :: k) with
            | none => exact ((key _).1 hd).2 w hm hn hI
            | some y =>
              have h2 := (key _).2 y hd
              exact doOp_goes (nextOp_todo hno) hd (wants_ok hno hc'.2) h2.1 h2.2 hm hn hI (by simp)
/-- A state, run by hints, with names for what is made. -/
def rn (P : Program) (hs gs : List Nat) (s : St) : X := exG P 2000 ⟨s, hs, [], []⟩ gs
theorem rn_goes {hs : List Nat} {m : Nat} (h : ∀ gs : List Nat, gs.length = m → Ok (rn P hs gs s) ∧ Goes P (bodyPost P fn R) Inv (rn P hs gs s).st) : Goes P (bodyPost P fn R) Inv s := (exG_goes bp_panic 2000 m h).2
/-- A run by hints hs; E: the truths that it leaned on, the last one first. -/
theorem Goes.run (hs : List Nat) (E : List (Bool × Bool)) (hB : AllB E) (h : Goes P (bodyPost P fn R) Inv (rn P hs [] s).st) (hE : (rn P hs [] s).ob = E := by kernel_rfl) (hN : (rn P hs [] s).on.map (·.1) = (rn P hs [] s).on.map (·.2) := by kernel_rfl) : Goes P (bodyPost P fn R) Inv s :=
  rn_goes (m := 0) fun gs hl => by
    obtain rfl : gs = [] := List.eq_nil_of_length_eq_zero hl
    exact ⟨⟨all_of_map hN, hE ▸ hB.all⟩, h⟩
theorem Goes.run1 (hs : List Nat) (E : List (Bool × Bool)) (hB : AllB E) (h : ∀ g, Goes P (bodyPost P fn R) Inv (rn P hs [g] s).st) (hE : ∀ g, (rn P hs [g] s).ob = E := by intros; kernel_rfl) (hN : ∀ g, (rn P hs [g] s).on.map (·.1) = (rn P hs [g] s).on.map (·.2) := by intros; kernel_rfl) : Goes P (bodyPost P fn R) Inv s :=
  rn_goes (m := 1) fun gs hl => by
    obtain ⟨g, rfl⟩ := List.length_eq_one_iff.1 hl
    exact ⟨⟨all_of_map (hN g), hE g ▸ hB.all⟩, h g⟩
theorem Goes.run2 (hs : List Nat) (E : List (Bool × Bool)) (hB : AllB E) (h : ∀ g h, Goes P (bodyPost P fn R) Inv (rn P hs [g, h] s).st) (hE : ∀ g h, (rn P hs [g, h] s).ob = E := by intros; kernel_rfl) (hN : ∀ g h, (rn P hs [g, h] s).on.map (·.1) = (rn P hs [g, h] s).on.map (·.2) := by intros; kernel_rfl) : Goes P (bodyPost P fn R) Inv s :=
  rn_goes (m := 2) fun gs hl => by
    match gs, hl with
    | [a, b], _ => exact ⟨⟨all_of_map (hN a b), hE a b ▸ hB.all⟩, h a b⟩
theorem Goes.run3 (hs : List Nat) (E : List (Bool × Bool)) (hB : AllB E) (h : ∀ g h i, Goes P (bodyPost P fn R) Inv (rn P hs [g, h, i] s).st) (hE : ∀ g h i, (rn P hs [g, h, i] s).ob = E := by intros; kernel_rfl) (hN : ∀ g h i, (rn P hs [g, h, i] s).on.map (·.1) = (rn P hs [g, h, i] s).on.map (·.2) := by intros; kernel_rfl) : Goes P (bodyPost P fn R) Inv s :=
  rn_goes (m := 3) fun gs hl => by
    match gs, hl with
    | [a, b, c], _ => exact ⟨⟨all_of_map (hN a b c), hE a b c ▸ hB.all⟩, h a b c⟩
def vS (s : Sem Value) : Sem Next := do pure (.value (← s))
theorem vS_run {I : Sem Value} {v : Value} {w w' : World} (h : I.run P w = .ok v w') : (vS I).run P w = .ok (.value v) w' := by
  unfold vS
  simp [h, Result.andThen]
/-- An operation whose answer is known otherwise, and which changes nothing. -/
theorem Goes.val (I : Sem Value) (v : Value) (hr : ∀ w, Holds s.mem w → Stay s.mem.ids w Inv → I.run P w = .ok v w) (h : Goes P F Inv (put0 s v)) (ho : (nextOp s).map (fun q => execOp (evalL s.tmps) q.2.1) = some (vS I) := by kernel_rfl) (hw : wants s = true := by kernel_rfl) : Goes P F Inv s := by
  intro w hm hn hI
  cases hno : nextOp s with
  | none => rw [hno] at ho; cases ho
  | some q =>
    obtain ⟨ops, o', rest, res, k⟩ := q
    rw [hno] at ho
    have ho : execOp (evalL s.tmps) o' = vS I := by simpa using ho
    rw [nextOp_todo hno]
    show wpList P ops (QK P F k) (o' :: rest) ⟨s.tmps.toArray, []⟩ w
    refine wpList_step fun K hK => ?_
    rw [if_pos (wants_ok hno hw)]
    unfold Oper.wp
    rw [evalL_eq, ho, vS_run (hr w hm hI), Oper.upon_value]
    refine hK _ _ ?_
    rw [putL_eq]
    have h1 := h w
    unfold put0 put at h1
    rw [hno] at h1
    exact h1 hm hn hI
/-- An operation that changes the world in a way that is known otherwise. -/
theorem Goes.eff (I : Sem Value) 
 (hr : ∀ w, Holds s.mem w → s.mem.ids.Nodup → Stay s.mem.ids w Inv → ∃ v w' Inv' m, I.run P w = .ok v w' ∧ Holds m w' ∧ m.ids.Nodup ∧ Stay m.ids w' Inv' ∧ Goes P F Inv' (put s v m)) (ho : (nextOp s).map (fun q => execOp (evalL s.tmps) q.2.1) = some (vS I) := by kernel_rfl) (hw : wants s = true := by kernel_rfl) : Goes P F Inv s := by
  intro w hm hn hI
  cases hno : nextOp s with
  | none => rw [hno] at ho; cases ho
  | some q =>
    obtain ⟨ops, o', rest, res, k⟩ := q
    rw [hno] at ho
    have ho : execOp (evalL s.tmps) o' = vS I := by simpa using ho
    rw [nextOp_todo hno]
    show wpList P ops (QK P F k) (o' :: rest) ⟨s.tmps.toArray, []⟩ w
    refine wpList_step fun K hK => ?_
    rw [if_pos (wants_ok hno hw)]
    unfold Oper.wp
    obtain ⟨v, w', Inv', m, he, h1, h2, h3, h4⟩ := hr w hm hn hI
    have h5 := h4 w'
    unfold put at h5
    rw [hno] at h5
    rw [evalL_eq, ho, vS_run he, Oper.upon_value]
    refine hK _ _ ?_
    rw [putL_eq]
    exact h5 h1 h2 h3
/-- A function that is entered when it is called. -/
def okf (P : Program) (f : FuncId) : Bool :=
  match P.funcs[f]? with
  | some fn => !(fn.name == "runtime.NumGoroutine") && fn.body.isSome
  | none => false
theorem okf_run {f : FuncId} (h : okf P f = true) (args : Array Value) (w : World) : (callFunc f args).run P w = .ok (.enter f args) w := by
  unfold okf at h
  cases hf : P.funcs[f]? with
  | none => rw [hf] at h; cases h
  | some fn =>
    rw [hf] at h
    simp only [Bool.and_eq_true, Bool.not_eq_true'] at h
    obtain ⟨c, hc⟩ := Option.isSome_iff_exists.1 h.2
    unfold callFunc
    have : (program).run P w = .ok P w := rfl
    simp [Sem.run_bind, this, Result.andThen, hf, hc]
    exact beq_eq_false_iff_ne.1 h.1
/-- What lies in the known block j. -/
theorem Holds.get {m : Mem} {w : World} (h : Holds m w) (j : Nat) {b : Nat} {o : Obj} (hj : m[j]? = some (b, o) := by kernel_rfl) : w.heap[b]? = some o := h j b o hj
/-- What a call asks: the function and what is handed to it. -/
def ask (s : St) : Option (FuncId × Array Value) :=
  match nextOp s with
  | some (_, o, _, _, _) =>
    match o.op with
    | .call { callee := .value x, args, .. } =>
      match evalL s.tmps x with
      | .func (.func f) first captured => some (f, first ++ args.map (evalL s.tmps) ++ captured)
      | _ => none
    | _ => none
  | none => none
theorem ask_run {ops : Array Oper} {o : Oper} {rest : List Oper} {res : List Nat} {k : List TI} {f : FuncId} {args : Array Value} (hn : nextOp s = some (ops, o, rest, res, k)) (ha : ask s = some (f, args)) (hf : okf P f = true) (w : World) : (execOp (evalL s.tmps) o).run P w = .ok (.enter f args) w := by
  unfold ask at ha
  rw [hn] at ha
  simp only at ha
  split at ha
  · rename_i x xs ats hop
    split at ha
    · rename_i g first captured hv
      cases ha
      have e : execOp (evalL s.tmps) o = callFunc f (first ++ xs.map (evalL s.tmps) ++ captured) := by
        unfold execOp; rw [hop]; simp only [resolve, hv]; rfl
      rw [e, okf_run hf]
    · cases ha
  · cases ha
theorem Goes.call (f : FuncId) (args : Array Value) 
 (hr : ∀ w, Holds s.mem w → s.mem.ids.Nodup → Stay s.mem.ids w Inv → Calls P f args w fun e w' => ∃ v Inv' m, e = .returned v ∧ Holds m w' ∧ m.ids.Nodup ∧ Stay m.ids w' Inv' ∧ Goes P F Inv' (put s v m)) (ha : ask s = some (f, args) := by kernel_rfl) (hw : wants s = true := by kernel_rfl) (hf : okf P f = true := by kernel_rfl) : Goes P F Inv s := by
  intro w hm hn hI
  cases hno : nextOp s with
  | none => unfold ask at ha; rw [hno] at ha; cases ha
  | some q =>
    obtain ⟨ops, o, rest, res, k⟩ := q
    rw [nextOp_todo hno]
    show wpList P ops (QK P F k) (o :: rest) ⟨s.tmps.toArray, []⟩ w
    refine wpList_step fun K hK => ?_
    rw [if_pos (wants_ok hno hw)]
    unfold Oper.wp
    rw [evalL_eq, ask_run hno ha hf w, Oper.upon_enter]
    refine (hr w hm hn hI).mono fun e w' ⟨v, Inv', m, he, h1, h2, h3, h4⟩ => ?_
    subst he
    refine hK _ _ ?_
    rw [putL_eq]
    have h5 := h4 w'
    unfold put at h5
    rw [hno] at h5
    exact h5 h1 h2 h3
/-- A call that leaves all blocks as they are. -/
theorem Goes.call0 (f : FuncId) (args : Array Value) (v : Value) 
 (hr : ∀ w, Holds s.mem w → Stay s.mem.ids w Inv → Calls P f args w fun e w' => e = .returned v ∧ Below w.heap.size w w') (h : Goes P F Inv (put0 s v)) (ha : ask s = some (f, args) := by kernel_rfl) (hw : wants s = true := by kernel_rfl) (hf : okf P f = true := by kernel_rfl) : Goes P F Inv s := by
  refine Goes.call f args (ha := ha) (hw := hw) (hf := hf) fun w hm hn hI => (hr w hm hI).mono fun e w' ⟨he, hB⟩ => ⟨v, Inv, s.mem, he, ?_, hn, ?_, h⟩
  · intro j b o hj
    rw [hB.block b (lt_of_get (hm.at hj))]
    exact hm.at hj
  · exact hI.ch ⟨hB.os, hB.tape, hB.output, hB.size, fun i hi _ => hB.block i hi⟩ (fun x hx => .inl hx)
/-- A call that changes the known block j (b), and tells a fact. -/
theorem Goes.call1 (j b : Nat) (f : FuncId) (args : Array Value) 
 (hr : ∀ w, Holds s.mem w → s.mem.ids.Nodup → Stay s.mem.ids w Inv → Calls P f args w fun e w' => ∃ v o Fact, e = .returned v ∧ Ch [b] w w' ∧ w'.heap[b]? = some o ∧ Stay s.mem.ids w' Fact ∧ Goes P F (fun w => Inv w ∧ Fact w) (putM s v j b o)) (ha : ask s = some (f, args) := by kernel_rfl) (hw : wants s = true := by kernel_rfl) (hf : okf P f = true := by kernel_rfl) (hj : (s.mem[j]?).map (·.1) = some b := by kernel_rfl) : Goes P F Inv s := by
  obtain ⟨o0, hb⟩ : ∃ o0, s.mem[j]? = some (b, o0) := by
    cases hq : s.mem[j]? with
    | none => rw [hq] at hj; cases hj
    | some q => rw [hq] at hj; obtain ⟨b', o0⟩ := q; cases hj; exact ⟨o0, rfl⟩
  refine Goes.call f args (ha := ha) (hw := hw) (hf := hf) fun w hm hn hI => (hr w hm hn hI).mono fun e w' ⟨v, o, Fact, he, hc, hbo, hS, hG⟩ => ⟨v, _, s.mem.set j (b, o), he, ?_, ?_, ?_, hG⟩
  · exact holds_set hm hn hb hbo (fun i hi hne => hc.block i hi (by simpa using hne))
  · rw [ids_set hb]; exact hn
  · rw [ids_set hb]
    exact (hI.ch ⟨hc.os, hc.tape, hc.output, hc.size, fun i hi hx => hc.block i hi (fun hm => hx (by rw [List.mem_singleton] at hm; rw [hm]; exact ids_get hb))⟩ (fun x hx => .inl hx)).and hS
theorem Goes.inv {Inv' : World → Prop} (hI : ∀ w, Inv w → Inv' w) (h : Goes P F Inv' s) : Goes P F Inv s := fun w hm hn hS => h w hm hn (hS.mono hI)
/-- A call that changes the known block j (b) in a way that is known. -/
theorem Goes.call2 (j b : Nat) (f : FuncId) (args : Array Value) (v : Value) (o : Obj)
    (hr : ∀ w, Holds s.mem w → Stay s.mem.ids w Inv → Calls P f args w fun e w' => e = .returned v ∧ Ch [b] w w' ∧ w'.heap[b]? = some o) (h : Goes P F Inv (putM s v j b o)) (ha : ask s = some (f, args) := by kernel_rfl) (hw : wants s = true := by kernel_rfl) (hf : okf P f = true := by kernel_rfl) (hj : (s.mem[j]?).map (·.1) = some b := by kernel_rfl) : Goes P F Inv s :=
  Goes.call1 j b f args (fun w hm _ hI => (hr w hm hI).mono fun _ _ ⟨h1, h2, h3⟩ => ⟨v, o, fun _ => True, h1, h2, h3, fun _ _ => trivial, h.inv fun _ h => h.1⟩) ha hw hf hj
/-- A slot's value is spelt otherwise. -/
theorem Goes.slot (t : Nat) (v : Value) {u : Value} (e : u = v) (h : Goes P F Inv { s with tmps := s.tmps.set t v }) (hu : s.tmps[t]? = some u := by kernel_rfl) : Goes P F Inv s := by
  subst e
  have : { s with tmps := s.tmps.set t u } = s := by rw [set_self hu]
  rw [this] at h
  exact h
theorem Goes.eq {s' : St} (e : s = s') (h : Goes P F Inv s') : Goes P F Inv s := e ▸ h
/-- The end: what is answered. -/
def atEnd (s : St) : Bool :=
  match s.todo with
  | [] => true
  | .code .ret :: _ => true
  | _ => false
/-- What the function's results are. -/
def ans (P : Program) (fn : Func) (js : List Nat) (s : St) : Option (SR Value) := srun P (results fn s.tmps.toArray) js none s.mem [] false
theorem Goes.ret (js : List Nat) (v : Value) 
 (h : ∀ w, Holds s.mem w → Stay s.mem.ids w Inv → R (.returned v) w) (hE : atEnd s = true := by kernel_rfl) (hv : (ans P fn js s).map (·.val) = some v := by kernel_rfl) (hd : (ans P fn js s).map (·.d) = some false := by kernel_rfl) (hN : (ans P fn js s).map (fun r => r.ob.map (·.1)) = (ans P fn js s).map (fun r => r.ob.map (·.2)) := by kernel_rfl) : Goes P (bodyPost P fn R) Inv s := by
  intro w hm hn hI
  cases hr : ans P fn js s with
  | none => rw [hr] at hv; cases hv
  | some r =>
    rw [hr] at hv hd hN
    simp only [Option.map_some, Option.some.injEq] at hv hd hN
    obtain ⟨w', D⟩ := srun_did P _ _ _ _ _ _ _ w hr (all_of_map hN) hm hn (by simp)
    have hw' := (D.still hd).2.1
    subst hw'
    have hb : ∃ v, (results fn s.act.tmps).run P w' = .ok v w' ∧ R (.returned v) w' := ⟨v, hv ▸ D.run, h w' hm hI⟩
    unfold atEnd at hE
    split at hE
    · rename_i ht; rw [ht]; exact ⟨rfl, hb⟩
    · rename_i ht; rw [ht]; exact wp_ret (qk_ret ⟨rfl, hb⟩)
    · cases hE
/-- Some of the known blocks. -/
def sub (js : List Nat) (m : Mem) : Mem := js.filterMap fun j => m[j]?
theorem sub_holds {js : List Nat} {m : Mem} {w : World} (h : Holds m w) : Holds (sub js m) w := by
  intro i b o hi
  have h1 := List.mem_of_getElem? hi
  unfold sub at h1
  obtain ⟨j, -, hj⟩ := List.mem_filterMap.1 h1
  exact h.at hj
/-- A region that draws its order is opened; js: the blocks that it reads. -/
def opened (js : List Nat) (s : St) : St :=
  match s.todo with
  | .code (.region _ ops true) :: k => { s with todo := .any ops (sub js s.mem) ops.size (Array.replicate ops.size false) :: k }
  | _ => s
theorem Goes.open (js : List Nat) (h : Goes P F Inv (opened js s)) (hm : P.follows .mixedOrders = true := by kernel_rfl) : Goes P F Inv s := by
  unfold opened at h
  split at h
  · rename_i id ops k ht
    intro w h1 h2 h3
    rw [ht]
    exact qk_any hm (sub_holds h1) (h { w with drawn := w.drawn + 1 } h1 h2 (h3.ch ⟨rfl, rfl, rfl, Nat.le_refl _, fun _ _ _ => rfl⟩ (fun x hx => .inl hx)))
  · exact h
/-- The operation i of a region that draws its order. -/
def anyOp (i : Nat) (s : St) : Option Oper :=
  match s.todo with
  | .any ops _ _ _ :: _ => ops[i]?
  | _ => none
/-- It may be taken first. -/
def anyFirst (i : Nat) (s : St) : Bool :=
  match s.todo with
  | .any ops _ (_ + 1) l :: _ => Region.noSelect ops && Region.free .any ops l i && (Region.ready .any ops l).contains i && (match ops[i]? with | some o => Region.wanted o (yielded ops s.tmps.toArray) | none => false)
  | _ => false
/-- It alone may come up. -/
def anyLone (i : Nat) (s : St) : Bool :=
  match s.todo with
  | .any ops _ (_ + 1) l :: _ => Region.ready .any ops l == [i] && (match ops[i]? with | some o => Region.wanted o (yielded ops s.tmps.toArray) | none => false)
  | _ => false
def putA (i : Nat) (s : St) (v : Value) (m : Mem) : St :=
  match s.todo with
  | .any ops m0 (n + 1) l :: k =>
    match ops[i]? with
    | some o => ⟨.any ops m0 n (l.setIfInBounds i true) :: k, putL s.tmps o.dst v, m⟩
    | none => s
  | _ => s
def putA0 (i : Nat) (s : St) (v : Value) : St := putA i s v s.mem
/-- The blocks that it reads. -/
def anyM (s : St) : Mem :=
  match s.todo with
  | .any _ m0 _ _ :: _ => m0
  | _ => []
theorem Goes.valA (i : Nat) (I : Sem Value) (v : Value) (hr : ∀ w, Holds (anyM s) w → I.run P w = .ok v w) (h : Goes P (bodyPost P fn R) Inv (putA0 i s v)) (ho' : (anyOp i s).map (execOp (evalL s.tmps)) = some (vS I) := by kernel_rfl) (hw : anyFirst i s = true := by kernel_rfl) : Goes P (bodyPost P fn R) Inv s := by
  intro w h1 h2 h3
  have h4 := h w
  obtain ⟨o, ho, hoI⟩ : ∃ o, anyOp i s = some o ∧ execOp (evalL s.tmps) o = vS I := by
    cases hq : anyOp i s with
    | none => rw [hq] at ho'; cases ho'
    | some o => rw [hq] at ho'; exact ⟨o, rfl, by simpa using ho'⟩
  unfold anyFirst at hw
  unfold anyOp at ho
  unfold anyM at hr
  unfold putA0 putA at h4
  split at hw
  · rename_i ops m0 n l k ht
    rw [ht] at ho h4 hr ⊢
    simp only at ho h4 hr
    rw [ho] at hw h4
    simp only [Bool.and_eq_true] at hw h4
    intro h0
    refine wpAnyH_take (v := v) ho hw.1.1.1 hw.1.1.2 hw.1.2 ?_ (.inl ⟨hw.2, fun w' hw' => ?_⟩) h0 ?_
    · intro c a w hq
      rw [qk_panic] at hq ⊢
      obtain ⟨T, ds⟩ := a
      cases hd : o.dst with
      | none => rw [hd] at hq; exact hq
      | some d => rw [hd] at hq; exact hq
    · unfold St.act
      rw [evalL_eq, hoI]
      exact vS_run (hr w' hw')
    · unfold St.act
      rw [putL_eq]
      exact h4 h1 h2 h3 h0
  · cases hw
/-- The one operation that may come up, over all known blocks. -/
def oneA (P : Program) (i j : Nat) (s : St) : Option (St × List (Nat × Nat)) :=
  match anyOp i s with
  | some o =>
    match srun P (execOp (evalL s.tmps) o) [j] none s.mem [] false with
    | some ⟨.value v, m, on, _⟩ => some (putA i s v m, on)
    | some ⟨.skip, m, on, _⟩ => some (putA i s undef m, on)
    | _ => none
  | none => none
def oneSt (P : Program) (i j : Nat) (s : St) : St :=
  match oneA P i j s with
  | some q => q.1
  | none => s
theorem Goes.oneA (i j : Nat) (js : List Nat) (h : Goes P F Inv (oneSt P i j s)) (hw : anyLone i s = true := by kernel_rfl) (hS : anyM s = sub js (oneSt P i j s).mem := by kernel_rfl) (hN : ((oneA P i j s).map fun q => q.2.map (·.1)) = (oneA P i j s).map fun q => q.2.map (·.2) := by kernel_rfl) (hk : (oneA P i j s).isSome = true := by kernel_rfl) : Goes P F Inv s := by
  intro w h1 h2 h3
  unfold oneSt at h hS
  cases hq : Go.Proofs.Ytfblnjidghijaaa.oneA P i j s with
  | none => rw [hq] at hk; cases hk
  | some q =>
    rw [hq] at h hS hN
    simp only [Option.map_some, Option.some.injEq] at h hS hN
    obtain ⟨st, on⟩ := q
    unfold Go.Proofs.Ytfblnjidghijaaa.oneA at hq
    unfold anyLone at hw
    unfold anyM at hS
    split at hw
    · rename_i ops m0 n l k ht
      cases ho : ops[i]? with
      | none => rw [ho] at hw; simp at hw
      | some o =>
        have hoo : anyOp i s = some o := by unfold anyOp; rw [ht]; exact ho
        rw [ho] at hw
        simp only [Bool.and_eq_true] at hw
        rw [ht] at hS ⊢
        simp only at hS
        rw [hoo] at hq
        simp only at hq
        intro _
        refine wpAnyH_all (rs := [i]) (eq_of_beq hw.1) (by simp) fun j' hj => ?_
        obtain rfl : j' = i := by simpa using hj
        unfold wpOp
        rw [ho]
        simp only [St.act, hw.2, if_true]
        unfold Oper.wp
        rw [evalL_eq]
        split at hq
        · rename_i v m on' d hs
          cases hq
          obtain ⟨w', D⟩ := srun_did P _ _ _ _ _ _ _ w hs (all_of_map hN) h1 h2 (by simp)
          have hmem : (putA j' s v m).mem = m := by unfold putA; rw [ht]; simp only [ho]
          have h0 : Holds m0 w' := by rw [hS]; exact sub_holds (by rw [hmem]; exact D.holds)
          have h9 := h w'
          unfold putA at h9
          rw [ht] at h9
          simp only [ho] at h9
          rw [D.run, Oper.upon_value, putL_eq]
          exact .inl ⟨h0, h9 D.holds D.nd (h3.ch D.ch D.new) h0⟩
        · rename_i m on' d hs
          cases hq
          obtain ⟨w', D⟩ := srun_did P _ _ _ _ _ _ _ w hs (all_of_map hN) h1 h2 (by simp)
          have hmem : (putA j' s undef m).mem = m := by unfold putA; rw [ht]; simp only [ho]
          have h0 : Holds m0 w' := by rw [hS]; exact sub_holds (by rw [hmem]; exact D.holds)
          have h9 := h w'
          unfold putA at h9
          rw [ht] at h9
          simp only [ho] at h9
          rw [D.run, Oper.upon_skip, putL_eq]
          exact .inl ⟨h0, h9 D.holds D.nd (h3.ch D.ch D.new) h0⟩
        · cases hq
    · cases hw
def askA (i : Nat) (s : St) : Option (FuncId × Array Value) :=
  match anyOp i s with
  | some o =>
    match o.op with
    | .call { callee := .value x, args, .. } =>
      match evalL s.tmps x with
      | .func (.func f) first captured => some (f, first ++ args.map (evalL s.tmps) ++ captured)
      | _ => none
    | _ => none
  | none => none
theorem Goes.callA (i : Nat) (f : FuncId) (args : Array Value) 
 (hr : ∀ ops m0 n l k, s.todo = .any ops m0 n l :: k → ∀ w, Holds s.mem w → s.mem.ids.Nodup → Stay s.mem.ids w Inv → Holds m0 w → Calls P f args w fun e w' => ∃ v Inv' m, e = .returned v ∧ Holds m0 w' ∧ Holds m w' ∧ m.ids.Nodup ∧ Stay m.ids w' Inv' ∧ Goes P F Inv' (putA i s v m)) (ha : askA i s = some (f, args) := by kernel_rfl) (hw : anyLone i s = true := by kernel_rfl) (hf : okf P f = true := by kernel_rfl) : Goes P F Inv s := by
  intro w h1 h2 h3
  unfold anyLone at hw
  unfold askA anyOp at ha
  split at hw
  · rename_i ops m0 n l k ht
    rw [ht] at ha ⊢
    simp only at ha
    cases ho : ops[i]? with
    | none => rw [ho] at ha; cases ha
    | some o =>
      rw [ho] at ha hw
      simp only [Bool.and_eq_true] at ha hw
      intro h0
      refine wpAnyH_all (rs := [i]) (eq_of_beq hw.1) (by simp) fun j hj => ?_
      obtain rfl : j = i := by simpa using hj
      unfold wpOp
      rw [ho]
      simp only [St.act, hw.2, if_true]
      unfold Oper.wp
      rw [evalL_eq]
      have he : (execOp (evalL s.tmps) o).run P w = .ok (.enter f args) w := by
        split at ha
        · rename_i x xs ats hop
          split at ha
          · rename_i g first captured hv
            cases ha
            have e : execOp (evalL s.tmps) o = callFunc f (first ++ xs.map (evalL s.tmps) ++ captured) := by
              unfold execOp; rw [hop]; simp only [resolve, hv]; rfl
            rw [e, okf_run hf]
          · cases ha
        · cases ha
      rw [he, Oper.upon_enter]
      refine .inl ?_
      refine (hr _ _ _ _ _ ht w h1 h2 h3 h0).mono fun e w' ⟨v, Inv', m, he, h4, h5, h6, h7, h8⟩ => ?_
      subst he
      have h9 := h8 w'
      unfold putA at h9
      rw [ht] at h9
      simp only [ho] at h9
      show Holds m0 w' ∧ _
      rw [putL_eq]
      exact ⟨h4, h9 h5 h6 h7 h4⟩
  · cases hw
/-- Its beginning. -/
def st0 (fn : Func) (args : Array Value) (m : Mem) : St := ⟨[.code (fn.body.getD .skip)], (args ++ Array.replicate (fn.ntmps - args.size) undef).toList, m⟩
/-- A function is begun. -/
theorem Goes.enter {f : FuncId} {args : Array Value} {w : World} (hf : P.funcs[f]? = some fn) (m : Mem) (Inv : World → Prop) (hm : Holds m w) (hn : m.ids.Nodup) (hI : Stay m.ids w Inv)
 (h : Goes P (bodyPost P fn R) Inv (st0 fn args m)) (hb : fn.body.isSome = true := by kernel_rfl) : Calls P f args w R := by
  obtain ⟨c, hc⟩ := Option.isSome_iff_exists.1 hb
  refine calls_of_wp hf hc ?_
  have h1 := h w hm hn hI
  unfold st0 at h1
  rw [hc] at h1
  have e : (args ++ Array.replicate (fn.ntmps - args.size) undef).toList.toArray = args ++ Array.replicate (fn.ntmps - args.size) undef := by simp
  unfold St.act at h1
  simp only [e] at h1
  exact h1
/-- A frame: n slots, some of them known. -/
def fr (n : Nat) (S : List (Nat × Value)) (J : Nat → Value) : List Value := (List.range n).map fun i => (S.lookup i).getD (J i)
def jk (s : St) (i : Nat) : Value := s.tmps.getD i undef
/-- A loop: what is known at its head is told by an a of α. -/
theorem Goes.loop {α : Type} (n : Nat) (S : α → List (Nat × Value)) (M : α → Mem) (I : α → World → Prop) (Pr : α → Prop) (μ : α → Nat) (a0 : α) (hP : Pr a0) (hI : ∀ w, Inv w → I a0 w)
    (step : ∀ a J, Pr a → (∀ a' s', Pr a' → μ a' < μ a → s'.todo = s.todo → s'.tmps = fr n (S a') (jk s') → s'.mem = M a' → Goes P F (I a') s') → Goes P F (I a) ⟨s.todo, fr n (S a) J, M a⟩) (hT : s.tmps = fr n (S a0) (jk s) := by kernel_rfl) (hM : s.mem = M a0 := by kernel_rfl) : Goes P F Inv s := by
  have key : ∀ m a J, Pr a → μ a = m → Goes P F (I a) ⟨s.todo, fr n (S a) J, M a⟩ := by
    intro m
    induction m using Nat.strongRecOn with
    | _ m ih =>
      intro a J hp hm
      refine step a J hp fun a' s' hp' hlt h1 h2 h3 => ?_
      have := ih (μ a') (hm ▸ hlt) a' (jk s') hp' rfl
      rw [← h1, ← h2, ← h3] at this
      exact this
  have := key _ a0 (jk s) hP rfl
  rw [← hT, ← hM] at this
  exact this.inv hI
theorem Goes.loop0 {α : Type} (n : Nat) (S : α → List (Nat × Value)) (m : Mem) (Pr : α → Prop) (μ : α → Nat) (a0 : α) (hP : Pr a0)
    (step : ∀ a J, Pr a → (∀ a' s', Pr a' → μ a' < μ a → s'.todo = s.todo → s'.tmps = fr n (S a') (jk s') → s'.mem = m → Goes P F Inv s') → Goes P F Inv ⟨s.todo, fr n (S a) J, m⟩) (hT : s.tmps = fr n (S a0) (jk s) := by kernel_rfl) (hM : s.mem = m := by kernel_rfl) : Goes P F Inv s :=
  Goes.loop n S (fun _ => m) (fun _ => Inv) Pr μ a0 hP (fun _ h => h) step hT hM
/-- The same, where only known blocks are changed, and what lies elsewhere stays. -/
theorem Goes.begin {f : FuncId} {args : Array Value} {w : World} (hf : P.funcs[f]? = some fn) (m : Mem) (Fact : World → Prop) (hm : Holds m w) (hn : m.ids.Nodup) (hI : Stay m.ids w Fact)
 (h : Goes P (bodyPost P fn R) (fun w' => Ch m.ids w w' ∧ Fact w') (st0 fn args m)) (hb : fn.body.isSome = true := by kernel_rfl) : Calls P f args w R :=
  Goes.enter hf m _ hm hn (fun w' hc => ⟨hc, hI w' hc⟩) h hb
theorem below_end {m : Mem} {w w' : World} (hm : Holds m w) (hc : Ch m.ids w w') (h : Holds s.mem w') (e : s.mem.take m.length = m) : Below w.heap.size w w' := by
  refine ⟨hc.os, hc.tape, hc.output, hc.size, fun i hi => ?_⟩
  by_cases hx : i ∈ m.ids
  · obtain ⟨q, hq, rfl⟩ := List.mem_map.1 hx
    obtain ⟨j, hj⟩ := List.getElem?_of_mem hq
    have h1 := hm.at (b := q.1) (o := q.2) hj
    have hjl : j < m.length := (List.getElem?_eq_some_iff.1 hj).1
    have h2 : s.mem[j]? = some (q.1, q.2) := by rw [← hj, ← e, List.getElem?_take_of_lt hjl]
    rw [h.at h2, h1]
  · exact hc.block i hi hx
end
end Go.Proofs.Ytfblnjidghijaaa
