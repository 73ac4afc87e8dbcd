/- The engine, where a function is ranged over: rounds, and calls of yield. -/
import Derived.Test.YtfblnjidghijaaaERow
import Derived.RangeFuncIn
import Derived.RangeFuncLeaves
import Derived.RangeFuncRecord
import Derived.RangeFuncSeq
namespace Go.Proofs.Ytfblnjidghijaaa
open Go Go.RowKit

/-- No fence, but of a round's frame, or of none. -/
def FW (r : Option Nat) : Fence := { Fence.wide with round := r }
section
variable {P : Program} {F : Exit → Act → World → Prop} {Inv : World → Prop} {s : St} {fn : Func} {R : Ending → World → Prop}
def isDefer : Op → Bool
  | .defer _ => true
  | _ => false
theorem semAt_not (r : Option Nat) (ρ : Operand → Value) {o : Oper} (h : isDefer o.op = false) : o.semAt r ρ = execOp ρ o :=
  Oper.semAt_eq r ρ o fun c e => by rw [e] at h; cases h
/-- One operation of a region, by its place: the frame, the blocks, what must be the same, was anything changed? -/
structure OR where
  T : List Value
  m : Mem
  on : List (Nat × Nat)
  d : Bool
def opRun (P : Program) (ops : Array Oper) (i h : Nat) (g : Option Nat) (T : List Value) (m : Mem) : Option OR :=
  match ops[i]? with
  | some o =>
    match o.guard, isDefer o.op with
    | none, false =>
      match srun P (execOp (evalL T) o) [h] g m [] false with
      | some ⟨.value v, m', on, d⟩ => some ⟨putL T o.dst v, m', on, d⟩
      | some ⟨.skip, m', on, d⟩ => some ⟨putL T o.dst undef, m', on, d⟩
      | _ => none
    | _, _ => none
  | none => none
theorem putL_ds (T : List Value) (ds : List Deferred) (d : Option Tmp) (v : Value) : (Act.mk T.toArray ds).put d v = ⟨(putL T d v).toArray, ds⟩ := by
  cases d <;> simp [Act.put, putL]
theorem wanted_none {ops : Array Oper} {o : Oper} {a : Array Value} (hg : o.guard = none) : Region.wanted o (yielded ops a) = true := by unfold Region.wanted; rw [hg]
/-- An operation that is run. -/
theorem wi_op {r : Option Nat} {ops : Array Oper} {Q : Exit → Act → World → Prop} {i : Nat} {rest : List Nat} {T : List Value} {ds : List Deferred} {m : Mem} {w : World} (h : Nat) (g : Option Nat) {q : OR} (hs : opRun P ops i h g T m = some q) (hon : q.on.map (·.1) = q.on.map (·.2)) (hm : Holds m w) (hn : m.ids.Nodup) (hg : ∀ n, g = some n → n = w.heap.size)
    (k : ∀ w', Holds q.m w' → q.m.ids.Nodup → Ch m.ids w w' → (∀ x ∈ q.m.ids, x ∈ m.ids ∨ w.heap.size ≤ x) → (q.d = false → w' = w) → wpOpsIn (FW r) 0 P ops Q rest ⟨q.T.toArray, ds⟩ w') : wpOpsIn (FW r) 0 P ops Q (i :: rest) ⟨T.toArray, ds⟩ w := by
  unfold opRun at hs
  split at hs
  · rename_i o ho
    split at hs
    · rename_i hgu hde
      unfold wpOpsIn
      rw [ho]
      simp only [wanted_none hgu, if_true]
      refine ⟨fun _ _ => trivial, ?_⟩
      rw [semAt_not _ _ hde, evalL_eq]
      split at hs
      · rename_i v m' on d hr
        cases hs
        obtain ⟨w', D⟩ := srun_did P _ _ _ _ _ _ _ w hr (all_of_map hon) hm hn hg
        rw [D.run, Oper.uponIn_value, putL_ds]
        exact k w' D.holds D.nd D.ch D.new (fun hd => (D.still hd).2.1)
      · rename_i m' on d hr
        cases hs
        obtain ⟨w', D⟩ := srun_did P _ _ _ _ _ _ _ w hr (all_of_map hon) hm hn hg
        rw [D.run, Oper.uponIn_skip, putL_ds]
        exact k w' D.holds D.nd D.ch D.new (fun hd => (D.still hd).2.1)
      · cases hs
    · cases hs
  · cases hs
/-- Some operations, by their places and hints, that make nothing. -/
def orN (P : Program) (ops : Array Oper) : List (Nat × Nat) → List Value → Mem → Option OR
  | [], T, m => some ⟨T, m, [], false⟩
  | p :: l, T, m =>
    match opRun P ops p.1 p.2 none T m with
    | some q =>
      match orN P ops l q.T q.m with
      | some q' => some ⟨q'.T, q'.m, q.on ++ q'.on, q.d || q'.d⟩
      | none => none
    | none => none
def orT (P : Program) (ops : Array Oper) (l : List (Nat × Nat)) (T : List Value) (m : Mem) : OR := (orN P ops l T m).getD ⟨T, m, [], true⟩
theorem wi_runs0 {r : Option Nat} {ops : Array Oper} {Q : Exit → Act → World → Prop} {ds : List Deferred} {rest : List Nat} : ∀ (l : List (Nat × Nat)) {T : List Value} {m : Mem} {w : World} {q : OR}, orN P ops l T m = some q → (∀ p ∈ q.on, p.1 = p.2) → Holds m w → m.ids.Nodup →
    (∀ w', Holds q.m w' → q.m.ids.Nodup → Ch m.ids w w' → (∀ x ∈ q.m.ids, x ∈ m.ids ∨ w.heap.size ≤ x) → (q.d = false → w' = w) → wpOpsIn (FW r) 0 P ops Q rest ⟨q.T.toArray, ds⟩ w') → wpOpsIn (FW r) 0 P ops Q (l.map (·.1) ++ rest) ⟨T.toArray, ds⟩ w
  | [], T, m, w, q, h, _, hm, hn, k => by
    unfold orN at h
    cases h
    exact k w hm hn (Ch.refl _ _) (fun x hx => .inl hx) (fun _ => rfl)
  | p :: l, T, m, w, q, h, ho, hm, hn, k => by
    unfold orN at h
    split at h
    · rename_i q1 h1
      split at h
      · rename_i q2 h2
        cases h
        have hmap : q1.on.map (·.1) = q1.on.map (·.2) := by
          refine List.map_congr_left fun x hx => ho x (List.mem_append_left _ hx)
        refine wi_op p.2 none h1 hmap hm hn (fun n e => by cases e) fun w1 m1 n1 c1 s1 d1 => ?_
        refine wi_runs0 l h2 (fun x hx => ho x (List.mem_append_right _ hx)) m1 n1 fun w2 m2 n2 c2 s2 d2 => ?_
        refine k w2 m2 n2 (c1.trans c2 s1) (fun x hx => ?_) (fun hd => ?_)
        · rcases s2 x hx with e | e
          · exact s1 x e
          · exact .inr (Nat.le_trans c1.size e)
        · simp only [Bool.or_eq_false_iff] at hd
          exact (d2 hd.2).trans (d1 hd.1)
      · cases h
    · cases h
theorem wi_runs {r : Option Nat} {ops : Array Oper} {Q : Exit → Act → World → Prop} {ds : List Deferred} {rest ix : List Nat} {T : List Value} {m : Mem} {w : World} (l : List (Nat × Nat)) (hm : Holds m w) (hn : m.ids.Nodup)
    (k : ∀ w', Holds (orT P ops l T m).m w' → (orT P ops l T m).m.ids.Nodup → Ch m.ids w w' → (∀ x ∈ (orT P ops l T m).m.ids, x ∈ m.ids ∨ w.heap.size ≤ x) → ((orT P ops l T m).d = false → w' = w) → wpOpsIn (FW r) 0 P ops Q rest ⟨(orT P ops l T m).T.toArray, ds⟩ w')
    (hx : ix = l.map (·.1) ++ rest := by kernel_rfl) (hs : (orN P ops l T m).isSome = true := by kernel_rfl) (ho : (orT P ops l T m).on.map (·.1) = (orT P ops l T m).on.map (·.2) := by kernel_rfl) : wpOpsIn (FW r) 0 P ops Q ix ⟨T.toArray, ds⟩ w := by
  rw [hx]
  obtain ⟨q, hq⟩ := Option.isSome_iff_exists.1 hs
  have e : orT P ops l T m = q := by unfold orT; rw [hq]; rfl
  rw [e] at k ho
  exact wi_runs0 l hq (all_of_map ho) hm hn k
/-- One that makes a block. -/
def orG (P : Program) (ops : Array Oper) (i : Nat) (g : Nat) (T : List Value) (m : Mem) : OR := (opRun P ops i 0 (some g) T m).getD ⟨T, m, [], true⟩
theorem wi_new {r : Option Nat} {ops : Array Oper} {Q : Exit → Act → World → Prop} {ds : List Deferred} {rest : List Nat} {T : List Value} {m : Mem} {w : World} (i : Nat) (hm : Holds m w) (hn : m.ids.Nodup)
    (k : ∀ g w', g = w.heap.size → Holds (orG P ops i g T m).m w' → (orG P ops i g T m).m.ids.Nodup → Ch m.ids w w' → (∀ x ∈ (orG P ops i g T m).m.ids, x ∈ m.ids ∨ w.heap.size ≤ x) → wpOpsIn (FW r) 0 P ops Q rest ⟨(orG P ops i g T m).T.toArray, ds⟩ w')
    (hs : ∀ g, (opRun P ops i 0 (some g) T m).isSome = true := by intros; kernel_rfl) (ho : ∀ g, (orG P ops i g T m).on.map (·.1) = (orG P ops i g T m).on.map (·.2) := by intros; kernel_rfl) : wpOpsIn (FW r) 0 P ops Q (i :: rest) ⟨T.toArray, ds⟩ w := by
  obtain ⟨q, hq⟩ := Option.isSome_iff_exists.1 (hs w.heap.size)
  have e : orG P ops i w.heap.size T m = q := by unfold orG; rw [hq]; rfl
  have k := k w.heap.size
  have ho := ho w.heap.size
  rw [e] at k ho
  exact wi_op 0 (some w.heap.size) hq ho hm hn (fun n h => by cases h; rfl) fun w' a b c d _ => k w' rfl a b c d
/-- What an operation calls. -/
def askO (ops : Array Oper) (i : Nat) (T : List Value) : Option (Value × Array Value × Option Tmp) :=
  match ops[i]? with
  | some o =>
    match o.guard, o.op with
    | none, .call { callee := .value x, args, .. } => some (evalL T x, args.map (evalL T), o.dst)
    | _, _ => none
  | none => none
theorem askO_some {ops : Array Oper} {i : Nat} {T : List Value} {v : Value} {args : Array Value} {d : Option Tmp} (h : askO ops i T = some (v, args, d)) : ∃ o, ops[i]? = some o ∧ o.guard = none ∧ isDefer o.op = false ∧ o.dst = d ∧ ∃ x xs ats, o.op = .call { callee := .value x, args := xs, argTypes := ats } ∧ evalL T x = v ∧ xs.map (evalL T) = args := by
  unfold askO at h
  split at h
  · rename_i o ho
    split at h
    · rename_i x xs ats hg hop
      cases h
      exact ⟨o, ho, hg, by rw [hop]; rfl, rfl, x, xs, _, hop, rfl, rfl⟩
    · cases h
  · cases h
theorem wi_call {r : Option Nat} {ops : Array Oper} {Q : Exit → Act → World → Prop} {i : Nat} {rest : List Nat} {T : List Value} {ds : List Deferred} {w : World} {f : FuncId} {first captured args : Array Value} {d : Option Tmp} (ha : askO ops i T = some (.func (.func f) first captured, args, d)) (hf : okf P f = true)
    (k : Calls P f (first ++ args ++ captured) w fun e w' => ∃ v, e = .returned v ∧ wpOpsIn (FW r) 0 P ops Q rest ⟨(putL T d v).toArray, ds⟩ w') : wpOpsIn (FW r) 0 P ops Q (i :: rest) ⟨T.toArray, ds⟩ w := by
  obtain ⟨o, ho, hgu, hde, rfl, x, xs, ats, hop, hx, rfl⟩ := askO_some ha
  unfold wpOpsIn
  rw [ho]
  simp only [wanted_none hgu, if_true]
  refine ⟨fun _ _ => trivial, ?_⟩
  have e : execOp (evalL T) o = callFunc f (first ++ xs.map (evalL T) ++ captured) := by
    unfold execOp; rw [hop]; simp only [resolve, hx]; rfl
  rw [semAt_not _ _ hde, evalL_eq, e, okf_run hf, Oper.uponIn_enter]
  refine ⟨fun h => (by cases h), ?_⟩
  have h1 := (callsIn_wide (n := 0)).2 k
  show CallsIn Fence.wide 0 P _ _ w _
  refine h1.mono fun e w' ⟨v, he, h⟩ => ?_
  subst he
  show wpOpsIn _ _ _ _ _ _ _ _
  rw [putL_ds]
  exact h
theorem wi_yield {r : Option Nat} {ops : Array Oper} {Q : Exit → Act → World → Prop} {i : Nat} {rest : List Nat} {T : List Value} {ds : List Deferred} {w : World} {l : Nat} {args : Array Value} {d : Option Tmp} (ha : askO ops i T = some (.func (.yield l) #[] #[], args, d))
    (k : YieldAt Fence.wide 0 P l args w fun e w' => ∃ v, e = .returned v ∧ wpOpsIn (FW r) 0 P ops Q rest ⟨(putL T d v).toArray, ds⟩ w') : wpOpsIn (FW r) 0 P ops Q (i :: rest) ⟨T.toArray, ds⟩ w := by
  obtain ⟨o, ho, hgu, hde, rfl, x, xs, ats, hop, hx, rfl⟩ := askO_some ha
  unfold wpOpsIn
  rw [ho]
  simp only [wanted_none hgu, if_true]
  refine ⟨fun _ _ => trivial, ?_⟩
  obtain ⟨fn, tmps, assign, body, hy, hR⟩ := k
  have e : execOp (evalL T) o = Instr.yield l (xs.map (evalL T)) := by
    unfold execOp; rw [hop]; simp only [resolve, hx]
    show Instr.yield l (#[] ++ _) = _
    rw [Array.empty_append]
  rw [semAt_not _ _ hde, evalL_eq, e, hy, Oper.uponIn_round]
  refine ⟨fun h => (by cases h), ?_⟩
  show RoundIn Fence.wide 0 P _ _ _ _ _ w _
  refine hR.mono fun e w' ⟨v, he, h⟩ => ?_
  subst he
  show wpOpsIn _ _ _ _ _ _ _ _
  rw [putL_ds]
  exact h
/-- What is known and was not there is new. -/
theorem fresh_of {ids L : List Nat} {w w' : World} {Q : World → Prop} (h : Stay ids w' (fun w2 => Ch L w w2 ∧ Q w2)) {g : Nat} (hg : g ∈ ids) (hL : g ∉ L) : w.heap.size ≤ g := by
  rcases Nat.lt_or_ge g w.heap.size with hlt | hge
  · exfalso
    have hlt' : g < w'.heap.size := Nat.lt_of_lt_of_le hlt h.now.1.size
    have key : ∀ o : Obj, w.heap[g]? = some o := by
      intro o
      have hc : Ch ids w' { w' with heap := w'.heap.setIfInBounds g o } := ⟨rfl, rfl, rfl, by show _ ≤ (w'.heap.setIfInBounds g o).size; simp, fun i _ hx => Array.getElem?_setIfInBounds_ne (fun (e : g = i) => hx (e ▸ hg))⟩
      have h1 := (h _ hc).1.block g hlt hL
      rw [← h1]
      exact Array.getElem?_setIfInBounds_self_of_lt hlt'
    have h1 := key (.map #[] 0)
    rw [key (.map #[] 1)] at h1
    cases h1
  · exact hge
/-- The region that is next. -/
def nextReg (s : St) : Array Oper :=
  match s.todo with
  | .code (.region _ ops false) :: _ => ops
  | _ => #[]
def atReg (s : St) : Bool :=
  match s.todo with
  | .code (.region _ _ false) :: _ => true
  | _ => false
theorem Goes.reg (h : ∀ w, Holds s.mem w → s.mem.ids.Nodup → Stay s.mem.ids w Inv → wpOpsIn (FW none) 0 P (nextReg s) (QK P F s.todo.tail) (List.range (nextReg s).size) ⟨s.tmps.toArray, []⟩ w) (ha : atReg s = true := by kernel_rfl) : Goes P F Inv s := by
  intro w h1 h2 h3
  have h4 := h w h1 h2 h3
  unfold atReg at ha
  unfold nextReg at h4
  split at ha
  · rename_i id ops k ht
    rw [ht] at h4 ⊢
    exact (wpIn_wide (n := 0)).1 (wpIn_region h4)
  · cases ha
/-- A region's end. -/
theorem wi_end {r : Option Nat} {ops : Array Oper} {k : List TI} {T : List Value} {w : World} (Inv : World → Prop) (m : Mem) (hm : Holds m w) (hn : m.ids.Nodup) (hI : Stay m.ids w Inv) (G : Goes P F Inv ⟨k, T, m⟩) : wpOpsIn (FW r) 0 P ops (QK P F k) [] ⟨T.toArray, []⟩ w := G w hm hn hI
theorem Holds.nil {w : World} : Holds [] w := fun j b o h => by cases h
/-- A run of so many steps, whatever is asked at the end. -/
def rnN (P : Program) (n : Nat) (hs gs : List Nat) (s : St) : X := exG P n ⟨s, hs, [], []⟩ gs
/-- Nothing is asked of panics. -/
def NoP (F : Exit → Act → World → Prop) : Prop := ∀ c T T' ds w, F (.panic c) ⟨T, ds⟩ w → F (.panic c) ⟨T', ds⟩ w
theorem Goes.runN (hF : NoP F) (n : Nat) (hs : List Nat) (E : List (Bool × Bool)) (hB : AllB E) (h : Goes P F Inv (rnN P n hs [] s).st) (hE : (rnN P n hs [] s).ob = E := by kernel_rfl) (hN : (rnN P n hs [] s).on.map (·.1) = (rnN P n hs [] s).on.map (·.2) := by kernel_rfl) : Goes P F Inv s :=
  (exG_goes hF n 0 fun gs hl => by
    obtain rfl : gs = [] := List.eq_nil_of_length_eq_zero hl
    exact ⟨⟨all_of_map hN, hE ▸ hB.all⟩, h⟩).2
theorem Goes.runN1 (hF : NoP F) (n : Nat) (hs : List Nat) (E : List (Bool × Bool)) (hB : AllB E) (h : ∀ g, Goes P F Inv (rnN P n hs [g] s).st) (hE : ∀ g, (rnN P n hs [g] s).ob = E := by intros; kernel_rfl) (hN : ∀ g, (rnN P n hs [g] s).on.map (·.1) = (rnN P n hs [g] s).on.map (·.2) := by intros; kernel_rfl) : Goes P F Inv s :=
  (exG_goes hF n 1 fun gs hl => by
    obtain ⟨g, rfl⟩ := List.length_eq_one_iff.1 hl
    exact ⟨⟨all_of_map (hN g), hE g ▸ hB.all⟩, h g⟩).2
theorem Goes.runN2 (hF : NoP F) (n : Nat) (hs : List Nat) (E : List (Bool × Bool)) (hB : AllB E) (h : ∀ g h, Goes P F Inv (rnN P n hs [g, h] s).st) (hE : ∀ g h, (rnN P n hs [g, h] s).ob = E := by intros; kernel_rfl) (hN : ∀ g h, (rnN P n hs [g, h] s).on.map (·.1) = (rnN P n hs [g, h] s).on.map (·.2) := by intros; kernel_rfl) : Goes P F Inv s :=
  (exG_goes hF n 2 fun gs hl => by
    match gs, hl with
    | [a, b], _ => exact ⟨⟨all_of_map (hN a b), hE a b ▸ hB.all⟩, h a b⟩).2
theorem bp_noP : NoP (bodyPost P fn R) := bp_panic
/-- What is asked of a body that ranges over a function. -/
def bpM (P : Program) (fn : Func) (R : Ending → World → Prop) : Exit → Act → World → Prop
  | .panic _, _, _ => False
  | e, a, w => bodyPostM Fence.wide 0 P fn R e a w
theorem bpM_noP : NoP (bpM P fn R) := fun _ _ _ _ _ h => h.elim
theorem Goes.enterM {f : FuncId} {args : Array Value} {w : World} (hf : P.funcs[f]? = some fn) (m : Mem) (Inv : World → Prop) (hm : Holds m w) (hn : m.ids.Nodup) (hI : Stay m.ids w Inv)
 (h : Goes P (bpM P fn R) Inv (st0 fn args m)) (hb : fn.body.isSome = true := by kernel_rfl) : Calls P f args w R := by
  obtain ⟨c, hc⟩ := Option.isSome_iff_exists.1 hb
  refine (callsIn_wide (n := 0)).1 (callsIn_of_wp_marks hf hc trivial ?_ rfl)
  have h1 := h w hm hn hI
  unfold st0 at h1
  rw [hc] at h1
  have e : (args ++ Array.replicate (fn.ntmps - args.size) undef).toList.toArray = args ++ Array.replicate (fn.ntmps - args.size) undef := by simp
  unfold St.act at h1
  simp only [e] at h1
  refine (wpIn_wide (n := 0)).2 (wp_mono (show c.wp P (bpM P fn R) _ w from h1) fun e a w q => ?_)
  cases e <;> first | exact q | exact q.elim
end
end Go.Proofs.Ytfblnjidghijaaa
