/- texts put together: EIn EKid EAnyM CTree CSz CWalk CKids COwn COwn2 CRefA CRefF CRefK CRev -/
import Derived.Test.YtddbiiejilcbbaaGreatDoorAG2
import Derived.RangeFuncIn
import Derived.RangeFuncLeaves
import Derived.RangeFuncRecord
import Derived.RangeFuncSeq
import Derived.Test.YtddbiiejilcbbaaGreatDoorAG0
import Derived.Test.YtddbiiejilcbbaaGreatDoorShelf
namespace Go.Proofs.YtddbiiejilcbbaaGreatDoor
open Go Go.RowKit

/-- No fence, but of a round's frame, or of none. -/
def FW (r : Option Nat) : Fence := { Fence.wide with round := r }
section
variable {P : Program} {F : Exit → Act → World → Prop} {Inv : World → Prop} {s : St} {fn : Func} {R : Ending → World → Prop}
def isDefer : Op → Bool
  | .defer _ => true
  | _ => false
theorem semAt_not (r : Option Nat) (ρ : Operand → Value) {o : Oper} (h : isDefer o.op = false) : o.semAt r ρ = execOp ρ o :=
  Oper.semAt_eq r ρ o fun c e => by rw [e] at h; cases h
/-- One operation of a region, by its place: the frame, the blocks, what must be the same, was anything changed? -/
structure OR where
  T : List Value
  m : Mem
  on : List (Nat × Nat)
  d : Bool
def opRun (P : Program) (ops : Array Oper) (i h : Nat) (g : Option Nat) (T : List Value) (m : Mem) : Option OR :=
  match ops[i]? with
  | some o =>
    match o.guard, isDefer o.op with
    | none, false =>
      match srun P (execOp (evalL T) o) [h] g m [] false with
      | some ⟨.value v, m', on, d⟩ => some ⟨putL T o.dst v, m', on, d⟩
      | some ⟨.skip, m', on, d⟩ => some ⟨putL T o.dst undef, m', on, d⟩
      | _ => none
    | _, _ => none
  | none => none
theorem putL_ds (T : List Value) (ds : List Deferred) (d : Option Tmp) (v : Value) : (Act.mk T.toArray ds).put d v = ⟨(putL T d v).toArray, ds⟩ := by
  cases d <;> simp [Act.put, putL]
theorem wanted_none {ops : Array Oper} {o : Oper} {a : Array Value} (hg : o.guard = none) : Region.wanted o (yielded ops a) = true := by unfold Region.wanted; rw [hg]
/-- An operation that is run. -/
theorem wi_op {r : Option Nat} {ops : Array Oper} {Q : Exit → Act → World → Prop} {i : Nat} {rest : List Nat} {T : List Value} {ds : List Deferred} {m : Mem} {w : World} (h : Nat) (g : Option Nat) {q : OR} (hs : opRun P ops i h g T m = some q) (hon : q.on.map (·.1) = q.on.map (·.2)) (hm : Holds m w) (hn : m.ids.Nodup) (hg : ∀ n, g = some n → n = w.heap.size)
    (k : ∀ w', Holds q.m w' → q.m.ids.Nodup → Ch m.ids w w' → (∀ x ∈ q.m.ids, x ∈ m.ids ∨ w.heap.size ≤ x) → (q.d = false → w' = w) → wpOpsIn (FW r) 0 P ops Q rest ⟨q.T.toArray, ds⟩ w') : wpOpsIn (FW r) 0 P ops Q (i :: rest) ⟨T.toArray, ds⟩ w := by
  unfold opRun at hs
  split at hs
  · rename_i o ho
    split at hs
    · rename_i hgu hde
      unfold wpOpsIn
      rw [ho]
      simp only [wanted_none hgu, if_true]
      refine ⟨fun _ _ => trivial, ?_⟩
      rw [semAt_not _ _ hde, evalL_eq]
      split at hs
      · rename_i v m' on d hr
        cases hs
        obtain ⟨w', D⟩ := srun_did P _ _ _ _ _ _ _ w hr (all_of_map hon) hm hn hg
        rw [D.run, Oper.uponIn_value, putL_ds]
        exact k w' D.holds D.nd D.ch D.new (fun hd => (D.still hd).2.1)
      · rename_i m' on d hr
        cases hs
        obtain ⟨w', D⟩ := srun_did P _ _ _ _ _ _ _ w hr (all_of_map hon) hm hn hg
        rw [D.run, Oper.uponIn_skip, putL_ds]
        exact k w' D.holds D.nd D.ch D.new (fun hd => (D.still hd).2.1)
      · cases hs
    · cases hs
  · cases hs
/-- Some operations, by their places and hints, that make nothing. -/
def orN (P : Program) (ops : Array Oper) : List (Nat × Nat) → List Value → Mem → Option OR
  | [], T, m => some ⟨T, m, [], false⟩
  | p :: l, T, m =>
    match opRun P ops p.1 p.2 none T m with
    | some q =>
      match orN P ops l q.T q.m with
      | some q' => some ⟨q'.T, q'.m, q.on ++ q'.on, q.d || q'.d⟩
      | none => none
    | none => none
def orT (P : Program) (ops : Array Oper) (l : List (Nat × Nat)) (T : List Value) (m : Mem) : OR := (orN P ops l T m).getD ⟨T, m, [], true⟩
theorem wi_runs0 {r : Option Nat} {ops : Array Oper} {Q : Exit → Act → World → Prop} {ds : List Deferred} {rest : List Nat} : ∀ (l : List (Nat × Nat)) {T : List Value} {m : Mem} {w : World} {q : OR}, orN P ops l T m = some q → (∀ p ∈ q.on, p.1 = p.2) → Holds m w → m.ids.Nodup →
    (∀ w', Holds q.m w' → q.m.ids.Nodup → Ch m.ids w w' → (∀ x ∈ q.m.ids, x ∈ m.ids ∨ w.heap.size ≤ x) → (q.d = false → w' = w) → wpOpsIn (FW r) 0 P ops Q rest ⟨q.T.toArray, ds⟩ w') → wpOpsIn (FW r) 0 P ops Q (l.map (·.1) ++ rest) ⟨T.toArray, ds⟩ w
  | [], T, m, w, q, h, _, hm, hn, k => by
    unfold orN at h
    cases h
    exact k w hm hn (Ch.refl _ _) (fun x hx => .inl hx) (fun _ => rfl)
  | p :: l, T, m, w, q, h, ho, hm, hn, k => by
    unfold orN at h
    split at h
    · rename_i q1 h1
      split at h
      · rename_i q2 h2
        cases h
        have hmap : q1.on.map (·.1) = q1.on.map (·.2) := by
          refine List.map_congr_left fun x hx => ho x (List.mem_append_left _ hx)
        refine wi_op p.2 none h1 hmap hm hn (fun n e => by cases e) fun w1 m1 n1 c1 s1 d1 => ?_
        refine wi_runs0 l h2 (fun x hx => ho x (List.mem_append_right _ hx)) m1 n1 fun w2 m2 n2 c2 s2 d2 => ?_
        refine k w2 m2 n2 (c1.trans c2 s1) (fun x hx => ?_) (fun hd => ?_)
        · rcases s2 x hx with e | e
          · exact s1 x e
          · exact .inr (Nat.le_trans c1.size e)
        · simp only [Bool.or_eq_false_iff] at hd
          exact (d2 hd.2).trans (d1 hd.1)
      · cases h
    · cases h
theorem wi_runs {r : Option Nat} {ops : Array Oper} {Q : Exit → Act → World → Prop} {ds : List Deferred} {rest ix : List Nat} {T : List Value} {m : Mem} {w : World} (l : List (Nat × Nat)) (hm : Holds m w) (hn : m.ids.Nodup)
    (k : ∀ w', Holds (orT P ops l T m).m w' → (orT P ops l T m).m.ids.Nodup → Ch m.ids w w' → (∀ x ∈ (orT P ops l T m).m.ids, x ∈ m.ids ∨ w.heap.size ≤ x) → ((orT P ops l T m).d = false → w' = w) → wpOpsIn (FW r) 0 P ops Q rest ⟨(orT P ops l T m).T.toArray, ds⟩ w')
    (hx : ix = l.map (·.1) ++ rest := by kernel_rfl) (hs : (orN P ops l T m).isSome = true := by kernel_rfl) (ho : (orT P ops l T m).on.map (·.1) = (orT P ops l T m).on.map (·.2) := by kernel_rfl) : wpOpsIn (FW r) 0 P ops Q ix ⟨T.toArray, ds⟩ w := by
  rw [hx]
  obtain ⟨q, hq⟩ := Option.isSome_iff_exists.1 hs
  have e : orT P ops l T m = q := by unfold orT; rw [hq]; rfl
  rw [e] at k ho
  exact wi_runs0 l hq (all_of_map ho) hm hn k
/-- One that makes a block. -/
def orG (P : Program) (ops : Array Oper) (i : Nat) (g : Nat) (T : List Value) (m : Mem) : OR := (opRun P ops i 0 (some g) T m).getD ⟨T, m, [], true⟩
theorem wi_new {r : Option Nat} {ops : Array Oper} {Q : Exit → Act → World → Prop} {ds : List Deferred} {rest : List Nat} {T : List Value} {m : Mem} {w : World} (i : Nat) (hm : Holds m w) (hn : m.ids.Nodup)
    (k : ∀ g w', g = w.heap.size → Holds (orG P ops i g T m).m w' → (orG P ops i g T m).m.ids.Nodup → Ch m.ids w w' → (∀ x ∈ (orG P ops i g T m).m.ids, x ∈ m.ids ∨ w.heap.size ≤ x) → wpOpsIn (FW r) 0 P ops Q rest ⟨(orG P ops i g T m).T.toArray, ds⟩ w')
    (hs : ∀ g, (opRun P ops i 0 (some g) T m).isSome = true := by intros; kernel_rfl) (ho : ∀ g, (orG P ops i g T m).on.map (·.1) = (orG P ops i g T m).on.map (·.2) := by intros; kernel_rfl) : wpOpsIn (FW r) 0 P ops Q (i :: rest) ⟨T.toArray, ds⟩ w := by
  obtain ⟨q, hq⟩ := Option.isSome_iff_exists.1 (hs w.heap.size)
  have e : orG P ops i w.heap.size T m = q := by unfold orG; rw [hq]; rfl
  have k := k w.heap.size
  have ho := ho w.heap.size
  rw [e] at k ho
  exact wi_op 0 (some w.heap.size) hq ho hm hn (fun n h => by cases h; rfl) fun w' a b c d _ => k w' rfl a b c d
/-- What an operation calls. -/
def askO (ops : Array Oper) (i : Nat) (T : List Value) : Option (Value × Array Value × Option Tmp) :=
  match ops[i]? with
  | some o =>
    match o.guard, o.op with
    | none, .call { callee := .value x, args, .. } => some (evalL T x, args.map (evalL T), o.dst)
    | _, _ => none
  | none => none
theorem askO_some {ops : Array Oper} {i : Nat} {T : List Value} {v : Value} {args : Array Value} {d : Option Tmp} (h : askO ops i T = some (v, args, d)) : ∃ o, ops[i]? = some o ∧ o.guard = none ∧ isDefer o.op = false ∧ o.dst = d ∧ ∃ x xs ats, o.op = .call { callee := .value x, args := xs, argTypes := ats } ∧ evalL T x = v ∧ xs.map (evalL T) = args := by
  unfold askO at h
  split at h
  · rename_i o ho
    split at h
    · rename_i x xs ats hg hop
      cases h
      exact ⟨o, ho, hg, by rw [hop]; rfl, rfl, x, xs, _, hop, rfl, rfl⟩
    · cases h
  · cases h
theorem wi_call {r : Option Nat} {ops : Array Oper} {Q : Exit → Act → World → Prop} {i : Nat} {rest : List Nat} {T : List Value} {ds : List Deferred} {w : World} {f : FuncId} {first captured args : Array Value} {d : Option Tmp} (ha : askO ops i T = some (.func (.func f) first captured, args, d)) (hf : okf P f = true)
    (k : Calls P f (first ++ args ++ captured) w fun e w' => ∃ v, e = .returned v ∧ wpOpsIn (FW r) 0 P ops Q rest ⟨(putL T d v).toArray, ds⟩ w') : wpOpsIn (FW r) 0 P ops Q (i :: rest) ⟨T.toArray, ds⟩ w := by
  obtain ⟨o, ho, hgu, hde, rfl, x, xs, ats, hop, hx, rfl⟩ := askO_some ha
  unfold wpOpsIn
  rw [ho]
  simp only [wanted_none hgu, if_true]
  refine ⟨fun _ _ => trivial, ?_⟩
  have e : execOp (evalL T) o = callFunc f (first ++ xs.map (evalL T) ++ captured) := by
    unfold execOp; rw [hop]; simp only [resolve, hx]; rfl
  rw [semAt_not _ _ hde, evalL_eq, e, okf_run hf, Oper.uponIn_enter]
  refine ⟨fun h => (by cases h), ?_⟩
  have h1 := (callsIn_wide (n := 0)).2 k
  show CallsIn Fence.wide 0 P _ _ w _
  refine h1.mono fun e w' ⟨v, he, h⟩ => ?_
  subst he
  show wpOpsIn _ _ _ _ _ _ _ _
  rw [putL_ds]
  exact h
theorem wi_yield {r : Option Nat} {ops : Array Oper} {Q : Exit → Act → World → Prop} {i : Nat} {rest : List Nat} {T : List Value} {ds : List Deferred} {w : World} {l : Nat} {args : Array Value} {d : Option Tmp} (ha : askO ops i T = some (.func (.yield l) #[] #[], args, d))
    (k : YieldAt Fence.wide 0 P l args w fun e w' => ∃ v, e = .returned v ∧ wpOpsIn (FW r) 0 P ops Q rest ⟨(putL T d v).toArray, ds⟩ w') : wpOpsIn (FW r) 0 P ops Q (i :: rest) ⟨T.toArray, ds⟩ w := by
  obtain ⟨o, ho, hgu, hde, rfl, x, xs, ats, hop, hx, rfl⟩ := askO_some ha
  unfold wpOpsIn
  rw [ho]
  simp only [wanted_none hgu, if_true]
  refine ⟨fun _ _ => trivial, ?_⟩
  obtain ⟨fn, tmps, assign, body, hy, hR⟩ := k
  have e : execOp (evalL T) o = Instr.yield l (xs.map (evalL T)) := by
    unfold execOp; rw [hop]; simp only [resolve, hx]
    show Instr.yield l (#[] ++ _) = _
    rw [Array.empty_append]
  rw [semAt_not _ _ hde, evalL_eq, e, hy, Oper.uponIn_round]
  refine ⟨fun h => (by cases h), ?_⟩
  show RoundIn Fence.wide 0 P _ _ _ _ _ w _
  refine hR.mono fun e w' ⟨v, he, h⟩ => ?_
  subst he
  show wpOpsIn _ _ _ _ _ _ _ _
  rw [putL_ds]
  exact h
/-- What is known and was not there is new. -/
theorem fresh_of {ids L : List Nat} {w w' : World} {Q : World → Prop} (h : Stay ids w' (fun w2 => Ch L w w2 ∧ Q w2)) {g : Nat} (hg : g ∈ ids) (hL : g ∉ L) : w.heap.size ≤ g := by
  rcases Nat.lt_or_ge g w.heap.size with hlt | hge
  · exfalso
    have hlt' : g < w'.heap.size := Nat.lt_of_lt_of_le hlt h.now.1.size
    have key : ∀ o : Obj, w.heap[g]? = some o := by
      intro o
      have hc : Ch ids w' { w' with heap := w'.heap.setIfInBounds g o } := ⟨rfl, rfl, rfl, by show _ ≤ (w'.heap.setIfInBounds g o).size; simp, fun i _ hx => Array.getElem?_setIfInBounds_ne (fun (e : g = i) => hx (e ▸ hg))⟩
      have h1 := (h _ hc).1.block g hlt hL
      rw [← h1]
      exact Array.getElem?_setIfInBounds_self_of_lt hlt'
    have h1 := key (.map #[] 0)
    rw [key (.map #[] 1)] at h1
    cases h1
  · exact hge
/-- The region that is next. -/
def nextReg (s : St) : Array Oper :=
  match s.todo with
  | .code (.region _ ops false) :: _ => ops
  | _ => #[]
def atReg (s : St) : Bool :=
  match s.todo with
  | .code (.region _ _ false) :: _ => true
  | _ => false
theorem Goes.reg (h : ∀ w, Holds s.mem w → s.mem.ids.Nodup → Stay s.mem.ids w Inv → wpOpsIn (FW none) 0 P (nextReg s) (QK P F s.todo.tail) (List.range (nextReg s).size) ⟨s.tmps.toArray, []⟩ w) (ha : atReg s = true := by kernel_rfl) : Goes P F Inv s := by
  intro w h1 h2 h3
  have h4 := h w h1 h2 h3
  unfold atReg at ha
  unfold nextReg at h4
  split at ha
  · rename_i id ops k ht
    rw [ht] at h4 ⊢
    exact (wpIn_wide (n := 0)).1 (wpIn_region h4)
  · cases ha
/-- A region's end. -/
theorem wi_end {r : Option Nat} {ops : Array Oper} {k : List TI} {T : List Value} {w : World} (Inv : World → Prop) (m : Mem) (hm : Holds m w) (hn : m.ids.Nodup) (hI : Stay m.ids w Inv) (G : Goes P F Inv ⟨k, T, m⟩) : wpOpsIn (FW r) 0 P ops (QK P F k) [] ⟨T.toArray, []⟩ w := G w hm hn hI
theorem Holds.nil {w : World} : Holds [] w := fun j b o h => by cases h
/-- A run of so many steps, whatever is asked at the end. -/
def rnN (P : Program) (n : Nat) (hs gs : List Nat) (s : St) : X := exG P n ⟨s, hs, [], []⟩ gs
/-- Nothing is asked of panics. -/
def NoP (F : Exit → Act → World → Prop) : Prop := ∀ c T T' ds w, F (.panic c) ⟨T, ds⟩ w → F (.panic c) ⟨T', ds⟩ w
theorem Goes.runN (hF : NoP F) (n : Nat) (hs : List Nat) (E : List (Bool × Bool)) (hB : AllB E) (h : Goes P F Inv (rnN P n hs [] s).st) (hE : (rnN P n hs [] s).ob = E := by kernel_rfl) (hN : (rnN P n hs [] s).on.map (·.1) = (rnN P n hs [] s).on.map (·.2) := by kernel_rfl) : Goes P F Inv s :=
  (exG_goes hF n 0 fun gs hl => by
    obtain rfl : gs = [] := List.eq_nil_of_length_eq_zero hl
    exact ⟨⟨all_of_map hN, hE ▸ hB.all⟩, h⟩).2
theorem Goes.runN1 (hF : NoP F) (n : Nat) (hs : List Nat) (E : List (Bool × Bool)) (hB : AllB E) (h : ∀ g, Goes P F Inv (rnN P n hs [g] s).st) (hE : ∀ g, (rnN P n hs [g] s).ob = E := by intros; kernel_rfl) (hN : ∀ g, (rnN P n hs [g] s).on.map (·.1) = (rnN P n hs [g] s).on.map (·.2) := by intros; kernel_rfl) : Goes P F Inv s :=
  (exG_goes hF n 1 fun gs hl => by
    obtain ⟨g, rfl⟩ := List.length_eq_one_iff.1 hl
    exact ⟨⟨all_of_map (hN g), hE g ▸ hB.all⟩, h g⟩).2
theorem Goes.runN2 (hF : NoP F) (n : Nat) (hs : List Nat) (E : List (Bool × Bool)) (hB : AllB E) (h : ∀ g h, Goes P F Inv (rnN P n hs [g, h] s).st) (hE : ∀ g h, (rnN P n hs [g, h] s).ob = E := by intros; kernel_rfl) (hN : ∀ g h, (rnN P n hs [g, h] s).on.map (·.1) = (rnN P n hs [g, h] s).on.map (·.2) := by intros; kernel_rfl) : Goes P F Inv s :=
  (exG_goes hF n 2 fun gs hl => by
    match gs, hl with
    | [a, b], _ => exact ⟨⟨all_of_map (hN a b), hE a b ▸ hB.all⟩, h a b⟩).2
theorem bp_noP : NoP (bodyPost P fn R) := bp_panic
/-- What is asked of a body that ranges over a function. -/
def bpM (P : Program) (fn : Func) (R : Ending → World → Prop) : Exit → Act → World → Prop
  | .panic _, _, _ => False
  | e, a, w => bodyPostM Fence.wide 0 P fn R e a w
theorem bpM_noP : NoP (bpM P fn R) := fun _ _ _ _ _ h => h.elim
theorem Goes.enterM {f : FuncId} {args : Array Value} {w : World} (hf : P.funcs[f]? = some fn) (m : Mem) (Inv : World → Prop) (hm : Holds m w) (hn : m.ids.Nodup) (hI : Stay m.ids w Inv)
 (h : Goes P (bpM P fn R) Inv (st0 fn args m)) (hb : fn.body.isSome = true := by kernel_rfl) : Calls P f args w R := by
  obtain ⟨c, hc⟩ := Option.isSome_iff_exists.1 hb
  refine (callsIn_wide (n := 0)).1 (callsIn_of_wp_marks hf hc trivial ?_ rfl)
  have h1 := h w hm hn hI
  unfold st0 at h1
  rw [hc] at h1
  have e : (args ++ Array.replicate (fn.ntmps - args.size) undef).toList.toArray = args ++ Array.replicate (fn.ntmps - args.size) undef := by simp
  unfold St.act at h1
  simp only [e] at h1
  refine (wpIn_wide (n := 0)).2 (wp_mono (show c.wp P (bpM P fn R) _ w from h1) fun e a w q => ?_)
  cases e <;> first | exact q | exact q.elim
end
end Go.Proofs.YtddbiiejilcbbaaGreatDoor
namespace Go.Proofs.YtddbiiejilcbbaaGreatDoor
open Go Go.RowKit

section
variable {P : Program} {F : Exit → Act → World → Prop} {Inv : World → Prop} {s : St} {fn : Func} {R : Ending → World → Prop}
/-- A region that draws its order is opened; it reads other blocks, too. -/
def openedY (js : List Nat) (ex : Mem) (s : St) : St :=
  match s.todo with
  | .code (.region _ ops true) :: k => { s with todo := .any ops (sub js s.mem ++ ex) ops.size (Array.replicate ops.size false) :: k }
  | _ => s
theorem Holds.cat {m m' : Mem} {w : World} (h : Holds m w) (h' : Holds m' w) : Holds (m ++ m') w := by
  intro j b o hj
  rcases List.mem_append.1 (List.mem_of_getElem? hj) with hx | hx
  · obtain ⟨i, hi⟩ := List.getElem?_of_mem hx
    exact h i b o hi
  · obtain ⟨i, hi⟩ := List.getElem?_of_mem hx
    exact h' i b o hi
theorem Goes.openY (js : List Nat) (ex : Mem) (hex : ∀ w, Inv w → Holds ex w) (h : Goes P F Inv (openedY js ex s)) (hm : P.follows .mixedOrders = true := by kernel_rfl) : Goes P F Inv s := by
  unfold openedY at h
  split at h
  · rename_i id ops k ht
    intro w h1 h2 h3
    rw [ht]
    exact qk_any hm ((sub_holds h1).cat (hex w h3.now)) (h { w with drawn := w.drawn + 1 } h1 h2 (h3.ch ⟨rfl, rfl, rfl, Nat.le_refl _, fun _ _ _ => rfl⟩ (fun x hx => .inl hx)))
  · exact h
theorem Holds.bel {m : Mem} {w w' : World} (h : Holds m w) (hB : Below w.heap.size w w') : Holds m w' := fun j b o hj => (hB.block b (lt_of_get (h j b o hj))).trans (h j b o hj)
theorem Stay.bel {L : List Nat} {w w' : World} (h : Stay L w Inv) (hB : Below w.heap.size w w') : Stay L w' Inv := h.ch ⟨hB.os, hB.tape, hB.output, hB.size, fun i hi _ => hB.block i hi⟩ (fun _ hx => .inl hx)
/-- The one that may come up is a call that only makes new blocks. -/
theorem Goes.callA0 (i : Nat) (f : FuncId) (args : Array Value) (v : Value) (hr : ∀ w, Holds s.mem w → Stay s.mem.ids w Inv → Calls P f args w fun e w' => e = .returned v ∧ Below w.heap.size w w') (h : Goes P F Inv (putA0 i s v)) (ha : askA i s = some (f, args) := by kernel_rfl) (hw : anyLone i s = true := by kernel_rfl) (hf : okf P f = true := by kernel_rfl) : Goes P F Inv s :=
  Goes.callA i f args (fun _ _ _ _ _ _ w hm hn hI h0 => (hr w hm hI).mono fun _ _ ⟨he, hB⟩ => ⟨v, Inv, s.mem, he, h0.bel hB, hm.bel hB, hn, hI.bel hB, h⟩) ha hw hf
end
end Go.Proofs.YtddbiiejilcbbaaGreatDoor
namespace Go.Proofs.YtddbiiejilcbbaaGreatDoor
open Go Go.RowKit

section
variable {P : Program} {F : Exit → Act → World → Prop} {Inv : World → Prop} {s : St}
/-- The operation i of a drawn region makes a block. -/
def newA (P : Program) (i g : Nat) (s : St) : Option St :=
  match anyOp i s with
  | some o =>
    match srun P (execOp (evalL s.tmps) o) [0] (some g) s.mem [] false with
    | some ⟨.value v, m, [], _⟩ => some (putA i s v m)
    | _ => none
  | none => none
def newSt (P : Program) (i g : Nat) (s : St) : St := (newA P i g s).getD s
theorem TookS.new1 (i n1 : Nat) (js : List Nat) (hn1 : ∀ w, Inv w → n1 ≤ w.heap.size) (h : ∀ g, n1 ≤ g → Goes P F Inv (newSt P i g s)) (h0 : ∀ g, (newA P i g s).map (fun st => sub js st.mem) = some (anyM s) := by intro g; kernel_rfl) (hw : anyWant i s = true := by kernel_rfl) : TookS P F Inv i s := by
  intro ops m0 n l k ht w h1 h2 h3 h4
  have hG := h w.heap.size (hn1 w h3.now)
  have hk := h0 w.heap.size
  unfold newSt at hG
  cases hq : newA P i w.heap.size s with
  | none => rw [hq] at hk; cases hk
  | some st =>
    rw [hq] at hG hk
    simp only [Option.getD_some] at hG
    simp only [Option.map_some, Option.some.injEq] at hk
    have hst := hq
    unfold newA at hq
    unfold anyWant at hw
    unfold anyM at hk
    rw [ht] at hw hk
    simp only at hw hk
    cases ho : ops[i]? with
    | none => rw [ho] at hw; simp at hw
    | some o =>
      have hoo : anyOp i s = some o := by unfold anyOp; rw [ht]; exact ho
      rw [ho] at hw
      simp only at hw
      rw [hoo] at hq
      simp only at hq
      unfold wpOp
      rw [ho]
      simp only [hw, if_true]
      unfold Oper.wp
      rw [evalL_eq]
      split at hq
      · rename_i v m d hs
        cases hq
        obtain ⟨w', D⟩ := srun_did P _ _ _ _ _ _ _ w hs (by simp) h1 h2 (by simp)
        have h9 := hG w'
        unfold putA at h9 hk
        rw [ht] at h9 hk
        simp only [ho] at h9 hk
        rw [D.run, Oper.upon_value, putL_eq]
        have hm' : Holds m0 w' := by rw [← hk]; exact sub_holds D.holds
        exact .inl ⟨hm', h9 D.holds D.nd (h3.ch D.ch D.new) hm'⟩
      · cases hq
theorem TookS.effM (i : Nat) (I : Sem Value) (hr : ∀ w, Holds s.mem w → s.mem.ids.Nodup → Stay s.mem.ids w Inv → Holds (anyM s) w → ∃ v w' Inv' m, I.run P w = .ok v w' ∧ Holds (anyM s) w' ∧ Holds m w' ∧ m.ids.Nodup ∧ Stay m.ids w' Inv' ∧ Goes P F Inv' (putA i s v m)) (hw : anyWant i s = true := by kernel_rfl) (ho' : (anyOp i s).map (execOp (evalL s.tmps)) = some (vS I) := by kernel_rfl) : TookS P F Inv i s := by
  intro ops m0 n l k ht w h1 h2 h3 h0
  unfold anyWant at hw
  unfold anyM at hr
  unfold anyOp at ho'
  rw [ht] at hw hr ho'
  simp only at hw hr ho'
  cases ho : ops[i]? with
  | none => rw [ho] at hw; simp at hw
  | some o =>
    rw [ho] at hw ho'
    simp only [Option.map_some, Option.some.injEq] at hw ho'
    obtain ⟨v, w', Inv', m, he, h10, h4, h5, h6, h7⟩ := hr w h1 h2 h3 h0
    have h9 := h7 w'
    unfold putA at h9
    rw [ht] at h9
    simp only [ho] at h9
    unfold wpOp
    rw [ho]
    simp only [hw, if_true]
    unfold Oper.wp
    rw [evalL_eq, ho', vS_run he, Oper.upon_value, putL_eq]
    exact .inl ⟨h10, h9 h4 h5 h6 h10⟩
end
end Go.Proofs.YtddbiiejilcbbaaGreatDoor
namespace Go.Proofs.YtddbiiejilcbbaaGreatDoor
open Go Go.RowKit

inductive Co where
  | mk (op k : Int) (s : List UInt8) (kids : List Co)
theorem Co.lt_of_mem {op k : Int} {s : List UInt8} {kids : List Co} {t : Co} (h : t ∈ kids) : SizeOf.sizeOf t < SizeOf.sizeOf (Co.mk op k s kids) := by
  have := List.sizeOf_lt_of_mem h
  simp only [Co.mk.sizeOf_spec]
  omega
theorem Co.ind {P : Co → Prop} (h : ∀ op k s kids, (∀ t ∈ kids, P t) → P (.mk op k s kids)) (t : Co) : P t :=
  match t with
  | .mk op k s kids => h op k s kids (fun t _ => Co.ind h t)
termination_by SizeOf.sizeOf t
decreasing_by exact Co.lt_of_mem (by assumption)
/-- A term as a value. -/
def cv (op k : Int) (s : List UInt8) (v : Value) : Value := .agg #[.int .i64 op, .int .i64 k, strV s, v]
/-- The term v lies there. -/
def Cl4 (w : World) (b o : Nat) (v : Value) : Prop := ∃ op k s u, v = cv op k s u ∧ w.cell? ⟨b, o, none⟩ = some (.int .i64 op) ∧ w.cell? ⟨b, o + 1, none⟩ = some (.int .i64 k) ∧ w.cell? ⟨b, o + 2, none⟩ = some (strV s) ∧ w.cell? ⟨b, o + 3, none⟩ = some u
theorem Cl4.below {n : Nat} {w w' : World} {b o : Nat} {v : Value} (h : Cl4 w b o v) (hb : b < n) (hB : Below n w w') : Cl4 w' b o v := by
  obtain ⟨op, k, s, u, e, h0, h1, h2, h3⟩ := h
  exact ⟨op, k, s, u, e, (hB.cell (p := ⟨b, o, none⟩) hb).trans h0, (hB.cell (p := ⟨b, o + 1, none⟩) hb).trans h1, (hB.cell (p := ⟨b, o + 2, none⟩) hb).trans h2, (hB.cell (p := ⟨b, o + 3, none⟩) hb).trans h3⟩
/-- What a term's own numbers and text may be. -/
structure Fits (op k : Int) (s : List UInt8) : Prop where
  op : -9223372036854775808 ≤ op ∧ op ≤ 9223372036854775807
  k : -9223372036854775808 ≤ k ∧ k ≤ 9223372036854775807
  s : s.length ≤ 9223372036854775807
/-- The value v is the term c, all the way down, in blocks below n. -/
inductive Nc (n : Nat) (w : World) : Value → Co → Prop
  | mk (op k : Int) (s : List UInt8) (kids : List Co) (a : Option Addr) (c : Nat) (vs : Nat → Value) (hf : Fits op k s) (hl : kids.length ≤ c ∧ c ≤ 9223372036854775807)
      (hc : ∀ i, i < kids.length → ∃ b o, a = some ⟨b, o, none⟩ ∧ b < n ∧ Cl4 w b (o + i * 4) (vs i)) (hk : ∀ i t, kids[i]? = some t → Nc n w (vs i) t) : Nc n w (cv op k s (.slice a kids.length c)) (.mk op k s kids)
theorem Nc.later {n : Nat} {w w' : World} {v : Value} {t : Co} (h : Nc n w v t) (hB : Below n w w') : Nc n w' v t := by
  induction h with
  | mk op k s kids a c vs hf hl hc hk ih =>
    refine .mk op k s kids a c vs hf hl (fun i hi => ?_) (fun i t ht => ih i t ht)
    obtain ⟨b, o, e, hb, h⟩ := hc i hi
    exact ⟨b, o, e, hb, h.below hb hB⟩
theorem Nc.more {n n' : Nat} {w : World} {v : Value} {t : Co} (h : Nc n w v t) (hn : n ≤ n') : Nc n' w v t := by
  induction h with
  | mk op k s kids a c vs hf hl hc hk ih =>
    refine .mk op k s kids a c vs hf hl (fun i hi => ?_) (fun i t ht => ih i t ht)
    obtain ⟨b, o, e, hb, h⟩ := hc i hi
    exact ⟨b, o, e, by omega, h⟩
theorem Nc.open {n : Nat} {w : World} {v : Value} {op k : Int} {s : List UInt8} {kids : List Co} (h : Nc n w v (.mk op k s kids)) : ∃ a c, v = cv op k s (.slice a kids.length c) ∧ Fits op k s ∧ (kids.length ≤ c ∧ c ≤ 9223372036854775807) ∧ ∀ i t, kids[i]? = some t → ∃ b o u, a = some ⟨b, o, none⟩ ∧ b < n ∧ Cl4 w b (o + i * 4) u ∧ Nc n w u t := by
  cases h with
  | mk _ _ _ _ a c vs hf hl hc hk =>
    refine ⟨a, c, rfl, hf, hl, fun i t ht => ?_⟩
    obtain ⟨b, o, e, hb, h⟩ := hc i (List.getElem?_eq_some_iff.1 ht).1
    exact ⟨b, o, vs i, e, hb, h, hk i t ht⟩
theorem Nc.cells {n : Nat} {w : World} {v : Value} {c : Co} (h : Nc n w v c) : ∃ op k s a N cc, v = cv op k s (.slice a N cc) := by
  cases h with
  | mk op k s kids a c vs => exact ⟨_, _, _, _, _, _, rfl⟩
theorem sizeC : (Tryz.prog.info? 52).map (·.size) = some 4 := by kernel_rfl
/-- A term is loaded from where it lies. -/
theorem loadC {w : World} {b o : Nat} {v : Value} (h : Cl4 w b o v) : (Instr.loadAt 52 (.pointer (some ⟨b, o, none⟩))).run Tryz.prog w = .ok v w := by
  obtain ⟨op, k, s, u, rfl, h0, h1, h2, h3⟩ := h
  have hc := run_loadCells_list (P := Tryz.prog) w ⟨b, o, none⟩ [.int .i64 op, .int .i64 k, strV s, u] (fun j x hx => by
    match j, hx with
    | 0, hx => cases hx; rw [add_lit]; exact h0
    | 1, hx => cases hx; rw [add_lit]; exact h1
    | 2, hx => cases hx; rw [add_lit]; exact h2
    | 3, hx => cases hx; rw [add_lit]; exact h3)
  unfold cv
  simp only [Instr.loadAt, Instr.sureAddr, Sem.run_bind, Sem.run_pure, Result.andThen, loadVar, Tryz.isAgg52, run_size sizeC, show 4 = [Value.int .i64 op, .int .i64 k, strV s, u].length from rfl, hc, if_true]
theorem idxC (b o n cap k : Nat) (h : k < n) (w : World) : (Instr.indexAt 50 (.slice (some ⟨b, o, none⟩) n cap) (.int .i64 k)).run Tryz.prog w = .ok (.pointer (some ⟨b, o + k * 4, none⟩)) w := by go_simp
theorem wrap_nat {k : Nat} (h : k + 1 ≤ 9223372036854775807) : IntKind.i64.wrap ((k : Int) + 1) = ((k + 1 : Nat) : Int) := by rw [IntWalk.i64_in _ ⟨by omega, by omega⟩]; omega
theorem Ch.toB {w w' : World} {L : List Nat} (h : Ch L w w') (hL : ∀ x ∈ L, w.heap.size ≤ x) : Below w.heap.size w w' := ⟨h.os, h.tape, h.output, h.size, fun i hi => h.block i hi (fun hm => by have := hL i hm; omega)⟩
theorem bel0 {s : St} {w w' : World} {Q : World → Prop} (hI : Stay s.mem.ids w' (fun w2 => Ch (Mem.ids []) w w2 ∧ Q w2)) : Below w.heap.size w w' := hI.now.1.toB (fun x hx => by cases hx)
theorem Nc.at {w w' : World} {v : Value} {c : Co} (hN : Nc w.heap.size w v c) (hB : Below w.heap.size w w') : Nc w'.heap.size w' v c := (hN.later hB).more hB.size
theorem eqT (x y : Operand) (a b : List UInt8) (hc : (match x, y with | .tmp _, .tmp _ => true | _, _ => false) = true) (w : World) : (do eqGuard .eql 9 x y (strV a) (strV b); binOp .eql 9 (strV a) (strV b) : Sem Value).run Tryz.prog w = .ok (.bool (decide (a = b))) w := by
  have : (eqGuard .eql 9 x y (strV a) (strV b)).run Tryz.prog w = .ok () w := by
    cases x <;> cases y <;> simp at hc
    unfold eqGuard strV; go_simp
  simp only [Sem.run_bind, this, Result.andThen_ok, eqlS a b _ rfl w]
theorem neT (x y : Operand) (a b : List UInt8) (hc : (match x, y with | .tmp _, .tmp _ => true | _, _ => false) = true) (w : World) : (do eqGuard .neq 9 x y (strV a) (strV b); binOp .neq 9 (strV a) (strV b) : Sem Value).run Tryz.prog w = .ok (.bool (decide (a ≠ b))) w := by
  have : (eqGuard .neq 9 x y (strV a) (strV b)).run Tryz.prog w = .ok () w := by
    cases x <;> cases y <;> simp at hc
    unfold eqGuard strV; go_simp
  simp only [Sem.run_bind, this, Result.andThen_ok, neqS a b _ rfl w]
end Go.Proofs.YtddbiiejilcbbaaGreatDoor
namespace Go.Proofs.YtddbiiejilcbbaaGreatDoor
open Go

mutual
def szC : Co → Int
  | .mk _ _ _ kids => 1 + szL kids
def szL : List Co → Int
  | [] => 0
  | c :: r => szC c + szL r
end
mutual
theorem szC_pos : ∀ c : Co, 1 ≤ szC c
  | .mk _ _ _ kids => by unfold szC; have := szL_pos kids; omega
theorem szL_pos : ∀ l : List Co, 0 ≤ szL l
  | [] => by unfold szL; omega
  | c :: r => by unfold szL; have := szC_pos c; have := szL_pos r; omega
end
end Go.Proofs.YtddbiiejilcbbaaGreatDoor
namespace Go.Proofs.YtddbiiejilcbbaaGreatDoor
open Go Go.RowKit

mutual
/-- What a walk does: a term ahead of its kids, until one is left. -/
def walkP {σ : Type} (f : σ → Int → Co → σ × Bool) (s : σ) (d : Int) : Co → σ × Bool
  | .mk op k t kids =>
    match f s d (.mk op k t kids) with
    | (s', false) => (s', false)
    | (s', true) => walkK f s' (IntKind.i64.wrap (d + 1)) kids
def walkK {σ : Type} (f : σ → Int → Co → σ × Bool) (s : σ) (d : Int) : List Co → σ × Bool
  | [] => (s, true)
  | c :: r =>
    match walkP f s d c with
    | (s', false) => (s', false)
    | (s', true) => walkK f s' d r
end
mutual
/-- What is asked of the state holds at each term that is gone to. -/
def safeP {σ : Type} (f : σ → Int → Co → σ × Bool) (ok : σ → Prop) (s : σ) (d : Int) : Co → Prop
  | .mk op k t kids => ok s ∧
    match f s d (.mk op k t kids) with
    | (_, false) => True
    | (s', true) => safeK f ok s' (IntKind.i64.wrap (d + 1)) kids
def safeK {σ : Type} (f : σ → Int → Co → σ × Bool) (ok : σ → Prop) (s : σ) (d : Int) : List Co → Prop
  | [] => True
  | c :: r => safeP f ok s d c ∧
    match walkP f s d c with
    | (_, false) => True
    | (s', true) => safeK f ok s' d r
end
/-- Blocks of O' are of O, or new. -/
def Sub (w : World) (O O' : List Nat) : Prop := ∀ x ∈ O', x ∈ O ∨ w.heap.size ≤ x
theorem Sub.refl (w : World) (O : List Nat) : Sub w O O := fun _ h => .inl h
theorem Sub.trans {w w' : World} {O O' O'' : List Nat} (h : Sub w O O') (h' : Sub w' O' O'') (hs : w.heap.size ≤ w'.heap.size) : Sub w O O'' := fun x hx => by
  rcases h' x hx with e | e
  · exact h x e
  · exact .inr (Nat.le_trans hs e)
/-- A yield, with a state s of its own in the blocks O: f says what it does. -/
structure Yl {σ : Type} (n₀ l : Nat) (f : σ → Int → Co → σ × Bool) (ok : σ → Prop) (J : Bool → σ → List Nat → World → Prop) : Prop where
  stay : ∀ b s O w w', J b s O w → (∀ x ∈ O, w'.heap[x]? = w.heap[x]?) → J b s O w'
  low : ∀ b s O w, J b s O w → ∀ x ∈ O, n₀ ≤ x ∧ x < w.heap.size
  yield : ∀ s O w d v c, ok s → J true s O w → Nc n₀ w v c → n₀ ≤ w.heap.size → YieldAt Fence.wide 0 Tryz.prog l #[.int .i64 d, v] w fun e w' => e = .returned (.bool (f s d c).2) ∧ ∃ O', J (f s d c).2 (f s d c).1 O' w' ∧ Ch O w w' ∧ Sub w O O'
theorem Ch.low {O : List Nat} {w w' : World} {n : Nat} (h : Ch O w w') (hO : ∀ x ∈ O, n ≤ x) (hn : n ≤ w.heap.size) : Below n w w' :=
  ⟨h.os, h.tape, h.output, h.size, fun i hi => h.block i (by omega) (fun hx => by have := hO i hx; omega)⟩
/-- What a walk leaves. -/
def WPost {σ : Type} (J : Bool → σ → List Nat → World → Prop) (O : List Nat) (w : World) (r : σ × Bool) (e : Ending) (w' : World) : Prop := e = .returned (.bool r.2) ∧ ∃ O', J r.2 r.1 O' w' ∧ Ch O w w' ∧ Sub w O O'
def cO (op k : Int) (t : List UInt8) (v : Value) : Obj := .cells #[.int .i64 op, .int .i64 k, strV t, v] 52 (0, 0)
/-- What holds while a walk is under way. -/
def WInv {σ : Type} (J : Bool → σ → List Nat → World → Prop) (O : List Nat) (w : World) (g : Nat) (s : σ) (w' : World) : Prop := Ch O w w' ∧ ∃ O', J true s O' w' ∧ Sub w O O' ∧ g ∉ O'
theorem WInv.stay {σ : Type} {n₀ l : Nat} {f : σ → Int → Co → σ × Bool} {ok : σ → Prop} {J : Bool → σ → List Nat → World → Prop} (Y : Yl n₀ l f ok J) {O : List Nat} {w w' : World} {g : Nat} {s : σ} (h : WInv J O w g s w') (hg : w.heap.size ≤ g) : Stay [g] w' (WInv J O w g s) := by
  intro w2 hc
  obtain ⟨h1, O', h2, h3, h4⟩ := h
  refine ⟨h1.trans hc (fun x hx => by rw [List.mem_singleton] at hx; exact .inr (hx ▸ hg)), O', Y.stay _ _ _ _ _ h2 (fun x hx => ?_), h3, h4⟩
  exact hc.block x (Y.low _ _ _ _ h2 x hx).2 (fun hm => h4 (by rw [List.mem_singleton] at hm; exact hm ▸ hx))
set_option maxRecDepth 100000 in
seal rn rnN Goes ans atEnd put0 putM opened putA0 oneSt st0 orT orG in
theorem walk_any {σ : Type} {n₀ l : Nat} {f : σ → Int → Co → σ × Bool} {ok : σ → Prop} {J : Bool → σ → List Nat → World → Prop} (Y : Yl n₀ l f ok J) (c : Co) : ∀ (v : Value) (w : World) (s : σ) (O : List Nat) (d : Int), safeP f ok s d c → J true s O w → Nc n₀ w v c → n₀ ≤ w.heap.size →
    Calls Tryz.prog 205 #[v, .int .i64 d, .func (.yield l) #[] #[]] w (WPost J O w (walkP f s d c)) := by
  induction c using Co.ind with
  | h op k t kids ih =>
    intro v w s O d hsafe hJ hN hn
    unfold safeP at hsafe
    obtain ⟨hok, hsafe⟩ := hsafe
    have hNw := hN
    obtain ⟨a, cc, rfl, hfit, hcap, hkids⟩ := hN.open
    obtain ⟨N, hL⟩ : ∃ N, kids.length = N := ⟨_, rfl⟩
    rw [hL] at hNw hcap ⊢
    refine Goes.enter Tryz.func205 [] (fun w' => Ch [] w w' ∧ J true s O w') (fun j b o h => by cases h) (by simp [Mem.ids]) (fun w' hc => ⟨hc, Y.stay _ _ _ _ _ hJ (fun x hx => hc.block x (Y.low _ _ _ _ hJ x hx).2 (by simp [Mem.ids]))⟩) ?_
    refine Goes.runN1 bp_noP 7 [] [] trivial fun g => ?_
    refine Goes.reg fun w1 hm hn1 hI => ?_
    have hg : w.heap.size ≤ g := fresh_of hI (g := g) (ids_get (j := 0) (o := cO op k t (.slice a N cc)) (by kernel_rfl)) (by simp)
    have hgO : g ∉ O := fun h => by have := (Y.low _ _ _ _ hJ g h).2; omega
    have hB1 : Below n₀ w w1 := hI.now.1.low (fun x hx => by cases hx) hn
    refine wi_runs [(0, 0), (1, 0), (2, 0)] (rest := [3, 4]) hm hn1 fun w2 m2 n2 c2 s2 d2 => ?_
    obtain rfl := d2 (by kernel_rfl)
    refine wi_yield (l := l) (args := #[.int .i64 d, cv op k t (.slice a N cc)]) (d := some 12) (by kernel_rfl) ?_
    obtain ⟨fn, tmps, asg, body, hy, hR⟩ := Y.yield s O w2 d _ _ hok hI.now.2 (hNw.later hB1) (Nat.le_trans hn hB1.size)
    cases hfs : f s d (.mk op k t kids) with
    | mk s' b =>
    rw [hfs] at hR hsafe
    refine ⟨fn, tmps, asg, body, hy, hR.mono fun e w3 ⟨he, O', hJ', hC, hS⟩ => ⟨_, he, ?_⟩⟩
    have hgw : g < w2.heap.size := lt_of_get (hm.get 0 (o := cO op k t (.slice a N cc)))
    have hg3 : w3.heap[g]? = some (cO op k t (.slice a N cc)) := (hC.block g hgw hgO).trans (hm.get 0)
    have hgO' : g ∉ O' := fun h => by rcases hS g h with e | e; exact hgO e; omega
    have hCw : Ch O w w3 := (hI.now.1.mono (fun x hx => by cases hx)).trans hC (fun x hx => .inl hx)
    have hSw : Sub w O O' := fun x hx => by
      rcases hS x hx with e | e
      · exact .inl e
      · exact .inr (Nat.le_trans hI.now.1.size e)
    refine wi_runs (m := [(g, cO op k t (.slice a N cc))]) [(4, 0)] (rest := []) (fun j b o h => by match j, h with | 0, h => cases h; exact hg3) (by simp [Mem.ids]) fun w4 m4 n4 c4 s4 d4 => ?_
    obtain rfl := d4 (by kernel_rfl)
    cases b with
    | false =>
      refine wi_end (fun w' => Ch O w w' ∧ ∃ O', J false s' O' w' ∧ Sub w O O') [] Holds.nil (by simp [Mem.ids]) (fun w' hc => ⟨hCw.trans hc (fun x hx => by cases hx), O', Y.stay _ _ _ _ _ hJ' (fun x hx => hc.block x (Y.low _ _ _ _ hJ' x hx).2 (by simp [Mem.ids])), hSw⟩) ?_
      refine Goes.run [1] [(true, true)] ⟨rfl, trivial⟩ ?_
      exact Goes.ret [] (.bool false) fun w' hm hI => by
        obtain ⟨h1, O2, h2, h3⟩ := hI.now
        unfold WPost
        rw [walkP, hfs]
        exact ⟨rfl, O2, h2, h1, h3⟩
    | true =>
      refine wi_end (WInv J O w g s') [(g, cO op k t (.slice a N cc))] (fun j b o h => by match j, h with | 0, h => cases h; exact hg3) (by simp [Mem.ids]) (WInv.stay Y ⟨hCw, O', hJ', hSw, hgO'⟩ hg) ?_
      refine Goes.run [0, 0] [(false, false)] ⟨rfl, trivial⟩ ?_
      obtain ⟨D, hD⟩ : ∃ D, IntKind.i64.wrap (d + 1) = D := ⟨_, rfl⟩
      have hW : walkP f s d (.mk op k t kids) = walkK f s' D kids := by rw [walkP, hfs, hD]
      rw [hW]
      rw [hD] at hsafe
      refine Goes.loop (α := Nat × σ) 28 (fun q => [(1, .int .i64 d), (2, .func (.yield l) #[] #[]), (3, .pointer (some ⟨g, 0, none⟩)), (15, .slice a N cc), (16, .int .i64 N), (17, .int .i64 q.1)]) (fun _ => [(g, cO op k t (.slice a N cc))]) (fun q => WInv J O w g q.2)
        (fun q => q.1 ≤ N ∧ walkK f s' D kids = walkK f q.2 D (kids.drop q.1) ∧ safeK f ok q.2 D (kids.drop q.1)) (fun q => N - q.1) (0, s') ⟨Nat.zero_le _, rfl, hsafe⟩ (fun w' h => h) ?_
      rintro ⟨i, s1⟩ J1 ⟨hi, hrest, hsf⟩ back
      simp only at hi hrest hsf back ⊢
      cases hlt : decide ((i : Int) < (N : Int)) with
      | false =>
        obtain rfl : i = N := by have := of_decide_eq_false hlt; omega
        refine Goes.run [0, 0] [(decide ((i : Int) < (i : Int)), false)] ⟨hlt, trivial⟩ ?_
        exact Goes.ret [] (.bool true) fun w' hm hI => by
          obtain ⟨h1, O2, h2, h3, _⟩ := hI.now
          unfold WPost
          rw [hrest, List.drop_of_length_le (by omega), walkK]
          exact ⟨rfl, O2, h2, h1, h3⟩
      | true =>
        have hil : i < N := by have := of_decide_eq_true hlt; omega
        obtain ⟨u, hu⟩ : ∃ u, kids[i]? = some u := ⟨kids[i]'(by omega), by simp⟩
        obtain ⟨b, o, x, rfl, hb, hcl, hx⟩ := hkids i u hu
        obtain ⟨op', k', t', a', N', c', rfl⟩ := hx.cells
        have hdrop : kids.drop i = u :: kids.drop (i + 1) := by
          obtain ⟨h1, h2⟩ := List.getElem?_eq_some_iff.1 hu
          rw [List.drop_eq_getElem_cons h1, h2]
        rw [hdrop] at hsf
        unfold safeK at hsf
        obtain ⟨hsf1, hsf2⟩ := hsf
        have hlow : ∀ w', WInv J O w g s1 w' → Below n₀ w w' := fun w' h => h.1.low (fun x hx => (Y.low _ _ _ _ hJ x hx).1) hn
        refine Goes.run [0, 1] [(decide ((i : Int) < (N : Int)), true)] ⟨hlt, trivial⟩ ?_
        refine Goes.val (Instr.indexAt 50 (.slice (some ⟨b, o, none⟩) N cc) (.int .i64 i)) (.pointer (some ⟨b, o + i * 4, none⟩)) (fun w' _ _ => idxC b o N cc i hil w') ?_
        refine Goes.val (Instr.loadAt 52 (.pointer (some ⟨b, o + i * 4, none⟩))) (cv op' k' t' (.slice a' N' c')) (fun w' _ hI => loadC (hcl.below hb (hlow _ hI.now))) ?_
        refine Goes.run1 [1, 1] [] trivial fun g8 => ?_
        refine Goes.slot 23 (.int .i64 D) (u := .int .i64 (IntKind.i64.wrap (d + 1))) (congrArg _ hD) ?_
        refine Goes.call 205 #[cv op' k' t' (.slice a' N' c'), .int .i64 D, .func (.yield l) #[] #[]] fun w5 hm5 hn5 hI5 => ?_
        obtain ⟨h1, O2, h2, h3, h4⟩ := hI5.now
        refine (ih u (List.mem_of_getElem? hu) _ w5 s1 O2 D hsf1 h2 (hx.later (hlow _ hI5.now)) (Nat.le_trans hn h1.size)).mono fun e w6 ⟨he, O3, h5, h6, h7⟩ => ?_
        have hgw5 : g < w5.heap.size := lt_of_get (hm5.get 0 (o := cO op k t (.slice (some ⟨b, o, none⟩) N cc)))
        have hg6 : w6.heap[g]? = some (cO op k t (.slice (some ⟨b, o, none⟩) N cc)) := (h6.block g hgw5 h4).trans (hm5.get 0)
        have hg3' : g ∉ O3 := fun h => by rcases h7 g h with e | e; exact h4 e; omega
        have hC6 : Ch O w w6 := h1.trans h6 h3
        have hS6 : Sub w O O3 := h3.trans h7 h1.size
        cases hws : walkP f s1 D u with
        | mk s2 b2 =>
        rw [hws] at he h5 hsf2
        cases b2 with
        | false =>
          refine ⟨_, fun w' => Ch O w w' ∧ ∃ O', J false s2 O' w' ∧ Sub w O O', [], he, Holds.nil, by simp [Mem.ids], fun w' hc => ⟨hC6.trans hc (fun x hx => by cases hx), O3, Y.stay _ _ _ _ _ h5 (fun x hx => hc.block x (Y.low _ _ _ _ h5 x hx).2 (by simp [Mem.ids])), hS6⟩, ?_⟩
          refine Goes.run [1] [(true, true)] ⟨rfl, trivial⟩ ?_
          exact Goes.ret [] (.bool false) fun w' hm hI => by
            obtain ⟨h1, O2, h2, h3⟩ := hI.now
            unfold WPost
            rw [hrest, hdrop, walkK, hws]
            exact ⟨rfl, O2, h2, h1, h3⟩
        | true =>
          refine ⟨_, WInv J O w g s2, [(g, cO op k t (.slice (some ⟨b, o, none⟩) N cc))], he, fun j b o h => by match j, h with | 0, h => cases h; exact hg6, by simp [Mem.ids], WInv.stay Y ⟨hC6, O3, h5, hS6, hg3'⟩ hg, ?_⟩
          refine Goes.run [0] [(false, false)] ⟨rfl, trivial⟩ ?_
          refine Goes.slot 17 (.int .i64 (i + 1 : Nat)) (u := .int .i64 (IntKind.i64.wrap ((i : Int) + 1))) (congrArg _ (wrap_nat (by omega))) ?_
          exact back (i + 1, s2) _ ⟨hil, by rw [hrest, hdrop, walkK, hws], hsf2⟩ (by omega) (by kernel_rfl) (by kernel_rfl) (by kernel_rfl)
end Go.Proofs.YtddbiiejilcbbaaGreatDoor
namespace Go.Proofs.YtddbiiejilcbbaaGreatDoor
open Go Go.RowKit

/-- A row of types that was made. -/
def KidsAt (w w' : World) (v : Value) (ks : List Int) : Prop := (v = .slice none 0 0 ∧ ks = []) ∨ ∃ g, w.heap.size ≤ g ∧ v = .slice (some ⟨g, 0, none⟩) ks.length ks.length ∧ w'.heap[g]? = some (.cells (ks.map (Value.int .i64)).toArray 3 (0, 0)) ∧ 0 < ks.length ∧ ks.length ≤ 3
/-- What is answered of an Op's kids. -/
def Kr (r : Option (List Int)) (w : World) (e : Ending) (w' : World) : Prop := ∃ v, e = .returned (.tuple #[v, .bool r.isSome]) ∧ Below w.heap.size w w' ∧ KidsAt w w' v (r.getD [])
theorem Kr.none {r : Option (List Int)} {w w' : World} (h : r = .none) (hB : Below w.heap.size w w') : Kr r w (.returned (.tuple #[.slice .none 0 0, .bool false])) w' := by subst h; exact ⟨_, rfl, hB, .inl ⟨rfl, rfl⟩⟩
theorem Kr.nil {r : Option (List Int)} {w w' : World} (h : r = some []) (hB : Below w.heap.size w w') : Kr r w (.returned (.tuple #[.slice .none 0 0, .bool true])) w' := by subst h; exact ⟨_, rfl, hB, .inl ⟨rfl, rfl⟩⟩
theorem Kr.some {r : Option (List Int)} {w w' : World} {g : Nat} (ks : List Int) (h : r = .some ks) (hB : Below w.heap.size w w') (hg : w.heap.size ≤ g) (hb : w'.heap[g]? = .some (.cells (ks.map (Value.int .i64)).toArray 3 (0, 0))) (h0 : 0 < ks.length) (h3 : ks.length ≤ 3) : Kr r w (.returned (.tuple #[.slice (.some ⟨g, 0, .none⟩) ks.length ks.length, .bool true])) w' := by subst h; exact ⟨_, rfl, hB, .inr ⟨g, hg, rfl, hb, h0, h3⟩⟩
theorem Kr.later {r : Option (List Int)} {w w0 w' : World} {e : Ending} (h : Kr r w0 e w') (hB : Below w.heap.size w w0) : Kr r w e w' := by
  obtain ⟨v, he, hb, hk⟩ := h
  refine ⟨v, he, hB.trans (hb.mono hB.size), ?_⟩
  rcases hk with h | ⟨g, h1, h2⟩
  · exact .inl h
  · exact .inr ⟨g, Nat.le_trans hB.size h1, h2⟩

def kNumber (op : Int) : Option (List Int) :=
  bif op == 1 || op == 4 then some [] else bif op == 6 then some [0] else bif op == 7 || op == 8 || op == 9 || op == 10 then some [0, 0] else bif op == 20 || op == 21 then some [2, 2] else none
set_option maxRecDepth 100000 in
seal rn rnN Goes ans atEnd put0 putM opened putA0 oneSt st0 in
theorem kNumber_any (op : Int) (w : World) : Calls Tryz.prog 233 #[.int .i64 op] w (Kr (kNumber op) w) := by
  refine Goes.begin Tryz.func233 [] (fun _ => True) Holds.nil (by simp [Mem.ids]) (fun _ _ => trivial) ?_
  cases h1 : (op == 1) with
  | true =>
    refine Goes.run [1, 1] [(op == 1, true), (op == 1, true)] ⟨h1, h1, trivial⟩ ?_
    exact Goes.ret [] (.tuple #[.slice none 0 0, .bool true]) fun w' hm hI => Kr.nil (by unfold kNumber; rw [h1] <;> rfl) (below_end (m := []) Holds.nil hI.now.1 hm (by kernel_rfl))
  | false =>
    cases h4 : (op == 4) with
    | true =>
      refine Goes.run [0, 1] [(op == 4, true), (op == 1, false)] ⟨h4, h1, trivial⟩ ?_
      exact Goes.ret [] (.tuple #[.slice none 0 0, .bool true]) fun w' hm hI => Kr.nil (by unfold kNumber; rw [h1, h4] <;> rfl) (below_end (m := []) Holds.nil hI.now.1 hm (by kernel_rfl))
    | false =>
      cases h6 : (op == 6) with
      | true =>
        refine Goes.run1 [0, 0, 1] [(op == 6, true), (op == 4, false), (op == 1, false)] ⟨h6, h4, h1, trivial⟩ fun g => ?_
        exact Goes.ret [] (.tuple #[.slice (some ⟨g, 0, none⟩) 1 1, .bool true]) fun w' hm hI => Kr.some [0] (by unfold kNumber; rw [h1, h4, h6] <;> rfl) (below_end (m := []) Holds.nil hI.now.1 hm (by kernel_rfl)) (fresh_of hI (g := g) (ids_get (j := 0) (o := .cells #[.int .i64 0] 3 (0, 0)) (by kernel_rfl)) (by simp [Mem.ids])) (hm.get 0) (by decide) (by decide)
      | false =>
        cases h7 : (op == 7) with
        | true =>
          refine Goes.run1 [0, 0, 0, 1, 1] [(op == 7, true), (op == 7, true), (op == 6, false), (op == 4, false), (op == 1, false)] ⟨h7, h7, h6, h4, h1, trivial⟩ fun g => ?_
          exact Goes.ret [] (.tuple #[.slice (some ⟨g, 0, none⟩) 2 2, .bool true]) fun w' hm hI => Kr.some [0, 0] (by unfold kNumber; rw [h1, h4, h6, h7] <;> rfl) (below_end (m := []) Holds.nil hI.now.1 hm (by kernel_rfl)) (fresh_of hI (g := g) (ids_get (j := 0) (o := .cells #[.int .i64 0, .int .i64 0] 3 (0, 0)) (by kernel_rfl)) (by simp [Mem.ids])) (hm.get 0) (by decide) (by decide)
        | false =>
          cases h8 : (op == 8) with
          | true =>
            refine Goes.run1 [0, 0, 0, 0, 1, 1] [(op == 8, true), (op == 8, true), (op == 7, false), (op == 6, false), (op == 4, false), (op == 1, false)] ⟨h8, h8, h7, h6, h4, h1, trivial⟩ fun g => ?_
            exact Goes.ret [] (.tuple #[.slice (some ⟨g, 0, none⟩) 2 2, .bool true]) fun w' hm hI => Kr.some [0, 0] (by unfold kNumber; rw [h1, h4, h6, h7, h8] <;> rfl) (below_end (m := []) Holds.nil hI.now.1 hm (by kernel_rfl)) (fresh_of hI (g := g) (ids_get (j := 0) (o := .cells #[.int .i64 0, .int .i64 0] 3 (0, 0)) (by kernel_rfl)) (by simp [Mem.ids])) (hm.get 0) (by decide) (by decide)
          | false =>
            cases h9 : (op == 9) with
            | true =>
              refine Goes.run1 [0, 0, 0, 0, 0, 1, 1] [(op == 9, true), (op == 9, true), (op == 8, false), (op == 7, false), (op == 6, false), (op == 4, false), (op == 1, false)] ⟨h9, h9, h8, h7, h6, h4, h1, trivial⟩ fun g => ?_
              exact Goes.ret [] (.tuple #[.slice (some ⟨g, 0, none⟩) 2 2, .bool true]) fun w' hm hI => Kr.some [0, 0] (by unfold kNumber; rw [h1, h4, h6, h7, h8, h9] <;> rfl) (below_end (m := []) Holds.nil hI.now.1 hm (by kernel_rfl)) (fresh_of hI (g := g) (ids_get (j := 0) (o := .cells #[.int .i64 0, .int .i64 0] 3 (0, 0)) (by kernel_rfl)) (by simp [Mem.ids])) (hm.get 0) (by decide) (by decide)
            | false =>
              cases h10 : (op == 10) with
              | true =>
                refine Goes.run1 [0, 0, 0, 0, 0, 0, 1] [(op == 10, true), (op == 9, false), (op == 8, false), (op == 7, false), (op == 6, false), (op == 4, false), (op == 1, false)] ⟨h10, h9, h8, h7, h6, h4, h1, trivial⟩ fun g => ?_
                exact Goes.ret [] (.tuple #[.slice (some ⟨g, 0, none⟩) 2 2, .bool true]) fun w' hm hI => Kr.some [0, 0] (by unfold kNumber; rw [h1, h4, h6, h7, h8, h9, h10] <;> rfl) (below_end (m := []) Holds.nil hI.now.1 hm (by kernel_rfl)) (fresh_of hI (g := g) (ids_get (j := 0) (o := .cells #[.int .i64 0, .int .i64 0] 3 (0, 0)) (by kernel_rfl)) (by simp [Mem.ids])) (hm.get 0) (by decide) (by decide)
              | false =>
                cases h20 : (op == 20) with
                | true =>
                  refine Goes.run1 [0, 0, 0, 0, 0, 0, 0, 1, 1] [(op == 20, true), (op == 20, true), (op == 10, false), (op == 9, false), (op == 8, false), (op == 7, false), (op == 6, false), (op == 4, false), (op == 1, false)] ⟨h20, h20, h10, h9, h8, h7, h6, h4, h1, trivial⟩ fun g => ?_
                  exact Goes.ret [] (.tuple #[.slice (some ⟨g, 0, none⟩) 2 2, .bool true]) fun w' hm hI => Kr.some [2, 2] (by unfold kNumber; rw [h1, h4, h6, h7, h8, h9, h10, h20] <;> rfl) (below_end (m := []) Holds.nil hI.now.1 hm (by kernel_rfl)) (fresh_of hI (g := g) (ids_get (j := 0) (o := .cells #[.int .i64 2, .int .i64 2] 3 (0, 0)) (by kernel_rfl)) (by simp [Mem.ids])) (hm.get 0) (by decide) (by decide)
                | false =>
                  cases h21 : (op == 21) with
                  | true =>
                    refine Goes.run1 [0, 0, 0, 0, 0, 0, 0, 0, 1] [(op == 21, true), (op == 20, false), (op == 10, false), (op == 9, false), (op == 8, false), (op == 7, false), (op == 6, false), (op == 4, false), (op == 1, false)] ⟨h21, h20, h10, h9, h8, h7, h6, h4, h1, trivial⟩ fun g => ?_
                    exact Goes.ret [] (.tuple #[.slice (some ⟨g, 0, none⟩) 2 2, .bool true]) fun w' hm hI => Kr.some [2, 2] (by unfold kNumber; rw [h1, h4, h6, h7, h8, h9, h10, h20, h21] <;> rfl) (below_end (m := []) Holds.nil hI.now.1 hm (by kernel_rfl)) (fresh_of hI (g := g) (ids_get (j := 0) (o := .cells #[.int .i64 2, .int .i64 2] 3 (0, 0)) (by kernel_rfl)) (by simp [Mem.ids])) (hm.get 0) (by decide) (by decide)
                  | false =>
                    refine Goes.run [0, 0, 0, 0, 0, 0, 0, 0, 0] [(op == 21, false), (op == 20, false), (op == 10, false), (op == 9, false), (op == 8, false), (op == 7, false), (op == 6, false), (op == 4, false), (op == 1, false)] ⟨h21, h20, h10, h9, h8, h7, h6, h4, h1, trivial⟩ ?_
                    exact Goes.ret [] (.tuple #[.slice none 0 0, .bool false]) fun w' hm hI => Kr.none (by unfold kNumber; rw [h1, h4, h6, h7, h8, h9, h10, h20, h21] <;> rfl) (below_end (m := []) Holds.nil hI.now.1 hm (by kernel_rfl))
def kTruth (op : Int) : Option (List Int) :=
  bif op == 2 then some [] else bif op == 11 || op == 12 || op == 13 then some [0, 0] else bif op == 14 then some [1] else bif op == 15 || op == 16 then some [1, 1] else bif op == 17 then some [2, 2] else none
set_option maxRecDepth 100000 in
seal rn rnN Goes ans atEnd put0 putM opened putA0 oneSt st0 in
theorem kTruth_any (op : Int) (w : World) : Calls Tryz.prog 234 #[.int .i64 op] w (Kr (kTruth op) w) := by
  refine Goes.begin Tryz.func234 [] (fun _ => True) Holds.nil (by simp [Mem.ids]) (fun _ _ => trivial) ?_
  cases h2 : (op == 2) with
  | true =>
    refine Goes.run [1] [(op == 2, true)] ⟨h2, trivial⟩ ?_
    exact Goes.ret [] (.tuple #[.slice none 0 0, .bool true]) fun w' hm hI => Kr.nil (by unfold kTruth; rw [h2] <;> rfl) (below_end (m := []) Holds.nil hI.now.1 hm (by kernel_rfl))
  | false =>
    cases h11 : (op == 11) with
    | true =>
      refine Goes.run1 [0, 1, 1] [(op == 11, true), (op == 11, true), (op == 2, false)] ⟨h11, h11, h2, trivial⟩ fun g => ?_
      exact Goes.ret [] (.tuple #[.slice (some ⟨g, 0, none⟩) 2 2, .bool true]) fun w' hm hI => Kr.some [0, 0] (by unfold kTruth; rw [h2, h11] <;> rfl) (below_end (m := []) Holds.nil hI.now.1 hm (by kernel_rfl)) (fresh_of hI (g := g) (ids_get (j := 0) (o := .cells #[.int .i64 0, .int .i64 0] 3 (0, 0)) (by kernel_rfl)) (by simp [Mem.ids])) (hm.get 0) (by decide) (by decide)
    | false =>
      cases h12 : (op == 12) with
      | true =>
        refine Goes.run1 [0, 0, 1, 1] [(op == 12, true), (op == 12, true), (op == 11, false), (op == 2, false)] ⟨h12, h12, h11, h2, trivial⟩ fun g => ?_
        exact Goes.ret [] (.tuple #[.slice (some ⟨g, 0, none⟩) 2 2, .bool true]) fun w' hm hI => Kr.some [0, 0] (by unfold kTruth; rw [h2, h11, h12] <;> rfl) (below_end (m := []) Holds.nil hI.now.1 hm (by kernel_rfl)) (fresh_of hI (g := g) (ids_get (j := 0) (o := .cells #[.int .i64 0, .int .i64 0] 3 (0, 0)) (by kernel_rfl)) (by simp [Mem.ids])) (hm.get 0) (by decide) (by decide)
      | false =>
        cases h13 : (op == 13) with
        | true =>
          refine Goes.run1 [0, 0, 0, 1] [(op == 13, true), (op == 12, false), (op == 11, false), (op == 2, false)] ⟨h13, h12, h11, h2, trivial⟩ fun g => ?_
          exact Goes.ret [] (.tuple #[.slice (some ⟨g, 0, none⟩) 2 2, .bool true]) fun w' hm hI => Kr.some [0, 0] (by unfold kTruth; rw [h2, h11, h12, h13] <;> rfl) (below_end (m := []) Holds.nil hI.now.1 hm (by kernel_rfl)) (fresh_of hI (g := g) (ids_get (j := 0) (o := .cells #[.int .i64 0, .int .i64 0] 3 (0, 0)) (by kernel_rfl)) (by simp [Mem.ids])) (hm.get 0) (by decide) (by decide)
        | false =>
          cases h14 : (op == 14) with
          | true =>
            refine Goes.run1 [0, 0, 0, 0, 1] [(op == 14, true), (op == 13, false), (op == 12, false), (op == 11, false), (op == 2, false)] ⟨h14, h13, h12, h11, h2, trivial⟩ fun g => ?_
            exact Goes.ret [] (.tuple #[.slice (some ⟨g, 0, none⟩) 1 1, .bool true]) fun w' hm hI => Kr.some [1] (by unfold kTruth; rw [h2, h11, h12, h13, h14] <;> rfl) (below_end (m := []) Holds.nil hI.now.1 hm (by kernel_rfl)) (fresh_of hI (g := g) (ids_get (j := 0) (o := .cells #[.int .i64 1] 3 (0, 0)) (by kernel_rfl)) (by simp [Mem.ids])) (hm.get 0) (by decide) (by decide)
          | false =>
            cases h15 : (op == 15) with
            | true =>
              refine Goes.run1 [0, 0, 0, 0, 0, 1, 1] [(op == 15, true), (op == 15, true), (op == 14, false), (op == 13, false), (op == 12, false), (op == 11, false), (op == 2, false)] ⟨h15, h15, h14, h13, h12, h11, h2, trivial⟩ fun g => ?_
              exact Goes.ret [] (.tuple #[.slice (some ⟨g, 0, none⟩) 2 2, .bool true]) fun w' hm hI => Kr.some [1, 1] (by unfold kTruth; rw [h2, h11, h12, h13, h14, h15] <;> rfl) (below_end (m := []) Holds.nil hI.now.1 hm (by kernel_rfl)) (fresh_of hI (g := g) (ids_get (j := 0) (o := .cells #[.int .i64 1, .int .i64 1] 3 (0, 0)) (by kernel_rfl)) (by simp [Mem.ids])) (hm.get 0) (by decide) (by decide)
            | false =>
              cases h16 : (op == 16) with
              | true =>
                refine Goes.run1 [0, 0, 0, 0, 0, 0, 1] [(op == 16, true), (op == 15, false), (op == 14, false), (op == 13, false), (op == 12, false), (op == 11, false), (op == 2, false)] ⟨h16, h15, h14, h13, h12, h11, h2, trivial⟩ fun g => ?_
                exact Goes.ret [] (.tuple #[.slice (some ⟨g, 0, none⟩) 2 2, .bool true]) fun w' hm hI => Kr.some [1, 1] (by unfold kTruth; rw [h2, h11, h12, h13, h14, h15, h16] <;> rfl) (below_end (m := []) Holds.nil hI.now.1 hm (by kernel_rfl)) (fresh_of hI (g := g) (ids_get (j := 0) (o := .cells #[.int .i64 1, .int .i64 1] 3 (0, 0)) (by kernel_rfl)) (by simp [Mem.ids])) (hm.get 0) (by decide) (by decide)
              | false =>
                cases h17 : (op == 17) with
                | true =>
                  refine Goes.run1 [0, 0, 0, 0, 0, 0, 0, 1] [(op == 17, true), (op == 16, false), (op == 15, false), (op == 14, false), (op == 13, false), (op == 12, false), (op == 11, false), (op == 2, false)] ⟨h17, h16, h15, h14, h13, h12, h11, h2, trivial⟩ fun g => ?_
                  exact Goes.ret [] (.tuple #[.slice (some ⟨g, 0, none⟩) 2 2, .bool true]) fun w' hm hI => Kr.some [2, 2] (by unfold kTruth; rw [h2, h11, h12, h13, h14, h15, h16, h17] <;> rfl) (below_end (m := []) Holds.nil hI.now.1 hm (by kernel_rfl)) (fresh_of hI (g := g) (ids_get (j := 0) (o := .cells #[.int .i64 2, .int .i64 2] 3 (0, 0)) (by kernel_rfl)) (by simp [Mem.ids])) (hm.get 0) (by decide) (by decide)
                | false =>
                  refine Goes.run [0, 0, 0, 0, 0, 0, 0, 0] [(op == 17, false), (op == 16, false), (op == 15, false), (op == 14, false), (op == 13, false), (op == 12, false), (op == 11, false), (op == 2, false)] ⟨h17, h16, h15, h14, h13, h12, h11, h2, trivial⟩ ?_
                  exact Goes.ret [] (.tuple #[.slice none 0 0, .bool false]) fun w' hm hI => Kr.none (by unfold kTruth; rw [h2, h11, h12, h13, h14, h15, h16, h17] <;> rfl) (below_end (m := []) Holds.nil hI.now.1 hm (by kernel_rfl))
def kDay (op : Int) : Option (List Int) :=
  bif op == 3 || op == 5 then some [] else bif op == 18 || op == 19 then some [2, 0] else none
set_option maxRecDepth 100000 in
seal rn rnN Goes ans atEnd put0 putM opened putA0 oneSt st0 in
theorem kDay_any (op : Int) (w : World) : Calls Tryz.prog 235 #[.int .i64 op] w (Kr (kDay op) w) := by
  refine Goes.begin Tryz.func235 [] (fun _ => True) Holds.nil (by simp [Mem.ids]) (fun _ _ => trivial) ?_
  cases h3 : (op == 3) with
  | true =>
    refine Goes.run [1, 1] [(op == 3, true), (op == 3, true)] ⟨h3, h3, trivial⟩ ?_
    exact Goes.ret [] (.tuple #[.slice none 0 0, .bool true]) fun w' hm hI => Kr.nil (by unfold kDay; rw [h3] <;> rfl) (below_end (m := []) Holds.nil hI.now.1 hm (by kernel_rfl))
  | false =>
    cases h5 : (op == 5) with
    | true =>
      refine Goes.run [0, 1] [(op == 5, true), (op == 3, false)] ⟨h5, h3, trivial⟩ ?_
      exact Goes.ret [] (.tuple #[.slice none 0 0, .bool true]) fun w' hm hI => Kr.nil (by unfold kDay; rw [h3, h5] <;> rfl) (below_end (m := []) Holds.nil hI.now.1 hm (by kernel_rfl))
    | false =>
      cases h18 : (op == 18) with
      | true =>
        refine Goes.run1 [0, 0, 1, 1] [(op == 18, true), (op == 18, true), (op == 5, false), (op == 3, false)] ⟨h18, h18, h5, h3, trivial⟩ fun g => ?_
        exact Goes.ret [] (.tuple #[.slice (some ⟨g, 0, none⟩) 2 2, .bool true]) fun w' hm hI => Kr.some [2, 0] (by unfold kDay; rw [h3, h5, h18] <;> rfl) (below_end (m := []) Holds.nil hI.now.1 hm (by kernel_rfl)) (fresh_of hI (g := g) (ids_get (j := 0) (o := .cells #[.int .i64 2, .int .i64 0] 3 (0, 0)) (by kernel_rfl)) (by simp [Mem.ids])) (hm.get 0) (by decide) (by decide)
      | false =>
        cases h19 : (op == 19) with
        | true =>
          refine Goes.run1 [0, 0, 0, 1] [(op == 19, true), (op == 18, false), (op == 5, false), (op == 3, false)] ⟨h19, h18, h5, h3, trivial⟩ fun g => ?_
          exact Goes.ret [] (.tuple #[.slice (some ⟨g, 0, none⟩) 2 2, .bool true]) fun w' hm hI => Kr.some [2, 0] (by unfold kDay; rw [h3, h5, h18, h19] <;> rfl) (below_end (m := []) Holds.nil hI.now.1 hm (by kernel_rfl)) (fresh_of hI (g := g) (ids_get (j := 0) (o := .cells #[.int .i64 2, .int .i64 0] 3 (0, 0)) (by kernel_rfl)) (by simp [Mem.ids])) (hm.get 0) (by decide) (by decide)
        | false =>
          refine Goes.run [0, 0, 0, 0] [(op == 19, false), (op == 18, false), (op == 5, false), (op == 3, false)] ⟨h19, h18, h5, h3, trivial⟩ ?_
          exact Goes.ret [] (.tuple #[.slice none 0 0, .bool false]) fun w' hm hI => Kr.none (by unfold kDay; rw [h3, h5, h18, h19] <;> rfl) (below_end (m := []) Holds.nil hI.now.1 hm (by kernel_rfl))
def kContract (op : Int) : Option (List Int) :=
  bif op == 23 || op == 24 then some [] else bif op == 25 || op == 29 then some [4] else bif op == 26 then some [0, 4] else bif op == 27 || op == 31 then some [4, 4] else bif op == 28 then some [1, 4, 4] else bif op == 30 then some [1, 4] else none
set_option maxRecDepth 100000 in
seal rn rnN Goes ans atEnd put0 putM opened putA0 oneSt st0 in
theorem kContract_any (op : Int) (w : World) : Calls Tryz.prog 232 #[.int .i64 op] w (Kr (kContract op) w) := by
  refine Goes.begin Tryz.func232 [] (fun _ => True) Holds.nil (by simp [Mem.ids]) (fun _ _ => trivial) ?_
  cases h23 : (op == 23) with
  | true =>
    refine Goes.run [1, 1] [(op == 23, true), (op == 23, true)] ⟨h23, h23, trivial⟩ ?_
    exact Goes.ret [] (.tuple #[.slice none 0 0, .bool true]) fun w' hm hI => Kr.nil (by unfold kContract; rw [h23] <;> rfl) (below_end (m := []) Holds.nil hI.now.1 hm (by kernel_rfl))
  | false =>
    cases h24 : (op == 24) with
    | true =>
      refine Goes.run [0, 1] [(op == 24, true), (op == 23, false)] ⟨h24, h23, trivial⟩ ?_
      exact Goes.ret [] (.tuple #[.slice none 0 0, .bool true]) fun w' hm hI => Kr.nil (by unfold kContract; rw [h23, h24] <;> rfl) (below_end (m := []) Holds.nil hI.now.1 hm (by kernel_rfl))
    | false =>
      cases h25 : (op == 25) with
      | true =>
        refine Goes.run1 [0, 0, 1, 1] [(op == 25, true), (op == 25, true), (op == 24, false), (op == 23, false)] ⟨h25, h25, h24, h23, trivial⟩ fun g => ?_
        exact Goes.ret [] (.tuple #[.slice (some ⟨g, 0, none⟩) 1 1, .bool true]) fun w' hm hI => Kr.some [4] (by unfold kContract; rw [h23, h24, h25] <;> rfl) (below_end (m := []) Holds.nil hI.now.1 hm (by kernel_rfl)) (fresh_of hI (g := g) (ids_get (j := 0) (o := .cells #[.int .i64 4] 3 (0, 0)) (by kernel_rfl)) (by simp [Mem.ids])) (hm.get 0) (by decide) (by decide)
      | false =>
        cases h29 : (op == 29) with
        | true =>
          refine Goes.run1 [0, 0, 0, 1] [(op == 29, true), (op == 25, false), (op == 24, false), (op == 23, false)] ⟨h29, h25, h24, h23, trivial⟩ fun g => ?_
          exact Goes.ret [] (.tuple #[.slice (some ⟨g, 0, none⟩) 1 1, .bool true]) fun w' hm hI => Kr.some [4] (by unfold kContract; rw [h23, h24, h25, h29] <;> rfl) (below_end (m := []) Holds.nil hI.now.1 hm (by kernel_rfl)) (fresh_of hI (g := g) (ids_get (j := 0) (o := .cells #[.int .i64 4] 3 (0, 0)) (by kernel_rfl)) (by simp [Mem.ids])) (hm.get 0) (by decide) (by decide)
        | false =>
          cases h26 : (op == 26) with
          | true =>
            refine Goes.run1 [0, 0, 0, 0, 1] [(op == 26, true), (op == 29, false), (op == 25, false), (op == 24, false), (op == 23, false)] ⟨h26, h29, h25, h24, h23, trivial⟩ fun g => ?_
            exact Goes.ret [] (.tuple #[.slice (some ⟨g, 0, none⟩) 2 2, .bool true]) fun w' hm hI => Kr.some [0, 4] (by unfold kContract; rw [h23, h24, h25, h29, h26] <;> rfl) (below_end (m := []) Holds.nil hI.now.1 hm (by kernel_rfl)) (fresh_of hI (g := g) (ids_get (j := 0) (o := .cells #[.int .i64 0, .int .i64 4] 3 (0, 0)) (by kernel_rfl)) (by simp [Mem.ids])) (hm.get 0) (by decide) (by decide)
          | false =>
            cases h27 : (op == 27) with
            | true =>
              refine Goes.run1 [0, 0, 0, 0, 0, 1, 1] [(op == 27, true), (op == 27, true), (op == 26, false), (op == 29, false), (op == 25, false), (op == 24, false), (op == 23, false)] ⟨h27, h27, h26, h29, h25, h24, h23, trivial⟩ fun g => ?_
              exact Goes.ret [] (.tuple #[.slice (some ⟨g, 0, none⟩) 2 2, .bool true]) fun w' hm hI => Kr.some [4, 4] (by unfold kContract; rw [h23, h24, h25, h29, h26, h27] <;> rfl) (below_end (m := []) Holds.nil hI.now.1 hm (by kernel_rfl)) (fresh_of hI (g := g) (ids_get (j := 0) (o := .cells #[.int .i64 4, .int .i64 4] 3 (0, 0)) (by kernel_rfl)) (by simp [Mem.ids])) (hm.get 0) (by decide) (by decide)
            | false =>
              cases h31 : (op == 31) with
              | true =>
                refine Goes.run1 [0, 0, 0, 0, 0, 0, 1] [(op == 31, true), (op == 27, false), (op == 26, false), (op == 29, false), (op == 25, false), (op == 24, false), (op == 23, false)] ⟨h31, h27, h26, h29, h25, h24, h23, trivial⟩ fun g => ?_
                exact Goes.ret [] (.tuple #[.slice (some ⟨g, 0, none⟩) 2 2, .bool true]) fun w' hm hI => Kr.some [4, 4] (by unfold kContract; rw [h23, h24, h25, h29, h26, h27, h31] <;> rfl) (below_end (m := []) Holds.nil hI.now.1 hm (by kernel_rfl)) (fresh_of hI (g := g) (ids_get (j := 0) (o := .cells #[.int .i64 4, .int .i64 4] 3 (0, 0)) (by kernel_rfl)) (by simp [Mem.ids])) (hm.get 0) (by decide) (by decide)
              | false =>
                cases h28 : (op == 28) with
                | true =>
                  refine Goes.run1 [0, 0, 0, 0, 0, 0, 0, 1] [(op == 28, true), (op == 31, false), (op == 27, false), (op == 26, false), (op == 29, false), (op == 25, false), (op == 24, false), (op == 23, false)] ⟨h28, h31, h27, h26, h29, h25, h24, h23, trivial⟩ fun g => ?_
                  exact Goes.ret [] (.tuple #[.slice (some ⟨g, 0, none⟩) 3 3, .bool true]) fun w' hm hI => Kr.some [1, 4, 4] (by unfold kContract; rw [h23, h24, h25, h29, h26, h27, h31, h28] <;> rfl) (below_end (m := []) Holds.nil hI.now.1 hm (by kernel_rfl)) (fresh_of hI (g := g) (ids_get (j := 0) (o := .cells #[.int .i64 1, .int .i64 4, .int .i64 4] 3 (0, 0)) (by kernel_rfl)) (by simp [Mem.ids])) (hm.get 0) (by decide) (by decide)
                | false =>
                  cases h30 : (op == 30) with
                  | true =>
                    refine Goes.run1 [0, 0, 0, 0, 0, 0, 0, 0, 1] [(op == 30, true), (op == 28, false), (op == 31, false), (op == 27, false), (op == 26, false), (op == 29, false), (op == 25, false), (op == 24, false), (op == 23, false)] ⟨h30, h28, h31, h27, h26, h29, h25, h24, h23, trivial⟩ fun g => ?_
                    exact Goes.ret [] (.tuple #[.slice (some ⟨g, 0, none⟩) 2 2, .bool true]) fun w' hm hI => Kr.some [1, 4] (by unfold kContract; rw [h23, h24, h25, h29, h26, h27, h31, h28, h30] <;> rfl) (below_end (m := []) Holds.nil hI.now.1 hm (by kernel_rfl)) (fresh_of hI (g := g) (ids_get (j := 0) (o := .cells #[.int .i64 1, .int .i64 4] 3 (0, 0)) (by kernel_rfl)) (by simp [Mem.ids])) (hm.get 0) (by decide) (by decide)
                  | false =>
                    refine Goes.run [0, 0, 0, 0, 0, 0, 0, 0, 0] [(op == 30, false), (op == 28, false), (op == 31, false), (op == 27, false), (op == 26, false), (op == 29, false), (op == 25, false), (op == 24, false), (op == 23, false)] ⟨h30, h28, h31, h27, h26, h29, h25, h24, h23, trivial⟩ ?_
                    exact Goes.ret [] (.tuple #[.slice none 0 0, .bool false]) fun w' hm hI => Kr.none (by unfold kContract; rw [h23, h24, h25, h29, h26, h27, h31, h28, h30] <;> rfl) (below_end (m := []) Holds.nil hI.now.1 hm (by kernel_rfl))
theorem KidsAt.stay {w w' : World} {v : Value} {ks : List Int} (hB : Below w.heap.size w w') (h : KidsAt w w' v ks) : Stay [] w' (fun w2 => Below w.heap.size w w2 ∧ KidsAt w w2 v ks) := by
  intro w2 hc
  have hb : Below w'.heap.size w' w2 := hc.toB (fun x hx => by cases hx)
  refine ⟨hB.trans (hb.mono hB.size), ?_⟩
  rcases h with h | ⟨g, h1, h2, h3, h4⟩
  · exact .inl h
  · exact .inr ⟨g, h1, h2, (hb.block g (lt_of_get h3)).trans h3, h4⟩
def kOf (op want : Int) : Option (List Int) :=
  bif want == 4 then kContract op else bif op == 22 then some [1, want, want] else bif want == 0 then kNumber op else bif want == 1 then kTruth op else kDay op
set_option maxRecDepth 100000 in
seal rn rnN Goes ans atEnd put0 putM opened putA0 oneSt st0 in
theorem kOf_any (op want : Int) (w : World) : Calls Tryz.prog 201 #[.int .i64 op, .int .i64 want] w (Kr (kOf op want) w) := by
  refine Goes.begin Tryz.func201 [] (fun _ => True) Holds.nil (by simp [Mem.ids]) (fun _ _ => trivial) ?_
  cases h1 : (want == 4) with
  | true =>
    refine Goes.run [1] [(want == 4, true)] ⟨h1, trivial⟩ ?_
    refine Goes.call 232 #[.int .i64 op] fun w1 hm hn hI => (kContract_any op w1).mono fun e w2 hk => ?_
    have hk2 := hk.later (w := w) (hI.now.1.toB (fun x hx => by cases hx))
    obtain ⟨v, rfl, hB, hK⟩ := hk2
    refine ⟨_, fun w' => Below w.heap.size w w' ∧ KidsAt w w' v ((kContract op).getD []), [], rfl, Holds.nil, by simp [Mem.ids], KidsAt.stay hB hK, ?_⟩
    refine Goes.run [] [] trivial ?_
    exact Goes.ret [] (.tuple #[v, .bool (kContract op).isSome]) fun w' hm hI => ⟨v, by unfold kOf; rw [h1] <;> rfl, hI.now.1, by unfold kOf; rw [h1]; exact hI.now.2⟩
  | false =>
    cases h2 : (op == 22) with
    | true =>
      refine Goes.run1 [0, 1] [(op == 22, true), (want == 4, false)] ⟨h2, h1, trivial⟩ fun g => ?_
      exact Goes.ret [] (.tuple #[.slice (some ⟨g, 0, none⟩) 3 3, .bool true]) fun w' hm hI => Kr.some [1, want, want] (by unfold kOf; rw [h1, h2] <;> rfl) (below_end (m := []) Holds.nil hI.now.1 hm (by kernel_rfl)) (fresh_of hI (g := g) (ids_get (j := 0) (o := .cells #[.int .i64 1, .int .i64 want, .int .i64 want] 3 (0, 0)) (by kernel_rfl)) (by simp [Mem.ids])) (hm.get 0) (by simp) (by simp)
    | false =>
      cases h3 : (want == 0) with
      | true =>
        refine Goes.run [0, 0, 1] [(want == 0, true), (op == 22, false), (want == 4, false)] ⟨h3, h2, h1, trivial⟩ ?_
        refine Goes.call 233 #[.int .i64 op] fun w1 hm hn hI => (kNumber_any op w1).mono fun e w2 hk => ?_
        have hk2 := hk.later (w := w) (hI.now.1.toB (fun x hx => by cases hx))
        obtain ⟨v, rfl, hB, hK⟩ := hk2
        refine ⟨_, fun w' => Below w.heap.size w w' ∧ KidsAt w w' v ((kNumber op).getD []), [], rfl, Holds.nil, by simp [Mem.ids], KidsAt.stay hB hK, ?_⟩
        refine Goes.run [] [] trivial ?_
        exact Goes.ret [] (.tuple #[v, .bool (kNumber op).isSome]) fun w' hm hI => ⟨v, by unfold kOf; rw [h1, h2, h3] <;> rfl, hI.now.1, by unfold kOf; rw [h1, h2, h3]; exact hI.now.2⟩
      | false =>
        cases h4 : (want == 1) with
        | true =>
          refine Goes.run [0, 0, 0, 1] [(want == 1, true), (want == 0, false), (op == 22, false), (want == 4, false)] ⟨h4, h3, h2, h1, trivial⟩ ?_
          refine Goes.call 234 #[.int .i64 op] fun w1 hm hn hI => (kTruth_any op w1).mono fun e w2 hk => ?_
          have hk2 := hk.later (w := w) (hI.now.1.toB (fun x hx => by cases hx))
          obtain ⟨v, rfl, hB, hK⟩ := hk2
          refine ⟨_, fun w' => Below w.heap.size w w' ∧ KidsAt w w' v ((kTruth op).getD []), [], rfl, Holds.nil, by simp [Mem.ids], KidsAt.stay hB hK, ?_⟩
          refine Goes.run [] [] trivial ?_
          exact Goes.ret [] (.tuple #[v, .bool (kTruth op).isSome]) fun w' hm hI => ⟨v, by unfold kOf; rw [h1, h2, h3, h4] <;> rfl, hI.now.1, by unfold kOf; rw [h1, h2, h3, h4]; exact hI.now.2⟩
        | false =>
          refine Goes.run [0, 0, 0, 0] [(want == 1, false), (want == 0, false), (op == 22, false), (want == 4, false)] ⟨h4, h3, h2, h1, trivial⟩ ?_
          refine Goes.call 235 #[.int .i64 op] fun w1 hm hn hI => (kDay_any op w1).mono fun e w2 hk => ?_
          have hk2 := hk.later (w := w) (hI.now.1.toB (fun x hx => by cases hx))
          obtain ⟨v, rfl, hB, hK⟩ := hk2
          refine ⟨_, fun w' => Below w.heap.size w w' ∧ KidsAt w w' v ((kDay op).getD []), [], rfl, Holds.nil, by simp [Mem.ids], KidsAt.stay hB hK, ?_⟩
          refine Goes.run [] [] trivial ?_
          exact Goes.ret [] (.tuple #[v, .bool (kDay op).isSome]) fun w' hm hI => ⟨v, by unfold kOf; rw [h1, h2, h3, h4] <;> rfl, hI.now.1, by unfold kOf; rw [h1, h2, h3, h4]; exact hI.now.2⟩
end Go.Proofs.YtddbiiejilcbbaaGreatDoor
namespace Go.Proofs.YtddbiiejilcbbaaGreatDoor
open Go Go.RowKit

/-- A function that tells of which sort a byte is. -/
def Srt (f : FuncId) (C : Int → Bool) : Prop := ∀ (z : Int) (w : World), Calls Tryz.prog f #[.int .u8 z] w fun e w' => e = .returned (.bool (C z)) ∧ Below w.heap.size w w'
def cLet (z : Int) : Bool := decide (97 ≤ z) && decide (z ≤ 122)
def cCap (z : Int) : Bool := decide (65 ≤ z) && decide (z ≤ 90)
def cDig (z : Int) : Bool := decide (48 ≤ z) && decide (z ≤ 57)
def cIn (z : Int) : Bool := cLet z || cDig z || z == 95
set_option maxRecDepth 100000 in
seal rn Goes ans atEnd put0 putM opened putA0 oneSt st0 in
theorem cLet_any : Srt 270 cLet := by
  intro z w
  refine Goes.begin Tryz.func270 [] (fun _ => True) Holds.nil (by simp [Mem.ids]) (fun _ _ => trivial) ?_
  cases h : decide ((97 : Int) ≤ z) with
  | true =>
    refine Goes.run [1] [(decide ((97 : Int) ≤ z), true)] ⟨h, trivial⟩ ?_
    exact Goes.ret [] (.bool (decide (z ≤ 122))) fun w' hm hI => ⟨by simp only [cLet, h, Bool.true_and], bel0 hI⟩
  | false =>
    refine Goes.run [0] [(decide ((97 : Int) ≤ z), false)] ⟨h, trivial⟩ ?_
    exact Goes.ret [] (.bool false) fun w' hm hI => ⟨by simp only [cLet, h, Bool.false_and], bel0 hI⟩
set_option maxRecDepth 100000 in
seal rn Goes ans atEnd put0 putM opened putA0 oneSt st0 in
theorem cCap_any : Srt 273 cCap := by
  intro z w
  refine Goes.begin Tryz.func273 [] (fun _ => True) Holds.nil (by simp [Mem.ids]) (fun _ _ => trivial) ?_
  cases h : decide ((65 : Int) ≤ z) with
  | true =>
    refine Goes.run [1] [(decide ((65 : Int) ≤ z), true)] ⟨h, trivial⟩ ?_
    exact Goes.ret [] (.bool (decide (z ≤ 90))) fun w' hm hI => ⟨by simp only [cCap, h, Bool.true_and], bel0 hI⟩
  | false =>
    refine Goes.run [0] [(decide ((65 : Int) ≤ z), false)] ⟨h, trivial⟩ ?_
    exact Goes.ret [] (.bool false) fun w' hm hI => ⟨by simp only [cCap, h, Bool.false_and], bel0 hI⟩
theorem idxB {l : List UInt8} {i : Nat} {c : UInt8} (h : l[i]? = some c) (w : World) : (Instr.index 9 (strV l) (.int .i64 i)).run Tryz.prog w = .ok (.int .u8 (c.toNat : Nat)) w := by
  have hlt := (List.getElem?_eq_some_iff.1 h).1
  have h1 : (i : Int) < l.length := by omega
  have h2 : (⟨l.toArray⟩ : ByteArray).size = l.length := by simp [ByteArray.size]
  have h3 : (⟨l.toArray⟩ : ByteArray)[i]'(by rw [h2]; exact hlt) = c := by
    have := (List.getElem?_eq_some_iff.1 h).2
    simp [ByteArray.getElem_eq_getElem_data, this]
  unfold strV
  go_simp
set_option maxRecDepth 100000 in
seal rn Goes ans atEnd put0 putM opened putA0 oneSt st0 in
theorem cIn_any : Srt 272 cIn := by
  intro z w
  refine Goes.begin Tryz.func272 [] (fun _ => True) Holds.nil (by simp [Mem.ids]) (fun _ _ => trivial) ?_
  refine Goes.run [] [] trivial ?_
  refine Goes.call0 270 #[.int .u8 z] (.bool (cLet z)) (fun w' _ _ => cLet_any z w') ?_
  cases h : cLet z with
  | true =>
    refine Goes.run [1, 1] [(true, true), (true, true)] ⟨rfl, rfl, trivial⟩ ?_
    exact Goes.ret [] (.bool true) fun w' hm hI => ⟨by simp only [cIn, h, Bool.true_or], bel0 hI⟩
  | false =>
    cases h2 : decide ((48 : Int) ≤ z) with
    | false =>
      refine Goes.run [0, 0, 0] [(false, false), (decide ((48 : Int) ≤ z), false), (false, false)] ⟨rfl, h2, rfl, trivial⟩ ?_
      exact Goes.ret [] (.bool (z == 95)) fun w' hm hI => ⟨by simp only [cIn, cDig, h, h2, Bool.false_and, Bool.false_or], bel0 hI⟩
    | true =>
      cases h3 : decide (z ≤ (57 : Int)) with
      | true =>
        refine Goes.run [0, 1, 1] [(decide (z ≤ (57 : Int)), true), (decide ((48 : Int) ≤ z), true), (false, false)] ⟨h3, h2, rfl, trivial⟩ ?_
        exact Goes.ret [] (.bool true) fun w' hm hI => ⟨by simp only [cIn, cDig, h, h2, h3, Bool.true_and, Bool.false_or, Bool.true_or], bel0 hI⟩
      | false =>
        refine Goes.run [0, 1, 0] [(decide (z ≤ (57 : Int)), false), (decide ((48 : Int) ≤ z), true), (false, false)] ⟨h3, h2, rfl, trivial⟩ ?_
        exact Goes.ret [] (.bool (z == 95)) fun w' hm hI => ⟨by simp only [cIn, cDig, h, h2, h3, Bool.true_and, Bool.false_or], bel0 hI⟩
/-- Are all its bytes of a sort? -/
def allB (C : Int → Bool) (l : List UInt8) : Bool := l.all fun x => C (x.toNat : Nat)
set_option maxRecDepth 100000 in
seal rn Goes ans atEnd put0 putM opened putA0 oneSt st0 in
theorem areAll_any {f : FuncId} {C : Int → Bool} (hs : Srt f C) (hf : okf Tryz.prog f = true) (l : List UInt8) (w : World) (hl : l.length ≤ 9223372036854775807) : Calls Tryz.prog 271 #[strV l, .func (.func f) #[] #[]] w fun e w' => e = .returned (.bool (allB C l)) ∧ Below w.heap.size w w' := by
  refine Goes.begin Tryz.func271 [] (fun _ => True) Holds.nil (by simp [Mem.ids]) (fun _ _ => trivial) ?_
  refine Goes.run [] [] trivial ?_
  refine Goes.loop0 (α := Nat) 18 (fun j => [(0, strV l), (1, .func (.func f) #[] #[]), (7, .int .i64 l.length), (8, .int .i64 j)]) [] (fun j => allB C (l.drop j) = allB C l ∧ j ≤ l.length) (fun j => l.length - j) 0 ⟨rfl, Nat.zero_le _⟩ ?_
  rintro j J ⟨hj, hj2⟩ back
  cases hlt : decide ((j : Int) < (l.length : Int)) with
  | false =>
    refine Goes.run [0, 0] [(decide ((j : Int) < (l.length : Int)), false)] ⟨hlt, trivial⟩ ?_
    exact Goes.ret [] (.bool true) fun w' hm hI => ⟨by rw [← hj, List.drop_of_length_le (by have := of_decide_eq_false hlt; omega)]; rfl, bel0 hI⟩
  | true =>
    have hjl : j < l.length := by have := of_decide_eq_true hlt; omega
    obtain ⟨x, hx⟩ : ∃ x, l[j]? = some x := ⟨l[j], by simp⟩
    have hd : l.drop j = x :: l.drop (j + 1) := by
      obtain ⟨h1, h2⟩ := List.getElem?_eq_some_iff.1 hx
      rw [List.drop_eq_getElem_cons h1, h2]
    refine Goes.run [0, 1] [(decide ((j : Int) < (l.length : Int)), true)] ⟨hlt, trivial⟩ ?_
    refine Goes.val (Instr.index 9 (strV l) (.int .i64 j)) (.int .u8 (x.toNat : Nat)) (fun w' _ _ => idxB hx w') ?_
    refine Goes.call0 f #[.int .u8 (x.toNat : Nat)] (.bool (C (x.toNat : Nat))) (fun w' _ _ => hs _ w') (hf := hf) ?_
    cases hc : C (x.toNat : Nat) with
    | false =>
      refine Goes.run [1] [(true, true)] ⟨rfl, trivial⟩ ?_
      exact Goes.ret [] (.bool false) fun w' hm hI => ⟨by rw [← hj, hd]; simp [allB, hc], bel0 hI⟩
    | true =>
      refine Goes.run [0] [(false, false)] ⟨rfl, trivial⟩ ?_
      refine Goes.slot 8 (.int .i64 (j + 1 : Nat)) (u := .int .i64 (IntKind.i64.wrap ((j : Int) + 1))) (congrArg _ (wrap_nat (by omega))) ?_
      exact back (j + 1) _ ⟨by rw [← hj, hd]; simp [allB, hc], by omega⟩ (by omega) (by kernel_rfl) (by kernel_rfl) (by kernel_rfl)
def curP (l : List UInt8) : Bool := ((l.length : Int) == 3) && allB cCap l
set_option maxRecDepth 100000 in
seal rn Goes ans atEnd put0 putM opened putA0 oneSt st0 in
theorem isCur_any (l : List UInt8) (w : World) (hl : l.length ≤ 9223372036854775807) : Calls Tryz.prog 259 #[strV l] w fun e w' => e = .returned (.bool (curP l)) ∧ Below w.heap.size w w' := by
  refine Goes.begin Tryz.func259 [] (fun _ => True) Holds.nil (by simp [Mem.ids]) (fun _ _ => trivial) ?_
  cases h : ((l.length : Int) == 3) with
  | true =>
    refine Goes.run [1] [((l.length : Int) == 3, true)] ⟨h, trivial⟩ ?_
    refine Goes.call0 271 #[strV l, .func (.func 273) #[] #[]] (.bool (allB cCap l)) (fun w' _ _ => areAll_any cCap_any (by kernel_rfl) l w' hl) ?_
    refine Goes.run [] [] trivial ?_
    exact Goes.ret [] (.bool (allB cCap l)) fun w' hm hI => ⟨by simp only [curP, h, Bool.true_and], bel0 hI⟩
  | false =>
    refine Goes.run [0] [((l.length : Int) == 3, false)] ⟨h, trivial⟩ ?_
    exact Goes.ret [] (.bool false) fun w' hm hI => ⟨by simp only [curP, h, Bool.false_and], bel0 hI⟩
def namP (l : List UInt8) : Bool := decide ((0 : Int) < (l.length : Int)) && decide ((l.length : Int) ≤ 24) && cLet ((l.getD 0 0).toNat : Nat) && allB cIn l
set_option maxRecDepth 100000 in
seal rn Goes ans atEnd put0 putM opened putA0 oneSt st0 in
theorem isNam_any (l : List UInt8) (w : World) (hl : l.length ≤ 9223372036854775807) : Calls Tryz.prog 258 #[strV l] w fun e w' => e = .returned (.bool (namP l)) ∧ Below w.heap.size w w' := by
  refine Goes.begin Tryz.func258 [] (fun _ => True) Holds.nil (by simp [Mem.ids]) (fun _ _ => trivial) ?_
  cases h0 : decide ((0 : Int) < (l.length : Int)) with
  | false =>
    refine Goes.run [0, 0, 0] [(false, false), (false, false), (decide ((0 : Int) < (l.length : Int)), false)] ⟨rfl, rfl, h0, trivial⟩ ?_
    exact Goes.ret [] (.bool false) fun w' hm hI => ⟨by simp only [namP, h0, Bool.false_and], bel0 hI⟩
  | true =>
    cases h1 : decide ((l.length : Int) ≤ 24) with
    | false =>
      refine Goes.run [1, 0, 0] [(false, false), (decide ((l.length : Int) ≤ 24), false), (decide ((0 : Int) < (l.length : Int)), true)] ⟨rfl, h1, h0, trivial⟩ ?_
      exact Goes.ret [] (.bool false) fun w' hm hI => ⟨by simp only [namP, h0, h1, Bool.true_and, Bool.false_and], bel0 hI⟩
    | true =>
      have hp : 0 < l.length := by have := of_decide_eq_true h0; omega
      obtain ⟨x, hx⟩ : ∃ x, l[0]? = some x := ⟨l[0], by simp⟩
      have hx' : l.getD 0 0 = x := by simp [List.getD, hx]
      refine Goes.run [1, 1] [(decide ((l.length : Int) ≤ 24), true), (decide ((0 : Int) < (l.length : Int)), true)] ⟨h1, h0, trivial⟩ ?_
      refine Goes.val (Instr.index 9 (strV l) (.int .i64 (0 : Nat))) (.int .u8 (x.toNat : Nat)) (fun w' _ _ => idxB hx w') ?_
      refine Goes.call0 270 #[.int .u8 (x.toNat : Nat)] (.bool (cLet (x.toNat : Nat))) (fun w' _ _ => cLet_any _ w') ?_
      cases h2 : cLet (x.toNat : Nat) with
      | false =>
        refine Goes.run [0] [(false, false)] ⟨rfl, trivial⟩ ?_
        exact Goes.ret [] (.bool false) fun w' hm hI => ⟨by simp only [namP, h0, h1, hx', h2, Bool.true_and, Bool.false_and], bel0 hI⟩
      | true =>
        refine Goes.run [1] [(true, true)] ⟨rfl, trivial⟩ ?_
        refine Goes.call0 271 #[strV l, .func (.func 272) #[] #[]] (.bool (allB cIn l)) (fun w' _ _ => areAll_any cIn_any (by kernel_rfl) l w' hl) ?_
        refine Goes.run [] [] trivial ?_
        exact Goes.ret [] (.bool (allB cIn l)) fun w' hm hI => ⟨by simp only [namP, h0, h1, hx', h2, Bool.true_and], bel0 hI⟩
end Go.Proofs.YtddbiiejilcbbaaGreatDoor
namespace Go.Proofs.YtddbiiejilcbbaaGreatDoor
open Go Go.RowKit

def inW (n a b : Int) : Bool := decide (a ≤ n) && decide (n ≤ b)
set_option maxRecDepth 100000 in
seal rn rnS Goes ans atEnd put0 putM opened putA0 oneSt st0 in
theorem inW_any (n a b : Int) (w : World) : Calls Tryz.prog 256 #[.int .i64 n, .int .i64 a, .int .i64 b] w fun e w' => e = .returned (.bool (inW n a b)) ∧ Below w.heap.size w w' := by
  refine Goes.begin Tryz.func256 [] (fun _ => True) Holds.nil (by simp [Mem.ids]) (fun _ _ => trivial) ?_
  cases h : decide (a ≤ n) with
  | true =>
    refine Goes.run [1] [(decide (a ≤ n), true)] ⟨h, trivial⟩ ?_
    exact Goes.ret [] (.bool (decide (n ≤ b))) fun w' hm hI => ⟨by simp only [inW, h, Bool.true_and], bel0 hI⟩
  | false =>
    refine Goes.run [0] [(decide (a ≤ n), false)] ⟨h, trivial⟩ ?_
    exact Goes.ret [] (.bool false) fun w' hm hI => ⟨by simp only [inW, h, Bool.false_and], bel0 hI⟩
section
variable (op k : Int) (t : List UInt8) (a : Option Addr) (N c : Nat) (w : World)
def lookP (op : Int) : Bool := op == 4 || op == 5
set_option maxRecDepth 100000 in
seal rn rnS Goes ans atEnd put0 putM opened putA0 oneSt st0 in
theorem look_any : Calls Tryz.prog 122 #[cv op k t (.slice a N c)] w fun e w' => e = .returned (.bool (lookP op)) ∧ Below w.heap.size w w' := by
  refine Goes.begin Tryz.func122 [] (fun _ => True) Holds.nil (by simp [Mem.ids]) (fun _ _ => trivial) ?_
  cases h : (op == 4) with
  | true =>
    refine Goes.run1 [0, 1] [(op == 4, true)] ⟨h, trivial⟩ fun g => ?_
    exact Goes.ret [] (.bool true) fun w' hm hI => ⟨by simp only [lookP, h, Bool.true_or], bel0 hI⟩
  | false =>
    refine Goes.run1 [0, 0, 0] [(op == 4, false)] ⟨h, trivial⟩ fun g => ?_
    exact Goes.ret [] (.bool (op == 5)) fun w' hm hI => ⟨by simp only [lookP, h, Bool.false_or], bel0 hI⟩
def dateP (op : Int) : Bool := op == 29 || op == 30 || op == 31
set_option maxRecDepth 100000 in
seal rn rnS Goes ans atEnd put0 putM opened putA0 oneSt st0 in
theorem dated_any : Calls Tryz.prog 257 #[cv op k t (.slice a N c)] w fun e w' => e = .returned (.bool (dateP op)) ∧ Below w.heap.size w w' := by
  refine Goes.begin Tryz.func257 [] (fun _ => True) Holds.nil (by simp [Mem.ids]) (fun _ _ => trivial) ?_
  cases h : (op == 29) with
  | true =>
    refine Goes.run1 [0, 1, 1] [(true, true), (op == 29, true)] ⟨rfl, h, trivial⟩ fun g => ?_
    exact Goes.ret [] (.bool true) fun w' hm hI => ⟨by simp only [dateP, h, Bool.true_or], bel0 hI⟩
  | false =>
    cases h2 : (op == 30) with
    | true =>
      refine Goes.run1 [0, 0, 0, 1] [(op == 30, true), (op == 29, false)] ⟨h2, h, trivial⟩ fun g => ?_
      exact Goes.ret [] (.bool true) fun w' hm hI => ⟨by simp only [dateP, h, h2, Bool.false_or, Bool.true_or], bel0 hI⟩
    | false =>
      refine Goes.run1 [0, 0, 0, 0, 0] [(op == 30, false), (op == 29, false)] ⟨h2, h, trivial⟩ fun g => ?_
      exact Goes.ret [] (.bool (op == 31)) fun w' hm hI => ⟨by simp only [dateP, h, h2, Bool.false_or], bel0 hI⟩
def ownN (op k : Int) : Bool :=
  bif op == 1 then inW k (-1000000000000000) 1000000000000000 else bif op == 2 then inW k 0 1 else bif op == 3 || dateP op then inW k 0 73048 else bif lookP op then inW k (-3660) 3660 else k == 0
set_option maxRecDepth 100000 in
seal rn rnS Goes ans atEnd put0 putM opened putA0 oneSt st0 in
theorem ownN_any : Calls Tryz.prog 236 #[cv op k t (.slice a N c)] w fun e w' => e = .returned (.bool (ownN op k)) ∧ Below w.heap.size w w' := by
  refine Goes.begin Tryz.func236 [] (fun _ => True) Holds.nil (by simp [Mem.ids]) (fun _ _ => trivial) ?_
  cases h1 : (op == 1) with
  | true =>
    refine Goes.run1 [0, 1, 0] [(op == 1, true)] ⟨h1, trivial⟩ fun g => ?_
    refine Goes.call0 256 #[.int .i64 k, .int .i64 (-1000000000000000), .int .i64 1000000000000000] (.bool (inW k (-1000000000000000) 1000000000000000)) (fun w' _ _ => inW_any k (-1000000000000000) 1000000000000000 w') ?_
    refine Goes.run [] [] trivial ?_
    exact Goes.ret [] (.bool (inW k (-1000000000000000) 1000000000000000)) fun w' hm hI => ⟨by unfold ownN; rw [h1] <;> rfl, bel0 hI⟩
  | false =>
    cases h2 : (op == 2) with
    | true =>
      refine Goes.run1 [0, 0, 0, 1, 0] [(op == 2, true), (op == 1, false)] ⟨h2, h1, trivial⟩ fun g => ?_
      refine Goes.call0 256 #[.int .i64 k, .int .i64 (0), .int .i64 1] (.bool (inW k (0) 1)) (fun w' _ _ => inW_any k (0) 1 w') ?_
      refine Goes.run [] [] trivial ?_
      exact Goes.ret [] (.bool (inW k (0) 1)) fun w' hm hI => ⟨by unfold ownN; rw [h1, h2] <;> rfl, bel0 hI⟩
    | false =>
      cases h3 : (op == 3) with
      | true =>
        refine Goes.run1 [0, 0, 0, 0, 0, 1, 1, 0] [(true, true), (op == 3, true), (op == 2, false), (op == 1, false)] ⟨rfl, h3, h2, h1, trivial⟩ fun g => ?_
        refine Goes.call0 256 #[.int .i64 k, .int .i64 (0), .int .i64 73048] (.bool (inW k (0) 73048)) (fun w' _ _ => inW_any k (0) 73048 w') ?_
        refine Goes.run [] [] trivial ?_
        exact Goes.ret [] (.bool (inW k (0) 73048)) fun w' hm hI => ⟨by unfold ownN; rw [h1, h2, h3] <;> rfl, bel0 hI⟩
      | false =>
        refine Goes.run1 [0, 0, 0, 0, 0, 0, 0] [(op == 3, false), (op == 2, false), (op == 1, false)] ⟨h3, h2, h1, trivial⟩ fun g => ?_
        refine Goes.call0 257 #[cv op k t (.slice a N c)] (.bool (dateP op)) (fun w' _ _ => dated_any op k t a N c w') ?_
        cases h4 : dateP op with
        | true =>
          refine Goes.run [1, 0] [(true, true)] ⟨rfl, trivial⟩ ?_
          refine Goes.call0 256 #[.int .i64 k, .int .i64 (0), .int .i64 73048] (.bool (inW k (0) 73048)) (fun w' _ _ => inW_any k (0) 73048 w') ?_
          refine Goes.run [] [] trivial ?_
          exact Goes.ret [] (.bool (inW k (0) 73048)) fun w' hm hI => ⟨by unfold ownN; rw [h1, h2, h3, h4] <;> rfl, bel0 hI⟩
        | false =>
          refine Goes.run [0, 0] [(false, false)] ⟨rfl, trivial⟩ ?_
          refine Goes.call0 122 #[cv op k t (.slice a N c)] (.bool (lookP op)) (fun w' _ _ => look_any op k t a N c w') ?_
          cases h5 : lookP op with
          | true =>
            refine Goes.run [1, 0] [(true, true)] ⟨rfl, trivial⟩ ?_
            refine Goes.call0 256 #[.int .i64 k, .int .i64 (-3660), .int .i64 3660] (.bool (inW k (-3660) 3660)) (fun w' _ _ => inW_any k (-3660) 3660 w') ?_
            refine Goes.run [] [] trivial ?_
            exact Goes.ret [] (.bool (inW k (-3660) 3660)) fun w' hm hI => ⟨by unfold ownN; rw [h1, h2, h3, h4, h5] <;> rfl, bel0 hI⟩
          | false =>
            refine Goes.run [0, 0] [(false, false)] ⟨rfl, trivial⟩ ?_
            exact Goes.ret [] (.bool (k == 0)) fun w' hm hI => ⟨by unfold ownN; rw [h1, h2, h3, h4, h5] <;> rfl, bel0 hI⟩
theorem eqE (l : List UInt8) (w : World) : (do eqGuard .eql 9 (.tmp 17) (.const (strV [])) (strV l) (strV []); binOp .eql 9 (strV l) (strV []) : Sem Value).run Tryz.prog w = .ok (.bool (decide (l = []))) w := by
  have : (eqGuard .eql 9 (.tmp 17) (.const (strV [])) (strV l) (strV [])).run Tryz.prog w = .ok () w := by
    unfold eqGuard strV; go_simp
  simp only [Sem.run_bind, this, Result.andThen_ok, eqlS l [] _ rfl w]
def ownS (op : Int) (t : List UInt8) : Bool := bif op == 4 || op == 31 then namP t else bif op == 24 then curP t else decide (t = [])
set_option maxRecDepth 100000 in
seal rn rnS Goes ans atEnd put0 putM opened putA0 oneSt st0 in
theorem ownS_any (ht : t.length ≤ 9223372036854775807) : Calls Tryz.prog 237 #[cv op k t (.slice a N c)] w fun e w' => e = .returned (.bool (ownS op t)) ∧ Below w.heap.size w w' := by
  refine Goes.begin Tryz.func237 [] (fun _ => True) Holds.nil (by simp [Mem.ids]) (fun _ _ => trivial) ?_
  cases h1 : (op == 4) with
  | true =>
    refine Goes.run1 [0, 1, 1, 0] [(op == 4, true), (op == 4, true)] ⟨h1, h1, trivial⟩ fun g => ?_
    refine Goes.call0 258 #[strV t] (.bool (namP t)) (fun w' _ _ => isNam_any t w' ht) ?_
    refine Goes.run [] [] trivial ?_
    exact Goes.ret [] (.bool (namP t)) fun w' hm hI => ⟨by unfold ownS; rw [h1] <;> rfl, bel0 hI⟩
  | false =>
    cases h2 : (op == 31) with
    | true =>
      refine Goes.run1 [0, 0, 1, 0] [(op == 31, true), (op == 4, false)] ⟨h2, h1, trivial⟩ fun g => ?_
      refine Goes.call0 258 #[strV t] (.bool (namP t)) (fun w' _ _ => isNam_any t w' ht) ?_
      refine Goes.run [] [] trivial ?_
      exact Goes.ret [] (.bool (namP t)) fun w' hm hI => ⟨by unfold ownS; rw [h1, h2] <;> rfl, bel0 hI⟩
    | false =>
      cases h3 : (op == 24) with
      | true =>
        refine Goes.run1 [0, 0, 0, 1, 0] [(op == 24, true), (op == 31, false), (op == 4, false)] ⟨h3, h2, h1, trivial⟩ fun g => ?_
        refine Goes.call0 259 #[strV t] (.bool (curP t)) (fun w' _ _ => isCur_any t w' ht) ?_
        refine Goes.run [] [] trivial ?_
        exact Goes.ret [] (.bool (curP t)) fun w' hm hI => ⟨by unfold ownS; rw [h1, h2, h3] <;> rfl, bel0 hI⟩
      | false =>
        refine Goes.upto1 18 [0, 0, 0, 0, 0] [(op == 24, false), (op == 31, false), (op == 4, false)] ⟨h3, h2, h1, trivial⟩ fun g => ?_
        refine Goes.val (do eqGuard .eql 9 (.tmp 17) (.const (strV [])) (strV t) (strV []); binOp .eql 9 (strV t) (strV [])) (.bool (decide (t = []))) (fun w' _ _ => eqE t w') ?_
        refine Goes.run [] [] trivial ?_
        exact Goes.ret [] (.bool (decide (t = []))) fun w' hm hI => ⟨by unfold ownS; rw [h1, h2, h3] <;> rfl, bel0 hI⟩
def ownC (op k : Int) (t : List UInt8) : Bool := ownN op k && ownS op t
set_option maxRecDepth 100000 in
seal rn rnS Goes ans atEnd put0 putM opened putA0 oneSt st0 in
theorem ownC_any (ht : t.length ≤ 9223372036854775807) : Calls Tryz.prog 202 #[cv op k t (.slice a N c)] w fun e w' => e = .returned (.bool (ownC op k t)) ∧ Below w.heap.size w w' := by
  refine Goes.begin Tryz.func202 [] (fun _ => True) Holds.nil (by simp [Mem.ids]) (fun _ _ => trivial) ?_
  refine Goes.run1 [0] [] trivial fun g => ?_
  refine Goes.call0 236 #[cv op k t (.slice a N c)] (.bool (ownN op k)) (fun w' _ _ => ownN_any op k t a N c w') ?_
  cases h : ownN op k with
  | true =>
    refine Goes.run [1, 0] [(true, true)] ⟨rfl, trivial⟩ ?_
    refine Goes.call0 237 #[cv op k t (.slice a N c)] (.bool (ownS op t)) (fun w' _ _ => ownS_any op k t a N c w' ht) ?_
    refine Goes.run [] [] trivial ?_
    exact Goes.ret [] (.bool (ownS op t)) fun w' hm hI => ⟨by simp only [ownC, h, Bool.true_and], bel0 hI⟩
  | false =>
    refine Goes.run [0] [(false, false)] ⟨rfl, trivial⟩ ?_
    exact Goes.ret [] (.bool false) fun w' hm hI => ⟨by simp only [ownC, h, Bool.false_and], bel0 hI⟩
end
end Go.Proofs.YtddbiiejilcbbaaGreatDoor
namespace Go.Proofs.YtddbiiejilcbbaaGreatDoor
open Go Go.RowKit

set_option maxRecDepth 100000 in
seal rn Goes ans atEnd put0 putM opened putA0 oneSt st0 in
theorem rsmall_any : Srt 157 cLet := by
  intro z w
  refine Goes.begin Tryz.func157 [] (fun _ => True) Holds.nil (by simp [Mem.ids]) (fun _ _ => trivial) ?_
  cases h : decide ((97 : Int) ≤ z) with
  | true =>
    refine Goes.run [1] [(decide ((97 : Int) ≤ z), true)] ⟨h, trivial⟩ ?_
    exact Goes.ret [] (.bool (decide (z ≤ 122))) fun w' hm hI => ⟨by simp only [cLet, h, Bool.true_and], bel0 hI⟩
  | false =>
    refine Goes.run [0] [(decide ((97 : Int) ≤ z), false)] ⟨h, trivial⟩ ?_
    exact Goes.ret [] (.bool false) fun w' hm hI => ⟨by simp only [cLet, h, Bool.false_and], bel0 hI⟩
set_option maxRecDepth 100000 in
seal rn Goes ans atEnd put0 putM opened putA0 oneSt st0 in
theorem rdigit_any : Srt 199 cDig := by
  intro z w
  refine Goes.begin Tryz.func199 [] (fun _ => True) Holds.nil (by simp [Mem.ids]) (fun _ _ => trivial) ?_
  cases h : decide ((48 : Int) ≤ z) with
  | true =>
    refine Goes.run [1] [(decide ((48 : Int) ≤ z), true)] ⟨h, trivial⟩ ?_
    exact Goes.ret [] (.bool (decide (z ≤ 57))) fun w' hm hI => ⟨by simp only [cDig, h, Bool.true_and], bel0 hI⟩
  | false =>
    refine Goes.run [0] [(decide ((48 : Int) ≤ z), false)] ⟨h, trivial⟩ ?_
    exact Goes.ret [] (.bool false) fun w' hm hI => ⟨by simp only [cDig, h, Bool.false_and], bel0 hI⟩
set_option maxRecDepth 100000 in
seal rn Goes ans atEnd put0 putM opened putA0 oneSt st0 in
theorem rinner_any : Srt 158 cIn := by
  intro z w
  refine Goes.begin Tryz.func158 [] (fun _ => True) Holds.nil (by simp [Mem.ids]) (fun _ _ => trivial) ?_
  refine Goes.run [] [] trivial ?_
  refine Goes.call0 157 #[.int .u8 z] (.bool (cLet z)) (fun w' _ _ => rsmall_any z w') ?_
  cases h : cLet z with
  | true =>
    refine Goes.run [1, 1] [(true, true), (true, true)] ⟨rfl, rfl, trivial⟩ ?_
    exact Goes.ret [] (.bool true) fun w' hm hI => ⟨by simp only [cIn, h, Bool.true_or], bel0 hI⟩
  | false =>
    refine Goes.run [0] [(false, false)] ⟨rfl, trivial⟩ ?_
    refine Goes.call0 199 #[.int .u8 z] (.bool (cDig z)) (fun w' _ _ => rdigit_any z w') ?_
    cases h2 : cDig z with
    | true =>
      refine Goes.run [1] [(true, true)] ⟨rfl, trivial⟩ ?_
      exact Goes.ret [] (.bool true) fun w' hm hI => ⟨by simp only [cIn, h, h2, Bool.true_or, Bool.false_or], bel0 hI⟩
    | false =>
      refine Goes.run [0] [(false, false)] ⟨rfl, trivial⟩ ?_
      exact Goes.ret [] (.bool (z == 95)) fun w' hm hI => ⟨by simp only [cIn, h, h2, Bool.false_or], bel0 hI⟩
def tkIn (l : List UInt8) : Nat := (l.takeWhile fun y => cIn (y.toNat : Nat)).length
def spanL : List UInt8 → Nat
  | [] => 0
  | x :: r => bif cLet (x.toNat : Nat) then 1 + tkIn r else 0
set_option maxRecDepth 100000 in
seal rn Goes ans atEnd put0 putM opened putA0 oneSt st0 in
theorem rspan_any (l : List UInt8) (w : World) (hl : l.length ≤ 9223372036854775807) : Calls Tryz.prog 118 #[strV l, .int .i64 0] w fun e w' => e = .returned (.int .i64 (spanL l : Nat)) ∧ Below w.heap.size w w' := by
  refine Goes.begin Tryz.func118 [] (fun _ => True) Holds.nil (by simp [Mem.ids]) (fun _ _ => trivial) ?_
  cases h0 : decide ((0 : Int) ≥ (l.length : Int)) with
  | true =>
    obtain rfl : l = [] := List.eq_nil_of_length_eq_zero (by have := of_decide_eq_true h0; omega)
    refine Goes.run [1] [(true, true)] ⟨rfl, trivial⟩ ?_
    exact Goes.ret [] (.int .i64 0) fun w' hm hI => ⟨rfl, bel0 hI⟩
  | false =>
    have hp : 0 < l.length := by have := of_decide_eq_false h0; omega
    obtain ⟨x, hx⟩ : ∃ x, l[0]? = some x := ⟨l[0], by simp⟩
    have hs : spanL l = bif cLet (x.toNat : Nat) then 1 + tkIn (l.drop 1) else 0 := by
      cases l with
      | nil => cases hx
      | cons y r => cases hx; rfl
    refine Goes.run [0] [(decide ((0 : Int) ≥ (l.length : Int)), false)] ⟨h0, trivial⟩ ?_
    refine Goes.val (Instr.index 9 (strV l) (.int .i64 (0 : Nat))) (.int .u8 (x.toNat : Nat)) (fun w' _ _ => idxB hx w') ?_
    refine Goes.call0 157 #[.int .u8 (x.toNat : Nat)] (.bool (cLet (x.toNat : Nat))) (fun w' _ _ => rsmall_any _ w') ?_
    cases h : cLet (x.toNat : Nat) with
    | false =>
      refine Goes.run [1] [(true, true)] ⟨rfl, trivial⟩ ?_
      exact Goes.ret [] (.int .i64 0) fun w' hm hI => ⟨by rw [hs, h]; rfl, bel0 hI⟩
    | true =>
      refine Goes.run [0] [(false, false)] ⟨rfl, trivial⟩ ?_
      rw [hs, h, cond_true]
      refine Goes.loop0 (α := Nat) 34 (fun j => [(0, strV l), (1, .int .i64 0), (6, .int .i64 j)]) [] (fun j => 1 + tkIn (l.drop 1) = j + tkIn (l.drop j) ∧ j ≤ l.length) (fun j => l.length - j) 1 ⟨rfl, by omega⟩ ?_
      rintro j J ⟨hj, hj2⟩ back
      have hz : IntKind.i64.wrap (0 + (j : Int)) = (j : Int) := by rw [IntWalk.i64_in _ ⟨by omega, by omega⟩]; omega
      cases hlt : decide ((j : Int) < (l.length : Int)) with
      | false =>
        refine Goes.run [0, 0, 0] [(false, false), (decide (IntKind.i64.wrap (0 + (j : Int)) < (l.length : Int)), false)] ⟨rfl, by rw [hz]; exact hlt, trivial⟩ ?_
        exact Goes.ret [] (.int .i64 j) fun w' hm hI => ⟨by rw [hj, List.drop_of_length_le (by have := of_decide_eq_false hlt; omega)]; rfl, bel0 hI⟩
      | true =>
        have hjl : j < l.length := by have := of_decide_eq_true hlt; omega
        obtain ⟨y, hy⟩ : ∃ y, l[j]? = some y := ⟨l[j], by simp⟩
        have hd : l.drop j = y :: l.drop (j + 1) := by
          obtain ⟨h1, h2⟩ := List.getElem?_eq_some_iff.1 hy
          rw [List.drop_eq_getElem_cons h1, h2]
        refine Goes.run [0, 1] [(decide (IntKind.i64.wrap (0 + (j : Int)) < (l.length : Int)), true)] ⟨by rw [hz]; exact hlt, trivial⟩ ?_
        refine Goes.val (Instr.index 9 (strV l) (.int .i64 (IntKind.i64.wrap (0 + (j : Int))))) (.int .u8 (y.toNat : Nat)) (fun w' _ _ => by rw [hz]; exact idxB hy w') ?_
        refine Goes.call0 158 #[.int .u8 (y.toNat : Nat)] (.bool (cIn (y.toNat : Nat))) (fun w' _ _ => rinner_any _ w') ?_
        cases hc : cIn (y.toNat : Nat) with
        | false =>
          refine Goes.run [0] [(false, false)] ⟨rfl, trivial⟩ ?_
          exact Goes.ret [] (.int .i64 j) fun w' hm hI => ⟨by rw [hj, hd]; simp [tkIn, hc], bel0 hI⟩
        | true =>
          refine Goes.run [1] [(true, true)] ⟨rfl, trivial⟩ ?_
          refine Goes.slot 6 (.int .i64 (j + 1 : Nat)) (u := .int .i64 (IntKind.i64.wrap ((j : Int) + 1))) (congrArg _ (wrap_nat (by omega))) ?_
          exact back (j + 1) _ ⟨by rw [hj, hd]; simp only [tkIn, List.takeWhile_cons, hc, if_true, List.length_cons]; omega, by omega⟩ (by omega) (by kernel_rfl) (by kernel_rfl) (by kernel_rfl)
theorem tk_all (l : List UInt8) : (tkIn l == l.length) = allB cIn l := by
  unfold tkIn allB
  induction l with
  | nil => rfl
  | cons x r ih =>
    cases h : cIn (x.toNat : Nat) with
    | true => simp only [List.takeWhile_cons, List.all_cons, h, if_true, List.length_cons, Bool.true_and, ← ih]; rw [Bool.eq_iff_iff, beq_iff_eq, beq_iff_eq]; omega
    | false => simp [h]
theorem span_name (l : List UInt8) (h0 : 0 < l.length) : (((spanL l : Nat) : Int) == (l.length : Int)) = (cLet ((l.getD 0 0).toNat : Nat) && allB cIn l) := by
  cases l with
  | nil => simp at h0
  | cons x r =>
    have e : (((spanL (x :: r) : Nat) : Int) == ((x :: r).length : Int)) = (spanL (x :: r) == (x :: r).length) := by
      rw [Bool.eq_iff_iff, beq_iff_eq, beq_iff_eq]; omega
    rw [e]
    simp only [spanL, List.getD_cons_zero]
    cases h : cLet (x.toNat : Nat) with
    | false => simp
    | true =>
      have h2 : cIn (x.toNat : Nat) = true := by simp only [cIn, h, Bool.true_or]
      simp only [cond_true, Bool.true_and, List.length_cons]
      have := tk_all r
      unfold allB at this ⊢
      rw [List.all_cons, h2, Bool.true_and, ← this, Bool.eq_iff_iff, beq_iff_eq, beq_iff_eq]
      omega
set_option maxRecDepth 100000 in
seal rn Goes ans atEnd put0 putM opened putA0 oneSt st0 in
theorem rname_any (l : List UInt8) (w : World) (hl : l.length ≤ 9223372036854775807) : Calls Tryz.prog 71 #[strV l] w fun e w' => e = .returned (.bool (namP l)) ∧ Below w.heap.size w w' := by
  refine Goes.begin Tryz.func71 [] (fun _ => True) Holds.nil (by simp [Mem.ids]) (fun _ _ => trivial) ?_
  cases h0 : decide ((0 : Int) < (l.length : Int)) with
  | false =>
    refine Goes.run [0, 0] [(false, false), (decide ((0 : Int) < (l.length : Int)), false)] ⟨rfl, h0, trivial⟩ ?_
    exact Goes.ret [] (.bool false) fun w' hm hI => ⟨by simp only [namP, h0, Bool.false_and], bel0 hI⟩
  | true =>
    cases h1 : decide ((l.length : Int) ≤ 24) with
    | false =>
      refine Goes.run [1, 0] [(decide ((l.length : Int) ≤ 24), false), (decide ((0 : Int) < (l.length : Int)), true)] ⟨h1, h0, trivial⟩ ?_
      exact Goes.ret [] (.bool false) fun w' hm hI => ⟨by simp only [namP, h0, h1, Bool.true_and, Bool.false_and], bel0 hI⟩
    | true =>
      refine Goes.run [1, 1] [(decide ((l.length : Int) ≤ 24), true), (decide ((0 : Int) < (l.length : Int)), true)] ⟨h1, h0, trivial⟩ ?_
      refine Goes.call0 118 #[strV l, .int .i64 0] (.int .i64 (spanL l : Nat)) (fun w' _ _ => rspan_any l w' hl) ?_
      refine Goes.run [] [] trivial ?_
      exact Goes.ret [] (.bool (((spanL l : Nat) : Int) == (l.length : Int))) fun w' hm hI => ⟨by rw [span_name l (by have := of_decide_eq_true h0; omega)]; simp only [namP, h0, h1, Bool.true_and], bel0 hI⟩
set_option maxRecDepth 100000 in
seal rn Goes ans atEnd put0 putM opened putA0 oneSt st0 in
theorem rcur_any (l : List UInt8) (w : World) : Calls Tryz.prog 134 #[strV l] w fun e w' => e = .returned (.bool (curP l)) ∧ Below w.heap.size w w' := by
  refine Goes.begin Tryz.func134 [] (fun _ => True) Holds.nil (by simp [Mem.ids]) (fun _ _ => trivial) ?_
  cases h : ((l.length : Int) == 3) with
  | false =>
    refine Goes.run [1] [((l.length : Int) != 3, true)] ⟨by simp only [bne, h, Bool.not_false], trivial⟩ ?_
    exact Goes.ret [] (.bool false) fun w' hm hI => ⟨by simp only [curP, h, Bool.false_and], bel0 hI⟩
  | true =>
    have h3 : l.length = 3 := by have := eq_of_beq h; omega
    refine Goes.run [0] [((l.length : Int) != 3, false)] ⟨by simp only [bne, h, Bool.not_true], trivial⟩ ?_
    have hs : curP l = allB cCap l := by simp only [curP, h, Bool.true_and]
    rw [hs]
    refine Goes.loop0 (α := Nat) 21 (fun j => [(0, strV l), (3, .int .i64 j)]) [] (fun j => allB cCap (l.drop j) = allB cCap l ∧ j ≤ 3) (fun j => 3 - j) 0 ⟨rfl, Nat.zero_le _⟩ ?_
    rintro j J ⟨hj, hj2⟩ back
    cases hlt : decide ((j : Int) < (3 : Int)) with
    | false =>
      refine Goes.run [0, 0] [(decide ((j : Int) < (3 : Int)), false)] ⟨hlt, trivial⟩ ?_
      exact Goes.ret [] (.bool true) fun w' hm hI => ⟨by rw [← hj, List.drop_of_length_le (by have := of_decide_eq_false hlt; omega)]; rfl, bel0 hI⟩
    | true =>
      have hjl : j < 3 := by have := of_decide_eq_true hlt; omega
      obtain ⟨y, hy⟩ : ∃ y, l[j]? = some y := ⟨l[j]'(by omega), by simp⟩
      have hd : l.drop j = y :: l.drop (j + 1) := by
        obtain ⟨h1, h2⟩ := List.getElem?_eq_some_iff.1 hy
        rw [List.drop_eq_getElem_cons h1, h2]
      refine Goes.run [0, 1] [(decide ((j : Int) < (3 : Int)), true)] ⟨hlt, trivial⟩ ?_
      refine Goes.val (Instr.index 9 (strV l) (.int .i64 j)) (.int .u8 (y.toNat : Nat)) (fun w' _ _ => idxB hy w') ?_
      cases hc1 : decide (((y.toNat : Nat) : Int) < 65) with
      | true =>
        refine Goes.run [1, 1] [(true, true), (decide (((y.toNat : Nat) : Int) < 65), true)] ⟨rfl, hc1, trivial⟩ ?_
        exact Goes.ret [] (.bool false) fun w' hm hI => ⟨by
          have h2 : cCap (y.toNat : Nat) = false := by unfold cCap; have := of_decide_eq_true hc1; rw [decide_eq_false (by omega)]; rfl
          rw [← hj, hd]; simp [allB, h2], bel0 hI⟩
      | false =>
        refine Goes.run [0] [(decide (((y.toNat : Nat) : Int) < 65), false)] ⟨hc1, trivial⟩ ?_
        refine Goes.val (Instr.index 9 (strV l) (.int .i64 j)) (.int .u8 (y.toNat : Nat)) (fun w' _ _ => idxB hy w') ?_
        have h65 := of_decide_eq_false hc1
        cases hc2 : decide (((y.toNat : Nat) : Int) > 90) with
        | true =>
          refine Goes.run [1] [(decide (((y.toNat : Nat) : Int) > 90), true)] ⟨hc2, trivial⟩ ?_
          exact Goes.ret [] (.bool false) fun w' hm hI => ⟨by
            have h2 : cCap (y.toNat : Nat) = false := by unfold cCap; have := of_decide_eq_true hc2; rw [decide_eq_false (p := _ ≤ (90 : Int)) (by omega), Bool.and_false]
            rw [← hj, hd]; simp [allB, h2], bel0 hI⟩
        | false =>
          refine Goes.run [0] [(decide (((y.toNat : Nat) : Int) > 90), false)] ⟨hc2, trivial⟩ ?_
          refine Goes.slot 3 (.int .i64 (j + 1 : Nat)) (u := .int .i64 (IntKind.i64.wrap ((j : Int) + 1))) (congrArg _ (wrap_nat (by omega))) ?_
          have h2 : cCap (y.toNat : Nat) = true := by unfold cCap; have := of_decide_eq_false hc2; rw [decide_eq_true (by omega), decide_eq_true (by omega)]; rfl
          exact back (j + 1) _ ⟨by rw [← hj, hd]; simp [allB, h2], by omega⟩ (by omega) (by kernel_rfl) (by kernel_rfl) (by kernel_rfl)
end Go.Proofs.YtddbiiejilcbbaaGreatDoor
namespace Go.Proofs.YtddbiiejilcbbaaGreatDoor
open Go Go.RowKit

def fldP (op k : Int) (t : List UInt8) : Bool :=
  bif op == 4 then namP t && inW k (-3660) 3660 else bif op == 31 then namP t && inW k 0 73048 else bif op == 24 then curP t && k == 0 else
  bif !decide (t = []) then false else bif op == 1 then inW k (-1000000000000000) 1000000000000000 else bif op == 2 then k == 0 || k == 1 else bif op == 3 || op == 29 || op == 30 then inW k 0 73048 else bif op == 5 then inW k (-3660) 3660 else k == 0
/-- Both ask the same. -/
theorem fld_own (op k : Int) (t : List UInt8) : fldP op k t = ownC op k t := by
  unfold fldP ownC ownN ownS dateP lookP
  by_cases e4 : op = 4
  · subst e4; simp [Bool.and_comm]
  by_cases e31 : op = 31
  · subst e31; simp [Bool.and_comm]
  by_cases e24 : op = 24
  · subst e24; simp [Bool.and_comm]
  have h4 : (op == 4) = false := by simpa using e4
  have h31 : (op == 31) = false := by simpa using e31
  have h24 : (op == 24) = false := by simpa using e24
  simp only [h4, h31, h24, cond_false, Bool.or_false, Bool.false_or]
  cases hs : decide (t = []) with
  | false => simp
  | true =>
    simp only [Bool.not_true, cond_false, Bool.and_true]
    by_cases e2 : op = 2
    · subst e2
      have : (k == 0 || k == 1) = inW k 0 1 := by
        unfold inW
        rw [Bool.eq_iff_iff]
        simp only [Bool.or_eq_true, beq_iff_eq, Bool.and_eq_true, decide_eq_true_eq]
        omega
      simpa using this
    have h2 : (op == 2) = false := by simpa using e2
    simp only [h2, cond_false, Bool.or_assoc]
end Go.Proofs.YtddbiiejilcbbaaGreatDoor
namespace Go.Proofs.YtddbiiejilcbbaaGreatDoor
open Go Go.RowKit

def rkP (op : Int) : Option (List Int × Int) :=
  bif op == 1 || op == 4 then some ([], 0) else bif op == 2 then some ([], 1) else bif op == 3 || op == 5 then some ([], 2) else bif op == 6 then some ([0], 0) else bif op == 7 || op == 8 || op == 9 || op == 10 then some ([0, 0], 0) else bif op == 11 || op == 12 || op == 13 then some ([0, 0], 1) else bif op == 14 then some ([1], 1) else bif op == 15 || op == 16 then some ([1, 1], 1) else bif op == 17 then some ([2, 2], 1) else bif op == 18 || op == 19 then some ([2, 0], 2) else bif op == 20 || op == 21 then some ([2, 2], 0) else bif op == 23 || op == 24 then some ([], 4) else bif op == 25 || op == 29 then some ([4], 4) else bif op == 26 then some ([0, 4], 4) else bif op == 27 || op == 31 then some ([4, 4], 4) else bif op == 28 then some ([1, 4, 4], 4) else bif op == 30 then some ([1, 4], 4) else none
end Go.Proofs.YtddbiiejilcbbaaGreatDoor
namespace Go.Proofs.YtddbiiejilcbbaaGreatDoor
open Go Go.RowKit

theorem rev_any {w : World} {g : Nat} {ks : List Int} (c : Nat) (hg : w.heap[g]? = some (.cells (ks.map (Value.int .i64)).toArray 3 (0, 0))) (hl : ks.length ≤ 3) :
    Calls Tryz.prog 203 #[.slice (some ⟨g, 0, none⟩) ks.length c] w fun e w' => e = .returned (.tuple #[]) ∧ Ch [g] w w' ∧ w'.heap[g]? = some (.cells (ks.reverse.map (Value.int .i64)).toArray 3 (0, 0)) := by
  have hH : Sort.Holds (Value.int .i64) w g 0 ks.toArray := by
    intro j hj
    have hj' : j < ks.length := by simpa using hj
    unfold World.cell? World.frozen?
    simp only [hg]
    simp [hj']
  refine (Tryz.slices_Reverse_int g 0 c ks w hH (by omega)).mono fun e w' ⟨he, n, hw⟩ => ⟨he, ?_⟩
  subst hw
  refine ⟨⟨rfl, rfl, rfl, by simp [Sort.ahead], fun i hi hx => ?_⟩, ?_⟩
  · have hne : g ≠ i := fun e => hx (by simp [e])
    show (w.heap.modify g _)[i]? = _
    rw [Array.getElem?_modify, if_neg hne]
  · show (w.heap.modify g _)[g]? = _
    rw [Array.getElem?_modify, if_pos rfl, hg]
    simp only [Option.map_some, Option.some.injEq]
    clear hg hH
    match ks, hl with
    | [], _ => rfl
    | [_], _ => rfl
    | [_, _], _ => rfl
    | [_, _, _], _ => rfl
    | _ :: _ :: _ :: _ :: _, h => simp at h
end Go.Proofs.YtddbiiejilcbbaaGreatDoor
