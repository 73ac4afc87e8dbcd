/- Regions that draw their order: where one of two operations may come up, each is walked. -/
import Derived.Test.YtfblnjidghijaaaEAny
namespace Go.Proofs.Ytfblnjidghijaaa
open Go Go.RowKit

section
variable {P : Program} {F : Exit → Act → World → Prop} {Inv : World → Prop} {s : St}
/-- What may come up. -/
def anyReady (s : St) : List Nat :=
  match s.todo with
  | .any ops _ (_ + 1) l :: _ => Region.ready .any ops l
  | _ => []
/-- What must be shown where the operation i comes up. -/
def TookS (P : Program) (F : Exit → Act → World → Prop) (Inv : World → Prop) (i : Nat) (s : St) : Prop := ∀ ops m0 n l k, s.todo = .any ops m0 (n + 1) l :: k → Took P F Inv ops m0 n l k s.tmps s.mem i
theorem Goes.each (is : List Nat) (hne : is ≠ []) (h : ∀ i ∈ is, TookS P F Inv i s) (hr : anyReady s = is := by kernel_rfl) : Goes P F Inv s := by
  unfold anyReady at hr
  split at hr
  · rename_i ops m0 n l k ht
    intro w h1 h2 h3
    rw [ht]
    intro h0
    subst hr
    exact wpAnyH_all rfl hne fun i hi => h i hi ops m0 n l k ht w h1 h2 h3 h0
  · exact absurd hr.symm hne
theorem Goes.lone1 (i : Nat) (h : TookS P F Inv i s) (hr : anyReady s = [i] := by kernel_rfl) : Goes P F Inv s := Goes.each [i] (by simp) (fun j hj => by rw [List.mem_singleton] at hj; rw [hj]; exact h) hr
theorem Goes.two (i j : Nat) (h : TookS P F Inv i s) (h' : TookS P F Inv j s) (hr : anyReady s = [i, j] := by kernel_rfl) : Goes P F Inv s := Goes.each [i, j] (by simp) (fun a ha => by
  rcases List.mem_cons.1 ha with e | e
  · rw [e]; exact h
  · rw [List.mem_singleton] at e; rw [e]; exact h') hr
/-- It is wanted. -/
def anyWant (i : Nat) (s : St) : Bool :=
  match s.todo with
  | .any ops _ _ _ :: _ => (match ops[i]? with | some o => Region.wanted o (yielded ops s.tmps.toArray) | none => false)
  | _ => false
theorem holds_none {m0 : Mem} (h : m0 = []) (w : World) : Holds m0 w := by subst h; intro j b o hj; simp at hj
/-- It runs over the known blocks. -/
theorem TookS.run (i j : Nat) (h : Goes P F Inv (oneSt P i j s)) (h0 : anyM s = [] := by kernel_rfl) (hw : anyWant i s = true := by kernel_rfl) (hN : ((oneA P i j s).map fun q => q.2.map (·.1)) = (oneA P i j s).map fun q => q.2.map (·.2) := by kernel_rfl) (hk : (oneA P i j s).isSome = true := by kernel_rfl) : TookS P F Inv i s := by
  intro ops m0 n l k ht w h1 h2 h3 _
  unfold oneSt at h
  cases hq : Go.Proofs.Ytfblnjidghijaaa.oneA P i j s with
  | none => rw [hq] at hk; cases hk
  | some q =>
    rw [hq] at h hN
    simp only [Option.map_some, Option.some.injEq] at h hN
    obtain ⟨st, on⟩ := q
    unfold Go.Proofs.Ytfblnjidghijaaa.oneA at hq
    unfold anyWant at hw
    unfold anyM at h0
    rw [ht] at hw h0
    simp only at hw h0
    cases ho : ops[i]? with
    | none => rw [ho] at hw; simp at hw
    | some o =>
      have hoo : anyOp i s = some o := by unfold anyOp; rw [ht]; exact ho
      rw [ho] at hw
      simp only at hw
      rw [hoo] at hq
      simp only at hq
      unfold wpOp
      rw [ho]
      simp only [hw, if_true]
      unfold Oper.wp
      rw [evalL_eq]
      split at hq
      · rename_i v m on' d hs
        cases hq
        obtain ⟨w', D⟩ := srun_did P _ _ _ _ _ _ _ w hs (all_of_map hN) h1 h2 (by simp)
        have h9 := h w'
        unfold putA at h9
        rw [ht] at h9
        simp only [ho] at h9
        rw [D.run, Oper.upon_value, putL_eq]
        exact .inl ⟨holds_none h0 w', h9 D.holds D.nd (h3.ch D.ch D.new) (holds_none h0 w')⟩
      · rename_i m on' d hs
        cases hq
        obtain ⟨w', D⟩ := srun_did P _ _ _ _ _ _ _ w hs (all_of_map hN) h1 h2 (by simp)
        have h9 := h w'
        unfold putA at h9
        rw [ht] at h9
        simp only [ho] at h9
        rw [D.run, Oper.upon_skip, putL_eq]
        exact .inl ⟨holds_none h0 w', h9 D.holds D.nd (h3.ch D.ch D.new) (holds_none h0 w')⟩
      · cases hq
/-- It changes the world in a way that is known otherwise. -/
theorem TookS.eff (i : Nat) (I : Sem Value) (hr : ∀ w, Holds s.mem w → s.mem.ids.Nodup → Stay s.mem.ids w Inv → ∃ v w' Inv' m, I.run P w = .ok v w' ∧ Holds m w' ∧ m.ids.Nodup ∧ Stay m.ids w' Inv' ∧ Goes P F Inv' (putA i s v m)) (h0 : anyM s = [] := by kernel_rfl) (hw : anyWant i s = true := by kernel_rfl) (ho' : (anyOp i s).map (execOp (evalL s.tmps)) = some (vS I) := by kernel_rfl) : TookS P F Inv i s := by
  intro ops m0 n l k ht w h1 h2 h3 _
  unfold anyWant at hw
  unfold anyM at h0
  unfold anyOp at ho'
  rw [ht] at hw h0 ho'
  simp only at hw h0 ho'
  cases ho : ops[i]? with
  | none => rw [ho] at hw; simp at hw
  | some o =>
    rw [ho] at hw ho'
    simp only [Option.map_some, Option.some.injEq] at hw ho'
    obtain ⟨v, w', Inv', m, he, h4, h5, h6, h7⟩ := hr w h1 h2 h3
    have h9 := h7 w'
    unfold putA at h9
    rw [ht] at h9
    simp only [ho] at h9
    unfold wpOp
    rw [ho]
    simp only [hw, if_true]
    unfold Oper.wp
    rw [evalL_eq, ho', vS_run he, Oper.upon_value, putL_eq]
    exact .inl ⟨holds_none h0 w', h9 h4 h5 h6 (holds_none h0 w')⟩
/-- It is a call. -/
theorem TookS.call (i : Nat) (f : FuncId) (args : Array Value) (hr : ∀ w, Holds s.mem w → s.mem.ids.Nodup → Stay s.mem.ids w Inv → Calls P f args w fun e w' => ∃ v Inv' m, e = .returned v ∧ Holds m w' ∧ m.ids.Nodup ∧ Stay m.ids w' Inv' ∧ Goes P F Inv' (putA i s v m)) (h0 : anyM s = [] := by kernel_rfl) (hw : anyWant i s = true := by kernel_rfl) (ha : askA i s = some (f, args) := by kernel_rfl) (hf : okf P f = true := by kernel_rfl) : TookS P F Inv i s := by
  intro ops m0 n l k ht w h1 h2 h3 _
  unfold anyWant at hw
  unfold anyM at h0
  unfold askA anyOp at ha
  rw [ht] at hw h0 ha
  simp only at hw h0 ha
  cases ho : ops[i]? with
  | none => rw [ho] at hw; simp at hw
  | some o =>
    rw [ho] at hw ha
    simp only at hw ha
    unfold wpOp
    rw [ho]
    simp only [hw, if_true]
    unfold Oper.wp
    rw [evalL_eq]
    have he : (execOp (evalL s.tmps) o).run P w = .ok (.enter f args) w := by
      split at ha
      · rename_i x xs ats hop
        split at ha
        · rename_i g first captured hv
          cases ha
          have e : execOp (evalL s.tmps) o = callFunc f (first ++ xs.map (evalL s.tmps) ++ captured) := by
            unfold execOp; rw [hop]; simp only [resolve, hv]; rfl
          rw [e, okf_run hf]
        · cases ha
      · cases ha
    rw [he, Oper.upon_enter]
    refine .inl ?_
    refine (hr w h1 h2 h3).mono fun e w' ⟨v, Inv', m, he, h5, h6, h7, h8⟩ => ?_
    subst he
    have h9 := h8 w'
    unfold putA at h9
    rw [ht] at h9
    simp only [ho] at h9
    show Holds m0 w' ∧ _
    rw [putL_eq]
    exact ⟨holds_none h0 w', h9 h5 h6 h7 (holds_none h0 w')⟩
/-- A call that changes the known block j (b), and tells a fact. -/
theorem TookS.call1 (i j b : Nat) (f : FuncId) (args : Array Value)
    (hr : ∀ w, Holds s.mem w → s.mem.ids.Nodup → Stay s.mem.ids w Inv → Calls P f args w fun e w' => ∃ v o Fact, e = .returned v ∧ Ch [b] w w' ∧ w'.heap[b]? = some o ∧ Stay s.mem.ids w' Fact ∧ Goes P F (fun w => Inv w ∧ Fact w) (putA i s v (s.mem.set j (b, o))))
    (h0 : anyM s = [] := by kernel_rfl) (hw : anyWant i s = true := by kernel_rfl) (ha : askA i s = some (f, args) := by kernel_rfl) (hf : okf P f = true := by kernel_rfl) (hj : (s.mem[j]?).map (·.1) = some b := by kernel_rfl) : TookS P F Inv i s := by
  obtain ⟨o0, hb⟩ : ∃ o0, s.mem[j]? = some (b, o0) := by
    cases hq : s.mem[j]? with
    | none => rw [hq] at hj; cases hj
    | some q => rw [hq] at hj; obtain ⟨b', o0⟩ := q; cases hj; exact ⟨o0, rfl⟩
  refine TookS.call i f args (fun w hm hn hI => (hr w hm hn hI).mono fun e w' ⟨v, o, Fact, he, hc, hbo, hS, hG⟩ => ⟨v, _, s.mem.set j (b, o), he, ?_, ?_, ?_, hG⟩) h0 hw ha hf
  · exact holds_set hm hn hb hbo (fun i hi hne => hc.block i hi (by simpa using hne))
  · rw [ids_set hb]; exact hn
  · rw [ids_set hb]
    exact (hI.ch ⟨hc.os, hc.tape, hc.output, hc.size, fun i hi hx => hc.block i hi (fun hm => hx (by rw [List.mem_singleton] at hm; rw [hm]; exact ids_get hb))⟩ (fun x hx => .inl hx)).and hS
end
end Go.Proofs.Ytfblnjidghijaaa
