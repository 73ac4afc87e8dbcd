/- texts put together: CRefM NCell CNcs NEq ENew ESto EAnyM VSame CFrame -/
import Derived.Test.YtekgfdbeinacjaaDoorAG2
import Derived.Laws.StructEq
import Derived.Test.YtekgfdbeinacjaaDoorRows
import Derived.ProofKit
import Derived.LaidMore
import Derived.OpenShut
import Derived.ShutString
import Derived.ChangeMaps5
import Derived.Stop.Joined
import Derived.Stop.LaidErr
import Derived.Lib.LaidTab
import Derived.Deep.DeepHandedRow
import Derived.Deep.Slices
import Derived.Deep.Matrix
namespace Go.Proofs.YtekgfdbeinacjaaDoor
open Go Go.RowKit

def TP (c : Co) : Prop := ∀ d : Int, (∀ z, tyOk z → (okT z d c = true ↔ typF d c = (z, true))) ∧ ((typF d c).2 = true → tyOk (typF d c).1)
theorem tys_ok : ∀ (kids : List Co), (∀ c ∈ kids, TP c) → ∀ (d : Int) (l : List Int), (tysF d kids = some l ↔ l.length = kids.length ∧ (∀ z ∈ l, tyOk z) ∧ okTs d l kids = true)
  | [], _, d, l => by
    rw [tysF]
    unfold okTs
    constructor
    · rintro ⟨⟩; simp
    · rintro ⟨h, -⟩; rw [List.eq_nil_of_length_eq_zero h]
  | c :: r, ih, d, l => by
    obtain ⟨h1, h2⟩ := ih c (by simp) d
    have h3 := tys_ok r (fun c hc => ih c (by simp [hc])) d
    rw [tysF]
    cases hc : typF d c with
    | mk z b =>
    rw [hc] at h2
    cases b with
    | false =>
      simp only [cond_false]
      constructor
      · intro h; cases h
      · rintro ⟨e, ht, ho⟩
        cases l with
        | nil => cases e
        | cons x xs =>
          unfold okTs at ho
          simp only [Bool.and_eq_true] at ho
          have := (h1 x (ht x (by simp))).1 ho.1
          rw [hc] at this
          cases this
    | true =>
      simp only [cond_true]
      have hz := h2 rfl
      cases hr : tysF d r with
      | none =>
        constructor
        · intro h; cases h
        · rintro ⟨e, ht, ho⟩
          cases l with
          | nil => cases e
          | cons x xs =>
            unfold okTs at ho
            simp only [Bool.and_eq_true] at ho
            have := (h3 xs).2 ⟨by simpa using e, fun z hz => ht z (by simp [hz]), ho.2⟩
            rw [hr] at this
            cases this
      | some q =>
        have hq := (h3 q).1 hr
        constructor
        · intro h
          simp only [Option.map_some, Option.some.injEq] at h
          subst h
          refine ⟨by simp [hq.1], fun y hy => ?_, ?_⟩
          · rcases List.mem_cons.1 hy with e | e
            · rw [e]; exact hz
            · exact hq.2.1 y e
          · unfold okTs
            show (okT z d c && okTs d q r) = true
            rw [(h1 z hz).2 hc, hq.2.2]
            rfl
        · rintro ⟨e, ht, ho⟩
          cases l with
          | nil => cases e
          | cons x xs =>
            unfold okTs at ho
            simp only [Bool.and_eq_true] at ho
            have e1 := (h1 x (ht x (by simp))).1 ho.1
            rw [hc] at e1
            cases e1
            have e2 := (h3 xs).2 ⟨by simpa using e, fun z hz => ht z (by simp [hz]), ho.2⟩
            rw [hr] at e2
            cases e2
            rfl
theorem tp_all (c : Co) : TP c := by
  induction c using Co.ind with
  | h op k t kids ih =>
    intro d
    have hk := tys_ok kids ih (d + 1)
    refine ⟨fun z hz => ?_, fun h => ?_⟩
    · rw [typ_parts]
      constructor
      · intro ho
        unfold okT at ho
        cases hko : kOf op z with
        | none => rw [hko] at ho; cases ho
        | some ks =>
          rw [hko] at ho
          simp only [Bool.and_eq_true, beq_iff_eq, decide_eq_true_eq] at ho
          obtain ⟨⟨⟨h1, h2⟩, h3⟩, h4⟩ := ho
          have hl3 := kOf_len op z ks hko
          refine ⟨h2, h3, by omega, ks, (hk ks).2 ⟨by omega, kOf_ty hz ks hko, h4⟩, ?_⟩
          unfold endF
          cases h22 : (op == 22) with
          | true =>
            have e := eq_of_beq h22
            subst e
            rw [k22] at hko
            cases hz4 : (z == 4) with
            | true => rw [hz4] at hko; cases hko
            | false =>
              rw [hz4] at hko
              cases hko
              have : (z != 4) = true := by simp only [bne, hz4, Bool.not_false]
              simp only [cond_true, lastZ, ifF, beq_self_eq_true, Bool.true_and, this]
          | false =>
            rw [rk_op hz h22] at hko
            cases hr : rkP op with
            | none => rw [hr] at hko; cases hko
            | some q =>
              obtain ⟨ks', t'⟩ := q
              rw [hr] at hko
              simp only at hko
              cases ht' : (t' == z) with
              | false => rw [ht'] at hko; cases hko
              | true =>
                rw [ht'] at hko
                cases hko
                have := eq_of_beq ht'
                subst this
                simp
      · rintro ⟨h1, h2, h3, l, hl, he⟩
        obtain ⟨e1, e2, e3⟩ := (hk l).1 hl
        have fin : kOf op z = some l → okT z d (.mk op k t kids) = true := by
          intro hko
          unfold okT
          rw [hko]
          simp only [h1, e3, Bool.and_true, Bool.and_eq_true, beq_iff_eq, decide_eq_true_eq]
          exact ⟨by omega, h2⟩
        unfold endF at he
        cases h22 : (op == 22) with
        | true =>
          rw [h22, cond_true] at he
          simp only [Prod.mk.injEq] at he
          obtain ⟨y, rfl, hy⟩ := if_shape he.2
          have hyz : y = z := he.1
          subst hyz
          have e := eq_of_beq h22
          subst e
          refine fin ?_
          rw [k22]
          have : (y == 4) = false := by simpa using hy
          rw [this]
          rfl
        | false =>
          rw [h22, cond_false] at he
          refine fin ?_
          rw [rk_op hz h22]
          cases hr : rkP op with
          | none => rw [hr] at he; cases he
          | some q =>
            obtain ⟨ks', t'⟩ := q
            rw [hr] at he
            simp only at he
            cases hlen : ((ks'.length : Int) != (l.length : Int)) with
            | true => rw [hlen] at he; cases he
            | false =>
              rw [hlen, cond_false] at he
              cases hq : (ks' == l) with
              | false => rw [hq] at he; cases he
              | true =>
                rw [hq] at he
                cases he
                have := eq_of_beq hq
                subst this
                simp
    · cases hc : typF d (.mk op k t kids) with
      | mk z b =>
      rw [hc] at h
      have hb : b = true := h
      subst hb
      obtain ⟨-, -, -, l, hl, he⟩ := typ_parts.1 hc
      obtain ⟨e1, e2, e3⟩ := (hk l).1 hl
      unfold endF at he
      cases h22 : (op == 22) with
      | true =>
        rw [h22, cond_true] at he
        simp only [Prod.mk.injEq] at he
        obtain ⟨y, rfl, hy⟩ := if_shape he.2
        have hyz : y = z := he.1
        subst hyz
        exact e2 y (by simp)
      | false =>
        rw [h22, cond_false] at he
        cases hr : rkP op with
        | none => rw [hr] at he; cases he
        | some q =>
          obtain ⟨ks', t'⟩ := q
          rw [hr] at he
          simp only at he
          cases hlen : ((ks'.length : Int) != (l.length : Int)) with
          | true => rw [hlen] at he; cases he
          | false =>
            rw [hlen, cond_false] at he
            cases hq : (ks' == l) with
            | false => rw [hq] at he; cases he
            | true =>
              rw [hq] at he
              cases he
              exact rk_tyOk hr
end Go.Proofs.YtekgfdbeinacjaaDoor
namespace Go.Proofs.YtekgfdbeinacjaaDoor
open Go Go.RowKit

theorem cell_same {w w' : World} {b o : Nat} (h : w'.heap[b]? = w.heap[b]?) : w'.cell? ⟨b, o, none⟩ = w.cell? ⟨b, o, none⟩ := by
  unfold World.cell?
  rw [h]
theorem Cl4.same {w w' : World} {b o : Nat} {v : Value} (h : Cl4 w b o v) (e : w'.heap[b]? = w.heap[b]?) : Cl4 w' b o v := by
  obtain ⟨op, k, s, u, h1, h2, h3, h4, h5⟩ := h
  exact ⟨op, k, s, u, h1, (cell_same e).trans h2, (cell_same e).trans h3, (cell_same e).trans h4, (cell_same e).trans h5⟩
theorem blk_of {w : World} {b : Nat} (h : b < w.heap.size) : ∃ ob, w.heap[b]? = some ob := ⟨w.heap[b], by simp [h]⟩
end Go.Proofs.YtekgfdbeinacjaaDoor
namespace Go.Proofs.YtekgfdbeinacjaaDoor
open Go Go.RowKit

/-- The value v is the term c, all the way down, in blocks of the set A. -/
inductive NcS (A : Nat → Prop) (w : World) : Value → Co → Prop
  | mk (op k : Int) (s : List UInt8) (kids : List Co) (a : Option Addr) (c : Nat) (vs : Nat → Value) (hf : Fits op k s) (hl : kids.length ≤ c ∧ c ≤ 9223372036854775807)
      (hc : ∀ i, i < kids.length → ∃ b o, a = some ⟨b, o, none⟩ ∧ A b ∧ Cl4 w b (o + i * 4) (vs i)) (hk : ∀ i t, kids[i]? = some t → NcS A w (vs i) t) : NcS A w (cv op k s (.slice a kids.length c)) (.mk op k s kids)
theorem Nc.toS {n : Nat} {w : World} {v : Value} {t : Co} (h : Nc n w v t) : NcS (fun x => x < n) w v t := by
  induction h with
  | mk op k s kids a c vs hf hl hc hk ih => exact .mk op k s kids a c vs hf hl hc ih
theorem NcS.toN {A : Nat → Prop} {n : Nat} {w : World} {v : Value} {t : Co} (h : NcS A w v t) (hA : ∀ x, A x → x < n) : Nc n w v t := by
  induction h with
  | mk op k s kids a c vs hf hl hc hk ih =>
    refine .mk op k s kids a c vs hf hl (fun i hi => ?_) ih
    obtain ⟨b, o, e, hb, h⟩ := hc i hi
    exact ⟨b, o, e, hA b hb, h⟩
theorem NcS.mono {A A' : Nat → Prop} {w : World} {v : Value} {t : Co} (h : NcS A w v t) (hA : ∀ x, A x → A' x) : NcS A' w v t := by
  induction h with
  | mk op k s kids a c vs hf hl hc hk ih =>
    refine .mk op k s kids a c vs hf hl (fun i hi => ?_) ih
    obtain ⟨b, o, e, hb, h⟩ := hc i hi
    exact ⟨b, o, e, hA b hb, h⟩
theorem NcS.later {A : Nat → Prop} {w w' : World} {v : Value} {t : Co} (h : NcS A w v t) (hA : ∀ x, A x → w'.heap[x]? = w.heap[x]?) : NcS A w' v t := by
  induction h with
  | mk op k s kids a c vs hf hl hc hk ih =>
    refine .mk op k s kids a c vs hf hl (fun i hi => ?_) ih
    obtain ⟨b, o, e, hb, h⟩ := hc i hi
    exact ⟨b, o, e, hb, h.same (hA b hb)⟩
theorem NcS.open {A : Nat → Prop} {w : World} {v : Value} {op k : Int} {s : List UInt8} {kids : List Co} (h : NcS A w v (.mk op k s kids)) : ∃ a c, v = cv op k s (.slice a kids.length c) ∧ Fits op k s ∧ (kids.length ≤ c ∧ c ≤ 9223372036854775807) ∧ ∀ i t, kids[i]? = some t → ∃ b o u, a = some ⟨b, o, none⟩ ∧ A b ∧ Cl4 w b (o + i * 4) u ∧ NcS A w u t := by
  cases h with
  | mk _ _ _ _ a c vs hf hl hc hk =>
    refine ⟨a, c, rfl, hf, hl, fun i t ht => ?_⟩
    obtain ⟨b, o, e, hb, h⟩ := hc i (List.getElem?_eq_some_iff.1 ht).1
    exact ⟨b, o, vs i, e, hb, h, hk i t ht⟩
theorem NcS.rehead {A : Nat → Prop} {w : World} {op k op' k' : Int} {s s' : List UInt8} {kids : List Co} {u : Value} (h : NcS A w (cv op k s u) (.mk op k s kids)) (hf : Fits op' k' s') : NcS A w (cv op' k' s' u) (.mk op' k' s' kids) := by
  generalize hv : cv op k s u = v at h
  generalize hc : Co.mk op k s kids = c at h
  cases h with
  | mk _ _ _ _ a c vs _ hl hcl hk =>
    cases hc
    unfold cv at hv
    simp only [Value.agg.injEq, Array.mk.injEq, List.cons.injEq, and_true] at hv
    obtain ⟨-, -, -, rfl⟩ := hv
    exact .mk op' k' s' kids a c vs hf hl hcl hk
theorem NcS.leaf {A : Nat → Prop} {w : World} {op k : Int} (hf : Fits op k []) : NcS A w (cv op k [] (.slice none 0 0)) (.mk op k [] []) := .mk op k [] [] none 0 (fun _ => undef) hf ⟨by simp, by omega⟩ (fun i hi => by simp at hi) (fun i t ht => by simp at ht)
/-- What was made since. -/
def Since (A : Nat → Prop) (w w' : World) : Nat → Prop := fun x => A x ∨ (w.heap.size ≤ x ∧ x < w'.heap.size)
theorem NcS.bel {A : Nat → Prop} {w w' : World} {v : Value} {t : Co} (h : NcS A w v t) (hA : ∀ x, A x → x < w.heap.size) (hB : Below w.heap.size w w') : NcS A w' v t := h.later fun x hx => hB.block x (hA x hx)
end Go.Proofs.YtekgfdbeinacjaaDoor
namespace Go.Proofs.YtekgfdbeinacjaaDoor
open Go Go.RowKit

end Go.Proofs.YtekgfdbeinacjaaDoor
namespace Go.Proofs.YtekgfdbeinacjaaDoor
open Go Go.RowKit

section
variable {P : Program} {F : Exit → Act → World → Prop} {Inv : World → Prop} {s : St}
def newO (P : Program) (i g : Nat) (s : St) : Option St :=
  match anyOp i s with
  | some o =>
    match srun P (execOp (evalL s.tmps) o) [0] (some g) s.mem [] false with
    | some ⟨.value v, m, [], _⟩ => some (putA i s v m)
    | _ => none
  | none => none
def newOS (P : Program) (i g : Nat) (s : St) : St := (newO P i g s).getD s
theorem TookS.newI (i : Nat) (h : ∀ g, Goes P F Inv (newOS P i g s)) (h0 : ∀ g, (newO P i g s).map (fun st => st.mem.take s.mem.length) = some s.mem := by intro g; kernel_rfl) (hw : anyWant i s = true := by kernel_rfl) : TookS P F Inv i s := by
  intro ops m0 n l k ht w h1 h2 h3 h4
  have hG := h w.heap.size
  have hk := h0 w.heap.size
  unfold newOS at hG
  cases hq : newO P i w.heap.size s with
  | none => rw [hq] at hk; cases hk
  | some st =>
    rw [hq] at hG hk
    simp only [Option.getD_some] at hG
    simp only [Option.map_some, Option.some.injEq] at hk
    unfold newO at hq
    unfold anyWant at hw
    rw [ht] at hw
    simp only at hw
    cases ho : ops[i]? with
    | none => rw [ho] at hw; simp at hw
    | some o =>
      have hoo : anyOp i s = some o := by unfold anyOp; rw [ht]; exact ho
      rw [ho] at hw
      simp only at hw
      rw [hoo] at hq
      simp only at hq
      unfold wpOp
      rw [ho]
      simp only [hw, if_true]
      unfold Oper.wp
      rw [evalL_eq]
      split at hq
      · rename_i v m d hs
        cases hq
        obtain ⟨w', D⟩ := srun_did P _ _ _ _ _ _ _ w hs (by simp) h1 h2 (by simp)
        have h9 := hG w'
        unfold putA at h9 hk
        rw [ht] at h9 hk
        simp only [ho] at h9 hk
        rw [D.run, Oper.upon_value, putL_eq]
        have hm' : Holds m0 w' := by
          intro j b ob hj
          have hb := h4.at hj
          by_cases hx : b ∈ s.mem.ids
          · obtain ⟨q, hq, e⟩ := List.mem_map.1 hx
            obtain ⟨j', hj'⟩ := List.getElem?_of_mem hq
            have hl : j' < s.mem.length := (List.getElem?_eq_some_iff.1 hj').1
            have e1 := h1.at (b := q.1) (o := q.2) hj'
            have e2 : m[j']? = some (q.1, q.2) := by rw [← hk, List.getElem?_take_of_lt hl] at hj'; exact hj'
            have e3 := D.holds.at e2
            have e : q.1 = b := e
            rw [e] at e1 e3
            rw [hb] at e1
            cases e1
            exact e3
          · rw [D.ch.block b (lt_of_get hb) hx]
            exact hb
        exact .inl ⟨hm', h9 D.holds D.nd (h3.ch D.ch D.new) hm'⟩
      · cases hq
end
end Go.Proofs.YtekgfdbeinacjaaDoor
namespace Go.Proofs.YtekgfdbeinacjaaDoor
open Go Go.RowKit

section
variable {P : Program} {F : Exit → Act → World → Prop} {Inv : World → Prop} {s : St}
def skS (I : Sem Unit) : Sem Next := do I; pure .skip
theorem skS_run {I : Sem Unit} {w w' : World} (h : I.run P w = .ok () w') : (skS I).run P w = .ok .skip w' := by
  unfold skS
  simp only [Sem.run_bind, h, Result.andThen_ok, Sem.run_pure]
/-- A store that is known otherwise. -/
theorem Goes.sto (I : Sem Unit)
 (hr : ∀ w, Holds s.mem w → s.mem.ids.Nodup → Stay s.mem.ids w Inv → ∃ w' Inv' m, I.run P w = .ok () w' ∧ Holds m w' ∧ m.ids.Nodup ∧ Stay m.ids w' Inv' ∧ Goes P F Inv' (put s undef m)) (ho : (nextOp s).map (fun q => execOp (evalL s.tmps) q.2.1) = some (skS I) := by kernel_rfl) (hw : wants s = true := by kernel_rfl) : Goes P F Inv s := by
  intro w hm hn hI
  cases hno : nextOp s with
  | none => rw [hno] at ho; cases ho
  | some q =>
    obtain ⟨ops, o', rest, res, k⟩ := q
    rw [hno] at ho
    have ho : execOp (evalL s.tmps) o' = skS I := by simpa using ho
    rw [nextOp_todo hno]
    show wpList P ops (QK P F k) (o' :: rest) ⟨s.tmps.toArray, []⟩ w
    refine wpList_step fun K hK => ?_
    rw [if_pos (wants_ok hno hw)]
    unfold Oper.wp
    obtain ⟨w', Inv', m, he, h1, h2, h3, h4⟩ := hr w hm hn hI
    have h5 := h4 w'
    unfold put at h5
    rw [hno] at h5
    rw [evalL_eq, ho, skS_run he, Oper.upon_skip]
    refine hK _ _ ?_
    rw [putL_eq]
    exact h5 h1 h2 h3
/-- What lies in the known blocks is spelt otherwise. -/
theorem Goes.objs (m : Mem) (h : ∀ w, Holds s.mem w → Holds m w) (G : Goes P F Inv ⟨s.todo, s.tmps, m⟩) (hi : s.mem.ids = m.ids := by kernel_rfl) : Goes P F Inv s := fun w hm hn hI => G w (h w hm) (hi ▸ hn) (hi ▸ hI)
end
end Go.Proofs.YtekgfdbeinacjaaDoor
namespace Go.Proofs.YtekgfdbeinacjaaDoor
open Go Go.RowKit

section
variable {P : Program} {F : Exit → Act → World → Prop} {Inv : World → Prop} {s : St}
/-- It is a call; other blocks are read besides. -/
theorem TookS.callM (i : Nat) (f : FuncId) (args : Array Value) (hr : ∀ w, Holds s.mem w → s.mem.ids.Nodup → Stay s.mem.ids w Inv → Holds (anyM s) w → Calls P f args w fun e w' => ∃ v Inv' m, e = .returned v ∧ Holds (anyM s) w' ∧ Holds m w' ∧ m.ids.Nodup ∧ Stay m.ids w' Inv' ∧ Goes P F Inv' (putA i s v m)) (hw : anyWant i s = true := by kernel_rfl) (ha : askA i s = some (f, args) := by kernel_rfl) (hf : okf P f = true := by kernel_rfl) : TookS P F Inv i s := by
  intro ops m0 n l k ht w h1 h2 h3 h4
  unfold anyWant at hw
  unfold askA anyOp at ha
  unfold anyM at hr
  rw [ht] at hw ha hr
  simp only at hw ha hr
  cases ho : ops[i]? with
  | none => rw [ho] at hw; simp at hw
  | some o =>
    rw [ho] at hw ha
    simp only at hw ha
    unfold wpOp
    rw [ho]
    simp only [hw, if_true]
    unfold Oper.wp
    rw [evalL_eq]
    have he : (execOp (evalL s.tmps) o).run P w = .ok (.enter f args) w := by
      split at ha
      · rename_i x xs ats hop
        split at ha
        · rename_i g first captured hv
          cases ha
          have e : execOp (evalL s.tmps) o = callFunc f (first ++ xs.map (evalL s.tmps) ++ captured) := by
            unfold execOp; rw [hop]; simp only [resolve, hv]; rfl
          rw [e, okf_run hf]
        · cases ha
      · cases ha
    rw [he, Oper.upon_enter]
    refine .inl ?_
    refine (hr w h1 h2 h3 h4).mono fun e w' ⟨v, Inv', m, he, h10, h5, h6, h7, h8⟩ => ?_
    subst he
    have h9 := h8 w'
    unfold putA at h9
    rw [ht] at h9
    simp only [ho] at h9
    show Holds m0 w' ∧ _
    rw [putL_eq]
    exact ⟨h10, h9 h5 h6 h7 h10⟩
end
end Go.Proofs.YtekgfdbeinacjaaDoor
namespace Go.Proofs.YtekgfdbeinacjaaDoor
open Go Go.RowKit

noncomputable def sameB (c e : Co) : Bool := @decide (c = e) (Classical.propDecidable _)
end Go.Proofs.YtekgfdbeinacjaaDoor
namespace Go.Proofs.YtekgfdbeinacjaaDoor
open Go Go.ChangeShapes Go.WideShapes Go.ChangeAt Go.WideMaps Go.WideElems Go.RowKit Go.ChangeMaps Go.Deep

theorem own : ownKnob Tryd.prog.godebug = none := by kernel_rfl
theorem laidOut : laidOutB Tryd.prog = true := by kernel_rfl
theorem spot_none {w : World} {ad : Addr} {v : Value} (h : w.cell? (ad.add 0) = some v) : ad.spot = none := by
  simpa [Addr.add] using World.cell?_spot h
theorem list4 {α : Type} : ∀ {l : List α}, l.length = 4 → ∃ a b c d, l = [a, b, c, d]
  | [a, b, c, d], _ => ⟨a, b, c, d, rfl⟩
theorem core_trod {H : Type} {enc : TypeId × Value → H} {W : World} : ∀ (fuel : Nat) (cs : List Value) (x : DataW H × List MemPlace), DataW.trod enc Tryd.prog W 0 (fun _ => true) true fuel 24 cs = some x →
    ∃ op k s v c, cs = [.int .i64 op, .int .i64 k, strV s, v] ∧ Nc W.heap.size W (cv op k s v) c := by
  intro fuel
  induction fuel using Nat.strongRecOn with
  | _ fuel ih =>
    intro cs x hf
    have hc4 : Tryd.prog.cellsOf 24 = 4 := by kernel_rfl
    have hci : Tryd.prog.cellsOf 3 = 1 := by kernel_rfl
    have hcl : Tryd.prog.cellsOf 2 = 1 := by kernel_rfl
    have hcs : Tryd.prog.cellsOf 9 = 1 := by kernel_rfl
    have hcn : Tryd.prog.cellsOf 22 = 1 := by kernel_rfl
    obtain ⟨ys, m, hm, hxy, hcl', hxl, hfd⟩ := DataW.trod_struct Tryd.underlying24 hf
    have hy4 : ys.length = 4 := hxl
    obtain ⟨y0, y1, y2, y3, rfl⟩ := list4 hy4
    rw [hc4] at hcl'
    obtain ⟨v0, v1, v2, v3, rfl⟩ := list4 hcl'
    have g0 := hfd 0 _ rfl
    have g1 := hfd 1 _ rfl
    have g2 := hfd 2 _ rfl
    have g3 := hfd 3 _ rfl
    simp [hci, hcl, hcs, hcn] at g0 g1 g2 g3
    obtain ⟨op, e0, _, w0⟩ := DataW.trod_int Tryd.underlying3 g0
    obtain ⟨k, e1, _, w1⟩ := DataW.trod_int Tryd.underlying2 g1
    obtain ⟨s, e2, _, w2⟩ := DataW.trod_string Tryd.underlying9 g2
    simp only [List.cons.injEq, and_true] at e0 e1 e2
    subst e0 e1 e2
    have hs : Value.string s = strV s.data.toList := by unfold strV; simp
    have hsl : s.data.toList.length ≤ 9223372036854775807 := by simpa [maxLen] using w2
    have hfit : Fits op k s.data.toList := ⟨bounds_i64 w0, bounds_i64 w1, hsl⟩
    rcases DataW.trod_slice Tryd.underlying22 g3 with ⟨e3, _⟩ | ⟨ad, len, cap, elems, rest, q, hq, e3, _, _, hlc, hcm, hel, hea, _, _⟩
    · simp only [List.cons.injEq, and_true] at e3
      subst e3
      refine ⟨op, k, s.data.toList, _, .mk op k s.data.toList [], by rw [hs], ?_⟩
      exact .mk op k s.data.toList [] none 0 (fun _ => .bool false) hfit ⟨Nat.le_refl _, by omega⟩ (fun i h => absurd h (by simp)) (fun i t h => by simp at h)
    · simp only [List.cons.injEq, and_true] at e3
      subst e3
      rw [hc4] at hea
      have each : ∀ i, i < len → ∃ z : Value × Co, (∃ op k s u, z.1 = cv op k s u ∧ W.cell? (ad.add (i * 4)) = some (.int .i64 op) ∧ W.cell? (ad.add (i * 4 + 1)) = some (.int .i64 k) ∧ W.cell? (ad.add (i * 4 + 2)) = some (strV s) ∧ W.cell? (ad.add (i * 4 + 3)) = some u) ∧ Nc W.heap.size W z.1 z.2 := by
        intro i hi
        have h1 := hea i hi
        rw [List.getElem?_eq_getElem (by omega)] at h1
        obtain ⟨cs2, h2, h3⟩ := Option.bind_eq_some_iff.1 h1
        obtain ⟨_, hlen2, hcell⟩ := World.cells?_some h2
        obtain ⟨op', k', s', v', c', rfl, hN⟩ := ih q (by omega) cs2 _ h3
        have c0 := hcell 0 (by omega)
        have c1 := hcell 1 (by omega)
        have c2 := hcell 2 (by omega)
        have c3 := hcell 3 (by omega)
        rw [add_add] at c0 c1 c2 c3
        exact ⟨(_, c'), ⟨op', k', s', v', rfl, by simpa using c0, by simpa using c1, by simpa using c2, by simpa using c3⟩, hN⟩
      haveI : Inhabited (Value × Co) := ⟨(.bool false, .mk 0 0 [] [])⟩
      obtain ⟨f, hq'⟩ := choose_lt each
      have hkl : ((List.range len).map fun i => (f i).2).length = len := by simp
      have hkg : ∀ i t, ((List.range len).map fun i => (f i).2)[i]? = some t → i < len ∧ (f i).2 = t := by
        intro i t h
        have hi : i < len := by have := (List.getElem?_eq_some_iff.1 h).1; simpa using this
        exact ⟨hi, by simpa [hi] using h⟩
      refine ⟨op, k, s.data.toList, _, .mk op k s.data.toList ((List.range len).map fun i => (f i).2), by rw [hs], ?_⟩
      have hN := Nc.mk (n := W.heap.size) (w := W) op k s.data.toList ((List.range len).map fun i => (f i).2) (some ad) cap (fun i => (f i).1) hfit ⟨by rw [hkl]; exact hlc, hcm⟩ (fun i hi => by
        rw [hkl] at hi
        obtain ⟨⟨op', k', s', u', e, c0, c1, c2, c3⟩, _⟩ := hq' i hi
        obtain ⟨⟨_, _, _, _, _, z0, _⟩, _⟩ := hq' 0 (by omega)
        rw [Nat.zero_mul] at z0
        obtain ⟨b, off, sp⟩ := ad
        obtain rfl : sp = none := spot_none z0
        rw [Addr.add_lit] at c0 c1 c2 c3
        refine ⟨b, off, rfl, World.block_lt_of_cell? W _ c0, op', k', s', u', e, c0, by rw [Nat.add_assoc]; exact c1, by rw [Nat.add_assoc]; exact c2, by rw [Nat.add_assoc]; exact c3⟩) (fun i t h => by
        obtain ⟨hi, rfl⟩ := hkg i t h
        exact (hq' i hi).2)
      rw [hkl] at hN
      exact hN
set_option maxRecDepth 100000 in
theorem core_arg {H : Type} {enc : TypeId × Value → H} {W : World} {base : Nat} {v : Value} {d : DataW H} {p : List MemPlace} (hv : Value.okWide Tryd.prog W .any base 24 v)
    (h0 : DataW.Trod enc Tryd.prog W 0 (fun _ => true) true 24 v d p) : ∃ c, Nc W.heap.size W v c := by
  obtain ⟨cs, hcv, _⟩ := okWide_struct Tryd.underlying24 hv
  subst hcv
  obtain ⟨fuel, hf⟩ := h0
  obtain ⟨op, k, s, u, c, hcs, h1⟩ := core_trod _ _ _ hf
  refine ⟨c, ?_⟩
  have e : cs = #[.int .i64 op, .int .i64 k, strV s, u] := by
    have h : cs.toList = [.int .i64 op, .int .i64 k, strV s, u] := by simpa [Value.cells] using hcs
    rw [← Array.toArray_toList (xs := cs), h]
  rw [e]
  exact h1
end Go.Proofs.YtekgfdbeinacjaaDoor
