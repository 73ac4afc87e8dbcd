/- A region that draws its order and whose last operation changes what another has read: what is asked of the world is asked only until that one has come up. -/
import Derived.Test.YtkfomolglangdaaKRefRead
namespace Go.Proofs.Ytkfomolglangdaa
open Go Go.RowKit

section
variable {ops : Array Oper} {Q : Exit → Act → World → Prop} {md : Region.Mode} {S : World → Prop} {z : Nat}
/-- Whatever order is picked, and S holds until z has come up. -/
def Until (md : Region.Mode) (ops : Array Oper) (Q : Exit → Act → World → Prop) (S : World → Prop) (z : Nat) : Nat → Array Bool → Act → World → Prop
  | 0, listed, a, w => Region.ready md ops listed = [] ∧ Q .normal a w
  | fuel + 1, listed, a, w =>
    (Region.ready md ops listed = [] → Q .normal a w) ∧
    ∀ i ∈ Region.ready md ops listed, wpOp Try.prog ops Q i (fun a' w' => ((listed.setIfInBounds i true).getD z true = false → S w') ∧ Until md ops Q S z fuel (listed.setIfInBounds i true) a' w') a w
theorem Until.any : ∀ (fuel : Nat) (listed : Array Bool) (a : Act) (w : World), Until md ops Q S z fuel listed a w → wpAny Try.prog md ops Q fuel listed a w
  | 0, _, _, _, h => h
  | fuel + 1, _, _, _, h => ⟨h.1, fun i hi => wpOp_mono (fun a' w' h' => Until.any fuel _ a' w' h'.2) (h.2 i hi)⟩
theorem not_on {listed : Array Bool} {i j : Nat} {oj : Oper} (hr : i ∈ Region.ready md ops listed) (hj : j ∈ Region.ready md ops listed) (hoj : ops[j]? = some oj) : ∀ e ∈ oj.after, Region.binds md e = true → e.on ≠ i := fun e he hb heq => by
  obtain ⟨_, oj', hoj', hall⟩ := mem_ready.1 hj
  rw [hoj] at hoj'
  cases hoj'
  have h1 := hall e he hb
  have h0 := (mem_ready.1 hr).1
  rw [heq] at h1
  rcases Nat.lt_or_ge i listed.size with h' | h'
  · simp [h'] at h0 h1; rw [h0] at h1; cases h1
  · simp [Array.getElem?_eq_none h'] at h1
/-- An operation is taken first: S' is what it needs, which holds as long as it has not come up. -/
theorem Until.first {S' : World → Prop} {i : Nat} {oi : Oper} {v : Value} (hiz : i ≠ z) (hi : ops[i]? = some oi) (hsel : ∀ (j : Nat) (o : Oper) cs b, ops[j]? = some o → o.op ≠ .select cs b)
    (hQ : ∀ c a w, Q (.panic c) (a.put oi.dst v) w → Q (.panic c) a w)
    (hS' : ∀ (listed : Array Bool) (w : World), i ∈ Region.ready md ops listed → (listed.getD z true = false → S w) → S' w ∨ ¬ listed.getD z true = false)
    (hz : (∀ w, S' w) ∨ ∀ oz, ops[z]? = some oz → ∃ e ∈ oz.after, Region.binds md e = true ∧ e.on = i) :
    ∀ (fuel : Nat) (listed : Array Bool) (a : Act) (w : World),
      (∀ j oj, ops[j]? = some oj → j ≠ i → listed.getD j true = false → (∀ e ∈ oj.after, Region.binds md e = true → e.on ≠ i) → oi.apart ops oj = true) →
      i ∈ Region.ready md ops listed → YieldsIf Try.prog ops S' oi v a → (listed.getD z true = false → S w) → ((∀ w, S' w) ∨ listed.getD z true = false) →
      Until md ops Q S z fuel (listed.setIfInBounds i true) (a.put oi.dst v) w → Until md ops Q S z (fuel + 1) listed a w := by
  intro fuel
  induction fuel with
  | zero =>
    intro listed a w _ hr hy hS hl H
    have hSw : S' w := by rcases hl with hl | hl; exact hl w; rcases hS' listed w hr hS with h | h; exact h; exact absurd hl h
    refine ⟨fun h => (by rw [h] at hr; cases hr), fun j hj => ?_⟩
    by_cases hji : j = i
    · subst hji
      refine hy.wpOp hi hSw ⟨fun h => ?_, H⟩
      rw [getD_set_ne true hiz] at h; exact hS h
    · have := ready_mono hj hji
      rw [H.1] at this
      cases this
  | succ fuel ih =>
    intro listed a w hfree hr hy hS hl H
    have hSw : S' w := by rcases hl with hl | hl; exact hl w; rcases hS' listed w hr hS with h | h; exact h; exact absurd hl h
    refine ⟨fun h => (by rw [h] at hr; cases hr), fun j hj => ?_⟩
    by_cases hji : j = i
    · subst hji
      refine hy.wpOp hi hSw ⟨fun h => ?_, H⟩
      rw [getD_set_ne true hiz] at h; exact hS h
    · have h1 := H.2 j (ready_mono hj hji)
      obtain ⟨hjun, oj, hoj, hall⟩ := mem_ready.1 hj
      have hnot := not_on hr hj hoj
      have h2 := wpOp_putIf hoj (hfree j oj hoj hji hjun hnot) (fun cs b => hsel i oi cs b hi) (fun cs b => hsel j oj cs b hoj) hQ hy h1
      have hfree' : ∀ k ok, ops[k]? = some ok → k ≠ i → (listed.setIfInBounds j true).getD k true = false →
          (∀ e ∈ ok.after, Region.binds md e = true → e.on ≠ i) → oi.apart ops ok = true := fun k ok hk hki hun hno => by
        refine hfree k ok hk hki ?_ hno
        by_cases hjk : j = k
        · subst hjk; exact hjun
        · rw [getD_set_ne true hjk] at hun; exact hun
      have hl' : (∀ w, S' w) ∨ (listed.setIfInBounds j true).getD z true = false := by
        rcases hl with hl | hl
        · exact .inl hl
        · rcases hz with hz | hz
          · exact .inl hz
          · refine .inr ?_
            have hjz : j ≠ z := fun e => by
              subst e
              obtain ⟨e, he, hb, hon⟩ := hz oj hoj
              exact hnot e he hb hon
            rw [getD_set_ne true hjz]; exact hl
      refine wpOp_mono (fun a' w' h3 => ?_) h2
      have hS2 : (listed.setIfInBounds j true).getD z true = false → S w' := fun h => h3.2.1 (by
        rw [Array.setIfInBounds_comm _ _ (Ne.symm hji)]
        rw [getD_set_ne true hiz]; exact h)
      refine ⟨hS2, ih (listed.setIfInBounds j true) a' w' hfree' (ready_mono hr (Ne.symm hji)) h3.1 hS2 hl' ?_⟩
      rw [Array.setIfInBounds_comm _ _ hji]
      exact h3.2.2

def waitsFor (md : Region.Mode) (ops : Array Oper) (z i : Nat) : Bool := match ops[z]? with
  | some oz => oz.after.any fun e => Region.binds md e && e.on == i
  | none => false
variable {o : Oper} {a : Act} {fuel : Nat} {w w1 : World} {i : Nat} {L L' : Array Bool}
/-- An operation that needs nothing of the world. -/
theorem z_pure {d : Nat} {v : Value} {tmps T : Array Value} {ds : List Deferred} (hns : Region.noSelect ops = true) (hiz : (i == z) = false) (hi : ops[i]? = some o) (hd : o.dst = some d)
    (hf : Region.free md ops L i = true) (hr : (Region.ready md ops L).contains i = true)
    (hP : ∀ c T T' ds w, Q (.panic c) ⟨T, ds⟩ w → Q (.panic c) ⟨T', ds⟩ w) (hy : YieldsIf Try.prog ops (fun _ => True) o v ⟨tmps, ds⟩) (hS : L.getD z true = false → S w) (hT : tmps.setIfInBounds d v = T) (hL : L.setIfInBounds i true = L')
    (h : Until md ops Q S z fuel L' ⟨T, ds⟩ w) : Until md ops Q S z (fuel + 1) L ⟨tmps, ds⟩ w := by
  subst hL; subst hT
  refine Until.first (S' := fun _ => True) (by simpa using hiz) hi (Region.noSelect_spec hns) (fun c a w h => by rw [hd] at h; exact hP c (a.tmps.setIfInBounds d v) a.tmps a.defers w h) (fun _ _ _ _ => .inl trivial) (.inl fun _ => trivial) fuel L _ w (Region.free_spec hi hf) (by simpa using hr) hy hS (.inl fun _ => trivial) ?_
  rw [hd]; exact h
/-- An operation that reads: z waits for it. -/
theorem z_read {d : Nat} {v : Value} {tmps T : Array Value} {ds : List Deferred} (hns : Region.noSelect ops = true) (hiz : (i == z) = false) (hw : waitsFor md ops z i = true) (hi : ops[i]? = some o) (hd : o.dst = some d)
    (hf : Region.free md ops L i = true) (hr : (Region.ready md ops L).contains i = true)
    (hP : ∀ c T T' ds w, Q (.panic c) ⟨T, ds⟩ w → Q (.panic c) ⟨T', ds⟩ w) (hy : YieldsIf Try.prog ops S o v ⟨tmps, ds⟩) (hzl : L.getD z true = false) (hS : S w) (hT : tmps.setIfInBounds d v = T) (hL : L.setIfInBounds i true = L')
    (h : Until md ops Q S z fuel L' ⟨T, ds⟩ w) : Until md ops Q S z (fuel + 1) L ⟨tmps, ds⟩ w := by
  subst hL; subst hT
  refine Until.first (S' := S) (by simpa using hiz) hi (Region.noSelect_spec hns) (fun c a w h => by rw [hd] at h; exact hP c (a.tmps.setIfInBounds d v) a.tmps a.defers w h)
    (fun listed w _ h => if e : listed.getD z true = false then .inl (h e) else .inr e) (.inr fun oz hoz => ?_) fuel L _ w (Region.free_spec hi hf) (by simpa using hr) hy (fun _ => hS) (.inr hzl) ?_
  · unfold waitsFor at hw
    rw [hoz] at hw
    simp only [Array.any_eq_true'] at hw
    obtain ⟨e, he, hb⟩ := hw
    simp only [Bool.and_eq_true, beq_iff_eq] at hb
    exact ⟨e, he, hb⟩
  · rw [hd]; exact h
theorem z_all {rs : List Nat} (hr : Region.ready md ops L = rs) (hne : rs ≠ [])
    (h : ∀ i ∈ rs, wpOp Try.prog ops Q i (fun a' w' => ((L.setIfInBounds i true).getD z true = false → S w') ∧ Until md ops Q S z fuel (L.setIfInBounds i true) a' w') a w) : Until md ops Q S z (fuel + 1) L a w :=
  ⟨fun h0 => absurd (hr ▸ h0) hne, hr ▸ h⟩
theorem z_done (hr : Region.ready md ops L = []) (h : Q .normal a w) : ∀ fuel, Until md ops Q S z fuel L a w
  | 0 => ⟨hr, h⟩
  | _ + 1 => ⟨fun _ => h, by rw [hr]; simp⟩
theorem z_one (hr : Region.ready md ops L = [i]) (hi : ops[i]? = some o) (hw : Region.wanted o (yielded ops a.tmps) = true)
    (h : o.wp Try.prog a w (fun a' w' => ((L.setIfInBounds i true).getD z true = false → S w') ∧ Until md ops Q S z fuel (L.setIfInBounds i true) a' w') Q) : Until md ops Q S z (fuel + 1) L a w := by
  refine z_all hr (by simp) (fun j hj => ?_)
  obtain rfl : j = i := by simpa using hj
  unfold wpOp
  rw [hi]
  simp only [hw, if_true]
  exact .inl h
/-- The one operation that may come up, by its run. -/
theorem z_val {d : Nat} {v : Value} {tmps T : Array Value} {ds : List Deferred} (hr : Region.ready md ops L = [i]) (hi : ops[i]? = some o) (hd : o.dst = some d) (hw : Region.wanted o (yielded ops tmps) = true)
    (he : (execOp (Act.mk tmps ds).eval o).run Try.prog w = .ok (.value v) w1) (hS : S w1) (hT : tmps.setIfInBounds d v = T) (hL : L.setIfInBounds i true = L')
    (h : Until md ops Q S z fuel L' ⟨T, ds⟩ w1) : Until md ops Q S z (fuel + 1) L ⟨tmps, ds⟩ w := by
  subst hL; subst hT
  refine z_one hr hi hw ?_
  unfold Oper.wp
  rw [he, Oper.upon_value, hd]
  exact ⟨fun _ => hS, h⟩
/-- z itself. -/
theorem z_last {tmps : Array Value} {ds : List Deferred} (hr : Region.ready md ops L = [z]) (hi : ops[z]? = some o) (hd : o.dst = none) (hw : Region.wanted o (yielded ops tmps) = true)
    (he : (execOp (Act.mk tmps ds).eval o).run Try.prog w = .ok .skip w1) (hz : L'.getD z true = true) (hL : L.setIfInBounds z true = L')
    (h : Until md ops Q S z fuel L' ⟨tmps, ds⟩ w1) : Until md ops Q S z (fuel + 1) L ⟨tmps, ds⟩ w := by
  subst hL
  refine z_one hr hi hw ?_
  unfold Oper.wp
  rw [he]
  simp only [Oper.upon, hd]
  exact ⟨fun e => (by rw [hz] at e; cases e), h⟩
theorem z_open {id : Nat} (z : Nat) (hm : Try.prog.follows .mixedOrders = true) (hns : Region.noSelect ops = true) (hP : ∀ c T T' ds w, Q (.panic c) ⟨T, ds⟩ w → Q (.panic c) ⟨T', ds⟩ w) (hL : Array.replicate ops.size false = L)
    (h : ∀ Q' : Exit → Act → World → Prop, Region.noSelect ops = true → (∀ c T T' ds w, Q' (.panic c) ⟨T, ds⟩ w → Q' (.panic c) ⟨T', ds⟩ w) → (∀ a w, Q .normal a w → Q' .normal a w) →
      Until .any ops Q' S z ops.size L a w.drew) : (Code.region id ops true).wp Try.prog Q a w :=
  wp_region_any hm (Until.any _ _ _ _ (hL ▸ h Q hns hP fun _ _ h => h))
end
end Go.Proofs.Ytkfomolglangdaa
