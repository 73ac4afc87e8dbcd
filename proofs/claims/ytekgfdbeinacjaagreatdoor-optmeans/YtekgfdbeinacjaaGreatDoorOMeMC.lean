/- the text OMeM -/
import Derived.Test.YtekgfdbeinacjaaGreatDoorAG14
import Derived.Test.YtekgfdbeinacjaaGreatDoorAG12
namespace Go.Proofs.YtekgfdbeinacjaaGreatDoor
open Go

/-- Two rows that answer each other. -/
inductive F2 {α β : Type} (R : α → β → Prop) : List α → List β → Prop
  | nil : F2 R [] []
  | cons {a : α} {b : β} {l : List α} {l' : List β} : R a b → F2 R l l' → F2 R (a :: l) (b :: l')
theorem F2.imp {α β : Type} {R S : α → β → Prop} (h : ∀ a b, R a b → S a b) {l : List α} {l' : List β} (hf : F2 R l l') : F2 S l l' := by
  induction hf with
  | nil => exact .nil
  | cons h1 _ ih => exact .cons (h _ _ h1) ih
theorem F2.app {α β : Type} {R : α → β → Prop} {l m : List α} {l' m' : List β} (h : F2 R l l') (h' : F2 R m m') : F2 R (l ++ m) (l' ++ m') := by
  induction h with
  | nil => exact h'
  | cons h1 _ ih => exact .cons h1 ih
theorem F2.trans {α β γ : Type} {R : α → β → Prop} {S : β → γ → Prop} {T : α → γ → Prop} (ht : ∀ a b c, R a b → S b c → T a c) {l : List α} {m : List β} {n : List γ} (h : F2 R l m) (h' : F2 S m n) : F2 T l n := by
  induction h generalizing n with
  | nil => cases h'; exact .nil
  | cons h1 _ ih => cases h' with | cons g1 g2 => exact .cons (ht _ _ _ h1 g1) (ih g2)
theorem F2.mapR {α : Type} {R : α → α → Prop} (g : α → α) : ∀ {l : List α}, (∀ x ∈ l, R x (g x)) → F2 R l (l.map g)
  | [], _ => .nil
  | x :: r, h => .cons (h x (by simp)) (F2.mapR g fun y hy => h y (by simp [hy]))
theorem F2.len {α β : Type} {R : α → β → Prop} {l : List α} {l' : List β} (h : F2 R l l') : l.length = l'.length := by
  induction h with
  | nil => rfl
  | cons _ _ ih => rw [List.length_cons, List.length_cons, ih]
theorem F2.at {α β : Type} {R : α → β → Prop} {l : List α} {l' : List β} (h : F2 R l l') : ∀ {i : Nat} {a : α} {b : β}, l[i]? = some a → l'[i]? = some b → R a b := by
  induction h with
  | nil => intro i a b h; simp at h
  | cons h1 _ ih =>
    intro i a b ha hb
    cases i with
    | zero => simp at ha hb; subst ha hb; exact h1
    | succ i => exact ih (i := i) (by simpa using ha) (by simpa using hb)
/-- A contract that waits, and what it is rewritten to. -/
inductive Rs : Co → Co → Prop
  | one (d : Int) (t u : Co) : okT 4 d t = true → Rw true 4 d t u → Rs t u
  | trans (t u v : Co) : Rs t u → Rs u v → Rs t v
/-- Lives that answer each other: the same factor, and what waits. -/
def Lv (c : Co) (p : Int) (e : Co) (q : Int) (x y : Int × Int) : Prop := y.2 = x.2 ∧ ∃ t u, termP c (x.1 - p) = some t ∧ termP e (y.1 - q) = some u ∧ Rs t u
structure RelP (c : Co) (p : Int) (e : Co) (q : Int) (r r' : R2) : Prop where
  paid : r'.2 = r.2
  lives : F2 (Lv c p e q) r.1 r'.1
theorem RelP.zero {c e : Co} {p q : Int} {o : List (List UInt8 × Int)} : RelP c p e q ([], o) ([], o) := ⟨rfl, .nil⟩
theorem RelP.cat {c e : Co} {p q : Int} {a a' b b' : R2} (h : RelP c p e q a a') (h' : RelP c p e q b b') : RelP c p e q (R2.cat a b) (R2.cat a' b') :=
  ⟨by show a'.2 ++ b'.2 = a.2 ++ b.2; rw [h.paid, h'.paid], h.lives.app h'.lives⟩
theorem RelP.wait {c e : Co} {p q f : Int} (h : Rs c e) : RelP c p e q (wt p f) (wt q f) :=
  ⟨rfl, .cons ⟨rfl, c, e, by rw [show (p, f).1 - p = 0 by simp]; exact term_zero _, by rw [show (q, f).1 - q = 0 by simp]; exact term_zero _, h⟩ .nil⟩
theorem RelP.trans {c e g : Co} {p q s : Int} {a b d : R2} (h : RelP c p e q a b) (h' : RelP e q g s b d) : RelP c p g s a d := by
  refine ⟨by rw [h'.paid, h.paid], h.lives.trans (fun x y z hx hy => ?_) h'.lives⟩
  obtain ⟨h1, t, u, h2, h3, h4⟩ := hx
  obtain ⟨g1, u', v, g2, g3, g4⟩ := hy
  rw [h3] at g2
  cases g2
  exact ⟨by rw [g1, h1], t, v, h2, g3, .trans _ _ _ h4 g4⟩
/-- What answers so of terms answers so of what holds them. -/
theorem RelP.up {c e C E : Co} {p q P Q : Int} {r r' : R2} (hc : ∀ d, 0 ≤ d → d < szC c → termP C (p - P + d) = termP c d) (he : ∀ d, 0 ≤ d → d < szC e → termP E (q - Q + d) = termP e d) (h : RelP c p e q r r') : RelP C P E Q r r' := by
  refine ⟨h.paid, h.lives.imp fun x y hx => ?_⟩
  obtain ⟨h1, t, u, h2, h3, h4⟩ := hx
  have a := term_in c _ t h2
  have b := term_in e _ u h3
  have := szC_pos t
  have := szC_pos u
  refine ⟨h1, t, u, ?_, ?_, h4⟩
  · rw [← h2, ← hc (x.1 - p) (by omega) (by omega)]; congr 1; omega
  · rw [← h3, ← he (y.1 - q) (by omega) (by omega)]; congr 1; omega
theorem kid_here {op k : Int} {t : List UInt8} {kids : List Co} {i : Nat} {c : Co} (h : kids[i]? = some c) (p : Int) : ∀ d, 0 ≤ d → d < szC c → termP (.mk op k t kids) (p + 1 + szL (kids.take i) - p + d) = termP c d := by
  intro d h0 h1
  rw [← term_kid (op := op) (k := k) (t := t) h h0 h1]
  congr 1
  omega
theorem rk_w (op : Int) (h : op = 24 ∨ op = 25 ∨ op = 26 ∨ op = 27 ∨ op = 28 ∨ op = 29 ∨ op = 30 ∨ op = 31) : ∃ ks, rkP op = some (ks, 4) := by
  rcases h with rfl | rfl | rfl | rfl | rfl | rfl | rfl | rfl <;> exact ⟨_, rfl⟩
theorem type_w {z d op k : Int} {s : List UInt8} {kids : List Co} (hz : tyOk z) (h : okT z d (.mk op k s kids) = true) (ho : op = 24 ∨ op = 25 ∨ op = 26 ∨ op = 27 ∨ op = 28 ∨ op = 29 ∨ op = 30 ∨ op = 31) : z = 4 := by
  obtain ⟨ks', hr'⟩ := rk_w op ho
  exact (shape hz h hr' (by omega)).1
/-- A right term's term is right. -/
theorem sub_ok (c : Co) : ∀ (z d q : Int) (t : Co), tyOk z → okT z d c = true → termP c q = some t → ∃ z' d', tyOk z' ∧ okT z' d' t = true := by
  induction c using Co.ind with
  | h op k s kids ih =>
    intro z d q t hz h ht
    rw [termP] at ht
    cases hq : (q == 0) with
    | true => rw [hq] at ht; cases ht; exact ⟨z, d, hz, h⟩
    | false =>
      rw [hq, cond_false] at ht
      obtain ⟨ks, hl, -, -, hk, hr⟩ := ok_inv hz h
      have hty : ∀ x ∈ ks, tyOk x := by
        rcases hr with ⟨-, -, rfl⟩ | hr
        · intro x hx
          simp only [List.mem_cons, List.not_mem_nil, or_false] at hx
          rcases hx with e | e | e
          · rw [e]; unfold tyOk; omega
          · rw [e]; exact hz
          · rw [e]; exact hz
        · exact (rk_tys hr).2
      have row : ∀ (l : List Co) (s0 : Int), (∀ x ∈ l, x ∈ kids) → termL l s0 q = some t → ∃ x ∈ kids, ∃ q', termP x q' = some t := by
        intro l
        induction l with
        | nil => intro s0 _ h; rw [termL] at h; cases h
        | cons y r ihr =>
          intro s0 hin h
          rw [termL] at h
          cases hb : (decide (s0 ≤ q) && decide (q < s0 + szC y)) with
          | true => rw [hb, cond_true] at h; exact ⟨y, hin y (by simp), _, h⟩
          | false => rw [hb, cond_false] at h; exact ihr _ (fun x hx => hin x (by simp [hx])) h
      obtain ⟨x, hx, q', hq'⟩ := row kids 1 (fun _ h => h) ht
      obtain ⟨i, hi⟩ := List.getElem?_of_mem hx
      obtain ⟨zx, hzx, hokx⟩ := okTs_at hk hi
      exact ih x hx zx (d + 1) q' t (hty zx (List.mem_of_getElem? hzx)) hokx hq'
theorem sub_w {c t : Co} {z d q : Int} (hz : tyOk z) (h : okT z d c = true) (ht : termP c q = some t) (hw : isW t = true) : ∃ d', okT 4 d' t = true := by
  obtain ⟨z', d', hz', ho⟩ := sub_ok c z d q t hz h ht
  cases t with
  | mk op k s kids =>
    simp only [isW, Bool.or_eq_true, beq_iff_eq] at hw
    have := type_w hz' ho (by omega)
    subst this
    exact ⟨d', ho⟩
/-- What waits in a right term, moved. -/
theorem Inn.rel {fs : Fs} {day : Int} {c : Co} {z d p q : Int} {r : R2} (hz : tyOk z) (h : okT z d c = true) (hi : Inn fs day c p r) : RelP c p c q r (shR (q - p) r) := by
  refine ⟨rfl, F2.mapR _ fun x hx => ?_⟩
  obtain ⟨t, h1, h2, -⟩ := hi.each x hx
  obtain ⟨d', ho⟩ := sub_w hz h h1 h2
  refine ⟨rfl, t, t, h1, ?_, .one d' t t ho (.refl _ _ _ _)⟩
  rw [← h1]
  congr 1
  simp only
  omega
theorem acq_refl {fs : Fs} {day : Int} {c : Co} {z d p q f : Int} (hz : tyOk z) (h : okT z d c = true) : RelP c p c q (acq fs day c p f) (acq fs day c q f) := by
  have := (acq_inn fs day c p f).rel (q := q) hz h
  rw [← acq_shift, show p + (q - p) = q by omega] at this
  exact this
theorem stepX_shift (fs : Fs) (day : Int) (lab : List UInt8) (which s : Int) (c : Co) (p f : Int) : stepX fs day lab which c (p + s) f = shR s (stepX fs day lab which c p f) := by
  cases c with
  | mk op k t kids =>
    rw [stepX, stepX]
    cases ((op == 31 && decide (lab ≠ []) && decide (t = lab)) && decide (day ≤ k)) with
    | false => exact acq_shift fs day s _ p f
    | true =>
      simp only [cond_true]
      cases hc : kids[(which - 1).toNat]? with
      | none => rw [acq_none fs day _ f hc, acq_none fs day _ f hc]; rfl
      | some x =>
        rw [acq_get fs day _ f hc, acq_get fs day _ f hc, ← acq_shift]
        congr 1
        omega
theorem stepX_refl {fs : Fs} {day : Int} {lab : List UInt8} {which : Int} {c : Co} {z d p q f : Int} (hz : tyOk z) (h : okT z d c = true) : RelP c p c q (stepX fs day lab which c p f) (stepX fs day lab which c q f) := by
  have := (stepX_inn fs day lab which c p f).rel (q := q) hz h
  rw [← stepX_shift, show p + (q - p) = q by omega] at this
  exact this
/-- An observable transfers nothing. -/
theorem acq_obs {fs : Fs} {day : Int} {c : Co} {z d p f : Int} (hz : tyOk z) (h : okT z d c = true) (h4 : z ≠ 4) : acq fs day c p f = r0 := by
  cases c with
  | mk op k s kids =>
    have n : ∀ o : Int, (o = 24 ∨ o = 25 ∨ o = 26 ∨ o = 27 ∨ o = 28 ∨ o = 29 ∨ o = 30 ∨ o = 31) → (op == o) = false := fun o ho => by
      rw [beq_eq_false_iff_ne]
      intro e
      subst e
      exact h4 (type_w hz h ho)
    rw [acq_op]
    unfold acqC
    simp only [n 24 (by omega), n 25 (by omega), n 26 (by omega), n 27 (by omega), n 28 (by omega), n 29 (by omega), n 30 (by omega), n 31 (by omega), cond_false]
theorem acqC_rel {Q : R2 → R2 → Prop} {day op k : Int} {t : List UInt8} {vs vs' : List (Option Int)} {br br' : List (Int → R2)} {p q f : Int} (h0 : ∀ o, Q ([], o) ([], o)) (hwt : Q (wt p f) (wt q f)) (hv : op = 26 ∨ op = 28 ∨ op = 30 → vs'.getD 0 none = vs.getD 0 none) (hbr : ∀ i g, inM g → Q (brA br i g) (brA br' i g)) (hcat : ∀ a a' b b', Q a a' → Q b b' → Q (R2.cat a b) (R2.cat a' b')) (hf : inM f) : Q (acqC day op k t vs br p f) (acqC day op k t vs' br' q f) := by
  unfold acqC
  cases h : op == 24 with
  | true => simp only [cond_true]; cases f == 0 <;> exact h0 _
  | false =>
  cases h : op == 25 with
  | true => simp only [cond_false, cond_true]; exact hbr _ _ (inM_neg f)
  | false =>
  cases h : op == 27 with
  | true => simp only [cond_false, cond_true]; exact hcat _ _ _ _ (hbr _ _ hf) (hbr _ _ hf)
  | false =>
  cases h : op == 26 with
  | true =>
    simp only [cond_false, cond_true]
    rw [hv (by have := eq_of_beq h; omega)]
    cases vs.getD 0 none with | none => exact hwt | some n => exact hbr _ _ (inM_mul f n)
  | false =>
  cases h : op == 28 with
  | true =>
    simp only [cond_false, cond_true]
    rw [hv (by have := eq_of_beq h; omega)]
    cases vs.getD 0 none with | none => exact hwt | some n => exact hbr _ _ hf
  | false =>
  cases h : op == 29 with
  | true => simp only [cond_false, cond_true]; cases decide (k ≤ day) with | true => exact hbr _ _ hf | false => exact hwt
  | false =>
  cases h : op == 30 with
  | true =>
    simp only [cond_false, cond_true]
    rw [hv (by have := eq_of_beq h; omega)]
    cases decide (k < day) with
    | true => exact h0 _
    | false =>
      simp only [cond_false]
      cases vs.getD 0 none with
      | none => exact hwt
      | some b => simp only; cases b == 1 with | true => exact hbr _ _ hf | false => exact hwt
  | false =>
  cases h : op == 31 with
  | true => simp only [cond_false, cond_true]; cases decide (k < day) with | true => exact hbr _ _ hf | false => exact hwt
  | false => exact h0 _
theorem valL_set (fs : Fs) (day : Int) {y : Co} : ∀ {l : List Co} {i : Nat} {x : Co}, l[i]? = some x → valP fs day y = valP fs day x → valL fs day (l.set i y) = valL fs day l
  | [], i, x, h, _ => by simp at h
  | z :: r, 0, x, h, e => by simp at h; subst h; rw [List.set_cons_zero, valL, valL, e]
  | z :: r, i + 1, x, h, e => by rw [List.set_cons_succ, valL, valL, valL_set fs day (l := r) (i := i) (by simpa using h) e]
theorem valL_0 (fs : Fs) (day : Int) : ∀ {l : List Co} {i : Nat} {y : Co}, i ≠ 0 → (valL fs day (l.set i y)).getD 0 none = (valL fs day l).getD 0 none
  | [], i, y, _ => by simp
  | z :: r, 0, y, h => absurd rfl h
  | z :: r, i + 1, y, _ => by rw [List.set_cons_succ, valL, valL]; rfl
theorem rk_obs {op z zx : Int} {ks : List Int} {i : Nat} (h : rkP op = some (ks, z)) (hz : z ≠ 4) (hx : ks[i]? = some zx) : zx ≠ 4 := by
  obtain ⟨o0, o1⟩ := op_small h
  have key : ∀ n : Fin 32, (match rkP ((n : Nat) : Int) with | some (l, z) => z == 4 || l.all fun x => x != 4 | none => true) = true := by decide
  have := key ⟨op.toNat, by omega⟩
  rw [show ((op.toNat : Nat) : Int) = op by omega] at this
  rw [h] at this
  simp only [Bool.or_eq_true, beq_iff_eq, List.all_eq_true, bne_iff_ne] at this
  rcases this with e | e
  · exact absurd e hz
  · exact e zx (List.mem_of_getElem? hx)
theorem rk_first {op z zx : Int} {ks : List Int} (h : rkP op = some (ks, z)) (ho : op = 26 ∨ op = 28 ∨ op = 30) (hx : ks[0]? = some zx) : zx ≠ 4 := by
  rcases ho with rfl | rfl | rfl <;> (cases h; simp at hx; omega)
/-- WHAT A RIGHT TERM MEANS, ITS REWRITING MEANS. -/
theorem rw_means {b : Bool} {z d : Int} {c e : Co} (h : Rw b z d c e) : tyOk z → okT z d c = true →
    (z ≠ 4 → ∀ fs day, RF fs → valP fs day e = valP fs day c) ∧
    (z = 4 → ∀ fs day p q f, RF fs → inM f → RelP c p e q (acq fs day c p f) (acq fs day e q f)) ∧
    (z = 4 → b = true → ∀ fs day lab which p q f, RF fs → inM f → RelP c p e q (stepX fs day lab which c p f) (stepX fs day lab which e q f)) := by
  induction h with
  | refl b z d c =>
    intro hz h
    exact ⟨fun _ _ _ _ => rfl, fun _ fs day p q f _ _ => acq_refl hz h, fun _ _ fs day lab which p q f _ _ => stepX_refl hz h⟩
  | trans b z d c e g h1 _ ih1 ih2 =>
    intro hz h
    obtain ⟨a1, a2, a3⟩ := ih1 hz h
    obtain ⟨b1, b2, b3⟩ := ih2 hz (h1.ok h)
    refine ⟨fun h4 fs day hF => by rw [b1 h4 fs day hF, a1 h4 fs day hF], fun h4 fs day p q f hF hf => (a2 h4 fs day p q f hF hf).trans (b2 h4 fs day q q f hF hf), fun h4 hb fs day lab which p q f hF hf => (a3 h4 hb fs day lab which p q f hF hf).trans (b3 h4 hb fs day lab which q q f hF hf)⟩
  | root z d c e hr hok =>
    intro hz h
    refine ⟨fun h4 fs day hF => ?_, fun h4 fs day p q f hF hf => ?_, fun _ hb => by cases hb⟩
    · rcases hr with ⟨-, hv⟩ | ⟨e4, -⟩
      · exact hv fs day hF
      · exact absurd e4 h4
    · rcases hr with ⟨e4, -⟩ | ⟨-, off, ht, ha⟩
      · exact absurd h4 e4
      · rw [ha fs day p f hF hf]
        refine (acq_refl (p := p + off) (q := q) hz hok).up (fun i h0 h1 => ?_) (fun i _ _ => by rw [show q - q + i = i by omega])
        have := (term_in c off e ht).2.2 i h0 h1
        rw [← this]
        congr 1
        omega
  | kid b z d op k s kids ks i x y zx hr hx hzx hxy hok ih =>
    intro hz h
    obtain ⟨ks', hl, ho, hd, hk, hr'⟩ := ok_inv hz h
    have hks : ks' = ks := by
      rcases hr with ⟨e, -, e2⟩ | hr <;> rcases hr' with ⟨e', -, e2'⟩ | hr'
      · rw [e2, e2']
      · rw [e] at hr'; cases hr'
      · rw [e'] at hr; cases hr
      · rw [hr] at hr'; cases hr'; rfl
    subst hks
    obtain ⟨zx', hzx', hokx⟩ := okTs_at hk hx
    rw [hzx] at hzx'
    cases hzx'
    have hty : tyOk zx := by
      rcases hr with ⟨-, -, rfl⟩ | hr
      · have := List.mem_of_getElem? hzx
        simp only [List.mem_cons, List.not_mem_nil, or_false] at this
        rcases this with e | e | e
        · rw [e]; unfold tyOk; omega
        · rw [e]; exact hz
        · rw [e]; exact hz
      · exact (rk_tys hr).2 _ (List.mem_of_getElem? hzx)
    obtain ⟨i1, i2, -⟩ := ih hty hokx
    have hRs : z = 4 → Rs (.mk op k s kids) (.mk op k s (kids.set i y)) := fun h4 => by
      subst h4
      exact .one d _ _ h (.kid true 4 d op k s kids _ i x y zx hr hx hzx hxy hok)
    have hset : (kids.set i y)[i]? = some y := by
      have := (List.getElem?_eq_some_iff.1 hx).1
      simp [this]
    have HB : ∀ fs day p q, RF fs → ∀ j g, inM g → RelP (.mk op k s kids) p (.mk op k s (kids.set i y)) q (brA (acqL fs day kids (p + 1)) j g) (brA (acqL fs day (kids.set i y) (q + 1)) j g) := by
      intro fs day p q hF j g hg
      cases hj : kids[j]? with
      | none =>
        have hj' : (kids.set i y)[j]? = none := by
          rw [List.getElem?_eq_none_iff] at hj ⊢
          simpa using hj
        rw [acq_none fs day _ g hj, acq_none fs day _ g hj']
        exact RelP.zero
      | some cj =>
        by_cases hij : j = i
        · subst hij
          rw [hx] at hj
          cases hj
          rw [acq_get fs day _ g hx, acq_get fs day _ g hset]
          by_cases h4 : zx = 4
          · exact (i2 h4 fs day _ _ g hF hg).up (kid_here hx p) (kid_here hset q)
          · rw [acq_obs hty hokx h4, acq_obs hty (hxy.ok hokx) h4]
            exact RelP.zero
        · have hj' : (kids.set i y)[j]? = some cj := by rw [List.getElem?_set_ne (by omega)]; exact hj
          rw [acq_get fs day _ g hj, acq_get fs day _ g hj']
          obtain ⟨zj, hzj, hokj⟩ := okTs_at hk hj
          have htj : tyOk zj := by
            rcases hr with ⟨-, -, rfl⟩ | hr
            · have := List.mem_of_getElem? hzj
              simp only [List.mem_cons, List.not_mem_nil, or_false] at this
              rcases this with e | e | e
              · rw [e]; unfold tyOk; omega
              · rw [e]; exact hz
              · rw [e]; exact hz
            · exact (rk_tys hr).2 _ (List.mem_of_getElem? hzj)
          exact (acq_refl htj hokj).up (kid_here hj p) (kid_here hj' q)
    have HA : z = 4 → ∀ fs day p q f, RF fs → inM f → RelP (.mk op k s kids) p (.mk op k s (kids.set i y)) q (acq fs day (.mk op k s kids) p f) (acq fs day (.mk op k s (kids.set i y)) q f) := by
      intro h4 fs day p q f hF hf
      rw [acq_op, acq_op]
      refine acqC_rel (fun o => RelP.zero) (RelP.wait (hRs h4)) (fun hop => ?_) (HB fs day p q hF) (fun _ _ _ _ ha hb => ha.cat hb) hf
      by_cases hi : i = 0
      · subst hi
        have hr4 : rkP op = some (ks', z) := by
          rcases hr with ⟨-, e, -⟩ | hr
          · exact absurd h4 e
          · exact hr
        rw [valL_set fs day hx (i1 (rk_first hr4 hop hzx) fs day hF)]
      · exact valL_0 fs day hi
    refine ⟨fun h4 fs day hF => ?_, HA, fun h4 hb fs day lab which p q f hF hf => ?_⟩
    · have hx4 : zx ≠ 4 := by
        rcases hr with ⟨-, -, rfl⟩ | hr
        · have := List.mem_of_getElem? hzx
          simp only [List.mem_cons, List.not_mem_nil, or_false] at this
          omega
        · exact rk_obs hr h4 hzx
      rw [valP, valP, valL_set fs day hx (i1 hx4 fs day hF)]
    · rw [stepX, stepX]
      cases ((op == 31 && decide (lab ≠ []) && decide (s = lab)) && decide (day ≤ k)) with
      | true => exact HB fs day p q hF _ f hf
      | false => exact HA h4 fs day p q f hF hf
  | later b d n m s s' x hok =>
    intro hz h
    obtain ⟨-, ho, -, -, hk⟩ := shape hz h (ks := [4]) (t := 4) rfl (by omega)
    have hk1 : okT 4 (d + 1) (.mk 29 m s' [x]) = true := by simpa only [okTs, Bool.and_true] using hk
    obtain ⟨-, ho1, -, -, hk2⟩ := shape hz hk1 (ks := [4]) (t := 4) rfl (by omega)
    have hk3 : okT 4 (d + 1 + 1) x = true := by simpa only [okTs, Bool.and_true] using hk2
    have hs' : s' = [] := own_leaf ho1 (by omega) (by omega) (by omega)
    have HA : ∀ fs day p q f, RelP (.mk 29 n s [.mk 29 m s' [x]]) p (.mk 29 (max n m) [] [x]) q (acq fs day (.mk 29 n s [.mk 29 m s' [x]]) p f) (acq fs day (.mk 29 (max n m) [] [x]) q f) := by
      intro fs day p q f
      rw [acq_29, acq_29, acq_29]
      by_cases hn : n ≤ day
      · by_cases hm : m ≤ day
        · rw [decide_eq_true hn, decide_eq_true hm, decide_eq_true (show max n m ≤ day by omega)]
          simp only [cond_true]
          refine (acq_refl (p := p + 1 + 1) (q := q + 1) hz hk3).up (fun i h0 h1 => ?_) (fun i h0 h1 => ?_)
          · have := (term_in _ 2 x (termG 29 n 29 m s s' x)).2.2 i h0 h1
            rw [← this]
            congr 1
            omega
          · have := (term_in _ 1 x (term1 29 (max n m) [] x [])).2.2 i h0 h1
            rw [← this]
            congr 1
            omega
        · rw [decide_eq_true hn, decide_eq_false hm, decide_eq_false (show ¬ max n m ≤ day by omega)]
          simp only [cond_true, cond_false]
          have e : max n m = m := by omega
          rw [e, hs']
          refine ⟨rfl, .cons ⟨rfl, .mk 29 m [] [x], .mk 29 m [] [x], ?_, ?_, .one (d + 1) _ _ (by rw [hs'] at hk1; exact hk1) (.refl _ _ _ _)⟩ .nil⟩
          · rw [show (p + 1, f).1 - p = 1 by simp; omega]; exact term1 _ _ _ _ _
          · rw [show (q, f).1 - q = 0 by simp]; exact term_zero _
      · rw [decide_eq_false hn, decide_eq_false (show ¬ max n m ≤ day by omega)]
        simp only [cond_false]
        exact RelP.wait (.one d _ _ h (.later true d n m s s' x hok))
    refine ⟨fun h4 => absurd rfl h4, fun _ fs day p q f _ _ => HA fs day p q f, fun _ _ fs day lab which p q f _ _ => ?_⟩
    have e : ∀ k t l, stepX fs day lab which (.mk 29 k t l) = acq fs day (.mk 29 k t l) := fun k t l => by
      funext p f; rw [stepX, show ((29 : Int) == 31) = false from rfl]; rfl
    rw [e, e]
    exact HA fs day p q f
  | empt b d n s x hok =>
    intro hz h
    have HA : ∀ fs day p q f, RelP (.mk 30 n s [truC 0, x]) p (.mk 30 n [] [truC 0, czC]) q (acq fs day (.mk 30 n s [truC 0, x]) p f) (acq fs day (.mk 30 n [] [truC 0, czC]) q f) := by
      intro fs day p q f
      rw [acq_30, acq_30, val_tru]
      cases decide (n < day) with
      | true => exact RelP.zero
      | false => exact RelP.wait (.one d _ _ h (.empt true d n s x hok))
    refine ⟨fun h4 => absurd rfl h4, fun _ fs day p q f _ _ => HA fs day p q f, fun _ _ fs day lab which p q f _ _ => ?_⟩
    have e : ∀ k t l, stepX fs day lab which (.mk 30 k t l) = acq fs day (.mk 30 k t l) := fun k t l => by
      funext p f; rw [stepX, show ((30 : Int) == 31) = false from rfl]; rfl
    rw [e, e]
    exact HA fs day p q f
theorem rs_step {t u : Co} (h : Rs t u) {fs : Fs} (hF : RF fs) (day : Int) (lab : List UInt8) (which : Int) : ∀ p q f, inM f → RelP t p u q (stepX fs day lab which t p f) (stepX fs day lab which u q f) := by
  induction h with
  | one d t u ho h => exact fun p q f hf => (rw_means h (.inr (.inr (.inr rfl))) ho).2.2 rfl rfl fs day lab which p q f hF hf
  | trans t u v _ _ ih1 ih2 => exact fun p q f hf => (ih1 p q f hf).trans (ih2 q q f hf)
/-- Lives that answer each other, stepped. -/
theorem steps_rel {c e : Co} {fs : Fs} (hF : RF fs) (day : Int) (lab : List UInt8) (which : Int) : ∀ {l l' : List (Int × Int)}, F2 (Lv c 0 e 0) l l' → (∀ x ∈ l, inM x.2) → RelP c 0 e 0 (stepP fs day lab which c l) (stepP fs day lab which e l')
  | [], _, .nil, _ => by rw [stepP, stepP]; exact RelP.zero
  | x :: r, _, .cons (b := y) (l' := r') h hr, hf => by
    rw [stepP, stepP]
    obtain ⟨h1, t, u, h2, h3, h4⟩ := h
    rw [Int.sub_zero] at h2 h3
    rw [h2, h3, h1]
    refine RelP.cat ?_ (steps_rel hF day lab which hr fun y hy => hf y (by simp [hy]))
    refine (rs_step h4 hF day lab which x.1 y.1 x.2 (hf x (by simp))).up (fun i h0 h1 => ?_) (fun i h0 h1 => ?_)
    · have := (term_in c _ t h2).2.2 i h0 h1
      rw [← this]; congr 1; omega
    · have := (term_in e _ u h3).2.2 i h0 h1
      rw [← this]; congr 1; omega
end Go.Proofs.YtekgfdbeinacjaaGreatDoor
