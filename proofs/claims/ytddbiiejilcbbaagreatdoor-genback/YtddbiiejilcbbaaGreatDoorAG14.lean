/- texts put together: NtV NA NB NTold NReck NVal NVal2 NVal3 NSp NLay NAc NRd NAcq0 GMk OP1 OP2 OP3 ON1 ON2 ON3 ON4 ON5 ON6 ON7 ON8 OP4 -/
import Derived.Test.YtddbiiejilcbbaaGreatDoorAG12
import Derived.Test.YtddbiiejilcbbaaGreatDoorAG2
import Derived.Test.YtddbiiejilcbbaaGreatDoorAG13
import Derived.Test.YtddbiiejilcbbaaGreatDoorAG3
import Derived.Test.YtddbiiejilcbbaaGreatDoorShelf
import Derived.Lib.Bytealg
import Derived.Laws.AppendOwn
namespace Go.Proofs.YtddbiiejilcbbaaGreatDoor
open Go Go.RowKit

theorem day_date : ∀ n : Nat, n ≤ 73048 → ∃ y m d, Dt y m d ∧ dn y m d = n
  | 0, _ => ⟨0, 0, 1, ⟨by omega, by omega, by omega, by decide⟩, by decide⟩
  | n + 1, h => by
    obtain ⟨y, m, d, hD, hn⟩ := day_date n (by omega)
    obtain ⟨h1, h2, h3, h4⟩ := id hD
    by_cases hd : d + 1 ≤ ml (1900 + y) m
    · exact ⟨y, m, d + 1, ⟨h1, h2, by omega, hd⟩, by unfold dn at hn ⊢; omega⟩
    · by_cases hm : m + 1 < 12
      · have hg := ml_ge (1900 + y) hm
        refine ⟨y, m + 1, 1, ⟨h1, hm, by omega, by omega⟩, ?_⟩
        unfold dn at hn ⊢
        rw [md_step]
        omega
      · have hm11 : m = 11 := by omega
        subst hm11
        have h12 := md_twelve (1900 + y)
        rw [md_step] at h12
        by_cases hy : y + 1 < 200
        · refine ⟨y + 1, 0, 1, ⟨hy, by omega, by omega, by have := ml_ge (1900 + (y + 1)) (m := 0) (by omega); omega⟩, ?_⟩
          unfold dn at hn ⊢
          rw [yd_step]
          have : md (1900 + (y + 1)) 0 = 0 := rfl
          omega
        · have hy199 : y = 199 := by omega
          subst hy199
          have := yd_step 199
          rw [yd_all] at this
          unfold dn at hn
          omega
theorem ymd_spec {n : Nat} (h : n ≤ 73048) : Dt (ymdO n).1 (ymdO n).2.1 (ymdO n).2.2 ∧ dn (ymdO n).1 (ymdO n).2.1 (ymdO n).2.2 = n := by
  obtain ⟨y, m, d, h1, h2⟩ := day_date n h
  rw [ymd_eq h1 h2]
  exact ⟨h1, h2⟩
/-- A value of a type. -/
def kd (z v : Int) : Prop := (z = 0 → inM v) ∧ (z = 1 → v = 0 ∨ v = 1) ∧ (z = 2 → 0 ≤ v ∧ v ≤ 73048)
theorem kd0 {v : Int} (h : inM v) : kd 0 v := ⟨fun _ => h, by omega, by omega⟩
theorem kd1 {v : Int} (h : v = 0 ∨ v = 1) : kd 1 v := ⟨by omega, fun _ => h, by omega⟩
theorem kd2 {v : Int} (h : 0 ≤ v ∧ v ≤ 73048) : kd 2 v := ⟨by omega, by omega, fun _ => h⟩
theorem tys_at : ∀ {kids : List Co} {d : Int} {l : List Int}, tysF d kids = some l → l.length = kids.length ∧ ∀ (i : Nat) (c : Co), kids[i]? = some c → ∃ x, l[i]? = some x ∧ typF d c = (x, true)
  | [], d, l, h => by rw [tysF] at h; cases h; simp
  | c :: r, d, l, h => by
    rw [tysF] at h
    cases hc : typF d c with
    | mk z b =>
    rw [hc] at h
    cases b with
    | false => cases h
    | true =>
      cases hr : tysF d r with
      | none => rw [hr] at h; cases h
      | some q =>
        rw [hr] at h
        simp only [cond_true, Option.map_some, Option.some.injEq] at h
        subst h
        obtain ⟨h1, h2⟩ := tys_at hr
        refine ⟨by simp [h1], fun i c' hi => ?_⟩
        cases i with
        | zero => simp at hi; subst hi; exact ⟨z, rfl, hc⟩
        | succ i => simpa using h2 i c' (by simpa using hi)
theorem rk_ob : ∀ n : Fin 32, (match rkP ((n : Nat) : Int) with | some (ks, z) => z == 4 || (((n : Nat) ≤ 5 || needP ((n : Nat) : Int) ≤ ks.length) && ks.all fun x => x != 4) | none => true) = true := by decide
theorem op_small {op z : Int} {ks : List Int} (h : rkP op = some (ks, z)) : 0 ≤ op ∧ op ≤ 31 := by
  by_cases ho : op < 0 ∨ 31 < op
  · rw [(rk_out ho).1] at h; cases h
  · omega
theorem end_shape {op z : Int} {l : List Int} (h : endF op l = (z, true)) : (op = 22 ∧ z ≠ 4 ∧ l = [1, z, z]) ∨ rkP op = some (l, z) := by
  unfold endF at h
  cases h22 : (op == 22) with
  | true =>
    rw [h22, cond_true] at h
    simp only [Prod.mk.injEq] at h
    obtain ⟨y, rfl, hy⟩ := if_shape h.2
    have e : y = z := h.1
    subst e
    exact .inl ⟨eq_of_beq h22, hy, rfl⟩
  | false =>
    rw [h22, cond_false] at h
    cases hr : rkP op with
    | none => rw [hr] at h; cases h
    | some q =>
      obtain ⟨ks, t⟩ := q
      rw [hr] at h
      simp only at h
      cases hlen : ((ks.length : Int) != (l.length : Int)) with
      | true => rw [hlen] at h; cases h
      | false =>
        rw [hlen, cond_false] at h
        cases hq : (ks == l) with
        | false => rw [hq] at h; cases h
        | true =>
          rw [hq] at h
          cases h
          have := eq_of_beq hq
          subst this
          exact .inr rfl
theorem obL_of : ∀ {l : List Co}, (∀ c ∈ l, obP c = true) → obL l = true
  | [], _ => rfl
  | c :: r, h => by rw [obL, h c (by simp), obL_of (fun x hx => h x (by simp [hx]))]; rfl
theorem ob_right (c : Co) : ∀ d z, typF d c = (z, true) → z ≠ 4 → obP c = true := by
  induction c using Co.ind with
  | h op k t kids ih =>
    intro d z ht hz
    obtain ⟨-, -, -, l, hl, he⟩ := typ_parts.1 ht
    obtain ⟨hlen, hat⟩ := tys_at hl
    have kidsOb : (∀ x ∈ l, x ≠ 4) → obL kids = true := fun hx => obL_of fun c hc => by
      obtain ⟨i, hi⟩ := List.getElem?_of_mem hc
      obtain ⟨x, h1, h2⟩ := hat i c hi
      exact ih c hc _ _ h2 (hx x (List.mem_of_getElem? h1))
    rw [obP]
    rcases end_shape he with ⟨rfl, h4, rfl⟩ | hr
    · have h3 : kids.length = 3 := by simpa using hlen.symm
      rw [kidsOb (by simp; omega), decide_eq_true (by rw [h3]; decide)]
      rfl
    · obtain ⟨o0, o1⟩ := op_small hr
      have hn : ((op.toNat : Nat) : Int) = op := by omega
      have := rk_ob ⟨op.toNat, by omega⟩
      simp only [hn, hr, Bool.or_eq_true, Bool.and_eq_true, beq_iff_eq, decide_eq_true_eq, List.all_eq_true, bne_iff_ne] at this
      rcases this with h | ⟨h1, h2⟩
      · exact absurd h hz
      · have hob := kidsOb h2
        rcases h1 with h5 | h5
        · have : op = 0 ∨ (op == 1 || op == 2 || op == 3 || op == 4 || op == 5) = true := by
            by_cases e : op = 0
            · exact .inl e
            · refine .inr ?_
              simp only [Bool.or_eq_true, beq_iff_eq]
              omega
          rcases this with e | e
          · subst e; cases hr
          · rw [e]; rfl
        · rw [hob, decide_eq_true (by omega)]
          simp
/-- What right feeds tell is within limits. -/
def RF (fs : Fs) : Prop := ∀ f ∈ fs, ∀ q ∈ f.2, inM q.2
theorem stp_in {day : Int} : ∀ {l : List (Int × Int)} {r : Option Int} {v : Int}, (∀ q ∈ l, inM q.2) → (∀ x, r = some x → inM x) → stpP day r l = some v → inM v
  | [], r, v, _, hr, h => hr v h
  | q :: l, r, v, hl, hr, h => by
    unfold stpP at h
    rw [List.foldl_cons] at h
    refine stp_in (l := l) (fun x hx => hl x (by simp [hx])) ?_ h
    intro x hx
    cases hd : decide (q.1 ≤ day) with
    | true => rw [hd] at hx; cases hx; exact hl q (by simp)
    | false => rw [hd] at hx; exact hr x hx
theorem fed_in {name : List UInt8} {day v : Int} : ∀ {fs : Fs}, RF fs → fedP name day fs = some v → inM v
  | [], _, h => by cases h
  | f :: r, hf, h => by
    rw [fedP] at h
    cases hd : decide (f.1 ≠ name) with
    | true => rw [hd] at h; exact fed_in (fs := r) (fun g hg => hf g (by simp [hg])) h
    | false => rw [hd] at h; exact stp_in (hf f (by simp)) (by simp) h
theorem inM_clamp (a : Int) : inM (clampI a) := ⟨clampI_ge a, clampI_le a⟩
theorem inM_div (a b : Int) : inM (divI a b) := by
  unfold divI
  split
  · exact ⟨by omega, by omega⟩
  · exact ⟨ratI_ge _ _ _, ratI_le _ _ _⟩
theorem trP_01 (b : Bool) : trP b = 0 ∨ trP b = 1 := by cases b <;> simp [trP]
theorem rk_two : ∀ n : Fin 32, (match rkP ((n : Nat) : Int) with | some (_, z) => ((n : Nat) ≤ 6) || (n : Nat) == 14 || (n : Nat) == 15 || (n : Nat) == 16 || z == 4 || (bif (n : Nat) ≤ 10 || (n : Nat) == 20 || (n : Nat) == 21 then z == 0 else bif (n : Nat) == 18 || (n : Nat) == 19 then z == 2 else z == 1) | none => true) = true := by decide
/-- What two come to is of its kind. -/
theorem two_kd {op z : Int} {ks : List Int} (h : rkP op = some (ks, z)) (hz : z ≠ 4) (h6 : 6 < op) (h14 : op ≠ 14) (h15 : op ≠ 15) (h16 : op ≠ 16) (a b : Int) : kd z (twoP op a b) := by
  obtain ⟨o0, o1⟩ := op_small h
  have hn : ((op.toNat : Nat) : Int) = op := by omega
  have hr := rk_two ⟨op.toNat, by omega⟩
  simp only [hn, h] at hr
  have e6 : (decide (op.toNat ≤ 6)) = false := decide_eq_false (by omega)
  have e14 : (op.toNat == 14) = false := by rw [beq_eq_false_iff_ne]; omega
  have e15 : (op.toNat == 15) = false := by rw [beq_eq_false_iff_ne]; omega
  have e16 : (op.toNat == 16) = false := by rw [beq_eq_false_iff_ne]; omega
  have ez : (z == 4) = false := by rw [beq_eq_false_iff_ne]; exact hz
  rw [e6, e14, e15, e16, ez] at hr
  simp only [Bool.or_self, Bool.false_or] at hr
  have hne : ∀ c : Int, op ≠ c → (op == c) = false := fun c hc => by rw [beq_eq_false_iff_ne]; exact hc
  by_cases c1 : op.toNat ≤ 10 ∨ op.toNat = 20 ∨ op.toNat = 21
  · have e : (decide (op.toNat ≤ 10) || op.toNat == 20 || op.toNat == 21) = true := by
      simp only [Bool.or_eq_true, decide_eq_true_eq, beq_iff_eq]; omega
    rw [e, cond_true] at hr
    have hz0 := eq_of_beq hr
    subst hz0
    have : op = 7 ∨ op = 8 ∨ op = 9 ∨ op = 10 ∨ op = 20 ∨ op = 21 := by omega
    rcases this with rfl | rfl | rfl | rfl | rfl | rfl
    · exact kd0 (inM_clamp _)
    · exact kd0 (inM_clamp _)
    · exact kd0 (inM_mul _ _)
    · exact kd0 (inM_div _ _)
    · exact kd0 (show inM (shareV ((clampD b : Int) - (clampD a : Int)) 365) from inM_div _ _)
    · exact kd0 (show inM (y30I a b) from by unfold y30I shareV; exact inM_div _ _)
  · have e : (decide (op.toNat ≤ 10) || op.toNat == 20 || op.toNat == 21) = false := by
      simp only [Bool.or_eq_false_iff, decide_eq_false_iff_not, beq_eq_false_iff_ne]; omega
    rw [e, cond_false] at hr
    by_cases c2 : op.toNat = 18 ∨ op.toNat = 19
    · have e2 : (op.toNat == 18 || op.toNat == 19) = true := by simp only [Bool.or_eq_true, beq_iff_eq]; omega
      rw [e2, cond_true] at hr
      have hz0 := eq_of_beq hr
      subst hz0
      have : op = 18 ∨ op = 19 := by omega
      rcases this with rfl | rfl
      · refine kd2 ?_
        show 0 ≤ ((plusV a (whoI b) : Nat) : Int) ∧ ((plusV a (whoI b) : Nat) : Int) ≤ 73048
        have : plusV a (whoI b) ≤ 73048 := clampD_le _
        omega
      · refine kd2 ?_
        show 0 ≤ monI a (whoI b) ∧ monI a (whoI b) ≤ 73048
        unfold monI
        have := monV_le _ _ _ (whoI b) (ymd_spec (clampD_le a)).1
        omega
    · have e2 : (op.toNat == 18 || op.toNat == 19) = false := by simp only [Bool.or_eq_false_iff, beq_eq_false_iff_ne]; omega
      rw [e2, cond_false] at hr
      have hz0 := eq_of_beq hr
      subst hz0
      have : op = 11 ∨ op = 12 ∨ op = 13 ∨ op = 17 ∨ (op ≠ 11 ∧ op ≠ 12 ∧ op ≠ 13 ∧ op ≠ 17) := by omega
      rcases this with rfl | rfl | rfl | rfl | hx
      · exact kd1 (trP_01 _)
      · exact kd1 (trP_01 _)
      · exact kd1 (trP_01 _)
      · exact kd1 (trP_01 _)
      · exfalso
        have : op = 22 ∨ op = 23 ∨ op = 24 ∨ op = 25 ∨ op = 26 ∨ op = 27 ∨ op = 28 ∨ op = 29 ∨ op = 30 ∨ op = 31 := by omega
        rcases this with rfl | rfl | rfl | rfl | rfl | rfl | rfl | rfl | rfl | rfl <;> simp [rkP] at h
theorem rk_leaf : rkP 1 = some ([], 0) ∧ rkP 2 = some ([], 1) ∧ rkP 3 = some ([], 2) ∧ rkP 4 = some ([], 0) ∧ rkP 5 = some ([], 2) ∧ rkP 6 = some ([0], 0) ∧ rkP 14 = some ([1], 1) ∧ rkP 15 = some ([1, 1], 1) ∧ rkP 16 = some ([1, 1], 1) := by decide
theorem val_opt {fs : Fs} {day : Int} {kids : List Co} {i : Nat} {v : Int} (h : (valL fs day kids).getD i none = some v) : ∃ c, kids[i]? = some c ∧ valP fs day c = some v := by
  have len : ∀ l : List Co, (valL fs day l).length = l.length := by
    intro l
    induction l with
    | nil => rw [valL]; rfl
    | cons c r ih => rw [valL]; simp [ih]
  cases hc : kids[i]? with
  | none =>
    have hl : kids.length ≤ i := by simpa using hc
    rw [List.getD_eq_getElem?_getD, List.getElem?_eq_none (by rw [len]; exact hl)] at h
    cases h
  | some c => exact ⟨c, rfl, by rw [← val_get fs day hc]; exact h⟩
/-- An observable's value is of its kind. -/
theorem val_kd {fs : Fs} {day : Int} (hF : RF fs) (c : Co) : ∀ d z v, typF d c = (z, true) → z ≠ 4 → valP fs day c = some v → kd z v := by
  induction c using Co.ind with
  | h op k t kids ih =>
    intro d z v ht hz hv
    obtain ⟨hown, -, -, l, hl, he⟩ := typ_parts.1 ht
    obtain ⟨hlen, hat⟩ := tys_at hl
    obtain ⟨r1, r2, r3, r4, r5, r6, r14, r15, r16⟩ := rk_leaf
    have kid : ∀ (i : Nat) (x w : Int), l[i]? = some x → x ≠ 4 → (valL fs day kids).getD i none = some w → kd x w := by
      intro i x w hx hx4 hw
      obtain ⟨c, hc, hcv⟩ := val_opt hw
      obtain ⟨x', hx', htc⟩ := hat i c hc
      rw [hx] at hx'
      cases hx'
      exact ih c (List.mem_of_getElem? hc) _ _ _ htc hx4 hcv
    rw [valP] at hv
    unfold valC at hv
    unfold ownC ownN at hown
    rcases end_shape he with ⟨rfl, h4, rfl⟩ | hr
    · simp only [show ((22 : Int) == 1 || (22 : Int) == 2 || (22 : Int) == 3) = false by decide, show ((22 : Int) == 4) = false by decide, show ((22 : Int) == 5) = false by decide, show ((22 : Int) == 6) = false by decide, show ((22 : Int) == 14) = false by decide, show ((22 : Int) == 15) = false by decide, show ((22 : Int) == 16) = false by decide, show ((22 : Int) == 22) = true by decide, cond_false, cond_true] at hv
      cases h0 : (valL fs day kids).getD 0 none with
      | none => rw [h0] at hv; cases hv
      | some a =>
        rw [h0] at hv
        simp only at hv
        cases ha : (a == 1) with
        | true => rw [ha, cond_true] at hv; exact kid 1 z v rfl h4 hv
        | false => rw [ha, cond_false] at hv; exact kid 2 z v rfl h4 hv
    · by_cases e1 : op = 1
      · subst e1
        rw [r1] at hr; cases hr; cases hv
        simp [inW] at hown
        exact kd0 ⟨by omega, by omega⟩
      by_cases e2 : op = 2
      · subst e2
        rw [r2] at hr; cases hr; cases hv
        simp [inW] at hown
        exact kd1 (by omega)
      by_cases e3 : op = 3
      · subst e3
        rw [r3] at hr; cases hr; cases hv
        simp [inW] at hown
        exact kd2 (by omega)
      have hn : ∀ c : Int, op ≠ c → (op == c) = false := fun c hc => by rw [beq_eq_false_iff_ne]; exact hc
      simp only [hn 1 e1, hn 2 e2, hn 3 e3, Bool.or_self, cond_false] at hv
      by_cases e4 : op = 4
      · subst e4
        rw [r4] at hr; cases hr
        exact kd0 (fed_in hF hv)
      by_cases e5 : op = 5
      · subst e5
        rw [r5] at hr; cases hr
        simp only [hn 4 e4, beq_self_eq_true, cond_false, cond_true, Option.some.injEq] at hv
        have := clampD_le (IntKind.i64.wrap (day - k))
        exact kd2 (by omega)
      simp only [hn 4 e4, hn 5 e5, cond_false] at hv
      cases h0 : (valL fs day kids).getD 0 none with
      | none => rw [h0] at hv; cases hv
      | some a =>
      rw [h0] at hv
      simp only at hv
      by_cases e6 : op = 6
      · subst e6
        rw [r6] at hr; cases hr; cases hv
        exact kd0 (inM_neg a)
      by_cases e14 : op = 14
      · subst e14
        rw [r14] at hr; cases hr
        simp only [hn 6 e6, beq_self_eq_true, cond_false, cond_true, Option.some.injEq] at hv
        have ha := (kid 0 1 a rfl (by omega) h0).2.1 rfl
        have hw : IntKind.i64.wrap (1 - a) = 1 - a := IntWalk.i64_in _ ⟨by omega, by omega⟩
        rw [hw] at hv
        exact kd1 (by omega)
      simp only [hn 6 e6, hn 14 e14, cond_false] at hv
      by_cases e15 : op = 15
      · subst e15
        rw [r15] at hr; cases hr
        simp only [beq_self_eq_true, cond_true] at hv
        cases ha : (a == 0) with
        | true => rw [ha] at hv; cases hv; exact kd1 (.inl rfl)
        | false => rw [ha] at hv; exact kid 1 1 v rfl (by omega) hv
      by_cases e16 : op = 16
      · subst e16
        rw [r16] at hr; cases hr
        simp only [hn 15 e15, beq_self_eq_true, cond_false, cond_true] at hv
        cases ha : (a == 1) with
        | true => rw [ha] at hv; cases hv; exact kd1 (.inr rfl)
        | false => rw [ha] at hv; exact kid 1 1 v rfl (by omega) hv
      have e22 : op ≠ 22 := by rintro rfl; simp [rkP] at hr
      simp only [hn 15 e15, hn 16 e16, hn 22 e22, cond_false] at hv
      cases h1 : (valL fs day kids).getD 1 none with
      | none => rw [h1] at hv; cases hv
      | some b =>
        rw [h1] at hv
        cases hv
        have hsm := op_small hr
        have e0 : op ≠ 0 := by rintro rfl; simp [rkP] at hr
        exact two_kd hr hz (by omega) e14 e15 e16 a b
end Go.Proofs.YtddbiiejilcbbaaGreatDoor
namespace Go.Proofs.YtddbiiejilcbbaaGreatDoor
open Go Go.RowKit

end Go.Proofs.YtddbiiejilcbbaaGreatDoor
namespace Go.Proofs.YtddbiiejilcbbaaGreatDoor
open Go Go.RowKit

theorem loadAgg {t : TypeId} {n : Nat} (ha : ∀ w, (isAgg t).run Tryz.prog w = .ok true w) (hs : (Tryz.prog.info? t).map (·.size) = some n) {w : World} {b o : Nat} (l : List Value) (hl : l.length = n) (h : ∀ j x, l[j]? = some x → w.cell? ⟨b, o + j, none⟩ = some x) : (Instr.loadAt t (.pointer (some ⟨b, o, none⟩))).run Tryz.prog w = .ok (.agg l.toArray) w := by
  have hc := run_loadCells_list (P := Tryz.prog) w ⟨b, o, none⟩ l (fun j x hx => by rw [add_lit]; exact h j x hx)
  subst hl
  simp only [Instr.loadAt, Instr.sureAddr, Sem.run_bind, Sem.run_pure, Result.andThen, loadVar, ha, run_size hs, hc, if_true]
end Go.Proofs.YtddbiiejilcbbaaGreatDoor
namespace Go.Proofs.YtddbiiejilcbbaaGreatDoor
open Go Go.RowKit

end Go.Proofs.YtddbiiejilcbbaaGreatDoor
namespace Go.Proofs.YtddbiiejilcbbaaGreatDoor
open Go Go.RowKit

theorem belD {w w' : World} {e : Ending} {v : Value} (h : e = .returned v ∧ ∃ n, w' = w.drewN n) : e = .returned v ∧ Below w.heap.size w w' := by
  obtain ⟨h1, n, rfl⟩ := h
  exact ⟨h1, drewN_below w n⟩
theorem pmonI_any (day n : Int) (w : World) (ht : Tab w) : Calls Tryz.prog 154 #[.int .i64 day, .int .i64 n] w fun e w' => e = .returned (.int .i64 (monI day n)) ∧ Below w.heap.size w w' :=
  (months_any day n w ht).mono fun e w' ⟨y, m, d, h1, h2, he, hB⟩ => ⟨by rw [he]; unfold monI; rw [ymd_eq h1 h2], hB⟩
theorem py30I_any (a b : Int) (w : World) (ht : Tab w) : Calls Tryz.prog 156 #[.int .i64 a, .int .i64 b] w fun e w' => e = .returned (.int .i64 (y30I a b)) ∧ Below w.heap.size w w' :=
  (years30_any a b w ht).mono fun e w' ⟨y, m, d, y', m', d', h1, h2, h3, h4, he, hB⟩ => ⟨by rw [he]; unfold y30I; rw [ymd_eq h1 h2, ymd_eq h3 h4], hB⟩

noncomputable def rckP (op a b : Int) : Int :=
  bif op == 6 then - clampI a else bif op == 7 then clampI (clampI a + clampI b) else bif op == 8 then clampI (clampI a - clampI b) else bif op == 9 then mulI a b else bif op == 10 then divI a b else bif op == 11 || op == 17 then trP (decide (a < b)) else bif op == 12 then trP (decide (a ≤ b)) else bif op == 13 then trP (a == b) else bif op == 14 then trP (a == 0) else bif op == 18 then ((plusV a (whoI b) : Nat) : Int) else bif op == 19 then monI a (whoI b) else bif op == 20 then shareV ((clampD b : Int) - (clampD a : Int)) 365 else y30I a b
end Go.Proofs.YtddbiiejilcbbaaGreatDoor
namespace Go.Proofs.YtddbiiejilcbbaaGreatDoor
open Go Go.RowKit

end Go.Proofs.YtddbiiejilcbbaaGreatDoor
namespace Go.Proofs.YtddbiiejilcbbaaGreatDoor
open Go Go.RowKit

section
variable {fs : Fs} {a : Option Addr} {N cF : Nat} {day : Int}
end
end Go.Proofs.YtddbiiejilcbbaaGreatDoor
namespace Go.Proofs.YtddbiiejilcbbaaGreatDoor
open Go Go.RowKit

end Go.Proofs.YtddbiiejilcbbaaGreatDoor
namespace Go.Proofs.YtddbiiejilcbbaaGreatDoor
open Go Go.RowKit

section
variable {P : Program} {F : Exit → Act → World → Prop} {Inv : World → Prop} {s : St}
/-- A block is made, and it is no elder one. -/
def mkSt (P : Program) (g : Nat) (s : St) : St :=
  match mkG P ⟨s, [], [], []⟩ [g] with
  | some (y, _) => y.st
  | none => s
theorem Goes.new1 (n1 : Nat) (hn1 : ∀ w, Inv w → n1 ≤ w.heap.size) (h : ∀ g, n1 ≤ g → Goes P F Inv (mkSt P g s)) (hs : ∀ g, (mkG P ⟨s, [], [], []⟩ [g]).map (fun q => (q.1.on, q.1.ob)) = some ([], []) := by intro g; kernel_rfl) : Goes P F Inv s := by
  intro w hm hn hI
  have hg := hs w.heap.size
  have hG := h w.heap.size (hn1 w hI.now)
  cases hmk : mkG P ⟨s, [], [], []⟩ [w.heap.size] with
  | none => rw [hmk] at hg; cases hg
  | some q =>
    obtain ⟨y, gs⟩ := q
    unfold mkSt at hG
    rw [hmk] at hG hg
    simp only at hG
    simp only [Option.map_some, Option.some.injEq, Prod.mk.injEq] at hg
    unfold mkG at hmk
    simp only at hmk
    split at hmk
    · rename_i ops o rest res k hno
      split at hmk
      · rename_i hc
        simp only [Bool.and_eq_true] at hc
        split at hmk
        · rename_i y' hd
          cases hmk
          exact doOp_goes (x := ⟨s, [], [], []⟩) (nextOp_todo hno) hd (wants_ok hno hc.2) ⟨by rw [hg.1]; simp, by rw [hg.2]; simp⟩ hG hm hn hI (fun n e => by cases e; rfl)
        · cases hmk
      · cases hmk
    · cases hmk
end
/-- A row lies in no block of another type. -/
theorem own_not {w : World} {b1 e1 s1 n1 e g : Nat} {v1 : Value} {x1 : List Value} {c : Array Value} {z : Nat × Nat} (h : w.ownsRow b1 e1 s1 v1 n1 x1) (hg : w.heap[g]? = some (.cells c e z)) (he : e1 ≠ e) : v1.ownBlock ≠ some g := by
  intro hb
  rcases h.2 with ⟨rfl, -⟩ | ⟨g', cap, cur, rfl, -, hg', -⟩
  · cases hb
  · cases hb
    rw [hg] at hg'
    simp at hg'
    exact he hg'.2.1.symm
theorem own_ch {w w' : World} {b1 e1 s1 n1 : Nat} {v1 : Value} {x1 : List Value} {L : List Nat} (h : w.ownsRow b1 e1 s1 v1 n1 x1) (hc : Ch L w w') (ha : ∀ b, v1.ownBlock = some b → b ∉ L) : w'.ownsRow b1 e1 s1 v1 n1 x1 := by
  refine ⟨h.1, ?_⟩
  rcases h.2 with hn | ⟨g, cap, cur, rfl, hb, hg, rest⟩
  · exact .inl hn
  · exact .inr ⟨g, cap, cur, rfl, hb, (hc.block g (lt_of_get hg) (ha g rfl)).trans hg, rest⟩
theorem cell_row {w : World} {g : Nat} {l : List Value} {e : TypeId} {z : Nat × Nat} (hg : w.heap[g]? = some (.cells l.toArray e z)) : ∀ j u, l[j]? = some u → w.cell? ((⟨g, 0, none⟩ : Addr).add j) = some u := fun j u hu => by
  have e1 : (⟨g, 0, none⟩ : Addr).add j = ⟨g, j, none⟩ := by unfold Addr.add; split <;> simp_all
  rw [e1]
  unfold World.cell?
  rw [hg]
  simpa using hu
/-- A cell of a row. -/
theorem own_cell {w : World} {base e size n b cap i : Nat} {xs : List Value} {u : Value} (h : w.ownsRow base e size (.slice (some ⟨b, 0, none⟩) n cap) n xs) (hi : xs[i]? = some u) : w.cell? ⟨b, i, none⟩ = some u ∧ w.frozen? ⟨b, i, none⟩ = false := by
  rcases h.2 with ⟨e, -⟩ | ⟨g, cap', cur, e, -, hg, -, -, -, ht⟩
  · cases e
  · cases e
    have hi' := hi
    rw [← ht, List.getElem?_take] at hi'
    split at hi'
    · refine ⟨?_, ?_⟩
      · unfold World.cell?
        rw [hg]
        simpa using hi'
      · unfold World.frozen?
        rw [hg]
        simp
    · cases hi'
end Go.Proofs.YtddbiiejilcbbaaGreatDoor
namespace Go.Proofs.YtddbiiejilcbbaaGreatDoor
open Go Go.RowKit

theorem own_form {w : World} {b1 e1 s1 n1 : Nat} {v1 : Value} {x1 : List Value} (h : w.ownsRow b1 e1 s1 v1 n1 x1) : ∃ a cap, v1 = .slice a n1 cap := by
  rcases h.2 with ⟨e, hn⟩ | ⟨g, cap, cur, e, -⟩
  · exact ⟨none, 0, by rw [e, hn]⟩
  · exact ⟨_, _, e⟩
theorem Ch.grown {L : List Nat} {w w1 w2 : World} {o : Option Nat} (h : Ch L w w1) (hg : w1.grownBy w2 o) (ho : ∀ b, o = some b → b ∈ L ∨ w.heap.size ≤ b) : Ch L w w2 :=
  ⟨hg.os.trans h.os, hg.tape.trans h.tape, hg.output.trans h.output, Nat.le_trans h.size hg.size, fun i hi hx => (hg.block i (Nat.lt_of_lt_of_le hi h.size) (fun e => by
    rcases ho i e.symm with h1 | h1
    · exact hx h1
    · omega)).trans (h.block i hi hx)⟩
theorem own_mem {v : Value} {b : Nat} : v.ownBlock = some b ↔ b ∈ v.ownBlock.toList := by
  cases v.ownBlock <;> simp [eq_comm]
end Go.Proofs.YtddbiiejilcbbaaGreatDoor
namespace Go.Proofs.YtddbiiejilcbbaaGreatDoor
open Go Go.RowKit

def trC (day : Int) (ts : List (List UInt8 × Int)) : List Value := ts.flatMap fun x => [.int .i64 day, strV x.1, .int .i64 x.2]
theorem trC_app (day : Int) (a b : List (List UInt8 × Int)) : trC day (a ++ b) = trC day a ++ trC day b := by unfold trC; simp
def Trs (base : Nat) (day : Int) (w : World) (v : Value) (ts : List (List UInt8 × Int)) : Prop := w.ownsRow base 59 3 v ts.length (trC day ts)
theorem Trs.nil {base : Nat} {day : Int} {w : World} : Trs base day w (.slice none 0 0) [] := w.ownsRow_nil _ _ _
theorem Trs.add {base : Nat} {day : Int} {w : World} {v : Value} {ts : List (List UInt8 × Int)} (h : Trs base day w v ts) (hb : base ≤ w.heap.size) (x : List UInt8 × Int) {bj c : Nat} {et ty : TypeId} {z : Nat × Nat} (hj : w.heap[bj]? = some (.cells #[.int .i64 day, strV x.1, .int .i64 x.2] et z)) (hl : ts.length + 1 ≤ 100000000) :
    ∃ b c' w', (Builtin.append_ #[38, 38] ty #[v, .slice (some ⟨bj, 0, none⟩) 1 c]).run Tryz.prog w = .ok (.slice (some ⟨b, 0, none⟩) (ts.length + 1) c') w' ∧ Trs base day w' (.slice (some ⟨b, 0, none⟩) (ts.length + 1) c') (ts ++ [x]) ∧ w.grownBy w' v.ownBlock ∧ (v.ownBlock = some b ∨ b = w.heap.size) := by
  obtain ⟨b, c', w', hr, hrow, hgr, hob⟩ := append_coreA (P := Tryz.prog) (t := 38) (e := 59) (ty := ty) (size := 3) (bytes := 32) (a := ⟨bj, 0, none⟩) (m := 1) (c := c) (news := [.int .i64 day, strV x.1, .int .i64 x.2]) h hb (by simp) (cell_row hj) (by simp [Value.oneCell', strV]) (.inr (by omega)) (by unfold maxLen; omega) (by omega) (by kernel_rfl)
  refine ⟨b, c', w', hr, ?_, hgr, ?_⟩
  · unfold Trs
    rw [trC_app, List.length_append]
    exact hrow
  · rcases hob with h | h
    · exact .inl h.symm
    · refine .inr ?_
      simp [Value.ownBlock] at h
      exact h
end Go.Proofs.YtddbiiejilcbbaaGreatDoor
namespace Go.Proofs.YtddbiiejilcbbaaGreatDoor
open Go Go.RowKit

end Go.Proofs.YtddbiiejilcbbaaGreatDoor
namespace Go.Proofs.YtddbiiejilcbbaaGreatDoor
open Go Go.RowKit

theorem holds_in {m : Mem} {w : World} (h : ∀ q ∈ m, w.heap[q.1]? = some q.2) : Holds m w := fun _ _ _ hj => h _ (List.mem_of_getElem? hj)
theorem in_holds {m : Mem} {w : World} (h : Holds m w) : ∀ q ∈ m, w.heap[q.1]? = some q.2 := fun q hq => by
  obtain ⟨j, hj⟩ := List.getElem?_of_mem hq
  exact h j q.1 q.2 hj
section
variable {P : Program} {F : Exit → Act → World → Prop} {s : St} {n0 g : Nat} {day : Int} {fv sv lv tv lv1 tv1 : Value} {ls1 : List (Int × Int)} {ts1 : List (List UInt8 × Int)} {w : World}
end
end Go.Proofs.YtddbiiejilcbbaaGreatDoor
namespace Go.Proofs.YtddbiiejilcbbaaGreatDoor
open Go Go.RowKit

/-- An instruction. -/
structure Ik where
  op : Int
  a : Int
  b : Int
  c : Int
  n : Int
  s : List UInt8
  to : Int
def iC (x : Ik) : List Value := [.int .i64 x.op, .int .i64 x.a, .int .i64 x.b, .int .i64 x.c, .int .i64 x.n, strV x.s, .int .i64 x.to]
def iV (x : Ik) : Value := .agg #[.int .i64 x.op, .int .i64 x.a, .int .i64 x.b, .int .i64 x.c, .int .i64 x.n, strV x.s, .int .i64 x.to]
def inC (xs : List Ik) : List Value := xs.flatMap iC
theorem inC_app (a b : List Ik) : inC (a ++ b) = inC a ++ inC b := by unfold inC; simp
/-- Instructions: a row of one's own. -/
def Ins (base : Nat) (w : World) (v : Value) (xs : List Ik) : Prop := w.ownsRow base 72 7 v xs.length (inC xs)
theorem Ins.nil {base : Nat} {w : World} : Ins base w (.slice none 0 0) [] := w.ownsRow_nil _ _ _
theorem Ins.add {base : Nat} {w : World} {v : Value} {xs : List Ik} (h : Ins base w v xs) (hb : base ≤ w.heap.size) (x : Ik) {bj c : Nat} {et ty : TypeId} {z : Nat × Nat} (hj : w.heap[bj]? = some (.cells #[.int .i64 x.op, .int .i64 x.a, .int .i64 x.b, .int .i64 x.c, .int .i64 x.n, strV x.s, .int .i64 x.to] et z)) (hl : xs.length + 1 ≤ 100000000) :
    ∃ b c' w', (Builtin.append_ #[25, 25] ty #[v, .slice (some ⟨bj, 0, none⟩) 1 c]).run Tryz.prog w = .ok (.slice (some ⟨b, 0, none⟩) (xs.length + 1) c') w' ∧ Ins base w' (.slice (some ⟨b, 0, none⟩) (xs.length + 1) c') (xs ++ [x]) ∧ w.grownBy w' v.ownBlock ∧ (v.ownBlock = some b ∨ b = w.heap.size) := by
  obtain ⟨b, c', w', hr, hrow, hgr, hob⟩ := append_coreA (P := Tryz.prog) (t := 25) (e := 72) (ty := ty) (size := 7) (bytes := 64) (a := ⟨bj, 0, none⟩) (m := 1) (c := c) (news := iC x) h hb (by simp [iC]) (cell_row hj) (by simp [iC, Value.oneCell', strV]) (.inr (by omega)) (by unfold maxLen; omega) (by omega) (by kernel_rfl)
  refine ⟨b, c', w', hr, ?_, hgr, ?_⟩
  · unfold Ins
    rw [inC_app, List.length_append]
    unfold inC
    simp only [List.flatMap_cons, List.flatMap_nil, List.append_nil]
    exact hrow
  · rcases hob with h | h
    · exact .inl h.symm
    · refine .inr ?_
      simp [Value.ownBlock] at h
      exact h
def OoI (g : Nat) (v : Value) : List Nat := g :: v.ownBlock.toList
/-- Putting under way: the instructions so far, and that nothing else was changed. -/
def InI (n0 g : Nat) (w : World) (v v1 : Value) (xs : List Ik) (w' : World) : Prop := Ch (OoI g v) w w' ∧ Ins n0 w' v1 xs ∧ ∀ x ∈ v1.ownBlock.toList, x ∈ OoI g v ∨ w.heap.size ≤ x
theorem InI.refl {n0 g : Nat} {w : World} {v : Value} {xs : List Ik} (h : Ins n0 w v xs) : InI n0 g w v v xs w := ⟨Ch.refl _ _, h, fun _ hx => .inl (List.mem_cons_of_mem _ hx)⟩
theorem InI.stay {n0 g : Nat} {w w' : World} {v v1 : Value} {xs : List Ik} {L : List Nat} (h : InI n0 g w v v1 xs w') (hg : ∃ c e z, w'.heap[g]? = some (.cells c e z) ∧ e ≠ 72) (hL : ∀ x ∈ L, x = g ∨ (w.heap.size ≤ x ∧ ∃ c e z, w'.heap[x]? = some (.cells c e z) ∧ e ≠ 72)) : Stay L w' (InI n0 g w v v1 xs) := by
  have key : ∀ b, v1.ownBlock = some b → b ∉ L := by
    intro b hb hm
    rcases hL b hm with rfl | ⟨-, c, e, z, hx, h4⟩
    · obtain ⟨c, e, z, hx, h1⟩ := hg
      exact own_not h.2.1 hx (fun e => h1 e.symm) hb
    · exact own_not h.2.1 hx (fun e => h4 e.symm) hb
  exact fun _ hc => ⟨h.1.trans hc fun x hx => by
    rcases hL x hx with rfl | ⟨h1, -⟩
    · exact .inl (by simp [OoI])
    · exact .inr h1, own_ch h.2.1 hc key, h.2.2⟩
theorem InI.trans {n0 g : Nat} {w w1 w2 : World} {v v1 v2 : Value} {xs ys : List Ik} (h : InI n0 g w v v1 xs w1) (k : InI n0 g w1 v1 v2 ys w2) : InI n0 g w v v2 ys w2 := by
  have hO : ∀ x ∈ OoI g v1, x ∈ OoI g v ∨ w.heap.size ≤ x := fun x hx => by
    rcases List.mem_cons.1 hx with rfl | hx
    · exact .inl (by simp [OoI])
    · exact h.2.2 x hx
  refine ⟨h.1.trans k.1 hO, k.2.1, fun x hx => ?_⟩
  rcases k.2.2 x hx with h1 | h1
  · exact hO x h1
  · exact .inr (Nat.le_trans h.1.size h1)
/-- One more. -/
theorem InI.add {n0 g : Nat} {w w1 : World} {v v1 : Value} {xs : List Ik} (h : InI n0 g w v v1 xs w1) (hb : n0 ≤ w1.heap.size) (x : Ik) {bj c : Nat} {et ty : TypeId} {z : Nat × Nat} (hj : w1.heap[bj]? = some (.cells #[.int .i64 x.op, .int .i64 x.a, .int .i64 x.b, .int .i64 x.c, .int .i64 x.n, strV x.s, .int .i64 x.to] et z)) (hl : xs.length + 1 ≤ 100000000) :
    ∃ b c' w', (Builtin.append_ #[25, 25] ty #[v1, .slice (some ⟨bj, 0, none⟩) 1 c]).run Tryz.prog w1 = .ok (.slice (some ⟨b, 0, none⟩) (xs.length + 1) c') w' ∧ InI n0 g w v (.slice (some ⟨b, 0, none⟩) (xs.length + 1) c') (xs ++ [x]) w' ∧ ∀ (i : Nat) (c : Array Value) (e : TypeId) (z : Nat × Nat), w1.heap[i]? = some (.cells c e z) → e ≠ 72 → w'.heap[i]? = some (.cells c e z) := by
  obtain ⟨b, c', w', hr, hrow, hgr, hob⟩ := h.2.1.add hb x hj hl (ty := ty) (c := c)
  refine ⟨b, c', w', hr, ⟨h.1.grown hgr fun b hb => h.2.2 b (own_mem.1 hb), hrow, fun y hy => ?_⟩, fun i c e z hi he => ?_⟩
  · have := own_mem.2 hy
    cases this
    rcases hob with h1 | h1
    · exact h.2.2 _ (own_mem.1 h1)
    · exact .inr (by rw [h1]; exact h.1.size)
  · rw [hgr.block i (lt_of_get hi) (fun e1 => own_not h.2.1 hi (fun e => he e.symm) e1.symm)]
    exact hi
/-- A maker. -/
def mO (rg : Int) (wv v tv : Value) (sh : Bool) : Obj := .cells #[.int .i64 rg, wv, v, tv, .bool sh] 96 (0, 0)
/-- What putting leaves. -/
def MQ (n0 g : Nat) (rg : Int) (wv tv : Value) (sh : Bool) (w : World) (v u : Value) (xs : List Ik) (e : Ending) (w' : World) : Prop := ∃ v', e = .returned u ∧ w'.heap[g]? = some (mO rg wv v' tv sh) ∧ InI n0 g w v v' xs w'
set_option maxRecDepth 100000 in
seal rn rnN rnS Goes ans atEnd put0 put putM opened openedY putA0 putA oneSt st0 keep mkSt newSt in
theorem put_any {n0 g : Nat} {rg : Int} {wv v tv : Value} {sh : Bool} {xs : List Ik} {w : World} (hl : Ins n0 w v xs) (hg : w.heap[g]? = some (mO rg wv v tv sh)) (hn : n0 ≤ w.heap.size) (i : Ik) (hlen : xs.length + 1 ≤ 100000000) : Calls Tryz.prog 130 #[.pointer (some ⟨g, 0, none⟩), iV i] w (MQ n0 g rg wv tv sh w v (.tuple #[]) (xs ++ [i])) := by
  have hm0 : Holds [(g, mO rg wv v tv sh)] w := fun j b o h => by match j, h with | 0, h => (cases h; exact hg)
  refine Goes.enter Tryz.func130 [(g, mO rg wv v tv sh)] (InI n0 g w v v xs) hm0 (by simp [Mem.ids]) ((InI.refl hl).stay ⟨_, _, _, hg, by decide⟩ (fun x hx => .inl (by simpa [Mem.ids] using hx))) ?_
  refine Goes.run [] [] trivial ?_
  refine Goes.new1 w.heap.size (fun w' h => h.1.size) fun g3 hg3 => ?_
  refine Goes.run [] [] trivial ?_
  refine Goes.open [] ?_
  refine Goes.run [0, 1, 2, 3, 4] [] trivial ?_
  refine Goes.two 5 6 ?_ ?_
  · refine TookS.run 5 0 ?_
    refine Goes.lone1 6 ?_
    refine TookS.run 6 1 ?_
    refine Goes.lone1 7 ?_
    refine TookS.new1 7 0 [] (fun _ _ => Nat.zero_le _) fun gb _ => ?_
    refine Goes.lone1 8 (TookS.eff 8 (Builtin.append_ #[25, 25] 25 #[v, .slice (some ⟨gb, 0, none⟩) 1 1]) fun w1 hm1 hn1 hI1 => ?_)
    have z1 : w1.heap[gb]? = some (.cells #[.int .i64 i.op, .int .i64 i.a, .int .i64 i.b, .int .i64 i.c, .int .i64 i.n, strV i.s, .int .i64 i.to] 72 (0, 0)) := hm1.get 2
    obtain ⟨b, c', w2, hr, hI2, hk⟩ := hI1.now.add (Nat.le_trans hn hI1.now.1.size) i z1 hlen (ty := 25) (c := 1)
    have z2 : w2.heap[g]? = some (mO rg wv v tv sh) := hk g _ _ _ (hm1.get 0) (by decide)
    refine ⟨_, w2, _, [(g, mO rg wv v tv sh)], hr, fun j b o h => by match j, h with | 0, h => (cases h; exact z2), by simp [Mem.ids], hI2.stay ⟨_, _, _, z2, by decide⟩ (fun x hx => .inl (by simpa [Mem.ids] using hx)), ?_⟩
    refine Goes.run [9, 10, 11] [] trivial ?_
    refine Goes.lone1 12 (TookS.run 12 0 ?_)
    refine Goes.run [] [] trivial ?_
    exact Goes.ret [] (.tuple #[]) fun w' hm hI => ⟨_, rfl, hm.get 0, hI.now⟩
  · skip
    refine TookS.run 6 1 ?_
    refine Goes.two 5 7 ?_ ?_
    · refine TookS.run 5 0 ?_
      refine Goes.lone1 7 ?_
      refine TookS.new1 7 0 [] (fun _ _ => Nat.zero_le _) fun gb _ => ?_
      refine Goes.lone1 8 (TookS.eff 8 (Builtin.append_ #[25, 25] 25 #[v, .slice (some ⟨gb, 0, none⟩) 1 1]) fun w1 hm1 hn1 hI1 => ?_)
      have z1 : w1.heap[gb]? = some (.cells #[.int .i64 i.op, .int .i64 i.a, .int .i64 i.b, .int .i64 i.c, .int .i64 i.n, strV i.s, .int .i64 i.to] 72 (0, 0)) := hm1.get 2
      obtain ⟨b, c', w2, hr, hI2, hk⟩ := hI1.now.add (Nat.le_trans hn hI1.now.1.size) i z1 hlen (ty := 25) (c := 1)
      have z2 : w2.heap[g]? = some (mO rg wv v tv sh) := hk g _ _ _ (hm1.get 0) (by decide)
      refine ⟨_, w2, _, [(g, mO rg wv v tv sh)], hr, fun j b o h => by match j, h with | 0, h => (cases h; exact z2), by simp [Mem.ids], hI2.stay ⟨_, _, _, z2, by decide⟩ (fun x hx => .inl (by simpa [Mem.ids] using hx)), ?_⟩
      refine Goes.run [9, 10, 11] [] trivial ?_
      refine Goes.lone1 12 (TookS.run 12 0 ?_)
      refine Goes.run [] [] trivial ?_
      exact Goes.ret [] (.tuple #[]) fun w' hm hI => ⟨_, rfl, hm.get 0, hI.now⟩
    · skip
      refine TookS.new1 7 0 [] (fun _ _ => Nat.zero_le _) fun gb _ => ?_
      refine Goes.lone1 5 (TookS.run 5 0 ?_)
      refine Goes.lone1 8 (TookS.eff 8 (Builtin.append_ #[25, 25] 25 #[v, .slice (some ⟨gb, 0, none⟩) 1 1]) fun w1 hm1 hn1 hI1 => ?_)
      have z1 : w1.heap[gb]? = some (.cells #[.int .i64 i.op, .int .i64 i.a, .int .i64 i.b, .int .i64 i.c, .int .i64 i.n, strV i.s, .int .i64 i.to] 72 (0, 0)) := hm1.get 2
      obtain ⟨b, c', w2, hr, hI2, hk⟩ := hI1.now.add (Nat.le_trans hn hI1.now.1.size) i z1 hlen (ty := 25) (c := 1)
      have z2 : w2.heap[g]? = some (mO rg wv v tv sh) := hk g _ _ _ (hm1.get 0) (by decide)
      refine ⟨_, w2, _, [(g, mO rg wv v tv sh)], hr, fun j b o h => by match j, h with | 0, h => (cases h; exact z2), by simp [Mem.ids], hI2.stay ⟨_, _, _, z2, by decide⟩ (fun x hx => .inl (by simpa [Mem.ids] using hx)), ?_⟩
      refine Goes.run [9, 10, 11] [] trivial ?_
      refine Goes.lone1 12 (TookS.run 12 0 ?_)
      refine Goes.run [] [] trivial ?_
      exact Goes.ret [] (.tuple #[]) fun w' hm hI => ⟨_, rfl, hm.get 0, hI.now⟩
end Go.Proofs.YtddbiiejilcbbaaGreatDoor
namespace Go.Proofs.YtddbiiejilcbbaaGreatDoor
open Go

def Co.op : Co → Int | .mk op _ _ _ => op
def Co.k : Co → Int | .mk _ k _ _ => k
def Co.kids : Co → List Co | .mk _ _ _ l => l
def zeroC : Co := .mk 0 0 [] []
def kidC (c : Co) (i : Nat) : Co := c.kids.getD i zeroC
def numC (n : Int) : Co := .mk 1 n [] []
def truC (n : Int) : Co := .mk 2 n [] []
def czC : Co := .mk 23 0 [] []
/-- Tests on a term's first kids, up to the first that fails. -/
def tstK (c : Co) (i : Nat) : List (Co → Bool) → Bool
  | [] => true
  | t :: r => t (kidC c i) && tstK c (i + 1) r
def isP (op : Int) (ts : List (Co → Bool)) (c : Co) : Bool := c.op == op && tstK c 0 ts
def anyP (_ : Co) : Bool := true
def numIs (n : Int) (c : Co) : Bool := c.op == 1 && c.k == n
def truIs (n : Int) (c : Co) : Bool := c.op == 2 && c.k == n
def notP (op : Int) (c : Co) : Bool := c.op != op
def partP (ps : List Nat) (c : Co) : Co := ps.foldl kidC c
def asksP (op : Int) : Bool := op == 6 || op == 14 || (decide (7 ≤ op) && decide (op ≤ 13)) || (decide (17 ≤ op) && decide (op ≤ 21))
def constP (c : Co) : Bool := c.op == 1 || c.op == 2 || c.op == 3
def rkdP (c : Co) : Bool := asksP c.op && c.kids.all constP
noncomputable def reckP (c : Co) : Co := .mk ((match rkP c.op with | some q => q.2 | none => 0) + 1) ((valC [] 0 c.op c.k [] (c.kids.map fun x => some x.k)).getD 0) [] []
def laterP (c : Co) : Co := .mk 29 (max c.k (kidC c 0).k) [] (kidC c 0).kids
def emptP (c : Co) : Co := .mk 30 c.k [] [kidC c 0, czC]
structure Rl where
  pass : Int
  fits : Co → Bool
  becomes : Co → Co
noncomputable def rulesP : List Rl := [
  ⟨1, rkdP, reckP⟩,
  ⟨2, isP 6 [isP 6 []], partP [0, 0]⟩,
  ⟨2, isP 14 [isP 14 []], partP [0, 0]⟩,
  ⟨2, isP 7 [anyP, numIs 0], partP [0]⟩,
  ⟨2, isP 7 [numIs 0], partP [1]⟩,
  ⟨2, isP 8 [anyP, numIs 0], partP [0]⟩,
  ⟨2, isP 9 [anyP, numIs 1000000], partP [0]⟩,
  ⟨2, isP 9 [numIs 1000000], partP [1]⟩,
  ⟨2, isP 10 [anyP, numIs 1000000], partP [0]⟩,
  ⟨2, isP 15 [truIs 1], partP [1]⟩,
  ⟨2, isP 15 [anyP, truIs 1], partP [0]⟩,
  ⟨2, isP 16 [truIs 0], partP [1]⟩,
  ⟨2, isP 16 [anyP, truIs 0], partP [0]⟩,
  ⟨2, isP 15 [truIs 0], partP [0]⟩,
  ⟨2, isP 16 [truIs 1], partP [0]⟩,
  ⟨2, isP 25 [isP 25 []], partP [0, 0]⟩,
  ⟨2, isP 25 [isP 23 []], partP [0]⟩,
  ⟨2, isP 27 [isP 23 []], partP [1]⟩,
  ⟨2, isP 27 [anyP, isP 23 []], partP [0]⟩,
  ⟨2, isP 26 [numIs 1000000], partP [1]⟩,
  ⟨2, isP 26 [isP 1 [], isP 23 []], partP [1]⟩,
  ⟨2, isP 29 [isP 29 []], laterP⟩,
  ⟨4, isP 22 [truIs 1], partP [1]⟩,
  ⟨4, isP 28 [truIs 1], partP [1]⟩,
  ⟨4, isP 22 [truIs 0], partP [2]⟩,
  ⟨4, isP 28 [truIs 0], partP [2]⟩,
  ⟨4, isP 30 [truIs 0, notP 23], emptP⟩]
/-- The first rule that fits. -/
def findP (rs : List Rl) (c : Co) : Option Rl := rs.find? fun r => r.fits c
/-- Kids that are right, as a row of types says. -/
theorem ok1 {d x : Int} {l : List Co} (h : okTs d [x] l = true) (hl : l.length = 1) : ∃ a, l = [a] ∧ okT x d a = true := by
  match l, hl with
  | [a], _ => simp only [okTs, Bool.and_true] at h; exact ⟨a, rfl, h⟩
theorem ok2 {d x y : Int} {l : List Co} (h : okTs d [x, y] l = true) (hl : l.length = 2) : ∃ a b, l = [a, b] ∧ okT x d a = true ∧ okT y d b = true := by
  match l, hl with
  | [a, b], _ => simp only [okTs, Bool.and_true, Bool.and_eq_true] at h; exact ⟨a, b, rfl, h.1, h.2⟩
theorem ok3 {d x y z : Int} {l : List Co} (h : okTs d [x, y, z] l = true) (hl : l.length = 3) : ∃ a b e, l = [a, b, e] ∧ okT x d a = true ∧ okT y d b = true ∧ okT z d e = true := by
  match l, hl with
  | [a, b, e], _ => simp only [okTs, Bool.and_true, Bool.and_eq_true] at h; exact ⟨a, b, e, rfl, h.1, h.2.1, h.2.2⟩
theorem ok_inv {z d op k : Int} {s : List UInt8} {kids : List Co} (hz : tyOk z) (h : okT z d (.mk op k s kids) = true) : ∃ ks, kids.length = ks.length ∧ ownC op k s = true ∧ d ≤ 200 ∧ okTs (d + 1) ks kids = true ∧ ((op = 22 ∧ z ≠ 4 ∧ ks = [1, z, z]) ∨ rkP op = some (ks, z)) := by
  unfold okT at h
  cases hk : kOf op z with
  | none => rw [hk] at h; cases h
  | some ks =>
    rw [hk] at h
    simp only [Bool.and_eq_true, beq_iff_eq, decide_eq_true_eq] at h
    refine ⟨ks, by omega, h.1.1.2, h.1.2, h.2, ?_⟩
    cases h22 : (op == 22) with
    | true =>
      have e := eq_of_beq h22
      subst e
      rw [k22] at hk
      cases hz4 : (z == 4) with
      | true => rw [hz4] at hk; cases hk
      | false => rw [hz4] at hk; cases hk; exact .inl ⟨rfl, by simpa using hz4, rfl⟩
    | false =>
      rw [rk_op hz h22] at hk
      cases hr : rkP op with
      | none => rw [hr] at hk; cases hk
      | some q =>
        obtain ⟨ks', t'⟩ := q
        rw [hr] at hk
        simp only at hk
        cases ht : (t' == z) with
        | false => rw [ht] at hk; cases hk
        | true => rw [ht] at hk; cases hk; rw [eq_of_beq ht]; exact .inr rfl
theorem ok_intro {z d op k : Int} {s : List UInt8} {kids : List Co} (hz : tyOk z) {ks : List Int} (hl : kids.length = ks.length) (ho : ownC op k s = true) (hd : d ≤ 200) (hk : okTs (d + 1) ks kids = true) (hr : (op = 22 ∧ z ≠ 4 ∧ ks = [1, z, z]) ∨ rkP op = some (ks, z)) : okT z d (.mk op k s kids) = true := by
  have hko : kOf op z = some ks := by
    rcases hr with ⟨rfl, h4, rfl⟩ | hr
    · rw [k22, show (z == 4) = false by simpa using h4]; rfl
    · have h22 : (op == 22) = false := by
        cases h : (op == 22) with
        | false => rfl
        | true => rw [eq_of_beq h] at hr; cases hr
      rw [rk_op hz h22, hr]
      simp
  unfold okT
  rw [hko]
  simp only [Bool.and_eq_true, beq_iff_eq, decide_eq_true_eq]
  exact ⟨⟨⟨by omega, ho⟩, hd⟩, hk⟩
theorem rk_tys {op : Int} {ks : List Int} {z : Int} (h : rkP op = some (ks, z)) : tyOk z ∧ ∀ x ∈ ks, tyOk x := by
  obtain ⟨o0, o1⟩ := op_small h
  have key : ∀ n : Fin 32, (match rkP ((n : Nat) : Int) with | some (l, z) => (z :: l).all fun x => x == 0 || x == 1 || x == 2 || x == 4 | none => true) = true := by decide
  have := key ⟨op.toNat, by omega⟩
  rw [show ((op.toNat : Nat) : Int) = op by omega] at this
  rw [h] at this
  simp only [List.all_eq_true, Bool.or_eq_true, beq_iff_eq, List.mem_cons] at this
  refine ⟨?_, fun x hx => ?_⟩ <;> unfold tyOk
  · have := this z (.inl rfl); omega
  · have := this x (.inr hx); omega
theorem hzC_pos : ∀ c : Co, 0 ≤ hzC c
  | .mk op k s kids => by rw [hzC]; have := hzL_pos kids; omega
theorem hz_kid {op k : Int} {s : List UInt8} {kids : List Co} {c : Co} (h : c ∈ kids) : hzC c ≤ hzC (.mk op k s kids) := by
  obtain ⟨i, hi⟩ := List.getElem?_of_mem h
  have := hzL_at hi
  rw [hzC]
  omega
theorem sz_kid {op k : Int} {s : List UInt8} {kids : List Co} {c : Co} (h : c ∈ kids) : szC c + 1 ≤ szC (.mk op k s kids) := by
  obtain ⟨i, hi⟩ := List.getElem?_of_mem h
  have := szL_at hi
  rw [szC]
  omega
theorem ahL_mem : ∀ {l : List Co} {c : Co}, ahL l = false → c ∈ l → ahC c = false
  | [], _, _, h => by cases h
  | x :: r, c, h, hc => by
    rw [ahL, Bool.or_eq_false_iff] at h
    rcases List.mem_cons.1 hc with e | e
    · rw [e]; exact h.1
    · exact ahL_mem h.2 e
theorem ah_kid {op k : Int} {s : List UInt8} {kids : List Co} {c : Co} (h : c ∈ kids) (ha : ahC (.mk op k s kids) = false) : ahC c = false := by
  rw [ahC, Bool.or_eq_false_iff] at ha
  exact ahL_mem ha.2 h
/-- A term is right, at some depth. -/
def Dom (c : Co) : Prop := ∃ z d, tyOk z ∧ okT z d c = true
/-- How much there is to do: what a rule makes is less. -/
def mu (c : Co) : Int := 2 * szC c + (bif c.op == 30 && (kidC c 1).op != 23 then 1 else 0)
/-- What is kept. -/
structure Kept (z d : Int) (c e : Co) : Prop where
  ok : okT z d e = true
  sz : szC e ≤ szC c
  hz : hzC e ≤ hzC c
  ah : ahC c = false → ahC e = false
theorem Kept.trans {z d : Int} {a b c : Co} (h : Kept z d a b) (k : Kept z d b c) : Kept z d a c := ⟨k.ok, Int.le_trans k.sz h.sz, Int.le_trans k.hz h.hz, fun e => k.ah (h.ah e)⟩
theorem Kept.kid {z d op k : Int} {s : List UInt8} {kids : List Co} {c : Co} (h : c ∈ kids) (ho : okT z (d + 1) c = true) : Kept z d (.mk op k s kids) c := ⟨okT_up z d c ho, by have := sz_kid (op := op) (k := k) (s := s) h; omega, hz_kid h, ah_kid h⟩
theorem Kept.kid2 {z d op k op' k' : Int} {s s' : List UInt8} {kids kids' : List Co} {c : Co} (h : Co.mk op' k' s' kids' ∈ kids) (h' : c ∈ kids') (ho : okT z (d + 1 + 1) c = true) : Kept z d (.mk op k s kids) c :=
  ⟨okT_up z d c (okT_up z (d + 1) c ho), by have := sz_kid (op := op) (k := k) (s := s) h; have := sz_kid (op := op') (k := k') (s := s') h'; omega, Int.le_trans (hz_kid (op := op') (k := k') (s := s') h') (hz_kid h), fun e => ah_kid h' (ah_kid h e)⟩
end Go.Proofs.YtddbiiejilcbbaaGreatDoor
namespace Go.Proofs.YtddbiiejilcbbaaGreatDoor
open Go

/-- A rule's term means the same: an observable has its value; a contract is one of the term's own, acquired so. -/
def Ro (z : Int) (c e : Co) : Prop := (z ≠ 4 ∧ ∀ fs day, RF fs → valP fs day e = valP fs day c) ∨ (z = 4 ∧ ∃ off, termP c off = some e ∧ ∀ fs day p f, RF fs → inM f → acq fs day c p f = acq fs day e (p + off) f)
/-- What a rule does. -/
inductive RoQ : Int → Co → Co → Prop
  | root (z : Int) (c e : Co) : Ro z c e → RoQ z c e
  | later (n m : Int) (s s' : List UInt8) (x : Co) : RoQ 4 (.mk 29 n s [.mk 29 m s' [x]]) (.mk 29 (max n m) [] [x])
  | empt (n : Int) (s : List UInt8) (x : Co) : RoQ 4 (.mk 30 n s [truC 0, x]) (.mk 30 n [] [truC 0, czC])
/-- A right term becomes another one, a step at a time; b: its own Op stays. -/
inductive Rw : Bool → Int → Int → Co → Co → Prop
  | refl (b : Bool) (z d : Int) (c : Co) : Rw b z d c c
  | trans (b : Bool) (z d : Int) (c e g : Co) : Rw b z d c e → Rw b z d e g → Rw b z d c g
  | root (z d : Int) (c e : Co) : Ro z c e → okT z d e = true → Rw false z d c e
  | kid (b : Bool) (z d op k : Int) (s : List UInt8) (kids : List Co) (ks : List Int) (i : Nat) (x y : Co) (zx : Int) : ((op = 22 ∧ z ≠ 4 ∧ ks = [1, z, z]) ∨ rkP op = some (ks, z)) → kids[i]? = some x → ks[i]? = some zx → Rw false zx (d + 1) x y → okT z d (.mk op k s (kids.set i y)) = true → Rw b z d (.mk op k s kids) (.mk op k s (kids.set i y))
  | later (b : Bool) (d n m : Int) (s s' : List UInt8) (x : Co) : okT 4 d (.mk 29 (max n m) [] [x]) = true → Rw b 4 d (.mk 29 n s [.mk 29 m s' [x]]) (.mk 29 (max n m) [] [x])
  | empt (b : Bool) (d n : Int) (s : List UInt8) (x : Co) : okT 4 d (.mk 30 n [] [truC 0, czC]) = true → Rw b 4 d (.mk 30 n s [truC 0, x]) (.mk 30 n [] [truC 0, czC])
theorem RoQ.rw {z d : Int} {c e : Co} (h : RoQ z c e) (hok : okT z d e = true) : Rw false z d c e := by
  cases h with
  | root _ _ _ h => exact .root _ _ _ _ h hok
  | later n m s s' x => exact .later _ _ _ _ _ _ _ hok
  | empt n s x => exact .empt _ _ _ _ _ hok
theorem op_is {op : Int} {ts : List (Co → Bool)} {c : Co} (h : isP op ts c = true) : c.op = op ∧ tstK c 0 ts = true := by
  unfold isP at h
  rw [Bool.and_eq_true] at h
  exact ⟨eq_of_beq h.1, h.2⟩
theorem own_leaf {op k : Int} {s : List UInt8} (h : ownC op k s = true) (h4 : op ≠ 4) (h24 : op ≠ 24) (h31 : op ≠ 31) : s = [] := by
  unfold ownC at h
  rw [Bool.and_eq_true] at h
  have h2 := h.2
  unfold ownS at h2
  have n : ∀ c : Int, op ≠ c → (op == c) = false := fun c hc => by rw [beq_eq_false_iff_ne]; exact hc
  simp only [n 4 h4, n 31 h31, n 24 h24, Bool.or_self, cond_false] at h2
  exact of_decide_eq_true h2
theorem leaf_is {z d op k : Int} {s : List UInt8} {kids : List Co} (hz : tyOk z) (h : okT z d (.mk op k s kids) = true) {t : Int} (hr : rkP op = some ([], t)) (h22 : op ≠ 22) (h4 : op ≠ 4) (h24 : op ≠ 24) (h31 : op ≠ 31) : kids = [] ∧ s = [] ∧ z = t := by
  obtain ⟨ks, hl, ho, -, -, hk⟩ := ok_inv hz h
  rcases hk with ⟨e, -⟩ | hk
  · exact absurd e h22
  · rw [hr] at hk
    simp only [Option.some.injEq, Prod.mk.injEq] at hk
    obtain ⟨rfl, rfl⟩ := hk
    exact ⟨List.eq_nil_of_length_eq_zero hl, own_leaf ho h4 h24 h31, rfl⟩
theorem num_is {z d n : Int} {a : Co} (hz : tyOk z) (h : okT z d a = true) (ht : numIs n a = true) : a = numC n ∧ z = 0 := by
  obtain ⟨op, k, s, kids⟩ := a
  unfold numIs at ht
  rw [Bool.and_eq_true] at ht
  have e1 : op = 1 := eq_of_beq ht.1
  have e2 : k = n := eq_of_beq ht.2
  subst e1 e2
  obtain ⟨rfl, rfl, hz0⟩ := leaf_is hz h rk_leaf.1 (by omega) (by omega) (by omega) (by omega)
  exact ⟨rfl, hz0⟩
theorem tru_is {z d n : Int} {a : Co} (hz : tyOk z) (h : okT z d a = true) (ht : truIs n a = true) : a = truC n ∧ z = 1 := by
  obtain ⟨op, k, s, kids⟩ := a
  unfold truIs at ht
  rw [Bool.and_eq_true] at ht
  have e1 : op = 2 := eq_of_beq ht.1
  have e2 : k = n := eq_of_beq ht.2
  subst e1 e2
  obtain ⟨rfl, rfl, hz0⟩ := leaf_is hz h rk_leaf.2.1 (by omega) (by omega) (by omega) (by omega)
  exact ⟨rfl, hz0⟩
theorem own_nought {op k : Int} {s : List UInt8} (h : ownC op k s = true) (h1 : op ≠ 1) (h2 : op ≠ 2) (h3 : op ≠ 3) (hd : dateP op = false) (hl : lookP op = false) : k = 0 := by
  unfold ownC at h
  rw [Bool.and_eq_true] at h
  have h := h.1
  unfold ownN at h
  have n : ∀ c : Int, op ≠ c → (op == c) = false := fun c hc => by rw [beq_eq_false_iff_ne]; exact hc
  simp only [n 1 h1, n 2 h2, n 3 h3, hd, hl, Bool.or_self, cond_false] at h
  exact eq_of_beq h
theorem cz_is {z d : Int} {a : Co} (hz : tyOk z) (h : okT z d a = true) (ht : isP 23 [] a = true) : a = czC ∧ z = 4 := by
  obtain ⟨op, k, s, kids⟩ := a
  have e1 : op = 23 := (op_is ht).1
  subst e1
  obtain ⟨rfl, rfl, hz0⟩ := leaf_is hz h (t := 4) (by decide) (by omega) (by omega) (by omega) (by omega)
  obtain ⟨ks, -, ho, -⟩ := ok_inv hz h
  have hk := own_nought ho (by omega) (by omega) (by omega) rfl rfl
  subst hk
  exact ⟨rfl, hz0⟩
/-- A term of an Op with so many kids. -/
theorem shape {z d op k : Int} {s : List UInt8} {kids : List Co} (hz : tyOk z) (h : okT z d (.mk op k s kids) = true) {ks : List Int} {t : Int} (hr : rkP op = some (ks, t)) (h22 : op ≠ 22) : z = t ∧ ownC op k s = true ∧ d ≤ 200 ∧ kids.length = ks.length ∧ okTs (d + 1) ks kids = true := by
  obtain ⟨ks', hl, ho, hd, hk, hr'⟩ := ok_inv hz h
  rcases hr' with ⟨e, -⟩ | hr'
  · exact absurd e h22
  · rw [hr] at hr'
    simp only [Option.some.injEq, Prod.mk.injEq] at hr'
    obtain ⟨rfl, rfl⟩ := hr'
    exact ⟨rfl, ho, hd, hl, hk⟩
theorem val_num (fs : Fs) (day n : Int) : valP fs day (numC n) = some n := by unfold numC; rw [valP, valL]; rfl
theorem val_tru (fs : Fs) (day n : Int) : valP fs day (truC n) = some n := by unfold truC; rw [valP, valL]; rfl
theorem val_bi (fs : Fs) (day : Int) {op k : Int} {t : List UInt8} {a b : Co} (h7 : 7 ≤ op) (h14 : op ≠ 14) (h15 : op ≠ 15) (h16 : op ≠ 16) (h22 : op ≠ 22) : valP fs day (.mk op k t [a, b]) = match valP fs day a with | none => none | some x => match valP fs day b with | none => none | some y => some (twoP op x y) := by
  rw [valP, valL, valL, valL]
  unfold valC
  have n : ∀ c : Int, op ≠ c → (op == c) = false := fun c hc => by rw [beq_eq_false_iff_ne]; exact hc
  simp only [n 1 (by omega), n 2 (by omega), n 3 (by omega), n 4 (by omega), n 5 (by omega), n 6 (by omega), n 14 h14, n 15 h15, n 16 h16, n 22 h22, Bool.or_self, cond_false]
  rfl
theorem val_un6 (fs : Fs) (day : Int) {k : Int} {t : List UInt8} {a : Co} : valP fs day (.mk 6 k t [a]) = match valP fs day a with | none => none | some x => some (- clampI x) := by
  rw [valP, valL, valL]; rfl
theorem val_un14 (fs : Fs) (day : Int) {k : Int} {t : List UInt8} {a : Co} : valP fs day (.mk 14 k t [a]) = match valP fs day a with | none => none | some x => some (IntKind.i64.wrap (1 - x)) := by
  rw [valP, valL, valL]; rfl
theorem val_15 (fs : Fs) (day : Int) {k : Int} {t : List UInt8} {a b : Co} : valP fs day (.mk 15 k t [a, b]) = match valP fs day a with | none => none | some x => bif x == 0 then some 0 else valP fs day b := by
  rw [valP, valL, valL, valL]; rfl
theorem val_16 (fs : Fs) (day : Int) {k : Int} {t : List UInt8} {a b : Co} : valP fs day (.mk 16 k t [a, b]) = match valP fs day a with | none => none | some x => bif x == 1 then some 1 else valP fs day b := by
  rw [valP, valL, valL, valL]; rfl
theorem val_22 (fs : Fs) (day : Int) {k : Int} {t : List UInt8} {a b e : Co} : valP fs day (.mk 22 k t [a, b, e]) = match valP fs day a with | none => none | some x => bif x == 1 then valP fs day b else valP fs day e := by
  rw [valP, valL, valL, valL, valL]; rfl
/-- The value of a right number is one. -/
theorem num_val {fs : Fs} {day d v : Int} {a : Co} (hF : RF fs) (h : okT 0 d a = true) (hv : valP fs day a = some v) : clampI v = v := by
  have := (val_kd hF a d 0 v ((((tp_all a) d).1 0 (.inl rfl)).1 h) (by omega) hv).1 rfl
  exact clampI_in this.1 this.2
theorem tru_val {fs : Fs} {day d v : Int} {a : Co} (hF : RF fs) (h : okT 1 d a = true) (hv : valP fs day a = some v) : v = 0 ∨ v = 1 :=
  (val_kd hF a d 1 v ((((tp_all a) d).1 1 (.inr (.inl rfl))).1 h) (by omega) hv).2.1 rfl
theorem acq_op (fs : Fs) (day op k : Int) (t : List UInt8) (kids : List Co) (p f : Int) : acq fs day (.mk op k t kids) p f = acqC day op k t (valL fs day kids) (acqL fs day kids (p + 1)) p f := by rw [acq]
theorem acq_25 (fs : Fs) (day k : Int) (t : List UInt8) (a : Co) (p f : Int) : acq fs day (.mk 25 k t [a]) p f = acq fs day a (p + 1) (- clampI f) := by
  rw [acq_op]; rw [acqL, acqL]; rfl
theorem acq_23 (fs : Fs) (day k : Int) (t : List UInt8) (kids : List Co) (p f : Int) : acq fs day (.mk 23 k t kids) p f = r0 := by
  rw [acq_op]; rfl
theorem acq_27 (fs : Fs) (day k : Int) (t : List UInt8) (a b : Co) (p f : Int) : acq fs day (.mk 27 k t [a, b]) p f = R2.cat (acq fs day a (p + 1) f) (acq fs day b (p + 1 + szC a) f) := by
  rw [acq_op]; rw [acqL, acqL, acqL]; rfl
theorem acq_26 (fs : Fs) (day k : Int) (t : List UInt8) (a b : Co) (p f : Int) : acq fs day (.mk 26 k t [a, b]) p f = match valP fs day a with | some n => acq fs day b (p + 1 + szC a) (mulI f n) | none => wt p f := by
  rw [acq_op]; rw [acqL, acqL, acqL, valL]; rfl
theorem acq_28 (fs : Fs) (day k : Int) (t : List UInt8) (a b e : Co) (p f : Int) : acq fs day (.mk 28 k t [a, b, e]) p f = match valP fs day a with | some x => brA [fun f => acq fs day a (p + 1) f, fun f => acq fs day b (p + 1 + szC a) f, fun f => acq fs day e (p + 1 + szC a + szC b) f] (2 - x).toNat f | none => wt p f := by
  rw [acq_op]; rw [acqL, acqL, acqL, acqL, valL]; rfl
theorem sz_leaf (op k : Int) (t : List UInt8) : szC (.mk op k t []) = 1 := by rw [szC, szL]; rfl
theorem sz1 (op k : Int) (t : List UInt8) (a : Co) : szC (.mk op k t [a]) = 1 + szC a := by rw [szC, szL, szL]; omega
theorem sz2 (op k : Int) (t : List UInt8) (a b : Co) : szC (.mk op k t [a, b]) = 1 + szC a + szC b := by rw [szC, szL, szL, szL]; omega
theorem term1 (op k : Int) (t : List UInt8) (a : Co) (r : List Co) : termP (.mk op k t (a :: r)) 1 = some a := by
  have := term_kid (op := op) (k := k) (t := t) (kids := a :: r) (i := 0) (c := a) (d := 0) rfl (by omega) (by have := szC_pos a; omega)
  simp only [List.take_zero, szL] at this
  rw [show (1 : Int) + 0 + 0 = 1 by omega] at this
  rw [this, term_zero]
theorem term2 (op k : Int) (t : List UInt8) (a b : Co) (r : List Co) : termP (.mk op k t (a :: b :: r)) (1 + szC a) = some b := by
  have := term_kid (op := op) (k := k) (t := t) (kids := a :: b :: r) (i := 1) (c := b) (d := 0) rfl (by omega) (by have := szC_pos b; omega)
  simp only [List.take_succ_cons, List.take_zero, szL] at this
  rw [show (1 : Int) + (szC a + 0) + 0 = 1 + szC a by omega] at this
  rw [this, term_zero]
theorem term3 (op k : Int) (t : List UInt8) (a b e : Co) (r : List Co) : termP (.mk op k t (a :: b :: e :: r)) (1 + szC a + szC b) = some e := by
  have := term_kid (op := op) (k := k) (t := t) (kids := a :: b :: e :: r) (i := 2) (c := e) (d := 0) rfl (by omega) (by have := szC_pos e; omega)
  simp only [List.take_succ_cons, List.take_zero, szL] at this
  rw [show (1 : Int) + (szC a + (szC b + 0)) + 0 = 1 + szC a + szC b by omega] at this
  rw [this, term_zero]
theorem termG (op k op' k' : Int) (t t' : List UInt8) (a : Co) : termP (.mk op k t [.mk op' k' t' [a]]) 2 = some a := by
  have h := term_kid (op := op) (k := k) (t := t) (kids := [.mk op' k' t' [a]]) (i := 0) (c := .mk op' k' t' [a]) (d := 1) rfl (by omega) (by rw [sz1]; have := szC_pos a; omega)
  simp only [List.take_zero, szL] at h
  rw [show (1 : Int) + 0 + 1 = 2 by omega] at h
  rw [h, term1]
theorem mu_lt {c e : Co} (h : szC e + 1 ≤ szC c) : mu e < mu c := by
  unfold mu
  cases (e.op == 30 && (kidC e 1).op != 23) <;> cases (c.op == 30 && (kidC c 1).op != 23) <;> simp only [cond_true, cond_false] <;> omega
end Go.Proofs.YtddbiiejilcbbaaGreatDoor
namespace Go.Proofs.YtddbiiejilcbbaaGreatDoor
open Go

theorem cl0 : clampI 0 = 0 := clampI_in (by omega) (by omega)
theorem two7r {x : Int} (h : clampI x = x) : twoP 7 x 0 = x := by show clampI (clampI x + clampI 0) = x; rw [cl0, h, Int.add_zero, h]
theorem two7l {x : Int} (h : clampI x = x) : twoP 7 0 x = x := by show clampI (clampI 0 + clampI x) = x; rw [cl0, h, Int.zero_add, h]
theorem two8r {x : Int} (h : clampI x = x) : twoP 8 x 0 = x := by show clampI (clampI x - clampI 0) = x; rw [cl0, h, Int.sub_zero, h]
theorem two9r {x : Int} (h : clampI x = x) : twoP 9 x 1000000 = x := by show mulI x 1000000 = x; rw [mulI_one, h]
theorem two9l {x : Int} (h : clampI x = x) : twoP 9 1000000 x = x := by show mulI 1000000 x = x; rw [mulI_comm, mulI_one, h]
theorem two10r {x : Int} (h : clampI x = x) : twoP 10 x 1000000 = x := by show divI x 1000000 = x; rw [divI_one, h]
/-- What a rule does, and keeps. -/
def Good (z d : Int) (c e : Co) : Prop := Kept z d c e ∧ mu e < mu c ∧ RoQ z c e

theorem g_6 {z d : Int} {c : Co} (hz : tyOk z) (h : okT z d c = true) (hf : isP 6 [isP 6 []] c = true) : Good z d c (partP [0, 0] c) := by
  obtain ⟨op, k, s, kids⟩ := c
  obtain ⟨e, ht⟩ := op_is hf
  have e : op = 6 := e
  subst e
  obtain ⟨rfl, ho, hd, hl, hk⟩ := shape hz h (ks := [0]) (t := 0) (by decide) (by omega)
  obtain ⟨a, rfl, ha⟩ := ok1 hk (by simpa using hl)
  have t0 : tyOk 0 := by unfold tyOk; omega
  have ht : isP 6 [] a = true := by simpa [tstK, kidC, Co.kids] using ht
  obtain ⟨op', k', s', kids'⟩ := a
  have e : op' = 6 := (op_is ht).1
  subst e
  obtain ⟨-, -, -, hl', hk'⟩ := shape t0 ha (ks := [0]) (t := 0) (by decide) (by omega)
  obtain ⟨a, rfl, ha'⟩ := ok1 hk' (by simpa using hl')
  refine ⟨Kept.kid2 (List.mem_singleton_self _) (List.mem_singleton_self _) ha', mu_lt ?_, .root _ _ _ (.inl ⟨by omega, fun fs day hF => ?_⟩)⟩
  · show szC a + 1 ≤ _
    rw [sz1, sz1]; omega
  · show valP fs day a = _
    rw [val_un6, val_un6]
    cases hv : valP fs day a with
    | none => rfl
    | some v => have := num_val hF ha' hv; simp only; rw [clampI_neg, this, this]; simp
theorem g_14 {z d : Int} {c : Co} (hz : tyOk z) (h : okT z d c = true) (hf : isP 14 [isP 14 []] c = true) : Good z d c (partP [0, 0] c) := by
  obtain ⟨op, k, s, kids⟩ := c
  obtain ⟨e, ht⟩ := op_is hf
  have e : op = 14 := e
  subst e
  obtain ⟨rfl, ho, hd, hl, hk⟩ := shape hz h (ks := [1]) (t := 1) (by decide) (by omega)
  obtain ⟨a, rfl, ha⟩ := ok1 hk (by simpa using hl)
  have t1 : tyOk 1 := by unfold tyOk; omega
  have ht : isP 14 [] a = true := by simpa [tstK, kidC, Co.kids] using ht
  obtain ⟨op', k', s', kids'⟩ := a
  have e : op' = 14 := (op_is ht).1
  subst e
  obtain ⟨-, -, -, hl', hk'⟩ := shape t1 ha (ks := [1]) (t := 1) (by decide) (by omega)
  obtain ⟨a, rfl, ha'⟩ := ok1 hk' (by simpa using hl')
  refine ⟨Kept.kid2 (List.mem_singleton_self _) (List.mem_singleton_self _) ha', mu_lt ?_, .root _ _ _ (.inl ⟨by omega, fun fs day hF => ?_⟩)⟩
  · show szC a + 1 ≤ _
    rw [sz1, sz1]; omega
  · show valP fs day a = _
    rw [val_un14, val_un14]
    cases hv : valP fs day a with
    | none => rfl
    | some v => rcases tru_val hF ha' hv with e | e <;> subst e <;> rfl
theorem g_7r {z d : Int} {c : Co} (hz : tyOk z) (h : okT z d c = true) (hf : isP 7 [anyP, numIs 0] c = true) : Good z d c (partP [0] c) := by
  obtain ⟨op, k, s, kids⟩ := c
  obtain ⟨e, ht⟩ := op_is hf
  have e : op = 7 := e
  subst e
  obtain ⟨rfl, ho, hd, hl, hk⟩ := shape hz h (ks := [0, 0]) (t := 0) (by decide) (by omega)
  obtain ⟨a, b, rfl, ha, hb⟩ := ok2 hk (by simpa using hl)
  have t0 : tyOk 0 := by unfold tyOk; omega
  have ht : numIs 0 b = true := by simpa [tstK, kidC, Co.kids, anyP] using ht
  obtain ⟨rfl, -⟩ := num_is t0 hb ht
  refine ⟨Kept.kid (by simp [partP, kidC, Co.kids]) ha, mu_lt (sz_kid (by simp [partP, kidC, Co.kids])), .root _ _ _ (.inl ⟨by omega, fun fs day hF => ?_⟩)⟩
  show valP fs day a = _
  rw [val_bi fs day (by omega) (by omega) (by omega) (by omega) (by omega), val_num]
  cases hv : valP fs day a with
  | none => rfl
  | some v => exact congrArg some (two7r (num_val hF ha hv)).symm
theorem g_7l {z d : Int} {c : Co} (hz : tyOk z) (h : okT z d c = true) (hf : isP 7 [numIs 0] c = true) : Good z d c (partP [1] c) := by
  obtain ⟨op, k, s, kids⟩ := c
  obtain ⟨e, ht⟩ := op_is hf
  have e : op = 7 := e
  subst e
  obtain ⟨rfl, ho, hd, hl, hk⟩ := shape hz h (ks := [0, 0]) (t := 0) (by decide) (by omega)
  obtain ⟨a, b, rfl, ha, hb⟩ := ok2 hk (by simpa using hl)
  have t0 : tyOk 0 := by unfold tyOk; omega
  have ht : numIs 0 a = true := by simpa [tstK, kidC, Co.kids, anyP] using ht
  obtain ⟨rfl, -⟩ := num_is t0 ha ht
  refine ⟨Kept.kid (by simp [partP, kidC, Co.kids]) hb, mu_lt (sz_kid (by simp [partP, kidC, Co.kids])), .root _ _ _ (.inl ⟨by omega, fun fs day hF => ?_⟩)⟩
  show valP fs day b = _
  rw [val_bi fs day (by omega) (by omega) (by omega) (by omega) (by omega), val_num]
  cases hv : valP fs day b with
  | none => rfl
  | some v => exact congrArg some (two7l (num_val hF hb hv)).symm
theorem g_8 {z d : Int} {c : Co} (hz : tyOk z) (h : okT z d c = true) (hf : isP 8 [anyP, numIs 0] c = true) : Good z d c (partP [0] c) := by
  obtain ⟨op, k, s, kids⟩ := c
  obtain ⟨e, ht⟩ := op_is hf
  have e : op = 8 := e
  subst e
  obtain ⟨rfl, ho, hd, hl, hk⟩ := shape hz h (ks := [0, 0]) (t := 0) (by decide) (by omega)
  obtain ⟨a, b, rfl, ha, hb⟩ := ok2 hk (by simpa using hl)
  have t0 : tyOk 0 := by unfold tyOk; omega
  have ht : numIs 0 b = true := by simpa [tstK, kidC, Co.kids, anyP] using ht
  obtain ⟨rfl, -⟩ := num_is t0 hb ht
  refine ⟨Kept.kid (by simp [partP, kidC, Co.kids]) ha, mu_lt (sz_kid (by simp [partP, kidC, Co.kids])), .root _ _ _ (.inl ⟨by omega, fun fs day hF => ?_⟩)⟩
  show valP fs day a = _
  rw [val_bi fs day (by omega) (by omega) (by omega) (by omega) (by omega), val_num]
  cases hv : valP fs day a with
  | none => rfl
  | some v => exact congrArg some (two8r (num_val hF ha hv)).symm
theorem g_9r {z d : Int} {c : Co} (hz : tyOk z) (h : okT z d c = true) (hf : isP 9 [anyP, numIs 1000000] c = true) : Good z d c (partP [0] c) := by
  obtain ⟨op, k, s, kids⟩ := c
  obtain ⟨e, ht⟩ := op_is hf
  have e : op = 9 := e
  subst e
  obtain ⟨rfl, ho, hd, hl, hk⟩ := shape hz h (ks := [0, 0]) (t := 0) (by decide) (by omega)
  obtain ⟨a, b, rfl, ha, hb⟩ := ok2 hk (by simpa using hl)
  have t0 : tyOk 0 := by unfold tyOk; omega
  have ht : numIs 1000000 b = true := by simpa [tstK, kidC, Co.kids, anyP] using ht
  obtain ⟨rfl, -⟩ := num_is t0 hb ht
  refine ⟨Kept.kid (by simp [partP, kidC, Co.kids]) ha, mu_lt (sz_kid (by simp [partP, kidC, Co.kids])), .root _ _ _ (.inl ⟨by omega, fun fs day hF => ?_⟩)⟩
  show valP fs day a = _
  rw [val_bi fs day (by omega) (by omega) (by omega) (by omega) (by omega), val_num]
  cases hv : valP fs day a with
  | none => rfl
  | some v => exact congrArg some (two9r (num_val hF ha hv)).symm
theorem g_9l {z d : Int} {c : Co} (hz : tyOk z) (h : okT z d c = true) (hf : isP 9 [numIs 1000000] c = true) : Good z d c (partP [1] c) := by
  obtain ⟨op, k, s, kids⟩ := c
  obtain ⟨e, ht⟩ := op_is hf
  have e : op = 9 := e
  subst e
  obtain ⟨rfl, ho, hd, hl, hk⟩ := shape hz h (ks := [0, 0]) (t := 0) (by decide) (by omega)
  obtain ⟨a, b, rfl, ha, hb⟩ := ok2 hk (by simpa using hl)
  have t0 : tyOk 0 := by unfold tyOk; omega
  have ht : numIs 1000000 a = true := by simpa [tstK, kidC, Co.kids, anyP] using ht
  obtain ⟨rfl, -⟩ := num_is t0 ha ht
  refine ⟨Kept.kid (by simp [partP, kidC, Co.kids]) hb, mu_lt (sz_kid (by simp [partP, kidC, Co.kids])), .root _ _ _ (.inl ⟨by omega, fun fs day hF => ?_⟩)⟩
  show valP fs day b = _
  rw [val_bi fs day (by omega) (by omega) (by omega) (by omega) (by omega), val_num]
  cases hv : valP fs day b with
  | none => rfl
  | some v => exact congrArg some (two9l (num_val hF hb hv)).symm
theorem g_10 {z d : Int} {c : Co} (hz : tyOk z) (h : okT z d c = true) (hf : isP 10 [anyP, numIs 1000000] c = true) : Good z d c (partP [0] c) := by
  obtain ⟨op, k, s, kids⟩ := c
  obtain ⟨e, ht⟩ := op_is hf
  have e : op = 10 := e
  subst e
  obtain ⟨rfl, ho, hd, hl, hk⟩ := shape hz h (ks := [0, 0]) (t := 0) (by decide) (by omega)
  obtain ⟨a, b, rfl, ha, hb⟩ := ok2 hk (by simpa using hl)
  have t0 : tyOk 0 := by unfold tyOk; omega
  have ht : numIs 1000000 b = true := by simpa [tstK, kidC, Co.kids, anyP] using ht
  obtain ⟨rfl, -⟩ := num_is t0 hb ht
  refine ⟨Kept.kid (by simp [partP, kidC, Co.kids]) ha, mu_lt (sz_kid (by simp [partP, kidC, Co.kids])), .root _ _ _ (.inl ⟨by omega, fun fs day hF => ?_⟩)⟩
  show valP fs day a = _
  rw [val_bi fs day (by omega) (by omega) (by omega) (by omega) (by omega), val_num]
  cases hv : valP fs day a with
  | none => rfl
  | some v => exact congrArg some (two10r (num_val hF ha hv)).symm
theorem g_15Tl {z d : Int} {c : Co} (hz : tyOk z) (h : okT z d c = true) (hf : isP 15 [truIs 1] c = true) : Good z d c (partP [1] c) := by
  obtain ⟨op, k, s, kids⟩ := c
  obtain ⟨e, ht⟩ := op_is hf
  have e : op = 15 := e
  subst e
  obtain ⟨rfl, ho, hd, hl, hk⟩ := shape hz h (ks := [1, 1]) (t := 1) (by decide) (by omega)
  obtain ⟨a, b, rfl, ha, hb⟩ := ok2 hk (by simpa using hl)
  have t1 : tyOk 1 := by unfold tyOk; omega
  have ht : truIs 1 a = true := by simpa [tstK, kidC, Co.kids, anyP] using ht
  obtain ⟨rfl, -⟩ := tru_is t1 ha ht
  refine ⟨Kept.kid (by simp [partP, kidC, Co.kids]) hb, mu_lt (sz_kid (by simp [partP, kidC, Co.kids])), .root _ _ _ (.inl ⟨by omega, fun fs day hF => ?_⟩)⟩
  show valP fs day (b) = _
  rw [val_15]
  rw [val_tru]
  rfl
theorem g_15Tr {z d : Int} {c : Co} (hz : tyOk z) (h : okT z d c = true) (hf : isP 15 [anyP, truIs 1] c = true) : Good z d c (partP [0] c) := by
  obtain ⟨op, k, s, kids⟩ := c
  obtain ⟨e, ht⟩ := op_is hf
  have e : op = 15 := e
  subst e
  obtain ⟨rfl, ho, hd, hl, hk⟩ := shape hz h (ks := [1, 1]) (t := 1) (by decide) (by omega)
  obtain ⟨a, b, rfl, ha, hb⟩ := ok2 hk (by simpa using hl)
  have t1 : tyOk 1 := by unfold tyOk; omega
  have ht : truIs 1 b = true := by simpa [tstK, kidC, Co.kids, anyP] using ht
  obtain ⟨rfl, -⟩ := tru_is t1 hb ht
  refine ⟨Kept.kid (by simp [partP, kidC, Co.kids]) ha, mu_lt (sz_kid (by simp [partP, kidC, Co.kids])), .root _ _ _ (.inl ⟨by omega, fun fs day hF => ?_⟩)⟩
  show valP fs day (a) = _
  rw [val_15]
  cases hv : valP fs day a with
  | none => rfl
  | some v => simp only; rw [val_tru]; rcases tru_val hF ha hv with e | e <;> subst e <;> rfl
theorem g_16Fl {z d : Int} {c : Co} (hz : tyOk z) (h : okT z d c = true) (hf : isP 16 [truIs 0] c = true) : Good z d c (partP [1] c) := by
  obtain ⟨op, k, s, kids⟩ := c
  obtain ⟨e, ht⟩ := op_is hf
  have e : op = 16 := e
  subst e
  obtain ⟨rfl, ho, hd, hl, hk⟩ := shape hz h (ks := [1, 1]) (t := 1) (by decide) (by omega)
  obtain ⟨a, b, rfl, ha, hb⟩ := ok2 hk (by simpa using hl)
  have t1 : tyOk 1 := by unfold tyOk; omega
  have ht : truIs 0 a = true := by simpa [tstK, kidC, Co.kids, anyP] using ht
  obtain ⟨rfl, -⟩ := tru_is t1 ha ht
  refine ⟨Kept.kid (by simp [partP, kidC, Co.kids]) hb, mu_lt (sz_kid (by simp [partP, kidC, Co.kids])), .root _ _ _ (.inl ⟨by omega, fun fs day hF => ?_⟩)⟩
  show valP fs day (b) = _
  rw [val_16]
  rw [val_tru]
  rfl
theorem g_16Fr {z d : Int} {c : Co} (hz : tyOk z) (h : okT z d c = true) (hf : isP 16 [anyP, truIs 0] c = true) : Good z d c (partP [0] c) := by
  obtain ⟨op, k, s, kids⟩ := c
  obtain ⟨e, ht⟩ := op_is hf
  have e : op = 16 := e
  subst e
  obtain ⟨rfl, ho, hd, hl, hk⟩ := shape hz h (ks := [1, 1]) (t := 1) (by decide) (by omega)
  obtain ⟨a, b, rfl, ha, hb⟩ := ok2 hk (by simpa using hl)
  have t1 : tyOk 1 := by unfold tyOk; omega
  have ht : truIs 0 b = true := by simpa [tstK, kidC, Co.kids, anyP] using ht
  obtain ⟨rfl, -⟩ := tru_is t1 hb ht
  refine ⟨Kept.kid (by simp [partP, kidC, Co.kids]) ha, mu_lt (sz_kid (by simp [partP, kidC, Co.kids])), .root _ _ _ (.inl ⟨by omega, fun fs day hF => ?_⟩)⟩
  show valP fs day (a) = _
  rw [val_16]
  cases hv : valP fs day a with
  | none => rfl
  | some v => simp only; rw [val_tru]; rcases tru_val hF ha hv with e | e <;> subst e <;> rfl
theorem g_15F {z d : Int} {c : Co} (hz : tyOk z) (h : okT z d c = true) (hf : isP 15 [truIs 0] c = true) : Good z d c (partP [0] c) := by
  obtain ⟨op, k, s, kids⟩ := c
  obtain ⟨e, ht⟩ := op_is hf
  have e : op = 15 := e
  subst e
  obtain ⟨rfl, ho, hd, hl, hk⟩ := shape hz h (ks := [1, 1]) (t := 1) (by decide) (by omega)
  obtain ⟨a, b, rfl, ha, hb⟩ := ok2 hk (by simpa using hl)
  have t1 : tyOk 1 := by unfold tyOk; omega
  have ht : truIs 0 a = true := by simpa [tstK, kidC, Co.kids, anyP] using ht
  obtain ⟨rfl, -⟩ := tru_is t1 ha ht
  refine ⟨Kept.kid (by simp [partP, kidC, Co.kids]) ha, mu_lt (sz_kid (by simp [partP, kidC, Co.kids])), .root _ _ _ (.inl ⟨by omega, fun fs day hF => ?_⟩)⟩
  show valP fs day (truC 0) = _
  rw [val_15]
  rw [val_tru]
  rfl
theorem g_16T {z d : Int} {c : Co} (hz : tyOk z) (h : okT z d c = true) (hf : isP 16 [truIs 1] c = true) : Good z d c (partP [0] c) := by
  obtain ⟨op, k, s, kids⟩ := c
  obtain ⟨e, ht⟩ := op_is hf
  have e : op = 16 := e
  subst e
  obtain ⟨rfl, ho, hd, hl, hk⟩ := shape hz h (ks := [1, 1]) (t := 1) (by decide) (by omega)
  obtain ⟨a, b, rfl, ha, hb⟩ := ok2 hk (by simpa using hl)
  have t1 : tyOk 1 := by unfold tyOk; omega
  have ht : truIs 1 a = true := by simpa [tstK, kidC, Co.kids, anyP] using ht
  obtain ⟨rfl, -⟩ := tru_is t1 ha ht
  refine ⟨Kept.kid (by simp [partP, kidC, Co.kids]) ha, mu_lt (sz_kid (by simp [partP, kidC, Co.kids])), .root _ _ _ (.inl ⟨by omega, fun fs day hF => ?_⟩)⟩
  show valP fs day (truC 1) = _
  rw [val_16]
  rw [val_tru]
  rfl
theorem g_22T {z d : Int} {c : Co} (hz : tyOk z) (h : okT z d c = true) (hf : isP 22 [truIs 1] c = true) : Good z d c (partP [1] c) := by
  obtain ⟨op, k, s, kids⟩ := c
  obtain ⟨e, ht⟩ := op_is hf
  have e : op = 22 := e
  subst e
  obtain ⟨ks, hl, ho, hd, hk, hr⟩ := ok_inv hz h
  obtain ⟨hz4, rfl⟩ : z ≠ 4 ∧ ks = [1, z, z] := by rcases hr with ⟨-, h4, h5⟩ | hr; exact ⟨h4, h5⟩; cases hr
  obtain ⟨a, b, g, rfl, ha, hb, he⟩ := ok3 hk (by simpa using hl)
  have ht : truIs 1 a = true := by simpa [tstK, kidC, Co.kids] using ht
  obtain ⟨rfl, -⟩ := tru_is (by unfold tyOk; omega) ha ht
  refine ⟨Kept.kid (by simp [partP, kidC, Co.kids]) hb, mu_lt (sz_kid (by simp [partP, kidC, Co.kids])), .root _ _ _ (.inl ⟨hz4, fun fs day hF => ?_⟩)⟩
  show valP fs day b = _
  rw [val_22, val_tru]
  rfl
theorem g_22F {z d : Int} {c : Co} (hz : tyOk z) (h : okT z d c = true) (hf : isP 22 [truIs 0] c = true) : Good z d c (partP [2] c) := by
  obtain ⟨op, k, s, kids⟩ := c
  obtain ⟨e, ht⟩ := op_is hf
  have e : op = 22 := e
  subst e
  obtain ⟨ks, hl, ho, hd, hk, hr⟩ := ok_inv hz h
  obtain ⟨hz4, rfl⟩ : z ≠ 4 ∧ ks = [1, z, z] := by rcases hr with ⟨-, h4, h5⟩ | hr; exact ⟨h4, h5⟩; cases hr
  obtain ⟨a, b, g, rfl, ha, hb, he⟩ := ok3 hk (by simpa using hl)
  have ht : truIs 0 a = true := by simpa [tstK, kidC, Co.kids] using ht
  obtain ⟨rfl, -⟩ := tru_is (by unfold tyOk; omega) ha ht
  refine ⟨Kept.kid (by simp [partP, kidC, Co.kids]) he, mu_lt (sz_kid (by simp [partP, kidC, Co.kids])), .root _ _ _ (.inl ⟨hz4, fun fs day hF => ?_⟩)⟩
  show valP fs day g = _
  rw [val_22, val_tru]
  rfl
theorem g_25g {z d : Int} {c : Co} (hz : tyOk z) (h : okT z d c = true) (hf : isP 25 [isP 25 []] c = true) : Good z d c (partP [0, 0] c) := by
  obtain ⟨op, k, s, kids⟩ := c
  obtain ⟨e, ht⟩ := op_is hf
  have e : op = 25 := e
  subst e
  obtain ⟨rfl, ho, hd, hl, hk⟩ := shape hz h (ks := [4]) (t := 4) (by decide) (by omega)
  obtain ⟨a, rfl, ha⟩ := ok1 hk (by simpa using hl)
  have t4 : tyOk 4 := by unfold tyOk; omega
  have ht : isP 25 [] a = true := by simpa [tstK, kidC, Co.kids] using ht
  obtain ⟨op', k', s', kids'⟩ := a
  have e : op' = 25 := (op_is ht).1
  subst e
  obtain ⟨-, -, -, hl', hk'⟩ := shape t4 ha (ks := [4]) (t := 4) (by decide) (by omega)
  obtain ⟨a, rfl, ha'⟩ := ok1 hk' (by simpa using hl')
  refine ⟨Kept.kid2 (List.mem_singleton_self _) (List.mem_singleton_self _) ha', mu_lt ?_, .root _ _ _ (.inr ⟨rfl, 2, termG .., fun fs day p f hF hf => ?_⟩)⟩
  · show szC a + 1 ≤ _
    rw [sz1, sz1]; omega
  · show _ = acq fs day a (p + 2) f
    rw [acq_25, acq_25, clampI_neg, clampI_in hf.1 hf.2, clampI_in hf.1 hf.2, Int.neg_neg, Int.add_assoc]; rfl
theorem g_25z {z d : Int} {c : Co} (hz : tyOk z) (h : okT z d c = true) (hf : isP 25 [isP 23 []] c = true) : Good z d c (partP [0] c) := by
  obtain ⟨op, k, s, kids⟩ := c
  obtain ⟨e, ht⟩ := op_is hf
  have e : op = 25 := e
  subst e
  obtain ⟨rfl, ho, hd, hl, hk⟩ := shape hz h (ks := [4]) (t := 4) (by decide) (by omega)
  obtain ⟨a, rfl, ha⟩ := ok1 hk (by simpa using hl)
  have t4 : tyOk 4 := by unfold tyOk; omega
  have ht : isP 23 [] a = true := by simpa [tstK, kidC, Co.kids] using ht
  obtain ⟨rfl, -⟩ := cz_is t4 ha ht
  refine ⟨Kept.kid (by simp [partP, kidC, Co.kids]) ha, mu_lt (sz_kid (by simp [partP, kidC, Co.kids])), .root _ _ _ (.inr ⟨rfl, 1, term1 .., fun fs day p f hF hf => ?_⟩)⟩
  show _ = acq fs day czC (p + 1) f
  rw [acq_25]
  unfold czC
  rw [acq_23, acq_23]
theorem g_27l {z d : Int} {c : Co} (hz : tyOk z) (h : okT z d c = true) (hf : isP 27 [isP 23 []] c = true) : Good z d c (partP [1] c) := by
  obtain ⟨op, k, s, kids⟩ := c
  obtain ⟨e, ht⟩ := op_is hf
  have e : op = 27 := e
  subst e
  obtain ⟨rfl, ho, hd, hl, hk⟩ := shape hz h (ks := [4, 4]) (t := 4) (by decide) (by omega)
  obtain ⟨a, b, rfl, ha, hb⟩ := ok2 hk (by simpa using hl)
  have t4 : tyOk 4 := by unfold tyOk; omega
  have ht : isP 23 [] a = true := by simpa [tstK, kidC, Co.kids] using ht
  obtain ⟨rfl, -⟩ := cz_is t4 ha ht
  refine ⟨Kept.kid (by simp [partP, kidC, Co.kids]) hb, mu_lt (sz_kid (by simp [partP, kidC, Co.kids])), .root _ _ _ (.inr ⟨rfl, 1 + szC czC, term2 .., fun fs day p f hF hf => ?_⟩)⟩
  show _ = acq fs day b (p + (1 + szC czC)) f
  rw [acq_27, show p + 1 + szC czC = p + (1 + szC czC) by omega]
  unfold czC
  rw [acq_23]
  rfl
theorem g_27r {z d : Int} {c : Co} (hz : tyOk z) (h : okT z d c = true) (hf : isP 27 [anyP, isP 23 []] c = true) : Good z d c (partP [0] c) := by
  obtain ⟨op, k, s, kids⟩ := c
  obtain ⟨e, ht⟩ := op_is hf
  have e : op = 27 := e
  subst e
  obtain ⟨rfl, ho, hd, hl, hk⟩ := shape hz h (ks := [4, 4]) (t := 4) (by decide) (by omega)
  obtain ⟨a, b, rfl, ha, hb⟩ := ok2 hk (by simpa using hl)
  have t4 : tyOk 4 := by unfold tyOk; omega
  have ht : isP 23 [] b = true := by simpa [tstK, kidC, Co.kids, anyP] using ht
  obtain ⟨rfl, -⟩ := cz_is t4 hb ht
  refine ⟨Kept.kid (by simp [partP, kidC, Co.kids]) ha, mu_lt (sz_kid (by simp [partP, kidC, Co.kids])), .root _ _ _ (.inr ⟨rfl, 1, term1 .., fun fs day p f hF hf => ?_⟩)⟩
  show _ = acq fs day a (p + 1) f
  rw [acq_27]
  unfold czC
  rw [acq_23]
  unfold R2.cat r0
  simp
theorem g_26u {z d : Int} {c : Co} (hz : tyOk z) (h : okT z d c = true) (hf : isP 26 [numIs 1000000] c = true) : Good z d c (partP [1] c) := by
  obtain ⟨op, k, s, kids⟩ := c
  obtain ⟨e, ht⟩ := op_is hf
  have e : op = 26 := e
  subst e
  obtain ⟨rfl, ho, hd, hl, hk⟩ := shape hz h (ks := [0, 4]) (t := 4) (by decide) (by omega)
  obtain ⟨a, b, rfl, ha, hb⟩ := ok2 hk (by simpa using hl)
  have t0 : tyOk 0 := by unfold tyOk; omega
  have t4 : tyOk 4 := by unfold tyOk; omega
  have ht : numIs 1000000 a = true := by simpa [tstK, kidC, Co.kids] using ht
  obtain ⟨rfl, -⟩ := num_is t0 ha ht
  refine ⟨Kept.kid (by simp [partP, kidC, Co.kids]) hb, mu_lt (sz_kid (by simp [partP, kidC, Co.kids])), .root _ _ _ (.inr ⟨rfl, 1 + szC (numC 1000000), term2 .., fun fs day p f hF hf => ?_⟩)⟩
  show _ = acq fs day b (p + (1 + szC (numC 1000000))) f
  rw [acq_26, val_num, show p + 1 + szC (numC 1000000) = p + (1 + szC (numC 1000000)) by omega]
  simp only
  rw [mulI_one, clampI_in hf.1 hf.2]
theorem g_26z {z d : Int} {c : Co} (hz : tyOk z) (h : okT z d c = true) (hf : isP 26 [isP 1 [], isP 23 []] c = true) : Good z d c (partP [1] c) := by
  obtain ⟨op, k, s, kids⟩ := c
  obtain ⟨e, ht⟩ := op_is hf
  have e : op = 26 := e
  subst e
  obtain ⟨rfl, ho, hd, hl, hk⟩ := shape hz h (ks := [0, 4]) (t := 4) (by decide) (by omega)
  obtain ⟨a, b, rfl, ha, hb⟩ := ok2 hk (by simpa using hl)
  have t0 : tyOk 0 := by unfold tyOk; omega
  have t4 : tyOk 4 := by unfold tyOk; omega
  have ht : isP 1 [] a = true ∧ isP 23 [] b = true := by simpa [tstK, kidC, Co.kids] using ht
  obtain ⟨rfl, -⟩ := cz_is t4 hb ht.2
  obtain ⟨n, hn⟩ : ∃ n, numIs n a = true := ⟨a.k, by have := (op_is ht.1).1; unfold numIs; simp [this]⟩
  obtain ⟨rfl, -⟩ := num_is t0 ha hn
  refine ⟨Kept.kid (by simp [partP, kidC, Co.kids]) hb, mu_lt (sz_kid (by simp [partP, kidC, Co.kids])), .root _ _ _ (.inr ⟨rfl, 1 + szC (numC n), term2 .., fun fs day p f hF hf => ?_⟩)⟩
  show _ = acq fs day czC (p + (1 + szC (numC n))) f
  rw [acq_26, val_num]
  simp only
  unfold czC
  rw [acq_23, acq_23]
theorem g_28T {z d : Int} {c : Co} (hz : tyOk z) (h : okT z d c = true) (hf : isP 28 [truIs 1] c = true) : Good z d c (partP [1] c) := by
  obtain ⟨op, k, s, kids⟩ := c
  obtain ⟨e, ht⟩ := op_is hf
  have e : op = 28 := e
  subst e
  obtain ⟨rfl, ho, hd, hl, hk⟩ := shape hz h (ks := [1, 4, 4]) (t := 4) (by decide) (by omega)
  obtain ⟨a, b, g, rfl, ha, hb, he⟩ := ok3 hk (by simpa using hl)
  have t1 : tyOk 1 := by unfold tyOk; omega
  have t4 : tyOk 4 := by unfold tyOk; omega
  have ht : truIs 1 a = true := by simpa [tstK, kidC, Co.kids] using ht
  obtain ⟨rfl, -⟩ := tru_is t1 ha ht
  refine ⟨Kept.kid (by simp [partP, kidC, Co.kids]) hb, mu_lt (sz_kid (by simp [partP, kidC, Co.kids])), .root _ _ _ (.inr ⟨rfl, 1 + szC (truC 1), term2 .., fun fs day p f hF hf => ?_⟩)⟩
  show _ = acq fs day b (p + (1 + szC (truC 1))) f
  rw [acq_28, val_tru]
  show acq fs day b (p + 1 + szC (truC 1)) f = _
  rw [show p + 1 + szC (truC 1) = p + (1 + szC (truC 1)) by omega]
theorem g_28F {z d : Int} {c : Co} (hz : tyOk z) (h : okT z d c = true) (hf : isP 28 [truIs 0] c = true) : Good z d c (partP [2] c) := by
  obtain ⟨op, k, s, kids⟩ := c
  obtain ⟨e, ht⟩ := op_is hf
  have e : op = 28 := e
  subst e
  obtain ⟨rfl, ho, hd, hl, hk⟩ := shape hz h (ks := [1, 4, 4]) (t := 4) (by decide) (by omega)
  obtain ⟨a, b, g, rfl, ha, hb, he⟩ := ok3 hk (by simpa using hl)
  have t1 : tyOk 1 := by unfold tyOk; omega
  have t4 : tyOk 4 := by unfold tyOk; omega
  have ht : truIs 0 a = true := by simpa [tstK, kidC, Co.kids] using ht
  obtain ⟨rfl, -⟩ := tru_is t1 ha ht
  refine ⟨Kept.kid (by simp [partP, kidC, Co.kids]) he, mu_lt (sz_kid (by simp [partP, kidC, Co.kids])), .root _ _ _ (.inr ⟨rfl, 1 + szC (truC 0) + szC b, term3 .., fun fs day p f hF hf => ?_⟩)⟩
  show _ = acq fs day g (p + (1 + szC (truC 0) + szC b)) f
  rw [acq_28, val_tru]
  show acq fs day g (p + 1 + szC (truC 0) + szC b) f = _
  rw [show p + 1 + szC (truC 0) + szC b = p + (1 + szC (truC 0) + szC b) by omega]
theorem t4 : tyOk 4 := by unfold tyOk; omega
theorem t1 : tyOk 1 := by unfold tyOk; omega
theorem own29 {k : Int} {s : List UInt8} : ownC 29 k s = true ↔ (0 ≤ k ∧ k ≤ 73048) ∧ s = [] := by
  unfold ownC ownN ownS
  simp [inW, dateP, lookP]
theorem own30 {k : Int} {s : List UInt8} : ownC 30 k s = true ↔ (0 ≤ k ∧ k ≤ 73048) ∧ s = [] := by
  unfold ownC ownN ownS
  simp [inW, dateP, lookP]
theorem g_29 {z d : Int} {c : Co} (hz : tyOk z) (h : okT z d c = true) (hf : isP 29 [isP 29 []] c = true) : Good z d c (laterP c) := by
  obtain ⟨op, k, s, kids⟩ := c
  obtain ⟨e, ht⟩ := op_is hf
  have e : op = 29 := e
  subst e
  obtain ⟨rfl, ho, hd, hl, hk⟩ := shape hz h (ks := [4]) (t := 4) (by decide) (by omega)
  obtain ⟨a, rfl, ha⟩ := ok1 hk (by simpa using hl)
  have t4 : tyOk 4 := by unfold tyOk; omega
  have ht : isP 29 [] a = true := by simpa [tstK, kidC, Co.kids] using ht
  obtain ⟨op', m, s', kids'⟩ := a
  have e : op' = 29 := (op_is ht).1
  subst e
  obtain ⟨-, ho', -, hl', hk'⟩ := shape t4 ha (ks := [4]) (t := 4) (by decide) (by omega)
  obtain ⟨a, rfl, ha'⟩ := ok1 hk' (by simpa using hl')
  obtain ⟨o1, rfl⟩ := own29.1 ho
  obtain ⟨o2, rfl⟩ := own29.1 ho'
  have hA := sz1 29 (max k m) [] a
  have hC : szC (.mk 29 k [] [.mk 29 m [] [a]]) = 1 + (1 + szC a) := by rw [sz1, sz1]
  refine ⟨⟨ok_intro t4 (ks := [4]) rfl (own29.2 ⟨show 0 ≤ max k m ∧ max k m ≤ 73048 by omega, rfl⟩) hd ?_ (.inr (by decide)), ?_, ?_, ?_⟩, mu_lt ?_, .later k m [] [] a⟩
  · show okTs (d + 1) [4] [a] = true
    simp only [okTs, Bool.and_true]
    exact okT_up 4 (d + 1) a ha'
  · show szC (.mk 29 (max k m) [] [a]) ≤ _
    omega
  · show hzC (.mk 29 (max k m) [] [a]) ≤ _
    rw [hzC, hzC, hzL, hzL, hzL, hzC, hzL, hzL]
    simp only [show dateP 29 = true by decide, cond_true]
    omega
  · intro hh
    have h1 := ah_kid (List.mem_singleton_self _) hh
    have h2 := ah_kid (List.mem_singleton_self _) h1
    show ahC (.mk 29 (max k m) [] [a]) = false
    rw [ahC, ahL, ahL, h2]
    rfl
  · show szC (.mk 29 (max k m) [] [a]) + 1 ≤ _
    omega
theorem g_30 {z d : Int} {c : Co} (hz : tyOk z) (h : okT z d c = true) (hf : isP 30 [truIs 0, notP 23] c = true) : Good z d c (emptP c) := by
  obtain ⟨op, k, s, kids⟩ := c
  obtain ⟨e, ht⟩ := op_is hf
  have e : op = 30 := e
  subst e
  obtain ⟨rfl, ho, hd, hl, hk⟩ := shape hz h (ks := [1, 4]) (t := 4) (by decide) (by omega)
  obtain ⟨a, b, rfl, ha, hb⟩ := ok2 hk (by simpa using hl)
  have t1 : tyOk 1 := by unfold tyOk; omega
  have t4 : tyOk 4 := by unfold tyOk; omega
  have htt : truIs 0 a = true ∧ notP 23 b = true := by simpa [tstK, kidC, Co.kids] using ht
  obtain ⟨rfl, -⟩ := tru_is t1 ha htt.1
  obtain ⟨o1, rfl⟩ := own30.1 ho
  have hb1 := szC_pos b
  have hcz : szC czC = 1 := sz_leaf ..
  refine ⟨⟨ok_intro t4 (ks := [1, 4]) rfl (own30.2 ⟨o1, rfl⟩) hd ?_ (.inr (by decide)), ?_, ?_, ?_⟩, ?_, .empt k [] b⟩
  · show okTs (d + 1) [1, 4] [truC 0, czC] = true
    simp only [okTs, Bool.and_true, Bool.and_eq_true]
    refine ⟨ha, ok_intro t4 (ks := []) rfl (by decide) ?_ rfl (.inr (by decide))⟩
    obtain ⟨op', k', s', l'⟩ := b
    exact (ok_inv t4 hb).choose_spec.2.2.1
  · show szC (.mk 30 k [] [truC 0, czC]) ≤ _
    rw [sz2, sz2]; omega
  · show hzC (.mk 30 k [] [truC 0, czC]) ≤ _
    rw [hzC, hzC, hzL, hzL, hzL, hzL, hzL]
    have : hzC czC = 0 := rfl
    simp only [show dateP 30 = true by decide, cond_true]
    rw [show hzC (truC 0) = 0 by rfl, show hzL [] = 0 by rfl]
    have := hzC_pos b
    omega
  · intro hh
    show ahC (.mk 30 k [] [truC 0, czC]) = false
    rfl
  · show mu (.mk 30 k [] [truC 0, czC]) < _
    unfold mu
    rw [sz2, sz2]
    have h23 : b.op ≠ 23 := by simpa [notP] using htt.2
    have e1 : ((Co.mk 30 k [] [truC 0, b]).op == 30 && (kidC (.mk 30 k [] [truC 0, b]) 1).op != 23) = true := by simpa [kidC, Co.kids, Co.op] using h23
    have e2 : ((Co.mk 30 k [] [truC 0, czC]).op == 30 && (kidC (.mk 30 k [] [truC 0, czC]) 1).op != 23) = false := by rfl
    rw [e1, e2]
    simp only [cond_true, cond_false]
    omega
/-- What two known constants come to is right. -/
theorem val_const {z d : Int} {a : Co} (hz : tyOk z) (h : okT z d a = true) (hc : constP a = true) (fs : Fs) (day : Int) : valP fs day a = some a.k ∧ z ≠ 4 ∧ a.kids = [] := by
  obtain ⟨op, k, s, kids⟩ := a
  unfold constP at hc
  simp only [Bool.or_eq_true, beq_iff_eq] at hc
  have e : op = 1 ∨ op = 2 ∨ op = 3 := by simpa [or_assoc, Co.op] using hc
  rcases e with e | e | e <;> subst e
  · obtain ⟨rfl, rfl, rfl⟩ := leaf_is hz h rk_leaf.1 (by omega) (by omega) (by omega) (by omega)
    exact ⟨by rw [valP, valL]; rfl, by omega, rfl⟩
  · obtain ⟨rfl, rfl, rfl⟩ := leaf_is hz h rk_leaf.2.1 (by omega) (by omega) (by omega) (by omega)
    exact ⟨by rw [valP, valL]; rfl, by omega, rfl⟩
  · obtain ⟨rfl, rfl, rfl⟩ := leaf_is hz h rk_leaf.2.2.1 (by omega) (by omega) (by omega) (by omega)
    exact ⟨by rw [valP, valL]; rfl, by omega, rfl⟩
theorem asks_op {op : Int} (h : asksP op = true) : op = 6 ∨ op = 14 ∨ (7 ≤ op ∧ op ≤ 21 ∧ op ≠ 14 ∧ op ≠ 15 ∧ op ≠ 16) := by
  unfold asksP at h
  simp only [Bool.or_eq_true, Bool.and_eq_true, beq_iff_eq, decide_eq_true_eq] at h
  omega
theorem rk_bin {op : Int} (h7 : 7 ≤ op) (h21 : op ≤ 21) (h14 : op ≠ 14) : ∃ x y t, rkP op = some ([x, y], t) ∧ (t = 0 ∨ t = 1 ∨ t = 2) := by
  have key : ∀ n : Fin 22, 7 ≤ n.1 → n.1 ≠ 14 → (match rkP ((n : Nat) : Int) with | some ([_, _], t) => t == 0 || t == 1 || t == 2 | _ => false) = true := by decide
  have := key ⟨op.toNat, by omega⟩ (by show 7 ≤ op.toNat; omega) (by show op.toNat ≠ 14; omega)
  rw [show (((⟨op.toNat, by omega⟩ : Fin 22) : Nat) : Int) = op by show ((op.toNat : Nat) : Int) = op; omega] at this
  split at this
  · rename_i x y t e
    refine ⟨x, y, t, e, ?_⟩
    simp only [Bool.or_eq_true, beq_iff_eq] at this
    omega
  · cases this
/-- A constant of a type. -/
theorem const_ok {z d v : Int} (hz : z = 0 ∨ z = 1 ∨ z = 2) (hv : kd z v) (hd : d ≤ 200) : okT z d (.mk (z + 1) v [] []) = true := by
  rcases hz with rfl | rfl | rfl
  · refine ok_intro (by unfold tyOk; omega) (ks := []) rfl ?_ hd rfl (.inr (by decide))
    have := hv.1 rfl
    unfold inM at this
    show ownC 1 v [] = true
    unfold ownC ownN ownS
    simp [inW, this]
  · refine ok_intro (by unfold tyOk; omega) (ks := []) rfl ?_ hd rfl (.inr (by decide))
    have := hv.2.1 rfl
    show ownC 2 v [] = true
    unfold ownC ownN ownS
    simp [inW]
    omega
  · refine ok_intro (by unfold tyOk; omega) (ks := []) rfl ?_ hd rfl (.inr (by decide))
    have := hv.2.2 rfl
    show ownC 3 v [] = true
    unfold ownC ownN ownS
    simp [inW, this]
theorem const_val (fs : Fs) (day : Int) {z v : Int} (hz : z = 0 ∨ z = 1 ∨ z = 2) : valP fs day (.mk (z + 1) v [] []) = some v := by
  rcases hz with rfl | rfl | rfl <;> (rw [valP, valL]; rfl)
theorem RF_nil : RF [] := fun f hf => by cases hf
/-- The kids' values, where they are constants. -/
theorem valL_const {d : Int} : ∀ {ks : List Int} {l : List Co}, (∀ x ∈ ks, tyOk x) → okTs d ks l = true → l.all constP = true → ∀ fs day, valL fs day l = l.map fun x => some x.k
  | _, [], _, _, _, fs, day => by rw [valL]; rfl
  | [], c :: r, _, h, _, _, _ => by simp [okTs] at h
  | x :: xs, c :: r, hk, h, hc, fs, day => by
    simp only [okTs, Bool.and_eq_true] at h
    simp only [List.all_cons, Bool.and_eq_true] at hc
    rw [valL, (val_const (hk x (by simp)) h.1 hc.1 fs day).1, valL_const (ks := xs) (fun y hy => hk y (by simp [hy])) h.2 hc.2 fs day]
    rfl
/-- What is reckoned hangs on nothing else. -/
theorem valC_same {fs fs' : Fs} {day day' op k k' : Int} {t t' : List UInt8} {vs : List (Option Int)} (h : 6 ≤ op) : valC fs day op k t vs = valC fs' day' op k' t' vs := by
  have n : ∀ c : Int, op ≠ c → (op == c) = false := fun c hc => by rw [beq_eq_false_iff_ne]; exact hc
  unfold valC
  simp only [n 1 (by omega), n 2 (by omega), n 3 (by omega), n 4 (by omega), n 5 (by omega), Bool.or_self, cond_false]
theorem g_fold {z d : Int} {c : Co} (hz : tyOk z) (h : okT z d c = true) (hf : rkdP c = true) : Good z d c (reckP c) := by
  obtain ⟨op, k, s, kids⟩ := c
  unfold rkdP at hf
  rw [Bool.and_eq_true] at hf
  have ha := asks_op hf.1
  have hc := hf.2
  replace hc : kids.all constP = true := hc
  have h6 : 6 ≤ op := by show 6 ≤ (Co.mk op k s kids).op; omega
  change op = 6 ∨ op = 14 ∨ _ at ha
  obtain ⟨ks, t, hr, ht, hne, h22⟩ : ∃ ks t, rkP op = some (ks, t) ∧ (t = 0 ∨ t = 1 ∨ t = 2) ∧ ks ≠ [] ∧ op ≠ 22 := by
    rcases ha with rfl | rfl | ⟨h7, h21, h14, -, -⟩
    · exact ⟨[0], 0, by decide, .inl rfl, by simp, by omega⟩
    · exact ⟨[1], 1, by decide, .inr (.inl rfl), by simp, by omega⟩
    · obtain ⟨x, y, t, h1, h2⟩ := rk_bin h7 h21 h14
      exact ⟨[x, y], t, h1, h2, by simp, by change op ≤ 21 at h21; omega⟩
  obtain ⟨rfl, ho, hd, hl, hk⟩ := shape hz h hr h22
  have hvs := valL_const (rk_tys hr).2 hk hc
  have hkn : kids ≠ [] := by intro e; rw [e] at hl; exact hne (List.eq_nil_of_length_eq_zero hl.symm)
  have hval : ∀ fs day, valP fs day (.mk op k s kids) = valC [] 0 op k [] (kids.map fun x => some x.k) := fun fs day => by
    rw [valP, hvs fs day]
    exact valC_same h6
  obtain ⟨v, hv⟩ : ∃ v, valC [] 0 op k [] (kids.map fun x => some x.k) = some v := by
    have n : ∀ c : Int, op ≠ c → (op == c) = false := fun c hc => by rw [beq_eq_false_iff_ne]; exact hc
    obtain ⟨a, r, rfl⟩ := List.exists_cons_of_ne_nil hkn
    rcases ha with rfl | rfl | ⟨h7, h21, h14, h15, h16⟩
    · exact ⟨_, rfl⟩
    · exact ⟨_, rfl⟩
    · change 7 ≤ op at h7
      obtain ⟨x, y, t, h1, h2⟩ := rk_bin h7 h21 h14
      rw [h1] at hr
      cases hr
      obtain ⟨a', b', e, -, -⟩ := ok2 hk (by simpa using hl)
      cases e
      unfold valC
      simp only [n 1 (by omega), n 2 (by omega), n 3 (by omega), n 4 (by omega), n 5 (by omega), n 6 (by omega), n 14 h14, n 15 h15, n 16 h16, n 22 h22, Bool.or_self, cond_false]
      exact ⟨_, rfl⟩
  have hkd : kd z v := val_kd RF_nil _ d z v ((((tp_all _) d).1 z hz).1 h) (by omega) ((hval [] 0).trans hv)
  have he : reckP (.mk op k s kids) = .mk (z + 1) v [] [] := by
    show Co.mk ((match rkP op with | some q => q.2 | none => 0) + 1) ((valC [] 0 op k [] (kids.map fun x => some x.k)).getD 0) [] [] = _
    rw [hr, hv]
    rfl
  rw [he]
  have hsz : szC (.mk (z + 1) v [] []) = 1 := sz_leaf ..
  have hs2 : szC (.mk (z + 1) v [] []) + 1 ≤ szC (.mk op k s kids) := by
    obtain ⟨a, r, rfl⟩ := List.exists_cons_of_ne_nil hkn
    have := sz_kid (op := op) (k := k) (s := s) (kids := a :: r) (c := a) (by simp)
    have := szC_pos a
    omega
  refine ⟨⟨const_ok ht hkd hd, by omega, ?_, fun _ => ?_⟩, mu_lt hs2, .root _ _ _ (.inl ⟨by omega, fun fs day _ => ?_⟩)⟩
  · have hz0 : hzC (.mk (z + 1) v [] []) = 0 := by
      rcases ht with rfl | rfl | rfl <;> rfl
    have := hzC_pos (.mk op k s kids)
    omega
  · rcases ht with rfl | rfl | rfl <;> rfl
  · rw [const_val fs day ht, hval, hv]
/-- Each rule. -/
theorem rule_good {r : Rl} (hr : r ∈ rulesP) {z d : Int} {c : Co} (hz : tyOk z) (h : okT z d c = true) (hf : r.fits c = true) : Good z d c (r.becomes c) := by
  simp only [rulesP, List.mem_cons, List.not_mem_nil, or_false] at hr
  rcases hr with rfl | rfl | rfl | rfl | rfl | rfl | rfl | rfl | rfl | rfl | rfl | rfl | rfl | rfl | rfl | rfl | rfl | rfl | rfl | rfl | rfl | rfl | rfl | rfl | rfl | rfl | rfl
  · exact g_fold hz h hf
  · exact g_6 hz h hf
  · exact g_14 hz h hf
  · exact g_7r hz h hf
  · exact g_7l hz h hf
  · exact g_8 hz h hf
  · exact g_9r hz h hf
  · exact g_9l hz h hf
  · exact g_10 hz h hf
  · exact g_15Tl hz h hf
  · exact g_15Tr hz h hf
  · exact g_16Fl hz h hf
  · exact g_16Fr hz h hf
  · exact g_15F hz h hf
  · exact g_16T hz h hf
  · exact g_25g hz h hf
  · exact g_25z hz h hf
  · exact g_27l hz h hf
  · exact g_27r hz h hf
  · exact g_26u hz h hf
  · exact g_26z hz h hf
  · exact g_29 hz h hf
  · exact g_22T hz h hf
  · exact g_28T hz h hf
  · exact g_22F hz h hf
  · exact g_28F hz h hf
  · exact g_30 hz h hf
end Go.Proofs.YtddbiiejilcbbaaGreatDoor
namespace Go.Proofs.YtddbiiejilcbbaaGreatDoor
open Go Go.RowKit

section
variable {P : Program} {F : Exit → Act → World → Prop} {Inv : World → Prop} {s : St}
/-- What a call asks, its arguments not yet put together. -/
def askC (s : St) : Option (FuncId × Array Value × Array Value × Array Value) :=
  match nextOp s with
  | some (_, o, _, _, _) =>
    match o.op with
    | .call { callee := .value x, args, .. } =>
      match evalL s.tmps x with
      | .func (.func f) first captured => some (f, first, args.map (evalL s.tmps), captured)
      | _ => none
    | _ => none
  | none => none
theorem ask_of {f : FuncId} {a b c : Array Value} (h : askC s = some (f, a, b, c)) : ask s = some (f, a ++ b ++ c) := by
  unfold askC at h
  unfold ask
  split at h
  · rename_i o _ _ _ hn
    rw [hn]
    simp only
    split at h
    · rename_i hop
      rw [hop]
      simp only
      split at h
      · rename_i hv
        rw [hv]
        cases h
        rfl
      · cases h
    · cases h
  · cases h
/-- A call of a function value that leaves all blocks as they are. -/
theorem Goes.callV0 (f : FuncId) (a b c : Array Value) (v : Value) (hf : okf P f = true)
    (hr : ∀ w, Holds s.mem w → Stay s.mem.ids w Inv → Calls P f (a ++ b ++ c) w fun e w' => e = .returned v ∧ Below w.heap.size w w') (h : Goes P F Inv (put0 s v)) (ha : askC s = some (f, a, b, c) := by kernel_rfl) (hw : wants s = true := by kernel_rfl) : Goes P F Inv s :=
  Goes.call0 f _ v hr h (ask_of ha) hw hf
theorem Goes.callV (f : FuncId) (a b c : Array Value) (hf : okf P f = true)
    (hr : ∀ w, Holds s.mem w → s.mem.ids.Nodup → Stay s.mem.ids w Inv → Calls P f (a ++ b ++ c) w fun e w' => ∃ v Inv' m, e = .returned v ∧ Holds m w' ∧ m.ids.Nodup ∧ Stay m.ids w' Inv' ∧ Goes P F Inv' (put s v m)) (ha : askC s = some (f, a, b, c) := by kernel_rfl) (hw : wants s = true := by kernel_rfl) : Goes P F Inv s :=
  Goes.call f _ hr (ask_of ha) hw hf
end
/-- A function value that tells whether a right term is as it asks. -/
def TestF (w : World) (f : FuncId) (cap : Array Value) (T : Co → Bool) : Prop := okf Tryz.prog f = true ∧ ∀ w', Below w.heap.size w w' → ∀ cv c, Dom c → Nc w'.heap.size w' cv c → Calls Tryz.prog f (#[] ++ #[cv] ++ cap) w' fun e w'' => e = .returned (.bool (T c)) ∧ Below w'.heap.size w' w''
theorem TestF.later {w w' : World} {f : FuncId} {cap : Array Value} {T : Co → Bool} (h : TestF w f cap T) (hB : Below w.heap.size w w') : TestF w' f cap T := ⟨h.1, fun w2 h2 => h.2 w2 (hB.trans (h2.mono hB.size))⟩
/-- One that makes another term of a right term that fits. -/
def MakeF (w : World) (f : FuncId) (cap : Array Value) (T : Co → Bool) (M : Co → Co) : Prop := okf Tryz.prog f = true ∧ ∀ w', Below w.heap.size w w' → Tab w' → ∀ cv c (A : Nat → Prop), (∀ x, A x → x < w'.heap.size) → Dom c → T c = true → NcS A w' cv c → Calls Tryz.prog f (#[] ++ #[cv] ++ cap) w' fun e w'' => ∃ v, e = .returned v ∧ NcS (Since A w' w'') w'' v (M c) ∧ Below w'.heap.size w' w''
theorem MakeF.later {w w' : World} {f : FuncId} {cap : Array Value} {T : Co → Bool} {M : Co → Co} (h : MakeF w f cap T M) (hB : Below w.heap.size w w') : MakeF w' f cap T M := ⟨h.1, fun w2 h2 => h.2 w2 (hB.trans (h2.mono hB.size))⟩
theorem Nc.same {n : Nat} {w : World} {v : Value} {c : Co} (h : Nc n w v c) : ∃ a N cc, v = cv c.op c.k (match c with | .mk _ _ s _ => s) (.slice a N cc) ∧ N = c.kids.length := by
  cases h with
  | mk op k s kids a c vs => exact ⟨_, _, _, rfl, rfl⟩

set_option maxRecDepth 100000 in
seal rn rnN rnS Goes ans atEnd put0 putM opened openedY putA0 putA oneSt st0 keep in
theorem nought_any (w0 : World) : TestF w0 167 #[] (numIs 0) := by
  refine ⟨by kernel_rfl, fun w _ v c _ hN => ?_⟩
  obtain ⟨op, k, s, kids⟩ := c
  obtain ⟨a, N, cc, rfl, -⟩ := hN.same
  show Calls Tryz.prog 167 #[cv op k s (.slice a N cc)] w _
  refine Goes.begin Tryz.func167 [] (fun _ => True) Holds.nil (by simp [Mem.ids]) (fun _ _ => trivial) ?_
  cases h : (op == 1) with
  | true =>
    refine Goes.run1 [0, 1, 0] [(op == 1, true)] ⟨h, trivial⟩ fun g => ?_
    exact Goes.ret [] (.bool (k == 0)) fun w' hm hI => ⟨by show _ = Ending.returned (.bool (op == 1 && k == 0)); rw [h]; rfl, bel0 hI⟩
  | false =>
    refine Goes.run1 [0, 0] [(op == 1, false)] ⟨h, trivial⟩ fun g => ?_
    exact Goes.ret [] (.bool false) fun w' hm hI => ⟨by show _ = Ending.returned (.bool (op == 1 && k == 0)); rw [h]; rfl, bel0 hI⟩
set_option maxRecDepth 100000 in
seal rn rnN rnS Goes ans atEnd put0 putM opened openedY putA0 putA oneSt st0 keep in
theorem unit_any (w0 : World) : TestF w0 168 #[] (numIs 1000000) := by
  refine ⟨by kernel_rfl, fun w _ v c _ hN => ?_⟩
  obtain ⟨op, k, s, kids⟩ := c
  obtain ⟨a, N, cc, rfl, -⟩ := hN.same
  show Calls Tryz.prog 168 #[cv op k s (.slice a N cc)] w _
  refine Goes.begin Tryz.func168 [] (fun _ => True) Holds.nil (by simp [Mem.ids]) (fun _ _ => trivial) ?_
  cases h : (op == 1) with
  | true =>
    refine Goes.run1 [0, 1, 0] [(op == 1, true)] ⟨h, trivial⟩ fun g => ?_
    exact Goes.ret [] (.bool (k == 1000000)) fun w' hm hI => ⟨by show _ = Ending.returned (.bool (op == 1 && k == 1000000)); rw [h]; rfl, bel0 hI⟩
  | false =>
    refine Goes.run1 [0, 0] [(op == 1, false)] ⟨h, trivial⟩ fun g => ?_
    exact Goes.ret [] (.bool false) fun w' hm hI => ⟨by show _ = Ending.returned (.bool (op == 1 && k == 1000000)); rw [h]; rfl, bel0 hI⟩
set_option maxRecDepth 100000 in
seal rn rnN rnS Goes ans atEnd put0 putM opened openedY putA0 putA oneSt st0 keep in
theorem ptrue_any (w0 : World) : TestF w0 169 #[] (truIs 1) := by
  refine ⟨by kernel_rfl, fun w _ v c _ hN => ?_⟩
  obtain ⟨op, k, s, kids⟩ := c
  obtain ⟨a, N, cc, rfl, -⟩ := hN.same
  show Calls Tryz.prog 169 #[cv op k s (.slice a N cc)] w _
  refine Goes.begin Tryz.func169 [] (fun _ => True) Holds.nil (by simp [Mem.ids]) (fun _ _ => trivial) ?_
  cases h : (op == 2) with
  | true =>
    refine Goes.run1 [0, 1, 0] [(op == 2, true)] ⟨h, trivial⟩ fun g => ?_
    exact Goes.ret [] (.bool (k == 1)) fun w' hm hI => ⟨by show _ = Ending.returned (.bool (op == 2 && k == 1)); rw [h]; rfl, bel0 hI⟩
  | false =>
    refine Goes.run1 [0, 0] [(op == 2, false)] ⟨h, trivial⟩ fun g => ?_
    exact Goes.ret [] (.bool false) fun w' hm hI => ⟨by show _ = Ending.returned (.bool (op == 2 && k == 1)); rw [h]; rfl, bel0 hI⟩
set_option maxRecDepth 100000 in
seal rn rnN rnS Goes ans atEnd put0 putM opened openedY putA0 putA oneSt st0 keep in
theorem pfalse_any (w0 : World) : TestF w0 170 #[] (truIs 0) := by
  refine ⟨by kernel_rfl, fun w _ v c _ hN => ?_⟩
  obtain ⟨op, k, s, kids⟩ := c
  obtain ⟨a, N, cc, rfl, -⟩ := hN.same
  show Calls Tryz.prog 170 #[cv op k s (.slice a N cc)] w _
  refine Goes.begin Tryz.func170 [] (fun _ => True) Holds.nil (by simp [Mem.ids]) (fun _ _ => trivial) ?_
  cases h : (op == 2) with
  | true =>
    refine Goes.run1 [0, 1, 0] [(op == 2, true)] ⟨h, trivial⟩ fun g => ?_
    exact Goes.ret [] (.bool (k == 0)) fun w' hm hI => ⟨by show _ = Ending.returned (.bool (op == 2 && k == 0)); rw [h]; rfl, bel0 hI⟩
  | false =>
    refine Goes.run1 [0, 0] [(op == 2, false)] ⟨h, trivial⟩ fun g => ?_
    exact Goes.ret [] (.bool false) fun w' hm hI => ⟨by show _ = Ending.returned (.bool (op == 2 && k == 0)); rw [h]; rfl, bel0 hI⟩
set_option maxRecDepth 100000 in
seal rn rnN rnS Goes ans atEnd put0 putM opened openedY putA0 putA oneSt st0 keep in
theorem pany_any (w0 : World) : TestF w0 166 #[] anyP := by
  refine ⟨by kernel_rfl, fun w _ v c _ hN => ?_⟩
  obtain ⟨op, k, s, kids⟩ := c
  obtain ⟨a, N, cc, rfl, -⟩ := hN.same
  show Calls Tryz.prog 166 #[cv op k s (.slice a N cc)] w _
  refine Goes.begin Tryz.func166 [] (fun _ => True) Holds.nil (by simp [Mem.ids]) (fun _ _ => trivial) ?_
  refine Goes.run1 [] [] trivial fun g => ?_
  exact Goes.ret [] (.bool true) fun w' hm hI => ⟨rfl, bel0 hI⟩
set_option maxRecDepth 100000 in
seal rn rnN rnS Goes ans atEnd put0 putM opened openedY putA0 putA oneSt st0 keep in
theorem noconst_any (w0 : World) : TestF w0 208 #[] (fun c => !constP c) := by
  refine ⟨by kernel_rfl, fun w _ v c _ hN => ?_⟩
  obtain ⟨op, k, s, kids⟩ := c
  obtain ⟨a, N, cc, rfl, -⟩ := hN.same
  show Calls Tryz.prog 208 #[cv op k s (.slice a N cc)] w _
  have e : ∀ b : Bool, b = !(op == 1 || op == 2 || op == 3) → Ending.returned (.bool b) = Ending.returned (.bool (!constP (.mk op k s kids))) := fun b h => by rw [h]; rfl
  refine Goes.begin Tryz.func208 [] (fun _ => True) Holds.nil (by simp [Mem.ids]) (fun _ _ => trivial) ?_
  cases h : (op == 1) with
  | true =>
    refine Goes.run1 [0, 0, 0] [(false, false), (!(op == 1), false)] ⟨rfl, by rw [h]; rfl, trivial⟩ fun g => ?_
    exact Goes.ret [] (.bool false) fun w' hm hI => ⟨e _ (by rw [h]; rfl), bel0 hI⟩
  | false =>
  cases h2 : (op == 2) with
  | true =>
    refine Goes.run1 [0, 1, 0, 0] [(!(op == 2), false), (!(op == 1), true)] ⟨by rw [h2]; rfl, by rw [h]; rfl, trivial⟩ fun g => ?_
    exact Goes.ret [] (.bool false) fun w' hm hI => ⟨e _ (by rw [h, h2]; rfl), bel0 hI⟩
  | false =>
    refine Goes.run1 [0, 1, 0, 1, 0] [(!(op == 2), true), (!(op == 1), true)] ⟨by rw [h2]; rfl, by rw [h]; rfl, trivial⟩ fun g => ?_
    exact Goes.ret [] (.bool (!(op == 3))) fun w' hm hI => ⟨e _ (by rw [h, h2]; rfl), bel0 hI⟩
set_option maxRecDepth 100000 in
seal rn rnN rnS Goes ans atEnd put0 putM opened openedY putA0 putA oneSt st0 keep in
theorem asks_any (op : Int) (w : World) : Calls Tryz.prog 206 #[.int .i64 op] w fun e w' => e = .returned (.bool (asksP op)) ∧ Below w.heap.size w w' := by
  have e : ∀ b : Bool, b = (op == 6 || op == 14 || (decide (7 ≤ op) && decide (op ≤ 13)) || (decide (17 ≤ op) && decide (op ≤ 21))) → Ending.returned (.bool b) = Ending.returned (.bool (asksP op)) := fun b h => by rw [h]; rfl
  refine Goes.begin Tryz.func206 [] (fun _ => True) Holds.nil (by simp [Mem.ids]) (fun _ _ => trivial) ?_
  cases h6 : (op == 6) with
  | true =>
    refine Goes.run [1, 1, 1] [(true, true), (true, true), (op == 6, true)] ⟨rfl, rfl, h6, trivial⟩ ?_
    exact Goes.ret [] (.bool true) fun w' hm hI => ⟨e _ (by rw [h6]; rfl), bel0 hI⟩
  | false =>
  cases h14 : (op == 14) with
  | true =>
    refine Goes.run [0, 1, 1] [(true, true), (op == 14, true), (op == 6, false)] ⟨rfl, h14, h6, trivial⟩ ?_
    exact Goes.ret [] (.bool true) fun w' hm hI => ⟨e _ (by rw [h6, h14]; rfl), bel0 hI⟩
  | false =>
  cases h7 : decide (7 ≤ op) with
  | true =>
    cases h13 : decide (op ≤ 13) with
    | true =>
      refine Goes.run [0, 0, 1, 1] [(decide (op ≤ 13), true), (decide (7 ≤ op), true), (op == 14, false), (op == 6, false)] ⟨h13, h7, h14, h6, trivial⟩ ?_
      exact Goes.ret [] (.bool true) fun w' hm hI => ⟨e _ (by rw [h6, h14, h7, h13]; rfl), bel0 hI⟩
    | false =>
      cases h17 : decide (17 ≤ op) with
      | true =>
        refine Goes.run [0, 0, 1, 0, 1] [(decide (17 ≤ op), true), (decide (op ≤ 13), false), (decide (7 ≤ op), true), (op == 14, false), (op == 6, false)] ⟨h17, h13, h7, h14, h6, trivial⟩ ?_
        exact Goes.ret [] (.bool (decide (op ≤ 21))) fun w' hm hI => ⟨e _ (by rw [h6, h14, h7, h13, h17]; rfl), bel0 hI⟩
      | false =>
        refine Goes.run [0, 0, 1, 0, 0] [(decide (17 ≤ op), false), (decide (op ≤ 13), false), (decide (7 ≤ op), true), (op == 14, false), (op == 6, false)] ⟨h17, h13, h7, h14, h6, trivial⟩ ?_
        exact Goes.ret [] (.bool false) fun w' hm hI => ⟨e _ (by rw [h6, h14, h7, h13, h17]; rfl), bel0 hI⟩
  | false =>
    have h17 : decide (17 ≤ op) = false := by have := of_decide_eq_false h7; exact decide_eq_false (by omega)
    refine Goes.run [0, 0, 0, 0, 0] [(decide (17 ≤ op), false), (false, false), (decide (7 ≤ op), false), (op == 14, false), (op == 6, false)] ⟨h17, rfl, h7, h14, h6, trivial⟩ ?_
    exact Goes.ret [] (.bool false) fun w' hm hI => ⟨e _ (by rw [h6, h14, h7, h17]; rfl), bel0 hI⟩
end Go.Proofs.YtddbiiejilcbbaaGreatDoor
namespace Go.Proofs.YtddbiiejilcbbaaGreatDoor
open Go Go.RowKit

def nK (op : Int) : Nat := bif op == 22 then 3 else match rkP op with | some q => q.1.length | none => 0
theorem dom_len {op k : Int} {s : List UInt8} {kids : List Co} (h : Dom (.mk op k s kids)) : kids.length = nK op := by
  obtain ⟨z, d, hz, h⟩ := h
  obtain ⟨ks, hl, -, -, -, hr⟩ := ok_inv hz h
  rcases hr with ⟨rfl, -, rfl⟩ | hr
  · rw [hl]; rfl
  · have h22 : (op == 22) = false := by
      cases h : (op == 22) with
      | false => rfl
      | true => rw [eq_of_beq h] at hr; cases hr
    unfold nK
    rw [h22, hr]
    exact hl
theorem dom_kid {op k : Int} {s : List UInt8} {kids : List Co} (h : Dom (.mk op k s kids)) {i : Nat} {x : Co} (hx : kids[i]? = some x) : Dom x := by
  obtain ⟨z, d, hz, h⟩ := h
  obtain ⟨ks, hl, -, -, hk, hr⟩ := ok_inv hz h
  obtain ⟨zx, h1, h2⟩ := okTs_at hk hx
  refine ⟨zx, d + 1, ?_, h2⟩
  have hm := List.mem_of_getElem? h1
  rcases hr with ⟨-, -, rfl⟩ | hr
  · simp only [List.mem_cons, List.not_mem_nil, or_false] at hm
    rcases hm with e | e | e
    · rw [e]; exact t1
    · rw [e]; exact hz
    · rw [e]; exact hz
  · exact (rk_tys hr).2 zx hm
/-- Tests in a row of memory. -/
def Rests (w : World) (a : Option Addr) (n : Nat) (ts : List (Co → Bool)) : Prop := n = ts.length ∧ n ≤ 2 ∧ ∀ i T, ts[i]? = some T → ∃ b f cap, a = some ⟨b, 0, none⟩ ∧ b < w.heap.size ∧ w.cell? ⟨b, i, none⟩ = some (.func (.func f) #[] cap) ∧ TestF w f cap T
theorem Rests.later {w w' : World} {a : Option Addr} {n : Nat} {ts : List (Co → Bool)} (h : Rests w a n ts) (hB : Below w.heap.size w w') : Rests w' a n ts := by
  refine ⟨h.1, h.2.1, fun i T hT => ?_⟩
  obtain ⟨b, f, cap, h1, h2, h3, h4⟩ := h.2.2 i T hT
  exact ⟨b, f, cap, h1, Nat.lt_of_lt_of_le h2 hB.size, (hB.cell (p := ⟨b, i, none⟩) h2).trans h3, h4.later hB⟩
theorem idxT2 (b n cap k : Nat) (h : k < n) (w : World) : (Instr.indexAt 227 (.slice (some ⟨b, 0, none⟩) n cap) (.int .i64 k)).run Tryz.prog w = .ok (.pointer (some ⟨b, k, none⟩)) w := by go_simp
theorem loadT2 {w : World} {b i : Nat} {v : Value} (hc : w.cell? ⟨b, i, none⟩ = some v) : (Instr.loadAt 136 (.pointer (some ⟨b, i, none⟩))).run Tryz.prog w = .ok v w := load1 Tryz.isAgg136 hc
set_option maxRecDepth 100000 in
seal rn rnN rnS Goes ans atEnd put0 putM opened openedY putA0 putA oneSt st0 keep in
theorem is1_any {w0 : World} {g1 g2 : Nat} {op0 : Int} {a : Option Addr} {n cp : Nat} {ts : List (Co → Bool)} (h1 : w0.heap[g1]? = some (.cells #[.int .i64 op0] 3 (0, 0))) (h2 : w0.heap[g2]? = some (.cells #[.slice a n cp] 227 (0, 0))) (hR : Rests w0 a n ts) (hn : ts.length ≤ nK op0) : TestF w0 212 #[.pointer (some ⟨g1, 0, none⟩), .pointer (some ⟨g2, 0, none⟩)] (isP op0 ts) := by
  have hne : g1 ≠ g2 := by intro e; subst e; rw [h1] at h2; cases h2
  refine ⟨by kernel_rfl, fun w hB v c hD hN => ?_⟩
  have hR' := hR.later hB
  obtain ⟨hnt, hn2, hR'⟩ := hR'
  have k1 : w.heap[g1]? = some (.cells #[.int .i64 op0] 3 (0, 0)) := (hB.block g1 (lt_of_get h1)).trans h1
  have k2 : w.heap[g2]? = some (.cells #[.slice a n cp] 227 (0, 0)) := (hB.block g2 (lt_of_get h2)).trans h2
  obtain ⟨op, k, s, kids⟩ := c
  obtain ⟨ak, cc, rfl, hfit, hcap, hkids⟩ := hN.open
  obtain ⟨N, hL⟩ : ∃ N, kids.length = N := ⟨_, rfl⟩
  rw [hL] at hcap ⊢
  have hlen := dom_len hD
  show Calls Tryz.prog 212 #[cv op k s (.slice ak N cc), .pointer (some ⟨g1, 0, none⟩), .pointer (some ⟨g2, 0, none⟩)] w _
  have hM : Holds [(g1, .cells #[.int .i64 op0] 3 (0, 0)), (g2, .cells #[.slice a n cp] 227 (0, 0))] w := fun j b o hj => by
    match j, hj with
    | 0, hj => cases hj; exact k1
    | 1, hj => cases hj; exact k2
  refine Goes.begin Tryz.func212 [(g1, .cells #[.int .i64 op0] 3 (0, 0)), (g2, .cells #[.slice a n cp] 227 (0, 0))] (fun _ => True) hM (by simp [Mem.ids, hne]) (fun _ _ => trivial) ?_
  cases ho : (op == op0) with
  | false =>
    refine Goes.run1 [2, 0, 1] [(!(op == op0), true)] ⟨by rw [ho]; rfl, trivial⟩ fun g => ?_
    exact Goes.ret [] (.bool false) fun w' hm hI => ⟨by show _ = Ending.returned (.bool (op == op0 && _)); rw [ho]; rfl, below_end hM hI.now.1 hm (by kernel_rfl)⟩
  | true =>
  have eo : op = op0 := eq_of_beq ho
  have ht : n ≤ N := by rw [← hL, hlen, hnt, eo]; exact hn
  refine Goes.run1 [2, 0, 0, 1] [(!(op == op0), false)] ⟨by rw [ho]; rfl, trivial⟩ fun g => ?_
  refine Goes.loop0 (α := Nat) 27 (fun j => [(1, .pointer (some ⟨g1, 0, none⟩)), (2, .pointer (some ⟨g2, 0, none⟩)), (3, .pointer (some ⟨g, 0, none⟩)), (11, .slice a n cp), (12, .int .i64 n), (13, .int .i64 j)]) [(g1, .cells #[.int .i64 op0] 3 (0, 0)), (g2, .cells #[.slice a n cp] 227 (0, 0)), (g, .cells #[.int .i64 op, .int .i64 k, strV s, .slice ak N cc] 52 (0, 0))] (fun j => tstK (.mk op k s kids) j (ts.drop j) = tstK (.mk op k s kids) 0 ts ∧ j ≤ n) (fun j => n - j) 0 ⟨rfl, Nat.zero_le _⟩ ?_
  rintro j J ⟨hj, hj2⟩ back
  cases hlt : decide ((j : Int) < (n : Int)) with
  | false =>
    refine Goes.run [0, 0] [(decide ((j : Int) < (n : Int)), false)] ⟨hlt, trivial⟩ ?_
    exact Goes.ret [] (.bool true) fun w' hm hI => ⟨by show _ = Ending.returned (.bool (op == op0 && tstK _ 0 ts)); rw [ho, ← hj, List.drop_of_length_le (by have := of_decide_eq_false hlt; omega)]; rfl, below_end hM hI.now.1 hm (by kernel_rfl)⟩
  | true =>
    have hjl : j < n := by have := of_decide_eq_true hlt; omega
    obtain ⟨T, hT⟩ : ∃ T, ts[j]? = some T := ⟨ts[j]'(by omega), by simp⟩
    have hd := drop_any hT
    obtain ⟨b, f, cap, rfl, hb, hcell, hF⟩ := hR' j T hT
    obtain ⟨x, hx⟩ : ∃ x, kids[j]? = some x := ⟨kids[j]'(by omega), by simp⟩
    obtain ⟨bk, ok, u, rfl, hbk, hcl, hNu⟩ := hkids j x hx
    have hkx : kidC (.mk op k s kids) j = x := by simp [kidC, Co.kids, List.getD, hx]
    refine Goes.run [0, 1] [(decide ((j : Int) < (n : Int)), true)] ⟨hlt, trivial⟩ ?_
    refine Goes.val (Instr.indexAt 227 (.slice (some ⟨b, 0, none⟩) n cp) (.int .i64 j)) (.pointer (some ⟨b, j, none⟩)) (fun w' _ _ => idxT2 b n cp j hjl w') ?_
    refine Goes.val (Instr.loadAt 136 (.pointer (some ⟨b, j, none⟩))) (.func (.func f) #[] cap) (fun w' hm hI => loadT2 (((below_end hM hI.now.1 hm (by kernel_rfl)).cell (p := ⟨b, j, none⟩) hb).trans hcell)) ?_
    refine Goes.run [2] [] trivial ?_
    refine Goes.val (Instr.indexAt 50 (.slice (some ⟨bk, ok, none⟩) N cc) (.int .i64 j)) (.pointer (some ⟨bk, ok + j * 4, none⟩)) (fun w' _ _ => idxC bk ok N cc j (by omega) w') ?_
    refine Goes.val (Instr.loadAt 52 (.pointer (some ⟨bk, ok + j * 4, none⟩))) u (fun w' hm hI => loadC (hcl.below hbk (below_end hM hI.now.1 hm (by kernel_rfl)))) ?_
    refine Goes.callV0 f #[] #[u] cap (.bool (T x)) hF.1 (fun w' hm hI => hF.2 w' (below_end hM hI.now.1 hm (by kernel_rfl)) u x (dom_kid hD hx) (hNu.at (below_end hM hI.now.1 hm (by kernel_rfl)))) ?_
    cases hTx : T x with
    | false =>
      refine Goes.run [1] [(true, true)] ⟨rfl, trivial⟩ ?_
      exact Goes.ret [] (.bool false) fun w' hm hI => ⟨by show _ = Ending.returned (.bool (op == op0 && tstK _ 0 ts)); rw [ho, ← hj, hd, tstK, hkx, hTx]; rfl, below_end hM hI.now.1 hm (by kernel_rfl)⟩
    | true =>
      refine Goes.run [0] [(false, false)] ⟨rfl, trivial⟩ ?_
      refine Goes.slot 13 (.int .i64 (j + 1 : Nat)) (u := .int .i64 (IntKind.i64.wrap ((j : Int) + 1))) (congrArg _ (wrap_nat (by omega))) ?_
      exact back (j + 1) _ ⟨by rw [← hj, hd, tstK, hkx, hTx]; simp, by omega⟩ (by omega) (by kernel_rfl) (by kernel_rfl) (by kernel_rfl)
set_option maxRecDepth 100000 in
seal rn rnN rnS Goes ans atEnd put0 putM opened openedY putA0 putA oneSt st0 keep in
/-- is: a test of tests. -/
theorem is_any (op0 : Int) (a : Option Addr) (n cp : Nat) (w : World) : Calls Tryz.prog 164 #[.int .i64 op0, .slice a n cp] w fun e w' => ∃ g1 g2, e = .returned (.func (.func 212) #[] #[.pointer (some ⟨g1, 0, none⟩), .pointer (some ⟨g2, 0, none⟩)]) ∧ Below w.heap.size w w' ∧ ∀ ts, Rests w a n ts → ts.length ≤ nK op0 → TestF w' 212 #[.pointer (some ⟨g1, 0, none⟩), .pointer (some ⟨g2, 0, none⟩)] (isP op0 ts) := by
  refine Goes.begin Tryz.func164 [] (fun _ => True) Holds.nil (by simp [Mem.ids]) (fun _ _ => trivial) ?_
  refine Goes.run2 [] [] trivial fun g1 g2 => ?_
  exact Goes.ret [] (.func (.func 212) #[] #[.pointer (some ⟨g1, 0, none⟩), .pointer (some ⟨g2, 0, none⟩)]) fun w' hm hI => ⟨g1, g2, rfl, bel0 hI, fun ts hR hn => is1_any (cp := cp) (hm.get 0) (hm.get 1) (hR.later (bel0 hI)) hn⟩
set_option maxRecDepth 100000 in
seal rn rnN rnS Goes ans atEnd put0 putM opened openedY putA0 putA oneSt st0 keep in
theorem isNot_any (op0 : Int) (w : World) : Calls Tryz.prog 172 #[.int .i64 op0] w fun e w' => ∃ g1, e = .returned (.func (.func 214) #[] #[.pointer (some ⟨g1, 0, none⟩)]) ∧ Below w.heap.size w w' ∧ TestF w' 214 #[.pointer (some ⟨g1, 0, none⟩)] (notP op0) := by
  refine Goes.begin Tryz.func172 [] (fun _ => True) Holds.nil (by simp [Mem.ids]) (fun _ _ => trivial) ?_
  refine Goes.run1 [] [] trivial fun g1 => ?_
  refine Goes.ret [] (.func (.func 214) #[] #[.pointer (some ⟨g1, 0, none⟩)]) fun w' hm hI => ⟨g1, rfl, bel0 hI, by kernel_rfl, fun w2 hB v c hD hN => ?_⟩
  have k0 : w'.heap[g1]? = some (.cells #[.int .i64 op0] 3 (0, 0)) := hm.get 0
  have k1 : w2.heap[g1]? = some (.cells #[.int .i64 op0] 3 (0, 0)) := (hB.block g1 (lt_of_get k0)).trans k0
  obtain ⟨op, k, s, kids⟩ := c
  obtain ⟨a, N, cc, rfl, -⟩ := hN.same
  show Calls Tryz.prog 214 #[cv op k s (.slice a N cc), .pointer (some ⟨g1, 0, none⟩)] w2 _
  have hM : Holds [(g1, .cells #[.int .i64 op0] 3 (0, 0))] w2 := fun j b o hj => by
    match j, hj with
    | 0, hj => cases hj; exact k1
  refine Goes.begin Tryz.func214 [(g1, .cells #[.int .i64 op0] 3 (0, 0))] (fun _ => True) hM (by simp [Mem.ids]) (fun _ _ => trivial) ?_
  refine Goes.run1 [1, 0] [] trivial fun g => ?_
  exact Goes.ret [] (.bool (!(op == op0))) fun w' hm hI => ⟨rfl, below_end hM hI.now.1 hm (by kernel_rfl)⟩
end Go.Proofs.YtddbiiejilcbbaaGreatDoor
namespace Go.Proofs.YtddbiiejilcbbaaGreatDoor
open Go Go.RowKit

theorem own_fits {op k : Int} {s : List UInt8} (h : ownC op k s = true) (ho : 0 ≤ op ∧ op ≤ 31) : Fits op k s := by
  unfold ownC at h
  rw [Bool.and_eq_true] at h
  obtain ⟨h1, h2⟩ := h
  refine ⟨by omega, ?_, ?_⟩
  · unfold ownN at h1
    cases e1 : (op == 1) with
    | true => rw [e1] at h1; simp [inW] at h1; omega
    | false =>
    rw [e1] at h1
    cases e2 : (op == 2) with
    | true => rw [e2] at h1; simp [inW] at h1; omega
    | false =>
    rw [e2] at h1
    cases e3 : (op == 3 || dateP op) with
    | true => rw [e3] at h1; simp [inW] at h1; omega
    | false =>
    rw [e3] at h1
    cases e4 : lookP op with
    | true => rw [e4] at h1; simp [inW] at h1; omega
    | false => rw [e4] at h1; simp at h1; omega
  · unfold ownS at h2
    cases e1 : (op == 4 || op == 31) with
    | true =>
      rw [e1] at h2
      simp only [cond_true, namP, Bool.and_eq_true, decide_eq_true_eq] at h2
      omega
    | false =>
    rw [e1] at h2
    cases e2 : (op == 24) with
    | true =>
      rw [e2] at h2
      simp only [cond_true, cond_false, curP, Bool.and_eq_true, beq_iff_eq] at h2
      omega
    | false =>
      rw [e2] at h2
      simp only [cond_false, decide_eq_true_eq] at h2
      rw [h2]
      simp
theorem ok_fits {z d op k : Int} {s : List UInt8} {kids : List Co} (hz : tyOk z) (h : okT z d (.mk op k s kids) = true) : Fits op k s := by
  obtain ⟨ks, -, ho, -, -, hr⟩ := ok_inv hz h
  refine own_fits ho ?_
  rcases hr with ⟨rfl, -⟩ | hr
  · omega
  · exact op_small hr

set_option maxRecDepth 100000 in
seal rn rnN rnS Goes ans atEnd put0 putM opened openedY putA0 putA oneSt st0 keep in
theorem number_opt (n : Int) (w : World) : Calls Tryz.prog 209 #[.int .i64 n] w fun e w' => e = .returned (cv 1 n [] (.slice none 0 0)) ∧ Below w.heap.size w w' := by
  refine Goes.begin Tryz.func209 [] (fun _ => True) Holds.nil (by simp [Mem.ids]) (fun _ _ => trivial) ?_
  refine Goes.run1 [0] [] trivial fun g => ?_
  exact Goes.ret [0] (cv 1 n [] (.slice none 0 0)) fun w' hm hI => ⟨rfl, bel0 hI⟩
set_option maxRecDepth 100000 in
seal rn rnN rnS Goes ans atEnd put0 putM opened openedY putA0 putA oneSt st0 keep in
theorem day_opt (n : Int) (w : World) : Calls Tryz.prog 211 #[.int .i64 n] w fun e w' => e = .returned (cv 3 n [] (.slice none 0 0)) ∧ Below w.heap.size w w' := by
  refine Goes.begin Tryz.func211 [] (fun _ => True) Holds.nil (by simp [Mem.ids]) (fun _ _ => trivial) ?_
  refine Goes.run1 [0] [] trivial fun g => ?_
  exact Goes.ret [0] (cv 3 n [] (.slice none 0 0)) fun w' hm hI => ⟨rfl, bel0 hI⟩
set_option maxRecDepth 100000 in
seal rn rnN rnS Goes ans atEnd put0 putM opened openedY putA0 putA oneSt st0 keep in
theorem truth_opt (b : Bool) (w : World) : Calls Tryz.prog 210 #[.bool b] w fun e w' => e = .returned (cv 2 (trP b) [] (.slice none 0 0)) ∧ Below w.heap.size w w' := by
  refine Goes.begin Tryz.func210 [] (fun _ => True) Holds.nil (by simp [Mem.ids]) (fun _ _ => trivial) ?_
  cases b with
  | true =>
    refine Goes.run1 [1, 0] [(true, true)] ⟨rfl, trivial⟩ fun g => ?_
    exact Goes.ret [0] (cv 2 1 [] (.slice none 0 0)) fun w' hm hI => ⟨rfl, bel0 hI⟩
  | false =>
    refine Goes.run1 [0, 0] [(false, false)] ⟨rfl, trivial⟩ fun g => ?_
    exact Goes.ret [0] (cv 2 0 [] (.slice none 0 0)) fun w' hm hI => ⟨rfl, bel0 hI⟩
/-- Do the places of a path stand in a term? -/
def pathOk : List Nat → Co → Prop
  | [], _ => True
  | p :: r, c => p < c.kids.length ∧ pathOk r (kidC c p)
/-- How far the taking of a part has come. -/
structure PSt where
  j : Nat
  op : Int
  k : Int
  s : List UInt8
  kids : List Co
  a : Option Addr
  cc : Nat
abbrev PSt.c (x : PSt) : Co := .mk x.op x.k x.s x.kids
def psO (ps : List Nat) : Obj := .cells (ps.map fun (p : Nat) => Value.int .i64 p).toArray 3 (0, 0)
theorem loadPs {w : World} {b i : Nat} {ps : List Nat} {p : Nat} (hb : w.heap[b]? = some (psO ps)) (hi : ps[i]? = some p) : (Instr.loadAt 3 (.pointer (some ⟨b, i, none⟩))).run Tryz.prog w = .ok (.int .i64 p) w := by
  refine load1 Tryz.isAgg3 ?_
  unfold World.cell? psO at *
  rw [hb]
  simp [hi]
set_option maxRecDepth 100000 in
seal rn rnN rnS Goes ans atEnd put0 putM opened openedY putA0 putA oneSt st0 keep in
theorem part1_any {w0 : World} {g1 b : Nat} {cp : Nat} {ps : List Nat} {T : Co → Bool} (h1 : w0.heap[g1]? = some (.cells #[.slice (some ⟨b, 0, none⟩) ps.length cp] 119 (0, 0))) (h2 : w0.heap[b]? = some (psO ps)) (h3 : ps.length ≤ 2) (hT : ∀ c, Dom c → T c = true → pathOk ps c) : MakeF w0 213 #[.pointer (some ⟨g1, 0, none⟩)] T (partP ps) := by
  refine ⟨by kernel_rfl, fun w hB _ v c A hA hD hTc hN => ?_⟩
  have hp := hT c hD hTc
  have k1 : w.heap[g1]? = some (.cells #[.slice (some ⟨b, 0, none⟩) ps.length cp] 119 (0, 0)) := (hB.block g1 (lt_of_get h1)).trans h1
  have k2 : w.heap[b]? = some (psO ps) := (hB.block b (lt_of_get h2)).trans h2
  have hbl : b < w.heap.size := lt_of_get k2
  obtain ⟨n, hn⟩ : ∃ n, ps.length = n := ⟨_, rfl⟩
  rw [hn] at k1 h3
  obtain ⟨op, k, s, kids⟩ := c
  obtain ⟨ak, cc, rfl, -, -, -⟩ := hN.open
  show Calls Tryz.prog 213 #[cv op k s (.slice ak kids.length cc), .pointer (some ⟨g1, 0, none⟩)] w _
  have hM : Holds [(g1, .cells #[.slice (some ⟨b, 0, none⟩) n cp] 119 (0, 0))] w := fun j b o hj => by
    match j, hj with
    | 0, hj => cases hj; exact k1
  refine Goes.begin Tryz.func213 [(g1, .cells #[.slice (some ⟨b, 0, none⟩) n cp] 119 (0, 0))] (fun _ => True) hM (by simp [Mem.ids]) (fun _ _ => trivial) ?_
  refine Goes.run2 [0] [] trivial fun g r => ?_
  refine Goes.loop (α := PSt) 19 (fun x => [(1, .pointer (some ⟨g1, 0, none⟩)), (2, .pointer (some ⟨g, 0, none⟩)), (3, .pointer (some ⟨r, 0, none⟩)), (6, .slice (some ⟨b, 0, none⟩) n cp), (7, .int .i64 n), (8, .int .i64 x.j)])
    (fun x => [(g1, .cells #[.slice (some ⟨b, 0, none⟩) n cp] 119 (0, 0)), (g, .cells #[.int .i64 x.op, .int .i64 x.k, strV x.s, .slice x.a x.kids.length x.cc] 52 (0, 0)), (r, .cells #[.int .i64 0, .int .i64 0, strV [], .slice none 0 0] 52 (0, 0))])
    (fun _ w' => Ch (Mem.ids [(g1, .cells #[.slice (some ⟨b, 0, none⟩) n cp] 119 (0, 0))]) w w' ∧ True) (fun x => NcS A w (cv x.op x.k x.s (.slice x.a x.kids.length x.cc)) x.c ∧ partP (ps.drop x.j) x.c = partP ps (.mk op k s kids) ∧ pathOk (ps.drop x.j) x.c ∧ x.j ≤ n) (fun x => n - x.j) ⟨0, op, k, s, kids, ak, cc⟩ ⟨hN, rfl, hp, Nat.zero_le _⟩ (fun w' hI => hI) ?_
  rintro ⟨j, op', k', s', kids', a', cc'⟩ J ⟨hN', hpart, hpath, hj⟩ back
  replace hN' : NcS A w (cv op' k' s' (.slice a' kids'.length cc')) (.mk op' k' s' kids') := hN'
  replace hpart : partP (ps.drop j) (.mk op' k' s' kids') = partP ps (.mk op k s kids) := hpart
  replace hpath : pathOk (ps.drop j) (.mk op' k' s' kids') := hpath
  replace hj : j ≤ n := hj
  show Goes _ _ (fun w' => Ch (Mem.ids [(g1, .cells #[.slice (some ⟨b, 0, none⟩) n cp] 119 (0, 0))]) w w' ∧ True) ⟨_, fr 19 [(1, .pointer (some ⟨g1, 0, none⟩)), (2, .pointer (some ⟨g, 0, none⟩)), (3, .pointer (some ⟨r, 0, none⟩)), (6, .slice (some ⟨b, 0, none⟩) n cp), (7, .int .i64 n), (8, .int .i64 j)] J, [(g1, .cells #[.slice (some ⟨b, 0, none⟩) n cp] 119 (0, 0)), (g, .cells #[.int .i64 op', .int .i64 k', strV s', .slice a' kids'.length cc'] 52 (0, 0)), (r, .cells #[.int .i64 0, .int .i64 0, strV [], .slice none 0 0] 52 (0, 0))]⟩
  cases hlt : decide ((j : Int) < (n : Int)) with
  | false =>
    refine Goes.run [0, 0, 1, 2] [(decide ((j : Int) < (n : Int)), false)] ⟨hlt, trivial⟩ ?_
    refine Goes.ret [2] (cv op' k' s' (.slice a' kids'.length cc')) fun w' hm hI => ⟨_, rfl, ?_, below_end hM hI.now.1 hm (by kernel_rfl)⟩
    rw [← hpart, List.drop_of_length_le (by have := of_decide_eq_false hlt; omega)]
    exact (hN'.bel hA (below_end hM hI.now.1 hm (by kernel_rfl))).mono fun x hx => .inl hx
  | true =>
    have hjl : j < n := by have := of_decide_eq_true hlt; omega
    obtain ⟨p, hp⟩ : ∃ p, ps[j]? = some p := ⟨ps[j]'(by omega), by simp⟩
    have hd := drop_any hp
    rw [hd] at hpart hpath
    obtain ⟨hpl, hpath⟩ := hpath
    replace hpl : p < kids'.length := hpl
    obtain ⟨a2, c2, e2, hfit, hcap, hkids⟩ := hN'.open
    cases e2
    obtain ⟨N, hL⟩ : ∃ N, kids'.length = N := ⟨_, rfl⟩
    rw [hL] at hpl hcap ⊢
    obtain ⟨x, hx⟩ : ∃ x, kids'[p]? = some x := ⟨kids'[p]'(by omega), by simp⟩
    obtain ⟨bk, ok, u, rfl, hbk', hcl, hNu⟩ := hkids p x hx
    have hbk := hA _ hbk'
    have hkx : kidC (.mk op' k' s' kids') p = x := by simp [kidC, Co.kids, List.getD, hx]
    obtain ⟨op2, k2', s2, kids2⟩ := x
    obtain ⟨a3, c3, rfl, -, -, -⟩ := hNu.open
    refine Goes.run [0, 1] [(decide ((j : Int) < (n : Int)), true)] ⟨hlt, trivial⟩ ?_
    refine Goes.val (Instr.indexAt 119 (.slice (some ⟨b, 0, none⟩) n cp) (.int .i64 j)) (.pointer (some ⟨b, j, none⟩)) (fun w' _ _ => idxI b n cp j hjl w') ?_
    refine Goes.val (Instr.loadAt 3 (.pointer (some ⟨b, j, none⟩))) (.int .i64 p) (fun w' hm hI => loadPs (((below_end hM hI.now.1 hm (by kernel_rfl)).block b hbl).trans k2) hp) ?_
    refine Goes.run [1] [] trivial ?_
    refine Goes.val (Instr.indexAt 50 (.slice (some ⟨bk, ok, none⟩) N cc') (.int .i64 p)) (.pointer (some ⟨bk, ok + p * 4, none⟩)) (fun w' _ _ => idxC bk ok N cc' p hpl w') ?_
    refine Goes.val (Instr.loadAt 52 (.pointer (some ⟨bk, ok + p * 4, none⟩))) (cv op2 k2' s2 (.slice a3 kids2.length c3)) (fun w' hm hI => loadC (hcl.below hbk (below_end hM hI.now.1 hm (by kernel_rfl)))) ?_
    refine Goes.run [1] [] trivial ?_
    refine Goes.slot 8 (.int .i64 (j + 1 : Nat)) (u := .int .i64 (IntKind.i64.wrap ((j : Int) + 1))) (congrArg _ (wrap_nat (by omega))) ?_
    exact back ⟨j + 1, op2, k2', s2, kids2, a3, c3⟩ _ ⟨hNu, by rw [← hpart]; show partP (ps.drop (j + 1)) _ = (ps.drop (j + 1)).foldl kidC (kidC _ p); rw [hkx]; rfl, by rw [hkx] at hpath; exact hpath, by show j + 1 ≤ n; omega⟩ (by show n - (j + 1) < n - j; omega) (by kernel_rfl) (by kernel_rfl) (by kernel_rfl)
set_option maxRecDepth 100000 in
seal rn rnN rnS Goes ans atEnd put0 putM opened openedY putA0 putA oneSt st0 keep in
theorem part_any {b cp : Nat} {ps : List Nat} (n : Nat) (hn : ps.length = n) (w : World) : Calls Tryz.prog 165 #[.slice (some ⟨b, 0, none⟩) n cp] w fun e w' => ∃ g1, e = .returned (.func (.func 213) #[] #[.pointer (some ⟨g1, 0, none⟩)]) ∧ Below w.heap.size w w' ∧ ∀ T, w.heap[b]? = some (psO ps) → ps.length ≤ 2 → (∀ c, Dom c → T c = true → pathOk ps c) → MakeF w' 213 #[.pointer (some ⟨g1, 0, none⟩)] T (partP ps) := by
  refine Goes.begin Tryz.func165 [] (fun _ => True) Holds.nil (by simp [Mem.ids]) (fun _ _ => trivial) ?_
  refine Goes.run1 [] [] trivial fun g1 => ?_
  refine Goes.ret [] (.func (.func 213) #[] #[.pointer (some ⟨g1, 0, none⟩)]) fun w' hm hI => ⟨g1, rfl, bel0 hI, fun T hb h3 hT => ?_⟩
  have k0 : w'.heap[g1]? = some (.cells #[.slice (some ⟨b, 0, none⟩) n cp] 119 (0, 0)) := hm.get 0
  subst hn
  exact part1_any (cp := cp) k0 (((bel0 hI).block b (lt_of_get hb)).trans hb) h3 hT
set_option maxRecDepth 100000 in
seal rn rnN rnS Goes ans atEnd put0 putM opened openedY putA0 putA oneSt st0 keep in
theorem later_any (w0 : World) : MakeF w0 171 #[] (isP 29 [isP 29 []]) laterP := by
  refine ⟨by kernel_rfl, fun w _ _ v c A hA hD hT hN => ?_⟩
  obtain ⟨z, d, hz, hok⟩ := hD
  have hgood := (g_29 hz hok hT).1.ok
  obtain ⟨op, k, s, kids⟩ := c
  obtain ⟨e, ht⟩ := op_is hT
  have e : op = 29 := e
  subst e
  obtain ⟨rfl, -, -, hl, hk⟩ := shape hz hok (ks := [4]) (t := 4) (by decide) (by omega)
  obtain ⟨c1, rfl, hc1⟩ := ok1 hk (by simpa using hl)
  obtain ⟨op1, k1, s1, kids1⟩ := c1
  obtain ⟨ak, cc, rfl, -, hcap, hkids⟩ := hN.open
  obtain ⟨bk, ok, u, rfl, hbk', hcl, hNu⟩ := hkids 0 _ rfl
  have hbk := hA _ hbk'
  obtain ⟨a1, cc1, rfl, hfit1, hcap1, hkids1⟩ := hNu.open
  obtain ⟨N1, hN1⟩ : ∃ N1, kids1.length = N1 := ⟨_, rfl⟩
  rw [hN1] at hcl hNu hcap1
  show Calls Tryz.prog 171 #[cv 29 k s (.slice (some ⟨bk, ok, none⟩) 1 cc)] w _
  refine Goes.begin Tryz.func171 [] (fun _ => True) Holds.nil (by simp [Mem.ids]) (fun _ _ => trivial) ?_
  refine Goes.run2 [0] [] trivial fun g r => ?_
  refine Goes.val (Instr.indexAt 50 (.slice (some ⟨bk, ok, none⟩) 1 cc) (.int .i64 (0 : Nat))) (.pointer (some ⟨bk, ok + 0 * 4, none⟩)) (fun w' _ _ => idxC bk ok 1 cc 0 (by omega) w') ?_
  refine Goes.val (Instr.loadAt 52 (.pointer (some ⟨bk, ok + 0 * 4, none⟩))) (cv op1 k1 s1 (.slice a1 N1 cc1)) (fun w' hm hI => loadC (hcl.below hbk (bel0 hI))) ?_
  refine Goes.run1 [2, 0, 2, 0, 2, 1] [] trivial fun g2 => ?_
  refine Goes.ret [1] (cv 29 (if k1 > k then k1 else k) [] (.slice a1 N1 cc1)) fun w' hm hI => ⟨_, rfl, ?_, bel0 hI⟩
  have e : (if k1 > k then k1 else k) = max k k1 := by rw [Int.max_def]; split <;> split <;> omega
  rw [e]
  exact ((hNu.bel hA (bel0 hI)).rehead (ok_fits t4 hgood)).mono fun x hx => .inl hx
set_option maxRecDepth 100000 in
seal rn rnN rnS Goes ans atEnd put0 putM opened openedY putA0 putA oneSt st0 keep in
theorem empt_any (w0 : World) : MakeF w0 173 #[] (isP 30 [truIs 0, notP 23]) emptP := by
  refine ⟨by kernel_rfl, fun w _ _ v c A hA hD hT hN => ?_⟩
  obtain ⟨z, d, hz, hok⟩ := hD
  have hgood := (g_30 hz hok hT).1.ok
  obtain ⟨op, k, s, kids⟩ := c
  obtain ⟨e, ht⟩ := op_is hT
  have e : op = 30 := e
  subst e
  obtain ⟨rfl, -, -, hl, hk⟩ := shape hz hok (ks := [1, 4]) (t := 4) (by decide) (by omega)
  obtain ⟨c1, c2, rfl, hc1, hc2⟩ := ok2 hk (by simpa using hl)
  obtain ⟨op1, k1, s1, kids1⟩ := c1
  obtain ⟨ak, cc, rfl, -, hcap, hkids⟩ := hN.open
  obtain ⟨bk, ok, u, rfl, hbk', hcl, hNu⟩ := hkids 0 _ rfl
  have hbk := hA _ hbk'
  obtain ⟨a1, cc1, rfl, hfit1, hcap1, hkids1⟩ := id hNu.open
  obtain ⟨N1, hN1⟩ : ∃ N1, kids1.length = N1 := ⟨_, rfl⟩
  rw [hN1] at hcl hNu hcap1
  obtain ⟨ob, hob⟩ := blk_of hbk
  show Calls Tryz.prog 173 #[cv 30 k s (.slice (some ⟨bk, ok, none⟩) 2 cc)] w _
  have hM : Holds [(bk, ob)] w := fun j b o hj => by
    match j, hj with
    | 0, hj => cases hj; exact hob
  refine Goes.begin Tryz.func173 [(bk, ob)] (fun _ => True) hM (by simp [Mem.ids]) (fun _ _ => trivial) ?_
  refine Goes.run2 [] [] trivial fun g r => ?_
  refine Goes.open [1, 0] ?_
  refine Goes.run [0, 1, 0, 2, 3, 0, 4, 0, 6] [] trivial ?_
  refine Goes.valA 5 (Instr.loadAt 52 (.pointer (some ⟨bk, ok + 0 * 4, none⟩))) (cv op1 k1 s1 (.slice a1 N1 cc1)) (fun w' hm => loadC (hcl.same ((hm.get 1).trans hob.symm))) ?_
  refine Goes.lone1 7 (TookS.newI 7 fun g2 => ?_)
  refine Goes.run [8] [] trivial ?_
  refine Goes.oneA 9 2 [1, 0] ?_
  refine Goes.run [] [] trivial ?_
  refine Goes.know3 fun hn2 => ?_
  refine Goes.ret [2] (cv 30 k [] (.slice (some ⟨g2, 0, none⟩) 2 2)) fun w' hm hI => ⟨_, rfl, ?_, below_end hM hI.now.1 hm (by kernel_rfl)⟩
  have hB := below_end hM hI.now.1 hm (by kernel_rfl)
  have hg2 : w'.heap[g2]? = some (.cells #[.int .i64 op1, .int .i64 k1, strV s1, .slice a1 N1 cc1, .int .i64 23, .int .i64 0, strV [], .slice none 0 0] 52 (0, 0)) := hm.get 3
  have hbg : bk ≠ g2 := by have := Nodup.of_ids (l := [bk, g, r, g2]) hn2; simp at this; exact fun e => this.1.2.2 e
  have hg2n : w.heap.size ≤ g2 := fresh_of hI (g := g2) (ids_get (j := 3) (o := .cells #[.int .i64 op1, .int .i64 k1, strV s1, .slice a1 N1 cc1, .int .i64 23, .int .i64 0, strV [], .slice none 0 0] 52 (0, 0)) (by kernel_rfl)) (by simpa [Mem.ids] using fun e => hbg e.symm)
  have hc : ∀ (i : Nat) (v : Value), (#[Value.int .i64 op1, .int .i64 k1, strV s1, .slice a1 N1 cc1, .int .i64 23, .int .i64 0, strV [], .slice none 0 0] : Array Value)[i]? = some v → w'.cell? ⟨g2, i, none⟩ = some v := fun i v h => by
    unfold World.cell?
    rw [hg2]
    simpa using h
  refine .mk 30 k [] [.mk op1 k1 s1 kids1, czC] (some ⟨g2, 0, none⟩) 2 (fun i => match i with | 0 => cv op1 k1 s1 (.slice a1 N1 cc1) | _ => cv 23 0 [] (.slice none 0 0)) (ok_fits t4 hgood) ⟨by simp, by omega⟩ (fun i hi => ⟨g2, 0, rfl, .inr ⟨⟨hg2n, lt_of_get hg2⟩, _, _, hg2⟩, ?_⟩) (fun i t ht => ?_)
  · match i, hi with
    | 0, _ => exact ⟨op1, k1, s1, _, rfl, hc 0 _ rfl, hc 1 _ rfl, hc 2 _ rfl, hc 3 _ rfl⟩
    | 1, _ => exact ⟨23, 0, [], _, rfl, hc 4 _ rfl, hc 5 _ rfl, hc 6 _ rfl, hc 7 _ rfl⟩
  · match i, ht with
    | 0, ht => cases ht; exact (hNu.bel hA hB).mono fun x hx => .inl hx
    | 1, ht => cases ht; exact NcS.leaf ⟨by omega, by omega, by simp⟩
end Go.Proofs.YtddbiiejilcbbaaGreatDoor
namespace Go.Proofs.YtddbiiejilcbbaaGreatDoor
open Go Go.RowKit

set_option maxRecDepth 100000 in
seal rn rnN rnS Goes ans atEnd put0 putM opened openedY putA0 putA oneSt st0 keep in
theorem idxf_any {f : FuncId} {cap : Array Value} {T : Co → Bool} {kids : List Co} (a : Option Addr) (N cc : Nat) (hL : kids.length = N) (hN9 : N ≤ 9223372036854775806) (w : World) (hF : TestF w f cap T) (hD : ∀ (i : Nat) (x : Co), kids[i]? = some x → Dom x) (hk : ∀ (i : Nat) (x : Co), kids[i]? = some x → ∃ b o u, a = some ⟨b, o, none⟩ ∧ b < w.heap.size ∧ Cl4 w b (o + i * 4) u ∧ Nc w.heap.size w u x) :
    Calls Tryz.prog 238 #[.slice a N cc, .func (.func f) #[] cap] w fun e w' => ∃ r : Int, e = .returned (.int .i64 r) ∧ decide (0 ≤ r) = kids.any T ∧ Below w.heap.size w w' := by
  refine Goes.begin Tryz.func238 [] (fun _ => True) Holds.nil (by simp [Mem.ids]) (fun _ _ => trivial) ?_
  refine Goes.run [] [] trivial ?_
  refine Goes.loop0 (α := Nat) 19 (fun j => [(0, .slice a N cc), (1, .func (.func f) #[] cap), (7, .int .i64 N), (8, .int .i64 j)]) [] (fun j => (kids.drop j).any T = kids.any T ∧ j ≤ N) (fun j => N - j) 0 ⟨rfl, Nat.zero_le _⟩ ?_
  rintro j J ⟨hj, hj2⟩ back
  cases hlt : decide ((j : Int) < (N : Int)) with
  | false =>
    refine Goes.run [0, 0] [(decide ((j : Int) < (N : Int)), false)] ⟨hlt, trivial⟩ ?_
    exact Goes.ret [] (.int .i64 (-1)) fun w' hm hI => ⟨-1, rfl, by rw [← hj, List.drop_of_length_le (by have := of_decide_eq_false hlt; omega)]; rfl, bel0 hI⟩
  | true =>
    have hjl : j < N := by have := of_decide_eq_true hlt; omega
    obtain ⟨x, hx⟩ : ∃ x, kids[j]? = some x := ⟨kids[j]'(by omega), by simp⟩
    have hd := drop_any hx
    obtain ⟨bk, ok, u, rfl, hbk, hcl, hNu⟩ := hk j x hx
    refine Goes.run [0, 1] [(decide ((j : Int) < (N : Int)), true)] ⟨hlt, trivial⟩ ?_
    refine Goes.val (Instr.indexAt 50 (.slice (some ⟨bk, ok, none⟩) N cc) (.int .i64 j)) (.pointer (some ⟨bk, ok + j * 4, none⟩)) (fun w' _ _ => idxC bk ok N cc j hjl w') ?_
    refine Goes.val (Instr.loadAt 52 (.pointer (some ⟨bk, ok + j * 4, none⟩))) u (fun w' hm hI => loadC (hcl.below hbk (bel0 hI))) ?_
    refine Goes.callV0 f #[] #[u] cap (.bool (T x)) hF.1 (fun w' hm hI => hF.2 w' (bel0 hI) u x (hD j x hx) (hNu.at (bel0 hI))) ?_
    cases hTx : T x with
    | true =>
      refine Goes.run [1] [(true, true)] ⟨rfl, trivial⟩ ?_
      exact Goes.ret [] (.int .i64 j) fun w' hm hI => ⟨j, rfl, by rw [← hj, hd]; simp [hTx], bel0 hI⟩
    | false =>
      refine Goes.run [0] [(false, false)] ⟨rfl, trivial⟩ ?_
      refine Goes.slot 8 (.int .i64 (j + 1 : Nat)) (u := .int .i64 (IntKind.i64.wrap ((j : Int) + 1))) (congrArg _ (wrap_nat (by omega))) ?_
      exact back (j + 1) _ ⟨by rw [← hj, hd]; simp [hTx], by omega⟩ (by omega) (by kernel_rfl) (by kernel_rfl) (by kernel_rfl)
set_option maxRecDepth 100000 in
seal rn rnN rnS Goes ans atEnd put0 putM opened openedY putA0 putA oneSt st0 keep in
theorem contf_any {f : FuncId} {cap : Array Value} {T : Co → Bool} {kids : List Co} (a : Option Addr) (N cc : Nat) (hL : kids.length = N) (hN9 : N ≤ 9223372036854775806) (w : World) (hF : TestF w f cap T) (hD : ∀ (i : Nat) (x : Co), kids[i]? = some x → Dom x) (hk : ∀ (i : Nat) (x : Co), kids[i]? = some x → ∃ b o u, a = some ⟨b, o, none⟩ ∧ b < w.heap.size ∧ Cl4 w b (o + i * 4) u ∧ Nc w.heap.size w u x) :
    Calls Tryz.prog 207 #[.slice a N cc, .func (.func f) #[] cap] w fun e w' => e = .returned (.bool (kids.any T)) ∧ Below w.heap.size w w' := by
  refine Goes.begin Tryz.func207 [] (fun _ => True) Holds.nil (by simp [Mem.ids]) (fun _ _ => trivial) ?_
  refine Goes.run [] [] trivial ?_
  refine Goes.call 238 #[.slice a N cc, .func (.func f) #[] cap] fun w' hm hn hI => (idxf_any a N cc hL hN9 w' (hF.later (bel0 hI)) hD fun i x hx => ?_).mono fun e w2 ⟨r, he, hr, hB⟩ => ⟨.int .i64 r, _, _, he, hm.bel hB, hn, hI.bel hB, ?_⟩
  · obtain ⟨b, o, u, h1, h2, h3, h4⟩ := hk i x hx
    exact ⟨b, o, u, h1, Nat.lt_of_lt_of_le h2 (bel0 hI).size, h3.below h2 (bel0 hI), h4.at (bel0 hI)⟩
  · refine Goes.run [] [] trivial ?_
    exact Goes.ret [] (.bool (decide (0 ≤ r))) fun w' hm hI => ⟨by rw [hr], bel0 hI⟩
set_option maxRecDepth 100000 in
seal rn rnN rnS Goes ans atEnd put0 putM opened openedY putA0 putA oneSt st0 keep in
theorem reckoned_any (w0 : World) : TestF w0 162 #[] rkdP := by
  refine ⟨by kernel_rfl, fun w _ v c hD hN => ?_⟩
  obtain ⟨op, k, s, kids⟩ := c
  have hlen := dom_len hD
  obtain ⟨ak, cc, rfl, hfit, hcap, hkids⟩ := hN.open
  obtain ⟨N, hL⟩ : ∃ N, kids.length = N := ⟨_, rfl⟩
  rw [hL] at hcap ⊢
  show Calls Tryz.prog 162 #[cv op k s (.slice ak N cc)] w _
  have hN3 : N ≤ 9223372036854775806 := by
    rw [hL] at hlen
    obtain ⟨z, d, hz, h⟩ := hD
    obtain ⟨ks, hl, -, -, -, hr⟩ := ok_inv hz h
    have : ks.length ≤ 3 := by
      rcases hr with ⟨-, -, rfl⟩ | hr
      · simp
      · obtain ⟨o0, o1⟩ := op_small hr
        have key : ∀ n : Fin 32, (match rkP ((n : Nat) : Int) with | some (l, _) => decide (l.length ≤ 3) | none => true) = true := by decide
        have := key ⟨op.toNat, by omega⟩
        rw [show ((op.toNat : Nat) : Int) = op by omega, hr] at this
        simpa using this
    omega
  have fin : ∀ b : Bool, b = (asksP op && !(kids.any fun c => !constP c)) → Ending.returned (.bool b) = Ending.returned (.bool (rkdP (.mk op k s kids))) := fun b h => by
    rw [h]
    show _ = Ending.returned (.bool (asksP op && kids.all constP))
    congr 3
    rw [List.all_eq_not_any_not]
  refine Goes.begin Tryz.func162 [] (fun _ => True) Holds.nil (by simp [Mem.ids]) (fun _ _ => trivial) ?_
  refine Goes.run1 [0] [] trivial fun g => ?_
  refine Goes.call0 206 #[.int .i64 op] (.bool (asksP op)) (fun w' _ _ => asks_any op w') ?_
  cases ha : asksP op with
  | false =>
    refine Goes.run [0] [(false, false)] ⟨rfl, trivial⟩ ?_
    exact Goes.ret [] (.bool false) fun w' hm hI => ⟨fin _ (by rw [ha]; rfl), bel0 hI⟩
  | true =>
    refine Goes.run [1, 0] [(true, true)] ⟨rfl, trivial⟩ ?_
    refine Goes.call0 207 #[.slice ak N cc, .func (.func 208) #[] #[]] (.bool (kids.any fun c => !constP c)) (fun w' hm hI => contf_any ak N cc hL hN3 w' (noconst_any w') (fun i x hx => dom_kid hD hx) fun i x hx => ?_) ?_
    · obtain ⟨b, o, u, h1, h2, h3, h4⟩ := hkids i x hx
      exact ⟨b, o, u, h1, Nat.lt_of_lt_of_le h2 (bel0 hI).size, h3.below h2 (bel0 hI), h4.at (bel0 hI)⟩
    refine Goes.run [] [] trivial ?_
    exact Goes.ret [] (.bool (!(kids.any fun c => !constP c))) fun w' hm hI => ⟨fin _ (by rw [ha]; rfl), bel0 hI⟩
theorem cl_cell {w : World} {b o : Nat} {op k : Int} {s : List UInt8} {u : Value} (h : Cl4 w b o (cv op k s u)) : w.cell? ⟨b, o + 1, none⟩ = some (.int .i64 k) := by
  obtain ⟨op', k', s', u', e, -, h1, -, -⟩ := h
  unfold cv at e
  simp only [Value.agg.injEq, Array.mk.injEq, List.cons.injEq, and_true, Value.int.injEq, true_and] at e
  obtain ⟨-, rfl, -, -⟩ := e
  exact h1
set_option maxRecDepth 100000 in
seal rn rnN rnS Goes ans atEnd put0 putM opened openedY putA0 putA oneSt st0 keep in
theorem reck_6 {k : Int} {s : List UInt8} {c1 : Co} {v : Value} {w : World} {z d : Int} (hz : tyOk z) (hok : okT z d (.mk 6 k s [c1]) = true) (hf : rkdP (.mk 6 k s [c1]) = true) (_hT : Tab w) (hN : Nc w.heap.size w v (.mk 6 k s [c1])) : Calls Tryz.prog 163 #[v] w fun e w' => ∃ v, e = .returned v ∧ (∀ A, NcS A w' v (reckP (.mk 6 k s [c1]))) ∧ Below w.heap.size w w' := by
  have hgood := (g_fold hz hok hf).1.ok
  obtain ⟨op1, a, s1, kids1⟩ := c1
  obtain ⟨ak, cc, rfl, -, hcap, hkids⟩ := hN.open
  obtain ⟨bk, ok, u, rfl, hbk, hcl, hNu⟩ := hkids 0 _ rfl
  obtain ⟨a1, cc1, rfl, -, -, -⟩ := hNu.open
  have hc1 := cl_cell hcl
  obtain ⟨ob, hob⟩ := blk_of hbk
  have hM : Holds [(bk, ob)] w := fun j b o hj => by
    match j, hj with
    | 0, hj => cases hj; exact hob
  refine Goes.begin Tryz.func163 [(bk, ob)] (fun _ => True) hM (by simp [Mem.ids]) (fun _ _ => trivial) ?_
  show Goes _ _ _ (st0 _ #[cv 6 k s (.slice (some ⟨bk, ok, none⟩) 1 cc)] _)
  refine Goes.run2 [] [] trivial fun g r => ?_
  refine Goes.open [1, 0] ?_
  refine Goes.run [0, 1, 0, 2, 0, 3] [] trivial ?_
  refine Goes.valA 4 (Instr.loadAt 2 (.pointer (some ⟨bk, ok + 0 * 4 + 1, none⟩))) (.int .i64 a) (fun w' hm => load1 Tryz.isAgg2 ((cell_same ((hm.get 1).trans hob.symm)).trans hc1)) ?_
  refine Goes.run [5, 6, 0, 7, 8, 0, 9, 10, 11, 0, 12] [] trivial ?_
  refine Goes.valA 13 (Instr.loadAt 2 (.pointer (some ⟨bk, ok + 0 * 4 + 1, none⟩))) (.int .i64 a) (fun w' hm => load1 Tryz.isAgg2 ((cell_same ((hm.get 1).trans hob.symm)).trans hc1)) ?_
  refine Goes.run [14, 15, 1, 1] [(true, true)] ⟨rfl, trivial⟩ ?_
  refine Goes.call0 115 #[.int .i64 a] (.int .i64 (- clampI a)) (fun w' hm hI => (neg_any a w').mono fun _ _ h => belQ h) ?_
  refine Goes.call0 209 #[.int .i64 (- clampI a)] (cv 1 (- clampI a) [] (.slice none 0 0)) (fun w' hm hI => number_opt _ w') ?_
  refine Goes.run [2] [] trivial ?_
  refine Goes.ret [2] (cv 1 (- clampI a) [] (.slice none 0 0)) fun w' hm hI => ⟨_, rfl, fun A => ?_, below_end hM hI.now.1 hm (by kernel_rfl)⟩
  have e : reckP (.mk 6 k s [.mk op1 a s1 kids1]) = .mk 1 (- clampI a) [] [] := rfl
  rw [e] at hgood ⊢
  exact NcS.leaf (ok_fits hz hgood)
set_option maxRecDepth 100000 in
seal rn rnN rnS Goes ans atEnd put0 putM opened openedY putA0 putA oneSt st0 keep in
theorem reck_14 {k : Int} {s : List UInt8} {c1 : Co} {v : Value} {w : World} {z d : Int} (hz : tyOk z) (hok : okT z d (.mk 14 k s [c1]) = true) (hf : rkdP (.mk 14 k s [c1]) = true) (_hT : Tab w) (hN : Nc w.heap.size w v (.mk 14 k s [c1])) : Calls Tryz.prog 163 #[v] w fun e w' => ∃ v, e = .returned v ∧ (∀ A, NcS A w' v (reckP (.mk 14 k s [c1]))) ∧ Below w.heap.size w w' := by
  have hgood := (g_fold hz hok hf).1.ok
  obtain ⟨op1, a, s1, kids1⟩ := c1
  obtain ⟨ak, cc, rfl, -, hcap, hkids⟩ := hN.open
  obtain ⟨bk, ok, u, rfl, hbk, hcl, hNu⟩ := hkids 0 _ rfl
  obtain ⟨a1, cc1, rfl, -, -, -⟩ := hNu.open
  have hc1 := cl_cell hcl
  obtain ⟨ob, hob⟩ := blk_of hbk
  have hM : Holds [(bk, ob)] w := fun j b o hj => by
    match j, hj with
    | 0, hj => cases hj; exact hob
  refine Goes.begin Tryz.func163 [(bk, ob)] (fun _ => True) hM (by simp [Mem.ids]) (fun _ _ => trivial) ?_
  show Goes _ _ _ (st0 _ #[cv 14 k s (.slice (some ⟨bk, ok, none⟩) 1 cc)] _)
  refine Goes.run2 [] [] trivial fun g r => ?_
  refine Goes.open [1, 0] ?_
  refine Goes.run [0, 1, 0, 2, 0, 3] [] trivial ?_
  refine Goes.valA 4 (Instr.loadAt 2 (.pointer (some ⟨bk, ok + 0 * 4 + 1, none⟩))) (.int .i64 a) (fun w' hm => load1 Tryz.isAgg2 ((cell_same ((hm.get 1).trans hob.symm)).trans hc1)) ?_
  refine Goes.run [5, 6, 0, 7, 8, 0, 9, 10, 11, 0, 12] [] trivial ?_
  refine Goes.valA 13 (Instr.loadAt 2 (.pointer (some ⟨bk, ok + 0 * 4 + 1, none⟩))) (.int .i64 a) (fun w' hm => load1 Tryz.isAgg2 ((cell_same ((hm.get 1).trans hob.symm)).trans hc1)) ?_
  refine Goes.run [14, 15, 1, 0, 0, 0, 0, 0, 0, 0, 0, 0, 1] [(true, true), (false, false), (false, false), (false, false), (false, false), (false, false), (false, false), (false, false), (false, false), (false, false)] ⟨rfl, rfl, rfl, rfl, rfl, rfl, rfl, rfl, rfl, rfl, trivial⟩ ?_
  refine Goes.call0 210 #[.bool (a == 0)] (cv 2 (trP (a == 0)) [] (.slice none 0 0)) (fun w' hm hI => truth_opt _ w') ?_
  refine Goes.run [2] [] trivial ?_
  refine Goes.ret [2] (cv 2 (trP (a == 0)) [] (.slice none 0 0)) fun w' hm hI => ⟨_, rfl, fun A => ?_, below_end hM hI.now.1 hm (by kernel_rfl)⟩
  have e : reckP (.mk 14 k s [.mk op1 a s1 kids1]) = .mk 2 (trP (a == 0)) [] [] := by
    show Co.mk 2 (IntKind.i64.wrap (1 - a)) [] [] = _
    have ha : a = 0 ∨ a = 1 := by
      obtain ⟨-, -, -, hl, hk⟩ := shape hz hok (ks := [1]) (t := 1) (by decide) (by omega)
      obtain ⟨c, e, hc⟩ := ok1 hk rfl
      cases e
      have hcc : constP (.mk op1 a s1 kids1) = true := by
        unfold rkdP at hf
        simp only [Bool.and_eq_true] at hf
        simpa [Co.kids] using hf.2
      exact tru_val RF_nil hc (val_const t1 hc hcc [] 0).1
    rcases ha with rfl | rfl <;> rfl
  rw [e] at hgood ⊢
  exact NcS.leaf (ok_fits hz hgood)
set_option maxRecDepth 100000 in
seal rn rnN rnS Goes ans atEnd put0 putM opened openedY putA0 putA oneSt st0 keep in
theorem reck_7 {k : Int} {s : List UInt8} {c1 c2 : Co} {v : Value} {w : World} {z d : Int} (hz : tyOk z) (hok : okT z d (.mk 7 k s [c1, c2]) = true) (hf : rkdP (.mk 7 k s [c1, c2]) = true) (_hT : Tab w) (hN : Nc w.heap.size w v (.mk 7 k s [c1, c2])) : Calls Tryz.prog 163 #[v] w fun e w' => ∃ v, e = .returned v ∧ (∀ A, NcS A w' v (reckP (.mk 7 k s [c1, c2]))) ∧ Below w.heap.size w w' := by
  have hgood := (g_fold hz hok hf).1.ok
  obtain ⟨op1, a, s1, kids1⟩ := c1
  obtain ⟨op2, b, s2, kids2⟩ := c2
  obtain ⟨ak, cc, rfl, -, hcap, hkids⟩ := hN.open
  obtain ⟨bk, ok, u, rfl, hbk, hcl, hNu⟩ := hkids 0 _ rfl
  obtain ⟨a1, cc1, rfl, -, -, -⟩ := hNu.open
  have hc1 := cl_cell hcl
  obtain ⟨bk', ok', u2, e2, hbk2, hcl2, hNu2⟩ := hkids 1 _ rfl
  cases e2
  obtain ⟨a2, cc2, rfl, -, -, -⟩ := hNu2.open
  have hc2 := cl_cell hcl2
  obtain ⟨ob, hob⟩ := blk_of hbk
  have hM : Holds [(bk, ob)] w := fun j b o hj => by
    match j, hj with
    | 0, hj => cases hj; exact hob
  refine Goes.begin Tryz.func163 [(bk, ob)] (fun _ => True) hM (by simp [Mem.ids]) (fun _ _ => trivial) ?_
  show Goes _ _ _ (st0 _ #[cv 7 k s (.slice (some ⟨bk, ok, none⟩) 2 cc)] _)
  refine Goes.run2 [] [] trivial fun g r => ?_
  refine Goes.open [1, 0] ?_
  refine Goes.run [0, 1, 0, 2, 0, 3] [] trivial ?_
  refine Goes.valA 4 (Instr.loadAt 2 (.pointer (some ⟨bk, ok + 0 * 4 + 1, none⟩))) (.int .i64 a) (fun w' hm => load1 Tryz.isAgg2 ((cell_same ((hm.get 1).trans hob.symm)).trans hc1)) ?_
  refine Goes.run [5, 6, 0, 7, 8, 0, 9, 10, 11, 0, 12] [] trivial ?_
  refine Goes.valA 13 (Instr.loadAt 2 (.pointer (some ⟨bk, ok + 1 * 4 + 1, none⟩))) (.int .i64 b) (fun w' hm => load1 Tryz.isAgg2 ((cell_same ((hm.get 1).trans hob.symm)).trans hc2)) ?_
  refine Goes.run [14, 15, 1, 0, 1] [(true, true), (false, false)] ⟨rfl, rfl, trivial⟩ ?_
  refine Goes.call0 150 #[.int .i64 a, .int .i64 b] (.int .i64 (clampI (clampI a + clampI b))) (fun w' hm hI => (add_any a b w').mono fun _ _ h => belQ h) ?_
  refine Goes.call0 209 #[.int .i64 (clampI (clampI a + clampI b))] (cv 1 (clampI (clampI a + clampI b)) [] (.slice none 0 0)) (fun w' hm hI => number_opt _ w') ?_
  refine Goes.run [2] [] trivial ?_
  refine Goes.ret [2] (cv 1 (clampI (clampI a + clampI b)) [] (.slice none 0 0)) fun w' hm hI => ⟨_, rfl, fun A => ?_, below_end hM hI.now.1 hm (by kernel_rfl)⟩
  have e : reckP (.mk 7 k s [.mk op1 a s1 kids1, .mk op2 b s2 kids2]) = .mk 1 (clampI (clampI a + clampI b)) [] [] := rfl
  rw [e] at hgood ⊢
  exact NcS.leaf (ok_fits hz hgood)
set_option maxRecDepth 100000 in
seal rn rnN rnS Goes ans atEnd put0 putM opened openedY putA0 putA oneSt st0 keep in
theorem reck_8 {k : Int} {s : List UInt8} {c1 c2 : Co} {v : Value} {w : World} {z d : Int} (hz : tyOk z) (hok : okT z d (.mk 8 k s [c1, c2]) = true) (hf : rkdP (.mk 8 k s [c1, c2]) = true) (_hT : Tab w) (hN : Nc w.heap.size w v (.mk 8 k s [c1, c2])) : Calls Tryz.prog 163 #[v] w fun e w' => ∃ v, e = .returned v ∧ (∀ A, NcS A w' v (reckP (.mk 8 k s [c1, c2]))) ∧ Below w.heap.size w w' := by
  have hgood := (g_fold hz hok hf).1.ok
  obtain ⟨op1, a, s1, kids1⟩ := c1
  obtain ⟨op2, b, s2, kids2⟩ := c2
  obtain ⟨ak, cc, rfl, -, hcap, hkids⟩ := hN.open
  obtain ⟨bk, ok, u, rfl, hbk, hcl, hNu⟩ := hkids 0 _ rfl
  obtain ⟨a1, cc1, rfl, -, -, -⟩ := hNu.open
  have hc1 := cl_cell hcl
  obtain ⟨bk', ok', u2, e2, hbk2, hcl2, hNu2⟩ := hkids 1 _ rfl
  cases e2
  obtain ⟨a2, cc2, rfl, -, -, -⟩ := hNu2.open
  have hc2 := cl_cell hcl2
  obtain ⟨ob, hob⟩ := blk_of hbk
  have hM : Holds [(bk, ob)] w := fun j b o hj => by
    match j, hj with
    | 0, hj => cases hj; exact hob
  refine Goes.begin Tryz.func163 [(bk, ob)] (fun _ => True) hM (by simp [Mem.ids]) (fun _ _ => trivial) ?_
  show Goes _ _ _ (st0 _ #[cv 8 k s (.slice (some ⟨bk, ok, none⟩) 2 cc)] _)
  refine Goes.run2 [] [] trivial fun g r => ?_
  refine Goes.open [1, 0] ?_
  refine Goes.run [0, 1, 0, 2, 0, 3] [] trivial ?_
  refine Goes.valA 4 (Instr.loadAt 2 (.pointer (some ⟨bk, ok + 0 * 4 + 1, none⟩))) (.int .i64 a) (fun w' hm => load1 Tryz.isAgg2 ((cell_same ((hm.get 1).trans hob.symm)).trans hc1)) ?_
  refine Goes.run [5, 6, 0, 7, 8, 0, 9, 10, 11, 0, 12] [] trivial ?_
  refine Goes.valA 13 (Instr.loadAt 2 (.pointer (some ⟨bk, ok + 1 * 4 + 1, none⟩))) (.int .i64 b) (fun w' hm => load1 Tryz.isAgg2 ((cell_same ((hm.get 1).trans hob.symm)).trans hc2)) ?_
  refine Goes.run [14, 15, 1, 0, 0, 1] [(true, true), (false, false), (false, false)] ⟨rfl, rfl, rfl, trivial⟩ ?_
  refine Goes.call0 151 #[.int .i64 a, .int .i64 b] (.int .i64 (clampI (clampI a - clampI b))) (fun w' hm hI => (sub_any a b w').mono fun _ _ h => belQ h) ?_
  refine Goes.call0 209 #[.int .i64 (clampI (clampI a - clampI b))] (cv 1 (clampI (clampI a - clampI b)) [] (.slice none 0 0)) (fun w' hm hI => number_opt _ w') ?_
  refine Goes.run [2] [] trivial ?_
  refine Goes.ret [2] (cv 1 (clampI (clampI a - clampI b)) [] (.slice none 0 0)) fun w' hm hI => ⟨_, rfl, fun A => ?_, below_end hM hI.now.1 hm (by kernel_rfl)⟩
  have e : reckP (.mk 8 k s [.mk op1 a s1 kids1, .mk op2 b s2 kids2]) = .mk 1 (clampI (clampI a - clampI b)) [] [] := rfl
  rw [e] at hgood ⊢
  exact NcS.leaf (ok_fits hz hgood)
set_option maxRecDepth 100000 in
seal rn rnN rnS Goes ans atEnd put0 putM opened openedY putA0 putA oneSt st0 keep in
theorem reck_9 {k : Int} {s : List UInt8} {c1 c2 : Co} {v : Value} {w : World} {z d : Int} (hz : tyOk z) (hok : okT z d (.mk 9 k s [c1, c2]) = true) (hf : rkdP (.mk 9 k s [c1, c2]) = true) (_hT : Tab w) (hN : Nc w.heap.size w v (.mk 9 k s [c1, c2])) : Calls Tryz.prog 163 #[v] w fun e w' => ∃ v, e = .returned v ∧ (∀ A, NcS A w' v (reckP (.mk 9 k s [c1, c2]))) ∧ Below w.heap.size w w' := by
  have hgood := (g_fold hz hok hf).1.ok
  obtain ⟨op1, a, s1, kids1⟩ := c1
  obtain ⟨op2, b, s2, kids2⟩ := c2
  obtain ⟨ak, cc, rfl, -, hcap, hkids⟩ := hN.open
  obtain ⟨bk, ok, u, rfl, hbk, hcl, hNu⟩ := hkids 0 _ rfl
  obtain ⟨a1, cc1, rfl, -, -, -⟩ := hNu.open
  have hc1 := cl_cell hcl
  obtain ⟨bk', ok', u2, e2, hbk2, hcl2, hNu2⟩ := hkids 1 _ rfl
  cases e2
  obtain ⟨a2, cc2, rfl, -, -, -⟩ := hNu2.open
  have hc2 := cl_cell hcl2
  obtain ⟨ob, hob⟩ := blk_of hbk
  have hM : Holds [(bk, ob)] w := fun j b o hj => by
    match j, hj with
    | 0, hj => cases hj; exact hob
  refine Goes.begin Tryz.func163 [(bk, ob)] (fun _ => True) hM (by simp [Mem.ids]) (fun _ _ => trivial) ?_
  show Goes _ _ _ (st0 _ #[cv 9 k s (.slice (some ⟨bk, ok, none⟩) 2 cc)] _)
  refine Goes.run2 [] [] trivial fun g r => ?_
  refine Goes.open [1, 0] ?_
  refine Goes.run [0, 1, 0, 2, 0, 3] [] trivial ?_
  refine Goes.valA 4 (Instr.loadAt 2 (.pointer (some ⟨bk, ok + 0 * 4 + 1, none⟩))) (.int .i64 a) (fun w' hm => load1 Tryz.isAgg2 ((cell_same ((hm.get 1).trans hob.symm)).trans hc1)) ?_
  refine Goes.run [5, 6, 0, 7, 8, 0, 9, 10, 11, 0, 12] [] trivial ?_
  refine Goes.valA 13 (Instr.loadAt 2 (.pointer (some ⟨bk, ok + 1 * 4 + 1, none⟩))) (.int .i64 b) (fun w' hm => load1 Tryz.isAgg2 ((cell_same ((hm.get 1).trans hob.symm)).trans hc2)) ?_
  refine Goes.run [14, 15, 1, 0, 0, 0, 1] [(true, true), (false, false), (false, false), (false, false)] ⟨rfl, rfl, rfl, rfl, trivial⟩ ?_
  refine Goes.call0 114 #[.int .i64 a, .int .i64 b] (.int .i64 (mulI a b)) (fun w' hm hI => (mul_any a b w').mono fun _ _ h => belD h) ?_
  refine Goes.call0 209 #[.int .i64 (mulI a b)] (cv 1 (mulI a b) [] (.slice none 0 0)) (fun w' hm hI => number_opt _ w') ?_
  refine Goes.run [2] [] trivial ?_
  refine Goes.ret [2] (cv 1 (mulI a b) [] (.slice none 0 0)) fun w' hm hI => ⟨_, rfl, fun A => ?_, below_end hM hI.now.1 hm (by kernel_rfl)⟩
  have e : reckP (.mk 9 k s [.mk op1 a s1 kids1, .mk op2 b s2 kids2]) = .mk 1 (mulI a b) [] [] := rfl
  rw [e] at hgood ⊢
  exact NcS.leaf (ok_fits hz hgood)
set_option maxRecDepth 100000 in
seal rn rnN rnS Goes ans atEnd put0 putM opened openedY putA0 putA oneSt st0 keep in
theorem reck_10 {k : Int} {s : List UInt8} {c1 c2 : Co} {v : Value} {w : World} {z d : Int} (hz : tyOk z) (hok : okT z d (.mk 10 k s [c1, c2]) = true) (hf : rkdP (.mk 10 k s [c1, c2]) = true) (_hT : Tab w) (hN : Nc w.heap.size w v (.mk 10 k s [c1, c2])) : Calls Tryz.prog 163 #[v] w fun e w' => ∃ v, e = .returned v ∧ (∀ A, NcS A w' v (reckP (.mk 10 k s [c1, c2]))) ∧ Below w.heap.size w w' := by
  have hgood := (g_fold hz hok hf).1.ok
  obtain ⟨op1, a, s1, kids1⟩ := c1
  obtain ⟨op2, b, s2, kids2⟩ := c2
  obtain ⟨ak, cc, rfl, -, hcap, hkids⟩ := hN.open
  obtain ⟨bk, ok, u, rfl, hbk, hcl, hNu⟩ := hkids 0 _ rfl
  obtain ⟨a1, cc1, rfl, -, -, -⟩ := hNu.open
  have hc1 := cl_cell hcl
  obtain ⟨bk', ok', u2, e2, hbk2, hcl2, hNu2⟩ := hkids 1 _ rfl
  cases e2
  obtain ⟨a2, cc2, rfl, -, -, -⟩ := hNu2.open
  have hc2 := cl_cell hcl2
  obtain ⟨ob, hob⟩ := blk_of hbk
  have hM : Holds [(bk, ob)] w := fun j b o hj => by
    match j, hj with
    | 0, hj => cases hj; exact hob
  refine Goes.begin Tryz.func163 [(bk, ob)] (fun _ => True) hM (by simp [Mem.ids]) (fun _ _ => trivial) ?_
  show Goes _ _ _ (st0 _ #[cv 10 k s (.slice (some ⟨bk, ok, none⟩) 2 cc)] _)
  refine Goes.run2 [] [] trivial fun g r => ?_
  refine Goes.open [1, 0] ?_
  refine Goes.run [0, 1, 0, 2, 0, 3] [] trivial ?_
  refine Goes.valA 4 (Instr.loadAt 2 (.pointer (some ⟨bk, ok + 0 * 4 + 1, none⟩))) (.int .i64 a) (fun w' hm => load1 Tryz.isAgg2 ((cell_same ((hm.get 1).trans hob.symm)).trans hc1)) ?_
  refine Goes.run [5, 6, 0, 7, 8, 0, 9, 10, 11, 0, 12] [] trivial ?_
  refine Goes.valA 13 (Instr.loadAt 2 (.pointer (some ⟨bk, ok + 1 * 4 + 1, none⟩))) (.int .i64 b) (fun w' hm => load1 Tryz.isAgg2 ((cell_same ((hm.get 1).trans hob.symm)).trans hc2)) ?_
  refine Goes.run [14, 15, 1, 0, 0, 0, 0, 1] [(true, true), (false, false), (false, false), (false, false), (false, false)] ⟨rfl, rfl, rfl, rfl, rfl, trivial⟩ ?_
  refine Goes.call0 152 #[.int .i64 a, .int .i64 b] (.int .i64 (divI a b)) (fun w' hm hI => (div_any a b w').mono fun _ _ h => belD h) ?_
  refine Goes.call0 209 #[.int .i64 (divI a b)] (cv 1 (divI a b) [] (.slice none 0 0)) (fun w' hm hI => number_opt _ w') ?_
  refine Goes.run [2] [] trivial ?_
  refine Goes.ret [2] (cv 1 (divI a b) [] (.slice none 0 0)) fun w' hm hI => ⟨_, rfl, fun A => ?_, below_end hM hI.now.1 hm (by kernel_rfl)⟩
  have e : reckP (.mk 10 k s [.mk op1 a s1 kids1, .mk op2 b s2 kids2]) = .mk 1 (divI a b) [] [] := rfl
  rw [e] at hgood ⊢
  exact NcS.leaf (ok_fits hz hgood)
set_option maxRecDepth 100000 in
seal rn rnN rnS Goes ans atEnd put0 putM opened openedY putA0 putA oneSt st0 keep in
theorem reck_11 {k : Int} {s : List UInt8} {c1 c2 : Co} {v : Value} {w : World} {z d : Int} (hz : tyOk z) (hok : okT z d (.mk 11 k s [c1, c2]) = true) (hf : rkdP (.mk 11 k s [c1, c2]) = true) (_hT : Tab w) (hN : Nc w.heap.size w v (.mk 11 k s [c1, c2])) : Calls Tryz.prog 163 #[v] w fun e w' => ∃ v, e = .returned v ∧ (∀ A, NcS A w' v (reckP (.mk 11 k s [c1, c2]))) ∧ Below w.heap.size w w' := by
  have hgood := (g_fold hz hok hf).1.ok
  obtain ⟨op1, a, s1, kids1⟩ := c1
  obtain ⟨op2, b, s2, kids2⟩ := c2
  obtain ⟨ak, cc, rfl, -, hcap, hkids⟩ := hN.open
  obtain ⟨bk, ok, u, rfl, hbk, hcl, hNu⟩ := hkids 0 _ rfl
  obtain ⟨a1, cc1, rfl, -, -, -⟩ := hNu.open
  have hc1 := cl_cell hcl
  obtain ⟨bk', ok', u2, e2, hbk2, hcl2, hNu2⟩ := hkids 1 _ rfl
  cases e2
  obtain ⟨a2, cc2, rfl, -, -, -⟩ := hNu2.open
  have hc2 := cl_cell hcl2
  obtain ⟨ob, hob⟩ := blk_of hbk
  have hM : Holds [(bk, ob)] w := fun j b o hj => by
    match j, hj with
    | 0, hj => cases hj; exact hob
  refine Goes.begin Tryz.func163 [(bk, ob)] (fun _ => True) hM (by simp [Mem.ids]) (fun _ _ => trivial) ?_
  show Goes _ _ _ (st0 _ #[cv 11 k s (.slice (some ⟨bk, ok, none⟩) 2 cc)] _)
  refine Goes.run2 [] [] trivial fun g r => ?_
  refine Goes.open [1, 0] ?_
  refine Goes.run [0, 1, 0, 2, 0, 3] [] trivial ?_
  refine Goes.valA 4 (Instr.loadAt 2 (.pointer (some ⟨bk, ok + 0 * 4 + 1, none⟩))) (.int .i64 a) (fun w' hm => load1 Tryz.isAgg2 ((cell_same ((hm.get 1).trans hob.symm)).trans hc1)) ?_
  refine Goes.run [5, 6, 0, 7, 8, 0, 9, 10, 11, 0, 12] [] trivial ?_
  refine Goes.valA 13 (Instr.loadAt 2 (.pointer (some ⟨bk, ok + 1 * 4 + 1, none⟩))) (.int .i64 b) (fun w' hm => load1 Tryz.isAgg2 ((cell_same ((hm.get 1).trans hob.symm)).trans hc2)) ?_
  refine Goes.run [14, 15, 1, 0, 0, 0, 0, 0, 1, 1] [(true, true), (true, true), (false, false), (false, false), (false, false), (false, false), (false, false)] ⟨rfl, rfl, rfl, rfl, rfl, rfl, rfl, trivial⟩ ?_
  refine Goes.call0 210 #[.bool (decide (a < b))] (cv 2 (trP (decide (a < b))) [] (.slice none 0 0)) (fun w' hm hI => truth_opt _ w') ?_
  refine Goes.run [2] [] trivial ?_
  refine Goes.ret [2] (cv 2 (trP (decide (a < b))) [] (.slice none 0 0)) fun w' hm hI => ⟨_, rfl, fun A => ?_, below_end hM hI.now.1 hm (by kernel_rfl)⟩
  have e : reckP (.mk 11 k s [.mk op1 a s1 kids1, .mk op2 b s2 kids2]) = .mk 2 (trP (decide (a < b))) [] [] := rfl
  rw [e] at hgood ⊢
  exact NcS.leaf (ok_fits hz hgood)
set_option maxRecDepth 100000 in
seal rn rnN rnS Goes ans atEnd put0 putM opened openedY putA0 putA oneSt st0 keep in
theorem reck_12 {k : Int} {s : List UInt8} {c1 c2 : Co} {v : Value} {w : World} {z d : Int} (hz : tyOk z) (hok : okT z d (.mk 12 k s [c1, c2]) = true) (hf : rkdP (.mk 12 k s [c1, c2]) = true) (_hT : Tab w) (hN : Nc w.heap.size w v (.mk 12 k s [c1, c2])) : Calls Tryz.prog 163 #[v] w fun e w' => ∃ v, e = .returned v ∧ (∀ A, NcS A w' v (reckP (.mk 12 k s [c1, c2]))) ∧ Below w.heap.size w w' := by
  have hgood := (g_fold hz hok hf).1.ok
  obtain ⟨op1, a, s1, kids1⟩ := c1
  obtain ⟨op2, b, s2, kids2⟩ := c2
  obtain ⟨ak, cc, rfl, -, hcap, hkids⟩ := hN.open
  obtain ⟨bk, ok, u, rfl, hbk, hcl, hNu⟩ := hkids 0 _ rfl
  obtain ⟨a1, cc1, rfl, -, -, -⟩ := hNu.open
  have hc1 := cl_cell hcl
  obtain ⟨bk', ok', u2, e2, hbk2, hcl2, hNu2⟩ := hkids 1 _ rfl
  cases e2
  obtain ⟨a2, cc2, rfl, -, -, -⟩ := hNu2.open
  have hc2 := cl_cell hcl2
  obtain ⟨ob, hob⟩ := blk_of hbk
  have hM : Holds [(bk, ob)] w := fun j b o hj => by
    match j, hj with
    | 0, hj => cases hj; exact hob
  refine Goes.begin Tryz.func163 [(bk, ob)] (fun _ => True) hM (by simp [Mem.ids]) (fun _ _ => trivial) ?_
  show Goes _ _ _ (st0 _ #[cv 12 k s (.slice (some ⟨bk, ok, none⟩) 2 cc)] _)
  refine Goes.run2 [] [] trivial fun g r => ?_
  refine Goes.open [1, 0] ?_
  refine Goes.run [0, 1, 0, 2, 0, 3] [] trivial ?_
  refine Goes.valA 4 (Instr.loadAt 2 (.pointer (some ⟨bk, ok + 0 * 4 + 1, none⟩))) (.int .i64 a) (fun w' hm => load1 Tryz.isAgg2 ((cell_same ((hm.get 1).trans hob.symm)).trans hc1)) ?_
  refine Goes.run [5, 6, 0, 7, 8, 0, 9, 10, 11, 0, 12] [] trivial ?_
  refine Goes.valA 13 (Instr.loadAt 2 (.pointer (some ⟨bk, ok + 1 * 4 + 1, none⟩))) (.int .i64 b) (fun w' hm => load1 Tryz.isAgg2 ((cell_same ((hm.get 1).trans hob.symm)).trans hc2)) ?_
  refine Goes.run [14, 15, 1, 0, 0, 0, 0, 0, 0, 0, 1] [(true, true), (false, false), (false, false), (false, false), (false, false), (false, false), (false, false), (false, false)] ⟨rfl, rfl, rfl, rfl, rfl, rfl, rfl, rfl, trivial⟩ ?_
  refine Goes.call0 210 #[.bool (decide (a ≤ b))] (cv 2 (trP (decide (a ≤ b))) [] (.slice none 0 0)) (fun w' hm hI => truth_opt _ w') ?_
  refine Goes.run [2] [] trivial ?_
  refine Goes.ret [2] (cv 2 (trP (decide (a ≤ b))) [] (.slice none 0 0)) fun w' hm hI => ⟨_, rfl, fun A => ?_, below_end hM hI.now.1 hm (by kernel_rfl)⟩
  have e : reckP (.mk 12 k s [.mk op1 a s1 kids1, .mk op2 b s2 kids2]) = .mk 2 (trP (decide (a ≤ b))) [] [] := rfl
  rw [e] at hgood ⊢
  exact NcS.leaf (ok_fits hz hgood)
set_option maxRecDepth 100000 in
seal rn rnN rnS Goes ans atEnd put0 putM opened openedY putA0 putA oneSt st0 keep in
theorem reck_13 {k : Int} {s : List UInt8} {c1 c2 : Co} {v : Value} {w : World} {z d : Int} (hz : tyOk z) (hok : okT z d (.mk 13 k s [c1, c2]) = true) (hf : rkdP (.mk 13 k s [c1, c2]) = true) (_hT : Tab w) (hN : Nc w.heap.size w v (.mk 13 k s [c1, c2])) : Calls Tryz.prog 163 #[v] w fun e w' => ∃ v, e = .returned v ∧ (∀ A, NcS A w' v (reckP (.mk 13 k s [c1, c2]))) ∧ Below w.heap.size w w' := by
  have hgood := (g_fold hz hok hf).1.ok
  obtain ⟨op1, a, s1, kids1⟩ := c1
  obtain ⟨op2, b, s2, kids2⟩ := c2
  obtain ⟨ak, cc, rfl, -, hcap, hkids⟩ := hN.open
  obtain ⟨bk, ok, u, rfl, hbk, hcl, hNu⟩ := hkids 0 _ rfl
  obtain ⟨a1, cc1, rfl, -, -, -⟩ := hNu.open
  have hc1 := cl_cell hcl
  obtain ⟨bk', ok', u2, e2, hbk2, hcl2, hNu2⟩ := hkids 1 _ rfl
  cases e2
  obtain ⟨a2, cc2, rfl, -, -, -⟩ := hNu2.open
  have hc2 := cl_cell hcl2
  obtain ⟨ob, hob⟩ := blk_of hbk
  have hM : Holds [(bk, ob)] w := fun j b o hj => by
    match j, hj with
    | 0, hj => cases hj; exact hob
  refine Goes.begin Tryz.func163 [(bk, ob)] (fun _ => True) hM (by simp [Mem.ids]) (fun _ _ => trivial) ?_
  show Goes _ _ _ (st0 _ #[cv 13 k s (.slice (some ⟨bk, ok, none⟩) 2 cc)] _)
  refine Goes.run2 [] [] trivial fun g r => ?_
  refine Goes.open [1, 0] ?_
  refine Goes.run [0, 1, 0, 2, 0, 3] [] trivial ?_
  refine Goes.valA 4 (Instr.loadAt 2 (.pointer (some ⟨bk, ok + 0 * 4 + 1, none⟩))) (.int .i64 a) (fun w' hm => load1 Tryz.isAgg2 ((cell_same ((hm.get 1).trans hob.symm)).trans hc1)) ?_
  refine Goes.run [5, 6, 0, 7, 8, 0, 9, 10, 11, 0, 12] [] trivial ?_
  refine Goes.valA 13 (Instr.loadAt 2 (.pointer (some ⟨bk, ok + 1 * 4 + 1, none⟩))) (.int .i64 b) (fun w' hm => load1 Tryz.isAgg2 ((cell_same ((hm.get 1).trans hob.symm)).trans hc2)) ?_
  refine Goes.run [14, 15, 1, 0, 0, 0, 0, 0, 0, 0, 0, 1] [(true, true), (false, false), (false, false), (false, false), (false, false), (false, false), (false, false), (false, false), (false, false)] ⟨rfl, rfl, rfl, rfl, rfl, rfl, rfl, rfl, rfl, trivial⟩ ?_
  refine Goes.call0 210 #[.bool (a == b)] (cv 2 (trP (a == b)) [] (.slice none 0 0)) (fun w' hm hI => truth_opt _ w') ?_
  refine Goes.run [2] [] trivial ?_
  refine Goes.ret [2] (cv 2 (trP (a == b)) [] (.slice none 0 0)) fun w' hm hI => ⟨_, rfl, fun A => ?_, below_end hM hI.now.1 hm (by kernel_rfl)⟩
  have e : reckP (.mk 13 k s [.mk op1 a s1 kids1, .mk op2 b s2 kids2]) = .mk 2 (trP (a == b)) [] [] := rfl
  rw [e] at hgood ⊢
  exact NcS.leaf (ok_fits hz hgood)
set_option maxRecDepth 100000 in
seal rn rnN rnS Goes ans atEnd put0 putM opened openedY putA0 putA oneSt st0 keep in
theorem reck_17 {k : Int} {s : List UInt8} {c1 c2 : Co} {v : Value} {w : World} {z d : Int} (hz : tyOk z) (hok : okT z d (.mk 17 k s [c1, c2]) = true) (hf : rkdP (.mk 17 k s [c1, c2]) = true) (_hT : Tab w) (hN : Nc w.heap.size w v (.mk 17 k s [c1, c2])) : Calls Tryz.prog 163 #[v] w fun e w' => ∃ v, e = .returned v ∧ (∀ A, NcS A w' v (reckP (.mk 17 k s [c1, c2]))) ∧ Below w.heap.size w w' := by
  have hgood := (g_fold hz hok hf).1.ok
  obtain ⟨op1, a, s1, kids1⟩ := c1
  obtain ⟨op2, b, s2, kids2⟩ := c2
  obtain ⟨ak, cc, rfl, -, hcap, hkids⟩ := hN.open
  obtain ⟨bk, ok, u, rfl, hbk, hcl, hNu⟩ := hkids 0 _ rfl
  obtain ⟨a1, cc1, rfl, -, -, -⟩ := hNu.open
  have hc1 := cl_cell hcl
  obtain ⟨bk', ok', u2, e2, hbk2, hcl2, hNu2⟩ := hkids 1 _ rfl
  cases e2
  obtain ⟨a2, cc2, rfl, -, -, -⟩ := hNu2.open
  have hc2 := cl_cell hcl2
  obtain ⟨ob, hob⟩ := blk_of hbk
  have hM : Holds [(bk, ob)] w := fun j b o hj => by
    match j, hj with
    | 0, hj => cases hj; exact hob
  refine Goes.begin Tryz.func163 [(bk, ob)] (fun _ => True) hM (by simp [Mem.ids]) (fun _ _ => trivial) ?_
  show Goes _ _ _ (st0 _ #[cv 17 k s (.slice (some ⟨bk, ok, none⟩) 2 cc)] _)
  refine Goes.run2 [] [] trivial fun g r => ?_
  refine Goes.open [1, 0] ?_
  refine Goes.run [0, 1, 0, 2, 0, 3] [] trivial ?_
  refine Goes.valA 4 (Instr.loadAt 2 (.pointer (some ⟨bk, ok + 0 * 4 + 1, none⟩))) (.int .i64 a) (fun w' hm => load1 Tryz.isAgg2 ((cell_same ((hm.get 1).trans hob.symm)).trans hc1)) ?_
  refine Goes.run [5, 6, 0, 7, 8, 0, 9, 10, 11, 0, 12] [] trivial ?_
  refine Goes.valA 13 (Instr.loadAt 2 (.pointer (some ⟨bk, ok + 1 * 4 + 1, none⟩))) (.int .i64 b) (fun w' hm => load1 Tryz.isAgg2 ((cell_same ((hm.get 1).trans hob.symm)).trans hc2)) ?_
  refine Goes.run [14, 15, 1, 0, 0, 0, 0, 0, 0, 1] [(true, true), (false, false), (false, false), (false, false), (false, false), (false, false), (false, false)] ⟨rfl, rfl, rfl, rfl, rfl, rfl, rfl, trivial⟩ ?_
  refine Goes.call0 210 #[.bool (decide (a < b))] (cv 2 (trP (decide (a < b))) [] (.slice none 0 0)) (fun w' hm hI => truth_opt _ w') ?_
  refine Goes.run [2] [] trivial ?_
  refine Goes.ret [2] (cv 2 (trP (decide (a < b))) [] (.slice none 0 0)) fun w' hm hI => ⟨_, rfl, fun A => ?_, below_end hM hI.now.1 hm (by kernel_rfl)⟩
  have e : reckP (.mk 17 k s [.mk op1 a s1 kids1, .mk op2 b s2 kids2]) = .mk 2 (trP (decide (a < b))) [] [] := rfl
  rw [e] at hgood ⊢
  exact NcS.leaf (ok_fits hz hgood)
set_option maxRecDepth 100000 in
seal rn rnN rnS Goes ans atEnd put0 putM opened openedY putA0 putA oneSt st0 keep in
theorem reck_18 {k : Int} {s : List UInt8} {c1 c2 : Co} {v : Value} {w : World} {z d : Int} (hz : tyOk z) (hok : okT z d (.mk 18 k s [c1, c2]) = true) (hf : rkdP (.mk 18 k s [c1, c2]) = true) (_hT : Tab w) (hN : Nc w.heap.size w v (.mk 18 k s [c1, c2])) : Calls Tryz.prog 163 #[v] w fun e w' => ∃ v, e = .returned v ∧ (∀ A, NcS A w' v (reckP (.mk 18 k s [c1, c2]))) ∧ Below w.heap.size w w' := by
  have hgood := (g_fold hz hok hf).1.ok
  obtain ⟨op1, a, s1, kids1⟩ := c1
  obtain ⟨op2, b, s2, kids2⟩ := c2
  obtain ⟨ak, cc, rfl, -, hcap, hkids⟩ := hN.open
  obtain ⟨bk, ok, u, rfl, hbk, hcl, hNu⟩ := hkids 0 _ rfl
  obtain ⟨a1, cc1, rfl, -, -, -⟩ := hNu.open
  have hc1 := cl_cell hcl
  obtain ⟨bk', ok', u2, e2, hbk2, hcl2, hNu2⟩ := hkids 1 _ rfl
  cases e2
  obtain ⟨a2, cc2, rfl, -, -, -⟩ := hNu2.open
  have hc2 := cl_cell hcl2
  obtain ⟨ob, hob⟩ := blk_of hbk
  have hM : Holds [(bk, ob)] w := fun j b o hj => by
    match j, hj with
    | 0, hj => cases hj; exact hob
  refine Goes.begin Tryz.func163 [(bk, ob)] (fun _ => True) hM (by simp [Mem.ids]) (fun _ _ => trivial) ?_
  show Goes _ _ _ (st0 _ #[cv 18 k s (.slice (some ⟨bk, ok, none⟩) 2 cc)] _)
  refine Goes.run2 [] [] trivial fun g r => ?_
  refine Goes.open [1, 0] ?_
  refine Goes.run [0, 1, 0, 2, 0, 3] [] trivial ?_
  refine Goes.valA 4 (Instr.loadAt 2 (.pointer (some ⟨bk, ok + 0 * 4 + 1, none⟩))) (.int .i64 a) (fun w' hm => load1 Tryz.isAgg2 ((cell_same ((hm.get 1).trans hob.symm)).trans hc1)) ?_
  refine Goes.run [5, 6, 0, 7, 8, 0, 9, 10, 11, 0, 12] [] trivial ?_
  refine Goes.valA 13 (Instr.loadAt 2 (.pointer (some ⟨bk, ok + 1 * 4 + 1, none⟩))) (.int .i64 b) (fun w' hm => load1 Tryz.isAgg2 ((cell_same ((hm.get 1).trans hob.symm)).trans hc2)) ?_
  refine Goes.run [14, 15, 1, 0, 0, 0, 0, 0, 0, 0, 0, 0, 0, 1] [(true, true), (false, false), (false, false), (false, false), (false, false), (false, false), (false, false), (false, false), (false, false), (false, false), (false, false)] ⟨rfl, rfl, rfl, rfl, rfl, rfl, rfl, rfl, rfl, rfl, rfl, trivial⟩ ?_
  refine Goes.call0 153 #[.int .i64 b] (.int .i64 (whoI b)) (fun w' hm hI => (whole_any b w').mono fun _ _ h => belQ h) ?_
  refine Goes.call0 112 #[.int .i64 a, .int .i64 (whoI b)] (.int .i64 ((plusV a (whoI b) : Nat) : Int)) (fun w' hm hI => (plus_any a (whoI b) w').mono fun _ _ h => belQ h) ?_
  refine Goes.call0 211 #[.int .i64 ((plusV a (whoI b) : Nat) : Int)] (cv 3 ((plusV a (whoI b) : Nat) : Int) [] (.slice none 0 0)) (fun w' hm hI => day_opt _ w') ?_
  refine Goes.run [2] [] trivial ?_
  refine Goes.ret [2] (cv 3 ((plusV a (whoI b) : Nat) : Int) [] (.slice none 0 0)) fun w' hm hI => ⟨_, rfl, fun A => ?_, below_end hM hI.now.1 hm (by kernel_rfl)⟩
  have e : reckP (.mk 18 k s [.mk op1 a s1 kids1, .mk op2 b s2 kids2]) = .mk 3 ((plusV a (whoI b) : Nat) : Int) [] [] := rfl
  rw [e] at hgood ⊢
  exact NcS.leaf (ok_fits hz hgood)
set_option maxRecDepth 100000 in
seal rn rnN rnS Goes ans atEnd put0 putM opened openedY putA0 putA oneSt st0 keep in
theorem reck_19 {k : Int} {s : List UInt8} {c1 c2 : Co} {v : Value} {w : World} {z d : Int} (hz : tyOk z) (hok : okT z d (.mk 19 k s [c1, c2]) = true) (hf : rkdP (.mk 19 k s [c1, c2]) = true) (hT : Tab w) (hN : Nc w.heap.size w v (.mk 19 k s [c1, c2])) : Calls Tryz.prog 163 #[v] w fun e w' => ∃ v, e = .returned v ∧ (∀ A, NcS A w' v (reckP (.mk 19 k s [c1, c2]))) ∧ Below w.heap.size w w' := by
  have hgood := (g_fold hz hok hf).1.ok
  obtain ⟨op1, a, s1, kids1⟩ := c1
  obtain ⟨op2, b, s2, kids2⟩ := c2
  obtain ⟨ak, cc, rfl, -, hcap, hkids⟩ := hN.open
  obtain ⟨bk, ok, u, rfl, hbk, hcl, hNu⟩ := hkids 0 _ rfl
  obtain ⟨a1, cc1, rfl, -, -, -⟩ := hNu.open
  have hc1 := cl_cell hcl
  obtain ⟨bk', ok', u2, e2, hbk2, hcl2, hNu2⟩ := hkids 1 _ rfl
  cases e2
  obtain ⟨a2, cc2, rfl, -, -, -⟩ := hNu2.open
  have hc2 := cl_cell hcl2
  obtain ⟨ob, hob⟩ := blk_of hbk
  have hM : Holds [(bk, ob)] w := fun j b o hj => by
    match j, hj with
    | 0, hj => cases hj; exact hob
  refine Goes.begin Tryz.func163 [(bk, ob)] (fun _ => True) hM (by simp [Mem.ids]) (fun _ _ => trivial) ?_
  show Goes _ _ _ (st0 _ #[cv 19 k s (.slice (some ⟨bk, ok, none⟩) 2 cc)] _)
  refine Goes.run2 [] [] trivial fun g r => ?_
  refine Goes.open [1, 0] ?_
  refine Goes.run [0, 1, 0, 2, 0, 3] [] trivial ?_
  refine Goes.valA 4 (Instr.loadAt 2 (.pointer (some ⟨bk, ok + 0 * 4 + 1, none⟩))) (.int .i64 a) (fun w' hm => load1 Tryz.isAgg2 ((cell_same ((hm.get 1).trans hob.symm)).trans hc1)) ?_
  refine Goes.run [5, 6, 0, 7, 8, 0, 9, 10, 11, 0, 12] [] trivial ?_
  refine Goes.valA 13 (Instr.loadAt 2 (.pointer (some ⟨bk, ok + 1 * 4 + 1, none⟩))) (.int .i64 b) (fun w' hm => load1 Tryz.isAgg2 ((cell_same ((hm.get 1).trans hob.symm)).trans hc2)) ?_
  refine Goes.run [14, 15, 1, 0, 0, 0, 0, 0, 0, 0, 0, 0, 0, 0, 1] [(true, true), (false, false), (false, false), (false, false), (false, false), (false, false), (false, false), (false, false), (false, false), (false, false), (false, false), (false, false)] ⟨rfl, rfl, rfl, rfl, rfl, rfl, rfl, rfl, rfl, rfl, rfl, rfl, trivial⟩ ?_
  refine Goes.call0 153 #[.int .i64 b] (.int .i64 (whoI b)) (fun w' hm hI => (whole_any b w').mono fun _ _ h => belQ h) ?_
  refine Goes.call0 154 #[.int .i64 a, .int .i64 (whoI b)] (.int .i64 (monI a (whoI b))) (fun w' hm hI => pmonI_any a (whoI b) w' (hT.below (below_end hM hI.now.1 hm (by kernel_rfl)))) ?_
  refine Goes.call0 211 #[.int .i64 (monI a (whoI b))] (cv 3 (monI a (whoI b)) [] (.slice none 0 0)) (fun w' hm hI => day_opt _ w') ?_
  refine Goes.run [2] [] trivial ?_
  refine Goes.ret [2] (cv 3 (monI a (whoI b)) [] (.slice none 0 0)) fun w' hm hI => ⟨_, rfl, fun A => ?_, below_end hM hI.now.1 hm (by kernel_rfl)⟩
  have e : reckP (.mk 19 k s [.mk op1 a s1 kids1, .mk op2 b s2 kids2]) = .mk 3 (monI a (whoI b)) [] [] := rfl
  rw [e] at hgood ⊢
  exact NcS.leaf (ok_fits hz hgood)
set_option maxRecDepth 100000 in
seal rn rnN rnS Goes ans atEnd put0 putM opened openedY putA0 putA oneSt st0 keep in
theorem reck_20 {k : Int} {s : List UInt8} {c1 c2 : Co} {v : Value} {w : World} {z d : Int} (hz : tyOk z) (hok : okT z d (.mk 20 k s [c1, c2]) = true) (hf : rkdP (.mk 20 k s [c1, c2]) = true) (_hT : Tab w) (hN : Nc w.heap.size w v (.mk 20 k s [c1, c2])) : Calls Tryz.prog 163 #[v] w fun e w' => ∃ v, e = .returned v ∧ (∀ A, NcS A w' v (reckP (.mk 20 k s [c1, c2]))) ∧ Below w.heap.size w w' := by
  have hgood := (g_fold hz hok hf).1.ok
  obtain ⟨op1, a, s1, kids1⟩ := c1
  obtain ⟨op2, b, s2, kids2⟩ := c2
  obtain ⟨ak, cc, rfl, -, hcap, hkids⟩ := hN.open
  obtain ⟨bk, ok, u, rfl, hbk, hcl, hNu⟩ := hkids 0 _ rfl
  obtain ⟨a1, cc1, rfl, -, -, -⟩ := hNu.open
  have hc1 := cl_cell hcl
  obtain ⟨bk', ok', u2, e2, hbk2, hcl2, hNu2⟩ := hkids 1 _ rfl
  cases e2
  obtain ⟨a2, cc2, rfl, -, -, -⟩ := hNu2.open
  have hc2 := cl_cell hcl2
  obtain ⟨ob, hob⟩ := blk_of hbk
  have hM : Holds [(bk, ob)] w := fun j b o hj => by
    match j, hj with
    | 0, hj => cases hj; exact hob
  refine Goes.begin Tryz.func163 [(bk, ob)] (fun _ => True) hM (by simp [Mem.ids]) (fun _ _ => trivial) ?_
  show Goes _ _ _ (st0 _ #[cv 20 k s (.slice (some ⟨bk, ok, none⟩) 2 cc)] _)
  refine Goes.run2 [] [] trivial fun g r => ?_
  refine Goes.open [1, 0] ?_
  refine Goes.run [0, 1, 0, 2, 0, 3] [] trivial ?_
  refine Goes.valA 4 (Instr.loadAt 2 (.pointer (some ⟨bk, ok + 0 * 4 + 1, none⟩))) (.int .i64 a) (fun w' hm => load1 Tryz.isAgg2 ((cell_same ((hm.get 1).trans hob.symm)).trans hc1)) ?_
  refine Goes.run [5, 6, 0, 7, 8, 0, 9, 10, 11, 0, 12] [] trivial ?_
  refine Goes.valA 13 (Instr.loadAt 2 (.pointer (some ⟨bk, ok + 1 * 4 + 1, none⟩))) (.int .i64 b) (fun w' hm => load1 Tryz.isAgg2 ((cell_same ((hm.get 1).trans hob.symm)).trans hc2)) ?_
  refine Goes.run [14, 15, 1, 0, 0, 0, 0, 0, 0, 0, 0, 0, 0, 0, 0, 1] [(true, true), (false, false), (false, false), (false, false), (false, false), (false, false), (false, false), (false, false), (false, false), (false, false), (false, false), (false, false), (false, false)] ⟨rfl, rfl, rfl, rfl, rfl, rfl, rfl, rfl, rfl, rfl, rfl, rfl, rfl, trivial⟩ ?_
  refine Goes.call0 155 #[.int .i64 a, .int .i64 b] (.int .i64 (shareV ((clampD b : Int) - (clampD a : Int)) 365)) (fun w' hm hI => (years_any a b w').mono fun _ _ h => belD h) ?_
  refine Goes.call0 209 #[.int .i64 (shareV ((clampD b : Int) - (clampD a : Int)) 365)] (cv 1 (shareV ((clampD b : Int) - (clampD a : Int)) 365) [] (.slice none 0 0)) (fun w' hm hI => number_opt _ w') ?_
  refine Goes.run [2] [] trivial ?_
  refine Goes.ret [2] (cv 1 (shareV ((clampD b : Int) - (clampD a : Int)) 365) [] (.slice none 0 0)) fun w' hm hI => ⟨_, rfl, fun A => ?_, below_end hM hI.now.1 hm (by kernel_rfl)⟩
  have e : reckP (.mk 20 k s [.mk op1 a s1 kids1, .mk op2 b s2 kids2]) = .mk 1 (shareV ((clampD b : Int) - (clampD a : Int)) 365) [] [] := rfl
  rw [e] at hgood ⊢
  exact NcS.leaf (ok_fits hz hgood)
set_option maxRecDepth 100000 in
seal rn rnN rnS Goes ans atEnd put0 putM opened openedY putA0 putA oneSt st0 keep in
theorem reck_21 {k : Int} {s : List UInt8} {c1 c2 : Co} {v : Value} {w : World} {z d : Int} (hz : tyOk z) (hok : okT z d (.mk 21 k s [c1, c2]) = true) (hf : rkdP (.mk 21 k s [c1, c2]) = true) (hT : Tab w) (hN : Nc w.heap.size w v (.mk 21 k s [c1, c2])) : Calls Tryz.prog 163 #[v] w fun e w' => ∃ v, e = .returned v ∧ (∀ A, NcS A w' v (reckP (.mk 21 k s [c1, c2]))) ∧ Below w.heap.size w w' := by
  have hgood := (g_fold hz hok hf).1.ok
  obtain ⟨op1, a, s1, kids1⟩ := c1
  obtain ⟨op2, b, s2, kids2⟩ := c2
  obtain ⟨ak, cc, rfl, -, hcap, hkids⟩ := hN.open
  obtain ⟨bk, ok, u, rfl, hbk, hcl, hNu⟩ := hkids 0 _ rfl
  obtain ⟨a1, cc1, rfl, -, -, -⟩ := hNu.open
  have hc1 := cl_cell hcl
  obtain ⟨bk', ok', u2, e2, hbk2, hcl2, hNu2⟩ := hkids 1 _ rfl
  cases e2
  obtain ⟨a2, cc2, rfl, -, -, -⟩ := hNu2.open
  have hc2 := cl_cell hcl2
  obtain ⟨ob, hob⟩ := blk_of hbk
  have hM : Holds [(bk, ob)] w := fun j b o hj => by
    match j, hj with
    | 0, hj => cases hj; exact hob
  refine Goes.begin Tryz.func163 [(bk, ob)] (fun _ => True) hM (by simp [Mem.ids]) (fun _ _ => trivial) ?_
  show Goes _ _ _ (st0 _ #[cv 21 k s (.slice (some ⟨bk, ok, none⟩) 2 cc)] _)
  refine Goes.run2 [] [] trivial fun g r => ?_
  refine Goes.open [1, 0] ?_
  refine Goes.run [0, 1, 0, 2, 0, 3] [] trivial ?_
  refine Goes.valA 4 (Instr.loadAt 2 (.pointer (some ⟨bk, ok + 0 * 4 + 1, none⟩))) (.int .i64 a) (fun w' hm => load1 Tryz.isAgg2 ((cell_same ((hm.get 1).trans hob.symm)).trans hc1)) ?_
  refine Goes.run [5, 6, 0, 7, 8, 0, 9, 10, 11, 0, 12] [] trivial ?_
  refine Goes.valA 13 (Instr.loadAt 2 (.pointer (some ⟨bk, ok + 1 * 4 + 1, none⟩))) (.int .i64 b) (fun w' hm => load1 Tryz.isAgg2 ((cell_same ((hm.get 1).trans hob.symm)).trans hc2)) ?_
  refine Goes.run [14, 15, 1, 0, 0, 0, 0, 0, 0, 0, 0, 0, 0, 0, 0, 0] [(false, false), (false, false), (false, false), (false, false), (false, false), (false, false), (false, false), (false, false), (false, false), (false, false), (false, false), (false, false), (false, false)] ⟨rfl, rfl, rfl, rfl, rfl, rfl, rfl, rfl, rfl, rfl, rfl, rfl, rfl, trivial⟩ ?_
  refine Goes.call0 156 #[.int .i64 a, .int .i64 b] (.int .i64 (y30I a b)) (fun w' hm hI => py30I_any a b w' (hT.below (below_end hM hI.now.1 hm (by kernel_rfl)))) ?_
  refine Goes.call0 209 #[.int .i64 (y30I a b)] (cv 1 (y30I a b) [] (.slice none 0 0)) (fun w' hm hI => number_opt _ w') ?_
  refine Goes.run [2] [] trivial ?_
  refine Goes.ret [2] (cv 1 (y30I a b) [] (.slice none 0 0)) fun w' hm hI => ⟨_, rfl, fun A => ?_, below_end hM hI.now.1 hm (by kernel_rfl)⟩
  have e : reckP (.mk 21 k s [.mk op1 a s1 kids1, .mk op2 b s2 kids2]) = .mk 1 (y30I a b) [] [] := rfl
  rw [e] at hgood ⊢
  exact NcS.leaf (ok_fits hz hgood)
theorem reck_any (w0 : World) : MakeF w0 163 #[] rkdP reckP := by
  refine ⟨by kernel_rfl, fun w _ hT v c A hA hD hf hN0 => ?_⟩
  have hN := hN0.toN hA
  obtain ⟨op, k, s, kids⟩ := c
  have hlen := dom_len hD
  obtain ⟨z, d, hz, hok⟩ := hD
  have ha : asksP op = true := by unfold rkdP at hf; rw [Bool.and_eq_true] at hf; exact hf.1
  show Calls Tryz.prog 163 #[v] w _
  have two : ∀ n, nK op = n → kids.length = n := fun n h => by rw [hlen, h]
  have hop : op = 6 ∨ op = 14 ∨ op = 7 ∨ op = 8 ∨ op = 9 ∨ op = 10 ∨ op = 11 ∨ op = 12 ∨ op = 13 ∨ op = 17 ∨ op = 18 ∨ op = 19 ∨ op = 20 ∨ op = 21 := by have := asks_op ha; omega
  rcases hop with rfl | rfl | rfl | rfl | rfl | rfl | rfl | rfl | rfl | rfl | rfl | rfl | rfl | rfl
  · match kids, two 1 (by decide) with
    | [c1], _ => exact (reck_6 hz hok hf hT hN).mono fun e w2 ⟨v2, h1, h2, h3⟩ => ⟨v2, h1, h2 _, h3⟩
  · match kids, two 1 (by decide) with
    | [c1], _ => exact (reck_14 hz hok hf hT hN).mono fun e w2 ⟨v2, h1, h2, h3⟩ => ⟨v2, h1, h2 _, h3⟩
  · match kids, two 2 (by decide) with
    | [c1, c2], _ => exact (reck_7 hz hok hf hT hN).mono fun e w2 ⟨v2, h1, h2, h3⟩ => ⟨v2, h1, h2 _, h3⟩
  · match kids, two 2 (by decide) with
    | [c1, c2], _ => exact (reck_8 hz hok hf hT hN).mono fun e w2 ⟨v2, h1, h2, h3⟩ => ⟨v2, h1, h2 _, h3⟩
  · match kids, two 2 (by decide) with
    | [c1, c2], _ => exact (reck_9 hz hok hf hT hN).mono fun e w2 ⟨v2, h1, h2, h3⟩ => ⟨v2, h1, h2 _, h3⟩
  · match kids, two 2 (by decide) with
    | [c1, c2], _ => exact (reck_10 hz hok hf hT hN).mono fun e w2 ⟨v2, h1, h2, h3⟩ => ⟨v2, h1, h2 _, h3⟩
  · match kids, two 2 (by decide) with
    | [c1, c2], _ => exact (reck_11 hz hok hf hT hN).mono fun e w2 ⟨v2, h1, h2, h3⟩ => ⟨v2, h1, h2 _, h3⟩
  · match kids, two 2 (by decide) with
    | [c1, c2], _ => exact (reck_12 hz hok hf hT hN).mono fun e w2 ⟨v2, h1, h2, h3⟩ => ⟨v2, h1, h2 _, h3⟩
  · match kids, two 2 (by decide) with
    | [c1, c2], _ => exact (reck_13 hz hok hf hT hN).mono fun e w2 ⟨v2, h1, h2, h3⟩ => ⟨v2, h1, h2 _, h3⟩
  · match kids, two 2 (by decide) with
    | [c1, c2], _ => exact (reck_17 hz hok hf hT hN).mono fun e w2 ⟨v2, h1, h2, h3⟩ => ⟨v2, h1, h2 _, h3⟩
  · match kids, two 2 (by decide) with
    | [c1, c2], _ => exact (reck_18 hz hok hf hT hN).mono fun e w2 ⟨v2, h1, h2, h3⟩ => ⟨v2, h1, h2 _, h3⟩
  · match kids, two 2 (by decide) with
    | [c1, c2], _ => exact (reck_19 hz hok hf hT hN).mono fun e w2 ⟨v2, h1, h2, h3⟩ => ⟨v2, h1, h2 _, h3⟩
  · match kids, two 2 (by decide) with
    | [c1, c2], _ => exact (reck_20 hz hok hf hT hN).mono fun e w2 ⟨v2, h1, h2, h3⟩ => ⟨v2, h1, h2 _, h3⟩
  · match kids, two 2 (by decide) with
    | [c1, c2], _ => exact (reck_21 hz hok hf hT hN).mono fun e w2 ⟨v2, h1, h2, h3⟩ => ⟨v2, h1, h2 _, h3⟩
end Go.Proofs.YtddbiiejilcbbaaGreatDoor
namespace Go.Proofs.YtddbiiejilcbbaaGreatDoor
open Go Go.RowKit

/-- A rule as it lies in memory. -/
structure RV where
  p : Int
  f : FuncId
  fc : Array Value
  g : FuncId
  gc : Array Value
def RV.row (x : RV) : List Value := [.int .i64 x.p, .func (.func x.f) #[] x.fc, .func (.func x.g) #[] x.gc]
def flatR (xs : List RV) : List Value := xs.flatMap RV.row
structure RuleOk (w : World) (x : RV) (r : Rl) : Prop where
  p : x.p = r.pass
  fits : TestF w x.f x.fc r.fits
  makes : MakeF w x.g x.gc r.fits r.becomes
theorem RuleOk.later {w w' : World} {x : RV} {r : Rl} (h : RuleOk w x r) (hB : Below w.heap.size w w') : RuleOk w' x r := ⟨h.p, h.fits.later hB, h.makes.later hB⟩
/-- Rules, one by one. -/
inductive Rules (w : World) : List RV → List Rl → Prop
  | nil : Rules w [] []
  | snoc (xs : List RV) (rs : List Rl) (x : RV) (r : Rl) : Rules w xs rs → RuleOk w x r → Rules w (xs ++ [x]) (rs ++ [r])
theorem Rules.later {w w' : World} {xs : List RV} {rs : List Rl} (h : Rules w xs rs) (hB : Below w.heap.size w w') : Rules w' xs rs := by
  induction h with
  | nil => exact .nil
  | snoc xs rs x r _ hx ih => exact .snoc xs rs x r ih (hx.later hB)
theorem Rules.len {w : World} {xs : List RV} {rs : List Rl} (h : Rules w xs rs) : xs.length = rs.length := by
  induction h with
  | nil => rfl
  | snoc xs rs x r _ hx ih => simp [ih]
theorem Rules.at {w : World} {xs : List RV} {rs : List Rl} (h : Rules w xs rs) : ∀ {i : Nat} {r : Rl}, rs[i]? = some r → ∃ x, xs[i]? = some x ∧ RuleOk w x r := by
  induction h with
  | nil => intro i r hi; simp at hi
  | snoc xs rs x r h hx ih =>
    intro i r' hi
    have hl := h.len
    by_cases hlt : i < rs.length
    · rw [List.getElem?_append_left hlt] at hi
      obtain ⟨y, hy, hr⟩ := ih hi
      exact ⟨y, by rw [List.getElem?_append_left (by omega)]; exact hy, hr⟩
    · rw [List.getElem?_append_right (by omega)] at hi
      have e : i - rs.length = 0 := by
        have := (List.getElem?_eq_some_iff.1 hi).1
        simp at this
        omega
      rw [e] at hi
      cases hi
      exact ⟨x, by rw [List.getElem?_append_right (by omega), hl, e]; rfl, hx⟩
theorem cell1 {w : World} {g : Nat} {cs : Array Value} {t : TypeId} (h : w.heap[g]? = some (.cells cs t (0, 0))) {i : Nat} {v : Value} (hv : cs[i]? = some v) : w.cell? ⟨g, i, none⟩ = some v := by
  unfold World.cell?
  rw [h]
  simpa using hv
theorem rests0 (w : World) : Rests w none 0 [] := ⟨rfl, by omega, fun i T h => by simp at h⟩
theorem rests1 {w : World} {g : Nat} {f : FuncId} {cap : Array Value} {T : Co → Bool} (h : w.heap[g]? = some (.cells #[.func (.func f) #[] cap] 136 (0, 0))) (hT : TestF w f cap T) : Rests w (some ⟨g, 0, none⟩) 1 [T] := ⟨rfl, by omega, fun i U hU => by
  match i, hU with
  | 0, hU => cases hU; exact ⟨g, f, cap, rfl, lt_of_get h, cell1 h rfl, hT⟩⟩
theorem rests2 {w : World} {g : Nat} {f f' : FuncId} {cap cap' : Array Value} {T T' : Co → Bool} (h : w.heap[g]? = some (.cells #[.func (.func f) #[] cap, .func (.func f') #[] cap'] 136 (0, 0))) (hT : TestF w f cap T) (hT' : TestF w f' cap' T') : Rests w (some ⟨g, 0, none⟩) 2 [T, T'] := ⟨rfl, by omega, fun i U hU => by
  match i, hU with
  | 0, hU => cases hU; exact ⟨g, f, cap, rfl, lt_of_get h, cell1 h rfl, hT⟩
  | 1, hU => cases hU; exact ⟨g, f', cap', rfl, lt_of_get h, cell1 h rfl, hT'⟩⟩
theorem respell {w : World} {xs ys : List RV} {rs qs : List Rl} (h : Rules w xs rs) (e : xs = ys) (e' : rs = qs) : Rules w ys qs := e ▸ e' ▸ h
/-- A path of a term that fits stands there. -/
theorem path1 {op : Int} {ts : List (Co → Bool)} {p : Nat} (h : p < nK op) : ∀ c, Dom c → isP op ts c = true → pathOk [p] c := fun c hD hT => by
  obtain ⟨o, k, s, kids⟩ := c
  have e : o = op := (op_is hT).1
  subst e
  exact ⟨by show p < kids.length; rw [dom_len hD]; exact h, trivial⟩
theorem path2 {op op' : Int} (h : 0 < nK op) (h' : 0 < nK op') : ∀ c, Dom c → isP op [isP op' []] c = true → pathOk [0, 0] c := fun c hD hT => by
  obtain ⟨o, k, s, kids⟩ := c
  obtain ⟨e, ht⟩ := op_is hT
  have e : o = op := e
  subst e
  have hl : 0 < kids.length := by rw [dom_len hD]; exact h
  obtain ⟨x, hx⟩ : ∃ x, kids[0]? = some x := ⟨kids[0], by simp⟩
  have hkx : kidC (.mk o k s kids) 0 = x := by simp [kidC, Co.kids, List.getD, hx]
  have ht : isP op' [] x = true := by
    rw [tstK, hkx] at ht
    simpa [tstK] using ht
  obtain ⟨o', k', s', kids'⟩ := x
  have e' : o' = op' := (op_is ht).1
  subst e'
  refine ⟨hl, ?_⟩
  rw [hkx]
  exact ⟨by show 0 < kids'.length; rw [dom_len (dom_kid hD hx)]; exact h', trivial⟩

set_option maxRecDepth 100000 in
seal rn rnN rnS Goes ans atEnd put0 putM opened openedY putA0 putA oneSt st0 keep in
theorem rules_any (w0 : World) : Calls Tryz.prog 126 #[] w0 fun e w' => ∃ b xs, e = .returned (.slice (some ⟨b, 0, none⟩) 27 27) ∧ w'.heap[b]? = some (.cells (flatR xs).toArray 170 (0, 0)) ∧ ∃ w1, Rules w1 xs rulesP ∧ Below w0.heap.size w0 w1 ∧ w1.heap.size ≤ b ∧ Below w1.heap.size w1 w' := by
  refine Goes.begin Tryz.func126 [] (fun _ => True) Holds.nil (by simp [Mem.ids]) (fun _ _ => trivial) ?_
  have hB0 : Below w0.heap.size w0 w0 := Below.refl _ _
  have rs0 : Rules w0 [] [] := .nil
  have rs1 : Rules w0 _ _ := .snoc _ _ ⟨1, 162, #[], 163, #[]⟩ ⟨1, rkdP, reckP⟩ rs0 ⟨rfl, (reckoned_any _), (reck_any _)⟩
  refine Goes.run [] [] trivial ?_
  refine Goes.call 164 #[.int .i64 6, .slice none 0 0] fun u1 hm1 hn1 hI1 => (is_any 6 none 0 0 u1).mono fun e w1 ⟨a1, b1, he, hC1, hF1⟩ => ⟨_, fun w' => Ch [] w1 w' ∧ True, [], he, Holds.nil, by simp [Mem.ids], fun _ hc => ⟨hc, trivial⟩, ?_⟩
  have hD1 := hI1.now.1.toB (fun x hx => by cases hx)
  have hE1 := hD1.trans (hC1.mono hD1.size)
  have rs1_ := rs1.later hE1
  have hB1 := hB0.trans (hE1.mono hB0.size)
  have T1 := hF1 [] (rests0 _) (by decide)
  refine Goes.run1 [] [] trivial fun g1 => ?_
  refine Goes.call 164 #[.int .i64 6, .slice (some ⟨g1, 0, none⟩) 1 1] fun u2 hm2 hn2 hI2 => (is_any 6 (some ⟨g1, 0, none⟩) 1 1 u2).mono fun e w2 ⟨a2, b2, he, hC2, hF2⟩ => ⟨_, fun w' => Ch [] w2 w' ∧ True, [], he, Holds.nil, by simp [Mem.ids], fun _ hc => ⟨hc, trivial⟩, ?_⟩
  have hD2 := hI2.now.1.toB (fun x hx => by cases hx)
  have hE2 := hD2.trans (hC2.mono hD2.size)
  have rs1__ := rs1_.later hE2
  have hB2 := hB1.trans (hE2.mono hB1.size)
  have T1_ := T1.later hE2
  have T2 := hF2 [isP 6 []] (rests1 (hm2.get 0) (T1.later hD2)) (by decide)
  refine Goes.run1 [] [] trivial fun g2 => ?_
  refine Goes.call 165 #[.slice (some ⟨g2, 0, none⟩) 2 2] fun u3 hm3 hn3 hI3 => (part_any (b := g2) (cp := 2) (ps := [0, 0]) 2 rfl u3).mono fun e w3 ⟨a3, he, hC3, hF3⟩ => ⟨_, fun w' => Ch [] w3 w' ∧ True, [], he, Holds.nil, by simp [Mem.ids], fun _ hc => ⟨hc, trivial⟩, ?_⟩
  have hD3 := hI3.now.1.toB (fun x hx => by cases hx)
  have hE3 := hD3.trans (hC3.mono hD3.size)
  have rs1___ := rs1__.later hE3
  have hB3 := hB2.trans (hE3.mono hB2.size)
  have T2_ := T2.later hE3
  have M3 := hF3 (isP 6 [isP 6 []]) (hm3.get 0) (by decide) (path2 (by decide) (by decide))
  have rs2 : Rules w3 _ _ := .snoc _ _ ⟨2, 212, #[.pointer (some ⟨a2, 0, none⟩), .pointer (some ⟨b2, 0, none⟩)], 213, #[.pointer (some ⟨a3, 0, none⟩)]⟩ ⟨2, isP 6 [isP 6 []], partP [0, 0]⟩ rs1___ ⟨rfl, T2_, M3⟩
  refine Goes.run [] [] trivial ?_
  refine Goes.call 164 #[.int .i64 14, .slice none 0 0] fun u4 hm4 hn4 hI4 => (is_any 14 none 0 0 u4).mono fun e w4 ⟨a4, b4, he, hC4, hF4⟩ => ⟨_, fun w' => Ch [] w4 w' ∧ True, [], he, Holds.nil, by simp [Mem.ids], fun _ hc => ⟨hc, trivial⟩, ?_⟩
  have hD4 := hI4.now.1.toB (fun x hx => by cases hx)
  have hE4 := hD4.trans (hC4.mono hD4.size)
  have rs2_ := rs2.later hE4
  have hB4 := hB3.trans (hE4.mono hB3.size)
  have T4 := hF4 [] (rests0 _) (by decide)
  refine Goes.run1 [] [] trivial fun g3 => ?_
  refine Goes.call 164 #[.int .i64 14, .slice (some ⟨g3, 0, none⟩) 1 1] fun u5 hm5 hn5 hI5 => (is_any 14 (some ⟨g3, 0, none⟩) 1 1 u5).mono fun e w5 ⟨a5, b5, he, hC5, hF5⟩ => ⟨_, fun w' => Ch [] w5 w' ∧ True, [], he, Holds.nil, by simp [Mem.ids], fun _ hc => ⟨hc, trivial⟩, ?_⟩
  have hD5 := hI5.now.1.toB (fun x hx => by cases hx)
  have hE5 := hD5.trans (hC5.mono hD5.size)
  have rs2__ := rs2_.later hE5
  have hB5 := hB4.trans (hE5.mono hB4.size)
  have T4_ := T4.later hE5
  have T5 := hF5 [isP 14 []] (rests1 (hm5.get 0) (T4.later hD5)) (by decide)
  refine Goes.run1 [] [] trivial fun g4 => ?_
  refine Goes.call 165 #[.slice (some ⟨g4, 0, none⟩) 2 2] fun u6 hm6 hn6 hI6 => (part_any (b := g4) (cp := 2) (ps := [0, 0]) 2 rfl u6).mono fun e w6 ⟨a6, he, hC6, hF6⟩ => ⟨_, fun w' => Ch [] w6 w' ∧ True, [], he, Holds.nil, by simp [Mem.ids], fun _ hc => ⟨hc, trivial⟩, ?_⟩
  have hD6 := hI6.now.1.toB (fun x hx => by cases hx)
  have hE6 := hD6.trans (hC6.mono hD6.size)
  have rs2___ := rs2__.later hE6
  have hB6 := hB5.trans (hE6.mono hB5.size)
  have T5_ := T5.later hE6
  have M6 := hF6 (isP 14 [isP 14 []]) (hm6.get 0) (by decide) (path2 (by decide) (by decide))
  have rs3 : Rules w6 _ _ := .snoc _ _ ⟨2, 212, #[.pointer (some ⟨a5, 0, none⟩), .pointer (some ⟨b5, 0, none⟩)], 213, #[.pointer (some ⟨a6, 0, none⟩)]⟩ ⟨2, isP 14 [isP 14 []], partP [0, 0]⟩ rs2___ ⟨rfl, T5_, M6⟩
  refine Goes.run1 [] [] trivial fun g5 => ?_
  refine Goes.call 164 #[.int .i64 7, .slice (some ⟨g5, 0, none⟩) 2 2] fun u7 hm7 hn7 hI7 => (is_any 7 (some ⟨g5, 0, none⟩) 2 2 u7).mono fun e w7 ⟨a7, b7, he, hC7, hF7⟩ => ⟨_, fun w' => Ch [] w7 w' ∧ True, [], he, Holds.nil, by simp [Mem.ids], fun _ hc => ⟨hc, trivial⟩, ?_⟩
  have hD7 := hI7.now.1.toB (fun x hx => by cases hx)
  have hE7 := hD7.trans (hC7.mono hD7.size)
  have rs3_ := rs3.later hE7
  have hB7 := hB6.trans (hE7.mono hB6.size)
  have T7 := hF7 [anyP, numIs 0] (rests2 (hm7.get 0) (pany_any _) (nought_any _)) (by decide)
  refine Goes.run1 [] [] trivial fun g6 => ?_
  refine Goes.call 165 #[.slice (some ⟨g6, 0, none⟩) 1 1] fun u8 hm8 hn8 hI8 => (part_any (b := g6) (cp := 1) (ps := [0]) 1 rfl u8).mono fun e w8 ⟨a8, he, hC8, hF8⟩ => ⟨_, fun w' => Ch [] w8 w' ∧ True, [], he, Holds.nil, by simp [Mem.ids], fun _ hc => ⟨hc, trivial⟩, ?_⟩
  have hD8 := hI8.now.1.toB (fun x hx => by cases hx)
  have hE8 := hD8.trans (hC8.mono hD8.size)
  have rs3__ := rs3_.later hE8
  have hB8 := hB7.trans (hE8.mono hB7.size)
  have T7_ := T7.later hE8
  have M8 := hF8 (isP 7 [anyP, numIs 0]) (hm8.get 0) (by decide) (path1 (by decide))
  have rs4 : Rules w8 _ _ := .snoc _ _ ⟨2, 212, #[.pointer (some ⟨a7, 0, none⟩), .pointer (some ⟨b7, 0, none⟩)], 213, #[.pointer (some ⟨a8, 0, none⟩)]⟩ ⟨2, isP 7 [anyP, numIs 0], partP [0]⟩ rs3__ ⟨rfl, T7_, M8⟩
  refine Goes.run1 [] [] trivial fun g7 => ?_
  refine Goes.call 164 #[.int .i64 7, .slice (some ⟨g7, 0, none⟩) 1 1] fun u9 hm9 hn9 hI9 => (is_any 7 (some ⟨g7, 0, none⟩) 1 1 u9).mono fun e w9 ⟨a9, b9, he, hC9, hF9⟩ => ⟨_, fun w' => Ch [] w9 w' ∧ True, [], he, Holds.nil, by simp [Mem.ids], fun _ hc => ⟨hc, trivial⟩, ?_⟩
  have hD9 := hI9.now.1.toB (fun x hx => by cases hx)
  have hE9 := hD9.trans (hC9.mono hD9.size)
  have rs4_ := rs4.later hE9
  have hB9 := hB8.trans (hE9.mono hB8.size)
  have T9 := hF9 [numIs 0] (rests1 (hm9.get 0) (nought_any _)) (by decide)
  refine Goes.run1 [] [] trivial fun g8 => ?_
  refine Goes.call 165 #[.slice (some ⟨g8, 0, none⟩) 1 1] fun u10 hm10 hn10 hI10 => (part_any (b := g8) (cp := 1) (ps := [1]) 1 rfl u10).mono fun e w10 ⟨a10, he, hC10, hF10⟩ => ⟨_, fun w' => Ch [] w10 w' ∧ True, [], he, Holds.nil, by simp [Mem.ids], fun _ hc => ⟨hc, trivial⟩, ?_⟩
  have hD10 := hI10.now.1.toB (fun x hx => by cases hx)
  have hE10 := hD10.trans (hC10.mono hD10.size)
  have rs4__ := rs4_.later hE10
  have hB10 := hB9.trans (hE10.mono hB9.size)
  have T9_ := T9.later hE10
  have M10 := hF10 (isP 7 [numIs 0]) (hm10.get 0) (by decide) (path1 (by decide))
  have rs5 : Rules w10 _ _ := .snoc _ _ ⟨2, 212, #[.pointer (some ⟨a9, 0, none⟩), .pointer (some ⟨b9, 0, none⟩)], 213, #[.pointer (some ⟨a10, 0, none⟩)]⟩ ⟨2, isP 7 [numIs 0], partP [1]⟩ rs4__ ⟨rfl, T9_, M10⟩
  refine Goes.run1 [] [] trivial fun g9 => ?_
  refine Goes.call 164 #[.int .i64 8, .slice (some ⟨g9, 0, none⟩) 2 2] fun u11 hm11 hn11 hI11 => (is_any 8 (some ⟨g9, 0, none⟩) 2 2 u11).mono fun e w11 ⟨a11, b11, he, hC11, hF11⟩ => ⟨_, fun w' => Ch [] w11 w' ∧ True, [], he, Holds.nil, by simp [Mem.ids], fun _ hc => ⟨hc, trivial⟩, ?_⟩
  have hD11 := hI11.now.1.toB (fun x hx => by cases hx)
  have hE11 := hD11.trans (hC11.mono hD11.size)
  have rs5_ := rs5.later hE11
  have hB11 := hB10.trans (hE11.mono hB10.size)
  have T11 := hF11 [anyP, numIs 0] (rests2 (hm11.get 0) (pany_any _) (nought_any _)) (by decide)
  refine Goes.run1 [] [] trivial fun g10 => ?_
  refine Goes.call 165 #[.slice (some ⟨g10, 0, none⟩) 1 1] fun u12 hm12 hn12 hI12 => (part_any (b := g10) (cp := 1) (ps := [0]) 1 rfl u12).mono fun e w12 ⟨a12, he, hC12, hF12⟩ => ⟨_, fun w' => Ch [] w12 w' ∧ True, [], he, Holds.nil, by simp [Mem.ids], fun _ hc => ⟨hc, trivial⟩, ?_⟩
  have hD12 := hI12.now.1.toB (fun x hx => by cases hx)
  have hE12 := hD12.trans (hC12.mono hD12.size)
  have rs5__ := rs5_.later hE12
  have hB12 := hB11.trans (hE12.mono hB11.size)
  have T11_ := T11.later hE12
  have M12 := hF12 (isP 8 [anyP, numIs 0]) (hm12.get 0) (by decide) (path1 (by decide))
  have rs6 : Rules w12 _ _ := .snoc _ _ ⟨2, 212, #[.pointer (some ⟨a11, 0, none⟩), .pointer (some ⟨b11, 0, none⟩)], 213, #[.pointer (some ⟨a12, 0, none⟩)]⟩ ⟨2, isP 8 [anyP, numIs 0], partP [0]⟩ rs5__ ⟨rfl, T11_, M12⟩
  refine Goes.run1 [] [] trivial fun g11 => ?_
  refine Goes.call 164 #[.int .i64 9, .slice (some ⟨g11, 0, none⟩) 2 2] fun u13 hm13 hn13 hI13 => (is_any 9 (some ⟨g11, 0, none⟩) 2 2 u13).mono fun e w13 ⟨a13, b13, he, hC13, hF13⟩ => ⟨_, fun w' => Ch [] w13 w' ∧ True, [], he, Holds.nil, by simp [Mem.ids], fun _ hc => ⟨hc, trivial⟩, ?_⟩
  have hD13 := hI13.now.1.toB (fun x hx => by cases hx)
  have hE13 := hD13.trans (hC13.mono hD13.size)
  have rs6_ := rs6.later hE13
  have hB13 := hB12.trans (hE13.mono hB12.size)
  have T13 := hF13 [anyP, numIs 1000000] (rests2 (hm13.get 0) (pany_any _) (unit_any _)) (by decide)
  refine Goes.run1 [] [] trivial fun g12 => ?_
  refine Goes.call 165 #[.slice (some ⟨g12, 0, none⟩) 1 1] fun u14 hm14 hn14 hI14 => (part_any (b := g12) (cp := 1) (ps := [0]) 1 rfl u14).mono fun e w14 ⟨a14, he, hC14, hF14⟩ => ⟨_, fun w' => Ch [] w14 w' ∧ True, [], he, Holds.nil, by simp [Mem.ids], fun _ hc => ⟨hc, trivial⟩, ?_⟩
  have hD14 := hI14.now.1.toB (fun x hx => by cases hx)
  have hE14 := hD14.trans (hC14.mono hD14.size)
  have rs6__ := rs6_.later hE14
  have hB14 := hB13.trans (hE14.mono hB13.size)
  have T13_ := T13.later hE14
  have M14 := hF14 (isP 9 [anyP, numIs 1000000]) (hm14.get 0) (by decide) (path1 (by decide))
  have rs7 : Rules w14 _ _ := .snoc _ _ ⟨2, 212, #[.pointer (some ⟨a13, 0, none⟩), .pointer (some ⟨b13, 0, none⟩)], 213, #[.pointer (some ⟨a14, 0, none⟩)]⟩ ⟨2, isP 9 [anyP, numIs 1000000], partP [0]⟩ rs6__ ⟨rfl, T13_, M14⟩
  refine Goes.run1 [] [] trivial fun g13 => ?_
  refine Goes.call 164 #[.int .i64 9, .slice (some ⟨g13, 0, none⟩) 1 1] fun u15 hm15 hn15 hI15 => (is_any 9 (some ⟨g13, 0, none⟩) 1 1 u15).mono fun e w15 ⟨a15, b15, he, hC15, hF15⟩ => ⟨_, fun w' => Ch [] w15 w' ∧ True, [], he, Holds.nil, by simp [Mem.ids], fun _ hc => ⟨hc, trivial⟩, ?_⟩
  have hD15 := hI15.now.1.toB (fun x hx => by cases hx)
  have hE15 := hD15.trans (hC15.mono hD15.size)
  have rs7_ := rs7.later hE15
  have hB15 := hB14.trans (hE15.mono hB14.size)
  have T15 := hF15 [numIs 1000000] (rests1 (hm15.get 0) (unit_any _)) (by decide)
  refine Goes.run1 [] [] trivial fun g14 => ?_
  refine Goes.call 165 #[.slice (some ⟨g14, 0, none⟩) 1 1] fun u16 hm16 hn16 hI16 => (part_any (b := g14) (cp := 1) (ps := [1]) 1 rfl u16).mono fun e w16 ⟨a16, he, hC16, hF16⟩ => ⟨_, fun w' => Ch [] w16 w' ∧ True, [], he, Holds.nil, by simp [Mem.ids], fun _ hc => ⟨hc, trivial⟩, ?_⟩
  have hD16 := hI16.now.1.toB (fun x hx => by cases hx)
  have hE16 := hD16.trans (hC16.mono hD16.size)
  have rs7__ := rs7_.later hE16
  have hB16 := hB15.trans (hE16.mono hB15.size)
  have T15_ := T15.later hE16
  have M16 := hF16 (isP 9 [numIs 1000000]) (hm16.get 0) (by decide) (path1 (by decide))
  have rs8 : Rules w16 _ _ := .snoc _ _ ⟨2, 212, #[.pointer (some ⟨a15, 0, none⟩), .pointer (some ⟨b15, 0, none⟩)], 213, #[.pointer (some ⟨a16, 0, none⟩)]⟩ ⟨2, isP 9 [numIs 1000000], partP [1]⟩ rs7__ ⟨rfl, T15_, M16⟩
  refine Goes.run1 [] [] trivial fun g15 => ?_
  refine Goes.call 164 #[.int .i64 10, .slice (some ⟨g15, 0, none⟩) 2 2] fun u17 hm17 hn17 hI17 => (is_any 10 (some ⟨g15, 0, none⟩) 2 2 u17).mono fun e w17 ⟨a17, b17, he, hC17, hF17⟩ => ⟨_, fun w' => Ch [] w17 w' ∧ True, [], he, Holds.nil, by simp [Mem.ids], fun _ hc => ⟨hc, trivial⟩, ?_⟩
  have hD17 := hI17.now.1.toB (fun x hx => by cases hx)
  have hE17 := hD17.trans (hC17.mono hD17.size)
  have rs8_ := rs8.later hE17
  have hB17 := hB16.trans (hE17.mono hB16.size)
  have T17 := hF17 [anyP, numIs 1000000] (rests2 (hm17.get 0) (pany_any _) (unit_any _)) (by decide)
  refine Goes.run1 [] [] trivial fun g16 => ?_
  refine Goes.call 165 #[.slice (some ⟨g16, 0, none⟩) 1 1] fun u18 hm18 hn18 hI18 => (part_any (b := g16) (cp := 1) (ps := [0]) 1 rfl u18).mono fun e w18 ⟨a18, he, hC18, hF18⟩ => ⟨_, fun w' => Ch [] w18 w' ∧ True, [], he, Holds.nil, by simp [Mem.ids], fun _ hc => ⟨hc, trivial⟩, ?_⟩
  have hD18 := hI18.now.1.toB (fun x hx => by cases hx)
  have hE18 := hD18.trans (hC18.mono hD18.size)
  have rs8__ := rs8_.later hE18
  have hB18 := hB17.trans (hE18.mono hB17.size)
  have T17_ := T17.later hE18
  have M18 := hF18 (isP 10 [anyP, numIs 1000000]) (hm18.get 0) (by decide) (path1 (by decide))
  have rs9 : Rules w18 _ _ := .snoc _ _ ⟨2, 212, #[.pointer (some ⟨a17, 0, none⟩), .pointer (some ⟨b17, 0, none⟩)], 213, #[.pointer (some ⟨a18, 0, none⟩)]⟩ ⟨2, isP 10 [anyP, numIs 1000000], partP [0]⟩ rs8__ ⟨rfl, T17_, M18⟩
  refine Goes.run1 [] [] trivial fun g17 => ?_
  refine Goes.call 164 #[.int .i64 15, .slice (some ⟨g17, 0, none⟩) 1 1] fun u19 hm19 hn19 hI19 => (is_any 15 (some ⟨g17, 0, none⟩) 1 1 u19).mono fun e w19 ⟨a19, b19, he, hC19, hF19⟩ => ⟨_, fun w' => Ch [] w19 w' ∧ True, [], he, Holds.nil, by simp [Mem.ids], fun _ hc => ⟨hc, trivial⟩, ?_⟩
  have hD19 := hI19.now.1.toB (fun x hx => by cases hx)
  have hE19 := hD19.trans (hC19.mono hD19.size)
  have rs9_ := rs9.later hE19
  have hB19 := hB18.trans (hE19.mono hB18.size)
  have T19 := hF19 [truIs 1] (rests1 (hm19.get 0) (ptrue_any _)) (by decide)
  refine Goes.run1 [] [] trivial fun g18 => ?_
  refine Goes.call 165 #[.slice (some ⟨g18, 0, none⟩) 1 1] fun u20 hm20 hn20 hI20 => (part_any (b := g18) (cp := 1) (ps := [1]) 1 rfl u20).mono fun e w20 ⟨a20, he, hC20, hF20⟩ => ⟨_, fun w' => Ch [] w20 w' ∧ True, [], he, Holds.nil, by simp [Mem.ids], fun _ hc => ⟨hc, trivial⟩, ?_⟩
  have hD20 := hI20.now.1.toB (fun x hx => by cases hx)
  have hE20 := hD20.trans (hC20.mono hD20.size)
  have rs9__ := rs9_.later hE20
  have hB20 := hB19.trans (hE20.mono hB19.size)
  have T19_ := T19.later hE20
  have M20 := hF20 (isP 15 [truIs 1]) (hm20.get 0) (by decide) (path1 (by decide))
  have rs10 : Rules w20 _ _ := .snoc _ _ ⟨2, 212, #[.pointer (some ⟨a19, 0, none⟩), .pointer (some ⟨b19, 0, none⟩)], 213, #[.pointer (some ⟨a20, 0, none⟩)]⟩ ⟨2, isP 15 [truIs 1], partP [1]⟩ rs9__ ⟨rfl, T19_, M20⟩
  refine Goes.run1 [] [] trivial fun g19 => ?_
  refine Goes.call 164 #[.int .i64 15, .slice (some ⟨g19, 0, none⟩) 2 2] fun u21 hm21 hn21 hI21 => (is_any 15 (some ⟨g19, 0, none⟩) 2 2 u21).mono fun e w21 ⟨a21, b21, he, hC21, hF21⟩ => ⟨_, fun w' => Ch [] w21 w' ∧ True, [], he, Holds.nil, by simp [Mem.ids], fun _ hc => ⟨hc, trivial⟩, ?_⟩
  have hD21 := hI21.now.1.toB (fun x hx => by cases hx)
  have hE21 := hD21.trans (hC21.mono hD21.size)
  have rs10_ := rs10.later hE21
  have hB21 := hB20.trans (hE21.mono hB20.size)
  have T21 := hF21 [anyP, truIs 1] (rests2 (hm21.get 0) (pany_any _) (ptrue_any _)) (by decide)
  refine Goes.run1 [] [] trivial fun g20 => ?_
  refine Goes.call 165 #[.slice (some ⟨g20, 0, none⟩) 1 1] fun u22 hm22 hn22 hI22 => (part_any (b := g20) (cp := 1) (ps := [0]) 1 rfl u22).mono fun e w22 ⟨a22, he, hC22, hF22⟩ => ⟨_, fun w' => Ch [] w22 w' ∧ True, [], he, Holds.nil, by simp [Mem.ids], fun _ hc => ⟨hc, trivial⟩, ?_⟩
  have hD22 := hI22.now.1.toB (fun x hx => by cases hx)
  have hE22 := hD22.trans (hC22.mono hD22.size)
  have rs10__ := rs10_.later hE22
  have hB22 := hB21.trans (hE22.mono hB21.size)
  have T21_ := T21.later hE22
  have M22 := hF22 (isP 15 [anyP, truIs 1]) (hm22.get 0) (by decide) (path1 (by decide))
  have rs11 : Rules w22 _ _ := .snoc _ _ ⟨2, 212, #[.pointer (some ⟨a21, 0, none⟩), .pointer (some ⟨b21, 0, none⟩)], 213, #[.pointer (some ⟨a22, 0, none⟩)]⟩ ⟨2, isP 15 [anyP, truIs 1], partP [0]⟩ rs10__ ⟨rfl, T21_, M22⟩
  refine Goes.run1 [] [] trivial fun g21 => ?_
  refine Goes.call 164 #[.int .i64 16, .slice (some ⟨g21, 0, none⟩) 1 1] fun u23 hm23 hn23 hI23 => (is_any 16 (some ⟨g21, 0, none⟩) 1 1 u23).mono fun e w23 ⟨a23, b23, he, hC23, hF23⟩ => ⟨_, fun w' => Ch [] w23 w' ∧ True, [], he, Holds.nil, by simp [Mem.ids], fun _ hc => ⟨hc, trivial⟩, ?_⟩
  have hD23 := hI23.now.1.toB (fun x hx => by cases hx)
  have hE23 := hD23.trans (hC23.mono hD23.size)
  have rs11_ := rs11.later hE23
  have hB23 := hB22.trans (hE23.mono hB22.size)
  have T23 := hF23 [truIs 0] (rests1 (hm23.get 0) (pfalse_any _)) (by decide)
  refine Goes.run1 [] [] trivial fun g22 => ?_
  refine Goes.call 165 #[.slice (some ⟨g22, 0, none⟩) 1 1] fun u24 hm24 hn24 hI24 => (part_any (b := g22) (cp := 1) (ps := [1]) 1 rfl u24).mono fun e w24 ⟨a24, he, hC24, hF24⟩ => ⟨_, fun w' => Ch [] w24 w' ∧ True, [], he, Holds.nil, by simp [Mem.ids], fun _ hc => ⟨hc, trivial⟩, ?_⟩
  have hD24 := hI24.now.1.toB (fun x hx => by cases hx)
  have hE24 := hD24.trans (hC24.mono hD24.size)
  have rs11__ := rs11_.later hE24
  have hB24 := hB23.trans (hE24.mono hB23.size)
  have T23_ := T23.later hE24
  have M24 := hF24 (isP 16 [truIs 0]) (hm24.get 0) (by decide) (path1 (by decide))
  have rs12 : Rules w24 _ _ := .snoc _ _ ⟨2, 212, #[.pointer (some ⟨a23, 0, none⟩), .pointer (some ⟨b23, 0, none⟩)], 213, #[.pointer (some ⟨a24, 0, none⟩)]⟩ ⟨2, isP 16 [truIs 0], partP [1]⟩ rs11__ ⟨rfl, T23_, M24⟩
  refine Goes.run1 [] [] trivial fun g23 => ?_
  refine Goes.call 164 #[.int .i64 16, .slice (some ⟨g23, 0, none⟩) 2 2] fun u25 hm25 hn25 hI25 => (is_any 16 (some ⟨g23, 0, none⟩) 2 2 u25).mono fun e w25 ⟨a25, b25, he, hC25, hF25⟩ => ⟨_, fun w' => Ch [] w25 w' ∧ True, [], he, Holds.nil, by simp [Mem.ids], fun _ hc => ⟨hc, trivial⟩, ?_⟩
  have hD25 := hI25.now.1.toB (fun x hx => by cases hx)
  have hE25 := hD25.trans (hC25.mono hD25.size)
  have rs12_ := rs12.later hE25
  have hB25 := hB24.trans (hE25.mono hB24.size)
  have T25 := hF25 [anyP, truIs 0] (rests2 (hm25.get 0) (pany_any _) (pfalse_any _)) (by decide)
  refine Goes.run1 [] [] trivial fun g24 => ?_
  refine Goes.call 165 #[.slice (some ⟨g24, 0, none⟩) 1 1] fun u26 hm26 hn26 hI26 => (part_any (b := g24) (cp := 1) (ps := [0]) 1 rfl u26).mono fun e w26 ⟨a26, he, hC26, hF26⟩ => ⟨_, fun w' => Ch [] w26 w' ∧ True, [], he, Holds.nil, by simp [Mem.ids], fun _ hc => ⟨hc, trivial⟩, ?_⟩
  have hD26 := hI26.now.1.toB (fun x hx => by cases hx)
  have hE26 := hD26.trans (hC26.mono hD26.size)
  have rs12__ := rs12_.later hE26
  have hB26 := hB25.trans (hE26.mono hB25.size)
  have T25_ := T25.later hE26
  have M26 := hF26 (isP 16 [anyP, truIs 0]) (hm26.get 0) (by decide) (path1 (by decide))
  have rs13 : Rules w26 _ _ := .snoc _ _ ⟨2, 212, #[.pointer (some ⟨a25, 0, none⟩), .pointer (some ⟨b25, 0, none⟩)], 213, #[.pointer (some ⟨a26, 0, none⟩)]⟩ ⟨2, isP 16 [anyP, truIs 0], partP [0]⟩ rs12__ ⟨rfl, T25_, M26⟩
  refine Goes.run1 [] [] trivial fun g25 => ?_
  refine Goes.call 164 #[.int .i64 15, .slice (some ⟨g25, 0, none⟩) 1 1] fun u27 hm27 hn27 hI27 => (is_any 15 (some ⟨g25, 0, none⟩) 1 1 u27).mono fun e w27 ⟨a27, b27, he, hC27, hF27⟩ => ⟨_, fun w' => Ch [] w27 w' ∧ True, [], he, Holds.nil, by simp [Mem.ids], fun _ hc => ⟨hc, trivial⟩, ?_⟩
  have hD27 := hI27.now.1.toB (fun x hx => by cases hx)
  have hE27 := hD27.trans (hC27.mono hD27.size)
  have rs13_ := rs13.later hE27
  have hB27 := hB26.trans (hE27.mono hB26.size)
  have T27 := hF27 [truIs 0] (rests1 (hm27.get 0) (pfalse_any _)) (by decide)
  refine Goes.run1 [] [] trivial fun g26 => ?_
  refine Goes.call 165 #[.slice (some ⟨g26, 0, none⟩) 1 1] fun u28 hm28 hn28 hI28 => (part_any (b := g26) (cp := 1) (ps := [0]) 1 rfl u28).mono fun e w28 ⟨a28, he, hC28, hF28⟩ => ⟨_, fun w' => Ch [] w28 w' ∧ True, [], he, Holds.nil, by simp [Mem.ids], fun _ hc => ⟨hc, trivial⟩, ?_⟩
  have hD28 := hI28.now.1.toB (fun x hx => by cases hx)
  have hE28 := hD28.trans (hC28.mono hD28.size)
  have rs13__ := rs13_.later hE28
  have hB28 := hB27.trans (hE28.mono hB27.size)
  have T27_ := T27.later hE28
  have M28 := hF28 (isP 15 [truIs 0]) (hm28.get 0) (by decide) (path1 (by decide))
  have rs14 : Rules w28 _ _ := .snoc _ _ ⟨2, 212, #[.pointer (some ⟨a27, 0, none⟩), .pointer (some ⟨b27, 0, none⟩)], 213, #[.pointer (some ⟨a28, 0, none⟩)]⟩ ⟨2, isP 15 [truIs 0], partP [0]⟩ rs13__ ⟨rfl, T27_, M28⟩
  refine Goes.run1 [] [] trivial fun g27 => ?_
  refine Goes.call 164 #[.int .i64 16, .slice (some ⟨g27, 0, none⟩) 1 1] fun u29 hm29 hn29 hI29 => (is_any 16 (some ⟨g27, 0, none⟩) 1 1 u29).mono fun e w29 ⟨a29, b29, he, hC29, hF29⟩ => ⟨_, fun w' => Ch [] w29 w' ∧ True, [], he, Holds.nil, by simp [Mem.ids], fun _ hc => ⟨hc, trivial⟩, ?_⟩
  have hD29 := hI29.now.1.toB (fun x hx => by cases hx)
  have hE29 := hD29.trans (hC29.mono hD29.size)
  have rs14_ := rs14.later hE29
  have hB29 := hB28.trans (hE29.mono hB28.size)
  have T29 := hF29 [truIs 1] (rests1 (hm29.get 0) (ptrue_any _)) (by decide)
  refine Goes.run1 [] [] trivial fun g28 => ?_
  refine Goes.call 165 #[.slice (some ⟨g28, 0, none⟩) 1 1] fun u30 hm30 hn30 hI30 => (part_any (b := g28) (cp := 1) (ps := [0]) 1 rfl u30).mono fun e w30 ⟨a30, he, hC30, hF30⟩ => ⟨_, fun w' => Ch [] w30 w' ∧ True, [], he, Holds.nil, by simp [Mem.ids], fun _ hc => ⟨hc, trivial⟩, ?_⟩
  have hD30 := hI30.now.1.toB (fun x hx => by cases hx)
  have hE30 := hD30.trans (hC30.mono hD30.size)
  have rs14__ := rs14_.later hE30
  have hB30 := hB29.trans (hE30.mono hB29.size)
  have T29_ := T29.later hE30
  have M30 := hF30 (isP 16 [truIs 1]) (hm30.get 0) (by decide) (path1 (by decide))
  have rs15 : Rules w30 _ _ := .snoc _ _ ⟨2, 212, #[.pointer (some ⟨a29, 0, none⟩), .pointer (some ⟨b29, 0, none⟩)], 213, #[.pointer (some ⟨a30, 0, none⟩)]⟩ ⟨2, isP 16 [truIs 1], partP [0]⟩ rs14__ ⟨rfl, T29_, M30⟩
  refine Goes.run [] [] trivial ?_
  refine Goes.call 164 #[.int .i64 25, .slice none 0 0] fun u31 hm31 hn31 hI31 => (is_any 25 none 0 0 u31).mono fun e w31 ⟨a31, b31, he, hC31, hF31⟩ => ⟨_, fun w' => Ch [] w31 w' ∧ True, [], he, Holds.nil, by simp [Mem.ids], fun _ hc => ⟨hc, trivial⟩, ?_⟩
  have hD31 := hI31.now.1.toB (fun x hx => by cases hx)
  have hE31 := hD31.trans (hC31.mono hD31.size)
  have rs15_ := rs15.later hE31
  have hB31 := hB30.trans (hE31.mono hB30.size)
  have T31 := hF31 [] (rests0 _) (by decide)
  refine Goes.run1 [] [] trivial fun g29 => ?_
  refine Goes.call 164 #[.int .i64 25, .slice (some ⟨g29, 0, none⟩) 1 1] fun u32 hm32 hn32 hI32 => (is_any 25 (some ⟨g29, 0, none⟩) 1 1 u32).mono fun e w32 ⟨a32, b32, he, hC32, hF32⟩ => ⟨_, fun w' => Ch [] w32 w' ∧ True, [], he, Holds.nil, by simp [Mem.ids], fun _ hc => ⟨hc, trivial⟩, ?_⟩
  have hD32 := hI32.now.1.toB (fun x hx => by cases hx)
  have hE32 := hD32.trans (hC32.mono hD32.size)
  have rs15__ := rs15_.later hE32
  have hB32 := hB31.trans (hE32.mono hB31.size)
  have T31_ := T31.later hE32
  have T32 := hF32 [isP 25 []] (rests1 (hm32.get 0) (T31.later hD32)) (by decide)
  refine Goes.run1 [] [] trivial fun g30 => ?_
  refine Goes.call 165 #[.slice (some ⟨g30, 0, none⟩) 2 2] fun u33 hm33 hn33 hI33 => (part_any (b := g30) (cp := 2) (ps := [0, 0]) 2 rfl u33).mono fun e w33 ⟨a33, he, hC33, hF33⟩ => ⟨_, fun w' => Ch [] w33 w' ∧ True, [], he, Holds.nil, by simp [Mem.ids], fun _ hc => ⟨hc, trivial⟩, ?_⟩
  have hD33 := hI33.now.1.toB (fun x hx => by cases hx)
  have hE33 := hD33.trans (hC33.mono hD33.size)
  have rs15___ := rs15__.later hE33
  have hB33 := hB32.trans (hE33.mono hB32.size)
  have T32_ := T32.later hE33
  have M33 := hF33 (isP 25 [isP 25 []]) (hm33.get 0) (by decide) (path2 (by decide) (by decide))
  have rs16 : Rules w33 _ _ := .snoc _ _ ⟨2, 212, #[.pointer (some ⟨a32, 0, none⟩), .pointer (some ⟨b32, 0, none⟩)], 213, #[.pointer (some ⟨a33, 0, none⟩)]⟩ ⟨2, isP 25 [isP 25 []], partP [0, 0]⟩ rs15___ ⟨rfl, T32_, M33⟩
  refine Goes.run [] [] trivial ?_
  refine Goes.call 164 #[.int .i64 23, .slice none 0 0] fun u34 hm34 hn34 hI34 => (is_any 23 none 0 0 u34).mono fun e w34 ⟨a34, b34, he, hC34, hF34⟩ => ⟨_, fun w' => Ch [] w34 w' ∧ True, [], he, Holds.nil, by simp [Mem.ids], fun _ hc => ⟨hc, trivial⟩, ?_⟩
  have hD34 := hI34.now.1.toB (fun x hx => by cases hx)
  have hE34 := hD34.trans (hC34.mono hD34.size)
  have rs16_ := rs16.later hE34
  have hB34 := hB33.trans (hE34.mono hB33.size)
  have T34 := hF34 [] (rests0 _) (by decide)
  refine Goes.run1 [] [] trivial fun g31 => ?_
  refine Goes.call 164 #[.int .i64 25, .slice (some ⟨g31, 0, none⟩) 1 1] fun u35 hm35 hn35 hI35 => (is_any 25 (some ⟨g31, 0, none⟩) 1 1 u35).mono fun e w35 ⟨a35, b35, he, hC35, hF35⟩ => ⟨_, fun w' => Ch [] w35 w' ∧ True, [], he, Holds.nil, by simp [Mem.ids], fun _ hc => ⟨hc, trivial⟩, ?_⟩
  have hD35 := hI35.now.1.toB (fun x hx => by cases hx)
  have hE35 := hD35.trans (hC35.mono hD35.size)
  have rs16__ := rs16_.later hE35
  have hB35 := hB34.trans (hE35.mono hB34.size)
  have T34_ := T34.later hE35
  have T35 := hF35 [isP 23 []] (rests1 (hm35.get 0) (T34.later hD35)) (by decide)
  refine Goes.run1 [] [] trivial fun g32 => ?_
  refine Goes.call 165 #[.slice (some ⟨g32, 0, none⟩) 1 1] fun u36 hm36 hn36 hI36 => (part_any (b := g32) (cp := 1) (ps := [0]) 1 rfl u36).mono fun e w36 ⟨a36, he, hC36, hF36⟩ => ⟨_, fun w' => Ch [] w36 w' ∧ True, [], he, Holds.nil, by simp [Mem.ids], fun _ hc => ⟨hc, trivial⟩, ?_⟩
  have hD36 := hI36.now.1.toB (fun x hx => by cases hx)
  have hE36 := hD36.trans (hC36.mono hD36.size)
  have rs16___ := rs16__.later hE36
  have hB36 := hB35.trans (hE36.mono hB35.size)
  have T35_ := T35.later hE36
  have M36 := hF36 (isP 25 [isP 23 []]) (hm36.get 0) (by decide) (path1 (by decide))
  have rs17 : Rules w36 _ _ := .snoc _ _ ⟨2, 212, #[.pointer (some ⟨a35, 0, none⟩), .pointer (some ⟨b35, 0, none⟩)], 213, #[.pointer (some ⟨a36, 0, none⟩)]⟩ ⟨2, isP 25 [isP 23 []], partP [0]⟩ rs16___ ⟨rfl, T35_, M36⟩
  refine Goes.run [] [] trivial ?_
  refine Goes.call 164 #[.int .i64 23, .slice none 0 0] fun u37 hm37 hn37 hI37 => (is_any 23 none 0 0 u37).mono fun e w37 ⟨a37, b37, he, hC37, hF37⟩ => ⟨_, fun w' => Ch [] w37 w' ∧ True, [], he, Holds.nil, by simp [Mem.ids], fun _ hc => ⟨hc, trivial⟩, ?_⟩
  have hD37 := hI37.now.1.toB (fun x hx => by cases hx)
  have hE37 := hD37.trans (hC37.mono hD37.size)
  have rs17_ := rs17.later hE37
  have hB37 := hB36.trans (hE37.mono hB36.size)
  have T37 := hF37 [] (rests0 _) (by decide)
  refine Goes.run1 [] [] trivial fun g33 => ?_
  refine Goes.call 164 #[.int .i64 27, .slice (some ⟨g33, 0, none⟩) 1 1] fun u38 hm38 hn38 hI38 => (is_any 27 (some ⟨g33, 0, none⟩) 1 1 u38).mono fun e w38 ⟨a38, b38, he, hC38, hF38⟩ => ⟨_, fun w' => Ch [] w38 w' ∧ True, [], he, Holds.nil, by simp [Mem.ids], fun _ hc => ⟨hc, trivial⟩, ?_⟩
  have hD38 := hI38.now.1.toB (fun x hx => by cases hx)
  have hE38 := hD38.trans (hC38.mono hD38.size)
  have rs17__ := rs17_.later hE38
  have hB38 := hB37.trans (hE38.mono hB37.size)
  have T37_ := T37.later hE38
  have T38 := hF38 [isP 23 []] (rests1 (hm38.get 0) (T37.later hD38)) (by decide)
  refine Goes.run1 [] [] trivial fun g34 => ?_
  refine Goes.call 165 #[.slice (some ⟨g34, 0, none⟩) 1 1] fun u39 hm39 hn39 hI39 => (part_any (b := g34) (cp := 1) (ps := [1]) 1 rfl u39).mono fun e w39 ⟨a39, he, hC39, hF39⟩ => ⟨_, fun w' => Ch [] w39 w' ∧ True, [], he, Holds.nil, by simp [Mem.ids], fun _ hc => ⟨hc, trivial⟩, ?_⟩
  have hD39 := hI39.now.1.toB (fun x hx => by cases hx)
  have hE39 := hD39.trans (hC39.mono hD39.size)
  have rs17___ := rs17__.later hE39
  have hB39 := hB38.trans (hE39.mono hB38.size)
  have T38_ := T38.later hE39
  have M39 := hF39 (isP 27 [isP 23 []]) (hm39.get 0) (by decide) (path1 (by decide))
  have rs18 : Rules w39 _ _ := .snoc _ _ ⟨2, 212, #[.pointer (some ⟨a38, 0, none⟩), .pointer (some ⟨b38, 0, none⟩)], 213, #[.pointer (some ⟨a39, 0, none⟩)]⟩ ⟨2, isP 27 [isP 23 []], partP [1]⟩ rs17___ ⟨rfl, T38_, M39⟩
  refine Goes.run [] [] trivial ?_
  refine Goes.call 164 #[.int .i64 23, .slice none 0 0] fun u40 hm40 hn40 hI40 => (is_any 23 none 0 0 u40).mono fun e w40 ⟨a40, b40, he, hC40, hF40⟩ => ⟨_, fun w' => Ch [] w40 w' ∧ True, [], he, Holds.nil, by simp [Mem.ids], fun _ hc => ⟨hc, trivial⟩, ?_⟩
  have hD40 := hI40.now.1.toB (fun x hx => by cases hx)
  have hE40 := hD40.trans (hC40.mono hD40.size)
  have rs18_ := rs18.later hE40
  have hB40 := hB39.trans (hE40.mono hB39.size)
  have T40 := hF40 [] (rests0 _) (by decide)
  refine Goes.run1 [] [] trivial fun g35 => ?_
  refine Goes.call 164 #[.int .i64 27, .slice (some ⟨g35, 0, none⟩) 2 2] fun u41 hm41 hn41 hI41 => (is_any 27 (some ⟨g35, 0, none⟩) 2 2 u41).mono fun e w41 ⟨a41, b41, he, hC41, hF41⟩ => ⟨_, fun w' => Ch [] w41 w' ∧ True, [], he, Holds.nil, by simp [Mem.ids], fun _ hc => ⟨hc, trivial⟩, ?_⟩
  have hD41 := hI41.now.1.toB (fun x hx => by cases hx)
  have hE41 := hD41.trans (hC41.mono hD41.size)
  have rs18__ := rs18_.later hE41
  have hB41 := hB40.trans (hE41.mono hB40.size)
  have T40_ := T40.later hE41
  have T41 := hF41 [anyP, isP 23 []] (rests2 (hm41.get 0) (pany_any _) (T40.later hD41)) (by decide)
  refine Goes.run1 [] [] trivial fun g36 => ?_
  refine Goes.call 165 #[.slice (some ⟨g36, 0, none⟩) 1 1] fun u42 hm42 hn42 hI42 => (part_any (b := g36) (cp := 1) (ps := [0]) 1 rfl u42).mono fun e w42 ⟨a42, he, hC42, hF42⟩ => ⟨_, fun w' => Ch [] w42 w' ∧ True, [], he, Holds.nil, by simp [Mem.ids], fun _ hc => ⟨hc, trivial⟩, ?_⟩
  have hD42 := hI42.now.1.toB (fun x hx => by cases hx)
  have hE42 := hD42.trans (hC42.mono hD42.size)
  have rs18___ := rs18__.later hE42
  have hB42 := hB41.trans (hE42.mono hB41.size)
  have T41_ := T41.later hE42
  have M42 := hF42 (isP 27 [anyP, isP 23 []]) (hm42.get 0) (by decide) (path1 (by decide))
  have rs19 : Rules w42 _ _ := .snoc _ _ ⟨2, 212, #[.pointer (some ⟨a41, 0, none⟩), .pointer (some ⟨b41, 0, none⟩)], 213, #[.pointer (some ⟨a42, 0, none⟩)]⟩ ⟨2, isP 27 [anyP, isP 23 []], partP [0]⟩ rs18___ ⟨rfl, T41_, M42⟩
  refine Goes.run1 [] [] trivial fun g37 => ?_
  refine Goes.call 164 #[.int .i64 26, .slice (some ⟨g37, 0, none⟩) 1 1] fun u43 hm43 hn43 hI43 => (is_any 26 (some ⟨g37, 0, none⟩) 1 1 u43).mono fun e w43 ⟨a43, b43, he, hC43, hF43⟩ => ⟨_, fun w' => Ch [] w43 w' ∧ True, [], he, Holds.nil, by simp [Mem.ids], fun _ hc => ⟨hc, trivial⟩, ?_⟩
  have hD43 := hI43.now.1.toB (fun x hx => by cases hx)
  have hE43 := hD43.trans (hC43.mono hD43.size)
  have rs19_ := rs19.later hE43
  have hB43 := hB42.trans (hE43.mono hB42.size)
  have T43 := hF43 [numIs 1000000] (rests1 (hm43.get 0) (unit_any _)) (by decide)
  refine Goes.run1 [] [] trivial fun g38 => ?_
  refine Goes.call 165 #[.slice (some ⟨g38, 0, none⟩) 1 1] fun u44 hm44 hn44 hI44 => (part_any (b := g38) (cp := 1) (ps := [1]) 1 rfl u44).mono fun e w44 ⟨a44, he, hC44, hF44⟩ => ⟨_, fun w' => Ch [] w44 w' ∧ True, [], he, Holds.nil, by simp [Mem.ids], fun _ hc => ⟨hc, trivial⟩, ?_⟩
  have hD44 := hI44.now.1.toB (fun x hx => by cases hx)
  have hE44 := hD44.trans (hC44.mono hD44.size)
  have rs19__ := rs19_.later hE44
  have hB44 := hB43.trans (hE44.mono hB43.size)
  have T43_ := T43.later hE44
  have M44 := hF44 (isP 26 [numIs 1000000]) (hm44.get 0) (by decide) (path1 (by decide))
  have rs20 : Rules w44 _ _ := .snoc _ _ ⟨2, 212, #[.pointer (some ⟨a43, 0, none⟩), .pointer (some ⟨b43, 0, none⟩)], 213, #[.pointer (some ⟨a44, 0, none⟩)]⟩ ⟨2, isP 26 [numIs 1000000], partP [1]⟩ rs19__ ⟨rfl, T43_, M44⟩
  refine Goes.run [] [] trivial ?_
  refine Goes.call 164 #[.int .i64 1, .slice none 0 0] fun u45 hm45 hn45 hI45 => (is_any 1 none 0 0 u45).mono fun e w45 ⟨a45, b45, he, hC45, hF45⟩ => ⟨_, fun w' => Ch [] w45 w' ∧ True, [], he, Holds.nil, by simp [Mem.ids], fun _ hc => ⟨hc, trivial⟩, ?_⟩
  have hD45 := hI45.now.1.toB (fun x hx => by cases hx)
  have hE45 := hD45.trans (hC45.mono hD45.size)
  have rs20_ := rs20.later hE45
  have hB45 := hB44.trans (hE45.mono hB44.size)
  have T45 := hF45 [] (rests0 _) (by decide)
  refine Goes.run [] [] trivial ?_
  refine Goes.call 164 #[.int .i64 23, .slice none 0 0] fun u46 hm46 hn46 hI46 => (is_any 23 none 0 0 u46).mono fun e w46 ⟨a46, b46, he, hC46, hF46⟩ => ⟨_, fun w' => Ch [] w46 w' ∧ True, [], he, Holds.nil, by simp [Mem.ids], fun _ hc => ⟨hc, trivial⟩, ?_⟩
  have hD46 := hI46.now.1.toB (fun x hx => by cases hx)
  have hE46 := hD46.trans (hC46.mono hD46.size)
  have rs20__ := rs20_.later hE46
  have hB46 := hB45.trans (hE46.mono hB45.size)
  have T45_ := T45.later hE46
  have T46 := hF46 [] (rests0 _) (by decide)
  refine Goes.run1 [] [] trivial fun g39 => ?_
  refine Goes.call 164 #[.int .i64 26, .slice (some ⟨g39, 0, none⟩) 2 2] fun u47 hm47 hn47 hI47 => (is_any 26 (some ⟨g39, 0, none⟩) 2 2 u47).mono fun e w47 ⟨a47, b47, he, hC47, hF47⟩ => ⟨_, fun w' => Ch [] w47 w' ∧ True, [], he, Holds.nil, by simp [Mem.ids], fun _ hc => ⟨hc, trivial⟩, ?_⟩
  have hD47 := hI47.now.1.toB (fun x hx => by cases hx)
  have hE47 := hD47.trans (hC47.mono hD47.size)
  have rs20___ := rs20__.later hE47
  have hB47 := hB46.trans (hE47.mono hB46.size)
  have T45__ := T45_.later hE47
  have T46_ := T46.later hE47
  have T47 := hF47 [isP 1 [], isP 23 []] (rests2 (hm47.get 0) (T45_.later hD47) (T46.later hD47)) (by decide)
  refine Goes.run1 [] [] trivial fun g40 => ?_
  refine Goes.call 165 #[.slice (some ⟨g40, 0, none⟩) 1 1] fun u48 hm48 hn48 hI48 => (part_any (b := g40) (cp := 1) (ps := [1]) 1 rfl u48).mono fun e w48 ⟨a48, he, hC48, hF48⟩ => ⟨_, fun w' => Ch [] w48 w' ∧ True, [], he, Holds.nil, by simp [Mem.ids], fun _ hc => ⟨hc, trivial⟩, ?_⟩
  have hD48 := hI48.now.1.toB (fun x hx => by cases hx)
  have hE48 := hD48.trans (hC48.mono hD48.size)
  have rs20____ := rs20___.later hE48
  have hB48 := hB47.trans (hE48.mono hB47.size)
  have T47_ := T47.later hE48
  have M48 := hF48 (isP 26 [isP 1 [], isP 23 []]) (hm48.get 0) (by decide) (path1 (by decide))
  have rs21 : Rules w48 _ _ := .snoc _ _ ⟨2, 212, #[.pointer (some ⟨a47, 0, none⟩), .pointer (some ⟨b47, 0, none⟩)], 213, #[.pointer (some ⟨a48, 0, none⟩)]⟩ ⟨2, isP 26 [isP 1 [], isP 23 []], partP [1]⟩ rs20____ ⟨rfl, T47_, M48⟩
  refine Goes.run [] [] trivial ?_
  refine Goes.call 164 #[.int .i64 29, .slice none 0 0] fun u49 hm49 hn49 hI49 => (is_any 29 none 0 0 u49).mono fun e w49 ⟨a49, b49, he, hC49, hF49⟩ => ⟨_, fun w' => Ch [] w49 w' ∧ True, [], he, Holds.nil, by simp [Mem.ids], fun _ hc => ⟨hc, trivial⟩, ?_⟩
  have hD49 := hI49.now.1.toB (fun x hx => by cases hx)
  have hE49 := hD49.trans (hC49.mono hD49.size)
  have rs21_ := rs21.later hE49
  have hB49 := hB48.trans (hE49.mono hB48.size)
  have T49 := hF49 [] (rests0 _) (by decide)
  refine Goes.run1 [] [] trivial fun g41 => ?_
  refine Goes.call 164 #[.int .i64 29, .slice (some ⟨g41, 0, none⟩) 1 1] fun u50 hm50 hn50 hI50 => (is_any 29 (some ⟨g41, 0, none⟩) 1 1 u50).mono fun e w50 ⟨a50, b50, he, hC50, hF50⟩ => ⟨_, fun w' => Ch [] w50 w' ∧ True, [], he, Holds.nil, by simp [Mem.ids], fun _ hc => ⟨hc, trivial⟩, ?_⟩
  have hD50 := hI50.now.1.toB (fun x hx => by cases hx)
  have hE50 := hD50.trans (hC50.mono hD50.size)
  have rs21__ := rs21_.later hE50
  have hB50 := hB49.trans (hE50.mono hB49.size)
  have T49_ := T49.later hE50
  have T50 := hF50 [isP 29 []] (rests1 (hm50.get 0) (T49.later hD50)) (by decide)
  have rs22 : Rules w50 _ _ := .snoc _ _ ⟨2, 212, #[.pointer (some ⟨a50, 0, none⟩), .pointer (some ⟨b50, 0, none⟩)], 171, #[]⟩ ⟨2, isP 29 [isP 29 []], laterP⟩ rs21__ ⟨rfl, T50, (later_any _)⟩
  refine Goes.run1 [] [] trivial fun g42 => ?_
  refine Goes.call 164 #[.int .i64 22, .slice (some ⟨g42, 0, none⟩) 1 1] fun u51 hm51 hn51 hI51 => (is_any 22 (some ⟨g42, 0, none⟩) 1 1 u51).mono fun e w51 ⟨a51, b51, he, hC51, hF51⟩ => ⟨_, fun w' => Ch [] w51 w' ∧ True, [], he, Holds.nil, by simp [Mem.ids], fun _ hc => ⟨hc, trivial⟩, ?_⟩
  have hD51 := hI51.now.1.toB (fun x hx => by cases hx)
  have hE51 := hD51.trans (hC51.mono hD51.size)
  have rs22_ := rs22.later hE51
  have hB51 := hB50.trans (hE51.mono hB50.size)
  have T51 := hF51 [truIs 1] (rests1 (hm51.get 0) (ptrue_any _)) (by decide)
  refine Goes.run1 [] [] trivial fun g43 => ?_
  refine Goes.call 165 #[.slice (some ⟨g43, 0, none⟩) 1 1] fun u52 hm52 hn52 hI52 => (part_any (b := g43) (cp := 1) (ps := [1]) 1 rfl u52).mono fun e w52 ⟨a52, he, hC52, hF52⟩ => ⟨_, fun w' => Ch [] w52 w' ∧ True, [], he, Holds.nil, by simp [Mem.ids], fun _ hc => ⟨hc, trivial⟩, ?_⟩
  have hD52 := hI52.now.1.toB (fun x hx => by cases hx)
  have hE52 := hD52.trans (hC52.mono hD52.size)
  have rs22__ := rs22_.later hE52
  have hB52 := hB51.trans (hE52.mono hB51.size)
  have T51_ := T51.later hE52
  have M52 := hF52 (isP 22 [truIs 1]) (hm52.get 0) (by decide) (path1 (by decide))
  have rs23 : Rules w52 _ _ := .snoc _ _ ⟨4, 212, #[.pointer (some ⟨a51, 0, none⟩), .pointer (some ⟨b51, 0, none⟩)], 213, #[.pointer (some ⟨a52, 0, none⟩)]⟩ ⟨4, isP 22 [truIs 1], partP [1]⟩ rs22__ ⟨rfl, T51_, M52⟩
  refine Goes.run1 [] [] trivial fun g44 => ?_
  refine Goes.call 164 #[.int .i64 28, .slice (some ⟨g44, 0, none⟩) 1 1] fun u53 hm53 hn53 hI53 => (is_any 28 (some ⟨g44, 0, none⟩) 1 1 u53).mono fun e w53 ⟨a53, b53, he, hC53, hF53⟩ => ⟨_, fun w' => Ch [] w53 w' ∧ True, [], he, Holds.nil, by simp [Mem.ids], fun _ hc => ⟨hc, trivial⟩, ?_⟩
  have hD53 := hI53.now.1.toB (fun x hx => by cases hx)
  have hE53 := hD53.trans (hC53.mono hD53.size)
  have rs23_ := rs23.later hE53
  have hB53 := hB52.trans (hE53.mono hB52.size)
  have T53 := hF53 [truIs 1] (rests1 (hm53.get 0) (ptrue_any _)) (by decide)
  refine Goes.run1 [] [] trivial fun g45 => ?_
  refine Goes.call 165 #[.slice (some ⟨g45, 0, none⟩) 1 1] fun u54 hm54 hn54 hI54 => (part_any (b := g45) (cp := 1) (ps := [1]) 1 rfl u54).mono fun e w54 ⟨a54, he, hC54, hF54⟩ => ⟨_, fun w' => Ch [] w54 w' ∧ True, [], he, Holds.nil, by simp [Mem.ids], fun _ hc => ⟨hc, trivial⟩, ?_⟩
  have hD54 := hI54.now.1.toB (fun x hx => by cases hx)
  have hE54 := hD54.trans (hC54.mono hD54.size)
  have rs23__ := rs23_.later hE54
  have hB54 := hB53.trans (hE54.mono hB53.size)
  have T53_ := T53.later hE54
  have M54 := hF54 (isP 28 [truIs 1]) (hm54.get 0) (by decide) (path1 (by decide))
  have rs24 : Rules w54 _ _ := .snoc _ _ ⟨4, 212, #[.pointer (some ⟨a53, 0, none⟩), .pointer (some ⟨b53, 0, none⟩)], 213, #[.pointer (some ⟨a54, 0, none⟩)]⟩ ⟨4, isP 28 [truIs 1], partP [1]⟩ rs23__ ⟨rfl, T53_, M54⟩
  refine Goes.run1 [] [] trivial fun g46 => ?_
  refine Goes.call 164 #[.int .i64 22, .slice (some ⟨g46, 0, none⟩) 1 1] fun u55 hm55 hn55 hI55 => (is_any 22 (some ⟨g46, 0, none⟩) 1 1 u55).mono fun e w55 ⟨a55, b55, he, hC55, hF55⟩ => ⟨_, fun w' => Ch [] w55 w' ∧ True, [], he, Holds.nil, by simp [Mem.ids], fun _ hc => ⟨hc, trivial⟩, ?_⟩
  have hD55 := hI55.now.1.toB (fun x hx => by cases hx)
  have hE55 := hD55.trans (hC55.mono hD55.size)
  have rs24_ := rs24.later hE55
  have hB55 := hB54.trans (hE55.mono hB54.size)
  have T55 := hF55 [truIs 0] (rests1 (hm55.get 0) (pfalse_any _)) (by decide)
  refine Goes.run1 [] [] trivial fun g47 => ?_
  refine Goes.call 165 #[.slice (some ⟨g47, 0, none⟩) 1 1] fun u56 hm56 hn56 hI56 => (part_any (b := g47) (cp := 1) (ps := [2]) 1 rfl u56).mono fun e w56 ⟨a56, he, hC56, hF56⟩ => ⟨_, fun w' => Ch [] w56 w' ∧ True, [], he, Holds.nil, by simp [Mem.ids], fun _ hc => ⟨hc, trivial⟩, ?_⟩
  have hD56 := hI56.now.1.toB (fun x hx => by cases hx)
  have hE56 := hD56.trans (hC56.mono hD56.size)
  have rs24__ := rs24_.later hE56
  have hB56 := hB55.trans (hE56.mono hB55.size)
  have T55_ := T55.later hE56
  have M56 := hF56 (isP 22 [truIs 0]) (hm56.get 0) (by decide) (path1 (by decide))
  have rs25 : Rules w56 _ _ := .snoc _ _ ⟨4, 212, #[.pointer (some ⟨a55, 0, none⟩), .pointer (some ⟨b55, 0, none⟩)], 213, #[.pointer (some ⟨a56, 0, none⟩)]⟩ ⟨4, isP 22 [truIs 0], partP [2]⟩ rs24__ ⟨rfl, T55_, M56⟩
  refine Goes.run1 [] [] trivial fun g48 => ?_
  refine Goes.call 164 #[.int .i64 28, .slice (some ⟨g48, 0, none⟩) 1 1] fun u57 hm57 hn57 hI57 => (is_any 28 (some ⟨g48, 0, none⟩) 1 1 u57).mono fun e w57 ⟨a57, b57, he, hC57, hF57⟩ => ⟨_, fun w' => Ch [] w57 w' ∧ True, [], he, Holds.nil, by simp [Mem.ids], fun _ hc => ⟨hc, trivial⟩, ?_⟩
  have hD57 := hI57.now.1.toB (fun x hx => by cases hx)
  have hE57 := hD57.trans (hC57.mono hD57.size)
  have rs25_ := rs25.later hE57
  have hB57 := hB56.trans (hE57.mono hB56.size)
  have T57 := hF57 [truIs 0] (rests1 (hm57.get 0) (pfalse_any _)) (by decide)
  refine Goes.run1 [] [] trivial fun g49 => ?_
  refine Goes.call 165 #[.slice (some ⟨g49, 0, none⟩) 1 1] fun u58 hm58 hn58 hI58 => (part_any (b := g49) (cp := 1) (ps := [2]) 1 rfl u58).mono fun e w58 ⟨a58, he, hC58, hF58⟩ => ⟨_, fun w' => Ch [] w58 w' ∧ True, [], he, Holds.nil, by simp [Mem.ids], fun _ hc => ⟨hc, trivial⟩, ?_⟩
  have hD58 := hI58.now.1.toB (fun x hx => by cases hx)
  have hE58 := hD58.trans (hC58.mono hD58.size)
  have rs25__ := rs25_.later hE58
  have hB58 := hB57.trans (hE58.mono hB57.size)
  have T57_ := T57.later hE58
  have M58 := hF58 (isP 28 [truIs 0]) (hm58.get 0) (by decide) (path1 (by decide))
  have rs26 : Rules w58 _ _ := .snoc _ _ ⟨4, 212, #[.pointer (some ⟨a57, 0, none⟩), .pointer (some ⟨b57, 0, none⟩)], 213, #[.pointer (some ⟨a58, 0, none⟩)]⟩ ⟨4, isP 28 [truIs 0], partP [2]⟩ rs25__ ⟨rfl, T57_, M58⟩
  refine Goes.run [] [] trivial ?_
  refine Goes.call 172 #[.int .i64 23] fun u59 hm59 hn59 hI59 => (isNot_any 23 u59).mono fun e w59 ⟨a59, he, hC59, hF59⟩ => ⟨_, fun w' => Ch [] w59 w' ∧ True, [], he, Holds.nil, by simp [Mem.ids], fun _ hc => ⟨hc, trivial⟩, ?_⟩
  have hD59 := hI59.now.1.toB (fun x hx => by cases hx)
  have hE59 := hD59.trans (hC59.mono hD59.size)
  have rs26_ := rs26.later hE59
  have hB59 := hB58.trans (hE59.mono hB58.size)
  have T59 := hF59
  refine Goes.run1 [] [] trivial fun g50 => ?_
  refine Goes.call 164 #[.int .i64 30, .slice (some ⟨g50, 0, none⟩) 2 2] fun u60 hm60 hn60 hI60 => (is_any 30 (some ⟨g50, 0, none⟩) 2 2 u60).mono fun e w60 ⟨a60, b60, he, hC60, hF60⟩ => ⟨_, fun w' => Ch [] w60 w' ∧ True, [], he, Holds.nil, by simp [Mem.ids], fun _ hc => ⟨hc, trivial⟩, ?_⟩
  have hD60 := hI60.now.1.toB (fun x hx => by cases hx)
  have hE60 := hD60.trans (hC60.mono hD60.size)
  have rs26__ := rs26_.later hE60
  have hB60 := hB59.trans (hE60.mono hB59.size)
  have T59_ := T59.later hE60
  have T60 := hF60 [truIs 0, notP 23] (rests2 (hm60.get 0) (pfalse_any _) (T59.later hD60)) (by decide)
  have rs27 : Rules w60 _ _ := .snoc _ _ ⟨4, 212, #[.pointer (some ⟨a60, 0, none⟩), .pointer (some ⟨b60, 0, none⟩)], 173, #[]⟩ ⟨4, isP 30 [truIs 0, notP 23], emptP⟩ rs26__ ⟨rfl, T60, (empt_any _)⟩
  refine Goes.run1 [] [] trivial fun gb => ?_
  refine Goes.ret [] (.slice (some ⟨gb, 0, none⟩) 27 27) fun w' hm hI => ⟨gb, [⟨1, 162, #[], 163, #[]⟩,
    ⟨2, 212, #[.pointer (some ⟨a2, 0, none⟩), .pointer (some ⟨b2, 0, none⟩)], 213, #[.pointer (some ⟨a3, 0, none⟩)]⟩,
    ⟨2, 212, #[.pointer (some ⟨a5, 0, none⟩), .pointer (some ⟨b5, 0, none⟩)], 213, #[.pointer (some ⟨a6, 0, none⟩)]⟩,
    ⟨2, 212, #[.pointer (some ⟨a7, 0, none⟩), .pointer (some ⟨b7, 0, none⟩)], 213, #[.pointer (some ⟨a8, 0, none⟩)]⟩,
    ⟨2, 212, #[.pointer (some ⟨a9, 0, none⟩), .pointer (some ⟨b9, 0, none⟩)], 213, #[.pointer (some ⟨a10, 0, none⟩)]⟩,
    ⟨2, 212, #[.pointer (some ⟨a11, 0, none⟩), .pointer (some ⟨b11, 0, none⟩)], 213, #[.pointer (some ⟨a12, 0, none⟩)]⟩,
    ⟨2, 212, #[.pointer (some ⟨a13, 0, none⟩), .pointer (some ⟨b13, 0, none⟩)], 213, #[.pointer (some ⟨a14, 0, none⟩)]⟩,
    ⟨2, 212, #[.pointer (some ⟨a15, 0, none⟩), .pointer (some ⟨b15, 0, none⟩)], 213, #[.pointer (some ⟨a16, 0, none⟩)]⟩,
    ⟨2, 212, #[.pointer (some ⟨a17, 0, none⟩), .pointer (some ⟨b17, 0, none⟩)], 213, #[.pointer (some ⟨a18, 0, none⟩)]⟩,
    ⟨2, 212, #[.pointer (some ⟨a19, 0, none⟩), .pointer (some ⟨b19, 0, none⟩)], 213, #[.pointer (some ⟨a20, 0, none⟩)]⟩,
    ⟨2, 212, #[.pointer (some ⟨a21, 0, none⟩), .pointer (some ⟨b21, 0, none⟩)], 213, #[.pointer (some ⟨a22, 0, none⟩)]⟩,
    ⟨2, 212, #[.pointer (some ⟨a23, 0, none⟩), .pointer (some ⟨b23, 0, none⟩)], 213, #[.pointer (some ⟨a24, 0, none⟩)]⟩,
    ⟨2, 212, #[.pointer (some ⟨a25, 0, none⟩), .pointer (some ⟨b25, 0, none⟩)], 213, #[.pointer (some ⟨a26, 0, none⟩)]⟩,
    ⟨2, 212, #[.pointer (some ⟨a27, 0, none⟩), .pointer (some ⟨b27, 0, none⟩)], 213, #[.pointer (some ⟨a28, 0, none⟩)]⟩,
    ⟨2, 212, #[.pointer (some ⟨a29, 0, none⟩), .pointer (some ⟨b29, 0, none⟩)], 213, #[.pointer (some ⟨a30, 0, none⟩)]⟩,
    ⟨2, 212, #[.pointer (some ⟨a32, 0, none⟩), .pointer (some ⟨b32, 0, none⟩)], 213, #[.pointer (some ⟨a33, 0, none⟩)]⟩,
    ⟨2, 212, #[.pointer (some ⟨a35, 0, none⟩), .pointer (some ⟨b35, 0, none⟩)], 213, #[.pointer (some ⟨a36, 0, none⟩)]⟩,
    ⟨2, 212, #[.pointer (some ⟨a38, 0, none⟩), .pointer (some ⟨b38, 0, none⟩)], 213, #[.pointer (some ⟨a39, 0, none⟩)]⟩,
    ⟨2, 212, #[.pointer (some ⟨a41, 0, none⟩), .pointer (some ⟨b41, 0, none⟩)], 213, #[.pointer (some ⟨a42, 0, none⟩)]⟩,
    ⟨2, 212, #[.pointer (some ⟨a43, 0, none⟩), .pointer (some ⟨b43, 0, none⟩)], 213, #[.pointer (some ⟨a44, 0, none⟩)]⟩,
    ⟨2, 212, #[.pointer (some ⟨a47, 0, none⟩), .pointer (some ⟨b47, 0, none⟩)], 213, #[.pointer (some ⟨a48, 0, none⟩)]⟩,
    ⟨2, 212, #[.pointer (some ⟨a50, 0, none⟩), .pointer (some ⟨b50, 0, none⟩)], 171, #[]⟩,
    ⟨4, 212, #[.pointer (some ⟨a51, 0, none⟩), .pointer (some ⟨b51, 0, none⟩)], 213, #[.pointer (some ⟨a52, 0, none⟩)]⟩,
    ⟨4, 212, #[.pointer (some ⟨a53, 0, none⟩), .pointer (some ⟨b53, 0, none⟩)], 213, #[.pointer (some ⟨a54, 0, none⟩)]⟩,
    ⟨4, 212, #[.pointer (some ⟨a55, 0, none⟩), .pointer (some ⟨b55, 0, none⟩)], 213, #[.pointer (some ⟨a56, 0, none⟩)]⟩,
    ⟨4, 212, #[.pointer (some ⟨a57, 0, none⟩), .pointer (some ⟨b57, 0, none⟩)], 213, #[.pointer (some ⟨a58, 0, none⟩)]⟩,
    ⟨4, 212, #[.pointer (some ⟨a60, 0, none⟩), .pointer (some ⟨b60, 0, none⟩)], 173, #[]⟩], rfl, hm.get 0, _, respell rs27 (by kernel_rfl) (by kernel_rfl), hB60, ?_, hI.now.1.toB (fun x hx => by cases hx)⟩
  exact fresh_of hI (g := gb) (ids_get (j := 0) (o := .cells (flatR [⟨1, 162, #[], 163, #[]⟩,
    ⟨2, 212, #[.pointer (some ⟨a2, 0, none⟩), .pointer (some ⟨b2, 0, none⟩)], 213, #[.pointer (some ⟨a3, 0, none⟩)]⟩,
    ⟨2, 212, #[.pointer (some ⟨a5, 0, none⟩), .pointer (some ⟨b5, 0, none⟩)], 213, #[.pointer (some ⟨a6, 0, none⟩)]⟩,
    ⟨2, 212, #[.pointer (some ⟨a7, 0, none⟩), .pointer (some ⟨b7, 0, none⟩)], 213, #[.pointer (some ⟨a8, 0, none⟩)]⟩,
    ⟨2, 212, #[.pointer (some ⟨a9, 0, none⟩), .pointer (some ⟨b9, 0, none⟩)], 213, #[.pointer (some ⟨a10, 0, none⟩)]⟩,
    ⟨2, 212, #[.pointer (some ⟨a11, 0, none⟩), .pointer (some ⟨b11, 0, none⟩)], 213, #[.pointer (some ⟨a12, 0, none⟩)]⟩,
    ⟨2, 212, #[.pointer (some ⟨a13, 0, none⟩), .pointer (some ⟨b13, 0, none⟩)], 213, #[.pointer (some ⟨a14, 0, none⟩)]⟩,
    ⟨2, 212, #[.pointer (some ⟨a15, 0, none⟩), .pointer (some ⟨b15, 0, none⟩)], 213, #[.pointer (some ⟨a16, 0, none⟩)]⟩,
    ⟨2, 212, #[.pointer (some ⟨a17, 0, none⟩), .pointer (some ⟨b17, 0, none⟩)], 213, #[.pointer (some ⟨a18, 0, none⟩)]⟩,
    ⟨2, 212, #[.pointer (some ⟨a19, 0, none⟩), .pointer (some ⟨b19, 0, none⟩)], 213, #[.pointer (some ⟨a20, 0, none⟩)]⟩,
    ⟨2, 212, #[.pointer (some ⟨a21, 0, none⟩), .pointer (some ⟨b21, 0, none⟩)], 213, #[.pointer (some ⟨a22, 0, none⟩)]⟩,
    ⟨2, 212, #[.pointer (some ⟨a23, 0, none⟩), .pointer (some ⟨b23, 0, none⟩)], 213, #[.pointer (some ⟨a24, 0, none⟩)]⟩,
    ⟨2, 212, #[.pointer (some ⟨a25, 0, none⟩), .pointer (some ⟨b25, 0, none⟩)], 213, #[.pointer (some ⟨a26, 0, none⟩)]⟩,
    ⟨2, 212, #[.pointer (some ⟨a27, 0, none⟩), .pointer (some ⟨b27, 0, none⟩)], 213, #[.pointer (some ⟨a28, 0, none⟩)]⟩,
    ⟨2, 212, #[.pointer (some ⟨a29, 0, none⟩), .pointer (some ⟨b29, 0, none⟩)], 213, #[.pointer (some ⟨a30, 0, none⟩)]⟩,
    ⟨2, 212, #[.pointer (some ⟨a32, 0, none⟩), .pointer (some ⟨b32, 0, none⟩)], 213, #[.pointer (some ⟨a33, 0, none⟩)]⟩,
    ⟨2, 212, #[.pointer (some ⟨a35, 0, none⟩), .pointer (some ⟨b35, 0, none⟩)], 213, #[.pointer (some ⟨a36, 0, none⟩)]⟩,
    ⟨2, 212, #[.pointer (some ⟨a38, 0, none⟩), .pointer (some ⟨b38, 0, none⟩)], 213, #[.pointer (some ⟨a39, 0, none⟩)]⟩,
    ⟨2, 212, #[.pointer (some ⟨a41, 0, none⟩), .pointer (some ⟨b41, 0, none⟩)], 213, #[.pointer (some ⟨a42, 0, none⟩)]⟩,
    ⟨2, 212, #[.pointer (some ⟨a43, 0, none⟩), .pointer (some ⟨b43, 0, none⟩)], 213, #[.pointer (some ⟨a44, 0, none⟩)]⟩,
    ⟨2, 212, #[.pointer (some ⟨a47, 0, none⟩), .pointer (some ⟨b47, 0, none⟩)], 213, #[.pointer (some ⟨a48, 0, none⟩)]⟩,
    ⟨2, 212, #[.pointer (some ⟨a50, 0, none⟩), .pointer (some ⟨b50, 0, none⟩)], 171, #[]⟩,
    ⟨4, 212, #[.pointer (some ⟨a51, 0, none⟩), .pointer (some ⟨b51, 0, none⟩)], 213, #[.pointer (some ⟨a52, 0, none⟩)]⟩,
    ⟨4, 212, #[.pointer (some ⟨a53, 0, none⟩), .pointer (some ⟨b53, 0, none⟩)], 213, #[.pointer (some ⟨a54, 0, none⟩)]⟩,
    ⟨4, 212, #[.pointer (some ⟨a55, 0, none⟩), .pointer (some ⟨b55, 0, none⟩)], 213, #[.pointer (some ⟨a56, 0, none⟩)]⟩,
    ⟨4, 212, #[.pointer (some ⟨a57, 0, none⟩), .pointer (some ⟨b57, 0, none⟩)], 213, #[.pointer (some ⟨a58, 0, none⟩)]⟩,
    ⟨4, 212, #[.pointer (some ⟨a60, 0, none⟩), .pointer (some ⟨b60, 0, none⟩)], 173, #[]⟩]).toArray 170 (0, 0)) (by kernel_rfl)) (by simp)
end Go.Proofs.YtddbiiejilcbbaaGreatDoor
namespace Go.Proofs.YtddbiiejilcbbaaGreatDoor
open Go Go.RowKit

/-- Is a rule's pass none of those? -/
def delP (p n : Int) : Bool := IntKind.i64.wrap ((BitVec.ofInt 64 p &&& BitVec.ofInt 64 n).toNat : Nat) == 0
set_option maxRecDepth 100000 in
seal rn rnN rnS Goes ans atEnd put0 putM opened openedY putA0 putA oneSt st0 keep in
theorem del_any {g : Nat} {n : Int} (x : RV) {w : World} (hM : Holds [(g, .cells #[.int .i64 n] 3 (0, 0))] w) : Calls Tryz.prog 127 #[.agg #[.int .i64 x.p, .func (.func x.f) #[] x.fc, .func (.func x.g) #[] x.gc], .pointer (some ⟨g, 0, none⟩)] w fun e w' => e = .returned (.bool (delP x.p n)) ∧ Below w.heap.size w w' := by
  refine Goes.begin Tryz.func127 [(g, .cells #[.int .i64 n] 3 (0, 0))] (fun _ => True) hM (by simp [Mem.ids]) (fun _ _ => trivial) ?_
  refine Goes.run1 [1, 0] [] trivial fun gb => ?_
  exact Goes.ret [] (.bool (delP x.p n)) fun w' hm hI => ⟨rfl, below_end hM hI.now.1 hm (by kernel_rfl)⟩
theorem row_len (x : RV) : x.row.length = 3 := rfl
theorem flat_len : ∀ xs : List RV, (flatR xs).length = xs.length * 3
  | [] => rfl
  | x :: r => by
    have := flat_len r
    unfold flatR at this ⊢
    simp only [List.flatMap_cons, List.length_append, row_len, this, List.length_cons]
    omega
theorem flat_app (xs ys : List RV) : flatR (xs ++ ys) = flatR xs ++ flatR ys := by unfold flatR; simp
theorem flat_cons (x : RV) (ys : List RV) : flatR (x :: ys) = x.row ++ flatR ys := by unfold flatR; simp
theorem flat_one (x : RV) : flatR [x] = x.row := by unfold flatR; simp
theorem sizeR : (Tryz.prog.info? 170).map (·.size) = some 3 := by kernel_rfl
theorem idxR (b n cap k : Nat) (h : k < n) (w : World) : (Instr.indexAt 134 (.slice (some ⟨b, 0, none⟩) n cap) (.int .i64 k)).run Tryz.prog w = .ok (.pointer (some ⟨b, k * 3, none⟩)) w := by go_simp
/-- A rule is loaded from where it lies. -/
theorem loadR {w : World} {b o : Nat} {A B : List Value} {x : RV} {t : TypeId} (hb : w.heap[b]? = some (.cells (A ++ x.row ++ B).toArray t (0, 0))) (ho : A.length = o) : (Instr.loadAt 170 (.pointer (some ⟨b, o, none⟩))).run Tryz.prog w = .ok (.agg #[.int .i64 x.p, .func (.func x.f) #[] x.fc, .func (.func x.g) #[] x.gc]) w := by
  subst ho
  have hc : ∀ (j : Nat) (v : Value), x.row[j]? = some v → w.cell? ⟨b, A.length + j, none⟩ = some v := fun j v hv => by
    have hj : j < x.row.length := (List.getElem?_eq_some_iff.1 hv).1
    unfold World.cell?
    rw [hb]
    simp only [List.getElem?_toArray]
    rw [List.append_assoc, List.getElem?_append_right (by omega), Nat.add_sub_cancel_left, List.getElem?_append_left hj, hv]
    rfl
  have := run_loadCells_list (P := Tryz.prog) w ⟨b, A.length, none⟩ x.row (fun j v hv => by rw [add_lit]; exact hc j v hv)
  simp only [Instr.loadAt, Instr.sureAddr, Sem.run_bind, Sem.run_pure, Result.andThen, loadVar, Tryz.isAgg170, run_size sizeR, show 3 = x.row.length from rfl, this, if_true]
  rfl
/-- A row's cells change. -/
theorem ch_row (w : World) (b : Nat) (cs : Array Value) : Ch [b] w (w.setRow b cs) := ⟨rfl, rfl, rfl, by simp, fun i _ hx => setRow_other w b i cs (by simpa using hx)⟩
theorem cells_there {w : World} {b : Nat} {A O B C : List Value} {t : TypeId} (hb : w.heap[b]? = some (.cells (A ++ O ++ B).toArray t (0, 0))) (hO : O.length = C.length) (h1 : ∀ v ∈ C, v.oneCell' = true) : ∃ w', (storeCells ⟨b, A.length, none⟩ C 0).run Tryz.prog w = .ok () w' ∧ w'.heap[b]? = some (.cells (A ++ C ++ B).toArray t (0, 0)) ∧ Ch [b] w w' := by
  have h := run_storeCells_at (P := Tryz.prog) b A.length t C 0 _ w hb (by simp; omega) h1
  refine ⟨_, h, ?_, ch_row _ _ _⟩
  rw [setRow_heap w b _ _ t _ hb]
  congr 2
  simp only [Nat.add_zero, List.append_assoc]
  rw [List.take_left, show A.length + C.length = A.length + O.length by omega, List.drop_append]
  simp
theorem row_one (x : RV) : ∀ v ∈ x.row, v.oneCell' = true := by
  intro v hv
  unfold RV.row at hv
  simp only [List.mem_cons, List.not_mem_nil, or_false] at hv
  rcases hv with rfl | rfl | rfl <;> rfl
theorem storeR {w : World} {b o : Nat} {A O B : List Value} {x : RV} {t : TypeId} (hb : w.heap[b]? = some (.cells (A ++ O ++ B).toArray t (0, 0))) (ho : A.length = o) (hO : O.length = 3) : ∃ w', (Instr.storeAt 170 (.pointer (some ⟨b, o, none⟩)) (.agg #[.int .i64 x.p, .func (.func x.f) #[] x.fc, .func (.func x.g) #[] x.gc])).run Tryz.prog w = .ok () w' ∧ w'.heap[b]? = some (.cells (A ++ x.row ++ B).toArray t (0, 0)) ∧ Ch [b] w w' := by
  subst ho
  obtain ⟨w', h1, h2, h3⟩ := cells_there hb (C := x.row) (by rw [hO]; rfl) (row_one x)
  refine ⟨w', ?_, h2, h3⟩
  simp only [Instr.storeAt, Instr.sureAddr, Sem.run_bind, Sem.run_pure, Result.andThen_ok, storeVar, run_size sizeR]
  exact h1
set_option maxRecDepth 100000 in
seal rn rnN rnS Goes ans atEnd put0 putM opened openedY putA0 putA oneSt st0 keep in
/-- The first rule that is none of those. -/
theorem idxr_any {g b : Nat} {n : Int} {xs : List RV} (N : Nat) (hN : xs.length = N) (hN9 : N ≤ 100) {w : World} (hM : Holds [(b, .cells (flatR xs).toArray 170 (0, 0)), (g, .cells #[.int .i64 n] 3 (0, 0))] w) (hne : b ≠ g) :
    Calls Tryz.prog 161 #[.slice (some ⟨b, 0, none⟩) N N, .func (.func 127) #[] #[.pointer (some ⟨g, 0, none⟩)]] w fun e w' => ((e = .returned (.int .i64 (-1)) ∧ ∀ x ∈ xs, delP x.p n = false) ∨ ∃ j x, e = .returned (.int .i64 (j : Nat)) ∧ xs[j]? = some x ∧ delP x.p n = true ∧ ∀ y ∈ xs.take j, delP y.p n = false) ∧ Below w.heap.size w w' := by
  refine Goes.begin Tryz.func161 [(b, .cells (flatR xs).toArray 170 (0, 0)), (g, .cells #[.int .i64 n] 3 (0, 0))] (fun _ => True) hM (by simp [Mem.ids, hne]) (fun _ _ => trivial) ?_
  refine Goes.run [] [] trivial ?_
  refine Goes.loop0 (α := Nat) 19 (fun j => [(0, .slice (some ⟨b, 0, none⟩) N N), (1, .func (.func 127) #[] #[.pointer (some ⟨g, 0, none⟩)]), (7, .int .i64 N), (8, .int .i64 j)]) [(b, .cells (flatR xs).toArray 170 (0, 0)), (g, .cells #[.int .i64 n] 3 (0, 0))] (fun j => (∀ y ∈ xs.take j, delP y.p n = false) ∧ j ≤ N) (fun j => N - j) 0 ⟨by simp, Nat.zero_le _⟩ ?_
  rintro j J ⟨hj, hj2⟩ back
  cases hlt : decide ((j : Int) < (N : Int)) with
  | false =>
    refine Goes.run [0, 0] [(decide ((j : Int) < (N : Int)), false)] ⟨hlt, trivial⟩ ?_
    refine Goes.ret [] (.int .i64 (-1)) fun w' hm hI => ⟨.inl ⟨rfl, fun x hx => hj x ?_⟩, below_end hM hI.now.1 hm (by kernel_rfl)⟩
    rw [List.take_of_length_le (by have := of_decide_eq_false hlt; omega)]
    exact hx
  | true =>
    have hjl : j < N := by have := of_decide_eq_true hlt; omega
    obtain ⟨x, hx⟩ : ∃ x, xs[j]? = some x := ⟨xs[j]'(by omega), by simp⟩
    have hd := drop_any hx
    have hsplit : flatR xs = flatR (xs.take j) ++ x.row ++ flatR (xs.drop (j + 1)) := by
      rw [← flat_one, ← flat_app, ← flat_app, List.append_assoc, List.singleton_append, ← hd, List.take_append_drop]
    have htl : (flatR (xs.take j)).length = j * 3 := by rw [flat_len, List.length_take, Nat.min_eq_left (by omega)]
    refine Goes.run [0, 1] [(decide ((j : Int) < (N : Int)), true)] ⟨hlt, trivial⟩ ?_
    refine Goes.val (Instr.indexAt 134 (.slice (some ⟨b, 0, none⟩) N N) (.int .i64 j)) (.pointer (some ⟨b, j * 3, none⟩)) (fun w' _ _ => idxR b N N j hjl w') ?_
    refine Goes.val (Instr.loadAt 170 (.pointer (some ⟨b, j * 3, none⟩))) (.agg #[.int .i64 x.p, .func (.func x.f) #[] x.fc, .func (.func x.g) #[] x.gc]) (fun w' hm _ => by have h0 : w'.heap[b]? = some (.cells (flatR xs).toArray 170 (0, 0)) := hm.get 0; rw [hsplit] at h0; exact loadR h0 htl) ?_
    refine Goes.call0 127 #[.agg #[.int .i64 x.p, .func (.func x.f) #[] x.fc, .func (.func x.g) #[] x.gc], .pointer (some ⟨g, 0, none⟩)] (.bool (delP x.p n)) (fun w' hm _ => del_any x (fun j b o hj => by match j, hj with | 0, hj => cases hj; exact hm.get 1)) ?_
    cases hdx : delP x.p n with
    | true =>
      refine Goes.run [1] [(true, true)] ⟨rfl, trivial⟩ ?_
      exact Goes.ret [] (.int .i64 j) fun w' hm hI => ⟨.inr ⟨j, x, rfl, hx, hdx, hj⟩, below_end hM hI.now.1 hm (by kernel_rfl)⟩
    | false =>
      refine Goes.run [0] [(false, false)] ⟨rfl, trivial⟩ ?_
      refine Goes.slot 8 (.int .i64 (j + 1 : Nat)) (u := .int .i64 (IntKind.i64.wrap ((j : Int) + 1))) (congrArg _ (wrap_nat (by omega))) ?_
      exact back (j + 1) _ ⟨by
        intro y hy
        rw [List.take_add_one, hx] at hy
        rcases List.mem_append.1 hy with hy | hy
        · exact hj y hy
        · simp at hy; rw [hy]; exact hdx, by omega⟩ (by omega) (by kernel_rfl) (by kernel_rfl) (by kernel_rfl)
end Go.Proofs.YtddbiiejilcbbaaGreatDoor
namespace Go.Proofs.YtddbiiejilcbbaaGreatDoor
open Go Go.RowKit

theorem infoR : (Tryz.prog.info? 170).map (fun i => i.zero) = some (some (.agg #[.int .i64 0, .nilFunc, .nilFunc])) := by kernel_rfl
theorem zeroR (w : World) : (zeroValue 170).run Tryz.prog w = .ok (.agg #[.int .i64 0, .nilFunc, .nilFunc]) w := by
  have h := infoR
  cases hi : Tryz.prog.info? 170 with
  | none => rw [hi] at h; cases h
  | some i =>
    rw [hi] at h
    simp only [Option.map_some, Option.some.injEq] at h
    simp [zeroValue, typeInfo, hi, h]
def zerosR (n : Nat) : List Value := (Builtin.zeroCells #[.int .i64 0, .nilFunc, .nilFunc] n).toList
theorem zeros_len (n : Nat) : (zerosR n).length = n * 3 := by
  unfold zerosR
  rw [Array.length_toList, size_zeroCells]
  rfl
theorem zeros_one (n : Nat) : ∀ v ∈ zerosR n, v.oneCell' = true := by
  intro v hv
  unfold zerosR Builtin.zeroCells at hv
  simp only [Array.toList_map, List.mem_map] at hv
  obtain ⟨i, -, rfl⟩ := hv
  have h3 : i % (#[Value.int .i64 0, .nilFunc, .nilFunc] : Array Value).size = 0 ∨ i % (#[Value.int .i64 0, .nilFunc, .nilFunc] : Array Value).size = 1 ∨ i % (#[Value.int .i64 0, .nilFunc, .nilFunc] : Array Value).size = 2 := by
    show i % 3 = 0 ∨ i % 3 = 1 ∨ i % 3 = 2
    omega
  rcases h3 with h | h | h <;> rw [h] <;> rfl
/-- What stands behind is cleared. -/
theorem clearR {w : World} {b o m c : Nat} {A O : List Value} {t : TypeId} (hb : w.heap[b]? = some (.cells (A ++ O).toArray t (0, 0))) (ho : A.length = o) (hO : O.length = (m + 1) * 3) (ty : TypeId) : ∃ w', (Builtin.clear_ #[134] ty #[.slice (some ⟨b, o, none⟩) (m + 1) c]).run Tryz.prog w = .ok (.tuple #[]) w' ∧ (∃ R, w'.heap[b]? = some (.cells (A ++ R).toArray t (0, 0))) ∧ Ch [b] w w' := by
  subst ho
  obtain ⟨w', h1, h2, h3⟩ := cells_there (A := A) (O := O) (B := []) (C := zerosR (m + 1)) (by rw [List.append_nil]; exact hb) (by rw [hO, zeros_len]) (zeros_one (m + 1))
  refine ⟨w', ?_, ⟨zerosR (m + 1), by rw [List.append_nil] at h2; exact h2⟩, h3⟩
  have hu : Tryz.prog.underlying 134 = some (.slice 170) := Tryz.underlying134
  unfold Builtin.clear_
  simp only [List.getElem?_toArray, List.getElem?_cons_zero, Sem.run_bind, underlying, hu, Result.andThen_ok, Sem.run_pure, zeroR, run_program]
  simp [Value.cells]
  unfold zerosR at h1
  rw [h1]
  rfl
theorem cutR (b n cap k : Nat) (h : k ≤ n) (hn : n ≤ cap) (w : World) : (Instr.sliceAt 134 (.slice (some ⟨b, 0, none⟩) n cap) none (some (.int .i64 k)) none).run Tryz.prog w = .ok (.slice (some ⟨b, 0, none⟩) k cap) w := by
  have h1 : (k : Int) ≤ (cap : Int) := by omega
  go_simp
theorem restR (g m n : Nat) (hn : n < m) (w : World) : (Instr.sliceAt 134 (.slice (some ⟨g, 0, none⟩) m m) (some (.int .i64 n)) none none).run Tryz.prog w = .ok (.slice (some ⟨g, n * 3, none⟩) (m - n) (m - n)) w := by
  have h1 : (n : Int) ≤ (m : Int) := by omega
  have h2 : ¬ m = n := by omega
  go_simp
/-- How far the striking has come: kept, not yet looked at, what lies between. -/
structure DS where
  i : Nat
  j : Nat
  K : List RV
  J : List Value
abbrev DS.cells (xs : List RV) (a : DS) : List Value := flatR a.K ++ a.J ++ flatR (xs.drop a.j)
/-- What is to be done at the loop's head. -/
noncomputable def strikeK : List TI := (rn Tryz.prog [0] [] (put (rn Tryz.prog [] [] (st0 Tryz.f125 #[.slice none 0 0, .nilFunc] [])).st (.int .i64 0) [])).st.todo
set_option maxRecDepth 100000 in
seal rn rnN rnS Goes ans atEnd put0 putM opened openedY putA0 putA oneSt st0 keep put strikeK in
theorem strike_any {g b : Nat} {n : Int} {xs : List RV} (N : Nat) (hN : xs.length = N) (hN9 : N ≤ 100) {w : World} (hM : Holds [(b, .cells (flatR xs).toArray 170 (0, 0)), (g, .cells #[.int .i64 n] 3 (0, 0))] w) (hne : b ≠ g) :
    Calls Tryz.prog 125 #[.slice (some ⟨b, 0, none⟩) N N, .func (.func 127) #[] #[.pointer (some ⟨g, 0, none⟩)]] w fun e w' => ∃ k R, e = .returned (.slice (some ⟨b, 0, none⟩) k N) ∧ k = (xs.filter fun x => !delP x.p n).length ∧ k ≤ N ∧ w'.heap[b]? = some (.cells (flatR (xs.filter fun x => !delP x.p n) ++ R).toArray 170 (0, 0)) ∧ w'.heap[g]? = some (.cells #[.int .i64 n] 3 (0, 0)) ∧ Ch [b, g] w w' := by
  have hnd : (Mem.ids [(b, .cells (flatR xs).toArray 170 (0, 0)), (g, .cells #[.int .i64 n] 3 (0, 0))]).Nodup := by simp [Mem.ids, hne]
  refine Goes.begin Tryz.func125 [(b, .cells (flatR xs).toArray 170 (0, 0)), (g, .cells #[.int .i64 n] 3 (0, 0))] (fun _ => True) hM hnd (fun _ _ => trivial) ?_
  refine Goes.run [] [] trivial ?_
  refine Goes.call 161 #[.slice (some ⟨b, 0, none⟩) N N, .func (.func 127) #[] #[.pointer (some ⟨g, 0, none⟩)]] fun w1 hm hn hI => (idxr_any (n := n) (xs := xs) N hN hN9 (w := w1) (fun j b o hj => by match j, hj with | 0, hj => cases hj; exact hm.get 0 | 1, hj => cases hj; exact hm.get 1) hne).mono fun e w2 ⟨hc, hB⟩ => ?_
  rcases hc with ⟨he, hall⟩ | ⟨i0, x0, he, hx0, hd0, hbef⟩
  · refine ⟨.int .i64 (-1), _, _, he, hm.bel hB, hn, hI.bel hB, ?_⟩
    have hf : xs.filter (fun x => !delP x.p n) = xs := List.filter_eq_self.2 fun x hx => by rw [hall x hx]; rfl
    refine Goes.run [1] [(true, true)] ⟨rfl, trivial⟩ ?_
    exact Goes.ret [] (.slice (some ⟨b, 0, none⟩) N N) fun w' hm hI => ⟨N, [], rfl, by rw [hf, hN], Nat.le_refl _, by rw [hf, List.append_nil]; exact hm.get 0, hm.get 1, hI.now.1⟩
  · refine ⟨.int .i64 i0, _, _, he, hm.bel hB, hn, hI.bel hB, ?_⟩
    have hi0 : i0 < N := by rw [← hN]; exact (List.getElem?_eq_some_iff.1 hx0).1
    have hne1 : ((i0 : Int) == -1) = false := by rw [beq_eq_false_iff_ne]; omega
    have hw1 : IntKind.i64.wrap ((i0 : Int) + 1) = ((i0 + 1 : Nat) : Int) := wrap_nat (by omega)
    have hd := drop_any hx0
    have hsplit : flatR xs = flatR (xs.take i0) ++ x0.row ++ flatR (xs.drop (i0 + 1)) := by
      rw [← flat_one, ← flat_app, ← flat_app, List.append_assoc, List.singleton_append, ← hd, List.take_append_drop]
    have hft : (xs.take i0).filter (fun x => !delP x.p n) = xs.take i0 := List.filter_eq_self.2 fun x hx => by rw [hbef x hx]; rfl
    refine Goes.run [0] [((i0 : Int) == -1, false)] ⟨hne1, trivial⟩ ?_
    refine Goes.slot 6 (.int .i64 (i0 + 1 : Nat)) (u := .int .i64 (IntKind.i64.wrap ((i0 : Int) + 1))) (congrArg _ hw1) ?_
    refine Goes.inv (Inv' := fun w' => Ch [b, g] w w') (fun w' h => h.1) ?_
    refine Goes.objs [(b, .cells (DS.cells xs ⟨i0, i0 + 1, xs.take i0, x0.row⟩).toArray 170 (0, 0)), (g, .cells #[.int .i64 n] 3 (0, 0))] (fun w' hm j b o hj => ?_) ?_
    · match j, hj with
      | 0, hj => cases hj; show w'.heap[_]? = some (Obj.cells (flatR (xs.take i0) ++ x0.row ++ flatR (xs.drop (i0 + 1))).toArray _ _); rw [← hsplit]; exact hm.get 0
      | 1, hj => cases hj; exact hm.get 1
    refine Goes.loop (α := DS) 42 (fun a => [(0, .slice (some ⟨b, 0, none⟩) N N), (1, .func (.func 127) #[] #[.pointer (some ⟨g, 0, none⟩)]), (5, .int .i64 a.i), (6, .int .i64 a.j)])
      (fun a => [(b, .cells (DS.cells xs a).toArray 170 (0, 0)), (g, .cells #[.int .i64 n] 3 (0, 0))]) (fun _ w' => Ch [b, g] w w')
      (fun a => a.K = (xs.take a.j).filter (fun x => !delP x.p n) ∧ a.K.length = a.i ∧ a.J.length = (a.j - a.i) * 3 ∧ a.i < a.j ∧ a.j ≤ N) (fun a => N - a.j) ⟨i0, i0 + 1, xs.take i0, x0.row⟩
      ⟨by show xs.take i0 = (xs.take (i0 + 1)).filter _; rw [List.take_add_one, hx0, List.filter_append, hft]; simp [hd0], by show (xs.take i0).length = i0; rw [List.length_take]; omega, by show x0.row.length = (i0 + 1 - i0) * 3; rw [row_len]; omega, by show i0 < i0 + 1; omega, by show i0 + 1 ≤ N; omega⟩ (fun w' h => h) ?_
    rintro ⟨i, j, K, L⟩ J ⟨hK, hKl, hJl, hij, hjN⟩ back
    replace hK : K = (xs.take j).filter (fun x => !delP x.p n) := hK
    replace hKl : K.length = i := hKl
    replace hJl : L.length = (j - i) * 3 := hJl
    replace hij : i < j := hij
    replace hjN : j ≤ N := hjN
    show Goes _ _ (fun w' => Ch [b, g] w w') ⟨_, fr 42 [(0, .slice (some ⟨b, 0, none⟩) N N), (1, .func (.func 127) #[] #[.pointer (some ⟨g, 0, none⟩)]), (5, .int .i64 i), (6, .int .i64 j)] J, [(b, .cells (DS.cells xs ⟨i, j, K, L⟩).toArray 170 (0, 0)), (g, .cells #[.int .i64 n] 3 (0, 0))]⟩
    have hfK : (flatR K).length = i * 3 := by rw [flat_len, hKl]
    cases hlt : decide ((j : Int) < (N : Int)) with
    | false =>
      have hjN' : j = N := by have := of_decide_eq_false hlt; omega
      obtain ⟨m, hm'⟩ : ∃ m, N - i = m + 1 := ⟨N - i - 1, by omega⟩
      refine Goes.run [0, 0] [(decide ((j : Int) < (N : Int)), false)] ⟨hlt, trivial⟩ ?_
      refine Goes.val (Instr.sliceAt 134 (.slice (some ⟨b, 0, none⟩) N N) (some (.int .i64 i)) none none) (.slice (some ⟨b, i * 3, none⟩) (m + 1) (m + 1)) (fun w' _ _ => by rw [← hm']; exact restR b N i (by omega) w') ?_
      refine Goes.eff (Builtin.clear_ #[134] 0 #[.slice (some ⟨b, i * 3, none⟩) (m + 1) (m + 1)]) fun w3 hm3 hn3 hI3 => ?_
      have hb3 : w3.heap[b]? = some (.cells (flatR K ++ L).toArray 170 (0, 0)) := by
        have h0 : w3.heap[b]? = some (.cells (flatR K ++ L ++ flatR (xs.drop j)).toArray 170 (0, 0)) := hm3.get 0
        rw [List.drop_of_length_le (by omega)] at h0
        simpa [flatR] using h0
      obtain ⟨w4, hr, ⟨R, hR⟩, hc4⟩ := clearR (m := m) (c := m + 1) hb3 hfK (by rw [hJl, hjN', hm']) 0
      have hg3 : w3.heap[g]? = some (.cells #[.int .i64 n] 3 (0, 0)) := hm3.get 1
      have hgb : w4.heap[g]? = some (.cells #[.int .i64 n] 3 (0, 0)) := (hc4.block g (lt_of_get hg3) (by simpa using fun e => hne e.symm)).trans hg3
      refine ⟨.tuple #[], w4, fun w' => Ch [b, g] w w', [(b, .cells (flatR K ++ R).toArray 170 (0, 0)), (g, .cells #[.int .i64 n] 3 (0, 0))], hr, ?_, by simp [Mem.ids, hne], ?_, ?_⟩
      · intro q b' o hq
        match q, hq with
        | 0, hq => cases hq; exact hR
        | 1, hq => cases hq; exact hgb
      · intro w5 hc5
        exact (hI3.now.trans hc4 (fun x hx => .inl (by simp at hx; simp [hx]))).trans hc5 (fun x hx => .inl (by simpa [Mem.ids] using hx))
      refine Goes.run [] [] trivial ?_
      refine Goes.val (Instr.sliceAt 134 (.slice (some ⟨b, 0, none⟩) N N) none (some (.int .i64 i)) none) (.slice (some ⟨b, 0, none⟩) i N) (fun w' _ _ => cutR b N N i (by omega) (Nat.le_refl _) w') ?_
      refine Goes.run [] [] trivial ?_
      refine Goes.ret [] (.slice (some ⟨b, 0, none⟩) i N) fun w' hm hI => ⟨i, R, rfl, ?_, by omega, ?_, hm.get 1, hI.now⟩
      · rw [← hKl, hK, hjN', List.take_of_length_le (by omega)]
      · have e : K = xs.filter (fun x => !delP x.p n) := by rw [hK, hjN', List.take_of_length_le (by omega)]
        rw [← e]
        exact hm.get 0
    | true =>
      have hjl : j < N := by have := of_decide_eq_true hlt; omega
      obtain ⟨x, hx⟩ : ∃ x, xs[j]? = some x := ⟨xs[j]'(by omega), by simp⟩
      have hd := drop_any hx
      have hcl : DS.cells xs ⟨i, j, K, L⟩ = (flatR K ++ L) ++ x.row ++ flatR (xs.drop (j + 1)) := by
        show flatR K ++ L ++ flatR (xs.drop j) = _
        rw [hd, flat_cons]
        simp only [List.append_assoc]
      have hlen1 : (flatR K ++ L).length = j * 3 := by rw [List.length_append, hfK, hJl]; omega
      refine Goes.run [0, 1] [(decide ((j : Int) < (N : Int)), true)] ⟨hlt, trivial⟩ ?_
      refine Goes.val (Instr.indexAt 134 (.slice (some ⟨b, 0, none⟩) N N) (.int .i64 j)) (.pointer (some ⟨b, j * 3, none⟩)) (fun w' _ _ => idxR b N N j hjl w') ?_
      refine Goes.val (Instr.loadAt 170 (.pointer (some ⟨b, j * 3, none⟩))) (.agg #[.int .i64 x.p, .func (.func x.f) #[] x.fc, .func (.func x.g) #[] x.gc]) (fun w' hm _ => by have h0 : w'.heap[b]? = some (.cells (DS.cells xs ⟨i, j, K, L⟩).toArray 170 (0, 0)) := hm.get 0; rw [hcl] at h0; exact loadR h0 hlen1) ?_
      refine Goes.run1 [2, 2] [] trivial fun g7 => ?_
      refine Goes.call0 127 #[.agg #[.int .i64 x.p, .func (.func x.f) #[] x.fc, .func (.func x.g) #[] x.gc], .pointer (some ⟨g, 0, none⟩)] (.bool (delP x.p n)) (fun w' hm _ => del_any x (fun j b o hj => by match j, hj with | 0, hj => cases hj; exact hm.get 1)) ?_
      have hw2 : IntKind.i64.wrap ((j : Int) + 1) = ((j + 1 : Nat) : Int) := wrap_nat (by omega)
      cases hdx : delP x.p n with
      | true =>
        refine Goes.run [0] [(false, false)] ⟨rfl, trivial⟩ ?_
        refine Goes.keep 2 ?_
        refine Goes.slot 6 (.int .i64 (j + 1 : Nat)) (u := .int .i64 (IntKind.i64.wrap ((j : Int) + 1))) (congrArg _ hw2) ?_
        refine Goes.objs [(b, .cells (DS.cells xs ⟨i, j + 1, K, L ++ x.row⟩).toArray 170 (0, 0)), (g, .cells #[.int .i64 n] 3 (0, 0))] (fun w' hm q b' o hq => ?_) ?_
        · match q, hq with
          | 0, hq =>
            cases hq
            have h0 : w'.heap[b]? = some (.cells (DS.cells xs ⟨i, j, K, L⟩).toArray 170 (0, 0)) := hm.get 0
            rw [hcl] at h0
            rw [h0]
            congr 3
            simp only [List.append_assoc]
          | 1, hq => cases hq; exact hm.get 1
        refine back ⟨i, j + 1, K, L ++ x.row⟩ _ ⟨?_, hKl, ?_, by show i < j + 1; omega, by show j + 1 ≤ N; omega⟩ (by show N - (j + 1) < N - j; omega) (by kernel_rfl) (by kernel_rfl) (by kernel_rfl)
        · show K = (xs.take (j + 1)).filter _
          rw [List.take_add_one, hx, List.filter_append, ← hK]
          simp [hdx]
        · show (L ++ x.row).length = (j + 1 - i) * 3
          rw [List.length_append, hJl, row_len]
          omega
      | false =>
        obtain ⟨L1, L2, hL, hL1⟩ : ∃ L1 L2, L = L1 ++ L2 ∧ L1.length = 3 := ⟨L.take 3, L.drop 3, (List.take_append_drop 3 L).symm, by rw [List.length_take, hJl]; omega⟩
        have hcl2 : DS.cells xs ⟨i, j, K, L⟩ = flatR K ++ L1 ++ (L2 ++ x.row ++ flatR (xs.drop (j + 1))) := by
          rw [hcl, hL]
          simp only [List.append_assoc]
        have hw3 : IntKind.i64.wrap ((i : Int) + 1) = ((i + 1 : Nat) : Int) := wrap_nat (by omega)
        refine Goes.run [1, 2] [(true, true)] ⟨rfl, trivial⟩ ?_
        refine Goes.val (Instr.indexAt 134 (.slice (some ⟨b, 0, none⟩) N N) (.int .i64 i)) (.pointer (some ⟨b, i * 3, none⟩)) (fun w' _ _ => idxR b N N i (by omega) w') ?_
        refine Goes.sto (Instr.storeAt 170 (.pointer (some ⟨b, i * 3, none⟩)) (.agg #[.int .i64 x.p, .func (.func x.f) #[] x.fc, .func (.func x.g) #[] x.gc])) fun w3 hm3 hn3 hI3 => ?_
        have h0 : w3.heap[b]? = some (.cells (DS.cells xs ⟨i, j, K, L⟩).toArray 170 (0, 0)) := hm3.get 0
        rw [hcl2] at h0
        obtain ⟨w4, hr, hR, hc4⟩ := storeR (x := x) h0 hfK hL1
        have hg3 : w3.heap[g]? = some (.cells #[.int .i64 n] 3 (0, 0)) := hm3.get 1
        have hgb : w4.heap[g]? = some (.cells #[.int .i64 n] 3 (0, 0)) := (hc4.block g (lt_of_get hg3) (by simpa using fun e => hne e.symm)).trans hg3
        refine ⟨w4, fun w' => Ch [b, g] w w', [(b, .cells (DS.cells xs ⟨i + 1, j + 1, K ++ [x], L2 ++ x.row⟩).toArray 170 (0, 0)), (g, .cells #[.int .i64 n] 3 (0, 0))], hr, ?_, by simp [Mem.ids, hne], ?_, ?_⟩
        · intro q b' o hq
          match q, hq with
          | 0, hq =>
            cases hq
            rw [hR]
            congr 3
            show _ = flatR (K ++ [x]) ++ (L2 ++ x.row) ++ flatR (xs.drop (j + 1))
            rw [flat_app, flat_one]
            simp only [List.append_assoc]
          | 1, hq => cases hq; exact hgb
        · intro w5 hc5
          exact (hI3.now.trans hc4 (fun x hx => .inl (by simp at hx; simp [hx]))).trans hc5 (fun x hx => .inl (by simpa [Mem.ids] using hx))
        refine Goes.run [] [] trivial ?_
        refine Goes.slot 5 (.int .i64 (i + 1 : Nat)) (u := .int .i64 (IntKind.i64.wrap ((i : Int) + 1))) (congrArg _ hw3) ?_
        refine Goes.slot 6 (.int .i64 (j + 1 : Nat)) (u := .int .i64 (IntKind.i64.wrap ((j : Int) + 1))) (congrArg _ hw2) ?_
        refine back ⟨i + 1, j + 1, K ++ [x], L2 ++ x.row⟩ _ ⟨?_, by show (K ++ [x]).length = i + 1; simp [hKl], ?_, by show i + 1 < j + 1; omega, by show j + 1 ≤ N; omega⟩ (by show N - (j + 1) < N - j; omega) (Eq.trans (b := strikeK) (by kernel_rfl) (by kernel_rfl)) (by kernel_rfl) (by kernel_rfl)
        · show K ++ [x] = (xs.take (j + 1)).filter _
          rw [List.take_add_one, hx, List.filter_append, ← hK]
          simp [hdx]
        · show (L2 ++ x.row).length = (j + 1 - (i + 1)) * 3
          have : L.length = L1.length + L2.length := by rw [hL, List.length_append]
          rw [List.length_append, row_len]
          omega
theorem Rules.strike {w : World} {xs : List RV} {rs : List Rl} (h : Rules w xs rs) (n : Int) : Rules w (xs.filter fun x => !delP x.p n) (rs.filter fun r => !delP r.pass n) := by
  induction h with
  | nil => exact .nil
  | snoc xs rs x r h hx ih =>
    rw [List.filter_append, List.filter_append]
    have e : delP x.p n = delP r.pass n := by rw [hx.p]
    cases hd : delP r.pass n with
    | true =>
      have h1 : [x].filter (fun x => !delP x.p n) = [] := by simp [e, hd]
      have h2 : [r].filter (fun r => !delP r.pass n) = [] := by simp [hd]
      rw [h1, h2, List.append_nil, List.append_nil]
      exact ih
    | false =>
      have h1 : [x].filter (fun x => !delP x.p n) = [x] := by simp [e, hd]
      have h2 : [r].filter (fun r => !delP r.pass n) = [r] := by simp [hd]
      rw [h1, h2]
      exact .snoc _ _ _ _ ih hx
/-- Rules in a row of memory. -/
def RulesAt (w : World) (b k : Nat) (rs : List Rl) : Prop := ∃ xs R, xs.length = k ∧ k ≤ 27 ∧ w.heap[b]? = some (.cells (flatR xs ++ R).toArray 170 (0, 0)) ∧ Rules w xs rs
theorem RulesAt.later {w w' : World} {b k : Nat} {rs : List Rl} (h : RulesAt w b k rs) (hB : Below w.heap.size w w') : RulesAt w' b k rs := by
  obtain ⟨xs, R, h1, h2, h3, h4⟩ := h
  exact ⟨xs, R, h1, h2, (hB.block b (lt_of_get h3)).trans h3, h4.later hB⟩
noncomputable def rulesN (n : Int) : List Rl := rulesP.filter fun r => !delP r.pass n
set_option maxRecDepth 100000 in
seal rn rnN rnS Goes ans atEnd put0 putM opened openedY putA0 putA oneSt st0 keep put in
theorem rulesOf_any (n : Int) (w : World) : Calls Tryz.prog 74 #[.int .i64 n] w fun e w' => ∃ k b, e = .returned (.slice (some ⟨b, 0, none⟩) k 27) ∧ RulesAt w' b k (rulesN n) ∧ Below w.heap.size w w' := by
  refine Goes.begin Tryz.func74 [] (fun _ => True) Holds.nil (by simp [Mem.ids]) (fun _ _ => trivial) ?_
  refine Goes.run1 [] [] trivial fun g => ?_
  refine Goes.call 126 #[] fun w1 hm1 hn1 hI1 => (rules_any w1).mono fun e w2 ⟨b, xs, he, hb, w3, hR, hB3, hb3, hB4⟩ => ?_
  have hg1 : w1.heap[g]? = some (.cells #[.int .i64 n] 3 (0, 0)) := hm1.get 0
  have hB2 : Below w1.heap.size w1 w2 := hB3.trans (hB4.mono hB3.size)
  have hg2 : w2.heap[g]? = some (.cells #[.int .i64 n] 3 (0, 0)) := (hB2.block g (lt_of_get hg1)).trans hg1
  have hgl : g < w3.heap.size := Nat.lt_of_lt_of_le (lt_of_get hg1) hB3.size
  have hne : b ≠ g := by omega
  have hw0 : Below w.heap.size w w1 := hI1.now.1.toB (fun x hx => by cases hx)
  have hgf : w.heap.size ≤ g := fresh_of hI1 (g := g) (ids_get (j := 0) (o := .cells #[.int .i64 n] 3 (0, 0)) (by kernel_rfl)) (by simp [Mem.ids])
  refine ⟨_, fun w' => Ch [b, g] w2 w', [(b, .cells (flatR xs).toArray 170 (0, 0)), (g, .cells #[.int .i64 n] 3 (0, 0))], he, ?_, by simp [Mem.ids, hne], fun w' hc => hc, ?_⟩
  · intro q b' o hq
    match q, hq with
    | 0, hq => cases hq; exact hb
    | 1, hq => cases hq; exact hg2
  refine Goes.run [] [] trivial ?_
  refine Goes.call 125 #[.slice (some ⟨b, 0, none⟩) 27 27, .func (.func 127) #[] #[.pointer (some ⟨g, 0, none⟩)]] fun w4 hm4 hn4 hI4 => (strike_any (n := n) (xs := xs) 27 (by rw [hR.len]; rfl) (by omega) (w := w4) (fun j b o hj => by match j, hj with | 0, hj => cases hj; exact hm4.get 0 | 1, hj => cases hj; exact hm4.get 1) hne).mono fun e w5 ⟨k, R, he5, hk, hkN, hb5, hg5, hc5⟩ => ?_
  have hc25 : Ch [b, g] w2 w5 := hI4.now.trans hc5 (fun x hx => .inl hx)
  have hB35 : Below w3.heap.size w3 w5 := ⟨hc25.os.trans hB4.os, hc25.tape.trans hB4.tape, hc25.output.trans hB4.output, Nat.le_trans hB4.size hc25.size, fun i hi => by
    by_cases hig : i = g
    · subst hig
      rw [hg5, ← hB4.block i hi, hg2]
    · rw [hc25.block i (Nat.lt_of_lt_of_le hi hB4.size) (by simp; omega), hB4.block i hi]⟩
  have hB05 : Below w.heap.size w w5 := hw0.trans ((hB3.trans (hB35.mono hB3.size)).mono hw0.size)
  refine ⟨_, fun w' => Ch [] w5 w', [], he5, Holds.nil, by simp [Mem.ids], fun w' hc => hc, ?_⟩
  refine Goes.run [] [] trivial ?_
  refine Goes.ret [] (.slice (some ⟨b, 0, none⟩) k 27) fun w' hm hI => ⟨k, b, rfl, ?_, ?_⟩
  · have hB : Below w5.heap.size w5 w' := hI.now.toB (fun x hx => by cases hx)
    exact RulesAt.later ⟨_, R, hk.symm, hkN, hb5, (hR.strike n).later hB35⟩ hB
  · exact hB05.trans ((hI.now.toB (fun x hx => by cases hx)).mono hB05.size)
end Go.Proofs.YtddbiiejilcbbaaGreatDoor
namespace Go.Proofs.YtddbiiejilcbbaaGreatDoor
open Go Go.RowKit

/-- A term's cells. -/
abbrev cO4 (op k : Int) (s : List UInt8) (a : Option Addr) (N cc : Nat) : Obj := .cells #[.int .i64 op, .int .i64 k, strV s, .slice a N cc] 52 (0, 0)
set_option maxRecDepth 100000 in
seal rn rnN rnS Goes ans atEnd put0 putM opened openedY putA0 putA oneSt st0 keep put in
theorem fit1_any {w : World} {go : Nat} {x : RV} {r : Rl} {c : Co} {op k : Int} {s : List UInt8} {a : Option Addr} {N cc : Nat} (hM : Holds [(go, cO4 op k s a N cc)] w) (hx : RuleOk w x r) (hD : Dom c) (hN : Nc w.heap.size w (cv op k s (.slice a N cc)) c) :
    Calls Tryz.prog 124 #[.agg #[.int .i64 x.p, .func (.func x.f) #[] x.fc, .func (.func x.g) #[] x.gc], .pointer (some ⟨go, 0, none⟩)] w fun e w' => e = .returned (.bool (r.fits c)) ∧ Below w.heap.size w w' := by
  refine Goes.begin Tryz.func124 [(go, cO4 op k s a N cc)] (fun _ => True) hM (by simp [Mem.ids]) (fun _ _ => trivial) ?_
  refine Goes.run1 [1, 0] [] trivial fun g => ?_
  refine Goes.callV0 x.f #[] #[cv op k s (.slice a N cc)] x.fc (.bool (r.fits c)) hx.fits.1 (fun w' hm hI => hx.fits.2 w' (below_end hM hI.now.1 hm (by kernel_rfl)) _ c hD (hN.at (below_end hM hI.now.1 hm (by kernel_rfl)))) ?_
  refine Goes.run [] [] trivial ?_
  exact Goes.ret [] (.bool (r.fits c)) fun w' hm hI => ⟨rfl, below_end hM hI.now.1 hm (by kernel_rfl)⟩
theorem find_drop {rs : List Rl} {c : Co} {j : Nat} {r : Rl} (hr : rs[j]? = some r) : findP (rs.drop j) c = bif r.fits c then some r else findP (rs.drop (j + 1)) c := by
  rw [drop_any hr]
  unfold findP
  rw [List.find?_cons]
  cases r.fits c <;> rfl
set_option maxRecDepth 100000 in
seal rn rnN rnS Goes ans atEnd put0 putM opened openedY putA0 putA oneSt st0 keep put in
theorem first_any {w : World} {go b kN : Nat} {rs : List Rl} {c : Co} {op k : Int} {s : List UInt8} {a : Option Addr} {N cc : Nat} (hM : Holds [(go, cO4 op k s a N cc)] w) (hR : RulesAt w b kN rs) (hD : Dom c) (hN : Nc w.heap.size w (cv op k s (.slice a N cc)) c) :
    Calls Tryz.prog 123 #[.slice (some ⟨b, 0, none⟩) kN 27, .func (.func 124) #[] #[.pointer (some ⟨go, 0, none⟩)]] w fun e w' => ((∃ r x, findP rs c = some r ∧ RuleOk w x r ∧ e = .returned (.tuple #[.agg #[.int .i64 x.p, .func (.func x.f) #[] x.fc, .func (.func x.g) #[] x.gc], .bool true])) ∨ (findP rs c = none ∧ e = .returned (.tuple #[.agg #[.int .i64 0, .nilFunc, .nilFunc], .bool false]))) ∧ Below w.heap.size w w' := by
  obtain ⟨xs, R, hxl, hk27, hb, hxr⟩ := hR
  have hrl : rs.length = kN := by rw [← hxr.len, hxl]
  refine Goes.begin Tryz.func123 [(go, cO4 op k s a N cc)] (fun _ => True) hM (by simp [Mem.ids]) (fun _ _ => trivial) ?_
  refine Goes.run1 [] [] trivial fun g4 => ?_
  refine Goes.loop0 (α := Nat) 21 (fun j => [(0, .slice (some ⟨b, 0, none⟩) kN 27), (1, .func (.func 124) #[] #[.pointer (some ⟨go, 0, none⟩)]), (4, .pointer (some ⟨g4, 0, none⟩)), (5, .bool false), (9, .slice (some ⟨b, 0, none⟩) kN 27), (10, .int .i64 kN), (11, .int .i64 j)]) [(go, cO4 op k s a N cc), (g4, .cells #[.int .i64 0, .nilFunc, .nilFunc] 170 (0, 0))] (fun j => findP (rs.drop j) c = findP rs c ∧ j ≤ kN) (fun j => kN - j) 0 ⟨rfl, Nat.zero_le _⟩ ?_
  rintro j J ⟨hj, hj2⟩ back
  cases hlt : decide ((j : Int) < (kN : Int)) with
  | false =>
    refine Goes.run1 [0, 0, 2, 1] [(decide ((j : Int) < (kN : Int)), false)] ⟨hlt, trivial⟩ fun g8 => ?_
    exact Goes.ret [1] (.tuple #[.agg #[.int .i64 0, .nilFunc, .nilFunc], .bool false]) fun w' hm hI => ⟨.inr ⟨by rw [← hj, List.drop_of_length_le (by have := of_decide_eq_false hlt; omega)]; rfl, rfl⟩, below_end hM hI.now.1 hm (by kernel_rfl)⟩
  | true =>
    have hjl : j < kN := by have := of_decide_eq_true hlt; omega
    obtain ⟨r, hr⟩ : ∃ r, rs[j]? = some r := ⟨rs[j]'(by omega), by simp⟩
    obtain ⟨x, hx, hok⟩ := hxr.at hr
    have hd := drop_any hx
    have hsplit : flatR xs ++ R = flatR (xs.take j) ++ x.row ++ (flatR (xs.drop (j + 1)) ++ R) := by
      rw [← flat_one, ← List.append_assoc, ← flat_app, ← flat_app, List.append_assoc (xs.take j), List.singleton_append, ← hd, List.take_append_drop]
    have htl : (flatR (xs.take j)).length = j * 3 := by rw [flat_len, List.length_take, Nat.min_eq_left (by omega)]
    refine Goes.run [0, 1] [(decide ((j : Int) < (kN : Int)), true)] ⟨hlt, trivial⟩ ?_
    refine Goes.val (Instr.indexAt 134 (.slice (some ⟨b, 0, none⟩) kN 27) (.int .i64 j)) (.pointer (some ⟨b, j * 3, none⟩)) (fun w' _ _ => idxR b kN 27 j hjl w') ?_
    refine Goes.val (Instr.loadAt 170 (.pointer (some ⟨b, j * 3, none⟩))) (.agg #[.int .i64 x.p, .func (.func x.f) #[] x.fc, .func (.func x.g) #[] x.gc]) (fun w' hm hI => by have h0 := ((below_end hM hI.now.1 hm (by kernel_rfl)).block b (lt_of_get hb)).trans hb; rw [hsplit] at h0; exact loadR h0 htl) ?_
    refine Goes.run1 [2, 2] [] trivial fun g7 => ?_
    refine Goes.call0 124 #[.agg #[.int .i64 x.p, .func (.func x.f) #[] x.fc, .func (.func x.g) #[] x.gc], .pointer (some ⟨go, 0, none⟩)] (.bool (r.fits c)) (fun w' hm hI => fit1_any (fun j b o hj => by match j, hj with | 0, hj => cases hj; exact hm.get 0) (hok.later (below_end hM hI.now.1 hm (by kernel_rfl))) hD (hN.at (below_end hM hI.now.1 hm (by kernel_rfl)))) ?_
    cases hf : r.fits c with
    | true =>
      refine Goes.run [1, 2, 1] [(true, true)] ⟨rfl, trivial⟩ ?_
      exact Goes.ret [1] (.tuple #[.agg #[.int .i64 x.p, .func (.func x.f) #[] x.fc, .func (.func x.g) #[] x.gc], .bool true]) fun w' hm hI => ⟨.inl ⟨r, x, by rw [← hj, find_drop hr, hf]; rfl, hok, rfl⟩, below_end hM hI.now.1 hm (by kernel_rfl)⟩
    | false =>
      refine Goes.run [0] [(false, false)] ⟨rfl, trivial⟩ ?_
      refine Goes.keep 2 ?_
      refine Goes.slot 11 (.int .i64 (j + 1 : Nat)) (u := .int .i64 (IntKind.i64.wrap ((j : Int) + 1))) (congrArg _ (wrap_nat (by omega))) ?_
      exact back (j + 1) _ ⟨by rw [← hj, find_drop hr, hf]; rfl, by omega⟩ (by omega) (by kernel_rfl) (by kernel_rfl) (by kernel_rfl)
end Go.Proofs.YtddbiiejilcbbaaGreatDoor
namespace Go.Proofs.YtddbiiejilcbbaaGreatDoor
open Go

noncomputable def fixF (rs : List Rl) : Nat → Co → Co
  | 0, c => c
  | n + 1, c => match findP rs c with | some r => fixF rs n (r.becomes c) | none => c
noncomputable def fixP (rs : List Rl) (c : Co) : Co := fixF rs ((mu c).toNat + 1) c
mutual
/-- A term, made less by rules: its kids first. -/
noncomputable def rwP (rs : List Rl) : Co → Co
  | .mk op k s kids => fixP rs (.mk op k s (rwL rs kids))
noncomputable def rwL (rs : List Rl) : List Co → List Co
  | [] => []
  | c :: r => rwP rs c :: rwL rs r
end
theorem rwL_len (rs : List Rl) : ∀ l : List Co, (rwL rs l).length = l.length
  | [] => by rw [rwL]
  | c :: r => by rw [rwL, List.length_cons, List.length_cons, rwL_len rs r]
theorem rwL_at (rs : List Rl) : ∀ {l : List Co} {i : Nat} {c : Co}, l[i]? = some c → (rwL rs l)[i]? = some (rwP rs c)
  | [], i, c, h => by simp at h
  | x :: r, 0, c, h => by simp at h; subst h; rw [rwL]; rfl
  | x :: r, i + 1, c, h => by rw [rwL]; simpa using rwL_at rs (l := r) (i := i) (by simpa using h)
theorem found_in {rs : List Rl} {c : Co} {r : Rl} (h : findP rs c = some r) : r ∈ rs ∧ r.fits c = true := by
  unfold findP at h
  exact ⟨List.mem_of_find?_eq_some h, by simpa using List.find?_some h⟩
theorem mu_pos (c : Co) : 0 ≤ mu c := by
  unfold mu
  have := szC_pos c
  cases (c.op == 30 && (kidC c 1).op != 23) <;> simp only [cond_true, cond_false] <;> omega
section
variable {rs : List Rl} (hrs : ∀ r ∈ rs, r ∈ rulesP)
include hrs
theorem fix_good {z d : Int} (hz : tyOk z) : ∀ (n : Nat) (c : Co), okT z d c = true → Kept z d c (fixF rs n c) ∧ Rw false z d c (fixF rs n c)
  | 0, c, h => ⟨⟨h, Int.le_refl _, Int.le_refl _, fun e => e⟩, .refl _ _ _ _⟩
  | n + 1, c, h => by
    rw [fixF]
    cases hf : findP rs c with
    | none => exact ⟨⟨h, Int.le_refl _, Int.le_refl _, fun e => e⟩, .refl _ _ _ _⟩
    | some r =>
      obtain ⟨h1, h2⟩ := found_in hf
      obtain ⟨g1, -, g2⟩ := rule_good (hrs r h1) hz h h2
      obtain ⟨k1, k2⟩ := fix_good hz n _ g1.ok
      exact ⟨g1.trans k1, .trans _ _ _ _ _ _ (g2.rw g1.ok) k2⟩
theorem fix_more {z d : Int} (hz : tyOk z) : ∀ (n m : Nat) (c : Co), okT z d c = true → (mu c).toNat < n → (mu c).toNat < m → fixF rs n c = fixF rs m c
  | 0, _, _, _, h, _ => by omega
  | _, 0, _, _, _, h => by omega
  | n + 1, m + 1, c, h, hn, hm => by
    rw [fixF, fixF]
    cases hf : findP rs c with
    | none => rfl
    | some r =>
      obtain ⟨h1, h2⟩ := found_in hf
      obtain ⟨g1, g3, -⟩ := rule_good (hrs r h1) hz h h2
      have := mu_pos (r.becomes c)
      exact fix_more hz n m _ g1.ok (by omega) (by omega)
/-- One step of the loop. -/
theorem fix_step {z d : Int} (hz : tyOk z) {c : Co} (h : okT z d c = true) {r : Rl} (hf : findP rs c = some r) : fixP rs c = fixP rs (r.becomes c) ∧ okT z d (r.becomes c) = true ∧ (mu (r.becomes c)).toNat < (mu c).toNat := by
  obtain ⟨h1, h2⟩ := found_in hf
  obtain ⟨g1, g3, -⟩ := rule_good (hrs r h1) hz h h2
  have h0 := mu_pos (r.becomes c)
  refine ⟨?_, g1.ok, by omega⟩
  unfold fixP
  rw [fixF, hf]
  exact fix_more hrs hz _ _ _ g1.ok (by omega) (by omega)
omit hrs in
theorem fix_none {c : Co} (hf : findP rs c = none) : fixP rs c = c := by
  unfold fixP
  rw [fixF, hf]
omit hrs in
theorem kids_kept {d : Int} : ∀ {l : List Co} {ks : List Int}, (∀ c ∈ l, ∀ z d, tyOk z → okT z d c = true → Kept z d c (rwP rs c) ∧ Rw false z d c (rwP rs c)) → (∀ x ∈ ks, tyOk x) → okTs d ks l = true → okTs d ks (rwL rs l) = true ∧ szL (rwL rs l) ≤ szL l ∧ hzL (rwL rs l) ≤ hzL l ∧ (ahL l = false → ahL (rwL rs l) = false)
  | [], ks, _, _, h => by rw [rwL]; exact ⟨h, Int.le_refl _, Int.le_refl _, fun e => e⟩
  | c :: r, [], _, _, h => by simp [okTs] at h
  | c :: r, x :: xs, ih, hk, h => by
    simp only [okTs, Bool.and_eq_true] at h
    obtain ⟨k1, -⟩ := ih c (by simp) x d (hk x (by simp)) h.1
    obtain ⟨e1, e2, e3, e4⟩ := kids_kept (ks := xs) (fun c hc => ih c (by simp [hc])) (fun y hy => hk y (by simp [hy])) h.2
    rw [rwL]
    refine ⟨?_, ?_, ?_, fun ha => ?_⟩
    · simp only [okTs, Bool.and_eq_true]; exact ⟨k1.ok, e1⟩
    · rw [szL, szL]; have := k1.sz; omega
    · rw [hzL, hzL]; have := k1.hz; omega
    · rw [ahL, Bool.or_eq_false_iff] at ha ⊢
      exact ⟨k1.ah ha.1, e4 ha.2⟩
omit hrs in
theorem okTs_app {d : Int} : ∀ {k1 : List Int} {l1 : List Co} {k2 : List Int} {l2 : List Co}, k1.length = l1.length → okTs d k1 l1 = true → okTs d k2 l2 = true → okTs d (k1 ++ k2) (l1 ++ l2) = true
  | [], [], _, _, _, _, h => h
  | x :: xs, c :: r, k2, l2, hl, h1, h2 => by
    simp only [okTs, Bool.and_eq_true, List.cons_append] at h1 ⊢
    exact ⟨h1.1, okTs_app (by simpa using hl) h1.2 h2⟩
omit hrs in
theorem kids_rw {b : Bool} {z op k d : Int} {s : List UInt8} {ksA : List Int} (hz : tyOk z) (ho : ownC op k s = true) (hd : d ≤ 200) (hr : (op = 22 ∧ z ≠ 4 ∧ ksA = [1, z, z]) ∨ rkP op = some (ksA, z)) : ∀ {l pre : List Co} {ks kpre : List Int}, (∀ c ∈ l, ∀ z d, tyOk z → okT z d c = true → Kept z d c (rwP rs c) ∧ Rw false z d c (rwP rs c)) → (∀ x ∈ ks, tyOk x) → okTs (d + 1) ks l = true → ks.length = l.length → ksA = kpre ++ ks → kpre.length = pre.length → okTs (d + 1) kpre pre = true → Rw b z d (.mk op k s (pre ++ l)) (.mk op k s (pre ++ rwL rs l))
  | [], pre, ks, kpre, _, _, _, _, _, _, _ => by rw [rwL]; exact .refl _ _ _ _
  | c :: r, _, [], _, _, _, h, _, _, _, _ => by simp [okTs] at h
  | c :: r, pre, x :: xs, kpre, ih, hk, h, hl, e, el, hp => by
    simp only [okTs, Bool.and_eq_true] at h
    obtain ⟨k1, k2⟩ := ih c (by simp) x (d + 1) (hk x (by simp)) h.1
    have e1 : (pre ++ c :: r).set pre.length (rwP rs c) = pre ++ rwP rs c :: r := by simp
    have hok : okT z d (.mk op k s ((pre ++ c :: r).set pre.length (rwP rs c))) = true := by
      rw [e1]
      refine ok_intro hz (ks := ksA) ?_ ho hd ?_ hr
      · rw [e]; simp at hl ⊢; omega
      · rw [e]
        refine okTs_app el hp ?_
        simp only [okTs, Bool.and_eq_true]
        exact ⟨k1.ok, h.2⟩
    have s1 : Rw b z d (.mk op k s (pre ++ c :: r)) (.mk op k s ((pre ++ c :: r).set pre.length (rwP rs c))) := .kid b z d op k s _ ksA pre.length c _ x hr (by simp) (by rw [e, ← el]; simp) k2 hok
    have e1' : (pre ++ c :: r).set pre.length (rwP rs c) = (pre ++ [rwP rs c]) ++ r := by simp
    rw [e1'] at s1
    have s2 := kids_rw (b := b) (k := k) (s := s) (d := d) hz ho hd hr (l := r) (pre := pre ++ [rwP rs c]) (ks := xs) (kpre := kpre ++ [x]) (fun c hc => ih c (by simp [hc])) (fun y hy => hk y (by simp [hy])) h.2 (by simpa using hl) (by rw [e]; simp) (by simp [el]) (okTs_app el hp (by simp only [okTs, Bool.and_true]; exact k1.ok))
    have e2 : (pre ++ [rwP rs c]) ++ rwL rs r = pre ++ rwL rs (c :: r) := by rw [rwL]; simp
    rw [e2] at s2
    exact .trans _ _ _ _ _ _ s1 s2
omit hrs in
/-- The kids of a right term, rewritten, in their place. -/
theorem rw_kids {z d op k : Int} {s : List UInt8} {kids : List Co} (hz : tyOk z) (ih : ∀ c ∈ kids, ∀ z d, tyOk z → okT z d c = true → Kept z d c (rwP rs c) ∧ Rw false z d c (rwP rs c)) (h : okT z d (.mk op k s kids) = true) : Kept z d (.mk op k s kids) (.mk op k s (rwL rs kids)) ∧ ∀ b, Rw b z d (.mk op k s kids) (.mk op k s (rwL rs kids)) := by
  obtain ⟨ks, hl, ho, hd, hk, hr⟩ := ok_inv hz h
  have ht : ∀ x ∈ ks, tyOk x := by
    rcases hr with ⟨-, -, rfl⟩ | hr
    · intro x hx
      simp only [List.mem_cons, List.not_mem_nil, or_false] at hx
      rcases hx with e | e | e
      · rw [e]; unfold tyOk; omega
      · rw [e]; exact hz
      · rw [e]; exact hz
    · exact (rk_tys hr).2
  obtain ⟨e1, e2, e3, e4⟩ := kids_kept ih ht hk
  refine ⟨⟨ok_intro hz (by rw [rwL_len]; exact hl) ho hd e1 hr, ?_, ?_, fun ha => ?_⟩, fun b => kids_rw hz ho hd hr (pre := []) (kpre := []) ih ht hk hl.symm rfl rfl rfl⟩
  · rw [szC, szC]; omega
  · rw [hzC, hzC]; omega
  · rw [ahC, Bool.or_eq_false_iff] at ha ⊢
    exact ⟨ha.1, e4 ha.2⟩
theorem rw_good (c : Co) : ∀ z d, tyOk z → okT z d c = true → Kept z d c (rwP rs c) ∧ Rw false z d c (rwP rs c) := by
  induction c using Co.ind with
  | h op k s kids ih =>
    intro z d hz h
    obtain ⟨k1, k2⟩ := rw_kids hz ih h
    rw [rwP]
    unfold fixP
    obtain ⟨g1, g2⟩ := fix_good hrs hz ((mu (.mk op k s (rwL rs kids))).toNat + 1) _ k1.ok
    exact ⟨k1.trans g1, .trans _ _ _ _ _ _ (k2 false) g2⟩
end
end Go.Proofs.YtddbiiejilcbbaaGreatDoor
