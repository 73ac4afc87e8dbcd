/- texts put together: ZCut ZGap ZOut ZOut2 -/
import Derived.Test.YtommhgmlblecnaaGreatDoorYGe
import Derived.Test.YtommhgmlblecnaaGreatDoorZGb
import Derived.Test.YtommhgmlblecnaaGreatDoorYGf
namespace Go.Proofs.YtommhgmlblecnaaGreatDoor
open Go Go.RowKit

theorem tw_shr (C : Int → Bool) : ∀ (a r : List UInt8), ((a ++ r).takeWhile (fun c => C (c.toNat : Nat))).length ≤ a.length → a.takeWhile (fun c => C (c.toNat : Nat)) = (a ++ r).takeWhile (fun c => C (c.toNat : Nat))
  | [], r, h => by
    rw [List.nil_append] at h ⊢
    have : (r.takeWhile (fun c => C (c.toNat : Nat))) = [] := List.eq_nil_of_length_eq_zero (Nat.le_zero.1 h)
    rw [this]; rfl
  | x :: a, r, h => by
    rw [List.cons_append, List.takeWhile_cons] at h ⊢
    rw [List.takeWhile_cons]
    cases hx : C (x.toNat : Nat) with
    | false => rfl
    | true =>
      rw [hx] at h
      simp only [if_true] at h ⊢
      rw [tw_shr C a r (by simpa using h)]
theorem tw_grow (C : Int → Bool) : ∀ (a r : List UInt8), (a.takeWhile (fun c => C (c.toNat : Nat))).length ≤ ((a ++ r).takeWhile (fun c => C (c.toNat : Nat))).length
  | [], r => Nat.zero_le _
  | x :: a, r => by
    rw [List.cons_append, List.takeWhile_cons, List.takeWhile_cons]
    cases hx : C (x.toNat : Nat) with
    | false => exact Nat.le_refl _
    | true => simpa using tw_grow C a r
section
variable {C : Int → Bool} {v r : List UInt8} {i : Nat}
theorem bhd_shr (hi : i ≤ v.length) (h : bhd C (v ++ r) i ≤ v.length) : bhd C v i = bhd C (v ++ r) i := by
  unfold bhd at h ⊢
  rw [List.drop_append_of_le_length hi] at h ⊢
  rw [tw_shr]
  rw [List.length_drop]
  omega
theorem bhd_grow (hi : i ≤ v.length) : bhd C v i ≤ bhd C (v ++ r) i := by
  unfold bhd
  rw [List.drop_append_of_le_length hi]
  exact Nat.add_le_add_left (tw_grow C _ _) _
theorem tw_stop (C : Int → Bool) : ∀ (a : List UInt8) (x : UInt8), a[(a.takeWhile (fun c => C (c.toNat : Nat))).length]? = some x → C (x.toNat : Nat) = false
  | [], x, h => by simp at h
  | y :: a, x, h => by
    rw [List.takeWhile_cons] at h
    cases hy : C (y.toNat : Nat) with
    | false =>
      rw [hy] at h
      simp at h
      rw [← h]; exact hy
    | true =>
      rw [hy] at h
      simp only [if_true, List.length_cons, List.getElem?_cons_succ] at h
      exact tw_stop C a x h
theorem bhd_stop {l : List UInt8} {x : UInt8} (h : l[bhd C l i]? = some x) : C (x.toNat : Nat) = false := by
  unfold bhd at h
  rw [← List.getElem?_drop] at h
  exact tw_stop C _ x h
theorem tw_all (C : Int → Bool) : ∀ (a : List UInt8) (k : Nat) (x : UInt8), a[k]? = some x → k < (a.takeWhile (fun c => C (c.toNat : Nat))).length → C (x.toNat : Nat) = true
  | [], k, x, h, _ => by simp at h
  | y :: a, k, x, h, hk => by
    rw [List.takeWhile_cons] at hk
    cases hy : C (y.toNat : Nat) with
    | false => rw [hy] at hk; simp at hk
    | true =>
      rw [hy] at hk
      cases k with
      | zero => simp at h; rw [← h]; exact hy
      | succ k => exact tw_all C a k x (by simpa using h) (by simpa using hk)
theorem bhd_all {l : List UInt8} {k : Nat} {x : UInt8} (h : l[k]? = some x) (h1 : i ≤ k) (h2 : k < bhd C l i) : C (x.toNat : Nat) = true := by
  unfold bhd at h2
  refine tw_all C (l.drop i) (k - i) x ?_ (by omega)
  rw [List.getElem?_drop, show i + (k - i) = k by omega]
  exact h
end
section
variable {v r : List UInt8}
theorem nameT_cut (h : (nameT (v ++ r) 0).2 = 0) (hE : (nameT (v ++ r) 0).1.e ≤ (v.length : Int)) : nameT v 0 = nameT (v ++ r) 0 := by
  unfold nameT at h hE ⊢
  cases hd : decide (((bhd cIn (v ++ r) 0 : Nat) : Int) < ((v ++ r).length : Int)) && ((((v ++ r).getD (bhd cIn (v ++ r) 0) 0).toNat : Int) == 46) with
  | true =>
    rw [hd] at h hE
    simp only [cond_true] at h hE ⊢
    unfold farT at h hE ⊢
    cases hf : isFr (cutL (v ++ r) 0 (bhd cIn (v ++ r) 0)) && isFr (cutL (v ++ r) (bhd cIn (v ++ r) 0 + 1) (bhd cIn (v ++ r) (bhd cIn (v ++ r) 0 + 1))) with
    | false => rw [hf] at h; exact absurd h (by simp)
    | true =>
      rw [hf] at hE
      simp only [cond_true] at hE
      have h2 : bhd cIn (v ++ r) (bhd cIn (v ++ r) 0 + 1) ≤ v.length := by omega
      have h3 := bhd_ge cIn (v ++ r) (bhd cIn (v ++ r) 0 + 1)
      have e1 : bhd cIn v 0 = bhd cIn (v ++ r) 0 := bhd_shr (Nat.zero_le _) (by omega)
      rw [e1]
      have hlt : bhd cIn (v ++ r) 0 < v.length := by omega
      have e2 := bhd_shr (C := cIn) (v := v) (r := r) (i := bhd cIn (v ++ r) 0 + 1) (by omega) h2
      rw [Bool.and_eq_true] at hd
      rw [getD_ext hlt] at hd
      rw [decide_eq_true (show ((bhd cIn (v ++ r) 0 : Nat) : Int) < (v.length : Int) by omega), hd.2, Bool.true_and, cond_true, e2, ← cut_ext (r := r) (j := bhd cIn (v ++ r) 0) (by omega), ← cut_ext (r := r) (i := bhd cIn (v ++ r) 0 + 1) h2, ← cut_ext (r := r) (i := 0) h2, hf]
  | false =>
    rw [hd] at h hE
    simp only [cond_false] at h hE ⊢
    cases hf : nmB (cutL (v ++ r) 0 (bhd cIn (v ++ r) 0)) with
    | false => rw [hf] at h; exact absurd h (by simp)
    | true =>
      rw [hf] at hE
      simp only [cond_true] at hE
      have e1 : bhd cIn v 0 = bhd cIn (v ++ r) 0 := bhd_shr (Nat.zero_le _) (by omega)
      rw [e1]
      have : (decide (((bhd cIn (v ++ r) 0 : Nat) : Int) < (v.length : Int)) && (((v.getD (bhd cIn (v ++ r) 0) 0).toNat : Int) == 46)) = false := by
        rcases Nat.lt_or_ge (bhd cIn (v ++ r) 0) v.length with hlt | hge
        · rw [← getD_ext (r := r) hlt]
          rw [decide_eq_true (by rw [List.length_append]; omega)] at hd
          rw [decide_eq_true (by omega)]
          exact hd
        · rw [decide_eq_false (by omega)]; rfl
      rw [this, cond_false, ← cut_ext (r := r) (j := bhd cIn (v ++ r) 0) (by omega), hf]
theorem curT_cut (h : (curT (v ++ r) 0).2 = 0) (hE : (curT (v ++ r) 0).1.e ≤ (v.length : Int)) : curT v 0 = curT (v ++ r) 0 := by
  unfold curT at h hE ⊢
  cases hd : ((bhd cCap (v ++ r) 0 : Int) - ((0 : Nat) : Int)) != 3 with
  | true => rw [hd] at h; exact absurd h (by simp)
  | false =>
    rw [hd] at hE
    simp only [cond_false] at hE
    have e1 : bhd cCap v 0 = bhd cCap (v ++ r) 0 := bhd_shr (Nat.zero_le _) (by omega)
    rw [e1, hd, ← cut_ext (r := r) (j := bhd cCap (v ++ r) 0) (by omega)]
theorem lkD_cut (hv : lkD (v ++ r) = true → 10 ≤ v.length) (nd : v.length = 10 → cDig ((v.getD 9 0).toNat : Nat) = true → cDig (((v ++ r).getD 10 0).toNat : Nat) = true → False) : lkD v = lkD (v ++ r) := by
  rcases Nat.lt_or_ge v.length 10 with h | h
  · have h1 : lkD v = false := by
      unfold lkD
      rw [decide_eq_true (show (v.length : Int) < 10 by omega)]
      rfl
    cases h2 : lkD (v ++ r) with
    | false => exact h1
    | true => have := hv h2; omega
  · have ep : ((List.range 10).all fun j => !misfit (v.getD j 0) (dForm.getD j 0)) = ((List.range 10).all fun j => !misfit ((v ++ r).getD j 0) (dForm.getD j 0)) := by
      refine Bool.eq_iff_iff.2 ?_
      simp only [List.all_eq_true, List.mem_range]
      constructor
      · intro H j hj
        have := H j hj
        rwa [← getD_ext (r := r) (by omega)] at this
      · intro H j hj
        have := H j hj
        rwa [getD_ext (by omega)] at this
    unfold lkD
    rw [← ep, decide_eq_false (show ¬ (v.length : Int) < 10 by omega), decide_eq_false (show ¬ ((v ++ r).length : Int) < 10 by rw [List.length_append]; omega), Bool.false_or, Bool.false_or]
    rcases Nat.lt_or_ge 10 v.length with h1 | h1
    · rw [getD_ext h1, decide_eq_true (show (v.length : Int) > 10 by omega), decide_eq_true (show ((v ++ r).length : Int) > 10 by rw [List.length_append]; omega)]
    · have h10 : v.length = 10 := by omega
      rw [decide_eq_false (show ¬ (v.length : Int) > 10 by omega)]
      cases hp : (List.range 10).all fun j => !misfit (v.getD j 0) (dForm.getD j 0) with
      | false => rw [Bool.and_false, Bool.and_false]
      | true =>
        rw [Bool.and_true, Bool.and_true]
        cases hc : cDig (((v ++ r).getD 10 0).toNat : Nat) with
        | false => simp
        | true =>
          refine (nd h10 ?_ hc).elim
          have h9 := (List.all_eq_true.1 hp) 9 (by decide)
          have e : dForm.getD 9 0 = 48 := by decide
          rw [e] at h9
          have key : ∀ x : UInt8, (!misfit x 48) = true → cDig (x.toNat : Nat) = true := by
            have k : ∀ n : Fin 256, (!misfit (UInt8.ofNat n.1) 48) = true → cDig ((UInt8.ofNat n.1).toNat : Nat) = true := by decide +kernel
            intro x
            have := k ⟨x.toNat, x.toNat_lt⟩
            simpa using this
          exact key _ h9
theorem numE_cut (hE : numE (v ++ r) 0 ≤ v.length) : numE v 0 = numE (v ++ r) 0 := by
  unfold numE at hE ⊢
  cases hd : decide (((bhd cDig (v ++ r) (bhd cDig (v ++ r) 0 + 1) : Nat) : Int) > ((bhd cDig (v ++ r) 0 + 1 : Nat) : Int)) && ((((v ++ r).getD (bhd cDig (v ++ r) 0) 0).toNat : Int) == 46) with
  | true =>
    rw [hd] at hE
    simp only [cond_true] at hE
    have h3 := bhd_ge cDig (v ++ r) (bhd cDig (v ++ r) 0 + 1)
    have e1 : bhd cDig v 0 = bhd cDig (v ++ r) 0 := bhd_shr (Nat.zero_le _) (by omega)
    have e2 := bhd_shr (C := cDig) (v := v) (r := r) (i := bhd cDig (v ++ r) 0 + 1) (by omega) hE
    rw [e1, e2, ← getD_ext (r := r) (show bhd cDig (v ++ r) 0 < v.length by omega), hd]
  | false =>
    rw [hd] at hE
    simp only [cond_false] at hE
    have e1 : bhd cDig v 0 = bhd cDig (v ++ r) 0 := bhd_shr (Nat.zero_le _) hE
    rw [e1]
    have : (decide (((bhd cDig v (bhd cDig (v ++ r) 0 + 1) : Nat) : Int) > ((bhd cDig (v ++ r) 0 + 1 : Nat) : Int)) && (((v.getD (bhd cDig (v ++ r) 0) 0).toNat : Int) == 46)) = false := by
      rcases Nat.lt_or_ge (bhd cDig (v ++ r) 0) v.length with hlt | hge
      · rw [← getD_ext (r := r) hlt]
        cases h46 : (((v ++ r).getD (bhd cDig (v ++ r) 0) 0).toNat : Int) == 46 with
        | false => rw [Bool.and_false]
        | true =>
          rw [h46, Bool.and_true] at hd
          rw [Bool.and_true]
          have h5 := of_decide_eq_false hd
          have h6 := bhd_grow (C := cDig) (v := v) (r := r) (i := bhd cDig (v ++ r) 0 + 1) (by omega)
          exact decide_eq_false (by omega)
      · have : (((v.getD (bhd cDig (v ++ r) 0) 0).toNat : Int) == 46) = false := by simp [List.getD, List.getElem?_eq_none hge]
        rw [this, Bool.and_false]
    rw [this]
    rfl
seal parseL dPar in
theorem nbrT_cut (h : (nbrT (v ++ r) 0).2 = 0) (hE : (nbrT (v ++ r) 0).1.e ≤ (v.length : Int)) (nd : v.length = 10 → cDig ((v.getD 9 0).toNat : Nat) = true → cDig (((v ++ r).getD 10 0).toNat : Nat) = true → False) : nbrT v 0 = nbrT (v ++ r) 0 := by
  unfold nbrT at h hE ⊢
  cases hd : !(nodT (v ++ r) 0).2 || (decide ((nodT (v ++ r) 0).1.e < ((v ++ r).length : Int)) && cBad (((v ++ r).getD (nodT (v ++ r) 0).1.e.toNat 0).toNat : Nat)) with
  | true => rw [hd] at h; exact absurd h (by simp)
  | false =>
    rw [hd] at hE
    simp only [cond_false] at hE ⊢
    have e0 : nodT v 0 = nodT (v ++ r) 0 ∧ ∃ e : Nat, (nodT (v ++ r) 0).1.e = e := by
      unfold nodT at hE ⊢
      rw [List.drop_zero] at hE
      rw [List.drop_zero, List.drop_zero]
      have hl : lkD v = lkD (v ++ r) := lkD_cut (fun hk => by rw [hk] at hE; simp only [cond_true, dateT] at hE; omega) nd
      rw [hl]
      cases hk : lkD (v ++ r) with
      | true =>
        rw [hk] at hE
        simp only [cond_true, dateT] at hE ⊢
        rw [cut_ext (by omega)]
        exact ⟨rfl, 10, rfl⟩
      | false =>
        rw [hk] at hE
        simp only [cond_false, numT] at hE ⊢
        rw [numE_cut (r := r) (by omega), ← cut_ext (r := r) (by omega)]
        exact ⟨rfl, _, rfl⟩
    obtain ⟨e1, e, e2⟩ := e0
    rw [e1]
    rw [e2, Int.toNat_natCast] at hd
    rw [e2] at hE ⊢
    rw [Int.toNat_natCast]
    rw [Bool.or_eq_false_iff] at hd
    have : (decide ((e : Int) < (v.length : Int)) && cBad ((v.getD e 0).toNat : Nat)) = false := by
      rcases Nat.lt_or_ge e v.length with hlt | hge
      · rw [← getD_ext (r := r) hlt]
        have h2 := hd.2
        rw [decide_eq_true (by rw [List.length_append]; omega), Bool.true_and] at h2
        rw [h2, Bool.and_false]
      · rw [decide_eq_false (by omega)]; rfl
    rw [this, hd.1]
    rfl
theorem quoT_cut (hv : 0 < v.length) (h : (quoT (v ++ r) 0).2 = 0) (hE : (quoT (v ++ r) 0).1.e ≤ (v.length : Int)) : quoT v 0 = quoT (v ++ r) 0 := by
  unfold quoT at h hE ⊢
  cases hd : ((bhd cStr (v ++ r) (0 + 1) : Int) == ((v ++ r).length : Int)) || ((((v ++ r).getD (bhd cStr (v ++ r) (0 + 1)) 0).toNat : Int) != 34) with
  | true => rw [hd] at h; exact absurd h (by simp)
  | false =>
    rw [hd] at h hE
    simp only [cond_false] at h hE ⊢
    cases hf : nmB (cutL (v ++ r) (0 + 1) (bhd cStr (v ++ r) (0 + 1))) with
    | false => rw [hf] at h; exact absurd h (by simp)
    | true =>
      rw [hf] at hE
      simp only [cond_true] at hE
      have e1 : bhd cStr v (0 + 1) = bhd cStr (v ++ r) (0 + 1) := bhd_shr hv (by omega)
      rw [Bool.or_eq_false_iff] at hd
      rw [e1, ← getD_ext (r := r) (show bhd cStr (v ++ r) (0 + 1) < v.length by omega), hd.2, ← cut_ext (r := r) (j := bhd cStr (v ++ r) (0 + 1)) (by omega), hf]
      have : ((bhd cStr (v ++ r) (0 + 1) : Int) == (v.length : Int)) = false := by rw [beq_eq_false_iff_ne]; omega
      rw [this]
      rfl
theorem signT_cut (hv : 0 < v.length) (hE : (signT (v ++ r) 0).1.e ≤ (v.length : Int)) : signT v 0 = signT (v ++ r) 0 := by
  unfold signT at hE ⊢
  rw [List.drop_zero] at hE
  rw [List.drop_zero, List.drop_zero, getD_ext hv, cut_ext (j := 0 + 1) hv]
  cases hp : Lib.hasPrefix (v ++ r) [60, 61] with
  | true =>
    rw [hp] at hE
    simp only [cond_true] at hE ⊢
    have h2 : 2 ≤ v.length := by omega
    have : Lib.hasPrefix v [60, 61] = true := by
      unfold Lib.hasPrefix at hp ⊢
      match v, h2 with
      | x :: y :: v, _ => simpa [List.isPrefixOf] using hp
    rw [this, cut_ext h2]
    rfl
  | false =>
    have : Lib.hasPrefix v [60, 61] = false := by
      unfold Lib.hasPrefix at hp ⊢
      match v, hv with
      | [x], _ => simp [List.isPrefixOf]
      | x :: y :: v, _ => simpa [List.isPrefixOf] using hp
    rw [this]
    rfl
seal parseL dPar in
/-- A right token stays where the text is cut behind it, but not between two digits. -/
theorem anyT_cut (hv : 0 < v.length) (h : (anyT (v ++ r) 0).2 = 0) (hE : (anyT (v ++ r) 0).1.e ≤ (v.length : Int)) (nd : v.length = 10 → cDig ((v.getD 9 0).toNat : Nat) = true → cDig (((v ++ r).getD 10 0).toNat : Nat) = true → False) : anyT v 0 = anyT (v ++ r) 0 := by
  unfold anyT at h hE ⊢
  rw [getD_ext hv] at h hE ⊢
  cases h1 : cLet ((v.getD 0 0).toNat : Nat) with
  | true => rw [h1] at h hE; exact nameT_cut h hE
  | false =>
  cases h2 : cCap ((v.getD 0 0).toNat : Nat) with
  | true => rw [h1, h2] at h hE; exact curT_cut h hE
  | false =>
  cases h3 : cDig ((v.getD 0 0).toNat : Nat) with
  | true => rw [h1, h2, h3] at h hE; exact nbrT_cut h hE nd
  | false =>
  cases h4 : ((v.getD 0 0).toNat : Int) == 34 with
  | true => rw [h1, h2, h3, h4] at h hE; exact quoT_cut hv h hE
  | false => rw [h1, h2, h3, h4] at hE; exact signT_cut hv hE
end
end Go.Proofs.YtommhgmlblecnaaGreatDoor
namespace Go.Proofs.YtommhgmlblecnaaGreatDoor
open Go Go.RowKit

theorem eq35 {x : UInt8} (h : ((x.toNat : Int) == 35) = true) : x = 35 := by
  have : (x.toNat : Int) = 35 := by simpa using h
  exact UInt8.toNat_inj.1 (by rw [show (35 : UInt8).toNat = 35 from rfl]; omega)
/-- A gap that another token ends: whatever comes behind it, it is passed by. -/
theorem sk_closed (Y X : List UInt8) (y : UInt8) (hb : cBlank (y.toNat : Nat) = false) : ∀ (n : Nat) (g : List UInt8), g.length ≤ n → sk (g ++ y :: Y) = g.length → sk (g ++ X) = g.length + sk X
  | 0, g, hn, h => by
    obtain rfl : g = [] := List.eq_nil_of_length_eq_zero (Nat.le_zero.1 hn)
    simp
  | n + 1, [], _, h => by simp
  | n + 1, x :: g, hn, h => by
    simp only [List.length_cons] at hn h ⊢
    rw [List.cons_append] at h ⊢
    cases h1 : cBlank (x.toNat : Nat) with
    | true =>
      rw [sk_blank x _ h1] at h ⊢
      rw [sk_closed Y X y hb n g (by omega) (by omega)]
      omega
    | false =>
      cases h2 : (x.toNat : Int) == 35 with
      | false => rw [sk_other x _ h1 h2] at h; omega
      | true =>
        obtain rfl := eq35 h2
        rw [sk_line] at h ⊢
        have hA := bhd_adv (C := cLine) (l := 35 :: (g ++ y :: Y)) (i := 0) (c := 35) rfl (by decide)
        have hB : bhd cLine (35 :: (g ++ y :: Y)) 0 ≤ (35 :: g).length := by simp only [List.length_cons]; omega
        have e1 : bhd cLine (35 :: g) 0 = bhd cLine (35 :: (g ++ y :: Y)) 0 := bhd_shr (v := 35 :: g) (r := y :: Y) (Nat.zero_le _) hB
        have hL : bhd cLine (35 :: g) 0 < (35 :: g).length := by
          rcases Nat.lt_or_ge (bhd cLine (35 :: g) 0) (35 :: g).length with h3 | h3
          · exact h3
          · have e3 : bhd cLine (35 :: (g ++ y :: Y)) 0 = (35 :: g).length := by omega
            have h4 := bhd_stop (C := cLine) (l := 35 :: (g ++ y :: Y)) (i := 0) (x := y) (by rw [e3, ← List.cons_append]; simp)
            have h5 : cBlank (y.toNat : Nat) = true := by
              unfold cLine at h4
              have : (y.toNat : Int) = 10 := by simpa using h4
              unfold cBlank
              rw [this]; rfl
            rw [hb] at h5; cases h5
        have e2 : bhd cLine (35 :: (g ++ X)) 0 = bhd cLine (35 :: g) 0 := bhd_ext2 (u := 35 :: g) (r := X) (Nat.zero_le _) hL
        rw [e2]
        rw [← e1, ← List.cons_append, List.drop_append_of_le_length (by omega)] at h
        rw [← List.cons_append, List.drop_append_of_le_length (by omega)]
        have hd : ((35 :: g).drop (bhd cLine (35 :: g) 0)).length = g.length + 1 - bhd cLine (35 :: g) 0 := by rw [List.length_drop]; rfl
        simp only [List.length_cons] at hL
        rw [sk_closed Y X y hb n _ (by rw [hd]; omega) (by rw [hd]; omega), hd]
        omega
/-- A gap at a text's end, where what comes behind may be taken into a remark or not. -/
theorem sk_open (X : List UInt8) (hX : bhd cLine X 0 + sk (X.drop (bhd cLine X 0)) = sk X) : ∀ (n : Nat) (g : List UInt8), g.length ≤ n → sk g = g.length → sk (g ++ X) = g.length + sk X
  | 0, g, hn, h => by
    obtain rfl : g = [] := List.eq_nil_of_length_eq_zero (Nat.le_zero.1 hn)
    simp
  | n + 1, [], _, h => by simp
  | n + 1, x :: g, hn, h => by
    simp only [List.length_cons] at hn h ⊢
    rw [List.cons_append]
    cases h1 : cBlank (x.toNat : Nat) with
    | true =>
      rw [sk_blank x _ h1] at h ⊢
      rw [sk_open X hX n g (by omega) (by omega)]
      omega
    | false =>
      cases h2 : (x.toNat : Int) == 35 with
      | false => rw [sk_other x _ h1 h2] at h; omega
      | true =>
        obtain rfl := eq35 h2
        rw [sk_line] at h ⊢
        have hA := bhd_adv (C := cLine) (l := 35 :: g) (i := 0) (c := 35) rfl (by decide)
        have hB := bhd_le cLine (35 :: g) (i := 0) (Nat.zero_le _)
        have hd : ((35 :: g).drop (bhd cLine (35 :: g) 0)).length = g.length + 1 - bhd cLine (35 :: g) 0 := by rw [List.length_drop]; rfl
        rcases Nat.lt_or_ge (bhd cLine (35 :: g) 0) (35 :: g).length with h3 | h3
        · have e2 : bhd cLine (35 :: (g ++ X)) 0 = bhd cLine (35 :: g) 0 := bhd_ext2 (u := 35 :: g) (r := X) (Nat.zero_le _) h3
          rw [e2, ← List.cons_append, List.drop_append_of_le_length (by omega)]
          simp only [List.length_cons] at h3
          rw [sk_open X hX n _ (by rw [hd]; omega) (by rw [hd]; omega), hd]
          omega
        · have e3 : bhd cLine (35 :: g) 0 = (35 :: g).length := by omega
          have e4 : bhd cLine (35 :: (g ++ X)) 0 = (35 :: g).length + bhd cLine X 0 := by
            rw [← List.cons_append]
            unfold bhd at e3 ⊢
            simp only [List.drop_zero, Nat.zero_add] at e3 ⊢
            have hall : ∀ x ∈ (35 :: g), (fun c : UInt8 => cLine (c.toNat : Nat)) x = true := by
              intro x hx
              obtain ⟨k, hk⟩ := List.mem_iff_getElem?.1 hx
              exact tw_all cLine _ k x hk (by rw [e3]; exact (List.getElem?_eq_some_iff.1 hk).1)
            rw [List.takeWhile_append_of_pos hall, List.length_append]
          rw [e4, ← List.cons_append, ← List.drop_drop, List.drop_left]
          simp only [List.length_cons]
          omega
/-- Behind a gap that is closed stands a blank's end. -/
theorem gap_last : ∀ (n : Nat) (u : List UInt8), u.length ≤ n → 0 < sk u → ∀ y, u[sk u]? = some y → ∃ x, u[sk u - 1]? = some x ∧ cBlank (x.toNat : Nat) = true
  | 0, u, hn, h, y, hy => by
    obtain rfl : u = [] := List.eq_nil_of_length_eq_zero (Nat.le_zero.1 hn)
    simp at hy
  | n + 1, [], _, h, y, hy => by simp at hy
  | n + 1, x :: u, hn, h, y, hy => by
    simp only [List.length_cons] at hn
    cases h1 : cBlank (x.toNat : Nat) with
    | true =>
      rw [sk_blank x _ h1] at h hy ⊢
      rcases Nat.eq_zero_or_pos (sk u) with h2 | h2
      · rw [h2]; exact ⟨x, rfl, h1⟩
      · obtain ⟨z, hz, hz2⟩ := gap_last n u (by omega) h2 y (by rw [Nat.add_comm] at hy; simpa using hy)
        refine ⟨z, ?_, hz2⟩
        rw [show 1 + sk u - 1 = (sk u - 1) + 1 by omega]
        simpa using hz
    | false =>
      cases h2 : (x.toNat : Int) == 35 with
      | false => rw [sk_other x _ h1 h2] at h; omega
      | true =>
        obtain rfl := eq35 h2
        have hA := bhd_adv (C := cLine) (l := 35 :: u) (i := 0) (c := 35) rfl (by decide)
        rw [sk_line] at hy ⊢
        obtain ⟨b, hb⟩ : ∃ b, bhd cLine (35 :: u) 0 = b := ⟨_, rfl⟩
        have hstop := fun z => bhd_stop (C := cLine) (l := 35 :: u) (i := 0) (x := z)
        rw [hb] at hy hA hstop ⊢
        have hlt : b + sk ((35 :: u).drop b) < (35 :: u).length := (List.getElem?_eq_some_iff.1 hy).1
        obtain ⟨z, hz⟩ : ∃ z, (35 :: u)[b]? = some z := ⟨(35 :: u)[b]'(by omega), by simp⟩
        have hz1 := hstop z hz
        have hz2 : cBlank (z.toNat : Nat) = true := by
          unfold cLine at hz1
          have : (z.toNat : Int) = 10 := by simpa using hz1
          unfold cBlank
          rw [this]; rfl
        have hdr : (35 :: u).drop b = z :: (35 :: u).drop (b + 1) := by
          rw [List.drop_eq_getElem_cons (by omega)]
          congr 1
          exact (List.getElem?_eq_some_iff.1 hz).2
        have hpos : 0 < sk ((35 :: u).drop b) := by rw [hdr, sk_blank _ _ hz2]; omega
        obtain ⟨q, hq, hq2⟩ := gap_last n ((35 :: u).drop b) (by rw [List.length_drop]; simp only [List.length_cons]; omega) hpos y (by rw [List.getElem?_drop]; exact hy)
        refine ⟨q, ?_, hq2⟩
        rw [List.getElem?_drop] at hq
        rw [show b + sk ((35 :: u).drop b) - 1 = b + (sk ((35 :: u).drop b) - 1) by omega]
        exact hq
/-- The place p does not stand between two digits. -/
def ND (s : List UInt8) (p : Nat) : Prop := ∀ x y, 0 < p → s[p - 1]? = some x → s[p]? = some y → cDig (x.toNat : Nat) = true → cDig (y.toNat : Nat) = true → False
theorem dig_in {y : UInt8} (h : cDig (y.toNat : Nat) = true) : cIn (y.toNat : Nat) = true := by unfold cIn; rw [h]; simp
theorem dig_blank {y : UInt8} (h : cDig (y.toNat : Nat) = true) : cBlank (y.toNat : Nat) = false := by
  unfold cDig at h
  unfold cBlank
  simp only [Bool.and_eq_true, decide_eq_true_eq] at h
  exact decide_eq_false (by omega)
theorem cap_dig {y : UInt8} (h : cCap (y.toNat : Nat) = true) : cDig (y.toNat : Nat) = false := by
  unfold cCap at h
  unfold cDig
  simp only [Bool.and_eq_true, decide_eq_true_eq] at h
  rw [Bool.and_eq_false_iff]
  exact .inr (decide_eq_false (by omega))
theorem nd_stop {C : Int → Bool} {l : List UInt8} {i : Nat} (hC : ∀ y : UInt8, cDig (y.toNat : Nat) = true → C (y.toNat : Nat) = true) : ND l (bhd C l i) := by
  intro x y _ _ hy _ hd
  have := bhd_stop hy
  rw [hC y hd] at this
  cases this
theorem gD {l : List UInt8} {i : Nat} {x : UInt8} (h : l[i]? = some x) : l.getD i 0 = x := by simp [List.getD, h]
def NDq (l : List UInt8) (q : Tk × Int) : Prop := q.2 = 0 → ND l q.1.e.toNat
section
variable {l : List UInt8}
theorem NDq.bad {t : Tk} {n : Int} (h : n ≠ 0) : NDq l (t, n) := fun h1 => absurd h1 h
theorem NDq.ite {c : Bool} {q r : Tk × Int} (h1 : c = true → NDq l q) (h2 : c = false → NDq l r) : NDq l (bif c then q else r) := by
  cases c with
  | true => exact h1 rfl
  | false => exact h2 rfl
theorem nameT_nd : NDq l (nameT l 0) := NDq.ite (fun _ => NDq.ite (fun _ _ => nd_stop (i := bhd cIn l 0 + 1) fun _ => dig_in) fun _ => NDq.bad (by decide)) fun _ => NDq.ite (fun _ _ => nd_stop (i := 0) fun _ => dig_in) fun _ => NDq.bad (by decide)
theorem curT_nd : NDq l (curT l 0) := by
  refine NDq.ite (fun _ => NDq.bad (by decide)) fun hA _ x y h0 hx hy hd _ => ?_
  have h3 : bhd cCap l 0 = 3 := by have : (bhd cCap l 0 : Int) - ((0 : Nat) : Int) = 3 := by simpa using hA
                                   omega
  have e : (((bhd cCap l 0 : Nat) : Int)).toNat = bhd cCap l 0 := Int.toNat_natCast _
  simp only [e] at hx h0
  have := cap_dig (bhd_all (C := cCap) hx (Nat.zero_le _) (by omega))
  rw [hd] at this
  cases this
seal parseL dPar in
theorem nbrT_nd : NDq l (nbrT l 0) := by
  refine NDq.ite (fun _ => NDq.bad (by decide)) fun _ => ?_
  unfold nodT
  cases hk : lkD (l.drop 0) with
  | true =>
    intro _ x y _ _ hy _ hd
    have e : (((0 + 10 : Nat) : Int)).toNat = 10 := rfl
    simp only [cond_true, dateT, e] at hy
    rw [List.drop_zero] at hk
    have hlen := (List.getElem?_eq_some_iff.1 hy).1
    unfold lkD at hk
    rw [gD hy, hd, decide_eq_true (show (l.length : Int) > 10 by omega)] at hk
    simp at hk
  | false =>
    intro _
    have e : ((numT l 0).1.e).toNat = numE l 0 := by unfold numT; exact Int.toNat_natCast _
    simp only [cond_false]
    rw [e]
    unfold numE
    cases decide (((bhd cDig l (bhd cDig l 0 + 1) : Nat) : Int) > ((bhd cDig l 0 + 1 : Nat) : Int)) && (((l.getD (bhd cDig l 0) 0).toNat : Int) == 46) with
    | true => exact nd_stop fun _ h => h
    | false => exact nd_stop fun _ h => h
theorem quoT_nd : NDq l (quoT l 0) := by
  refine NDq.ite (fun _ => NDq.bad (by decide)) fun hA => NDq.ite (fun _ _ x y h0 hx hy hd _ => ?_) fun _ => NDq.bad (by decide)
  rw [Bool.or_eq_false_iff] at hA
  have e : (((bhd cStr l (0 + 1) + 1 : Nat) : Int)).toNat - 1 = bhd cStr l (0 + 1) := by rw [Int.toNat_natCast]; rfl
  simp only [e] at hx
  have h34 := hA.2
  rw [gD hx] at h34
  have : (x.toNat : Int) = 34 := by simpa using h34
  unfold cDig at hd
  rw [this] at hd
  cases hd
theorem signT_nd (h0 : cDig ((l.getD 0 0).toNat : Nat) = false) : NDq l (signT l 0) := by
  refine NDq.ite (fun hA _ x y _ hx _ hd _ => ?_) fun _ => NDq.ite (fun _ => NDq.bad (by decide)) fun _ _ x y _ hx _ hd _ => ?_
  · have e : (((0 + 2 : Nat) : Int)).toNat - 1 = 1 := rfl
    simp only [e] at hx
    rw [List.drop_zero] at hA
    unfold Lib.hasPrefix at hA
    match l, hx, hA with
    | p :: q :: l, hx, hA =>
      simp [List.isPrefixOf] at hx hA
      rw [← hx, ← hA.2] at hd
      cases hd
  · have e : (((0 + 1 : Nat) : Int)).toNat - 1 = 0 := rfl
    simp only [e] at hx
    rw [gD hx, hd] at h0
    cases h0
seal parseL dPar in
/-- No right token ends between two digits. -/
theorem anyT_nd : NDq l (anyT l 0) := by
  unfold anyT
  exact NDq.ite (fun _ => nameT_nd) fun _ => NDq.ite (fun _ => curT_nd) fun _ => NDq.ite (fun _ => nbrT_nd) fun h3 => NDq.ite (fun _ => quoT_nd) fun _ => signT_nd h3
end
end Go.Proofs.YtommhgmlblecnaaGreatDoor
namespace Go.Proofs.YtommhgmlblecnaaGreatDoor
open Go Go.RowKit

def marksL : List (List UInt8) := [[32], [10, 10], [35, 32, 120, 10], [32, 9, 35, 32, 40, 32, 59, 32, 34, 32, 10], []]
def outF (s : List UInt8) (mk : Nat → List UInt8) : Nat → List Nat → List UInt8
  | _, [] => []
  | j, a :: r => mk j ++ (cutL s a (r.headD s.length) ++ outF s mk (j + 1) r)
def stF (s : List UInt8) (bs : List Tk) : List Nat := bs.map (fun t => t.a.toNat) ++ [s.length]
def UF (s : List UInt8) (mk : Nat → List UInt8) (j : Nat) (bs : List Tk) : List UInt8 := outF s mk j (stF s bs) ++ [10, 41]
def Brk (s : List UInt8) (a : Nat) (X : List UInt8) : Prop := ∃ q c r, X = (s.drop a).take q ++ c :: r ∧ brk c = true ∧ a + q ≤ s.length ∧ ND s (a + q)
theorem mark_brk {m : List UInt8} (h : m ∈ marksL) : m = [] ∨ ∃ c r, m = c :: r ∧ brk c = true := by
  simp only [marksL, List.mem_cons, List.not_mem_nil, or_false] at h
  rcases h with rfl | rfl | rfl | rfl | rfl
  · exact .inr ⟨_, _, rfl, by decide⟩
  · exact .inr ⟨_, _, rfl, by decide⟩
  · exact .inr ⟨_, _, rfl, by decide⟩
  · exact .inr ⟨_, _, rfl, by decide⟩
  · exact .inl rfl
theorem sk_mark {m : List UInt8} (h : m ∈ marksL) (X : List UInt8) : sk (m ++ X) = m.length + sk X := by
  refine sk_closed [] X 41 (by decide) _ m (Nat.le_refl _) ?_
  simp only [marksL, List.mem_cons, List.not_mem_nil, or_false] at h
  rcases h with rfl | rfl | rfl | rfl | rfl <;> decide
theorem mark_open {m : List UInt8} (h : m ∈ marksL) : bhd cLine (m ++ [10, 41]) 0 + sk ((m ++ [10, 41]).drop (bhd cLine (m ++ [10, 41]) 0)) = sk (m ++ [10, 41]) := by
  simp only [marksL, List.mem_cons, List.not_mem_nil, or_false] at h
  rcases h with rfl | rfl | rfl | rfl | rfl <;> decide
theorem sk_sk : ∀ (n : Nat) (u : List UInt8), u.length ≤ n → sk (u.drop (sk u)) = 0
  | 0, u, hn => by
    obtain rfl : u = [] := List.eq_nil_of_length_eq_zero (Nat.le_zero.1 hn)
    rfl
  | n + 1, [], _ => rfl
  | n + 1, x :: u, hn => by
    simp only [List.length_cons] at hn
    cases h1 : cBlank (x.toNat : Nat) with
    | true =>
      rw [sk_blank x _ h1, Nat.add_comm, List.drop_succ_cons]
      exact sk_sk n u (by omega)
    | false =>
      cases h2 : (x.toNat : Int) == 35 with
      | false => rw [sk_other x _ h1 h2, List.drop_zero, sk_other x _ h1 h2]
      | true =>
        obtain rfl := eq35 h2
        have hA := bhd_adv (C := cLine) (l := 35 :: u) (i := 0) (c := 35) rfl (by decide)
        rw [sk_line, ← List.drop_drop]
        exact sk_sk n _ (by rw [List.length_drop]; simp only [List.length_cons]; omega)
theorem sk_zero {y : UInt8} {u : List UInt8} (h : sk (y :: u) = 0) : cBlank (y.toNat : Nat) = false ∧ ((y.toNat : Int) == 35) = false := by
  cases h1 : cBlank (y.toNat : Nat) with
  | true => rw [sk_blank y _ h1] at h; omega
  | false =>
    cases h2 : (y.toNat : Int) == 35 with
    | false => exact ⟨rfl, rfl⟩
    | true =>
      obtain rfl := eq35 h2
      have hA := bhd_adv (C := cLine) (l := 35 :: u) (i := 0) (c := 35) rfl (by decide)
      rw [sk_line] at h
      omega
theorem nd_drop {s : List UInt8} {a p : Nat} (hp : 0 < p) (h : ND (s.drop a) p) : ND s (a + p) := by
  intro x y _ hx hy
  exact h x y hp (by rw [List.getElem?_drop, show a + (p - 1) = a + p - 1 by omega]; exact hx) (by rw [List.getElem?_drop]; exact hy)
theorem nd_skip {s : List UInt8} {E : Nat} (hE : ND s E) : ND s (E + sk (s.drop E)) := by
  rcases Nat.eq_zero_or_pos (sk (s.drop E)) with h | h
  · rw [h]; exact hE
  · intro x y _ hx hy hd _
    obtain ⟨z, hz, hz2⟩ := gap_last _ (s.drop E) (Nat.le_refl _) h y (by rw [List.getElem?_drop]; exact hy)
    rw [List.getElem?_drop, show E + (sk (s.drop E) - 1) = E + sk (s.drop E) - 1 by omega, hx] at hz
    cases hz
    rw [dig_blank hd] at hz2
    cases hz2
theorem dig_some {l : List UInt8} {i : Nat} (h : cDig ((l.getD i 0).toNat : Nat) = true) : l[i]? = some (l.getD i 0) := by
  cases hx : l[i]? with
  | none =>
    rw [List.getD, hx] at h
    exact absurd h (by decide)
  | some x => rw [gD hx]
seal parseL dPar in
/-- A right token stands the same where the text behind it is laid anew. -/
theorem any_brk {s X : List UInt8} {a q : Nat} {c : UInt8} {r : List UInt8} (hX : X = (s.drop a).take q ++ c :: r) (hc : brk c = true) (hq : a + q ≤ s.length) (hn : ND s (a + q)) (hq0 : 0 < q) (h : (anyT (s.drop a) 0).2 = 0) (hE : (anyT (s.drop a) 0).1.e ≤ (q : Int)) : anyT X 0 = anyT (s.drop a) 0 := by
  have hl : ((s.drop a).take q).length = q := by rw [List.length_take, List.length_drop]; omega
  have e1 : (s.drop a).take q ++ (s.drop a).drop q = s.drop a := List.take_append_drop _ _
  have k1 : anyT ((s.drop a).take q) 0 = anyT (s.drop a) 0 := by
    have := anyT_cut (v := (s.drop a).take q) (r := (s.drop a).drop q) (by omega) (by rw [e1]; exact h) (by rw [e1, hl]; exact hE) (by
      rw [e1, hl]
      intro h10 h9 hd
      subst h10
      have y1 := dig_some hd
      have y0 := dig_some h9
      rw [List.getElem?_drop] at y1
      rw [List.getElem?_take_of_lt (by decide), List.getElem?_drop] at y0
      exact hn _ _ (by omega) (by rw [show a + 10 - 1 = a + 9 by omega]; exact y0) y1 h9 hd)
    rw [this, e1]
  rw [hX, anyT_ext hc (by omega) (by rw [k1]; exact h), k1]
end Go.Proofs.YtommhgmlblecnaaGreatDoor
namespace Go.Proofs.YtommhgmlblecnaaGreatDoor
open Go Go.RowKit

theorem cut_self (s : List UInt8) (n : Nat) : cutL s n n = [] := by unfold cutL; rw [Nat.sub_self]; rfl
theorem UF_nil (s : List UInt8) (mk : Nat → List UInt8) (j : Nat) : UF s mk j [] = mk j ++ [10, 41] := by
  unfold UF stF
  simp only [List.map_nil, List.nil_append, outF, List.headD_nil, cut_self, List.append_nil]
theorem UF_cons (s : List UInt8) (mk : Nat → List UInt8) (j : Nat) (t : Tk) (bs : List Tk) : UF s mk j (t :: bs) = mk j ++ (cutL s t.a.toNat ((stF s bs).headD s.length) ++ UF s mk (j + 1) bs) := by
  unfold UF stF
  simp only [List.map_cons, List.cons_append, outF, List.append_assoc]
seal parseL dPar in
theorem any41 : anyT [41] 0 = (⟨1, [41], 0, 0, 1⟩, 0) := by rfl
theorem shT_ok {c : Nat} {q : Tk × Int} (h : q.2 = 0) : shT c q = (shK c q.1, 0) := by unfold shT; rw [h]; rfl
theorem shT_zero {c : Nat} {q : Tk × Int} (h : (shT c q).2 = 0) : q.2 = 0 := by
  unfold shT at h
  cases h1 : q.2 == 0 with
  | true => simpa using h1
  | false => rw [h1] at h; exact h
/-- The closing parenthesis of a text. -/
def parK (n : Nat) : Tk := ⟨1, [41], 0, (n - 1 : Nat), n⟩
seal parseL dPar in
theorem out_run (s : List UInt8) (mk : Nat → List UInt8) (hmk : ∀ j, mk j ∈ marksL) : ∀ (f a j : Nat) (acc : List Tk), a ≤ s.length → s.length + 1 ≤ f + a → sk (s.drop a) = 0 → (prtF s f a acc).2.1 = 0 → ND s a →
    ∃ bs, prtF s f a acc = (acc ++ bs ++ [endK s.length], 0, 0) ∧ (stF s bs).headD s.length = a ∧ Brk s a (UF s mk j bs) ∧
      ∀ (P : List UInt8) (f' : Nat) (acc' : List Tk), (P ++ UF s mk j bs).length + 1 ≤ f' + (P.length + sk (UF s mk j bs)) → acc'.length + bs.length ≤ 8191 →
        ∃ bs', All2 (TkE fun _ _ => True) bs bs' ∧ prtF (P ++ UF s mk j bs) f' (P.length + sk (UF s mk j bs)) acc' = (acc' ++ bs' ++ [parK (P ++ UF s mk j bs).length, endK (P ++ UF s mk j bs).length], 0, 0)
  | 0, a, j, acc, ha, hf, _, _, _ => by omega
  | f + 1, a, j, acc, ha, hf, hs, hp, hnd => by
    rcases Nat.lt_or_ge a s.length with hlt | hge
    · obtain ⟨h0, h1, h2⟩ := prtF_go hlt hp
      have hfw := anyT_fwd hlt h0
      have hat : (anyT s a).1.a = a := anyT_at h0
      have hdr := anyT_drop s a ha
      have h00 : (anyT (s.drop a) 0).2 = 0 := shT_zero (by rw [← hdr]; exact h0)
      have hndq : ND (s.drop a) (anyT (s.drop a) 0).1.e.toNat := anyT_nd h00
      rw [shT_ok h00] at hdr
      obtain ⟨t0, ht0⟩ : ∃ t0, (anyT (s.drop a) 0).1 = t0 := ⟨_, rfl⟩
      obtain ⟨E, hE, hE1, hE2⟩ := hfw
      rw [hE, Int.toNat_natCast] at h2
      rw [h2] at hp ⊢
      rw [hdr, ht0] at hat hE
      rw [ht0] at hndq
      have ht1 : (anyT s a).1 = shK a t0 := by rw [hdr, ht0]
      rw [ht1] at hp ⊢
      have he0 : t0.e = ((E - a : Nat) : Int) := by have : t0.e + (a : Int) = E := hE
                                                    omega
      rw [he0, Int.toNat_natCast] at hndq
      have hndE : ND s E := by have := nd_drop (by omega) hndq; rwa [show a + (E - a) = E by omega] at this
      have hskE : skip s E = E + sk (s.drop E) := skip_drop s E
      have hb2 := (skip_in s hE2).2
      have hndb := nd_skip hndE
      have hsb : sk (s.drop (E + sk (s.drop E))) = 0 := by rw [← List.drop_drop]; exact sk_sk _ _ (Nat.le_refl _)
      rw [hskE] at hp hb2 ⊢
      obtain ⟨b, hb⟩ : ∃ b, E + sk (s.drop E) = b := ⟨_, rfl⟩
      rw [hb] at hp hb2 hsb hndb ⊢
      obtain ⟨bs, e1, hd, hB, hrun⟩ := out_run s mk hmk f b (j + 1) (acc ++ [shK a t0]) hb2 (by omega) hsb hp hndb
      have hU : UF s mk j (shK a t0 :: bs) = mk j ++ (cutL s a b ++ UF s mk (j + 1) bs) := by
        have hat' : (shK a t0).a.toNat = a := by
          have : (shK a t0).a = a := hat
          rw [this]; rfl
        rw [UF_cons, hd, hat']
      obtain ⟨q, c, r, hV, hc, hq, hnq⟩ := hB
      have hcut : cutL s a b = (s.drop a).take (b - a) := rfl
      have hX : cutL s a b ++ UF s mk (j + 1) bs = (s.drop a).take (b - a + q) ++ c :: r := by
        rw [hV, hcut, List.take_add, List.drop_drop, show a + (b - a) = b by omega, List.append_assoc]
      have hnq' : ND s (a + (b - a + q)) := by rw [show a + (b - a + q) = b + q by omega]; exact hnq
      have hany : anyT (cutL s a b ++ UF s mk (j + 1) bs) 0 = anyT (s.drop a) 0 := any_brk hX hc (by omega) hnq' (by omega) h00 (by rw [ht0, he0]; omega)
      refine ⟨shK a t0 :: bs, by rw [e1]; simp, ?_, ?_, ?_⟩
      · have : (shK a t0).a = a := hat
        simp [stF, this]
      · rw [hU]
        rcases mark_brk (hmk j) with hm | ⟨c', r', hm, hc'⟩
        · rw [hm, List.nil_append]
          exact ⟨b - a + q, c, r, hX, hc, by omega, hnq'⟩
        · rw [hm]
          exact ⟨0, c', r' ++ (cutL s a b ++ UF s mk (j + 1) bs), by simp, hc', by omega, hnd⟩
      · intro P f' acc' hf' ha'
        rw [hU] at hf' ⊢
        rw [sk_mark (hmk j)] at hf' ⊢
        obtain ⟨m, hm⟩ : ∃ m, mk j = m := ⟨_, rfl⟩
        rw [hm] at hf' ⊢
        obtain ⟨V, hVe⟩ : ∃ V, UF s mk (j + 1) bs = V := ⟨_, rfl⟩
        have hclen : (cutL s a b).length = b - a := by rw [hcut, List.length_take, List.length_drop]; omega
        -- the place of the token
        have hskX : sk (cutL s a b ++ UF s mk (j + 1) bs) = 0 := by
          obtain ⟨y, u, hy⟩ : ∃ y u, s.drop a = y :: u := ⟨s[a], s.drop (a + 1), List.drop_eq_getElem_cons hlt⟩
          rw [hy] at hs
          obtain ⟨z1, z2⟩ := sk_zero hs
          rw [hcut, hy]
          obtain ⟨k, hk⟩ : ∃ k, b - a = k + 1 := ⟨b - a - 1, by omega⟩
          rw [hk, List.take_succ_cons, List.cons_append]
          exact sk_other y _ z1 z2
        rw [hskX] at hf' ⊢
        simp only [Nat.add_zero] at hf' ⊢
        have hgap : sk (cutL s E b ++ UF s mk (j + 1) bs) = (b - E) + sk (UF s mk (j + 1) bs) := by
          have hgl : (cutL s E b).length = b - E := by unfold cutL; rw [List.length_take, List.length_drop]; omega
          have hsp : s.drop E = cutL s E b ++ s.drop b := by
            have := (List.take_append_drop (b - E) (s.drop E)).symm
            rwa [List.drop_drop, show E + (b - E) = b by omega] at this
          rcases Nat.lt_or_ge b s.length with hbl | hbl
          · obtain ⟨y, u, hy⟩ : ∃ y u, s.drop b = y :: u := ⟨s[b], s.drop (b + 1), List.drop_eq_getElem_cons hbl⟩
            rw [hy] at hsb
            have := sk_closed u (UF s mk (j + 1) bs) y (sk_zero hsb).1 _ (cutL s E b) (Nat.le_refl _) (by rw [← hy, ← hsp, hgl]; omega)
            rw [this, hgl]
          · have hbs : bs = [] := by
              obtain ⟨f0, rfl⟩ : ∃ f0, f = f0 + 1 := ⟨f - 1, by omega⟩
              rw [prtF_end hbl] at e1
              have := congrArg (fun q => q.1.length) e1
              simp at this
              exact this
            rw [hbs, UF_nil]
            have hsp' : s.drop E = cutL s E b := by rw [hsp, List.drop_eq_nil_of_le hbl, List.append_nil]
            have := sk_open (mk (j + 1) ++ [10, 41]) (mark_open (hmk (j + 1))) _ (cutL s E b) (Nat.le_refl _) (by rw [hgl]; rw [hsp'] at hb; omega)
            rw [this, hgl]
        obtain ⟨X, hXe⟩ : ∃ X, cutL s a b ++ UF s mk (j + 1) bs = X := ⟨_, rfl⟩
        rw [hXe] at hf' hany ⊢
        have hdrop : (P ++ (m ++ X)).drop (P.length + m.length) = X := by rw [← List.append_assoc, ← List.length_append, List.drop_left]
        have hXl : X.length = (b - a) + (UF s mk (j + 1) bs).length := by rw [← hXe, List.length_append, hclen]
        have hUl : 2 ≤ (UF s mk (j + 1) bs).length := by unfold UF; simp
        have hi : P.length + m.length < (P ++ (m ++ X)).length := by simp only [List.length_append]; omega
        have hto : anyT (P ++ (m ++ X)) (P.length + m.length) = (shK (P.length + m.length) t0, 0) := by
          rw [anyT_drop _ _ (by omega), hdrop, hany, shT_ok h00, ht0]
        obtain ⟨f', rfl⟩ : ∃ f0, f' = f0 + 1 := ⟨f' - 1, by omega⟩
        rw [prtF_step hi (by rw [hto]) (by omega), hto]
        have hen : (shK (P.length + m.length) t0).e.toNat = P.length + m.length + (E - a) := by
          show (t0.e + ((P.length + m.length : Nat) : Int)).toNat = _
          rw [he0]; omega
        simp only [hen]
        have hdE : (P ++ (m ++ X)).drop (P.length + m.length + (E - a)) = cutL s E b ++ UF s mk (j + 1) bs := by
          rw [← List.drop_drop, hdrop, ← hXe, List.drop_append_of_le_length (by omega)]
          congr 1
          rw [hcut, List.drop_take, List.drop_drop, show a + (E - a) = E by omega]
          unfold cutL
          congr 1
          omega
        have hnext : skip (P ++ (m ++ X)) (P.length + m.length + (E - a)) = (P ++ (m ++ cutL s a b)).length + sk (UF s mk (j + 1) bs) := by
          rw [skip_drop, hdE, hgap]
          simp only [List.length_append, hclen]
          omega
        have hout : P ++ (m ++ X) = (P ++ (m ++ cutL s a b)) ++ UF s mk (j + 1) bs := by rw [← hXe]; simp only [List.append_assoc]
        rw [hnext, hout]
        obtain ⟨bs', g1, g2⟩ := hrun (P ++ (m ++ cutL s a b)) f' (acc' ++ [shK (P.length + m.length) t0]) (by rw [← hout]; simp only [List.length_append, hclen] at hf' hXl ⊢; omega) (by simp only [List.length_append, List.length_cons, List.length_nil] at ha' ⊢; omega)
        refine ⟨shK (P.length + m.length) t0 :: bs', .cons ⟨rfl, rfl, rfl, trivial⟩ g1, ?_⟩
        rw [g2]
        simp
    · obtain rfl : a = s.length := by omega
      refine ⟨[], by rw [prtF_end (Nat.le_refl _)]; simp, by simp [stF], ?_, ?_⟩
      · rw [UF_nil]
        rcases mark_brk (hmk j) with hm | ⟨c', r', hm, hc'⟩
        · rw [hm]
          exact ⟨0, 10, [41], by simp, by decide, by omega, hnd⟩
        · rw [hm]
          exact ⟨0, c', r' ++ [10, 41], by simp, hc', by omega, hnd⟩
      · intro P f' acc' hf' ha'
        rw [UF_nil, sk_mark (hmk j), show sk [10, 41] = 1 by decide] at hf' ⊢
        obtain ⟨m, hm⟩ : ∃ m, mk j = m := ⟨_, rfl⟩
        rw [hm] at hf' ⊢
        have hL : (P ++ (m ++ [10, 41])).length = P.length + (m.length + 1) + 1 := by simp only [List.length_append, List.length_cons, List.length_nil]; omega
        have hdrop : (P ++ (m ++ [10, 41])).drop (P.length + (m.length + 1)) = [41] := by
          rw [show P ++ (m ++ [10, 41]) = (P ++ (m ++ [10])) ++ [41] by simp, show P.length + (m.length + 1) = (P ++ (m ++ [10])).length by simp, List.drop_left]
        have hto : anyT (P ++ (m ++ [10, 41])) (P.length + (m.length + 1)) = (parK (P ++ (m ++ [10, 41])).length, 0) := by
          rw [anyT_drop _ _ (by omega), hdrop, any41, shT_ok rfl, hL]
          simp [shK, parK]
          omega
        obtain ⟨f', rfl⟩ : ∃ f0, f' = f0 + 1 + 1 := ⟨f' - 2, by omega⟩
        rw [prtF_step (by omega) (by rw [hto]) (by simp only [List.length_nil] at ha'; omega), hto]
        have hen : (parK (P ++ (m ++ [10, 41])).length).e.toNat = (P ++ (m ++ [10, 41])).length := Int.toNat_natCast _
        simp only [hen]
        rw [skip_end (Nat.le_refl _), prtF_end (Nat.le_refl _)]
        exact ⟨[], .nil, by simp⟩
end Go.Proofs.YtommhgmlblecnaaGreatDoor
