/- the text YDeepM -/
import Derived.Test.YtommhgmlblecnaaDoorYGf
namespace Go.Proofs.YtommhgmlblecnaaDoor
open Go Go.RowKit

/-- A number alone. -/
theorem expr_num {ts : List Tk} {f m : Nat} {s : RS} {t : Tk} (hm : m ≤ 300) (ht : tkAt ts s = t) (hk : t.k = 6) (hn : lone (tkAt ts (rNext s))) : exprP ts (f + 1) m s = (⟨.mk 5 [] t.n [] t.a, 1⟩, rNext s) := by
  have his : ∀ ws, (tkAt ts s).is ws = false := fun ws => by rw [ht]; unfold Tk.is; rw [hk]; rfl
  have hat : ∀ ex, atomP ts ex s = (⟨.mk 5 [] t.n [] t.a, 1⟩, rNext s) := by
    intro ex
    have e1 : rTake ts s = rNext s := by unfold rTake; rw [ht, hk]; rfl
    unfold atomP
    simp only
    rw [e1, ht, hk]
    rfl
  rw [expr_or hm (by rw [ht]; unfold Tk.begins; rw [hk]; rfl) (his _), or_lone (his _) (his _) (by rw [hat]; exact hn), hat]
theorem prod_num {ts : List Tk} {en : Nat → RS → TD × RS} {m : Nat} {s : RS} {t : Tk} (ht : tkAt ts s = t) (hk : t.k = 6) (hn : (tkAt ts (rNext s)).is [[42], [47]] = false) : prodP ts en m s = (⟨.mk 5 [] t.n [] t.a, 1⟩, rNext s) := by
  have his : ∀ ws, (tkAt ts s).is ws = false := fun ws => by rw [ht]; unfold Tk.is; rw [hk]; rfl
  have hat : ∀ ex, atomP ts ex s = (⟨.mk 5 [] t.n [] t.a, 1⟩, rNext s) := by
    intro ex
    have e1 : rTake ts s = rNext s := by unfold rTake; rw [ht, hk]; rfl
    unfold atomP
    simp only
    rw [e1, ht, hk]
    rfl
  rw [prod_lone (his _) (by rw [hat]; exact hn), hat]
/-- So many parentheses. -/
def tP (c : UInt8) : Nat → Nat → List Tk
  | 0, _ => []
  | k + 1, i => ⟨1, [c], 0, i, (i + 1 : Nat)⟩ :: tP c k (i + 1)
theorem tP_len (c : UInt8) : ∀ k i, (tP c k i).length = k
  | 0, _ => rfl
  | k + 1, i => by simp [tP, tP_len c k (i + 1)]
theorem tP_get (c : UInt8) : ∀ (k i j : Nat), j < k → (tP c k i)[j]? = some ⟨1, [c], 0, (i + j : Nat), (i + j + 1 : Nat)⟩
  | 0, _, _, h => by omega
  | k + 1, i, 0, _ => rfl
  | k + 1, i, j + 1, h => by
    rw [tP, List.getElem?_cons_succ, tP_get c k (i + 1) j (by omega)]
    rw [show i + 1 + j = i + (j + 1) by omega]
theorem tok_sign (c : UInt8) (hc : c = 40 ∨ c = 41) (u : List UInt8) : anyT (c :: u) 0 = (⟨1, [c], 0, 0, 1⟩, 0) ∧ sk (c :: u) = 0 := by
  rcases hc with rfl | rfl
  · exact ⟨rfl, sk_other _ _ (by decide) (by decide)⟩
  · exact ⟨rfl, sk_other _ _ (by decide) (by decide)⟩
theorem runs_sign (l : List UInt8) (c : UInt8) (hc : c = 40 ∨ c = 41) (rest : List UInt8) (hr : sk rest = 0) : ∀ (k f i : Nat) (acc : List Tk), l.drop i = List.replicate k c ++ rest → acc.length + k ≤ 8192 → prtF l (f + k) i acc = prtF l f (i + k) (acc ++ tP c k i)
  | 0, f, i, acc, _, _ => by simp [tP]
  | k + 1, f, i, acc, hd, hl => by
    have hd' : l.drop i = c :: (List.replicate k c ++ rest) := by rw [hd]; rfl
    have hi : i < l.length := by
      rcases Nat.lt_or_ge i l.length with h | h
      · exact h
      · rw [List.drop_of_length_le h] at hd'; cases hd'
    have ha : anyT l i = (⟨1, [c], 0, i, (i + 1 : Nat)⟩, 0) := by
      rw [anyT_drop l i (by omega), hd', (tok_sign c hc _).1]
      simp [shT, shK, Int.add_comm]
    have hd2 : l.drop (i + 1) = List.replicate k c ++ rest := by
      rw [← List.drop_drop, hd']
      rfl
    have hs : skip l (i + 1) = i + 1 := by
      rw [skip_drop, hd2]
      cases k with
      | zero => simp [hr]
      | succ k => rw [List.replicate_succ, List.cons_append, (tok_sign c hc _).2]
    rw [show f + (k + 1) = (f + k) + 1 by omega, prtF_step hi (by rw [ha]) (by omega), ha]
    simp only [Int.toNat_natCast]
    rw [hs, runs_sign l c hc rest hr k f (i + 1) _ hd2 (by simp; omega)]
    rw [show i + 1 + k = i + (k + 1) by omega]
    simp [tP]
def txP (n : Nat) : List UInt8 := List.replicate n 40 ++ 49 :: List.replicate n 41
def tsP (n : Nat) : List Tk := tP 40 n 0 ++ (⟨6, [], 1000000, n, (n + 1 : Nat)⟩ :: tP 41 n (n + 1) ++ [endK (n + 1 + n)])
theorem tok_one_shut (k : Nat) : anyT (49 :: List.replicate k 41) 0 = (⟨6, [], 1000000, 0, 1⟩, 0) := by
  cases k with
  | zero => kernel_rfl
  | succ k =>
    have e : (49 :: List.replicate (k + 1) (41 : UInt8)) = 49 :: 41 :: List.replicate k 41 := rfl
    have hk : lkD (49 :: 41 :: List.replicate k 41) = false := by
      unfold lkD
      rw [Bool.and_eq_false_iff]
      refine .inr (List.all_eq_false.2 ⟨1, by simp, ?_⟩)
      have : misfit ((49 :: 41 :: List.replicate k 41 : List UInt8).getD 1 0) (dForm.getD 1 0) = true := rfl
      rw [this]
      simp
    have hb : bhd cDig (49 :: 41 :: List.replicate k 41) 0 = 1 := rfl
    have hE : numE (49 :: 41 :: List.replicate k 41) 0 = 1 := by
      unfold numE
      rw [hb]
      have : ((((49 :: 41 :: List.replicate k 41 : List UInt8).getD 1 0).toNat : Int) == 46) = false := rfl
      rw [this, Bool.and_false]
      rfl
    have hN : nodT (49 :: 41 :: List.replicate k 41) 0 = (⟨6, [], 1000000, 0, 1⟩, true) := by
      unfold nodT
      rw [List.drop_zero, hk]
      simp only [cond_false]
      unfold numT
      rw [hE]
      have : cutL (49 :: 41 :: List.replicate k 41) 0 1 = [49] := rfl
      have hp : parseL [49] = (1000000, true) := by kernel_rfl
      rw [this, hp]
      rfl
    rw [e]
    have : anyT (49 :: 41 :: List.replicate k 41) 0 = nbrT (49 :: 41 :: List.replicate k 41) 0 := rfl
    rw [this]
    unfold nbrT
    rw [hN]
    have hbad : cBad (((49 :: 41 :: List.replicate k 41 : List UInt8).getD (1 : Int).toNat 0).toNat : Nat) = false := rfl
    simp only [hbad, Bool.and_false, Bool.not_true, Bool.or_false, cond_false]
theorem prt_P (n : Nat) (hn : n ≤ 400) : prt (txP n) = (tsP n, 0, 0) := by
  have hlen : (txP n).length = 2 * n + 1 := by simp [txP]; omega
  have hs0 : skip (txP n) 0 = 0 := by
    rw [skip_drop, List.drop_zero]
    unfold txP
    cases n with
    | zero => rfl
    | succ n => rw [List.replicate_succ, List.cons_append, (tok_sign 40 (.inl rfl) _).2]
  rw [prt_short (by omega), hs0, hlen]
  rw [show 2 * n + 1 + 1 = (n + 2) + n by omega]
  rw [runs_sign (txP n) 40 (.inl rfl) (49 :: List.replicate n 41) (sk_other _ _ (by decide) (by decide)) n (n + 2) 0 [] rfl (by simp; omega), Nat.zero_add]
  have hd : (txP n).drop n = 49 :: List.replicate n 41 := by
    unfold txP
    rw [List.drop_append_of_le_length (by simp)]
    simp
  have ha : anyT (txP n) n = (⟨6, [], 1000000, n, (n + 1 : Nat)⟩, 0) := by
    rw [anyT_drop _ _ (by omega), hd, tok_one_shut]
    simp [shT, shK, Int.add_comm]
  have hd2 : (txP n).drop (n + 1) = List.replicate n 41 ++ [] := by
    rw [← List.drop_drop, hd]
    simp
  have hs : skip (txP n) (n + 1) = n + 1 := by
    rw [skip_drop, hd2, List.append_nil]
    cases n with
    | zero => rfl
    | succ n => rw [List.replicate_succ, (tok_sign 41 (.inr rfl) _).2]
  rw [show n + 2 = (n + 1) + 1 by omega, prtF_step (by omega) (by rw [ha]) (by simp [tP_len]; omega), ha]
  simp only [Int.toNat_natCast]
  rw [hs, show n + 1 = 1 + n by omega, runs_sign (txP n) 41 (.inr rfl) [] rfl n 1 (1 + n) _ (by rw [show 1 + n = n + 1 by omega]; exact hd2) (by simp [tP_len]; omega)]
  rw [prtF_end (by omega), hlen]
  unfold tsP
  rw [show 1 + n = n + 1 by omega, show 2 * n + 1 = n + 1 + n by omega]
  simp
section
variable {n : Nat}
theorem atP_open {j : Nat} (hj : j < n) (p : Int) : tkAt (tsP n) ⟨j, 0, p⟩ = ⟨1, [40], 0, j, (j + 1 : Nat)⟩ := by
  unfold tkAt tsP List.getD
  rw [List.getElem?_append_left (by rw [tP_len]; exact hj), tP_get 40 n 0 j hj]
  simp
theorem atP_num (p : Int) : tkAt (tsP n) ⟨n, 0, p⟩ = ⟨6, [], 1000000, n, (n + 1 : Nat)⟩ := by
  unfold tkAt tsP List.getD
  rw [List.getElem?_append_right (by rw [tP_len]; exact Nat.le_refl _), tP_len]
  simp
theorem atP_shut {j : Nat} (h1 : n < j) (h2 : j ≤ n + n) (p : Int) : ∃ a e, tkAt (tsP n) ⟨j, 0, p⟩ = ⟨1, [41], 0, a, e⟩ := by
  obtain ⟨i, rfl⟩ : ∃ i, j = n + (i + 1) := ⟨j - n - 1, by omega⟩
  simp only [tkAt, tsP, List.getD]
  rw [List.getElem?_append_right (by rw [tP_len]; omega), tP_len, show n + (i + 1) - n = i + 1 by omega, List.cons_append, List.getElem?_cons_succ, List.getElem?_append_left (by rw [tP_len]; omega), tP_get 41 n (n + 1) i (by omega)]
  exact ⟨_, _, rfl⟩
theorem atP_end (p : Int) : (tkAt (tsP n) ⟨n + n + 1, 0, p⟩).k = 0 := by
  simp only [tkAt, tsP, List.getD]
  rw [List.getElem?_append_right (by rw [tP_len]; omega), tP_len, show n + n + 1 - n = n + 1 by omega, List.cons_append, List.getElem?_cons_succ, List.getElem?_append_right (by rw [tP_len]; exact Nat.le_refl _), tP_len]
  simp [endK]
theorem stopP {j : Nat} (h1 : n < j) (h2 : j ≤ n + n + 1) (p : Int) : Stop (tkAt (tsP n) ⟨j, 0, p⟩) := by
  rcases Nat.lt_or_ge (n + n) j with h | h
  · obtain rfl : j = n + n + 1 := by omega
    exact .inl (atP_end p)
  · obtain ⟨a, e, he⟩ := atP_shut h1 h p
    rw [he]
    exact .inr ⟨rfl, .inr (.inl rfl)⟩
theorem deepP_ok (hn : n < 300) (p : Int) : ∀ (k j : Nat), j + k = n → exprP (tsP n) (300 - j + 1) (j + 1) ⟨j, 0, p⟩ = (⟨.mk 5 [] 1000000 [] n, 1⟩, ⟨n + n + 1 - j, 0, p⟩)
  | 0, j, h => by
    obtain rfl : j = n := by omega
    have e : rNext ⟨j, 0, p⟩ = ⟨j + 1, 0, p⟩ := rfl
    rw [expr_num (t := ⟨6, [], 1000000, j, (j + 1 : Nat)⟩) (by omega) (atP_num p) rfl (by rw [e]; exact lone_stop (stopP (by omega) (by omega) p)), e]
    simp only
    rw [show j + j + 1 - j = j + 1 by omega]
  | k + 1, j, h => by
    have hj : j < n := by omega
    have ht := atP_open hj p
    have e : rNext ⟨j, 0, p⟩ = ⟨j + 1, 0, p⟩ := rfl
    have ih := deepP_ok hn p k (j + 1) (by omega)
    rw [show 300 - (j + 1) + 1 = 300 - j by omega, show n + n + 1 - (j + 1) = n + n - j by omega] at ih
    obtain ⟨a, ee, hs⟩ := atP_shut (n := n) (j := n + n - j) (by omega) (by omega) p
    have hat : atomP (tsP n) (exprP (tsP n) (300 - j) (j + 1 + 1)) ⟨j, 0, p⟩ = (⟨.mk 5 [] 1000000 [] n, 1⟩, ⟨n + n + 1 - j, 0, p⟩) := by
      have e1 : rTake (tsP n) ⟨j, 0, p⟩ = ⟨j + 1, 0, p⟩ := by unfold rTake; rw [ht]; rfl
      have e2 : atomP (tsP n) (exprP (tsP n) (300 - j) (j + 1 + 1)) ⟨j, 0, p⟩ = closedP (tsP n) (exprP (tsP n) (300 - j) (j + 1 + 1)) ⟨j + 1, 0, p⟩ := by
        unfold atomP
        simp only
        rw [e1, ht]
        rfl
      rw [e2]
      unfold closedP
      rw [ih]
      simp only
      have e3 : rWant (tsP n) [41] ⟨n + n - j, 0, p⟩ = ⟨n + n - j + 1, 0, p⟩ := by unfold rWant; rw [hs]; rfl
      rw [e3, show n + n - j + 1 = n + n + 1 - j by omega]
    rw [expr_or (by omega) (by rw [ht]; rfl) (by rw [ht]; rfl), or_lone (by rw [ht]; rfl) (by rw [ht]; rfl) (by rw [hat]; exact lone_stop (stopP (by omega) (by omega) p)), hat]
end
/-- What an operand finds wrong stays. -/
theorem kp_first {ts : List Tk} {en : Nat → RS → TD × RS} (h : ∀ n, KpF (en n)) {m : Nat} {s : RS} (h1 : (tkAt ts s).is [[45]] = false) (h2 : (tkAt ts s).is [wNot] = false) : Kpt (atomP ts (en (m + 1)) s).2 (orP ts en m s).2 := by
  have e1 : unaryP ts en m s = atomP ts (en (m + 1)) s := by unfold unaryP bwP; rw [h1]; rfl
  have k1 : Kpt (atomP ts (en (m + 1)) s).2 (prodP ts en m s).2 := by rw [← e1]; exact kp_chR ts (kp_unary ts h m) _ _ _ _
  have k2 : Kpt (prodP ts en m s).2 (sumP ts en m s).2 := kp_chR ts (kp_prod ts h m) _ _ _ _
  have k3 : Kpt (sumP ts en m s).2 (relP ts en m s).2 := by
    unfold relP
    cases (tkAt ts (sumP ts en m s).2).is [[60], [60, 61], [61]] with
    | false => exact Kpt.refl _
    | true => exact kp_bin ts (kp_sum ts h m) _ _
  have e2 : notP ts en m s = relP ts en m s := by unfold notP bwP; rw [h2]; rfl
  have k4 : Kpt (relP ts en m s).2 (andP ts en m s).2 := by rw [← e2]; exact kp_chR ts (kp_not ts h m) _ _ _ _
  exact (((k1.trans k2).trans k3).trans k4).trans (kp_chR ts (kp_and ts h m) _ _ _ _)
theorem kp_sum_or {ts : List Tk} {en : Nat → RS → TD × RS} (h : ∀ n, KpF (en n)) {m : Nat} {s : RS} (h2 : (tkAt ts s).is [wNot] = false) : Kpt (sumP ts en m s).2 (orP ts en m s).2 := by
  have k3 : Kpt (sumP ts en m s).2 (relP ts en m s).2 := by
    unfold relP
    cases (tkAt ts (sumP ts en m s).2).is [[60], [60, 61], [61]] with
    | false => exact Kpt.refl _
    | true => exact kp_bin ts (kp_sum ts h m) _ _
  have e2 : notP ts en m s = relP ts en m s := by unfold notP bwP; rw [h2]; rfl
  have k4 : Kpt (relP ts en m s).2 (andP ts en m s).2 := by rw [← e2]; exact kp_chR ts (kp_not ts h m) _ _ _ _
  exact (k3.trans k4).trans (kp_chR ts (kp_and ts h m) _ _ _ _)
section
variable {n : Nat}
theorem deepP_bad (hn : 300 ≤ n) (p : Int) : ∀ (k j : Nat), j + k = 300 → (exprP (tsP n) (300 - j + 1) (j + 1) ⟨j, 0, p⟩).2.wh = 75 ∧ (exprP (tsP n) (300 - j + 1) (j + 1) ⟨j, 0, p⟩).2.p = 300
  | 0, j, h => by
    obtain rfl : j = 300 := by omega
    obtain ⟨t, ht, hb, ha⟩ : ∃ t, tkAt (tsP n) ⟨300, 0, p⟩ = t ∧ t.begins = true ∧ t.a = 300 := by
      rcases Nat.lt_or_ge 300 n with h1 | h1
      · exact ⟨_, atP_open h1 p, rfl, rfl⟩
      · obtain rfl : n = 300 := by omega
        exact ⟨_, atP_num p, rfl, rfl⟩
    have hw : begS (tsP n) 301 ⟨300, 0, p⟩ = rFail (tsP n) 75 300 ⟨300, 0, p⟩ := by
      unfold begS rBeg nestS
      rw [ht, hb, ha]
      rfl
    have k : Kpt (begS (tsP n) 301 ⟨300, 0, p⟩) (exprP (tsP n) (300 - 300 + 1) (300 + 1) ⟨300, 0, p⟩).2 := by
      unfold exprP
      cases (tkAt (tsP n) (begS (tsP n) 301 ⟨300, 0, p⟩)).is [wIf] with
      | true => exact (kp_next _).trans (kp_if (tsP n) (kp_expr (tsP n) 0 _) _ _)
      | false => exact kp_or (tsP n) (kp_expr (tsP n) 0) _ _
    have := k (by rw [hw]; exact fail_wh _ (by decide))
    rw [hw] at this
    exact this
  | k + 1, j, h => by
    have hj : j < n := by omega
    have ht := atP_open hj p
    have ih := deepP_bad hn p k (j + 1) (by omega)
    rw [show 300 - (j + 1) + 1 = 300 - j by omega] at ih
    have e1 : rTake (tsP n) ⟨j, 0, p⟩ = ⟨j + 1, 0, p⟩ := by unfold rTake; rw [ht]; rfl
    have e2 : atomP (tsP n) (exprP (tsP n) (300 - j) (j + 1 + 1)) ⟨j, 0, p⟩ = closedP (tsP n) (exprP (tsP n) (300 - j) (j + 1 + 1)) ⟨j + 1, 0, p⟩ := by
      unfold atomP
      simp only
      rw [e1, ht]
      rfl
    have k2 := kp_first (ts := tsP n) (en := exprP (tsP n) (300 - j)) (kp_expr (tsP n) (300 - j)) (m := j + 1) (s := ⟨j, 0, p⟩) (by rw [ht]; rfl) (by rw [ht]; rfl)
    rw [e2] at k2
    have k3 : Kpt (exprP (tsP n) (300 - j) (j + 1 + 1) ⟨j + 1, 0, p⟩).2 (closedP (tsP n) (exprP (tsP n) (300 - j) (j + 1 + 1)) ⟨j + 1, 0, p⟩).2 := kp_want (tsP n) _ _
    have := (k3.trans k2) (by rw [ih.1]; decide)
    rw [expr_or (by omega) (by rw [ht]; rfl) (by rw [ht]; rfl)]
    exact ⟨this.1.trans ih.1, this.2.trans ih.2⟩
end
theorem whP_of {l : List UInt8} {ts : List Tk} (h : prt l = (ts, 0, 0)) (row : List Tk → RS → Tr × RS) : whP row l = whR row ts := by
  unfold whP
  rw [h]
  rfl
theorem deepP (n : Nat) (hn : n ≤ 400) : (n + 1 ≤ 300 → (whP xprP (txP n)).2.2 = 0) ∧ (300 < n + 1 → (whP xprP (txP n)).2 = (300, 75)) := by
  rw [whP_of (prt_P n hn)]
  constructor
  · intro h
    have := deepP_ok (n := n) (by omega) 0 n 0 (by omega)
    have e : xprP (tsP n) ⟨0, 0, 0⟩ = (.mk 5 [] 1000000 [] n, ⟨n + n + 1, 0, 0⟩) := by
      unfold xprP
      rw [show exprP (tsP n) 301 1 ⟨0, 0, 0⟩ = exprP (tsP n) (300 - 0 + 1) (0 + 1) ⟨0, 0, 0⟩ from rfl, this]
      rfl
    unfold whR
    rw [e]
    have e2 : rKind (tsP n) 0 ⟨n + n + 1, 0, 0⟩ = ⟨n + n + 1, 0, 0⟩ := by
      unfold rKind rTake
      rw [atP_end]
      rfl
    simp only
    rw [e2]
    rfl
  · intro h
    have := deepP_bad (n := n) (by omega) 0 300 0 (by omega)
    rw [show exprP (tsP n) (300 - 0 + 1) (0 + 1) ⟨0, 0, 0⟩ = exprP (tsP n) 301 1 ⟨0, 0, 0⟩ from rfl] at this
    have k := kp_kind (tsP n) 0 (xprP (tsP n) ⟨0, 0, 0⟩).2 (by show (exprP (tsP n) 301 1 ⟨0, 0, 0⟩).2.wh ≠ 0; rw [this.1]; decide)
    have h1 : (rKind (tsP n) 0 (xprP (tsP n) ⟨0, 0, 0⟩).2).wh = 75 := k.1.trans this.1
    have h2 : (rKind (tsP n) 0 (xprP (tsP n) ⟨0, 0, 0⟩).2).p = 300 := k.2.trans this.2
    unfold whR
    rw [h1, h2]
    rfl
end Go.Proofs.YtommhgmlblecnaaDoor
