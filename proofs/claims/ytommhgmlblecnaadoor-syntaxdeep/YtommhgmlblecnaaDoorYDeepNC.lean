/- the text YDeepN -/
import Derived.Test.YtommhgmlblecnaaDoorYDeepMC
namespace Go.Proofs.YtommhgmlblecnaaDoor
open Go Go.RowKit

/-- So many ones, a sign behind each. -/
def tQ : Nat → Nat → List Tk
  | 0, _ => []
  | k + 1, i => ⟨6, [], 1000000, i, (i + 1 : Nat)⟩ :: ⟨1, [43], 0, (i + 2 : Nat), (i + 3 : Nat)⟩ :: tQ k (i + 4)
theorem tQ_len : ∀ k i, (tQ k i).length = 2 * k
  | 0, _ => rfl
  | k + 1, i => by simp only [tQ, List.length_cons, tQ_len k (i + 4)]; omega
theorem tQ_num : ∀ (k i j : Nat), j < k → (tQ k i)[2 * j]? = some ⟨6, [], 1000000, (i + 4 * j : Nat), (i + 4 * j + 1 : Nat)⟩
  | 0, _, _, h => by omega
  | k + 1, i, 0, _ => rfl
  | k + 1, i, j + 1, h => by
    rw [tQ, show 2 * (j + 1) = 2 * j + 1 + 1 by omega, List.getElem?_cons_succ, List.getElem?_cons_succ, tQ_num k (i + 4) j (by omega), show i + 4 + 4 * j = i + 4 * (j + 1) by omega]
theorem tQ_plus : ∀ (k i j : Nat), j < k → (tQ k i)[2 * j + 1]? = some ⟨1, [43], 0, (i + 4 * j + 2 : Nat), (i + 4 * j + 3 : Nat)⟩
  | 0, _, _, h => by omega
  | k + 1, i, 0, _ => rfl
  | k + 1, i, j + 1, h => by
    rw [tQ, show 2 * (j + 1) + 1 = 2 * j + 1 + 1 + 1 by omega, List.getElem?_cons_succ, List.getElem?_cons_succ, tQ_plus k (i + 4) j (by omega), show i + 4 + 4 * j = i + 4 * (j + 1) by omega]
def oneS : List UInt8 := [49, 32, 43, 32]
def txQ (n : Nat) : List UInt8 := (List.replicate n oneS).flatten ++ [49]
theorem txQ_succ (n : Nat) : txQ (n + 1) = 49 :: 32 :: 43 :: 32 :: txQ n := by
  unfold txQ
  rw [List.replicate_succ, List.flatten_cons]
  rfl
theorem txQ_head (n : Nat) : ∃ u, txQ n = 49 :: u := by
  cases n with
  | zero => exact ⟨_, rfl⟩
  | succ n => exact ⟨_, txQ_succ n⟩
theorem txQ_len : ∀ n, (txQ n).length = 4 * n + 1
  | 0 => rfl
  | n + 1 => by rw [txQ_succ]; simp only [List.length_cons, txQ_len n]; omega
theorem tok_one : anyT [49] 0 = (⟨6, [], 1000000, 0, 1⟩, 0) := by kernel_rfl
theorem tok_one_blank (u : List UInt8) : anyT (49 :: 32 :: u) 0 = (⟨6, [], 1000000, 0, 1⟩, 0) := by
  have := anyT_ext (u := [49]) (c := 32) (r := u) (by decide) (by decide) (by rw [tok_one])
  rw [tok_one] at this
  exact this
theorem runs_one (l : List UInt8) : ∀ (k f i : Nat) (acc : List Tk), l.drop i = txQ k → acc.length + 2 * k ≤ 8192 → prtF l (f + 2 * k) i acc = prtF l f (i + 4 * k) (acc ++ tQ k i)
  | 0, f, i, acc, _, _ => by simp [tQ]
  | k + 1, f, i, acc, hd, hl => by
    rw [txQ_succ] at hd
    have hlen : i + (4 * (k + 1) + 1) = l.length := by
      have h := congrArg List.length hd
      rw [← txQ_succ, txQ_len, List.length_drop] at h
      omega
    have ha : anyT l i = (⟨6, [], 1000000, i, (i + 1 : Nat)⟩, 0) := by
      rw [anyT_drop l i (by omega), hd, tok_one_blank]
      simp [shT, shK, Int.add_comm]
    have hd1 : l.drop (i + 1) = 32 :: 43 :: 32 :: txQ k := by rw [← List.drop_drop, hd]; rfl
    have hs1 : skip l (i + 1) = i + 2 := by
      rw [skip_drop, hd1, sk_blank _ _ (by decide), sk_other _ _ (by decide) (by decide)]
    have hd2 : l.drop (i + 2) = 43 :: 32 :: txQ k := by rw [← List.drop_drop, hd]; rfl
    have hb : anyT l (i + 2) = (⟨1, [43], 0, (i + 2 : Nat), (i + 3 : Nat)⟩, 0) := by
      have : ∀ u, anyT (43 :: u) 0 = (⟨1, [43], 0, 0, 1⟩, 0) := fun _ => rfl
      rw [anyT_drop l (i + 2) (by omega), hd2, this]
      simp only [shT, shK]
      simp
      omega
    have hd3 : l.drop (i + 3) = 32 :: txQ k := by rw [← List.drop_drop, hd]; rfl
    have hs3 : skip l (i + 3) = i + 4 := by
      obtain ⟨u, hu⟩ := txQ_head k
      rw [skip_drop, hd3, sk_blank _ _ (by decide), hu, sk_other _ _ (by decide) (by decide)]
    have hd4 : l.drop (i + 4) = txQ k := by rw [← List.drop_drop, hd]; rfl
    rw [show f + 2 * (k + 1) = (f + 2 * k) + 1 + 1 by omega, prtF_step (by omega) (by rw [ha]) (by omega), ha]
    simp only [Int.toNat_natCast]
    rw [hs1, prtF_step (by omega) (by rw [hb]) (by simp; omega), hb]
    simp only [Int.toNat_natCast]
    rw [hs3, runs_one l k f (i + 4) _ hd4 (by simp; omega), show i + 4 + 4 * k = i + 4 * (k + 1) by omega]
    simp [tQ]
def tsQ (n : Nat) : List Tk := tQ n 0 ++ [⟨6, [], 1000000, (4 * n : Nat), (4 * n + 1 : Nat)⟩, endK (4 * n + 1)]
theorem prt_Q (n : Nat) (hn : n ≤ 400) : prt (txQ n) = (tsQ n, 0, 0) := by
  have hs0 : skip (txQ n) 0 = 0 := by
    obtain ⟨u, hu⟩ := txQ_head n
    rw [skip_drop, List.drop_zero, hu, sk_other _ _ (by decide) (by decide)]
  have hlen := txQ_len n
  have hd : (txQ n).drop (4 * n) = [49] := by
    have h1 : (txQ n).drop (4 * n) = [] ++ (txQ n).drop (4 * n) := rfl
    unfold txQ
    have hl : ((List.replicate n oneS).flatten).length = 4 * n := by
      have := txQ_len n
      unfold txQ at this
      simp only [List.length_append, List.length_singleton] at this
      omega
    rw [List.drop_append_of_le_length (by omega), List.drop_of_length_le (by omega)]
    rfl
  have ha : anyT (txQ n) (4 * n) = (⟨6, [], 1000000, (4 * n : Nat), (4 * n + 1 : Nat)⟩, 0) := by
    rw [anyT_drop _ _ (by omega), hd, tok_one]
    simp only [shT, shK]
    simp
    omega
  have hs : skip (txQ n) (4 * n + 1) = 4 * n + 1 := by
    rw [skip_drop, List.drop_of_length_le (by omega), sk_nil]
  rw [prt_short (by omega), hs0, hlen, show 4 * n + 1 + 1 = (2 * n + 2) + 2 * n by omega, runs_one (txQ n) n (2 * n + 2) 0 [] rfl (by simp; omega), Nat.zero_add]
  rw [show 2 * n + 2 = (2 * n + 1) + 1 by omega, prtF_step (by omega) (by rw [ha]) (by simp [tQ_len]; omega), ha]
  simp only [Int.toNat_natCast]
  rw [hs, prtF_end (by omega), hlen]
  unfold tsQ
  simp
section
variable {n : Nat}
theorem atQ_num {j : Nat} (hj : j ≤ n) (p : Int) : ∃ t, tkAt (tsQ n) ⟨2 * j, 0, p⟩ = t ∧ t.k = 6 := by
  unfold tkAt tsQ List.getD
  rcases Nat.lt_or_ge j n with h | h
  · rw [List.getElem?_append_left (by rw [tQ_len]; show 2 * j < 2 * n; omega), tQ_num n 0 j h]
    exact ⟨_, rfl, rfl⟩
  · obtain rfl : j = n := by omega
    rw [List.getElem?_append_right (by rw [tQ_len]; exact Nat.le_refl _), tQ_len]
    exact ⟨_, rfl, by simp⟩
theorem atQ_plus {j : Nat} (hj : j < n) (p : Int) : tkAt (tsQ n) ⟨2 * j + 1, 0, p⟩ = ⟨1, [43], 0, (4 * j + 2 : Nat), (4 * j + 3 : Nat)⟩ := by
  unfold tkAt tsQ List.getD
  rw [List.getElem?_append_left (by rw [tQ_len]; show 2 * j + 1 < 2 * n; omega), tQ_plus n 0 j hj]
  simp
theorem atQ_end (p : Int) : (tkAt (tsQ n) ⟨2 * n + 1, 0, p⟩).k = 0 := by
  unfold tkAt tsQ List.getD
  rw [List.getElem?_append_right (by rw [tQ_len]; show 2 * n ≤ 2 * n + 1; omega), tQ_len, show (⟨2 * n + 1, 0, p⟩ : RS).i - 2 * n = 1 from by show 2 * n + 1 - 2 * n = 1; omega]
  simp [endK]
theorem prodQ {j : Nat} (hj : j ≤ n) (p : Int) (en : Nat → RS → TD × RS) (m : Nat) : ∃ t : TD, t.d = 1 ∧ prodP (tsQ n) en m ⟨2 * j, 0, p⟩ = (t, ⟨2 * j + 1, 0, p⟩) := by
  obtain ⟨t, ht, hk⟩ := atQ_num hj p
  have e : rNext ⟨2 * j, 0, p⟩ = ⟨2 * j + 1, 0, p⟩ := rfl
  have hn : (tkAt (tsQ n) (rNext ⟨2 * j, 0, p⟩)).is [[42], [47]] = false := by
    rw [e]
    rcases Nat.lt_or_ge j n with h | h
    · rw [atQ_plus h]; rfl
    · obtain rfl : j = n := by omega
      exact is_end (atQ_end p) _
  exact ⟨_, rfl, prod_num ht hk hn⟩
theorem depQ {l t : TD} {j : Nat} (hl : l.d = ((j + 1 : Nat) : Int)) (ht : t.d = 1) (hj : j ≤ 1000) : dep1 [l, t] = ((j + 2 : Nat) : Int) := by
  unfold dep1 dmaxT
  simp only [List.map_cons, List.map_nil, List.foldl_cons, List.foldl_nil, hl, ht]
  rw [show max (max (0 : Int) ((j + 1 : Nat) : Int)) 1 + 1 = ((j + 2 : Nat) : Int) by omega, IntWalk.i64_in _ ⟨by omega, by omega⟩]
theorem binQ {j : Nat} (hj : j < n) (hj9 : j ≤ 1000) (p : Int) (en : Nat → RS → TD × RS) (m : Nat) {l : TD} (hl : l.d = ((j + 1 : Nat) : Int)) : ∃ r : TD, r.d = ((j + 2 : Nat) : Int) ∧ binP (tsQ n) (prodP (tsQ n) en m) l ⟨2 * j + 1, 0, p⟩ = (r, madeS (tsQ n) ((j + 2 : Nat) : Int) ((4 * j + 2 : Nat) : Int) ⟨2 * (j + 1) + 1, 0, p⟩) := by
  obtain ⟨t, ht, hp⟩ := prodQ (n := n) (j := j + 1) (by omega) p en m
  have hpl := atQ_plus hj p
  have e1 : rTake (tsQ n) ⟨2 * j + 1, 0, p⟩ = ⟨2 * (j + 1), 0, p⟩ := by
    unfold rTake
    rw [hpl]
    rfl
  unfold binP
  rw [e1, hp, hpl]
  unfold mkT
  simp only
  rw [depQ hl ht hj9]
  exact ⟨_, rfl, rfl⟩
theorem chQ_ok (hn : n ≤ 99) (p : Int) (en : Nat → RS → TD × RS) (m : Nat) : ∀ (k j f : Nat) (l : TD), j + k = n → l.d = ((j + 1 : Nat) : Int) → k + 1 ≤ f → ∃ r, chR (tsQ n) (prodP (tsQ n) en m) [[43], [45]] f l ⟨2 * j + 1, 0, p⟩ = (r, ⟨2 * n + 1, 0, p⟩)
  | 0, j, f, l, h, _, hf => by
    obtain ⟨f, rfl⟩ : ∃ g, f = g + 1 := ⟨f - 1, by omega⟩
    obtain rfl : j = n := by omega
    unfold chR
    rw [is_end (atQ_end p)]
    exact ⟨l, rfl⟩
  | k + 1, j, f, l, h, hl, hf => by
    obtain ⟨f, rfl⟩ : ∃ g, f = g + 1 := ⟨f - 1, by omega⟩
    obtain ⟨r, hr, hb⟩ := binQ (n := n) (j := j) (by omega) (by omega) p en m hl
    have hm : madeS (tsQ n) ((j + 2 : Nat) : Int) ((4 * j + 2 : Nat) : Int) ⟨2 * (j + 1) + 1, 0, p⟩ = ⟨2 * (j + 1) + 1, 0, p⟩ := by
      unfold madeS
      rw [decide_eq_false (by omega)]
      rfl
    unfold chR
    rw [atQ_plus (by omega) p, hb, hm]
    exact chQ_ok hn p en m k (j + 1) f r (by omega) hr (by omega)
theorem chQ_bad (hn : 100 ≤ n) (p : Int) (en : Nat → RS → TD × RS) (he : ∀ n, KpF (en n)) (m : Nat) : ∀ (k j f : Nat) (l : TD), j + k = 99 → l.d = ((j + 1 : Nat) : Int) → k + 1 ≤ f → (chR (tsQ n) (prodP (tsQ n) en m) [[43], [45]] f l ⟨2 * j + 1, 0, p⟩).2.wh = 75 ∧ (chR (tsQ n) (prodP (tsQ n) en m) [[43], [45]] f l ⟨2 * j + 1, 0, p⟩).2.p = 398
  | 0, j, f, l, h, hl, hf => by
    obtain ⟨f, rfl⟩ : ∃ g, f = g + 1 := ⟨f - 1, by omega⟩
    obtain rfl : j = 99 := by omega
    obtain ⟨r, hr, hb⟩ := binQ (n := n) (j := 99) (by omega) (by omega) p en m hl
    have hm : madeS (tsQ n) ((99 + 2 : Nat) : Int) ((4 * 99 + 2 : Nat) : Int) ⟨2 * (99 + 1) + 1, 0, p⟩ = rFail (tsQ n) 75 398 ⟨2 * (99 + 1) + 1, 0, p⟩ := rfl
    have e : chR (tsQ n) (prodP (tsQ n) en m) [[43], [45]] (f + 1) l ⟨2 * 99 + 1, 0, p⟩ = chR (tsQ n) (prodP (tsQ n) en m) [[43], [45]] f r (rFail (tsQ n) 75 398 ⟨2 * (99 + 1) + 1, 0, p⟩) := by
      conv => lhs; unfold chR
      rw [atQ_plus (by omega) p, hb, hm]
      rfl
    rw [e]
    have := kp_chR (tsQ n) (kp_prod (tsQ n) he m) [[43], [45]] f r (rFail (tsQ n) 75 398 ⟨2 * (99 + 1) + 1, 0, p⟩) (fail_wh _ (by decide))
    exact this
  | k + 1, j, f, l, h, hl, hf => by
    obtain ⟨f, rfl⟩ : ∃ g, f = g + 1 := ⟨f - 1, by omega⟩
    obtain ⟨r, hr, hb⟩ := binQ (n := n) (j := j) (by omega) (by omega) p en m hl
    have hm : madeS (tsQ n) ((j + 2 : Nat) : Int) ((4 * j + 2 : Nat) : Int) ⟨2 * (j + 1) + 1, 0, p⟩ = ⟨2 * (j + 1) + 1, 0, p⟩ := by
      unfold madeS
      rw [decide_eq_false (by omega)]
      rfl
    have e : chR (tsQ n) (prodP (tsQ n) en m) [[43], [45]] (f + 1) l ⟨2 * j + 1, 0, p⟩ = chR (tsQ n) (prodP (tsQ n) en m) [[43], [45]] f r ⟨2 * (j + 1) + 1, 0, p⟩ := by
      conv => lhs; unfold chR
      rw [atQ_plus (by omega) p, hb, hm]
      rfl
    rw [e]
    exact chQ_bad hn p en he m k (j + 1) f r (by omega) hr (by omega)
end
theorem tsQ_len (n : Nat) : (tsQ n).length = 2 * n + 2 := by simp [tsQ, tQ_len]
theorem deepQ (n : Nat) (hn : n ≤ 400) : (n + 1 ≤ 100 → (whP xprP (txQ n)).2.2 = 0) ∧ (100 < n + 1 → (whP xprP (txQ n)).2 = (398, 75)) := by
  rw [whP_of (prt_Q n hn)]
  obtain ⟨t0, h0, hk0⟩ := atQ_num (n := n) (j := 0) (Nat.zero_le _) 0
  have h0' : tkAt (tsQ n) ⟨0, 0, 0⟩ = t0 := h0
  have his : ∀ ws, (tkAt (tsQ n) ⟨0, 0, 0⟩).is ws = false := fun ws => by rw [h0']; unfold Tk.is; rw [hk0]; rfl
  have hor : exprP (tsQ n) 301 1 ⟨0, 0, 0⟩ = orP (tsQ n) (exprP (tsQ n) 300) 1 ⟨0, 0, 0⟩ := expr_or (by decide) (by rw [h0']; unfold Tk.begins; rw [hk0]; rfl) (his _)
  obtain ⟨t, ht, hp⟩ := prodQ (n := n) (j := 0) (Nat.zero_le _) 0 (exprP (tsQ n) 300) 1
  have hsum : sumP (tsQ n) (exprP (tsQ n) 300) 1 ⟨0, 0, 0⟩ = chR (tsQ n) (prodP (tsQ n) (exprP (tsQ n) 300) 1) [[43], [45]] (2 * n + 2) t ⟨2 * 0 + 1, 0, 0⟩ := by
    unfold sumP chainP
    rw [show prodP (tsQ n) (exprP (tsQ n) 300) 1 ⟨0, 0, 0⟩ = (t, ⟨2 * 0 + 1, 0, 0⟩) from hp, tsQ_len]
  constructor
  · intro h
    obtain ⟨r, hr⟩ := chQ_ok (n := n) (by omega) 0 (exprP (tsQ n) 300) 1 n 0 (2 * n + 2) t (by omega) ht (by omega)
    rw [hr] at hsum
    have hend := atQ_end (n := n) 0
    have e : exprP (tsQ n) 301 1 ⟨0, 0, 0⟩ = (r, ⟨2 * n + 1, 0, 0⟩) := by
      rw [hor, or_sum (his _) (by rw [hsum]; exact ⟨is_end hend _, is_end hend _, is_end hend _⟩), hsum]
    have e2 : rKind (tsQ n) 0 ⟨2 * n + 1, 0, 0⟩ = ⟨2 * n + 1, 0, 0⟩ := by
      unfold rKind rTake
      rw [hend]
      rfl
    unfold whR xprP
    rw [e]
    simp only
    rw [e2]
    rfl
  · intro h
    have hb := chQ_bad (n := n) (by omega) 0 (exprP (tsQ n) 300) (kp_expr (tsQ n) 300) 1 99 0 (2 * n + 2) t (by omega) ht (by omega)
    rw [← hsum] at hb
    have k1 := kp_sum_or (ts := tsQ n) (en := exprP (tsQ n) 300) (kp_expr (tsQ n) 300) (m := 1) (s := ⟨0, 0, 0⟩) (his _) (by rw [hb.1]; decide)
    rw [← hor, hb.1, hb.2] at k1
    have k := kp_kind (tsQ n) 0 (xprP (tsQ n) ⟨0, 0, 0⟩).2 (by show (exprP (tsQ n) 301 1 ⟨0, 0, 0⟩).2.wh ≠ 0; rw [k1.1]; decide)
    have h1 : (rKind (tsQ n) 0 (xprP (tsQ n) ⟨0, 0, 0⟩).2).wh = 75 := k.1.trans k1.1
    have h2 : (rKind (tsQ n) 0 (xprP (tsQ n) ⟨0, 0, 0⟩).2).p = 398 := k.2.trans k1.2
    unfold whR
    rw [h1, h2]
    rfl
end Go.Proofs.YtommhgmlblecnaaDoor
