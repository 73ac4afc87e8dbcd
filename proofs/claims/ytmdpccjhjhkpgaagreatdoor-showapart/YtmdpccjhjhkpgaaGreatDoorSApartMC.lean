/- the text SApartM -/
import Derived.Test.YtmdpccjhjhkpgaaGreatDoorSPartsMC
import Derived.Test.YtmdpccjhjhkpgaaGreatDoorSNumMC
namespace Go.Proofs.YtmdpccjhjhkpgaaGreatDoor
open Go Go.RowKit

/-- The bytes that words have: small and great letters, digits, '_', '.', '-'. -/
def wc (c : UInt8) : Bool := inr8 c || btw 65 90 (c.toNat : Nat) || c == 46 || c == 45
theorem tw_app {p : UInt8 → Bool} : ∀ {x y : List UInt8}, x.all p = true → (∀ c q, y = c :: q → p c = false) → (x ++ y).takeWhile p = x
  | [], y, _, h => by
    cases y with
    | nil => rfl
    | cons c q => simp [h c q rfl]
  | c :: x, y, ha, h => by
    simp only [List.all_cons, Bool.and_eq_true] at ha
    rw [List.cons_append, List.takeWhile_cons_of_pos ha.1, tw_app ha.2 h]
/-- Two words, each with what stands behind it. -/
theorem word_eq {p : UInt8 → Bool} {x x' y y' : List UInt8} (hx : x.all p = true) (hx' : x'.all p = true) (hy : ∀ c q, y = c :: q → p c = false) (hy' : ∀ c q, y' = c :: q → p c = false) (h : x ++ y = x' ++ y') : x = x' ∧ y = y' := by
  have h1 := tw_app hx hy
  rw [h, tw_app hx' hy'] at h1
  subst h1
  exact ⟨rfl, (List.append_cancel_left h)⟩
theorem btw_iff {a b z : Int} : btw a b z = true ↔ a ≤ z ∧ z ≤ b := by simp [btw]
theorem twAll (p : UInt8 → Bool) : ∀ l : List UInt8, (l.takeWhile p).all p = true
  | [] => rfl
  | c :: l => by
    by_cases h : p c = true
    · rw [List.takeWhile_cons_of_pos h, List.all_cons, h, twAll p l]; rfl
    · rw [List.takeWhile_cons_of_neg h]; rfl
theorem spnAll {l : List UInt8} (h : spn l = l.length) : l.all inr8 = true := by
  cases l with
  | nil => rfl
  | cons c r =>
    rw [spn] at h
    split at h
    · rename_i hc
      have h1 : (r.takeWhile inr8).length = r.length := by simp at h; omega
      have h2 : r.takeWhile inr8 = r := (List.takeWhile_prefix inr8).eq_of_length h1
      have h3 := twAll inr8 r
      rw [h2] at h3
      rw [List.all_cons, h3, inr8, inr, hc]
      rfl
    · simp at h
theorem nam_all {l : List UInt8} (h : nam l = true) : l.all inr8 = true := by
  simp only [nam, Bool.and_eq_true, decide_eq_true_eq] at h
  exact spnAll h.2
theorem nam_head {l : List UInt8} (h : nam l = true) : ∃ c r, l = c :: r ∧ 97 ≤ c.toNat ∧ c.toNat ≤ 122 := by
  simp only [nam, Bool.and_eq_true, decide_eq_true_eq] at h
  cases l with
  | nil => simp at h
  | cons c r =>
    refine ⟨c, r, rfl, ?_⟩
    have h2 := h.2
    rw [spn] at h2
    split at h2
    · rename_i hc
      have := btw_iff.1 hc
      omega
    · simp at h2
theorem inr_wc {c : UInt8} (h : inr8 c = true) : wc c = true := by simp [wc, h]
theorem all_wc {l : List UInt8} (h : l.all inr8 = true) : l.all wc = true := by
  rw [List.all_eq_true] at h ⊢
  exact fun x hx => inr_wc (h x hx)
theorem cut_join (l : List UInt8) (h : (Lib.cut l [46]).2.2 = true) : l = (Lib.cut l [46]).1 ++ 46 :: (Lib.cut l [46]).2.1 := by
  rcases Lib.index_spec l [46] with ⟨h1, -⟩ | ⟨i, h1, h2, h3, -⟩
  · unfold Lib.cut at h; rw [h1] at h; simp at h
  · unfold Lib.cut
    rw [h1]
    simp only [Int.natCast_nonneg, if_true, Int.toNat_natCast, List.length_cons, List.length_nil]
    unfold Lib.occAt at h3
    cases hd : l.drop i with
    | nil => rw [hd] at h3; cases h3
    | cons c q =>
      rw [hd] at h3
      have hc : (46 : UInt8) = c := by simpa [List.isPrefixOf] using h3
      have h4 : l.drop (i + 1) = q := by rw [← List.drop_drop, hd]; rfl
      rw [Nat.zero_add, h4, hc, ← hd, List.take_append_drop]
theorem nof_parts {l : List UInt8} (h : nof l = true) : ∃ x y, nam x = true ∧ x ∉ kws ∧ (l = x ∨ (l = x ++ 46 :: y ∧ nam y = true)) := by
  unfold nof fre at h
  simp only [Bool.and_eq_true, Bool.or_eq_true, Bool.not_eq_true', decide_eq_false_iff_not] at h
  refine ⟨_, (Lib.cut l [46]).2.1, h.1.1, h.1.2, ?_⟩
  cases hb : (Lib.cut l [46]).2.2 with
  | false => exact .inl (cut_none l hb).symm
  | true =>
    rcases h.2 with h2 | h2
    · rw [hb] at h2; cases h2
    · exact .inr ⟨cut_join l hb, h2.1⟩
theorem nof_wc {l : List UInt8} (h : nof l = true) : l.all wc = true := by
  obtain ⟨x, y, h1, -, rfl | ⟨rfl, h2⟩⟩ := nof_parts h
  · exact all_wc (nam_all h1)
  · rw [List.all_append, List.all_cons, all_wc (nam_all h1), all_wc (nam_all h2)]; rfl
theorem nof_head {l : List UInt8} (h : nof l = true) : ∃ c r, l = c :: r ∧ 97 ≤ c.toNat ∧ c.toNat ≤ 122 := by
  obtain ⟨x, y, h1, -, rfl | ⟨rfl, h2⟩⟩ := nof_parts h
  · exact nam_head h1
  · obtain ⟨c, r, rfl, hc⟩ := nam_head h1
    exact ⟨c, _, rfl, hc⟩
theorem kw_no46 {l : List UInt8} (h : l ∈ kws) : (46 : UInt8) ∉ l := by
  unfold kws at h
  simp only [List.mem_cons, List.not_mem_nil, or_false] at h
  rcases h with rfl | rfl | rfl | rfl | rfl | rfl | rfl | rfl | rfl | rfl | rfl | rfl | rfl <;> decide
theorem nof_kw {l : List UInt8} (h : nof l = true) : l ∉ kws := by
  obtain ⟨x, y, h1, h3, rfl | ⟨rfl, h2⟩⟩ := nof_parts h
  · exact h3
  · intro hk
    exact kw_no46 hk (by simp)
theorem dg_inj : ∀ (c x y : Nat), x < 10 ^ c → y < 10 ^ c → dg c x = dg c y → x = y
  | 0, x, y, hx, hy, _ => by simp at hx hy; omega
  | c + 1, x, y, hx, hy, h => by
    rw [dg, dg] at h
    have h1 := List.append_inj' h rfl
    have hx' : x / 10 < 10 ^ c := by rw [Nat.pow_succ] at hx; omega
    have hy' : y / 10 < 10 ^ c := by rw [Nat.pow_succ] at hy; omega
    have h2 := dg_inj c _ _ hx' hy' h1.1
    have h3 : UInt8.ofNat (48 + x % 10) = UInt8.ofNat (48 + y % 10) := by simpa using h1.2
    have h4 := congrArg UInt8.toNat h3
    rw [Nm.ofNat_digit (by omega), Nm.ofNat_digit (by omega)] at h4
    omega
theorem dg_isD : ∀ (c x : Nat), (dg c x).all Nm.isD = true
  | 0, _ => rfl
  | c + 1, x => by
    rw [dg, List.all_append, dg_isD c, List.all_cons, Nm.isD_ofNat (by omega)]
    rfl
theorem isD_wc {c : UInt8} (h : Nm.isD c = true) : wc c = true := by
  unfold Nm.isD at h
  simp only [Bool.and_eq_true, decide_eq_true_eq] at h
  have : btw 48 57 (c.toNat : Nat) = true := btw_iff.2 (by omega)
  simp [wc, inr8, inr, this]
end Go.Proofs.YtmdpccjhjhkpgaaGreatDoor
