/- causal: a kid of a right term, plainly. -/
import Derived.Test.YtfblnjidghijaaaCQ
namespace Go.Proofs.Ytfblnjidghijaaa
open Go

theorem isOfP_eq (want : Int) (c : Co) : isOfP want c = true ↔ (okT want 1 c = true ∧ szC c ≤ 2000) := by
  have h := (spec c want [] 0 1 (by omega) (by omega) (by omega) (by omega) (by simp)).2.1
  unfold isOfP
  rw [h]
  simp
mutual
theorem okT_up (want d : Int) : ∀ c : Co, okT want (d + 1) c = true → okT want d c = true
  | .mk op k t kids => by
    unfold okT
    cases kOf op want with
    | none => simp
    | some ks =>
      simp only [Bool.and_eq_true, decide_eq_true_eq]
      rintro ⟨⟨h1, h2⟩, h3⟩
      exact ⟨⟨h1, by omega⟩, okTs_up (d + 1) ks kids h3⟩
theorem okTs_up (d : Int) (ks : List Int) : ∀ l : List Co, okTs (d + 1) ks l = true → okTs d ks l = true
  | [] => by unfold okTs; simp
  | c :: r => by
    unfold okTs
    cases ks with
    | nil => simp
    | cons x xs =>
      simp only [Bool.and_eq_true]
      rintro ⟨h1, h2⟩
      exact ⟨okT_up x d c h1, okTs_up d xs r h2⟩
end
def tyOk (x : Int) : Prop := x = 0 ∨ x = 1 ∨ x = 2 ∨ x = 4
theorem ty_cond {b : Bool} {x y : Option (List Int)} (hx : ∀ l, x = some l → ∀ z ∈ l, tyOk z) (hy : ∀ l, y = some l → ∀ z ∈ l, tyOk z) : ∀ l, (bif b then x else y) = some l → ∀ z ∈ l, tyOk z := by
  cases b <;> assumption
theorem ty_some {l0 : List Int} (h : ∀ z ∈ l0, tyOk z) : ∀ l, some l0 = some l → ∀ z ∈ l, tyOk z := by rintro l ⟨⟩; exact h
theorem ty_none : ∀ l : List Int, none = some l → ∀ z ∈ l, tyOk z := by intro l h; cases h
theorem kOf_ty {op want : Int} (hw : tyOk want) : ∀ l, kOf op want = some l → ∀ z ∈ l, tyOk z := by
  unfold kOf kContract kNumber kTruth kDay
  unfold tyOk at hw
  repeat' first | exact ty_none | refine ty_cond ?_ ?_ | (refine ty_some ?_; intro z hz; simp only [List.mem_cons, List.not_mem_nil, or_false] at hz; done) | (refine ty_some ?_; intro z hz; simp only [List.mem_cons, List.not_mem_nil, or_false] at hz; unfold tyOk; omega)
theorem okTs_at {d : Int} : ∀ {l : List Co} {ks : List Int} {i : Nat} {c : Co}, okTs d ks l = true → l[i]? = some c → ∃ x, ks[i]? = some x ∧ okT x d c = true
  | [], ks, i, c, _, h => by simp at h
  | y :: r, ks, i, c, h, hc => by
    unfold okTs at h
    cases ks with
    | nil => simp at h
    | cons x xs =>
      simp only [Bool.and_eq_true] at h
      cases i with
      | zero => simp at hc; subst hc; exact ⟨x, rfl, h.1⟩
      | succ i => exact okTs_at (i := i) h.2 (by simpa using hc)
theorem szL_at : ∀ {l : List Co} {i : Nat} {c : Co}, l[i]? = some c → szC c ≤ szL l
  | [], i, c, h => by simp at h
  | y :: r, 0, c, h => by simp at h; subst h; unfold szL; have := szL_pos r; omega
  | y :: r, i + 1, c, h => by have := szL_at (i := i) (show r[i]? = some c by simpa using h); unfold szL; have := szC_pos y; omega
theorem typ_of {want : Int} (hw : tyOk want) {c : Co} (h : isOfP want c = true) : (typP c).2 = true := by
  unfold typP
  cases h0 : isOfP 0 c with
  | true => rfl
  | false =>
    cases h1 : isOfP 1 c with
    | true => rfl
    | false =>
      cases h2 : isOfP 2 c with
      | true => rfl
      | false =>
        cases h4 : isOfP 4 c with
        | true => rfl
        | false =>
          exfalso
          rcases hw with rfl | rfl | rfl | rfl
          · rw [h0] at h; cases h
          · rw [h1] at h; cases h
          · rw [h2] at h; cases h
          · rw [h4] at h; cases h
theorem typ_ex {c : Co} (h : (typP c).2 = true) : ∃ want, tyOk want ∧ isOfP want c = true := by
  unfold typP at h
  cases h0 : isOfP 0 c with
  | true => exact ⟨0, .inl rfl, h0⟩
  | false =>
    cases h1 : isOfP 1 c with
    | true => exact ⟨1, .inr (.inl rfl), h1⟩
    | false =>
      cases h2 : isOfP 2 c with
      | true => exact ⟨2, .inr (.inr (.inl rfl)), h2⟩
      | false =>
        cases h4 : isOfP 4 c with
        | true => exact ⟨4, .inr (.inr (.inr rfl)), h4⟩
        | false => rw [h0, h1, h2, h4] at h; cases h
mutual
theorem sz_walk (d x : Int) : ∀ c : Co, 0 ≤ x → x + szC c ≤ 1000000 → walkP (askF szF) x d c = (x + szC c, true)
  | .mk op k t kids, h0, h1 => by
    unfold szC at h1 ⊢
    have := szL_pos kids
    unfold walkP askF szF
    have hw : IntKind.i64.wrap (x + 1) = x + 1 := IntWalk.i64_in _ ⟨by omega, by omega⟩
    simp only [hw]
    have := sz_walkK (IntKind.i64.wrap (d + 1)) (x + 1) kids (by omega) (by omega)
    unfold askF szF at this
    rw [this, Int.add_assoc]
theorem sz_walkK (d x : Int) : ∀ l : List Co, 0 ≤ x → x + szL l ≤ 1000000 → walkK (askF szF) x d l = (x + szL l, true)
  | [], _, _ => by unfold walkK szL; simp
  | c :: r, h0, h1 => by
    unfold szL at h1 ⊢
    have hp := szC_pos c
    have hr := szL_pos r
    unfold walkK
    rw [sz_walk d x c h0 (by omega)]
    simp only
    rw [sz_walkK d (x + szC c) r (by omega) (by omega), Int.add_assoc]
end
mutual
def hzC : Co → Int
  | .mk op k _ kids => max (bif dateP op then k else 0) (hzL kids)
def hzL : List Co → Int
  | [] => 0
  | c :: r => max (hzC c) (hzL r)
end
mutual
theorem hz_walk (d x : Int) : ∀ c : Co, 0 ≤ x → walkP (askF hzF) x d c = (max x (hzC c), true)
  | .mk op k t kids, h0 => by
    unfold hzC
    unfold walkP askF hzF
    have hh := hzL_pos kids
    cases hd : dateP op with
    | true =>
      simp only [hd, cond_true]
      have := hz_walkK (IntKind.i64.wrap (d + 1)) (if k > x then k else x) kids (by split <;> omega)
      unfold askF hzF at this
      rw [this]
      congr 1
      split <;> omega
    | false =>
      simp only [hd, cond_false]
      have := hz_walkK (IntKind.i64.wrap (d + 1)) x kids h0
      unfold askF hzF at this
      rw [this]
      congr 1
      omega
theorem hz_walkK (d x : Int) : ∀ l : List Co, 0 ≤ x → walkK (askF hzF) x d l = (max x (hzL l), true)
  | [], h0 => by unfold walkK hzL; congr 1; omega
  | c :: r, h0 => by
    unfold hzL
    unfold walkK
    rw [hz_walk d x c h0]
    simp only
    rw [hz_walkK d _ r (by omega)]
    congr 1
    omega
theorem hzL_pos : ∀ l : List Co, 0 ≤ hzL l
  | [] => by unfold hzL; omega
  | c :: r => by unfold hzL; have := hzL_pos r; omega
end
theorem hzL_at : ∀ {l : List Co} {i : Nat} {c : Co}, l[i]? = some c → hzC c ≤ hzL l
  | [], i, c, h => by simp at h
  | y :: r, 0, c, h => by simp at h; subst h; unfold hzL; omega
  | y :: r, i + 1, c, h => by have := hzL_at (i := i) (show r[i]? = some c by simpa using h); unfold hzL; omega
theorem sz_eq {c : Co} (h : (typP c).2 = true) : askP szF 0 c = szC c := by
  obtain ⟨want, hw, hi⟩ := typ_ex h
  have := ((isOfP_eq want c).1 hi).2
  unfold askP
  rw [h, sz_walk 1 0 c (by omega) (by omega)]
  simp
theorem hz_eq {c : Co} (h : (typP c).2 = true) : askP hzF 0 c = max 0 (hzC c) := by
  unfold askP
  rw [h, hz_walk 1 0 c (by omega)]
  rfl
/-- A kid of a right term is right, and no greater. -/
theorem kid_right {op k : Int} {t : List UInt8} {kids : List Co} {i : Nat} {c : Co} (h : (typP (.mk op k t kids)).2 = true) (hc : kids[i]? = some c) : (typP c).2 = true ∧ askP szF 0 c < askP szF 0 (.mk op k t kids) ∧ askP hzF 0 c ≤ askP hzF 0 (.mk op k t kids) := by
  obtain ⟨want, hw, hi⟩ := typ_ex h
  obtain ⟨h1, h2⟩ := (isOfP_eq want _).1 hi
  have hsz := szL_at hc
  have hhz := hzL_at hc
  have hr : (typP c).2 = true := by
    unfold okT at h1
    cases hk : kOf op want with
    | none => rw [hk] at h1; cases h1
    | some ks =>
      rw [hk] at h1
      simp only [Bool.and_eq_true] at h1
      obtain ⟨x, hx, h3⟩ := okTs_at h1.2 hc
      refine typ_of (kOf_ty hw ks hk x (List.mem_of_getElem? hx)) ((isOfP_eq x c).2 ⟨okT_up x 1 c h3, ?_⟩)
      unfold szC at h2
      omega
  refine ⟨hr, ?_, ?_⟩
  · rw [sz_eq hr, sz_eq h]
    conv => rhs; unfold szC
    omega
  · rw [hz_eq hr, hz_eq h]
    conv => rhs; unfold hzC
    omega
end Go.Proofs.Ytfblnjidghijaaa
