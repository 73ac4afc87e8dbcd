/- the text YPureW -/
import Derived.Test.YtommhgmlblecnaaGreatDoorYGf
import Derived.Test.YtommhgmlblecnaaGreatDoorYGa
namespace Go.Proofs.YtommhgmlblecnaaGreatDoor
open Go Go.RowKit

theorem rows_step {ts : List Tk} {x : List UInt8} {most : Nat} {row : RS → Tr × RS} {k : Nat} {l : List Tr} {s : RS} (h : (tkAt ts s).is [x] = true) (hl : (l.length == most) = false) : rowsP ts x most row (k + 1) l s = rowsP ts x most row k (l ++ [(row s).1]) (row s).2 := by
  conv => lhs; unfold rowsP; rw [h, hl]
  rfl
theorem sams_all2 : ∀ {ks ks' : List Tr}, All2 (fun t t' => sam t' t = true) ks ks' → sams ks' ks = true
  | _, _, .nil => rfl
  | _, _, .cons h1 h2 => by rw [sams, h1, sams_all2 h2]; rfl
theorem sam_node (k : Int) (x : List UInt8) (n : Int) (ks ks' : List Tr) (p p' : Int) (h : All2 (fun t t' => sam t' t = true) ks ks') (_ : True) : (fun t t' => sam t' t = true) (Tr.mk k x n ks p) (Tr.mk k x n ks' p') := by
  show sam (.mk k x n ks' p') (.mk k x n ks p) = true
  rw [sam, sams_all2 h, h.len]
  simp
/-- What an answer without a fault says. -/
theorem whP_ok {row : List Tk → RS → Tr × RS} {l : List UInt8} (h : (whP row l).2.2 = 0) : (prt l).2.1 = 0 ∧ (rKind (prt l).1 0 (row (prt l).1 ⟨0, 0, 0⟩).2).wh = 0 ∧ whP row l = ((row (prt l).1 ⟨0, 0, 0⟩).1, 0, 0) := by
  unfold whP at h ⊢
  cases h0 : ((prt l).2.1 != 0) with
  | true =>
    rw [h0] at h
    have : (prt l).2.1 = 0 := h
    rw [this] at h0
    cases h0
  | false =>
    have e0 : (prt l).2.1 = 0 := by simpa using h0
    rw [h0] at h
    simp only [cond_false] at h ⊢
    unfold whR at h ⊢
    cases h1 : ((rKind (prt l).1 0 (row (prt l).1 ⟨0, 0, 0⟩).2).wh != 0) with
    | true =>
      rw [h1] at h
      have : (rKind (prt l).1 0 (row (prt l).1 ⟨0, 0, 0⟩).2).wh = 0 := h
      rw [this] at h1
      cases h1
    | false => exact ⟨e0, by simpa using h1, rfl⟩
theorem whP_bad {row : List Tk → RS → Tr × RS} {l : List UInt8} (h : (whP row l).2.2 ≠ 0) : (whP row l).1 = .mk 0 [] 0 [] 0 := by
  unfold whP at h ⊢
  cases h0 : ((prt l).2.1 != 0) with
  | true => rfl
  | false =>
    rw [h0] at h
    simp only [cond_false] at h ⊢
    unfold whR at h ⊢
    cases h1 : ((rKind (prt l).1 0 (row (prt l).1 ⟨0, 0, 0⟩).2).wh != 0) with
    | true => rfl
    | false => rw [h1] at h; exact absurd rfl h
/-- Where the end is wanted and comes. -/
theorem kind_end {ts : List Tk} {s : RS} (hz : (rKind ts 0 s).wh = 0) : s.wh = 0 ∧ (tkAt ts s).k = 0 := by
  refine ⟨(kp_kind ts 0 s).zero hz, ?_⟩
  unfold rKind at hz
  cases h : (tkAt ts s).k != 0 with
  | true => rw [h] at hz; exact absurd hz (fail_wh ts (by decide))
  | false => simpa using h
theorem end_last {body : List Tk} {n : Nat} (hb : ∀ t ∈ body, t.k ≠ 0) {s : RS} (hi : s.i < (body ++ [endK n]).length) (hk : (tkAt (body ++ [endK n]) s).k = 0) : s.i = body.length := by
  rcases Nat.lt_or_ge s.i body.length with h | h
  · exfalso
    unfold tkAt at hk
    rw [show (body ++ [endK n]).getD s.i tk0 = body[s.i] by simp [List.getD, List.getElem?_append_left h, h]] at hk
    exact hb _ (List.getElem_mem h) hk
  · simp at hi
    omega
theorem getD_mid {A B : List Tk} {i : Nat} (h : i < B.length) {C : List Tk} : (A ++ B ++ C).getD (i + A.length) tk0 = B.getD i tk0 := by
  rw [List.append_assoc]
  simp [List.getD, List.getElem?_append_right, List.getElem?_append_left h]
/-- Tokens within others are alike. -/
theorem alike_mid (PE : Int → Int → Prop) (body A C : List Tk) (n m : Nat) (hPE : ∀ t ∈ body, PE t.a (t.a + m)) (hC : 0 < C.length) (hst : Stop (C.getD 0 tk0)) : Alike PE (body ++ [endK n]) (A ++ body.map (shK m) ++ C) A.length := by
  refine ⟨fun i hi => ?_, by simp [List.getD, endK], by simp, by simp; omega, ?_⟩
  · have hi' : i < body.length := by simpa using hi
    rw [getD_mid (by simpa using hi')]
    have e1 : (body ++ [endK n]).getD i tk0 = body[i] := by simp [List.getD, List.getElem?_append_left hi', hi']
    have e2 : (body.map (shK m)).getD i tk0 = shK m body[i] := by simp [List.getD, hi']
    rw [e1, e2]
    exact ⟨rfl, rfl, rfl, hPE _ (List.getElem_mem hi')⟩
  · have : (A ++ body.map (shK m) ++ C).getD ((body ++ [endK n]).length - 1 + A.length) tk0 = C.getD 0 tk0 := by
      have e : (body ++ [endK n]).length - 1 + A.length = (A ++ body.map (shK m)).length + 0 := by simp; omega
      rw [e]
      simp [List.getD, List.getElem?_append_right]
    rw [this]
    exact hst
def preW : List UInt8 := [109, 111, 100, 117, 108, 101, 32, 97, 59, 32, 108, 101, 116, 32, 120, 32, 61]
def toksW : List Tk := [⟨1, wModule, 0, 0, 6⟩, ⟨2, [97], 0, 7, 8⟩, ⟨1, [59], 0, 8, 9⟩, ⟨1, wLet, 0, 10, 13⟩, ⟨2, [120], 0, 14, 15⟩, ⟨1, [61], 0, 16, 17⟩]
theorem prt_preW : prt preW = (toksW ++ [endK 17], 0, 0) := by kernel_rfl
theorem prt_semi : prt [59] = ([⟨1, [59], 0, 0, 1⟩] ++ [endK 1], 0, 0) := by kernel_rfl
theorem snoc_inj {A B : List Tk} {a b : Tk} (h : A ++ [a] = B ++ [b]) : A = B := (List.append_inj' h rfl).1
/-- An expression is read in a module as by itself. -/
theorem within_pure (l : List UInt8) (hz : (whP xprP l).2.2 = 0) (hm : (whP modP (preW ++ 32 :: (l ++ 10 :: [59]))).2.2 = 0) :
    ∃ x n p x' n' p' e, (whP modP (preW ++ 32 :: (l ++ 10 :: [59]))).1 = .mk 1 x n [.mk 3 x' n' [e] p'] p ∧ sam e (whP xprP l).1 = true := by
  obtain ⟨z1, z2, z3⟩ := whP_ok hz
  obtain ⟨m1, -, m3⟩ := whP_ok hm
  obtain ⟨c1, bu, bv, p1, p2, p3, -, -, -⟩ := prt_cat preW (l ++ 10 :: [59]) 32 (by decide) (.inr (by decide)) (by rw [prt_preW]) m1
  obtain ⟨-, bl, bs, q1, q2, q3, q4, -, -⟩ := prt_cat l [59] 10 (by decide) (.inl (by decide)) z1 c1
  rw [prt_preW] at p1
  rw [prt_semi] at q2
  have eu : bu = toksW := (snoc_inj (Prod.ext_iff.1 p1).1).symm
  have es : bs = [⟨1, [59], 0, 0, 1⟩] := (snoc_inj (Prod.ext_iff.1 q2).1).symm
  have ev : bv = bl ++ bs.map (shK (l.length + 1)) := by
    rw [q3] at p2
    exact (snoc_inj (Prod.ext_iff.1 p2).1).symm
  subst eu
  subst es
  subst ev
  have e1 : (prt l).1 = bl ++ [endK l.length] := by rw [q1]
  have e2 : (prt (preW ++ 32 :: (l ++ 10 :: [59]))).1 = toksW ++ bl.map (shK (preW.length + 1)) ++ [shK (preW.length + 1) (shK (l.length + 1) ⟨1, [59], 0, 0, 1⟩), endK (preW.length + 1 + (l ++ 10 :: [59]).length)] := by rw [p3]; simp
  obtain ⟨ts, hts⟩ : ∃ ts, bl ++ [endK l.length] = ts := ⟨_, rfl⟩
  obtain ⟨E, hE⟩ : ∃ E, endK (preW.length + 1 + (l ++ 10 :: [59]).length) = E := ⟨_, rfl⟩
  have hE0 : E.k = 0 := by rw [← hE]; rfl
  obtain ⟨S, hS⟩ : ∃ S, shK (preW.length + 1) (shK (l.length + 1) ⟨1, [59], 0, 0, 1⟩) = S := ⟨_, rfl⟩
  have hS0 : S.k = 1 ∧ S.tx = [59] := by rw [← hS]; exact ⟨rfl, rfl⟩
  rw [hE, hS] at e2
  have hA : Alike (fun _ _ => True) ts (toksW ++ bl.map (shK (preW.length + 1)) ++ [S, E]) 6 := by
    rw [← hts]
    exact alike_mid _ bl toksW [S, E] l.length _ (fun _ _ => trivial) (by simp) (.inr ⟨hS0.1, .inl hS0.2⟩)
  obtain ⟨ts', hts'⟩ : ∃ ts', toksW ++ bl.map (shK (preW.length + 1)) ++ [S, E] = ts' := ⟨_, rfl⟩
  rw [e1, hts] at z2 z3
  rw [e2, hts'] at m3
  rw [hts'] at hA
  obtain ⟨z4, z5⟩ := kind_end z2
  have hM0 : Mt ts 6 ⟨0, 0, 0⟩ ⟨6, 0, 0⟩ := ⟨rfl, rfl, rfl, by rw [← hts]; simp⟩
  rcases (sim_expr (X := False) sam_node hA 301 301 1 1 (by decide) (by decide) (by decide) (by decide) (by decide) (.inl rfl)).go _ _ hM0 z4 with ⟨h, -⟩ | ⟨h1, h2, h3⟩
  · exact h.elim
  have hi : (exprP ts 301 1 ⟨0, 0, 0⟩).2.i = bl.length := by
    rw [← hts] at z5 h1 ⊢
    exact end_last q4 h1.lt z5
  obtain ⟨r, hr⟩ : ∃ r, exprP ts' 301 1 ⟨6, 0, 0⟩ = r := ⟨_, rfl⟩
  rw [hr] at h1 h3
  have hri : r.2 = ⟨bl.length + 6, 0, r.2.p⟩ := by
    have := h1.i
    have hw := h1.w'
    cases hr2 : r.2
    rw [hr2] at this hw
    simp only at this hw
    rw [this, hw]
    have : (exprP ts 301 1 ⟨0, 0, 0⟩).2.i + 6 = bl.length + 6 := by rw [hi]
    rw [this]
  have hS1 : tkAt ts' ⟨bl.length + 6, 0, r.2.p⟩ = S := by
    rw [← hts']
    unfold tkAt
    simp [List.getD, toksW]
  have hE1 : ∀ p, tkAt ts' ⟨bl.length + 6 + 1, 0, p⟩ = E := by
    intro p
    rw [← hts']
    unfold tkAt
    simp [List.getD, toksW]
  have hSis : S.is [[59]] = true := by unfold Tk.is; rw [hS0.1, hS0.2]; rfl
  have w1 : rWant ts' [59] r.2 = ⟨bl.length + 6 + 1, 0, r.2.p⟩ := by
    rw [hri]
    unfold rWant
    rw [hS1, hSis]
    rfl
  have a0 : rWant ts' wModule ⟨0, 0, 0⟩ = ⟨1, 0, 0⟩ := by rw [← hts']; rfl
  have a1 : rKind ts' 2 ⟨1, 0, 0⟩ = ⟨2, 0, 0⟩ := by rw [← hts']; rfl
  have a2 : rWant ts' [59] ⟨2, 0, 0⟩ = ⟨3, 0, 0⟩ := by rw [← hts']; rfl
  have a3 : (tkAt ts' ⟨3, 0, 0⟩).is [wImport] = false := by rw [← hts']; rfl
  have a4 : (tkAt ts' ⟨3, 0, 0⟩).is [wLet] = true := by rw [← hts']; rfl
  have a5 : rWant ts' wLet ⟨3, 0, 0⟩ = ⟨4, 0, 0⟩ := by rw [← hts']; rfl
  have a6 : rKind ts' 2 ⟨4, 0, 0⟩ = ⟨5, 0, 0⟩ := by rw [← hts']; rfl
  have a7 : letB ts' ⟨5, 0, 0⟩ = ([], ⟨5, 0, 0⟩) := by
    have : (tkAt ts' ⟨5, 0, 0⟩).is [[40]] = false := by rw [← hts']; rfl
    unfold letB
    rw [this]
    rfl
  have a8 : rWant ts' [61] ⟨5, 0, 0⟩ = ⟨6, 0, 0⟩ := by rw [← hts']; rfl
  have hlet : letP ts' ⟨3, 0, 0⟩ = (.mk 3 (tkAt ts' ⟨4, 0, 0⟩).tx 0 ([] ++ [r.1.t]) (tkAt ts' ⟨4, 0, 0⟩).a, ⟨bl.length + 6 + 1, 0, r.2.p⟩) := by
    unfold letP
    simp only
    rw [a5, a6, a7]
    simp only
    rw [a8, hr, w1]
  have hmod : modP ts' ⟨0, 0, 0⟩ = (.mk 1 (tkAt ts' ⟨1, 0, 0⟩).tx 0 [.mk 3 (tkAt ts' ⟨4, 0, 0⟩).tx 0 [r.1.t] (tkAt ts' ⟨4, 0, 0⟩).a] (tkAt ts' ⟨0, 0, 0⟩).a, ⟨bl.length + 6 + 1, 0, r.2.p⟩) := by
    rw [modP_eq, a0, a1, a2, rows_stop a3, rows_step a4 rfl, hlet, rows_stop (by rw [hE1]; exact is_end hE0 _)]
    rfl
  rw [m3, hmod, z3]
  exact ⟨_, _, _, _, _, _, _, rfl, h3.t⟩
end Go.Proofs.YtommhgmlblecnaaGreatDoor
