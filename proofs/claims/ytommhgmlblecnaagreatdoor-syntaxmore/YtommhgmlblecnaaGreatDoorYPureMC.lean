/- the text YPureM -/
import Derived.Test.YtommhgmlblecnaaGreatDoorYPureWC
namespace Go.Proofs.YtommhgmlblecnaaGreatDoor
open Go Go.RowKit

def addM : List UInt8 := [32, 108, 101, 116, 32, 122, 122, 32, 61, 32, 49, 59]
def toksM : List Tk := [⟨1, wLet, 0, 1, 4⟩, ⟨2, [122, 122], 0, 5, 7⟩, ⟨1, [61], 0, 8, 9⟩, ⟨6, [], 1000000, 10, 11⟩, ⟨1, [59], 0, 11, 12⟩]
theorem prt_addM : prt addM = (toksM ++ [endK 12], 0, 0) := by kernel_rfl
theorem eq_node (k : Int) (x : List UInt8) (n : Int) (ks ks' : List Tr) (p p' : Int) (h : All2 (· = ·) ks ks') (hp : p = p') : (Tr.mk k x n ks p) = (Tr.mk k x n ks' p') := by
  have : ks = ks' := by
    induction h with
    | nil => rfl
    | cons h1 _ ih => rw [h1, ih]
  rw [this, hp]
theorem all2_eq {ks ks' : List Tr} (h : All2 (· = ·) ks ks') : ks = ks' := by
  induction h with
  | nil => rfl
  | cons h1 _ ih => rw [h1, ih]
theorem shK_zero (l : List Tk) : l.map (shK 0) = l := by
  have : shK 0 = id := by funext t; simp [shK]
  rw [this, List.map_id]
/-- A number alone. -/
theorem expr_num {ts : List Tk} {f m : Nat} {s : RS} {t : Tk} (hm : m ≤ 300) (ht : tkAt ts s = t) (hk : t.k = 6) (hn : lone (tkAt ts (rNext s))) : exprP ts (f + 1) m s = (⟨.mk 5 [] t.n [] t.a, 1⟩, rNext s) := by
  have his : ∀ ws, (tkAt ts s).is ws = false := fun ws => by rw [ht]; unfold Tk.is; rw [hk]; rfl
  have hat : ∀ ex, atomP ts ex s = (⟨.mk 5 [] t.n [] t.a, 1⟩, rNext s) := by
    intro ex
    have e1 : rTake ts s = rNext s := by unfold rTake; rw [ht, hk]; rfl
    unfold atomP
    simp only
    rw [e1, ht, hk]
    rfl
  rw [expr_or hm (by rw [ht]; unfold Tk.begins; rw [hk]; rfl) (his _), or_lone (his _) (his _) (by rw [hat]; exact hn), hat]
/-- A definition more. -/
theorem more_pure (l : List UInt8) (hz : (whP modP l).2.2 = 0) (hm : (whP modP (l ++ 10 :: addM)).2.2 = 0) :
    ∃ x n ks p q q', (whP modP l).1 = .mk 1 x n ks p ∧ (whP modP (l ++ 10 :: addM)).1 = .mk 1 x n (ks ++ [.mk 3 [122, 122] 0 [.mk 5 [] 1000000 [] q'] q]) p := by
  obtain ⟨z1, z2, z3⟩ := whP_ok hz
  obtain ⟨m1, m2, m3⟩ := whP_ok hm
  obtain ⟨-, bl, bv, q1, q2, q3, q4, -, -⟩ := prt_cat l addM 10 (by decide) (.inl (by decide)) z1 m1
  rw [prt_addM] at q2
  have es : bv = toksM := (snoc_inj (Prod.ext_iff.1 q2).1).symm
  subst es
  have e1 : (prt l).1 = bl ++ [endK l.length] := by rw [q1]
  obtain ⟨D, hD⟩ : ∃ D, l.length + 1 = D := ⟨_, rfl⟩
  obtain ⟨E, hE⟩ : ∃ E, endK (l.length + 1 + addM.length) = E := ⟨_, rfl⟩
  have hE0 : E.k = 0 := by rw [← hE]; rfl
  have e2 : (prt (l ++ 10 :: addM)).1 = [] ++ bl.map (shK 0) ++ (toksM.map (shK D) ++ [E]) := by rw [q3, hE, hD, shK_zero]; simp
  obtain ⟨ts, hts⟩ : ∃ ts, bl ++ [endK l.length] = ts := ⟨_, rfl⟩
  have hA : Alike (· = ·) ts ([] ++ bl.map (shK 0) ++ (toksM.map (shK D) ++ [E])) 0 := by
    rw [← hts]
    exact alike_mid (· = ·) bl [] (toksM.map (shK D) ++ [E]) l.length 0 (fun t _ => by simp) (by simp) (.inr ⟨rfl, .inr (.inr rfl)⟩)
  obtain ⟨ts', hts'⟩ : ∃ ts', [] ++ bl.map (shK 0) ++ (toksM.map (shK D) ++ [E]) = ts' := ⟨_, rfl⟩
  rw [e1, hts] at z2 z3
  rw [e2, hts'] at m2 m3
  rw [hts'] at hA
  have hat : ∀ (j : Nat) (p : Int), tkAt ts' ⟨bl.length + j, 0, p⟩ = (toksM.map (shK D) ++ [E]).getD j tk0 := by
    intro j p
    rw [← hts', shK_zero]
    unfold tkAt List.getD
    rw [List.nil_append, List.getElem?_append_right (Nat.le_add_right _ _), Nat.add_sub_cancel_left]
  obtain ⟨z4, z5⟩ := kind_end z2
  rw [modP_eq] at z4 z5 z3
  simp only at z4 z5 z3
  have z6 := (kp_rows ts (kp_let ts) _ _ _).zero z4
  have z7 := (kp_rows ts (kp_imp ts) _ _ _).zero z6
  have z8 := (kp_want ts _ _).zero z7
  have z9 := (kp_kind ts _ _).zero z8
  have hM0 : Mt ts 0 ⟨0, 0, 0⟩ ⟨0, 0, 0⟩ := ⟨rfl, rfl, rfl, by rw [← hts]; simp⟩
  obtain ⟨a1, -⟩ := sim_want hA hM0 _ z9
  obtain ⟨a2, -, a3, -⟩ := sim_kind hA a1 (by decide) z8
  obtain ⟨a4, -⟩ := sim_want hA a2 _ z7
  obtain ⟨k1, l1, s1, r1, r2, -, r4, r5, r6⟩ := sim_rows hA (kp_imp ts) (fun s s' h hz => sim_imp eq_node hA h hz) (ts.length + 1) (ts'.length + 1) [] [] _ _ a4 .nil (by omega) (by omega) z6
  have r7 : (tkAt ts' s1).is [wImport] = false := by rw [← is_alike hA r2 (by decide)]; exact r6
  rw [rows_stop (k := k1) (l := l1) r7] at r1
  obtain ⟨k2, l2, s2, t1, t2, -, t4, t5, t6⟩ := sim_rows hA (kp_let ts) (fun s s' h hz => sim_let eq_node hA h hz) (ts.length + 1) (ts'.length + 1) [] [] _ _ r2 .nil (by omega) (by omega) z4
  have hi : (rowsP ts wLet 200 (letP ts) (ts.length + 1) [] (rowsP ts wImport 100 (impP ts) (ts.length + 1) [] (rWant ts [59] (rKind ts 2 (rWant ts wModule ⟨0, 0, 0⟩)))).2).2.i = bl.length := by
    have := t2.lt
    rw [← hts] at z5 this ⊢
    exact end_last q4 this z5
  have hs2 : s2 = ⟨bl.length + 0, 0, s2.p⟩ := by
    have h1 := t2.i
    have h2 := t2.w'
    rw [hi] at h1
    cases s2
    simp only at h1 h2
    rw [h1, h2]
  obtain ⟨P, hP⟩ : ∃ P, s2.p = P := ⟨_, rfl⟩
  rw [hP] at hs2
  subst hs2
  have b0 : (tkAt ts' ⟨bl.length + 0, 0, P⟩).is [wLet] = true := by rw [hat]; rfl
  have b1 : rWant ts' wLet ⟨bl.length + 0, 0, P⟩ = ⟨bl.length + 1, 0, P⟩ := by unfold rWant; rw [b0]; rfl
  have b2 : rKind ts' 2 ⟨bl.length + 1, 0, P⟩ = ⟨bl.length + 2, 0, P⟩ := by unfold rKind rTake; rw [hat]; rfl
  have b3 : letB ts' ⟨bl.length + 2, 0, P⟩ = ([], ⟨bl.length + 2, 0, P⟩) := by unfold letB; rw [hat]; rfl
  have b4 : rWant ts' [61] ⟨bl.length + 2, 0, P⟩ = ⟨bl.length + 3, 0, P⟩ := by unfold rWant; rw [hat]; rfl
  have b5 : exprP ts' 301 1 ⟨bl.length + 3, 0, P⟩ = (⟨.mk 5 [] 1000000 [] (10 + (D : Int)), 1⟩, ⟨bl.length + 4, 0, P⟩) := by
    have hst : Stop (tkAt ts' (rNext ⟨bl.length + 3, 0, P⟩)) := by
      have : rNext ⟨bl.length + 3, 0, P⟩ = ⟨bl.length + 4, 0, P⟩ := rfl
      rw [this, hat]
      exact .inr ⟨rfl, .inl rfl⟩
    exact expr_num (t := ⟨6, [], 1000000, 10 + (D : Int), 11 + (D : Int)⟩) (by decide) (by rw [hat]; rfl) rfl (lone_stop hst)
  have b6 : rWant ts' [59] ⟨bl.length + 4, 0, P⟩ = ⟨bl.length + 5, 0, P⟩ := by unfold rWant; rw [hat]; rfl
  have b7 : (tkAt ts' ⟨bl.length + 1, 0, P⟩).tx = [122, 122] := by rw [hat]; rfl
  have hlet : letP ts' ⟨bl.length + 0, 0, P⟩ = (.mk 3 [122, 122] 0 [.mk 5 [] 1000000 [] (10 + (D : Int))] (tkAt ts' ⟨bl.length + 1, 0, P⟩).a, ⟨bl.length + 5, 0, P⟩) := by
    unfold letP
    simp only
    rw [b1, b2, b3]
    simp only
    rw [b4, b5, b6, b7]
    rfl
  have b8 : (tkAt ts' ⟨bl.length + 5, 0, P⟩).is [wLet] = false := by rw [hat]; exact is_end hE0 _
  have hlen : ts'.length = bl.length + 6 := by rw [← hts']; simp [toksM]
  obtain ⟨k2, rfl⟩ : ∃ k, k2 = k + 1 := ⟨k2 - 1, by simp only at t5; omega⟩
  have el := all2_eq t4
  have ea := all2_eq r4
  cases h200 : l2.length == 200 with
  | true =>
    exfalso
    have hbad : (rowsP ts' wLet 200 (letP ts') (k2 + 1) l2 ⟨bl.length + 0, 0, P⟩).2.wh ≠ 0 := by
      unfold rowsP
      rw [b0, h200]
      exact fail_wh ts' (by decide)
    obtain ⟨m4, -⟩ := kind_end m2
    rw [modP_eq] at m4
    simp only at m4
    rw [r1] at m4
    simp only at m4
    rw [t1] at m4
    exact hbad m4
  | false =>
    rw [m3, z3, modP_eq]
    simp only
    rw [r1]
    simp only
    rw [t1, rows_step b0 h200, hlet, rows_stop b8, el, ea, ← a3.tx]
    have h0 : (tkAt ts ⟨0, 0, 0⟩).a = (tkAt ts' ⟨0, 0, 0⟩).a := by
      have hw : (tkAt ts ⟨0, 0, 0⟩).is [wModule] = true := by
        cases hw : (tkAt ts ⟨0, 0, 0⟩).is [wModule] with
        | true => rfl
        | false => unfold rWant at z9; rw [hw] at z9; exact absurd z9 (fail_wh ts (by decide))
      exact (is_true hA hM0 hw).2.a
    rw [← h0]
    refine ⟨_, _, _, _, (tkAt ts' ⟨bl.length + 1, 0, P⟩).a, 10 + (D : Int), rfl, ?_⟩
    rw [List.append_assoc]
end Go.Proofs.YtommhgmlblecnaaGreatDoor
