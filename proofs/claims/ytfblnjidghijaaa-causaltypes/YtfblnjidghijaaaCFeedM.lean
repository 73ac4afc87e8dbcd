/- causal: Feeds, plainly: sorted, each once. -/
import Derived.Test.YtfblnjidghijaaaCFeed
import Derived.Test.YtfblnjidghijaaaCRefM
namespace Go.Proofs.Ytfblnjidghijaaa
open Go Go.RowKit

mutual
/-- The feeds of a term, as they stand. -/
def fds : Co → List (List UInt8)
  | .mk op _ t kids => (bif op == 4 then [t] else []) ++ fdsL kids
def fdsL : List Co → List (List UInt8)
  | [] => []
  | c :: r => fds c ++ fdsL r
end
mutual
theorem fe_walk (d : Int) : ∀ (c : Co) (s : List (List UInt8)), walkP (agF feF) s d c = (s ++ fds c, true)
  | .mk op k t kids, s => by
    have h : agF feF s d (.mk op k t kids) = (s ++ (bif op == 4 then [t] else []), true) := by
      show ((bif op == 4 then s ++ [t] else s), true) = _
      cases op == 4 <;> simp
    rw [walkP, h, fds]
    simp only
    rw [fe_walkK (IntKind.i64.wrap (d + 1)) kids, List.append_assoc]
theorem fe_walkK (d : Int) : ∀ (l : List Co) (s : List (List UInt8)), walkK (agF feF) s d l = (s ++ fdsL l, true)
  | [], s => by rw [walkK, fdsL, List.append_nil]
  | c :: r, s => by
    rw [walkK, fe_walk d c s, fdsL]
    simp only
    rw [fe_walkK d r, List.append_assoc]
end
mutual
theorem fds_len : ∀ c : Co, ((fds c).length : Int) ≤ szC c
  | .mk op k t kids => by
    rw [fds, szC, List.length_append]
    have := fds_lenL kids
    cases op == 4 with
    | true => simp only [cond_true, List.length_cons, List.length_nil]; omega
    | false => simp only [cond_false, List.length_nil]; omega
theorem fds_lenL : ∀ l : List Co, ((fdsL l).length : Int) ≤ szL l
  | [] => by rw [fdsL, szL]; simp
  | c :: r => by rw [fdsL, szL, List.length_append]; have := fds_len c; have := fds_lenL r; omega
end
mutual
theorem fe_safe (d : Int) : ∀ (c : Co) (s : List (List UInt8)), (s.length : Int) + szC c ≤ 2001 → safeP (agF feF) (fun s => s.length ≤ 2000) s d c
  | .mk op k t kids, s, h => by
    have hp := szL_pos kids
    rw [szC] at h
    have hf : agF feF s d (.mk op k t kids) = (s ++ (bif op == 4 then [t] else []), true) := by
      show ((bif op == 4 then s ++ [t] else s), true) = _
      cases op == 4 <;> simp
    unfold safeP
    rw [hf]
    refine ⟨by omega, fe_safeK _ kids _ ?_⟩
    rw [List.length_append]
    cases op == 4 with
    | true => simp only [cond_true, List.length_cons, List.length_nil]; omega
    | false => simp only [cond_false, List.length_nil]; omega
theorem fe_safeK (d : Int) : ∀ (l : List Co) (s : List (List UInt8)), (s.length : Int) + szL l ≤ 2001 → safeK (agF feF) (fun s => s.length ≤ 2000) s d l
  | [], s, _ => by unfold safeK; trivial
  | c :: r, s, h => by
    rw [szL] at h
    have hp := szL_pos r
    have hl := fds_len c
    unfold safeK
    rw [fe_walk d c s]
    refine ⟨fe_safe d c s (by omega), fe_safeK d r _ ?_⟩
    rw [List.length_append]
    omega
end
mutual
theorem fd_fold : ∀ (c : Co) (l : List (List UInt8)), fdF l c = (fds c).foldl withF l
  | .mk op k t kids, l => by
    rw [fdF, fds, List.foldl_append, fd_foldK kids]
    cases op == 4 <;> rfl
theorem fd_foldK : ∀ (r : List Co) (l : List (List UInt8)), fdK l r = (fdsL r).foldl withF l
  | [], l => by rw [fdK, fdsL]; rfl
  | c :: r, l => by rw [fdK, fdsL, List.foldl_append, fd_fold c, fd_foldK r]
end
/-- Rising, each once. -/
abbrev Ris (l : List (List UInt8)) : Prop := l.Pairwise (· < ·)
theorem ris_eq : ∀ {a b : List (List UInt8)}, Ris a → Ris b → (∀ x, x ∈ a ↔ x ∈ b) → a = b
  | [], [], _, _, _ => rfl
  | [], y :: s, _, _, h => absurd ((h y).2 (by simp)) (by simp)
  | x :: r, [], _, _, h => absurd ((h x).1 (by simp)) (by simp)
  | x :: r, y :: s, ha, hb, h => by
    rw [Ris, List.pairwise_cons] at ha hb
    have hxy : x = y := by
      rcases List.mem_cons.1 ((h x).1 (by simp)) with e | e
      · exact e
      · rcases List.mem_cons.1 ((h y).2 (by simp)) with e' | e'
        · exact e'.symm
        · exact absurd (List.lt_trans (hb.1 x e) (ha.1 y e')) (List.lt_irrefl _)
    subst hxy
    congr 1
    refine ris_eq ha.2 hb.2 (fun z => ?_)
    constructor
    · intro hz
      rcases List.mem_cons.1 ((h z).1 (by simp [hz])) with e | e
      · subst e; exact absurd (ha.1 z hz) (List.lt_irrefl _)
      · exact e
    · intro hz
      rcases List.mem_cons.1 ((h z).2 (by simp [hz])) with e | e
      · subst e; exact absurd (hb.1 z hz) (List.lt_irrefl _)
      · exact e
theorem wpos_split : ∀ {l : List (List UInt8)} {s : List UInt8}, Ris l → (∀ x ∈ l.take (wpos l s), x < s) ∧ (∀ x ∈ l.drop (wpos l s), ¬ x < s)
  | [], s, _ => by simp
  | y :: r, s, h => by
    rw [Ris, List.pairwise_cons] at h
    unfold wpos
    by_cases hy : y < s
    · have ih := wpos_split (s := s) h.2
      unfold wpos at ih
      rw [List.takeWhile_cons, if_pos (by simpa using hy)]
      simp only [List.length_cons, List.take_succ_cons, List.drop_succ_cons, List.mem_cons]
      exact ⟨fun x hx => by rcases hx with e | e; rw [e]; exact hy; exact ih.1 x e, ih.2⟩
    · rw [List.takeWhile_cons, if_neg (by simpa using hy)]
      simp only [List.length_nil, List.take_zero, List.drop_zero, List.not_mem_nil, false_imp_iff, implies_true, List.mem_cons, true_and]
      intro x hx
      rcases hx with e | e
      · rw [e]; exact hy
      · exact fun hxs => hy (List.lt_trans (h.1 x e) hxs)
theorem with_ris {l : List (List UInt8)} {s : List UInt8} (h : Ris l) : Ris (withF l s) ∧ ∀ x, x ∈ withF l s ↔ x = s ∨ x ∈ l := by
  obtain ⟨h1, h2⟩ := wpos_split (s := s) h
  have hmem : ∀ x, x ∈ l ↔ x ∈ l.take (wpos l s) ∨ x ∈ l.drop (wpos l s) := fun x => by rw [← List.mem_append, List.take_append_drop]
  unfold withF
  by_cases he : l[wpos l s]? = some s
  · rw [decide_eq_true he, cond_true]
    have hs : s ∈ l := List.mem_of_getElem? he
    exact ⟨h, fun x => ⟨fun hx => .inr hx, fun hx => by rcases hx with e | e; rw [e]; exact hs; exact e⟩⟩
  · rw [decide_eq_false he, cond_false]
    have hsplit : Ris (l.take (wpos l s) ++ l.drop (wpos l s)) := by rw [List.take_append_drop]; exact h
    rw [Ris, List.pairwise_append] at hsplit
    have hgt : ∀ x ∈ l.drop (wpos l s), s < x := by
      intro x hx
      have hn := h2 x hx
      by_cases hxs : s < x
      · exact hxs
      · have hxe : x = s := by
          have a1 : x ≤ s := List.not_lt.1 hxs
          have a2 : s ≤ x := List.not_lt.1 hn
          exact List.le_antisymm a1 a2
        subst hxe
        exfalso
        cases hd : l.drop (wpos l x) with
        | nil => rw [hd] at hx; simp at hx
        | cons y r =>
          have hy : l[wpos l x]? = some y := by
            have : (l.drop (wpos l x))[0]? = some y := by rw [hd]; rfl
            rw [List.getElem?_drop, Nat.add_zero] at this
            exact this
          have hyn := h2 y (by rw [hd]; simp)
          rw [hd] at hx
          rcases List.mem_cons.1 hx with e | e
          · subst e; exact he hy
          · have := hsplit.2.1
            rw [hd, List.pairwise_cons] at this
            exact hyn (this.1 x e)
    refine ⟨?_, fun x => ?_⟩
    · rw [Ris, List.pairwise_append, List.pairwise_cons]
      refine ⟨hsplit.1, ⟨hgt, hsplit.2.1⟩, fun a ha b hb => ?_⟩
      rcases List.mem_cons.1 hb with e | e
      · rw [e]; exact h1 a ha
      · exact hsplit.2.2 a ha b e
    · rw [List.mem_append, List.mem_cons, hmem]
      constructor
      · rintro (h | h | h)
        · exact .inr (.inl h)
        · exact .inl h
        · exact .inr (.inr h)
      · rintro (h | h | h)
        · exact .inr (.inl h)
        · exact .inl h
        · exact .inr (.inr h)
theorem fold_ris : ∀ (zs l : List (List UInt8)), Ris l → Ris (zs.foldl withF l) ∧ ∀ x, x ∈ zs.foldl withF l ↔ x ∈ l ∨ x ∈ zs
  | [], l, h => ⟨h, fun x => by simp⟩
  | z :: r, l, h => by
    obtain ⟨h1, h2⟩ := with_ris (s := z) h
    obtain ⟨h3, h4⟩ := fold_ris r (withF l z) h1
    refine ⟨h3, fun x => ?_⟩
    rw [List.foldl_cons, h4, h2, List.mem_cons]
    constructor
    · rintro ((h | h) | h)
      · exact .inr (.inl h)
      · exact .inl h
      · exact .inr (.inr h)
    · rintro (h | h | h)
      · exact .inl (.inr h)
      · exact .inl (.inl h)
      · exact .inr h
theorem comp_up {zs : List (List UInt8)} (h : zs.Pairwise (· ≤ ·)) : ∀ m, m ≤ zs.length → Ris (Lib.compactUpTo zs.toArray m) ∧ ∀ x, x ∈ Lib.compactUpTo zs.toArray m ↔ x ∈ zs.take m
  | 0, _ => by simp [Lib.compactUpTo, Ris]
  | m + 1, hm => by
    obtain ⟨h1, h2⟩ := comp_up h m (by omega)
    have hml : m < zs.length := by omega
    have hg : zs.toArray[m]! = zs[m] := by simp [hml]
    have ht : zs.take (m + 1) = zs.take m ++ [zs[m]] := by rw [List.take_add_one]; simp [hml]
    have hle : ∀ x ∈ zs.take m, x ≤ zs[m] := by
      intro x hx
      obtain ⟨i, hi, e⟩ := List.mem_take_iff_getElem.1 hx
      rw [← e]
      exact (List.pairwise_iff_getElem.1 h) i m _ hml (by omega)
    rw [Lib.compactUpTo_succ, ht, hg]
    by_cases hk : Lib.keeps zs.toArray m = true
    · rw [if_pos hk]
      have hlt : ∀ x ∈ zs.take m, x < zs[m] := by
        intro x hx
        rcases Nat.eq_zero_or_pos m with h0 | h0
        · subst h0; simp at hx
        · have hne : zs[m] ≠ zs[m - 1]'(by omega) := by
            unfold Lib.keeps at hk
            have := of_decide_eq_true hk
            rcases this with e | e
            · omega
            · rw [hg] at e
              have e2 : zs.toArray[m - 1]! = zs[m - 1]'(by omega) := by simp [show m - 1 < zs.length by omega]
              rw [e2] at e
              exact e
          have hlast : zs[m - 1]'(by omega) ≤ zs[m] := (List.pairwise_iff_getElem.1 h) (m - 1) m (by omega) hml (by omega)
          have hx2 : x ≤ zs[m - 1]'(by omega) := by
            obtain ⟨i, hi, e⟩ := List.mem_take_iff_getElem.1 hx
            rw [← e]
            by_cases hi2 : i = m - 1
            · subst hi2; exact List.le_refl _
            · exact (List.pairwise_iff_getElem.1 h) i (m - 1) _ (by omega) (by omega)
          refine List.lt_of_le_of_lt hx2 ?_
          by_cases hl : zs[m - 1]'(by omega) < zs[m]
          · exact hl
          · exact absurd (List.le_antisymm hlast (List.not_lt.1 hl)) (fun e => hne e.symm)
      refine ⟨?_, fun x => by rw [List.mem_append, List.mem_append, h2]⟩
      rw [Ris, List.pairwise_append]
      exact ⟨h1, by simp, fun a ha b hb => by rw [List.mem_singleton] at hb; rw [hb]; exact hlt a ((h2 a).1 ha)⟩
    · rw [if_neg hk, List.append_nil]
      refine ⟨h1, fun x => ?_⟩
      rw [List.mem_append, h2, List.mem_singleton]
      constructor
      · exact .inl
      · rintro (h | h)
        · exact h
        · have h0 : m ≠ 0 := by rintro rfl; exact hk (by simp [Lib.keeps])
          have e : zs[m] = zs[m - 1]'(by omega) := by
            by_cases e : zs[m] = zs[m - 1]'(by omega)
            · exact e
            · refine absurd (Lib.keeps_pos ?_) hk
              rw [hg]
              have e2 : zs.toArray[m - 1]! = zs[m - 1]'(by omega) := by simp [show m - 1 < zs.length by omega]
              rw [e2]
              exact e
          rw [h, e]
          exact List.mem_take_iff_getElem.2 ⟨m - 1, by omega, rfl⟩
/-- Sorted and compacted is put in one by one. -/
theorem feed_same (zs : List (List UInt8)) : Lib.compact (zs.mergeSort fun x y => decide (x ≤ y)) = zs.foldl withF [] := by
  have hs : (zs.mergeSort fun x y => decide (x ≤ y)).Pairwise (· ≤ ·) := by
    have := List.pairwise_mergeSort (le := fun x y : List UInt8 => decide (x ≤ y)) (fun a b c h1 h2 => by simp only [decide_eq_true_eq] at h1 h2 ⊢; exact List.le_trans h1 h2) (fun a b => by simp only [Bool.or_eq_true, decide_eq_true_eq]; exact List.le_total a b) zs
    exact this.imp (fun h => by simpa using h)
  obtain ⟨h1, h2⟩ := comp_up hs _ (Nat.le_refl _)
  obtain ⟨h3, h4⟩ := fold_ris zs [] List.Pairwise.nil
  refine ris_eq h1 h3 (fun x => ?_)
  rw [h4]
  have := h2 x
  unfold Lib.compact
  rw [this, List.take_length, List.mem_mergeSort]
  simp
end Go.Proofs.Ytfblnjidghijaaa
