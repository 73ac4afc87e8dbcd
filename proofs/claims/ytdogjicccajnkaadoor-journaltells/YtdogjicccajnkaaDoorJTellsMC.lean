/- One byte that is another one: Open tells it, or it makes no difference. -/
import Derived.Test.YtdogjicccajnkaaDoorJPokeC
namespace Go.Proofs.YtdogjicccajnkaaDoor
open Go Go.RowKit

theorem crcOf_lt (l : List UInt8) : crcOf l < 4294967296 := by unfold crcOf; omega
theorem split_at {l : List UInt8} {q : Nat} (h : q < l.length) : l = l.take q ++ l[q] :: l.drop (q + 1) := by
  rw [List.getElem_cons_drop, List.take_append_drop]
theorem set_at {l : List UInt8} {q : Nat} (h : q < l.length) (c : UInt8) : l.set q c = l.take q ++ c :: l.drop (q + 1) := by
  rw [List.set_eq_take_append_cons_drop, if_pos h]
/-- A frame of which one byte is another one is none. -/
theorem bad_frame (kd b : List UInt8) (s m : Int) {q : Nat} (hq : q < 128) (c : UInt8) (hne : (frameOf kd b s m).getD q 0 ≠ c) : (headOf kd ((frameOf kd b s m).set q c)).2.2 = false := by
  cases hh : (headOf kd ((frameOf kd b s m).set q c)).2.2 with
  | false => rfl
  | true =>
    exfalso
    obtain ⟨s', m', ok⟩ : ∃ s' m', headOf kd ((frameOf kd b s m).set q c) = (s', m', true) := ⟨_, _, by rw [← hh]⟩
    have hE := (headOf_true ok).1
    generalize ((frameOf kd b s m).set q c).take 112 = b' at hE
    unfold frameOf at hE hne
    have hB := frBody_len b s m
    have hB' := frBody_len b' s' m'
    generalize frBody b s m = B at *
    generalize frBody b' s' m' = B' at *
    by_cases hlt : q < 124
    · rw [List.set_append_left _ _ (by omega)] at hE
      obtain ⟨e1, e2⟩ := List.append_inj hE (by rw [hB', List.length_set, hB])
      have e3 := le4_inj (crcOf_lt _) (crcOf_lt _) e2
      have hql : q < B.length := by omega
      rw [e1, set_at hql c] at e3
      have hs := split_at hql
      rw [show kd ++ B = (kd ++ B.take q) ++ B[q] :: B.drop (q + 1) by rw [List.append_assoc, ← hs], ← List.append_assoc] at e3
      refine crcOf_other (kd ++ B.take q) (B.drop (q + 1)) c B[q] (fun e => hne ?_) e3
      rw [e, List.getD, List.getElem?_append_left hql, List.getElem?_eq_getElem hql]
      rfl
    · rw [List.set_append_right _ _ (by omega)] at hE
      obtain ⟨e1, e2⟩ := List.append_inj hE (by rw [hB', hB])
      rw [e1] at e2
      have hl4 := le4_len (crcOf (kd ++ B))
      apply hne
      rw [List.getD, List.getElem?_append_right (by omega), hB]
      have h2 := congrArg (fun l => l[q - 124]?) e2
      simp only [hB] at h2
      rw [List.getElem?_set_self (by omega)] at h2
      rw [h2]
      rfl
theorem pokeL_other (ss : List (List UInt8)) {k i : Nat} (q : Nat) (c : UInt8) (h : i ≠ k) : (pokeL ss k q c)[i]? = ss[i]? := by
  unfold pokeL
  rw [List.getElem?_set_ne (fun e => h e.symm)]
theorem pokeL_at {ss : List (List UInt8)} {k : Nat} {l : List UInt8} (q : Nat) (c : UInt8) (h : ss[k]? = some l) : (pokeL ss k q c)[k]? = some (l.set q c) := by
  unfold pokeL
  rw [List.getElem?_set_self (List.getElem?_eq_some_iff.1 h).1, h]
  rfl
theorem pokeL_same {ss : List (List UInt8)} {k q : Nat} {l : List UInt8} (h : ss[k]? = some l) (hq : q < l.length) : pokeL ss k q (l.getD q 0) = ss := by
  apply List.ext_getElem?
  intro i
  by_cases e : i = k
  · subst e
    rw [pokeL_at q _ h, h]
    congr 1
    apply List.ext_getElem?
    intro x
    by_cases e2 : x = q
    · subst e2
      rw [List.getElem?_set_self hq, List.getD, List.getElem?_eq_getElem hq]; rfl
    · rw [List.getElem?_set_ne (fun e => e2 e.symm)]
  · exact pokeL_other ss q _ e
theorem Con.agree {ss ss' : List (List UInt8)} {nb sq cnt : Nat} {bl : List (List UInt8)} (h : Con ss nb sq cnt bl) (he : ∀ i, i < 2 + nb + nb → ss'[i]? = ss[i]?) : Con ss' nb sq cnt bl := by
  have hc := h.cnt_le
  refine ⟨h.nb_le, h.sq_le, h.cnt_le, h.len, h.lens, ?_, ?_, fun i hi => ?_, fun i hi => ?_⟩
  · rw [he _ (by omega)]; exact h.m0
  · obtain ⟨c, h1, h2⟩ := h.m1
    exact ⟨c, h1, by rw [he _ (by omega)]; exact h2⟩
  · obtain ⟨p, q, m, h1, h2, h3, h4, h5⟩ := h.notes i hi
    exact ⟨p, q, m, h1, h2, h3, by rw [he _ (by omega)]; exact h4, h5⟩
  · obtain ⟨p, q, h1, h2, h3, h4⟩ := h.blocks i hi
    refine ⟨p, q, h1, h2, by rw [he _ (by omega)]; exact h3, ?_⟩
    rcases h4 with h4 | ⟨k, b, h5, h6, h7⟩
    · exact .inl h4
    · exact .inr ⟨k, b, h5, h6, by rw [he _ (by omega)]; exact h7⟩
theorem Sett.agree {s : DS} {sq cnt : Nat} {bl : List (List UInt8)} (h : Sett s sq cnt bl) {k q : Nat} {c : UInt8} (he : ∀ i, i < 2 + nbOf s.n + nbOf s.n → (pokeL s.now k q c)[i]? = s.now[i]?) : Sett (s.poke k q c) sq cnt bl := by
  refine ⟨h.n32, h.gone, ?_, ?_, ?_, h.con.agree he, fun i hi => ?_⟩
  · show s.loose.map _ = []
    rw [h.loose]; rfl
  · show pokeL s.kept k q c = pokeL s.now k q c
    rw [h.same]
  · show (pokeL s.now k q c).length = s.n
    rw [pokeL_len]; exact h.len
  · have hi : i < nbOf s.n := hi
    obtain ⟨b, x, h1, h2, h3⟩ := h.laid i hi
    exact ⟨b, x, h1, h2, by show (pokeL s.now k q c)[2 + nbOf s.n + i]? = _; rw [he _ (by omega)]; exact h3⟩
theorem Con.mark {ss : List (List UInt8)} {nb sq cnt : Nat} {bl : List (List UInt8)} (h : Con ss nb sq cnt bl) {t : Nat} (ht : t < 2) : ∃ (a b : Int), HdOk a b ∧ ss[t]? = some (frameOf markK [] a b) := by
  have h1 := h.sq_le
  have h2 := h.cnt_le
  have h3 := h.nb_le
  by_cases e : sq % 2 = t
  · exact ⟨_, _, hdok (q := sq) (m := cnt) (by omega) (by omega), by rw [← e]; exact h.m0⟩
  · obtain ⟨c, hc, hm⟩ := h.m1
    exact ⟨_, _, hdok' (q := sq) (m := c) (by omega) hc, by rw [show t = (sq + 1) % 2 by omega]; exact hm⟩
theorem notesR_bad (nb : Nat) (sq cnt : Int) : ∀ (L : List (List UInt8)) (i k : Nat) (l : List UInt8), L[k]? = some l → (headOf blockK l).2.2 = false → notesR nb sq cnt i L = none
  | [], _, _, _, h, _ => by simp at h
  | x :: r, i, 0, l, h, hb => by
    simp only [List.getElem?_cons_zero, Option.some.injEq] at h
    subst h
    have : noteStep nb sq cnt i x = none := by unfold noteStep; rw [if_pos (.inl hb)]
    rw [notesR, this]
  | x :: r, i, k + 1, l, h, hb => by
    rw [List.getElem?_cons_succ] at h
    have ih := notesR_bad nb sq cnt r (i + 1) k l h hb
    rw [notesR]
    cases noteStep nb sq cnt i x with
    | none => rfl
    | some a => simp only [ih]; rfl
theorem drop_take_get {ss : List (List UInt8)} {a n i : Nat} (hi : i < n) : ((ss.drop a).take n)[i]? = ss[a + i]? := by
  rw [List.getElem?_take_of_lt hi, List.getElem?_drop]
theorem getD_of7 {ss : List (List UInt8)} {i : Nat} {l : List UInt8} (h : ss[i]? = some l) : ss.getD i [] = l := by rw [List.getD, h]; rfl
/-- What Open says of a disk of which one byte was turned. -/
theorem poke_shape {s : DS} {sq cnt : Nat} {bl : List (List UInt8)} (h : Sett s sq cnt bl) {k q : Nat} (hq : q < 128) (c : UInt8) {l : List UInt8} (hl : s.now[k]? = some l) (hll : l.length = 128) :
    (c = l.getD q 0 → Sett (s.poke k q c) sq cnt bl) ∧ (Sett (s.poke k q c) sq cnt bl ∨ (s.poke k q c).openR.1 = 62) := by
  have h1 : c = l.getD q 0 → Sett (s.poke k q c) sq cnt bl := fun e => by
    subst e
    exact h.agree (fun i _ => by rw [pokeL_same hl (by omega)])
  refine ⟨h1, ?_⟩
  by_cases hc : c = l.getD q 0
  · exact .inl (h1 hc)
  have hne : ∀ f : List UInt8, l = f → f.getD q 0 ≠ c := fun f e => by rw [← e]; exact fun e2 => hc e2.symm
  have hnb := h.con.nb_le
  have hsq := h.con.sq_le
  obtain ⟨nb, hnbe⟩ : ∃ nb, nb = nbOf s.n := ⟨_, rfl⟩
  by_cases hk0 : 2 + nbOf s.n + nbOf s.n ≤ k
  · exact .inl (h.agree (fun i hi => pokeL_other _ _ _ (by omega)))
  · refine .inr ?_
    by_cases hk1 : k < 2
    · obtain ⟨a, b, _, hm⟩ := h.con.mark hk1
      rw [hl] at hm
      have hlf := Option.some.inj hm
      have hbad := bad_frame markK [] a b hq c (hne _ hlf)
      rw [← hlf] at hbad
      obtain ⟨a2, b2, ho2, hm2⟩ := h.con.mark (t := 1 - k) (by omega)
      have hgood := headOf_frame markK [] ho2
      have g1 : (s.poke k q c).now.getD k [] = l.set q c := getD_of7 (pokeL_at q c hl)
      have g2 : (s.poke k q c).now.getD (1 - k) [] = frameOf markK [] a2 b2 := getD_of7 (by show (pokeL s.now k q c)[_]? = _; rw [pokeL_other _ _ _ (by omega)]; exact hm2)
      have hlast : (lastR ((s.poke k q c).now.getD 0 []) ((s.poke k q c).now.getD 1 [])).2 = 62 := by
        rcases (by omega : k = 0 ∨ k = 1) with rfl | rfl
        · rw [g1, g2]
          unfold lastR
          rw [hgood, if_neg (by simp), if_pos (.inl hbad)]
        · rw [g1, g2]
          unfold lastR
          rw [hgood, if_neg (by simp), if_pos (.inr (.inl hbad))]
      unfold DS.openR
      rw [if_pos (by rw [hlast]; decide), hlast]
    · have e0 : (s.poke k q c).now.getD 0 [] = s.now.getD 0 [] := by
        show (pokeL s.now k q c).getD 0 [] = _
        rw [List.getD, List.getD, pokeL_other _ _ _ (by omega)]
      have e1 : (s.poke k q c).now.getD 1 [] = s.now.getD 1 [] := by
        show (pokeL s.now k q c).getD 1 [] = _
        rw [List.getD, List.getD, pokeL_other _ _ _ (by omega)]
      unfold DS.openR
      rw [e0, e1, h.con.last, if_neg (by simp)]
      by_cases hk2 : k < 2 + nbOf s.n
      · obtain ⟨p, q0, m, _, _, _, hn, _⟩ := h.con.notes (k - 2) (by omega)
        rw [show 2 + (k - 2) = k by omega, hl] at hn
        have hlf := Option.some.inj hn
        have hbad := bad_frame blockK p _ _ hq c (hne _ hlf)
        rw [← hlf] at hbad
        have hnone : notesR (nbOf (s.poke k q c).n) ((sq : Nat) : Int) ((cnt : Nat) : Int) 0 (s.poke k q c).notes = none := notesR_bad _ _ _ _ 0 (k - 2) (l.set q c) (by
          show (((pokeL s.now k q c).drop 2).take (nbOf s.n))[k - 2]? = _
          rw [drop_take_get (by omega), show 2 + (k - 2) = k by omega]
          exact pokeL_at q c hl) hbad
        simp only [hnone]
      · obtain ⟨ns, hns, _, _⟩ := h.con.notesOf
        have en : (s.poke k q c).notes = s.notes := by
          show ((pokeL s.now k q c).drop 2).take (nbOf s.n) = (s.now.drop 2).take (nbOf s.n)
          apply List.ext_getElem?
          intro i
          by_cases hi : i < nbOf s.n
          · rw [drop_take_get hi, drop_take_get hi, pokeL_other _ _ _ (by omega)]
          · rw [List.getElem?_eq_none (by rw [List.length_take]; omega), List.getElem?_eq_none (by rw [List.length_take]; omega)]
        have hns' : notesR (nbOf (s.poke k q c).n) ((sq : Nat) : Int) ((cnt : Nat) : Int) 0 (s.poke k q c).notes = some ns := by rw [en]; exact hns
        obtain ⟨p, q0, _, _, hb, _⟩ := h.con.blocks (k - (2 + nbOf s.n)) (by omega)
        rw [show 2 + nbOf s.n + (k - (2 + nbOf s.n)) = k by omega, hl] at hb
        have hlf := Option.some.inj hb
        have hbad := bad_frame blockK p _ _ hq c (hne _ hlf)
        rw [← hlf] at hbad
        have hok : okB (s.poke k q c).blocks = false := by
          cases ho : okB (s.poke k q c).blocks with
          | false => rfl
          | true =>
            have h2 := (okB_iff _).1 ho (k - (2 + nbOf s.n)) (l.set q c) (by
              show (((pokeL s.now k q c).drop (2 + nbOf s.n)).take (nbOf s.n))[k - (2 + nbOf s.n)]? = _
              rw [drop_take_get (by omega), show 2 + nbOf s.n + (k - (2 + nbOf s.n)) = k by omega]
              exact pokeL_at q c hl)
            unfold blkR at h2
            rw [if_neg (fun e => by rw [hbad] at e; exact absurd e.1 (by decide))] at h2
            exact absurd h2 (by decide)
        simp only [hns', hok, if_true]
end Go.Proofs.YtdogjicccajnkaaDoor
