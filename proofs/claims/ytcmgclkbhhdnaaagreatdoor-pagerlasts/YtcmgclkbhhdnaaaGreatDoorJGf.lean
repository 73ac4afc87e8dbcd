/- texts put together: JCon JRun JCom JCom2 JOpen2 JTop -/
import Derived.Test.YtcmgclkbhhdnaaaGreatDoorJGe
namespace Go.Proofs.YtcmgclkbhhdnaaaGreatDoor
open Go Go.RowKit

/-- The sectors ss have a journal of nb blocks, whose last write is the one of number sq, of cnt notes, and whose blocks are bl. -/
structure Con (ss : List (List UInt8)) (nb sq cnt : Nat) (bl : List (List UInt8)) : Prop where
  nb_le : nb < 8192
  sq_le : sq ≤ 1000000000
  cnt_le : cnt ≤ nb
  len : bl.length = nb
  lens : ∀ b ∈ bl, b.length = 112
  m0 : ss[sq % 2]? = some (frameOf markK [] (sq : Nat) (cnt : Nat))
  m1 : ∃ c : Nat, c < 8192 ∧ ss[(sq + 1) % 2]? = some (frameOf markK [] ((sq : Int) - 1) (c : Nat))
  notes : ∀ i, i < nb → ∃ (p : List UInt8) (q m : Nat), p.length = 112 ∧ m < nb ∧ q ≤ sq + 1 ∧ ss[2 + i]? = some (frameOf blockK p (q : Nat) (m : Nat)) ∧ (i < cnt → q = sq ∧ bl[m]? = some p ∨ q = sq + 1)
  blocks : ∀ i, i < nb → ∃ (p : List UInt8) (q : Nat), p.length = 112 ∧ q ≤ sq + 1 ∧ ss[2 + nb + i]? = some (frameOf blockK p (q : Nat) (i : Nat)) ∧ (bl[i]? = some p ∨ ∃ k b, k < cnt ∧ bl[i]? = some b ∧ ss[2 + k]? = some (frameOf blockK b (sq : Nat) (i : Nat)))
/-- And all of them are laid. -/
def Laid (ss : List (List UInt8)) (nb sq : Nat) (bl : List (List UInt8)) : Prop := ∀ i, i < nb → ∃ (b : List UInt8) (q : Nat), q ≤ sq + 1 ∧ bl[i]? = some b ∧ ss[2 + nb + i]? = some (frameOf blockK b (q : Nat) (i : Nat))
theorem hdok {q m : Nat} (hq : q ≤ 1000000001) (hm : m < 8192) : HdOk (q : Nat) (m : Nat) := ⟨by omega, by omega⟩
theorem hdok' {q m : Nat} (hq : q ≤ 1000000001) (hm : m < 8192) : HdOk ((q : Int) - 1) (m : Nat) := ⟨by omega, by omega⟩
theorem next_up (q : Nat) (h : q ≤ 1000000001) : nextB (q : Nat) ((q : Int) - 1) = true := by
  unfold nextB
  have : wrap64 ((q : Int) - 1 + 1) = (q : Int) := by unfold wrap64; omega
  rw [this]; simp
theorem next_down (q : Nat) (h : q ≤ 1000000001) : nextB ((q : Int) - 1) (q : Nat) = true := by
  unfold nextB
  have : wrap64 ((q : Int) - 1 + 1) = (q : Int) := by unfold wrap64; omega
  rw [this]; simp
theorem getD_of {ss : List (List UInt8)} {i : Nat} {l : List UInt8} (h : ss[i]? = some l) : ss.getD i [] = l := by simp [List.getD, h]
theorem Con.last {ss : List (List UInt8)} {nb sq cnt : Nat} {bl : List (List UInt8)} (h : Con ss nb sq cnt bl) : lastR (ss.getD 0 []) (ss.getD 1 []) = ((((sq : Nat) : Int), ((cnt : Nat) : Int)), 0) := by
  obtain ⟨c, hc, h1⟩ := h.m1
  have h0 := h.m0
  have hsq := h.sq_le
  have hcn : cnt < 8192 := Nat.lt_of_le_of_lt h.cnt_le h.nb_le
  have e0 := headOf_frame markK [] (hdok (q := sq) (m := cnt) (by omega) hcn)
  have e1 := headOf_frame markK [] (hdok' (q := sq) (m := c) (by omega) hc)
  rcases Nat.mod_two_eq_zero_or_one sq with h2 | h2
  · rw [h2] at h0
    rw [show (sq + 1) % 2 = 1 by omega] at h1
    rw [getD_of h0, getD_of h1]
    unfold lastR
    rw [e0, e1, if_neg (by simp), if_neg (by simp [next_up sq (by omega)]), if_pos (by show ((sq : Nat) : Int) - 1 < (sq : Nat); omega)]
  · rw [h2] at h0
    rw [show (sq + 1) % 2 = 0 by omega] at h1
    rw [getD_of h0, getD_of h1]
    unfold lastR
    rw [e0, e1, if_neg (by simp), if_neg (by simp [next_down sq (by omega)]), if_neg (by show ¬ ((sq : Nat) : Int) < (sq : Nat) - 1; omega)]
theorem step_frame {nb cnt i : Nat} {sq p} {q m : Nat} (hq : q ≤ 1000000001) (hm : m < nb) (hnb : nb < 8192) : noteStep nb sq (cnt : Nat) i (frameOf blockK p (q : Nat) (m : Nat)) =
    if cnt ≤ i then some [] else if ((q : Nat) : Int) = sq then some [(m, frameOf blockK p (q : Nat) (m : Nat))] else if ((q : Nat) : Int) = wrap64 (sq + 1) then some [] else none := by
  unfold noteStep
  rw [headOf_frame blockK p (hdok hq (by omega))]
  have hh : hasB ((m : Nat) : Int) nb = true := by unfold hasB; simp; omega
  rw [if_neg (by simp [hh])]
  simp only [Int.toNat_natCast, Int.ofNat_le]
theorem notesR_all (nb : Nat) (sq cnt : Int) : ∀ (L : List (List UInt8)) (i : Nat), (∀ (k : Nat) l, L[k]? = some l → ∃ a, noteStep nb sq cnt (i + k) l = some a) →
    ∃ ns, notesR nb sq cnt i L = some ns ∧ ∀ x, x ∈ ns ↔ ∃ (k : Nat) (l : List UInt8) (a : List (Nat × List UInt8)), L[k]? = some l ∧ noteStep nb sq cnt (i + k) l = some a ∧ x ∈ a
  | [], i, _ => ⟨[], rfl, fun x => by simp⟩
  | l :: L, i, h => by
    obtain ⟨a, ha⟩ := h 0 l rfl
    obtain ⟨ns, hns, hm⟩ := notesR_all nb sq cnt L (i + 1) (fun k l hl => by
      obtain ⟨a, ha⟩ := h (k + 1) l (by simpa using hl)
      exact ⟨a, by rw [show i + 1 + k = i + (k + 1) by omega]; exact ha⟩)
    refine ⟨a ++ ns, ?_, fun x => ?_⟩
    · simp only [notesR]
      rw [show i = i + 0 by omega, ha]
      simp [hns]
    · rw [List.mem_append, hm x]
      constructor
      · rintro (hx | ⟨k, l', a', h1, h2, h3⟩)
        · exact ⟨0, l, a, rfl, ha, hx⟩
        · exact ⟨k + 1, l', a', by simpa using h1, by rw [show i + (k + 1) = i + 1 + k by omega]; exact h2, h3⟩
      · rintro ⟨k, l', a', h1, h2, h3⟩
        cases k with
        | zero =>
          cases h1
          rw [ha] at h2
          cases h2
          exact .inl h3
        | succ k => exact .inr ⟨k, l', a', by simpa using h1, by rw [show i + 1 + k = i + (k + 1) by omega]; exact h2, h3⟩
theorem Con.notesOf {s : DS} {sq cnt : Nat} {bl : List (List UInt8)} (h : Con s.now (nbOf s.n) sq cnt bl) : ∃ ns, notesR (nbOf s.n) (sq : Nat) (cnt : Nat) 0 s.notes = some ns ∧
    (∀ x ∈ ns, ∃ b, bl[x.1]? = some b ∧ x.2 = frameOf blockK b (sq : Nat) (x.1 : Nat) ∧ x.1 < nbOf s.n) ∧
    (∀ k b m, k < cnt → m < nbOf s.n → s.now[2 + k]? = some (frameOf blockK b (sq : Nat) (m : Nat)) → (m, frameOf blockK b (sq : Nat) (m : Nat)) ∈ ns) := by
  have hnb := h.nb_le
  have hsq := h.sq_le
  have hcl := h.cnt_le
  have hnl : ∀ (k : Nat) l, s.notes[k]? = some l → k < nbOf s.n := fun k l hl => by
    have h1 := (List.getElem?_eq_some_iff.1 hl).1
    unfold DS.notes at h1
    rw [List.length_take] at h1; omega
  have hw : wrap64 (((sq : Nat) : Int) + 1) = ((sq + 1 : Nat) : Int) := by unfold wrap64; omega
  obtain ⟨ns, hns, hm⟩ := notesR_all (nbOf s.n) (sq : Nat) (cnt : Nat) s.notes 0 (fun k l hl => by
    obtain ⟨p, q, m, hp, hmn, hq, hs, hc⟩ := h.notes k (hnl k l hl)
    rw [notes_at k l hl] at hs
    cases hs
    rw [Nat.zero_add, step_frame (by omega) hmn hnb]
    split
    · exact ⟨_, rfl⟩
    · rename_i hck
      rcases hc (by omega) with ⟨rfl, _⟩ | rfl
      · rw [if_pos rfl]; exact ⟨_, rfl⟩
      · rw [if_neg (by omega), hw, if_pos rfl]; exact ⟨_, rfl⟩)
  refine ⟨ns, hns, fun x hx => ?_, fun k b m hk hmn hs => ?_⟩
  · obtain ⟨k, l, a, hl, ha, hxa⟩ := (hm x).1 hx
    obtain ⟨p, q, m, hp, hmn, hq, hs, hc⟩ := h.notes k (hnl k l hl)
    rw [notes_at k l hl] at hs
    cases hs
    rw [Nat.zero_add, step_frame (by omega) hmn hnb] at ha
    split at ha
    · cases ha; simp at hxa
    · rename_i hck
      rcases hc (by omega) with ⟨rfl, hb⟩ | rfl
      · rw [if_pos rfl] at ha
        cases ha
        obtain rfl : x = _ := by simpa using hxa
        exact ⟨p, hb, rfl, hmn⟩
      · rw [if_neg (by omega), hw, if_pos rfl] at ha
        cases ha; simp at hxa
  · refine (hm _).2 ⟨k, frameOf blockK b (sq : Nat) (m : Nat), [(m, frameOf blockK b (sq : Nat) (m : Nat))], ?_, ?_, by simp⟩
    · unfold DS.notes
      rw [List.getElem?_take_of_lt (by omega), List.getElem?_drop]; exact hs
    · rw [Nat.zero_add, step_frame (by omega) hmn hnb, if_neg (by omega), if_pos rfl]
theorem Con.ok {s : DS} {sq cnt : Nat} {bl : List (List UInt8)} (h : Con s.now (nbOf s.n) sq cnt bl) : okB s.blocks = true := by
  rw [okB_iff]
  intro k l hl
  have hnb := h.nb_le
  have hsq := h.sq_le
  have hk : k < nbOf s.n := by
    have h1 := (List.getElem?_eq_some_iff.1 hl).1
    unfold DS.blocks at h1
    rw [List.length_take] at h1; omega
  obtain ⟨p, q, hp, hq, hs, _⟩ := h.blocks k hk
  rw [blocks_at k l hl] at hs
  cases hs
  unfold blkR
  rw [headOf_frame blockK p (hdok (q := q) (m := k) (by omega) (by omega)), if_pos ⟨rfl, rfl⟩]
/-- What Open does there. -/
theorem Con.opens {s : DS} {sq cnt : Nat} {bl : List (List UInt8)} (h : Con s.now (nbOf s.n) sq cnt bl) : ∃ ns, s.openR = ((s.mendR (nbOf s.n) ns).1, ((sq : Nat) : Int), (s.mendR (nbOf s.n) ns).2) ∧
    (∀ x ∈ ns, ∃ b, bl[x.1]? = some b ∧ x.2 = frameOf blockK b (sq : Nat) (x.1 : Nat) ∧ x.1 < nbOf s.n) ∧
    (∀ i, i < nbOf s.n → (∃ b, bl[i]? = some b ∧ (i, frameOf blockK b (sq : Nat) (i : Nat)) ∈ ns) ∨ ∃ b q, q ≤ sq + 1 ∧ bl[i]? = some b ∧ s.now[2 + nbOf s.n + i]? = some (frameOf blockK b (q : Nat) (i : Nat))) ∧ ns.length ≤ nbOf s.n := by
  obtain ⟨ns, hns, h1, h2⟩ := h.notesOf
  refine ⟨ns.filter (missF s.blocks), ?_, fun x hx => h1 x (List.mem_filter.1 hx).1, fun i hi => ?_, ?_⟩
  · unfold DS.openR
    rw [h.last, if_neg (by simp)]
    simp only [hns]
    rw [if_neg (by rw [h.ok]; decide)]
  · obtain ⟨p, q, hp, hq, hs, hc⟩ := h.blocks i hi
    rcases hc with hc | ⟨k, b, hk, hb, hn⟩
    · exact .inr ⟨p, q, hq, hc, hs⟩
    · have hm := h2 k b i hk hi hn
      have hbk : s.blocks[i]? = some (frameOf blockK p (q : Nat) (i : Nat)) := by
        unfold DS.blocks
        rw [List.getElem?_take_of_lt hi, List.getElem?_drop]; exact hs
      by_cases he : frameOf blockK p (q : Nat) (i : Nat) = frameOf blockK b (sq : Nat) (i : Nat)
      · exact .inr ⟨b, sq, by omega, hb, by rw [hs, he]⟩
      · refine .inl ⟨b, hb, List.mem_filter.2 ⟨hm, ?_⟩⟩
        unfold missF
        rw [getD_of hbk]
        simpa using he
  · have h3 := notesR_len _ _ _ _ _ _ hns
    have h4 := List.length_filter_le (missF s.blocks) ns
    have h5 : s.notes.length ≤ nbOf s.n := by unfold DS.notes; rw [List.length_take]; omega
    omega
end Go.Proofs.YtcmgclkbhhdnaaaGreatDoor
namespace Go.Proofs.YtcmgclkbhhdnaaaGreatDoor
open Go Go.RowKit

theorem laySome_mem (L : List (Nat × List UInt8)) (k : Nat) : ∀ (ks : List Int) (ss : List (List UInt8)), (ks.foldl (layOne L) ss)[k]? = ss[k]? ∨ ∃ l, (k, l) ∈ L ∧ (ks.foldl (layOne L) ss)[k]? = some l := by
  intro ks
  induction ks with
  | nil => intro ss; exact .inl rfl
  | cons z r ih =>
    intro ss
    rw [List.foldl_cons]
    rcases ih (layOne L ss z) with h | h
    · rw [h]
      unfold layOne
      split
      · rename_i x hx
        by_cases e : x.1 = k
        · by_cases hk : k < ss.length
          · have hxm : x ∈ L := by
              split at hx
              · exact List.mem_of_getElem? hx
              · cases hx
            subst e
            exact .inr ⟨x.2, hxm, List.getElem?_set_self hk⟩
          · left
            rw [List.getElem?_eq_none (by simpa using hk), List.getElem?_eq_none (by omega)]
        · exact .inl (List.getElem?_set_ne e)
      · exact .inl rfl
    · exact .inr h
/-- Behind a crash a sector is as it was kept, or as a loose write had it. -/
theorem crashed_mem (kept : List (List UInt8)) (L : List (Nat × List UInt8)) (zs : List Int) (k : Nat) : (crashed kept L zs)[k]? = kept[k]? ∨ ∃ l, (k, l) ∈ L ∧ (crashed kept L zs)[k]? = some l := laySome_mem L k _ kept
theorem layAll_mem (k : Nat) : ∀ (L : List (Nat × List UInt8)) (ss : List (List UInt8)), (layAll ss L)[k]? = ss[k]? ∨ ∃ l, (k, l) ∈ L ∧ (layAll ss L)[k]? = some l := by
  intro L
  induction L with
  | nil => intro ss; exact .inl rfl
  | cons x r ih =>
    intro ss
    show (layAll (ss.set x.1 x.2) r)[k]? = _ ∨ ∃ l, _ ∧ (layAll (ss.set x.1 x.2) r)[k]? = some l
    rcases ih (ss.set x.1 x.2) with h | ⟨l, hl, h⟩
    · rw [h]
      by_cases e : x.1 = k
      · by_cases hk : k < ss.length
        · exact .inr ⟨x.2, by rw [← e]; simp, by rw [e, List.getElem?_set_self hk]⟩
        · left
          rw [List.getElem?_eq_none (by simpa using hk), List.getElem?_eq_none (by omega)]
      · exact .inl (List.getElem?_set_ne e)
    · exact .inr ⟨l, List.mem_cons_of_mem _ hl, h⟩
/-- Where each place is written at most once, all that is written stands there. -/
theorem layAll_in : ∀ (L : List (Nat × List UInt8)) (ss : List (List UInt8)) (x : Nat × List UInt8), (L.map (·.1)).Nodup → x ∈ L → x.1 < ss.length → (layAll ss L)[x.1]? = some x.2 := by
  intro L
  induction L with
  | nil => intro ss x _ h; simp at h
  | cons y r ih =>
    intro ss x hn hx hl
    rw [List.map_cons, List.nodup_cons] at hn
    show (layAll (ss.set y.1 y.2) r)[x.1]? = _
    rcases List.mem_cons.1 hx with rfl | hx
    · rcases layAll_mem x.1 r (ss.set x.1 x.2) with h | ⟨l, hm, _⟩
      · rw [h, List.getElem?_set_self hl]
      · exact absurd (List.mem_map.2 ⟨_, hm, rfl⟩) hn.1
    · exact ih (ss.set y.1 y.2) x hn.2 hx (by simpa using hl)
theorem DS.ext' {a b : DS} (h1 : a.n = b.n) (h2 : a.now = b.now) (h3 : a.kept = b.kept) (h4 : a.loose = b.loose) (h5 : a.ops = b.ops) (h6 : a.cut = b.cut) (h7 : a.gone = b.gone) : a = b := by
  cases a; cases b; simp_all
theorem wr_lost {s : DS} (h : lost s.cut s.ops = true) (x : Int) (l : List UInt8) : s.wr x l = (43, { s with gone := true }) := by unfold DS.wr; rw [if_pos h]
theorem wr_ok {s : DS} (h : lost s.cut s.ops = false) {x : Nat} {l : List UInt8} (hx : x < s.n) (hl : l.length = 128) (ho : s.ops < 1048576) :
    s.wr (x : Nat) l = (0, { s with gone := false, now := s.now.set x l, loose := s.loose ++ [(x, l)], ops := s.ops + 1 }) := by
  unfold DS.wr
  rw [if_neg (by rw [h]; decide), if_neg (by omega), if_neg (by simp [hl]), if_neg (by omega), Int.toNat_natCast]
theorem fl_lost {s : DS} (h : lost s.cut s.ops = true) : s.fl = (43, { s with gone := true }) := by unfold DS.fl; rw [if_pos h]
theorem fl_ok {s : DS} (h : lost s.cut s.ops = false) (ho : s.ops < 1048576) : s.fl = (0, { s with gone := false, kept := s.now, loose := [], ops := s.ops + 1 }) := by
  unfold DS.fl
  rw [if_neg (by rw [h]; decide), if_neg (by omega)]
/-- How far writes come. -/
theorem puts_shape : ∀ (L : List (Nat × List UInt8)) (s : DS), s.gone = false → (∀ x ∈ L, x.1 < s.n ∧ x.2.length = 128) → s.ops + (L.length : Int) ≤ 1048576 →
    ∃ k, k ≤ L.length ∧ ((s.puts L = (0, { s with now := layAll s.now L, loose := s.loose ++ L, ops := s.ops + (L.length : Int) })) ∨
      s.puts L = (43, { s with gone := true, now := layAll s.now (L.take k), loose := s.loose ++ L.take k, ops := s.ops + (k : Int) }) ∧ lost s.cut (s.ops + (k : Int)) = true)
  | [], s, hg, _, _ => ⟨0, Nat.le_refl _, .inl (by
      simp only [DS.puts]
      congr 1
      exact DS.ext' rfl rfl rfl (by simp) (by simp) rfl rfl)⟩
  | x :: L, s, hg, hL, ho => by
    simp only [List.length_cons] at ho ⊢
    cases hlo : lost s.cut s.ops with
    | true =>
      refine ⟨0, Nat.zero_le _, .inr ⟨?_, by simpa using hlo⟩⟩
      simp only [DS.puts]
      rw [wr_lost hlo, if_neg (by simp)]
      congr 1
      exact DS.ext' rfl rfl rfl (by simp) (by simp) rfl rfl
    | false =>
      have hx := hL x (by simp)
      have hw := wr_ok hlo hx.1 hx.2 (by omega)
      obtain ⟨k, hk, h⟩ := puts_shape L { s with gone := false, now := s.now.set x.1 x.2, loose := s.loose ++ [(x.1, x.2)], ops := s.ops + 1 } rfl (fun y hy => hL y (List.mem_cons_of_mem _ hy)) (by show s.ops + 1 + _ ≤ _; omega)
      refine ⟨k + 1, by omega, ?_⟩
      rcases h with h | ⟨h, hk2⟩
      · left
        simp only [DS.puts]
        rw [hw, if_pos rfl]
        simp only
        rw [h]
        congr 1
        refine DS.ext' rfl rfl rfl (by simp) (by simp; omega) rfl hg.symm
      · right
        refine ⟨?_, by simp at hk2 ⊢; rw [← hk2]; congr 1; omega⟩
        simp only [DS.puts]
        rw [hw, if_pos rfl]
        simp only
        rw [h]
        congr 1
        refine DS.ext' rfl rfl rfl (by simp) (by simp; omega) rfl rfl
end Go.Proofs.YtcmgclkbhhdnaaaGreatDoor
namespace Go.Proofs.YtcmgclkbhhdnaaaGreatDoor
open Go Go.RowKit

theorem con_notes {ss ss' : List (List UInt8)} {nb sq cnt : Nat} {bl : List (List UInt8)} (h : Con ss nb sq cnt bl) (hl : Laid ss nb sq bl)
    (hs : ∀ j : Nat, ss'[j]? = ss[j]? ∨ ∃ (i : Nat) (p : List UInt8) (m : Nat), i < nb ∧ m < nb ∧ p.length = 112 ∧ j = 2 + i ∧ ss'[j]? = some (frameOf blockK p ((sq + 1 : Nat) : Int) (m : Nat))) : Con ss' nb sq cnt bl ∧ Laid ss' nb sq bl := by
  have e0 : ∀ j, j < 2 → ss'[j]? = ss[j]? := fun j hj => by
    rcases hs j with h | ⟨i, p, m, _, _, _, e, _⟩
    · exact h
    · omega
  have e1 : ∀ i, i < nb → ss'[2 + nb + i]? = ss[2 + nb + i]? := fun i hi => by
    rcases hs (2 + nb + i) with h | ⟨i', p, m, _, _, _, e, _⟩
    · exact h
    · omega
  have hL : Laid ss' nb sq bl := fun i hi => by
    obtain ⟨b, q, h1, h2, h3⟩ := hl i hi
    exact ⟨b, q, h1, h2, by rw [e1 i hi]; exact h3⟩
  refine ⟨⟨h.nb_le, h.sq_le, h.cnt_le, h.len, h.lens, ?_, ?_, fun i hi => ?_, fun i hi => ?_⟩, hL⟩
  · rw [e0 _ (Nat.mod_lt _ (by decide))]; exact h.m0
  · obtain ⟨c, hc, hm⟩ := h.m1
    exact ⟨c, hc, by rw [e0 _ (Nat.mod_lt _ (by decide))]; exact hm⟩
  · rcases hs (2 + i) with he | ⟨i', p, m, hi', hm, hp, e, hf⟩
    · obtain ⟨p, q, m, h1, h2, h3, h4, h5⟩ := h.notes i hi
      exact ⟨p, q, m, h1, h2, h3, by rw [he]; exact h4, h5⟩
    · exact ⟨p, sq + 1, m, hp, hm, Nat.le_refl _, hf, fun _ => .inr rfl⟩
  · obtain ⟨b, q, h1, h2, h3⟩ := hL i hi
    exact ⟨b, q, h.lens b (List.mem_of_getElem? h2), h1, h3, .inl h2⟩
/-- The frames of what is written. -/
def fr1 (sq : Nat) (x : Nat × List UInt8) : Nat × List UInt8 := (x.1, frameOf blockK x.2 (sq : Nat) (x.1 : Nat))
theorem con_mark {ss : List (List UInt8)} {nb sq cnt : Nat} {bl : List (List UInt8)} (h : Con ss nb sq cnt bl) (hl : Laid ss nb sq bl) {ws : List (Nat × List UInt8)} (hsq : sq + 1 ≤ 1000000000) (hk : ws.length ≤ nb) (hn : (ws.map (·.1)).Nodup) (hw : ∀ x ∈ ws, x.1 < nb ∧ x.2.length = 112)
    (hs : ∀ (i : Nat) x, ws[i]? = some x → ss[2 + i]? = some (fr1 (sq + 1) x).2) : Con (ss.set ((sq + 1) % 2) (frameOf markK [] ((sq + 1 : Nat) : Int) (ws.length : Nat))) nb (sq + 1) ws.length (layAll bl ws) := by
  obtain ⟨c, hc, hm1⟩ := h.m1
  have hm0 := h.m0
  have hlen := (List.getElem?_eq_some_iff.1 hm1).1
  have hcn : cnt < 8192 := Nat.lt_of_le_of_lt h.cnt_le h.nb_le
  have eo : ∀ j, 2 ≤ j → (ss.set ((sq + 1) % 2) (frameOf markK [] ((sq + 1 : Nat) : Int) (ws.length : Nat)))[j]? = ss[j]? := fun j hj => List.getElem?_set_ne (by omega)
  have hbl : ∀ x ∈ ws, (layAll bl ws)[x.1]? = some x.2 := fun x hx => layAll_in ws bl x hn hx (by rw [h.len]; exact (hw x hx).1)
  refine ⟨h.nb_le, hsq, hk, by rw [layAll_len]; exact h.len, fun b hb => ?_, List.getElem?_set_self hlen, ⟨cnt, hcn, ?_⟩, fun i hi => ?_, fun i hi => ?_⟩
  · obtain ⟨i, hi⟩ := List.mem_iff_getElem?.1 hb
    rcases layAll_mem i ws bl with he | ⟨l, hm, he⟩
    · rw [hi] at he; exact h.lens b (List.mem_of_getElem? he.symm)
    · rw [hi] at he; cases he; exact (hw _ hm).2
  · rw [List.getElem?_set_ne (by omega), show (sq + 1 + 1) % 2 = sq % 2 by omega, hm0]
    congr 2
    omega
  · rw [eo _ (by omega)]
    by_cases hik : i < ws.length
    · obtain ⟨x, hx⟩ : ∃ x, ws[i]? = some x := ⟨_, List.getElem?_eq_getElem hik⟩
      have hxm := List.mem_of_getElem? hx
      exact ⟨x.2, sq + 1, x.1, (hw x hxm).2, (hw x hxm).1, by omega, hs i x hx, fun _ => .inl ⟨rfl, hbl x hxm⟩⟩
    · obtain ⟨p, q, m, h1, h2, h3, h4, h5⟩ := h.notes i hi
      exact ⟨p, q, m, h1, h2, by omega, h4, fun hlt => absurd hlt hik⟩
  · rw [eo _ (by omega)]
    obtain ⟨b, q, h1, h2, h3⟩ := hl i hi
    refine ⟨b, q, h.lens b (List.mem_of_getElem? h2), by omega, h3, ?_⟩
    rcases layAll_mem i ws bl with he | ⟨l, hm, he⟩
    · exact .inl (he.trans h2)
    · obtain ⟨t, ht⟩ := List.mem_iff_getElem?.1 hm
      refine .inr ⟨t, l, (List.getElem?_eq_some_iff.1 ht).1, he, ?_⟩
      rw [eo _ (by omega)]
      exact hs t _ ht
theorem con_blocks {ss ss' : List (List UInt8)} {nb sq cnt : Nat} {bl : List (List UInt8)} (h : Con ss nb sq cnt bl)
    (hs : ∀ j : Nat, ss'[j]? = ss[j]? ∨ ∃ (i : Nat) (b : List UInt8), i < nb ∧ bl[i]? = some b ∧ j = 2 + nb + i ∧ ss'[j]? = some (frameOf blockK b (sq : Nat) (i : Nat))) : Con ss' nb sq cnt bl := by
  have e0 : ∀ j, j < 2 + nb → ss'[j]? = ss[j]? := fun j hj => by
    rcases hs j with h | ⟨i, p, _, _, e, _⟩
    · exact h
    · omega
  have hnb := h.cnt_le
  refine ⟨h.nb_le, h.sq_le, h.cnt_le, h.len, h.lens, ?_, ?_, fun i hi => ?_, fun i hi => ?_⟩
  · rw [e0 _ (by omega)]; exact h.m0
  · obtain ⟨c, hc, hm⟩ := h.m1
    exact ⟨c, hc, by rw [e0 _ (by omega)]; exact hm⟩
  · rw [e0 _ (by omega)]; exact h.notes i hi
  · rcases hs (2 + nb + i) with he | ⟨i', b, hi', hb, e, hf⟩
    · obtain ⟨p, q, h1, h2, h3, h4⟩ := h.blocks i hi
      refine ⟨p, q, h1, h2, by rw [he]; exact h3, ?_⟩
      rcases h4 with h4 | ⟨k, b, hk, hb, hn⟩
      · exact .inl h4
      · exact .inr ⟨k, b, hk, hb, by rw [e0 _ (by omega)]; exact hn⟩
    · obtain rfl : i = i' := by omega
      exact ⟨b, sq, h.lens b (List.mem_of_getElem? hb), by omega, hf, .inl hb⟩
/-- A disk with a journal, where nothing is loose and all is laid. -/
structure Sett (s : DS) (sq cnt : Nat) (bl : List (List UInt8)) : Prop where
  n32 : 32 ≤ s.n
  gone : s.gone = false
  loose : s.loose = []
  same : s.kept = s.now
  len : s.now.length = s.n
  con : Con s.now (nbOf s.n) sq cnt bl
  laid : Laid s.now (nbOf s.n) sq bl
end Go.Proofs.YtcmgclkbhhdnaaaGreatDoor
namespace Go.Proofs.YtcmgclkbhhdnaaaGreatDoor
open Go Go.RowKit

theorem noteAtL_mem {sq : Nat} {ws : List (Nat × List UInt8)} {y : Nat × List UInt8} (h : y ∈ noteAtL (ws.map (fr1 sq))) : ∃ (i : Nat) (x : Nat × List UInt8), ws[i]? = some x ∧ y = (2 + i, (fr1 sq x).2) := by
  obtain ⟨i, hi⟩ := List.mem_iff_getElem?.1 h
  have hl := (List.getElem?_eq_some_iff.1 hi).1
  rw [noteAtL_len, List.length_map] at hl
  obtain ⟨x, hx⟩ : ∃ x, ws[i]? = some x := ⟨_, List.getElem?_eq_getElem hl⟩
  have h2 : (ws.map (fr1 sq))[i]? = some (fr1 sq x) := by rw [List.getElem?_map, hx]; rfl
  rw [noteAtL_get h2] at hi
  cases hi
  exact ⟨i, x, hx, rfl⟩
theorem blockAtL_mem {nb sq : Nat} {ws : List (Nat × List UInt8)} {y : Nat × List UInt8} (h : y ∈ blockAtL nb (ws.map (fr1 sq))) : ∃ x, x ∈ ws ∧ y = (2 + nb + x.1, (fr1 sq x).2) := by
  unfold blockAtL at h
  rw [List.map_map] at h
  obtain ⟨x, hx, rfl⟩ := List.mem_map.1 h
  exact ⟨x, hx, rfl⟩
theorem noteAtL_nodup (ns : List (Nat × List UInt8)) : ((noteAtL ns).map (·.1)).Nodup := by
  have e : (noteAtL ns).map (·.1) = (List.range ns.length).map (2 + ·) := by
    apply List.ext_getElem?
    intro i
    by_cases hi : i < ns.length
    · have h := noteAtL_get (List.getElem?_eq_getElem hi)
      rw [List.getElem?_map, h]
      simp [hi]
    · rw [List.getElem?_eq_none (by simp [noteAtL_len]; omega), List.getElem?_eq_none (by simp; omega)]
  rw [e]
  unfold List.Nodup
  rw [List.pairwise_map]
  exact List.Pairwise.imp (fun h e => h (by omega)) (List.nodup_range (n := ns.length))
theorem blockAtL_nodup (nb sq : Nat) (ws : List (Nat × List UInt8)) (h : (ws.map (·.1)).Nodup) : ((blockAtL nb (ws.map (fr1 sq))).map (·.1)).Nodup := by
  have e : (blockAtL nb (ws.map (fr1 sq))).map (·.1) = (ws.map (·.1)).map (2 + nb + ·) := by
    unfold blockAtL
    rw [List.map_map, List.map_map, List.map_map]
    rfl
  rw [e]
  unfold List.Nodup at *
  rw [List.pairwise_map]
  exact List.Pairwise.imp (fun h e => h (by omega)) h
theorem cut_of_lost {c o : Int} (h : lost c o = true) : 0 ≤ c := by unfold lost at h; simp at h; exact h.1
theorem crashed_none (kept : List (List UInt8)) (zs : List Int) : crashed kept [] zs = kept := by
  apply List.ext_getElem?
  intro j
  rcases crashed_mem kept [] zs j with h | ⟨l, hm, _⟩
  · exact h
  · simp at hm
theorem com_shape {s : DS} {sq cnt : Nat} {bl : List (List UInt8)} (h : Sett s sq cnt bl) {ws : List (Nat × List UInt8)} (hsq : sq + 1 ≤ 1000000000) (hk : ws.length ≤ nbOf s.n) (hn : (ws.map (·.1)).Nodup) (hw : ∀ x ∈ ws, x.1 < nbOf s.n ∧ x.2.length = 112) (ho : s.ops + ((2 * ws.length + 4 : Nat) : Int) ≤ 1048576) :
    (∃ s', s.comR (nbOf s.n) (sq + 1) ws.length (ws.map (fr1 (sq + 1))) = (0, s') ∧ Sett s' (sq + 1) ws.length (layAll bl ws) ∧ s'.n = s.n ∧ s'.cut = s.cut ∧ s'.ops = s.ops + ((2 * ws.length + 4 : Nat) : Int)) ∨
    (∃ s', s.comR (nbOf s.n) (sq + 1) ws.length (ws.map (fr1 (sq + 1))) = (43, s') ∧ 0 ≤ s.cut ∧ s'.n = s.n ∧ ∀ zs, Con (crashed s'.kept s'.loose zs) (nbOf s.n) sq cnt bl ∨ Con (crashed s'.kept s'.loose zs) (nbOf s.n) (sq + 1) ws.length (layAll bl ws)) := by
  have hnb := nbOf_le s.n h.n32
  obtain ⟨nb, hnbe⟩ : ∃ nb, nb = nbOf s.n := ⟨_, rfl⟩
  have hcon := h.con
  have hlaid := h.laid
  rw [← hnbe] at hnb hk hw hcon hlaid ⊢
  obtain ⟨ns, hns⟩ : ∃ ns, ns = ws.map (fr1 (sq + 1)) := ⟨_, rfl⟩
  have hnsl : ns.length = ws.length := by rw [hns, List.length_map]
  have hL1 : ∀ y ∈ noteAtL ns, y.1 < s.n ∧ y.2.length = 128 := fun y hy => by
    rw [hns] at hy
    obtain ⟨i, x, hx, rfl⟩ := noteAtL_mem hy
    have := (List.getElem?_eq_some_iff.1 hx).1
    exact ⟨by show 2 + i < s.n; omega, frameOf_len _ _ _ _⟩
  have hnote : ∀ {ss' : List (List UInt8)} {L : List (Nat × List UInt8)}, (∀ y ∈ L, y ∈ noteAtL ns) → (∀ j : Nat, ss'[j]? = s.now[j]? ∨ ∃ l, (j, l) ∈ L ∧ ss'[j]? = some l) → Con ss' nb sq cnt bl ∧ Laid ss' nb sq bl := fun {ss' L} hsub hss => by
    refine con_notes hcon hlaid (fun j => ?_)
    rcases hss j with h | ⟨l, hm, hj⟩
    · exact .inl h
    · have hm' := hsub _ hm
      rw [hns] at hm'
      obtain ⟨i, x, hx, e⟩ := noteAtL_mem hm'
      cases e
      have hxm := List.mem_of_getElem? hx
      have := (List.getElem?_eq_some_iff.1 hx).1
      exact .inr ⟨i, x.2, x.1, by omega, (hw x hxm).1, (hw x hxm).2, rfl, hj⟩
  rw [← hns]
  obtain ⟨k1, hk1, hp1⟩ := puts_shape (noteAtL ns) s h.gone hL1 (by rw [noteAtL_len, hnsl]; omega)
  rw [noteAtL_len, hnsl] at hp1
  unfold DS.comR
  rcases hp1 with hp1 | ⟨hp1, hlo1⟩
  · rw [hp1, if_neg (by simp)]
    simp only
    obtain ⟨ss1, hss1⟩ : ∃ ss1, ss1 = layAll s.now (noteAtL ns) := ⟨_, rfl⟩
    rw [h.loose, List.nil_append, ← hss1]
    have hc1 := hnote (ss' := ss1) (fun y hy => hy) (fun j => by rw [hss1]; exact layAll_mem j _ _)
    have hn1 : ∀ (i : Nat) x, ws[i]? = some x → ss1[2 + i]? = some (fr1 (sq + 1) x).2 := fun i x hx => by
      have h2 : ns[i]? = some (fr1 (sq + 1) x) := by rw [hns, List.getElem?_map, hx]; rfl
      have h3 := List.mem_of_getElem? (noteAtL_get h2)
      have h4 := layAll_in (noteAtL ns) s.now _ (noteAtL_nodup ns) h3 (by rw [h.len]; exact (hL1 _ h3).1)
      rw [hss1]; exact h4
    cases hlo2 : lost s.cut (s.ops + (ws.length : Int)) with
    | true =>
      rw [fl_lost (by simpa using hlo2), if_pos (by simp)]
      refine .inr ⟨_, rfl, cut_of_lost hlo2, rfl, fun zs => .inl (hnote (L := noteAtL ns) (fun y hy => hy) (fun j => ?_)).1⟩
      simp only [h.same]
      exact crashed_mem _ _ zs j
    | false =>
      rw [fl_ok (by simpa using hlo2) (by simp; omega), if_neg (by simp)]
      simp only
      have hcm := con_mark hc1.1 hc1.2 hsq hk hn hw hn1
      obtain ⟨c1, _, hm1⟩ := hc1.1.m1
      have hal := (List.getElem?_eq_some_iff.1 hm1).1
      cases hlo3 : lost s.cut (s.ops + (ws.length : Int) + 1) with
      | true =>
        rw [wr_lost (by simpa using hlo3), if_pos (by simp)]
        refine .inr ⟨_, rfl, cut_of_lost hlo3, rfl, fun zs => .inl ?_⟩
        simp only
        rw [crashed_none]
        exact hc1.1
      | false =>
        rw [wr_ok (x := (sq + 1) % 2) (by simpa using hlo3) (by show (sq + 1) % 2 < s.n; have := h.n32; omega) (frameOf_len _ _ _ _) (by simp; omega), if_neg (by simp)]
        simp only [List.nil_append]
        obtain ⟨mk, hmk⟩ : ∃ mk, mk = frameOf markK [] ((sq + 1 : Nat) : Int) (ws.length : Nat) := ⟨_, rfl⟩
        rw [← hmk] at hcm ⊢
        cases hlo4 : lost s.cut (s.ops + (ws.length : Int) + 1 + 1) with
        | true =>
          rw [fl_lost (by simpa using hlo4), if_pos (by simp)]
          refine .inr ⟨_, rfl, cut_of_lost hlo4, rfl, fun zs => ?_⟩
          simp only
          rcases crashed_mem ss1 [((sq + 1) % 2, mk)] zs ((sq + 1) % 2) with hj | ⟨l, hm, hj⟩
          · left
            have e : crashed ss1 [((sq + 1) % 2, mk)] zs = ss1 := by
              apply List.ext_getElem?
              intro i
              rcases crashed_mem ss1 [((sq + 1) % 2, mk)] zs i with hi | ⟨l, hm, _⟩
              · exact hi
              · obtain ⟨rfl, _⟩ : i = (sq + 1) % 2 ∧ l = mk := by simpa using hm
                exact hj
            rw [e]; exact hc1.1
          · right
            obtain rfl : l = mk := by simpa using hm
            have e : crashed ss1 [((sq + 1) % 2, l)] zs = ss1.set ((sq + 1) % 2) l := by
              apply List.ext_getElem?
              intro i
              by_cases hi : i = (sq + 1) % 2
              · rw [hi, hj, List.getElem?_set_self hal]
              · rw [List.getElem?_set_ne (by omega)]
                rcases crashed_mem ss1 [((sq + 1) % 2, l)] zs i with h1 | ⟨l', hm', _⟩
                · exact h1
                · exact absurd (by simpa using hm' : i = (sq + 1) % 2 ∧ l' = l).1 hi
            rw [e]; exact hcm
        | false =>
          rw [fl_ok (by simpa using hlo4) (by simp; omega), if_neg (by simp)]
          simp only
          obtain ⟨ss2, hss2⟩ : ∃ ss2, ss2 = ss1.set ((sq + 1) % 2) mk := ⟨_, rfl⟩
          rw [← hss2] at hcm ⊢
          have hlen2 : ss2.length = s.n := by rw [hss2, List.length_set, hss1, layAll_len, h.len]
          have hbl : ∀ x ∈ ws, (layAll bl ws)[x.1]? = some x.2 := fun x hx => layAll_in ws bl x hn hx (by rw [hcon.len]; exact (hw x hx).1)
          have hblk : ∀ {ss' : List (List UInt8)} {L : List (Nat × List UInt8)}, (∀ y ∈ L, y ∈ blockAtL nb ns) → (∀ j : Nat, ss'[j]? = ss2[j]? ∨ ∃ l, (j, l) ∈ L ∧ ss'[j]? = some l) → Con ss' nb (sq + 1) ws.length (layAll bl ws) := fun {ss' L} hsub hss => by
            refine con_blocks hcm (fun j => ?_)
            rcases hss j with h | ⟨l, hm, hj⟩
            · exact .inl h
            · have hm' := hsub _ hm
              rw [hns] at hm'
              obtain ⟨x, hx, e⟩ := blockAtL_mem hm'
              cases e
              exact .inr ⟨x.1, x.2, (hw x hx).1, hbl x hx, rfl, hj⟩
          have hL3 : ∀ y ∈ blockAtL nb ns, y.1 < s.n ∧ y.2.length = 128 := fun y hy => by
            rw [hns] at hy
            obtain ⟨x, hx, rfl⟩ := blockAtL_mem hy
            have := (hw x hx).1
            exact ⟨by show 2 + nb + x.1 < s.n; omega, frameOf_len _ _ _ _⟩
          obtain ⟨k3, hk3, hp3⟩ := puts_shape (blockAtL nb ns) { s with now := ss2, loose := [], ops := s.ops + (ws.length : Int) + 1 + 1 + 1, gone := false, kept := ss2 } rfl hL3 (by rw [blockAtL_len, hnsl]; show s.ops + (ws.length : Int) + 1 + 1 + 1 + _ ≤ _; omega)
          rw [blockAtL_len, hnsl] at hp3
          unfold DS.layR
          rcases hp3 with hp3 | ⟨hp3, hlo5⟩
          · rw [hp3, if_pos (by simp)]
            simp only [List.nil_append]
            cases hlo6 : lost s.cut (s.ops + (ws.length : Int) + 1 + 1 + 1 + (ws.length : Int)) with
            | true =>
              rw [fl_lost (by simpa using hlo6)]
              refine .inr ⟨_, rfl, cut_of_lost hlo6, rfl, fun zs => .inr (hblk (L := blockAtL nb ns) (fun y hy => hy) (fun j => ?_))⟩
              simp only
              exact crashed_mem _ _ zs j
            | false =>
              rw [fl_ok (by simpa using hlo6) (by simp; omega)]
              have hfin : Con (layAll ss2 (blockAtL nb ns)) nb (sq + 1) ws.length (layAll bl ws) := hblk (L := blockAtL nb ns) (fun y hy => hy) (fun j => layAll_mem j _ _)
              refine .inl ⟨_, rfl, ⟨h.n32, rfl, rfl, rfl, by simp only; rw [layAll_len]; exact hlen2, by simp only; rw [← hnbe]; exact hfin, ?_⟩, rfl, rfl, by simp only; omega⟩
              simp only
              rw [← hnbe]
              intro i hi
              by_cases him : i ∈ ws.map (·.1)
              · obtain ⟨x, hx, rfl⟩ := List.mem_map.1 him
                refine ⟨x.2, sq + 1, by omega, hbl x hx, ?_⟩
                have h3 : (2 + nb + x.1, (fr1 (sq + 1) x).2) ∈ blockAtL nb ns := by
                  rw [hns]; unfold blockAtL; rw [List.map_map]; exact List.mem_map.2 ⟨x, hx, rfl⟩
                have h4 := layAll_in (blockAtL nb ns) ss2 _ (by rw [hns]; exact blockAtL_nodup nb (sq + 1) ws hn) h3 (by rw [hlen2]; exact (hL3 _ h3).1)
                exact h4
              · obtain ⟨b, q, h1, h2, h3⟩ := hc1.2 i hi
                refine ⟨b, q, by omega, ?_, ?_⟩
                · rcases layAll_mem i ws bl with he | ⟨l, hm, _⟩
                  · rw [he]; exact h2
                  · exact absurd (List.mem_map.2 ⟨_, hm, rfl⟩) him
                · rcases layAll_mem (2 + nb + i) (blockAtL nb ns) ss2 with he | ⟨l, hm, _⟩
                  · rw [he, hss2, List.getElem?_set_ne (by omega)]; exact h3
                  · rw [hns] at hm
                    obtain ⟨x, hx, e⟩ := blockAtL_mem hm
                    have : i = x.1 := by have := congrArg Prod.fst e; simp at this; omega
                    exact absurd (List.mem_map.2 ⟨x, hx, this.symm⟩) him
          · rw [hp3, if_neg (by simp)]
            refine .inr ⟨_, rfl, cut_of_lost hlo5, rfl, fun zs => .inr (hblk (L := (blockAtL nb ns).take k3) (fun y hy => List.mem_of_mem_take hy) (fun j => ?_))⟩
            simp only [List.nil_append]
            exact crashed_mem _ _ zs j
  · rw [hp1, if_pos (by simp)]
    refine .inr ⟨_, rfl, cut_of_lost hlo1, rfl, fun zs => .inl (hnote (L := (noteAtL ns).take k1) (fun y hy => List.mem_of_mem_take hy) (fun j => ?_)).1⟩
    simp only [h.same, h.loose, List.nil_append]
    exact crashed_mem _ _ zs j
end Go.Proofs.YtcmgclkbhhdnaaaGreatDoor
namespace Go.Proofs.YtcmgclkbhhdnaaaGreatDoor
open Go Go.RowKit

theorem layAll_some : ∀ (L : List (Nat × List UInt8)) (ss : List (List UInt8)) (x : Nat × List UInt8), x ∈ L → x.1 < ss.length → ∃ y, y ∈ L ∧ y.1 = x.1 ∧ (layAll ss L)[x.1]? = some y.2 := by
  intro L
  induction L with
  | nil => intro ss x h; simp at h
  | cons y r ih =>
    intro ss x hx hl
    show ∃ z : Nat × List UInt8, z ∈ y :: r ∧ z.1 = x.1 ∧ (layAll (ss.set y.1 y.2) r)[x.1]? = some z.2
    by_cases hr : x ∈ r
    · obtain ⟨z, h1, h2, h3⟩ := ih (ss.set y.1 y.2) x hr (by simpa using hl)
      exact ⟨z, List.mem_cons_of_mem _ h1, h2, h3⟩
    · obtain rfl : x = y := (List.mem_cons.1 hx).resolve_right hr
      rcases layAll_mem x.1 r (ss.set x.1 x.2) with h | ⟨l, hm, h⟩
      · exact ⟨x, by simp, rfl, by rw [h, List.getElem?_set_self hl]⟩
      · exact ⟨(x.1, l), List.mem_cons_of_mem _ hm, rfl, h⟩
theorem open_shape {s : DS} {sq cnt : Nat} {bl : List (List UInt8)} (h32 : 32 ≤ s.n) (hg : s.gone = false) (hl : s.loose = []) (hs : s.kept = s.now) (hlen : s.now.length = s.n) (hc : Con s.now (nbOf s.n) sq cnt bl) (ho : s.ops + ((nbOf s.n + 1 : Nat) : Int) ≤ 1048576) :
    (∃ s', s.openR = (0, ((sq : Nat) : Int), s') ∧ Sett s' sq cnt bl ∧ s'.n = s.n ∧ s'.cut = s.cut ∧ s.ops ≤ s'.ops ∧ s'.ops ≤ s.ops + ((nbOf s.n + 1 : Nat) : Int)) ∨
    (∃ s', s.openR = (43, ((sq : Nat) : Int), s') ∧ 0 ≤ s.cut ∧ s'.n = s.n ∧ ∀ zs, Con (crashed s'.kept s'.loose zs) (nbOf s.n) sq cnt bl) := by
  have hnb := nbOf_le s.n h32
  obtain ⟨ns, hop, hns, hall, hnl⟩ := hc.opens
  obtain ⟨nb, hnbe⟩ : ∃ nb, nb = nbOf s.n := ⟨_, rfl⟩
  rw [← hnbe] at hnb hop hns hall hnl hc ho ⊢
  rw [hop]
  clear hop
  have hblk : ∀ {ss' : List (List UInt8)} {L : List (Nat × List UInt8)}, (∀ y ∈ L, y ∈ blockAtL nb ns) → (∀ j : Nat, ss'[j]? = s.now[j]? ∨ ∃ l, (j, l) ∈ L ∧ ss'[j]? = some l) → Con ss' nb sq cnt bl := fun {ss' L} hsub hss => by
    refine con_blocks hc (fun j => ?_)
    rcases hss j with h | ⟨l, hm, hj⟩
    · exact .inl h
    · obtain ⟨x, hx, e⟩ := List.mem_map.1 (hsub _ hm)
      cases e
      obtain ⟨b, hb, he, hlt⟩ := hns x hx
      exact .inr ⟨x.1, b, hlt, hb, rfl, by rw [hj, he]⟩
  unfold DS.mendR
  rw [hl, List.length_nil, if_pos rfl]
  by_cases hz : ns.length = 0
  · rw [if_pos hz]
    refine .inl ⟨s, rfl, ⟨h32, hg, hl, hs, hlen, by rw [← hnbe]; exact hc, ?_⟩, rfl, rfl, Int.le_refl _, by omega⟩
    rw [← hnbe]
    intro i hi
    rcases hall i hi with ⟨b, _, hm⟩ | ⟨b, q, h1, h2, h3⟩
    · rw [List.length_eq_zero_iff.1 hz] at hm; simp at hm
    · exact ⟨b, q, h1, h2, h3⟩
  · rw [if_neg hz]
    have hL3 : ∀ y ∈ blockAtL nb ns, y.1 < s.n ∧ y.2.length = 128 := fun y hy => by
      obtain ⟨x, hx, rfl⟩ := List.mem_map.1 hy
      obtain ⟨b, hb, he, hlt⟩ := hns x hx
      exact ⟨by show 2 + nb + x.1 < s.n; omega, by show x.2.length = 128; rw [he]; exact frameOf_len _ _ _ _⟩
    obtain ⟨k3, hk3, hp3⟩ := puts_shape (blockAtL nb ns) s hg hL3 (by rw [blockAtL_len]; omega)
    rw [blockAtL_len] at hp3
    unfold DS.layR
    rcases hp3 with hp3 | ⟨hp3, hlo5⟩
    · rw [hp3, if_pos (by simp)]
      simp only [hl, List.nil_append]
      cases hlo6 : lost s.cut (s.ops + (ns.length : Int)) with
      | true =>
        rw [fl_lost (by simpa using hlo6)]
        refine .inr ⟨_, rfl, cut_of_lost hlo6, rfl, fun zs => hblk (L := blockAtL nb ns) (fun y hy => hy) (fun j => ?_)⟩
        simp only [hs]
        exact crashed_mem _ _ zs j
      | false =>
        rw [fl_ok (by simpa using hlo6) (by simp; omega)]
        have hfin : Con (layAll s.now (blockAtL nb ns)) nb sq cnt bl := hblk (L := blockAtL nb ns) (fun y hy => hy) (fun j => layAll_mem j _ _)
        refine .inl ⟨_, rfl, ⟨h32, rfl, rfl, rfl, by simp only; rw [layAll_len]; exact hlen, by simp only; rw [← hnbe]; exact hfin, ?_⟩, rfl, rfl, by simp only; omega, by simp only; omega⟩
        simp only
        rw [← hnbe]
        intro i hi
        have hw : ∀ x, x ∈ ns → x.1 = i → ∃ (b : List UInt8) (q : Nat), q ≤ sq + 1 ∧ bl[i]? = some b ∧ (layAll s.now (blockAtL nb ns))[2 + nb + i]? = some (frameOf blockK b (q : Nat) (i : Nat)) := fun x hx hxi => by
          have hm : (2 + nb + x.1, x.2) ∈ blockAtL nb ns := List.mem_map.2 ⟨x, hx, rfl⟩
          obtain ⟨y, hy, hy1, hy2⟩ := layAll_some _ s.now _ hm (by rw [hlen]; show 2 + nb + x.1 < s.n; omega)
          obtain ⟨x', hx', rfl⟩ := List.mem_map.1 hy
          obtain ⟨b, hb, he, hlt⟩ := hns x' hx'
          have hxx : x'.1 = i := by have h1 : 2 + nb + x'.1 = 2 + nb + x.1 := hy1; omega
          simp only at hy2
          rw [hxi] at hy2
          rw [hxx] at hb he
          exact ⟨b, sq, by omega, hb, by rw [hy2, he]⟩
        rcases hall i hi with ⟨b, _, hm⟩ | ⟨b, q, h1, h2, h3⟩
        · exact hw _ hm rfl
        · by_cases him : ∃ x, x ∈ ns ∧ x.1 = i
          · obtain ⟨x, hx, hxi⟩ := him
            exact hw x hx hxi
          · refine ⟨b, q, h1, h2, ?_⟩
            rcases layAll_mem (2 + nb + i) (blockAtL nb ns) s.now with he | ⟨l, hm, _⟩
            · rw [he]; exact h3
            · obtain ⟨x, hx, e⟩ := List.mem_map.1 hm
              have : x.1 = i := by have := congrArg Prod.fst e; simp at this; omega
              exact absurd ⟨x, hx, this⟩ him
    · rw [hp3, if_neg (by simp)]
      refine .inr ⟨_, rfl, cut_of_lost hlo5, rfl, fun zs => hblk (L := (blockAtL nb ns).take k3) (fun y hy => List.mem_of_mem_take hy) (fun j => ?_)⟩
      simp only [hl, hs, List.nil_append]
      exact crashed_mem _ _ zs j
theorem frameOf_nil (kd : List UInt8) (s m : Int) : frameOf kd [] s m = frameOf kd (List.replicate 112 0) s m := by
  have e : padTo 112 [] = padTo 112 (List.replicate 112 0) := by unfold padTo; simp
  unfold frameOf frBody
  rw [e]
theorem formL_mem {nb : Nat} {y : Nat × List UInt8} (h : y ∈ formL nb nb) : y = (0, frameOf markK [] 0 0) ∨ y = (1, frameOf markK [] (-1) 0) ∨ ∃ i, i < nb ∧ (y = (2 + i, frameOf blockK [] 0 (i : Nat)) ∨ y = (2 + nb + i, frameOf blockK [] 0 (i : Nat))) := by
  unfold formL marksL at h
  rcases List.mem_append.1 h with h | h
  · simp at h
    rcases h with h | h
    · exact .inl h
    · exact .inr (.inl h)
  · obtain ⟨i, hi, hy⟩ := List.mem_flatMap.1 h
    rw [List.mem_range] at hi
    unfold bothL at hy
    simp at hy
    exact .inr (.inr ⟨i, hi, hy⟩)
theorem formL_same {nb : Nat} {x y : Nat × List UInt8} (hx : x ∈ formL nb nb) (hy : y ∈ formL nb nb) (h : y.1 = x.1) : y.2 = x.2 := by
  have hk : ∀ {i i' : Nat}, i' = i → frameOf blockK [] 0 ((i' : Nat) : Int) = frameOf blockK [] 0 ((i : Nat) : Int) := fun e => by rw [e]
  rcases formL_mem hx with rfl | rfl | ⟨i, hi, rfl | rfl⟩ <;> rcases formL_mem hy with rfl | rfl | ⟨i', hi', rfl | rfl⟩ <;> simp only at h ⊢ <;> first | rfl | omega | exact hk (by omega)
theorem formL_len (nb k : Nat) : (formL nb k).length = 2 + 2 * k := by
  induction k with
  | zero => rfl
  | succ k ih => rw [formL_succ, List.length_append, List.length_append, ih]; simp; omega
/-- An empty journal's blocks. -/
def zeros (nb : Nat) : List (List UInt8) := List.replicate nb (List.replicate 112 0)
theorem form_shape {s : DS} (h32 : 32 ≤ s.n) (hn1 : s.n ≤ 16384) (hg : s.gone = false) (hcut : s.cut = -1) (hlen : s.now.length = s.n) (ho : s.ops + ((2 * nbOf s.n + 3 : Nat) : Int) ≤ 1048576) :
    ∃ s', s.formR (nbOf s.n) = (0, s') ∧ Sett s' 0 0 (zeros (nbOf s.n)) ∧ s'.n = s.n ∧ s'.cut = s.cut ∧ s'.ops = s.ops + ((2 * nbOf s.n + 3 : Nat) : Int) := by
  have hnb := nbOf_le s.n h32
  have hnb2 : nbOf s.n < 8192 := by unfold nbOf; omega
  obtain ⟨nb, hnbe⟩ : ∃ nb, nb = nbOf s.n := ⟨_, rfl⟩
  rw [← hnbe] at hnb hnb2 ho ⊢
  have hlost : ∀ o, lost s.cut o = false := fun o => by rw [hcut]; unfold lost; simp
  have hL : ∀ y ∈ formL nb nb, y.1 < s.n ∧ y.2.length = 128 := fun y hy => by
    rcases formL_mem hy with rfl | rfl | ⟨i, hi, rfl | rfl⟩
    · exact ⟨by show 0 < s.n; omega, frameOf_len _ _ _ _⟩
    · exact ⟨by show 1 < s.n; omega, frameOf_len _ _ _ _⟩
    · exact ⟨by show 2 + i < s.n; omega, frameOf_len _ _ _ _⟩
    · exact ⟨by show 2 + nb + i < s.n; omega, frameOf_len _ _ _ _⟩
  obtain ⟨k, hk, hp⟩ := puts_shape (formL nb nb) s hg hL (by rw [formL_len]; omega)
  rcases hp with hp | ⟨_, hlo⟩
  · rw [formL_len] at hp
    unfold DS.formR
    rw [hp, if_pos (by simp)]
    rw [fl_ok (by simpa using hlost _) (by simp; omega)]
    have hat : ∀ x ∈ formL nb nb, (layAll s.now (formL nb nb))[x.1]? = some x.2 := fun x hx => by
      obtain ⟨y, hy, h1, h2⟩ := layAll_some _ s.now x hx (by rw [hlen]; exact (hL x hx).1)
      rw [h2, formL_same hx hy h1]
    have hm : ∀ i, i < nb → (2 + i, frameOf blockK [] 0 (i : Nat)) ∈ formL nb nb ∧ (2 + nb + i, frameOf blockK [] 0 (i : Nat)) ∈ formL nb nb := fun i hi => by
      unfold formL
      constructor
      · exact List.mem_append_right _ (List.mem_flatMap.2 ⟨i, List.mem_range.2 hi, by simp [bothL]⟩)
      · exact List.mem_append_right _ (List.mem_flatMap.2 ⟨i, List.mem_range.2 hi, by simp [bothL]⟩)
    have hz : ∀ i, i < nb → (zeros nb)[i]? = some (List.replicate 112 0) := fun i hi => by unfold zeros; rw [List.getElem?_replicate, if_pos hi]
    have hn : ∀ i, i < nb → (layAll s.now (formL nb nb))[2 + i]? = some (frameOf blockK (List.replicate 112 0) ((0 : Nat) : Int) (i : Nat)) := fun i hi => by
      have := hat _ (hm i hi).1
      rw [frameOf_nil] at this
      exact this
    have hb : ∀ i, i < nb → (layAll s.now (formL nb nb))[2 + nb + i]? = some (frameOf blockK (List.replicate 112 0) ((0 : Nat) : Int) (i : Nat)) := fun i hi => by
      have := hat _ (hm i hi).2
      rw [frameOf_nil] at this
      exact this
    have hm0 : (layAll s.now (formL nb nb))[0 % 2]? = some (frameOf markK [] ((0 : Nat) : Int) ((0 : Nat) : Int)) := hat (0, frameOf markK [] 0 0) (List.mem_append_left _ (by unfold marksL; exact List.mem_cons_self))
    have hm1 : (layAll s.now (formL nb nb))[(0 + 1) % 2]? = some (frameOf markK [] (((0 : Nat) : Int) - 1) ((0 : Nat) : Int)) := by
      have e : (((0 : Nat) : Int) - 1) = -1 := by decide
      rw [e]
      exact hat (1, frameOf markK [] (-1) 0) (List.mem_append_left _ (by unfold marksL; exact List.mem_cons_of_mem _ List.mem_cons_self))
    refine ⟨_, rfl, ⟨h32, rfl, rfl, rfl, by simp only; rw [layAll_len]; exact hlen, ?_, ?_⟩, rfl, rfl, by simp only; omega⟩
    · simp only
      rw [← hnbe]
      refine ⟨hnb2, by omega, by omega, by unfold zeros; rw [List.length_replicate], fun b hb => by rw [List.eq_of_mem_replicate hb, List.length_replicate], hm0, ⟨0, by omega, hm1⟩, fun i hi => ⟨_, 0, i, by rw [List.length_replicate], hi, by omega, hn i hi, fun h => by omega⟩, fun i hi => ⟨_, 0, by rw [List.length_replicate], by omega, hb i hi, .inl (hz i hi)⟩⟩
    · simp only
      rw [← hnbe]
      exact fun i hi => ⟨_, 0, by omega, hz i hi, hb i hi⟩
  · rw [hlost] at hlo; cases hlo
end Go.Proofs.YtcmgclkbhhdnaaaGreatDoor
namespace Go.Proofs.YtcmgclkbhhdnaaaGreatDoor
open Go Go.RowKit

/-- A journal at block j, on the disk s at block p; its last write is the one of number sq, its blocks are bl. -/
structure Jr (w : World) (j p : Nat) (X : List Nat) (s : DS) (sq cnt : Nat) (bl : List (List UInt8)) : Prop where
  jn : Jn w j p (nbOf s.n) (sq : Nat) 0
  disk : Disk w p X s
  tab : Tab w
  sett : Sett s sq cnt bl
theorem Jr.below {w w' : World} {j p : Nat} {X : List Nat} {s : DS} {sq cnt : Nat} {bl : List (List UInt8)} (h : Jr w j p X s sq cnt bl) (hB : Below w.heap.size w w') : Jr w' j p X s sq cnt bl :=
  ⟨below_at hB h.jn (heap_lt h.jn), h.disk.below hB, h.tab.below hB, h.sett⟩
theorem Jr.nb {w : World} {j p : Nat} {X : List Nat} {s : DS} {sq cnt : Nat} {bl : List (List UInt8)} (h : Jr w j p X s sq cnt bl) : nbOf s.n < 8192 := h.sett.con.nb_le
theorem Sett.block {s : DS} {sq cnt : Nat} {bl : List (List UInt8)} (h : Sett s sq cnt bl) {i : Nat} {b : List UInt8} (hb : bl[i]? = some b) : ∃ q : Nat, s.now[2 + nbOf s.n + i]? = some (frameOf blockK b (q : Nat) (i : Nat)) ∧ blkR (frameOf blockK b (q : Nat) (i : Nat)) i = (frameOf blockK b (q : Nat) (i : Nat), 0) ∧ (frameOf blockK b (q : Nat) (i : Nat)).take 112 = b := by
  have hi : i < nbOf s.n := by rw [← h.con.len]; exact (List.getElem?_eq_some_iff.1 hb).1
  obtain ⟨b', q, hq, hb', hs⟩ := h.laid i hi
  rw [hb] at hb'
  cases hb'
  have hnb := h.con.nb_le
  have hsq := h.con.sq_le
  refine ⟨q, hs, ?_, ?_⟩
  · unfold blkR
    rw [headOf_frame blockK b (hdok (q := q) (m := i) (by omega) (by omega)), if_pos ⟨rfl, rfl⟩]
  · rw [frameOf_bytes, padTo_self (h.con.lens b (List.mem_of_getElem? hb))]
/-- Read of a block. -/
theorem Jr.read {w : World} {j p : Nat} {X : List Nat} {s : DS} {sq cnt : Nat} {bl : List (List UInt8)} (h : Jr w j p X s sq cnt bl) {i : Nat} {b : List UInt8} (hb : bl[i]? = some b) :
    Calls Tryz.prog 95 #[.pointer (some ⟨j, 0, none⟩), .int .i64 i] w fun e w' => Below w.heap.size w w' ∧ ∃ g f, w.heap.size ≤ g ∧ e = .returned (.tuple #[.slice (some ⟨g, 0, none⟩) 112 112, .int .i64 0]) ∧ Rw w' g 141 f ∧ f.length = 128 ∧ f.take 112 = b := by
  have hi : i < nbOf s.n := by rw [← h.sett.con.len]; exact (List.getElem?_eq_some_iff.1 hb).1
  obtain ⟨q, hs, hk, ht⟩ := h.sett.block hb
  refine (jread_any h.jn h.disk h.tab h.sett.gone (by have := h.nb; omega) i hi _ hs).mono ?_
  rintro e w' ⟨hB, hr⟩
  rw [hk] at hr
  rcases hr with ⟨hne, _⟩ | ⟨_, g, hg, he, hf⟩
  · exact absurd rfl hne
  · exact ⟨hB, g, _, hg, he, hf, frameOf_len _ _ _ _, ht⟩
/-- What is written, by blocks. -/
def wsOf (zs : List Int) (ps : List (List UInt8)) : List (Nat × List UInt8) := (zs.zip ps).map fun x => (x.1.toNat, x.2)
theorem wsOf_len {zs : List Int} {ps : List (List UInt8)} (h : zs.length = ps.length) : (wsOf zs ps).length = zs.length := by simp [wsOf, h]
theorem Fit.at {nb : Nat} {zs : List Int} {ps : List (List UInt8)} (h : Fit nb zs ps) {z : Int} (hz : z ∈ zs) : 0 ≤ z ∧ z < nb := by
  have h2 := h.2.2.1 z hz
  unfold hasB at h2
  simpa using h2
theorem nsOf_ws {nb : Nat} {zs : List Int} {ps : List (List UInt8)} (h : Fit nb zs ps) (sq : Nat) : nsOf ((sq : Nat) : Int) zs ps = (wsOf zs ps).map (fr1 sq) := by
  unfold nsOf wsOf
  rw [List.map_map]
  apply List.map_congr_left
  intro x hx
  have hz := h.at (List.of_mem_zip hx).1
  simp only [Function.comp, fr1]
  rw [show ((x.1.toNat : Nat) : Int) = x.1 by omega]
theorem wsOf_fst {zs : List Int} {ps : List (List UInt8)} (h : zs.length = ps.length) : (wsOf zs ps).map (·.1) = zs.map Int.toNat := by
  unfold wsOf
  rw [List.map_map]
  have : zs.map Int.toNat = ((zs.zip ps).map Prod.fst).map Int.toNat := by rw [List.map_fst_zip (by omega)]
  rw [this, List.map_map]
  rfl
theorem wsOf_nodup {nb : Nat} {zs : List Int} {ps : List (List UInt8)} (h : Fit nb zs ps) : ((wsOf zs ps).map (·.1)).Nodup := by
  rw [wsOf_fst h.1]
  have hnd := h.2.1
  unfold List.Nodup at hnd ⊢
  rw [List.pairwise_map]
  refine List.Pairwise.imp_of_mem ?_ hnd
  intro x y hx hy hne e
  have h2 := h.at hx
  have h3 := h.at hy
  exact hne (by omega)
theorem wsOf_ok {nb : Nat} {zs : List Int} {ps : List (List UInt8)} (h : Fit nb zs ps) : ∀ x ∈ wsOf zs ps, x.1 < nb ∧ x.2.length = 112 := by
  intro x hx
  obtain ⟨y, hy, rfl⟩ := List.mem_map.1 hx
  have hm := List.of_mem_zip hy
  have h2 := h.at hm.1
  exact ⟨by show y.1.toNat < nb; omega, h.2.2.2 _ hm.2⟩
/-- Write of some blocks, while the power stays. -/
theorem Jr.write {w : World} {j p : Nat} {X : List Nat} {s : DS} {sq cnt : Nat} {bl : List (List UInt8)} (h : Jr w j p X s sq cnt bl) (hcut : s.cut = -1) (hsq : sq + 1 ≤ 1000000000) {va vb : Value} {zs : List Int} {ps : List (List UInt8)} (ha : Iz w va zs) (hb : Bz w vb ps) (hf : Fit (nbOf s.n) zs ps) (h0 : zs ≠ []) (ho : s.ops + ((2 * zs.length + 4 : Nat) : Int) ≤ 1048576) :
    Calls Tryz.prog 58 #[.pointer (some ⟨j, 0, none⟩), va, vb] w fun e w' => e = .returned (.int .i64 0) ∧ ∃ s' X', Jr w' j p X' s' (sq + 1) zs.length (layAll bl (wsOf zs ps)) ∧ s'.n = s.n ∧ s'.cut = -1 ∧ s'.ops = s.ops + ((2 * zs.length + 4 : Nat) : Int) ∧ (∀ k ∈ X', k ∈ X ∨ w.heap.size ≤ k) ∧ Fr (j :: X) w w' := by
  have hwl := wsOf_len hf.1
  have hnl := hf.len
  have hn32 := h.sett.n32
  have hs := com_shape h.sett (ws := wsOf zs ps) hsq (by rw [hwl]; exact hnl) (wsOf_nodup hf) (wsOf_ok hf) (by rw [hwl]; exact ho)
  rw [hwl] at hs
  refine (jwrite_any h.jn h.disk h.tab (by have := h.nb; omega) (by omega) ha hb hf h0).mono ?_
  rintro e w' ⟨he, hj, ⟨X', hD, hX⟩, hF⟩
  rw [nsOf_ws hf] at he hj hD
  rcases hs with ⟨s', hc, hS, h1, h2, h3⟩ | ⟨s', hc, h1, _⟩
  · rw [hc] at he hj hD
    refine ⟨he, s', X', ⟨?_, hD, h.tab.fr hF (tab_not h.disk h.jn h.tab), hS⟩, h1, h2.trans hcut, h3, hX, hF⟩
    rw [h1]
    exact hj
  · omega
/-- Open, while the power stays. -/
theorem open_rest {w : World} {p : Nat} {X : List Nat} {s : DS} {sq cnt : Nat} {bl : List (List UInt8)} (hD : Disk w p X s) (ht : Tab w) (hg : s.gone = false) (h32 : 32 ≤ s.n) (hcut : s.cut = -1) (hl : s.loose = []) (hs : s.kept = s.now) (hc : Con s.now (nbOf s.n) sq cnt bl) (ho : s.ops + ((nbOf s.n + 1 : Nat) : Int) ≤ 1048576) (hn : 0 ∉ X) :
    Calls Tryz.prog 25 #[.pointer (some ⟨p, 0, none⟩)] w fun e w' => ∃ j s' X', w.heap.size ≤ j ∧ e = .returned (.tuple #[.pointer (some ⟨j, 0, none⟩), .int .i64 0]) ∧ Jr w' j p X' s' sq cnt bl ∧ s'.n = s.n ∧ s'.cut = -1 ∧ s.ops ≤ s'.ops ∧ s'.ops ≤ s.ops + ((nbOf s.n + 1 : Nat) : Int) ∧ (∀ k ∈ X', k ∈ X ∨ w.heap.size ≤ k) ∧ Fr X w w' := by
  refine (open_any hD ht hg h32).mono ?_
  rintro e w' ⟨⟨X', hD', hX'⟩, hF, hr⟩
  rcases open_shape h32 hg hl hs hD.ok.nowLen hc ho with ⟨s', ho', hS, h1, h2, h3, h4⟩ | ⟨s', ho', h1, _⟩
  · rw [ho'] at hD' hr
    rcases hr with ⟨hne, _⟩ | ⟨_, j, hj, he, hJ⟩
    · exact absurd rfl hne
    · refine ⟨j, s', X', hj, he, ⟨?_, hD', ht.fr hF hn, hS⟩, h1, h2.trans hcut, h3, h4, hX', hF⟩
      rw [h1]; exact hJ
  · omega
/-- Format, while the power stays. -/
theorem format_rest {w : World} {p : Nat} {X : List Nat} {s : DS} (hD : Disk w p X s) (ht : Tab w) (hg : s.gone = false) (h32 : 32 ≤ s.n) (hcut : s.cut = -1) (ho : s.ops + ((2 * nbOf s.n + 3 : Nat) : Int) ≤ 1048576) (hn : 0 ∉ X) :
    Calls Tryz.prog 31 #[.pointer (some ⟨p, 0, none⟩)] w fun e w' => e = .returned (.int .i64 0) ∧ ∃ s' X', Disk w' p X' s' ∧ Tab w' ∧ Sett s' 0 0 (zeros (nbOf s.n)) ∧ s'.n = s.n ∧ s'.cut = -1 ∧ s'.ops = s.ops + ((2 * nbOf s.n + 3 : Nat) : Int) ∧ (∀ k ∈ X', k ∈ X ∨ w.heap.size ≤ k) ∧ Fr X w w' := by
  refine (format_any hD ht h32).mono ?_
  rintro e w' ⟨he, ⟨X', hD', hX'⟩, hF⟩
  obtain ⟨s', hf, hS, h1, h2, h3⟩ := form_shape h32 hD.ok.n1 hg hcut hD.ok.nowLen ho
  rw [hf] at he hD'
  exact ⟨he, s', X', hD', ht.fr hF hn, hS, h1, h2.trans hcut, h3, hX', hF⟩
end Go.Proofs.YtcmgclkbhhdnaaaGreatDoor
