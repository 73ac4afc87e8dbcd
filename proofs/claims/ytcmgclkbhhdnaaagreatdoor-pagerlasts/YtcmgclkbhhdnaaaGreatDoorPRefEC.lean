/- the text PRefE -/
import Derived.Test.YtcmgclkbhhdnaaaGreatDoorPRefDC
namespace Go.Proofs.YtcmgclkbhhdnaaaGreatDoor
open Go Go.RowKit
variable {Z : Nat → Prop}

theorem owns_put {w : World} {B : Nat} {t : TypeId} {g n c : Nat} {xs : List Value} (h : w.ownsRow B t 1 (.slice (some ⟨g, 0, none⟩) n c) n xs) (q : Nat) (x : Value) : (w.setCell ⟨g, q, none⟩ x).ownsRow B t 1 (.slice (some ⟨g, 0, none⟩) n c) n (xs.set q x) := by
  refine ⟨by rw [List.length_set]; exact h.1, ?_⟩
  rcases h.2 with ⟨e, _⟩ | ⟨g', cap, cs, e, hb, hg, h1, h2, h3, h4⟩
  · cases e
  · have e' := e
    injection e' with e1 _ e3
    injection e1 with e1
    injection e1 with e1
    subst e1
    refine .inr ⟨g, cap, cs.setIfInBounds q x, e, hb, by rw [heap_setCell hg], h1, h2, by simpa using h3, ?_⟩
    rw [Array.toList_setIfInBounds, List.take_set, h4]
theorem owns_apart {w : World} {B : Nat} {t : TypeId} {v : Value} {n : Nat} {xs : List Value} (h : w.ownsRow B t 1 v n xs) {g : Nat} (hg : v.ownBlock ≠ some g) (q : Nat) (x : Value) : (w.setCell ⟨g, q, none⟩ x).ownsRow B t 1 v n xs := by
  refine ⟨h.1, ?_⟩
  rcases h.2 with h2 | ⟨g', cap, cs, rfl, hb, hh, r2⟩
  · exact .inl h2
  · exact .inr ⟨g', cap, cs, rfl, hb, (Fr.setCell w g q x).at hh (fun hm => hg (by simp at hm; subst hm; rfl)), r2⟩
theorem Sp.none {w : World} {al : List (Option Nat)} {c : Pgs} (h : Sp w al c) (q : Nat) : Sp w (al.set q Option.none) (c.set q Option.none) := by
  refine ⟨by rw [List.length_set, List.length_set]; exact h.1, fun i => ⟨fun hi => ?_, fun a ha => ?_⟩⟩
  · by_cases e : q = i
    · subst e
      have := (List.getElem?_eq_some_iff.1 hi).1
      rw [List.length_set] at this
      have hq : q < c.length := by rw [← h.1]; exact this
      simp [hq]
    · rw [List.getElem?_set_ne e] at hi ⊢; exact (h.2 i).1 hi
  · by_cases e : q = i
    · subst e
      have := (List.getElem?_eq_some_iff.1 ha).1
      rw [List.length_set] at this
      simp [this] at ha
    · rw [List.getElem?_set_ne e] at ha ⊢; exact (h.2 i).2 a ha
theorem rfree_none {w : World} {B r : Nat} {cur was : Pgs} {rt wr : Int} {ch : Bool} (h : Rp Z w B r cur was rt wr ch) (k : Int) (hk : (decide (0 ≤ k) && (cur[k.toNat]?.getD none).isSome) = false) :
    Calls Tryz.prog 45 #[.pointer (some ⟨r, 0, none⟩), .int .i64 k] w fun e w' => e = .returned (.int .i64 81) ∧ w' = w := by
  have ht := rtaken_any h k
  rw [hk] at ht
  have HT := hid ht
  clear h ht hk
  go_enter Tryz.func45, Tryz.ntmps45
  go_wp2_with fail
  refine HT.out.mono ?_
  rintro e wz ⟨rfl, hwz⟩
  obtain rfl := hwz.symm
  clear HT
  go_wp2
  go_ret
  exact ⟨rfl, rfl⟩
theorem rsetRoot_none {w : World} {B r : Nat} {cur was : Pgs} {rt wr : Int} {ch : Bool} (h : Rp Z w B r cur was rt wr ch) (k : Int) (hk : (decide (0 ≤ k) && (cur[k.toNat]?.getD none).isSome) = false) (h1 : k ≠ -1) :
    Calls Tryz.prog 48 #[.pointer (some ⟨r, 0, none⟩), .int .i64 k] w fun e w' => e = .returned (.int .i64 81) ∧ w' = w := by
  have ht := rtaken_any h k
  rw [hk] at ht
  have HT := hid ht
  have hb : (k == -1) = false := by rw [beq_eq_false_iff_ne]; exact h1
  clear h ht hk
  go_enter Tryz.func48, Tryz.ntmps48
  go_wp2_with fail
  refine HT.out.mono ?_
  rintro e wz ⟨rfl, hwz⟩
  obtain rfl := hwz.symm
  clear HT
  go_wp2
  go_ret
  exact ⟨rfl, rfl⟩
theorem rfree_root {w : World} {B r : Nat} {cur was : Pgs} {rt wr : Int} {ch : Bool} (h : Rp Z w B r cur was rt wr ch) (k : Int) (hk : (decide (0 ≤ k) && (cur[k.toNat]?.getD none).isSome) = true) (h1 : k = rt) :
    Calls Tryz.prog 45 #[.pointer (some ⟨r, 0, none⟩), .int .i64 k] w fun e w' => e = .returned (.int .i64 2) ∧ w' = w := by
  have ht := rtaken_any h k
  rw [hk] at ht
  have HT := hid ht
  obtain ⟨_, vp, vw, al, be, hr, _⟩ := h
  have c1 : w.cell? ⟨r, 1, none⟩ = some (.int .i64 rt) := cell_at hr 1 rfl
  subst h1
  clear hr ht hk
  go_enter Tryz.func45, Tryz.ntmps45
  go_wp2_with fail
  refine HT.out.mono ?_
  rintro e wz ⟨rfl, hwz⟩
  obtain rfl := hwz.symm
  clear HT
  go_wp2
  go_ret
  exact ⟨rfl, rfl⟩
set_option maxRecDepth 100000 in
set_option maxHeartbeats 400000 in
theorem rfree_ok {w : World} {B r : Nat} {cur was : Pgs} {rt wr : Int} {ch : Bool} (h : Rp Z w B r cur was rt wr ch) (q : Nat) (b : List UInt8) (hq : cur[q]? = some (some b)) (h1 : (q : Int) ≠ rt) :
    Calls Tryz.prog 45 #[.pointer (some ⟨r, 0, none⟩), .int .i64 q] w fun e w' => e = .returned (.int .i64 0) ∧ Rp Z w' B r (cur.set q none) was rt wr true ∧ ∃ g, (B ≤ g ∧ ¬ Z g) ∧ (∃ cs, w.heap[g]? = some (.cells cs 148 (0, 0))) ∧ Fr [g, r] w w' := by
  have ht := rtaken_any h (q : Int)
  have e1 : (decide ((0 : Int) ≤ (q : Int)) && (cur[(q : Int).toNat]?.getD none).isSome) = true := by simp [hq]
  rw [e1] at ht
  have HT := hid ht
  have hql := (List.getElem?_eq_some_iff.1 hq).1
  obtain ⟨hB, vp, vw, al, be, hr, hp, hw, hs, hs2, hne⟩ := h
  obtain ⟨a, c, rfl⟩ := owns_shape hp
  have c0 : w.cell? ⟨r, 0, none⟩ = some (.slice a cur.length c) := cell_at hr 0 rfl
  have c1 : w.cell? ⟨r, 1, none⟩ = some (.int .i64 rt) := cell_at hr 1 rfl
  obtain ⟨hnc, g, rfl, ⟨cs, hcs⟩, hor⟩ := Rp.row hp hs hql
  rcases hor with ⟨h5, _, _⟩ | ⟨y, b', _, _, hc, _⟩
  · rw [hq] at h5; cases h5
  · have hbe : (rt == (q : Int)) = false := by rw [beq_eq_false_iff_ne]; exact fun e => h1 e.symm
    have hgr : g ≠ r := fun e => by
      rw [e, hr] at hcs
      injection hcs with hcs
      injection hcs with _ e2
      exact absurd e2 (by decide)
    have fg : w.frozen? ⟨g, q, none⟩ = false := open_at hcs q
    have hF1 := Fr.setCell w g q (.pointer none)
    have hr1 := hF1.at hr (by simp; exact fun e => hgr e.symm)
    have hp1 := owns_put hp q (.pointer none)
    have hw1 := owns_apart hw (hne.1 g rfl) q (.pointer none)
    have hst : ∀ a d, w.heap[a]? = some (.cells d 9 (0, 0)) → a ∉ [g] := fun a d ha hm => by
      obtain rfl : a = g := by simpa using hm
      rw [hcs] at ha
      injection ha with ha
      injection ha with _ e2
      exact absurd e2 (by decide)
    have hs1 := hs.fr hF1 hst
    have hs21 := hs2.fr hF1 hst
    have c4 : (w.setCell ⟨g, q, none⟩ (.pointer none)).cell? ⟨r, 4, none⟩ = some (.bool ch) := cell_at hr1 4 rfl
    have f4 : (w.setCell ⟨g, q, none⟩ (.pointer none)).frozen? ⟨r, 4, none⟩ = false := open_at hr1 4
    have hF2 := Fr.setCell (w.setCell ⟨g, q, none⟩ (.pointer none)) r 4 (.bool true)
    have hr2 := (rset hr1).2 (.bool true)
    have hx : ∀ (t : TypeId), t ≠ 95 → ∀ g' d, (w.setCell ⟨g, q, none⟩ (.pointer none)).heap[g']? = some (.cells d t (0, 0)) → g' ∉ [r] := fun t htt g' d hg' hm => by
      obtain rfl : g' = r := by simpa using hm
      rw [hr1] at hg'
      injection hg' with hg'
      injection hg' with _ e
      exact htt e.symm
    have hBg : B ≤ g := by
      rcases hp.2 with ⟨e, _⟩ | ⟨g', cap, cs', e, hb, _⟩
      · cases e
      · injection e with e1 _ _
        injection e1 with e1
        injection e1 with e1
        omega
    have hmap : (al.map pV).set q (.pointer none) = (al.set q none).map pV := by rw [List.map_set]; rfl
    rw [hmap] at hp1
    have HZ : Hid (Rp Z ((w.setCell ⟨g, q, none⟩ (.pointer none)).setCell ⟨r, 4, none⟩ (.bool true)) B r (cur.set q none) was rt wr true ∧ ∃ g', (B ≤ g' ∧ ¬ Z g') ∧ (∃ cs, w.heap[g']? = some (.cells cs 148 (0, 0))) ∧ Fr [g', r] w ((w.setCell ⟨g, q, none⟩ (.pointer none)).setCell ⟨r, 4, none⟩ (.bool true))) := hid ⟨⟨hB, _, vw, al.set q none, be, hr2, by rw [List.length_set]; exact owns_fr hp1 hF2 (hx _ (by decide)), owns_fr hw1 hF2 (hx _ (by decide)), (hs1.fr hF2 (hx _ (by decide))).none q, hs21.fr hF2 (hx _ (by decide)), ⟨fun g' hg' => hne.1 g' (by simpa [Value.ownBlock] using hg'), fun g' hg' => hne.2 g' (by simpa [Value.ownBlock] using hg')⟩⟩, g, ⟨hBg, hne.2 g (.inl rfl)⟩, ⟨cs, hcs⟩, (hF1.mono (fun x hx => .inl (by simp at hx ⊢; exact .inl hx))).trans hF2 (fun x hx => .inl (by simp at hx ⊢; exact .inr hx))⟩
    generalize cur.length = n at *
    clear hr hp hw hs hs2 hne hr1 hp1 hw1 hst hs1 hs21 hF1 hF2 hr2 hx hmap hBg hcs hB ht e1 hq hgr
    go_enter Tryz.func45, Tryz.ntmps45
    go_wp2_with fail
    refine HT.out.mono ?_
    rintro e wz ⟨rfl, hwz⟩
    obtain rfl := hwz.symm
    clear HT
    go_wp2
    go_ret
    exact ⟨rfl, HZ.out⟩
end Go.Proofs.YtcmgclkbhhdnaaaGreatDoor
