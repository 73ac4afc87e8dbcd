/- the text PRefC -/
import Derived.Test.YtcmgclkbhhdnaaaGreatDoorPNoneC
namespace Go.Proofs.YtcmgclkbhhdnaaaGreatDoor
open Go Go.RowKit
variable {Z : Nat → Prop}

theorem owns_shape {w : World} {B : Nat} {t : TypeId} {v : Value} {n : Nat} {xs : List Value} (h : w.ownsRow B t 1 v n xs) : ∃ a c, v = .slice a n c := by
  rcases h.2 with ⟨rfl, h0⟩ | ⟨g, cap, cur, rfl, _⟩
  · exact ⟨none, 0, by rw [h0]⟩
  · exact ⟨_, cap, rfl⟩
theorem owns_at {w : World} {B : Nat} {t : TypeId} {a : Option Addr} {n c : Nat} {xs : List Value} (h : w.ownsRow B t 1 (.slice a n c) n xs) {k : Nat} {x : Value} (hk : xs[k]? = some x) : ∃ g, a = some ⟨g, 0, none⟩ ∧ w.cell? ⟨g, k, none⟩ = some x ∧ ∃ cs, w.heap[g]? = some (.cells cs t (0, 0)) := by
  rcases h.2 with ⟨e, h0⟩ | ⟨g, cap, cs, e, _, hg, _⟩
  · have h1 := h.1
    have := (List.getElem?_eq_some_iff.1 hk).1
    omega
  · have e2 := e
    injection e2 with e1 _ _
    subst e1
    have hc := h.cells (g := g) rfl k x hk
    rw [Addr.add_lit, Nat.zero_add] at hc
    exact ⟨g, rfl, hc, cs, hg⟩
set_option maxRecDepth 100000 in
set_option maxHeartbeats 400000 in
theorem rtaken_any {w : World} {B r : Nat} {cur was : Pgs} {rt wr : Int} {ch : Bool} (h : Rp Z w B r cur was rt wr ch) (k : Int) :
    Calls Tryz.prog 86 #[.pointer (some ⟨r, 0, none⟩), .int .i64 k] w fun e w' => e = .returned (.bool (decide (0 ≤ k) && (cur[k.toNat]?.getD none).isSome)) ∧ w' = w := by
  obtain ⟨_, vp, vw, al, be, hr, hp, _, hs, _, _⟩ := h
  obtain ⟨a, c, rfl⟩ := owns_shape hp
  have c0 : w.cell? ⟨r, 0, none⟩ = some (.slice a cur.length c) := cell_at hr 0 rfl
  by_cases h0 : k < 0
  · have e1 : (decide (0 ≤ k) && (cur[k.toNat]?.getD none).isSome) = false := by rw [decide_eq_false (by omega)]; rfl
    have hb : decide (0 ≤ k) = false := decide_eq_false (by omega)
    rw [e1]
    clear hr hp hs c0 e1
    go_enter Tryz.func86, Tryz.ntmps86
    go_wp2
    go_ret
    exact ⟨rfl, rfl⟩
  · have hb : decide (0 ≤ k) = true := decide_eq_true (by omega)
    obtain ⟨q, rfl⟩ : ∃ q : Nat, k = q := ⟨k.toNat, by omega⟩
    have e0 : ((q : Int)).toNat = q := by omega
    rw [hb, e0, Bool.true_and]
    by_cases h1 : q < cur.length
    · have hal : q < al.length := by rw [hs.1]; exact h1
      have hx : (al.map pV)[q]? = some (pV al[q]) := by rw [List.getElem?_map, List.getElem?_eq_getElem hal]; rfl
      obtain ⟨g, rfl, hc, _⟩ := owns_at hp hx
      have h2 : (q : Int) < (cur.length : Int) := by omega
      have hlen : cur.length ≤ c := by
        rcases hp.2 with ⟨e, _⟩ | ⟨g', cap, cs, e, _, _, hcc, _⟩
        · cases e
        · injection e with _ _ e3; omega
      have hq := hs.2 q
      have hae : al[q]? = some al[q] := List.getElem?_eq_getElem hal
      generalize al[q] = x at *
      cases x with
      | none =>
        have e2 : (cur[q]?.getD none).isSome = false := by rw [hq.1 hae]; rfl
        rw [e2]
        have hc' : w.cell? ⟨g, q, none⟩ = some (.pointer none) := hc
        generalize cur.length = n at *
        clear hr hp hs hx hq hae hal hc hb e0 e2 h0
        go_enter Tryz.func86, Tryz.ntmps86
        go_wp2
        go_ret
        exact ⟨rfl, rfl⟩
      | some y =>
        obtain ⟨b, hb2, _⟩ := hq.2 y hae
        have e2 : (cur[q]?.getD none).isSome = true := by rw [hb2]; rfl
        rw [e2]
        have hc' : w.cell? ⟨g, q, none⟩ = some (.pointer (some ⟨y, 0, none⟩)) := hc
        generalize cur.length = n at *
        clear hr hp hs hx hq hae hal hc hb e0 e2 hb2 h0
        go_enter Tryz.func86, Tryz.ntmps86
        go_wp2
        go_ret
        exact ⟨rfl, rfl⟩
    · have e2 : (cur[q]?.getD none).isSome = false := by rw [List.getElem?_eq_none (by omega)]; rfl
      rw [e2]
      have h2 : ¬ (q : Int) < (cur.length : Int) := by omega
      generalize cur.length = n at *
      clear hr hp hs hb e0 e2 h0
      go_enter Tryz.func86, Tryz.ntmps86
      go_wp2
      go_ret
      exact ⟨rfl, rfl⟩
theorem rset {w : World} {r : Nat} {a b c d e : Value} (h : w.heap[r]? = some (.cells #[a, b, c, d, e] 95 (0, 0))) : (∀ x, (w.setCell ⟨r, 1, none⟩ x).heap[r]? = some (.cells #[a, x, c, d, e] 95 (0, 0))) ∧ ∀ x, (w.setCell ⟨r, 4, none⟩ x).heap[r]? = some (.cells #[a, b, c, d, x] 95 (0, 0)) :=
  ⟨fun x => by rw [heap_setCell h]; rfl, fun x => by rw [heap_setCell h]; rfl⟩
theorem Sp.fr {X : List Nat} {w w' : World} {al : List (Option Nat)} {c : Pgs} (h : Sp w al c) (hF : Fr X w w') (hX : ∀ a d, w.heap[a]? = some (.cells d 9 (0, 0)) → a ∉ X) : Sp w' al c :=
  ⟨h.1, fun i => ⟨(h.2 i).1, fun a ha => by
    obtain ⟨b, hb, hh⟩ := (h.2 i).2 a ha
    exact ⟨b, hb, hF.at hh (hX a _ hh)⟩⟩⟩
set_option maxHeartbeats 400000 in
theorem rsetRoot_any {w : World} {B r : Nat} {cur was : Pgs} {rt wr : Int} {ch : Bool} (h : Rp Z w B r cur was rt wr ch) (k : Int) (hk : k = -1 ∨ (decide (0 ≤ k) && (cur[k.toNat]?.getD none).isSome) = true) :
    Calls Tryz.prog 48 #[.pointer (some ⟨r, 0, none⟩), .int .i64 k] w fun e w' => e = .returned (.int .i64 0) ∧ Rp Z w' B r cur was k wr true ∧ Fr [r] w w' := by
  have HT := hid (rtaken_any h k)
  obtain ⟨hB, vp, vw, al, be, hr, hp, hw, hs, hs2, hne⟩ := h
  have c1 : w.cell? ⟨r, 1, none⟩ = some (.int .i64 rt) := cell_at hr 1 rfl
  have f1 : w.frozen? ⟨r, 1, none⟩ = false := open_at hr 1
  have hF1 := Fr.setCell w r 1 (.int .i64 k)
  have hr1 := (rset hr).1 (.int .i64 k)
  have c4 : (w.setCell ⟨r, 1, none⟩ (.int .i64 k)).cell? ⟨r, 4, none⟩ = some (.bool ch) := cell_at hr1 4 rfl
  have f4 : (w.setCell ⟨r, 1, none⟩ (.int .i64 k)).frozen? ⟨r, 4, none⟩ = false := open_at hr1 4
  have hF2 := Fr.setCell (w.setCell ⟨r, 1, none⟩ (.int .i64 k)) r 4 (.bool true)
  have hr2 := (rset hr1).2 (.bool true)
  have hF : Fr [r] w ((w.setCell ⟨r, 1, none⟩ (.int .i64 k)).setCell ⟨r, 4, none⟩ (.bool true)) := hF1.trans hF2 (fun x hx => .inl hx)
  have hx : ∀ (t : TypeId), t ≠ 95 → ∀ g c, w.heap[g]? = some (.cells c t (0, 0)) → g ∉ [r] := fun t ht g c hg hm => by
    obtain rfl : g = r := by simpa using hm
    rw [hr] at hg
    injection hg with hg
    injection hg with _ e
    exact ht e.symm
  have HZ : Hid (Rp Z ((w.setCell ⟨r, 1, none⟩ (.int .i64 k)).setCell ⟨r, 4, none⟩ (.bool true)) B r cur was k wr true ∧ Fr [r] w ((w.setCell ⟨r, 1, none⟩ (.int .i64 k)).setCell ⟨r, 4, none⟩ (.bool true))) := hid ⟨⟨hB, vp, vw, al, be, hr2, owns_fr hp hF (hx _ (by decide)), owns_fr hw hF (hx _ (by decide)), hs.fr hF (hx _ (by decide)), hs2.fr hF (hx _ (by decide)), hne⟩, hF⟩
  clear hB hr hp hw hs hs2 hne hF1 hr1 hF2 hr2 hF hx
  by_cases h1 : k = -1
  · subst h1
    have e1 : (decide ((0 : Int) ≤ -1) && (cur[(-1 : Int).toNat]?.getD none).isSome) = false := by rw [decide_eq_false (by omega)]; rfl
    rw [e1] at HT
    clear hk e1
    go_enter Tryz.func48, Tryz.ntmps48
    go_wp2_with fail
    refine HT.out.mono ?_
    rintro e wz ⟨rfl, hwz⟩
    obtain rfl := hwz.symm
    clear HT
    go_wp2
    go_ret
    exact ⟨rfl, HZ.out⟩
  · rw [hk.resolve_left h1] at HT
    clear hk
    go_enter Tryz.func48, Tryz.ntmps48
    go_wp2_with fail
    refine HT.out.mono ?_
    rintro e wz ⟨rfl, hwz⟩
    obtain rfl := hwz.symm
    clear HT
    go_wp2
    go_ret
    exact ⟨rfl, HZ.out⟩
end Go.Proofs.YtcmgclkbhhdnaaaGreatDoor
