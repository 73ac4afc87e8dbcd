/- the text PRefF -/
import Derived.Test.YtcmgclkbhhdnaaaGreatDoorPRefEC
namespace Go.Proofs.YtcmgclkbhhdnaaaGreatDoor
open Go Go.RowKit
variable {Z : Nat → Prop}

theorem Sp.some {w : World} {al : List (Option Nat)} {c : Pgs} (h : Sp w al c) (q y : Nat) (b : List UInt8) (hy : w.heap[y]? = Option.some (.cells #[strV b] 9 (0, 0))) : Sp w (al.set q (Option.some y)) (c.set q (Option.some b)) := by
  refine ⟨by rw [List.length_set, List.length_set]; exact h.1, fun i => ⟨fun hi => ?_, fun a ha => ?_⟩⟩
  · by_cases e : q = i
    · subst e
      have := (List.getElem?_eq_some_iff.1 hi).1
      rw [List.length_set] at this
      simp [this] at hi
    · rw [List.getElem?_set_ne e] at hi ⊢; exact (h.2 i).1 hi
  · by_cases e : q = i
    · subst e
      have := (List.getElem?_eq_some_iff.1 ha).1
      rw [List.length_set] at this
      have hq : q < c.length := by rw [← h.1]; exact this
      simp [this] at ha
      subst ha
      exact ⟨b, by simp [hq], hy⟩
    · rw [List.getElem?_set_ne e] at ha ⊢; exact (h.2 i).2 a ha
theorem Sp.below {w w' : World} {al : List (Option Nat)} {c : Pgs} (h : Sp w al c) (hB : Below w.heap.size w w') : Sp w' al c := h.fr (X := []) (Fr.of_below hB) (by simp)
theorem Rp.below {w w' : World} {B r : Nat} {cur was : Pgs} {rt wr : Int} {ch : Bool} (h : Rp Z w B r cur was rt wr ch) (hB : Below w.heap.size w w') : Rp Z w' B r cur was rt wr ch := by
  obtain ⟨h0, vp, vw, al, be, hr, hp, hw, hs, hs2, hne⟩ := h
  exact ⟨h0, vp, vw, al, be, below_at hB hr (heap_lt hr), owns_below2 hp hB, owns_below2 hw hB, hs.below hB, hs2.below hB, hne⟩
set_option maxRecDepth 100000 in
set_option maxHeartbeats 400000 in
theorem rlay_any {w : World} {B r : Nat} {cur was : Pgs} {rt wr : Int} {ch : Bool} (h : Rp Z w B r cur was rt wr ch) (q : Nat) (hq : q < cur.length) (b : List UInt8) :
    Calls Tryz.prog 85 #[.pointer (some ⟨r, 0, none⟩), .int .i64 q, strV b] w fun e w' => e = .returned (.tuple #[]) ∧ Rp Z w' B r (cur.set q (some b)) was rt wr true ∧ ∃ g, (B ≤ g ∧ ¬ Z g) ∧ (∃ cs, w.heap[g]? = some (.cells cs 148 (0, 0))) ∧ Fr [g, r] w w' := by
  have hB0 : Below w.heap.size w (w.alloc (.cells #[strV b] 9)) := (Below.refl _ _).alloc (Nat.le_refl _) _
  have hY : (w.alloc (.cells #[strV b] 9)).heap[w.heap.size]? = some (.cells #[strV b] 9 (0, 0)) := heap_alloc_last w _
  have hbx : (Instr.box 9 (strV b)).run Tryz.prog w = .ok (.pointer (some ⟨w.heap.size, 0, none⟩)) (w.alloc (.cells #[strV b] 9)) := by unfold strV; go_simp
  have hr0 := h.below hB0
  obtain ⟨y, hy⟩ : ∃ y, w.heap.size = y := ⟨_, rfl⟩
  have hwcs : ∀ (g : Nat) (cs : Array Value), (w.alloc (.cells #[strV b] 9)).heap[g]? = some (.cells cs 148 (0, 0)) → ∃ cs, w.heap[g]? = some (.cells cs 148 (0, 0)) := fun g cs hg => by
    by_cases e : g < w.heap.size
    · exact ⟨cs, by rw [← hB0.block g e]; exact hg⟩
    · have hl := heap_lt hg
      have hz : (w.alloc (.cells #[strV b] 9)).heap.size = w.heap.size + 1 := by show (w.heap.push _).size = _; simp
      have : g = w.heap.size := by omega
      subst this
      rw [hY] at hg
      injection hg with hg
      injection hg with _ e2
      exact absurd e2 (by decide)
  generalize w.alloc (.cells #[strV b] 9) = w0 at *
  rw [hy] at hY hbx
  obtain ⟨hB, vp, vw, al, be, hr, hp, hw, hs, hs2, hne⟩ := hr0
  obtain ⟨a, c, rfl⟩ := owns_shape hp
  have c0 : w0.cell? ⟨r, 0, none⟩ = some (.slice a cur.length c) := cell_at hr 0 rfl
  obtain ⟨hnc, g, rfl, ⟨cs, hcs⟩, hor⟩ := Rp.row hp hs hq
  obtain ⟨x, hc⟩ : ∃ x, w0.cell? ⟨g, q, none⟩ = some (.pointer x) := by
    rcases hor with ⟨_, _, hc⟩ | ⟨_, _, _, _, hc, _⟩
    · exact ⟨_, hc⟩
    · exact ⟨_, hc⟩
  have hgr : g ≠ r := fun e => by
    rw [e, hr] at hcs
    injection hcs with hcs
    injection hcs with _ e2
    exact absurd e2 (by decide)
  have fg : w0.frozen? ⟨g, q, none⟩ = false := open_at hcs q
  have hF1 := Fr.setCell w0 g q (.pointer (some ⟨y, 0, none⟩))
  have hr1 := hF1.at hr (by simp; exact fun e => hgr e.symm)
  have hp1 := owns_put hp q (.pointer (some ⟨y, 0, none⟩))
  have hw1 := owns_apart hw (hne.1 g rfl) q (.pointer (some ⟨y, 0, none⟩))
  have hst : ∀ a d, w0.heap[a]? = some (.cells d 9 (0, 0)) → a ∉ [g] := fun a d ha hm => by
    obtain rfl : a = g := by simpa using hm
    rw [hcs] at ha
    injection ha with ha
    injection ha with _ e2
    exact absurd e2 (by decide)
  have hs1 := hs.fr hF1 hst
  have hs21 := hs2.fr hF1 hst
  have hY1 := hF1.at hY (hst y _ hY)
  have c4 : (w0.setCell ⟨g, q, none⟩ (.pointer (some ⟨y, 0, none⟩))).cell? ⟨r, 4, none⟩ = some (.bool ch) := cell_at hr1 4 rfl
  have f4 : (w0.setCell ⟨g, q, none⟩ (.pointer (some ⟨y, 0, none⟩))).frozen? ⟨r, 4, none⟩ = false := open_at hr1 4
  have hF2 := Fr.setCell (w0.setCell ⟨g, q, none⟩ (.pointer (some ⟨y, 0, none⟩))) r 4 (.bool true)
  have hr2 := (rset hr1).2 (.bool true)
  have hx : ∀ (t : TypeId), t ≠ 95 → ∀ g' d, (w0.setCell ⟨g, q, none⟩ (.pointer (some ⟨y, 0, none⟩))).heap[g']? = some (.cells d t (0, 0)) → g' ∉ [r] := fun t htt g' d hg' hm => by
    obtain rfl : g' = r := by simpa using hm
    rw [hr1] at hg'
    injection hg' with hg'
    injection hg' with _ e
    exact htt e.symm
  have hBg : B ≤ g := by
    rcases hp.2 with ⟨e, _⟩ | ⟨g', cap, cs', e, hb, _⟩
    · cases e
    · injection e with e1 _ _
      injection e1 with e1
      injection e1 with e1
      omega
  have hmap : (al.map pV).set q (.pointer (some ⟨y, 0, none⟩)) = (al.set q (some y)).map pV := by rw [List.map_set]; rfl
  rw [hmap] at hp1
  have HZ : Hid (Rp Z ((w0.setCell ⟨g, q, none⟩ (.pointer (some ⟨y, 0, none⟩))).setCell ⟨r, 4, none⟩ (.bool true)) B r (cur.set q (some b)) was rt wr true ∧ ∃ g', (B ≤ g' ∧ ¬ Z g') ∧ (∃ cs, w.heap[g']? = some (.cells cs 148 (0, 0))) ∧ Fr [g', r] w ((w0.setCell ⟨g, q, none⟩ (.pointer (some ⟨y, 0, none⟩))).setCell ⟨r, 4, none⟩ (.bool true))) := hid ⟨⟨hB, _, vw, al.set q (some y), be, hr2, by rw [List.length_set]; exact owns_fr hp1 hF2 (hx _ (by decide)), owns_fr hw1 hF2 (hx _ (by decide)), (hs1.fr hF2 (hx _ (by decide))).some q y b (hF2.at hY1 (hx _ (by decide) y _ hY1)), hs21.fr hF2 (hx _ (by decide)), ⟨fun g' hg' => hne.1 g' (by simpa [Value.ownBlock] using hg'), fun g' hg' => hne.2 g' (by simpa [Value.ownBlock] using hg')⟩⟩, g, ⟨hBg, hne.2 g (.inl rfl)⟩, hwcs g cs hcs, (Fr.of_below (X := [g, r]) hB0).trans ((hF1.mono (fun x hx => .inl (by simp at hx ⊢; exact .inl hx))).trans hF2 (fun x hx => .inl (by simp at hx ⊢; exact .inr hx))) (fun x hx => .inl hx)⟩
  have HBX := hid hbx
  generalize cur.length = n at *
  clear hr hp hw hs hs2 hne hr1 hp1 hw1 hst hs1 hs21 hF1 hF2 hr2 hx hmap hBg hcs hB hgr hor hwcs hY hY1 hbx hB0 hy h
  generalize strV b = sb at *
  go_enter Tryz.func85, Tryz.ntmps85
  go_upto_region 0 with fail
  refine wp_region_lit ?_
  refine wp_run (v := .pointer (some ⟨y, 0, none⟩)) rfl rfl (run_boxOp rfl (by kernel_rfl) HBX.out) rfl ?_
  try simp only [List.setIfInBounds_toArray, List.set_cons_zero, List.set_cons_succ]
  refine wp_end ?_
  go_wp2
  go_end0
  exact ⟨rfl, HZ.out⟩
end Go.Proofs.YtcmgclkbhhdnaaaGreatDoor
