/- The order of a batch makes no difference; a batch that is cut. -/
import Derived.Test.YtdogjicccajnkaaDoorJGh
namespace Go.Proofs.YtdogjicccajnkaaDoor
open Go Go.RowKit

theorem nodup_rev {α : Type} {l : List α} (h : l.Nodup) : l.reverse.Nodup := by
  unfold List.Nodup at *
  rw [List.pairwise_reverse]
  exact h.imp fun h => h.symm
theorem zip_rev : ∀ (zs : List Int) (ps : List (List UInt8)), zs.length = ps.length → zs.reverse.zip ps.reverse = (zs.zip ps).reverse
  | [], [], _ => rfl
  | z :: r, p :: s, h => by
    have h' : r.length = s.length := by simpa using h
    rw [List.reverse_cons, List.reverse_cons, List.zip_append (by simp [h']), zip_rev r s h']
    simp
  | [], _ :: _, h => by simp at h
  | _ :: _, [], h => by simp at h
theorem layAll_rev {ss : List (List UInt8)} {L : List (Nat × List UInt8)} (hn : (L.map (·.1)).Nodup) (hl : ∀ x ∈ L, x.1 < ss.length) : layAll ss L.reverse = layAll ss L := by
  have hn2 : (L.reverse.map (·.1)).Nodup := by rw [List.map_reverse]; exact nodup_rev hn
  apply List.ext_getElem?
  intro k
  by_cases hk : ∃ l, (k, l) ∈ L
  · obtain ⟨l, hm⟩ := hk
    rw [layAll_in L.reverse ss (k, l) hn2 (List.mem_reverse.2 hm) (hl _ hm), layAll_in L ss (k, l) hn hm (hl _ hm)]
  · rcases layAll_mem k L ss with h1 | ⟨l, hm, _⟩
    · rcases layAll_mem k L.reverse ss with h2 | ⟨l, hm, _⟩
      · rw [h1, h2]
      · exact absurd ⟨l, List.mem_reverse.1 hm⟩ hk
    · exact absurd ⟨l, hm⟩ hk
theorem wsOf_rev {zs : List Int} {ps : List (List UInt8)} (h : zs.length = ps.length) : wsOf zs.reverse ps.reverse = (wsOf zs ps).reverse := by
  unfold wsOf
  rw [← List.map_reverse, zip_rev zs ps h]
theorem wsOf_cut {zs : List Int} {ps : List (List UInt8)} (h : zs.length = ps.length) (n : Nat) : wsOf zs ps = wsOf (zs.take n) (ps.take n) ++ wsOf (zs.drop n) (ps.drop n) := by
  unfold wsOf
  rw [← List.map_append, ← List.zip_append (by rw [List.length_take, List.length_take, h]), List.take_append_drop, List.take_append_drop]
theorem Fit.rev {nb : Nat} {zs : List Int} {ps : List (List UInt8)} (h : Fit nb zs ps) : Fit nb zs.reverse ps.reverse :=
  ⟨by simp [h.1], nodup_rev h.2.1, fun z hz => h.2.2.1 z (List.mem_reverse.1 hz), fun l hl => h.2.2.2 l (List.mem_reverse.1 hl)⟩
theorem Fit.take {nb : Nat} {zs : List Int} {ps : List (List UInt8)} (h : Fit nb zs ps) (n : Nat) : Fit nb (zs.take n) (ps.take n) :=
  ⟨by simp [h.1], h.2.1.sublist (List.take_sublist _ _), fun z hz => h.2.2.1 z (List.mem_of_mem_take hz), fun l hl => h.2.2.2 l (List.mem_of_mem_take hl)⟩
theorem Fit.drop {nb : Nat} {zs : List Int} {ps : List (List UInt8)} (h : Fit nb zs ps) (n : Nat) : Fit nb (zs.drop n) (ps.drop n) :=
  ⟨by simp [h.1], h.2.1.sublist (List.drop_sublist _ _), fun z hz => h.2.2.1 z (List.mem_of_mem_drop hz), fun l hl => h.2.2.2 l (List.mem_of_mem_drop hl)⟩
theorem refW_fit {sq : Nat} {bl : List (List UInt8)} {zs : List Int} {ps : List (List UInt8)} (h : Fit bl.length zs ps) : (refW sq bl zs ps).2 = layAll bl (wsOf zs ps) := by
  unfold refW
  by_cases h0 : zs = []
  · subst h0
    rw [if_neg (fun e => e.2 rfl)]
    rfl
  · rw [if_pos ⟨h, h0⟩]
theorem refW_rev {bl : List (List UInt8)} {zs : List Int} {ps : List (List UInt8)} (h : Fit bl.length zs ps) (sq : Nat) : refW sq bl zs.reverse ps.reverse = refW sq bl zs ps := by
  have h1 : (refW sq bl zs.reverse ps.reverse).2 = (refW sq bl zs ps).2 := by
    rw [refW_fit h, refW_fit h.rev, wsOf_rev h.1]
    exact layAll_rev (wsOf_nodup h) (fun x hx => (wsOf_ok h x hx).1)
  have h2 : (refW sq bl zs.reverse ps.reverse).1 = (refW sq bl zs ps).1 := by
    unfold refW
    by_cases h0 : zs = []
    · subst h0
      rw [if_neg (fun e => e.2 rfl), if_neg (fun e => e.2 rfl)]
    · rw [if_pos ⟨h.rev, fun e => h0 (List.reverse_eq_nil_iff.1 e)⟩, if_pos ⟨h, h0⟩]
  exact Prod.ext h2 h1
theorem refW_cut {bl : List (List UInt8)} {zs : List Int} {ps : List (List UInt8)} (h : Fit bl.length zs ps) (sq sq' n : Nat) : (refW sq' (refW sq bl (zs.take n) (ps.take n)).2 (zs.drop n) (ps.drop n)).2 = (refW sq bl zs ps).2 := by
  have h1 := h.take n
  have h2 : Fit (refW sq bl (zs.take n) (ps.take n)).2.length (zs.drop n) (ps.drop n) := by rw [refW_fit h1, layAll_len]; exact h.drop n
  rw [refW_fit h2, refW_fit h1, refW_fit h, wsOf_cut h.1 n, layAll_append]
theorem refE_fit {bl : List (List UInt8)} {zs : List Int} {ps : List (List UInt8)} (h : Fit bl.length zs ps) : refE bl zs ps = 0 := if_pos h

theorem cut43 (g m c n : Nat) (hn : n ≤ c) (w : World) : (Instr.sliceAt 43 (.slice (some ⟨g, 0, none⟩) m c) none (some (.int .i64 n)) none).run Tryd.prog w = .ok (.slice (some ⟨g, 0, none⟩) n c) w := by
  have h1 : (n : Int) ≤ (c : Int) := by omega
  go_simp
theorem cut46 (g m c n : Nat) (hn : n ≤ c) (w : World) : (Instr.sliceAt 46 (.slice (some ⟨g, 0, none⟩) m c) none (some (.int .i64 n)) none).run Tryd.prog w = .ok (.slice (some ⟨g, 0, none⟩) n c) w := by
  have h1 : (n : Int) ≤ (c : Int) := by omega
  go_simp
theorem rest43 (g m c n : Nat) (hn : n ≤ m) (hm : m ≤ c) (w : World) : (Instr.sliceAt 43 (.slice (some ⟨g, 0, none⟩) m c) (some (.int .i64 n)) none none).run Tryd.prog w = .ok (.slice (if c = n then some ⟨g, 0, none⟩ else some ⟨g, n, none⟩) (m - n) (c - n)) w := by
  have h1 : (n : Int) ≤ (m : Int) := by omega
  have h2 : (m : Int) ≤ (c : Int) := by omega
  go_simp
theorem rest46 (g m c n : Nat) (hn : n ≤ m) (hm : m ≤ c) (w : World) : (Instr.sliceAt 46 (.slice (some ⟨g, 0, none⟩) m c) (some (.int .i64 n)) none none).run Tryd.prog w = .ok (.slice (if c = n then some ⟨g, 0, none⟩ else some ⟨g, n, none⟩) (m - n) (c - n)) w := by
  have h1 : (n : Int) ≤ (m : Int) := by omega
  have h2 : (m : Int) ≤ (c : Int) := by omega
  go_simp
theorem nil43 (w : World) : (Instr.sliceAt 43 (.slice none 0 0) none (some (.int .i64 0)) none).run Tryd.prog w = .ok (.slice none 0 0) w ∧ (Instr.sliceAt 43 (.slice none 0 0) (some (.int .i64 0)) none none).run Tryd.prog w = .ok (.slice none 0 0) w := by constructor <;> go_simp
theorem nil46 (w : World) : (Instr.sliceAt 46 (.slice none 0 0) none (some (.int .i64 0)) none).run Tryd.prog w = .ok (.slice none 0 0) w ∧ (Instr.sliceAt 46 (.slice none 0 0) (some (.int .i64 0)) none none).run Tryd.prog w = .ok (.slice none 0 0) w := by constructor <;> go_simp
/-- A slice of numbers, cut in two. -/
theorem Ats.split {w : World} {B : Nat} {v : Value} {zs : List Int} (h : Ats w B v zs) {n : Nat} (hn : n ≤ zs.length) : ∃ u1 u2, (∀ w', (Instr.sliceAt 43 v none (some (.int .i64 n)) none).run Tryd.prog w' = .ok u1 w') ∧ (∀ w', (Instr.sliceAt 43 v (some (.int .i64 n)) none none).run Tryd.prog w' = .ok u2 w') ∧ ∀ w2, Ats w2 B v zs → Iz w2 u1 (zs.take n) ∧ Iz w2 u2 (zs.drop n) := by
  rcases h.2 with ⟨e, h0⟩ | ⟨g, cap', cur, e, hb, hg, hle, _⟩
  · obtain rfl : zs = [] := List.length_eq_zero_iff.1 h0
    obtain rfl : n = 0 := by simpa using hn
    subst e
    exact ⟨_, _, fun w' => (nil43 w').1, fun w' => (nil43 w').2, fun _ _ => ⟨⟨none, 0, rfl, fun k x hx => by simp at hx⟩, ⟨none, 0, rfl, fun k x hx => by simp at hx⟩⟩⟩
  · subst e
    have hl1 : (zs.take n).length = n := by rw [List.length_take]; omega
    have hl2 : (zs.drop n).length = zs.length - n := by rw [List.length_drop]
    refine ⟨_, _, cut43 g _ cap' n (by omega), rest43 g _ cap' n hn hle, fun w2 h2 => ?_⟩
    obtain ⟨a, cap, hv, hc⟩ := h2.iz
    injection hv with e1 e2 e3
    subst e1 e3
    refine ⟨⟨_, cap', by rw [hl1], fun k x hx => ?_⟩, ⟨_, _, by rw [hl2], fun k x hx => ?_⟩⟩
    · have hk : k < n := by have := (List.getElem?_eq_some_iff.1 hx).1; omega
      rw [List.getElem?_take_of_lt hk] at hx
      obtain ⟨b, o, e, hcc⟩ := hc k x hx
      exact ⟨b, o, e, hcc⟩
    · have hk : k < zs.length - n := by have := (List.getElem?_eq_some_iff.1 hx).1; omega
      rw [List.getElem?_drop] at hx
      obtain ⟨b, o, e, hcc⟩ := hc (n + k) x hx
      injection e with e
      injection e with e4 e5
      subst e4 e5
      rw [if_neg (by omega)]
      exact ⟨g, n, rfl, by rw [Nat.zero_add] at hcc; exact hcc⟩
/-- A slice of parts, cut in two. -/
theorem Bks.split {w : World} {B : Nat} {v : Value} {qs : List Qp} (h : Bks w B v qs) {n : Nat} (hn : n ≤ qs.length) : ∃ u1 u2, (∀ w', (Instr.sliceAt 46 v none (some (.int .i64 n)) none).run Tryd.prog w' = .ok u1 w') ∧ (∀ w', (Instr.sliceAt 46 v (some (.int .i64 n)) none none).run Tryd.prog w' = .ok u2 w') ∧ ∀ w2, Bks w2 B v qs → Bz w2 u1 ((qs.map ql).take n) ∧ Bz w2 u2 ((qs.map ql).drop n) := by
  rcases h.1.2 with ⟨e, h0⟩ | ⟨g, cap', cur, e, hb, hg, hle, _⟩
  · obtain rfl : qs = [] := List.length_eq_zero_iff.1 h0
    obtain rfl : n = 0 := by simpa using hn
    subst e
    exact ⟨_, _, fun w' => (nil46 w').1, fun w' => (nil46 w').2, fun _ _ => ⟨⟨none, 0, rfl, fun k hk => by simp at hk⟩, ⟨none, 0, rfl, fun k hk => by simp at hk⟩⟩⟩
  · subst e
    have hl1 : ((qs.map ql).take n).length = n := by rw [List.length_take, List.length_map]; omega
    have hl2 : ((qs.map ql).drop n).length = qs.length - n := by rw [List.length_drop, List.length_map]
    refine ⟨_, _, cut46 g _ cap' n (by omega), rest46 g _ cap' n hn hle, fun w2 h2 => ?_⟩
    obtain ⟨a, cap, hv, hc⟩ := h2.bz
    rw [List.length_map] at hv
    injection hv with e1 e2 e3
    subst e1 e3
    refine ⟨⟨_, cap', by rw [hl1], fun k hk => ?_⟩, ⟨_, _, by rw [hl2], fun k hk => ?_⟩⟩
    · rw [hl1] at hk
      obtain ⟨b, o, ap, cp, e, h1, h2⟩ := hc k (by rw [List.length_map]; omega)
      have hg : ((qs.map ql).take n).getD k [] = (qs.map ql).getD k [] := by simp [List.getD, List.getElem?_take_of_lt hk]
      rw [hg]
      exact ⟨b, o, ap, cp, e, h1, h2⟩
    · rw [hl2] at hk
      obtain ⟨b, o, ap, cp, e, h1, h2⟩ := hc (n + k) (by rw [List.length_map]; omega)
      have hg : ((qs.map ql).drop n).getD k [] = (qs.map ql).getD (n + k) [] := by simp [List.getD, List.getElem?_drop]
      rw [hg, if_neg (by omega)]
      injection e with e
      injection e with e4 e5
      subst e4 e5
      exact ⟨g, n, ap, cp, rfl, by rw [Nat.zero_add] at h1; exact h1, h2⟩
end Go.Proofs.YtdogjicccajnkaaDoor
