/- The document's disk as one thing: what its methods make of it. -/
import Derived.Test.YtkfomolglangdaaKRefNew
namespace Go.Proofs.Ytkfomolglangdaa
open Go Go.RowKit

/-- The power is marked as gone only where it is. -/
def DS.Goes (s : DS) : Prop := s.gone = true → lost s.cut s.ops = true
theorem DS.Goes.or {s : DS} (h : s.Goes) : (lost s.cut s.ops || s.gone) = lost s.cut s.ops := by
  unfold DS.Goes at h
  cases hg : s.gone
  · simp
  · rw [h hg]; rfl
theorem DS.Goes.wr {s : DS} (x : Int) (l : List UInt8) : (s.wr x l).2.Goes := by
  unfold DS.wr DS.Goes
  by_cases h : lost s.cut s.ops = true
  · rw [if_pos h]; exact fun _ => h
  · rw [if_neg h]; split <;> try (intro e; cases e)
    split <;> try (intro e; cases e)
    split <;> (intro e; cases e)
theorem DS.Goes.fl {s : DS} : s.fl.2.Goes := by
  unfold DS.fl DS.Goes
  by_cases h : lost s.cut s.ops = true
  · rw [if_pos h]; exact fun _ => h
  · rw [if_neg h]; split <;> (intro e; cases e)

theorem rcut_d {w : World} {B r : Nat} {s : DS} (h : Ref w B r s) (x : Int) :
    Calls Try.prog 30 #[.pointer (some ⟨r, 0, none⟩), .int .i64 x] w fun e w' => e = .returned (.tuple #[]) ∧ Ref w' B r { s with cut := x, gone := false } ∧ Fr [r] w w' ∧ Mine w B [r] := by
  have hok := h.ok
  have h' := h
  obtain ⟨vs, vl, hB, hR, hS, hL, _⟩ := h
  refine (rcut_any w r vs vl s.ops s.cut s.gone x hR).mono ?_
  rintro e w' ⟨rfl, hR', hF⟩
  exact ⟨rfl, ⟨vs, vl, hB, hR', hS.fr hF (fun _ _ => hR.ne (by decide)) (fun _ _ => hR.ne (by decide)), hL.fr hF (fun _ _ => hR.ne (by decide)) (fun _ _ => hR.ne (by decide)), ⟨hok.n0, hok.n1, hok.nowLen, hok.keptLen, hok.at_, hok.lens, hok.o0, hok.o1, hok.few, hok.same⟩⟩, hF, hR.mine hB⟩

theorem rflush_d {w : World} {B r : Nat} {s : DS} (h : Ref w B r s) (hG : s.Goes) :
    Calls Try.prog 28 #[.pointer (some ⟨r, 0, none⟩)] w fun e w' => e = .returned (.int .i64 s.fl.1) ∧ Ref w' B r s.fl.2 ∧ ∃ Y, Fr Y w w' ∧ Mine w B Y := by
  have hok := h.ok
  have hokw := hok.fl
  obtain ⟨vs, vl, hB, hR, hS, hL, _⟩ := h
  have keep : ∀ w' g, Rc w' r vs vl s.ops s.cut g → Fr [r] w w' → Ref w' B r { s with gone := g } ∧ ∃ Y, Fr Y w w' ∧ Mine w B Y := fun w' g hR' hF =>
    ⟨⟨vs, vl, hB, hR', hS.fr hF (fun _ _ => hR.ne (by decide)) (fun _ _ => hR.ne (by decide)), hL.fr hF (fun _ _ => hR.ne (by decide)) (fun _ _ => hR.ne (by decide)), hok.gone g⟩, _, hF, hR.mine hB⟩
  have ho := hG.or
  unfold DS.fl at hokw ⊢
  by_cases h1 : lost s.cut s.ops = true
  · rw [if_pos h1]
    have ho := ho.trans h1
    refine (rflush_gone hR ho).mono ?_
    rintro e w' ⟨rfl, hR', hF⟩
    exact ⟨rfl, keep w' true hR' hF⟩
  rw [if_neg h1] at hokw ⊢
  have h1' : lost s.cut s.ops = false := by simpa using h1
  have ho := ho.trans h1'
  by_cases h4 : 1048576 ≤ s.ops
  · rw [if_pos h4]
    refine (rflush_full hR ho h4).mono ?_
    rintro e w' ⟨rfl, hR', hF⟩
    exact ⟨rfl, keep w' false hR' hF⟩
  rw [if_neg h4] at hokw ⊢
  refine (rflush_ok hR ho hB hS hL (by rw [hok.keptLen]; exact hok.n0) (fun x hx => by rw [hok.keptLen]; exact (hok.at_ x hx).1) hok.o0 (by omega) (Ref.few hok)).mono ?_
  rintro e w' ⟨rfl, hR', hS', hF, hM⟩
  rw [← hok.same] at hS'
  exact ⟨rfl, ⟨vs, _, hB, hR', hS', Ls.nil _ _, hokw⟩, _, hF, hM⟩

theorem rwrite_d {w : World} {B r : Nat} {s : DS} (h : Ref w B r s) (hG : s.Goes) (x : Int) {v : Value} {l : List UInt8} (hv : Sl w v l) :
    Calls Try.prog 27 #[.pointer (some ⟨r, 0, none⟩), .int .i64 x, v] w fun e w' => e = .returned (.int .i64 (s.wr x l).1) ∧ Ref w' B r (s.wr x l).2 ∧ ∃ Y, Fr Y w w' ∧ Mine w B Y := by
  have hok := h.ok
  obtain ⟨vs, vl, hB, hR, hS, hL, _⟩ := h
  have keep : ∀ w' g, Rc w' r vs vl s.ops s.cut g → Fr [r] w w' → Ref w' B r { s with gone := g } ∧ ∃ Y, Fr Y w w' ∧ Mine w B Y := fun w' g hR' hF =>
    ⟨⟨vs, vl, hB, hR', hS.fr hF (fun _ _ => hR.ne (by decide)) (fun _ _ => hR.ne (by decide)), hL.fr hF (fun _ _ => hR.ne (by decide)) (fun _ _ => hR.ne (by decide)), hok.gone g⟩, _, hF, hR.mine hB⟩
  have ho := hG.or
  obtain ⟨sa, cs, evs⟩ := hS.shape
  obtain ⟨al, cl, evl⟩ := hL.shape
  rw [hok.keptLen] at evs
  obtain ⟨va, cap, rfl, hc, hnil, hrd⟩ := hv
  have hokw := hok.wr x l
  unfold DS.wr at hokw ⊢
  by_cases h1 : lost s.cut s.ops = true
  · rw [if_pos h1]
    have ho := ho.trans h1
    refine (rwrite_gone hR ho _ _).mono ?_
    rintro e w' ⟨rfl, hR', hF⟩
    exact ⟨rfl, keep w' true hR' hF⟩
  have h1' : lost s.cut s.ops = false := by simpa using h1
  have ho := ho.trans h1'
  rw [if_neg h1] at hokw ⊢
  subst evs
  by_cases h2 : x < 0 ∨ (s.n : Int) ≤ x
  · rw [if_pos h2]
    refine (rwrite_at hR ho x _ h2).mono ?_
    rintro e w' ⟨rfl, hR', hF⟩
    exact ⟨rfl, keep w' false hR' hF⟩
  rw [if_neg h2] at hokw ⊢
  obtain ⟨i, rfl⟩ : ∃ i : Nat, x = i := ⟨x.toNat, by omega⟩
  have hi : i < s.n := by omega
  by_cases h3 : l.length ≠ 128
  · rw [if_pos h3]
    refine (rwrite_len hR ho i hi va l.length cap h3).mono ?_
    rintro e w' ⟨rfl, hR', hF⟩
    exact ⟨rfl, keep w' false hR' hF⟩
  rw [if_neg h3] at hokw ⊢
  have h3' : l.length = 128 := by simpa using h3
  have e3 := h3'
  rw [show (Value.slice va l.length cap) = .slice va 128 cap by rw [h3']]
  by_cases h4 : 1048576 ≤ s.ops
  · rw [if_pos h4]
    refine (rwrite_full hR ho i hi va cap h4).mono ?_
    rintro e w' ⟨rfl, hR', hF⟩
    exact ⟨rfl, keep w' false hR' hF⟩
  rw [if_neg h4] at hokw ⊢
  obtain ⟨bb, off, rfl, hr⟩ := hrd (by intro h; rw [h] at e3; simp at e3)
  have hr' : ∀ (j : Nat) (u : Value), (cells8 l)[j]? = some u → w.cell? ((⟨bb, off, none⟩ : Addr).add j) = some u := fun j u hj => by
    rw [Addr.add_lit]
    have hj' : j < l.length := by have := (List.getElem?_eq_some_iff.1 hj).1; rwa [cells8_len] at this
    rw [cells8_get l j hj'] at hj
    cases hj
    exact hr j hj'
  have hne : bb ≠ r := fun e => by
    subst e
    have q := hr 0 (by omega)
    rw [Rc] at hR
    rw [evl] at hR
    simp only [World.cell?, hR] at q
    rcases off with _ | _ | _ | _ | _ | off <;> simp at q
  refine (rwrite_ok hR ho hL hB i hi bb off cap l h3' hr' hne hok.o0 (by omega) (Ref.few hok)).mono ?_
  rintro e w' ⟨rfl, vl', hR', hL', hF, hM⟩
  rw [show ((i : Int)).toNat = i from rfl] at hokw ⊢
  refine ⟨rfl, ⟨_, vl', hB, hR', hS.fr hF ?_ ?_, hL', hokw⟩, _, hF, hM⟩
  · intro g c hg hm
    obtain ⟨K, _, _, hK⟩ := hL
    rcases List.mem_cons.1 hm with rfl | hm
    · exact hR.ne (by decide) hg (by simp)
    · obtain ⟨c', hc'⟩ := own_type hK g hm; rw [hg] at hc'; cases hc'
  · intro g c hg hm
    obtain ⟨K, _, _, hK⟩ := hL
    rcases List.mem_cons.1 hm with rfl | hm
    · exact hR.ne (by decide) hg (by simp)
    · obtain ⟨c', hc'⟩ := own_type hK g hm; rw [hg] at hc'; cases hc'
end Go.Proofs.Ytkfomolglangdaa
