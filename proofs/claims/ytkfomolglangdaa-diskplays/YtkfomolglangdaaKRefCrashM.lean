/- The document's crash, write by write, is the program's; and the law's own 'first'. -/
import Derived.Test.YtkfomolglangdaaKKeepsM
import Derived.Test.YtkfomolglangdaaKRefState
namespace Go.Proofs.Ytkfomolglangdaa
open Go Go.RowKit

/-- The first k writes, those whose numbers are among zs laid. -/
def rcr (kept : List (List UInt8)) (L : List (Nat × List UInt8)) (zs : List Int) : Nat → List (List UInt8)
  | 0 => kept
  | k + 1 => match L[k]? with
    | some x => if (k : Int) ∈ zs then (rcr kept L zs k).set x.1 x.2 else rcr kept L zs k
    | none => rcr kept L zs k
theorem rcr_in {kept : List (List UInt8)} {L : List (Nat × List UInt8)} {zs : List Int} {k : Nat} {x : Nat × List UInt8} (hx : L[k]? = some x) (hz : (k : Int) ∈ zs) : rcr kept L zs (k + 1) = (rcr kept L zs k).set x.1 x.2 := by
  simp only [rcr, hx, if_pos hz]
theorem rcr_out {kept : List (List UInt8)} {L : List (Nat × List UInt8)} {zs : List Int} {k : Nat} (hz : ¬ (k : Int) ∈ zs) : rcr kept L zs (k + 1) = rcr kept L zs k := by
  simp only [rcr, if_neg hz]
  split <;> rfl
theorem rcr_len (kept : List (List UInt8)) (L : List (Nat × List UInt8)) (zs : List Int) : ∀ k, (rcr kept L zs k).length = kept.length
  | 0 => rfl
  | k + 1 => by
    simp only [rcr]
    split
    · split
      · rw [List.length_set, rcr_len kept L zs k]
      · exact rcr_len kept L zs k
    · exact rcr_len kept L zs k
theorem rcr_last {kept : List (List UInt8)} {L : List (Nat × List UInt8)} {zs : List Int} {at_ : Nat} {k0 : List UInt8} (h0 : kept[at_]? = some k0) : ∀ k, k ≤ L.length → ∃ v, (rcr kept L zs k)[at_]? = some v ∧ LastM L at_ k0 zs k v
  | 0, _ => ⟨k0, h0, LastM.start _ _ _ _⟩
  | k + 1, hk => by
    obtain ⟨v, hv, hl⟩ := rcr_last (L := L) (zs := zs) h0 k (by omega)
    obtain ⟨x, hx⟩ : ∃ x, L[k]? = some x := ⟨_, List.getElem?_eq_getElem (by omega)⟩
    have hat : at_ < (rcr kept L zs k).length := (List.getElem?_eq_some_iff.1 hv).1
    by_cases hz : (k : Int) ∈ zs
    · rw [rcr_in hx hz]
      by_cases e : x.1 = at_
      · exact ⟨x.2, by rw [e, List.getElem?_set_self hat], LastM.hit hx hz e⟩
      · exact ⟨v, by rw [List.getElem?_set_ne e]; exact hv, hl.miss hx (fun h => e h.2)⟩
    · rw [rcr_out hz]
      exact ⟨v, hv, hl.miss hx (fun h => hz h.1)⟩
/-- Both crashes agree. -/
theorem rcr_crashed (kept : List (List UInt8)) (L : List (Nat × List UInt8)) (zs : List Int) : rcr kept L zs L.length = crashed kept L zs := by
  apply List.ext_getElem?
  intro j
  cases h : kept[j]? with
  | none =>
    have hj : kept.length ≤ j := by simpa using h
    rw [List.getElem?_eq_none (by rw [rcr_len]; exact hj), List.getElem?_eq_none (by rw [crashed, laySome_len]; exact hj)]
  | some k0 =>
    obtain ⟨v, hv, hl⟩ := rcr_last (zs := zs) h L.length (Nat.le_refl _)
    obtain ⟨v', hv', hl'⟩ := crashed_last h zs
    rw [hv, hv', hl.done.unique hl']

set_option maxRecDepth 100000 in
set_option maxHeartbeats 800000 in
theorem first_any (w : World) {v : Value} {l : List UInt8} (hv : Sl w v l) :
    Calls Try.prog 31 #[v] w fun e w' => e = .returned (cb (l.headD 0)) ∧ w' = w := by
  obtain ⟨a, cap, rfl, _, _, hrd⟩ := hv
  cases l with
  | nil =>
    go_enter Try.func31, Try.ntmps31
    go_wp2
    go_ret
    exact ⟨rfl, rfl⟩
  | cons c l =>
    obtain ⟨b, off, rfl, hr⟩ := hrd (by simp)
    have h0 := hr 0 (by simp)
    rw [show off + 0 = off from rfl] at h0
    have h1 : (((c :: l).length : Int) == 0) = false := by rw [beq_eq_false_iff_ne, List.length_cons]; omega
    have h2 : (0 : Int) < ((c :: l).length : Int) := by rw [List.length_cons]; omega
    have h3 : (c :: l).length ≠ 0 := by simp
    have h0' : w.cell? ⟨b, off, none⟩ = some (cb c) := h0
    clear h0 hr hrd
    generalize (c :: l).length = m at *
    go_enter Try.func31, Try.ntmps31
    go_wp2
    go_ret
    exact ⟨rfl, rfl⟩
end Go.Proofs.Ytkfomolglangdaa
