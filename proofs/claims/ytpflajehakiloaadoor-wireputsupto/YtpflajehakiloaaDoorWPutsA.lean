/- The walks of WirePuts' own helpers: ahead, stays. -/
import Derived.Test.YtpflajehakiloaaDoorWLaw
import Derived.Test.YtpflajehakiloaaDoorWCopy
import Derived.Test.YtpflajehakiloaaDoorWAppB
namespace Go.Proofs.YtpflajehakiloaaDoor
open Go Go.RowKit

/-- A row of the call's own, with forty places behind, k of which are marked. -/
def Row (w : World) (g : Nat) (l : List UInt8) (k : Nat) : Prop :=
  Rd w g 0 (l ++ List.replicate k 165) ∧ (∀ j, j < l.length + 40 → ∃ v, w.cell? ⟨g, j, none⟩ = some v) ∧ ∀ j, w.frozen? ⟨g, j, none⟩ = false
theorem Row.of_owns {w : World} {B g : Nat} {l : List UInt8} (h : w.ownsRow B 5 1 (.slice (some ⟨g, 0, none⟩) l.length (l.length + 40)) l.length (cells8 l)) : Row w g l 0 := by
  refine ⟨by simpa using owns_rd h, ?_⟩
  rcases h.2 with ⟨h, _⟩ | ⟨g', cap', cur, hv, hb, hg, h1, h2, h3, _⟩
  · cases h
  · cases hv
    refine ⟨fun j hj => ?_, fun j => ?_⟩
    · refine ⟨cur[j]'(by omega), ?_⟩
      unfold World.cell?
      rw [hg]
      simp
    · unfold World.frozen?
      rw [hg]
      simp
theorem rd_one {w : World} {g : Nat} {l : List UInt8} {k : Nat} (h : Rd w g 0 (l ++ List.replicate k 165)) (hc : ∃ v, w.cell? ⟨g, l.length + k, none⟩ = some v) :
    Rd (w.setCell ⟨g, l.length + k, none⟩ (.int .u8 165)) g 0 (l ++ List.replicate (k + 1) 165) := by
  intro j hj
  have e : l ++ List.replicate (k + 1) 165 = (l ++ List.replicate k 165) ++ [(165 : UInt8)] := by rw [List.replicate_succ', List.append_assoc]
  have hlen : (l ++ List.replicate k (165 : UInt8)).length = l.length + k := by simp
  rw [e] at hj ⊢
  rw [List.length_append, hlen] at hj
  simp only [List.length_cons, List.length_nil] at hj
  rw [Nat.zero_add]
  by_cases hjk : j = l.length + k
  · subst hjk
    obtain ⟨v, hv⟩ := hc
    rw [World.cell?_setCell_same _ _ _ hv]
    have : at8 ((l ++ List.replicate k 165) ++ [(165 : UInt8)]) (l.length + k) = 165 := by
      unfold at8
      simp [List.getD]
    rw [this]
  · rw [World.cell?_setCell_other _ _ _ _ (by intro h; apply hjk; cases h; rfl)]
    have hj' : j < (l ++ List.replicate k (165 : UInt8)).length := by omega
    have := h j hj'
    rw [Nat.zero_add] at this
    rw [this]
    unfold at8
    simp only [List.getD]
    rw [List.getElem?_append_left hj']
theorem Row.step {w : World} {g : Nat} {l : List UInt8} {k : Nat} (h : Row w g l k) (hk : k < 40) : Row (w.setCell ⟨g, l.length + k, none⟩ (.int .u8 165)) g l (k + 1) := by
  obtain ⟨h1, h2, h3⟩ := h
  refine ⟨rd_one h1 (h2 _ (by omega)), fun j hj => ?_, fun j => by simpa using h3 j⟩
  obtain ⟨v, hv⟩ := h2 j hj
  exact cell?_setCell_some hv

set_option maxRecDepth 100000 in
set_option maxHeartbeats 800000 in
theorem ahead_any (a : Option Addr) (l : List UInt8) (cap : Nat) (w : World) (hv : Sl w (.slice a l.length cap) l) (hb : l.length ≤ 1048576) :
    Calls Tryd.prog 10 #[.slice a l.length cap] w fun e w' => e = .returned (.slice (some ⟨w.heap.size, 0, none⟩) l.length (l.length + 40)) ∧ Row w' w.heap.size l 40 ∧ Below w.heap.size w w' := by
  obtain ⟨i0, hi0, hz0, hz1, hz2⟩ := info_parts info8
  have hN : a = none → l.length = 0 ∧ cap = 0 := by
    intro h
    obtain ⟨a', cap', he, h2, h3, h4⟩ := hv
    cases he
    have := h3 h
    omega
  have HV : Hid (Sl w (.slice a l.length cap) l) := hv
  clear hv
  go_enter Tryd.func10, Tryd.ntmps10
  go_wp2_with (first
    | (at_make; refine wpList_make_own _ rfl _ _ 22 rfl w.heap.size 5 i0 (.int .u8 0) 1 Tryd.underlying22 hi0 hz0 hz1 _ _ _ (l.length + 40) rfl rfl (by omega) (by rw [hz2]; omega) (by unfold maxLen; omega) (Nat.le_refl _) ?_; intro w0 hown0 hgrow0)
    | (at_builtin; refine wpList_append_fits_any _ rfl _ _ 22 rfl w.heap.size 5 i0 1 Tryd.underlying22 hi0 hz1 w.heap.size 0 (l.length + 40) _ rfl hown0 a l.length cap (cells8 l) rfl (by rw [cells8_len]; omega) hN (sl_cells HV.out hgrow0) (cells8_one l) (by omega) ?_; intro w1 hown1 hgrow1))
  simp only [Nat.zero_add, List.nil_append] at hown1
  have hB1 : Below w.heap.size w w1 := ((Below.refl _ _).grown hgrow0 (Nat.le_refl _) (fun k h => by cases h)).grown hgrow1 hgrow0.size (fun k hk => by cases hk; exact Nat.le_refl _)
  have hrow := Row.of_owns hown1
  clear hown0 hown1 hgrow0 hgrow1 hN HV
  go_loopw [5] (fun i wr => ∃ k : Nat, k ≤ 40 ∧ i = .int .i64 ((l.length + k : Nat) : Int) ∧ Row wr w.heap.size l k ∧ Below w.heap.size w wr) (fun i _ => l.length + 40 - (intOf i).toNat)
  case atStart => exact ⟨0, by omega, rfl, hrow, hB1⟩
  case round =>
    obtain ⟨k, hk, rfl, hr, hB⟩ := hrel
    clear hB1 hrow
    by_cases hlt : k < 40
    · have hst := hr.step hlt
      have hBs := hB.setCell (p := ⟨w.heap.size, l.length + k, none⟩) (Nat.le_refl _) (.int .u8 165)
      obtain ⟨v, hc⟩ := hr.2.1 (l.length + k) (by omega)
      have hf := hr.2.2 (l.length + k)
      have HST := hid hst
      have HBS := hid hBs
      clear hst hBs hr hB
      generalize hN : l.length + k = N at *
      have hN1 : (N : Int) < (l.length : Int) + 40 := by omega
      have hN2 : N < l.length + 40 := by omega
      go_wp2
      exact ⟨⟨k + 1, by omega, by congr 1; omega, HST.out, HBS.out⟩, by simp [intOf]; omega⟩
    · have : k = 40 := by omega
      subst this
      go_wp2
      go_ret
      exact ⟨rfl, hr, hB⟩

theorem Rd.ahead {w : World} {b off : Nat} {l m : List UInt8} (h : Rd w b off (l ++ m)) : Rd w b off l := fun k hk => by
  rw [h k (by rw [List.length_append]; omega)]
  unfold at8
  simp only [List.getD]
  rw [List.getElem?_append_left hk]

set_option maxRecDepth 100000 in
set_option maxHeartbeats 800000 in
theorem stays_any (g : Nat) (a : Option Addr) (l : List UInt8) (cap : Nat) (w : World) (hr : Rd w g 0 (l ++ List.replicate 40 165)) (hv : Sl w (.slice a l.length cap) l) (hb : l.length ≤ 1048576) :
    Calls Tryd.prog 15 #[.slice (some ⟨g, 0, none⟩) l.length (l.length + 40), .slice a l.length cap] w fun e w' => e = .returned (.bool true) ∧ w' = w := by
  have hcx := conv_sl (Sl.mk (cap := l.length + 40) hr.ahead (by omega))
  have hcb := conv_sl hv
  have HR := hid hr
  clear hr hv
  go_enter Tryd.func15, Tryd.ntmps15
  go_wp2_with fail
  go_loop [6] (fun i => ∃ k : Nat, k ≤ 40 ∧ i = .int .i64 ((l.length + k : Nat) : Int)) (fun i => l.length + 40 - (intOf i).toNat)
  case atStart => exact ⟨0, by omega, rfl⟩
  case round =>
    obtain ⟨k, hk, rfl⟩ := hrel
    by_cases hlt : k < 40
    · have hc := HR.out (l.length + k) (by simp; omega)
      have e8 : at8 (l ++ List.replicate 40 165) (l.length + k) = 165 := by
        unfold at8
        simp only [List.getD]
        rw [List.getElem?_append_right (by omega), show l.length + k - l.length = k by omega, List.getElem?_replicate, if_pos hlt]
        rfl
      rw [e8, Nat.zero_add] at hc
      clear e8 hcx hcb
      generalize hN : l.length + k = N at *
      have hN1 : (N : Int) < (l.length : Int) + 40 := by omega
      have hN2 : N < l.length + 40 := by omega
      go_wp2
      exact ⟨⟨k + 1, by omega, by congr 1; omega⟩, by simp [intOf]; omega⟩
    · have : k = 40 := by omega
      subst this
      go_wp2
      go_ret
      exact ⟨rfl, rfl⟩
end Go.Proofs.YtpflajehakiloaaDoor
