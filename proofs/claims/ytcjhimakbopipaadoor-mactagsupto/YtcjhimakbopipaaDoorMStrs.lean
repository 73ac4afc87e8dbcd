/- An argument of type []string, opened: its parts, and how many bytes they have. -/
import Derived.Test.YtcjhimakbopipaaDoorMFrame
import Derived.Test.YtcjhimakbopipaaDoorMParts
import Derived.SliceStrings
namespace Go.Proofs.YtcjhimakbopipaaDoor
open Go Go.ChangeShapes Go.WideShapes Go.ChangeAt Go.WideMaps Go.WideElems Go.RowKit Go.ChangeMaps

theorem bulk_strs {H : Type} : ∀ ss : List ByteArray, ss.length + (allOf ss).length ≤ Rows.uptoBulkAll (strs ss : List (DataW H))
  | [] => by simp [allOf]
  | s :: r => by
    have h := bulk_strs (H := H) r
    have e : (allOf (s :: r)).length = s.data.toList.length + (allOf r).length := by simp [allOf]
    simp only [strs, List.map_cons, Rows.uptoBulkAll, Rows.uptoBulk, List.length_cons] at h ⊢
    omega
theorem strs_arg {H : Type} {enc : TypeId × Value → H} {W : World} {a : Option Addr} {len cap : Nat} {d : DataW H} {p : List MemPlace}
    (h0 : DataW.Trod enc Tryd.prog W 0 (fun _ => true) true 22 (.slice a len cap) d p) :
    ∃ xs : List ByteArray, xs.length = len ∧ Pts W (.slice a len cap) xs ∧ True ∧ xs.length + (allOf xs).length ≤ Rows.uptoBulk d := by
  obtain ⟨fuel, hf⟩ := h0
  rcases open_strings Tryd.underlying22 Tryd.underlying9 (by kernel_rfl) hf with ⟨hcs, hx⟩ | ⟨ad, len', cap', ss, hcs, _, hl, hm, hz, hx, hcell, hws⟩
  · simp [Value.cells] at hcs
    obtain ⟨rfl, rfl, rfl⟩ := hcs
    exact ⟨[], rfl, ⟨none, 0, rfl, Nat.le_refl _, fun h => absurd rfl h⟩, trivial, by simp [allOf]⟩
  · simp [Value.cells] at hcs
    obtain ⟨rfl, rfl, rfl⟩ := hcs
    simp only [Prod.mk.injEq] at hx
    simp only [if_true] at hz
    have hll : (ss.take len).length = len := by rw [List.length_take]; omega
    refine ⟨ss.take len, hll, ⟨some ad, cap, by rw [hll], by omega, fun hne => ?_⟩, trivial, ?_⟩
    · have hpos : 0 < ss.length := by
        rcases Nat.eq_zero_or_pos ss.length with h | h
        · exfalso; apply hne; apply List.eq_nil_of_length_eq_zero; omega
        · exact h
      obtain ⟨b, off, sp⟩ := ad
      obtain rfl : sp = none := by simpa [Addr.add] using World.cell?_spot (hcell 0 hpos)
      refine ⟨b, off, rfl, fun j x hx' => ?_⟩
      have hj : j < len := by have := (List.getElem?_eq_some_iff.1 hx').1; omega
      have hjs : j < ss.length := by omega
      have hc := hcell j hjs
      rw [Addr.add_lit] at hc
      rw [List.getElem?_take_of_lt hj] at hx'
      rw [hc]
      simp [List.getD, hx']
    · rw [hx.1]
      have := bulk_strs (H := H) (ss.take len)
      simp only [Rows.uptoBulk]; omega
theorem macParts_walk (a0 : ByteArray) (a1 : Option Addr) (l1 : List ByteArray) (cap1 : Nat) (W : World) (ht : Glob W) (z0 : a0.size ≤ 140737488351232) (s1 : Pts W (.slice a1 l1.length cap1) l1) (hup : a0.data.size + (l1.length + (allOf l1).length) ≤ 1048576) :
    Calls Tryd.prog 6 #[.string a0, .slice a1 l1.length cap1] W fun e w' => e = .returned (.bool true) ∧ Below W.heap.size W w' := by
  have := macParts_l a0.data.toList _ l1 W ht (by simpa using z0) s1 (by omega) (by omega)
  rw [ba_eta] at this
  exact this
end Go.Proofs.YtcjhimakbopipaaDoor
