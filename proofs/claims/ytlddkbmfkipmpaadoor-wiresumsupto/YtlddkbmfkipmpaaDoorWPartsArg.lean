/- An argument of type [][]byte, opened: its parts, and how many bytes they have. -/
import Derived.Test.YtlddkbmfkipmpaaDoorWFrame
import Derived.Deep.Matrix
namespace Go.Proofs.YtlddkbmfkipmpaaDoor
open Go Go.ChangeShapes Go.WideShapes Go.ChangeAt Go.WideMaps Go.WideElems Go.RowKit Go.ChangeMaps Go.Deep

theorem sl_ints {W : World} {a : Option Addr} {len cap : Nat} {zs : List Int} (hl : len ≤ cap) (hz : zs.length = cap) (hw : ∀ n ∈ zs, (Lit.int .u8 n).wf = true) (hnone : a = none → cap = 0)
    (hcell : ∀ a', a = some a' → ∀ c, c < cap → W.cell? (a'.add c) = some (.int .u8 (zs.getD c 0))) :
    ((zs.take len).map fun z => UInt8.ofNat z.toNat).length = len ∧ Sl W (.slice a len cap) ((zs.take len).map fun z => UInt8.ofNat z.toNat) := by
  have hll : ((zs.take len).map fun z => UInt8.ofNat z.toNat).length = len := by simp; omega
  refine ⟨hll, ?_⟩
  refine ⟨a, cap, by rw [hll], by rw [hll]; exact hl, hnone, fun hne => ?_⟩
  have hpos : 0 < cap := by
    rcases Nat.eq_zero_or_pos cap with h | h
    · exfalso; apply hne; apply List.eq_nil_of_length_eq_zero; rw [hll]; omega
    · exact h
  cases a with
  | none => have := hnone rfl; omega
  | some ad =>
    obtain ⟨b, off, sp⟩ := ad
    obtain rfl : sp = none := by simpa [Addr.add] using World.cell?_spot (hcell _ rfl 0 hpos)
    refine ⟨b, off, rfl, fun k hk => ?_⟩
    rw [hll] at hk
    have hkz : k < zs.length := by omega
    have hc := hcell _ rfl k (by omega)
    rw [Addr.add_lit] at hc
    rw [hc]
    have hb : 0 ≤ zs[k] ∧ zs[k] ≤ 255 := bounds_u8 (hw _ (List.getElem_mem hkz))
    have e1 : zs.getD k 0 = zs[k] := by simp [List.getD, hkz]
    have e2 : at8 ((zs.take len).map fun z => UInt8.ofNat z.toNat) k = zs[k] := by
      unfold at8
      have : ((zs.take len).map fun z => UInt8.ofNat z.toNat).getD k 0 = UInt8.ofNat zs[k].toNat := by simp [List.getD, hk, hkz]
      rw [this, u8_ofNat (by omega)]; omega
    rw [e1, e2]

theorem bulk_rows {H : Type} (D : Nat → DataW H) (ps : Nat → List UInt8) : ∀ rs : List Nat, (∀ r ∈ rs, (ps r).length + 1 ≤ Rows.uptoBulk (D r)) → rs.length + (rs.map ps).flatten.length ≤ Rows.uptoBulkAll (rs.map D)
  | [], _ => by simp
  | r :: rs, h => by
    have h1 := h r (by simp)
    have h2 := bulk_rows D ps rs (fun x hx => h x (by simp [hx]))
    simp only [List.map_cons, List.flatten_cons, List.length_append, List.length_cons, Rows.uptoBulkAll]
    omega

theorem parts_arg {H : Type} {enc : TypeId × Value → H} {W : World} {a : Option Addr} {len cap : Nat} {d : DataW H} {p : List MemPlace}
    (h0 : DataW.Trod enc Tryd.prog W 0 (fun _ => true) true 37 (.slice a len cap) d p) :
    ∃ ps : List (List UInt8), ps.length = len ∧ Parts W a ps ∧ True ∧ ps.length + ps.flatten.length ≤ Rows.uptoBulk d := by
  obtain ⟨fuel, hf⟩ := h0
  rcases open_int_rows Tryd.underlying37 Tryd.underlying22 Tryd.underlying5 (by kernel_rfl) cells8of hf with ⟨hcs, hx⟩ | ⟨ad, len', cap', A, L, C, Z, hcs, _, hl, hm, hx, hrow⟩
  · simp [Value.cells] at hcs
    obtain ⟨rfl, rfl, rfl⟩ := hcs
    exact ⟨[], rfl, fun k hk => absurd hk (Nat.not_lt_zero _), trivial, by simp⟩
  · simp [Value.cells] at hcs
    obtain ⟨rfl, rfl, rfl⟩ := hcs
    simp only [Prod.mk.injEq] at hx
    have hsl : ∀ r, r < cap → (((Z r).take (L r)).map fun z => UInt8.ofNat z.toNat).length = L r ∧ Sl W (.slice (A r) (L r) (C r)) (((Z r).take (L r)).map fun z => UInt8.ofNat z.toNat) := fun r hr => by
      obtain ⟨_, h1, _, h2, h3, h4, h5⟩ := hrow r hr
      exact sl_ints h1 h2 h3 h4 (fun a' ha c hc => (h5 a' ha).2 c hc)
    refine ⟨(List.range len).map fun r => ((Z r).take (L r)).map fun z => UInt8.ofNat z.toNat, by simp, ?_, trivial, ?_⟩
    · intro k hk
      have hk' : k < len := by simpa using hk
      have hg : ((List.range len).map fun r => ((Z r).take (L r)).map fun z => UInt8.ofNat z.toNat).getD k [] = ((Z k).take (L k)).map fun z => UInt8.ofNat z.toNat := by simp [List.getD, hk']
      rw [hg]
      have hc := (hrow k (by omega)).1
      obtain ⟨b, o, sp⟩ := ad
      have hsp : sp = none := by
        have h0 := (hrow 0 (by omega)).1
        simpa [Addr.add] using World.cell?_spot h0
      subst hsp
      rw [Addr.add_lit] at hc
      obtain ⟨e1, e2⟩ := hsl k (by omega)
      refine ⟨b, o, A k, C k, rfl, ?_, ?_⟩
      · rw [e1]; exact hc
      · rw [e1]; exact e2
    · rw [hx.1]
      have := bulk_rows (H := H) (fun r => intRow .u8 (A r) (L r) (Z r)) (fun r => ((Z r).take (L r)).map fun z => UInt8.ofNat z.toNat) (List.range len) (fun r hr => by
        have hr' : r < len := by simpa using hr
        rw [(hsl r (by omega)).1]
        obtain ⟨_, h1, _, h2, _, h4, _⟩ := hrow r (by omega)
        unfold intRow
        cases hA : A r with
        | none => have := h4 hA; simp [Rows.uptoBulk]; omega
        | some q =>
          have hb := bulk_len (H := H) (lits .u8 ((Z r).take (L r)))
          have hlen : (lits (H := H) .u8 ((Z r).take (L r))).length = L r := by simp [lits]; omega
          simp only [Rows.uptoBulk]; omega)
      simp only [Rows.uptoBulk, List.length_map, List.length_range] at this ⊢
      omega
end Go.Proofs.YtlddkbmfkipmpaaDoor
