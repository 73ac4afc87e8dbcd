/- What the rows' conditions give the walks of layer 2: the table, the bytes of an argument, how long it is. -/
import Derived.Test.YtpflajehakiloaaDoorRows
import Derived.Test.YtpflajehakiloaaDoorWLaw
import Derived.ProofKit
import Derived.LaidMore
import Derived.OpenShut
import Derived.ShutString
import Derived.ChangeMaps5
import Derived.Stop.Joined
import Derived.Stop.LaidErr
import Derived.Lib.LaidTab
import Derived.Deep.DeepHandedRow
namespace Go.Proofs.YtpflajehakiloaaDoor
open Go Go.ChangeShapes Go.WideShapes Go.ChangeAt Go.WideMaps Go.WideElems Go.RowKit Go.ChangeMaps

theorem own : ownKnob Tryd.prog.godebug = none := by kernel_rfl
theorem laidOut : laidOutB Tryd.prog = true := by kernel_rfl
theorem cells8of : Tryd.prog.cellsOf 5 = 1 := by kernel_rfl

/-- The rows' list of tables. -/
def laid1 : List (String × DataW Unit) := [("usance/wire.crcSteps", Rows.laid_usance_wire_crcSteps)]
theorem laid_met (os : Os) (args : Array Value) : laidMetH Tryd.prog laid1 ((World.doorLaid Tryd.prog 24 os).forCall (fun _ _ => 0) ⟨#[], args, []⟩).memory :=
  laidMetH_of_parts3 (fuel := 8) (laidMet_of_run' 8 (by kernel_rfl) (by kernel_rfl)) (by kernel_rfl) (by kernel_rfl)
theorem crc_datum : (Rows.laid_usance_wire_crcSteps : DataW Unit) = Lib.tabData .u32 (crcTab.map fun n : Nat => (n : Int)) := by kernel_rfl
theorem tab_of_laid {W : World} (h : laidMetH Tryd.prog laid1 W) : Tab W := by
  rw [MakeChecks.laidMetH_plain _ _ _ (by kernel_rfl)] at h
  unfold laid1 at h
  rw [crc_datum] at h
  have ht := Lib.tabIs_of_head (g := 0) (t := 57) (e := 38) (n := 16) (by kernel_rfl) (by kernel_rfl) Tryd.underlying57 Tryd.underlying38 (by kernel_rfl) (by kernel_rfl) h
  intro k hk
  have hc := Lib.TabIs.cell ht (g := 0) (by kernel_rfl) k hk
  rw [hc]
  have hk' : k < crcTab.length := hk
  simp [crcAt, List.getD, hk']

theorem bulk_pos {H : Type} (d : DataW H) : 1 ≤ Rows.uptoBulk d := by
  cases d with
  | lit l => cases l <;> simp [Rows.uptoBulk]
  | _ => simp [Rows.uptoBulk]
theorem bulk_len {H : Type} : ∀ ds : List (DataW H), ds.length ≤ Rows.uptoBulkAll ds
  | [] => by simp
  | d :: r => by
    have h1 := bulk_pos d
    have h2 := bulk_len r
    simp only [Rows.uptoBulkAll, List.length_cons]; omega

/-- An argument of type []byte, opened, nil or not. -/
theorem bytes_arg {H : Type} {enc : TypeId × Value → H} {W : World} {a : Option Addr} {len cap : Nat} {d : DataW H} {p : List MemPlace}
    (h0 : DataW.Trod enc Tryd.prog W 0 (fun _ => true) true 22 (.slice a len cap) d p) :
    ∃ l : List UInt8, l.length = len ∧ Sl W (.slice a len cap) l ∧ (d = .nil ∧ len = 0 ∨ ∃ elems spare, d = .slice elems spare ∧ elems.length = len) := by
  obtain ⟨fuel, hf⟩ := h0
  rcases open_ints Tryd.underlying22 Tryd.underlying5 cells8of hf with ⟨hcs, hx⟩ | ⟨ad, len', cap', zs, hcs, _, hl, hm, hz, hx, hcell, hwz⟩
  · simp [Value.cells] at hcs
    obtain ⟨rfl, rfl, rfl⟩ := hcs
    simp only [Prod.mk.injEq] at hx
    exact ⟨[], rfl, Sl.nil W, .inl ⟨hx.1, rfl⟩⟩
  · simp [Value.cells] at hcs
    obtain ⟨rfl, rfl, rfl⟩ := hcs
    simp only [Prod.mk.injEq] at hx
    simp only [if_true] at hz
    have hll : ((zs.take len).map fun z => UInt8.ofNat z.toNat).length = len := by simp; omega
    refine ⟨(zs.take len).map fun z => UInt8.ofNat z.toNat, hll, ?_, .inr ⟨_, _, hx.1, by simp [lits]; omega⟩⟩
    have key : Sl W (.slice (some ad) ((zs.take len).map fun z => UInt8.ofNat z.toNat).length cap) ((zs.take len).map fun z => UInt8.ofNat z.toNat) := by
      refine ⟨_, _, rfl, by rw [hll]; exact hl, fun h => (by cases h), fun hne => ?_⟩
      have hpos : 0 < zs.length := by
        rcases Nat.eq_zero_or_pos zs.length with h | h
        · exfalso; apply hne; apply List.eq_nil_of_length_eq_zero; rw [hll]; omega
        · exact h
      obtain ⟨b, off, sp⟩ := ad
      obtain rfl : sp = none := by simpa [Addr.add] using World.cell?_spot (hcell 0 hpos)
      refine ⟨b, off, rfl, fun k hk => ?_⟩
      rw [hll] at hk
      have hkz : k < zs.length := by omega
      have hc := hcell k hkz
      rw [Addr.add_lit] at hc
      rw [hc]
      have hb : 0 ≤ zs[k] ∧ zs[k] ≤ 255 := bounds_u8 (hwz _ (List.getElem_mem hkz))
      have e1 : zs.getD k 0 = zs[k] := by simp [List.getD, hkz]
      have e2 : at8 ((zs.take len).map fun z => UInt8.ofNat z.toNat) k = zs[k] := by
        unfold at8
        have : ((zs.take len).map fun z => UInt8.ofNat z.toNat).getD k 0 = UInt8.ofNat zs[k].toNat := by simp [List.getD, hk, hkz]
        rw [this, u8_ofNat (by omega)]; omega
      rw [e1, e2]
    rwa [hll] at key

/-- How long it is, at most. -/
theorem bytes_sized {H : Type} {ts : List TypeId} {ds : List (DataW H)} (h : (DataW.weightsEach Tryd.prog ts ds).all (· ≤ reachBytes) = true) {j len : Nat} {d : DataW H} (ht : ts[j]? = some 22) (hd : ds[j]? = some d)
    (hx : d = .nil ∧ len = 0 ∨ ∃ elems spare, d = .slice elems spare ∧ elems.length = len) : len ≤ 140737488351232 := by
  rcases hx with ⟨_, rfl⟩ | ⟨elems, spare, rfl, hl⟩
  · omega
  · have hs := sized_slice h ht hd Tryd.underlying22
    have hb : Tryd.prog.bytesOf 5 = 1 := by kernel_rfl
    rw [hb] at hs
    have : reachBytes = 140737488351232 := rfl
    omega
theorem bytes_bulk {H : Type} {len : Nat} {d : DataW H} (hx : d = .nil ∧ len = 0 ∨ ∃ elems spare, d = .slice elems spare ∧ elems.length = len) : len ≤ Rows.uptoBulk d := by
  rcases hx with ⟨_, rfl⟩ | ⟨elems, spare, rfl, rfl⟩
  · omega
  · have := bulk_len elems
    simp only [Rows.uptoBulk]; omega
end Go.Proofs.YtpflajehakiloaaDoor
