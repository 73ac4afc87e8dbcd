/- the text SFrame -/
import Derived.Test.YtgpkcjpanpbhdaaGreatDoorRows
import Derived.Test.YtgpkcjpanpbhdaaGreatDoorSGj
import Derived.Test.YtgpkcjpanpbhdaaGreatDoorSGa
import Derived.ProofKit
import Derived.LaidMore
import Derived.OpenShut
import Derived.ShutString
import Derived.ChangeMaps5
import Derived.Stop.Joined
import Derived.Stop.LaidErr
import Derived.Lib.LaidTab
import Derived.Lib.AppendIntMem
import Derived.Deep.DeepHandedRow
set_option maxRecDepth 100000
set_option maxHeartbeats 4000000
namespace Go.Proofs.YtgpkcjpanpbhdaaGreatDoor
open Go Go.ChangeShapes Go.WideShapes Go.ChangeAt Go.WideMaps Go.WideElems Go.RowKit Go.ChangeMaps
theorem own_knob : ownKnob Tryz.prog.godebug = none := by kernel_rfl
theorem laidOut : laidOutB Tryz.prog = true := by kernel_rfl
def laid4 : List (String × DataW Unit) := [("math/bits.deBruijn32tab", Rows.laid_math_bits_deBruijn32tab), ("math/bits.deBruijn64tab", Rows.laid_math_bits_deBruijn64tab), ("internal/strconv.uint64pow10", Rows.laid_internal_strconv_uint64pow10), ("usance/date.monthDays", Rows.laid_usance_date_monthDays)]
theorem laid_met (os : Os) (args : Array Value) : laidMetH Tryz.prog laid4 ((World.doorLaid Tryz.prog 24 os).forCall (fun _ _ => 0) ⟨#[], args, []⟩).memory :=
 laidMetH_of_parts3 (fuel := 8) (laidMet_of_run' 8 (by kernel_rfl) (by kernel_rfl)) (by kernel_rfl) (by kernel_rfl)
theorem pow_datum : (Rows.laid_internal_strconv_uint64pow10 : DataW Unit) = Lib.tabData .u64 Lib.pow10Tab := by kernel_rfl
def monthTab : List Int := [31, 28, 31, 30, 31, 30, 31, 31, 30, 31, 30, 31]
theorem month_datum : (Rows.laid_usance_date_monthDays : DataW Unit) = Lib.tabData .i64 monthTab := by kernel_rfl
theorem tb_of_laid {W : World} (h : laidMetH Tryz.prog laid4 W) : Tb W.heap.size W := by
 rw [MakeChecks.laidMetH_plain _ _ _ (by kernel_rfl)] at h
 have h3 := h.tail.tail
 have h4 := h.tail.tail.tail
 rw [pow_datum] at h3
 rw [month_datum] at h4
 refine ⟨W, Lib.tabBelow_of_tabIs (Lib.tabIs_of_head (g := 2) (t := 201) (e := 178) (n := 20) (by kernel_rfl) (by kernel_rfl) Tryz.underlying201 Tryz.underlying178 (by kernel_rfl) (by kernel_rfl) h3), ?_, Nat.le_refl _, Below.refl _ _⟩
 have ht := Lib.tabIs_of_head (g := 0) (t := 146) (e := 3) (n := 12) (by kernel_rfl) (by kernel_rfl) Tryz.underlying146 Tryz.underlying3 (by kernel_rfl) (by kernel_rfl) h4
 intro k hk
 have hc := Lib.TabIs.cell ht (g := 0) (by kernel_rfl) k hk
 rw [hc]
 match k, hk with
 | 0, _ | 1, _ | 2, _ | 3, _ | 4, _ | 5, _ | 6, _ | 7, _ | 8, _ | 9, _ | 10, _ | 11, _ => rfl
theorem tree_arg {H : Type} {enc : TypeId × Value → H} {W : World} {base : Nat} {v : Value} {d : DataW H} {p : List MemPlace} (hv : Value.okWide Tryz.prog W .any base 24 v)
  (h0 : DataW.Trod enc Tryz.prog W 0 (fun _ => true) true 24 v d p) : ∃ t, Nd W v t ∧ t.Ok := by
 obtain ⟨cs, hcv, _⟩ := okWide_struct Tryz.underlying24 hv
 subst hcv
 exact node_arg h0
end Go.Proofs.YtgpkcjpanpbhdaaGreatDoor
