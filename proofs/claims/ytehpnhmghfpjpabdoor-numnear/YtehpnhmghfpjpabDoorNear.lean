/- For every two numbers of at most a thousand (as the law takes them; any other two are let by), num's Div lies as near as half a millionth to the quotient, and the law's call returns true and changes nothing that was there. -/
import Derived.Test.YtehpnhmghfpjpabDoorFrame
import Derived.Test.YtehpnhmghfpjpabDoorTie
import Derived.Test.YtehpnhmghfpjpabDoorCards
import Derived.Test.YtehpnhmghfpjpabDoorLawBase
import Derived.Test.YtehpnhmghfpjpabDoorNearMath
namespace Go.Proofs.YtehpnhmghfpjpabDoor
open Go.ChangeShapes Go.WideShapes Go.ChangeAt Go.WideMaps Go.WideElems Go.RowKit

set_option maxHeartbeats 400000 in
theorem near_a (a0 a1 : Int) (h : a0 < -1000000000) (w : World) (htab : Lib.TabBelow Tryd.prog w.heap.size w "internal/strconv.uint64pow10" .u64 Lib.pow10Tab) :
    Calls Tryd.prog 3 #[.int .i64 a0, .int .i64 a1] w fun e w' => e = .returned (.bool true) ∧ Below w.heap.size w w' := by
  go_enter Tryd.func3, Tryd.ntmps3
  go_wp2_with (go_at_call 5; refine (shown_any _ htab).mono ?_; rintro e w1 ⟨rfl, hb⟩)
  go_ret
  exact ⟨rfl, hb⟩

set_option maxHeartbeats 400000 in
theorem near_b (a0 a1 : Int) (h : 1000000000 < a0) (w : World) (htab : Lib.TabBelow Tryd.prog w.heap.size w "internal/strconv.uint64pow10" .u64 Lib.pow10Tab) :
    Calls Tryd.prog 3 #[.int .i64 a0, .int .i64 a1] w fun e w' => e = .returned (.bool true) ∧ Below w.heap.size w w' := by
  have d1 : decide (a0 < -1000000000) = false := by simp; omega
  go_enter Tryd.func3, Tryd.ntmps3
  go_wp2_with (go_at_call 5; refine (shown_any _ htab).mono ?_; rintro e w1 ⟨rfl, hb⟩)
  go_ret
  exact ⟨rfl, hb⟩

set_option maxHeartbeats 400000 in
theorem near_c (a0 a1 : Int) (h1 : -1000000000 ≤ a0) (h2 : a0 ≤ 1000000000) (h : a1 < 1000) (w : World) (htab : Lib.TabBelow Tryd.prog w.heap.size w "internal/strconv.uint64pow10" .u64 Lib.pow10Tab) :
    Calls Tryd.prog 3 #[.int .i64 a0, .int .i64 a1] w fun e w' => e = .returned (.bool true) ∧ Below w.heap.size w w' := by
  have d1 : decide (a0 < -1000000000) = false := by simp; omega
  have d2 : decide (1000000000 < a0) = false := by simp; omega
  go_enter Tryd.func3, Tryd.ntmps3
  go_wp2_with (go_at_call 5; refine (shown_any _ htab).mono ?_; rintro e w1 ⟨rfl, hb⟩)
  go_ret
  exact ⟨rfl, hb⟩

set_option maxHeartbeats 400000 in
theorem near_d (a0 a1 : Int) (h1 : -1000000000 ≤ a0) (h2 : a0 ≤ 1000000000) (h : 1000000000 < a1) (w : World) (htab : Lib.TabBelow Tryd.prog w.heap.size w "internal/strconv.uint64pow10" .u64 Lib.pow10Tab) :
    Calls Tryd.prog 3 #[.int .i64 a0, .int .i64 a1] w fun e w' => e = .returned (.bool true) ∧ Below w.heap.size w w' := by
  have d1 : decide (a0 < -1000000000) = false := by simp; omega
  have d2 : decide (1000000000 < a0) = false := by simp; omega
  have d3 : decide (a1 < 1000) = false := by simp; omega
  go_enter Tryd.func3, Tryd.ntmps3
  go_wp2_with (go_at_call 5; refine (shown_any _ htab).mono ?_; rintro e w1 ⟨rfl, hb⟩)
  go_ret
  exact ⟨rfl, hb⟩

set_option maxHeartbeats 400000 in
theorem near_e (a0 a1 : Int) (h1 : -1000000000 ≤ a0) (h2 : a0 ≤ 1000000000) (h3 : 1000 ≤ a1) (h4 : a1 ≤ 1000000000) (w : World) (htab : Lib.TabBelow Tryd.prog w.heap.size w "internal/strconv.uint64pow10" .u64 Lib.pow10Tab) :
    Calls Tryd.prog 3 #[.int .i64 a0, .int .i64 a1] w fun e w' => e = .returned (.bool true) ∧ Below w.heap.size w w' := by
  have d1 : decide (a0 < -1000000000) = false := by simp; omega
  have d2 : decide (1000000000 < a0) = false := by simp; omega
  have d3 : decide (a1 < 1000) = false := by simp; omega
  have d4 : decide (1000000000 < a1) = false := by simp; omega
  obtain ⟨q1, q2, q3, q4⟩ := near_div h1 h2 h3 h4
  have HD : Hid (∀ w1, Below w.heap.size w w1 → Calls Tryd.prog 6 #[.int .i64 a0, .int .i64 a1] w1 fun e w' => e = .returned (.int .i64 (divI a0 a1)) ∧ Below w.heap.size w w') := fun w1 h => div_b a0 a1 h
  generalize divI a0 a1 = q at *
  obtain ⟨t, m, TB, MB, tb1, tb2, rt, rm, r1, r2, m1, m2, t1, t2, f1, f2⟩ := near_parts h1 h2 h3 h4 q1 q2 q3 q4
  have d5 : decide (1000000000000 < q) = false := by simp; omega
  have d6 : decide (q < -1000000000000) = false := by simp; omega
  clear q3 q4
  go_enter Tryd.func3, Tryd.ntmps3
  go_wp2_with (first | (go_at_call 5; refine (shown_any _ htab).mono ?_; rintro e w1 ⟨rfl, hb⟩) | (go_at_call 6; refine (HD.out _ (by assumption)).mono ?_; rintro e w2 ⟨rfl, hb2⟩))
  go_ret
  exact ⟨rfl, hb2⟩

theorem numNear_walk (a0 a1 : Int) (_w0 : (Lit.int .i64 a0).wf = true) (_w1 : (Lit.int .i64 a1).wf = true) (w : World) (htab : Lib.TabBelow Tryd.prog w.heap.size w "internal/strconv.uint64pow10" .u64 Lib.pow10Tab) :
    Calls Tryd.prog 3 #[.int .i64 a0, .int .i64 a1] w fun e w' => e = .returned (.bool true) ∧ Below w.heap.size w w' := by
  by_cases h1 : a0 < -1000000000
  · exact near_a a0 a1 h1 w htab
  · by_cases h2 : 1000000000 < a0
    · exact near_b a0 a1 h2 w htab
    · by_cases h3 : a1 < 1000
      · exact near_c a0 a1 (by omega) (by omega) h3 w htab
      · by_cases h4 : 1000000000 < a1
        · exact near_d a0 a1 (by omega) (by omega) h4 w htab
        · exact near_e a0 a1 (by omega) (by omega) (by omega) (by omega) w htab

set_option maxRecDepth 100000 in
theorem numNear_lifted (os : Os) (started : os.Started) (H : Type) (enc : TypeId × Value → H) :
    ReturnsInHanded {} Tryd.checked os 3 .any (fun w args => (Rows.numNearSpec.pre enc Tryd.prog Tryd.f3 [] false w args ∧ laidMetH Tryd.prog laid3 w) ∧ sizedMet enc Tryd.prog Tryd.f3 (OpenSpec.ofChange Rows.numNearSpec) false w args)
      (Rows.numNearSpec.post enc Tryd.prog Tryd.f3 false true false false) := by
  refine returnsInHanded_of_change_and (C := Tryd.checked) (X := fun w _ => laidMetH Tryd.prog laid3 w) (fun _ _ _ hh h => h.of_heap hh) own started (by kernel_rfl) Tryd.func3
    (ChangeSpec.witness_shaped (enc := enc) (C := Tryd.checked) (os := os) (X := fun w _ => laidMetH Tryd.prog laid3 w) false (World.doorLaid Tryd.prog 24 os) #[.int .i64 0, .int .i64 0] 8 rfl (World.shaped_of_RefB (by kernel_rfl) (by kernel_rfl)) (by kernel_rfl) (by kernel_rfl) (by kernel_rfl) (door_met os _)) ?_
  intro W base args ds gs before hval0 hW _ _ hL _
  have hval : ∀ (j : Nat) t v, Tryd.f3.params[j]? = some t → args[j]? = some v → Value.okWide Tryd.prog W .any base t v := hval0
  have hW' := hW
  obtain ⟨p, q, hA0, hV, rfl, hfz, hnd⟩ := hW
  have hA : DataW.TrodAll enc Tryd.prog W 0 (fun _ => true) true Tryd.f3.params.toList args.toList ds p := hA0
  rw [Tryd.params3] at hA hval
  obtain ⟨v0, vs0, d0, ds0, p0, q0, hargs, rfl, rfl, h0, r0⟩ := trodAll_cons hA
  obtain ⟨v1, vs1, d1, ds1, p1, q1, rfl, rfl, rfl, h1, r1⟩ := trodAll_cons r0
  obtain ⟨rfl, rfl, rfl⟩ := trodAll_nil r1
  obtain rfl : args = #[v0, v1] := by cases args; simp_all
  obtain ⟨rfl, rfl⟩ := trodVars_none hV
  obtain ⟨a0, rfl, rfl, rfl, w0⟩ := open_int Tryd.underlying2 (hval 0 2 v0 rfl rfl) h0
  obtain ⟨a1, rfl, rfl, rfl, w1⟩ := open_int Tryd.underlying2 (hval 1 2 v1 rfl rfl) h1
  clear hA0 hval0
  refine (numNear_walk a0 a1 w0 w1 W (tab_of_laid hL)).mono fun e W' ⟨he, bel⟩ => ?_
  subst he
  exact ⟨_, rfl, _, _, _, [], [], [], hW', trodAll_mk1 (shut_bool Tryd.underlying4 _), (trodAll_cons_mk (shut_int Tryd.underlying2 w0) (trodAll_cons_mk (shut_int Tryd.underlying2 w1) trodAll_mk0)), rfl, bel.frame _, fun h => by cases h⟩

theorem numNear_row : Rows.NumNearSaid :=
  OpenClaim.holds_of_wide 3 Tryd.f3 rfl rfl rfl rfl rfl rfl rfl ⟨rfl, rfl, rfl, rfl, rfl⟩ rfl rfl rfl rfl rfl (by kernel_rfl) Tryd.func3 (by kernel_rfl)
    (of_decide_eq_true (by kernel_rfl)) (by unfold Func.isWrapper; first | (rw [if_pos (by decide +kernel)]; kernel_rfl) | (rw [if_neg (by decide +kernel)]; exact ⟨rfl, rfl⟩))
    (fun os started H enc _ => numNear_lifted os started H enc)

/-- THE TIED CARD. -/
theorem numNear_holds : Rows.NumNearCardSaid :=
  Claim7.holds_tied_plain_at .later [] [.data, .data, .data] true Rows.numNearCard.stood.harness false
    numNear_row (fun _ h => by cases h) (by kernel_rfl) (fun _ h => by cases h) numNear_row_tie rfl ⟨rfl, rfl⟩ (by kernel_rfl) rfl
    (fun f fn hf hfn => by
      obtain rfl : f = 3 := Option.some.inj ((show Tryd.prog.funcNamed "usance/usancelaw01.NumNear" = some 3 by kernel_rfl).symm.trans hf) |>.symm
      obtain rfl : fn = Tryd.f3 := (Option.some.inj (Tryd.func3.symm.trans hfn)).symm
      exact ⟨by kernel_rfl, fun j t ht => by
        rw [Tryd.params3] at ht
        have hm : t ∈ [2, 2] := by simpa using Array.mem_of_getElem? ht
        have hall : ([2, 2].all fun u => !Tryd.prog.wantsStandIn u) = true := by kernel_rfl
        exact (show Tryd.prog.wantsStandIn t = false by simpa using List.all_eq_true.1 hall t hm)⟩)
    (by kernel_rfl)
#print axioms numNear_holds
end Go.Proofs.YtehpnhmghfpjpabDoor
