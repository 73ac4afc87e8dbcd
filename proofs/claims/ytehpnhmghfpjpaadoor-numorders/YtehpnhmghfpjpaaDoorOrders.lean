/- For every three numbers (int64), with num's sums, differences, products and quotients by what is not below 0, and whole parts, what is greater stays so or as great, and the law's call returns true and changes nothing that was there. -/
import Derived.Test.YtehpnhmghfpjpaaDoorFrame
import Derived.Test.YtehpnhmghfpjpaaDoorTie
import Derived.Test.YtehpnhmghfpjpaaDoorCards
import Derived.Test.YtehpnhmghfpjpaaDoorLawBase
namespace Go.Proofs.YtehpnhmghfpjpaaDoor
open Go.ChangeShapes Go.WideShapes Go.ChangeAt Go.WideMaps Go.WideElems Go.RowKit

theorem orders_facts {a b : Int} (c : Int) (h : a ≤ b) : clampI a ≤ clampI b ∧ clampI (clampI a + clampI c) ≤ clampI (clampI b + clampI c) ∧ clampI (clampI a - clampI c) ≤ clampI (clampI b - clampI c) ∧
    (clampI a).tdiv 1000000 ≤ (clampI b).tdiv 1000000 := by
  have h1 := clampI_mono h
  exact ⟨h1, clampI_mono (by omega), clampI_mono (by omega), tdiv_mono h1⟩

set_option maxHeartbeats 1600000 in
theorem orders_sn (a0 a1 a2 : Int) (hs : a1 < a0) (hc : clampI a2 < 0) (w : World) (htab : Lib.TabBelow Tryd.prog w.heap.size w "internal/strconv.uint64pow10" .u64 Lib.pow10Tab) :
    Calls Tryd.prog 8 #[.int .i64 a0, .int .i64 a1, .int .i64 a2] w fun e w' => e = .returned (.bool true) ∧ Below w.heap.size w w' := by
  obtain ⟨f1, f2, f3, f4⟩ := orders_facts a2 (show a1 ≤ a0 by omega)
  have l0 := clampI_le a2
  have l1 := clampI_ge a2
  have z0 := clampI_idem a2
  have f5 : mulI a1 (-clampI a2) ≤ mulI a0 (-clampI a2) := mulI_mono (by omega) (by omega)
  have f6 : divI a1 (-clampI a2) ≤ divI a0 (-clampI a2) := divI_mono (by omega) (by omega)
  have d0 : ((-clampI a2) == 0) = false := by simp; omega
  have d1 : (clampI a2 == 0) = false := by simp; omega
  go_enter Tryd.func8, Tryd.ntmps8
  go_wp2_with (first | (go_at_call 9; refine (shown_any _ htab).mono ?_; rintro e w1 ⟨rfl, hb⟩) | (go_at_call 10; refine (clamp_any _ _).mono ?_; rintro e w2 ⟨rfl, rfl⟩) | (go_at_call 16; refine (neg_any _ _).mono ?_; rintro e w2 ⟨rfl, rfl⟩) | (go_at_call 12; refine (add_any _ _ _).mono ?_; rintro e w2 ⟨rfl, rfl⟩) | (go_at_call 14; refine (sub_any _ _ _).mono ?_; rintro e w2 ⟨rfl, rfl⟩) | (go_at_call 20; refine (mul_b (B := w.heap.size) (w0 := w) _ _ (by assumption)).mono ?_; rintro e w2 ⟨rfl, hb2⟩) | (go_at_call 18; refine (whole_any _ _).mono ?_; rintro e w2 ⟨rfl, rfl⟩) | (go_at_call 22; refine (div_b (B := w.heap.size) (w0 := w) _ _ (by assumption)).mono ?_; rintro e w2 ⟨rfl, hb2⟩))
  go_ret
  exact ⟨rfl, by assumption⟩

set_option maxHeartbeats 1600000 in
theorem orders_sz (a0 a1 a2 : Int) (hs : a1 < a0) (hc : clampI a2 = 0) (w : World) (htab : Lib.TabBelow Tryd.prog w.heap.size w "internal/strconv.uint64pow10" .u64 Lib.pow10Tab) :
    Calls Tryd.prog 8 #[.int .i64 a0, .int .i64 a1, .int .i64 a2] w fun e w' => e = .returned (.bool true) ∧ Below w.heap.size w w' := by
  obtain ⟨f1, f2, f3, f4⟩ := orders_facts a2 (show a1 ≤ a0 by omega)
  have l0 := clampI_le a2
  have l1 := clampI_ge a2
  have z0 := clampI_idem a2
  have f5 : mulI a1 0 ≤ mulI a0 0 := mulI_mono (by omega) (by omega)
  have i0 := clampI_idem a0
  have i1 := clampI_idem a1
  go_enter Tryd.func8, Tryd.ntmps8
  go_wp2_with (first | (go_at_call 9; refine (shown_any _ htab).mono ?_; rintro e w1 ⟨rfl, hb⟩) | (go_at_call 10; refine (clamp_any _ _).mono ?_; rintro e w2 ⟨rfl, rfl⟩) | (go_at_call 16; refine (neg_any _ _).mono ?_; rintro e w2 ⟨rfl, rfl⟩) | (go_at_call 12; refine (add_any _ _ _).mono ?_; rintro e w2 ⟨rfl, rfl⟩) | (go_at_call 14; refine (sub_any _ _ _).mono ?_; rintro e w2 ⟨rfl, rfl⟩) | (go_at_call 20; refine (mul_b (B := w.heap.size) (w0 := w) _ _ (by assumption)).mono ?_; rintro e w2 ⟨rfl, hb2⟩) | (go_at_call 18; refine (whole_any _ _).mono ?_; rintro e w2 ⟨rfl, rfl⟩) | (go_at_call 22; refine (div_b (B := w.heap.size) (w0 := w) _ _ (by assumption)).mono ?_; rintro e w2 ⟨rfl, hb2⟩))
  go_ret
  exact ⟨rfl, by assumption⟩

set_option maxHeartbeats 1600000 in
theorem orders_sp (a0 a1 a2 : Int) (hs : a1 < a0) (hc : 0 < clampI a2) (w : World) (htab : Lib.TabBelow Tryd.prog w.heap.size w "internal/strconv.uint64pow10" .u64 Lib.pow10Tab) :
    Calls Tryd.prog 8 #[.int .i64 a0, .int .i64 a1, .int .i64 a2] w fun e w' => e = .returned (.bool true) ∧ Below w.heap.size w w' := by
  obtain ⟨f1, f2, f3, f4⟩ := orders_facts a2 (show a1 ≤ a0 by omega)
  have l0 := clampI_le a2
  have l1 := clampI_ge a2
  have z0 := clampI_idem a2
  have f5 : mulI a1 (clampI a2) ≤ mulI a0 (clampI a2) := mulI_mono (by omega) (by omega)
  have f6 : divI a1 (clampI a2) ≤ divI a0 (clampI a2) := divI_mono (by omega) (by omega)
  have d0 : (clampI a2 == 0) = false := by simp; omega
  go_enter Tryd.func8, Tryd.ntmps8
  go_wp2_with (first | (go_at_call 9; refine (shown_any _ htab).mono ?_; rintro e w1 ⟨rfl, hb⟩) | (go_at_call 10; refine (clamp_any _ _).mono ?_; rintro e w2 ⟨rfl, rfl⟩) | (go_at_call 16; refine (neg_any _ _).mono ?_; rintro e w2 ⟨rfl, rfl⟩) | (go_at_call 12; refine (add_any _ _ _).mono ?_; rintro e w2 ⟨rfl, rfl⟩) | (go_at_call 14; refine (sub_any _ _ _).mono ?_; rintro e w2 ⟨rfl, rfl⟩) | (go_at_call 20; refine (mul_b (B := w.heap.size) (w0 := w) _ _ (by assumption)).mono ?_; rintro e w2 ⟨rfl, hb2⟩) | (go_at_call 18; refine (whole_any _ _).mono ?_; rintro e w2 ⟨rfl, rfl⟩) | (go_at_call 22; refine (div_b (B := w.heap.size) (w0 := w) _ _ (by assumption)).mono ?_; rintro e w2 ⟨rfl, hb2⟩))
  go_ret
  exact ⟨rfl, by assumption⟩

set_option maxHeartbeats 1600000 in
theorem orders_un (a0 a1 a2 : Int) (hs : ¬ a1 < a0) (hc : clampI a2 < 0) (w : World) (htab : Lib.TabBelow Tryd.prog w.heap.size w "internal/strconv.uint64pow10" .u64 Lib.pow10Tab) :
    Calls Tryd.prog 8 #[.int .i64 a0, .int .i64 a1, .int .i64 a2] w fun e w' => e = .returned (.bool true) ∧ Below w.heap.size w w' := by
  obtain ⟨f1, f2, f3, f4⟩ := orders_facts a2 (show a0 ≤ a1 by omega)
  have l0 := clampI_le a2
  have l1 := clampI_ge a2
  have z0 := clampI_idem a2
  have f5 : mulI a0 (-clampI a2) ≤ mulI a1 (-clampI a2) := mulI_mono (by omega) (by omega)
  have f6 : divI a0 (-clampI a2) ≤ divI a1 (-clampI a2) := divI_mono (by omega) (by omega)
  have d0 : ((-clampI a2) == 0) = false := by simp; omega
  have d1 : (clampI a2 == 0) = false := by simp; omega
  go_enter Tryd.func8, Tryd.ntmps8
  go_wp2_with (first | (go_at_call 9; refine (shown_any _ htab).mono ?_; rintro e w1 ⟨rfl, hb⟩) | (go_at_call 10; refine (clamp_any _ _).mono ?_; rintro e w2 ⟨rfl, rfl⟩) | (go_at_call 16; refine (neg_any _ _).mono ?_; rintro e w2 ⟨rfl, rfl⟩) | (go_at_call 12; refine (add_any _ _ _).mono ?_; rintro e w2 ⟨rfl, rfl⟩) | (go_at_call 14; refine (sub_any _ _ _).mono ?_; rintro e w2 ⟨rfl, rfl⟩) | (go_at_call 20; refine (mul_b (B := w.heap.size) (w0 := w) _ _ (by assumption)).mono ?_; rintro e w2 ⟨rfl, hb2⟩) | (go_at_call 18; refine (whole_any _ _).mono ?_; rintro e w2 ⟨rfl, rfl⟩) | (go_at_call 22; refine (div_b (B := w.heap.size) (w0 := w) _ _ (by assumption)).mono ?_; rintro e w2 ⟨rfl, hb2⟩))
  go_ret
  exact ⟨rfl, by assumption⟩

set_option maxHeartbeats 1600000 in
theorem orders_uz (a0 a1 a2 : Int) (hs : ¬ a1 < a0) (hc : clampI a2 = 0) (w : World) (htab : Lib.TabBelow Tryd.prog w.heap.size w "internal/strconv.uint64pow10" .u64 Lib.pow10Tab) :
    Calls Tryd.prog 8 #[.int .i64 a0, .int .i64 a1, .int .i64 a2] w fun e w' => e = .returned (.bool true) ∧ Below w.heap.size w w' := by
  obtain ⟨f1, f2, f3, f4⟩ := orders_facts a2 (show a0 ≤ a1 by omega)
  have l0 := clampI_le a2
  have l1 := clampI_ge a2
  have z0 := clampI_idem a2
  have f5 : mulI a0 0 ≤ mulI a1 0 := mulI_mono (by omega) (by omega)
  have i0 := clampI_idem a0
  have i1 := clampI_idem a1
  go_enter Tryd.func8, Tryd.ntmps8
  go_wp2_with (first | (go_at_call 9; refine (shown_any _ htab).mono ?_; rintro e w1 ⟨rfl, hb⟩) | (go_at_call 10; refine (clamp_any _ _).mono ?_; rintro e w2 ⟨rfl, rfl⟩) | (go_at_call 16; refine (neg_any _ _).mono ?_; rintro e w2 ⟨rfl, rfl⟩) | (go_at_call 12; refine (add_any _ _ _).mono ?_; rintro e w2 ⟨rfl, rfl⟩) | (go_at_call 14; refine (sub_any _ _ _).mono ?_; rintro e w2 ⟨rfl, rfl⟩) | (go_at_call 20; refine (mul_b (B := w.heap.size) (w0 := w) _ _ (by assumption)).mono ?_; rintro e w2 ⟨rfl, hb2⟩) | (go_at_call 18; refine (whole_any _ _).mono ?_; rintro e w2 ⟨rfl, rfl⟩) | (go_at_call 22; refine (div_b (B := w.heap.size) (w0 := w) _ _ (by assumption)).mono ?_; rintro e w2 ⟨rfl, hb2⟩))
  go_ret
  exact ⟨rfl, by assumption⟩

set_option maxHeartbeats 1600000 in
theorem orders_up (a0 a1 a2 : Int) (hs : ¬ a1 < a0) (hc : 0 < clampI a2) (w : World) (htab : Lib.TabBelow Tryd.prog w.heap.size w "internal/strconv.uint64pow10" .u64 Lib.pow10Tab) :
    Calls Tryd.prog 8 #[.int .i64 a0, .int .i64 a1, .int .i64 a2] w fun e w' => e = .returned (.bool true) ∧ Below w.heap.size w w' := by
  obtain ⟨f1, f2, f3, f4⟩ := orders_facts a2 (show a0 ≤ a1 by omega)
  have l0 := clampI_le a2
  have l1 := clampI_ge a2
  have z0 := clampI_idem a2
  have f5 : mulI a0 (clampI a2) ≤ mulI a1 (clampI a2) := mulI_mono (by omega) (by omega)
  have f6 : divI a0 (clampI a2) ≤ divI a1 (clampI a2) := divI_mono (by omega) (by omega)
  have d0 : (clampI a2 == 0) = false := by simp; omega
  go_enter Tryd.func8, Tryd.ntmps8
  go_wp2_with (first | (go_at_call 9; refine (shown_any _ htab).mono ?_; rintro e w1 ⟨rfl, hb⟩) | (go_at_call 10; refine (clamp_any _ _).mono ?_; rintro e w2 ⟨rfl, rfl⟩) | (go_at_call 16; refine (neg_any _ _).mono ?_; rintro e w2 ⟨rfl, rfl⟩) | (go_at_call 12; refine (add_any _ _ _).mono ?_; rintro e w2 ⟨rfl, rfl⟩) | (go_at_call 14; refine (sub_any _ _ _).mono ?_; rintro e w2 ⟨rfl, rfl⟩) | (go_at_call 20; refine (mul_b (B := w.heap.size) (w0 := w) _ _ (by assumption)).mono ?_; rintro e w2 ⟨rfl, hb2⟩) | (go_at_call 18; refine (whole_any _ _).mono ?_; rintro e w2 ⟨rfl, rfl⟩) | (go_at_call 22; refine (div_b (B := w.heap.size) (w0 := w) _ _ (by assumption)).mono ?_; rintro e w2 ⟨rfl, hb2⟩))
  go_ret
  exact ⟨rfl, by assumption⟩

theorem numOrders_walk (a0 a1 a2 : Int) (_w0 : (Lit.int .i64 a0).wf = true) (_w1 : (Lit.int .i64 a1).wf = true) (_w2 : (Lit.int .i64 a2).wf = true) (w : World) (htab : Lib.TabBelow Tryd.prog w.heap.size w "internal/strconv.uint64pow10" .u64 Lib.pow10Tab) :
    Calls Tryd.prog 8 #[.int .i64 a0, .int .i64 a1, .int .i64 a2] w fun e w' => e = .returned (.bool true) ∧ Below w.heap.size w w' := by
  by_cases hs : a1 < a0 <;> rcases (show clampI a2 < 0 ∨ clampI a2 = 0 ∨ 0 < clampI a2 by omega) with hc | hc | hc
  · exact orders_sn a0 a1 a2 hs hc w htab
  · exact orders_sz a0 a1 a2 hs hc w htab
  · exact orders_sp a0 a1 a2 hs hc w htab
  · exact orders_un a0 a1 a2 hs hc w htab
  · exact orders_uz a0 a1 a2 hs hc w htab
  · exact orders_up a0 a1 a2 hs hc w htab

set_option maxRecDepth 100000 in
theorem numOrders_lifted (os : Os) (started : os.Started) (H : Type) (enc : TypeId × Value → H) :
    ReturnsInHanded {} Tryd.checked os 8 .any (fun w args => (Rows.numOrdersSpec.pre enc Tryd.prog Tryd.f8 [] false w args ∧ laidMetH Tryd.prog laid3 w) ∧ sizedMet enc Tryd.prog Tryd.f8 (OpenSpec.ofChange Rows.numOrdersSpec) false w args)
      (Rows.numOrdersSpec.post enc Tryd.prog Tryd.f8 false true false false) := by
  refine returnsInHanded_of_change_and (C := Tryd.checked) (X := fun w _ => laidMetH Tryd.prog laid3 w) (fun _ _ _ hh h => h.of_heap hh) own started (by kernel_rfl) Tryd.func8
    (ChangeSpec.witness_shaped (enc := enc) (C := Tryd.checked) (os := os) (X := fun w _ => laidMetH Tryd.prog laid3 w) false (World.doorLaid Tryd.prog 24 os) #[.int .i64 0, .int .i64 0, .int .i64 0] 8 rfl (World.shaped_of_RefB (by kernel_rfl) (by kernel_rfl)) (by kernel_rfl) (by kernel_rfl) (by kernel_rfl) (door_met os _)) ?_
  intro W base args ds gs before hval0 hW _ _ hL _
  have hval : ∀ (j : Nat) t v, Tryd.f8.params[j]? = some t → args[j]? = some v → Value.okWide Tryd.prog W .any base t v := hval0
  have hW' := hW
  obtain ⟨p, q, hA0, hV, rfl, hfz, hnd⟩ := hW
  have hA : DataW.TrodAll enc Tryd.prog W 0 (fun _ => true) true Tryd.f8.params.toList args.toList ds p := hA0
  rw [Tryd.params8] at hA hval
  obtain ⟨v0, vs0, d0, ds0, p0, q0, hargs, rfl, rfl, h0, r0⟩ := trodAll_cons hA
  obtain ⟨v1, vs1, d1, ds1, p1, q1, rfl, rfl, rfl, h1, r1⟩ := trodAll_cons r0
  obtain ⟨v2, vs2, d2, ds2, p2, q2, rfl, rfl, rfl, h2, r2⟩ := trodAll_cons r1
  obtain ⟨rfl, rfl, rfl⟩ := trodAll_nil r2
  obtain rfl : args = #[v0, v1, v2] := by cases args; simp_all
  obtain ⟨rfl, rfl⟩ := trodVars_none hV
  obtain ⟨a0, rfl, rfl, rfl, w0⟩ := open_int Tryd.underlying2 (hval 0 2 v0 rfl rfl) h0
  obtain ⟨a1, rfl, rfl, rfl, w1⟩ := open_int Tryd.underlying2 (hval 1 2 v1 rfl rfl) h1
  obtain ⟨a2, rfl, rfl, rfl, w2⟩ := open_int Tryd.underlying2 (hval 2 2 v2 rfl rfl) h2
  clear hA0 hval0
  refine (numOrders_walk a0 a1 a2 w0 w1 w2 W (tab_of_laid hL)).mono fun e W' ⟨he, bel⟩ => ?_
  subst he
  exact ⟨_, rfl, _, _, _, [], [], [], hW', trodAll_mk1 (shut_bool Tryd.underlying4 _), (trodAll_cons_mk (shut_int Tryd.underlying2 w0) (trodAll_cons_mk (shut_int Tryd.underlying2 w1) (trodAll_cons_mk (shut_int Tryd.underlying2 w2) trodAll_mk0))), rfl, bel.frame _, fun h => by cases h⟩

theorem numOrders_row : Rows.NumOrdersSaid :=
  OpenClaim.holds_of_wide 8 Tryd.f8 rfl rfl rfl rfl rfl rfl rfl ⟨rfl, rfl, rfl, rfl, rfl⟩ rfl rfl rfl rfl rfl (by kernel_rfl) Tryd.func8 (by kernel_rfl)
    (of_decide_eq_true (by kernel_rfl)) (by unfold Func.isWrapper; first | (rw [if_pos (by decide +kernel)]; kernel_rfl) | (rw [if_neg (by decide +kernel)]; exact ⟨rfl, rfl⟩))
    (fun os started H enc _ => numOrders_lifted os started H enc)

/-- THE TIED CARD. -/
theorem numOrders_holds : Rows.NumOrdersCardSaid :=
  Claim7.holds_tied_plain_at .later [] [.data, .data, .data] true Rows.numOrdersCard.stood.harness false
    numOrders_row (fun _ h => by cases h) (by kernel_rfl) (fun _ h => by cases h) numOrders_row_tie rfl ⟨rfl, rfl⟩ (by kernel_rfl) rfl
    (fun f fn hf hfn => by
      obtain rfl : f = 8 := Option.some.inj ((show Tryd.prog.funcNamed "usance/usancelaw01.NumOrders" = some 8 by kernel_rfl).symm.trans hf) |>.symm
      obtain rfl : fn = Tryd.f8 := (Option.some.inj (Tryd.func8.symm.trans hfn)).symm
      exact ⟨by kernel_rfl, fun j t ht => by
        rw [Tryd.params8] at ht
        have hm : t ∈ [2, 2, 2] := by simpa using Array.mem_of_getElem? ht
        have hall : ([2, 2, 2].all fun u => !Tryd.prog.wantsStandIn u) = true := by kernel_rfl
        exact (show Tryd.prog.wantsStandIn t = false by simpa using List.all_eq_true.1 hall t hm)⟩)
    (by kernel_rfl)
#print axioms numOrders_holds
end Go.Proofs.YtehpnhmghfpjpaaDoor
