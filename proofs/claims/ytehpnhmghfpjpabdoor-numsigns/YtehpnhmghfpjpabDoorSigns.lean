/- For every number (int64), num's Show writes one below 0 as its size with a sign ahead, Parse reads it so, and the law's call returns true and changes nothing that was there. -/
import Derived.Test.YtehpnhmghfpjpabDoorFrame
import Derived.Test.YtehpnhmghfpjpabDoorTie
import Derived.Test.YtehpnhmghfpjpabDoorCards
import Derived.Test.YtehpnhmghfpjpabDoorTextBase
namespace Go.Proofs.YtehpnhmghfpjpabDoor
open Go.ChangeShapes Go.WideShapes Go.ChangeAt Go.WideMaps Go.WideElems Go.RowKit

/-- Text behind a sign. -/
theorem sign_ahead (l : List UInt8) : (⟨#[45]⟩ : ByteArray) ++ ⟨l.toArray⟩ = ⟨(45 :: l).toArray⟩ := by
  apply ByteArray.ext
  apply Array.ext'
  simp

theorem showL_pos {x : Nat} (h : x ≤ 1000000000000000) : showL (x : Int) = showPos (x : Int) := by
  unfold showL; rw [clampI_in (by omega) (by omega), if_neg (by omega)]
theorem showL_neg {x : Nat} (h0 : 0 < x) (h : x ≤ 1000000000000000) : showL (-(x : Int)) = 45 :: showPos (x : Int) := by
  unfold showL; rw [clampI_in (by omega) (by omega), if_pos (by omega), Int.neg_neg]

theorem showL_0 : showL 0 = [48] := by
  have := showL_pos (x := 0) (by omega)
  simp only [Int.natCast_zero] at this
  rw [this]
  unfold showPos
  rw [itoa_nonneg (by omega), show ((0 : Int) / 1000000).toNat = 0 by rfl, dec_small (by omega)]
  simp

def SignsFacts (x : Int) (S T : ByteArray) (R : Int × Bool) (w : World) : Prop :=
  (∀ w1, Below w.heap.size w w1 → Calls Tryd.prog 9 #[.int .i64 x] w1 fun e w' => e = .returned (.string S) ∧ Below w.heap.size w w') ∧
  (∀ w1, Below w.heap.size w w1 → Calls Tryd.prog 10 #[.string T] w1 fun e w' => e = .returned (.tuple #[.int .i64 R.1, .bool R.2]) ∧ Below w.heap.size w w') ∧
  (∀ w1 : World, (Op.stringOp .add ⟨#[45]⟩ S).run Tryd.prog w1 = .ok (.string T) w1)

theorem signs_facts {x : Nat} (h : x ≤ 1000000000000000) (w : World) (htab : Lib.TabBelow Tryd.prog w.heap.size w "internal/strconv.uint64pow10" .u64 Lib.pow10Tab) :
    SignsFacts (x : Int) ⟨(showPos (x : Int)).toArray⟩ ⟨(45 :: showPos (x : Int)).toArray⟩ (if x = 0 then (0, false) else (-(x : Int), true)) w := by
  have hl := showL_len (x : Int)
  rw [showL_pos h] at hl
  refine ⟨fun w1 hb => ?_, fun w1 hb => ?_, fun w1 => ?_⟩
  · have := show_b (x : Int) htab hb
    rw [showL_pos h] at this; exact this
  · exact parse_b ⟨(45 :: showPos (x : Int)).toArray⟩ _ (parse_neg h) (by rw [size_arr]; simp; unfold maxLen; omega) hb
  · have z1 : (⟨#[45]⟩ : ByteArray).size = 1 := rfl
    have z2 := size_arr (showPos (x : Int))
    have hr := run_string_add_sum (P := Tryd.prog) w1 ⟨#[45]⟩ ⟨(showPos (x : Int)).toArray⟩ (by omega)
    rw [sign_ahead] at hr
    exact hr

set_option maxHeartbeats 800000 in
theorem signs_p (a0 : Int) (x : Nat) (hx0 : 0 < x) (hx : x ≤ 1000000000000000) (hc : clampI a0 = (x : Int)) (w : World) (htab : Lib.TabBelow Tryd.prog w.heap.size w "internal/strconv.uint64pow10" .u64 Lib.pow10Tab) :
    Calls Tryd.prog 4 #[.int .i64 a0] w fun e w' => e = .returned (.bool true) ∧ Below w.heap.size w w' := by
  obtain ⟨f1, f2, f3⟩ := signs_facts hx w htab
  rw [if_neg (by omega)] at f2
  have f4 : ∀ w1, Below w.heap.size w w1 → Calls Tryd.prog 9 #[.int .i64 (-(x : Int))] w1 fun e w' => e = .returned (.string ⟨(45 :: showPos (x : Int)).toArray⟩) ∧ Below w.heap.size w w' := fun w1 hb => by
    have := show_b (-(x : Int)) htab hb
    rw [showL_neg hx0 hx] at this; exact this
  generalize (⟨(showPos (x : Int)).toArray⟩ : ByteArray) = S at *
  generalize (⟨(45 :: showPos (x : Int)).toArray⟩ : ByteArray) = T at *
  have HS : Hid (∀ w1, Below w.heap.size w w1 → Calls Tryd.prog 9 #[.int .i64 (x : Int)] w1 fun e w' => e = .returned (.string S) ∧ Below w.heap.size w w') := f1
  have HP : Hid (∀ w1, Below w.heap.size w w1 → Calls Tryd.prog 10 #[.string T] w1 fun e w' => e = .returned (.tuple #[.int .i64 (-(x : Int)), .bool true]) ∧ Below w.heap.size w w') := f2
  have HT : Hid (∀ w1, Below w.heap.size w w1 → Calls Tryd.prog 9 #[.int .i64 (-(x : Int))] w1 fun e w' => e = .returned (.string T) ∧ Below w.heap.size w w') := f4
  have d0 : ((x : Int) == 0) = false := by simp; omega
  have rn : wrap64 (-(x : Int)) = -(x : Int) := IntWalk.wrap64_in _ ⟨by omega, by omega⟩
  have z0 := clampI_idem a0
  have xb : (x : Int) ≤ 1000000000000000 := by omega
  clear f1 f2 f4
  have d1 : ¬ ((x : Int) ≤ 0) := by omega
  have HH : Hid (∀ w1, Below w.heap.size w w1 → Calls Tryd.prog 5 #[] w1 fun e w' => e = .returned (.bool true) ∧ Below w.heap.size w w') := fun w1 h => shown_b htab h
  have hb0 : Below w.heap.size w w := Below.refl _ _
  clear htab
  go_enter Tryd.func4, Tryd.ntmps4
  go_wp2_with fail
  refine (HH.out _ hb0).mono ?_
  rintro e w1 ⟨rfl, hb1⟩
  go_wp2_with (first | (go_at_call 7; refine (clamp_any _ _).mono ?_; rintro e w1 ⟨rfl, rfl⟩) | (go_at_call 8; refine (neg_any _ _).mono ?_; rintro e w1 ⟨rfl, rfl⟩))
  refine (HS.out _ hb1).mono ?_
  rintro e w2 ⟨rfl, hb2⟩
  go_wp2_with fail
  refine (HP.out _ hb2).mono ?_
  rintro e w3 ⟨rfl, hb3⟩
  go_wp2_with fail
  refine (HT.out _ hb3).mono ?_
  rintro e w4 ⟨rfl, hb4⟩
  go_wp2
  go_ret
  exact ⟨rfl, by assumption⟩

set_option maxHeartbeats 800000 in
theorem signs_n (a0 : Int) (x : Nat) (hx0 : 0 < x) (hx : x ≤ 1000000000000000) (hc : clampI a0 = -(x : Int)) (w : World) (htab : Lib.TabBelow Tryd.prog w.heap.size w "internal/strconv.uint64pow10" .u64 Lib.pow10Tab) :
    Calls Tryd.prog 4 #[.int .i64 a0] w fun e w' => e = .returned (.bool true) ∧ Below w.heap.size w w' := by
  obtain ⟨f1, f2, f3⟩ := signs_facts hx w htab
  rw [if_neg (by omega)] at f2
  have f4 : ∀ w1, Below w.heap.size w w1 → Calls Tryd.prog 9 #[.int .i64 (-(x : Int))] w1 fun e w' => e = .returned (.string ⟨(45 :: showPos (x : Int)).toArray⟩) ∧ Below w.heap.size w w' := fun w1 hb => by
    have := show_b (-(x : Int)) htab hb
    rw [showL_neg hx0 hx] at this; exact this
  generalize (⟨(showPos (x : Int)).toArray⟩ : ByteArray) = S at *
  generalize (⟨(45 :: showPos (x : Int)).toArray⟩ : ByteArray) = T at *
  have HS : Hid (∀ w1, Below w.heap.size w w1 → Calls Tryd.prog 9 #[.int .i64 (x : Int)] w1 fun e w' => e = .returned (.string S) ∧ Below w.heap.size w w') := f1
  have HP : Hid (∀ w1, Below w.heap.size w w1 → Calls Tryd.prog 10 #[.string T] w1 fun e w' => e = .returned (.tuple #[.int .i64 (-(x : Int)), .bool true]) ∧ Below w.heap.size w w') := f2
  have HT : Hid (∀ w1, Below w.heap.size w w1 → Calls Tryd.prog 9 #[.int .i64 (-(x : Int))] w1 fun e w' => e = .returned (.string T) ∧ Below w.heap.size w w') := f4
  have d0 : ((x : Int) == 0) = false := by simp; omega
  have rn : wrap64 (-(x : Int)) = -(x : Int) := IntWalk.wrap64_in _ ⟨by omega, by omega⟩
  have z0 := clampI_idem a0
  have xb : (x : Int) ≤ 1000000000000000 := by omega
  clear f1 f2 f4
  have d1 : (-(x : Int) ≤ 0) := by omega
  have z1 : clampI (-(x : Int)) = -(x : Int) := clampI_in (by omega) (by omega)
  have HH : Hid (∀ w1, Below w.heap.size w w1 → Calls Tryd.prog 5 #[] w1 fun e w' => e = .returned (.bool true) ∧ Below w.heap.size w w') := fun w1 h => shown_b htab h
  have hb0 : Below w.heap.size w w := Below.refl _ _
  clear htab
  go_enter Tryd.func4, Tryd.ntmps4
  go_wp2_with fail
  refine (HH.out _ hb0).mono ?_
  rintro e w1 ⟨rfl, hb1⟩
  go_wp2_with (first | (go_at_call 7; refine (clamp_any _ _).mono ?_; rintro e w1 ⟨rfl, rfl⟩) | (go_at_call 8; refine (neg_any _ _).mono ?_; rintro e w1 ⟨rfl, rfl⟩))
  refine (HS.out _ hb1).mono ?_
  rintro e w2 ⟨rfl, hb2⟩
  go_wp2_with fail
  refine (HP.out _ hb2).mono ?_
  rintro e w3 ⟨rfl, hb3⟩
  go_wp2_with fail
  refine (HT.out _ hb3).mono ?_
  rintro e w4 ⟨rfl, hb4⟩
  go_wp2
  go_ret
  exact ⟨rfl, by assumption⟩

set_option maxHeartbeats 800000 in
theorem signs_z (a0 : Int) (hc : clampI a0 = 0) (w : World) (htab : Lib.TabBelow Tryd.prog w.heap.size w "internal/strconv.uint64pow10" .u64 Lib.pow10Tab) :
    Calls Tryd.prog 4 #[.int .i64 a0] w fun e w' => e = .returned (.bool true) ∧ Below w.heap.size w w' := by
  have hx : (0 : Nat) ≤ 1000000000000000 := by omega
  obtain ⟨f1, f2, f3⟩ := signs_facts hx w htab
  rw [if_pos rfl] at f2
  simp only [Int.natCast_zero] at f1 f2 f3
  have e0 : showPos 0 = [48] := by have := showL_pos (x := 0) (by omega); simp only [Int.natCast_zero] at this; rw [← this]; exact showL_0
  rw [e0] at f1 f2 f3
  have HS : Hid (∀ w1, Below w.heap.size w w1 → Calls Tryd.prog 9 #[.int .i64 0] w1 fun e w' => e = .returned (.string ⟨#[48]⟩) ∧ Below w.heap.size w w') := f1
  have HP : Hid (∀ w1, Below w.heap.size w w1 → Calls Tryd.prog 10 #[.string ⟨#[45, 48]⟩] w1 fun e w' => e = .returned (.tuple #[.int .i64 0, .bool false]) ∧ Below w.heap.size w w') := f2
  have f3' : ∀ w1 : World, (Op.stringOp .add ⟨#[45]⟩ ⟨#[48]⟩).run Tryd.prog w1 = .ok (.string ⟨#[45, 48]⟩) w1 := f3
  have z0 : clampI 0 = 0 := clampI_in (by omega) (by omega)
  clear f1 f2 f3 e0 hx
  have HH : Hid (∀ w1, Below w.heap.size w w1 → Calls Tryd.prog 5 #[] w1 fun e w' => e = .returned (.bool true) ∧ Below w.heap.size w w') := fun w1 h => shown_b htab h
  have hb0 : Below w.heap.size w w := Below.refl _ _
  clear htab
  go_enter Tryd.func4, Tryd.ntmps4
  go_wp2_with fail
  refine (HH.out _ hb0).mono ?_
  rintro e w1 ⟨rfl, hb1⟩
  go_wp2_with (first | (go_at_call 7; refine (clamp_any _ _).mono ?_; rintro e w1 ⟨rfl, rfl⟩) | (go_at_call 8; refine (neg_any _ _).mono ?_; rintro e w1 ⟨rfl, rfl⟩))
  refine (HS.out _ hb1).mono ?_
  rintro e w2 ⟨rfl, hb2⟩
  go_wp2_with fail
  refine (HP.out _ hb2).mono ?_
  rintro e w3 ⟨rfl, hb3⟩
  go_wp2
  go_ret
  exact ⟨rfl, by assumption⟩

theorem numSigns_walk (a0 : Int) (_w0 : (Lit.int .i64 a0).wf = true) (w : World) (htab : Lib.TabBelow Tryd.prog w.heap.size w "internal/strconv.uint64pow10" .u64 Lib.pow10Tab) :
    Calls Tryd.prog 4 #[.int .i64 a0] w fun e w' => e = .returned (.bool true) ∧ Below w.heap.size w w' := by
  have h1 := clampI_le a0
  have h2 := clampI_ge a0
  rcases (show clampI a0 = 0 ∨ 0 < clampI a0 ∨ clampI a0 < 0 by omega) with h | h | h
  · exact signs_z a0 h w htab
  · exact signs_p a0 (clampI a0).toNat (by omega) (by omega) (by omega) w htab
  · exact signs_n a0 (- clampI a0).toNat (by omega) (by omega) (by omega) w htab

set_option maxRecDepth 100000 in
theorem numSigns_lifted (os : Os) (started : os.Started) (H : Type) (enc : TypeId × Value → H) :
    ReturnsInHanded {} Tryd.checked os 4 .any (fun w args => (Rows.numSignsSpec.pre enc Tryd.prog Tryd.f4 [] false w args ∧ laidMetH Tryd.prog laid3 w) ∧ sizedMet enc Tryd.prog Tryd.f4 (OpenSpec.ofChange Rows.numSignsSpec) false w args)
      (Rows.numSignsSpec.post enc Tryd.prog Tryd.f4 false true false false) := by
  refine returnsInHanded_of_change_and (C := Tryd.checked) (X := fun w _ => laidMetH Tryd.prog laid3 w) (fun _ _ _ hh h => h.of_heap hh) own started (by kernel_rfl) Tryd.func4
    (ChangeSpec.witness_shaped (enc := enc) (C := Tryd.checked) (os := os) (X := fun w _ => laidMetH Tryd.prog laid3 w) false (World.doorLaid Tryd.prog 24 os) #[.int .i64 0] 8 rfl (World.shaped_of_RefB (by kernel_rfl) (by kernel_rfl)) (by kernel_rfl) (by kernel_rfl) (by kernel_rfl) (door_met os _)) ?_
  intro W base args ds gs before hval0 hW _ _ hL _
  have hval : ∀ (j : Nat) t v, Tryd.f4.params[j]? = some t → args[j]? = some v → Value.okWide Tryd.prog W .any base t v := hval0
  have hW' := hW
  obtain ⟨p, q, hA0, hV, rfl, hfz, hnd⟩ := hW
  have hA : DataW.TrodAll enc Tryd.prog W 0 (fun _ => true) true Tryd.f4.params.toList args.toList ds p := hA0
  rw [Tryd.params4] at hA hval
  obtain ⟨v0, vs0, d0, ds0, p0, q0, hargs, rfl, rfl, h0, r0⟩ := trodAll_cons hA
  obtain ⟨rfl, rfl, rfl⟩ := trodAll_nil r0
  obtain rfl : args = #[v0] := by cases args; simp_all
  obtain ⟨rfl, rfl⟩ := trodVars_none hV
  obtain ⟨a0, rfl, rfl, rfl, w0⟩ := open_int Tryd.underlying2 (hval 0 2 v0 rfl rfl) h0
  clear hA0 hval0
  refine (numSigns_walk a0 w0 W (tab_of_laid hL)).mono fun e W' ⟨he, bel⟩ => ?_
  subst he
  exact ⟨_, rfl, _, _, _, [], [], [], hW', trodAll_mk1 (shut_bool Tryd.underlying4 _), (trodAll_cons_mk (shut_int Tryd.underlying2 w0) trodAll_mk0), rfl, bel.frame _, fun h => by cases h⟩

theorem numSigns_row : Rows.NumSignsSaid :=
  OpenClaim.holds_of_wide 4 Tryd.f4 rfl rfl rfl rfl rfl rfl rfl ⟨rfl, rfl, rfl, rfl, rfl⟩ rfl rfl rfl rfl rfl (by kernel_rfl) Tryd.func4 (by kernel_rfl)
    (of_decide_eq_true (by kernel_rfl)) (by unfold Func.isWrapper; first | (rw [if_pos (by decide +kernel)]; kernel_rfl) | (rw [if_neg (by decide +kernel)]; exact ⟨rfl, rfl⟩))
    (fun os started H enc _ => numSigns_lifted os started H enc)

/-- THE TIED CARD. -/
theorem numSigns_holds : Rows.NumSignsCardSaid :=
  Claim7.holds_tied_plain_at .later [] [.data, .data, .data] true Rows.numSignsCard.stood.harness false
    numSigns_row (fun _ h => by cases h) (by kernel_rfl) (fun _ h => by cases h) numSigns_row_tie rfl ⟨rfl, rfl⟩ (by kernel_rfl) rfl
    (fun f fn hf hfn => by
      obtain rfl : f = 4 := Option.some.inj ((show Tryd.prog.funcNamed "usance/usancelaw01.NumSigns" = some 4 by kernel_rfl).symm.trans hf) |>.symm
      obtain rfl : fn = Tryd.f4 := (Option.some.inj (Tryd.func4.symm.trans hfn)).symm
      exact ⟨by kernel_rfl, fun j t ht => by
        rw [Tryd.params4] at ht
        have hm : t ∈ [2] := by simpa using Array.mem_of_getElem? ht
        have hall : ([2].all fun u => !Tryd.prog.wantsStandIn u) = true := by kernel_rfl
        exact (show Tryd.prog.wantsStandIn t = false by simpa using List.all_eq_true.1 hall t hm)⟩)
    (by kernel_rfl)
#print axioms numSigns_holds
end Go.Proofs.YtehpnhmghfpjpabDoor
