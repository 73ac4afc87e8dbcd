/- The walk of num's Parse: every text is read as the plain function says. -/
import Derived.Test.YtehpnhmghfpjpaaDoorParseB
import Derived.Test.YtehpnhmghfpjpaaDoorCutOne
import Derived.WalkSmall
namespace Go.Proofs.YtehpnhmghfpjpaaDoor
open Go.RowKit

theorem size_arr (l : List UInt8) : (⟨l.toArray⟩ : ByteArray).size = l.length := by rw [Lib.size_eq]

set_option maxHeartbeats 3200000 in
theorem parse_core (s T B A : ByteArray) (bl f iw id : Bool) (n : Nat) (w : World) (hn : n < 10000000000000000)
    (h1 : ∀ w : World, Calls Tryd.prog 32 #[.string s, .string ⟨#[45]⟩] w fun e w' => e = .returned (.tuple #[.string T, .bool bl]) ∧ w' = w)
    (h2 : Calls Tryd.prog 33 #[.string T, .string ⟨#[46]⟩] w fun e w' => e = .returned (.tuple #[.string B, .string A, .bool f]) ∧ Below w.heap.size w w')
    (h3 : ∀ w : World, Calls Tryd.prog 34 #[.string B] w fun e w' => e = .returned (.bool iw) ∧ w' = w)
    (h4 : ∀ w : World, Calls Tryd.prog 35 #[.string A, .int .i64 6] w fun e w' => e = .returned (.bool id) ∧ w' = w)
    (h5 : iw = true → (f = true → id = true) → ∀ w1 : World, Below w.heap.size w w1 → Calls Tryd.prog 36 #[.string B, .string A] w1 fun e w' => e = .returned (.int .i64 (n : Int)) ∧ Below w.heap.size w w') :
    Calls Tryd.prog 24 #[.string s] w fun e w' => e = .returned (.tuple #[.int .i64 (coreR iw f id bl n).1, .bool (coreR iw f id bl n).2]) ∧ Below w.heap.size w w' := by
  have HC1 : Hid (∀ w : World, Calls Tryd.prog 32 #[.string s, .string ⟨#[45]⟩] w fun e w' => e = .returned (.tuple #[.string T, .bool bl]) ∧ w' = w) := h1
  have HC2 : Hid (Calls Tryd.prog 33 #[.string T, .string ⟨#[46]⟩] w fun e w' => e = .returned (.tuple #[.string B, .string A, .bool f]) ∧ Below w.heap.size w w') := h2
  have HC3 : Hid (∀ w : World, Calls Tryd.prog 34 #[.string B] w fun e w' => e = .returned (.bool iw) ∧ w' = w) := h3
  have HC4 : Hid (∀ w : World, Calls Tryd.prog 35 #[.string A, .int .i64 6] w fun e w' => e = .returned (.bool id) ∧ w' = w) := h4
  clear h1 h2 h3 h4
  have rneg : IntKind.i64.wrap (-(n : Int)) = -(n : Int) := IntWalk.i64_in _ ⟨by omega, by omega⟩
  by_cases hok : iw = true ∧ (f = true → id = true)
  · have HC5 : Hid (∀ w1 : World, Below w.heap.size w w1 → Calls Tryd.prog 36 #[.string B, .string A] w1 fun e w' => e = .returned (.int .i64 (n : Int)) ∧ Below w.heap.size w w') := h5 hok.1 hok.2
    obtain ⟨rfl, hfi⟩ := hok
    have hbn : (n : Int) < 10000000000000000 := by omega
    clear h5
    by_cases hbig : 1000000000000000 < n
    · have d1 : decide ((1000000000000000 : Int) < (n : Int)) = true := decide_eq_true (by omega)
      obtain ⟨R, hR⟩ : ∃ R, R = coreR true f id bl n := ⟨_, rfl⟩
      have hR2 : R = (0, false) := by rw [hR]; unfold coreR; cases f <;> cases id <;> simp_all
      rw [← hR, hR2]
      clear hR hR2 hbig hn hbn
      cases f
      · clear hfi HC4
        go_enter Tryd.func24, Tryd.ntmps24
        go_wp2_with (first | (go_at_call 32; refine (HC1.out _).mono ?_; rintro e w ⟨rfl, rfl⟩) | (go_at_call 33; refine HC2.out.mono ?_; rintro e w1 ⟨rfl, hb1⟩) | (go_at_call 34; refine (HC3.out _).mono ?_; rintro e w2 ⟨rfl, rfl⟩) | (go_at_call 35; refine (HC4.out _).mono ?_; rintro e w2 ⟨rfl, rfl⟩) | (go_at_call 36; refine (HC5.out _ (by assumption)).mono ?_; rintro e w2 ⟨rfl, hb2⟩))
        go_ret2
        exact ⟨rfl, by assumption⟩
      · rw [hfi rfl] at HC4
        clear hfi
        go_enter Tryd.func24, Tryd.ntmps24
        go_wp2_with (first | (go_at_call 32; refine (HC1.out _).mono ?_; rintro e w ⟨rfl, rfl⟩) | (go_at_call 33; refine HC2.out.mono ?_; rintro e w1 ⟨rfl, hb1⟩) | (go_at_call 34; refine (HC3.out _).mono ?_; rintro e w2 ⟨rfl, rfl⟩) | (go_at_call 35; refine (HC4.out _).mono ?_; rintro e w2 ⟨rfl, rfl⟩) | (go_at_call 36; refine (HC5.out _ (by assumption)).mono ?_; rintro e w2 ⟨rfl, hb2⟩))
        go_ret2
        exact ⟨rfl, by assumption⟩
    · have d1 : decide ((1000000000000000 : Int) < (n : Int)) = false := decide_eq_false (by omega)
      cases bl
      · obtain ⟨R, hR⟩ : ∃ R, R = coreR true f id false n := ⟨_, rfl⟩
        have hR2 : R = ((n : Int), true) := by rw [hR]; unfold coreR; cases f <;> cases id <;> simp_all
        rw [← hR, hR2]
        clear hR hR2 hbig hn hbn
        cases f
        · clear hfi HC4
          go_enter Tryd.func24, Tryd.ntmps24
          go_wp2_with (first | (go_at_call 32; refine (HC1.out _).mono ?_; rintro e w ⟨rfl, rfl⟩) | (go_at_call 33; refine HC2.out.mono ?_; rintro e w1 ⟨rfl, hb1⟩) | (go_at_call 34; refine (HC3.out _).mono ?_; rintro e w2 ⟨rfl, rfl⟩) | (go_at_call 35; refine (HC4.out _).mono ?_; rintro e w2 ⟨rfl, rfl⟩) | (go_at_call 36; refine (HC5.out _ (by assumption)).mono ?_; rintro e w2 ⟨rfl, hb2⟩))
          go_ret2
          exact ⟨rfl, by assumption⟩
        · rw [hfi rfl] at HC4
          clear hfi
          go_enter Tryd.func24, Tryd.ntmps24
          go_wp2_with (first | (go_at_call 32; refine (HC1.out _).mono ?_; rintro e w ⟨rfl, rfl⟩) | (go_at_call 33; refine HC2.out.mono ?_; rintro e w1 ⟨rfl, hb1⟩) | (go_at_call 34; refine (HC3.out _).mono ?_; rintro e w2 ⟨rfl, rfl⟩) | (go_at_call 35; refine (HC4.out _).mono ?_; rintro e w2 ⟨rfl, rfl⟩) | (go_at_call 36; refine (HC5.out _ (by assumption)).mono ?_; rintro e w2 ⟨rfl, hb2⟩))
          go_ret2
          exact ⟨rfl, by assumption⟩
      · by_cases hz : n = 0
        · have d2 : ((n : Int) == 0) = true := by rw [hz]; rfl
          obtain ⟨R, hR⟩ : ∃ R, R = coreR true f id true n := ⟨_, rfl⟩
          have hR2 : R = (0, false) := by rw [hR]; unfold coreR; cases f <;> cases id <;> simp_all
          rw [← hR, hR2]
          clear hR hR2 hbig hn hz hbn
          cases f
          · clear hfi HC4
            go_enter Tryd.func24, Tryd.ntmps24
            go_wp2_with (first | (go_at_call 32; refine (HC1.out _).mono ?_; rintro e w ⟨rfl, rfl⟩) | (go_at_call 33; refine HC2.out.mono ?_; rintro e w1 ⟨rfl, hb1⟩) | (go_at_call 34; refine (HC3.out _).mono ?_; rintro e w2 ⟨rfl, rfl⟩) | (go_at_call 35; refine (HC4.out _).mono ?_; rintro e w2 ⟨rfl, rfl⟩) | (go_at_call 36; refine (HC5.out _ (by assumption)).mono ?_; rintro e w2 ⟨rfl, hb2⟩))
            go_ret2
            exact ⟨rfl, by assumption⟩
          · rw [hfi rfl] at HC4
            clear hfi
            go_enter Tryd.func24, Tryd.ntmps24
            go_wp2_with (first | (go_at_call 32; refine (HC1.out _).mono ?_; rintro e w ⟨rfl, rfl⟩) | (go_at_call 33; refine HC2.out.mono ?_; rintro e w1 ⟨rfl, hb1⟩) | (go_at_call 34; refine (HC3.out _).mono ?_; rintro e w2 ⟨rfl, rfl⟩) | (go_at_call 35; refine (HC4.out _).mono ?_; rintro e w2 ⟨rfl, rfl⟩) | (go_at_call 36; refine (HC5.out _ (by assumption)).mono ?_; rintro e w2 ⟨rfl, hb2⟩))
            go_ret2
            exact ⟨rfl, by assumption⟩
        · have d2 : ((n : Int) == 0) = false := by simp; omega
          obtain ⟨R, hR⟩ : ∃ R, R = coreR true f id true n := ⟨_, rfl⟩
          have hR2 : R = (-(n : Int), true) := by rw [hR]; unfold coreR; cases f <;> cases id <;> simp_all
          rw [← hR, hR2]
          clear hR hR2 hbig hn hz
          cases f
          · clear hfi HC4
            go_enter Tryd.func24, Tryd.ntmps24
            go_wp2_with (first | (go_at_call 32; refine (HC1.out _).mono ?_; rintro e w ⟨rfl, rfl⟩) | (go_at_call 33; refine HC2.out.mono ?_; rintro e w1 ⟨rfl, hb1⟩) | (go_at_call 34; refine (HC3.out _).mono ?_; rintro e w2 ⟨rfl, rfl⟩) | (go_at_call 35; refine (HC4.out _).mono ?_; rintro e w2 ⟨rfl, rfl⟩) | (go_at_call 36; refine (HC5.out _ (by assumption)).mono ?_; rintro e w2 ⟨rfl, hb2⟩))
            go_ret2
            exact ⟨rfl, by assumption⟩
          · rw [hfi rfl] at HC4
            clear hfi
            go_enter Tryd.func24, Tryd.ntmps24
            go_wp2_with (first | (go_at_call 32; refine (HC1.out _).mono ?_; rintro e w ⟨rfl, rfl⟩) | (go_at_call 33; refine HC2.out.mono ?_; rintro e w1 ⟨rfl, hb1⟩) | (go_at_call 34; refine (HC3.out _).mono ?_; rintro e w2 ⟨rfl, rfl⟩) | (go_at_call 35; refine (HC4.out _).mono ?_; rintro e w2 ⟨rfl, rfl⟩) | (go_at_call 36; refine (HC5.out _ (by assumption)).mono ?_; rintro e w2 ⟨rfl, hb2⟩))
            go_ret2
            exact ⟨rfl, by assumption⟩
  · have HC5 : Hid (∀ w1 : World, Below w.heap.size w w1 → False → True) := fun _ _ _ => trivial
    obtain ⟨R, hR⟩ : ∃ R, R = coreR iw f id bl n := ⟨_, rfl⟩
    have hR2 : R = (0, false) := by rw [hR]; unfold coreR; cases iw <;> cases f <;> cases id <;> simp_all
    rw [← hR, hR2]
    clear hR hR2 h5 hn
    cases iw
    · clear hok HC4
      go_enter Tryd.func24, Tryd.ntmps24
      go_wp2_with (first | (go_at_call 32; refine (HC1.out _).mono ?_; rintro e w ⟨rfl, rfl⟩) | (go_at_call 33; refine HC2.out.mono ?_; rintro e w1 ⟨rfl, hb1⟩) | (go_at_call 34; refine (HC3.out _).mono ?_; rintro e w2 ⟨rfl, rfl⟩) | (go_at_call 35; refine (HC4.out _).mono ?_; rintro e w2 ⟨rfl, rfl⟩) | (go_at_call 36; refine (HC5.out _ (by assumption)).mono ?_; rintro e w2 ⟨rfl, hb2⟩))
      go_ret2
      exact ⟨rfl, by assumption⟩
    · have hf : f = true := by cases f <;> simp_all
      have hi : id = false := by cases id <;> simp_all
      subst hf
      subst hi
      clear hok
      go_enter Tryd.func24, Tryd.ntmps24
      go_wp2_with (first | (go_at_call 32; refine (HC1.out _).mono ?_; rintro e w ⟨rfl, rfl⟩) | (go_at_call 33; refine HC2.out.mono ?_; rintro e w1 ⟨rfl, hb1⟩) | (go_at_call 34; refine (HC3.out _).mono ?_; rintro e w2 ⟨rfl, rfl⟩) | (go_at_call 35; refine (HC4.out _).mono ?_; rintro e w2 ⟨rfl, rfl⟩) | (go_at_call 36; refine (HC5.out _ (by assumption)).mono ?_; rintro e w2 ⟨rfl, hb2⟩))
      go_ret2
      exact ⟨rfl, by assumption⟩

theorem parse_any (s : ByteArray) (w : World) (hs : s.size ≤ maxLen) :
    Calls Tryd.prog 24 #[.string s] w fun e w' => e = .returned (.tuple #[.int .i64 (parseL s.data.toList).1, .bool (parseL s.data.toList).2]) ∧ Below w.heap.size w w' := by
  have l1 := Lib.trimPrefix_le s.data.toList [45]
  rw [← Lib.size_eq] at l1
  obtain ⟨l2, l3⟩ := cut_lens (Lib.trimPrefix s.data.toList [45]) [46]
  have hno := cut_none (l := Lib.trimPrefix s.data.toList [45]) (sep := [46])
  have h2 := cut_any ⟨(Lib.trimPrefix s.data.toList [45]).toArray⟩ w (by rw [size_arr]; omega)
  have h1 := Tryd.strings_CutPrefix s ⟨#[45]⟩
  unfold parseL parseT
  generalize hT : Lib.trimPrefix s.data.toList [45] = T at *
  generalize hC : Lib.cut T [46] = C at *
  obtain ⟨B, A, f⟩ := C
  simp only at l2 l3 hno
  have hlt : isWhL B = true → (f = true → isDigL A 6 = true) → B.all isD = true ∧ B.length ≤ 10 ∧ A.all isD = true := fun hb ha => by
    obtain ⟨a1, _, a3⟩ := isWhL_all hb
    refine ⟨a1, a3, ?_⟩
    cases f
    · rw [hno rfl]; rfl
    · exact (isDigL_all (ha rfl)).1
  by_cases hok : isWhL B = true ∧ (f = true → isDigL A 6 = true)
  · refine parse_core s ⟨T.toArray⟩ ⟨B.toArray⟩ ⟨A.toArray⟩ _ f _ _ (milL B A) w (milL_lt hok.1 (hlt hok.1 hok.2).2.2) ?_ ?_ (fun w => isWhole_any ⟨B.toArray⟩ w (by rw [size_arr]; omega)) (fun w => isDigits_any ⟨A.toArray⟩ 6 w (by rw [size_arr]; omega)) ?_
    · exact h1
    · refine h2.mono ?_
      rintro e w' ⟨rfl, k, rfl⟩
      exact ⟨rfl, below_drewN (Below.refl _ _) k⟩
    · intro hb ha w1 hw1
      obtain ⟨a1, a2, a3⟩ := hlt hb ha
      refine (millionths_any ⟨B.toArray⟩ ⟨A.toArray⟩ w1 a1 (by rw [size_arr]; exact a2) a3).mono ?_
      rintro e w' ⟨rfl, hb'⟩
      exact ⟨rfl, hw1.trans (hb'.mono hw1.size)⟩
  · have e0 : coreR (isWhL B) f (isDigL A 6) (Lib.hasPrefix s.data.toList [45]) (milL B A) = coreR (isWhL B) f (isDigL A 6) (Lib.hasPrefix s.data.toList [45]) 0 := by
      unfold coreR
      have : (isWhL B && (!f || isDigL A 6)) = false := by
        cases h1 : isWhL B <;> cases h2 : f <;> cases h3 : isDigL A 6 <;> simp_all
      rw [this]; rfl
    simp only at e0 ⊢
    rw [e0]
    refine parse_core s ⟨T.toArray⟩ ⟨B.toArray⟩ ⟨A.toArray⟩ _ f _ _ 0 w (by omega) ?_ ?_ (fun w => isWhole_any ⟨B.toArray⟩ w (by rw [size_arr]; omega)) (fun w => isDigits_any ⟨A.toArray⟩ 6 w (by rw [size_arr]; omega)) ?_
    · exact h1
    · refine h2.mono ?_
      rintro e w' ⟨rfl, k, rfl⟩
      exact ⟨rfl, below_drewN (Below.refl _ _) k⟩
    · intro hb ha
      exact absurd ⟨hb, ha⟩ hok
end Go.Proofs.YtehpnhmghfpjpaaDoor
