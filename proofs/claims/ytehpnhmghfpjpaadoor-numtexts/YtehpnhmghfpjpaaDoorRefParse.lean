/- The reference's Parse, whole. -/
import Derived.Test.YtehpnhmghfpjpaaDoorRefParseM
import Derived.Test.YtehpnhmghfpjpaaDoorRefParseNt
import Derived.Test.YtehpnhmghfpjpaaDoorRefParseNf
import Derived.Test.YtehpnhmghfpjpaaDoorRefParseDt
import Derived.Test.YtehpnhmghfpjpaaDoorRefParseDf
import Derived.Test.YtehpnhmghfpjpaaDoorRefParseBt
import Derived.Test.YtehpnhmghfpjpaaDoorRefParseBf
import Derived.Test.YtehpnhmghfpjpaaDoorRefParseCt
import Derived.Test.YtehpnhmghfpjpaaDoorRefParseCf
namespace Go.Proofs.YtehpnhmghfpjpaaDoor
open Go.RowKit

set_option maxHeartbeats 400000 in
theorem rp_empty (s : ByteArray) (w : World) (h : s.size = 0) :
    Calls Tryd.prog 25 #[.string s] w fun e w' => e = .returned (.tuple #[.int .i64 0, .bool false]) ∧ w' = w := by
  go_enter Tryd.func25, Tryd.ntmps25
  go_wp2
  go_loop [5] (fun a => a = .int .i64 0) (fun _ => 0)
  case atStart => rfl
  case round =>
    subst hrel
    go_wp2
    go_ret2
    exact ⟨rfl, rfl⟩

set_option maxHeartbeats 800000 in
theorem rparse_t (s T : ByteArray) (k : Nat) (w : World) (hk : k ≤ T.size) (hTi : (T.size : Int) ≤ 9223372036854775807) (hp : 0 < s.size) (h45 : (s[0]'hp).toNat = 45) (hT : s.extract 1 s.size = T)
    (hdig : ∀ i (h : i < T.size), i < k → isD (T[i]'h) = true) (hend : ∀ h : k < T.size, isD (T[k]'h) = false) :
    Calls Tryd.prog 25 #[.string s] w fun e w' => e = .returned (.tuple #[.int .i64 (refR true T.data.toList k).1, .bool (refR true T.data.toList k).2]) ∧ w' = w := by
  have htl : T.data.toList.length = T.size := Array.length_toList
  have hw := whl_take htl hk hdig
  by_cases hsz : k < T.size
  · have hno := isD_no (hend hsz)
    by_cases c1 : k < 1
    · exact rpB1h_t s T k w _ hk hTi hp h45 hT hdig (decide_eq_true (by omega)) hsz hno (refR_noWh (by rw [hw, decide_eq_false (show ¬ 1 ≤ k by omega)]; rfl))
    · have e1 : decide ((k : Int) < 1) = false := decide_eq_false (by omega)
      by_cases c2 : 10 < k
      · exact rpB2h_t s T k w _ hk hTi hp h45 hT hdig e1 (decide_eq_true (by omega)) hsz hno (refR_noWh (by rw [hw, decide_eq_false (show ¬ k ≤ 10 by omega)]; simp))
      · have e2 : decide (10 < (k : Int)) = false := decide_eq_false (by omega)
        have hT0 : 0 < T.size := by omega
        have h0 : T.data.toList[0]?.getD 0 = T[0]'hT0 := getD_list T 0 hT0 0
        by_cases c3 : 1 < k
        · by_cases c4 : (T[0]'hT0).toNat = 48
          · have g4 : T[0]'hT0 = 48 := UInt8.toNat_inj.1 c4
            exact rpB3h_t s T k w _ hk hTi hp h45 hT hdig e1 e2 (decide_eq_true (by omega)) hT0 (by rw [c4]; rfl) hsz hno (refR_noWh (by rw [hw, h0, g4, decide_eq_false (show ¬ k = 1 by omega)]; simp))
          · have e4 : (((T[0]'hT0).toNat : Int) == 48) = false := by simp; omega
            have c4' : T[0]'hT0 ≠ 48 := fun h => c4 (by rw [h]; rfl)
            have hwt : isWhL (T.data.toList.take k) = true := by rw [hw, h0]; simp [c4']; omega
            by_cases c5 : (T[k]'hsz).toNat = 46
            · have e5 : (((T[k]'hsz).toNat : Int) != 46) = false := by rw [c5]; rfl
              have g5 : T.data.toList[k]?.getD 0 = 46 := by rw [getD_list T k hsz]; exact UInt8.toNat_inj.1 c5
              obtain ⟨p, hpp⟩ : ∃ p, k + 1 + p = T.size := ⟨T.size - (k + 1), by omega⟩
              have rp : (T.size : Int) - (k : Int) - 1 = (p : Int) := by omega
              have hdl : (T.data.toList.drop (k + 1)).length = p := by rw [List.length_drop, htl]; omega
              by_cases c6 : p < 1
              · exact rpB62_t s T k w _ hk hTi hp h45 hT hdig e1 e2 (decide_eq_true (by omega)) hT0 e4 hsz hno e5 p rp (decide_eq_true (by omega)) (refR_noId (by omega) (by unfold isDigL; rw [hdl, decide_eq_false (show ¬ 1 ≤ p by omega)]; simp))
              · by_cases c7 : 6 < p
                · exact rpB72_t s T k w _ hk hTi hp h45 hT hdig e1 e2 (decide_eq_true (by omega)) hT0 e4 hsz hno e5 p rp (decide_eq_false (by omega)) (decide_eq_true (by omega)) (refR_noId (by omega) (by unfold isDigL; rw [hdl, decide_eq_false (show ¬ p ≤ 6 by omega)]; simp))
                · refine rpD_t2 s T k w _ hk hTi hp h45 hT hdig e1 e2 (decide_eq_true (by omega)) hT0 e4 hsz hno e5 p rp (decide_eq_false (by omega)) (decide_eq_false (by omega)) (hv_of hwt) ?_ ?_
                  · intro ha
                    refine refR_D hwt g5 ?_
                    unfold isDigL
                    rw [hdl, all_of_getD (fun q hq => ha q (by omega))]; simp; omega
                  · intro z hz hf
                    refine refR_noId (by omega) ?_
                    unfold isDigL
                    cases hal : (T.data.toList.drop (k + 1)).all isD with
                    | false => simp
                    | true => have := getD_of_all hal z; rw [hf] at this; cases this
            · have e5 : (((T[k]'hsz).toNat : Int) != 46) = true := by simp; omega
              exact rpB52_t s T k w _ hk hTi hp h45 hT hdig e1 e2 (decide_eq_true (by omega)) hT0 e4 hsz hno e5 (refR_noId (by omega) (by
                rw [getD_list T k hsz, decide_eq_false (fun h => c5 (by rw [h]; rfl))]; rfl))
        · have hwt : isWhL (T.data.toList.take k) = true := by rw [hw]; simp; omega
          by_cases c5 : (T[k]'hsz).toNat = 46
          · have e5 : (((T[k]'hsz).toNat : Int) != 46) = false := by rw [c5]; rfl
            have g5 : T.data.toList[k]?.getD 0 = 46 := by rw [getD_list T k hsz]; exact UInt8.toNat_inj.1 c5
            obtain ⟨p, hpp⟩ : ∃ p, k + 1 + p = T.size := ⟨T.size - (k + 1), by omega⟩
            have rp : (T.size : Int) - (k : Int) - 1 = (p : Int) := by omega
            have hdl : (T.data.toList.drop (k + 1)).length = p := by rw [List.length_drop, htl]; omega
            by_cases c6 : p < 1
            · exact rpB61_t s T k w _ hk hTi hp h45 hT hdig e1 e2 (decide_eq_false (by omega)) hsz hno e5 p rp (decide_eq_true (by omega)) (refR_noId (by omega) (by unfold isDigL; rw [hdl, decide_eq_false (show ¬ 1 ≤ p by omega)]; simp))
            · by_cases c7 : 6 < p
              · exact rpB71_t s T k w _ hk hTi hp h45 hT hdig e1 e2 (decide_eq_false (by omega)) hsz hno e5 p rp (decide_eq_false (by omega)) (decide_eq_true (by omega)) (refR_noId (by omega) (by unfold isDigL; rw [hdl, decide_eq_false (show ¬ p ≤ 6 by omega)]; simp))
              · refine rpD_t1 s T k w _ hk hTi hp h45 hT hdig e1 e2 (decide_eq_false (by omega)) hsz hno e5 p rp (decide_eq_false (by omega)) (decide_eq_false (by omega)) (hv_of hwt) ?_ ?_
                · intro ha
                  refine refR_D hwt g5 ?_
                  unfold isDigL
                  rw [hdl, all_of_getD (fun q hq => ha q (by omega))]; simp; omega
                · intro z hz hf
                  refine refR_noId (by omega) ?_
                  unfold isDigL
                  cases hal : (T.data.toList.drop (k + 1)).all isD with
                  | false => simp
                  | true => have := getD_of_all hal z; rw [hf] at this; cases this
          · have e5 : (((T[k]'hsz).toNat : Int) != 46) = true := by simp; omega
            exact rpB51_t s T k w _ hk hTi hp h45 hT hdig e1 e2 (decide_eq_false (by omega)) hsz hno e5 (refR_noId (by omega) (by
              rw [getD_list T k hsz, decide_eq_false (fun h => c5 (by rw [h]; rfl))]; rfl))
  · have hkT : T.size ≤ k := by omega
    by_cases c1 : k < 1
    · exact rpB1n_t s T k w _ hk hTi hp h45 hT hdig (decide_eq_true (by omega)) hkT (refR_noWh (by rw [hw, decide_eq_false (show ¬ 1 ≤ k by omega)]; rfl))
    · have e1 : decide ((k : Int) < 1) = false := decide_eq_false (by omega)
      by_cases c2 : 10 < k
      · exact rpB2n_t s T k w _ hk hTi hp h45 hT hdig e1 (decide_eq_true (by omega)) hkT (refR_noWh (by rw [hw, decide_eq_false (show ¬ k ≤ 10 by omega)]; simp))
      · have e2 : decide (10 < (k : Int)) = false := decide_eq_false (by omega)
        have hT0 : 0 < T.size := by omega
        have h0 : T.data.toList[0]?.getD 0 = T[0]'hT0 := getD_list T 0 hT0 0
        by_cases c3 : 1 < k
        · by_cases c4 : (T[0]'hT0).toNat = 48
          · have g4 : T[0]'hT0 = 48 := UInt8.toNat_inj.1 c4
            exact rpB3n_t s T k w _ hk hTi hp h45 hT hdig e1 e2 (decide_eq_true (by omega)) hT0 (by rw [c4]; rfl) hkT (refR_noWh (by rw [hw, h0, g4, decide_eq_false (show ¬ k = 1 by omega)]; simp))
          · have e4 : (((T[0]'hT0).toNat : Int) == 48) = false := by simp; omega
            have c4' : T[0]'hT0 ≠ 48 := fun h => c4 (by rw [h]; rfl)
            have hwt : isWhL (T.data.toList.take k) = true := by rw [hw, h0]; simp [c4']; omega
            exact rpN_t2 s T k w _ hk hTi hp h45 hT hdig e1 e2 (decide_eq_true (by omega)) hT0 e4 hkT (hv_of hwt) (refR_N hwt (by omega))
        · have hwt : isWhL (T.data.toList.take k) = true := by rw [hw]; simp; omega
          exact rpN_t1 s T k w _ hk hTi hp h45 hT hdig e1 e2 (decide_eq_false (by omega)) hkT (hv_of hwt) (refR_N hwt (by omega))

set_option maxHeartbeats 800000 in
theorem rparse_f (s T : ByteArray) (k : Nat) (w : World) (hk : k ≤ T.size) (hTi : (T.size : Int) ≤ 9223372036854775807) (hp : 0 < s.size) (h45 : (s[0]'hp).toNat ≠ 45) (hT : s = T)
    (hdig : ∀ i (h : i < T.size), i < k → isD (T[i]'h) = true) (hend : ∀ h : k < T.size, isD (T[k]'h) = false) :
    Calls Tryd.prog 25 #[.string s] w fun e w' => e = .returned (.tuple #[.int .i64 (refR false T.data.toList k).1, .bool (refR false T.data.toList k).2]) ∧ w' = w := by
  have htl : T.data.toList.length = T.size := Array.length_toList
  have hw := whl_take htl hk hdig
  by_cases hsz : k < T.size
  · have hno := isD_no (hend hsz)
    by_cases c1 : k < 1
    · exact rpB1h_f s T k w _ hk hTi hp h45 hT hdig (decide_eq_true (by omega)) hsz hno (refR_noWh (by rw [hw, decide_eq_false (show ¬ 1 ≤ k by omega)]; rfl))
    · have e1 : decide ((k : Int) < 1) = false := decide_eq_false (by omega)
      by_cases c2 : 10 < k
      · exact rpB2h_f s T k w _ hk hTi hp h45 hT hdig e1 (decide_eq_true (by omega)) hsz hno (refR_noWh (by rw [hw, decide_eq_false (show ¬ k ≤ 10 by omega)]; simp))
      · have e2 : decide (10 < (k : Int)) = false := decide_eq_false (by omega)
        have hT0 : 0 < T.size := by omega
        have h0 : T.data.toList[0]?.getD 0 = T[0]'hT0 := getD_list T 0 hT0 0
        by_cases c3 : 1 < k
        · by_cases c4 : (T[0]'hT0).toNat = 48
          · have g4 : T[0]'hT0 = 48 := UInt8.toNat_inj.1 c4
            exact rpB3h_f s T k w _ hk hTi hp h45 hT hdig e1 e2 (decide_eq_true (by omega)) hT0 (by rw [c4]; rfl) hsz hno (refR_noWh (by rw [hw, h0, g4, decide_eq_false (show ¬ k = 1 by omega)]; simp))
          · have e4 : (((T[0]'hT0).toNat : Int) == 48) = false := by simp; omega
            have c4' : T[0]'hT0 ≠ 48 := fun h => c4 (by rw [h]; rfl)
            have hwt : isWhL (T.data.toList.take k) = true := by rw [hw, h0]; simp [c4']; omega
            by_cases c5 : (T[k]'hsz).toNat = 46
            · have e5 : (((T[k]'hsz).toNat : Int) != 46) = false := by rw [c5]; rfl
              have g5 : T.data.toList[k]?.getD 0 = 46 := by rw [getD_list T k hsz]; exact UInt8.toNat_inj.1 c5
              obtain ⟨p, hpp⟩ : ∃ p, k + 1 + p = T.size := ⟨T.size - (k + 1), by omega⟩
              have rp : (T.size : Int) - (k : Int) - 1 = (p : Int) := by omega
              have hdl : (T.data.toList.drop (k + 1)).length = p := by rw [List.length_drop, htl]; omega
              by_cases c6 : p < 1
              · exact rpB62_f s T k w _ hk hTi hp h45 hT hdig e1 e2 (decide_eq_true (by omega)) hT0 e4 hsz hno e5 p rp (decide_eq_true (by omega)) (refR_noId (by omega) (by unfold isDigL; rw [hdl, decide_eq_false (show ¬ 1 ≤ p by omega)]; simp))
              · by_cases c7 : 6 < p
                · exact rpB72_f s T k w _ hk hTi hp h45 hT hdig e1 e2 (decide_eq_true (by omega)) hT0 e4 hsz hno e5 p rp (decide_eq_false (by omega)) (decide_eq_true (by omega)) (refR_noId (by omega) (by unfold isDigL; rw [hdl, decide_eq_false (show ¬ p ≤ 6 by omega)]; simp))
                · refine rpD_f2 s T k w _ hk hTi hp h45 hT hdig e1 e2 (decide_eq_true (by omega)) hT0 e4 hsz hno e5 p rp (decide_eq_false (by omega)) (decide_eq_false (by omega)) (hv_of hwt) ?_ ?_
                  · intro ha
                    refine refR_D hwt g5 ?_
                    unfold isDigL
                    rw [hdl, all_of_getD (fun q hq => ha q (by omega))]; simp; omega
                  · intro z hz hf
                    refine refR_noId (by omega) ?_
                    unfold isDigL
                    cases hal : (T.data.toList.drop (k + 1)).all isD with
                    | false => simp
                    | true => have := getD_of_all hal z; rw [hf] at this; cases this
            · have e5 : (((T[k]'hsz).toNat : Int) != 46) = true := by simp; omega
              exact rpB52_f s T k w _ hk hTi hp h45 hT hdig e1 e2 (decide_eq_true (by omega)) hT0 e4 hsz hno e5 (refR_noId (by omega) (by
                rw [getD_list T k hsz, decide_eq_false (fun h => c5 (by rw [h]; rfl))]; rfl))
        · have hwt : isWhL (T.data.toList.take k) = true := by rw [hw]; simp; omega
          by_cases c5 : (T[k]'hsz).toNat = 46
          · have e5 : (((T[k]'hsz).toNat : Int) != 46) = false := by rw [c5]; rfl
            have g5 : T.data.toList[k]?.getD 0 = 46 := by rw [getD_list T k hsz]; exact UInt8.toNat_inj.1 c5
            obtain ⟨p, hpp⟩ : ∃ p, k + 1 + p = T.size := ⟨T.size - (k + 1), by omega⟩
            have rp : (T.size : Int) - (k : Int) - 1 = (p : Int) := by omega
            have hdl : (T.data.toList.drop (k + 1)).length = p := by rw [List.length_drop, htl]; omega
            by_cases c6 : p < 1
            · exact rpB61_f s T k w _ hk hTi hp h45 hT hdig e1 e2 (decide_eq_false (by omega)) hsz hno e5 p rp (decide_eq_true (by omega)) (refR_noId (by omega) (by unfold isDigL; rw [hdl, decide_eq_false (show ¬ 1 ≤ p by omega)]; simp))
            · by_cases c7 : 6 < p
              · exact rpB71_f s T k w _ hk hTi hp h45 hT hdig e1 e2 (decide_eq_false (by omega)) hsz hno e5 p rp (decide_eq_false (by omega)) (decide_eq_true (by omega)) (refR_noId (by omega) (by unfold isDigL; rw [hdl, decide_eq_false (show ¬ p ≤ 6 by omega)]; simp))
              · refine rpD_f1 s T k w _ hk hTi hp h45 hT hdig e1 e2 (decide_eq_false (by omega)) hsz hno e5 p rp (decide_eq_false (by omega)) (decide_eq_false (by omega)) (hv_of hwt) ?_ ?_
                · intro ha
                  refine refR_D hwt g5 ?_
                  unfold isDigL
                  rw [hdl, all_of_getD (fun q hq => ha q (by omega))]; simp; omega
                · intro z hz hf
                  refine refR_noId (by omega) ?_
                  unfold isDigL
                  cases hal : (T.data.toList.drop (k + 1)).all isD with
                  | false => simp
                  | true => have := getD_of_all hal z; rw [hf] at this; cases this
          · have e5 : (((T[k]'hsz).toNat : Int) != 46) = true := by simp; omega
            exact rpB51_f s T k w _ hk hTi hp h45 hT hdig e1 e2 (decide_eq_false (by omega)) hsz hno e5 (refR_noId (by omega) (by
              rw [getD_list T k hsz, decide_eq_false (fun h => c5 (by rw [h]; rfl))]; rfl))
  · have hkT : T.size ≤ k := by omega
    by_cases c1 : k < 1
    · exact rpB1n_f s T k w _ hk hTi hp h45 hT hdig (decide_eq_true (by omega)) hkT (refR_noWh (by rw [hw, decide_eq_false (show ¬ 1 ≤ k by omega)]; rfl))
    · have e1 : decide ((k : Int) < 1) = false := decide_eq_false (by omega)
      by_cases c2 : 10 < k
      · exact rpB2n_f s T k w _ hk hTi hp h45 hT hdig e1 (decide_eq_true (by omega)) hkT (refR_noWh (by rw [hw, decide_eq_false (show ¬ k ≤ 10 by omega)]; simp))
      · have e2 : decide (10 < (k : Int)) = false := decide_eq_false (by omega)
        have hT0 : 0 < T.size := by omega
        have h0 : T.data.toList[0]?.getD 0 = T[0]'hT0 := getD_list T 0 hT0 0
        by_cases c3 : 1 < k
        · by_cases c4 : (T[0]'hT0).toNat = 48
          · have g4 : T[0]'hT0 = 48 := UInt8.toNat_inj.1 c4
            exact rpB3n_f s T k w _ hk hTi hp h45 hT hdig e1 e2 (decide_eq_true (by omega)) hT0 (by rw [c4]; rfl) hkT (refR_noWh (by rw [hw, h0, g4, decide_eq_false (show ¬ k = 1 by omega)]; simp))
          · have e4 : (((T[0]'hT0).toNat : Int) == 48) = false := by simp; omega
            have c4' : T[0]'hT0 ≠ 48 := fun h => c4 (by rw [h]; rfl)
            have hwt : isWhL (T.data.toList.take k) = true := by rw [hw, h0]; simp [c4']; omega
            exact rpN_f2 s T k w _ hk hTi hp h45 hT hdig e1 e2 (decide_eq_true (by omega)) hT0 e4 hkT (hv_of hwt) (refR_N hwt (by omega))
        · have hwt : isWhL (T.data.toList.take k) = true := by rw [hw]; simp; omega
          exact rpN_f1 s T k w _ hk hTi hp h45 hT hdig e1 e2 (decide_eq_false (by omega)) hkT (hv_of hwt) (refR_N hwt (by omega))

theorem rparse_any (s : ByteArray) (w : World) (hs : s.size ≤ maxLen) :
    Calls Tryd.prog 25 #[.string s] w fun e w' => e = .returned (.tuple #[.int .i64 (parseL s.data.toList).1, .bool (parseL s.data.toList).2]) ∧ w' = w := by
  have hl : s.data.toList.length = s.size := Array.length_toList
  by_cases hp : 0 < s.size
  · have h0 : s.data.toList[0]?.getD 0 = s[0]'hp := getD_list s 0 hp 0
    by_cases h45 : (s[0]'hp).toNat = 45
    · have e0 : s.data.toList = 45 :: (s.extract 1 s.size).data.toList := by
        rw [Lib.extract_to_end]
        have g : s[0]'hp = 45 := UInt8.toNat_inj.1 h45
        rw [g] at h0
        cases hc : s.data.toList with
        | nil => rw [hc] at hl; simp at hl; omega
        | cons c t => rw [hc] at h0; simp at h0; rw [h0]; rfl
      have hz : (s.extract 1 s.size).size ≤ s.size := by simp
      obtain ⟨k, hk, hd, he, hR⟩ := ahead_of (s.extract 1 s.size) true
      rw [e0, parseL_neg, hR]
      exact rparse_t s _ k w hk (by unfold maxLen at hs; omega) hp h45 rfl hd he
    · have e0 : parseL s.data.toList = parseT false (Lib.cut s.data.toList [46]) := by
        cases hc : s.data.toList with
        | nil => rw [hc] at hl; simp at hl; omega
        | cons c t =>
          refine parseL_pos (fun e => h45 ?_)
          rw [hc, e] at h0
          simp at h0
          rw [← h0]; rfl
      obtain ⟨k, hk, hd, he, hR⟩ := ahead_of s false
      rw [e0, hR]
      exact rparse_f s s k w hk (by unfold maxLen at hs; omega) hp h45 rfl hd he
  · have e0 : s.data.toList = [] := List.length_eq_zero_iff.1 (by omega)
    rw [e0, parseL_nil]
    exact rp_empty s w (by omega)
end Go.Proofs.YtehpnhmghfpjpaaDoor
