/- The walks of MacHex and MacBack. -/
import Derived.Test.YtcjhimakbopipaaDoorMSum
namespace Go.Proofs.YtcjhimakbopipaaDoor
open Go Go.RowKit

theorem ba_eta (s : ByteArray) : (⟨s.data.toList.toArray⟩ : ByteArray) = s := by cases s; rfl
set_option maxHeartbeats 1000000 in
theorem macHex_l (l m : List UInt8) (W : World) (ht : Glob W) (zl : l.length ≤ 140737488351232) (zm : m.length ≤ 140737488351232) :
    Calls Tryd.prog 5 #[.string ⟨l.toArray⟩, .string ⟨m.toArray⟩] W fun e w' => e = .returned (.bool true) ∧ Below W.heap.size W w' := by
  have HT := hidM ht
  have h1 := fun w => unhex_any m (by omega) w
  have h2 := fun w => refUnhex_any m (by omega) w
  unfold unRes at h1 h2
  generalize (⟨((unhex m).getD []).toArray⟩ : ByteArray) = ub at *
  generalize (unhex m).isSome = uo at *
  have H1 := hidM h1
  have H2 := hidM h2
  have H3 := hidM (fun w => hex_any l (by omega) w)
  have H4 := hidM (fun w => refHex_any l (by omega) w)
  generalize (⟨(hexs l).toArray⟩ : ByteArray) = hb at *
  clear ht h1 h2
  go_enter Tryd.func5, Tryd.ntmps5
  go_wp2_with fail
  refine (shown_any _ HT.out).mono ?_
  rintro e w1 ⟨rfl, hB1⟩
  have HB1 := hidM hB1
  clear hB1
  go_wp2_with fail
  refine (H1.out _).mono ?_
  rintro e w2 ⟨rfl, hB2⟩
  have HB2 := hidM (Below.next HB1.out hB2)
  clear hB2
  go_wp2_with fail
  refine (H2.out _).mono ?_
  rintro e w3 ⟨rfl, hB3⟩
  have HB3 := hidM (Below.next HB2.out hB3)
  clear hB3
  go_wp2_with fail
  refine (H3.out _).mono ?_
  rintro e w4 ⟨rfl, hB4⟩
  have HB4 := hidM (Below.next HB3.out hB4)
  clear hB4
  go_wp2_with fail
  refine (H4.out _).mono ?_
  rintro e w5 ⟨rfl, hB5⟩
  have HB5 := hidM (Below.next HB4.out hB5)
  clear hB5
  go_wp2
  go_ret
  exact ⟨by simp, HB5.out⟩
theorem macHex_walk (a b : ByteArray) (W : World) (ht : Glob W) (za : a.size ≤ 140737488351232) (zb : b.size ≤ 140737488351232) :
    Calls Tryd.prog 5 #[.string a, .string b] W fun e w' => e = .returned (.bool true) ∧ Below W.heap.size W w' := by
  have := macHex_l a.data.toList b.data.toList W ht (by simpa using za) (by simpa using zb)
  rw [ba_eta, ba_eta] at this
  exact this
set_option maxHeartbeats 1000000 in
theorem macBack_l (l m : List UInt8) (W : World) (ht : Glob W) (zl : l.length ≤ 140737488351232) (zm : m.length ≤ 140737488351232) :
    Calls Tryd.prog 7 #[.string ⟨l.toArray⟩, .string ⟨m.toArray⟩] W fun e w' => e = .returned (.bool true) ∧ Below W.heap.size W w' := by
  have HT := hidM ht
  have h0 := unRes_some (unhex_hexs l)
  have H1 := hidM (fun w => hex_any l (by omega) w)
  have h2 := fun w => unhex_any (hexs l) (by rw [hexs_len]; omega) w
  rw [h0] at h2
  have H2 := hidM h2
  clear ht h0 h2
  generalize (⟨(hexs l).toArray⟩ : ByteArray) = hb at *
  cases hu : unhex m with
  | none =>
    have h3 := fun w => unhex_any m (by omega) w
    rw [unRes_none hu] at h3
    have H3 := hidM h3
    clear h3 hu
    go_enter Tryd.func7, Tryd.ntmps7
    go_wp2_with fail
    refine (shown_any _ HT.out).mono ?_
    rintro e w1 ⟨rfl, hB1⟩
    have HB1 := hidM hB1
    clear hB1
    go_wp2_with fail
    refine (H1.out _).mono ?_
    rintro e w2 ⟨rfl, hB2⟩
    have HB2 := hidM (Below.next HB1.out hB2)
    clear hB2
    go_wp2_with fail
    refine (H2.out _).mono ?_
    rintro e w3 ⟨rfl, hB3⟩
    have HB3 := hidM (Below.next HB2.out hB3)
    clear hB3
    go_wp2_with fail
    refine (H3.out _).mono ?_
    rintro e w4 ⟨rfl, hB4⟩
    have HB4 := hidM (Below.next HB3.out hB4)
    clear hB4
    go_wp2
    go_ret
    exact ⟨by simp, HB4.out⟩
  | some b =>
    have hbl : b.length ≤ m.length := by have := hexs_unhex hu; rw [← this, hexs_len]; omega
    have h3 := fun w => unhex_any m (by omega) w
    rw [unRes_some hu] at h3
    have h4 := fun w => hex_any b (by omega) w
    rw [hexs_unhex hu] at h4
    have H3 := hidM h3
    have H4 := hidM h4
    clear h3 hu h4
    go_enter Tryd.func7, Tryd.ntmps7
    go_wp2_with fail
    refine (shown_any _ HT.out).mono ?_
    rintro e w1 ⟨rfl, hB1⟩
    have HB1 := hidM hB1
    clear hB1
    go_wp2_with fail
    refine (H1.out _).mono ?_
    rintro e w2 ⟨rfl, hB2⟩
    have HB2 := hidM (Below.next HB1.out hB2)
    clear hB2
    go_wp2_with fail
    refine (H2.out _).mono ?_
    rintro e w3 ⟨rfl, hB3⟩
    have HB3 := hidM (Below.next HB2.out hB3)
    clear hB3
    go_wp2_with fail
    refine (H3.out _).mono ?_
    rintro e w4 ⟨rfl, hB4⟩
    have HB4 := hidM (Below.next HB3.out hB4)
    clear hB4
    go_wp2_with fail
    refine (H4.out _).mono ?_
    rintro e w5 ⟨rfl, hB5⟩
    have HB5 := hidM (Below.next HB4.out hB5)
    clear hB5
    go_wp2
    go_ret
    exact ⟨by simp, HB5.out⟩
theorem macBack_walk (a b : ByteArray) (W : World) (ht : Glob W) (za : a.size ≤ 140737488351232) (zb : b.size ≤ 140737488351232) :
    Calls Tryd.prog 7 #[.string a, .string b] W fun e w' => e = .returned (.bool true) ∧ Below W.heap.size W w' := by
  have := macBack_l a.data.toList b.data.toList W ht (by simpa using za) (by simpa using zb)
  rw [ba_eta, ba_eta] at this
  exact this
end Go.Proofs.YtcjhimakbopipaaDoor
