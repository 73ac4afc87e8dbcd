/- The walk of DateDays. -/
import Derived.Test.YtdjncmcmplnnhaaDoorDLaw
import Derived.Test.YtdjncmcmplnnhaaDoorDRef
namespace Go.Proofs.YtdjncmcmplnnhaaDoor
open Go Go.RowKit

theorem ofV_two (y m d : Int) : ∃ X Y, ofV y m d = .tuple #[.int .i64 X, .int .i64 Y] := by
  unfold ofV
  split
  · exact ⟨_, _, rfl⟩
  · exact ⟨_, _, rfl⟩
theorem day_in {n : Int} (h : ¬ (n < 0 ∨ 73048 < n)) : ∃ k : Nat, n = k ∧ k ≤ 73048 := by
  obtain ⟨k, rfl⟩ := Int.eq_ofNat_of_zero_le (a := n) (by omega)
  exact ⟨k, rfl, by omega⟩

set_option maxRecDepth 100000 in
set_option maxHeartbeats 800000 in
theorem dateDays_walk (y m d n : Int) (w : World) (ht : Tab w) (_y0 : -9223372036854775808 ≤ y) (_y1 : y ≤ 9223372036854775807) (m0 : -9223372036854775808 ≤ m) (m1 : m ≤ 9223372036854775807) (_d0 : -9223372036854775808 ≤ d) (_d1 : d ≤ 9223372036854775807) (_n0 : -9223372036854775808 ≤ n) (_n1 : n ≤ 9223372036854775807) :
    Calls Tryd.prog 3 #[.int .i64 y, .int .i64 m, .int .i64 d, .int .i64 n] w fun e w' => e = .returned (.bool true) ∧ Below w.heap.size w w' := by
  have HT := hid ht
  obtain ⟨X, Y, hXY⟩ := ofV_two y m d
  have HO := hid (fun w ht => of_any y m d ⟨m0, m1⟩ w ht)
  have HR := hid (rof_any y m d)
  rw [hXY] at HO HR
  clear ht hXY
  go_enter Tryd.func3, Tryd.ntmps3
  go_wp2_with fail
  refine (shown_any w HT.out).mono ?_
  rintro e w1 ⟨rfl, hB1⟩
  go_wp2_with fail
  refine (HO.out w1 (HT.out.below hB1)).mono ?_
  rintro e w2 ⟨rfl, hB2⟩
  have hB2 := Below.next hB1 hB2
  go_wp2_with fail
  refine (HR.out w2).mono ?_
  rintro e w3 ⟨rfl, hB3⟩
  have hB3 := Below.next hB2 hB3
  by_cases hn : n < 0 ∨ 73048 < n
  · have HP := hid (parts_no n hn)
    have HQ := hid (rparts_no n hn)
    clear hn
    go_wp2_with fail
    refine (HP.out w3).mono ?_
    rintro e w4 ⟨rfl, rfl⟩
    go_wp2_with fail
    refine (HQ.out _).mono ?_
    rintro e w4 ⟨rfl, rfl⟩
    go_wp2
    go_ret
    exact ⟨rfl, hB3⟩
  · obtain ⟨k, rfl, hk⟩ := day_in hn
    clear hn
    go_wp2_with fail
    refine (parts_yes k hk w3 (HT.out.below hB3)).mono ?_
    rintro e w4 ⟨a, b, c, hd, hdn, rfl, hB4⟩
    have hB4 := Below.next hB3 hB4
    have HD := hid (show Dt a b c ∧ dn a b c = k from ⟨hd, hdn⟩)
    clear hd hdn
    go_wp2_with fail
    refine (rparts_yes k hk w4).mono ?_
    rintro e w5 ⟨a', b', c', hd, hdn, rfl, hB5⟩
    have hB5 := Below.next hB4 hB5
    obtain ⟨rfl, rfl, rfl⟩ := dn_inj HD.out.1 hd (by rw [HD.out.2, hdn])
    clear hd hdn HD
    go_wp2
    go_ret
    exact ⟨rfl, hB5⟩
end Go.Proofs.YtdjncmcmplnnhaaDoor
