/- The walk of DateTexts. -/
import Derived.Test.YtdjncmcmplnnhaaDoorDDaysW
import Derived.Test.YtdjncmcmplnnhaaDoorDRefC
namespace Go.Proofs.YtdjncmcmplnnhaaDoor
open Go Go.RowKit

theorem parseV_two (l : List UInt8) : ∃ X Y, parseV l = .tuple #[.int .i64 X, .int .i64 Y] := by
  unfold parseV
  split
  · exact ofV_two _ _ _
  · exact ⟨_, _, rfl⟩

set_option maxRecDepth 100000 in
set_option maxHeartbeats 800000 in
theorem dateTexts_walk (n : Int) (s : ByteArray) (w : World) (ht : Tab w) (_n0 : -9223372036854775808 ≤ n) (_n1 : n ≤ 9223372036854775807) (_hs : s.size ≤ 140737488351232) :
    Calls Tryd.prog 4 #[.int .i64 n, .string s] w fun e w' => e = .returned (.bool true) ∧ Below w.heap.size w w' := by
  have HT := hid ht
  obtain ⟨X, Y, hXY⟩ := parseV_two s.data.toList
  have HO := hid (fun w ht => parse_any s w ht)
  have HR := hid (rparse_any s)
  rw [hXY] at HO HR
  clear ht hXY
  go_enter Tryd.func4, Tryd.ntmps4
  go_wp2_with fail
  refine (shown_any w HT.out).mono ?_
  rintro e w1 ⟨rfl, hB1⟩
  by_cases hn : n < 0 ∨ 73048 < n
  · have HP := hid (show_no n hn)
    have HQ := hid (rshow_no n hn)
    clear hn
    go_wp2_with fail
    refine (HP.out w1).mono ?_
    rintro e w2 ⟨rfl, rfl⟩
    go_wp2_with fail
    refine (HQ.out _).mono ?_
    rintro e w2 ⟨rfl, rfl⟩
    go_wp2_with fail
    refine (HO.out _ (HT.out.below hB1)).mono ?_
    rintro e w4 ⟨rfl, hB4⟩
    have hB4 := Below.next hB1 hB4
    go_wp2_with fail
    refine (HR.out _).mono ?_
    rintro e w5 ⟨rfl, hB5⟩
    have hB5 := Below.next hB4 hB5
    go_wp2
    go_ret
    exact ⟨rfl, hB5⟩
  · obtain ⟨k, rfl, hk⟩ := day_in hn
    clear hn
    go_wp2_with fail
    refine (show_yes k hk w1 (HT.out.below hB1)).mono ?_
    rintro e w2 ⟨a, b, c, hd, hdn, rfl, hB2⟩
    have hB2 := Below.next hB1 hB2
    have HD := hid (show Dt a b c ∧ dn a b c = k from ⟨hd, hdn⟩)
    clear hd hdn
    go_wp2_with fail
    refine (rshow_yes k hk w2).mono ?_
    rintro e w3 ⟨a', b', c', hd, hdn, rfl, hB3⟩
    have hB3 := Below.next hB2 hB3
    obtain ⟨rfl, rfl, rfl⟩ := dn_inj HD.out.1 hd (by rw [HD.out.2, hdn])
    clear hd hdn HD
    generalize (⟨(shL a b c).toArray⟩ : ByteArray) = T at *
    go_wp2_with fail
    refine (HO.out _ (HT.out.below hB3)).mono ?_
    rintro e w4 ⟨rfl, hB4⟩
    have hB4 := Below.next hB3 hB4
    go_wp2_with fail
    refine (HR.out _).mono ?_
    rintro e w5 ⟨rfl, hB5⟩
    have hB5 := Below.next hB4 hB5
    go_wp2
    go_ret
    exact ⟨rfl, hB5⟩
end Go.Proofs.YtdjncmcmplnnhaaDoor
