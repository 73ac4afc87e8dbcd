/- The walk of date's Parse. -/
import Derived.Test.YtdjncmcmplnnhaaDoorDShow
import Derived.Test.YtdjncmcmplnnhaaDoorDRef
namespace Go.Proofs.YtdjncmcmplnnhaaDoor
open Go Go.RowKit

/-- What a text says. -/
def parseV (l : List UInt8) : Value :=
  if l.length = 10 ∧ l.getD 4 0 = 45 ∧ l.getD 7 0 = 45 ∧ dgOk (l.take 4) = true ∧ dgOk ((l.drop 5).take 2) = true ∧ dgOk (l.drop 8) = true then
    ofV (dgV (l.take 4) : Nat) (dgV ((l.drop 5).take 2) : Nat) (dgV (l.drop 8) : Nat) else .tuple #[.int .i64 0, .int .i64 30]

theorem ext_list (s : ByteArray) (a b : Nat) : (s.extract a b).data.toList = (s.data.toList.drop a).take (b - a) := by
  rw [ByteArray.data_extract, Array.toList_extract, List.extract_eq_take_drop]
theorem at_byte (s : ByteArray) (k : Nat) (h : k < s.size) : s.data.toList.getD k 0 = s[k] := by
  have : k < s.data.toList.length := by rw [Array.length_toList]; exact h
  rw [List.getD, List.getElem?_eq_getElem this, Option.getD_some, Array.getElem_toList]; rfl
/-- digits, with its answer taken apart. -/
theorem digits_two (s : ByteArray) (hs : s.size ≤ 10) : ∃ (n : Nat) (b : Bool), b = dgOk s.data.toList ∧ (b = true → n = dgV s.data.toList) ∧ ∀ w : World,
    Calls Tryd.prog 36 #[.string s] w fun e w' => e = .returned (.tuple #[.int .i64 n, .bool b]) ∧ w' = w := by
  by_cases h : dgOk s.data.toList = true
  · refine ⟨dgV s.data.toList, true, h.symm, fun _ => rfl, fun w => ?_⟩
    have := digits_any s hs w
    rw [if_pos h] at this
    exact this
  · refine ⟨0, false, by simpa using h, fun h => (by cases h), fun w => ?_⟩
    have := digits_any s hs w
    rw [if_neg h] at this
    exact this

set_option maxRecDepth 100000 in
set_option maxHeartbeats 800000 in
theorem parse_any (s : ByteArray) (w : World) (ht : Tab w) :
    Calls Tryd.prog 16 #[.string s] w fun e w' => e = .returned (parseV s.data.toList) ∧ Below w.heap.size w w' := by
  have hsz : s.data.toList.length = s.size := by rw [Array.length_toList]; rfl
  have HZ := hid hsz
  have HT := hid ht
  clear hsz ht
  by_cases h10 : s.size = 10
  · have b4 := at_byte s 4 (by omega)
    have b7 := at_byte s 7 (by omega)
    by_cases h4 : (s[4].toNat : Int) = 45
    · by_cases h7 : (s[7].toNat : Int) = 45
      · have x1 := ext_list s 0 4
        have x2 := ext_list s 5 7
        have x3 := ext_list s 8 10
        obtain ⟨n1, o1, ho1, hn1, D1⟩ := digits_two (s.extract 0 4) (by simp; omega)
        obtain ⟨n2, o2, ho2, hn2, D2⟩ := digits_two (s.extract 5 7) (by simp; omega)
        obtain ⟨n3, o3, ho3, hn3, D3⟩ := digits_two (s.extract 8 10) (by simp; omega)
        have e3 : (s.data.toList.drop 8).take (10 - 8) = s.data.toList.drop 8 := List.take_of_length_le (by rw [List.length_drop, HZ.out]; omega)
        rw [x1, List.drop_zero] at ho1 hn1
        rw [x2] at ho2 hn2
        rw [x3, e3] at ho3 hn3
        have c4 : s.data.toList.getD 4 0 = 45 := by rw [b4]; exact u8_ext (by have : (45 : UInt8).toNat = 45 := rfl; omega)
        have c7 : s.data.toList.getD 7 0 = 45 := by rw [b7]; exact u8_ext (by have : (45 : UInt8).toNat = 45 := rfl; omega)
        have hp : parseV s.data.toList = if o1 && o2 && o3 then ofV n1 n2 n3 else .tuple #[.int .i64 0, .int .i64 30] := by
          unfold parseV
          by_cases ho : (o1 && o2 && o3) = true
          · rw [if_pos ho]
            simp only [Bool.and_eq_true] at ho
            rw [if_pos ⟨by rw [HZ.out]; exact h10, c4, c7, by rw [← ho.1.1]; exact ho1.symm, by rw [← ho.1.2]; exact ho2.symm, by rw [← ho.2]; exact ho3.symm⟩]
            rw [← hn1 ho.1.1, ← hn2 ho.1.2, ← hn3 ho.2]
          · rw [if_neg ho, if_neg]
            rintro ⟨_, _, _, g1, g2, g3⟩
            apply ho
            rw [ho1, ho2, ho3]
            simp only [Bool.and_eq_true]
            exact ⟨⟨g1, g2⟩, g3⟩
        rw [hp]
        have HD1 := hid D1
        have HD2 := hid D2
        have HD3 := hid D3
        have n2b : n2 ≤ 9223372036854775807 ∨ o2 = false := by
          cases o2
          · exact .inr rfl
          · left
            rw [hn2 rfl]
            have := dgV_lt _ 2 (by rw [List.length_take]; omega) ho2.symm
            omega
        clear b4 b7 x1 x2 x3 D1 D2 D3 e3 c4 c7 hp ho1 ho2 ho3 hn1 hn2 hn3
        go_enter Tryd.func16, Tryd.ntmps16
        go_wp2_with fail
        refine (HD1.out _).mono ?_
        rintro e w1 ⟨rfl, rfl⟩
        go_wp2_with fail
        refine (HD2.out _).mono ?_
        rintro e w1 ⟨rfl, rfl⟩
        go_wp2_with fail
        refine (HD3.out _).mono ?_
        rintro e w1 ⟨rfl, rfl⟩
        cases o1
        · go_wp2
          go_ret2
          exact ⟨rfl, Below.refl _ _⟩
        · cases o2
          · go_wp2
            go_ret2
            exact ⟨rfl, Below.refl _ _⟩
          · cases o3
            · go_wp2
              go_ret2
              exact ⟨rfl, Below.refl _ _⟩
            · have hn2b : (n2 : Int) ≤ 9223372036854775807 := by
                rcases n2b with h | h
                · omega
                · cases h
              have hofp : ∃ x y, ofV n1 n2 n3 = .tuple #[.int .i64 x, .int .i64 y] := by
                unfold ofV
                split
                · exact ⟨_, _, rfl⟩
                · exact ⟨_, _, rfl⟩
              obtain ⟨X, Y, hXY⟩ := hofp
              have HO := hid (of_any n1 n2 n3 (by omega) w1 HT.out)
              rw [hXY] at HO
              have HE := hid hXY
              clear hXY n2b
              go_wp2_with fail
              refine HO.out.mono ?_
              rintro e w2 ⟨rfl, hB⟩
              go_wp2
              go_ret2
              refine ⟨?_, hB⟩
              rw [HE.out]
              rfl
      · go_enter Tryd.func16, Tryd.ntmps16
        go_wp2
        go_ret2
        refine ⟨?_, Below.refl _ _⟩
        unfold parseV
        rw [if_neg (by rintro ⟨_, _, h, _⟩; rw [b7] at h; apply h7; rw [h]; rfl)]
        rfl
    · go_enter Tryd.func16, Tryd.ntmps16
      go_wp2
      go_ret2
      refine ⟨?_, Below.refl _ _⟩
      unfold parseV
      rw [if_neg (by rintro ⟨_, h, _⟩; rw [b4] at h; apply h4; rw [h]; rfl)]
      rfl
  · go_enter Tryd.func16, Tryd.ntmps16
    go_wp2
    go_ret2
    refine ⟨?_, Below.refl _ _⟩
    unfold parseV
    rw [if_neg (by rw [HZ.out]; exact fun h => h10 h.1)]
    rfl
end Go.Proofs.YtdjncmcmplnnhaaDoor
