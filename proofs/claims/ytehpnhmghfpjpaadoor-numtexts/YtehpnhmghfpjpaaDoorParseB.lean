/- The walk of num's millionths: the number of digits ahead of the point and behind it. -/
import Derived.Test.YtehpnhmghfpjpaaDoorParseA
namespace Go.Proofs.YtehpnhmghfpjpaaDoor
open Go.RowKit

theorem take_snoc (s : ByteArray) (k : Nat) (h : k < s.size) : s.data.toList.take (k + 1) = s.data.toList.take k ++ [s[k]] := by
  rw [List.take_succ_eq_append_getElem (by rw [Array.length_toList]; exact h)]; rfl

theorem rd_start (d : ByteArray) (w : World) : RdIs w.heap.size d ((0 : Nat) : Int) (w.alloc (.cells #[.string d, .int .i64 0] 50)) :=
  ⟨by simp, by simp, World.frozen?_alloc_new _ _ _ _⟩

set_option maxHeartbeats 1600000 in
theorem millionths_any (s d : ByteArray) (w : World) (hs : s.data.toList.all isD = true) (hl : s.size ≤ 10) (hd : d.data.toList.all isD = true) :
    Calls Tryd.prog 36 #[.string s, .string d] w fun e w' => e = .returned (.int .i64 (milL s.data.toList d.data.toList : Int)) ∧ Below w.heap.size w w' := by
  have hsz : s.data.toList.length = s.size := by rw [Array.length_toList]; rfl
  have HR : Hid (RdIs w.heap.size d ((0 : Nat) : Int) (w.alloc (.cells #[.string d, .int .i64 0] 50))) := rd_start d w
  have HB : Hid (Below w.heap.size w (w.alloc (.cells #[.string d, .int .i64 0] 50))) := (Below.refl _ _).alloc (Nat.le_refl _) _
  have HV : Hid (∀ k, valW 0 (s.data.toList.take k) < 10000000000) := fun k => valW_take_lt hs (by omega) k
  have HS : Hid (s.data.toList.all isD = true) := hs
  have HD : Hid (d.data.toList.all isD = true) := hd
  have HZ : Hid (s.data.toList.length = s.size) := hsz
  generalize hM : (milL s.data.toList d.data.toList : Int) = M
  have HM : Hid ((milL s.data.toList d.data.toList : Int) = M) := hM
  clear hs hd hsz hM
  go_enter Tryd.func36, Tryd.ntmps36
  go_wp2
  go_loopw [11] (fun i wr => ∃ k : Nat, k ≤ s.size ∧ i = .int .i64 k ∧ RdIs w.heap.size d (valW 0 (s.data.toList.take k) : Int) wr ∧ Below w.heap.size w wr) (fun i _ => s.size - (intOf i).toNat)
  case atStart => exact ⟨0, by omega, rfl, by simpa [valW] using HR.out, HB.out⟩
  case round =>
    obtain ⟨k, hk, rfl, hst, hbel⟩ := hrel
    clear HR HB
    by_cases hlt : k < s.size
    · have hD := isD_at HS.out k hlt
      rw [isD_iff] at hD
      have hv := HV.out k
      have HN : Hid ((valW 0 (s.data.toList.take (k + 1)) : Int) = (valW 0 (s.data.toList.take k) : Int) * 10 + ((s[k].toNat : Int) - 48)) := by
        show (valW 0 (s.data.toList.take (k + 1)) : Int) = _
        rw [take_snoc s k hlt, valW_snoc]; unfold dv; omega
      generalize hn : valW 0 (s.data.toList.take k) = n at *
      have b0 : (48 : Int) ≤ (s[k].toNat : Int) := by omega
      have b1 : (s[k].toNat : Int) ≤ 57 := by omega
      have hwr0 : IntKind.i64.wrap ((n : Int) * 10) = (n : Int) * 10 := IntWalk.i64_in _ ⟨by omega, by omega⟩
      have hwr : IntKind.i64.wrap ((n : Int) * 10 + ((s[k].toNat : Int) - 48)) = (n : Int) * 10 + ((s[k].toNat : Int) - 48) := IntWalk.i64_in _ ⟨by omega, by omega⟩
      have HW : Hid (RdIs w.heap.size d ((n : Int) * 10 + ((s[k].toNat : Int) - 48)) (wr.setCell ⟨w.heap.size, 1, none⟩ (.int .i64 ((n : Int) * 10 + ((s[k].toNat : Int) - 48))))) := hst.set _
      have HB : Hid (Below w.heap.size w (wr.setCell ⟨w.heap.size, 1, none⟩ (.int .i64 ((n : Int) * 10 + ((s[k].toNat : Int) - 48))))) := Below.setCell hbel (p := ⟨w.heap.size, 1, none⟩) (Nat.le_refl _) _
      obtain ⟨c0, c1, f1⟩ := hst
      have hli : (k : Int) < (s.size : Int) := by omega
      have hki : (0 : Int) ≤ (k : Int) := by omega
      clear hD hv hn hbel hk
      go_wp2_with fail
      go_region_with (go_at_call 46; refine (digit_any _ _ b0 b1).mono ?_; rintro e w' ⟨rfl, rfl⟩)
      all_goals
        go_wp2
        go_roundw
        case rel => exact ⟨k + 1, by omega, by go_num, by rw [HN.out]; exact HW.out.drew, HB.out.drew⟩
        case measure => simp [intOf]; omega
    · have hkk : k = s.size := by omega
      have hv := HV.out k
      have HP := fun (h : RdIs w.heap.size d (valW 0 (s.data.toList.take k) : Int) wr) => place_take w.heap.size (valW 0 (s.data.toList.take k)) d wr h HD.out hv
      have hP := HP hst
      rw [show frac d.data.toList (valW 0 (s.data.toList.take k)) 6 = milL s.data.toList d.data.toList by
        rw [List.take_of_length_le (by rw [HZ.out]; omega)]; rfl, HM.out] at hP
      have HPh : Hid (Calls Tryd.prog 39 #[.func (.func 47) #[.pointer (some ⟨w.heap.size, 0, none⟩)] #[]] wr fun e w' => e = .returned (.tuple #[]) ∧ RdIs w.heap.size d M w' ∧ Below w.heap.size wr w') := hP
      clear HP hP hv hst hkk
      go_wp2_with (go_at_call 39; refine HPh.out.mono ?_; rintro e w2 ⟨rfl, ⟨c0, c1, f1⟩, hb2⟩)
      go_ret
      exact ⟨rfl, hbel.trans hb2⟩
end Go.Proofs.YtehpnhmghfpjpaaDoor
