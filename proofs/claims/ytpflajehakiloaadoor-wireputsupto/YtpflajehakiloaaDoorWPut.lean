/- The walks of wire's PutInt, PutText, KeyInt, KeyText. -/
import Derived.Test.YtpflajehakiloaaDoorWCopy
import Derived.Lib.Strings
import Derived.Lib.Slices
import Derived.Lib.Walk
import Derived.Lib.Bytealg
namespace Go.Proofs.YtpflajehakiloaaDoor
open Go Go.RowKit

/-- What a call that puts something hands back: bytes of its own, in new memory. -/
def Puts (L : List UInt8) (cap : Nat) (w : World) (e : Ending) (w' : World) : Prop :=
  e = .returned (.slice (some ⟨w.heap.size, 0, none⟩) L.length cap) ∧ w'.ownsRow w.heap.size 5 1 (.slice (some ⟨w.heap.size, 0, none⟩) L.length cap) L.length (cells8 L) ∧ Below w.heap.size w w'

theorem ret_sl {a : Option Addr} {n m c : Nat} (h : n = m) : Ending.returned (.slice a n c) = .returned (.slice a m c) := by rw [h]

set_option maxHeartbeats 400000 in
theorem putInt_any (a : Option Addr) (l : List UInt8) (cap : Nat) (n : Int) (w : World) (hv : Sl w (.slice a l.length cap) l) (h0 : -9223372036854775808 ≤ n) (h1 : n ≤ 9223372036854775807) (hb : l.length + 10 ≤ 281474976710656) :
    Calls Tryd.prog 11 #[.slice a l.length cap, .int .i64 n] w (Puts (l ++ vb (zig n)) (l.length + 10) w) := by
  have HV := hid hv
  have hz := zvb_len h0 h1
  clear hv
  go_enter Tryd.func11, Tryd.ntmps11
  go_wp2_with fail
  refine (copy_any a l cap 10 w HV.out (by omega) (by omega)).mono ?_
  rintro e w1 ⟨rfl, ho, hB⟩
  have h10 : (10 : Int).toNat = 10 := rfl
  rw [h10] at ho ⊢
  go_wp2_with fail
  refine (appInt_any w.heap.size w.heap.size (l.length + 10) l n w1 h0 h1 ho (by omega) hB.size).mono ?_
  rintro e w2 ⟨rfl, ho2, hB2⟩
  go_wp2
  go_ret
  exact ⟨ret_sl (by simp), ho2, hB.trans hB2⟩

set_option maxHeartbeats 400000 in
theorem putText_any (a : Option Addr) (l : List UInt8) (cap : Nat) (s : ByteArray) (w : World) (hv : Sl w (.slice a l.length cap) l) (hb : l.length + (10 + s.size) ≤ 281474976710656) :
    Calls Tryd.prog 12 #[.slice a l.length cap, .string s] w (Puts (l ++ vb (zig s.size) ++ s.data.toList) (l.length + (10 + s.size)) w) := by
  obtain ⟨i0, hi0, hz0, hz1, hz2⟩ := info_parts info8
  have HV := hid hv
  have hz := zvb_len (n := (s.size : Int)) (by omega) (by omega)
  have hss : s.data.toList.length = s.size := by rw [Array.length_toList]; rfl
  have HS := hid hss
  clear hv hss
  go_enter Tryd.func12, Tryd.ntmps12
  go_wp2_with fail
  refine (copy_any a l cap (10 + (s.size : Int)) w HV.out (by omega) (by omega)).mono ?_
  rintro e w1 ⟨rfl, ho, hB⟩
  have h10 : (10 + (s.size : Int)).toNat = 10 + s.size := by omega
  rw [h10] at ho ⊢
  clear h10
  go_wp2_with fail
  refine (appInt_any w.heap.size w.heap.size (l.length + (10 + s.size)) l (s.size : Int) w1 (by omega) (by omega) ho (by omega) hB.size).mono ?_
  rintro e w2 ⟨rfl, ho2, hB2⟩
  rw [List.length_append] at ho2
  go_wp2_with (at_builtin; refine Lib.wpList_append_fits_string _ rfl _ _ 22 9 rfl w.heap.size 5 i0 Tryd.underlying22 Tryd.underlying9 hi0 hz1 _ _ _ _ rfl ho2 s rfl (by omega) (by omega) ?_; intro w3 ho3 hg3)
  go_ret
  rw [cells8_str, cells8_append] at ho3
  have hL : l.length + (vb (zig s.size)).length + s.size = (l ++ vb (zig s.size) ++ s.data.toList).length := by simp [HS.out]; omega
  rw [hL] at ho3
  exact ⟨ret_sl hL, ho3, (hB.trans hB2).grown hg3 (by have := hB.size; have := hB2.size; omega) (fun k hk => by cases hk; exact Nat.le_refl _)⟩

set_option maxHeartbeats 1000000 in
set_option maxRecDepth 100000 in
theorem count_one (s : ByteArray) (c : UInt8) (w : World) :
    Calls Tryd.prog 34 #[.string s, .string ⟨#[c]⟩] w fun e w' => e = .returned (.int .i64 (s.data.toList.count c)) ∧ w' = w := by
  go_enter Tryd.func34, Tryd.ntmps34
  go_wp2
  rw [run_callFunc_extern Tryd.func40 (by kernel_rfl) (by kernel_rfl) (by kernel_rfl) (e := Extern.BytealgCount.count) (by kernel_rfl), Lib.run_countString]
  simp only [Result.andThen]
  rw [Oper.upon_value]
  go_wp2
  go_ret
  exact ⟨rfl, rfl⟩
end Go.Proofs.YtpflajehakiloaaDoor
