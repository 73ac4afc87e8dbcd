/- wire's functions, as the laws use them: whatever slice value, by what it reads as. -/
import Derived.Test.YtpflajehakiloaaDoorWLess
namespace Go.Proofs.YtpflajehakiloaaDoor
open Go Go.RowKit

theorem Below.next {w w1 w2 : World} (hb : Below w.heap.size w w1) (h : Below w1.heap.size w1 w2) : Below w.heap.size w w2 := hb.trans (h.mono hb.size)

theorem putInt_v (v : Value) (l : List UInt8) (n : Int) (w : World) (hv : Sl w v l) (h0 : -9223372036854775808 ≤ n) (h1 : n ≤ 9223372036854775807) (hb : l.length + 10 ≤ 281474976710656) :
    Calls Tryd.prog 11 #[v, .int .i64 n] w fun e w' => ∃ v', e = .returned v' ∧ Sl w' v' (l ++ vb (zig n)) ∧ Below w.heap.size w w' := by
  obtain ⟨a, cap, rfl, h⟩ := hv
  exact (putInt_any a l cap n w ⟨a, cap, rfl, h⟩ h0 h1 hb).mono fun e w' ⟨he, ho, hB⟩ => ⟨_, he, owns_sl ho, hB⟩
theorem putText_v (v : Value) (l : List UInt8) (s : ByteArray) (w : World) (hv : Sl w v l) (hb : l.length + (10 + s.size) ≤ 281474976710656) :
    Calls Tryd.prog 12 #[v, .string s] w fun e w' => ∃ v', e = .returned v' ∧ Sl w' v' (l ++ vb (zig s.size) ++ s.data.toList) ∧ Below w.heap.size w w' := by
  obtain ⟨a, cap, rfl, h⟩ := hv
  exact (putText_any a l cap s w ⟨a, cap, rfl, h⟩ hb).mono fun e w' ⟨he, ho, hB⟩ => ⟨_, he, owns_sl ho, hB⟩
theorem keyInt_v (v : Value) (l : List UInt8) (n : Int) (w : World) (hv : Sl w v l) (h0 : -9223372036854775808 ≤ n) (h1 : n ≤ 9223372036854775807) (hb : l.length + 8 ≤ 281474976710656) :
    Calls Tryd.prog 13 #[v, .int .i64 n] w fun e w' => ∃ v', e = .returned v' ∧ Sl w' v' (l ++ kb n) ∧ Below w.heap.size w w' := by
  obtain ⟨a, cap, rfl, h⟩ := hv
  exact (keyInt_any a l cap n w ⟨a, cap, rfl, h⟩ h0 h1 hb).mono fun e w' ⟨he, ho, hB⟩ => ⟨_, he, owns_sl ho, hB⟩
theorem keyText_v (v : Value) (l : List UInt8) (s : ByteArray) (w : World) (hv : Sl w v l) (hb : l.length + (kt s.data.toList).length ≤ 281474976710656) :
    Calls Tryd.prog 14 #[v, .string s] w fun e w' => ∃ v', e = .returned v' ∧ Sl w' v' (l ++ kt s.data.toList) ∧ Below w.heap.size w w' := by
  obtain ⟨a, cap, rfl, h⟩ := hv
  exact (keyText_any a l cap s w ⟨a, cap, rfl, h⟩ hb).mono fun e w' ⟨he, ho, hB⟩ => ⟨_, he, owns_sl ho, hB⟩
theorem takeInt_v (v : Value) (l : List UInt8) (at_ : Int) (w : World) (hv : Sl w v l) (hn : l.length ≤ 281474976710656) :
    Calls Tryd.prog 20 #[v, .int .i64 at_] w fun e w' => e = .returned (outI (tInt l at_) at_) ∧ w' = w := by
  obtain ⟨a, cap, rfl, h⟩ := hv
  exact takeInt_any a l cap at_ w ⟨a, cap, rfl, h⟩ hn
theorem takeText_v (v : Value) (l : List UInt8) (at_ most : Int) (w : World) (hv : Sl w v l) (hn : l.length ≤ 281474976710656) :
    Calls Tryd.prog 22 #[v, .int .i64 at_, .int .i64 most] w fun e w' => e = .returned (outS (tText l at_ most) at_) ∧ w' = w := by
  obtain ⟨a, cap, rfl, h⟩ := hv
  exact takeText_any a l cap at_ most w ⟨a, cap, rfl, h⟩ hn
theorem takeKeyInt_v (v : Value) (l : List UInt8) (at_ : Int) (w : World) (hv : Sl w v l) (hn : l.length ≤ 281474976710656) :
    Calls Tryd.prog 24 #[v, .int .i64 at_] w fun e w' => e = .returned (outI (tKI l at_) at_) ∧ w' = w := by
  obtain ⟨a, cap, rfl, h⟩ := hv
  exact takeKeyInt_any a l cap at_ w ⟨a, cap, rfl, h⟩ hn
theorem takeKeyText_v (v : Value) (l : List UInt8) (at_ : Int) (w : World) (hv : Sl w v l) (hn : l.length ≤ 281474976710656) (hcnt : kcnt (l.drop at_.toNat) ≤ 140737488355328) :
    Calls Tryd.prog 26 #[v, .int .i64 at_] w fun e w' => e = .returned (outS (tKT l at_) at_) ∧ Below w.heap.size w w' := by
  obtain ⟨a, cap, rfl, h⟩ := hv
  exact takeKeyText_any a l cap at_ w ⟨a, cap, rfl, h⟩ hn hcnt
end Go.Proofs.YtpflajehakiloaaDoor
