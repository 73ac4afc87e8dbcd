/- Turning numbers of 32 bits, and one round. -/
import Derived.Test.YtcjhimakbopipaaDoorChecked
import Derived.Test.YtcjhimakbopipaaDoorMMath
import Derived.WalkKit
import Derived.WalkSpells
import Derived.WalkLawsBesides
import Derived.Laws.Bits64b
import Derived.Laws.BitsAllLaws
import Derived.Deep.QuietTactic
import Derived.Deep.WholeRow
import Derived.Handy
import Derived.Deep.RegionWith
namespace Go.Proofs.YtcjhimakbopipaaDoor
open Go Go.RowKit

theorem ret_intM {k : IntKind} {a b : Int} (h : a = b) : Ending.returned (.int k a) = .returned (.int k b) := by rw [h]
theorem hidM {p : Prop} (h : p) : Hid p := h
theorem neg31 : ∀ n : Nat, n < 32 → 0 < n → bits .and .u64 (IntKind.u64.wrap (-(n : Int))) 31 = ((32 - n : Nat) : Int) := by decide
theorem wrap_pl (a b : Nat) : IntKind.u32.wrap ((a : Int) + (b : Int)) = ((pl a b : Nat) : Int) := by
  rw [IntKind.wrap_u32']; unfold pl; omega

set_option maxHeartbeats 400000 in
theorem rotl_any (x n : Nat) (hx : x < 4294967296) (hn0 : 0 < n) (hn : n < 32) (w : World) :
    Calls Tryd.prog 52 #[.int .u32 x, .int .i64 (-(n : Int))] w fun e w' => e = .returned (.int .u32 (rr n x : Nat)) ∧ w' = w := by
  have h := neg31 n hn hn0
  have hl : ((32 - n : Nat) : Int) = 32 - (n : Int) := by omega
  rw [hl] at h
  have e1 : ((32 - (n : Int)).toNat) = 32 - n := by omega
  have e2 : IntKind.u64.wrap (32 - (32 - (n : Int))) = (n : Int) := by rw [IntKind.wrap_u64]; omega
  have e3 : IntKind.u32.wrap ((x : Int) * 2 ^ (32 - n)) = ((x * 2 ^ (32 - n) % 4294967296 : Nat) : Int) := by
    rw [IntKind.wrap_u32', Int.natCast_emod, Int.natCast_mul, Int.natCast_pow]; rfl
  have e4 : (x : Int) / 2 ^ n = ((x / 2 ^ n : Nat) : Int) := by
    rw [Int.natCast_ediv, Int.natCast_pow]; rfl
  have e5 := u32_or_nat (x * 2 ^ (32 - n) % 4294967296) (x / 2 ^ n) (Nat.mod_lt _ (by decide)) (Nat.lt_of_le_of_lt (Nat.div_le_self _ _) hx)
  have er : rr n x = (x * 2 ^ (32 - n) % 4294967296) ||| (x / 2 ^ n) := rfl
  generalize x * 2 ^ (32 - n) % 4294967296 = p at *
  generalize x / 2 ^ n = q at *
  have H := hidM e5
  clear e5 hl
  go_enter Tryd.func52, Tryd.ntmps52
  go_wp2
  go_ret
  exact ⟨ret_intM (by rw [H.out, er]), rfl⟩

set_option maxHeartbeats 400000 in
theorem rotr_any (x n : Nat) (hx : x < 4294967296) (hn0 : 0 < n) (hn : n < 32) (w : World) :
    Calls Tryd.prog 46 #[.int .u32 x, .int .i64 n] w fun e w' => e = .returned (.int .u32 (rr n x : Nat)) ∧ w' = w := by
  have H := hidM (fun w => rotl_any x n hx hn0 hn w)
  go_enter Tryd.func46, Tryd.ntmps46
  go_wp2_with fail
  refine (H.out _).mono ?_
  rintro e w ⟨rfl, rfl⟩
  go_wp2
  go_ret
  exact ⟨rfl, rfl⟩
end Go.Proofs.YtcjhimakbopipaaDoor
