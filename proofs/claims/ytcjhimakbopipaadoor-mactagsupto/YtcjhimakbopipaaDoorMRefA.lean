/- The document's small functions: turning a number, the sixty-four. -/
import Derived.Test.YtcjhimakbopipaaDoorMSum
namespace Go.Proofs.YtcjhimakbopipaaDoor
open Go Go.RowKit

set_option maxHeartbeats 400000 in
theorem refRotr_any (x n : Nat) (hx : x < 4294967296) (hn : n < 32) (w : World) :
    Calls Tryd.prog 24 #[.int .u32 x, .int .u32 n] w fun e w' => e = .returned (.int .u32 (rr n x : Nat)) ∧ w' = w := by
  have e1 : IntKind.u32.wrap (32 - (n : Int)) = ((32 - n : Nat) : Int) := by rw [IntKind.wrap_u32']; omega
  have e3 : IntKind.u32.wrap ((x : Int) * 2 ^ (32 - n)) = ((x * 2 ^ (32 - n) % 4294967296 : Nat) : Int) := by
    rw [IntKind.wrap_u32', Int.natCast_emod, Int.natCast_mul, Int.natCast_pow]; rfl
  have e4 : (x : Int) / 2 ^ n = ((x / 2 ^ n : Nat) : Int) := by
    rw [Int.natCast_ediv, Int.natCast_pow]; rfl
  have e5 := u32_or_nat (x / 2 ^ n) (x * 2 ^ (32 - n) % 4294967296) (Nat.lt_of_le_of_lt (Nat.div_le_self _ _) hx) (Nat.mod_lt _ (by decide))
  have er : rr n x = (x / 2 ^ n) ||| (x * 2 ^ (32 - n) % 4294967296) := by unfold rr; exact Nat.or_comm _ _
  have h32 : ((32 - n : Nat) : Int) ≤ 32 := by omega
  have hn' : (n : Int) ≤ 32 := by omega
  generalize x * 2 ^ (32 - n) % 4294967296 = p at *
  generalize x / 2 ^ n = q at *
  generalize 32 - n = m at *
  have H := hidM e5
  clear e5
  go_enter Tryd.func24, Tryd.ntmps24
  go_wp2
  go_ret
  exact ⟨ret_intM (by rw [H.out, er]), rfl⟩
end Go.Proofs.YtcjhimakbopipaaDoor
