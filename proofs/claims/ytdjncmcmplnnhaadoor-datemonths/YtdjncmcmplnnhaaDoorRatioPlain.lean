/- The plain mathematics of num's products and quotients: rounding to the nearest, a half to the even one, within the limits. -/
import Derived.Test.YtdjncmcmplnnhaaDoorPlain
namespace Go.Proofs.YtdjncmcmplnnhaaDoor

/-- Is a rest nearer to the next number, or halfway with an odd one? -/
def upB (n r c : Nat) : Bool := decide (c - r < r) || (decide (r = c - r) && decide (n % 2 = 1))
/-- a b / c, rounded, at most 10^15. -/
def ratN (a b c : Nat) : Nat := if 1000000000000000 ≤ a * b / c then 1000000000000000 else if upB (a * b / c) (a * b % c) c then a * b / c + 1 else a * b / c
/-- Has the quotient another sign? -/
def sgnB (a b c : Int) : Bool := (decide (a < 0) != decide (b < 0)) != decide (c < 0)
def ratI (a b c : Int) : Int := if sgnB a b c then -(ratN a.natAbs b.natAbs c.natAbs : Int) else (ratN a.natAbs b.natAbs c.natAbs : Int)

theorem ratN_le (a b c : Nat) : ratN a b c ≤ 1000000000000000 := by unfold ratN; split <;> (try split) <;> omega
theorem ratI_le (a b c : Int) : ratI a b c ≤ 1000000000000000 := by have := ratN_le a.natAbs b.natAbs c.natAbs; unfold ratI; split <;> omega
theorem ratI_ge (a b c : Int) : -1000000000000000 ≤ ratI a b c := by have := ratN_le a.natAbs b.natAbs c.natAbs; unfold ratI; split <;> omega

def mulI (a b : Int) : Int := ratI (clampI a) (clampI b) 1000000
def divI (a b : Int) : Int := if b = 0 then 0 else ratI (clampI a) 1000000 (clampI b)
theorem clampI_ne {b : Int} (h : b ≠ 0) : clampI b ≠ 0 := by unfold clampI; split <;> (try split) <;> omega
end Go.Proofs.YtdjncmcmplnnhaaDoor
