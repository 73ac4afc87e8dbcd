/- The walks of date's texts: appendDigits, digits. -/
import Derived.Test.YtdjncmcmplnnhaaDoorDFuncs
import Derived.Test.YtdjncmcmplnnhaaDoorDApp
namespace Go.Proofs.YtdjncmcmplnnhaaDoor
open Go Go.RowKit

/-- A number with so many digits. -/
def dg : Nat → Nat → List UInt8
  | 0, _ => []
  | c + 1, x => dg c (x / 10) ++ [UInt8.ofNat (48 + x % 10)]
theorem dg_len : ∀ (c x : Nat), (dg c x).length = c
  | 0, _ => rfl
  | c + 1, x => by simp [dg, dg_len c]

set_option maxRecDepth 100000 in
set_option maxHeartbeats 800000 in
theorem appDigits_any : ∀ (c x : Nat) (k : Int) (B : Nat) (v : Value) (m L : List UInt8) (w : World), m ++ dg (c + 1) x = L → k = (c : Int) + 1 → c ≤ 10 → x ≤ 100000 → m.length ≤ 1000 → w.ownsRow B 5 1 v m.length (cells8 m) → B ≤ w.heap.size →
    Calls Tryd.prog 34 #[v, .int .i64 x, .int .i64 k] w fun e w' => ∃ g cap, e = .returned (.slice (some ⟨g, 0, none⟩) L.length cap) ∧
      w'.ownsRow B 5 1 (.slice (some ⟨g, 0, none⟩) L.length cap) L.length (cells8 L) ∧ Below B w w' ∧ w.heap.size ≤ w'.heap.size := by
  intro c
  induction c with
  | zero =>
    intro x k B v m L w hL hk hc hx hm ho hB
    have hk1 : k ≤ 1 := by omega
    have hcs : (#[Value.int .u8 (48 + (x : Int) % 10)] : Array Value).toList = cells8 [UInt8.ofNat (48 + x % 10)] := by
      have : (UInt8.ofNat (48 + x % 10)).toNat = 48 + x % 10 := u8_ofNat (by omega)
      simp [cells8, cb]; omega
    have hlen : m.length + 1 = L.length := by rw [← hL]; simp [dg]
    have HL := hid (show m ++ [UInt8.ofNat (48 + x % 10)] = L from hL)
    have HN := hid hlen
    have HC := hid hcs
    have HO := hid ho
    clear hcs ho hk hL hlen
    go_enter Tryd.func34, Tryd.ntmps34
    go_wp2_with (at_builtin; refine appG [UInt8.ofNat (48 + x % 10)] _ HC.out rfl _ _ rfl B m.length 1 1 v m rfl rfl rfl (by omega) HO.out (by omega) (Below.refl B w) hB ?_; intro g cap w1 ho1 hb1 hl1)
    go_ret
    rw [HL.out, HN.out] at ho1
    refine ⟨g, cap, ?_, ho1, hb1, by omega⟩
    rw [← HN.out]; rfl
  | succ c ih =>
    intro x k B v m L w hL hk hc hx hm ho hB
    have hk1 : 1 < k := by omega
    have hk2 : k ≤ 100 := by omega
    have hcs : (#[Value.int .u8 (48 + (x : Int) % 10)] : Array Value).toList = cells8 [UInt8.ofNat (48 + x % 10)] := by
      have : (UInt8.ofNat (48 + x % 10)).toNat = 48 + x % 10 := u8_ofNat (by omega)
      simp [cells8, cb]; omega
    have HC := hid hcs
    have hml : (m ++ dg (c + 1) (x / 10)).length = m.length + (c + 1) := by rw [List.length_append, dg_len]
    have hL1 : (m ++ dg (c + 1) (x / 10)).length ≤ 2000 := by omega
    have happ : (m ++ dg (c + 1) (x / 10)) ++ [UInt8.ofNat (48 + x % 10)] = L := by rw [← hL, List.append_assoc]; rfl
    have hlen : (m ++ dg (c + 1) (x / 10)).length + 1 = L.length := by rw [← happ]; simp; omega
    have HI := hid (ih (x / 10) (k - 1) B v m _ w rfl (by omega) (by omega) (by omega) hm ho hB)
    rw [show ((x / 10 : Nat) : Int) = (x : Int) / 10 by omega] at HI
    have HAP := hid happ
    have HML := hid hlen
    clear hcs ho hk ih hL hml happ hlen
    generalize m ++ dg (c + 1) (x / 10) = m1 at *
    go_enter Tryd.func34, Tryd.ntmps34
    go_wp2_with fail
    refine HI.out.mono ?_
    rintro e w1 ⟨g1, cap1, rfl, ho1, hb1, hl1⟩
    have HO := hid ho1
    have hB1 : B ≤ w1.heap.size := by omega
    clear ho1
    go_wp2_with (at_builtin; refine appG [UInt8.ofNat (48 + x % 10)] _ HC.out rfl _ _ rfl B m1.length 1 1 _ m1 rfl rfl rfl (by omega) HO.out (by omega) hb1 hB1 ?_; intro g cap w2 ho2 hb2 hl2)
    go_ret
    rw [HAP.out, HML.out] at ho2
    refine ⟨g, cap, ?_, ho2, hb2, by omega⟩
    rw [← HML.out]; rfl
end Go.Proofs.YtdjncmcmplnnhaaDoor
