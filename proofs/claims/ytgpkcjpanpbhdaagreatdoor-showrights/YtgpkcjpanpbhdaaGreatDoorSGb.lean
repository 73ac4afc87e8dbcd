/- texts put together: SLeaf SName SSpan SAll SIsName SOneOf SKws SCur SKids SMaker ABase SCutOne -/
import Derived.Test.YtgpkcjpanpbhdaaGreatDoorSGa
import Derived.Test.YtgpkcjpanpbhdaaGreatDoorShelf
import Derived.WalkKit
import Derived.WalkSpells
import Derived.WalkLawsBesides
import Derived.Lib.CutLaws
import Derived.Lib.IndexBytes
import Derived.Deep.QuietTactic
import Derived.BigQuiet
set_option maxRecDepth 100000
set_option maxHeartbeats 4000000
namespace Go.Proofs.YtgpkcjpanpbhdaaGreatDoor
open Go Go.RowKit
def btw (a b z : Int) : Bool := decide (a ≤ z) && decide (z ≤ b)
theorem btw_in {a b z : Int} (h : a ≤ z) (h' : z ≤ b) : btw a b z = true := by unfold btw; rw [decide_eq_true h, decide_eq_true h']; rfl
theorem btw_hi {a b z : Int} (h' : ¬ z ≤ b) : btw a b z = false := by unfold btw; rw [decide_eq_false h', Bool.and_false]
theorem btw_lo {a b z : Int} (h : ¬ a ≤ z) : btw a b z = false := by unfold btw; rw [decide_eq_false h, Bool.false_and]
theorem small8_any (z : Int) (w : World) : Calls Tryz.prog 86 #[.int .u8 z] w fun e w' => e = .returned (.bool (btw 97 122 z)) ∧ w' = w := by
 by_cases h1 : (97 : Int) ≤ z
 ·by_cases h2 : z ≤ 122
  ·have HR : Hid (btw 97 122 z = true) := hid (btw_in h1 h2)
   go_enter Tryz.func86, Tryz.ntmps86
   go_wp2_with fail
   go_ret
   exact ⟨by rw [HR.out]; rfl, rfl⟩
  ·have HR : Hid (btw 97 122 z = false) := hid (btw_hi h2)
   go_enter Tryz.func86, Tryz.ntmps86
   go_wp2_with fail
   go_ret
   exact ⟨by rw [HR.out]; rfl, rfl⟩
 ·have HR : Hid (btw 97 122 z = false) := hid (btw_lo h1)
  go_enter Tryz.func86, Tryz.ntmps86
  go_wp2_with fail
  go_ret
  exact ⟨by rw [HR.out]; rfl, rfl⟩
theorem digit8_any (z : Int) (w : World) : Calls Tryz.prog 88 #[.int .u8 z] w fun e w' => e = .returned (.bool (btw 48 57 z)) ∧ w' = w := by
 by_cases h1 : (48 : Int) ≤ z
 ·by_cases h2 : z ≤ 57
  ·have HR : Hid (btw 48 57 z = true) := hid (btw_in h1 h2)
   go_enter Tryz.func88, Tryz.ntmps88
   go_wp2_with fail
   go_ret
   exact ⟨by rw [HR.out]; rfl, rfl⟩
  ·have HR : Hid (btw 48 57 z = false) := hid (btw_hi h2)
   go_enter Tryz.func88, Tryz.ntmps88
   go_wp2_with fail
   go_ret
   exact ⟨by rw [HR.out]; rfl, rfl⟩
 ·have HR : Hid (btw 48 57 z = false) := hid (btw_lo h1)
  go_enter Tryz.func88, Tryz.ntmps88
  go_wp2_with fail
  go_ret
  exact ⟨by rw [HR.out]; rfl, rfl⟩
theorem great8_any (z : Int) (w : World) : Calls Tryz.prog 91 #[.int .u8 z] w fun e w' => e = .returned (.bool (btw 65 90 z)) ∧ w' = w := by
 by_cases h1 : (65 : Int) ≤ z
 ·by_cases h2 : z ≤ 90
  ·have HR : Hid (btw 65 90 z = true) := hid (btw_in h1 h2)
   go_enter Tryz.func91, Tryz.ntmps91
   go_wp2_with fail
   go_ret
   exact ⟨by rw [HR.out]; rfl, rfl⟩
  ·have HR : Hid (btw 65 90 z = false) := hid (btw_hi h2)
   go_enter Tryz.func91, Tryz.ntmps91
   go_wp2_with fail
   go_ret
   exact ⟨by rw [HR.out]; rfl, rfl⟩
 ·have HR : Hid (btw 65 90 z = false) := hid (btw_lo h1)
  go_enter Tryz.func91, Tryz.ntmps91
  go_wp2_with fail
  go_ret
  exact ⟨by rw [HR.out]; rfl, rfl⟩
theorem letter8_any (z : Int) (w : World) : Calls Tryz.prog 146 #[.int .u8 z] w fun e w' => e = .returned (.bool (btw 97 122 z)) ∧ w' = w := by
 by_cases h1 : (97 : Int) ≤ z
 ·by_cases h2 : z ≤ 122
  ·have HR : Hid (btw 97 122 z = true) := hid (btw_in h1 h2)
   go_enter Tryz.func146, Tryz.ntmps146
   go_wp2_with fail
   go_ret
   exact ⟨by rw [HR.out]; rfl, rfl⟩
  ·have HR : Hid (btw 97 122 z = false) := hid (btw_hi h2)
   go_enter Tryz.func146, Tryz.ntmps146
   go_wp2_with fail
   go_ret
   exact ⟨by rw [HR.out]; rfl, rfl⟩
 ·have HR : Hid (btw 97 122 z = false) := hid (btw_lo h1)
  go_enter Tryz.func146, Tryz.ntmps146
  go_wp2_with fail
  go_ret
  exact ⟨by rw [HR.out]; rfl, rfl⟩
theorem capital8_any (z : Int) (w : World) : Calls Tryz.prog 183 #[.int .u8 z] w fun e w' => e = .returned (.bool (btw 65 90 z)) ∧ w' = w := by
 by_cases h1 : (65 : Int) ≤ z
 ·by_cases h2 : z ≤ 90
  ·have HR : Hid (btw 65 90 z = true) := hid (btw_in h1 h2)
   go_enter Tryz.func183, Tryz.ntmps183
   go_wp2_with fail
   go_ret
   exact ⟨by rw [HR.out]; rfl, rfl⟩
  ·have HR : Hid (btw 65 90 z = false) := hid (btw_hi h2)
   go_enter Tryz.func183, Tryz.ntmps183
   go_wp2_with fail
   go_ret
   exact ⟨by rw [HR.out]; rfl, rfl⟩
 ·have HR : Hid (btw 65 90 z = false) := hid (btw_lo h1)
  go_enter Tryz.func183, Tryz.ntmps183
  go_wp2_with fail
  go_ret
  exact ⟨by rw [HR.out]; rfl, rfl⟩
theorem upTo_any (z m : Int) (w : World) : Calls Tryz.prog 115 #[.int .i64 z, .int .i64 m] w fun e w' => e = .returned (.bool (btw 0 m z)) ∧ w' = w := by
 by_cases h1 : (0 : Int) ≤ z
 ·by_cases h2 : z ≤ m
  ·have HR : Hid (btw 0 m z = true) := hid (btw_in h1 h2)
   go_enter Tryz.func115, Tryz.ntmps115
   go_wp2_with fail
   go_ret
   exact ⟨by rw [HR.out]; rfl, rfl⟩
  ·have HR : Hid (btw 0 m z = false) := hid (btw_hi h2)
   go_enter Tryz.func115, Tryz.ntmps115
   go_wp2_with fail
   go_ret
   exact ⟨by rw [HR.out]; rfl, rfl⟩
 ·have HR : Hid (btw 0 m z = false) := hid (btw_lo h1)
  go_enter Tryz.func115, Tryz.ntmps115
  go_wp2_with fail
  go_ret
  exact ⟨by rw [HR.out]; rfl, rfl⟩
theorem q8eql (a b : Int) (r : Bool) (h : (a == b) = r) (w : World) : (binOp .eql 5 (.int .u8 a) (.int .u8 b)).run Tryz.prog w = .ok (.bool r) w := by subst h; go_simp
theorem q8leq (a b : Int) (r : Bool) (h : decide (a ≤ b) = r) (w : World) : (binOp .leq 5 (.int .u8 a) (.int .u8 b)).run Tryz.prog w = .ok (.bool r) w := by subst h; go_simp
def inr (z : Int) : Bool := btw 97 122 z || btw 48 57 z || z == 95
seal wpList in
theorem inner_any (z : Int) (w : World) : Calls Tryz.prog 122 #[.int .u8 z] w fun e w' => e = .returned (.bool (inr z)) ∧ w' = w := by
 obtain ⟨R0, hR0⟩ : ∃ r, inr z = r := ⟨_, rfl⟩
 rw [hR0]
 unfold inr at hR0
 have H1 := hid (small8_any z w)
 have H2 := hid (digit8_any z w)
 cases h1 : btw 97 122 z with
 | true =>
  rw [h1] at H1 hR0
  have HR : Hid (R0 = true) := hid (by simpa using hR0.symm)
  clear hR0
  go_enter Tryz.func122, Tryz.ntmps122
  go_upto_region 1 with fail
  refine rl ?_
  refine qv (.int .u8 z) ?_
  simp only [nA, nB, nC]
  refine qc #[.int .u8 z] ?_
  refine H1.out.mono ?_
  rintro e wz ⟨rfl, hwz⟩
  obtain rfl := hwz.symm
  refine ⟨_, rfl, ?_⟩
  try simp only [Act.put, nA, nB, nC]
  refine qv (.bool true) ?_
  simp only [nA, nB, nC]
  refine qs rfl ?_
  simp only [nA, nB, nC]
  refine qs rfl ?_
  simp only [nA, nB, nC]
  refine qv (.bool true) ?_
  refine qv (.bool true) ?_
  simp only [nA, nB, nC]
  refine qs rfl ?_
  simp only [nA, nB, nC]
  refine qs rfl ?_
  simp only [nA, nB, nC]
  refine qv (.bool true) ?_
  refine qv (.bool true) ?_
  simp only [nA, nB, nC]
  refine we ?_
  go_wp2_with fail
  go_ret
  exact ⟨by rw [HR.out]; rfl, rfl⟩
 | false => cases h2 : btw 48 57 z with
  | true =>
   rw [h1] at H1 hR0
   rw [h2] at H2 hR0
   have HR : Hid (R0 = true) := hid (by simpa using hR0.symm)
   clear hR0
   go_enter Tryz.func122, Tryz.ntmps122
   go_upto_region 1 with fail
   refine rl ?_
   refine qv (.int .u8 z) ?_
   simp only [nA, nB, nC]
   refine qc #[.int .u8 z] ?_
   refine H1.out.mono ?_
   rintro e wz ⟨rfl, hwz⟩
   obtain rfl := hwz.symm
   refine ⟨_, rfl, ?_⟩
   try simp only [Act.put, nA, nB, nC]
   refine qv (.bool false) ?_
   simp only [nA, nB, nC]
   refine qg (.int .u8 z) rfl ?_
   simp only [nA, nB, nC]
   refine wp_callg (f := 88) (args := #[.int .u8 z]) rfl (by kernel_rfl) (enter_go rfl (by kernel_rfl) (fun w => by go_simp)) ?_
   refine H2.out.mono ?_
   rintro e wz ⟨rfl, hwz⟩
   obtain rfl := hwz.symm
   refine ⟨_, rfl, ?_⟩
   try simp only [nA, nB, nC]
   refine qv (.bool true) ?_
   refine qv (.bool true) ?_
   simp only [nA, nB, nC]
   refine qs rfl ?_
   simp only [nA, nB, nC]
   refine qs rfl ?_
   simp only [nA, nB, nC]
   refine qv (.bool true) ?_
   refine qv (.bool true) ?_
   simp only [nA, nB, nC]
   refine we ?_
   go_wp2_with fail
   go_ret
   exact ⟨by rw [HR.out]; rfl, rfl⟩
  | false =>
   rw [h1] at H1 hR0
   rw [h2] at H2 hR0
   have HR : Hid ((z == 95) = R0) := hid (by simpa using hR0)
   clear hR0
   go_enter Tryz.func122, Tryz.ntmps122
   go_upto_region 1 with fail
   refine rl ?_
   refine qv (.int .u8 z) ?_
   simp only [nA, nB, nC]
   refine qc #[.int .u8 z] ?_
   refine H1.out.mono ?_
   rintro e wz ⟨rfl, hwz⟩
   obtain rfl := hwz.symm
   refine ⟨_, rfl, ?_⟩
   try simp only [Act.put, nA, nB, nC]
   refine qv (.bool false) ?_
   simp only [nA, nB, nC]
   refine qg (.int .u8 z) rfl ?_
   simp only [nA, nB, nC]
   refine wp_callg (f := 88) (args := #[.int .u8 z]) rfl (by kernel_rfl) (enter_go rfl (by kernel_rfl) (fun w => by go_simp)) ?_
   refine H2.out.mono ?_
   rintro e wz ⟨rfl, hwz⟩
   obtain rfl := hwz.symm
   refine ⟨_, rfl, ?_⟩
   try simp only [nA, nB, nC]
   refine qv (.bool false) ?_
   refine qv (.bool false) ?_
   simp only [nA, nB, nC]
   refine qg (.int .u8 z) rfl ?_
   simp only [nA, nB, nC]
   refine wp_yg (v := .bool R0) rfl (y_bin (k := .u8) (k' := .u8) (m := z) (n := 95) rfl (hr := q8eql _ _ _ HR.out)) rfl ?_
   try simp only [nA, nB, nC]
   refine qv (.bool R0) ?_
   refine qv (.bool R0) ?_
   simp only [nA, nB, nC]
   refine we ?_
   go_wp2_with fail
   go_ret
   exact ⟨rfl, rfl⟩
seal wpList in
theorem inName_any (z : Int) (w : World) : Calls Tryz.prog 148 #[.int .u8 z] w fun e w' => e = .returned (.bool (inr z)) ∧ w' = w := by
 obtain ⟨R0, hR0⟩ : ∃ r, inr z = r := ⟨_, rfl⟩
 rw [hR0]
 unfold inr at hR0
 have H1 := hid (letter8_any z w)
 cases h1 : btw 97 122 z with
 | true =>
  rw [h1] at H1 hR0
  have HR : Hid (R0 = true) := hid (by simpa using hR0.symm)
  clear hR0
  go_enter Tryz.func148, Tryz.ntmps148
  go_upto_region 1 with fail
  refine rl ?_
  refine qv (.int .u8 z) ?_
  simp only [nA, nB, nC]
  refine qc #[.int .u8 z] ?_
  refine H1.out.mono ?_
  rintro e wz ⟨rfl, hwz⟩
  obtain rfl := hwz.symm
  refine ⟨_, rfl, ?_⟩
  try simp only [Act.put, nA, nB, nC]
  refine qv (.bool true) ?_
  simp only [nA, nB, nC]
  refine qs rfl ?_
  simp only [nA, nB, nC]
  refine qs rfl ?_
  simp only [nA, nB, nC]
  refine qs rfl ?_
  simp only [nA, nB, nC]
  refine qs rfl ?_
  simp only [nA, nB, nC]
  refine qs rfl ?_
  simp only [nA, nB, nC]
  refine qs rfl ?_
  simp only [nA, nB, nC]
  refine qv (.bool true) ?_
  refine qv (.bool true) ?_
  simp only [nA, nB, nC]
  refine qs rfl ?_
  simp only [nA, nB, nC]
  refine qs rfl ?_
  simp only [nA, nB, nC]
  refine qv (.bool true) ?_
  refine qv (.bool true) ?_
  simp only [nA, nB, nC]
  refine we ?_
  go_wp2_with fail
  go_ret
  exact ⟨by rw [HR.out]; rfl, rfl⟩
 | false =>
  by_cases h2 : (48 : Int) ≤ z
  ·by_cases h3 : z ≤ 57
   ·rw [h1] at H1 hR0
    rw [btw_in h2 h3] at hR0
    have HR : Hid (R0 = true) := hid (by simpa using hR0.symm)
    have H2 := hid (decide_eq_true h2)
    have H3 := hid (decide_eq_true h3)
    clear hR0
    go_enter Tryz.func148, Tryz.ntmps148
    go_upto_region 1 with fail
    refine rl ?_
    refine qv (.int .u8 z) ?_
    simp only [nA, nB, nC]
    refine qc #[.int .u8 z] ?_
    refine H1.out.mono ?_
    rintro e wz ⟨rfl, hwz⟩
    obtain rfl := hwz.symm
    refine ⟨_, rfl, ?_⟩
    try simp only [Act.put, nA, nB, nC]
    refine qv (.bool false) ?_
    simp only [nA, nB, nC]
    refine qg (.int .u8 z) rfl ?_
    simp only [nA, nB, nC]
    refine wp_yg (v := .bool true) rfl (y_bin (k := .u8) (k' := .u8) (m := 48) (n := z) rfl (hr := q8leq _ _ _ H2.out)) rfl ?_
    try simp only [nA, nB, nC]
    refine qg (.bool true) rfl ?_
    simp only [nA, nB, nC]
    refine qg (.int .u8 z) rfl ?_
    simp only [nA, nB, nC]
    refine wp_yg (v := .bool true) rfl (y_bin (k := .u8) (k' := .u8) (m := z) (n := 57) rfl (hr := q8leq _ _ _ H3.out)) rfl ?_
    try simp only [nA, nB, nC]
    refine qg (.bool true) rfl ?_
    simp only [nA, nB, nC]
    refine qv (.bool true) ?_
    refine qv (.bool true) ?_
    simp only [nA, nB, nC]
    refine qs rfl ?_
    simp only [nA, nB, nC]
    refine qs rfl ?_
    simp only [nA, nB, nC]
    refine qv (.bool true) ?_
    refine qv (.bool true) ?_
    simp only [nA, nB, nC]
    refine we ?_
    go_wp2_with fail
    go_ret
    exact ⟨by rw [HR.out]; rfl, rfl⟩
   ·rw [h1] at H1 hR0
    rw [btw_hi h3] at hR0
    have HR : Hid ((z == 95) = R0) := hid (by simpa using hR0)
    have H2 := hid (decide_eq_true h2)
    have H3 := hid (decide_eq_false h3)
    clear hR0
    go_enter Tryz.func148, Tryz.ntmps148
    go_upto_region 1 with fail
    refine rl ?_
    refine qv (.int .u8 z) ?_
    simp only [nA, nB, nC]
    refine qc #[.int .u8 z] ?_
    refine H1.out.mono ?_
    rintro e wz ⟨rfl, hwz⟩
    obtain rfl := hwz.symm
    refine ⟨_, rfl, ?_⟩
    try simp only [Act.put, nA, nB, nC]
    refine qv (.bool false) ?_
    simp only [nA, nB, nC]
    refine qg (.int .u8 z) rfl ?_
    simp only [nA, nB, nC]
    refine wp_yg (v := .bool true) rfl (y_bin (k := .u8) (k' := .u8) (m := 48) (n := z) rfl (hr := q8leq _ _ _ H2.out)) rfl ?_
    try simp only [nA, nB, nC]
    refine qg (.bool true) rfl ?_
    simp only [nA, nB, nC]
    refine qg (.int .u8 z) rfl ?_
    simp only [nA, nB, nC]
    refine wp_yg (v := .bool false) rfl (y_bin (k := .u8) (k' := .u8) (m := z) (n := 57) rfl (hr := q8leq _ _ _ H3.out)) rfl ?_
    try simp only [nA, nB, nC]
    refine qg (.bool false) rfl ?_
    simp only [nA, nB, nC]
    refine qv (.bool false) ?_
    refine qv (.bool false) ?_
    simp only [nA, nB, nC]
    refine qg (.int .u8 z) rfl ?_
    simp only [nA, nB, nC]
    refine wp_yg (v := .bool R0) rfl (y_bin (k := .u8) (k' := .u8) (m := z) (n := 95) rfl (hr := q8eql _ _ _ HR.out)) rfl ?_
    try simp only [nA, nB, nC]
    refine qv (.bool R0) ?_
    refine qv (.bool R0) ?_
    simp only [nA, nB, nC]
    refine we ?_
    go_wp2_with fail
    go_ret
    exact ⟨rfl, rfl⟩
  ·rw [h1] at H1 hR0
   rw [btw_lo h2] at hR0
   have HR : Hid ((z == 95) = R0) := hid (by simpa using hR0)
   have H2 := hid (decide_eq_false h2)
   clear hR0
   go_enter Tryz.func148, Tryz.ntmps148
   go_upto_region 1 with fail
   refine rl ?_
   refine qv (.int .u8 z) ?_
   simp only [nA, nB, nC]
   refine qc #[.int .u8 z] ?_
   refine H1.out.mono ?_
   rintro e wz ⟨rfl, hwz⟩
   obtain rfl := hwz.symm
   refine ⟨_, rfl, ?_⟩
   try simp only [Act.put, nA, nB, nC]
   refine qv (.bool false) ?_
   simp only [nA, nB, nC]
   refine qg (.int .u8 z) rfl ?_
   simp only [nA, nB, nC]
   refine wp_yg (v := .bool false) rfl (y_bin (k := .u8) (k' := .u8) (m := 48) (n := z) rfl (hr := q8leq _ _ _ H2.out)) rfl ?_
   try simp only [nA, nB, nC]
   refine qg (.bool false) rfl ?_
   simp only [nA, nB, nC]
   refine qs rfl ?_
   simp only [nA, nB, nC]
   refine qs rfl ?_
   simp only [nA, nB, nC]
   refine qg (.bool false) rfl ?_
   simp only [nA, nB, nC]
   refine qv (.bool false) ?_
   refine qv (.bool false) ?_
   simp only [nA, nB, nC]
   refine qg (.int .u8 z) rfl ?_
   simp only [nA, nB, nC]
   refine wp_yg (v := .bool R0) rfl (y_bin (k := .u8) (k' := .u8) (m := z) (n := 95) rfl (hr := q8eql _ _ _ HR.out)) rfl ?_
   try simp only [nA, nB, nC]
   refine qv (.bool R0) ?_
   refine qv (.bool R0) ?_
   simp only [nA, nB, nC]
   refine we ?_
   go_wp2_with fail
   go_ret
   exact ⟨rfl, rfl⟩
theorem strIdx (l : List UInt8) (i : Nat) (h : i < l.length) (w : World) : (Instr.index 9 (strV l) (.int .i64 i)).run Tryz.prog w = .ok (.int .u8 ((l.getD i 0).toNat : Nat)) w := by
 have h1 : (i : Int) < l.length := by omega
 have h2 : (⟨l.toArray⟩ : ByteArray).size = l.length := by simp [ByteArray.size]
 have h3 : (⟨l.toArray⟩ : ByteArray)[i]'(by rw [h2]; exact h) = l.getD i 0 := by simp [List.getD, h, ByteArray.getElem_eq_getElem_data]
 unfold strV
 go_simp
theorem y_lenS {ops : Array Oper} {S : World → Prop} {o : Oper} {a : Act} {x : Operand} {s : ByteArray} {n : Nat} (hop : o.op = .call { callee := .builtin .len, args := #[x], argTypes := #[9] }) (hw : Region.wanted o (yielded ops a.tmps) = true) (hx : a.eval x = .string s) (hn : s.size = n) : YieldsIf Tryz.prog ops S o (.int .i64 n) a :=
 .inl ⟨hw, fun w _ => by
  subst hn
  have h1 : (Builtin.len_ #[9] o.type #[a.eval x]).run Tryz.prog w = .ok (.int .i64 s.size) w := by rw [hx]; go_simp
  unfold execOp
  simp only [hop, resolve, invoke, builtin, Sem.run_bind, Sem.run_pure, Result.andThen_ok, List.map_toArray, List.map_cons, List.map_nil, h1]⟩
theorem size_strV (l : List UInt8) : (⟨l.toArray⟩ : ByteArray).size = l.length := by simp [ByteArray.size]
def inr8 (c : UInt8) : Bool := inr (c.toNat : Nat)
def spn : List UInt8 → Nat
 | [] => 0
 | c :: r => if btw 97 122 (c.toNat : Nat) then 1 + (r.takeWhile inr8).length else 0
theorem drop_get {l : List UInt8} {i : Nat} (h : i < l.length) : l.drop i = l.getD i 0 :: l.drop (i + 1) := by
 rw [List.drop_eq_getElem_cons h]
 simp [List.getD, h]
theorem tw_step {r : List UInt8} {j : Nat} (hj : j < r.length) (ha : (r.take j).all inr8 = true) (hb : inr8 (r.getD j 0) = true) : (r.take (j + 1)).all inr8 = true := by
 rw [List.take_add_one, List.all_append, ha]
 simpa [List.getD, hj] using hb
theorem tw_end {r : List UInt8} {j : Nat} (hj : j ≤ r.length) (ha : (r.take j).all inr8 = true) (hb : j < r.length → inr8 (r.getD j 0) = false) : (r.takeWhile inr8).length = j := by
 induction j generalizing r with
 | zero =>
  cases r with
  | nil => rfl
  | cons c r => have := hb (by simp); simp at this; simp [List.takeWhile, this]
 | succ j ih =>
  cases r with
  | nil => simp at hj
  | cons c r =>
   rw [List.take_succ_cons, List.all_cons, Bool.and_eq_true] at ha
   rw [List.takeWhile_cons, if_pos ha.1, List.length_cons, ih (by simpa using hj) ha.2 (fun h => by have := hb (by simpa using h); simpa using this)]
seal wpList in
theorem span_any (l : List UInt8) (i : Nat) (w : World) (hl : l.length ≤ 9223372036854775807) (hi0 : i ≤ 9223372036854775807) : Calls Tryz.prog 81 #[strV l, .int .i64 i] w fun e w' => e = .returned (.int .i64 (spn (l.drop i) : Nat)) ∧ w' = w := by
 have HL := hid (And.intro hl hi0)
 have HSZ := hid (size_strV l)
 clear hl hi0
 by_cases hi : i < l.length
 case neg =>
  have HG : Hid (decide ((l.length : Int) ≤ (i : Int)) = true) := hid (decide_eq_true (by omega))
  have HR : Hid (spn (l.drop i) = 0) := hid (by rw [List.drop_eq_nil_of_le (by omega)]; rfl)
  go_enter Tryz.func81, Tryz.ntmps81
  go_upto_region 1 with fail
  refine rl ?_
  refine qv (.int .i64 (i : Nat)) ?_
  refine qv (strV l) ?_
  simp only [nA, nB, nC]
  refine wp_y (v := .int .i64 (l.length : Nat)) rfl rfl (y_lenS (s := ⟨l.toArray⟩) rfl (by kernel_rfl) (by kernel_rfl) HSZ.out) rfl ?_
  simp only [nA, nB, nC]
  refine wp_y (v := .bool true) rfl rfl (y_bin (k := .i64) (k' := .i64) (m := (i : Nat)) (n := (l.length : Nat)) rfl (hr := qgeq _ _ _ HG.out)) rfl ?_
  simp only [nA, nB, nC]
  refine we ?_
  go_wp2_with fail
  go_ret
  exact ⟨by rw [HR.out]; rfl, rfl⟩
 have HG : Hid (decide ((l.length : Int) ≤ (i : Int)) = false) := hid (decide_eq_false (by omega))
 have HI := hid hi
 obtain ⟨C, hC⟩ : ∃ C, l.getD i 0 = C := ⟨_, rfl⟩
 have HIX := hid (strIdx l i hi)
 rw [hC] at HIX
 have hd := drop_get hi
 rw [hC] at hd
 have H1 := hid (small8_any (C.toNat : Nat) w)
 cases hs : btw 97 122 (C.toNat : Nat) with
 | false =>
  rw [hs] at H1
  have HR : Hid (spn (l.drop i) = 0) := hid (by rw [hd, spn, hs]; rfl)
  clear hs hd hC hi
  go_enter Tryz.func81, Tryz.ntmps81
  go_upto_region 1 with fail
  refine rl ?_
  refine qv (.int .i64 (i : Nat)) ?_
  refine qv (strV l) ?_
  simp only [nA, nB, nC]
  refine wp_y (v := .int .i64 (l.length : Nat)) rfl rfl (y_lenS (s := ⟨l.toArray⟩) rfl (by kernel_rfl) (by kernel_rfl) HSZ.out) rfl ?_
  simp only [nA, nB, nC]
  refine wp_y (v := .bool false) rfl rfl (y_bin (k := .i64) (k' := .i64) (m := (i : Nat)) (n := (l.length : Nat)) rfl (hr := qgeq _ _ _ HG.out)) rfl ?_
  simp only [nA, nB, nC]
  refine we ?_
  go_upto_region 3 with fail
  refine rl ?_
  refine qv (strV l) ?_
  refine qv (.int .i64 (i : Nat)) ?_
  simp only [nA, nB, nC]
  refine wp_y (v := .int .u8 (C.toNat : Nat)) rfl rfl (y_idx rfl (by kernel_rfl) (by kernel_rfl) (by kernel_rfl) HIX.out) rfl ?_
  simp only [nA, nB, nC]
  refine qc #[.int .u8 (C.toNat : Nat)] ?_
  refine H1.out.mono ?_
  rintro e wz ⟨rfl, hwz⟩
  obtain rfl := hwz.symm
  refine ⟨_, rfl, ?_⟩
  try simp only [Act.put, nA, nB, nC]
  refine qv (.bool false) ?_
  simp only [nA, nB, nC]
  refine we ?_
  go_wp2_with fail
  go_ret
  exact ⟨by rw [HR.out]; rfl, rfl⟩
 | true =>
  rw [hs] at H1
  have HR : Hid (spn (l.drop i) = 1 + ((l.drop (i + 1)).takeWhile inr8).length) := hid (by rw [hd, spn, hs]; rfl)
  clear hs hd hC hi
  obtain ⟨r, hr⟩ : ∃ r, l.drop (i + 1) = r := ⟨_, rfl⟩
  rw [hr] at HR
  have HD : Hid (r.length = l.length - (i + 1) ∧ ∀ j, j < r.length → r.getD j 0 = l.getD (i + (1 + j)) 0) := hid ⟨by rw [← hr]; simp, fun j hj => by rw [← hr]; simp [List.getD, Nat.add_assoc]⟩
  clear hr
  go_enter Tryz.func81, Tryz.ntmps81
  go_upto_region 1 with fail
  refine rl ?_
  refine qv (.int .i64 (i : Nat)) ?_
  refine qv (strV l) ?_
  simp only [nA, nB, nC]
  refine wp_y (v := .int .i64 (l.length : Nat)) rfl rfl (y_lenS (s := ⟨l.toArray⟩) rfl (by kernel_rfl) (by kernel_rfl) HSZ.out) rfl ?_
  simp only [nA, nB, nC]
  refine wp_y (v := .bool false) rfl rfl (y_bin (k := .i64) (k' := .i64) (m := (i : Nat)) (n := (l.length : Nat)) rfl (hr := qgeq _ _ _ HG.out)) rfl ?_
  simp only [nA, nB, nC]
  refine we ?_
  go_upto_region 3 with fail
  refine rl ?_
  refine qv (strV l) ?_
  refine qv (.int .i64 (i : Nat)) ?_
  simp only [nA, nB, nC]
  refine wp_y (v := .int .u8 (C.toNat : Nat)) rfl rfl (y_idx rfl (by kernel_rfl) (by kernel_rfl) (by kernel_rfl) HIX.out) rfl ?_
  simp only [nA, nB, nC]
  refine qc #[.int .u8 (C.toNat : Nat)] ?_
  refine H1.out.mono ?_
  rintro e wz ⟨rfl, hwz⟩
  obtain rfl := hwz.symm
  refine ⟨_, rfl, ?_⟩
  try simp only [Act.put, nA, nB, nC]
  refine qv (.bool true) ?_
  simp only [nA, nB, nC]
  refine we ?_
  clear H1 HIX HG
  go_wp2_with fail
  go_loopw [6] (fun v6 wr => ∃ j : Nat, j ≤ r.length ∧ v6 = .int .i64 (1 + j : Nat) ∧ (r.take j).all inr8 = true ∧ wr = w) (fun v6 _ => 1 + r.length - (intOf v6).toNat)
  case atStart => exact ⟨0, Nat.zero_le _, rfl, by simp, rfl⟩
  case round =>
   obtain ⟨j, hj, rfl, ha, rfl⟩ := hrel
   have hD := HD.out
   have hi := HI.out
   have hll := HL.out
   have hsum : IntKind.i64.wrap ((i : Int) + ((1 + j : Nat) : Int)) = ((i + (1 + j) : Nat) : Int) := by rw [IntWalk.i64_in _ ⟨by omega, by omega⟩]; omega
   have HSM := hid hsum
   by_cases hlt : j < r.length
   ·have HLT : Hid (decide (((i + (1 + j) : Nat) : Int) < (l.length : Int)) = true) := hid (decide_eq_true (by omega))
    have HIX := hid (strIdx l (i + (1 + j)) (by omega))
    rw [← hD.2 j hlt] at HIX
    obtain ⟨C2, hC2⟩ : ∃ c, r.getD j 0 = c := ⟨_, rfl⟩
    rw [hC2] at HIX
    have HIN := hid (inner_any (C2.toNat : Nat) wr)
    cases hin : inr (C2.toNat : Nat) with
    | true =>
     rw [hin] at HIN
     have HZ : Hid (j + 1 ≤ r.length ∧ (r.take (j + 1)).all inr8 = true) := hid ⟨hlt, tw_step hlt ha (by rw [hC2]; exact hin)⟩
     have hwk : IntKind.i64.wrap (1 + (j : Int) + 1) = 1 + (j : Int) + 1 := by rw [IntWalk.i64_in _ ⟨by omega, by omega⟩]
     clear hin hC2 hlt hsum hD hi hll ha hj
     go_upto_region 7 with fail
     refine rl ?_
     refine qv (.int .i64 (i : Nat)) ?_
     refine qv (.int .i64 (1 + j : Nat)) ?_
     simp only [nA, nB, nC]
     refine wp_y (v := .int .i64 (i + (1 + j) : Nat)) rfl rfl (y_bin (k := .i64) (k' := .i64) (m := (i : Nat)) (n := (1 + j : Nat)) rfl (hr := qadd _ _ _ HSM.out)) rfl ?_
     simp only [nA, nB, nC]
     refine qv (strV l) ?_
     simp only [nA, nB, nC]
     refine wp_y (v := .int .i64 (l.length : Nat)) rfl rfl (y_lenS (s := ⟨l.toArray⟩) rfl (by kernel_rfl) (by kernel_rfl) HSZ.out) rfl ?_
     simp only [nA, nB, nC]
     refine wp_y (v := .bool true) rfl rfl (y_bin (k := .i64) (k' := .i64) (m := (i + (1 + j) : Nat)) (n := (l.length : Nat)) rfl (hr := qlss _ _ _ HLT.out)) rfl ?_
     simp only [nA, nB, nC]
     refine qv (.bool true) ?_
     simp only [nA, nB, nC]
     refine qg (strV l) rfl ?_
     simp only [nA, nB, nC]
     refine qg (.int .i64 (i : Nat)) rfl ?_
     simp only [nA, nB, nC]
     refine qg (.int .i64 (1 + j : Nat)) rfl ?_
     simp only [nA, nB, nC]
     refine wp_yg (v := .int .i64 (i + (1 + j) : Nat)) rfl (y_bin (k := .i64) (k' := .i64) (m := (i : Nat)) (n := (1 + j : Nat)) rfl (hr := qadd _ _ _ HSM.out)) rfl ?_
     try simp only [nA, nB, nC]
     refine wp_yg (v := .int .u8 (C2.toNat : Nat)) rfl (y_idx rfl (by kernel_rfl) (by kernel_rfl) (by kernel_rfl) HIX.out) rfl ?_
     try simp only [nA, nB, nC]
     refine wp_callg (f := 122) (args := #[.int .u8 (C2.toNat : Nat)]) rfl (by kernel_rfl) (enter_go rfl (by kernel_rfl) (fun w => by go_simp)) ?_
     refine HIN.out.mono ?_
     rintro e wz ⟨rfl, hwz⟩
     obtain rfl := hwz.symm
     refine ⟨_, rfl, ?_⟩
     try simp only [nA, nB, nC]
     refine qv (.bool true) ?_
     simp only [nA, nB, nC]
     refine we ?_
     go_wp2_with fail
     exact ⟨⟨j + 1, HZ.out.1, by rw [show ((1 + (j + 1) : Nat) : Int) = 1 + (j : Int) + 1 by omega], HZ.out.2, trivial⟩, by have := HZ.out.1; simp [intOf]; omega⟩
    | false =>
     rw [hin] at HIN
     have HZ : Hid (spn (l.drop i) = 1 + j) := hid (by rw [HR.out, tw_end hj ha (fun _ => by rw [hC2]; exact hin)])
     clear hin hC2 hlt hsum hD hi hll ha hj
     go_upto_region 7 with fail
     refine rl ?_
     refine qv (.int .i64 (i : Nat)) ?_
     refine qv (.int .i64 (1 + j : Nat)) ?_
     simp only [nA, nB, nC]
     refine wp_y (v := .int .i64 (i + (1 + j) : Nat)) rfl rfl (y_bin (k := .i64) (k' := .i64) (m := (i : Nat)) (n := (1 + j : Nat)) rfl (hr := qadd _ _ _ HSM.out)) rfl ?_
     simp only [nA, nB, nC]
     refine qv (strV l) ?_
     simp only [nA, nB, nC]
     refine wp_y (v := .int .i64 (l.length : Nat)) rfl rfl (y_lenS (s := ⟨l.toArray⟩) rfl (by kernel_rfl) (by kernel_rfl) HSZ.out) rfl ?_
     simp only [nA, nB, nC]
     refine wp_y (v := .bool true) rfl rfl (y_bin (k := .i64) (k' := .i64) (m := (i + (1 + j) : Nat)) (n := (l.length : Nat)) rfl (hr := qlss _ _ _ HLT.out)) rfl ?_
     simp only [nA, nB, nC]
     refine qv (.bool true) ?_
     simp only [nA, nB, nC]
     refine qg (strV l) rfl ?_
     simp only [nA, nB, nC]
     refine qg (.int .i64 (i : Nat)) rfl ?_
     simp only [nA, nB, nC]
     refine qg (.int .i64 (1 + j : Nat)) rfl ?_
     simp only [nA, nB, nC]
     refine wp_yg (v := .int .i64 (i + (1 + j) : Nat)) rfl (y_bin (k := .i64) (k' := .i64) (m := (i : Nat)) (n := (1 + j : Nat)) rfl (hr := qadd _ _ _ HSM.out)) rfl ?_
     try simp only [nA, nB, nC]
     refine wp_yg (v := .int .u8 (C2.toNat : Nat)) rfl (y_idx rfl (by kernel_rfl) (by kernel_rfl) (by kernel_rfl) HIX.out) rfl ?_
     try simp only [nA, nB, nC]
     refine wp_callg (f := 122) (args := #[.int .u8 (C2.toNat : Nat)]) rfl (by kernel_rfl) (enter_go rfl (by kernel_rfl) (fun w => by go_simp)) ?_
     refine HIN.out.mono ?_
     rintro e wz ⟨rfl, hwz⟩
     obtain rfl := hwz.symm
     refine ⟨_, rfl, ?_⟩
     try simp only [nA, nB, nC]
     refine qv (.bool false) ?_
     simp only [nA, nB, nC]
     refine we ?_
     go_wp2_with fail
     go_ret
     exact ⟨by rw [HZ.out]; rfl, rfl⟩
   ·have HLT : Hid (decide (((i + (1 + j) : Nat) : Int) < (l.length : Int)) = false) := hid (decide_eq_false (by omega))
    have HZ : Hid (spn (l.drop i) = 1 + j) := hid (by rw [HR.out, tw_end hj ha (fun h => absurd h hlt)])
    clear hlt hsum hD hi hll ha hj
    go_upto_region 7 with fail
    refine rl ?_
    refine qv (.int .i64 (i : Nat)) ?_
    refine qv (.int .i64 (1 + j : Nat)) ?_
    simp only [nA, nB, nC]
    refine wp_y (v := .int .i64 (i + (1 + j) : Nat)) rfl rfl (y_bin (k := .i64) (k' := .i64) (m := (i : Nat)) (n := (1 + j : Nat)) rfl (hr := qadd _ _ _ HSM.out)) rfl ?_
    simp only [nA, nB, nC]
    refine qv (strV l) ?_
    simp only [nA, nB, nC]
    refine wp_y (v := .int .i64 (l.length : Nat)) rfl rfl (y_lenS (s := ⟨l.toArray⟩) rfl (by kernel_rfl) (by kernel_rfl) HSZ.out) rfl ?_
    simp only [nA, nB, nC]
    refine wp_y (v := .bool false) rfl rfl (y_bin (k := .i64) (k' := .i64) (m := (i + (1 + j) : Nat)) (n := (l.length : Nat)) rfl (hr := qlss _ _ _ HLT.out)) rfl ?_
    simp only [nA, nB, nC]
    refine qv (.bool false) ?_
    simp only [nA, nB, nC]
    refine qs rfl ?_
    simp only [nA, nB, nC]
    refine qs rfl ?_
    simp only [nA, nB, nC]
    refine qs rfl ?_
    simp only [nA, nB, nC]
    refine qs rfl ?_
    simp only [nA, nB, nC]
    refine qs rfl ?_
    simp only [nA, nB, nC]
    refine qs rfl ?_
    simp only [nA, nB, nC]
    refine qv (.bool false) ?_
    simp only [nA, nB, nC]
    refine we ?_
    go_wp2_with fail
    go_ret
    exact ⟨by rw [HZ.out]; rfl, rfl⟩
theorem enter_val {o : Oper} {a : Act} {x : Operand} {f : FuncId} {xs : Array Operand} {ats : Array TypeId} {args : Array Value} (hop : o.op = .call { callee := .value x, args := xs, argTypes := ats }) (hx : a.eval x = .func (.func f) #[] #[]) (hxs : #[] ++ xs.map a.eval ++ #[] = args)
  (hf : ∀ w, (callFunc f args).run Tryz.prog w = .ok (.enter f args) w) : ∀ w, (execOp a.eval o).run Tryz.prog w = .ok (.enter f args) w := by
 intro w
 have e : execOp a.eval o = callFunc f (#[] ++ xs.map a.eval ++ #[]) := by unfold execOp; rw [hop]; simp only [resolve, hx]; rfl
 rw [e, hxs, hf w]
seal wpList in
theorem areAll_any (f : FuncId) (P : Int → Bool) (hf : ∀ (z : Int) (w : World), Calls Tryz.prog f #[.int .u8 z] w fun e w' => e = .returned (.bool (P z)) ∧ w' = w) (hcf : ∀ (z : Int) (w : World), (callFunc f #[.int .u8 z]).run Tryz.prog w = .ok (.enter f #[.int .u8 z]) w)
  (l : List UInt8) (w : World) (hl : l.length ≤ 9223372036854775807) : Calls Tryz.prog 147 #[strV l, .func (.func f) #[] #[]] w fun e w' => e = .returned (.bool (l.all fun c => P (c.toNat : Nat))) ∧ w' = w := by
 have HL := hid hl
 have HSZ := hid (size_strV l)
 have HCF := hid hcf
 have HFC := hid hf
 obtain ⟨Z, hZ⟩ : ∃ Z, (l.all fun c => P (c.toNat : Nat)) = Z := ⟨_, rfl⟩
 rw [hZ]
 have HZ := hid hZ
 clear hl hcf hf hZ
 go_enter Tryz.func147, Tryz.ntmps147
 go_upto_region 1 with fail
 refine rl ?_
 refine qv (strV l) ?_
 simp only [nA, nB, nC]
 refine wp_y (v := .int .i64 (l.length : Nat)) rfl rfl (y_lenS (s := ⟨l.toArray⟩) rfl (by kernel_rfl) (by kernel_rfl) HSZ.out) rfl ?_
 simp only [nA, nB, nC]
 refine qv (.int .i64 0) ?_
 simp only [nA, nB, nC]
 refine we ?_
 go_wp2_with fail
 go_loopw [8] (fun v8 wr => ∃ j : Nat, j ≤ l.length ∧ v8 = .int .i64 j ∧ ((l.take j).all fun c => P (c.toNat : Nat)) = true ∧ wr = w) (fun v8 _ => l.length - (intOf v8).toNat)
 case atStart => exact ⟨0, Nat.zero_le _, rfl, by simp, rfl⟩
 case round =>
  obtain ⟨j, hj, rfl, ha, rfl⟩ := hrel
  have hll := HL.out
  by_cases hlt : j < l.length
  ·have hlt' : (j : Int) < (l.length : Int) := by omega
   have HIX := hid (strIdx l j hlt)
   obtain ⟨C, hC⟩ : ∃ c, l.getD j 0 = c := ⟨_, rfl⟩
   have hC' : l[j]? = some C := by rw [← hC]; simp [List.getD, hlt]
   rw [hC] at HIX
   have HCA := hid (HFC.out (C.toNat : Nat) wr)
   cases hp : P (C.toNat : Nat) with
   | true =>
    rw [hp] at HCA
    have HY : Hid (j + 1 ≤ l.length ∧ ((l.take (j + 1)).all fun c => P (c.toNat : Nat)) = true) := hid ⟨hlt, by rw [List.take_add_one, List.all_append, ha, hC']; simpa using hp⟩
    have hwk : IntKind.i64.wrap ((j : Int) + 1) = ((j + 1 : Nat) : Int) := by rw [IntWalk.i64_in _ ⟨by omega, by omega⟩]; omega
    clear hp hC hC' hlt hll ha hj
    go_upto_region 4 with fail
    refine rl ?_
    refine qv (.func (.func f) #[] #[]) ?_
    refine qv (strV l) ?_
    refine qv (.int .i64 (j : Nat)) ?_
    simp only [nA, nB, nC]
    refine wp_y (v := .int .u8 (C.toNat : Nat)) rfl rfl (y_idx rfl (by kernel_rfl) (by kernel_rfl) (by kernel_rfl) HIX.out) rfl ?_
    simp only [nA, nB, nC]
    refine wp_callg (f := f) (args := #[.int .u8 (C.toNat : Nat)]) rfl (by kernel_rfl) (enter_val rfl (by kernel_rfl) (by kernel_rfl) (HCF.out _)) ?_
    refine HCA.out.mono ?_
    rintro e wz ⟨rfl, hwz⟩
    obtain rfl := hwz.symm
    refine ⟨_, rfl, ?_⟩
    try simp only [nA, nB, nC]
    refine wp_y (v := .bool (!true)) rfl rfl (y_un rfl (by kernel_rfl) (by kernel_rfl) (qnotB _)) rfl ?_
    simp only [nA, nB, nC]
    refine we ?_
    go_wp2_with fail
    exact ⟨⟨j + 1, HY.out.1, rfl, HY.out.2, trivial⟩, by have := HY.out.1; simp [intOf]; omega⟩
   | false =>
    rw [hp] at HCA
    have HY : Hid (Z = false) := hid (by rw [← HZ.out]; exact List.all_eq_false.2 ⟨C, List.mem_of_getElem? hC', by simp [hp]⟩)
    clear hp hC hC' hlt hll ha hj
    go_upto_region 4 with fail
    refine rl ?_
    refine qv (.func (.func f) #[] #[]) ?_
    refine qv (strV l) ?_
    refine qv (.int .i64 (j : Nat)) ?_
    simp only [nA, nB, nC]
    refine wp_y (v := .int .u8 (C.toNat : Nat)) rfl rfl (y_idx rfl (by kernel_rfl) (by kernel_rfl) (by kernel_rfl) HIX.out) rfl ?_
    simp only [nA, nB, nC]
    refine wp_callg (f := f) (args := #[.int .u8 (C.toNat : Nat)]) rfl (by kernel_rfl) (enter_val rfl (by kernel_rfl) (by kernel_rfl) (HCF.out _)) ?_
    refine HCA.out.mono ?_
    rintro e wz ⟨rfl, hwz⟩
    obtain rfl := hwz.symm
    refine ⟨_, rfl, ?_⟩
    try simp only [nA, nB, nC]
    refine wp_y (v := .bool (!false)) rfl rfl (y_un rfl (by kernel_rfl) (by kernel_rfl) (qnotB _)) rfl ?_
    simp only [nA, nB, nC]
    refine we ?_
    go_wp2_with fail
    go_ret
    exact ⟨by rw [HY.out]; rfl, rfl⟩
  ·have hjl : j = l.length := by omega
   subst j
   have hlt' : ¬ (l.length : Int) < (l.length : Int) := by omega
   have HY : Hid (Z = true) := hid (by rw [← HZ.out, ← ha, List.take_length])
   clear hlt hll ha hj
   go_wp2_with fail
   go_ret
   exact ⟨by rw [HY.out]; rfl, rfl⟩
def nam (l : List UInt8) : Bool := decide (0 < l.length) && decide (l.length ≤ 24) && decide (spn l = l.length)
theorem tw_all : ∀ r : List UInt8, (r.takeWhile inr8).length = r.length ↔ r.all inr8 = true
 | [] => by simp
 | c :: r => by
  cases h : inr8 c with
  | true => rw [List.takeWhile_cons, if_pos h, List.all_cons, h, Bool.true_and, ← tw_all r]; simp
  | false => simp [h]
theorem spn_all (c : UInt8) (r : List UInt8) : decide (spn (c :: r) = (c :: r).length) = (btw 97 122 (c.toNat : Nat) && (c :: r).all inr8) := by
 cases h : btw 97 122 (c.toNat : Nat) with
 | false => simp [spn, h]
 | true =>
  have hc : inr8 c = true := by simp [inr8, inr, h]
  rw [spn, h, List.all_cons, hc, Bool.true_and, Bool.true_and, if_pos rfl, List.length_cons]
  have := tw_all r
  cases ha : r.all inr8 with
  | true => rw [this.2 ha]; simp; omega
  | false =>
   have hn : ¬ (r.takeWhile inr8).length = r.length := fun e => by rw [this.1 e] at ha; cases ha
   exact decide_eq_false (by omega)
theorem qgtr (a b : Int) (r : Bool) (h : decide (b < a) = r) (w : World) : (binOp .gtr 3 (.int .i64 a) (.int .i64 b)).run Tryz.prog w = .ok (.bool r) w := by subst h; go_simp
theorem qleq (a b : Int) (r : Bool) (h : decide (a ≤ b) = r) (w : World) : (binOp .leq 3 (.int .i64 a) (.int .i64 b)).run Tryz.prog w = .ok (.bool r) w := by subst h; go_simp
seal wpList in
theorem refIsName_any (l : List UInt8) (w : World) (hl : l.length ≤ 9223372036854775807) : Calls Tryz.prog 52 #[strV l] w fun e w' => e = .returned (.bool (nam l)) ∧ w' = w := by
 have HSZ := hid (size_strV l)
 have HSP := hid (span_any l 0 w hl (by omega))
 rw [List.drop_zero] at HSP
 by_cases h0 : 0 < l.length
 ·have H0 : Hid (decide ((0 : Int) < (l.length : Int)) = true) := hid (decide_eq_true (by omega))
  by_cases h1 : l.length ≤ 24
  ·have H1 : Hid (decide ((l.length : Int) ≤ 24) = true) := hid (decide_eq_true (by omega))
   have HR : Hid (((spn l : Int) == (l.length : Int)) = nam l) := hid (by
    rw [nam, decide_eq_true h0, decide_eq_true h1, Bool.true_and, Bool.true_and]
    rw [Bool.eq_iff_iff]; simp; omega)
   clear h0 h1 hl
   go_enter Tryz.func52, Tryz.ntmps52
   go_upto_region 1 with fail
   refine rl ?_
   refine qv (strV l) ?_
   simp only [nA, nB, nC]
   refine wp_y (v := .int .i64 (l.length : Nat)) rfl rfl (y_lenS (s := ⟨l.toArray⟩) rfl (by kernel_rfl) (by kernel_rfl) HSZ.out) rfl ?_
   simp only [nA, nB, nC]
   refine wp_y (v := .bool true) rfl rfl (y_bin (k := .i64) (k' := .i64) (m := (l.length : Nat)) (n := 0) rfl (hr := qgtr _ _ _ H0.out)) rfl ?_
   simp only [nA, nB, nC]
   refine qv (.bool true) ?_
   simp only [nA, nB, nC]
   refine qg (strV l) rfl ?_
   simp only [nA, nB, nC]
   refine wp_yg (v := .int .i64 (l.length : Nat)) rfl (y_lenS (s := ⟨l.toArray⟩) rfl (by kernel_rfl) (by kernel_rfl) HSZ.out) rfl ?_
   try simp only [nA, nB, nC]
   refine wp_yg (v := .bool true) rfl (y_bin (k := .i64) (k' := .i64) (m := (l.length : Nat)) (n := 24) rfl (hr := qleq _ _ _ H1.out)) rfl ?_
   try simp only [nA, nB, nC]
   refine qv (.bool true) ?_
   refine qv (.bool true) ?_
   simp only [nA, nB, nC]
   refine qg (strV l) rfl ?_
   simp only [nA, nB, nC]
   refine wp_callg (f := 81) (args := #[strV l, .int .i64 (0 : Nat)]) rfl (by kernel_rfl) (enter_go rfl (by kernel_rfl) (fun w => by go_simp)) ?_
   refine HSP.out.mono ?_
   rintro e wz ⟨rfl, hwz⟩
   obtain rfl := hwz.symm
   refine ⟨_, rfl, ?_⟩
   try simp only [nA, nB, nC]
   refine qg (strV l) rfl ?_
   simp only [nA, nB, nC]
   refine wp_yg (v := .int .i64 (l.length : Nat)) rfl (y_lenS (s := ⟨l.toArray⟩) rfl (by kernel_rfl) (by kernel_rfl) HSZ.out) rfl ?_
   try simp only [nA, nB, nC]
   refine wp_yg (v := .bool (nam l)) rfl (y_bin (k := .i64) (k' := .i64) (m := (spn l : Nat)) (n := (l.length : Nat)) rfl (hr := qeql _ _ _ HR.out)) rfl ?_
   try simp only [nA, nB, nC]
   refine qv (.bool (nam l)) ?_
   refine qv (.bool (nam l)) ?_
   simp only [nA, nB, nC]
   refine we ?_
   go_wp2_with fail
   go_ret
   exact ⟨rfl, rfl⟩
  ·have H1 : Hid (decide ((l.length : Int) ≤ 24) = false) := hid (decide_eq_false (by omega))
   have HR : Hid (nam l = false) := hid (by rw [nam, decide_eq_false h1, Bool.and_false, Bool.false_and])
   clear h0 h1 hl
   go_enter Tryz.func52, Tryz.ntmps52
   go_upto_region 1 with fail
   refine rl ?_
   refine qv (strV l) ?_
   simp only [nA, nB, nC]
   refine wp_y (v := .int .i64 (l.length : Nat)) rfl rfl (y_lenS (s := ⟨l.toArray⟩) rfl (by kernel_rfl) (by kernel_rfl) HSZ.out) rfl ?_
   simp only [nA, nB, nC]
   refine wp_y (v := .bool true) rfl rfl (y_bin (k := .i64) (k' := .i64) (m := (l.length : Nat)) (n := 0) rfl (hr := qgtr _ _ _ H0.out)) rfl ?_
   simp only [nA, nB, nC]
   refine qv (.bool true) ?_
   simp only [nA, nB, nC]
   refine qg (strV l) rfl ?_
   simp only [nA, nB, nC]
   refine wp_yg (v := .int .i64 (l.length : Nat)) rfl (y_lenS (s := ⟨l.toArray⟩) rfl (by kernel_rfl) (by kernel_rfl) HSZ.out) rfl ?_
   try simp only [nA, nB, nC]
   refine wp_yg (v := .bool false) rfl (y_bin (k := .i64) (k' := .i64) (m := (l.length : Nat)) (n := 24) rfl (hr := qleq _ _ _ H1.out)) rfl ?_
   try simp only [nA, nB, nC]
   refine qv (.bool false) ?_
   refine qv (.bool false) ?_
   simp only [nA, nB, nC]
   refine qs rfl ?_
   simp only [nA, nB, nC]
   refine qs rfl ?_
   simp only [nA, nB, nC]
   refine qs rfl ?_
   simp only [nA, nB, nC]
   refine qs rfl ?_
   simp only [nA, nB, nC]
   refine qs rfl ?_
   simp only [nA, nB, nC]
   refine qv (.bool false) ?_
   refine qv (.bool false) ?_
   simp only [nA, nB, nC]
   refine we ?_
   go_wp2_with fail
   go_ret
   exact ⟨by rw [HR.out]; rfl, rfl⟩
 ·have H0 : Hid (decide ((0 : Int) < (l.length : Int)) = false) := hid (decide_eq_false (by omega))
  have HR : Hid (nam l = false) := hid (by rw [nam, decide_eq_false h0, Bool.false_and, Bool.false_and])
  clear h0 hl
  go_enter Tryz.func52, Tryz.ntmps52
  go_upto_region 1 with fail
  refine rl ?_
  refine qv (strV l) ?_
  simp only [nA, nB, nC]
  refine wp_y (v := .int .i64 (l.length : Nat)) rfl rfl (y_lenS (s := ⟨l.toArray⟩) rfl (by kernel_rfl) (by kernel_rfl) HSZ.out) rfl ?_
  simp only [nA, nB, nC]
  refine wp_y (v := .bool false) rfl rfl (y_bin (k := .i64) (k' := .i64) (m := (l.length : Nat)) (n := 0) rfl (hr := qgtr _ _ _ H0.out)) rfl ?_
  simp only [nA, nB, nC]
  refine qv (.bool false) ?_
  simp only [nA, nB, nC]
  refine qs rfl ?_
  simp only [nA, nB, nC]
  refine qs rfl ?_
  simp only [nA, nB, nC]
  refine qs rfl ?_
  simp only [nA, nB, nC]
  refine qv (.bool false) ?_
  refine qv (.bool false) ?_
  simp only [nA, nB, nC]
  refine qs rfl ?_
  simp only [nA, nB, nC]
  refine qs rfl ?_
  simp only [nA, nB, nC]
  refine qs rfl ?_
  simp only [nA, nB, nC]
  refine qs rfl ?_
  simp only [nA, nB, nC]
  refine qs rfl ?_
  simp only [nA, nB, nC]
  refine qv (.bool false) ?_
  refine qv (.bool false) ?_
  simp only [nA, nB, nC]
  refine we ?_
  go_wp2_with fail
  go_ret
  exact ⟨by rw [HR.out]; rfl, rfl⟩
theorem cf148 (z : Int) (w : World) : (callFunc 148 #[.int .u8 z]).run Tryz.prog w = .ok (.enter 148 #[.int .u8 z]) w := by go_simp
seal wpList in
theorem isName_any (l : List UInt8) (w : World) (hl : l.length ≤ 9223372036854775807) : Calls Tryz.prog 112 #[strV l] w fun e w' => e = .returned (.bool (nam l)) ∧ w' = w := by
 have HSZ := hid (size_strV l)
 have HAL := hid (areAll_any 148 inr inName_any cf148 l w hl)
 by_cases h0 : 0 < l.length
 ·have H0 : Hid (decide ((0 : Int) < (l.length : Int)) = true) := hid (decide_eq_true (by omega))
  by_cases h1 : l.length ≤ 24
  ·have H1 : Hid (decide ((l.length : Int) ≤ 24) = true) := hid (decide_eq_true (by omega))
   have HIX := hid (strIdx l 0 h0)
   obtain ⟨c, r, rfl⟩ : ∃ c r, l = c :: r := by
    cases l with
    | nil => simp at h0
    | cons c r => exact ⟨c, r, rfl⟩
   rw [show (c :: r).getD 0 0 = c from rfl] at HIX
   have HLT := hid (letter8_any (c.toNat : Nat) w)
   have hnam : nam (c :: r) = (btw 97 122 (c.toNat : Nat) && (c :: r).all fun c => inr (c.toNat : Nat)) := by
    rw [nam, decide_eq_true h0, decide_eq_true h1, Bool.true_and, Bool.true_and, spn_all]; rfl
   generalize (c :: r) = l at *
   generalize (l.all fun c => inr (c.toNat : Nat)) = Z at *
   cases hs : btw 97 122 (c.toNat : Nat) with
   | false =>
    rw [hs] at HLT hnam
    have HR : Hid (nam l = false) := hid hnam
    clear h0 h1 hl hs hnam
    go_enter Tryz.func112, Tryz.ntmps112
    go_upto_region 1 with fail
    refine rl ?_
    refine qv (strV l) ?_
    simp only [nA, nB, nC]
    refine wp_y (v := .int .i64 (l.length : Nat)) rfl rfl (y_lenS (s := ⟨l.toArray⟩) rfl (by kernel_rfl) (by kernel_rfl) HSZ.out) rfl ?_
    simp only [nA, nB, nC]
    refine wp_y (v := .bool true) rfl rfl (y_bin (k := .i64) (k' := .i64) (m := 0) (n := (l.length : Nat)) rfl (hr := qlss _ _ _ H0.out)) rfl ?_
    simp only [nA, nB, nC]
    refine qv (.bool true) ?_
    simp only [nA, nB, nC]
    refine qg (strV l) rfl ?_
    simp only [nA, nB, nC]
    refine wp_yg (v := .int .i64 (l.length : Nat)) rfl (y_lenS (s := ⟨l.toArray⟩) rfl (by kernel_rfl) (by kernel_rfl) HSZ.out) rfl ?_
    try simp only [nA, nB, nC]
    refine wp_yg (v := .bool true) rfl (y_bin (k := .i64) (k' := .i64) (m := (l.length : Nat)) (n := 24) rfl (hr := qleq _ _ _ H1.out)) rfl ?_
    try simp only [nA, nB, nC]
    refine qv (.bool true) ?_
    refine qv (.bool true) ?_
    simp only [nA, nB, nC]
    refine qg (strV l) rfl ?_
    simp only [nA, nB, nC]
    refine wp_yg (v := .int .u8 (c.toNat : Nat)) rfl (y_idx rfl (by kernel_rfl) (by kernel_rfl) (by kernel_rfl) HIX.out) rfl ?_
    try simp only [nA, nB, nC]
    refine wp_callg (f := 146) (args := #[.int .u8 (c.toNat : Nat)]) rfl (by kernel_rfl) (enter_go rfl (by kernel_rfl) (fun w => by go_simp)) ?_
    refine HLT.out.mono ?_
    rintro e wz ⟨rfl, hwz⟩
    obtain rfl := hwz.symm
    refine ⟨_, rfl, ?_⟩
    try simp only [nA, nB, nC]
    refine qv (.bool false) ?_
    refine qv (.bool false) ?_
    simp only [nA, nB, nC]
    refine qs rfl ?_
    simp only [nA, nB, nC]
    refine qs rfl ?_
    simp only [nA, nB, nC]
    refine qv (.bool false) ?_
    refine qv (.bool false) ?_
    simp only [nA, nB, nC]
    refine we ?_
    go_wp2_with fail
    go_ret
    exact ⟨by rw [HR.out]; rfl, rfl⟩
   | true =>
    rw [hs, Bool.true_and] at hnam
    rw [hs] at HLT
    have HR : Hid (nam l = Z) := hid hnam
    clear h0 h1 hl hs hnam
    go_enter Tryz.func112, Tryz.ntmps112
    go_upto_region 1 with fail
    refine rl ?_
    refine qv (strV l) ?_
    simp only [nA, nB, nC]
    refine wp_y (v := .int .i64 (l.length : Nat)) rfl rfl (y_lenS (s := ⟨l.toArray⟩) rfl (by kernel_rfl) (by kernel_rfl) HSZ.out) rfl ?_
    simp only [nA, nB, nC]
    refine wp_y (v := .bool true) rfl rfl (y_bin (k := .i64) (k' := .i64) (m := 0) (n := (l.length : Nat)) rfl (hr := qlss _ _ _ H0.out)) rfl ?_
    simp only [nA, nB, nC]
    refine qv (.bool true) ?_
    simp only [nA, nB, nC]
    refine qg (strV l) rfl ?_
    simp only [nA, nB, nC]
    refine wp_yg (v := .int .i64 (l.length : Nat)) rfl (y_lenS (s := ⟨l.toArray⟩) rfl (by kernel_rfl) (by kernel_rfl) HSZ.out) rfl ?_
    try simp only [nA, nB, nC]
    refine wp_yg (v := .bool true) rfl (y_bin (k := .i64) (k' := .i64) (m := (l.length : Nat)) (n := 24) rfl (hr := qleq _ _ _ H1.out)) rfl ?_
    try simp only [nA, nB, nC]
    refine qv (.bool true) ?_
    refine qv (.bool true) ?_
    simp only [nA, nB, nC]
    refine qg (strV l) rfl ?_
    simp only [nA, nB, nC]
    refine wp_yg (v := .int .u8 (c.toNat : Nat)) rfl (y_idx rfl (by kernel_rfl) (by kernel_rfl) (by kernel_rfl) HIX.out) rfl ?_
    try simp only [nA, nB, nC]
    refine wp_callg (f := 146) (args := #[.int .u8 (c.toNat : Nat)]) rfl (by kernel_rfl) (enter_go rfl (by kernel_rfl) (fun w => by go_simp)) ?_
    refine HLT.out.mono ?_
    rintro e wz ⟨rfl, hwz⟩
    obtain rfl := hwz.symm
    refine ⟨_, rfl, ?_⟩
    try simp only [nA, nB, nC]
    refine qv (.bool true) ?_
    refine qv (.bool true) ?_
    simp only [nA, nB, nC]
    refine qg (strV l) rfl ?_
    simp only [nA, nB, nC]
    refine wp_callg (f := 147) (args := #[strV l, .func (.func 148) #[] #[]]) rfl (by kernel_rfl) (enter_go rfl (by kernel_rfl) (fun w => by go_simp)) ?_
    refine HAL.out.mono ?_
    rintro e wz ⟨rfl, hwz⟩
    obtain rfl := hwz.symm
    refine ⟨_, rfl, ?_⟩
    try simp only [nA, nB, nC]
    refine qv (.bool Z) ?_
    refine qv (.bool Z) ?_
    simp only [nA, nB, nC]
    refine we ?_
    go_wp2_with fail
    go_ret
    exact ⟨by rw [HR.out]; rfl, rfl⟩
  ·have H1 : Hid (decide ((l.length : Int) ≤ 24) = false) := hid (decide_eq_false (by omega))
   have HR : Hid (nam l = false) := hid (by rw [nam, decide_eq_false h1, Bool.and_false, Bool.false_and])
   clear h0 h1 hl
   go_enter Tryz.func112, Tryz.ntmps112
   go_upto_region 1 with fail
   refine rl ?_
   refine qv (strV l) ?_
   simp only [nA, nB, nC]
   refine wp_y (v := .int .i64 (l.length : Nat)) rfl rfl (y_lenS (s := ⟨l.toArray⟩) rfl (by kernel_rfl) (by kernel_rfl) HSZ.out) rfl ?_
   simp only [nA, nB, nC]
   refine wp_y (v := .bool true) rfl rfl (y_bin (k := .i64) (k' := .i64) (m := 0) (n := (l.length : Nat)) rfl (hr := qlss _ _ _ H0.out)) rfl ?_
   simp only [nA, nB, nC]
   refine qv (.bool true) ?_
   simp only [nA, nB, nC]
   refine qg (strV l) rfl ?_
   simp only [nA, nB, nC]
   refine wp_yg (v := .int .i64 (l.length : Nat)) rfl (y_lenS (s := ⟨l.toArray⟩) rfl (by kernel_rfl) (by kernel_rfl) HSZ.out) rfl ?_
   try simp only [nA, nB, nC]
   refine wp_yg (v := .bool false) rfl (y_bin (k := .i64) (k' := .i64) (m := (l.length : Nat)) (n := 24) rfl (hr := qleq _ _ _ H1.out)) rfl ?_
   try simp only [nA, nB, nC]
   refine qv (.bool false) ?_
   refine qv (.bool false) ?_
   simp only [nA, nB, nC]
   refine qs rfl ?_
   simp only [nA, nB, nC]
   refine qs rfl ?_
   simp only [nA, nB, nC]
   refine qs rfl ?_
   simp only [nA, nB, nC]
   refine qv (.bool false) ?_
   refine qv (.bool false) ?_
   simp only [nA, nB, nC]
   refine qs rfl ?_
   simp only [nA, nB, nC]
   refine qs rfl ?_
   simp only [nA, nB, nC]
   refine qv (.bool false) ?_
   refine qv (.bool false) ?_
   simp only [nA, nB, nC]
   refine we ?_
   go_wp2_with fail
   go_ret
   exact ⟨by rw [HR.out]; rfl, rfl⟩
 ·have H0 : Hid (decide ((0 : Int) < (l.length : Int)) = false) := hid (decide_eq_false (by omega))
  have HR : Hid (nam l = false) := hid (by rw [nam, decide_eq_false h0, Bool.false_and, Bool.false_and])
  clear h0 hl
  go_enter Tryz.func112, Tryz.ntmps112
  go_upto_region 1 with fail
  refine rl ?_
  refine qv (strV l) ?_
  simp only [nA, nB, nC]
  refine wp_y (v := .int .i64 (l.length : Nat)) rfl rfl (y_lenS (s := ⟨l.toArray⟩) rfl (by kernel_rfl) (by kernel_rfl) HSZ.out) rfl ?_
  simp only [nA, nB, nC]
  refine wp_y (v := .bool false) rfl rfl (y_bin (k := .i64) (k' := .i64) (m := 0) (n := (l.length : Nat)) rfl (hr := qlss _ _ _ H0.out)) rfl ?_
  simp only [nA, nB, nC]
  refine qv (.bool false) ?_
  simp only [nA, nB, nC]
  refine qs rfl ?_
  simp only [nA, nB, nC]
  refine qs rfl ?_
  simp only [nA, nB, nC]
  refine qs rfl ?_
  simp only [nA, nB, nC]
  refine qv (.bool false) ?_
  refine qv (.bool false) ?_
  simp only [nA, nB, nC]
  refine qs rfl ?_
  simp only [nA, nB, nC]
  refine qs rfl ?_
  simp only [nA, nB, nC]
  refine qs rfl ?_
  simp only [nA, nB, nC]
  refine qv (.bool false) ?_
  refine qv (.bool false) ?_
  simp only [nA, nB, nC]
  refine qs rfl ?_
  simp only [nA, nB, nC]
  refine qs rfl ?_
  simp only [nA, nB, nC]
  refine qv (.bool false) ?_
  refine qv (.bool false) ?_
  simp only [nA, nB, nC]
  refine we ?_
  go_wp2_with fail
  go_ret
  exact ⟨by rw [HR.out]; rfl, rfl⟩
def Srs (w : World) (v : Value) (ls : List (List UInt8)) : Prop := ∃ a c, v = .slice a ls.length c ∧ ls.length ≤ 9223372036854775807 ∧ ∀ i s, ls[i]? = some s → ∃ b o, a = some ⟨b, o, none⟩ ∧ w.cell? ⟨b, o + i, none⟩ = some (strV s)
theorem len70 (p : Option Addr) (n c : Nat) (ty : TypeId) (w : World) : (Builtin.len_ #[70] ty #[.slice p n c]).run Tryz.prog w = .ok (.int .i64 n) w := by go_simp
theorem idx70 (b o n cap k : Nat) (h : k < n) (w : World) : (Instr.indexAt 70 (.slice (some ⟨b, o, none⟩) n cap) (.int .i64 k)).run Tryz.prog w = .ok (.pointer (some ⟨b, o + k, none⟩)) w := by go_simp
seal wpList in
theorem oneOf_any {l : List UInt8} {ls : List (List UInt8)} {w : World} {v : Value} (h : Srs w v ls) : Calls Tryz.prog 113 #[strV l, v] w fun e w' => e = .returned (.bool (decide (l ∈ ls))) ∧ w' = w := by
 obtain ⟨a, c, rfl, hn, hr⟩ := h
 obtain ⟨Z, hZ⟩ : ∃ Z, decide (l ∈ ls) = Z := ⟨_, rfl⟩
 rw [hZ]
 have HZ := hid hZ
 have HN := hid hn
 have HW := hid hr
 clear hZ hn hr
 obtain ⟨N, hN⟩ : ∃ N, ls.length = N := ⟨_, rfl⟩
 rw [hN] at HN ⊢
 have HNN := hid hN
 clear hN
 go_enter Tryz.func113, Tryz.ntmps113
 go_upto_region 1 with fail
 refine rl ?_
 refine qv (.slice a N c) ?_
 simp only [nA, nB, nC]
 refine wp_y (v := .int .i64 (N : Nat)) rfl rfl (y_lenT len70 (p := a) (c := c) rfl (by kernel_rfl) (by kernel_rfl)) rfl ?_
 simp only [nA, nB, nC]
 refine qv (.int .i64 0) ?_
 simp only [nA, nB, nC]
 refine we ?_
 go_wp2_with fail
 go_loopw [9] (fun v9 wr => ∃ j : Nat, j ≤ N ∧ v9 = .int .i64 j ∧ l ∉ ls.take j ∧ wr = w) (fun v9 _ => N - (intOf v9).toNat)
 case atStart => exact ⟨0, Nat.zero_le _, rfl, by simp, rfl⟩
 case round =>
  obtain ⟨j, hj, rfl, ha, rfl⟩ := hrel
  have hll := HN.out
  have hnn := HNN.out
  by_cases hlt : j < N
  ·have hlt' : (j : Int) < (N : Int) := by omega
   obtain ⟨s, hs⟩ : ∃ s, ls[j]? = some s := ⟨_, List.getElem?_eq_getElem (by omega)⟩
   obtain ⟨b, o, rfl, hc⟩ := HW.out j s hs
   have HIX := hid hlt
   have HLD := hid (load1 Tryz.isAgg9 hc)
   have hwk : IntKind.i64.wrap ((j : Int) + 1) = ((j + 1 : Nat) : Int) := by rw [IntWalk.i64_in _ ⟨by omega, by omega⟩]; omega
   by_cases he : l = s
   ·have HE : Hid (decide (l = s) = true) := hid (decide_eq_true he)
    have HY : Hid (Z = true) := hid (by rw [← HZ.out]; exact decide_eq_true (by rw [he]; exact List.mem_of_getElem? hs))
    clear hs hc he ha hll hnn hlt hj HW
    go_upto_region 3 with fail
    refine rl ?_
    refine wp_y (v := .pointer (some ⟨b, o + j, none⟩)) rfl rfl (y_index rfl (hr := idx70 b o N c j HIX.out)) rfl ?_
    simp only [nA, nB, nC]
    refine wp_y (v := strV s) rfl rfl (y_load rfl (hl := fun w' h => by rw [h]; exact HLD.out)) rfl ?_
    simp only [nA, nB, nC]
    refine qv (strV s) ?_
    simp only [nA, nB, nC]
    refine we ?_
    go_upto_region 4 with fail
    refine rl ?_
    refine qv (strV l) ?_
    refine qv (strV s) ?_
    simp only [nA, nB, nC]
    refine wp_y (v := .bool true) rfl rfl (y_eqlS (l := l) (m := s) rfl (by kernel_rfl) (by kernel_rfl) (by kernel_rfl) HE.out) rfl ?_
    simp only [nA, nB, nC]
    refine we ?_
    go_wp2_with fail
    go_ret
    exact ⟨by rw [HY.out]; rfl, rfl⟩
   ·have HE : Hid (decide (l = s) = false) := hid (decide_eq_false he)
    have HY : Hid (j + 1 ≤ N ∧ l ∉ ls.take (j + 1)) := hid ⟨hlt, by rw [List.take_add_one, hs]; simp [ha, he]⟩
    clear hs hc he ha hll hnn hlt hj HW
    go_upto_region 3 with fail
    refine rl ?_
    refine wp_y (v := .pointer (some ⟨b, o + j, none⟩)) rfl rfl (y_index rfl (hr := idx70 b o N c j HIX.out)) rfl ?_
    simp only [nA, nB, nC]
    refine wp_y (v := strV s) rfl rfl (y_load rfl (hl := fun w' h => by rw [h]; exact HLD.out)) rfl ?_
    simp only [nA, nB, nC]
    refine qv (strV s) ?_
    simp only [nA, nB, nC]
    refine we ?_
    go_upto_region 4 with fail
    refine rl ?_
    refine qv (strV l) ?_
    refine qv (strV s) ?_
    simp only [nA, nB, nC]
    refine wp_y (v := .bool false) rfl rfl (y_eqlS (l := l) (m := s) rfl (by kernel_rfl) (by kernel_rfl) (by kernel_rfl) HE.out) rfl ?_
    simp only [nA, nB, nC]
    refine we ?_
    go_wp2_with fail
    exact ⟨⟨j + 1, HY.out.1, rfl, HY.out.2, trivial⟩, by have := HY.out.1; simp [intOf]; omega⟩
  ·have hjl : j = N := by omega
   subst j
   have hlt' : ¬ (N : Int) < (N : Int) := by omega
   have HY : Hid (Z = false) := hid (by rw [← HZ.out]; exact decide_eq_false (by rw [List.take_of_length_le (by omega)] at ha; exact ha))
   clear hlt hll hnn ha hj
   go_wp2_with fail
   go_ret
   exact ⟨by rw [HY.out]; rfl, rfl⟩
def kws : List (List UInt8) := [[109, 111, 100, 117, 108, 101], [105, 109, 112, 111, 114, 116], [108, 101, 116], [105, 102], [116, 104, 101, 110], [101, 108, 115, 101], [97, 110, 100], [111, 114], [110, 111, 116], [116, 114, 117, 101], [102, 97, 108, 115, 101], [102, 101, 101, 100], [112, 105, 99, 107]]
theorem bs70 (w : World) : (Instr.buildSlice 70 13 #[(0, strV [109, 111, 100, 117, 108, 101]), (1, strV [105, 109, 112, 111, 114, 116]), (2, strV [108, 101, 116]), (3, strV [105, 102]), (4, strV [116, 104, 101, 110]), (5, strV [101, 108, 115, 101]), (6, strV [97, 110, 100]), (7, strV [111, 114]), (8, strV [110, 111, 116]), (9, strV [116, 114, 117, 101]), (10, strV [102, 97, 108, 115, 101]), (11, strV [102, 101, 101, 100]), (12, strV [112, 105, 99, 107])]).run Tryz.prog w = .ok (.slice (some ⟨w.heap.size, 0, none⟩) 13 13) (w.alloc (.cells #[strV [109, 111, 100, 117, 108, 101], strV [105, 109, 112, 111, 114, 116], strV [108, 101, 116], strV [105, 102], strV [116, 104, 101, 110], strV [101, 108, 115, 101], strV [97, 110, 100], strV [111, 114], strV [110, 111, 116], strV [116, 114, 117, 101], strV [102, 97, 108, 115, 101], strV [102, 101, 101, 100], strV [112, 105, 99, 107]] 9)) := by
 unfold strV
 go_simp
theorem kws_in (w : World) : Srs (w.alloc (.cells (kws.map strV).toArray 9)) (.slice (some ⟨w.heap.size, 0, none⟩) 13 13) kws := by
 refine ⟨_, 13, rfl, by decide, fun i s hs => ⟨_, _, rfl, ?_⟩⟩
 rw [Nat.zero_add]
 exact cell_at (heap_alloc_last w _) i (by rw [List.getElem?_toArray, List.getElem?_map, hs]; rfl)
section
variable {ops : Array Oper} {o : Oper} {w w' : World} {rest : List Oper} {Q : Exit → Act → World → Prop}
theorem wp_rung {v : Value} {d : Nat} {tmps T : Array Value} {ds : List Deferred} (hd : o.dst = some d) (hw : Region.wanted o (yielded ops tmps) = true) (hr : (execOp (Act.mk tmps ds).eval o).run Tryz.prog w = .ok (.value v) w') (hT : tmps.setIfInBounds d v = T) (hK : wpList Tryz.prog ops Q rest ⟨T, ds⟩ w') : wpList Tryz.prog ops Q (o :: rest) ⟨tmps, ds⟩ w := by
 subst hT
 refine wpList_step fun K hK' => ?_
 simp only [hw, if_true]
 unfold Oper.wp
 rw [hr, Oper.upon_value]
 refine hK' _ _ ?_
 rw [hd]; exact hK
end
def fre (l : List UInt8) : Bool := nam l && !decide (l ∈ kws)
seal wpList in
theorem isFree_any (l : List UInt8) (w : World) (hl : l.length ≤ 9223372036854775807) : Calls Tryz.prog 71 #[strV l] w fun e w' => e = .returned (.bool (fre l)) ∧ Below w.heap.size w w' := by
 have HNM := hid (isName_any l w hl)
 have HBS := hid (bs70 w)
 obtain ⟨w1, hw1⟩ : ∃ w1, w.alloc (.cells (kws.map strV).toArray 9) = w1 := ⟨_, rfl⟩
 have hS := kws_in w
 have hB : Below w.heap.size w (w.alloc (.cells (kws.map strV).toArray 9)) := (Below.refl _ _).alloc (Nat.le_refl _) _
 have HB1 := hid hB
 rw [hw1] at hS HB1
 have HBS' : Hid (_ = Result.ok (Value.slice (some ⟨w.heap.size, 0, none⟩) 13 13) w1) := hid (HBS.out.trans (by rw [← hw1]; rfl))
 have HOF := hid (oneOf_any (l := l) hS)
 have HFR : Hid (fre l = (nam l && !decide (l ∈ kws))) := hid rfl
 generalize w.heap.size = g at *
 generalize decide (l ∈ kws) = D at *
 clear HBS hS hB hw1 hl
 cases hn : nam l with
 | false =>
  rw [hn] at HNM HFR
  clear hn
  go_enter Tryz.func71, Tryz.ntmps71
  go_upto_region 1 with fail
  refine rl ?_
  refine qv (strV l) ?_
  simp only [nA, nB, nC]
  refine qc #[strV l] ?_
  refine HNM.out.mono ?_
  rintro e wz ⟨rfl, hwz⟩
  obtain rfl := hwz.symm
  refine ⟨_, rfl, ?_⟩
  try simp only [Act.put, nA, nB, nC]
  refine qv (.bool false) ?_
  simp only [nA, nB, nC]
  refine qs rfl ?_
  simp only [nA, nB, nC]
  refine qs rfl ?_
  simp only [nA, nB, nC]
  refine qs rfl ?_
  simp only [nA, nB, nC]
  refine qs rfl ?_
  simp only [nA, nB, nC]
  refine qv (.bool false) ?_
  refine qv (.bool false) ?_
  simp only [nA, nB, nC]
  refine we ?_
  go_wp2_with fail
  go_ret
  exact ⟨by rw [HFR.out]; rfl, Below.refl _ _⟩
 | true =>
  rw [hn, Bool.true_and] at HFR
  rw [hn] at HNM
  clear hn
  go_enter Tryz.func71, Tryz.ntmps71
  go_upto_region 1 with fail
  refine rl ?_
  refine qv (strV l) ?_
  simp only [nA, nB, nC]
  refine qc #[strV l] ?_
  refine HNM.out.mono ?_
  rintro e wz ⟨rfl, hwz⟩
  obtain rfl := hwz.symm
  refine ⟨_, rfl, ?_⟩
  try simp only [Act.put, nA, nB, nC]
  refine qv (.bool true) ?_
  simp only [nA, nB, nC]
  refine qg (strV l) rfl ?_
  simp only [nA, nB, nC]
  refine wp_rung (v := .slice (some ⟨g, 0, none⟩) 13 13) rfl (by kernel_rfl) (run_bsOp rfl (by kernel_rfl) HBS'.out) rfl ?_
  try simp only [nA, nB, nC]
  refine wp_callg (f := 113) (args := #[strV l, .slice (some ⟨g, 0, none⟩) 13 13]) rfl (by kernel_rfl) (enter_go rfl (by kernel_rfl) (fun w => by go_simp)) ?_
  refine HOF.out.mono ?_
  rintro e wz ⟨rfl, hwz⟩
  obtain rfl := hwz.symm
  refine ⟨_, rfl, ?_⟩
  try simp only [nA, nB, nC]
  refine wp_yg (v := .bool (!D)) rfl (y_un rfl (by kernel_rfl) (by kernel_rfl) (qnotB _)) rfl ?_
  try simp only [nA, nB, nC]
  refine qv (.bool (!D)) ?_
  refine qv (.bool (!D)) ?_
  simp only [nA, nB, nC]
  refine we ?_
  go_wp2_with fail
  go_ret
  exact ⟨by rw [HFR.out]; rfl, HB1.out⟩
def cur (l : List UInt8) : Bool := decide (l.length = 3) && l.all fun c => btw 65 90 (c.toNat : Nat)
theorem cf183 (z : Int) (w : World) : (callFunc 183 #[.int .u8 z]).run Tryz.prog w = .ok (.enter 183 #[.int .u8 z]) w := by go_simp
seal wpList in
theorem isCur_any (l : List UInt8) (w : World) (hl : l.length ≤ 9223372036854775807) : Calls Tryz.prog 150 #[strV l] w fun e w' => e = .returned (.bool (cur l)) ∧ w' = w := by
 have HSZ := hid (size_strV l)
 have HAL := hid (areAll_any 183 (btw 65 90) capital8_any cf183 l w hl)
 have HCU : Hid (cur l = (decide (l.length = 3) && l.all fun c => btw 65 90 (c.toNat : Nat))) := hid rfl
 generalize (l.all fun c => btw 65 90 (c.toNat : Nat)) = Z at *
 by_cases h : l.length = 3
 ·have HE : Hid (((l.length : Int) == 3) = true) := hid (by rw [h]; rfl)
  rw [decide_eq_true h, Bool.true_and] at HCU
  clear h hl
  go_enter Tryz.func150, Tryz.ntmps150
  go_upto_region 1 with fail
  refine rl ?_
  refine qv (strV l) ?_
  simp only [nA, nB, nC]
  refine wp_y (v := .int .i64 (l.length : Nat)) rfl rfl (y_lenS (s := ⟨l.toArray⟩) rfl (by kernel_rfl) (by kernel_rfl) HSZ.out) rfl ?_
  simp only [nA, nB, nC]
  refine wp_y (v := .bool true) rfl rfl (y_bin (k := .i64) (k' := .i64) (m := (l.length : Nat)) (n := 3) rfl (hr := qeql _ _ _ HE.out)) rfl ?_
  simp only [nA, nB, nC]
  refine qv (.bool true) ?_
  simp only [nA, nB, nC]
  refine qg (strV l) rfl ?_
  simp only [nA, nB, nC]
  refine wp_callg (f := 147) (args := #[strV l, .func (.func 183) #[] #[]]) rfl (by kernel_rfl) (enter_go rfl (by kernel_rfl) (fun w => by go_simp)) ?_
  refine HAL.out.mono ?_
  rintro e wz ⟨rfl, hwz⟩
  obtain rfl := hwz.symm
  refine ⟨_, rfl, ?_⟩
  try simp only [nA, nB, nC]
  refine qv (.bool Z) ?_
  refine qv (.bool Z) ?_
  simp only [nA, nB, nC]
  refine we ?_
  go_wp2_with fail
  go_ret
  exact ⟨by rw [HCU.out]; rfl, rfl⟩
 ·have HE : Hid (((l.length : Int) == 3) = false) := hid (by rw [beq_eq_false_iff_ne]; omega)
  rw [decide_eq_false h, Bool.false_and] at HCU
  clear h hl
  go_enter Tryz.func150, Tryz.ntmps150
  go_upto_region 1 with fail
  refine rl ?_
  refine qv (strV l) ?_
  simp only [nA, nB, nC]
  refine wp_y (v := .int .i64 (l.length : Nat)) rfl rfl (y_lenS (s := ⟨l.toArray⟩) rfl (by kernel_rfl) (by kernel_rfl) HSZ.out) rfl ?_
  simp only [nA, nB, nC]
  refine wp_y (v := .bool false) rfl rfl (y_bin (k := .i64) (k' := .i64) (m := (l.length : Nat)) (n := 3) rfl (hr := qeql _ _ _ HE.out)) rfl ?_
  simp only [nA, nB, nC]
  refine qv (.bool false) ?_
  simp only [nA, nB, nC]
  refine qs rfl ?_
  simp only [nA, nB, nC]
  refine qs rfl ?_
  simp only [nA, nB, nC]
  refine qv (.bool false) ?_
  refine qv (.bool false) ?_
  simp only [nA, nB, nC]
  refine we ?_
  go_wp2_with fail
  go_ret
  exact ⟨by rw [HCU.out]; rfl, rfl⟩
def kidsOf (k : Int) : Int × Int := if k = 12 then (1, 1) else if k = 13 then (2, 2) else if k = 14 then (3, 3) else if k = 15 then (3, 3) else if k = 11 then (1, 8) else (0, 0)
def kidsOk (k : Int) (n : Nat) : Bool := decide ((kidsOf k).1 ≤ n) && decide ((n : Int) ≤ (kidsOf k).2)
seal wpList in
theorem hasKids_any {w : World} {v : Value} {k : Int} {tx : List UInt8} {n : Int} {kids : List Tr} {at_ : Int} (h : Nd w v (.mk k tx n kids at_)) : Calls Tryz.prog 79 #[v] w fun e w' => e = .returned (.bool (kidsOk k kids.length)) ∧ Below w.heap.size w w' := by
 obtain ⟨a, c, rfl, -, -⟩ := h.open
 clear h
 generalize kids.length = N
 obtain ⟨w1, hbx, hS1, hB1, hz1⟩ := box24 w k tx n (.slice a N c) at_
 obtain ⟨g0, hg0⟩ : ∃ g, w.heap.size = g := ⟨_, rfl⟩
 rw [hg0] at hbx hS1 hB1 ⊢
 have HBX := hid hbx
 have HB1 := hid hB1
 have hc0 : w1.cell? ⟨g0, 0, none⟩ = some (.int .i64 k) := cell_at hS1 0 rfl
 have HL3 := hid (load1 Tryz.isAgg22 (cell_at hS1 3 rfl))
 clear hbx hS1 hB1 hz1 hg0
 obtain ⟨Z, hZ⟩ : ∃ Z, kidsOk k N = Z := ⟨_, rfl⟩
 rw [hZ]
 unfold kidsOk at hZ
 by_cases k12 : k = 12
 case pos =>
  subst k
  rw [show kidsOf 12 = (1, 1) from rfl] at hZ
  by_cases h1 : (1 : Int) ≤ (N : Int)
  ·by_cases h2 : (N : Int) ≤ 1
   ·have H1 := hid (decide_eq_true h1)
    have H2 := hid (decide_eq_true h2)
    have HZ : Hid (Z = true) := hid (by rw [← hZ, H1.out, H2.out]; rfl)
    clear hZ h1 h2
    go_enter Tryz.func79, Tryz.ntmps79
    go_upto_region 0 with fail
    refine rl ?_
    refine wp_run (v := .pointer (some ⟨g0, 0, none⟩)) rfl rfl (run_boxOp rfl (by kernel_rfl) HBX.out) rfl ?_
    try simp only [nA, nB, nC]
    refine qv (.bool false) ?_
    simp only [nA, nB, nC]
    refine we ?_
    go_upto_region 12 with fail
    refine rl ?_
    refine qv (.int .i64 1) ?_
    refine qf (fg24_3 (g0) (0)) ?_
    simp only [nA, nB, nC]
    refine wp_y (v := .slice a N c) rfl rfl (y_load rfl (hl := fun w' h => by rw [h]; exact HL3.out)) rfl ?_
    simp only [nA, nB, nC]
    refine wp_y (v := .int .i64 (N : Nat)) rfl rfl (y_lenT len24 (p := a) (c := c) rfl (by kernel_rfl) (by kernel_rfl)) rfl ?_
    simp only [nA, nB, nC]
    refine wp_y (v := .bool true) rfl rfl (y_bin (k := .i64) (k' := .i64) (m := 1) (n := (N : Nat)) rfl (hr := qleq _ _ _ H1.out)) rfl ?_
    simp only [nA, nB, nC]
    refine qv (.bool true) ?_
    simp only [nA, nB, nC]
    refine wp_yg (v := .pointer (some ⟨g0, 3, none⟩)) rfl (y_faddr rfl (hf := fg24_3 (g0) (0))) rfl ?_
    try simp only [nA, nB, nC]
    refine wp_yg (v := .slice a N c) rfl (y_load rfl (hl := fun w' h => by rw [h]; exact HL3.out)) rfl ?_
    try simp only [nA, nB, nC]
    refine wp_yg (v := .int .i64 (N : Nat)) rfl (y_lenT len24 (p := a) (c := c) rfl (by kernel_rfl) (by kernel_rfl)) rfl ?_
    try simp only [nA, nB, nC]
    refine qg (.int .i64 1) rfl ?_
    simp only [nA, nB, nC]
    refine wp_yg (v := .bool true) rfl (y_bin (k := .i64) (k' := .i64) (m := (N : Nat)) (n := 1) rfl (hr := qleq _ _ _ H2.out)) rfl ?_
    try simp only [nA, nB, nC]
    refine qv (.bool true) ?_
    refine qv (.bool true) ?_
    simp only [nA, nB, nC]
    refine we ?_
    go_wp2_with fail
    go_ret
    exact ⟨by rw [HZ.out]; rfl, HB1.out⟩
   ·have H1 := hid (decide_eq_true h1)
    have H2 := hid (decide_eq_false h2)
    have HZ : Hid (Z = false) := hid (by rw [← hZ, H2.out, Bool.and_false])
    clear hZ h1 h2
    go_enter Tryz.func79, Tryz.ntmps79
    go_upto_region 0 with fail
    refine rl ?_
    refine wp_run (v := .pointer (some ⟨g0, 0, none⟩)) rfl rfl (run_boxOp rfl (by kernel_rfl) HBX.out) rfl ?_
    try simp only [nA, nB, nC]
    refine qv (.bool false) ?_
    simp only [nA, nB, nC]
    refine we ?_
    go_upto_region 12 with fail
    refine rl ?_
    refine qv (.int .i64 1) ?_
    refine qf (fg24_3 (g0) (0)) ?_
    simp only [nA, nB, nC]
    refine wp_y (v := .slice a N c) rfl rfl (y_load rfl (hl := fun w' h => by rw [h]; exact HL3.out)) rfl ?_
    simp only [nA, nB, nC]
    refine wp_y (v := .int .i64 (N : Nat)) rfl rfl (y_lenT len24 (p := a) (c := c) rfl (by kernel_rfl) (by kernel_rfl)) rfl ?_
    simp only [nA, nB, nC]
    refine wp_y (v := .bool true) rfl rfl (y_bin (k := .i64) (k' := .i64) (m := 1) (n := (N : Nat)) rfl (hr := qleq _ _ _ H1.out)) rfl ?_
    simp only [nA, nB, nC]
    refine qv (.bool true) ?_
    simp only [nA, nB, nC]
    refine wp_yg (v := .pointer (some ⟨g0, 3, none⟩)) rfl (y_faddr rfl (hf := fg24_3 (g0) (0))) rfl ?_
    try simp only [nA, nB, nC]
    refine wp_yg (v := .slice a N c) rfl (y_load rfl (hl := fun w' h => by rw [h]; exact HL3.out)) rfl ?_
    try simp only [nA, nB, nC]
    refine wp_yg (v := .int .i64 (N : Nat)) rfl (y_lenT len24 (p := a) (c := c) rfl (by kernel_rfl) (by kernel_rfl)) rfl ?_
    try simp only [nA, nB, nC]
    refine qg (.int .i64 1) rfl ?_
    simp only [nA, nB, nC]
    refine wp_yg (v := .bool false) rfl (y_bin (k := .i64) (k' := .i64) (m := (N : Nat)) (n := 1) rfl (hr := qleq _ _ _ H2.out)) rfl ?_
    try simp only [nA, nB, nC]
    refine qv (.bool false) ?_
    refine qv (.bool false) ?_
    simp only [nA, nB, nC]
    refine we ?_
    go_wp2_with fail
    go_ret
    exact ⟨by rw [HZ.out]; rfl, HB1.out⟩
  ·have H1 := hid (decide_eq_false h1)
   have HZ : Hid (Z = false) := hid (by rw [← hZ, H1.out, Bool.false_and])
   clear hZ h1
   go_enter Tryz.func79, Tryz.ntmps79
   go_upto_region 0 with fail
   refine rl ?_
   refine wp_run (v := .pointer (some ⟨g0, 0, none⟩)) rfl rfl (run_boxOp rfl (by kernel_rfl) HBX.out) rfl ?_
   try simp only [nA, nB, nC]
   refine qv (.bool false) ?_
   simp only [nA, nB, nC]
   refine we ?_
   go_upto_region 12 with fail
   refine rl ?_
   refine qv (.int .i64 1) ?_
   refine qf (fg24_3 (g0) (0)) ?_
   simp only [nA, nB, nC]
   refine wp_y (v := .slice a N c) rfl rfl (y_load rfl (hl := fun w' h => by rw [h]; exact HL3.out)) rfl ?_
   simp only [nA, nB, nC]
   refine wp_y (v := .int .i64 (N : Nat)) rfl rfl (y_lenT len24 (p := a) (c := c) rfl (by kernel_rfl) (by kernel_rfl)) rfl ?_
   simp only [nA, nB, nC]
   refine wp_y (v := .bool false) rfl rfl (y_bin (k := .i64) (k' := .i64) (m := 1) (n := (N : Nat)) rfl (hr := qleq _ _ _ H1.out)) rfl ?_
   simp only [nA, nB, nC]
   refine qv (.bool false) ?_
   simp only [nA, nB, nC]
   refine qs rfl ?_
   simp only [nA, nB, nC]
   refine qs rfl ?_
   simp only [nA, nB, nC]
   refine qs rfl ?_
   simp only [nA, nB, nC]
   refine qs rfl ?_
   simp only [nA, nB, nC]
   refine qs rfl ?_
   simp only [nA, nB, nC]
   refine qv (.bool false) ?_
   refine qv (.bool false) ?_
   simp only [nA, nB, nC]
   refine we ?_
   go_wp2_with fail
   go_ret
   exact ⟨by rw [HZ.out]; rfl, HB1.out⟩
 by_cases k13 : k = 13
 case pos =>
  subst k
  rw [show kidsOf 13 = (2, 2) from rfl] at hZ
  by_cases h1 : (2 : Int) ≤ (N : Int)
  ·by_cases h2 : (N : Int) ≤ 2
   ·have H1 := hid (decide_eq_true h1)
    have H2 := hid (decide_eq_true h2)
    have HZ : Hid (Z = true) := hid (by rw [← hZ, H1.out, H2.out]; rfl)
    clear hZ h1 h2
    go_enter Tryz.func79, Tryz.ntmps79
    go_upto_region 0 with fail
    refine rl ?_
    refine wp_run (v := .pointer (some ⟨g0, 0, none⟩)) rfl rfl (run_boxOp rfl (by kernel_rfl) HBX.out) rfl ?_
    try simp only [nA, nB, nC]
    refine qv (.bool false) ?_
    simp only [nA, nB, nC]
    refine we ?_
    go_upto_region 12 with fail
    refine rl ?_
    refine qv (.int .i64 2) ?_
    refine qf (fg24_3 (g0) (0)) ?_
    simp only [nA, nB, nC]
    refine wp_y (v := .slice a N c) rfl rfl (y_load rfl (hl := fun w' h => by rw [h]; exact HL3.out)) rfl ?_
    simp only [nA, nB, nC]
    refine wp_y (v := .int .i64 (N : Nat)) rfl rfl (y_lenT len24 (p := a) (c := c) rfl (by kernel_rfl) (by kernel_rfl)) rfl ?_
    simp only [nA, nB, nC]
    refine wp_y (v := .bool true) rfl rfl (y_bin (k := .i64) (k' := .i64) (m := 2) (n := (N : Nat)) rfl (hr := qleq _ _ _ H1.out)) rfl ?_
    simp only [nA, nB, nC]
    refine qv (.bool true) ?_
    simp only [nA, nB, nC]
    refine wp_yg (v := .pointer (some ⟨g0, 3, none⟩)) rfl (y_faddr rfl (hf := fg24_3 (g0) (0))) rfl ?_
    try simp only [nA, nB, nC]
    refine wp_yg (v := .slice a N c) rfl (y_load rfl (hl := fun w' h => by rw [h]; exact HL3.out)) rfl ?_
    try simp only [nA, nB, nC]
    refine wp_yg (v := .int .i64 (N : Nat)) rfl (y_lenT len24 (p := a) (c := c) rfl (by kernel_rfl) (by kernel_rfl)) rfl ?_
    try simp only [nA, nB, nC]
    refine qg (.int .i64 2) rfl ?_
    simp only [nA, nB, nC]
    refine wp_yg (v := .bool true) rfl (y_bin (k := .i64) (k' := .i64) (m := (N : Nat)) (n := 2) rfl (hr := qleq _ _ _ H2.out)) rfl ?_
    try simp only [nA, nB, nC]
    refine qv (.bool true) ?_
    refine qv (.bool true) ?_
    simp only [nA, nB, nC]
    refine we ?_
    go_wp2_with fail
    go_ret
    exact ⟨by rw [HZ.out]; rfl, HB1.out⟩
   ·have H1 := hid (decide_eq_true h1)
    have H2 := hid (decide_eq_false h2)
    have HZ : Hid (Z = false) := hid (by rw [← hZ, H2.out, Bool.and_false])
    clear hZ h1 h2
    go_enter Tryz.func79, Tryz.ntmps79
    go_upto_region 0 with fail
    refine rl ?_
    refine wp_run (v := .pointer (some ⟨g0, 0, none⟩)) rfl rfl (run_boxOp rfl (by kernel_rfl) HBX.out) rfl ?_
    try simp only [nA, nB, nC]
    refine qv (.bool false) ?_
    simp only [nA, nB, nC]
    refine we ?_
    go_upto_region 12 with fail
    refine rl ?_
    refine qv (.int .i64 2) ?_
    refine qf (fg24_3 (g0) (0)) ?_
    simp only [nA, nB, nC]
    refine wp_y (v := .slice a N c) rfl rfl (y_load rfl (hl := fun w' h => by rw [h]; exact HL3.out)) rfl ?_
    simp only [nA, nB, nC]
    refine wp_y (v := .int .i64 (N : Nat)) rfl rfl (y_lenT len24 (p := a) (c := c) rfl (by kernel_rfl) (by kernel_rfl)) rfl ?_
    simp only [nA, nB, nC]
    refine wp_y (v := .bool true) rfl rfl (y_bin (k := .i64) (k' := .i64) (m := 2) (n := (N : Nat)) rfl (hr := qleq _ _ _ H1.out)) rfl ?_
    simp only [nA, nB, nC]
    refine qv (.bool true) ?_
    simp only [nA, nB, nC]
    refine wp_yg (v := .pointer (some ⟨g0, 3, none⟩)) rfl (y_faddr rfl (hf := fg24_3 (g0) (0))) rfl ?_
    try simp only [nA, nB, nC]
    refine wp_yg (v := .slice a N c) rfl (y_load rfl (hl := fun w' h => by rw [h]; exact HL3.out)) rfl ?_
    try simp only [nA, nB, nC]
    refine wp_yg (v := .int .i64 (N : Nat)) rfl (y_lenT len24 (p := a) (c := c) rfl (by kernel_rfl) (by kernel_rfl)) rfl ?_
    try simp only [nA, nB, nC]
    refine qg (.int .i64 2) rfl ?_
    simp only [nA, nB, nC]
    refine wp_yg (v := .bool false) rfl (y_bin (k := .i64) (k' := .i64) (m := (N : Nat)) (n := 2) rfl (hr := qleq _ _ _ H2.out)) rfl ?_
    try simp only [nA, nB, nC]
    refine qv (.bool false) ?_
    refine qv (.bool false) ?_
    simp only [nA, nB, nC]
    refine we ?_
    go_wp2_with fail
    go_ret
    exact ⟨by rw [HZ.out]; rfl, HB1.out⟩
  ·have H1 := hid (decide_eq_false h1)
   have HZ : Hid (Z = false) := hid (by rw [← hZ, H1.out, Bool.false_and])
   clear hZ h1
   go_enter Tryz.func79, Tryz.ntmps79
   go_upto_region 0 with fail
   refine rl ?_
   refine wp_run (v := .pointer (some ⟨g0, 0, none⟩)) rfl rfl (run_boxOp rfl (by kernel_rfl) HBX.out) rfl ?_
   try simp only [nA, nB, nC]
   refine qv (.bool false) ?_
   simp only [nA, nB, nC]
   refine we ?_
   go_upto_region 12 with fail
   refine rl ?_
   refine qv (.int .i64 2) ?_
   refine qf (fg24_3 (g0) (0)) ?_
   simp only [nA, nB, nC]
   refine wp_y (v := .slice a N c) rfl rfl (y_load rfl (hl := fun w' h => by rw [h]; exact HL3.out)) rfl ?_
   simp only [nA, nB, nC]
   refine wp_y (v := .int .i64 (N : Nat)) rfl rfl (y_lenT len24 (p := a) (c := c) rfl (by kernel_rfl) (by kernel_rfl)) rfl ?_
   simp only [nA, nB, nC]
   refine wp_y (v := .bool false) rfl rfl (y_bin (k := .i64) (k' := .i64) (m := 2) (n := (N : Nat)) rfl (hr := qleq _ _ _ H1.out)) rfl ?_
   simp only [nA, nB, nC]
   refine qv (.bool false) ?_
   simp only [nA, nB, nC]
   refine qs rfl ?_
   simp only [nA, nB, nC]
   refine qs rfl ?_
   simp only [nA, nB, nC]
   refine qs rfl ?_
   simp only [nA, nB, nC]
   refine qs rfl ?_
   simp only [nA, nB, nC]
   refine qs rfl ?_
   simp only [nA, nB, nC]
   refine qv (.bool false) ?_
   refine qv (.bool false) ?_
   simp only [nA, nB, nC]
   refine we ?_
   go_wp2_with fail
   go_ret
   exact ⟨by rw [HZ.out]; rfl, HB1.out⟩
 by_cases k14 : k = 14
 case pos =>
  subst k
  rw [show kidsOf 14 = (3, 3) from rfl] at hZ
  by_cases h1 : (3 : Int) ≤ (N : Int)
  ·by_cases h2 : (N : Int) ≤ 3
   ·have H1 := hid (decide_eq_true h1)
    have H2 := hid (decide_eq_true h2)
    have HZ : Hid (Z = true) := hid (by rw [← hZ, H1.out, H2.out]; rfl)
    clear hZ h1 h2
    go_enter Tryz.func79, Tryz.ntmps79
    go_upto_region 0 with fail
    refine rl ?_
    refine wp_run (v := .pointer (some ⟨g0, 0, none⟩)) rfl rfl (run_boxOp rfl (by kernel_rfl) HBX.out) rfl ?_
    try simp only [nA, nB, nC]
    refine qv (.bool false) ?_
    simp only [nA, nB, nC]
    refine we ?_
    go_upto_region 12 with fail
    refine rl ?_
    refine qv (.int .i64 3) ?_
    refine qf (fg24_3 (g0) (0)) ?_
    simp only [nA, nB, nC]
    refine wp_y (v := .slice a N c) rfl rfl (y_load rfl (hl := fun w' h => by rw [h]; exact HL3.out)) rfl ?_
    simp only [nA, nB, nC]
    refine wp_y (v := .int .i64 (N : Nat)) rfl rfl (y_lenT len24 (p := a) (c := c) rfl (by kernel_rfl) (by kernel_rfl)) rfl ?_
    simp only [nA, nB, nC]
    refine wp_y (v := .bool true) rfl rfl (y_bin (k := .i64) (k' := .i64) (m := 3) (n := (N : Nat)) rfl (hr := qleq _ _ _ H1.out)) rfl ?_
    simp only [nA, nB, nC]
    refine qv (.bool true) ?_
    simp only [nA, nB, nC]
    refine wp_yg (v := .pointer (some ⟨g0, 3, none⟩)) rfl (y_faddr rfl (hf := fg24_3 (g0) (0))) rfl ?_
    try simp only [nA, nB, nC]
    refine wp_yg (v := .slice a N c) rfl (y_load rfl (hl := fun w' h => by rw [h]; exact HL3.out)) rfl ?_
    try simp only [nA, nB, nC]
    refine wp_yg (v := .int .i64 (N : Nat)) rfl (y_lenT len24 (p := a) (c := c) rfl (by kernel_rfl) (by kernel_rfl)) rfl ?_
    try simp only [nA, nB, nC]
    refine qg (.int .i64 3) rfl ?_
    simp only [nA, nB, nC]
    refine wp_yg (v := .bool true) rfl (y_bin (k := .i64) (k' := .i64) (m := (N : Nat)) (n := 3) rfl (hr := qleq _ _ _ H2.out)) rfl ?_
    try simp only [nA, nB, nC]
    refine qv (.bool true) ?_
    refine qv (.bool true) ?_
    simp only [nA, nB, nC]
    refine we ?_
    go_wp2_with fail
    go_ret
    exact ⟨by rw [HZ.out]; rfl, HB1.out⟩
   ·have H1 := hid (decide_eq_true h1)
    have H2 := hid (decide_eq_false h2)
    have HZ : Hid (Z = false) := hid (by rw [← hZ, H2.out, Bool.and_false])
    clear hZ h1 h2
    go_enter Tryz.func79, Tryz.ntmps79
    go_upto_region 0 with fail
    refine rl ?_
    refine wp_run (v := .pointer (some ⟨g0, 0, none⟩)) rfl rfl (run_boxOp rfl (by kernel_rfl) HBX.out) rfl ?_
    try simp only [nA, nB, nC]
    refine qv (.bool false) ?_
    simp only [nA, nB, nC]
    refine we ?_
    go_upto_region 12 with fail
    refine rl ?_
    refine qv (.int .i64 3) ?_
    refine qf (fg24_3 (g0) (0)) ?_
    simp only [nA, nB, nC]
    refine wp_y (v := .slice a N c) rfl rfl (y_load rfl (hl := fun w' h => by rw [h]; exact HL3.out)) rfl ?_
    simp only [nA, nB, nC]
    refine wp_y (v := .int .i64 (N : Nat)) rfl rfl (y_lenT len24 (p := a) (c := c) rfl (by kernel_rfl) (by kernel_rfl)) rfl ?_
    simp only [nA, nB, nC]
    refine wp_y (v := .bool true) rfl rfl (y_bin (k := .i64) (k' := .i64) (m := 3) (n := (N : Nat)) rfl (hr := qleq _ _ _ H1.out)) rfl ?_
    simp only [nA, nB, nC]
    refine qv (.bool true) ?_
    simp only [nA, nB, nC]
    refine wp_yg (v := .pointer (some ⟨g0, 3, none⟩)) rfl (y_faddr rfl (hf := fg24_3 (g0) (0))) rfl ?_
    try simp only [nA, nB, nC]
    refine wp_yg (v := .slice a N c) rfl (y_load rfl (hl := fun w' h => by rw [h]; exact HL3.out)) rfl ?_
    try simp only [nA, nB, nC]
    refine wp_yg (v := .int .i64 (N : Nat)) rfl (y_lenT len24 (p := a) (c := c) rfl (by kernel_rfl) (by kernel_rfl)) rfl ?_
    try simp only [nA, nB, nC]
    refine qg (.int .i64 3) rfl ?_
    simp only [nA, nB, nC]
    refine wp_yg (v := .bool false) rfl (y_bin (k := .i64) (k' := .i64) (m := (N : Nat)) (n := 3) rfl (hr := qleq _ _ _ H2.out)) rfl ?_
    try simp only [nA, nB, nC]
    refine qv (.bool false) ?_
    refine qv (.bool false) ?_
    simp only [nA, nB, nC]
    refine we ?_
    go_wp2_with fail
    go_ret
    exact ⟨by rw [HZ.out]; rfl, HB1.out⟩
  ·have H1 := hid (decide_eq_false h1)
   have HZ : Hid (Z = false) := hid (by rw [← hZ, H1.out, Bool.false_and])
   clear hZ h1
   go_enter Tryz.func79, Tryz.ntmps79
   go_upto_region 0 with fail
   refine rl ?_
   refine wp_run (v := .pointer (some ⟨g0, 0, none⟩)) rfl rfl (run_boxOp rfl (by kernel_rfl) HBX.out) rfl ?_
   try simp only [nA, nB, nC]
   refine qv (.bool false) ?_
   simp only [nA, nB, nC]
   refine we ?_
   go_upto_region 12 with fail
   refine rl ?_
   refine qv (.int .i64 3) ?_
   refine qf (fg24_3 (g0) (0)) ?_
   simp only [nA, nB, nC]
   refine wp_y (v := .slice a N c) rfl rfl (y_load rfl (hl := fun w' h => by rw [h]; exact HL3.out)) rfl ?_
   simp only [nA, nB, nC]
   refine wp_y (v := .int .i64 (N : Nat)) rfl rfl (y_lenT len24 (p := a) (c := c) rfl (by kernel_rfl) (by kernel_rfl)) rfl ?_
   simp only [nA, nB, nC]
   refine wp_y (v := .bool false) rfl rfl (y_bin (k := .i64) (k' := .i64) (m := 3) (n := (N : Nat)) rfl (hr := qleq _ _ _ H1.out)) rfl ?_
   simp only [nA, nB, nC]
   refine qv (.bool false) ?_
   simp only [nA, nB, nC]
   refine qs rfl ?_
   simp only [nA, nB, nC]
   refine qs rfl ?_
   simp only [nA, nB, nC]
   refine qs rfl ?_
   simp only [nA, nB, nC]
   refine qs rfl ?_
   simp only [nA, nB, nC]
   refine qs rfl ?_
   simp only [nA, nB, nC]
   refine qv (.bool false) ?_
   refine qv (.bool false) ?_
   simp only [nA, nB, nC]
   refine we ?_
   go_wp2_with fail
   go_ret
   exact ⟨by rw [HZ.out]; rfl, HB1.out⟩
 by_cases k15 : k = 15
 case pos =>
  subst k
  rw [show kidsOf 15 = (3, 3) from rfl] at hZ
  by_cases h1 : (3 : Int) ≤ (N : Int)
  ·by_cases h2 : (N : Int) ≤ 3
   ·have H1 := hid (decide_eq_true h1)
    have H2 := hid (decide_eq_true h2)
    have HZ : Hid (Z = true) := hid (by rw [← hZ, H1.out, H2.out]; rfl)
    clear hZ h1 h2
    go_enter Tryz.func79, Tryz.ntmps79
    go_upto_region 0 with fail
    refine rl ?_
    refine wp_run (v := .pointer (some ⟨g0, 0, none⟩)) rfl rfl (run_boxOp rfl (by kernel_rfl) HBX.out) rfl ?_
    try simp only [nA, nB, nC]
    refine qv (.bool false) ?_
    simp only [nA, nB, nC]
    refine we ?_
    go_upto_region 12 with fail
    refine rl ?_
    refine qv (.int .i64 3) ?_
    refine qf (fg24_3 (g0) (0)) ?_
    simp only [nA, nB, nC]
    refine wp_y (v := .slice a N c) rfl rfl (y_load rfl (hl := fun w' h => by rw [h]; exact HL3.out)) rfl ?_
    simp only [nA, nB, nC]
    refine wp_y (v := .int .i64 (N : Nat)) rfl rfl (y_lenT len24 (p := a) (c := c) rfl (by kernel_rfl) (by kernel_rfl)) rfl ?_
    simp only [nA, nB, nC]
    refine wp_y (v := .bool true) rfl rfl (y_bin (k := .i64) (k' := .i64) (m := 3) (n := (N : Nat)) rfl (hr := qleq _ _ _ H1.out)) rfl ?_
    simp only [nA, nB, nC]
    refine qv (.bool true) ?_
    simp only [nA, nB, nC]
    refine wp_yg (v := .pointer (some ⟨g0, 3, none⟩)) rfl (y_faddr rfl (hf := fg24_3 (g0) (0))) rfl ?_
    try simp only [nA, nB, nC]
    refine wp_yg (v := .slice a N c) rfl (y_load rfl (hl := fun w' h => by rw [h]; exact HL3.out)) rfl ?_
    try simp only [nA, nB, nC]
    refine wp_yg (v := .int .i64 (N : Nat)) rfl (y_lenT len24 (p := a) (c := c) rfl (by kernel_rfl) (by kernel_rfl)) rfl ?_
    try simp only [nA, nB, nC]
    refine qg (.int .i64 3) rfl ?_
    simp only [nA, nB, nC]
    refine wp_yg (v := .bool true) rfl (y_bin (k := .i64) (k' := .i64) (m := (N : Nat)) (n := 3) rfl (hr := qleq _ _ _ H2.out)) rfl ?_
    try simp only [nA, nB, nC]
    refine qv (.bool true) ?_
    refine qv (.bool true) ?_
    simp only [nA, nB, nC]
    refine we ?_
    go_wp2_with fail
    go_ret
    exact ⟨by rw [HZ.out]; rfl, HB1.out⟩
   ·have H1 := hid (decide_eq_true h1)
    have H2 := hid (decide_eq_false h2)
    have HZ : Hid (Z = false) := hid (by rw [← hZ, H2.out, Bool.and_false])
    clear hZ h1 h2
    go_enter Tryz.func79, Tryz.ntmps79
    go_upto_region 0 with fail
    refine rl ?_
    refine wp_run (v := .pointer (some ⟨g0, 0, none⟩)) rfl rfl (run_boxOp rfl (by kernel_rfl) HBX.out) rfl ?_
    try simp only [nA, nB, nC]
    refine qv (.bool false) ?_
    simp only [nA, nB, nC]
    refine we ?_
    go_upto_region 12 with fail
    refine rl ?_
    refine qv (.int .i64 3) ?_
    refine qf (fg24_3 (g0) (0)) ?_
    simp only [nA, nB, nC]
    refine wp_y (v := .slice a N c) rfl rfl (y_load rfl (hl := fun w' h => by rw [h]; exact HL3.out)) rfl ?_
    simp only [nA, nB, nC]
    refine wp_y (v := .int .i64 (N : Nat)) rfl rfl (y_lenT len24 (p := a) (c := c) rfl (by kernel_rfl) (by kernel_rfl)) rfl ?_
    simp only [nA, nB, nC]
    refine wp_y (v := .bool true) rfl rfl (y_bin (k := .i64) (k' := .i64) (m := 3) (n := (N : Nat)) rfl (hr := qleq _ _ _ H1.out)) rfl ?_
    simp only [nA, nB, nC]
    refine qv (.bool true) ?_
    simp only [nA, nB, nC]
    refine wp_yg (v := .pointer (some ⟨g0, 3, none⟩)) rfl (y_faddr rfl (hf := fg24_3 (g0) (0))) rfl ?_
    try simp only [nA, nB, nC]
    refine wp_yg (v := .slice a N c) rfl (y_load rfl (hl := fun w' h => by rw [h]; exact HL3.out)) rfl ?_
    try simp only [nA, nB, nC]
    refine wp_yg (v := .int .i64 (N : Nat)) rfl (y_lenT len24 (p := a) (c := c) rfl (by kernel_rfl) (by kernel_rfl)) rfl ?_
    try simp only [nA, nB, nC]
    refine qg (.int .i64 3) rfl ?_
    simp only [nA, nB, nC]
    refine wp_yg (v := .bool false) rfl (y_bin (k := .i64) (k' := .i64) (m := (N : Nat)) (n := 3) rfl (hr := qleq _ _ _ H2.out)) rfl ?_
    try simp only [nA, nB, nC]
    refine qv (.bool false) ?_
    refine qv (.bool false) ?_
    simp only [nA, nB, nC]
    refine we ?_
    go_wp2_with fail
    go_ret
    exact ⟨by rw [HZ.out]; rfl, HB1.out⟩
  ·have H1 := hid (decide_eq_false h1)
   have HZ : Hid (Z = false) := hid (by rw [← hZ, H1.out, Bool.false_and])
   clear hZ h1
   go_enter Tryz.func79, Tryz.ntmps79
   go_upto_region 0 with fail
   refine rl ?_
   refine wp_run (v := .pointer (some ⟨g0, 0, none⟩)) rfl rfl (run_boxOp rfl (by kernel_rfl) HBX.out) rfl ?_
   try simp only [nA, nB, nC]
   refine qv (.bool false) ?_
   simp only [nA, nB, nC]
   refine we ?_
   go_upto_region 12 with fail
   refine rl ?_
   refine qv (.int .i64 3) ?_
   refine qf (fg24_3 (g0) (0)) ?_
   simp only [nA, nB, nC]
   refine wp_y (v := .slice a N c) rfl rfl (y_load rfl (hl := fun w' h => by rw [h]; exact HL3.out)) rfl ?_
   simp only [nA, nB, nC]
   refine wp_y (v := .int .i64 (N : Nat)) rfl rfl (y_lenT len24 (p := a) (c := c) rfl (by kernel_rfl) (by kernel_rfl)) rfl ?_
   simp only [nA, nB, nC]
   refine wp_y (v := .bool false) rfl rfl (y_bin (k := .i64) (k' := .i64) (m := 3) (n := (N : Nat)) rfl (hr := qleq _ _ _ H1.out)) rfl ?_
   simp only [nA, nB, nC]
   refine qv (.bool false) ?_
   simp only [nA, nB, nC]
   refine qs rfl ?_
   simp only [nA, nB, nC]
   refine qs rfl ?_
   simp only [nA, nB, nC]
   refine qs rfl ?_
   simp only [nA, nB, nC]
   refine qs rfl ?_
   simp only [nA, nB, nC]
   refine qs rfl ?_
   simp only [nA, nB, nC]
   refine qv (.bool false) ?_
   refine qv (.bool false) ?_
   simp only [nA, nB, nC]
   refine we ?_
   go_wp2_with fail
   go_ret
   exact ⟨by rw [HZ.out]; rfl, HB1.out⟩
 by_cases k11 : k = 11
 case pos =>
  subst k
  rw [show kidsOf 11 = (1, 8) from rfl] at hZ
  by_cases h1 : (1 : Int) ≤ (N : Int)
  ·by_cases h2 : (N : Int) ≤ 8
   ·have H1 := hid (decide_eq_true h1)
    have H2 := hid (decide_eq_true h2)
    have HZ : Hid (Z = true) := hid (by rw [← hZ, H1.out, H2.out]; rfl)
    clear hZ h1 h2
    go_enter Tryz.func79, Tryz.ntmps79
    go_upto_region 0 with fail
    refine rl ?_
    refine wp_run (v := .pointer (some ⟨g0, 0, none⟩)) rfl rfl (run_boxOp rfl (by kernel_rfl) HBX.out) rfl ?_
    try simp only [nA, nB, nC]
    refine qv (.bool false) ?_
    simp only [nA, nB, nC]
    refine we ?_
    go_upto_region 12 with fail
    refine rl ?_
    refine qv (.int .i64 1) ?_
    refine qf (fg24_3 (g0) (0)) ?_
    simp only [nA, nB, nC]
    refine wp_y (v := .slice a N c) rfl rfl (y_load rfl (hl := fun w' h => by rw [h]; exact HL3.out)) rfl ?_
    simp only [nA, nB, nC]
    refine wp_y (v := .int .i64 (N : Nat)) rfl rfl (y_lenT len24 (p := a) (c := c) rfl (by kernel_rfl) (by kernel_rfl)) rfl ?_
    simp only [nA, nB, nC]
    refine wp_y (v := .bool true) rfl rfl (y_bin (k := .i64) (k' := .i64) (m := 1) (n := (N : Nat)) rfl (hr := qleq _ _ _ H1.out)) rfl ?_
    simp only [nA, nB, nC]
    refine qv (.bool true) ?_
    simp only [nA, nB, nC]
    refine wp_yg (v := .pointer (some ⟨g0, 3, none⟩)) rfl (y_faddr rfl (hf := fg24_3 (g0) (0))) rfl ?_
    try simp only [nA, nB, nC]
    refine wp_yg (v := .slice a N c) rfl (y_load rfl (hl := fun w' h => by rw [h]; exact HL3.out)) rfl ?_
    try simp only [nA, nB, nC]
    refine wp_yg (v := .int .i64 (N : Nat)) rfl (y_lenT len24 (p := a) (c := c) rfl (by kernel_rfl) (by kernel_rfl)) rfl ?_
    try simp only [nA, nB, nC]
    refine qg (.int .i64 8) rfl ?_
    simp only [nA, nB, nC]
    refine wp_yg (v := .bool true) rfl (y_bin (k := .i64) (k' := .i64) (m := (N : Nat)) (n := 8) rfl (hr := qleq _ _ _ H2.out)) rfl ?_
    try simp only [nA, nB, nC]
    refine qv (.bool true) ?_
    refine qv (.bool true) ?_
    simp only [nA, nB, nC]
    refine we ?_
    go_wp2_with fail
    go_ret
    exact ⟨by rw [HZ.out]; rfl, HB1.out⟩
   ·have H1 := hid (decide_eq_true h1)
    have H2 := hid (decide_eq_false h2)
    have HZ : Hid (Z = false) := hid (by rw [← hZ, H2.out, Bool.and_false])
    clear hZ h1 h2
    go_enter Tryz.func79, Tryz.ntmps79
    go_upto_region 0 with fail
    refine rl ?_
    refine wp_run (v := .pointer (some ⟨g0, 0, none⟩)) rfl rfl (run_boxOp rfl (by kernel_rfl) HBX.out) rfl ?_
    try simp only [nA, nB, nC]
    refine qv (.bool false) ?_
    simp only [nA, nB, nC]
    refine we ?_
    go_upto_region 12 with fail
    refine rl ?_
    refine qv (.int .i64 1) ?_
    refine qf (fg24_3 (g0) (0)) ?_
    simp only [nA, nB, nC]
    refine wp_y (v := .slice a N c) rfl rfl (y_load rfl (hl := fun w' h => by rw [h]; exact HL3.out)) rfl ?_
    simp only [nA, nB, nC]
    refine wp_y (v := .int .i64 (N : Nat)) rfl rfl (y_lenT len24 (p := a) (c := c) rfl (by kernel_rfl) (by kernel_rfl)) rfl ?_
    simp only [nA, nB, nC]
    refine wp_y (v := .bool true) rfl rfl (y_bin (k := .i64) (k' := .i64) (m := 1) (n := (N : Nat)) rfl (hr := qleq _ _ _ H1.out)) rfl ?_
    simp only [nA, nB, nC]
    refine qv (.bool true) ?_
    simp only [nA, nB, nC]
    refine wp_yg (v := .pointer (some ⟨g0, 3, none⟩)) rfl (y_faddr rfl (hf := fg24_3 (g0) (0))) rfl ?_
    try simp only [nA, nB, nC]
    refine wp_yg (v := .slice a N c) rfl (y_load rfl (hl := fun w' h => by rw [h]; exact HL3.out)) rfl ?_
    try simp only [nA, nB, nC]
    refine wp_yg (v := .int .i64 (N : Nat)) rfl (y_lenT len24 (p := a) (c := c) rfl (by kernel_rfl) (by kernel_rfl)) rfl ?_
    try simp only [nA, nB, nC]
    refine qg (.int .i64 8) rfl ?_
    simp only [nA, nB, nC]
    refine wp_yg (v := .bool false) rfl (y_bin (k := .i64) (k' := .i64) (m := (N : Nat)) (n := 8) rfl (hr := qleq _ _ _ H2.out)) rfl ?_
    try simp only [nA, nB, nC]
    refine qv (.bool false) ?_
    refine qv (.bool false) ?_
    simp only [nA, nB, nC]
    refine we ?_
    go_wp2_with fail
    go_ret
    exact ⟨by rw [HZ.out]; rfl, HB1.out⟩
  ·have H1 := hid (decide_eq_false h1)
   have HZ : Hid (Z = false) := hid (by rw [← hZ, H1.out, Bool.false_and])
   clear hZ h1
   go_enter Tryz.func79, Tryz.ntmps79
   go_upto_region 0 with fail
   refine rl ?_
   refine wp_run (v := .pointer (some ⟨g0, 0, none⟩)) rfl rfl (run_boxOp rfl (by kernel_rfl) HBX.out) rfl ?_
   try simp only [nA, nB, nC]
   refine qv (.bool false) ?_
   simp only [nA, nB, nC]
   refine we ?_
   go_upto_region 12 with fail
   refine rl ?_
   refine qv (.int .i64 1) ?_
   refine qf (fg24_3 (g0) (0)) ?_
   simp only [nA, nB, nC]
   refine wp_y (v := .slice a N c) rfl rfl (y_load rfl (hl := fun w' h => by rw [h]; exact HL3.out)) rfl ?_
   simp only [nA, nB, nC]
   refine wp_y (v := .int .i64 (N : Nat)) rfl rfl (y_lenT len24 (p := a) (c := c) rfl (by kernel_rfl) (by kernel_rfl)) rfl ?_
   simp only [nA, nB, nC]
   refine wp_y (v := .bool false) rfl rfl (y_bin (k := .i64) (k' := .i64) (m := 1) (n := (N : Nat)) rfl (hr := qleq _ _ _ H1.out)) rfl ?_
   simp only [nA, nB, nC]
   refine qv (.bool false) ?_
   simp only [nA, nB, nC]
   refine qs rfl ?_
   simp only [nA, nB, nC]
   refine qs rfl ?_
   simp only [nA, nB, nC]
   refine qs rfl ?_
   simp only [nA, nB, nC]
   refine qs rfl ?_
   simp only [nA, nB, nC]
   refine qs rfl ?_
   simp only [nA, nB, nC]
   refine qv (.bool false) ?_
   refine qv (.bool false) ?_
   simp only [nA, nB, nC]
   refine we ?_
   go_wp2_with fail
   go_ret
   exact ⟨by rw [HZ.out]; rfl, HB1.out⟩
 rw [show kidsOf k = (0, 0) by unfold kidsOf; rw [if_neg k12, if_neg k13, if_neg k14, if_neg k15, if_neg k11]] at hZ
 by_cases h1 : (0 : Int) ≤ (N : Int)
 ·by_cases h2 : (N : Int) ≤ 0
  ·have H1 := hid (decide_eq_true h1)
   have H2 := hid (decide_eq_true h2)
   have HZ : Hid (Z = true) := hid (by rw [← hZ, H1.out, H2.out]; rfl)
   clear hZ h1 h2
   go_enter Tryz.func79, Tryz.ntmps79
   go_upto_region 0 with fail
   refine rl ?_
   refine wp_run (v := .pointer (some ⟨g0, 0, none⟩)) rfl rfl (run_boxOp rfl (by kernel_rfl) HBX.out) rfl ?_
   try simp only [nA, nB, nC]
   refine qv (.bool false) ?_
   simp only [nA, nB, nC]
   refine we ?_
   go_upto_region 12 with fail
   refine rl ?_
   refine qv (.int .i64 0) ?_
   refine qf (fg24_3 (g0) (0)) ?_
   simp only [nA, nB, nC]
   refine wp_y (v := .slice a N c) rfl rfl (y_load rfl (hl := fun w' h => by rw [h]; exact HL3.out)) rfl ?_
   simp only [nA, nB, nC]
   refine wp_y (v := .int .i64 (N : Nat)) rfl rfl (y_lenT len24 (p := a) (c := c) rfl (by kernel_rfl) (by kernel_rfl)) rfl ?_
   simp only [nA, nB, nC]
   refine wp_y (v := .bool true) rfl rfl (y_bin (k := .i64) (k' := .i64) (m := 0) (n := (N : Nat)) rfl (hr := qleq _ _ _ H1.out)) rfl ?_
   simp only [nA, nB, nC]
   refine qv (.bool true) ?_
   simp only [nA, nB, nC]
   refine wp_yg (v := .pointer (some ⟨g0, 3, none⟩)) rfl (y_faddr rfl (hf := fg24_3 (g0) (0))) rfl ?_
   try simp only [nA, nB, nC]
   refine wp_yg (v := .slice a N c) rfl (y_load rfl (hl := fun w' h => by rw [h]; exact HL3.out)) rfl ?_
   try simp only [nA, nB, nC]
   refine wp_yg (v := .int .i64 (N : Nat)) rfl (y_lenT len24 (p := a) (c := c) rfl (by kernel_rfl) (by kernel_rfl)) rfl ?_
   try simp only [nA, nB, nC]
   refine qg (.int .i64 0) rfl ?_
   simp only [nA, nB, nC]
   refine wp_yg (v := .bool true) rfl (y_bin (k := .i64) (k' := .i64) (m := (N : Nat)) (n := 0) rfl (hr := qleq _ _ _ H2.out)) rfl ?_
   try simp only [nA, nB, nC]
   refine qv (.bool true) ?_
   refine qv (.bool true) ?_
   simp only [nA, nB, nC]
   refine we ?_
   go_wp2_with fail
   go_ret
   exact ⟨by rw [HZ.out]; rfl, HB1.out⟩
  ·have H1 := hid (decide_eq_true h1)
   have H2 := hid (decide_eq_false h2)
   have HZ : Hid (Z = false) := hid (by rw [← hZ, H2.out, Bool.and_false])
   clear hZ h1 h2
   go_enter Tryz.func79, Tryz.ntmps79
   go_upto_region 0 with fail
   refine rl ?_
   refine wp_run (v := .pointer (some ⟨g0, 0, none⟩)) rfl rfl (run_boxOp rfl (by kernel_rfl) HBX.out) rfl ?_
   try simp only [nA, nB, nC]
   refine qv (.bool false) ?_
   simp only [nA, nB, nC]
   refine we ?_
   go_upto_region 12 with fail
   refine rl ?_
   refine qv (.int .i64 0) ?_
   refine qf (fg24_3 (g0) (0)) ?_
   simp only [nA, nB, nC]
   refine wp_y (v := .slice a N c) rfl rfl (y_load rfl (hl := fun w' h => by rw [h]; exact HL3.out)) rfl ?_
   simp only [nA, nB, nC]
   refine wp_y (v := .int .i64 (N : Nat)) rfl rfl (y_lenT len24 (p := a) (c := c) rfl (by kernel_rfl) (by kernel_rfl)) rfl ?_
   simp only [nA, nB, nC]
   refine wp_y (v := .bool true) rfl rfl (y_bin (k := .i64) (k' := .i64) (m := 0) (n := (N : Nat)) rfl (hr := qleq _ _ _ H1.out)) rfl ?_
   simp only [nA, nB, nC]
   refine qv (.bool true) ?_
   simp only [nA, nB, nC]
   refine wp_yg (v := .pointer (some ⟨g0, 3, none⟩)) rfl (y_faddr rfl (hf := fg24_3 (g0) (0))) rfl ?_
   try simp only [nA, nB, nC]
   refine wp_yg (v := .slice a N c) rfl (y_load rfl (hl := fun w' h => by rw [h]; exact HL3.out)) rfl ?_
   try simp only [nA, nB, nC]
   refine wp_yg (v := .int .i64 (N : Nat)) rfl (y_lenT len24 (p := a) (c := c) rfl (by kernel_rfl) (by kernel_rfl)) rfl ?_
   try simp only [nA, nB, nC]
   refine qg (.int .i64 0) rfl ?_
   simp only [nA, nB, nC]
   refine wp_yg (v := .bool false) rfl (y_bin (k := .i64) (k' := .i64) (m := (N : Nat)) (n := 0) rfl (hr := qleq _ _ _ H2.out)) rfl ?_
   try simp only [nA, nB, nC]
   refine qv (.bool false) ?_
   refine qv (.bool false) ?_
   simp only [nA, nB, nC]
   refine we ?_
   go_wp2_with fail
   go_ret
   exact ⟨by rw [HZ.out]; rfl, HB1.out⟩
 ·exact absurd (by omega) h1
def Mkr (w : World) (p : Nat) (m : Int) : Prop := w.heap[p]? = some (.cells #[.int .i64 m] 62 (0, 0))
theorem fg62_0 (b o : Nat) (w : World) : (Instr.fieldAt 62 (.pointer (some ⟨b, o, none⟩)) 0).run Tryz.prog w = .ok (.pointer (some ⟨b, o, none⟩)) w := by go_simp
theorem counts_any {w : World} {p : Nat} {m : Int} (h : Mkr w p m) (h0 : -9223372036854775808 < m ∧ m ≤ 9223372036854775807) : Calls Tryz.prog 70 #[.pointer (some ⟨p, 0, none⟩)] w fun e w' => e = .returned (.bool (decide (0 ≤ m - 1))) ∧ Fr [p] w w' ∧ Mkr w' p (m - 1) := by
 have hst := store1 Tryz.sizeOf3 (.int .i64 (m - 1)) rfl rfl (cell_at h 0 rfl) (open_at h 0)
 have hp := heap_setCell h 0 (.int .i64 (m - 1))
 have hF := Fr.setCell w p 0 (.int .i64 (m - 1))
 have hld := load1 Tryz.isAgg3 (cell_at h 0 rfl)
 obtain ⟨w1, hw1⟩ : ∃ w1, w.setCell ⟨p, 0, none⟩ (.int .i64 (m - 1)) = w1 := ⟨_, rfl⟩
 rw [hw1] at hst hp hF
 have HST := hid hst
 have HLD := hid hld
 have HL1 : Hid ((Instr.loadAt 3 (.pointer (some ⟨p, 0, none⟩))).run Tryz.prog w1 = .ok (.int .i64 (m - 1)) w1) := hid (load1 Tryz.isAgg3 (cell_at hp 0 rfl))
 have HSB : Hid (IntKind.i64.wrap (m - 1) = m - 1) := hid (by rw [IntWalk.i64_in _ ⟨by omega, by omega⟩])
 have HZ : Hid (Fr [p] w w1 ∧ Mkr w1 p (m - 1)) := hid ⟨hF, hp⟩
 clear hst hp hF hld hw1 h h0
 go_enter Tryz.func70, Tryz.ntmps70
 go_upto_region 1 with fail
 refine rl ?_
 refine qv (.pointer (some ⟨p, 0, none⟩)) ?_
 refine qv (.pointer (some ⟨p, 0, none⟩)) ?_
 refine qf (fg62_0 (p) (0)) ?_
 simp only [nA, nB, nC]
 refine wp_y (v := .int .i64 m) rfl rfl (y_load rfl (hl := fun w' h => by rw [h]; exact HLD.out)) rfl ?_
 simp only [nA, nB, nC]
 refine wp_y (v := .int .i64 (m - 1)) rfl rfl (y_bin (k := .i64) (k' := .i64) (m := m) (n := 1) rfl (hr := qsub _ _ _ HSB.out)) rfl ?_
 simp only [nA, nB, nC]
 refine qv (.pointer (some ⟨p, 0, none⟩)) ?_
 refine qf (fg62_0 (p) (0)) ?_
 simp only [nA, nB, nC]
 refine wp_do rfl rfl (run_storeOp rfl (by kernel_rfl) (by kernel_rfl) HST.out) ?_
 try simp only [nA, nB, nC]
 refine we ?_
 go_upto_region 2 with fail
 refine rl ?_
 refine qv (.pointer (some ⟨p, 0, none⟩)) ?_
 refine qv (.pointer (some ⟨p, 0, none⟩)) ?_
 refine qf (fg62_0 (p) (0)) ?_
 simp only [nA, nB, nC]
 refine wp_y (v := .int .i64 (m - 1)) rfl rfl (y_load rfl (hl := fun w' h => by rw [h]; exact HL1.out)) rfl ?_
 simp only [nA, nB, nC]
 refine wp_y (v := .bool (decide (0 ≤ m - 1))) rfl rfl (y_bin (k := .i64) (k' := .i64) (m := (m - 1)) (n := 0) rfl (hr := qgeq _ _ _ rfl)) rfl ?_
 simp only [nA, nB, nC]
 refine qv (.bool (decide (0 ≤ m - 1))) ?_
 simp only [nA, nB, nC]
 refine we ?_
 go_wp2_with fail
 go_ret
 exact ⟨rfl, HZ.out⟩
theorem load_blk {T : TypeId} {k : Nat} (ha : ∀ w, (isAgg T).run Tryz.prog w = .ok true w) (hz : (Tryz.prog.info? T).map (·.size) = some k) {w : World} {g : Nat} {c : Array Value} {e : TypeId} {z : Nat × Nat} (hk : c.size = k) (hg : w.heap[g]? = some (.cells c e z)) :
  (Instr.loadAt T (.pointer (some ⟨g, 0, none⟩))).run Tryz.prog w = .ok (.agg c) w := by
 have h := loadAt_k ha hz w g 0 c e z c.toList (by simpa using hk) hg (fun j v hj => by simpa using hj)
 simpa using h
theorem box_x (T : TypeId) (w : World) (c : Array Value) : ∃ w1 g, (Instr.box T (.agg c)).run Tryz.prog w = .ok (.pointer (some ⟨g, 0, none⟩)) w1 ∧ w1.heap[g]? = some (.cells c T (0, 0)) ∧ Below w.heap.size w w1 :=
 ⟨_, _, box_agg T w c, heap_alloc_last w _, (Below.refl _ _).alloc (Nat.le_refl _) _⟩
section
variable {ops : Array Oper} {S : World → Prop} {o : Oper} {a : Act}
theorem y_mkI {x : Operand} {t : TypeId} {v u : Value} (hop : o.op = .makeInterface t x) (hw : Region.wanted o (yielded ops a.tmps) = true) (hx : a.eval x = v) (hr : ∀ w, (Instr.makeInterface t v).run Tryz.prog w = .ok u w) : YieldsIf Tryz.prog ops S o u a :=
 .inl ⟨hw, fun w _ => by unfold execOp; rw [hop]; simp [hx, hr w]⟩
theorem y_val2 {v : Value} (_ : True = True) (hw : Region.wanted o (yielded ops a.tmps) = true := by kernel_rfl) (h : ∀ w, S w → (execOp a.eval o).run Tryz.prog w = .ok (.value v) w) : YieldsIf Tryz.prog ops S o v a := .inl ⟨hw, h⟩
theorem y_addS {x y : Operand} {t' : TypeId} {l m : List UInt8} (hop : o.op = .binOp .add 9 x y t') (hw : Region.wanted o (yielded ops a.tmps) = true) (hx : a.eval x = strV l) (hy : a.eval y = strV m) (hl : l.length + m.length ≤ 9223372036854775807) : YieldsIf Tryz.prog ops S o (strV (l ++ m)) a :=
 .inl ⟨hw, fun w _ => by
  unfold execOp; rw [hop]; simp only [hx, hy, Sem.run_bind]
  have h1 : (eqGuard .add 9 x y (strV l) (strV m)).run Tryz.prog w = .ok () w := by unfold eqGuard; rfl
  have h2 : (binOp .add 9 (strV l) (strV m)).run Tryz.prog w = .ok (strV (l ++ m)) w := by
   unfold strV; go_simp
   rw [if_neg (by omega)]
   exact congrArg (fun x => Result.ok (Value.string x) w) (by apply ByteArray.ext; simp)
  rw [h1]; simp only [Result.andThen_ok, h2]; rfl⟩
theorem wp_calle {rest : List Oper} {Q : Exit → Act → World → Prop} {w : World} {d : Nat} {f : FuncId} {args : Array Value} {tmps : Array Value} {ds : List Deferred} (hg : o.guard = none) (hd : o.dst = some d)
  (he : ∀ w, (execOp (Act.mk tmps ds).eval o).run Tryz.prog w = .ok (.enter f args) w)
  (h : Calls Tryz.prog f args w fun e w' => ∃ v, e = .returned v ∧ wpList Tryz.prog ops Q rest ⟨tmps.setIfInBounds d v, ds⟩ w') : wpList Tryz.prog ops Q (o :: rest) ⟨tmps, ds⟩ w := by
 refine wp_callg hd ?_ he h
 unfold Region.wanted; rw [hg]
theorem enter_inv {x : Operand} {nm : String} {r : Value} {f : FuncId} {xs : Array Operand} {ats : Array TypeId} {rest args : Array Value} (hop : o.op = .call { callee := .invoke x nm, args := xs, argTypes := ats }) (hx : a.eval x = r) (hxs : xs.map a.eval = rest)
  (hf : ∀ w, (callMethod r nm rest).run Tryz.prog w = .ok (.enter f args) w) : ∀ w, (execOp a.eval o).run Tryz.prog w = .ok (.enter f args) w := by
 intro w
 have e : execOp a.eval o = callMethod r nm (xs.map a.eval) := by
  unfold execOp; rw [hop]; simp only [resolve, hx]
  simp [invoke]
  rw [show (#[r] ++ Array.map a.eval xs)[0]? = some r by simp [Array.getElem?_append]]
  have h2 : (Array.map a.eval xs).extract 0 xs.size = Array.map a.eval xs := by
   have := Array.extract_size (xs := Array.map a.eval xs); rw [Array.size_map] at this; exact this
  rw [h2]
 rw [e, hxs, hf w]
theorem y_ta {x : Operand} {t u : TypeId} {b : Bool} {p v : Value} (hop : o.op = .typeAssert x t u b) (hw : Region.wanted o (yielded ops a.tmps) = true) (hx : a.eval x = p) (hr : ∀ w, (Instr.typeAssert p t u b).run Tryz.prog w = .ok v w) : YieldsIf Tryz.prog ops S o v a :=
 .inl ⟨hw, fun w _ => by unfold execOp; rw [hop]; simp [hx, hr w]⟩
end
theorem ext2_0 (x0 x1 : Value) (w : World) : (Instr.extract (.tuple #[x0, x1]) 0).run Tryz.prog w = .ok x0 w := by go_simp
theorem ext2_1 (x0 x1 : Value) (w : World) : (Instr.extract (.tuple #[x0, x1]) 1).run Tryz.prog w = .ok x1 w := by go_simp
theorem ext3_0 (x0 x1 x2 : Value) (w : World) : (Instr.extract (.tuple #[x0, x1, x2]) 0).run Tryz.prog w = .ok x0 w := by go_simp
theorem ext3_1 (x0 x1 x2 : Value) (w : World) : (Instr.extract (.tuple #[x0, x1, x2]) 1).run Tryz.prog w = .ok x1 w := by go_simp
theorem ext3_2 (x0 x1 x2 : Value) (w : World) : (Instr.extract (.tuple #[x0, x1, x2]) 2).run Tryz.prog w = .ok x2 w := by go_simp
theorem beql_int (a b : Int) (r : Bool) (h : (a == b) = r) (w : World) : (binOp .eql 3 (.int .i64 a) (.int .i64 b)).run Tryz.prog w = .ok (.bool r) w := by subst h; go_simp
theorem bneq_int (a b : Int) (r : Bool) (h : (a != b) = r) (w : World) : (binOp .neq 3 (.int .i64 a) (.int .i64 b)).run Tryz.prog w = .ok (.bool r) w := by subst h; go_simp
theorem blss_int (a b : Int) (r : Bool) (h : decide (a < b) = r) (w : World) : (binOp .lss 3 (.int .i64 a) (.int .i64 b)).run Tryz.prog w = .ok (.bool r) w := by subst h; go_simp
theorem bgtr_int (a b : Int) (r : Bool) (h : decide (b < a) = r) (w : World) : (binOp .gtr 3 (.int .i64 a) (.int .i64 b)).run Tryz.prog w = .ok (.bool r) w := by subst h; go_simp
theorem badd_int (a b c : Int) (h : IntKind.i64.wrap (a + b) = c) (w : World) : (binOp .add 3 (.int .i64 a) (.int .i64 b)).run Tryz.prog w = .ok (.int .i64 c) w := by subst h; go_simp
theorem bsub_int (a b c : Int) (h : IntKind.i64.wrap (a - b) = c) (w : World) : (binOp .sub 3 (.int .i64 a) (.int .i64 b)).run Tryz.prog w = .ok (.int .i64 c) w := by subst h; go_simp
theorem beql_int64 (a b : Int) (r : Bool) (h : (a == b) = r) (w : World) : (binOp .eql 2 (.int .i64 a) (.int .i64 b)).run Tryz.prog w = .ok (.bool r) w := by subst h; go_simp
theorem bneq_int64 (a b : Int) (r : Bool) (h : (a != b) = r) (w : World) : (binOp .neq 2 (.int .i64 a) (.int .i64 b)).run Tryz.prog w = .ok (.bool r) w := by subst h; go_simp
theorem bleq_int64 (a b : Int) (r : Bool) (h : decide (a ≤ b) = r) (w : World) : (binOp .leq 2 (.int .i64 a) (.int .i64 b)).run Tryz.prog w = .ok (.bool r) w := by subst h; go_simp
theorem bgeq_int64 (a b : Int) (r : Bool) (h : decide (b ≤ a) = r) (w : World) : (binOp .geq 2 (.int .i64 a) (.int .i64 b)).run Tryz.prog w = .ok (.bool r) w := by subst h; go_simp
theorem beql_uint8 (a b : Int) (r : Bool) (h : (a == b) = r) (w : World) : (binOp .eql 5 (.int .u8 a) (.int .u8 b)).run Tryz.prog w = .ok (.bool r) w := by subst h; go_simp
theorem blss_uint8 (a b : Int) (r : Bool) (h : decide (a < b) = r) (w : World) : (binOp .lss 5 (.int .u8 a) (.int .u8 b)).run Tryz.prog w = .ok (.bool r) w := by subst h; go_simp
theorem bgtr_uint8 (a b : Int) (r : Bool) (h : decide (b < a) = r) (w : World) : (binOp .gtr 5 (.int .u8 a) (.int .u8 b)).run Tryz.prog w = .ok (.bool r) w := by subst h; go_simp
theorem beql_api_Errno (a b : Int) (r : Bool) (h : (a == b) = r) (w : World) : (binOp .eql 26 (.int .i64 a) (.int .i64 b)).run Tryz.prog w = .ok (.bool r) w := by subst h; go_simp
theorem bneq_api_Errno (a b : Int) (r : Bool) (h : (a != b) = r) (w : World) : (binOp .neq 26 (.int .i64 a) (.int .i64 b)).run Tryz.prog w = .ok (.bool r) w := by subst h; go_simp
theorem fa_api_Node_0 (b o : Nat) (w : World) : (Instr.fieldAt 24 (.pointer (some ⟨b, o, none⟩)) 0).run Tryz.prog w = .ok (.pointer (some ⟨b, o, none⟩)) w := by go_simp
theorem fa_api_Node_1 (b o : Nat) (w : World) : (Instr.fieldAt 24 (.pointer (some ⟨b, o, none⟩)) 1).run Tryz.prog w = .ok (.pointer (some ⟨b, o + 1, none⟩)) w := by go_simp
theorem fa_api_Node_2 (b o : Nat) (w : World) : (Instr.fieldAt 24 (.pointer (some ⟨b, o, none⟩)) 2).run Tryz.prog w = .ok (.pointer (some ⟨b, o + 2, none⟩)) w := by go_simp
theorem fa_api_Node_3 (b o : Nat) (w : World) : (Instr.fieldAt 24 (.pointer (some ⟨b, o, none⟩)) 3).run Tryz.prog w = .ok (.pointer (some ⟨b, o + 3, none⟩)) w := by go_simp
theorem fa_show_list_0 (b o : Nat) (w : World) : (Instr.fieldAt 123 (.pointer (some ⟨b, o, none⟩)) 0).run Tryz.prog w = .ok (.pointer (some ⟨b, o, none⟩)) w := by go_simp
theorem fa_show_list_1 (b o : Nat) (w : World) : (Instr.fieldAt 123 (.pointer (some ⟨b, o, none⟩)) 1).run Tryz.prog w = .ok (.pointer (some ⟨b, o + 1, none⟩)) w := by go_simp
theorem fa_show_unary_0 (b o : Nat) (w : World) : (Instr.fieldAt 130 (.pointer (some ⟨b, o, none⟩)) 0).run Tryz.prog w = .ok (.pointer (some ⟨b, o, none⟩)) w := by go_simp
theorem fa_show_unary_1 (b o : Nat) (w : World) : (Instr.fieldAt 130 (.pointer (some ⟨b, o, none⟩)) 1).run Tryz.prog w = .ok (.pointer (some ⟨b, o + 1, none⟩)) w := by go_simp
theorem fa_show_binary_0 (b o : Nat) (w : World) : (Instr.fieldAt 132 (.pointer (some ⟨b, o, none⟩)) 0).run Tryz.prog w = .ok (.pointer (some ⟨b, o, none⟩)) w := by go_simp
theorem fa_show_binary_1 (b o : Nat) (w : World) : (Instr.fieldAt 132 (.pointer (some ⟨b, o, none⟩)) 1).run Tryz.prog w = .ok (.pointer (some ⟨b, o + 1, none⟩)) w := by go_simp
theorem fa_show_binary_2 (b o : Nat) (w : World) : (Instr.fieldAt 132 (.pointer (some ⟨b, o, none⟩)) 2).run Tryz.prog w = .ok (.pointer (some ⟨b, o + 2, none⟩)) w := by go_simp
theorem fa_show_choice_0 (b o : Nat) (w : World) : (Instr.fieldAt 134 (.pointer (some ⟨b, o, none⟩)) 0).run Tryz.prog w = .ok (.pointer (some ⟨b, o, none⟩)) w := by go_simp
theorem fa_show_choice_1 (b o : Nat) (w : World) : (Instr.fieldAt 134 (.pointer (some ⟨b, o, none⟩)) 1).run Tryz.prog w = .ok (.pointer (some ⟨b, o + 1, none⟩)) w := by go_simp
theorem fa_show_choice_2 (b o : Nat) (w : World) : (Instr.fieldAt 134 (.pointer (some ⟨b, o, none⟩)) 2).run Tryz.prog w = .ok (.pointer (some ⟨b, o + 2, none⟩)) w := by go_simp
theorem fa_usanceref07_Token_0 (b o : Nat) (w : World) : (Instr.fieldAt 75 (.pointer (some ⟨b, o, none⟩)) 0).run Tryz.prog w = .ok (.pointer (some ⟨b, o, none⟩)) w := by go_simp
theorem fa_usanceref07_Token_1 (b o : Nat) (w : World) : (Instr.fieldAt 75 (.pointer (some ⟨b, o, none⟩)) 1).run Tryz.prog w = .ok (.pointer (some ⟨b, o + 1, none⟩)) w := by go_simp
theorem fa_usanceref07_Token_2 (b o : Nat) (w : World) : (Instr.fieldAt 75 (.pointer (some ⟨b, o, none⟩)) 2).run Tryz.prog w = .ok (.pointer (some ⟨b, o + 2, none⟩)) w := by go_simp
theorem fa_usanceref07_Token_3 (b o : Nat) (w : World) : (Instr.fieldAt 75 (.pointer (some ⟨b, o, none⟩)) 3).run Tryz.prog w = .ok (.pointer (some ⟨b, o + 3, none⟩)) w := by go_simp
theorem fa_usanceref07_parser_0 (b o : Nat) (w : World) : (Instr.fieldAt 97 (.pointer (some ⟨b, o, none⟩)) 0).run Tryz.prog w = .ok (.pointer (some ⟨b, o, none⟩)) w := by go_simp
theorem fa_usanceref07_parser_1 (b o : Nat) (w : World) : (Instr.fieldAt 97 (.pointer (some ⟨b, o, none⟩)) 1).run Tryz.prog w = .ok (.pointer (some ⟨b, o + 1, none⟩)) w := by go_simp
theorem fa_usanceref07_parser_2 (b o : Nat) (w : World) : (Instr.fieldAt 97 (.pointer (some ⟨b, o, none⟩)) 2).run Tryz.prog w = .ok (.pointer (some ⟨b, o + 2, none⟩)) w := by go_simp
theorem fa_usanceref07_parser_3 (b o : Nat) (w : World) : (Instr.fieldAt 97 (.pointer (some ⟨b, o, none⟩)) 3).run Tryz.prog w = .ok (.pointer (some ⟨b, o + 3, none⟩)) w := by go_simp
theorem len_Sapi_Node (p : Option Addr) (n c : Nat) (ty : TypeId) (w : World) : (Builtin.len_ #[22] ty #[.slice p n c]).run Tryz.prog w = .ok (.int .i64 n) w := by go_simp
theorem len_Sstring (p : Option Addr) (n c : Nat) (ty : TypeId) (w : World) : (Builtin.len_ #[70] ty #[.slice p n c]).run Tryz.prog w = .ok (.int .i64 n) w := by go_simp
theorem len_Sshow_writer (p : Option Addr) (n c : Nat) (ty : TypeId) (w : World) : (Builtin.len_ #[65] ty #[.slice p n c]).run Tryz.prog w = .ok (.int .i64 n) w := by go_simp
theorem len_Susanceref07_Token (p : Option Addr) (n c : Nat) (ty : TypeId) (w : World) : (Builtin.len_ #[47] ty #[.slice p n c]).run Tryz.prog w = .ok (.int .i64 n) w := by go_simp
theorem mk_show_word (v : Value) (w : World) : (Instr.makeInterface 64 v).run Tryz.prog w = .ok (.iface 64 v) w := by go_simp
theorem mk_show_list (v : Value) (w : World) : (Instr.makeInterface 123 v).run Tryz.prog w = .ok (.iface 123 v) w := by go_simp
theorem mk_show_unary (v : Value) (w : World) : (Instr.makeInterface 130 v).run Tryz.prog w = .ok (.iface 130 v) w := by go_simp
theorem mk_show_binary (v : Value) (w : World) : (Instr.makeInterface 132 v).run Tryz.prog w = .ok (.iface 132 v) w := by go_simp
theorem mk_show_choice (v : Value) (w : World) : (Instr.makeInterface 134 v).run Tryz.prog w = .ok (.iface 134 v) w := by go_simp
theorem mk_show_row (v : Value) (w : World) : (Instr.makeInterface 66 v).run Tryz.prog w = .ok (.iface 66 v) w := by go_simp
theorem mk_show_rows (v : Value) (w : World) : (Instr.makeInterface 67 v).run Tryz.prog w = .ok (.iface 67 v) w := by go_simp
end Go.Proofs.YtgpkcjpanpbhdaaGreatDoor
namespace Go.Proofs.YtgpkcjpanpbhdaaGreatDoor
open Go.RowKit
theorem slite_cut (s : ByteArray) (w : World) (hs : s.size ≤ 9223372036854775807) :
  Calls Tryz.prog 196 #[.string s, .string ⟨#[46]⟩] w fun e w' => e = .returned (.tuple #[.string ⟨(Lib.cut s.data.toList [46]).1.toArray⟩, .string ⟨(Lib.cut s.data.toList [46]).2.1.toArray⟩, .bool (Lib.cut s.data.toList [46]).2.2]) ∧ ∃ n, w' = w.drewN n := by
 have HI : Hid (∀ w : World, Calls Tryz.prog 211 #[.string s, .string ⟨#[46]⟩] w fun e w' => e = .returned (.int .i64 (Lib.index s.data.toList [46])) ∧ w' = w) := fun w => by
  have := Tryz.stringslite_Index_one s 46 w
  rw [← Lib.index_one] at this; exact this
 rcases Lib.indexB_cases s ⟨#[46]⟩ with hix | ⟨i, hix, hroom⟩
 ·obtain ⟨e1, e2, e3⟩ := Lib.cutB_miss s ⟨#[46]⟩ hix
  have e1' : (⟨(Lib.cut s.data.toList [46]).1.toArray⟩ : ByteArray) = s := e1
  have e2' : (⟨(Lib.cut s.data.toList [46]).2.1.toArray⟩ : ByteArray) = _ := e2
  have e3' : (Lib.cut s.data.toList [46]).2.2 = _ := e3
  rw [e1', e2', e3']
  have hix' : Lib.index s.data.toList [46] = -1 := hix
  rw [hix'] at HI
  clear hix hix' e1 e2 e3 e1' e2' e3'
  go_enter Tryz.func196, Tryz.ntmps196
  go_wp2_with (go_at_call 211; refine (HI.out _).mono ?_; rintro e w ⟨rfl, rfl⟩)
  go_ret3
  exact ⟨rfl, 0, rfl⟩
 ·obtain ⟨e1, e2, e3⟩ := Lib.cutB_hit s ⟨#[46]⟩ i hix
  have e1' : (⟨(Lib.cut s.data.toList [46]).1.toArray⟩ : ByteArray) = _ := e1
  have e2' : (⟨(Lib.cut s.data.toList [46]).2.1.toArray⟩ : ByteArray) = _ := e2
  have e3' : (Lib.cut s.data.toList [46]).2.2 = _ := e3
  rw [e1', e2', e3']
  have hix' : Lib.index s.data.toList [46] = (i : Int) := hix
  rw [hix'] at HI
  have hr : i + 1 ≤ s.size := hroom
  have c1 : (0 : Int) ≤ (i : Int) := by omega
  have c2 : (i : Int) ≤ (s.size : Int) := by omega
  have c3 : (0 : Int) ≤ (i : Int) + 1 := by omega
  have c4 : (i : Int) + 1 ≤ (s.size : Int) := by omega
  clear hix hix' e1 e2 e3 e1' e2' e3' hroom
  go_enter Tryz.func196, Tryz.ntmps196
  go_wp2_with (go_at_call 211; refine (HI.out _).mono ?_; rintro e w ⟨rfl, rfl⟩)
  go_quiet (fail)
  go_wp2
  go_ret3
  exact ⟨rfl, nq, rfl⟩
theorem cutS_any (s : ByteArray) (w : World) (hs : s.size ≤ 9223372036854775807) :
  Calls Tryz.prog 184 #[.string s, .string ⟨#[46]⟩] w fun e w' => e = .returned (.tuple #[.string ⟨(Lib.cut s.data.toList [46]).1.toArray⟩, .string ⟨(Lib.cut s.data.toList [46]).2.1.toArray⟩, .bool (Lib.cut s.data.toList [46]).2.2]) ∧ ∃ n, w' = w.drewN n := by
 have HI := slite_cut s w hs
 generalize (⟨(Lib.cut s.data.toList [46]).1.toArray⟩ : ByteArray) = B at *
 generalize (⟨(Lib.cut s.data.toList [46]).2.1.toArray⟩ : ByteArray) = A at *
 generalize (Lib.cut s.data.toList [46]).2.2 = f at *
 have HH : Hid (Calls Tryz.prog 196 #[.string s, .string ⟨#[46]⟩] w fun e w' => e = .returned (.tuple #[.string B, .string A, .bool f]) ∧ ∃ n, w' = w.drewN n) := HI
 clear HI hs
 go_enter Tryz.func184, Tryz.ntmps184
 go_wp2_with fail
 refine HH.out.mono ?_
 rintro e w2 ⟨rfl, n, rfl⟩
 go_wp2
 go_ret3
 exact ⟨rfl, n, rfl⟩
end Go.Proofs.YtgpkcjpanpbhdaaGreatDoor
