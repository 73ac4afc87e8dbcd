/- texts put together: SRefA SRefB SRefC SRefD SRefE SRefR SRefX SBare SRBare SRLet -/
import Derived.Test.YtgpkcjpanpbhdaaGreatDoorSGi
import Derived.Test.YtgpkcjpanpbhdaaGreatDoorSGc
import Derived.Test.YtgpkcjpanpbhdaaGreatDoorSGb
import Derived.Test.YtgpkcjpanpbhdaaGreatDoorSGk
import Derived.Test.YtgpkcjpanpbhdaaGreatDoorSGj
set_option maxRecDepth 100000
set_option maxHeartbeats 4000000
namespace Go.Proofs.YtgpkcjpanpbhdaaGreatDoor
open Go Go.RowKit
seal wpList in
theorem near_any (l : List UInt8) (w : World) (hl : l.length ≤ 9223372036854775807) : Calls Tryz.prog 31 #[strV l] w fun e w' => e = .returned (.bool (fre l)) ∧ Below w.heap.size w w' := by
 have HB0 := hid (Below.refl w.heap.size w)
 have HL := hid hl
 clear hl
 go_enter Tryz.func31, Tryz.ntmps31
 go_upto_region 0 with fail
 refine rl ?_
 refine qv (.bool false) ?_
 simp only [nA, nB, nC]
 refine we ?_
 go_upto_region 1 with fail
 refine rl ?_
 refine qv (strV l) ?_
 simp only [nA, nB, nC]
 rcases bt (nam l) with Hhb1 | Hhb1
 ·refine wp_call (f := 52) (args := #[(strV l)]) (by kernel_rfl) (fun w => by go_simp) ?_
  have HCA := hid (refIsName_any l w HL.out)
  refine HCA.out.mono ?_
  rintro e wz ⟨he, hwz⟩
  rw [Hhb1.out] at he
  subst he
  refine ⟨_, rfl, ?_⟩
  obtain rfl := hwz.symm
  try simp only [Act.put, nA, nB, nC]
  refine qv (.bool true) ?_
  simp only [nA, nB, nC]
  refine we ?_
  go_upto_region 2 with fail
  refine rl ?_
  refine qv (strV l) ?_
  simp only [nA, nB, nC]
  rcases bt (decide (l ∈ kws)) with Hhb2 | Hhb2
  ·refine wp_call (f := 53) (args := #[(strV l)]) (by kernel_rfl) (fun w => by go_simp) ?_
   have HCA := hid (isWord_any l w)
   refine HCA.out.mono ?_
   rintro e w3 ⟨he, hq⟩
   rw [Hhb2.out] at he
   subst he
   refine ⟨_, rfl, ?_⟩
   have HB4 := hid hq
   clear hq
   replace HB0 := kb HB0 HB4
   try simp only [Act.put, nA, nB, nC]
   refine qv (.bool true) ?_
   simp only [nA, nB, nC]
   refine we ?_
   go_upto_region 3 with fail
   refine rl ?_
   refine qv (.bool true) ?_
   refine qv (.bool true) ?_
   simp only [nA, nB, nC]
   refine qg (.bool true) rfl ?_
   simp only [nA, nB, nC]
   refine wp_yg (v := (.bool false)) rfl (y_un (p := .bool true) rfl (by kernel_rfl) (by kernel_rfl) (fun w => qnotB true w)) rfl ?_
   try simp only [nA, nB, nC]
   refine qv (.bool false) ?_
   refine qv (.bool false) ?_
   simp only [nA, nB, nC]
   refine we ?_
   go_wp2_with fail
   go_ret
   exact ⟨by unfold fre; rw [Hhb1.out, Hhb2.out]; rfl, HB0.out⟩
  ·refine wp_call (f := 53) (args := #[(strV l)]) (by kernel_rfl) (fun w => by go_simp) ?_
   have HCA := hid (isWord_any l w)
   refine HCA.out.mono ?_
   rintro e w5 ⟨he, hq⟩
   rw [Hhb2.out] at he
   subst he
   refine ⟨_, rfl, ?_⟩
   have HB6 := hid hq
   clear hq
   replace HB0 := kb HB0 HB6
   try simp only [Act.put, nA, nB, nC]
   refine qv (.bool false) ?_
   simp only [nA, nB, nC]
   refine we ?_
   go_upto_region 3 with fail
   refine rl ?_
   refine qv (.bool true) ?_
   refine qv (.bool true) ?_
   simp only [nA, nB, nC]
   refine qg (.bool false) rfl ?_
   simp only [nA, nB, nC]
   refine wp_yg (v := (.bool true)) rfl (y_un (p := .bool false) rfl (by kernel_rfl) (by kernel_rfl) (fun w => qnotB false w)) rfl ?_
   try simp only [nA, nB, nC]
   refine qv (.bool true) ?_
   refine qv (.bool true) ?_
   simp only [nA, nB, nC]
   refine we ?_
   go_wp2_with fail
   go_ret
   exact ⟨by unfold fre; rw [Hhb1.out, Hhb2.out]; rfl, HB0.out⟩
 ·refine wp_call (f := 52) (args := #[(strV l)]) (by kernel_rfl) (fun w => by go_simp) ?_
  have HCA := hid (refIsName_any l w HL.out)
  refine HCA.out.mono ?_
  rintro e wz ⟨he, hwz⟩
  rw [Hhb1.out] at he
  subst he
  refine ⟨_, rfl, ?_⟩
  obtain rfl := hwz.symm
  try simp only [Act.put, nA, nB, nC]
  refine qv (.bool false) ?_
  simp only [nA, nB, nC]
  refine we ?_
  go_upto_region 2 with fail
  refine rl ?_
  refine qv (strV l) ?_
  simp only [nA, nB, nC]
  rcases bt (decide (l ∈ kws)) with Hhb7 | Hhb7
  ·refine wp_call (f := 53) (args := #[(strV l)]) (by kernel_rfl) (fun w => by go_simp) ?_
   have HCA := hid (isWord_any l w)
   refine HCA.out.mono ?_
   rintro e w8 ⟨he, hq⟩
   rw [Hhb7.out] at he
   subst he
   refine ⟨_, rfl, ?_⟩
   have HB9 := hid hq
   clear hq
   replace HB0 := kb HB0 HB9
   try simp only [Act.put, nA, nB, nC]
   refine qv (.bool true) ?_
   simp only [nA, nB, nC]
   refine we ?_
   go_upto_region 3 with fail
   refine rl ?_
   refine qv (.bool false) ?_
   refine qv (.bool false) ?_
   simp only [nA, nB, nC]
   refine qs rfl ?_
   simp only [nA, nB, nC]
   refine qs rfl ?_
   simp only [nA, nB, nC]
   refine qv (.bool false) ?_
   refine qv (.bool false) ?_
   simp only [nA, nB, nC]
   refine we ?_
   go_wp2_with fail
   go_ret
   exact ⟨by unfold fre; rw [Hhb1.out, Hhb7.out]; rfl, HB0.out⟩
  ·refine wp_call (f := 53) (args := #[(strV l)]) (by kernel_rfl) (fun w => by go_simp) ?_
   have HCA := hid (isWord_any l w)
   refine HCA.out.mono ?_
   rintro e w10 ⟨he, hq⟩
   rw [Hhb7.out] at he
   subst he
   refine ⟨_, rfl, ?_⟩
   have HB11 := hid hq
   clear hq
   replace HB0 := kb HB0 HB11
   try simp only [Act.put, nA, nB, nC]
   refine qv (.bool false) ?_
   simp only [nA, nB, nC]
   refine we ?_
   go_upto_region 3 with fail
   refine rl ?_
   refine qv (.bool false) ?_
   refine qv (.bool false) ?_
   simp only [nA, nB, nC]
   refine qs rfl ?_
   simp only [nA, nB, nC]
   refine qs rfl ?_
   simp only [nA, nB, nC]
   refine qv (.bool false) ?_
   refine qv (.bool false) ?_
   simp only [nA, nB, nC]
   refine we ?_
   go_wp2_with fail
   go_ret
   exact ⟨by unfold fre; rw [Hhb1.out, Hhb7.out]; rfl, HB0.out⟩
def kdR (k : Int) : Int × Int := if k = 5 ∨ k = 6 ∨ k = 7 ∨ k = 8 ∨ k = 9 ∨ k = 10 then (0, 0) else if k = 12 then (1, 1) else if k = 13 then (2, 2) else if k = 14 ∨ k = 15 then (3, 3) else if k = 11 then (1, 8) else (1, 0)
seal wpList in
theorem rkids_any (k : Int) (w : World) : Calls Tryz.prog 54 #[.int .i64 k] w fun e w' => e = .returned (.tuple #[.int .i64 (kdR k).1, .int .i64 (kdR k).2]) ∧ Below w.heap.size w w' := by
 have HB0 := hid (Below.refl w.heap.size w)
 go_enter Tryz.func54, Tryz.ntmps54
 go_upto_region 0 with fail
 refine rl ?_
 refine qv (.int .i64 0) ?_
 refine qv (.int .i64 0) ?_
 simp only [nA, nB, nC]
 refine we ?_
 go_upto_region 1 with fail
 refine rl ?_
 refine qv (.int .i64 k) ?_
 simp only [nA, nB, nC]
 refine we ?_
 go_upto_region 2 with fail
 refine rl ?_
 rcases bt ((k == (5 : Int))) with Hhb1 | Hhb1
 ·refine wp_y (v := (.bool true)) rfl rfl (y_bin (k := .i64) (k' := .i64) (m := k) (n := 5) rfl (hr := beql_int k 5 true Hhb1.out)) rfl ?_
  try simp only [nA, nB, nC]
  refine qv (.bool true) ?_
  simp only [nA, nB, nC]
  refine we ?_
  go_upto_region 8 with fail
  refine rl ?_
  refine qv (.int .i64 0) ?_
  refine qv (.int .i64 0) ?_
  simp only [nA, nB, nC]
  refine we ?_
  go_wp2_with fail
  go_ret2
  have h5 : k = 5 := by have h9 := Hhb1.out; simpa using h9
  exact ⟨by simp [kdR, *], HB0.out⟩
 ·refine wp_y (v := (.bool false)) rfl rfl (y_bin (k := .i64) (k' := .i64) (m := k) (n := 5) rfl (hr := beql_int k 5 false Hhb1.out)) rfl ?_
  try simp only [nA, nB, nC]
  refine qv (.bool false) ?_
  simp only [nA, nB, nC]
  refine we ?_
  go_upto_region 3 with fail
  refine rl ?_
  rcases bt ((k == (6 : Int))) with Hhb2 | Hhb2
  ·refine wp_y (v := (.bool true)) rfl rfl (y_bin (k := .i64) (k' := .i64) (m := k) (n := 6) rfl (hr := beql_int k 6 true Hhb2.out)) rfl ?_
   try simp only [nA, nB, nC]
   refine qv (.bool true) ?_
   simp only [nA, nB, nC]
   refine we ?_
   go_upto_region 8 with fail
   refine rl ?_
   refine qv (.int .i64 0) ?_
   refine qv (.int .i64 0) ?_
   simp only [nA, nB, nC]
   refine we ?_
   go_wp2_with fail
   go_ret2
   have h5 : ¬ k = 5 := by have h9 := Hhb1.out; simpa using h9
   have h6 : k = 6 := by have h9 := Hhb2.out; simpa using h9
   exact ⟨by simp [kdR, *], HB0.out⟩
  ·refine wp_y (v := (.bool false)) rfl rfl (y_bin (k := .i64) (k' := .i64) (m := k) (n := 6) rfl (hr := beql_int k 6 false Hhb2.out)) rfl ?_
   try simp only [nA, nB, nC]
   refine qv (.bool false) ?_
   simp only [nA, nB, nC]
   refine we ?_
   go_upto_region 4 with fail
   refine rl ?_
   rcases bt ((k == (7 : Int))) with Hhb3 | Hhb3
   ·refine wp_y (v := (.bool true)) rfl rfl (y_bin (k := .i64) (k' := .i64) (m := k) (n := 7) rfl (hr := beql_int k 7 true Hhb3.out)) rfl ?_
    try simp only [nA, nB, nC]
    refine qv (.bool true) ?_
    simp only [nA, nB, nC]
    refine we ?_
    go_upto_region 8 with fail
    refine rl ?_
    refine qv (.int .i64 0) ?_
    refine qv (.int .i64 0) ?_
    simp only [nA, nB, nC]
    refine we ?_
    go_wp2_with fail
    go_ret2
    have h5 : ¬ k = 5 := by have h9 := Hhb1.out; simpa using h9
    have h6 : ¬ k = 6 := by have h9 := Hhb2.out; simpa using h9
    have h7 : k = 7 := by have h9 := Hhb3.out; simpa using h9
    exact ⟨by simp [kdR, *], HB0.out⟩
   ·refine wp_y (v := (.bool false)) rfl rfl (y_bin (k := .i64) (k' := .i64) (m := k) (n := 7) rfl (hr := beql_int k 7 false Hhb3.out)) rfl ?_
    try simp only [nA, nB, nC]
    refine qv (.bool false) ?_
    simp only [nA, nB, nC]
    refine we ?_
    go_upto_region 5 with fail
    refine rl ?_
    rcases bt ((k == (8 : Int))) with Hhb4 | Hhb4
    ·refine wp_y (v := (.bool true)) rfl rfl (y_bin (k := .i64) (k' := .i64) (m := k) (n := 8) rfl (hr := beql_int k 8 true Hhb4.out)) rfl ?_
     try simp only [nA, nB, nC]
     refine qv (.bool true) ?_
     simp only [nA, nB, nC]
     refine we ?_
     go_upto_region 8 with fail
     refine rl ?_
     refine qv (.int .i64 0) ?_
     refine qv (.int .i64 0) ?_
     simp only [nA, nB, nC]
     refine we ?_
     go_wp2_with fail
     go_ret2
     have h5 : ¬ k = 5 := by have h9 := Hhb1.out; simpa using h9
     have h6 : ¬ k = 6 := by have h9 := Hhb2.out; simpa using h9
     have h7 : ¬ k = 7 := by have h9 := Hhb3.out; simpa using h9
     have h8 : k = 8 := by have h9 := Hhb4.out; simpa using h9
     exact ⟨by simp [kdR, *], HB0.out⟩
    ·refine wp_y (v := (.bool false)) rfl rfl (y_bin (k := .i64) (k' := .i64) (m := k) (n := 8) rfl (hr := beql_int k 8 false Hhb4.out)) rfl ?_
     try simp only [nA, nB, nC]
     refine qv (.bool false) ?_
     simp only [nA, nB, nC]
     refine we ?_
     go_upto_region 6 with fail
     refine rl ?_
     rcases bt ((k == (9 : Int))) with Hhb5 | Hhb5
     ·refine wp_y (v := (.bool true)) rfl rfl (y_bin (k := .i64) (k' := .i64) (m := k) (n := 9) rfl (hr := beql_int k 9 true Hhb5.out)) rfl ?_
      try simp only [nA, nB, nC]
      refine qv (.bool true) ?_
      simp only [nA, nB, nC]
      refine we ?_
      go_upto_region 8 with fail
      refine rl ?_
      refine qv (.int .i64 0) ?_
      refine qv (.int .i64 0) ?_
      simp only [nA, nB, nC]
      refine we ?_
      go_wp2_with fail
      go_ret2
      have h5 : ¬ k = 5 := by have h9 := Hhb1.out; simpa using h9
      have h6 : ¬ k = 6 := by have h9 := Hhb2.out; simpa using h9
      have h7 : ¬ k = 7 := by have h9 := Hhb3.out; simpa using h9
      have h8 : ¬ k = 8 := by have h9 := Hhb4.out; simpa using h9
      have h9 : k = 9 := by have h9 := Hhb5.out; simpa using h9
      exact ⟨by simp [kdR, *], HB0.out⟩
     ·refine wp_y (v := (.bool false)) rfl rfl (y_bin (k := .i64) (k' := .i64) (m := k) (n := 9) rfl (hr := beql_int k 9 false Hhb5.out)) rfl ?_
      try simp only [nA, nB, nC]
      refine qv (.bool false) ?_
      simp only [nA, nB, nC]
      refine we ?_
      go_upto_region 7 with fail
      refine rl ?_
      rcases bt ((k == (10 : Int))) with Hhb6 | Hhb6
      ·refine wp_y (v := (.bool true)) rfl rfl (y_bin (k := .i64) (k' := .i64) (m := k) (n := 10) rfl (hr := beql_int k 10 true Hhb6.out)) rfl ?_
       try simp only [nA, nB, nC]
       refine qv (.bool true) ?_
       simp only [nA, nB, nC]
       refine we ?_
       go_upto_region 8 with fail
       refine rl ?_
       refine qv (.int .i64 0) ?_
       refine qv (.int .i64 0) ?_
       simp only [nA, nB, nC]
       refine we ?_
       go_wp2_with fail
       go_ret2
       have h5 : ¬ k = 5 := by have h9 := Hhb1.out; simpa using h9
       have h6 : ¬ k = 6 := by have h9 := Hhb2.out; simpa using h9
       have h7 : ¬ k = 7 := by have h9 := Hhb3.out; simpa using h9
       have h8 : ¬ k = 8 := by have h9 := Hhb4.out; simpa using h9
       have h9 : ¬ k = 9 := by have h9 := Hhb5.out; simpa using h9
       have h10 : k = 10 := by have h9 := Hhb6.out; simpa using h9
       exact ⟨by simp [kdR, *], HB0.out⟩
      ·refine wp_y (v := (.bool false)) rfl rfl (y_bin (k := .i64) (k' := .i64) (m := k) (n := 10) rfl (hr := beql_int k 10 false Hhb6.out)) rfl ?_
       try simp only [nA, nB, nC]
       refine qv (.bool false) ?_
       simp only [nA, nB, nC]
       refine we ?_
       go_upto_region 9 with fail
       refine rl ?_
       rcases bt ((k == (12 : Int))) with Hhb7 | Hhb7
       ·refine wp_y (v := (.bool true)) rfl rfl (y_bin (k := .i64) (k' := .i64) (m := k) (n := 12) rfl (hr := beql_int k 12 true Hhb7.out)) rfl ?_
        try simp only [nA, nB, nC]
        refine qv (.bool true) ?_
        simp only [nA, nB, nC]
        refine we ?_
        go_upto_region 10 with fail
        refine rl ?_
        refine qv (.int .i64 1) ?_
        refine qv (.int .i64 1) ?_
        simp only [nA, nB, nC]
        refine we ?_
        go_wp2_with fail
        go_ret2
        have h5 : ¬ k = 5 := by have h9 := Hhb1.out; simpa using h9
        have h6 : ¬ k = 6 := by have h9 := Hhb2.out; simpa using h9
        have h7 : ¬ k = 7 := by have h9 := Hhb3.out; simpa using h9
        have h8 : ¬ k = 8 := by have h9 := Hhb4.out; simpa using h9
        have h9 : ¬ k = 9 := by have h9 := Hhb5.out; simpa using h9
        have h10 : ¬ k = 10 := by have h9 := Hhb6.out; simpa using h9
        have h12 : k = 12 := by have h9 := Hhb7.out; simpa using h9
        exact ⟨by simp [kdR, *], HB0.out⟩
       ·refine wp_y (v := (.bool false)) rfl rfl (y_bin (k := .i64) (k' := .i64) (m := k) (n := 12) rfl (hr := beql_int k 12 false Hhb7.out)) rfl ?_
        try simp only [nA, nB, nC]
        refine qv (.bool false) ?_
        simp only [nA, nB, nC]
        refine we ?_
        go_upto_region 11 with fail
        refine rl ?_
        rcases bt ((k == (13 : Int))) with Hhb8 | Hhb8
        ·refine wp_y (v := (.bool true)) rfl rfl (y_bin (k := .i64) (k' := .i64) (m := k) (n := 13) rfl (hr := beql_int k 13 true Hhb8.out)) rfl ?_
         try simp only [nA, nB, nC]
         refine qv (.bool true) ?_
         simp only [nA, nB, nC]
         refine we ?_
         go_upto_region 12 with fail
         refine rl ?_
         refine qv (.int .i64 2) ?_
         refine qv (.int .i64 2) ?_
         simp only [nA, nB, nC]
         refine we ?_
         go_wp2_with fail
         go_ret2
         have h5 : ¬ k = 5 := by have h9 := Hhb1.out; simpa using h9
         have h6 : ¬ k = 6 := by have h9 := Hhb2.out; simpa using h9
         have h7 : ¬ k = 7 := by have h9 := Hhb3.out; simpa using h9
         have h8 : ¬ k = 8 := by have h9 := Hhb4.out; simpa using h9
         have h9 : ¬ k = 9 := by have h9 := Hhb5.out; simpa using h9
         have h10 : ¬ k = 10 := by have h9 := Hhb6.out; simpa using h9
         have h12 : ¬ k = 12 := by have h9 := Hhb7.out; simpa using h9
         have h13 : k = 13 := by have h9 := Hhb8.out; simpa using h9
         exact ⟨by simp [kdR, *], HB0.out⟩
        ·refine wp_y (v := (.bool false)) rfl rfl (y_bin (k := .i64) (k' := .i64) (m := k) (n := 13) rfl (hr := beql_int k 13 false Hhb8.out)) rfl ?_
         try simp only [nA, nB, nC]
         refine qv (.bool false) ?_
         simp only [nA, nB, nC]
         refine we ?_
         go_upto_region 13 with fail
         refine rl ?_
         rcases bt ((k == (14 : Int))) with Hhb9 | Hhb9
         ·refine wp_y (v := (.bool true)) rfl rfl (y_bin (k := .i64) (k' := .i64) (m := k) (n := 14) rfl (hr := beql_int k 14 true Hhb9.out)) rfl ?_
          try simp only [nA, nB, nC]
          refine qv (.bool true) ?_
          simp only [nA, nB, nC]
          refine we ?_
          go_upto_region 15 with fail
          refine rl ?_
          refine qv (.int .i64 3) ?_
          refine qv (.int .i64 3) ?_
          simp only [nA, nB, nC]
          refine we ?_
          go_wp2_with fail
          go_ret2
          have h5 : ¬ k = 5 := by have h9 := Hhb1.out; simpa using h9
          have h6 : ¬ k = 6 := by have h9 := Hhb2.out; simpa using h9
          have h7 : ¬ k = 7 := by have h9 := Hhb3.out; simpa using h9
          have h8 : ¬ k = 8 := by have h9 := Hhb4.out; simpa using h9
          have h9 : ¬ k = 9 := by have h9 := Hhb5.out; simpa using h9
          have h10 : ¬ k = 10 := by have h9 := Hhb6.out; simpa using h9
          have h12 : ¬ k = 12 := by have h9 := Hhb7.out; simpa using h9
          have h13 : ¬ k = 13 := by have h9 := Hhb8.out; simpa using h9
          have h14 : k = 14 := by have h9 := Hhb9.out; simpa using h9
          exact ⟨by simp [kdR, *], HB0.out⟩
         ·refine wp_y (v := (.bool false)) rfl rfl (y_bin (k := .i64) (k' := .i64) (m := k) (n := 14) rfl (hr := beql_int k 14 false Hhb9.out)) rfl ?_
          try simp only [nA, nB, nC]
          refine qv (.bool false) ?_
          simp only [nA, nB, nC]
          refine we ?_
          go_upto_region 14 with fail
          refine rl ?_
          rcases bt ((k == (15 : Int))) with Hhb10 | Hhb10
          ·refine wp_y (v := (.bool true)) rfl rfl (y_bin (k := .i64) (k' := .i64) (m := k) (n := 15) rfl (hr := beql_int k 15 true Hhb10.out)) rfl ?_
           try simp only [nA, nB, nC]
           refine qv (.bool true) ?_
           simp only [nA, nB, nC]
           refine we ?_
           go_upto_region 15 with fail
           refine rl ?_
           refine qv (.int .i64 3) ?_
           refine qv (.int .i64 3) ?_
           simp only [nA, nB, nC]
           refine we ?_
           go_wp2_with fail
           go_ret2
           have h5 : ¬ k = 5 := by have h9 := Hhb1.out; simpa using h9
           have h6 : ¬ k = 6 := by have h9 := Hhb2.out; simpa using h9
           have h7 : ¬ k = 7 := by have h9 := Hhb3.out; simpa using h9
           have h8 : ¬ k = 8 := by have h9 := Hhb4.out; simpa using h9
           have h9 : ¬ k = 9 := by have h9 := Hhb5.out; simpa using h9
           have h10 : ¬ k = 10 := by have h9 := Hhb6.out; simpa using h9
           have h12 : ¬ k = 12 := by have h9 := Hhb7.out; simpa using h9
           have h13 : ¬ k = 13 := by have h9 := Hhb8.out; simpa using h9
           have h14 : ¬ k = 14 := by have h9 := Hhb9.out; simpa using h9
           have h15 : k = 15 := by have h9 := Hhb10.out; simpa using h9
           exact ⟨by simp [kdR, *], HB0.out⟩
          ·refine wp_y (v := (.bool false)) rfl rfl (y_bin (k := .i64) (k' := .i64) (m := k) (n := 15) rfl (hr := beql_int k 15 false Hhb10.out)) rfl ?_
           try simp only [nA, nB, nC]
           refine qv (.bool false) ?_
           simp only [nA, nB, nC]
           refine we ?_
           go_upto_region 16 with fail
           refine rl ?_
           rcases bt ((k == (11 : Int))) with Hhb11 | Hhb11
           ·refine wp_y (v := (.bool true)) rfl rfl (y_bin (k := .i64) (k' := .i64) (m := k) (n := 11) rfl (hr := beql_int k 11 true Hhb11.out)) rfl ?_
            try simp only [nA, nB, nC]
            refine qv (.bool true) ?_
            simp only [nA, nB, nC]
            refine we ?_
            go_upto_region 17 with fail
            refine rl ?_
            refine qv (.int .i64 1) ?_
            refine qv (.int .i64 8) ?_
            simp only [nA, nB, nC]
            refine we ?_
            go_wp2_with fail
            go_ret2
            have h5 : ¬ k = 5 := by have h9 := Hhb1.out; simpa using h9
            have h6 : ¬ k = 6 := by have h9 := Hhb2.out; simpa using h9
            have h7 : ¬ k = 7 := by have h9 := Hhb3.out; simpa using h9
            have h8 : ¬ k = 8 := by have h9 := Hhb4.out; simpa using h9
            have h9 : ¬ k = 9 := by have h9 := Hhb5.out; simpa using h9
            have h10 : ¬ k = 10 := by have h9 := Hhb6.out; simpa using h9
            have h12 : ¬ k = 12 := by have h9 := Hhb7.out; simpa using h9
            have h13 : ¬ k = 13 := by have h9 := Hhb8.out; simpa using h9
            have h14 : ¬ k = 14 := by have h9 := Hhb9.out; simpa using h9
            have h15 : ¬ k = 15 := by have h9 := Hhb10.out; simpa using h9
            have h11 : k = 11 := by have h9 := Hhb11.out; simpa using h9
            exact ⟨by simp [kdR, *], HB0.out⟩
           ·refine wp_y (v := (.bool false)) rfl rfl (y_bin (k := .i64) (k' := .i64) (m := k) (n := 11) rfl (hr := beql_int k 11 false Hhb11.out)) rfl ?_
            try simp only [nA, nB, nC]
            refine qv (.bool false) ?_
            simp only [nA, nB, nC]
            refine we ?_
            go_upto_region 18 with fail
            refine rl ?_
            refine qv (.int .i64 1) ?_
            refine qv (.int .i64 0) ?_
            simp only [nA, nB, nC]
            refine we ?_
            go_wp2_with fail
            go_ret2
            have h5 : ¬ k = 5 := by have h9 := Hhb1.out; simpa using h9
            have h6 : ¬ k = 6 := by have h9 := Hhb2.out; simpa using h9
            have h7 : ¬ k = 7 := by have h9 := Hhb3.out; simpa using h9
            have h8 : ¬ k = 8 := by have h9 := Hhb4.out; simpa using h9
            have h9 : ¬ k = 9 := by have h9 := Hhb5.out; simpa using h9
            have h10 : ¬ k = 10 := by have h9 := Hhb6.out; simpa using h9
            have h12 : ¬ k = 12 := by have h9 := Hhb7.out; simpa using h9
            have h13 : ¬ k = 13 := by have h9 := Hhb8.out; simpa using h9
            have h14 : ¬ k = 14 := by have h9 := Hhb9.out; simpa using h9
            have h15 : ¬ k = 15 := by have h9 := Hhb10.out; simpa using h9
            have h11 : ¬ k = 11 := by have h9 := Hhb11.out; simpa using h9
            exact ⟨by simp [kdR, *], HB0.out⟩
def nbR (k n : Int) : Bool := bif k == 5 then btw 0 1000000000000000 n else bif k == 6 then btw 0 73048 n else bif k == 8 then n == 0 || n == 1 else n == 0
seal wpList in
theorem numbered_any {k : Int} {tx : List UInt8} {n : Int} {a : Option Addr} {N c : Nat} {at_ : Int} (w : World) : Calls Tryz.prog 56 #[nv k tx n (.slice a N c) at_] w fun e w' => e = .returned (.bool (nbR k n)) ∧ Below w.heap.size w w' := by
 have HB0 := hid (Below.refl w.heap.size w)
 go_enter Tryz.func56, Tryz.ntmps56
 go_upto_region 0 with fail
 refine rl ?_
 obtain ⟨w3, g1, (HX : Hid _), (K2 : Hid _), (HB4 : Hid _)⟩ := box_x 24 w #[(.int .i64 k), (strV tx), (.int .i64 n), (.slice a N c), (.int .i64 at_)]
 refine wp_run (v := (.pointer (some ⟨g1, 0, none⟩))) rfl rfl (run_boxOp rfl (by kernel_rfl) HX.out) rfl ?_
 try simp only [nA, nB, nC]
 replace HB0 := kb HB0 HB4
 refine qv (.bool false) ?_
 simp only [nA, nB, nC]
 refine we ?_
 go_upto_region 1 with fail
 refine rl ?_
 refine qf (fa_api_Node_0 g1 0) ?_
 refine ql (.int .i64 k) Tryz.isAgg3 0 K2 ?_
 simp only [nA, nB, nC]
 refine we ?_
 go_upto_region 2 with fail
 refine rl ?_
 rcases bt ((k == (5 : Int))) with Hhb5 | Hhb5
 ·refine wp_y (v := (.bool true)) rfl rfl (y_bin (k := .i64) (k' := .i64) (m := k) (n := 5) rfl (hr := beql_int k 5 true Hhb5.out)) rfl ?_
  try simp only [nA, nB, nC]
  refine qv (.bool true) ?_
  simp only [nA, nB, nC]
  refine we ?_
  go_upto_region 3 with fail
  refine rl ?_
  refine qf (fa_api_Node_2 g1 0) ?_
  refine ql (.int .i64 n) Tryz.isAgg2 2 K2 ?_
  simp only [nA, nB, nC]
  rcases bt (decide ((0 : Int) ≤ n)) with Hhb6 | Hhb6
  ·refine wp_y (v := (.bool true)) rfl rfl (y_bin (k := .i64) (k' := .i64) (m := n) (n := 0) rfl (hr := bgeq_int64 n 0 true Hhb6.out)) rfl ?_
   try simp only [nA, nB, nC]
   refine qv (.bool true) ?_
   simp only [nA, nB, nC]
   refine wp_yg (v := (.pointer (some ⟨g1, 2, none⟩))) rfl (y_faddr rfl (hf := fa_api_Node_2 g1 0)) rfl ?_
   try simp only [nA, nB, nC]
   refine wp_yg (v := (.int .i64 n)) rfl (y_load rfl (hl := fun w' h => by rw [h]; exact load1 Tryz.isAgg2 (cell_at K2.out 2 rfl))) rfl ?_
   try simp only [nA, nB, nC]
   rcases bt (decide (n ≤ (1000000000000000 : Int))) with Hhb7 | Hhb7
   ·refine wp_yg (v := (.bool true)) rfl (y_bin (k := .i64) (k' := .i64) (m := n) (n := 1000000000000000) rfl (hr := bleq_int64 n 1000000000000000 true Hhb7.out)) rfl ?_
    try simp only [nA, nB, nC]
    refine qv (.bool true) ?_
    refine qv (.bool true) ?_
    simp only [nA, nB, nC]
    refine we ?_
    go_wp2_with fail
    go_ret
    exact ⟨by unfold nbR btw; rw [Hhb5.out, Hhb6.out, Hhb7.out]; rfl, HB0.out⟩
   ·refine wp_yg (v := (.bool false)) rfl (y_bin (k := .i64) (k' := .i64) (m := n) (n := 1000000000000000) rfl (hr := bleq_int64 n 1000000000000000 false Hhb7.out)) rfl ?_
    try simp only [nA, nB, nC]
    refine qv (.bool false) ?_
    refine qv (.bool false) ?_
    simp only [nA, nB, nC]
    refine we ?_
    go_wp2_with fail
    go_ret
    exact ⟨by unfold nbR btw; rw [Hhb5.out, Hhb6.out, Hhb7.out]; rfl, HB0.out⟩
  ·refine wp_y (v := (.bool false)) rfl rfl (y_bin (k := .i64) (k' := .i64) (m := n) (n := 0) rfl (hr := bgeq_int64 n 0 false Hhb6.out)) rfl ?_
   try simp only [nA, nB, nC]
   refine qv (.bool false) ?_
   simp only [nA, nB, nC]
   refine qs rfl ?_
   simp only [nA, nB, nC]
   refine qs rfl ?_
   simp only [nA, nB, nC]
   refine qs rfl ?_
   simp only [nA, nB, nC]
   refine qv (.bool false) ?_
   refine qv (.bool false) ?_
   simp only [nA, nB, nC]
   refine we ?_
   go_wp2_with fail
   go_ret
   exact ⟨by unfold nbR btw; rw [Hhb5.out, Hhb6.out]; rfl, HB0.out⟩
 ·refine wp_y (v := (.bool false)) rfl rfl (y_bin (k := .i64) (k' := .i64) (m := k) (n := 5) rfl (hr := beql_int k 5 false Hhb5.out)) rfl ?_
  try simp only [nA, nB, nC]
  refine qv (.bool false) ?_
  simp only [nA, nB, nC]
  refine we ?_
  go_upto_region 4 with fail
  refine rl ?_
  rcases bt ((k == (6 : Int))) with Hhb8 | Hhb8
  ·refine wp_y (v := (.bool true)) rfl rfl (y_bin (k := .i64) (k' := .i64) (m := k) (n := 6) rfl (hr := beql_int k 6 true Hhb8.out)) rfl ?_
   try simp only [nA, nB, nC]
   refine qv (.bool true) ?_
   simp only [nA, nB, nC]
   refine we ?_
   go_upto_region 5 with fail
   refine rl ?_
   refine qf (fa_api_Node_2 g1 0) ?_
   refine ql (.int .i64 n) Tryz.isAgg2 2 K2 ?_
   simp only [nA, nB, nC]
   rcases bt (decide ((0 : Int) ≤ n)) with Hhb9 | Hhb9
   ·refine wp_y (v := (.bool true)) rfl rfl (y_bin (k := .i64) (k' := .i64) (m := n) (n := 0) rfl (hr := bgeq_int64 n 0 true Hhb9.out)) rfl ?_
    try simp only [nA, nB, nC]
    refine qv (.bool true) ?_
    simp only [nA, nB, nC]
    refine wp_yg (v := (.pointer (some ⟨g1, 2, none⟩))) rfl (y_faddr rfl (hf := fa_api_Node_2 g1 0)) rfl ?_
    try simp only [nA, nB, nC]
    refine wp_yg (v := (.int .i64 n)) rfl (y_load rfl (hl := fun w' h => by rw [h]; exact load1 Tryz.isAgg2 (cell_at K2.out 2 rfl))) rfl ?_
    try simp only [nA, nB, nC]
    rcases bt (decide (n ≤ (73048 : Int))) with Hhb10 | Hhb10
    ·refine wp_yg (v := (.bool true)) rfl (y_bin (k := .i64) (k' := .i64) (m := n) (n := 73048) rfl (hr := bleq_int64 n 73048 true Hhb10.out)) rfl ?_
     try simp only [nA, nB, nC]
     refine qv (.bool true) ?_
     refine qv (.bool true) ?_
     simp only [nA, nB, nC]
     refine we ?_
     go_wp2_with fail
     go_ret
     exact ⟨by unfold nbR btw; rw [Hhb5.out, Hhb8.out, Hhb9.out, Hhb10.out]; rfl, HB0.out⟩
    ·refine wp_yg (v := (.bool false)) rfl (y_bin (k := .i64) (k' := .i64) (m := n) (n := 73048) rfl (hr := bleq_int64 n 73048 false Hhb10.out)) rfl ?_
     try simp only [nA, nB, nC]
     refine qv (.bool false) ?_
     refine qv (.bool false) ?_
     simp only [nA, nB, nC]
     refine we ?_
     go_wp2_with fail
     go_ret
     exact ⟨by unfold nbR btw; rw [Hhb5.out, Hhb8.out, Hhb9.out, Hhb10.out]; rfl, HB0.out⟩
   ·refine wp_y (v := (.bool false)) rfl rfl (y_bin (k := .i64) (k' := .i64) (m := n) (n := 0) rfl (hr := bgeq_int64 n 0 false Hhb9.out)) rfl ?_
    try simp only [nA, nB, nC]
    refine qv (.bool false) ?_
    simp only [nA, nB, nC]
    refine qs rfl ?_
    simp only [nA, nB, nC]
    refine qs rfl ?_
    simp only [nA, nB, nC]
    refine qs rfl ?_
    simp only [nA, nB, nC]
    refine qv (.bool false) ?_
    refine qv (.bool false) ?_
    simp only [nA, nB, nC]
    refine we ?_
    go_wp2_with fail
    go_ret
    exact ⟨by unfold nbR btw; rw [Hhb5.out, Hhb8.out, Hhb9.out]; rfl, HB0.out⟩
  ·refine wp_y (v := (.bool false)) rfl rfl (y_bin (k := .i64) (k' := .i64) (m := k) (n := 6) rfl (hr := beql_int k 6 false Hhb8.out)) rfl ?_
   try simp only [nA, nB, nC]
   refine qv (.bool false) ?_
   simp only [nA, nB, nC]
   refine we ?_
   go_upto_region 6 with fail
   refine rl ?_
   rcases bt ((k == (8 : Int))) with Hhb11 | Hhb11
   ·refine wp_y (v := (.bool true)) rfl rfl (y_bin (k := .i64) (k' := .i64) (m := k) (n := 8) rfl (hr := beql_int k 8 true Hhb11.out)) rfl ?_
    try simp only [nA, nB, nC]
    refine qv (.bool true) ?_
    simp only [nA, nB, nC]
    refine we ?_
    go_upto_region 7 with fail
    refine rl ?_
    refine qf (fa_api_Node_2 g1 0) ?_
    refine ql (.int .i64 n) Tryz.isAgg2 2 K2 ?_
    simp only [nA, nB, nC]
    rcases bt ((n == (0 : Int))) with Hhb12 | Hhb12
    ·refine wp_y (v := (.bool true)) rfl rfl (y_bin (k := .i64) (k' := .i64) (m := n) (n := 0) rfl (hr := beql_int64 n 0 true Hhb12.out)) rfl ?_
     try simp only [nA, nB, nC]
     refine qv (.bool true) ?_
     simp only [nA, nB, nC]
     refine qs rfl ?_
     simp only [nA, nB, nC]
     refine qs rfl ?_
     simp only [nA, nB, nC]
     refine qs rfl ?_
     simp only [nA, nB, nC]
     refine qv (.bool true) ?_
     refine qv (.bool true) ?_
     simp only [nA, nB, nC]
     refine we ?_
     go_wp2_with fail
     go_ret
     exact ⟨by unfold nbR btw; rw [Hhb5.out, Hhb8.out, Hhb11.out, Hhb12.out]; rfl, HB0.out⟩
    ·refine wp_y (v := (.bool false)) rfl rfl (y_bin (k := .i64) (k' := .i64) (m := n) (n := 0) rfl (hr := beql_int64 n 0 false Hhb12.out)) rfl ?_
     try simp only [nA, nB, nC]
     refine qv (.bool false) ?_
     simp only [nA, nB, nC]
     refine wp_yg (v := (.pointer (some ⟨g1, 2, none⟩))) rfl (y_faddr rfl (hf := fa_api_Node_2 g1 0)) rfl ?_
     try simp only [nA, nB, nC]
     refine wp_yg (v := (.int .i64 n)) rfl (y_load rfl (hl := fun w' h => by rw [h]; exact load1 Tryz.isAgg2 (cell_at K2.out 2 rfl))) rfl ?_
     try simp only [nA, nB, nC]
     rcases bt ((n == (1 : Int))) with Hhb13 | Hhb13
     ·refine wp_yg (v := (.bool true)) rfl (y_bin (k := .i64) (k' := .i64) (m := n) (n := 1) rfl (hr := beql_int64 n 1 true Hhb13.out)) rfl ?_
      try simp only [nA, nB, nC]
      refine qv (.bool true) ?_
      refine qv (.bool true) ?_
      simp only [nA, nB, nC]
      refine we ?_
      go_wp2_with fail
      go_ret
      exact ⟨by unfold nbR btw; rw [Hhb5.out, Hhb8.out, Hhb11.out, Hhb12.out, Hhb13.out]; rfl, HB0.out⟩
     ·refine wp_yg (v := (.bool false)) rfl (y_bin (k := .i64) (k' := .i64) (m := n) (n := 1) rfl (hr := beql_int64 n 1 false Hhb13.out)) rfl ?_
      try simp only [nA, nB, nC]
      refine qv (.bool false) ?_
      refine qv (.bool false) ?_
      simp only [nA, nB, nC]
      refine we ?_
      go_wp2_with fail
      go_ret
      exact ⟨by unfold nbR btw; rw [Hhb5.out, Hhb8.out, Hhb11.out, Hhb12.out, Hhb13.out]; rfl, HB0.out⟩
   ·refine wp_y (v := (.bool false)) rfl rfl (y_bin (k := .i64) (k' := .i64) (m := k) (n := 8) rfl (hr := beql_int k 8 false Hhb11.out)) rfl ?_
    try simp only [nA, nB, nC]
    refine qv (.bool false) ?_
    simp only [nA, nB, nC]
    refine we ?_
    go_upto_region 8 with fail
    refine rl ?_
    refine qf (fa_api_Node_2 g1 0) ?_
    refine ql (.int .i64 n) Tryz.isAgg2 2 K2 ?_
    simp only [nA, nB, nC]
    rcases bt ((n == (0 : Int))) with Hhb14 | Hhb14
    ·refine wp_y (v := (.bool true)) rfl rfl (y_bin (k := .i64) (k' := .i64) (m := n) (n := 0) rfl (hr := beql_int64 n 0 true Hhb14.out)) rfl ?_
     try simp only [nA, nB, nC]
     refine qv (.bool true) ?_
     simp only [nA, nB, nC]
     refine we ?_
     go_wp2_with fail
     go_ret
     exact ⟨by unfold nbR btw; rw [Hhb5.out, Hhb8.out, Hhb11.out, Hhb14.out]; rfl, HB0.out⟩
    ·refine wp_y (v := (.bool false)) rfl rfl (y_bin (k := .i64) (k' := .i64) (m := n) (n := 0) rfl (hr := beql_int64 n 0 false Hhb14.out)) rfl ?_
     try simp only [nA, nB, nC]
     refine qv (.bool false) ?_
     simp only [nA, nB, nC]
     refine we ?_
     go_wp2_with fail
     go_ret
     exact ⟨by unfold nbR btw; rw [Hhb5.out, Hhb8.out, Hhb11.out, Hhb14.out]; rfl, HB0.out⟩
seal wpList in
theorem rsign_any (l : List UInt8) (w : World) : Calls Tryz.prog 85 #[strV l] w fun e w' => e = .returned (.bool (decide (l ∈ sgns))) ∧ Below w.heap.size w w' := by
 have HB0 := hid (Below.refl w.heap.size w)
 go_enter Tryz.func85, Tryz.ntmps85
 go_upto_region 0 with fail
 refine rl ?_
 refine qv (.bool false) ?_
 simp only [nA, nB, nC]
 refine we ?_
 go_upto_region 1 with fail
 refine rl ?_
 obtain ⟨w3, g1, (HX : Hid _), (K2 : Hid _), (HB4 : Hid _)⟩ := bs_Sstring_9 w (strV [111, 114]) (strV [97, 110, 100]) (strV [60]) (strV [60, 61]) (strV [61]) (strV [43]) (strV [45]) (strV [42]) (strV [47]) rfl rfl rfl rfl rfl rfl rfl rfl rfl
 refine wp_run (v := (.slice (some ⟨g1, 0, none⟩) 9 9)) rfl rfl (run_bsOp rfl (by kernel_rfl) HX.out) rfl ?_
 try simp only [nA, nB, nC]
 clear HX
 replace HB0 := kb HB0 HB4
 refine qv (.slice (some ⟨g1, 0, none⟩) 9 9) ?_
 simp only [nA, nB, nC]
 refine we ?_
 go_upto_region 2 with fail
 refine rl ?_
 refine qv (.int .i64 0) ?_
 simp only [nA, nB, nC]
 refine we ?_
 go_wp2_with fail
 go_loopw [4] (fun v4 wr => ∃ j : Nat, v4 = .int .i64 j ∧ l ∉ sgns.take j ∧ Below w.heap.size w wr ∧ wr.heap[g1]? = some (.cells (sgns.map strV).toArray 9 (0, 0))) (fun v4 _ => 9 - (intOf v4).toNat)
 case atStart =>
  exact ⟨0, rfl, by simp, HB0.out, K2.out⟩
 case round =>
  obtain ⟨j, rfl, hni, hB, hk⟩ := hrel
  clear HB0
  have HNI := hid hni
  have HB0 := hid hB
  have HKW := hid hk
  clear hni hB hk
  go_upto_region 3 with fail
  refine rl ?_
  refine qv (.int .i64 (((j : Nat) : Int))) ?_
  refine qv (.slice (some ⟨g1, 0, none⟩) 9 9) ?_
  simp only [nA, nB, nC]
  refine wp_y (v := (.int .i64 9)) rfl rfl (y_lenT len_Sstring (p := (some ⟨g1, 0, none⟩)) (n := 9) (c := 9) rfl (by kernel_rfl) (by kernel_rfl)) rfl ?_
  simp only [nA, nB, nC]
  rcases bt (decide (((j : Nat) : Int) < (9 : Int))) with Hhb5 | Hhb5
  ·have hlt : j < 9 := by have := of_decide_eq_true Hhb5.out; omega
   obtain ⟨x, hx⟩ : ∃ x, sgns[j]? = some x := ⟨_, List.getElem?_eq_getElem (show j < sgns.length from hlt)⟩
   have HX := hid hx
   have HLT := hid hlt
   have HCJ : Hid ((sgns.map strV).toArray[j]? = some (strV x)) := hid (by rw [List.getElem?_toArray, List.getElem?_map, hx]; rfl)
   have HS1 := hid (wrap_next (N := 9) hlt (by decide))
   clear hx hlt
   refine qb (blss_int ((j : Nat) : Int) 9 true Hhb5.out) ?_
   simp only [nA, nB, nC]
   refine we ?_
   go_upto_region 5 with fail
   refine rl ?_
   refine qv (.slice (some ⟨g1, 0, none⟩) 9 9) ?_
   refine qv (.int .i64 (((j : Nat) : Int))) ?_
   simp only [nA, nB, nC]
   refine wp_y (v := (.pointer (some ⟨g1, j, none⟩))) rfl rfl (y_index (p := (.slice (some ⟨g1, 0, none⟩) 9 9)) (k := (.int .i64 (((j : Nat) : Int)))) rfl (by kernel_rfl) (by kernel_rfl) (by kernel_rfl) (idxS0 g1 9 9 j HLT.out)) rfl ?_
   simp only [nA, nB, nC]
   refine wp_y (v := (strV x)) rfl rfl (y_load rfl (hl := fun w' h => by rw [h]; exact load1 Tryz.isAgg9 (cell_at HKW.out j HCJ.out))) rfl ?_
   simp only [nA, nB, nC]
   refine qv (strV l) ?_
   simp only [nA, nB, nC]
   rcases bt (decide (x = l)) with Hhb6 | Hhb6
   ·have HZ : Hid (decide (l ∈ sgns) = true) := hid (decide_eq_true (by have h9 := of_decide_eq_true Hhb6.out; rw [← h9]; exact List.mem_of_getElem? HX.out))
    refine wp_y (v := (.bool true)) rfl rfl (y_eqlS (l := x) (m := l) rfl (by kernel_rfl) (by kernel_rfl) (by kernel_rfl) (Hhb6.out)) rfl ?_
    simp only [nA, nB, nC]
    refine we ?_
    go_upto_region 6 with fail
    refine rl ?_
    refine qv (.bool true) ?_
    simp only [nA, nB, nC]
    refine we ?_
    go_wp2_with fail
    go_ret
    exact ⟨congrArg (fun b => Ending.returned (.bool b)) HZ.out.symm, HB0.out⟩
   ·have HNX : Hid (l ∉ sgns.take (j + 1)) := hid (by have h9 := of_decide_eq_false Hhb6.out; rw [take_next HX.out]; intro hm; rcases List.mem_append.1 hm with hm | hm; exact HNI.out hm; exact h9 (Eq.symm (by simpa using hm)))
    refine wp_y (v := (.bool false)) rfl rfl (y_eqlS (l := x) (m := l) rfl (by kernel_rfl) (by kernel_rfl) (by kernel_rfl) (Hhb6.out)) rfl ?_
    simp only [nA, nB, nC]
    refine we ?_
    go_upto_region 4 with fail
    refine rl ?_
    refine qv (.int .i64 (((j : Nat) : Int))) ?_
    refine qb (badd_int ((j : Nat) : Int) 1 ((j + 1 : Nat) : Int) HS1.out) ?_
    refine qv (.int .i64 (((j + 1 : Nat) : Int))) ?_
    simp only [nA, nB, nC]
    refine we ?_
    go_wp2_with fail
    exact ⟨⟨j + 1, rfl, HNX.out, HB0.out, HKW.out⟩, by have := HLT.out; simp [intOf]; omega⟩
  ·have hlt : 9 ≤ j := by have := of_decide_eq_false Hhb5.out; omega
   have HZ : Hid (decide (l ∈ sgns) = false) := hid (decide_eq_false (by have h9 := HNI.out; rwa [List.take_of_length_le (show sgns.length ≤ j from hlt)] at h9))
   clear hlt
   refine qb (blss_int ((j : Nat) : Int) 9 false Hhb5.out) ?_
   simp only [nA, nB, nC]
   refine we ?_
   go_upto_region 7 with fail
   refine rl ?_
   refine qv (.bool false) ?_
   simp only [nA, nB, nC]
   refine we ?_
   go_wp2_with fail
   go_ret
   exact ⟨congrArg (fun b => Ending.returned (.bool b)) HZ.out.symm, HB0.out⟩
theorem sub_str (l : List UInt8) (a b : Nat) : (⟨l.toArray⟩ : ByteArray).extract a b = ⟨((l.drop a).take (b - a)).toArray⟩ := by
 apply ByteArray.ext
 rw [ByteArray.data_extract]
 apply Array.ext'
 simp [List.extract_eq_take_drop]
theorem sub_hd (l : List UInt8) (m : Nat) (h : m ≤ l.length) (w : World) : (Instr.sliceAt 9 (.string ⟨l.toArray⟩) none (some (.int .i64 (m : Nat))) none).run Tryz.prog w = .ok (.string ⟨(l.take m).toArray⟩) w := by
 have e := sub_str l 0 m
 simp only [List.drop_zero, Nat.sub_zero] at e
 rw [← e]
 have h2 : (⟨l.toArray⟩ : ByteArray).size = l.length := by simp [ByteArray.size]
 rw [← h2] at h
 clear h2 e
 generalize (⟨l.toArray⟩ : ByteArray) = s at *
 go_simp
theorem sub_tl (l : List UInt8) (m : Nat) (h : m ≤ l.length) (w : World) : (Instr.sliceAt 9 (.string ⟨l.toArray⟩) (some (.int .i64 (m : Nat))) none none).run Tryz.prog w = .ok (.string ⟨(l.drop m).toArray⟩) w := by
 have e := sub_str l m l.length
 rw [List.take_of_length_le (by rw [List.length_drop]; omega)] at e
 rw [← e]
 have h2 : (⟨l.toArray⟩ : ByteArray).size = l.length := by simp [ByteArray.size]
 rw [← h2] at h ⊢
 clear h2 e
 generalize (⟨l.toArray⟩ : ByteArray) = s at *
 go_simp
def farR (l : List UInt8) : Bool := (Lib.cut l [46]).2.2 && fre (Lib.cut l [46]).1 && fre (Lib.cut l [46]).2.1
theorem cut_at {l : List UInt8} {j : Nat} (hj : j < l.length) (h : (46 : UInt8) ∉ l.take j) (hc : l.getD j 0 = 46) : Lib.cut l [46] = (l.take j, l.drop (j + 1), true) := by
 have e : l = l.take j ++ 46 :: l.drop (j + 1) := by rw [← hc, ← drop_get hj, List.take_append_drop]
 have hi : Lib.index l [46] = (j : Int) := by
  have h9 := Nm.index_app (l.take j) (l.drop (j + 1)) (fun c hm e => h (by rw [← e]; exact hm))
  rw [← e, List.length_take, Nat.min_eq_left (by omega)] at h9
  exact h9
 unfold Lib.cut
 rw [hi]
 simp
theorem cut_not {l : List UInt8} (h : (46 : UInt8) ∉ l) : (Lib.cut l [46]).2.2 = false := by
 have hi : Lib.index l [46] = -1 := Nm.index_no l (fun c hm e => h (by rw [← e]; exact hm))
 unfold Lib.cut
 rw [hi]
 simp
seal wpList in
theorem rcur_any (l : List UInt8) (w : World) : Calls Tryz.prog 84 #[strV l] w fun e w' => e = .returned (.bool (cur l)) ∧ Below w.heap.size w w' := by
 have HB0 := hid (Below.refl w.heap.size w)
 go_enter Tryz.func84, Tryz.ntmps84
 go_upto_region 0 with fail
 refine rl ?_
 refine qv (.bool false) ?_
 simp only [nA, nB, nC]
 refine we ?_
 go_upto_region 1 with fail
 refine rl ?_
 refine qv (strV l) ?_
 simp only [nA, nB, nC]
 refine wp_y (v := (.int .i64 ((l.length : Nat)))) rfl rfl (y_lenS (s := ⟨(l).toArray⟩) rfl (by kernel_rfl) (by kernel_rfl) (size_strV (l))) rfl ?_
 simp only [nA, nB, nC]
 rcases bt (((l.length : Nat) != (3 : Int))) with Hhb1 | Hhb1
 ·have HZ : Hid (cur l = false) := hid (by unfold cur; rw [decide_eq_false (by have h9 := Hhb1.out; simp at h9; omega)]; rfl)
  refine qb (bneq_int (l.length : Nat) 3 true Hhb1.out) ?_
  simp only [nA, nB, nC]
  refine we ?_
  go_upto_region 2 with fail
  refine rl ?_
  refine qv (.bool false) ?_
  simp only [nA, nB, nC]
  refine we ?_
  go_wp2_with fail
  go_ret
  exact ⟨congrArg (fun b => Ending.returned (.bool b)) HZ.out.symm, HB0.out⟩
 ·have HL3 : Hid (l.length = 3) := hid (by have h9 := Hhb1.out; simp at h9; omega)
  refine qb (bneq_int (l.length : Nat) 3 false Hhb1.out) ?_
  simp only [nA, nB, nC]
  refine we ?_
  go_upto_region 3 with fail
  refine rl ?_
  refine qv (.int .i64 0) ?_
  simp only [nA, nB, nC]
  refine we ?_
  go_wp2_with fail
  go_loopw [3] (fun v3 wr => ∃ j : Nat, v3 = .int .i64 j ∧ ((l.take j).all fun c => btw 65 90 (c.toNat : Nat)) = true ∧ Below w.heap.size w wr) (fun v3 _ => 3 - (intOf v3).toNat)
  case atStart =>
   exact ⟨0, rfl, by simp, HB0.out⟩
  case round =>
   obtain ⟨j, rfl, hal, hB⟩ := hrel
   clear HB0
   have HAL := hid hal
   have HB0 := hid hB
   clear hal hB
   go_upto_region 4 with fail
   refine rl ?_
   refine qv (.int .i64 (((j : Nat) : Int))) ?_
   simp only [nA, nB, nC]
   rcases bt (decide (((j : Nat) : Int) < (3 : Int))) with Hhb2 | Hhb2
   ·have hlt : j < 3 := by have := of_decide_eq_true Hhb2.out; omega
    have HLT := hid hlt
    have HJL : Hid (j < l.length) := hid (by rw [HL3.out]; exact hlt)
    have HS1 := hid (wrap_next (N := 3) hlt (by decide))
    clear hlt
    refine qb (blss_int ((j : Nat) : Int) 3 true Hhb2.out) ?_
    simp only [nA, nB, nC]
    refine we ?_
    go_upto_region 6 with fail
    refine rl ?_
    refine qv (strV l) ?_
    refine qv (.int .i64 (((j : Nat) : Int))) ?_
    simp only [nA, nB, nC]
    refine wp_y (v := (.int .u8 ((((l.getD j 0).toNat : Nat) : Int)))) rfl rfl (y_idx rfl (by kernel_rfl) (by kernel_rfl) (by kernel_rfl) (strIdx l j HJL.out)) rfl ?_
    simp only [nA, nB, nC]
    rcases bt (decide ((((l.getD j 0).toNat : Nat) : Int) < (65 : Int))) with Hhb3 | Hhb3
    ·have HZ : Hid (cur l = false) := hid (by rw [Bool.eq_false_iff]; intro hc; unfold cur at hc; simp only [Bool.and_eq_true] at hc; have h8 : btw 65 90 ((l.getD j 0).toNat : Nat) = true := List.all_eq_true.1 hc.2 _ (by rw [List.getD_eq_getElem?_getD, List.getElem?_eq_getElem HJL.out]; exact List.getElem_mem _); have h7 := of_decide_eq_true Hhb3.out; simp only [btw, Bool.and_eq_true, decide_eq_true_eq] at h8; omega)
     refine wp_y (v := (.bool true)) rfl rfl (y_bin (k := .u8) (k' := .u8) (m := (((l.getD j 0).toNat : Nat) : Int)) (n := 65) rfl (by kernel_rfl) (by kernel_rfl) (by kernel_rfl) (blss_uint8 (((l.getD j 0).toNat : Nat) : Int) 65 true Hhb3.out)) rfl ?_
     simp only [nA, nB, nC]
     refine qv (.bool true) ?_
     simp only [nA, nB, nC]
     refine qs rfl ?_
     simp only [nA, nB, nC]
     refine qs rfl ?_
     simp only [nA, nB, nC]
     refine qs rfl ?_
     simp only [nA, nB, nC]
     refine qs rfl ?_
     simp only [nA, nB, nC]
     refine qv (.bool true) ?_
     simp only [nA, nB, nC]
     refine we ?_
     go_upto_region 7 with fail
     refine rl ?_
     refine qv (.bool false) ?_
     simp only [nA, nB, nC]
     refine we ?_
     go_wp2_with fail
     go_ret
     exact ⟨congrArg (fun b => Ending.returned (.bool b)) HZ.out.symm, HB0.out⟩
    ·refine wp_y (v := (.bool false)) rfl rfl (y_bin (k := .u8) (k' := .u8) (m := (((l.getD j 0).toNat : Nat) : Int)) (n := 65) rfl (by kernel_rfl) (by kernel_rfl) (by kernel_rfl) (blss_uint8 (((l.getD j 0).toNat : Nat) : Int) 65 false Hhb3.out)) rfl ?_
     try simp only [nA, nB, nC]
     refine qv (.bool false) ?_
     simp only [nA, nB, nC]
     refine qg (strV l) rfl ?_
     simp only [nA, nB, nC]
     refine qg (.int .i64 (((j : Nat) : Int))) rfl ?_
     simp only [nA, nB, nC]
     refine wp_yg (v := (.int .u8 ((((l.getD j 0).toNat : Nat) : Int)))) rfl (y_idx rfl (by kernel_rfl) (by kernel_rfl) (by kernel_rfl) (strIdx l j HJL.out)) rfl ?_
     try simp only [nA, nB, nC]
     rcases bt (decide ((90 : Int) < (((l.getD j 0).toNat : Nat) : Int))) with Hhb4 | Hhb4
     ·have HZ : Hid (cur l = false) := hid (by rw [Bool.eq_false_iff]; intro hc; unfold cur at hc; simp only [Bool.and_eq_true] at hc; have h8 : btw 65 90 ((l.getD j 0).toNat : Nat) = true := List.all_eq_true.1 hc.2 _ (by rw [List.getD_eq_getElem?_getD, List.getElem?_eq_getElem HJL.out]; exact List.getElem_mem _); have h7 := of_decide_eq_true Hhb4.out; simp only [btw, Bool.and_eq_true, decide_eq_true_eq] at h8; omega)
      refine wp_yg (v := (.bool true)) rfl (y_bin (k := .u8) (k' := .u8) (m := (((l.getD j 0).toNat : Nat) : Int)) (n := 90) rfl (by kernel_rfl) (by kernel_rfl) (by kernel_rfl) (bgtr_uint8 (((l.getD j 0).toNat : Nat) : Int) 90 true Hhb4.out)) rfl ?_
      try simp only [nA, nB, nC]
      refine qv (.bool true) ?_
      simp only [nA, nB, nC]
      refine we ?_
      go_upto_region 7 with fail
      refine rl ?_
      refine qv (.bool false) ?_
      simp only [nA, nB, nC]
      refine we ?_
      go_wp2_with fail
      go_ret
      exact ⟨congrArg (fun b => Ending.returned (.bool b)) HZ.out.symm, HB0.out⟩
     ·refine wp_yg (v := (.bool false)) rfl (y_bin (k := .u8) (k' := .u8) (m := (((l.getD j 0).toNat : Nat) : Int)) (n := 90) rfl (by kernel_rfl) (by kernel_rfl) (by kernel_rfl) (bgtr_uint8 (((l.getD j 0).toNat : Nat) : Int) 90 false Hhb4.out)) rfl ?_
      try simp only [nA, nB, nC]
      refine qv (.bool false) ?_
      simp only [nA, nB, nC]
      refine we ?_
      go_upto_region 5 with fail
      refine rl ?_
      refine qv (.int .i64 (((j : Nat) : Int))) ?_
      refine qb (badd_int ((j : Nat) : Int) 1 ((j + 1 : Nat) : Int) HS1.out) ?_
      refine qv (.int .i64 (((j + 1 : Nat) : Int))) ?_
      simp only [nA, nB, nC]
      refine we ?_
      go_wp2_with fail
      have h5 := of_decide_eq_false Hhb3.out
      have h6 := of_decide_eq_false Hhb4.out
      exact ⟨⟨j + 1, rfl, by rw [List.take_add_one, List.all_append, HAL.out, List.getElem?_eq_getElem HJL.out]; rw [List.getD_eq_getElem?_getD, List.getElem?_eq_getElem HJL.out] at h5 h6; simp only [Option.getD_some] at h5 h6; simp [btw]; omega, HB0.out⟩, by have := HLT.out; simp [intOf]; omega⟩
   ·have hlt : 3 ≤ j := by have := of_decide_eq_false Hhb2.out; omega
    have HZ : Hid (cur l = true) := hid (by have h9 := HAL.out; rw [List.take_of_length_le (by rw [HL3.out]; exact hlt)] at h9; unfold cur; rw [h9, decide_eq_true HL3.out]; rfl)
    clear hlt
    refine qb (blss_int ((j : Nat) : Int) 3 false Hhb2.out) ?_
    simp only [nA, nB, nC]
    refine we ?_
    go_upto_region 8 with fail
    refine rl ?_
    refine qv (.bool true) ?_
    simp only [nA, nB, nC]
    refine we ?_
    go_wp2_with fail
    go_ret
    exact ⟨congrArg (fun b => Ending.returned (.bool b)) HZ.out.symm, HB0.out⟩
seal wpList in
theorem rfar_any (l : List UInt8) (w : World) (hl : l.length ≤ 9223372036854775807) : Calls Tryz.prog 83 #[strV l] w fun e w' => e = .returned (.bool (farR l)) ∧ Below w.heap.size w w' := by
 have HB0 := hid (Below.refl w.heap.size w)
 have HL := hid hl
 clear hl
 go_enter Tryz.func83, Tryz.ntmps83
 go_upto_region 0 with fail
 refine rl ?_
 refine qv (.bool false) ?_
 simp only [nA, nB, nC]
 refine we ?_
 go_upto_region 1 with fail
 refine rl ?_
 refine qv (.int .i64 0) ?_
 simp only [nA, nB, nC]
 refine we ?_
 go_wp2_with fail
 go_loopw [3] (fun v3 wr => ∃ j : Nat, v3 = .int .i64 j ∧ (46 : UInt8) ∉ l.take j ∧ Below w.heap.size w wr) (fun v3 _ => l.length - (intOf v3).toNat)
 case atStart =>
  exact ⟨0, rfl, by simp, HB0.out⟩
 case round =>
  obtain ⟨j, rfl, hni, hB⟩ := hrel
  clear HB0
  have HNI := hid hni
  have HB0 := hid hB
  clear hni hB
  go_upto_region 2 with fail
  refine rl ?_
  refine qv (.int .i64 (((j : Nat) : Int))) ?_
  refine qv (strV l) ?_
  simp only [nA, nB, nC]
  refine wp_y (v := (.int .i64 ((l.length : Nat)))) rfl rfl (y_lenS (s := ⟨(l).toArray⟩) rfl (by kernel_rfl) (by kernel_rfl) (size_strV (l))) rfl ?_
  simp only [nA, nB, nC]
  rcases bt (decide (((j : Nat) : Int) < (l.length : Nat))) with Hhb1 | Hhb1
  ·have hlt : j < l.length := by have := of_decide_eq_true Hhb1.out; omega
   have HJL := hid hlt
   have HS1 := hid (wrap_next (N := l.length) hlt HL.out)
   clear hlt
   refine qb (blss_int ((j : Nat) : Int) (l.length : Nat) true Hhb1.out) ?_
   simp only [nA, nB, nC]
   refine we ?_
   go_upto_region 4 with fail
   refine rl ?_
   refine qv (strV l) ?_
   refine qv (.int .i64 (((j : Nat) : Int))) ?_
   simp only [nA, nB, nC]
   refine wp_y (v := (.int .u8 ((((l.getD j 0).toNat : Nat) : Int)))) rfl rfl (y_idx rfl (by kernel_rfl) (by kernel_rfl) (by kernel_rfl) (strIdx l j HJL.out)) rfl ?_
   simp only [nA, nB, nC]
   rcases bt (((((l.getD j 0).toNat : Nat) : Int) == (46 : Int))) with Hhb2 | Hhb2
   ·have HC : Hid (l.getD j 0 = 46) := hid (UInt8.toNat_inj.1 (by have h9 := Hhb2.out; rw [beq_iff_eq] at h9; show (l.getD j 0).toNat = 46; omega))
    have HCT := hid (cut_at HJL.out HNI.out HC.out)
    refine wp_y (v := (.bool true)) rfl rfl (y_bin (k := .u8) (k' := .u8) (m := (((l.getD j 0).toNat : Nat) : Int)) (n := 46) rfl (by kernel_rfl) (by kernel_rfl) (by kernel_rfl) (beql_uint8 (((l.getD j 0).toNat : Nat) : Int) 46 true Hhb2.out)) rfl ?_
    simp only [nA, nB, nC]
    refine we ?_
    go_upto_region 5 with fail
    refine rl ?_
    refine qv (strV l) ?_
    refine qv (.int .i64 (((j : Nat) : Int))) ?_
    simp only [nA, nB, nC]
    refine wp_y (v := (strV (l.take j))) rfl rfl (y_slice rfl (by kernel_rfl) (by kernel_rfl) (by kernel_rfl) (by kernel_rfl) (by kernel_rfl) (sub_hd l j (Nat.le_of_lt HJL.out))) rfl ?_
    simp only [nA, nB, nC]
    rcases bt (fre (l.take j)) with Hhb3 | Hhb3
    ·refine wp_call (f := 31) (args := #[(strV (l.take j))]) (by kernel_rfl) (fun w => by go_simp) ?_
     have HCA := hid (near_any (l.take j) wr (by have := HL.out; simp; omega))
     refine HCA.out.mono ?_
     rintro e w4 ⟨he, hq⟩
     rw [Hhb3.out] at he
     subst he
     refine ⟨_, rfl, ?_⟩
     have HB5 := hid hq
     clear hq
     replace HB0 := kb HB0 HB5
     try simp only [Act.put, nA, nB, nC]
     refine qv (.bool true) ?_
     simp only [nA, nB, nC]
     refine we ?_
     go_upto_region 6 with fail
     refine rl ?_
     refine qv (strV l) ?_
     refine qv (.int .i64 (((j : Nat) : Int))) ?_
     refine qb (badd_int ((j : Nat) : Int) 1 ((j + 1 : Nat) : Int) HS1.out) ?_
     simp only [nA, nB, nC]
     refine wp_y (v := (strV (l.drop (j + 1)))) rfl rfl (y_slice rfl (by kernel_rfl) (by kernel_rfl) (by kernel_rfl) (by kernel_rfl) (by kernel_rfl) (sub_tl l (j + 1) HJL.out)) rfl ?_
     simp only [nA, nB, nC]
     rcases bt (fre (l.drop (j + 1))) with Hhb6 | Hhb6
     ·refine wp_call (f := 31) (args := #[(strV (l.drop (j + 1)))]) (by kernel_rfl) (fun w => by go_simp) ?_
      have HCA := hid (near_any (l.drop (j + 1)) w4 (by have := HL.out; simp; omega))
      refine HCA.out.mono ?_
      rintro e w7 ⟨he, hq⟩
      rw [Hhb6.out] at he
      subst he
      refine ⟨_, rfl, ?_⟩
      have HB8 := hid hq
      clear hq
      replace HB0 := kb HB0 HB8
      try simp only [Act.put, nA, nB, nC]
      refine qv (.bool true) ?_
      simp only [nA, nB, nC]
      refine we ?_
      go_upto_region 7 with fail
      refine rl ?_
      refine qv (.bool true) ?_
      refine qv (.bool true) ?_
      simp only [nA, nB, nC]
      refine qg (.bool true) rfl ?_
      simp only [nA, nB, nC]
      refine qv (.bool true) ?_
      refine qv (.bool true) ?_
      simp only [nA, nB, nC]
      refine we ?_
      go_wp2_with fail
      go_ret
      exact ⟨by unfold farR; rw [HCT.out]; simp only [Hhb3.out, Hhb6.out]; rfl, HB0.out⟩
     ·refine wp_call (f := 31) (args := #[(strV (l.drop (j + 1)))]) (by kernel_rfl) (fun w => by go_simp) ?_
      have HCA := hid (near_any (l.drop (j + 1)) w4 (by have := HL.out; simp; omega))
      refine HCA.out.mono ?_
      rintro e w9 ⟨he, hq⟩
      rw [Hhb6.out] at he
      subst he
      refine ⟨_, rfl, ?_⟩
      have HB10 := hid hq
      clear hq
      replace HB0 := kb HB0 HB10
      try simp only [Act.put, nA, nB, nC]
      refine qv (.bool false) ?_
      simp only [nA, nB, nC]
      refine we ?_
      go_upto_region 7 with fail
      refine rl ?_
      refine qv (.bool true) ?_
      refine qv (.bool true) ?_
      simp only [nA, nB, nC]
      refine qg (.bool false) rfl ?_
      simp only [nA, nB, nC]
      refine qv (.bool false) ?_
      refine qv (.bool false) ?_
      simp only [nA, nB, nC]
      refine we ?_
      go_wp2_with fail
      go_ret
      exact ⟨by unfold farR; rw [HCT.out]; simp only [Hhb3.out, Hhb6.out]; rfl, HB0.out⟩
    ·refine wp_call (f := 31) (args := #[(strV (l.take j))]) (by kernel_rfl) (fun w => by go_simp) ?_
     have HCA := hid (near_any (l.take j) wr (by have := HL.out; simp; omega))
     refine HCA.out.mono ?_
     rintro e w11 ⟨he, hq⟩
     rw [Hhb3.out] at he
     subst he
     refine ⟨_, rfl, ?_⟩
     have HB12 := hid hq
     clear hq
     replace HB0 := kb HB0 HB12
     try simp only [Act.put, nA, nB, nC]
     refine qv (.bool false) ?_
     simp only [nA, nB, nC]
     refine we ?_
     go_upto_region 6 with fail
     refine rl ?_
     refine qv (strV l) ?_
     refine qv (.int .i64 (((j : Nat) : Int))) ?_
     refine qb (badd_int ((j : Nat) : Int) 1 ((j + 1 : Nat) : Int) HS1.out) ?_
     simp only [nA, nB, nC]
     refine wp_y (v := (strV (l.drop (j + 1)))) rfl rfl (y_slice rfl (by kernel_rfl) (by kernel_rfl) (by kernel_rfl) (by kernel_rfl) (by kernel_rfl) (sub_tl l (j + 1) HJL.out)) rfl ?_
     simp only [nA, nB, nC]
     rcases bt (fre (l.drop (j + 1))) with Hhb13 | Hhb13
     ·refine wp_call (f := 31) (args := #[(strV (l.drop (j + 1)))]) (by kernel_rfl) (fun w => by go_simp) ?_
      have HCA := hid (near_any (l.drop (j + 1)) w11 (by have := HL.out; simp; omega))
      refine HCA.out.mono ?_
      rintro e w14 ⟨he, hq⟩
      rw [Hhb13.out] at he
      subst he
      refine ⟨_, rfl, ?_⟩
      have HB15 := hid hq
      clear hq
      replace HB0 := kb HB0 HB15
      try simp only [Act.put, nA, nB, nC]
      refine qv (.bool true) ?_
      simp only [nA, nB, nC]
      refine we ?_
      go_upto_region 7 with fail
      refine rl ?_
      refine qv (.bool false) ?_
      refine qv (.bool false) ?_
      simp only [nA, nB, nC]
      refine qs rfl ?_
      simp only [nA, nB, nC]
      refine qv (.bool false) ?_
      refine qv (.bool false) ?_
      simp only [nA, nB, nC]
      refine we ?_
      go_wp2_with fail
      go_ret
      exact ⟨by unfold farR; rw [HCT.out]; simp only [Hhb3.out, Hhb13.out]; rfl, HB0.out⟩
     ·refine wp_call (f := 31) (args := #[(strV (l.drop (j + 1)))]) (by kernel_rfl) (fun w => by go_simp) ?_
      have HCA := hid (near_any (l.drop (j + 1)) w11 (by have := HL.out; simp; omega))
      refine HCA.out.mono ?_
      rintro e w16 ⟨he, hq⟩
      rw [Hhb13.out] at he
      subst he
      refine ⟨_, rfl, ?_⟩
      have HB17 := hid hq
      clear hq
      replace HB0 := kb HB0 HB17
      try simp only [Act.put, nA, nB, nC]
      refine qv (.bool false) ?_
      simp only [nA, nB, nC]
      refine we ?_
      go_upto_region 7 with fail
      refine rl ?_
      refine qv (.bool false) ?_
      refine qv (.bool false) ?_
      simp only [nA, nB, nC]
      refine qs rfl ?_
      simp only [nA, nB, nC]
      refine qv (.bool false) ?_
      refine qv (.bool false) ?_
      simp only [nA, nB, nC]
      refine we ?_
      go_wp2_with fail
      go_ret
      exact ⟨by unfold farR; rw [HCT.out]; simp only [Hhb3.out, Hhb13.out]; rfl, HB0.out⟩
   ·have HNX : Hid ((46 : UInt8) ∉ l.take (j + 1)) := hid (by have h9 := Hhb2.out; intro hm; rw [List.take_add_one, List.getElem?_eq_getElem HJL.out] at hm; rcases List.mem_append.1 hm with hm | hm; exact HNI.out hm; rw [List.getD_eq_getElem?_getD, List.getElem?_eq_getElem HJL.out] at h9; simp only [Option.toList_some, List.mem_singleton] at hm; rw [← hm] at h9; exact absurd h9 (by decide))
    refine wp_y (v := (.bool false)) rfl rfl (y_bin (k := .u8) (k' := .u8) (m := (((l.getD j 0).toNat : Nat) : Int)) (n := 46) rfl (by kernel_rfl) (by kernel_rfl) (by kernel_rfl) (beql_uint8 (((l.getD j 0).toNat : Nat) : Int) 46 false Hhb2.out)) rfl ?_
    simp only [nA, nB, nC]
    refine we ?_
    go_upto_region 3 with fail
    refine rl ?_
    refine qv (.int .i64 (((j : Nat) : Int))) ?_
    refine qb (badd_int ((j : Nat) : Int) 1 ((j + 1 : Nat) : Int) HS1.out) ?_
    refine qv (.int .i64 (((j + 1 : Nat) : Int))) ?_
    simp only [nA, nB, nC]
    refine we ?_
    go_wp2_with fail
    exact ⟨⟨j + 1, rfl, HNX.out, HB0.out⟩, by have := HJL.out; simp [intOf]; omega⟩
  ·have hlt : l.length ≤ j := by have := of_decide_eq_false Hhb1.out; omega
   have HZ : Hid (farR l = false) := hid (by have h9 := HNI.out; rw [List.take_of_length_le hlt] at h9; unfold farR; rw [cut_not h9]; rfl)
   clear hlt
   refine qb (blss_int ((j : Nat) : Int) (l.length : Nat) false Hhb1.out) ?_
   simp only [nA, nB, nC]
   refine we ?_
   go_upto_region 8 with fail
   refine rl ?_
   refine qv (.bool false) ?_
   simp only [nA, nB, nC]
   refine we ?_
   go_wp2_with fail
   go_ret
   exact ⟨congrArg (fun b => Ending.returned (.bool b)) HZ.out.symm, HB0.out⟩
def wdR (k : Int) (tx : List UInt8) : Bool := bif k == 7 then cur tx else bif k == 9 || k == 15 then nam tx else bif k == 10 || k == 11 then fre tx || farR tx else bif k == 12 then decide (tx = [45]) || decide (tx = [110, 111, 116]) else bif k == 13 then decide (tx ∈ sgns) else decide (tx = [])
seal wpList in
theorem worded_any {k : Int} {tx : List UInt8} {n : Int} {a : Option Addr} {N c : Nat} {at_ : Int} (w : World) (hl : tx.length ≤ 9223372036854775807) : Calls Tryz.prog 55 #[nv k tx n (.slice a N c) at_] w fun e w' => e = .returned (.bool (wdR k tx)) ∧ Below w.heap.size w w' := by
 have HB0 := hid (Below.refl w.heap.size w)
 have HL := hid hl
 clear hl
 go_enter Tryz.func55, Tryz.ntmps55
 go_upto_region 0 with fail
 refine rl ?_
 obtain ⟨w3, g1, (HX : Hid _), (K2 : Hid _), (HB4 : Hid _)⟩ := box_x 24 w #[(.int .i64 k), (strV tx), (.int .i64 n), (.slice a N c), (.int .i64 at_)]
 refine wp_run (v := (.pointer (some ⟨g1, 0, none⟩))) rfl rfl (run_boxOp rfl (by kernel_rfl) HX.out) rfl ?_
 try simp only [nA, nB, nC]
 replace HB0 := kb HB0 HB4
 refine qv (.bool false) ?_
 simp only [nA, nB, nC]
 refine we ?_
 go_upto_region 1 with fail
 refine rl ?_
 refine qf (fa_api_Node_1 g1 0) ?_
 refine ql (strV tx) Tryz.isAgg9 1 K2 ?_
 simp only [nA, nB, nC]
 refine qc #[(strV tx)] ?_
 have HCA := hid (near_any tx w3 HL.out)
 refine HCA.out.mono ?_
 rintro e w5 ⟨rfl, (HB6 : Hid _)⟩
 refine ⟨_, rfl, ?_⟩
 replace K2 := ka HB6 K2
 replace HB0 := kb HB0 HB6
 try simp only [Act.put, nA, nB, nC]
 refine qv (.bool (fre tx)) ?_
 simp only [nA, nB, nC]
 refine we ?_
 go_upto_region 2 with fail
 refine rl ?_
 refine qf (fa_api_Node_1 g1 0) ?_
 refine ql (strV tx) Tryz.isAgg9 1 K2 ?_
 simp only [nA, nB, nC]
 refine qc #[(strV tx)] ?_
 have HCA := hid (rfar_any tx w5 HL.out)
 refine HCA.out.mono ?_
 rintro e w7 ⟨rfl, (HB8 : Hid _)⟩
 refine ⟨_, rfl, ?_⟩
 replace K2 := ka HB8 K2
 replace HB0 := kb HB0 HB8
 try simp only [Act.put, nA, nB, nC]
 refine qv (.bool (farR tx)) ?_
 simp only [nA, nB, nC]
 refine we ?_
 go_upto_region 3 with fail
 refine rl ?_
 refine qf (fa_api_Node_0 g1 0) ?_
 refine ql (.int .i64 k) Tryz.isAgg3 0 K2 ?_
 simp only [nA, nB, nC]
 refine we ?_
 go_upto_region 4 with fail
 refine rl ?_
 rcases bt ((k == (7 : Int))) with Hhb9 | Hhb9
 ·refine wp_y (v := (.bool true)) rfl rfl (y_bin (k := .i64) (k' := .i64) (m := k) (n := 7) rfl (hr := beql_int k 7 true Hhb9.out)) rfl ?_
  try simp only [nA, nB, nC]
  refine qv (.bool true) ?_
  simp only [nA, nB, nC]
  refine we ?_
  go_upto_region 5 with fail
  refine rl ?_
  refine qf (fa_api_Node_1 g1 0) ?_
  refine ql (strV tx) Tryz.isAgg9 1 K2 ?_
  simp only [nA, nB, nC]
  refine qc #[(strV tx)] ?_
  have HCA := hid (rcur_any tx w7)
  refine HCA.out.mono ?_
  rintro e w10 ⟨rfl, (HB11 : Hid _)⟩
  refine ⟨_, rfl, ?_⟩
  replace K2 := ka HB11 K2
  replace HB0 := kb HB0 HB11
  try simp only [Act.put, nA, nB, nC]
  refine qv (.bool (cur tx)) ?_
  simp only [nA, nB, nC]
  refine we ?_
  go_wp2_with fail
  go_ret
  exact ⟨by unfold wdR; rw [Hhb9.out]; rfl, HB0.out⟩
 ·refine wp_y (v := (.bool false)) rfl rfl (y_bin (k := .i64) (k' := .i64) (m := k) (n := 7) rfl (hr := beql_int k 7 false Hhb9.out)) rfl ?_
  try simp only [nA, nB, nC]
  refine qv (.bool false) ?_
  simp only [nA, nB, nC]
  refine we ?_
  go_upto_region 6 with fail
  refine rl ?_
  rcases bt ((k == (9 : Int))) with Hhb12 | Hhb12
  ·refine wp_y (v := (.bool true)) rfl rfl (y_bin (k := .i64) (k' := .i64) (m := k) (n := 9) rfl (hr := beql_int k 9 true Hhb12.out)) rfl ?_
   try simp only [nA, nB, nC]
   refine qv (.bool true) ?_
   simp only [nA, nB, nC]
   refine we ?_
   go_upto_region 8 with fail
   refine rl ?_
   refine qf (fa_api_Node_1 g1 0) ?_
   refine ql (strV tx) Tryz.isAgg9 1 K2 ?_
   simp only [nA, nB, nC]
   refine qc #[(strV tx)] ?_
   have HCA := hid (refIsName_any tx w7 HL.out)
   refine HCA.out.mono ?_
   rintro e wz ⟨rfl, hwz⟩
   refine ⟨_, rfl, ?_⟩
   obtain rfl := hwz.symm
   try simp only [Act.put, nA, nB, nC]
   refine qv (.bool (nam tx)) ?_
   simp only [nA, nB, nC]
   refine we ?_
   go_wp2_with fail
   go_ret
   exact ⟨by unfold wdR; rw [Hhb9.out, Hhb12.out]; rfl, HB0.out⟩
  ·refine wp_y (v := (.bool false)) rfl rfl (y_bin (k := .i64) (k' := .i64) (m := k) (n := 9) rfl (hr := beql_int k 9 false Hhb12.out)) rfl ?_
   try simp only [nA, nB, nC]
   refine qv (.bool false) ?_
   simp only [nA, nB, nC]
   refine we ?_
   go_upto_region 7 with fail
   refine rl ?_
   rcases bt ((k == (15 : Int))) with Hhb13 | Hhb13
   ·refine wp_y (v := (.bool true)) rfl rfl (y_bin (k := .i64) (k' := .i64) (m := k) (n := 15) rfl (hr := beql_int k 15 true Hhb13.out)) rfl ?_
    try simp only [nA, nB, nC]
    refine qv (.bool true) ?_
    simp only [nA, nB, nC]
    refine we ?_
    go_upto_region 8 with fail
    refine rl ?_
    refine qf (fa_api_Node_1 g1 0) ?_
    refine ql (strV tx) Tryz.isAgg9 1 K2 ?_
    simp only [nA, nB, nC]
    refine qc #[(strV tx)] ?_
    have HCA := hid (refIsName_any tx w7 HL.out)
    refine HCA.out.mono ?_
    rintro e wz ⟨rfl, hwz⟩
    refine ⟨_, rfl, ?_⟩
    obtain rfl := hwz.symm
    try simp only [Act.put, nA, nB, nC]
    refine qv (.bool (nam tx)) ?_
    simp only [nA, nB, nC]
    refine we ?_
    go_wp2_with fail
    go_ret
    exact ⟨by unfold wdR; rw [Hhb9.out, Hhb12.out, Hhb13.out]; rfl, HB0.out⟩
   ·refine wp_y (v := (.bool false)) rfl rfl (y_bin (k := .i64) (k' := .i64) (m := k) (n := 15) rfl (hr := beql_int k 15 false Hhb13.out)) rfl ?_
    try simp only [nA, nB, nC]
    refine qv (.bool false) ?_
    simp only [nA, nB, nC]
    refine we ?_
    go_upto_region 9 with fail
    refine rl ?_
    rcases bt ((k == (10 : Int))) with Hhb14 | Hhb14
    ·refine wp_y (v := (.bool true)) rfl rfl (y_bin (k := .i64) (k' := .i64) (m := k) (n := 10) rfl (hr := beql_int k 10 true Hhb14.out)) rfl ?_
     try simp only [nA, nB, nC]
     refine qv (.bool true) ?_
     simp only [nA, nB, nC]
     refine we ?_
     rcases bt (fre tx) with Hhb15 | Hhb15
     ·rw [Hhb15.out]
      go_upto_region 11 with fail
      refine rl ?_
      refine qv (.bool true) ?_
      refine qv (.bool true) ?_
      simp only [nA, nB, nC]
      refine qs rfl ?_
      simp only [nA, nB, nC]
      refine qv (.bool true) ?_
      refine qv (.bool true) ?_
      simp only [nA, nB, nC]
      refine we ?_
      go_wp2_with fail
      go_ret
      exact ⟨by unfold wdR; rw [Hhb9.out, Hhb12.out, Hhb13.out, Hhb14.out, Hhb15.out]; rfl, HB0.out⟩
     ·rw [Hhb15.out]
      go_upto_region 11 with fail
      refine rl ?_
      refine qv (.bool false) ?_
      refine qv (.bool false) ?_
      simp only [nA, nB, nC]
      refine qg (.bool (farR tx)) rfl ?_
      simp only [nA, nB, nC]
      refine qv (.bool (farR tx)) ?_
      refine qv (.bool (farR tx)) ?_
      simp only [nA, nB, nC]
      refine we ?_
      go_wp2_with fail
      go_ret
      exact ⟨by unfold wdR; rw [Hhb9.out, Hhb12.out, Hhb13.out, Hhb14.out, Hhb15.out]; rfl, HB0.out⟩
    ·refine wp_y (v := (.bool false)) rfl rfl (y_bin (k := .i64) (k' := .i64) (m := k) (n := 10) rfl (hr := beql_int k 10 false Hhb14.out)) rfl ?_
     try simp only [nA, nB, nC]
     refine qv (.bool false) ?_
     simp only [nA, nB, nC]
     refine we ?_
     go_upto_region 10 with fail
     refine rl ?_
     rcases bt ((k == (11 : Int))) with Hhb16 | Hhb16
     ·refine wp_y (v := (.bool true)) rfl rfl (y_bin (k := .i64) (k' := .i64) (m := k) (n := 11) rfl (hr := beql_int k 11 true Hhb16.out)) rfl ?_
      try simp only [nA, nB, nC]
      refine qv (.bool true) ?_
      simp only [nA, nB, nC]
      refine we ?_
      rcases bt (fre tx) with Hhb17 | Hhb17
      ·rw [Hhb17.out]
       go_upto_region 11 with fail
       refine rl ?_
       refine qv (.bool true) ?_
       refine qv (.bool true) ?_
       simp only [nA, nB, nC]
       refine qs rfl ?_
       simp only [nA, nB, nC]
       refine qv (.bool true) ?_
       refine qv (.bool true) ?_
       simp only [nA, nB, nC]
       refine we ?_
       go_wp2_with fail
       go_ret
       exact ⟨by unfold wdR; rw [Hhb9.out, Hhb12.out, Hhb13.out, Hhb14.out, Hhb16.out, Hhb17.out]; rfl, HB0.out⟩
      ·rw [Hhb17.out]
       go_upto_region 11 with fail
       refine rl ?_
       refine qv (.bool false) ?_
       refine qv (.bool false) ?_
       simp only [nA, nB, nC]
       refine qg (.bool (farR tx)) rfl ?_
       simp only [nA, nB, nC]
       refine qv (.bool (farR tx)) ?_
       refine qv (.bool (farR tx)) ?_
       simp only [nA, nB, nC]
       refine we ?_
       go_wp2_with fail
       go_ret
       exact ⟨by unfold wdR; rw [Hhb9.out, Hhb12.out, Hhb13.out, Hhb14.out, Hhb16.out, Hhb17.out]; rfl, HB0.out⟩
     ·refine wp_y (v := (.bool false)) rfl rfl (y_bin (k := .i64) (k' := .i64) (m := k) (n := 11) rfl (hr := beql_int k 11 false Hhb16.out)) rfl ?_
      try simp only [nA, nB, nC]
      refine qv (.bool false) ?_
      simp only [nA, nB, nC]
      refine we ?_
      go_upto_region 12 with fail
      refine rl ?_
      rcases bt ((k == (12 : Int))) with Hhb18 | Hhb18
      ·refine wp_y (v := (.bool true)) rfl rfl (y_bin (k := .i64) (k' := .i64) (m := k) (n := 12) rfl (hr := beql_int k 12 true Hhb18.out)) rfl ?_
       try simp only [nA, nB, nC]
       refine qv (.bool true) ?_
       simp only [nA, nB, nC]
       refine we ?_
       go_upto_region 13 with fail
       refine rl ?_
       refine qf (fa_api_Node_1 g1 0) ?_
       refine ql (strV tx) Tryz.isAgg9 1 K2 ?_
       simp only [nA, nB, nC]
       rcases bt (decide (tx = [45])) with Hhb19 | Hhb19
       ·refine wp_y (v := (.bool true)) rfl rfl (y_eqlS (l := tx) (m := [45]) rfl (by kernel_rfl) (by kernel_rfl) (by kernel_rfl) (Hhb19.out)) rfl ?_
        try simp only [nA, nB, nC]
        refine qv (.bool true) ?_
        simp only [nA, nB, nC]
        refine qs rfl ?_
        simp only [nA, nB, nC]
        refine qs rfl ?_
        simp only [nA, nB, nC]
        refine qs rfl ?_
        simp only [nA, nB, nC]
        refine qv (.bool true) ?_
        refine qv (.bool true) ?_
        simp only [nA, nB, nC]
        refine we ?_
        go_wp2_with fail
        go_ret
        exact ⟨by unfold wdR; rw [Hhb9.out, Hhb12.out, Hhb13.out, Hhb14.out, Hhb16.out, Hhb18.out, Hhb19.out]; rfl, HB0.out⟩
       ·refine wp_y (v := (.bool false)) rfl rfl (y_eqlS (l := tx) (m := [45]) rfl (by kernel_rfl) (by kernel_rfl) (by kernel_rfl) (Hhb19.out)) rfl ?_
        try simp only [nA, nB, nC]
        refine qv (.bool false) ?_
        simp only [nA, nB, nC]
        refine wp_yg (v := (.pointer (some ⟨g1, 1, none⟩))) rfl (y_faddr rfl (hf := fa_api_Node_1 g1 0)) rfl ?_
        try simp only [nA, nB, nC]
        refine wp_yg (v := (strV tx)) rfl (y_load rfl (hl := fun w' h => by rw [h]; exact load1 Tryz.isAgg9 (cell_at K2.out 1 rfl))) rfl ?_
        try simp only [nA, nB, nC]
        rcases bt (decide (tx = [110, 111, 116])) with Hhb20 | Hhb20
        ·refine wp_yg (v := (.bool true)) rfl (y_eqlS (l := tx) (m := [110, 111, 116]) rfl (by kernel_rfl) (by kernel_rfl) (by kernel_rfl) (Hhb20.out)) rfl ?_
         try simp only [nA, nB, nC]
         refine qv (.bool true) ?_
         refine qv (.bool true) ?_
         simp only [nA, nB, nC]
         refine we ?_
         go_wp2_with fail
         go_ret
         exact ⟨by unfold wdR; rw [Hhb9.out, Hhb12.out, Hhb13.out, Hhb14.out, Hhb16.out, Hhb18.out, Hhb19.out, Hhb20.out]; rfl, HB0.out⟩
        ·refine wp_yg (v := (.bool false)) rfl (y_eqlS (l := tx) (m := [110, 111, 116]) rfl (by kernel_rfl) (by kernel_rfl) (by kernel_rfl) (Hhb20.out)) rfl ?_
         try simp only [nA, nB, nC]
         refine qv (.bool false) ?_
         refine qv (.bool false) ?_
         simp only [nA, nB, nC]
         refine we ?_
         go_wp2_with fail
         go_ret
         exact ⟨by unfold wdR; rw [Hhb9.out, Hhb12.out, Hhb13.out, Hhb14.out, Hhb16.out, Hhb18.out, Hhb19.out, Hhb20.out]; rfl, HB0.out⟩
      ·refine wp_y (v := (.bool false)) rfl rfl (y_bin (k := .i64) (k' := .i64) (m := k) (n := 12) rfl (hr := beql_int k 12 false Hhb18.out)) rfl ?_
       try simp only [nA, nB, nC]
       refine qv (.bool false) ?_
       simp only [nA, nB, nC]
       refine we ?_
       go_upto_region 14 with fail
       refine rl ?_
       rcases bt ((k == (13 : Int))) with Hhb21 | Hhb21
       ·refine wp_y (v := (.bool true)) rfl rfl (y_bin (k := .i64) (k' := .i64) (m := k) (n := 13) rfl (hr := beql_int k 13 true Hhb21.out)) rfl ?_
        try simp only [nA, nB, nC]
        refine qv (.bool true) ?_
        simp only [nA, nB, nC]
        refine we ?_
        go_upto_region 15 with fail
        refine rl ?_
        refine qf (fa_api_Node_1 g1 0) ?_
        refine ql (strV tx) Tryz.isAgg9 1 K2 ?_
        simp only [nA, nB, nC]
        refine qc #[(strV tx)] ?_
        have HCA := hid (rsign_any tx w7)
        refine HCA.out.mono ?_
        rintro e w22 ⟨rfl, (HB23 : Hid _)⟩
        refine ⟨_, rfl, ?_⟩
        replace K2 := ka HB23 K2
        replace HB0 := kb HB0 HB23
        try simp only [Act.put, nA, nB, nC]
        refine qv (.bool (decide (tx ∈ sgns))) ?_
        simp only [nA, nB, nC]
        refine we ?_
        go_wp2_with fail
        go_ret
        exact ⟨by unfold wdR; rw [Hhb9.out, Hhb12.out, Hhb13.out, Hhb14.out, Hhb16.out, Hhb18.out, Hhb21.out]; rfl, HB0.out⟩
       ·refine wp_y (v := (.bool false)) rfl rfl (y_bin (k := .i64) (k' := .i64) (m := k) (n := 13) rfl (hr := beql_int k 13 false Hhb21.out)) rfl ?_
        try simp only [nA, nB, nC]
        refine qv (.bool false) ?_
        simp only [nA, nB, nC]
        refine we ?_
        go_upto_region 16 with fail
        refine rl ?_
        refine qf (fa_api_Node_1 g1 0) ?_
        refine ql (strV tx) Tryz.isAgg9 1 K2 ?_
        simp only [nA, nB, nC]
        refine wp_y (v := (.bool (decide (tx = [])))) rfl rfl (y_eqlS (l := tx) (m := []) rfl (by kernel_rfl) (by kernel_rfl) (by kernel_rfl) (rfl)) rfl ?_
        simp only [nA, nB, nC]
        refine qv (.bool (decide (tx = []))) ?_
        simp only [nA, nB, nC]
        refine we ?_
        go_wp2_with fail
        go_ret
        exact ⟨by unfold wdR; rw [Hhb9.out, Hhb12.out, Hhb13.out, Hhb14.out, Hhb16.out, Hhb18.out, Hhb21.out]; rfl, HB0.out⟩
theorem nam_no46 {l : List UInt8} (h : (46 : UInt8) ∈ l) : nam l = false := by
 rw [Bool.eq_false_iff]
 intro hn
 exact absurd (List.all_eq_true.1 (nam_all hn) 46 h) (by decide)
theorem nof_eq (l : List UInt8) : nof l = (fre l || farR l) := by
 unfold nof farR
 cases hb : (Lib.cut l [46]).2.2 with
 | false => rw [cut_none l hb]; simp
 | true =>
  have h : fre l = false := by
   unfold fre
   rw [nam_no46 (by rw [cut_join l hb]; simp)]
   rfl
  rw [h]
  simp
theorem btw01 (n : Int) : btw 0 1 n = (n == 0 || n == 1) := by
 rw [Bool.eq_iff_iff]
 simp [btw]
 omega
theorem own_is {k : Int} (tx : List UInt8) (n : Int) (hk : k = 5 ∨ k = 6 ∨ k = 7 ∨ k = 8 ∨ k = 9 ∨ k = 10 ∨ k = 11 ∨ k = 12 ∨ k = 13 ∨ k = 14 ∨ k = 15) : own k tx n = (wdR k tx && nbR k n) ∧ kdR k = kidsOf k := by
 rcases hk with rfl | rfl | rfl | rfl | rfl | rfl | rfl | rfl | rfl | rfl | rfl
 ·exact ⟨rfl, rfl⟩
 ·exact ⟨rfl, rfl⟩
 ·exact ⟨Bool.and_comm _ _, rfl⟩
 ·exact ⟨by show (decide (tx = []) && btw 0 1 n) = (decide (tx = []) && (n == 0 || n == 1)); rw [btw01], rfl⟩
 ·exact ⟨Bool.and_comm _ _, rfl⟩
 ·exact ⟨by show (n == 0 && nof tx) = ((fre tx || farR tx) && n == 0); rw [nof_eq, Bool.and_comm], rfl⟩
 ·exact ⟨by show (n == 0 && nof tx) = ((fre tx || farR tx) && n == 0); rw [nof_eq, Bool.and_comm], rfl⟩
 ·exact ⟨by show (n == 0 && decide (tx ∈ uns)) = ((decide (tx = [45]) || decide (tx = [110, 111, 116])) && n == 0); rw [Bool.and_comm]; simp [uns, Bool.decide_or], rfl⟩
 ·exact ⟨Bool.and_comm _ _, rfl⟩
 ·exact ⟨Bool.and_comm _ _, rfl⟩
 ·exact ⟨Bool.and_comm _ _, rfl⟩
theorem own_eq (k : Int) (tx : List UInt8) (n : Int) (N : Nat) : (own k tx n && kidsOk k N) = (wdR k tx && nbR k n && (decide ((kdR k).1 ≤ N) && decide ((N : Int) ≤ (kdR k).2))) := by
 by_cases hk : k = 5 ∨ k = 6 ∨ k = 7 ∨ k = 8 ∨ k = 9 ∨ k = 10 ∨ k = 11 ∨ k = 12 ∨ k = 13 ∨ k = 14 ∨ k = 15
 ·obtain ⟨h1, h2⟩ := own_is tx n hk
  rw [h1, h2]
  rfl
 ·simp only [not_or] at hk
  obtain ⟨h5, h6, h7, h8, h9, h10, h11, h12, h13, h14, h15⟩ := hk
  have h1 : own k tx n = false := by
   unfold own ownT
   rw [beq_false_of_ne h5, beq_false_of_ne h6, beq_false_of_ne h7, beq_false_of_ne h8, beq_false_of_ne h9, beq_false_of_ne h10, beq_false_of_ne h11, beq_false_of_ne h12, beq_false_of_ne h13, beq_false_of_ne h14, beq_false_of_ne h15]
   simp
  have h2 : kdR k = (1, 0) := by
   unfold kdR
   rw [if_neg (by simp [h5, h6, h7, h8, h9, h10]), if_neg h12, if_neg h13, if_neg (by simp [h14, h15]), if_neg h11]
  have h3 : (decide ((1 : Int) ≤ N) && decide ((N : Int) ≤ 0)) = false := by
   rw [Bool.eq_false_iff]
   intro h
   simp only [Bool.and_eq_true, decide_eq_true_eq] at h
   omega
  rw [h1, h2, h3]
  simp
theorem nd_len {w : World} {v : Value} {k : Int} {tx : List UInt8} {n : Int} {kids : List Tr} {at_ : Int} (h : Nd w v (.mk k tx n kids at_)) : kids.length ≤ 9223372036854775807 := by
 obtain ⟨a, c, -, h2, -⟩ := h.open
 omega
def RrP (t : Tr) : Prop := ∀ (D : Nat) (w : World) (v : Value), 1 ≤ D → D ≤ 101 → t.Ok → Nd w v t → Calls Tryz.prog 34 #[v, .int .i64 D] w fun e w' => e = .returned (.bool (rt (101 - D) t)) ∧ Below w.heap.size w w'
theorem rt_step {D : Nat} (h : D ≤ 100) (k : Int) (tx : List UInt8) (n : Int) (ks : List Tr) (at_ : Int) : rt (101 - D) (.mk k tx n ks at_) = (wdR k tx && nbR k n && (decide ((kdR k).1 ≤ (ks.length : Nat)) && decide (((ks.length : Nat) : Int) ≤ (kdR k).2)) && ks.all (rt (101 - (D + 1)))) := by
 rw [← own_eq, show 101 - D = (101 - (D + 1)) + 1 by omega, rt]
seal wpList in
theorem rright_step {k : Int} {tx : List UInt8} {n : Int} {kids : List Tr} {at_ : Int} (ih : ∀ t ∈ kids, RrP t) : RrP (.mk k tx n kids at_) := by
 intro D w v h1 h2 hok hnd
 have HIH0 := hid ih
 have HD2 := hid h2
 have HOK := hid hok
 have HT := hid hok.text
 have HN0 := hid hnd
 have HNM := hid (nd_len hnd)
 have HB0 := hid (Below.refl w.heap.size w)
 obtain ⟨a, c, rfl, -, -⟩ := hnd.open
 clear ih h2 hok hnd h1
 obtain ⟨N, hN⟩ : ∃ N, kids.length = N := ⟨_, rfl⟩
 rw [hN] at HN0 HNM ⊢
 have HNN := hid hN
 clear hN
 obtain ⟨kl, hkl⟩ : ∃ x, (kdR k).1 = x := ⟨_, rfl⟩
 obtain ⟨km, hkm⟩ : ∃ x, (kdR k).2 = x := ⟨_, rfl⟩
 have HKD := hid hkl
 have HKE := hid hkm
 clear hkl hkm
 obtain ⟨Z, hZ⟩ : ∃ Z, rt (101 - D) (.mk k tx n kids at_) = Z := ⟨_, rfl⟩
 rw [hZ]
 have HZ0 := hid hZ
 clear hZ
 go_enter Tryz.func34, Tryz.ntmps34
 go_upto_region 0 with fail
 refine rl ?_
 obtain ⟨w3, g1, (HX : Hid _), (K2 : Hid _), (HB4 : Hid _)⟩ := box_x 24 w #[(.int .i64 k), (strV tx), (.int .i64 n), (.slice a N c), (.int .i64 at_)]
 refine wp_run (v := (.pointer (some ⟨g1, 0, none⟩))) rfl rfl (run_boxOp rfl (by kernel_rfl) HX.out) rfl ?_
 try simp only [nA, nB, nC]
 replace HB0 := kb HB0 HB4
 refine qv (.bool false) ?_
 simp only [nA, nB, nC]
 refine we ?_
 go_upto_region 1 with fail
 refine rl ?_
 refine qf (fa_api_Node_0 g1 0) ?_
 refine ql (.int .i64 k) Tryz.isAgg3 0 K2 ?_
 simp only [nA, nB, nC]
 refine qc #[(.int .i64 k)] ?_
 have HCA := hid (rkids_any k w3)
 refine HCA.out.mono ?_
 rintro e w5 ⟨he, hq⟩
 rw [HKD.out, HKE.out] at he
 subst he
 refine ⟨_, rfl, ?_⟩
 have HB6 := hid hq
 clear hq
 replace K2 := ka HB6 K2
 replace HB0 := kb HB0 HB6
 try simp only [Act.put, nA, nB, nC]
 refine qv (.tuple #[(.int .i64 kl), (.int .i64 km)]) ?_
 refine qv (.int .i64 kl) ?_
 refine qv (.int .i64 km) ?_
 refine qv (.int .i64 kl) ?_
 simp only [nA, nB, nC]
 refine qv (.int .i64 km) ?_
 simp only [nA, nB, nC]
 refine we ?_
 go_upto_region 2 with fail
 refine rl ?_
 refine qk (nv k tx n (.slice a N c) at_) Tryz.isAgg24 K2 ?_
 simp only [nA, nB, nC]
 refine qc #[(nv k tx n (.slice a N c) at_)] ?_
 have HCA := hid (worded_any (k := k) (n := n) (a := a) (N := N) (c := c) (at_ := at_) w5 HT.out)
 refine HCA.out.mono ?_
 rintro e w7 ⟨rfl, (HB8 : Hid _)⟩
 refine ⟨_, rfl, ?_⟩
 replace K2 := ka HB8 K2
 replace HB0 := kb HB0 HB8
 try simp only [Act.put, nA, nB, nC]
 refine qv (.bool (wdR k tx)) ?_
 simp only [nA, nB, nC]
 refine we ?_
 go_upto_region 3 with fail
 refine rl ?_
 refine qk (nv k tx n (.slice a N c) at_) Tryz.isAgg24 K2 ?_
 simp only [nA, nB, nC]
 refine qc #[(nv k tx n (.slice a N c) at_)] ?_
 have HCA := hid (numbered_any (k := k) (tx := tx) (n := n) (a := a) (N := N) (c := c) (at_ := at_) w7)
 refine HCA.out.mono ?_
 rintro e w9 ⟨rfl, (HB10 : Hid _)⟩
 refine ⟨_, rfl, ?_⟩
 replace K2 := ka HB10 K2
 replace HB0 := kb HB0 HB10
 try simp only [Act.put, nA, nB, nC]
 refine qv (.bool (nbR k n)) ?_
 simp only [nA, nB, nC]
 refine we ?_
 go_upto_region 4 with fail
 refine rl ?_
 refine qv (.int .i64 (((D : Nat) : Int))) ?_
 simp only [nA, nB, nC]
 rcases bt (decide ((100 : Int) < ((D : Nat) : Int))) with Hhb11 | Hhb11
 ·refine wp_y (v := (.bool true)) rfl rfl (y_bin (k := .i64) (k' := .i64) (m := ((D : Nat) : Int)) (n := 100) rfl (hr := bgtr_int ((D : Nat) : Int) 100 true Hhb11.out)) rfl ?_
  try simp only [nA, nB, nC]
  refine qv (.bool true) ?_
  simp only [nA, nB, nC]
  refine qs rfl ?_
  simp only [nA, nB, nC]
  refine qs rfl ?_
  simp only [nA, nB, nC]
  refine qs rfl ?_
  simp only [nA, nB, nC]
  refine qs rfl ?_
  simp only [nA, nB, nC]
  refine qs rfl ?_
  simp only [nA, nB, nC]
  refine qv (.bool true) ?_
  refine qv (.bool true) ?_
  simp only [nA, nB, nC]
  refine qs rfl ?_
  simp only [nA, nB, nC]
  refine qs rfl ?_
  simp only [nA, nB, nC]
  refine qs rfl ?_
  simp only [nA, nB, nC]
  refine qs rfl ?_
  simp only [nA, nB, nC]
  refine qs rfl ?_
  simp only [nA, nB, nC]
  refine qv (.bool true) ?_
  refine qv (.bool true) ?_
  simp only [nA, nB, nC]
  refine qs rfl ?_
  simp only [nA, nB, nC]
  refine qs rfl ?_
  simp only [nA, nB, nC]
  refine qv (.bool true) ?_
  refine qv (.bool true) ?_
  simp only [nA, nB, nC]
  refine qs rfl ?_
  simp only [nA, nB, nC]
  refine qs rfl ?_
  simp only [nA, nB, nC]
  refine qv (.bool true) ?_
  simp only [nA, nB, nC]
  refine we ?_
  go_upto_region 5 with fail
  refine rl ?_
  refine qv (.bool false) ?_
  simp only [nA, nB, nC]
  refine we ?_
  go_wp2_with fail
  go_ret
  have HZ : Z = false := by rw [← HZ0.out, show 101 - D = 0 by have h9 := of_decide_eq_true Hhb11.out; omega, rt]
  exact ⟨congrArg (fun b => Ending.returned (.bool b)) HZ.symm, HB0.out⟩
 ·refine wp_y (v := (.bool false)) rfl rfl (y_bin (k := .i64) (k' := .i64) (m := ((D : Nat) : Int)) (n := 100) rfl (hr := bgtr_int ((D : Nat) : Int) 100 false Hhb11.out)) rfl ?_
  try simp only [nA, nB, nC]
  refine qv (.bool false) ?_
  simp only [nA, nB, nC]
  refine wp_yg (v := (.pointer (some ⟨g1, 3, none⟩))) rfl (y_faddr rfl (hf := fa_api_Node_3 g1 0)) rfl ?_
  try simp only [nA, nB, nC]
  refine wp_yg (v := (.slice a N c)) rfl (y_load rfl (hl := fun w' h => by rw [h]; exact load1 Tryz.isAgg22 (cell_at K2.out 3 rfl))) rfl ?_
  try simp only [nA, nB, nC]
  refine wp_yg (v := (.int .i64 (((N : Nat) : Int)))) rfl (y_lenT len_Sapi_Node (p := a) (n := N) (c := c) rfl (by kernel_rfl) (by kernel_rfl)) rfl ?_
  try simp only [nA, nB, nC]
  refine qg (.int .i64 kl) rfl ?_
  simp only [nA, nB, nC]
  rcases bt (decide (((N : Nat) : Int) < kl)) with Hhb12 | Hhb12
  ·refine wp_yg (v := (.bool true)) rfl (y_bin (k := .i64) (k' := .i64) (m := ((N : Nat) : Int)) (n := kl) rfl (hr := blss_int ((N : Nat) : Int) kl true Hhb12.out)) rfl ?_
   try simp only [nA, nB, nC]
   refine qv (.bool true) ?_
   refine qv (.bool true) ?_
   simp only [nA, nB, nC]
   refine qs rfl ?_
   simp only [nA, nB, nC]
   refine qs rfl ?_
   simp only [nA, nB, nC]
   refine qs rfl ?_
   simp only [nA, nB, nC]
   refine qs rfl ?_
   simp only [nA, nB, nC]
   refine qs rfl ?_
   simp only [nA, nB, nC]
   refine qv (.bool true) ?_
   refine qv (.bool true) ?_
   simp only [nA, nB, nC]
   refine qs rfl ?_
   simp only [nA, nB, nC]
   refine qs rfl ?_
   simp only [nA, nB, nC]
   refine qv (.bool true) ?_
   refine qv (.bool true) ?_
   simp only [nA, nB, nC]
   refine qs rfl ?_
   simp only [nA, nB, nC]
   refine qs rfl ?_
   simp only [nA, nB, nC]
   refine qv (.bool true) ?_
   simp only [nA, nB, nC]
   refine we ?_
   go_upto_region 5 with fail
   refine rl ?_
   refine qv (.bool false) ?_
   simp only [nA, nB, nC]
   refine we ?_
   go_wp2_with fail
   go_ret
   have HZ : Z = false := by rw [← HZ0.out, rt_step (by have h9 := of_decide_eq_false Hhb11.out; omega), HNN.out, HKD.out, HKE.out, decide_eq_false (show ¬ kl ≤ ((N : Nat) : Int) by have h9 := of_decide_eq_true Hhb12.out; omega)]; simp
   exact ⟨congrArg (fun b => Ending.returned (.bool b)) HZ.symm, HB0.out⟩
  ·refine wp_yg (v := (.bool false)) rfl (y_bin (k := .i64) (k' := .i64) (m := ((N : Nat) : Int)) (n := kl) rfl (hr := blss_int ((N : Nat) : Int) kl false Hhb12.out)) rfl ?_
   try simp only [nA, nB, nC]
   refine qv (.bool false) ?_
   refine qv (.bool false) ?_
   simp only [nA, nB, nC]
   refine wp_yg (v := (.pointer (some ⟨g1, 3, none⟩))) rfl (y_faddr rfl (hf := fa_api_Node_3 g1 0)) rfl ?_
   try simp only [nA, nB, nC]
   refine wp_yg (v := (.slice a N c)) rfl (y_load rfl (hl := fun w' h => by rw [h]; exact load1 Tryz.isAgg22 (cell_at K2.out 3 rfl))) rfl ?_
   try simp only [nA, nB, nC]
   refine wp_yg (v := (.int .i64 (((N : Nat) : Int)))) rfl (y_lenT len_Sapi_Node (p := a) (n := N) (c := c) rfl (by kernel_rfl) (by kernel_rfl)) rfl ?_
   try simp only [nA, nB, nC]
   refine qg (.int .i64 km) rfl ?_
   simp only [nA, nB, nC]
   rcases bt (decide (km < ((N : Nat) : Int))) with Hhb13 | Hhb13
   ·refine wp_yg (v := (.bool true)) rfl (y_bin (k := .i64) (k' := .i64) (m := ((N : Nat) : Int)) (n := km) rfl (hr := bgtr_int ((N : Nat) : Int) km true Hhb13.out)) rfl ?_
    try simp only [nA, nB, nC]
    refine qv (.bool true) ?_
    refine qv (.bool true) ?_
    simp only [nA, nB, nC]
    refine qs rfl ?_
    simp only [nA, nB, nC]
    refine qs rfl ?_
    simp only [nA, nB, nC]
    refine qv (.bool true) ?_
    refine qv (.bool true) ?_
    simp only [nA, nB, nC]
    refine qs rfl ?_
    simp only [nA, nB, nC]
    refine qs rfl ?_
    simp only [nA, nB, nC]
    refine qv (.bool true) ?_
    simp only [nA, nB, nC]
    refine we ?_
    go_upto_region 5 with fail
    refine rl ?_
    refine qv (.bool false) ?_
    simp only [nA, nB, nC]
    refine we ?_
    go_wp2_with fail
    go_ret
    have HZ : Z = false := by rw [← HZ0.out, rt_step (by have h9 := of_decide_eq_false Hhb11.out; omega), HNN.out, HKD.out, HKE.out, decide_eq_false (show ¬ ((N : Nat) : Int) ≤ km by have h9 := of_decide_eq_true Hhb13.out; omega)]; simp
    exact ⟨congrArg (fun b => Ending.returned (.bool b)) HZ.symm, HB0.out⟩
   ·refine wp_yg (v := (.bool false)) rfl (y_bin (k := .i64) (k' := .i64) (m := ((N : Nat) : Int)) (n := km) rfl (hr := bgtr_int ((N : Nat) : Int) km false Hhb13.out)) rfl ?_
    try simp only [nA, nB, nC]
    refine qv (.bool false) ?_
    refine qv (.bool false) ?_
    simp only [nA, nB, nC]
    rcases bt (wdR k tx) with Hhb14 | Hhb14
    ·rw [Hhb14.out]
     refine qg (.bool true) rfl ?_
     simp only [nA, nB, nC]
     refine wp_yg (v := (.bool false)) rfl (y_un (p := .bool true) rfl (by kernel_rfl) (by kernel_rfl) (fun w => qnotB true w)) rfl ?_
     try simp only [nA, nB, nC]
     refine qv (.bool false) ?_
     refine qv (.bool false) ?_
     simp only [nA, nB, nC]
     rcases bt (nbR k n) with Hhb15 | Hhb15
     ·rw [Hhb15.out]
      refine qg (.bool true) rfl ?_
      simp only [nA, nB, nC]
      refine wp_yg (v := (.bool false)) rfl (y_un (p := .bool true) rfl (by kernel_rfl) (by kernel_rfl) (fun w => qnotB true w)) rfl ?_
      try simp only [nA, nB, nC]
      refine qv (.bool false) ?_
      simp only [nA, nB, nC]
      refine we ?_
      go_upto_region 6 with fail
      refine rl ?_
      refine qv (.int .i64 0) ?_
      simp only [nA, nB, nC]
      refine we ?_
      go_wp2_with fail
      have HD1 : Hid (D + 1 ≤ 101) := hid (by have h9 := of_decide_eq_false Hhb11.out; omega)
      have HZE : Hid (Z = kids.all (rt (101 - (D + 1)))) := hid (by rw [← HZ0.out, rt_step (by have := HD1.out; omega), HNN.out, HKD.out, HKE.out, Hhb14.out, Hhb15.out, decide_eq_true (show kl ≤ ((N : Nat) : Int) by have h9 := of_decide_eq_false Hhb12.out; omega), decide_eq_true (show ((N : Nat) : Int) ≤ km by have h9 := of_decide_eq_false Hhb13.out; omega)]; rfl)
      go_loopw [9] (fun v9 wr => ∃ j : Nat, j ≤ N ∧ v9 = .int .i64 j ∧ (kids.take j).all (rt (101 - (D + 1))) = true ∧ Below w.heap.size w wr ∧ wr.heap[g1]? = some (.cells #[.int .i64 k, strV tx, .int .i64 n, .slice a N c, .int .i64 at_] 24 (0, 0))) (fun v9 _ => N - (intOf v9).toNat)
      case atStart =>
       exact ⟨0, Nat.zero_le _, rfl, by simp, HB0.out, K2.out⟩
      case round =>
       obtain ⟨j, hj, rfl, hal, hB, hk⟩ := hrel
       clear HB0
       have HAL := hid hal
       have HB0 := hid hB
       have KN := hid hk
       have HJJ := hid hj
       clear hal hB hk hj
       go_upto_region 7 with fail
       refine rl ?_
       refine qv (.int .i64 (((j : Nat) : Int))) ?_
       refine qf (fa_api_Node_3 g1 0) ?_
       refine ql (.slice a N c) Tryz.isAgg22 3 KN ?_
       simp only [nA, nB, nC]
       refine wp_y (v := (.int .i64 (((N : Nat) : Int)))) rfl rfl (y_lenT len_Sapi_Node (p := a) (n := N) (c := c) rfl (by kernel_rfl) (by kernel_rfl)) rfl ?_
       simp only [nA, nB, nC]
       rcases bt (decide (((j : Nat) : Int) < ((N : Nat) : Int))) with Hhb16 | Hhb16
       ·have hlt : j < N := by have := of_decide_eq_true Hhb16.out; omega
        obtain ⟨t, ht⟩ : ∃ t, kids[j]? = some t := ⟨_, List.getElem?_eq_getElem (by rw [HNN.out]; exact hlt)⟩
        obtain ⟨b, o, k', tx', n', ks', at', a', c', rfl, rfl, hcl, hnd⟩ := Nd.kid HN0.out ht
        have HIH := hid (HIH0.out _ (List.mem_of_getElem? ht))
        have HOKK := hid (HOK.out.kid ht)
        have HJ := hid ht
        have HLT := hid hlt
        have HCL := hid (hcl.below HB0.out)
        have HNK := hid (hnd.later HB0.out)
        have HS1 := hid (wrap_next (N := N) hlt HNM.out)
        have HS2 := hid (wrap_next (j := D) (N := 200) (by have := HD1.out; omega) (by decide))
        clear hlt ht hcl hnd
        obtain ⟨N', hN'⟩ : ∃ x, ks'.length = x := ⟨_, rfl⟩
        rw [hN'] at HCL HNK
        clear hN'
        refine qb (blss_int ((j : Nat) : Int) ((N : Nat) : Int) true Hhb16.out) ?_
        simp only [nA, nB, nC]
        refine we ?_
        go_upto_region 9 with fail
        refine rl ?_
        refine qf (fa_api_Node_3 g1 0) ?_
        refine ql (.slice (some ⟨b, o, none⟩) N c) Tryz.isAgg22 3 KN ?_
        refine qv (.int .i64 (((j : Nat) : Int))) ?_
        simp only [nA, nB, nC]
        refine wp_y (v := (.pointer (some ⟨b, o + j * 5, none⟩))) rfl rfl (y_index (p := (.slice (some ⟨b, o, none⟩) N c)) (k := (.int .i64 (((j : Nat) : Int)))) rfl (by kernel_rfl) (by kernel_rfl) (by kernel_rfl) (idx24 b o N c j HLT.out)) rfl ?_
        simp only [nA, nB, nC]
        refine wp_y (v := (nv k' tx' n' (.slice a' N' c') at')) rfl rfl (y_load rfl (hl := fun w' h => by rw [h]; exact load24 HCL.out)) rfl ?_
        simp only [nA, nB, nC]
        refine qv (.int .i64 (((D : Nat) : Int))) ?_
        refine qb (badd_int ((D : Nat) : Int) 1 ((D + 1 : Nat) : Int) HS2.out) ?_
        simp only [nA, nB, nC]
        rcases bt (rt (101 - (D + 1)) (.mk k' tx' n' ks' at')) with Hhb17 | Hhb17
        ·refine wp_call (f := 34) (args := #[(nv k' tx' n' (.slice a' N' c') at'), (.int .i64 (((D + 1 : Nat) : Int)))]) (by kernel_rfl) (fun w => by go_simp) ?_
         have HCA := hid (HIH.out (D + 1) wr _ (by omega) HD1.out HOKK.out HNK.out)
         refine HCA.out.mono ?_
         rintro e w18 ⟨he, hq⟩
         rw [Hhb17.out] at he
         subst he
         refine ⟨_, rfl, ?_⟩
         have HB19 := hid hq
         clear hq
         replace KN := ka HB19 KN
         replace HNK := hid (HNK.out.later HB19.out)
         replace HCL := hid (Cl.below HCL.out HB19.out)
         replace HB0 := kb HB0 HB19
         try simp only [Act.put, nA, nB, nC]
         refine qv (.bool true) ?_
         simp only [nA, nB, nC]
         refine we ?_
         go_upto_region 10 with fail
         refine rl ?_
         refine qv (.bool true) ?_
         simp only [nA, nB, nC]
         refine wp_y (v := (.bool false)) rfl rfl (y_un (p := .bool true) rfl (by kernel_rfl) (by kernel_rfl) (fun w => qnotB true w)) rfl ?_
         simp only [nA, nB, nC]
         refine we ?_
         go_upto_region 8 with fail
         refine rl ?_
         refine qv (.int .i64 (((j : Nat) : Int))) ?_
         refine qb (badd_int ((j : Nat) : Int) 1 ((j + 1 : Nat) : Int) HS1.out) ?_
         refine qv (.int .i64 (((j + 1 : Nat) : Int))) ?_
         simp only [nA, nB, nC]
         refine we ?_
         go_wp2_with fail
         exact ⟨⟨j + 1, HLT.out, rfl, by rw [take_next HJ.out, List.all_append, HAL.out, List.all_cons, Hhb17.out]; rfl, HB0.out, KN.out⟩, by have := HLT.out; simp [intOf]; omega⟩
        ·have HZ : Hid (Z = false) := hid (by rw [HZE.out]; rw [Bool.eq_false_iff]; intro hc; have h8 := List.all_eq_true.1 hc _ (List.mem_of_getElem? HJ.out); rw [Hhb17.out] at h8; cases h8)
         refine qc #[(nv k' tx' n' (.slice a' N' c') at'), (.int .i64 (((D + 1 : Nat) : Int)))] ?_
         have HCA := hid (HIH.out (D + 1) wr _ (by omega) HD1.out HOKK.out HNK.out)
         refine HCA.out.mono ?_
         rintro e w20 ⟨he, hq⟩
         rw [Hhb17.out] at he
         subst he
         refine ⟨_, rfl, ?_⟩
         have HB21 := hid hq
         clear hq
         replace KN := ka HB21 KN
         replace HNK := hid (HNK.out.later HB21.out)
         replace HCL := hid (Cl.below HCL.out HB21.out)
         replace HB0 := kb HB0 HB21
         try simp only [Act.put, nA, nB, nC]
         refine qv (.bool false) ?_
         simp only [nA, nB, nC]
         refine we ?_
         go_upto_region 10 with fail
         refine rl ?_
         refine qv (.bool false) ?_
         simp only [nA, nB, nC]
         refine wp_y (v := (.bool true)) rfl rfl (y_un (p := .bool false) rfl (by kernel_rfl) (by kernel_rfl) (fun w => qnotB false w)) rfl ?_
         simp only [nA, nB, nC]
         refine we ?_
         go_upto_region 11 with fail
         refine rl ?_
         refine qv (.bool false) ?_
         simp only [nA, nB, nC]
         refine we ?_
         go_wp2_with fail
         go_ret
         exact ⟨congrArg (fun b => Ending.returned (.bool b)) HZ.out.symm, HB0.out⟩
       ·have hlt : j = N := by have := of_decide_eq_false Hhb16.out; have := HJJ.out; omega
        have HZ : Hid (Z = true) := hid (by have h9 := HAL.out; rw [hlt, List.take_of_length_le (by rw [HNN.out]; exact Nat.le_refl _)] at h9; rw [HZE.out, h9])
        clear hlt
        refine qb (blss_int ((j : Nat) : Int) ((N : Nat) : Int) false Hhb16.out) ?_
        simp only [nA, nB, nC]
        refine we ?_
        go_upto_region 12 with fail
        refine rl ?_
        refine qv (.bool true) ?_
        simp only [nA, nB, nC]
        refine we ?_
        go_wp2_with fail
        go_ret
        exact ⟨congrArg (fun b => Ending.returned (.bool b)) HZ.out.symm, HB0.out⟩
     ·rw [Hhb15.out]
      refine qg (.bool false) rfl ?_
      simp only [nA, nB, nC]
      refine wp_yg (v := (.bool true)) rfl (y_un (p := .bool false) rfl (by kernel_rfl) (by kernel_rfl) (fun w => qnotB false w)) rfl ?_
      try simp only [nA, nB, nC]
      refine qv (.bool true) ?_
      simp only [nA, nB, nC]
      refine we ?_
      go_upto_region 5 with fail
      refine rl ?_
      refine qv (.bool false) ?_
      simp only [nA, nB, nC]
      refine we ?_
      go_wp2_with fail
      go_ret
      have HZ : Z = false := by rw [← HZ0.out, rt_step (by have h9 := of_decide_eq_false Hhb11.out; omega), HNN.out, HKD.out, HKE.out, Hhb14.out, Hhb15.out]; rfl
      exact ⟨congrArg (fun b => Ending.returned (.bool b)) HZ.symm, HB0.out⟩
    ·rw [Hhb14.out]
     refine qg (.bool false) rfl ?_
     simp only [nA, nB, nC]
     refine wp_yg (v := (.bool true)) rfl (y_un (p := .bool false) rfl (by kernel_rfl) (by kernel_rfl) (fun w => qnotB false w)) rfl ?_
     try simp only [nA, nB, nC]
     refine qv (.bool true) ?_
     refine qv (.bool true) ?_
     simp only [nA, nB, nC]
     refine qs rfl ?_
     simp only [nA, nB, nC]
     refine qs rfl ?_
     simp only [nA, nB, nC]
     refine qv (.bool true) ?_
     simp only [nA, nB, nC]
     refine we ?_
     go_upto_region 5 with fail
     refine rl ?_
     refine qv (.bool false) ?_
     simp only [nA, nB, nC]
     refine we ?_
     go_wp2_with fail
     go_ret
     have HZ : Z = false := by rw [← HZ0.out, rt_step (by have h9 := of_decide_eq_false Hhb11.out; omega), HNN.out, HKD.out, HKE.out, Hhb14.out]; rfl
     exact ⟨congrArg (fun b => Ending.returned (.bool b)) HZ.symm, HB0.out⟩
theorem rright_any (t : Tr) : RrP t := by
 refine Tr.ind (P := RrP) ?_ t
 intro k tx n kids at_ ih
 exact rright_step ih
seal wpList in
theorem rrightExpr_any {t : Tr} {w : World} {v : Value} (hok : t.Ok) (hnd : Nd w v t) : Calls Tryz.prog 17 #[v] w fun e w' => e = .returned (.bool (rt 100 t && sml t)) ∧ Below w.heap.size w w' := by
 have HOK := hid hok
 have HN := hid hnd
 obtain ⟨k, tx, n, kids, at_⟩ := t
 obtain ⟨a, c, rfl, -, -⟩ := hnd.open
 clear hok hnd
 generalize kids.length = N at *
 obtain ⟨t, ht⟩ : ∃ t, Tr.mk k tx n kids at_ = t := ⟨_, rfl⟩
 rw [ht] at HOK HN ⊢
 clear ht
 have HB0 := hid (Below.refl w.heap.size w)
 go_enter Tryz.func17, Tryz.ntmps17
 go_upto_region 0 with fail
 refine rl ?_
 obtain ⟨w3, g1, (HX : Hid _), (K2 : Hid _), (HB4 : Hid _)⟩ := box_x 24 w #[(.int .i64 k), (strV tx), (.int .i64 n), (.slice a N c), (.int .i64 at_)]
 refine wp_run (v := (.pointer (some ⟨g1, 0, none⟩))) rfl rfl (run_boxOp rfl (by kernel_rfl) HX.out) rfl ?_
 try simp only [nA, nB, nC]
 replace HN := hid (HN.out.later HB4.out)
 replace HB0 := kb HB0 HB4
 refine qv (.bool false) ?_
 simp only [nA, nB, nC]
 refine we ?_
 go_upto_region 1 with fail
 refine rl ?_
 refine qk (nv k tx n (.slice a N c) at_) Tryz.isAgg24 K2 ?_
 simp only [nA, nB, nC]
 rcases bt (sml t) with Hhb5 | Hhb5
 ·refine wp_call (f := 20) (args := #[(nv k tx n (.slice a N c) at_)]) (by kernel_rfl) (fun w => by go_simp) ?_
  have HCA := hid (small_any HN.out)
  refine HCA.out.mono ?_
  rintro e w6 ⟨he, hq⟩
  rw [Hhb5.out] at he
  subst he
  refine ⟨_, rfl, ?_⟩
  have HB7 := hid hq
  clear hq
  replace K2 := ka HB7 K2
  replace HN := hid (HN.out.later HB7.out)
  replace HB0 := kb HB0 HB7
  try simp only [Act.put, nA, nB, nC]
  refine qv (.bool true) ?_
  simp only [nA, nB, nC]
  refine we ?_
  go_upto_region 2 with fail
  refine rl ?_
  refine qv (.bool true) ?_
  refine qv (.bool true) ?_
  simp only [nA, nB, nC]
  refine wp_yg (v := (nv k tx n (.slice a N c) at_)) rfl (y_load rfl (hl := fun w' h => by rw [h]; exact load_blk Tryz.isAgg24 (by kernel_rfl) rfl K2.out)) rfl ?_
  try simp only [nA, nB, nC]
  rcases bt (rt (101 - 1) t) with Hhb8 | Hhb8
  ·refine wp_callg (f := 34) (args := #[(nv k tx n (.slice a N c) at_), (.int .i64 1)]) rfl (by kernel_rfl) (enter_go rfl (by kernel_rfl) (fun w => by go_simp)) ?_
   have HCA := hid (rright_any t 1 w6 _ (by decide) (by decide) HOK.out HN.out)
   refine HCA.out.mono ?_
   rintro e w9 ⟨he, hq⟩
   rw [Hhb8.out] at he
   subst he
   refine ⟨_, rfl, ?_⟩
   have HB10 := hid hq
   clear hq
   replace K2 := ka HB10 K2
   replace HN := hid (HN.out.later HB10.out)
   replace HB0 := kb HB0 HB10
   try simp only [nA, nB, nC]
   refine qv (.bool true) ?_
   refine qv (.bool true) ?_
   simp only [nA, nB, nC]
   refine we ?_
   go_wp2_with fail
   go_ret
   exact ⟨by rw [Hhb5.out, show rt 100 t = true from Hhb8.out]; rfl, HB0.out⟩
  ·refine wp_callg (f := 34) (args := #[(nv k tx n (.slice a N c) at_), (.int .i64 1)]) rfl (by kernel_rfl) (enter_go rfl (by kernel_rfl) (fun w => by go_simp)) ?_
   have HCA := hid (rright_any t 1 w6 _ (by decide) (by decide) HOK.out HN.out)
   refine HCA.out.mono ?_
   rintro e w11 ⟨he, hq⟩
   rw [Hhb8.out] at he
   subst he
   refine ⟨_, rfl, ?_⟩
   have HB12 := hid hq
   clear hq
   replace K2 := ka HB12 K2
   replace HN := hid (HN.out.later HB12.out)
   replace HB0 := kb HB0 HB12
   try simp only [nA, nB, nC]
   refine qv (.bool false) ?_
   refine qv (.bool false) ?_
   simp only [nA, nB, nC]
   refine we ?_
   go_wp2_with fail
   go_ret
   exact ⟨by rw [Hhb5.out, show rt 100 t = false from Hhb8.out]; rfl, HB0.out⟩
 ·refine wp_call (f := 20) (args := #[(nv k tx n (.slice a N c) at_)]) (by kernel_rfl) (fun w => by go_simp) ?_
  have HCA := hid (small_any HN.out)
  refine HCA.out.mono ?_
  rintro e w13 ⟨he, hq⟩
  rw [Hhb5.out] at he
  subst he
  refine ⟨_, rfl, ?_⟩
  have HB14 := hid hq
  clear hq
  replace K2 := ka HB14 K2
  replace HN := hid (HN.out.later HB14.out)
  replace HB0 := kb HB0 HB14
  try simp only [Act.put, nA, nB, nC]
  refine qv (.bool false) ?_
  simp only [nA, nB, nC]
  refine we ?_
  go_upto_region 2 with fail
  refine rl ?_
  refine qv (.bool false) ?_
  refine qv (.bool false) ?_
  simp only [nA, nB, nC]
  refine qs rfl ?_
  simp only [nA, nB, nC]
  refine qs rfl ?_
  simp only [nA, nB, nC]
  refine qv (.bool false) ?_
  refine qv (.bool false) ?_
  simp only [nA, nB, nC]
  refine we ?_
  go_wp2_with fail
  go_ret
  exact ⟨by rw [Hhb5.out, Bool.and_false]; rfl, HB0.out⟩
seal wpList in
theorem isBare_any {w : World} {p : Nat} {m : Int} {v : Value} {k : Int} {tx : List UInt8} {n : Int} {kids : List Tr} {at_ : Int} (hm : Mkr w p m) (h0 : 0 ≤ m) (h1 : m ≤ 8192) (hn : Nd w v (.mk k tx n kids at_)) (ht : tx.length ≤ 9223372036854775807) (kd : Int) : Calls Tryz.prog 46 #[.pointer (some ⟨p, 0, none⟩), v, .int .i64 kd] w fun e w' => e = .returned (.bool ((decide (0 ≤ m - 1) && nmd kd k tx n) && (((kids.length : Nat) : Int) == (0 : Int)))) ∧ Fr [p] w w' ∧ Mkr w' p (m - 1) := by
 have HM := hid hm
 have HM0 := hid h0
 have HM1 := hid h1
 have HN := hid hn
 have HT := hid ht
 obtain ⟨a, c, rfl, -, -⟩ := hn.open
 clear hm h0 h1 hn ht
 obtain ⟨N, hN⟩ : ∃ N, kids.length = N := ⟨_, rfl⟩
 rw [hN] at HN ⊢
 clear hN
 have HF0 : Hid (Fr [p] w w) := hid (Fr.of_below (Below.refl w.heap.size w))
 go_enter Tryz.func46, Tryz.ntmps46
 go_upto_region 0 with fail
 refine rl ?_
 obtain ⟨w3, g1, (HX : Hid _), (K2 : Hid _), (HB4 : Hid _)⟩ := box_x 24 w #[(.int .i64 k), (strV tx), (.int .i64 n), (.slice a N c), (.int .i64 at_)]
 refine wp_run (v := (.pointer (some ⟨g1, 0, none⟩))) rfl rfl (run_boxOp rfl (by kernel_rfl) HX.out) rfl ?_
 try simp only [nA, nB, nC]
 replace HF0 := kf HF0 HB4
 replace HM := ka HB4 HM
 replace HN := hid (HN.out.later HB4.out)
 refine qv (.bool false) ?_
 simp only [nA, nB, nC]
 refine we ?_
 go_upto_region 1 with fail
 refine rl ?_
 refine qv (.pointer (some ⟨p, 0, none⟩)) ?_
 refine qk (nv k tx n (.slice a N c) at_) Tryz.isAgg24 K2 ?_
 refine qv (.int .i64 kd) ?_
 simp only [nA, nB, nC]
 rcases bt (decide (0 ≤ m - 1) && nmd kd k tx n) with Hhb5 | Hhb5
 ·refine wp_call (f := 45) (args := #[(.pointer (some ⟨p, 0, none⟩)), (nv k tx n (.slice a N c) at_), (.int .i64 kd)]) (by kernel_rfl) (fun w => by go_simp) ?_
  have HCA := hid (isNamed_any HM.out HM0.out HM1.out HN.out HT.out kd)
  refine HCA.out.mono ?_
  rintro e w6 ⟨he, hF, hm⟩
  rw [Hhb5.out] at he
  subst he
  refine ⟨_, rfl, ?_⟩
  have HFF := hid hF
  clear hF
  replace K2 := hid (Fr.at HFF.out K2.out (not_mkr K2.out HM.out (by decide)))
  replace HF0 := hid (HF0.out.trans HFF.out (by simp))
  replace HM := hid hm
  clear hm HFF HN
  try simp only [Act.put, nA, nB, nC]
  refine qv (.bool true) ?_
  simp only [nA, nB, nC]
  refine wp_yg (v := (.pointer (some ⟨g1, 3, none⟩))) rfl (y_faddr rfl (hf := fa_api_Node_3 g1 0)) rfl ?_
  try simp only [nA, nB, nC]
  refine wp_yg (v := (.slice a N c)) rfl (y_load rfl (hl := fun w' h => by rw [h]; exact load1 Tryz.isAgg22 (cell_at K2.out 3 rfl))) rfl ?_
  try simp only [nA, nB, nC]
  refine wp_yg (v := (.int .i64 (((N : Nat) : Int)))) rfl (y_lenT len_Sapi_Node (p := a) (n := N) (c := c) rfl (by kernel_rfl) (by kernel_rfl)) rfl ?_
  try simp only [nA, nB, nC]
  rcases bt ((((N : Nat) : Int) == (0 : Int))) with Hhb7 | Hhb7
  ·refine wp_yg (v := (.bool true)) rfl (y_bin (k := .i64) (k' := .i64) (m := ((N : Nat) : Int)) (n := 0) rfl (hr := beql_int ((N : Nat) : Int) 0 true Hhb7.out)) rfl ?_
   try simp only [nA, nB, nC]
   refine qv (.bool true) ?_
   refine qv (.bool true) ?_
   simp only [nA, nB, nC]
   refine we ?_
   go_wp2_with fail
   go_ret
   exact ⟨by rw [Hhb5.out, Hhb7.out]; rfl, HF0.out, HM.out⟩
  ·refine wp_yg (v := (.bool false)) rfl (y_bin (k := .i64) (k' := .i64) (m := ((N : Nat) : Int)) (n := 0) rfl (hr := beql_int ((N : Nat) : Int) 0 false Hhb7.out)) rfl ?_
   try simp only [nA, nB, nC]
   refine qv (.bool false) ?_
   refine qv (.bool false) ?_
   simp only [nA, nB, nC]
   refine we ?_
   go_wp2_with fail
   go_ret
   exact ⟨by rw [Hhb5.out, Hhb7.out]; rfl, HF0.out, HM.out⟩
 ·refine wp_call (f := 45) (args := #[(.pointer (some ⟨p, 0, none⟩)), (nv k tx n (.slice a N c) at_), (.int .i64 kd)]) (by kernel_rfl) (fun w => by go_simp) ?_
  have HCA := hid (isNamed_any HM.out HM0.out HM1.out HN.out HT.out kd)
  refine HCA.out.mono ?_
  rintro e w8 ⟨he, hF, hm⟩
  rw [Hhb5.out] at he
  subst he
  refine ⟨_, rfl, ?_⟩
  have HFF := hid hF
  clear hF
  replace K2 := hid (Fr.at HFF.out K2.out (not_mkr K2.out HM.out (by decide)))
  replace HF0 := hid (HF0.out.trans HFF.out (by simp))
  replace HM := hid hm
  clear hm HFF HN
  try simp only [Act.put, nA, nB, nC]
  refine qv (.bool false) ?_
  simp only [nA, nB, nC]
  refine qs rfl ?_
  simp only [nA, nB, nC]
  refine qs rfl ?_
  simp only [nA, nB, nC]
  refine qs rfl ?_
  simp only [nA, nB, nC]
  refine qs rfl ?_
  simp only [nA, nB, nC]
  refine qv (.bool false) ?_
  refine qv (.bool false) ?_
  simp only [nA, nB, nC]
  refine we ?_
  go_wp2_with fail
  go_ret
  exact ⟨by rw [Hhb5.out]; rfl, HF0.out, HM.out⟩
seal wpList in
theorem rbare_any {w : World} {v : Value} {k : Int} {tx : List UInt8} {n : Int} {kids : List Tr} {at_ : Int} (hn : Nd w v (.mk k tx n kids at_)) (ht : tx.length ≤ 9223372036854775807) (kd : Int) : Calls Tryz.prog 32 #[v, .int .i64 kd] w fun e w' => e = .returned (.bool ((k == kd) && fre tx && (n == (0 : Int)) && (((kids.length : Nat) : Int) == (0 : Int)))) ∧ Below w.heap.size w w' := by
 have HT := hid ht
 obtain ⟨a, c, rfl, -, -⟩ := hn.open
 clear hn ht
 generalize kids.length = N
 have HB0 := hid (Below.refl w.heap.size w)
 go_enter Tryz.func32, Tryz.ntmps32
 go_upto_region 0 with fail
 refine rl ?_
 obtain ⟨w3, g1, (HX : Hid _), (K2 : Hid _), (HB4 : Hid _)⟩ := box_x 24 w #[(.int .i64 k), (strV tx), (.int .i64 n), (.slice a N c), (.int .i64 at_)]
 refine wp_run (v := (.pointer (some ⟨g1, 0, none⟩))) rfl rfl (run_boxOp rfl (by kernel_rfl) HX.out) rfl ?_
 try simp only [nA, nB, nC]
 replace HB0 := kb HB0 HB4
 refine qv (.bool false) ?_
 simp only [nA, nB, nC]
 refine we ?_
 go_upto_region 1 with fail
 refine rl ?_
 refine qf (fa_api_Node_1 g1 0) ?_
 refine ql (strV tx) Tryz.isAgg9 1 K2 ?_
 simp only [nA, nB, nC]
 rcases bt (fre tx) with Hhb5 | Hhb5
 ·refine wp_call (f := 31) (args := #[(strV tx)]) (by kernel_rfl) (fun w => by go_simp) ?_
  have HCA := hid (near_any tx w3 HT.out)
  refine HCA.out.mono ?_
  rintro e w6 ⟨he, hq⟩
  rw [Hhb5.out] at he
  subst he
  refine ⟨_, rfl, ?_⟩
  have HB7 := hid hq
  clear hq
  replace K2 := ka HB7 K2
  replace HB0 := kb HB0 HB7
  try simp only [Act.put, nA, nB, nC]
  refine qv (.bool true) ?_
  simp only [nA, nB, nC]
  refine we ?_
  go_upto_region 2 with fail
  refine rl ?_
  refine qf (fa_api_Node_0 g1 0) ?_
  refine ql (.int .i64 k) Tryz.isAgg3 0 K2 ?_
  refine qv (.int .i64 kd) ?_
  simp only [nA, nB, nC]
  rcases bt ((k == kd)) with Hhb8 | Hhb8
  ·refine wp_y (v := (.bool true)) rfl rfl (y_bin (k := .i64) (k' := .i64) (m := k) (n := kd) rfl (hr := beql_int k kd true Hhb8.out)) rfl ?_
   try simp only [nA, nB, nC]
   refine qv (.bool true) ?_
   simp only [nA, nB, nC]
   refine qg (.bool true) rfl ?_
   simp only [nA, nB, nC]
   refine qv (.bool true) ?_
   refine qv (.bool true) ?_
   simp only [nA, nB, nC]
   refine wp_yg (v := (.pointer (some ⟨g1, 2, none⟩))) rfl (y_faddr rfl (hf := fa_api_Node_2 g1 0)) rfl ?_
   try simp only [nA, nB, nC]
   refine wp_yg (v := (.int .i64 n)) rfl (y_load rfl (hl := fun w' h => by rw [h]; exact load1 Tryz.isAgg2 (cell_at K2.out 2 rfl))) rfl ?_
   try simp only [nA, nB, nC]
   rcases bt ((n == (0 : Int))) with Hhb9 | Hhb9
   ·refine wp_yg (v := (.bool true)) rfl (y_bin (k := .i64) (k' := .i64) (m := n) (n := 0) rfl (hr := beql_int64 n 0 true Hhb9.out)) rfl ?_
    try simp only [nA, nB, nC]
    refine qv (.bool true) ?_
    refine qv (.bool true) ?_
    simp only [nA, nB, nC]
    refine wp_yg (v := (.pointer (some ⟨g1, 3, none⟩))) rfl (y_faddr rfl (hf := fa_api_Node_3 g1 0)) rfl ?_
    try simp only [nA, nB, nC]
    refine wp_yg (v := (.slice a N c)) rfl (y_load rfl (hl := fun w' h => by rw [h]; exact load1 Tryz.isAgg22 (cell_at K2.out 3 rfl))) rfl ?_
    try simp only [nA, nB, nC]
    refine wp_yg (v := (.int .i64 (((N : Nat) : Int)))) rfl (y_lenT len_Sapi_Node (p := a) (n := N) (c := c) rfl (by kernel_rfl) (by kernel_rfl)) rfl ?_
    try simp only [nA, nB, nC]
    rcases bt ((((N : Nat) : Int) == (0 : Int))) with Hhb10 | Hhb10
    ·refine wp_yg (v := (.bool true)) rfl (y_bin (k := .i64) (k' := .i64) (m := ((N : Nat) : Int)) (n := 0) rfl (hr := beql_int ((N : Nat) : Int) 0 true Hhb10.out)) rfl ?_
     try simp only [nA, nB, nC]
     refine qv (.bool true) ?_
     refine qv (.bool true) ?_
     simp only [nA, nB, nC]
     refine we ?_
     go_wp2_with fail
     go_ret
     exact ⟨by simp only [Hhb8.out, Hhb5.out, Hhb9.out, Hhb10.out, Bool.and_true]; rfl, HB0.out⟩
    ·refine wp_yg (v := (.bool false)) rfl (y_bin (k := .i64) (k' := .i64) (m := ((N : Nat) : Int)) (n := 0) rfl (hr := beql_int ((N : Nat) : Int) 0 false Hhb10.out)) rfl ?_
     try simp only [nA, nB, nC]
     refine qv (.bool false) ?_
     refine qv (.bool false) ?_
     simp only [nA, nB, nC]
     refine we ?_
     go_wp2_with fail
     go_ret
     exact ⟨by simp only [Hhb8.out, Hhb5.out, Hhb9.out, Hhb10.out, Bool.and_true, Bool.and_false]; rfl, HB0.out⟩
   ·refine wp_yg (v := (.bool false)) rfl (y_bin (k := .i64) (k' := .i64) (m := n) (n := 0) rfl (hr := beql_int64 n 0 false Hhb9.out)) rfl ?_
    try simp only [nA, nB, nC]
    refine qv (.bool false) ?_
    refine qv (.bool false) ?_
    simp only [nA, nB, nC]
    refine qs rfl ?_
    simp only [nA, nB, nC]
    refine qs rfl ?_
    simp only [nA, nB, nC]
    refine qs rfl ?_
    simp only [nA, nB, nC]
    refine qs rfl ?_
    simp only [nA, nB, nC]
    refine qv (.bool false) ?_
    refine qv (.bool false) ?_
    simp only [nA, nB, nC]
    refine we ?_
    go_wp2_with fail
    go_ret
    exact ⟨by simp only [Hhb8.out, Hhb5.out, Hhb9.out, Bool.and_true, Bool.and_false, Bool.false_and]; rfl, HB0.out⟩
  ·refine wp_y (v := (.bool false)) rfl rfl (y_bin (k := .i64) (k' := .i64) (m := k) (n := kd) rfl (hr := beql_int k kd false Hhb8.out)) rfl ?_
   try simp only [nA, nB, nC]
   refine qv (.bool false) ?_
   simp only [nA, nB, nC]
   refine qs rfl ?_
   simp only [nA, nB, nC]
   refine qv (.bool false) ?_
   refine qv (.bool false) ?_
   simp only [nA, nB, nC]
   refine qs rfl ?_
   simp only [nA, nB, nC]
   refine qs rfl ?_
   simp only [nA, nB, nC]
   refine qs rfl ?_
   simp only [nA, nB, nC]
   refine qv (.bool false) ?_
   refine qv (.bool false) ?_
   simp only [nA, nB, nC]
   refine qs rfl ?_
   simp only [nA, nB, nC]
   refine qs rfl ?_
   simp only [nA, nB, nC]
   refine qs rfl ?_
   simp only [nA, nB, nC]
   refine qs rfl ?_
   simp only [nA, nB, nC]
   refine qv (.bool false) ?_
   refine qv (.bool false) ?_
   simp only [nA, nB, nC]
   refine we ?_
   go_wp2_with fail
   go_ret
   exact ⟨by simp only [Hhb8.out, Hhb5.out, Bool.and_true, Bool.false_and]; rfl, HB0.out⟩
 ·refine wp_call (f := 31) (args := #[(strV tx)]) (by kernel_rfl) (fun w => by go_simp) ?_
  have HCA := hid (near_any tx w3 HT.out)
  refine HCA.out.mono ?_
  rintro e w11 ⟨he, hq⟩
  rw [Hhb5.out] at he
  subst he
  refine ⟨_, rfl, ?_⟩
  have HB12 := hid hq
  clear hq
  replace K2 := ka HB12 K2
  replace HB0 := kb HB0 HB12
  try simp only [Act.put, nA, nB, nC]
  refine qv (.bool false) ?_
  simp only [nA, nB, nC]
  refine we ?_
  go_upto_region 2 with fail
  refine rl ?_
  refine qf (fa_api_Node_0 g1 0) ?_
  refine ql (.int .i64 k) Tryz.isAgg3 0 K2 ?_
  refine qv (.int .i64 kd) ?_
  simp only [nA, nB, nC]
  rcases bt ((k == kd)) with Hhb13 | Hhb13
  ·refine wp_y (v := (.bool true)) rfl rfl (y_bin (k := .i64) (k' := .i64) (m := k) (n := kd) rfl (hr := beql_int k kd true Hhb13.out)) rfl ?_
   try simp only [nA, nB, nC]
   refine qv (.bool true) ?_
   simp only [nA, nB, nC]
   refine qg (.bool false) rfl ?_
   simp only [nA, nB, nC]
   refine qv (.bool false) ?_
   refine qv (.bool false) ?_
   simp only [nA, nB, nC]
   refine qs rfl ?_
   simp only [nA, nB, nC]
   refine qs rfl ?_
   simp only [nA, nB, nC]
   refine qs rfl ?_
   simp only [nA, nB, nC]
   refine qv (.bool false) ?_
   refine qv (.bool false) ?_
   simp only [nA, nB, nC]
   refine qs rfl ?_
   simp only [nA, nB, nC]
   refine qs rfl ?_
   simp only [nA, nB, nC]
   refine qs rfl ?_
   simp only [nA, nB, nC]
   refine qs rfl ?_
   simp only [nA, nB, nC]
   refine qv (.bool false) ?_
   refine qv (.bool false) ?_
   simp only [nA, nB, nC]
   refine we ?_
   go_wp2_with fail
   go_ret
   exact ⟨by simp only [Hhb13.out, Hhb5.out, Bool.and_false, Bool.false_and]; rfl, HB0.out⟩
  ·refine wp_y (v := (.bool false)) rfl rfl (y_bin (k := .i64) (k' := .i64) (m := k) (n := kd) rfl (hr := beql_int k kd false Hhb13.out)) rfl ?_
   try simp only [nA, nB, nC]
   refine qv (.bool false) ?_
   simp only [nA, nB, nC]
   refine qs rfl ?_
   simp only [nA, nB, nC]
   refine qv (.bool false) ?_
   refine qv (.bool false) ?_
   simp only [nA, nB, nC]
   refine qs rfl ?_
   simp only [nA, nB, nC]
   refine qs rfl ?_
   simp only [nA, nB, nC]
   refine qs rfl ?_
   simp only [nA, nB, nC]
   refine qv (.bool false) ?_
   refine qv (.bool false) ?_
   simp only [nA, nB, nC]
   refine qs rfl ?_
   simp only [nA, nB, nC]
   refine qs rfl ?_
   simp only [nA, nB, nC]
   refine qs rfl ?_
   simp only [nA, nB, nC]
   refine qs rfl ?_
   simp only [nA, nB, nC]
   refine qv (.bool false) ?_
   refine qv (.bool false) ?_
   simp only [nA, nB, nC]
   refine we ?_
   go_wp2_with fail
   go_ret
   exact ⟨by simp only [Hhb13.out, Hhb5.out, Bool.and_false, Bool.false_and]; rfl, HB0.out⟩
def brT (kd : Int) : Tr → Bool
 | .mk k tx n ks _ => (k == kd) && fre tx && (n == (0 : Int)) && (((ks.length : Nat) : Int) == (0 : Int))
def rxT (t : Tr) : Bool := rt 100 t && sml t
def letR : Tr → Bool
 | .mk k tx n ks _ => (k == 3) && fre tx && (n == (0 : Int)) && (decide (1 ≤ ks.length) && decide (ks.length ≤ 9)) && ((ks.take (ks.length - 1)).all (brT 4) && (ks[ks.length - 1]?.map rxT).getD false)
seal wpList in
theorem rlet_any {k : Int} {tx : List UInt8} {n : Int} {kids : List Tr} {at_ : Int} {w : World} {v : Value} (hok : Tr.Ok (.mk k tx n kids at_)) (hnd : Nd w v (.mk k tx n kids at_)) : Calls Tryz.prog 33 #[v] w fun e w' => e = .returned (.bool (letR (.mk k tx n kids at_))) ∧ Below w.heap.size w w' := by
 have HOK := hid hok
 have HT := hid hok.text
 have HN0 := hid hnd
 have HB0 := hid (Below.refl w.heap.size w)
 obtain ⟨a, c, rfl, -, -⟩ := hnd.open
 clear hok hnd
 obtain ⟨N, hN⟩ : ∃ N, kids.length = N := ⟨_, rfl⟩
 rw [hN] at HN0 ⊢
 have HNN := hid hN
 clear hN
 obtain ⟨Z, hZ⟩ : ∃ Z, letR (.mk k tx n kids at_) = Z := ⟨_, rfl⟩
 rw [hZ]
 have HZ0 := hid hZ
 clear hZ
 go_enter Tryz.func33, Tryz.ntmps33
 go_upto_region 0 with fail
 refine rl ?_
 obtain ⟨w3, g1, (HX : Hid _), (K2 : Hid _), (HB4 : Hid _)⟩ := box_x 24 w #[(.int .i64 k), (strV tx), (.int .i64 n), (.slice a N c), (.int .i64 at_)]
 refine wp_run (v := (.pointer (some ⟨g1, 0, none⟩))) rfl rfl (run_boxOp rfl (by kernel_rfl) HX.out) rfl ?_
 try simp only [nA, nB, nC]
 replace HB0 := kb HB0 HB4
 refine qv (.bool false) ?_
 simp only [nA, nB, nC]
 refine we ?_
 go_upto_region 1 with fail
 refine rl ?_
 refine qf (fa_api_Node_1 g1 0) ?_
 refine ql (strV tx) Tryz.isAgg9 1 K2 ?_
 simp only [nA, nB, nC]
 rcases bt (fre tx) with Hhb5 | Hhb5
 ·refine wp_call (f := 31) (args := #[(strV tx)]) (by kernel_rfl) (fun w => by go_simp) ?_
  have HCA := hid (near_any tx w3 HT.out)
  refine HCA.out.mono ?_
  rintro e w6 ⟨he, hq⟩
  rw [Hhb5.out] at he
  subst he
  refine ⟨_, rfl, ?_⟩
  have HB7 := hid hq
  clear hq
  replace K2 := ka HB7 K2
  replace HB0 := kb HB0 HB7
  try simp only [Act.put, nA, nB, nC]
  refine qv (.bool true) ?_
  simp only [nA, nB, nC]
  refine we ?_
  go_upto_region 2 with fail
  refine rl ?_
  refine qf (fa_api_Node_0 g1 0) ?_
  refine ql (.int .i64 k) Tryz.isAgg3 0 K2 ?_
  simp only [nA, nB, nC]
  rcases bt ((k != (3 : Int))) with Hhb8 | Hhb8
  ·refine wp_y (v := (.bool true)) rfl rfl (y_bin (k := .i64) (k' := .i64) (m := k) (n := 3) rfl (hr := bneq_int k 3 true Hhb8.out)) rfl ?_
   try simp only [nA, nB, nC]
   refine qv (.bool true) ?_
   simp only [nA, nB, nC]
   refine qs rfl ?_
   simp only [nA, nB, nC]
   refine qs rfl ?_
   simp only [nA, nB, nC]
   refine qv (.bool true) ?_
   refine qv (.bool true) ?_
   simp only [nA, nB, nC]
   refine qs rfl ?_
   simp only [nA, nB, nC]
   refine qs rfl ?_
   simp only [nA, nB, nC]
   refine qs rfl ?_
   simp only [nA, nB, nC]
   refine qv (.bool true) ?_
   refine qv (.bool true) ?_
   simp only [nA, nB, nC]
   refine qs rfl ?_
   simp only [nA, nB, nC]
   refine qs rfl ?_
   simp only [nA, nB, nC]
   refine qs rfl ?_
   simp only [nA, nB, nC]
   refine qs rfl ?_
   simp only [nA, nB, nC]
   refine qv (.bool true) ?_
   refine qv (.bool true) ?_
   simp only [nA, nB, nC]
   refine qs rfl ?_
   simp only [nA, nB, nC]
   refine qs rfl ?_
   simp only [nA, nB, nC]
   refine qs rfl ?_
   simp only [nA, nB, nC]
   refine qs rfl ?_
   simp only [nA, nB, nC]
   refine qv (.bool true) ?_
   simp only [nA, nB, nC]
   refine we ?_
   go_upto_region 3 with fail
   refine rl ?_
   refine qv (.bool false) ?_
   simp only [nA, nB, nC]
   refine we ?_
   go_wp2_with fail
   go_ret
   have HZ : Z = false := by rw [← HZ0.out, letR, HNN.out, show (k == 3) = false by have h9 := Hhb8.out; simpa using h9]; simp
   exact ⟨congrArg (fun b => Ending.returned (.bool b)) HZ.symm, HB0.out⟩
  ·refine wp_y (v := (.bool false)) rfl rfl (y_bin (k := .i64) (k' := .i64) (m := k) (n := 3) rfl (hr := bneq_int k 3 false Hhb8.out)) rfl ?_
   try simp only [nA, nB, nC]
   refine qv (.bool false) ?_
   simp only [nA, nB, nC]
   refine qg (.bool true) rfl ?_
   simp only [nA, nB, nC]
   refine wp_yg (v := (.bool false)) rfl (y_un (p := .bool true) rfl (by kernel_rfl) (by kernel_rfl) (fun w => qnotB true w)) rfl ?_
   try simp only [nA, nB, nC]
   refine qv (.bool false) ?_
   refine qv (.bool false) ?_
   simp only [nA, nB, nC]
   refine wp_yg (v := (.pointer (some ⟨g1, 2, none⟩))) rfl (y_faddr rfl (hf := fa_api_Node_2 g1 0)) rfl ?_
   try simp only [nA, nB, nC]
   refine wp_yg (v := (.int .i64 n)) rfl (y_load rfl (hl := fun w' h => by rw [h]; exact load1 Tryz.isAgg2 (cell_at K2.out 2 rfl))) rfl ?_
   try simp only [nA, nB, nC]
   rcases bt ((n != (0 : Int))) with Hhb9 | Hhb9
   ·refine wp_yg (v := (.bool true)) rfl (y_bin (k := .i64) (k' := .i64) (m := n) (n := 0) rfl (hr := bneq_int64 n 0 true Hhb9.out)) rfl ?_
    try simp only [nA, nB, nC]
    refine qv (.bool true) ?_
    refine qv (.bool true) ?_
    simp only [nA, nB, nC]
    refine qs rfl ?_
    simp only [nA, nB, nC]
    refine qs rfl ?_
    simp only [nA, nB, nC]
    refine qs rfl ?_
    simp only [nA, nB, nC]
    refine qs rfl ?_
    simp only [nA, nB, nC]
    refine qv (.bool true) ?_
    refine qv (.bool true) ?_
    simp only [nA, nB, nC]
    refine qs rfl ?_
    simp only [nA, nB, nC]
    refine qs rfl ?_
    simp only [nA, nB, nC]
    refine qs rfl ?_
    simp only [nA, nB, nC]
    refine qs rfl ?_
    simp only [nA, nB, nC]
    refine qv (.bool true) ?_
    simp only [nA, nB, nC]
    refine we ?_
    go_upto_region 3 with fail
    refine rl ?_
    refine qv (.bool false) ?_
    simp only [nA, nB, nC]
    refine we ?_
    go_wp2_with fail
    go_ret
    have HZ : Z = false := by rw [← HZ0.out, letR, HNN.out, show (n == (0 : Int)) = false by have h9 := Hhb9.out; simpa using h9]; simp
    exact ⟨congrArg (fun b => Ending.returned (.bool b)) HZ.symm, HB0.out⟩
   ·refine wp_yg (v := (.bool false)) rfl (y_bin (k := .i64) (k' := .i64) (m := n) (n := 0) rfl (hr := bneq_int64 n 0 false Hhb9.out)) rfl ?_
    try simp only [nA, nB, nC]
    refine qv (.bool false) ?_
    refine qv (.bool false) ?_
    simp only [nA, nB, nC]
    refine wp_yg (v := (.pointer (some ⟨g1, 3, none⟩))) rfl (y_faddr rfl (hf := fa_api_Node_3 g1 0)) rfl ?_
    try simp only [nA, nB, nC]
    refine wp_yg (v := (.slice a N c)) rfl (y_load rfl (hl := fun w' h => by rw [h]; exact load1 Tryz.isAgg22 (cell_at K2.out 3 rfl))) rfl ?_
    try simp only [nA, nB, nC]
    refine wp_yg (v := (.int .i64 (((N : Nat) : Int)))) rfl (y_lenT len_Sapi_Node (p := a) (n := N) (c := c) rfl (by kernel_rfl) (by kernel_rfl)) rfl ?_
    try simp only [nA, nB, nC]
    rcases bt (decide (((N : Nat) : Int) < (1 : Int))) with Hhb10 | Hhb10
    ·refine wp_yg (v := (.bool true)) rfl (y_bin (k := .i64) (k' := .i64) (m := ((N : Nat) : Int)) (n := 1) rfl (hr := blss_int ((N : Nat) : Int) 1 true Hhb10.out)) rfl ?_
     try simp only [nA, nB, nC]
     refine qv (.bool true) ?_
     refine qv (.bool true) ?_
     simp only [nA, nB, nC]
     refine qs rfl ?_
     simp only [nA, nB, nC]
     refine qs rfl ?_
     simp only [nA, nB, nC]
     refine qs rfl ?_
     simp only [nA, nB, nC]
     refine qs rfl ?_
     simp only [nA, nB, nC]
     refine qv (.bool true) ?_
     simp only [nA, nB, nC]
     refine we ?_
     go_upto_region 3 with fail
     refine rl ?_
     refine qv (.bool false) ?_
     simp only [nA, nB, nC]
     refine we ?_
     go_wp2_with fail
     go_ret
     have HZ : Z = false := by rw [← HZ0.out, letR, HNN.out, decide_eq_false (show ¬ 1 ≤ N by have h9 := of_decide_eq_true Hhb10.out; omega)]; simp
     exact ⟨congrArg (fun b => Ending.returned (.bool b)) HZ.symm, HB0.out⟩
    ·refine wp_yg (v := (.bool false)) rfl (y_bin (k := .i64) (k' := .i64) (m := ((N : Nat) : Int)) (n := 1) rfl (hr := blss_int ((N : Nat) : Int) 1 false Hhb10.out)) rfl ?_
     try simp only [nA, nB, nC]
     refine qv (.bool false) ?_
     refine qv (.bool false) ?_
     simp only [nA, nB, nC]
     refine wp_yg (v := (.pointer (some ⟨g1, 3, none⟩))) rfl (y_faddr rfl (hf := fa_api_Node_3 g1 0)) rfl ?_
     try simp only [nA, nB, nC]
     refine wp_yg (v := (.slice a N c)) rfl (y_load rfl (hl := fun w' h => by rw [h]; exact load1 Tryz.isAgg22 (cell_at K2.out 3 rfl))) rfl ?_
     try simp only [nA, nB, nC]
     refine wp_yg (v := (.int .i64 (((N : Nat) : Int)))) rfl (y_lenT len_Sapi_Node (p := a) (n := N) (c := c) rfl (by kernel_rfl) (by kernel_rfl)) rfl ?_
     try simp only [nA, nB, nC]
     rcases bt (decide ((9 : Int) < ((N : Nat) : Int))) with Hhb11 | Hhb11
     ·refine wp_yg (v := (.bool true)) rfl (y_bin (k := .i64) (k' := .i64) (m := ((N : Nat) : Int)) (n := 9) rfl (hr := bgtr_int ((N : Nat) : Int) 9 true Hhb11.out)) rfl ?_
      try simp only [nA, nB, nC]
      refine qv (.bool true) ?_
      simp only [nA, nB, nC]
      refine we ?_
      go_upto_region 3 with fail
      refine rl ?_
      refine qv (.bool false) ?_
      simp only [nA, nB, nC]
      refine we ?_
      go_wp2_with fail
      go_ret
      have HZ : Z = false := by rw [← HZ0.out, letR, HNN.out, decide_eq_false (show ¬ N ≤ 9 by have h9 := of_decide_eq_true Hhb11.out; omega)]; simp
      exact ⟨congrArg (fun b => Ending.returned (.bool b)) HZ.symm, HB0.out⟩
     ·refine wp_yg (v := (.bool false)) rfl (y_bin (k := .i64) (k' := .i64) (m := ((N : Nat) : Int)) (n := 9) rfl (hr := bgtr_int ((N : Nat) : Int) 9 false Hhb11.out)) rfl ?_
      try simp only [nA, nB, nC]
      refine qv (.bool false) ?_
      simp only [nA, nB, nC]
      refine we ?_
      go_upto_region 4 with fail
      obtain ⟨L, hL⟩ : ∃ L, N = L + 1 := ⟨N - 1, by have h9 := of_decide_eq_false Hhb10.out; omega⟩
      have HNL := hid hL
      have HN9 : Hid (N ≤ 9) := hid (by have h9 := of_decide_eq_false Hhb11.out; omega)
      have HSL : Hid (IntKind.i64.wrap (((N : Nat) : Int) - 1) = ((L : Nat) : Int)) := hid (by have := HN9.out; rw [IntWalk.i64_in _ ⟨by omega, by omega⟩]; omega)
      have HZE : Hid (Z = ((kids.take L).all (brT 4) && (kids[L]?.map rxT).getD false)) := hid (by rw [← HZ0.out, letR, HNN.out, show N - 1 = L by omega, Hhb5.out, decide_eq_true (show 1 ≤ N by omega), decide_eq_true HN9.out, show (k == 3) = true by have h9 := Hhb8.out; simpa using h9, show (n == (0 : Int)) = true by have h9 := Hhb9.out; simpa using h9]; rfl)
      clear hL
      refine rl ?_
      refine qf (fa_api_Node_3 g1 0) ?_
      refine ql (.slice a N c) Tryz.isAgg22 3 K2 ?_
      simp only [nA, nB, nC]
      refine wp_y (v := (.int .i64 (((N : Nat) : Int)))) rfl rfl (y_lenT len_Sapi_Node (p := a) (n := N) (c := c) rfl (by kernel_rfl) (by kernel_rfl)) rfl ?_
      simp only [nA, nB, nC]
      refine qb (bsub_int ((N : Nat) : Int) 1 ((L : Nat) : Int) HSL.out) ?_
      refine qv (.int .i64 (((L : Nat) : Int))) ?_
      simp only [nA, nB, nC]
      refine we ?_
      go_upto_region 5 with fail
      refine rl ?_
      refine qv (.int .i64 0) ?_
      simp only [nA, nB, nC]
      refine we ?_
      go_wp2_with fail
      go_loopw [5] (fun v5 wr => ∃ j : Nat, j ≤ L ∧ v5 = .int .i64 j ∧ (kids.take j).all (brT 4) = true ∧ Below w.heap.size w wr ∧ wr.heap[g1]? = some (.cells #[.int .i64 k, strV tx, .int .i64 n, .slice a N c, .int .i64 at_] 24 (0, 0))) (fun v5 _ => L - (intOf v5).toNat)
      case atStart =>
       exact ⟨0, Nat.zero_le _, rfl, by simp, HB0.out, K2.out⟩
      case round =>
       obtain ⟨j, hj, rfl, hal, hB, hk⟩ := hrel
       clear HB0
       have HAL := hid hal
       have HB0 := hid hB
       have KN := hid hk
       have HJJ := hid hj
       clear hal hB hk hj
       go_upto_region 6 with fail
       refine rl ?_
       refine qv (.int .i64 (((j : Nat) : Int))) ?_
       refine qv (.int .i64 (((L : Nat) : Int))) ?_
       simp only [nA, nB, nC]
       rcases bt (decide (((j : Nat) : Int) < ((L : Nat) : Int))) with Hhb12 | Hhb12
       ·have HLT : Hid (j < L) := hid (by have := of_decide_eq_true Hhb12.out; omega)
        have HLN : Hid (j < N) := hid (by have := HLT.out; have := HNL.out; omega)
        have HS1 := hid (wrap_next (N := L) HLT.out (by have := HN9.out; have := HNL.out; omega))
        obtain ⟨t, ht⟩ : ∃ t, kids[j]? = some t := ⟨_, List.getElem?_eq_getElem (by rw [HNN.out]; exact HLN.out)⟩
        obtain ⟨b, o, k', tx', n', ks', at', a', c', rfl, rfl, hcl, hnd⟩ := Nd.kid HN0.out ht
        have HOKK := hid (HOK.out.kid ht)
        have HJ := hid ht
        have HCL := hid (hcl.below HB0.out)
        have HNK := hid (hnd.later HB0.out)
        clear ht hcl hnd
        obtain ⟨N', hN'⟩ : ∃ x, ks'.length = x := ⟨_, rfl⟩
        rw [hN'] at HCL HNK
        clear hN'
        have HBR : Hid (∀ (w : World), Nd w (nv k' tx' n' (.slice a' N' c') at') (.mk k' tx' n' ks' at') → Calls Tryz.prog 32 #[nv k' tx' n' (.slice a' N' c') at', .int .i64 4] w fun e w' => e = .returned (.bool (brT 4 (.mk k' tx' n' ks' at'))) ∧ Below w.heap.size w w') := hid (fun w h => rbare_any h HOKK.out.text 4)
        have HRX : Hid (∀ (w : World), Nd w (nv k' tx' n' (.slice a' N' c') at') (.mk k' tx' n' ks' at') → Calls Tryz.prog 17 #[nv k' tx' n' (.slice a' N' c') at'] w fun e w' => e = .returned (.bool (rxT (.mk k' tx' n' ks' at'))) ∧ Below w.heap.size w w') := hid (fun w h => rrightExpr_any HOKK.out h)
        refine qb (blss_int ((j : Nat) : Int) ((L : Nat) : Int) true Hhb12.out) ?_
        simp only [nA, nB, nC]
        refine we ?_
        go_upto_region 8 with fail
        refine rl ?_
        refine qf (fa_api_Node_3 g1 0) ?_
        refine ql (.slice (some ⟨b, o, none⟩) N c) Tryz.isAgg22 3 KN ?_
        refine qv (.int .i64 (((j : Nat) : Int))) ?_
        simp only [nA, nB, nC]
        refine wp_y (v := (.pointer (some ⟨b, o + j * 5, none⟩))) rfl rfl (y_index (p := (.slice (some ⟨b, o, none⟩) N c)) (k := (.int .i64 (((j : Nat) : Int)))) rfl (by kernel_rfl) (by kernel_rfl) (by kernel_rfl) (idx24 b o N c j HLN.out)) rfl ?_
        simp only [nA, nB, nC]
        refine wp_y (v := (nv k' tx' n' (.slice a' N' c') at')) rfl rfl (y_load rfl (hl := fun w' h => by rw [h]; exact load24 HCL.out)) rfl ?_
        simp only [nA, nB, nC]
        rcases bt (brT 4 (.mk k' tx' n' ks' at')) with Hhb13 | Hhb13
        ·refine wp_call (f := 32) (args := #[(nv k' tx' n' (.slice a' N' c') at'), (.int .i64 4)]) (by kernel_rfl) (fun w => by go_simp) ?_
         have HCA := hid (HBR.out wr HNK.out)
         refine HCA.out.mono ?_
         rintro e w14 ⟨he, hq⟩
         rw [Hhb13.out] at he
         subst he
         refine ⟨_, rfl, ?_⟩
         have HB15 := hid hq
         clear hq
         replace KN := ka HB15 KN
         replace HNK := hid (HNK.out.later HB15.out)
         replace HCL := hid (Cl.below HCL.out HB15.out)
         replace HB0 := kb HB0 HB15
         try simp only [Act.put, nA, nB, nC]
         refine qv (.bool true) ?_
         simp only [nA, nB, nC]
         refine we ?_
         go_upto_region 9 with fail
         refine rl ?_
         refine qv (.bool true) ?_
         simp only [nA, nB, nC]
         refine wp_y (v := (.bool false)) rfl rfl (y_un (p := .bool true) rfl (by kernel_rfl) (by kernel_rfl) (fun w => qnotB true w)) rfl ?_
         simp only [nA, nB, nC]
         refine we ?_
         go_upto_region 7 with fail
         refine rl ?_
         refine qv (.int .i64 (((j : Nat) : Int))) ?_
         refine qb (badd_int ((j : Nat) : Int) 1 ((j + 1 : Nat) : Int) HS1.out) ?_
         refine qv (.int .i64 (((j + 1 : Nat) : Int))) ?_
         simp only [nA, nB, nC]
         refine we ?_
         go_wp2_with fail
         exact ⟨⟨j + 1, HLT.out, rfl, by rw [take_next HJ.out, List.all_append, HAL.out, List.all_cons, Hhb13.out]; rfl, HB0.out, KN.out⟩, by have := HLT.out; simp [intOf]; omega⟩
        ·have h7 : (kids.take L).all (brT 4) = false := by rw [Bool.eq_false_iff]; intro hc; have h8 := List.all_eq_true.1 hc _ (List.mem_of_getElem? (by rw [List.getElem?_take_of_lt HLT.out]; exact HJ.out)); rw [Hhb13.out] at h8; cases h8
         have HZ : Hid (Z = false) := hid (by rw [HZE.out, h7]; rfl)
         clear h7
         refine qc #[(nv k' tx' n' (.slice a' N' c') at'), (.int .i64 4)] ?_
         have HCA := hid (HBR.out wr HNK.out)
         refine HCA.out.mono ?_
         rintro e w16 ⟨he, hq⟩
         rw [Hhb13.out] at he
         subst he
         refine ⟨_, rfl, ?_⟩
         have HB17 := hid hq
         clear hq
         replace KN := ka HB17 KN
         replace HNK := hid (HNK.out.later HB17.out)
         replace HCL := hid (Cl.below HCL.out HB17.out)
         replace HB0 := kb HB0 HB17
         try simp only [Act.put, nA, nB, nC]
         refine qv (.bool false) ?_
         simp only [nA, nB, nC]
         refine we ?_
         go_upto_region 9 with fail
         refine rl ?_
         refine qv (.bool false) ?_
         simp only [nA, nB, nC]
         refine wp_y (v := (.bool true)) rfl rfl (y_un (p := .bool false) rfl (by kernel_rfl) (by kernel_rfl) (fun w => qnotB false w)) rfl ?_
         simp only [nA, nB, nC]
         refine we ?_
         go_upto_region 10 with fail
         refine rl ?_
         refine qv (.bool false) ?_
         simp only [nA, nB, nC]
         refine we ?_
         go_wp2_with fail
         go_ret
         exact ⟨congrArg (fun b => Ending.returned (.bool b)) HZ.out.symm, HB0.out⟩
       ·have hlt : j = L := by have := of_decide_eq_false Hhb12.out; have := HJJ.out; omega
        rw [hlt] at HAL
        clear hlt
        have HLN : Hid (L < N) := hid (by have := HNL.out; omega)
        obtain ⟨t, ht⟩ : ∃ t, kids[L]? = some t := ⟨_, List.getElem?_eq_getElem (by rw [HNN.out]; exact HLN.out)⟩
        obtain ⟨b, o, k', tx', n', ks', at', a', c', rfl, rfl, hcl, hnd⟩ := Nd.kid HN0.out ht
        have HOKK := hid (HOK.out.kid ht)
        have HJ := hid ht
        have HCL := hid (hcl.below HB0.out)
        have HNK := hid (hnd.later HB0.out)
        clear ht hcl hnd
        obtain ⟨N', hN'⟩ : ∃ x, ks'.length = x := ⟨_, rfl⟩
        rw [hN'] at HCL HNK
        clear hN'
        have HBR : Hid (∀ (w : World), Nd w (nv k' tx' n' (.slice a' N' c') at') (.mk k' tx' n' ks' at') → Calls Tryz.prog 32 #[nv k' tx' n' (.slice a' N' c') at', .int .i64 4] w fun e w' => e = .returned (.bool (brT 4 (.mk k' tx' n' ks' at'))) ∧ Below w.heap.size w w') := hid (fun w h => rbare_any h HOKK.out.text 4)
        have HRX : Hid (∀ (w : World), Nd w (nv k' tx' n' (.slice a' N' c') at') (.mk k' tx' n' ks' at') → Calls Tryz.prog 17 #[nv k' tx' n' (.slice a' N' c') at'] w fun e w' => e = .returned (.bool (rxT (.mk k' tx' n' ks' at'))) ∧ Below w.heap.size w w') := hid (fun w h => rrightExpr_any HOKK.out h)
        refine qb (blss_int ((j : Nat) : Int) ((L : Nat) : Int) false Hhb12.out) ?_
        simp only [nA, nB, nC]
        refine we ?_
        go_upto_region 11 with fail
        refine rl ?_
        refine qf (fa_api_Node_3 g1 0) ?_
        refine ql (.slice (some ⟨b, o, none⟩) N c) Tryz.isAgg22 3 KN ?_
        refine qv (.int .i64 (((L : Nat) : Int))) ?_
        simp only [nA, nB, nC]
        refine wp_y (v := (.pointer (some ⟨b, o + L * 5, none⟩))) rfl rfl (y_index (p := (.slice (some ⟨b, o, none⟩) N c)) (k := (.int .i64 (((L : Nat) : Int)))) rfl (by kernel_rfl) (by kernel_rfl) (by kernel_rfl) (idx24 b o N c L HLN.out)) rfl ?_
        simp only [nA, nB, nC]
        refine wp_y (v := (nv k' tx' n' (.slice a' N' c') at')) rfl rfl (y_load rfl (hl := fun w' h => by rw [h]; exact load24 HCL.out)) rfl ?_
        simp only [nA, nB, nC]
        rcases bt (rxT (.mk k' tx' n' ks' at')) with Hhb18 | Hhb18
        ·have HZ : Hid (Z = true) := hid (by rw [HZE.out, HAL.out, HJ.out]; exact Hhb18.out)
         refine qc #[(nv k' tx' n' (.slice a' N' c') at')] ?_
         have HCA := hid (HRX.out wr HNK.out)
         refine HCA.out.mono ?_
         rintro e w19 ⟨he, hq⟩
         rw [Hhb18.out] at he
         subst he
         refine ⟨_, rfl, ?_⟩
         have HB20 := hid hq
         clear hq
         replace KN := ka HB20 KN
         replace HNK := hid (HNK.out.later HB20.out)
         replace HCL := hid (Cl.below HCL.out HB20.out)
         replace HB0 := kb HB0 HB20
         try simp only [Act.put, nA, nB, nC]
         refine qv (.bool true) ?_
         simp only [nA, nB, nC]
         refine we ?_
         go_wp2_with fail
         go_ret
         exact ⟨congrArg (fun b => Ending.returned (.bool b)) HZ.out.symm, HB0.out⟩
        ·have HZ : Hid (Z = false) := hid (by rw [HZE.out, HAL.out, HJ.out]; exact Hhb18.out)
         refine qc #[(nv k' tx' n' (.slice a' N' c') at')] ?_
         have HCA := hid (HRX.out wr HNK.out)
         refine HCA.out.mono ?_
         rintro e w21 ⟨he, hq⟩
         rw [Hhb18.out] at he
         subst he
         refine ⟨_, rfl, ?_⟩
         have HB22 := hid hq
         clear hq
         replace KN := ka HB22 KN
         replace HNK := hid (HNK.out.later HB22.out)
         replace HCL := hid (Cl.below HCL.out HB22.out)
         replace HB0 := kb HB0 HB22
         try simp only [Act.put, nA, nB, nC]
         refine qv (.bool false) ?_
         simp only [nA, nB, nC]
         refine we ?_
         go_wp2_with fail
         go_ret
         exact ⟨congrArg (fun b => Ending.returned (.bool b)) HZ.out.symm, HB0.out⟩
 ·refine wp_call (f := 31) (args := #[(strV tx)]) (by kernel_rfl) (fun w => by go_simp) ?_
  have HCA := hid (near_any tx w3 HT.out)
  refine HCA.out.mono ?_
  rintro e w23 ⟨he, hq⟩
  rw [Hhb5.out] at he
  subst he
  refine ⟨_, rfl, ?_⟩
  have HB24 := hid hq
  clear hq
  replace K2 := ka HB24 K2
  replace HB0 := kb HB0 HB24
  try simp only [Act.put, nA, nB, nC]
  refine qv (.bool false) ?_
  simp only [nA, nB, nC]
  refine we ?_
  go_upto_region 2 with fail
  refine rl ?_
  refine qf (fa_api_Node_0 g1 0) ?_
  refine ql (.int .i64 k) Tryz.isAgg3 0 K2 ?_
  simp only [nA, nB, nC]
  rcases bt ((k != (3 : Int))) with Hhb25 | Hhb25
  ·refine wp_y (v := (.bool true)) rfl rfl (y_bin (k := .i64) (k' := .i64) (m := k) (n := 3) rfl (hr := bneq_int k 3 true Hhb25.out)) rfl ?_
   try simp only [nA, nB, nC]
   refine qv (.bool true) ?_
   simp only [nA, nB, nC]
   refine qs rfl ?_
   simp only [nA, nB, nC]
   refine qs rfl ?_
   simp only [nA, nB, nC]
   refine qv (.bool true) ?_
   refine qv (.bool true) ?_
   simp only [nA, nB, nC]
   refine qs rfl ?_
   simp only [nA, nB, nC]
   refine qs rfl ?_
   simp only [nA, nB, nC]
   refine qs rfl ?_
   simp only [nA, nB, nC]
   refine qv (.bool true) ?_
   refine qv (.bool true) ?_
   simp only [nA, nB, nC]
   refine qs rfl ?_
   simp only [nA, nB, nC]
   refine qs rfl ?_
   simp only [nA, nB, nC]
   refine qs rfl ?_
   simp only [nA, nB, nC]
   refine qs rfl ?_
   simp only [nA, nB, nC]
   refine qv (.bool true) ?_
   refine qv (.bool true) ?_
   simp only [nA, nB, nC]
   refine qs rfl ?_
   simp only [nA, nB, nC]
   refine qs rfl ?_
   simp only [nA, nB, nC]
   refine qs rfl ?_
   simp only [nA, nB, nC]
   refine qs rfl ?_
   simp only [nA, nB, nC]
   refine qv (.bool true) ?_
   simp only [nA, nB, nC]
   refine we ?_
   go_upto_region 3 with fail
   refine rl ?_
   refine qv (.bool false) ?_
   simp only [nA, nB, nC]
   refine we ?_
   go_wp2_with fail
   go_ret
   have HZ : Z = false := by rw [← HZ0.out, letR, HNN.out, show (k == 3) = false by have h9 := Hhb25.out; simpa using h9]; simp
   exact ⟨congrArg (fun b => Ending.returned (.bool b)) HZ.symm, HB0.out⟩
  ·refine wp_y (v := (.bool false)) rfl rfl (y_bin (k := .i64) (k' := .i64) (m := k) (n := 3) rfl (hr := bneq_int k 3 false Hhb25.out)) rfl ?_
   try simp only [nA, nB, nC]
   refine qv (.bool false) ?_
   simp only [nA, nB, nC]
   refine qg (.bool false) rfl ?_
   simp only [nA, nB, nC]
   refine wp_yg (v := (.bool true)) rfl (y_un (p := .bool false) rfl (by kernel_rfl) (by kernel_rfl) (fun w => qnotB false w)) rfl ?_
   try simp only [nA, nB, nC]
   refine qv (.bool true) ?_
   refine qv (.bool true) ?_
   simp only [nA, nB, nC]
   refine qs rfl ?_
   simp only [nA, nB, nC]
   refine qs rfl ?_
   simp only [nA, nB, nC]
   refine qs rfl ?_
   simp only [nA, nB, nC]
   refine qv (.bool true) ?_
   refine qv (.bool true) ?_
   simp only [nA, nB, nC]
   refine qs rfl ?_
   simp only [nA, nB, nC]
   refine qs rfl ?_
   simp only [nA, nB, nC]
   refine qs rfl ?_
   simp only [nA, nB, nC]
   refine qs rfl ?_
   simp only [nA, nB, nC]
   refine qv (.bool true) ?_
   refine qv (.bool true) ?_
   simp only [nA, nB, nC]
   refine qs rfl ?_
   simp only [nA, nB, nC]
   refine qs rfl ?_
   simp only [nA, nB, nC]
   refine qs rfl ?_
   simp only [nA, nB, nC]
   refine qs rfl ?_
   simp only [nA, nB, nC]
   refine qv (.bool true) ?_
   simp only [nA, nB, nC]
   refine we ?_
   go_upto_region 3 with fail
   refine rl ?_
   refine qv (.bool false) ?_
   simp only [nA, nB, nC]
   refine we ?_
   go_wp2_with fail
   go_ret
   have HZ : Z = false := by rw [← HZ0.out, letR, HNN.out, Hhb5.out]; simp
   exact ⟨congrArg (fun b => Ending.returned (.bool b)) HZ.symm, HB0.out⟩
end Go.Proofs.YtgpkcjpanpbhdaaGreatDoor
