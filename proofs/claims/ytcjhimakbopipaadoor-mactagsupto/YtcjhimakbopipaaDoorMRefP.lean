/- The document's filling up of bytes to whole blocks. -/
import Derived.Test.YtcjhimakbopipaaDoorMRefM
import Derived.Test.YtcjhimakbopipaaDoorMRefA
namespace Go.Proofs.YtcjhimakbopipaaDoor
open Go Go.RowKit

theorem y_lenB {ops : Array Oper} {S : World → Prop} {o : Oper} {a : Act} {x : Operand} {p : Option Addr} {n c : Nat} (hop : o.op = .call { callee := .builtin .len, args := #[x], argTypes := #[25] }) (hw : Region.wanted o (yielded ops a.tmps) = true) (hx : a.eval x = .slice p n c) : YieldsIf Tryd.prog ops S o (.int .i64 n) a :=
  .inl ⟨hw, fun w _ => by
    have h1 : (Builtin.len_ #[25] o.type #[a.eval x]).run Tryd.prog w = .ok (.int .i64 n) w := by rw [hx]; go_simp
    unfold execOp
    simp only [hop, resolve, invoke, builtin, Sem.run_bind, Sem.run_pure, Result.andThen_ok, List.map_toArray, List.map_cons, List.map_nil, h1]⟩
theorem addK (n k : Nat) (h : n + k ≤ 281474976710656) (w : World) : (binOp .add 3 (.int .i64 (n : Nat)) (.int .i64 (k : Nat))).run Tryd.prog w = .ok (.int .i64 (n + k : Nat)) w := by
  have h1 : IntKind.i64.wrap ((n : Int) + (k : Int)) = ((n + k : Nat) : Int) := by rw [IntWalk.i64_in _ ⟨by omega, by omega⟩]; omega
  generalize n + k = m at *
  go_simp
theorem remK (n k : Nat) (hk : 0 < k) (h : n ≤ 281474976710656) (hk2 : k ≤ 281474976710656) (w : World) : (binOp .rem 3 (.int .i64 (n : Nat)) (.int .i64 (k : Nat))).run Tryd.prog w = .ok (.int .i64 (n % k : Nat)) w := by
  have h0 : n % k < k := Nat.mod_lt _ hk
  have h1 : (n : Int).tmod (k : Int) = ((n % k : Nat) : Int) := by rw [Int.tmod_eq_emod_of_nonneg (by omega)]; omega
  have h3 : IntKind.i64.wrap ((n % k : Nat) : Int) = ((n % k : Nat) : Int) := IntWalk.i64_in _ ⟨by omega, by omega⟩
  have h4 : k ≠ 0 := by omega
  generalize n % k = m at *
  go_simp
theorem neq56f {m : Nat} (h : m = 56) (w : World) : (binOp .neq 3 (.int .i64 (m : Nat)) (.int .i64 56)).run Tryd.prog w = .ok (.bool false) w := by
  subst h; go_simp
theorem neq56t {m : Nat} (h : m ≠ 56) (w : World) : (binOp .neq 3 (.int .i64 (m : Nat)) (.int .i64 56)).run Tryd.prog w = .ok (.bool true) w := by
  have h1 : (m : Int) ≠ 56 := by omega
  go_simp
theorem cvt3_61 (n : Nat) (h : n ≤ 281474976710656) (w : World) : (convert 3 61 (.int .i64 n)).run Tryd.prog w = .ok (.int .u64 n) w := by
  have h1 : IntKind.u64.wrap (n : Int) = n := by rw [IntKind.wrap_u64]; omega
  go_simp
theorem mul61 (n : Nat) (h : n ≤ 281474976710656) (w : World) : (binOp .mul 61 (.int .u64 n) (.int .u64 8)).run Tryd.prog w = .ok (.int .u64 (n * 8 : Nat)) w := by
  have h1 : IntKind.u64.wrap ((n : Int) * 8) = ((n * 8 : Nat) : Int) := by rw [IntKind.wrap_u64]; omega
  generalize n * 8 = m at *
  go_simp
theorem sub56 (k : Nat) (h : k < 8) (w : World) : (binOp .sub 3 (.int .i64 56) (.int .i64 (8 * k : Nat))).run Tryd.prog w = .ok (.int .i64 (56 - 8 * k : Nat)) w := by
  have h1 : IntKind.i64.wrap (56 - ((8 * k : Nat) : Int)) = ((56 - 8 * k : Nat) : Int) := by rw [IntWalk.i64_in _ ⟨by omega, by omega⟩]; omega
  generalize 56 - 8 * k = m at *
  generalize 8 * k = n at *
  go_simp
theorem bslice1v (w : World) (x : Nat) (hx : x < 256) : (Instr.buildSlice 25 1 #[(0, .int .u8 (x : Nat))]).run Tryd.prog w = .ok (.slice (some ⟨w.heap.size, 0, none⟩) 1 1) (w.alloc (.cells (cells8 [UInt8.ofNat x]).toArray 5)) := by
  have e : (cells8 [UInt8.ofNat x]).toArray = #[.int .u8 (x : Nat)] := by
    simp only [cells8, List.map_cons, List.map_nil]
    rw [cb_ofNat _ hx]
  rw [e]
  go_simp
theorem bsliceR (w : World) (x : UInt8) : (Instr.buildSlice 25 1 #[(0, .int .u8 (x.toNat : Nat))]).run Tryd.prog w = .ok (.slice (some ⟨w.heap.size, 0, none⟩) 1 1) (w.alloc (.cells (cells8 [x]).toArray 5)) := by
  have e : (cells8 [x]).toArray = #[.int .u8 (x.toNat : Nat)] := by
    simp only [cells8, List.map_cons, List.map_nil]; rfl
  rw [e]
  generalize x.toNat = y at *
  go_simp
/-- Bytes of another row, appended where there is room. -/
theorem app_from {wr : World} {B g cap n s c : Nat} (m news : List UInt8) (ho : wr.ownsRow B 5 1 (.slice (some ⟨g, 0, none⟩) n cap) n (cells8 m)) (hr : Rd wr s 0 news) (hroom : n + news.length ≤ cap) (hB : B ≤ wr.heap.size) (ty : TypeId) :
    ∃ w1, (Builtin.append_ #[25, 25] ty #[.slice (some ⟨g, 0, none⟩) n cap, .slice (some ⟨s, 0, none⟩) news.length c]).run Tryd.prog wr = .ok (.slice (some ⟨g, 0, none⟩) (n + news.length) cap) w1 ∧
      w1.ownsRow B 5 1 (.slice (some ⟨g, 0, none⟩) (n + news.length) cap) (n + news.length) (cells8 (m ++ news)) ∧ Below B wr w1 := by
  obtain ⟨i0, hi, hz0, hz1, hz2⟩ := info_parts info8
  obtain ⟨w1, hr', ho1, hg1⟩ := run_append_fits (P := Tryd.prog) wr B 25 ty 5 i0 1 Tryd.underlying25 hi hz1 g n cap _ ho ⟨s, 0, none⟩ news.length c (cells8 news) (by rw [cells8_len]; omega)
    (fun j u hu => by
      have hj : j < news.length := by have := (List.getElem?_eq_some_iff.1 hu).1; rwa [cells8_len] at this
      rw [Addr.add_lit, hr j hj, ← hu, cells8_get news j hj]) (cells8_one _) hroom
  rw [cells8_append] at ho1
  exact ⟨w1, hr', ho1, (Below.refl B wr).grown hg1 hB (fun k hk => by cases hk; exact (owns_cap ho).2.2.1)⟩
def lenV : Value → Nat
  | .slice _ n _ => n
  | _ => 0
theorem Rd.below' {C : Nat} {w w' : World} {b off : Nat} {l : List UInt8} (h : Rd w b off l) (hB : Below C w w') (hb : b < C) : Rd w' b off l := fun k hk => by
  rw [hB.cell (p := ⟨b, off + k, none⟩) hb]; exact h k hk
set_option maxHeartbeats 1000000 in
theorem padded_any (l : List UInt8) (g c : Nat) (hl : l.length + 72 ≤ 281474976710656) (w : World) (hg : Rd w g 0 l) (hgl : g < w.heap.size) :
    Calls Tryd.prog 22 #[.slice (some ⟨g, 0, none⟩) l.length c] w fun r w' => r = .returned (.slice (some ⟨w.heap.size, 0, none⟩) (pads l).length (l.length + 72)) ∧ Rd w' w.heap.size 0 (pads l) ∧ w.heap.size < w'.heap.size ∧ Below w.heap.size w w' := by
  obtain ⟨w1, hM, hO1, hB1⟩ := make25 w (l.length + 72) (by omega)
  obtain ⟨w2, hA2, hO2, hB2⟩ := app_from (c := c) [] l hO1 (hg.below' hB1 hgl) (by omega) hB1.size 25
  simp only [Nat.zero_add, List.nil_append] at hA2 hO2
  obtain ⟨w3, hA3, hO3, hB3⟩ := app_in l [128] (k := 1) hO2 rfl (by omega) (Nat.le_trans hB1.size hB2.size) 25
  have hB := (hB1.trans hB2).trans hB3
  have hs3 : w.heap.size < w3.heap.size := (owns_cap hO3).2.2.2
  have hfill : fillN (l.length % 64) ≤ 63 := by unfold fillN; omega
  have hpl : (pads l).length = l.length + 1 + fillN (l.length % 64) + 8 := by
    unfold pads; simp only [List.length_append, List.length_replicate, be8_len, List.length_cons, List.length_nil]
  have hst : ∀ z, z ≤ fillN (l.length % 64) → ((l.length + 1 + z) % 64 = 56 ↔ z = fillN (l.length % 64)) := fun z hz => fill_stop l.length z hz
  have hpads : pads l = l ++ [128] ++ List.replicate (fillN (l.length % 64)) 0 ++ (be8 (l.length * 8)).take 8 := by
    unfold pads; rw [Nat.mul_comm 8, List.take_of_length_le (by rw [be8_len]; exact Nat.le_refl _)]
  have hbe : ∀ k, k < 8 → (be8 (l.length * 8)).take (k + 1) = (be8 (l.length * 8)).take k ++ [UInt8.ofNat (l.length * 8 / 2 ^ (56 - 8 * k) % 256)] := fun k hk => be8_take _ k hk
  have HN := hidM hl
  have HM := hidM hM
  have HA2 := hidM hA2
  have HA3 := hidM hA3
  have HO3 := hidM hO3
  have HB := hidM hB
  have HS3 := hidM hs3
  have HPL := hidM hpl
  have HPA := hidM hpads
  have HST := hidM hst
  have HBE := hidM hbe
  have HFI := hidM hfill
  clear hl hM hA2 hA3 hO1 hO2 hO3 hB1 hB2 hB3 hB hs3 hpl hpads hst hbe hfill hg
  generalize hq : fillN (l.length % 64) = q at *
  clear hq
  generalize pads l = P at *
  generalize l.length = n at *
  go_enter Tryd.func22, Tryd.ntmps22
  go_upto_region 1 with fail
  generalize hb : w.heap.size = b at *
  refine wp_region_lit ?_
  refine wp_y (v := .slice (some ⟨g, 0, none⟩) n c) rfl rfl (y_move rfl (by kernel_rfl) (by kernel_rfl)) rfl ?_
  refine wp_y (v := .int .i64 (n : Nat)) rfl rfl (y_lenB (p := some ⟨g, 0, none⟩) (c := c) rfl (by kernel_rfl) (by kernel_rfl)) rfl ?_
  refine wp_y (v := .int .i64 (n + 72 : Nat)) rfl rfl (y_bin rfl (by kernel_rfl) (by kernel_rfl) (by kernel_rfl) (addK n 72 HN.out)) rfl ?_
  refine wp_run (v := .slice (some ⟨b, 0, none⟩) (0) (n + 72)) rfl rfl (run_mkOp rfl (by kernel_rfl) (by kernel_rfl) HM.out) rfl ?_
  refine wp_y (v := .slice (some ⟨b, 0, none⟩) (0) (n + 72)) rfl rfl (y_assign rfl (by kernel_rfl) (by kernel_rfl)) rfl ?_
  try simp only [List.setIfInBounds_toArray, List.set_cons_zero, List.set_cons_succ]
  refine wp_end ?_
  go_upto_region 2 with fail
  refine wp_region_lit ?_
  refine wp_y (v := .slice (some ⟨b, 0, none⟩) (0) (n + 72)) rfl rfl (y_move rfl (by kernel_rfl) (by kernel_rfl)) rfl ?_
  refine wp_y (v := .slice (some ⟨g, 0, none⟩) n c) rfl rfl (y_move rfl (by kernel_rfl) (by kernel_rfl)) rfl ?_
  refine wp_run (v := .slice (some ⟨b, 0, none⟩) (n) (n + 72)) rfl rfl (run_appOp rfl (by kernel_rfl) (by kernel_rfl) HA2.out) rfl ?_
  refine wp_y (v := .slice (some ⟨b, 0, none⟩) (n) (n + 72)) rfl rfl (y_assign rfl (by kernel_rfl) (by kernel_rfl)) rfl ?_
  try simp only [List.setIfInBounds_toArray, List.set_cons_zero, List.set_cons_succ]
  refine wp_end ?_
  go_upto_region 3 with fail
  refine wp_region_lit ?_
  refine wp_y (v := .slice (some ⟨b, 0, none⟩) (n) (n + 72)) rfl rfl (y_move rfl (by kernel_rfl) (by kernel_rfl)) rfl ?_
  refine wp_run (v := .slice (some ⟨w2.heap.size, 0, none⟩) 1 1) rfl rfl (run_bsOp rfl (by kernel_rfl) (bsliceR w2 128)) rfl ?_
  refine wp_run (v := .slice (some ⟨b, 0, none⟩) (n + 1) (n + 72)) rfl rfl (run_appOp rfl (by kernel_rfl) (by kernel_rfl) HA3.out) rfl ?_
  refine wp_y (v := .slice (some ⟨b, 0, none⟩) (n + 1) (n + 72)) rfl rfl (y_assign rfl (by kernel_rfl) (by kernel_rfl)) rfl ?_
  try simp only [List.setIfInBounds_toArray, List.set_cons_zero, List.set_cons_succ]
  refine wp_end ?_
  go_wp2_with fail
  go_loopw [3] (fun v wr => ∃ z : Nat, z ≤ q ∧ v = .slice (some ⟨b, 0, none⟩) (n + 1 + z) (n + 72) ∧ wr.ownsRow b 5 1 (.slice (some ⟨b, 0, none⟩) (n + 1 + z) (n + 72)) (n + 1 + z) (cells8 (l ++ [128] ++ List.replicate z 0)) ∧ Below b w wr ∧ b < wr.heap.size) (fun v _ => n + 72 - lenV v)
  case atStart => exact ⟨0, Nat.zero_le _, rfl, by simpa using HO3.out, HB.out, HS3.out⟩
  case round =>
    clear HM HA2 HA3 HO3 HB HS3
    obtain ⟨z, hz, rfl, hO, hBr, hsz⟩ := hrel
    have HO := hidM hO
    have HB := hidM hBr
    have HS := hidM hsz
    clear hO hBr hsz
    have hz72 : n + 1 + z + 71 ≤ 281474976710656 + 64 := by have := HN.out; have := HFI.out; omega
    have HZ := hidM hz72
    clear hz72
    by_cases hzq : z = q
    · have hQ := (HST.out z hz).2 hzq
      have HQ := hidM hQ
      clear hQ
      go_upto_region 4 with fail
      refine wp_region_lit ?_
      refine wp_y (v := .slice (some ⟨b, 0, none⟩) (n + 1 + z) (n + 72)) rfl rfl (y_move rfl (by kernel_rfl) (by kernel_rfl)) rfl ?_
      refine wp_y (v := .int .i64 (n + 1 + z : Nat)) rfl rfl (y_lenB (p := some ⟨b, 0, none⟩) (c := n + 72) rfl (by kernel_rfl) (by kernel_rfl)) rfl ?_
      refine wp_y (v := .int .i64 ((n + 1 + z) % 64 : Nat)) rfl rfl (y_bin rfl (by kernel_rfl) (by kernel_rfl) (by kernel_rfl) (remK _ 64 (by decide) (by have := HZ.out; omega) (by decide))) rfl ?_
      refine wp_y (v := .bool false) rfl rfl (y_bin rfl (by kernel_rfl) (by kernel_rfl) (by kernel_rfl) (neq56f HQ.out)) rfl ?_
      try simp only [List.setIfInBounds_toArray, List.set_cons_zero, List.set_cons_succ]
      refine wp_end ?_
      subst hzq
      go_upto_region 6 with fail
      refine wp_region_lit ?_
      refine wp_y (v := .slice (some ⟨g, 0, none⟩) n c) rfl rfl (y_move rfl (by kernel_rfl) (by kernel_rfl)) rfl ?_
      refine wp_y (v := .int .i64 (n : Nat)) rfl rfl (y_lenB (p := some ⟨g, 0, none⟩) (c := c) rfl (by kernel_rfl) (by kernel_rfl)) rfl ?_
      refine wp_y (v := .int .u64 (n : Nat)) rfl rfl (y_cnv rfl (by kernel_rfl) (by kernel_rfl) (cvt3_61 n (by have := HN.out; omega))) rfl ?_
      refine wp_y (v := .int .u64 (n * 8 : Nat)) rfl rfl (y_bin rfl (by kernel_rfl) (by kernel_rfl) (by kernel_rfl) (mul61 n (by have := HN.out; omega))) rfl ?_
      refine wp_y (v := .int .u64 (n * 8 : Nat)) rfl rfl (y_assign rfl (by kernel_rfl) (by kernel_rfl)) rfl ?_
      try simp only [List.setIfInBounds_toArray, List.set_cons_zero, List.set_cons_succ]
      refine wp_end ?_
      go_wp2_with fail
      go_loopw [5, 3] (fun x v wr => ∃ k : Nat, k ≤ 8 ∧ x = .int .i64 k ∧ v = .slice (some ⟨b, 0, none⟩) (n + 1 + z + k) (n + 72) ∧ wr.ownsRow b 5 1 (.slice (some ⟨b, 0, none⟩) (n + 1 + z + k) (n + 72)) (n + 1 + z + k) (cells8 (l ++ [128] ++ List.replicate z 0 ++ (be8 (n * 8)).take k)) ∧ Below b w wr ∧ b < wr.heap.size) (fun x _ _ => 8 - (intOf x).toNat)
      case atStart => exact ⟨0, Nat.zero_le _, rfl, rfl, by simpa using HO.out, HB.out, HS.out⟩
      case round =>
        clear HO HB HS
        obtain ⟨k, hk, rfl, rfl, hO, hBr, hsz⟩ := hrel
        have HB := hidM hBr
        have HS := hidM hsz
        by_cases hlt : k < 8
        · have hlt' : (k : Int) < 8 := by omega
          have hwk : IntKind.i64.wrap ((k : Int) + 1) = ((k + 1 : Nat) : Int) := by rw [IntWalk.i64_in _ ⟨by omega, by omega⟩]; omega
          obtain ⟨w4, hAP, hO4, hB4⟩ := app_in (l ++ [128] ++ List.replicate z 0 ++ (be8 (n * 8)).take k) [UInt8.ofNat (n * 8 / 2 ^ (56 - 8 * k) % 256)] (k := 1) hO rfl (by have := HFI.out; omega) (Nat.le_of_lt hsz) 25
          rw [List.append_assoc _ _ [_], ← HBE.out k hlt] at hO4
          have hs4 := (owns_cap hO4).2.2.2
          have HAP := hidM hAP
          have HO4 := hidM hO4
          have HB4 := hidM (hBr.trans hB4)
          have HS4 := hidM hs4
          have HK := hidM hlt
          clear hAP hO4 hB4 hs4 hO hBr hsz HBE
          go_upto_region 10 with fail
          refine wp_region_lit ?_
          refine wp_y (v := .slice (some ⟨b, 0, none⟩) (n + 1 + z + k) (n + 72)) rfl rfl (y_move rfl (by kernel_rfl) (by kernel_rfl)) rfl ?_
          refine wp_y (v := .int .u64 (n * 8 : Nat)) rfl rfl (y_move rfl (by kernel_rfl) (by kernel_rfl)) rfl ?_
          refine wp_y (v := .int .i64 k) rfl rfl (y_move rfl (by kernel_rfl) (by kernel_rfl)) rfl ?_
          refine wp_y (v := .int .i64 (8 * k : Nat)) rfl rfl (y_bin rfl (by kernel_rfl) (by kernel_rfl) (by kernel_rfl) (mul8 k HK.out)) rfl ?_
          refine wp_y (v := .int .i64 (56 - 8 * k : Nat)) rfl rfl (y_bin rfl (by kernel_rfl) (by kernel_rfl) (by kernel_rfl) (sub56 k HK.out)) rfl ?_
          refine wp_y (v := .int .u64 (n * 8 / 2 ^ (56 - 8 * k) : Nat)) rfl rfl (y_bin rfl (by kernel_rfl) (by kernel_rfl) (by kernel_rfl) (shr61 _ _ (by omega))) rfl ?_
          refine wp_y (v := .int .u8 (n * 8 / 2 ^ (56 - 8 * k) % 256 : Nat)) rfl rfl (y_cnv rfl (by kernel_rfl) (by kernel_rfl) (cvt61 _)) rfl ?_
          refine wp_run (v := .slice (some ⟨wr.heap.size, 0, none⟩) 1 1) rfl rfl (run_bsOp rfl (by kernel_rfl) (bslice1v wr (n * 8 / 2 ^ (56 - 8 * k) % 256) (Nat.mod_lt _ (by decide)))) rfl ?_
          simp only [List.setIfInBounds_toArray, List.set_cons_zero, List.set_cons_succ]
          refine wp_run (v := .slice (some ⟨b, 0, none⟩) (n + 1 + z + k + 1) (n + 72)) rfl rfl (run_appOp rfl (by kernel_rfl) (by kernel_rfl) HAP.out) rfl ?_
          refine wp_y (v := .slice (some ⟨b, 0, none⟩) (n + 1 + z + k + 1) (n + 72)) rfl rfl (y_assign rfl (by kernel_rfl) (by kernel_rfl)) rfl ?_
          try simp only [List.setIfInBounds_toArray, List.set_cons_zero, List.set_cons_succ]
          refine wp_end ?_
          go_wp2
          exact ⟨⟨k + 1, by omega, rfl, rfl, HO4.out, HB4.out, HS4.out⟩, by simp [intOf]; omega⟩
        · have hk8 : k = 8 := by omega
          subst hk8
          have HO := hidM hO
          clear hO hBr hsz
          go_wp2
          go_ret
          refine ⟨by rw [HPL.out, hb]; rfl, ?_, by rw [hb]; exact HS.out, by rw [hb]; exact HB.out⟩
          rw [hb, HPA.out]
          exact owns_rd HO.out
    · have hQ : (n + 1 + z) % 64 ≠ 56 := fun h => hzq ((HST.out z hz).1 h)
      obtain ⟨w4, hAP, hO4, hB4⟩ := app_in (l ++ [128] ++ List.replicate z 0) [0] (k := 1) HO.out rfl (by have := HFI.out; omega) (Nat.le_of_lt HS.out) 25
      have hs4 := (owns_cap hO4).2.2.2
      have e0 : l ++ [128] ++ List.replicate z 0 ++ [0] = l ++ [128] ++ List.replicate (z + 1) (0 : UInt8) := by
        rw [List.append_assoc _ (List.replicate z 0), ← List.replicate_succ']
      rw [e0] at hO4
      have HAP := hidM hAP
      have HO4 := hidM hO4
      have HB4 := hidM (HB.out.trans hB4)
      have HS4 := hidM hs4
      have HQ := hidM hQ
      clear hQ hAP hO4 hB4 hs4 e0
      go_upto_region 4 with fail
      refine wp_region_lit ?_
      refine wp_y (v := .slice (some ⟨b, 0, none⟩) (n + 1 + z) (n + 72)) rfl rfl (y_move rfl (by kernel_rfl) (by kernel_rfl)) rfl ?_
      refine wp_y (v := .int .i64 (n + 1 + z : Nat)) rfl rfl (y_lenB (p := some ⟨b, 0, none⟩) (c := n + 72) rfl (by kernel_rfl) (by kernel_rfl)) rfl ?_
      refine wp_y (v := .int .i64 ((n + 1 + z) % 64 : Nat)) rfl rfl (y_bin rfl (by kernel_rfl) (by kernel_rfl) (by kernel_rfl) (remK _ 64 (by decide) (by have := HZ.out; omega) (by decide))) rfl ?_
      refine wp_y (v := .bool true) rfl rfl (y_bin rfl (by kernel_rfl) (by kernel_rfl) (by kernel_rfl) (neq56t HQ.out)) rfl ?_
      try simp only [List.setIfInBounds_toArray, List.set_cons_zero, List.set_cons_succ]
      refine wp_end ?_
      go_upto_region 5 with fail
      refine wp_region_lit ?_
      refine wp_y (v := .slice (some ⟨b, 0, none⟩) (n + 1 + z) (n + 72)) rfl rfl (y_move rfl (by kernel_rfl) (by kernel_rfl)) rfl ?_
      refine wp_run (v := .slice (some ⟨wr.heap.size, 0, none⟩) 1 1) rfl rfl (run_bsOp rfl (by kernel_rfl) (bsliceR wr 0)) rfl ?_
      refine wp_run (v := .slice (some ⟨b, 0, none⟩) (n + 1 + z + 1) (n + 72)) rfl rfl (run_appOp rfl (by kernel_rfl) (by kernel_rfl) HAP.out) rfl ?_
      refine wp_y (v := .slice (some ⟨b, 0, none⟩) (n + 1 + z + 1) (n + 72)) rfl rfl (y_assign rfl (by kernel_rfl) (by kernel_rfl)) rfl ?_
      try simp only [List.setIfInBounds_toArray, List.set_cons_zero, List.set_cons_succ]
      refine wp_end ?_
      go_wp2
      exact ⟨⟨z + 1, by omega, rfl, HO4.out, HB4.out, HS4.out⟩, by simp only [lenV]; have := HFI.out; omega⟩
end Go.Proofs.YtcjhimakbopipaaDoor
