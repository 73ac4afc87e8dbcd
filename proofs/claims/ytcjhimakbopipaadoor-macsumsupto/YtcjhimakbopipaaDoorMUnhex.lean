/- Unhex. -/
import Derived.Test.YtcjhimakbopipaaDoorMDigit
namespace Go.Proofs.YtcjhimakbopipaaDoor
open Go Go.RowKit

theorem y_ext {ops : Array Oper} {S : World → Prop} {o : Oper} {a : Act} {x : Operand} {i : Nat} {p v : Value} (hop : o.op = .extract x i) (hw : Region.wanted o (yielded ops a.tmps) = true) (hx : a.eval x = p)
    (hr : ∀ w, (Instr.extract p i).run Tryd.prog w = .ok v w) : YieldsIf Tryd.prog ops S o v a :=
  .inl ⟨hw, fun w _ => by unfold execOp; rw [hop]; simp only [hx, Sem.run_bind, hr w, Result.andThen_ok]; rfl⟩
theorem ext0 (x y : Value) (w : World) : (Instr.extract (.tuple #[x, y]) 0).run Tryd.prog w = .ok x w := by go_simp
theorem ext1 (x y : Value) (w : World) : (Instr.extract (.tuple #[x, y]) 1).run Tryd.prog w = .ok y w := by go_simp
theorem quo2 (m n : Nat) (hn : n = m / 2) (h : m ≤ 281474976710656) (w : World) : (binOp .quo 3 (.int .i64 m) (.int .i64 2)).run Tryd.prog w = .ok (.int .i64 n) w := by
  have h1 : (m : Int) / 2 = (n : Int) := by omega
  have h2 : (m : Int).tdiv 2 = (n : Int) := by rw [Int.tdiv_eq_ediv_of_nonneg (by omega)]; exact h1
  have h3 : IntKind.i64.wrap (n : Int) = (n : Int) := IntWalk.i64_in _ ⟨by omega, by omega⟩
  clear hn
  go_simp
theorem add1 (n : Nat) (h : n ≤ 281474976710656) (w : World) : (binOp .add 3 (.int .i64 (n : Nat)) (.int .i64 1)).run Tryd.prog w = .ok (.int .i64 (n + 1 : Nat)) w := by
  have h1 : IntKind.i64.wrap ((n : Int) + 1) = ((n + 1 : Nat) : Int) := by rw [IntWalk.i64_in _ ⟨by omega, by omega⟩]; omega
  generalize n + 1 = q at *
  go_simp
theorem mulx (x : Nat) (h : x < 16) (w : World) : (binOp .mul 5 (.int .u8 x) (.int .u8 16)).run Tryd.prog w = .ok (.int .u8 (x * 16 : Nat)) w := by
  have h1 : IntKind.u8.wrap ((x : Int) * 16) = ((x * 16 : Nat) : Int) := by rw [IntKind.wrap_u8']; omega
  generalize x * 16 = q at *
  go_simp
theorem addx (x y : Nat) (h : x < 16) (hy : y < 16) (w : World) : (binOp .add 5 (.int .u8 (x * 16 : Nat)) (.int .u8 y)).run Tryd.prog w = .ok (.int .u8 (x * 16 + y : Nat)) w := by
  have h1 : IntKind.u8.wrap (((x * 16 : Nat) : Int) + (y : Int)) = ((x * 16 + y : Nat) : Int) := by rw [IntKind.wrap_u8']; omega
  generalize x * 16 + y = q at *
  generalize x * 16 = p at *
  go_simp
theorem mulX (x : Nat) (h : x < 16) (w : World) : (binOp .mul 3 (.int .i64 16) (.int .i64 x)).run Tryd.prog w = .ok (.int .i64 (x * 16 : Nat)) w := by
  have h1 : IntKind.i64.wrap (16 * (x : Int)) = ((x * 16 : Nat) : Int) := by rw [IntWalk.i64_in _ ⟨by omega, by omega⟩]; omega
  generalize x * 16 = q at *
  go_simp
theorem addX (x y : Nat) (h : x < 16) (hy : y < 16) (w : World) : (binOp .add 3 (.int .i64 (x * 16 : Nat)) (.int .i64 y)).run Tryd.prog w = .ok (.int .i64 (x * 16 + y : Nat)) w := by
  have h1 : IntKind.i64.wrap (((x * 16 : Nat) : Int) + (y : Int)) = ((x * 16 + y : Nat) : Int) := by rw [IntWalk.i64_in _ ⟨by omega, by omega⟩]; omega
  generalize x * 16 + y = q at *
  generalize x * 16 = p at *
  go_simp
theorem cnvX (x : Nat) (h : x < 256) (w : World) : (convert 3 5 (.int .i64 x)).run Tryd.prog w = .ok (.int .u8 x) w := by
  have h1 : IntKind.u8.wrap (x : Int) = (x : Int) := by rw [IntKind.wrap_u8']; omega
  go_simp
theorem bslice1 (w : World) (x : Nat) (h : x < 256) : (Instr.buildSlice 25 1 #[(0, .int .u8 (x : Nat))]).run Tryd.prog w = .ok (.slice (some ⟨w.heap.size, 0, none⟩) 1 1) (w.alloc (.cells (cells8 [UInt8.ofNat x]).toArray 5)) := by
  have e : (cells8 [UInt8.ofNat x]).toArray = #[.int .u8 (x : Nat)] := by simp only [cells8, List.map_cons, List.map_nil]; rw [cb_ofNat _ h]
  rw [e]
  go_simp
theorem unhex_even {l : List UInt8} (h : l.length % 2 = 0) : unhex l = rdN l (l.length / 2) := by unfold unhex; rw [if_pos h]
theorem unhex_bad {l : List UInt8} {k n : Nat} (hn : n = l.length / 2) (h : l.length % 2 = 0) (hk : k < n) (hb : rdN l (k + 1) = none) : unhex l = none := by
  rw [unhex_even h]
  subst hn
  have := rdN_none hb (l.length / 2 - (k + 1))
  rwa [show k + 1 + (l.length / 2 - (k + 1)) = l.length / 2 by omega] at this
def unRes (l : List UInt8) : Value := .tuple #[.string ⟨((unhex l).getD []).toArray⟩, .bool (unhex l).isSome]
theorem unRes_none {l : List UInt8} (h : unhex l = none) : unRes l = .tuple #[.string ⟨#[]⟩, .bool false] := by unfold unRes; rw [h]; rfl
theorem unRes_some {l m : List UInt8} (h : unhex l = some m) : unRes l = .tuple #[.string ⟨m.toArray⟩, .bool true] := by unfold unRes; rw [h]; rfl

set_option maxHeartbeats 2000000 in
theorem unhex_any (l : List UInt8) (hl : l.length ≤ 281474976710656) (w : World) :
    Calls Tryd.prog 15 #[.string ⟨l.toArray⟩] w fun e w' => e = .returned (unRes l) ∧ Below w.heap.size w w' := by
  have hsz : (⟨l.toArray⟩ : ByteArray).size = l.length := by simp [ByteArray.size]
  have HSZ := hidM hsz
  have HS := hidM hl
  by_cases hev : l.length % 2 = 0
  · have hev' : (l.length : Int) % 2 = 0 := by omega
    have HEV := hidM hev
    obtain ⟨n, hn⟩ : ∃ n, n = l.length / 2 := ⟨_, rfl⟩
    obtain ⟨w1, hM, hO, hB1⟩ := make25 w n (by omega)
    have HN := hidM hn
    have HM := hidM hM
    have HO1 := hidM hO
    have HB1 := hidM hB1
    clear hM hO hB1
    go_enter Tryd.func15, Tryd.ntmps15
    go_upto_region 3 with fail
    generalize hb : w.heap.size = b at *
    refine wp_region_lit ?_
    refine wp_y (v := .string ⟨l.toArray⟩) rfl rfl (y_move rfl (by kernel_rfl) (by kernel_rfl)) rfl ?_
    refine wp_y (v := .int .i64 l.length) rfl rfl (y_lenS rfl (by kernel_rfl) (by kernel_rfl) HSZ.out) rfl ?_
    refine wp_y (v := .int .i64 n) rfl rfl (y_bin rfl (by kernel_rfl) (by kernel_rfl) (by kernel_rfl) (quo2 l.length n HN.out HS.out)) rfl ?_
    refine wp_run (v := .slice (some ⟨b, 0, none⟩) 0 n) rfl rfl (run_mkOp rfl (by kernel_rfl) (by kernel_rfl) HM.out) rfl ?_
    refine wp_y (v := .slice (some ⟨b, 0, none⟩) 0 n) rfl rfl (y_assign rfl (by kernel_rfl) (by kernel_rfl)) rfl ?_
    try simp only [List.setIfInBounds_toArray, List.set_cons_zero, List.set_cons_succ]
    refine wp_end ?_
    clear hev'
    go_wp2_with fail
    go_loopw [5, 4, 6, 7, 8, 9] (fun x v _ _ _ _ wr => ∃ (k j : Nat) (m : List UInt8), k ≤ n ∧ j = 2 * k ∧ x = .int .i64 j ∧ v = .slice (some ⟨b, 0, none⟩) k n ∧ rdN l k = some m ∧ wr.ownsRow b 5 1 (.slice (some ⟨b, 0, none⟩) k n) k (cells8 m) ∧ Below b w wr ∧ b < wr.heap.size) (fun x _ _ _ _ _ _ => l.length - (intOf x).toNat)
    case atStart => exact ⟨0, 0, [], Nat.zero_le _, rfl, rfl, rfl, rfl, HO1.out, HB1.out, (HO1.out.lt _ rfl).2⟩
    case round =>
      clear HM HO1 HB1
      obtain ⟨k, j, m, hk, hj, rfl, rfl, hm, hO, hBr, hs⟩ := hrel
      have HB := hidM hBr
      have HSB := hidM hs
      have HR := hidM hm
      clear hBr hs hm
      by_cases hlt : k < n
      · have hlt' : (j : Int) < (l.length : Int) := by omega
        have hwk : IntKind.i64.wrap ((j : Int) + 2) = ((j + 2 : Nat) : Int) := by rw [IntWalk.i64_in _ ⟨by omega, by omega⟩]; omega
        have HK : Hid (j + 1 < l.length) := hidM (by omega)
        have HJ := hidM hj
        cases hua : ud (l.getD j 0) with
        | none =>
          have hbad := unhex_bad hn hev hlt (rdN_bad1 (by rw [← hj]; exact hua))
          have HBAD := hidM hbad
          have HUA := hidM hua
          clear hbad hua hO hj hn
          go_upto_region 7 with fail
          refine wp_region_lit ?_
          refine wp_y (v := .string ⟨l.toArray⟩) rfl rfl (y_move rfl (by kernel_rfl) (by kernel_rfl)) rfl ?_
          refine wp_y (v := .int .i64 j) rfl rfl (y_move rfl (by kernel_rfl) (by kernel_rfl)) rfl ?_
          refine wp_y (v := .int .u8 ((l.getD j 0).toNat : Nat)) rfl rfl (y_idx rfl (by kernel_rfl) (by kernel_rfl) (by kernel_rfl) (strIdx l j (by have := HK.out; omega))) rfl ?_
          refine wp_call (f := 27) (args := #[.int .u8 ((l.getD j 0).toNat : Nat)]) (by kernel_rfl) (fun w => by go_simp) ?_
          refine (digitOf_none HUA.out _).mono ?_
          rintro e w3 ⟨rfl, hw3⟩
          replace hw3 := hw3.symm
          subst hw3
          refine ⟨_, rfl, ?_⟩
          dsimp only [Act.put]
          refine wp_y (v := .tuple #[.int .u8 0, .bool false]) rfl rfl (y_move rfl (by kernel_rfl) (by kernel_rfl)) rfl ?_
          refine wp_y (v := .int .u8 0) rfl rfl (y_ext rfl (by kernel_rfl) (by kernel_rfl) (ext0 (.int .u8 0) (.bool false))) rfl ?_
          refine wp_y (v := .bool false) rfl rfl (y_ext rfl (by kernel_rfl) (by kernel_rfl) (ext1 (.int .u8 0) (.bool false))) rfl ?_
          refine wp_y (v := .int .u8 0) rfl rfl (y_assign rfl (by kernel_rfl) (by kernel_rfl)) rfl ?_
          simp only [List.setIfInBounds_toArray, List.set_cons_zero, List.set_cons_succ]
          refine wp_y (v := .bool false) rfl rfl (y_assign rfl (by kernel_rfl) (by kernel_rfl)) rfl ?_
          try simp only [List.setIfInBounds_toArray, List.set_cons_zero, List.set_cons_succ]
          refine wp_end ?_
          cases hub : ud (l.getD (j + 1) 0) with
          | none =>
            have HUB := hidM hub
            clear hub
            go_upto_region 8 with fail
            refine wp_region_lit ?_
            refine wp_y (v := .string ⟨l.toArray⟩) rfl rfl (y_move rfl (by kernel_rfl) (by kernel_rfl)) rfl ?_
            refine wp_y (v := .int .i64 j) rfl rfl (y_move rfl (by kernel_rfl) (by kernel_rfl)) rfl ?_
            refine wp_y (v := .int .i64 (j + 1 : Nat)) rfl rfl (y_bin rfl (by kernel_rfl) (by kernel_rfl) (by kernel_rfl) (add1 j (by have := HK.out; have := HS.out; omega))) rfl ?_
            refine wp_y (v := .int .u8 ((l.getD (j + 1) 0).toNat : Nat)) rfl rfl (y_idx rfl (by kernel_rfl) (by kernel_rfl) (by kernel_rfl) (strIdx l (j + 1) (by have := HK.out; omega))) rfl ?_
            refine wp_call (f := 27) (args := #[.int .u8 ((l.getD (j + 1) 0).toNat : Nat)]) (by kernel_rfl) (fun w => by go_simp) ?_
            refine (digitOf_none HUB.out _).mono ?_
            rintro e w3 ⟨rfl, hw3⟩
            replace hw3 := hw3.symm
            subst hw3
            refine ⟨_, rfl, ?_⟩
            dsimp only [Act.put]
            refine wp_y (v := .tuple #[.int .u8 0, .bool false]) rfl rfl (y_move rfl (by kernel_rfl) (by kernel_rfl)) rfl ?_
            refine wp_y (v := .int .u8 0) rfl rfl (y_ext rfl (by kernel_rfl) (by kernel_rfl) (ext0 (.int .u8 0) (.bool false))) rfl ?_
            refine wp_y (v := .bool false) rfl rfl (y_ext rfl (by kernel_rfl) (by kernel_rfl) (ext1 (.int .u8 0) (.bool false))) rfl ?_
            simp only [List.setIfInBounds_toArray, List.set_cons_zero, List.set_cons_succ]
            refine wp_y (v := .int .u8 0) rfl rfl (y_assign rfl (by kernel_rfl) (by kernel_rfl)) rfl ?_
            refine wp_y (v := .bool false) rfl rfl (y_assign rfl (by kernel_rfl) (by kernel_rfl)) rfl ?_
            try simp only [List.setIfInBounds_toArray, List.set_cons_zero, List.set_cons_succ]
            refine wp_end ?_
            go_wp2
            go_returns
            exact ⟨by rw [unRes_none HBAD.out]; rfl, by first | exact HB.out | (rw [hb]; exact HB.out)⟩
          | some y =>
            have HUB := hidM hub
            clear hub
            go_upto_region 8 with fail
            refine wp_region_lit ?_
            refine wp_y (v := .string ⟨l.toArray⟩) rfl rfl (y_move rfl (by kernel_rfl) (by kernel_rfl)) rfl ?_
            refine wp_y (v := .int .i64 j) rfl rfl (y_move rfl (by kernel_rfl) (by kernel_rfl)) rfl ?_
            refine wp_y (v := .int .i64 (j + 1 : Nat)) rfl rfl (y_bin rfl (by kernel_rfl) (by kernel_rfl) (by kernel_rfl) (add1 j (by have := HK.out; have := HS.out; omega))) rfl ?_
            refine wp_y (v := .int .u8 ((l.getD (j + 1) 0).toNat : Nat)) rfl rfl (y_idx rfl (by kernel_rfl) (by kernel_rfl) (by kernel_rfl) (strIdx l (j + 1) (by have := HK.out; omega))) rfl ?_
            refine wp_call (f := 27) (args := #[.int .u8 ((l.getD (j + 1) 0).toNat : Nat)]) (by kernel_rfl) (fun w => by go_simp) ?_
            refine (digitOf_some HUB.out _).mono ?_
            rintro e w3 ⟨rfl, hw3⟩
            replace hw3 := hw3.symm
            subst hw3
            refine ⟨_, rfl, ?_⟩
            dsimp only [Act.put]
            refine wp_y (v := .tuple #[.int .u8 y, .bool true]) rfl rfl (y_move rfl (by kernel_rfl) (by kernel_rfl)) rfl ?_
            refine wp_y (v := .int .u8 y) rfl rfl (y_ext rfl (by kernel_rfl) (by kernel_rfl) (ext0 (.int .u8 y) (.bool true))) rfl ?_
            refine wp_y (v := .bool true) rfl rfl (y_ext rfl (by kernel_rfl) (by kernel_rfl) (ext1 (.int .u8 y) (.bool true))) rfl ?_
            simp only [List.setIfInBounds_toArray, List.set_cons_zero, List.set_cons_succ]
            refine wp_y (v := .int .u8 y) rfl rfl (y_assign rfl (by kernel_rfl) (by kernel_rfl)) rfl ?_
            refine wp_y (v := .bool true) rfl rfl (y_assign rfl (by kernel_rfl) (by kernel_rfl)) rfl ?_
            try simp only [List.setIfInBounds_toArray, List.set_cons_zero, List.set_cons_succ]
            refine wp_end ?_
            go_wp2
            go_returns
            exact ⟨by rw [unRes_none HBAD.out]; rfl, by first | exact HB.out | (rw [hb]; exact HB.out)⟩
        | some x =>
          have HXL := hidM (ud_lt hua)
          cases hub : ud (l.getD (j + 1) 0) with
          | none =>
            have hbad := unhex_bad hn hev hlt (rdN_bad2 (by rw [← hj]; exact hub))
            have HBAD := hidM hbad
            have HUA := hidM hua
            have HUB := hidM hub
            clear hbad hua hub hO hj hn
            go_upto_region 7 with fail
            refine wp_region_lit ?_
            refine wp_y (v := .string ⟨l.toArray⟩) rfl rfl (y_move rfl (by kernel_rfl) (by kernel_rfl)) rfl ?_
            refine wp_y (v := .int .i64 j) rfl rfl (y_move rfl (by kernel_rfl) (by kernel_rfl)) rfl ?_
            refine wp_y (v := .int .u8 ((l.getD j 0).toNat : Nat)) rfl rfl (y_idx rfl (by kernel_rfl) (by kernel_rfl) (by kernel_rfl) (strIdx l j (by have := HK.out; omega))) rfl ?_
            refine wp_call (f := 27) (args := #[.int .u8 ((l.getD j 0).toNat : Nat)]) (by kernel_rfl) (fun w => by go_simp) ?_
            refine (digitOf_some HUA.out _).mono ?_
            rintro e w3 ⟨rfl, hw3⟩
            replace hw3 := hw3.symm
            subst hw3
            refine ⟨_, rfl, ?_⟩
            dsimp only [Act.put]
            refine wp_y (v := .tuple #[.int .u8 x, .bool true]) rfl rfl (y_move rfl (by kernel_rfl) (by kernel_rfl)) rfl ?_
            refine wp_y (v := .int .u8 x) rfl rfl (y_ext rfl (by kernel_rfl) (by kernel_rfl) (ext0 (.int .u8 x) (.bool true))) rfl ?_
            refine wp_y (v := .bool true) rfl rfl (y_ext rfl (by kernel_rfl) (by kernel_rfl) (ext1 (.int .u8 x) (.bool true))) rfl ?_
            refine wp_y (v := .int .u8 x) rfl rfl (y_assign rfl (by kernel_rfl) (by kernel_rfl)) rfl ?_
            simp only [List.setIfInBounds_toArray, List.set_cons_zero, List.set_cons_succ]
            refine wp_y (v := .bool true) rfl rfl (y_assign rfl (by kernel_rfl) (by kernel_rfl)) rfl ?_
            try simp only [List.setIfInBounds_toArray, List.set_cons_zero, List.set_cons_succ]
            refine wp_end ?_
            go_upto_region 8 with fail
            refine wp_region_lit ?_
            refine wp_y (v := .string ⟨l.toArray⟩) rfl rfl (y_move rfl (by kernel_rfl) (by kernel_rfl)) rfl ?_
            refine wp_y (v := .int .i64 j) rfl rfl (y_move rfl (by kernel_rfl) (by kernel_rfl)) rfl ?_
            refine wp_y (v := .int .i64 (j + 1 : Nat)) rfl rfl (y_bin rfl (by kernel_rfl) (by kernel_rfl) (by kernel_rfl) (add1 j (by have := HK.out; have := HS.out; omega))) rfl ?_
            refine wp_y (v := .int .u8 ((l.getD (j + 1) 0).toNat : Nat)) rfl rfl (y_idx rfl (by kernel_rfl) (by kernel_rfl) (by kernel_rfl) (strIdx l (j + 1) (by have := HK.out; omega))) rfl ?_
            refine wp_call (f := 27) (args := #[.int .u8 ((l.getD (j + 1) 0).toNat : Nat)]) (by kernel_rfl) (fun w => by go_simp) ?_
            refine (digitOf_none HUB.out _).mono ?_
            rintro e w3 ⟨rfl, hw3⟩
            replace hw3 := hw3.symm
            subst hw3
            refine ⟨_, rfl, ?_⟩
            dsimp only [Act.put]
            refine wp_y (v := .tuple #[.int .u8 0, .bool false]) rfl rfl (y_move rfl (by kernel_rfl) (by kernel_rfl)) rfl ?_
            refine wp_y (v := .int .u8 0) rfl rfl (y_ext rfl (by kernel_rfl) (by kernel_rfl) (ext0 (.int .u8 0) (.bool false))) rfl ?_
            refine wp_y (v := .bool false) rfl rfl (y_ext rfl (by kernel_rfl) (by kernel_rfl) (ext1 (.int .u8 0) (.bool false))) rfl ?_
            simp only [List.setIfInBounds_toArray, List.set_cons_zero, List.set_cons_succ]
            refine wp_y (v := .int .u8 0) rfl rfl (y_assign rfl (by kernel_rfl) (by kernel_rfl)) rfl ?_
            refine wp_y (v := .bool false) rfl rfl (y_assign rfl (by kernel_rfl) (by kernel_rfl)) rfl ?_
            try simp only [List.setIfInBounds_toArray, List.set_cons_zero, List.set_cons_succ]
            refine wp_end ?_
            go_wp2
            go_returns
            exact ⟨by rw [unRes_none HBAD.out]; rfl, by first | exact HB.out | (rw [hb]; exact HB.out)⟩
          | some y =>
            have HYL := hidM (ud_lt hub)
            have hst := rdN_good HR.out (by rw [← hj]; exact hua) (by rw [← hj]; exact hub)
            obtain ⟨w2, hAP, hO2, hB2⟩ := app_in m [UInt8.ofNat (x * 16 + y)] (k := 1) hO rfl (by omega) (by have := HSB.out; omega) 25
            have HAP := hidM hAP
            have HO2 := hidM hO2
            have HB2 := hidM hB2
            have HST := hidM hst
            have HUA := hidM hua
            have HUB := hidM hub
            clear hAP hO2 hB2 hst hua hub hO hj hn
            go_upto_region 7 with fail
            refine wp_region_lit ?_
            refine wp_y (v := .string ⟨l.toArray⟩) rfl rfl (y_move rfl (by kernel_rfl) (by kernel_rfl)) rfl ?_
            refine wp_y (v := .int .i64 j) rfl rfl (y_move rfl (by kernel_rfl) (by kernel_rfl)) rfl ?_
            refine wp_y (v := .int .u8 ((l.getD j 0).toNat : Nat)) rfl rfl (y_idx rfl (by kernel_rfl) (by kernel_rfl) (by kernel_rfl) (strIdx l j (by have := HK.out; omega))) rfl ?_
            refine wp_call (f := 27) (args := #[.int .u8 ((l.getD j 0).toNat : Nat)]) (by kernel_rfl) (fun w => by go_simp) ?_
            refine (digitOf_some HUA.out _).mono ?_
            rintro e w3 ⟨rfl, hw3⟩
            replace hw3 := hw3.symm
            subst hw3
            refine ⟨_, rfl, ?_⟩
            dsimp only [Act.put]
            refine wp_y (v := .tuple #[.int .u8 x, .bool true]) rfl rfl (y_move rfl (by kernel_rfl) (by kernel_rfl)) rfl ?_
            refine wp_y (v := .int .u8 x) rfl rfl (y_ext rfl (by kernel_rfl) (by kernel_rfl) (ext0 (.int .u8 x) (.bool true))) rfl ?_
            refine wp_y (v := .bool true) rfl rfl (y_ext rfl (by kernel_rfl) (by kernel_rfl) (ext1 (.int .u8 x) (.bool true))) rfl ?_
            refine wp_y (v := .int .u8 x) rfl rfl (y_assign rfl (by kernel_rfl) (by kernel_rfl)) rfl ?_
            simp only [List.setIfInBounds_toArray, List.set_cons_zero, List.set_cons_succ]
            refine wp_y (v := .bool true) rfl rfl (y_assign rfl (by kernel_rfl) (by kernel_rfl)) rfl ?_
            try simp only [List.setIfInBounds_toArray, List.set_cons_zero, List.set_cons_succ]
            refine wp_end ?_
            go_upto_region 8 with fail
            refine wp_region_lit ?_
            refine wp_y (v := .string ⟨l.toArray⟩) rfl rfl (y_move rfl (by kernel_rfl) (by kernel_rfl)) rfl ?_
            refine wp_y (v := .int .i64 j) rfl rfl (y_move rfl (by kernel_rfl) (by kernel_rfl)) rfl ?_
            refine wp_y (v := .int .i64 (j + 1 : Nat)) rfl rfl (y_bin rfl (by kernel_rfl) (by kernel_rfl) (by kernel_rfl) (add1 j (by have := HK.out; have := HS.out; omega))) rfl ?_
            refine wp_y (v := .int .u8 ((l.getD (j + 1) 0).toNat : Nat)) rfl rfl (y_idx rfl (by kernel_rfl) (by kernel_rfl) (by kernel_rfl) (strIdx l (j + 1) (by have := HK.out; omega))) rfl ?_
            refine wp_call (f := 27) (args := #[.int .u8 ((l.getD (j + 1) 0).toNat : Nat)]) (by kernel_rfl) (fun w => by go_simp) ?_
            refine (digitOf_some HUB.out _).mono ?_
            rintro e w3 ⟨rfl, hw3⟩
            replace hw3 := hw3.symm
            subst hw3
            refine ⟨_, rfl, ?_⟩
            dsimp only [Act.put]
            refine wp_y (v := .tuple #[.int .u8 y, .bool true]) rfl rfl (y_move rfl (by kernel_rfl) (by kernel_rfl)) rfl ?_
            refine wp_y (v := .int .u8 y) rfl rfl (y_ext rfl (by kernel_rfl) (by kernel_rfl) (ext0 (.int .u8 y) (.bool true))) rfl ?_
            refine wp_y (v := .bool true) rfl rfl (y_ext rfl (by kernel_rfl) (by kernel_rfl) (ext1 (.int .u8 y) (.bool true))) rfl ?_
            simp only [List.setIfInBounds_toArray, List.set_cons_zero, List.set_cons_succ]
            refine wp_y (v := .int .u8 y) rfl rfl (y_assign rfl (by kernel_rfl) (by kernel_rfl)) rfl ?_
            refine wp_y (v := .bool true) rfl rfl (y_assign rfl (by kernel_rfl) (by kernel_rfl)) rfl ?_
            try simp only [List.setIfInBounds_toArray, List.set_cons_zero, List.set_cons_succ]
            refine wp_end ?_
            go_upto_region 11 with fail
            refine wp_region_lit ?_
            refine wp_y (v := .slice (some ⟨b, 0, none⟩) k n) rfl rfl (y_move rfl (by kernel_rfl) (by kernel_rfl)) rfl ?_
            refine wp_y (v := .int .u8 x) rfl rfl (y_move rfl (by kernel_rfl) (by kernel_rfl)) rfl ?_
            refine wp_y (v := .int .u8 (x * 16 : Nat)) rfl rfl (y_bin rfl (by kernel_rfl) (by kernel_rfl) (by kernel_rfl) (mulx x HXL.out)) rfl ?_
            refine wp_y (v := .int .u8 y) rfl rfl (y_move rfl (by kernel_rfl) (by kernel_rfl)) rfl ?_
            refine wp_y (v := .int .u8 (x * 16 + y : Nat)) rfl rfl (y_bin rfl (by kernel_rfl) (by kernel_rfl) (by kernel_rfl) (addx x y HXL.out HYL.out)) rfl ?_
            refine wp_run (v := .slice (some ⟨wr.heap.size, 0, none⟩) 1 1) rfl rfl (run_bsOp rfl (by kernel_rfl) (bslice1 wr (x * 16 + y) (by have := HXL.out; have := HYL.out; omega))) rfl ?_
            refine wp_run (v := .slice (some ⟨b, 0, none⟩) (k + 1) n) rfl rfl (run_appOp rfl (by kernel_rfl) (by kernel_rfl) HAP.out) rfl ?_
            refine wp_y (v := .slice (some ⟨b, 0, none⟩) (k + 1) n) rfl rfl (y_assign rfl (by kernel_rfl) (by kernel_rfl)) rfl ?_
            try simp only [List.setIfInBounds_toArray, List.set_cons_zero, List.set_cons_succ]
            refine wp_end ?_
            go_wp2
            exact ⟨⟨k + 1, j + 2, _, by omega, by have := HJ.out; omega, rfl, rfl, HST.out, HO2.out, HB.out.trans HB2.out, Nat.lt_of_lt_of_le HSB.out HB2.out.size⟩, by simp [intOf]; omega⟩
      · have hkl : k = n := by omega
        subst hkl
        have hml := rdN_len HR.out
        have hgood : unhex l = some m := by rw [unhex_even hev, ← hn]; exact HR.out
        have HGD := hidM hgood
        have hsl := Sl.mk (cap := k) (owns_rd (l := m) hO) (by omega)
        rw [hml] at hsl
        have hcv := conv_sl hsl
        have hend : ¬ (j : Int) < (l.length : Int) := by omega
        clear hO hsl hgood hml hj hn
        go_wp2
        go_returns
        exact ⟨by rw [unRes_some HGD.out]; rfl, by first | exact HB.out | (rw [hb]; exact HB.out)⟩
  · have hev' : (l.length : Int) % 2 = 1 := by omega
    have hno : unhex l = none := by unfold unhex; rw [if_neg hev]
    have HNO := hidM hno
    clear hno
    go_enter Tryd.func15, Tryd.ntmps15
    go_wp2
    go_returns
    exact ⟨by rw [unRes_none HNO.out]; rfl, Below.refl _ _⟩

set_option maxHeartbeats 2000000 in
theorem refUnhex_any (l : List UInt8) (hl : l.length ≤ 281474976710656) (w : World) :
    Calls Tryd.prog 16 #[.string ⟨l.toArray⟩] w fun e w' => e = .returned (unRes l) ∧ Below w.heap.size w w' := by
  have hsz : (⟨l.toArray⟩ : ByteArray).size = l.length := by simp [ByteArray.size]
  have HSZ := hidM hsz
  have HS := hidM hl
  by_cases hev : l.length % 2 = 0
  · have hev' : (l.length : Int) % 2 = 0 := by omega
    have HEV := hidM hev
    obtain ⟨n, hn⟩ : ∃ n, n = l.length / 2 := ⟨_, rfl⟩
    obtain ⟨w1, hM, hO, hB1⟩ := make25 w n (by omega)
    have HN := hidM hn
    have HM := hidM hM
    have HO1 := hidM hO
    have HB1 := hidM hB1
    clear hM hO hB1
    go_enter Tryd.func16, Tryd.ntmps16
    go_upto_region 3 with fail
    generalize hb : w.heap.size = b at *
    refine wp_region_lit ?_
    refine wp_y (v := .string ⟨l.toArray⟩) rfl rfl (y_move rfl (by kernel_rfl) (by kernel_rfl)) rfl ?_
    refine wp_y (v := .int .i64 l.length) rfl rfl (y_lenS rfl (by kernel_rfl) (by kernel_rfl) HSZ.out) rfl ?_
    refine wp_y (v := .int .i64 n) rfl rfl (y_bin rfl (by kernel_rfl) (by kernel_rfl) (by kernel_rfl) (quo2 l.length n HN.out HS.out)) rfl ?_
    refine wp_run (v := .slice (some ⟨b, 0, none⟩) 0 n) rfl rfl (run_mkOp rfl (by kernel_rfl) (by kernel_rfl) HM.out) rfl ?_
    refine wp_y (v := .slice (some ⟨b, 0, none⟩) 0 n) rfl rfl (y_assign rfl (by kernel_rfl) (by kernel_rfl)) rfl ?_
    try simp only [List.setIfInBounds_toArray, List.set_cons_zero, List.set_cons_succ]
    refine wp_end ?_
    clear hev'
    go_wp2_with fail
    go_loopw [5, 4, 6, 7] (fun x v _ _ wr => ∃ (k j : Nat) (m : List UInt8), k ≤ n ∧ j = 2 * k ∧ x = .int .i64 j ∧ v = .slice (some ⟨b, 0, none⟩) k n ∧ rdN l k = some m ∧ wr.ownsRow b 5 1 (.slice (some ⟨b, 0, none⟩) k n) k (cells8 m) ∧ Below b w wr ∧ b < wr.heap.size) (fun x _ _ _ _ => l.length - (intOf x).toNat)
    case atStart => exact ⟨0, 0, [], Nat.zero_le _, rfl, rfl, rfl, rfl, HO1.out, HB1.out, (HO1.out.lt _ rfl).2⟩
    case round =>
      clear HM HO1 HB1
      obtain ⟨k, j, m, hk, hj, rfl, rfl, hm, hO, hBr, hs⟩ := hrel
      have HB := hidM hBr
      have HSB := hidM hs
      have HR := hidM hm
      clear hBr hs hm
      by_cases hlt : k < n
      · have hlt' : (j : Int) < (l.length : Int) := by omega
        have hwk : IntKind.i64.wrap ((j : Int) + 2) = ((j + 2 : Nat) : Int) := by rw [IntWalk.i64_in _ ⟨by omega, by omega⟩]; omega
        have HK : Hid (j + 1 < l.length) := hidM (by omega)
        have HJ := hidM hj
        cases hua : ud (l.getD j 0) with
        | none =>
          have hbad := unhex_bad hn hev hlt (rdN_bad1 (by rw [← hj]; exact hua))
          have HBAD := hidM hbad
          have HUA := hidM hua
          clear hbad hua hO hj hn
          go_upto_region 7 with fail
          refine wp_region_lit ?_
          refine wp_y (v := .string ⟨l.toArray⟩) rfl rfl (y_move rfl (by kernel_rfl) (by kernel_rfl)) rfl ?_
          refine wp_y (v := .int .i64 j) rfl rfl (y_move rfl (by kernel_rfl) (by kernel_rfl)) rfl ?_
          refine wp_y (v := .int .u8 ((l.getD j 0).toNat : Nat)) rfl rfl (y_idx rfl (by kernel_rfl) (by kernel_rfl) (by kernel_rfl) (strIdx l j (by have := HK.out; omega))) rfl ?_
          refine wp_call (f := 28) (args := #[.int .u8 ((l.getD j 0).toNat : Nat)]) (by kernel_rfl) (fun w => by go_simp) ?_
          refine (digit_none HUA.out _).mono ?_
          rintro e w3 ⟨rfl, hw3⟩
          replace hw3 := hw3.symm
          subst hw3
          refine ⟨_, rfl, ?_⟩
          dsimp only [Act.put]
          refine wp_y (v := .int .i64 (-1)) rfl rfl (y_assign rfl (by kernel_rfl) (by kernel_rfl)) rfl ?_
          try simp only [List.setIfInBounds_toArray, List.set_cons_zero, List.set_cons_succ]
          refine wp_end ?_
          cases hub : ud (l.getD (j + 1) 0) with
          | none =>
            have HUB := hidM hub
            clear hub
            go_upto_region 8 with fail
            refine wp_region_lit ?_
            refine wp_y (v := .string ⟨l.toArray⟩) rfl rfl (y_move rfl (by kernel_rfl) (by kernel_rfl)) rfl ?_
            refine wp_y (v := .int .i64 j) rfl rfl (y_move rfl (by kernel_rfl) (by kernel_rfl)) rfl ?_
            refine wp_y (v := .int .i64 (j + 1 : Nat)) rfl rfl (y_bin rfl (by kernel_rfl) (by kernel_rfl) (by kernel_rfl) (add1 j (by have := HK.out; have := HS.out; omega))) rfl ?_
            refine wp_y (v := .int .u8 ((l.getD (j + 1) 0).toNat : Nat)) rfl rfl (y_idx rfl (by kernel_rfl) (by kernel_rfl) (by kernel_rfl) (strIdx l (j + 1) (by have := HK.out; omega))) rfl ?_
            refine wp_call (f := 28) (args := #[.int .u8 ((l.getD (j + 1) 0).toNat : Nat)]) (by kernel_rfl) (fun w => by go_simp) ?_
            refine (digit_none HUB.out _).mono ?_
            rintro e w3 ⟨rfl, hw3⟩
            replace hw3 := hw3.symm
            subst hw3
            refine ⟨_, rfl, ?_⟩
            dsimp only [Act.put]
            refine wp_y (v := .int .i64 (-1)) rfl rfl (y_assign rfl (by kernel_rfl) (by kernel_rfl)) rfl ?_
            try simp only [List.setIfInBounds_toArray, List.set_cons_zero, List.set_cons_succ]
            refine wp_end ?_
            go_wp2
            go_returns
            exact ⟨by rw [unRes_none HBAD.out]; rfl, by first | exact HB.out | (rw [hb]; exact HB.out)⟩
          | some y =>
            have HUB := hidM hub
            clear hub
            go_upto_region 8 with fail
            refine wp_region_lit ?_
            refine wp_y (v := .string ⟨l.toArray⟩) rfl rfl (y_move rfl (by kernel_rfl) (by kernel_rfl)) rfl ?_
            refine wp_y (v := .int .i64 j) rfl rfl (y_move rfl (by kernel_rfl) (by kernel_rfl)) rfl ?_
            refine wp_y (v := .int .i64 (j + 1 : Nat)) rfl rfl (y_bin rfl (by kernel_rfl) (by kernel_rfl) (by kernel_rfl) (add1 j (by have := HK.out; have := HS.out; omega))) rfl ?_
            refine wp_y (v := .int .u8 ((l.getD (j + 1) 0).toNat : Nat)) rfl rfl (y_idx rfl (by kernel_rfl) (by kernel_rfl) (by kernel_rfl) (strIdx l (j + 1) (by have := HK.out; omega))) rfl ?_
            refine wp_call (f := 28) (args := #[.int .u8 ((l.getD (j + 1) 0).toNat : Nat)]) (by kernel_rfl) (fun w => by go_simp) ?_
            refine (digit_some HUB.out _).mono ?_
            rintro e w3 ⟨rfl, hw3⟩
            replace hw3 := hw3.symm
            subst hw3
            refine ⟨_, rfl, ?_⟩
            dsimp only [Act.put]
            refine wp_y (v := .int .i64 y) rfl rfl (y_assign rfl (by kernel_rfl) (by kernel_rfl)) rfl ?_
            try simp only [List.setIfInBounds_toArray, List.set_cons_zero, List.set_cons_succ]
            refine wp_end ?_
            go_wp2
            go_returns
            exact ⟨by rw [unRes_none HBAD.out]; rfl, by first | exact HB.out | (rw [hb]; exact HB.out)⟩
        | some x =>
          have HXL := hidM (ud_lt hua)
          cases hub : ud (l.getD (j + 1) 0) with
          | none =>
            have hbad := unhex_bad hn hev hlt (rdN_bad2 (by rw [← hj]; exact hub))
            have HBAD := hidM hbad
            have HUA := hidM hua
            have HUB := hidM hub
            clear hbad hua hub hO hj hn
            go_upto_region 7 with fail
            refine wp_region_lit ?_
            refine wp_y (v := .string ⟨l.toArray⟩) rfl rfl (y_move rfl (by kernel_rfl) (by kernel_rfl)) rfl ?_
            refine wp_y (v := .int .i64 j) rfl rfl (y_move rfl (by kernel_rfl) (by kernel_rfl)) rfl ?_
            refine wp_y (v := .int .u8 ((l.getD j 0).toNat : Nat)) rfl rfl (y_idx rfl (by kernel_rfl) (by kernel_rfl) (by kernel_rfl) (strIdx l j (by have := HK.out; omega))) rfl ?_
            refine wp_call (f := 28) (args := #[.int .u8 ((l.getD j 0).toNat : Nat)]) (by kernel_rfl) (fun w => by go_simp) ?_
            refine (digit_some HUA.out _).mono ?_
            rintro e w3 ⟨rfl, hw3⟩
            replace hw3 := hw3.symm
            subst hw3
            refine ⟨_, rfl, ?_⟩
            dsimp only [Act.put]
            refine wp_y (v := .int .i64 x) rfl rfl (y_assign rfl (by kernel_rfl) (by kernel_rfl)) rfl ?_
            try simp only [List.setIfInBounds_toArray, List.set_cons_zero, List.set_cons_succ]
            refine wp_end ?_
            go_upto_region 8 with fail
            refine wp_region_lit ?_
            refine wp_y (v := .string ⟨l.toArray⟩) rfl rfl (y_move rfl (by kernel_rfl) (by kernel_rfl)) rfl ?_
            refine wp_y (v := .int .i64 j) rfl rfl (y_move rfl (by kernel_rfl) (by kernel_rfl)) rfl ?_
            refine wp_y (v := .int .i64 (j + 1 : Nat)) rfl rfl (y_bin rfl (by kernel_rfl) (by kernel_rfl) (by kernel_rfl) (add1 j (by have := HK.out; have := HS.out; omega))) rfl ?_
            refine wp_y (v := .int .u8 ((l.getD (j + 1) 0).toNat : Nat)) rfl rfl (y_idx rfl (by kernel_rfl) (by kernel_rfl) (by kernel_rfl) (strIdx l (j + 1) (by have := HK.out; omega))) rfl ?_
            refine wp_call (f := 28) (args := #[.int .u8 ((l.getD (j + 1) 0).toNat : Nat)]) (by kernel_rfl) (fun w => by go_simp) ?_
            refine (digit_none HUB.out _).mono ?_
            rintro e w3 ⟨rfl, hw3⟩
            replace hw3 := hw3.symm
            subst hw3
            refine ⟨_, rfl, ?_⟩
            dsimp only [Act.put]
            refine wp_y (v := .int .i64 (-1)) rfl rfl (y_assign rfl (by kernel_rfl) (by kernel_rfl)) rfl ?_
            try simp only [List.setIfInBounds_toArray, List.set_cons_zero, List.set_cons_succ]
            refine wp_end ?_
            go_wp2
            go_returns
            exact ⟨by rw [unRes_none HBAD.out]; rfl, by first | exact HB.out | (rw [hb]; exact HB.out)⟩
          | some y =>
            have HYL := hidM (ud_lt hub)
            have hst := rdN_good HR.out (by rw [← hj]; exact hua) (by rw [← hj]; exact hub)
            obtain ⟨w2, hAP, hO2, hB2⟩ := app_in m [UInt8.ofNat (x * 16 + y)] (k := 1) hO rfl (by omega) (by have := HSB.out; omega) 25
            have HAP := hidM hAP
            have HO2 := hidM hO2
            have HB2 := hidM hB2
            have HST := hidM hst
            have HUA := hidM hua
            have HUB := hidM hub
            clear hAP hO2 hB2 hst hua hub hO hj hn
            go_upto_region 7 with fail
            refine wp_region_lit ?_
            refine wp_y (v := .string ⟨l.toArray⟩) rfl rfl (y_move rfl (by kernel_rfl) (by kernel_rfl)) rfl ?_
            refine wp_y (v := .int .i64 j) rfl rfl (y_move rfl (by kernel_rfl) (by kernel_rfl)) rfl ?_
            refine wp_y (v := .int .u8 ((l.getD j 0).toNat : Nat)) rfl rfl (y_idx rfl (by kernel_rfl) (by kernel_rfl) (by kernel_rfl) (strIdx l j (by have := HK.out; omega))) rfl ?_
            refine wp_call (f := 28) (args := #[.int .u8 ((l.getD j 0).toNat : Nat)]) (by kernel_rfl) (fun w => by go_simp) ?_
            refine (digit_some HUA.out _).mono ?_
            rintro e w3 ⟨rfl, hw3⟩
            replace hw3 := hw3.symm
            subst hw3
            refine ⟨_, rfl, ?_⟩
            dsimp only [Act.put]
            refine wp_y (v := .int .i64 x) rfl rfl (y_assign rfl (by kernel_rfl) (by kernel_rfl)) rfl ?_
            try simp only [List.setIfInBounds_toArray, List.set_cons_zero, List.set_cons_succ]
            refine wp_end ?_
            go_upto_region 8 with fail
            refine wp_region_lit ?_
            refine wp_y (v := .string ⟨l.toArray⟩) rfl rfl (y_move rfl (by kernel_rfl) (by kernel_rfl)) rfl ?_
            refine wp_y (v := .int .i64 j) rfl rfl (y_move rfl (by kernel_rfl) (by kernel_rfl)) rfl ?_
            refine wp_y (v := .int .i64 (j + 1 : Nat)) rfl rfl (y_bin rfl (by kernel_rfl) (by kernel_rfl) (by kernel_rfl) (add1 j (by have := HK.out; have := HS.out; omega))) rfl ?_
            refine wp_y (v := .int .u8 ((l.getD (j + 1) 0).toNat : Nat)) rfl rfl (y_idx rfl (by kernel_rfl) (by kernel_rfl) (by kernel_rfl) (strIdx l (j + 1) (by have := HK.out; omega))) rfl ?_
            refine wp_call (f := 28) (args := #[.int .u8 ((l.getD (j + 1) 0).toNat : Nat)]) (by kernel_rfl) (fun w => by go_simp) ?_
            refine (digit_some HUB.out _).mono ?_
            rintro e w3 ⟨rfl, hw3⟩
            replace hw3 := hw3.symm
            subst hw3
            refine ⟨_, rfl, ?_⟩
            dsimp only [Act.put]
            refine wp_y (v := .int .i64 y) rfl rfl (y_assign rfl (by kernel_rfl) (by kernel_rfl)) rfl ?_
            try simp only [List.setIfInBounds_toArray, List.set_cons_zero, List.set_cons_succ]
            refine wp_end ?_
            go_upto_region 11 with fail
            refine wp_region_lit ?_
            refine wp_y (v := .slice (some ⟨b, 0, none⟩) k n) rfl rfl (y_move rfl (by kernel_rfl) (by kernel_rfl)) rfl ?_
            refine wp_y (v := .int .i64 x) rfl rfl (y_move rfl (by kernel_rfl) (by kernel_rfl)) rfl ?_
            refine wp_y (v := .int .i64 (x * 16 : Nat)) rfl rfl (y_bin rfl (by kernel_rfl) (by kernel_rfl) (by kernel_rfl) (mulX x HXL.out)) rfl ?_
            refine wp_y (v := .int .i64 y) rfl rfl (y_move rfl (by kernel_rfl) (by kernel_rfl)) rfl ?_
            refine wp_y (v := .int .i64 (x * 16 + y : Nat)) rfl rfl (y_bin rfl (by kernel_rfl) (by kernel_rfl) (by kernel_rfl) (addX x y HXL.out HYL.out)) rfl ?_
            refine wp_y (v := .int .u8 (x * 16 + y : Nat)) rfl rfl (y_cnv rfl (by kernel_rfl) (by kernel_rfl) (cnvX _ (by have := HXL.out; have := HYL.out; omega))) rfl ?_
            refine wp_run (v := .slice (some ⟨wr.heap.size, 0, none⟩) 1 1) rfl rfl (run_bsOp rfl (by kernel_rfl) (bslice1 wr (x * 16 + y) (by have := HXL.out; have := HYL.out; omega))) rfl ?_
            refine wp_run (v := .slice (some ⟨b, 0, none⟩) (k + 1) n) rfl rfl (run_appOp rfl (by kernel_rfl) (by kernel_rfl) HAP.out) rfl ?_
            simp only [List.setIfInBounds_toArray, List.set_cons_zero, List.set_cons_succ]
            refine wp_y (v := .slice (some ⟨b, 0, none⟩) (k + 1) n) rfl rfl (y_assign rfl (by kernel_rfl) (by kernel_rfl)) rfl ?_
            try simp only [List.setIfInBounds_toArray, List.set_cons_zero, List.set_cons_succ]
            refine wp_end ?_
            go_wp2
            exact ⟨⟨k + 1, j + 2, _, by omega, by have := HJ.out; omega, rfl, rfl, HST.out, HO2.out, HB.out.trans HB2.out, Nat.lt_of_lt_of_le HSB.out HB2.out.size⟩, by simp [intOf]; omega⟩
      · have hkl : k = n := by omega
        subst hkl
        have hml := rdN_len HR.out
        have hgood : unhex l = some m := by rw [unhex_even hev, ← hn]; exact HR.out
        have HGD := hidM hgood
        have hsl := Sl.mk (cap := k) (owns_rd (l := m) hO) (by omega)
        rw [hml] at hsl
        have hcv := conv_sl hsl
        have hend : ¬ (j : Int) < (l.length : Int) := by omega
        clear hO hsl hgood hml hj hn
        go_wp2
        go_returns
        exact ⟨by rw [unRes_some HGD.out]; rfl, by first | exact HB.out | (rw [hb]; exact HB.out)⟩
  · have hev' : (l.length : Int) % 2 = 1 := by omega
    have hno : unhex l = none := by unfold unhex; rw [if_neg hev]
    have HNO := hidM hno
    clear hno
    go_enter Tryd.func16, Tryd.ntmps16
    go_wp2
    go_returns
    exact ⟨by rw [unRes_none HNO.out]; rfl, Below.refl _ _⟩
end Go.Proofs.YtcjhimakbopipaaDoor
