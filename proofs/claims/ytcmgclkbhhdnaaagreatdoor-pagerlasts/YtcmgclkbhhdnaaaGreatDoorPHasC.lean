/- the text PHas -/
import Derived.Test.YtcmgclkbhhdnaaaGreatDoorPBothC
namespace Go.Proofs.YtcmgclkbhhdnaaaGreatDoor
open Go Go.RowKit
variable {Z : Nat → Prop}

theorem neqI (a b : Int) (r : Bool) (h : (a != b) = r) (w : World) : (binOp .neq 3 (.int .i64 a) (.int .i64 b)).run Tryz.prog w = .ok (.bool r) w := by subst h; go_simp
theorem y_lenT {t : TypeId} (hl : ∀ (p : Option Addr) (n c : Nat) (ty : TypeId) (w : World), (Builtin.len_ #[t] ty #[.slice p n c]).run Tryz.prog w = .ok (.int .i64 n) w) {ops : Array Oper} {S : World → Prop} {o : Oper} {a : Act} {x : Operand} {p : Option Addr} {n c : Nat} (hop : o.op = .call { callee := .builtin .len, args := #[x], argTypes := #[t] }) (hw : Region.wanted o (yielded ops a.tmps) = true) (hx : a.eval x = .slice p n c) : YieldsIf Tryz.prog ops S o (.int .i64 n) a :=
  .inl ⟨hw, fun w _ => by
    have h1 : (Builtin.len_ #[t] o.type #[a.eval x]).run Tryz.prog w = .ok (.int .i64 n) w := by rw [hx]; exact hl p n c o.type w
    unfold execOp
    simp only [hop, resolve, invoke, builtin, Sem.run_bind, Sem.run_pure, Result.andThen_ok, List.map_toArray, List.map_cons, List.map_nil, h1]⟩
theorem lenP (p : Option Addr) (n c : Nat) (ty : TypeId) (w : World) : (Builtin.len_ #[91] ty #[.slice p n c]).run Tryz.prog w = .ok (.int .i64 n) w := by go_simp
theorem y_eqN {ops : Array Oper} {S : World → Prop} {o : Oper} {a : Act} {x y : Operand} {t t' : TypeId} {ad : Addr} (hop : o.op = .binOp .eql t x y t') (hw : Region.wanted o (yielded ops a.tmps) = true) (hx : a.eval x = .pointer (some ad)) (hy : a.eval y = .pointer none)
    (hr : ∀ w, (binOp .eql t (.pointer (some ad)) (.pointer none)).run Tryz.prog w = .ok (.bool false) w) : YieldsIf Tryz.prog ops S o (.bool false) a :=
  .inl ⟨hw, fun w _ => by
    unfold execOp; rw [hop]; simp only [hx, hy, Sem.run_bind]
    have : (eqGuard .eql t x y (.pointer (some ad)) (.pointer none)).run Tryz.prog w = .ok () w := by
      unfold eqGuard; go_simp
    rw [this]; simp only [Result.andThen_ok, hr w]; rfl⟩
theorem y_convS {ops : Array Oper} {S : World → Prop} {o : Oper} {a : Act} {x : Operand} {v u : Value} (hop : o.op = .convert 49 9 x) (hw : Region.wanted o (yielded ops a.tmps) = true) (hv : a.eval x = v)
    (hc : ∀ w, S w → (convert 49 9 v).run Tryz.prog w = .ok u w) : YieldsIf Tryz.prog ops S o u a :=
  .inl ⟨hw, fun w h => by unfold execOp; rw [hop]; simp [hv, hc w h]⟩
theorem pgs_ext {c c2 : Pgs} (hl : c.length = c2.length) (h : ∀ m : Int, 0 ≤ m → m < (c.length : Int) → pgB c m = pgB c2 m ∧ pgE c m = pgE c2 m) : c = c2 := by
  refine List.ext_getElem? fun k => ?_
  by_cases hk : k < c.length
  · obtain ⟨h1, h2⟩ := h k (by omega) (by omega)
    have e : ((k : Int)).toNat = k := by omega
    unfold pgB at h1
    unfold pgE at h2
    rw [e, decide_eq_true (show (0 : Int) ≤ k by omega)] at h1 h2
    rw [List.getElem?_eq_getElem hk, List.getElem?_eq_getElem (by omega)] at h1 h2 ⊢
    generalize c[k] = x at *
    generalize c2[k] = y at *
    cases x <;> cases y <;> simp_all
  · rw [List.getElem?_eq_none (by omega), List.getElem?_eq_none (by omega)]
set_option maxRecDepth 100000 in
set_option maxHeartbeats 4000000 in
theorem lhas_any {B B2 : Nat} {w : World} {p j d r : Nat} {s : DS} {sq : Nat} {bl : List (List UInt8)} {cur was cur2 was2 : Pgs} {rt wr rt2 wr2 : Int} {ch : Bool} (hP : Pv B w p j d s sq bl cur was rt wr) (hR : Rp Z w B2 r cur2 was2 rt2 wr2 ch) (hl : cur2.length = cur.length) :
    Calls Tryz.prog 16 #[.pointer (some ⟨p, 0, none⟩), .pointer (some ⟨r, 0, none⟩)] w fun e w' => e = .returned (.bool (decide (cur = cur2 ∧ rt = rt2))) ∧ Below w.heap.size w w' := by
  obtain ⟨RR, hRR⟩ : ∃ RR, RR = decide (cur = cur2 ∧ rt = rt2) := ⟨_, rfl⟩
  rw [← hRR]
  have HRR := hid hRR
  obtain ⟨n, hn⟩ : ∃ n, cur.length = n := ⟨_, rfl⟩
  have hn2 : cur2.length = n := hl.trans hn
  have hle := hP.le
  have HN : Hid (cur.length = n ∧ cur2.length = n ∧ n ≤ 1023) := hid ⟨hn, hn2, by omega⟩
  have hd : Below w.heap.size w w.drew := (Below.refl _ _).drew
  have hPd := hP.below hd
  have hRd := hR.below hd
  have hpg := hPd.pages
  rw [hn] at hpg
  have HPG := hid hpg
  have HLF := hid hPd.left
  have HRT := hid hPd.root
  have HRL := hid (rleft_any hRd (by omega))
  have HB0 := hid hd
  have HP0 := hid hPd
  have HR0 := hid hRd
  obtain ⟨_, vp, vw, al, be, hr, hp, _⟩ := hRd
  obtain ⟨a2, c2, rfl⟩ := owns_shape hp
  rw [hn2] at hr
  have HRC := hid hr
  have HL0 := hid (load1 Tryz.isAgg91 (cell_at hr 0 rfl))
  have HL1 := hid (load1 Tryz.isAgg3 (cell_at hr 1 rfl))
  have HNN : Hid ((((n : Nat) : Int) != ((n : Nat) : Int)) = false) := hid (by simp)
  have HNF : Hid (((nf cur : Nat) : Int) != ((nf cur2 : Nat) : Int) → cur ≠ cur2) := hid (fun h e => by rw [e] at h; simp at h)
  generalize nf cur = nc at *
  generalize nf cur2 = nc2 at *
  obtain ⟨b1, hb1⟩ : ∃ b, (((nc : Nat) : Int) != ((nc2 : Nat) : Int)) = b := ⟨_, rfl⟩
  obtain ⟨b2, hb2⟩ : ∃ b, (rt != rt2) = b := ⟨_, rfl⟩
  have HB1 := hid hb1
  have HB2 := hid hb2
  clear hP hR hl hRR hn hn2 hle hd hPd hpg hr hp hb1 hb2
  cases b1 with
  | true =>
    have hbad : RR = false := by
      rw [HRR.out]
      exact decide_eq_false (fun e => HNF.out HB1.out e.1)
    subst hbad
    clear HNF
    go_enter Tryz.func16, Tryz.ntmps16
    go_upto_region 1 with fail
    refine h_openL (S := fun w' => w' = w.drew) (by kernel_rfl) (by kernel_rfl) (fun _ _ _ _ _ h => h) (L := #[false, false, false, false, false, false, false, false, false, false, false, false, false, false, false, false, false, false, false, false, false, false, false, false, false, false, false, false, false, false]) (by kernel_rfl) ?_
    intro Q' hns hP hN
    have hS := (rfl : w.drew = w.drew)
    refine h_takeL (i := 0) (v := .pointer (some ⟨p, 0, none⟩)) hns rfl rfl (by kernel_rfl) (by kernel_rfl) hP (y_move rfl) hS rfl (L' := #[true, false, false, false, false, false, false, false, false, false, false, false, false, false, false, false, false, false, false, false, false, false, false, false, false, false, false, false, false, false]) (by kernel_rfl) ?_
    refine h_takeL (i := 1) (v := .bool false) hns rfl rfl (by kernel_rfl) (by kernel_rfl) hP (y_eqN (ad := ⟨p, 0, none⟩) rfl (by kernel_rfl) (by kernel_rfl) (by kernel_rfl) (fun w => by go_simp)) hS rfl (L' := #[true, true, false, false, false, false, false, false, false, false, false, false, false, false, false, false, false, false, false, false, false, false, false, false, false, false, false, false, false, false]) (by kernel_rfl) ?_
    refine h_takeL (i := 2) (v := .bool false) hns rfl rfl (by kernel_rfl) (by kernel_rfl) hP (y_move rfl) hS rfl (L' := #[true, true, true, false, false, false, false, false, false, false, false, false, false, false, false, false, false, false, false, false, false, false, false, false, false, false, false, false, false, false]) (by kernel_rfl) ?_
    refine h_takeL (i := 3) (v := .pointer (some ⟨p, 0, none⟩)) hns rfl rfl (by kernel_rfl) (by kernel_rfl) hP (y_move rfl) hS rfl (L' := #[true, true, true, true, false, false, false, false, false, false, false, false, false, false, false, false, false, false, false, false, false, false, false, false, false, false, false, false, false, false]) (by kernel_rfl) ?_
    refine h_takeL (i := 5) (v := .pointer (some ⟨r, 0, none⟩)) hns rfl rfl (by kernel_rfl) (by kernel_rfl) hP (y_move rfl) hS rfl (L' := #[true, true, true, true, false, true, false, false, false, false, false, false, false, false, false, false, false, false, false, false, false, false, false, false, false, false, false, false, false, false]) (by kernel_rfl) ?_
    refine h_takeL (i := 6) (v := .pointer (some ⟨r, 0, none⟩)) hns rfl rfl (by kernel_rfl) (by kernel_rfl) hP (y_nil rfl) hS rfl (L' := #[true, true, true, true, false, true, true, false, false, false, false, false, false, false, false, false, false, false, false, false, false, false, false, false, false, false, false, false, false, false]) (by kernel_rfl) ?_
    refine h_takeL (i := 7) (v := .pointer (some ⟨r, 0, none⟩)) hns rfl rfl (by kernel_rfl) (by kernel_rfl) hP (y_faddr rfl (hf := fa95_0 (r))) hS rfl (L' := #[true, true, true, true, false, true, true, true, false, false, false, false, false, false, false, false, false, false, false, false, false, false, false, false, false, false, false, false, false, false]) (by kernel_rfl) ?_
    try simp only [List.setIfInBounds_toArray, List.set_cons_zero, List.set_cons_succ]
    refine h_takeL (i := 8) (v := .pointer (some ⟨r, 0, none⟩)) hns rfl rfl (by kernel_rfl) (by kernel_rfl) hP (y_faddr rfl (hf := fg93_0 (r) (0))) hS rfl (L' := #[true, true, true, true, false, true, true, true, true, false, false, false, false, false, false, false, false, false, false, false, false, false, false, false, false, false, false, false, false, false]) (by kernel_rfl) ?_
    refine h_takeL (i := 9) (v := .slice a2 n c2) hns rfl rfl (by kernel_rfl) (by kernel_rfl) hP (y_load rfl (hl := fun w' h => by rw [h]; exact HL0.out)) hS rfl (L' := #[true, true, true, true, false, true, true, true, true, true, false, false, false, false, false, false, false, false, false, false, false, false, false, false, false, false, false, false, false, false]) (by kernel_rfl) ?_
    refine h_takeL (i := 10) (v := .int .i64 (n : Nat)) hns rfl rfl (by kernel_rfl) (by kernel_rfl) hP (y_lenT lenP (p := a2) (c := c2) rfl (by kernel_rfl) (by kernel_rfl)) hS rfl (L' := #[true, true, true, true, false, true, true, true, true, true, true, false, false, false, false, false, false, false, false, false, false, false, false, false, false, false, false, false, false, false]) (by kernel_rfl) ?_
    refine h_callL (i := 4) (f := 29) (args := #[.pointer (some ⟨p, 0, none⟩)]) (by kernel_rfl) rfl rfl (by kernel_rfl) (enter_go rfl (by kernel_rfl) (fun w => by go_simp)) (L' := #[true, true, true, true, true, true, true, true, true, true, true, false, false, false, false, false, false, false, false, false, false, false, false, false, false, false, false, false, false, false]) (by kernel_rfl) ?_
    refine HPG.out.mono ?_
    rintro e wz ⟨rfl, hwz⟩
    obtain rfl := hwz.symm
    refine ⟨_, rfl, hS, ?_⟩
    refine h_takeL (i := 11) (v := .bool false) hns rfl rfl (by kernel_rfl) (by kernel_rfl) hP (y_bin (k := .i64) (k' := .i64) (m := (n : Nat)) (n := (n : Nat)) rfl (by kernel_rfl) (by kernel_rfl) (by kernel_rfl) (neqI _ _ _ HNN.out)) hS rfl (L' := #[true, true, true, true, true, true, true, true, true, true, true, true, false, false, false, false, false, false, false, false, false, false, false, false, false, false, false, false, false, false]) (by kernel_rfl) ?_
    refine h_takeL (i := 12) (v := .bool false) hns rfl rfl (by kernel_rfl) (by kernel_rfl) hP (y_pick (b := false) rfl) hS rfl (L' := #[true, true, true, true, true, true, true, true, true, true, true, true, true, false, false, false, false, false, false, false, false, false, false, false, false, false, false, false, false, false]) (by kernel_rfl) ?_
    refine h_takeL (i := 13) (v := .bool false) hns rfl rfl (by kernel_rfl) (by kernel_rfl) hP (y_move rfl) hS rfl (L' := #[true, true, true, true, true, true, true, true, true, true, true, true, true, true, false, false, false, false, false, false, false, false, false, false, false, false, false, false, false, false]) (by kernel_rfl) ?_
    refine h_takeL (i := 14) (v := .pointer (some ⟨p, 0, none⟩)) hns rfl rfl (by kernel_rfl) (by kernel_rfl) hP (y_move rfl) hS rfl (L' := #[true, true, true, true, true, true, true, true, true, true, true, true, true, true, true, false, false, false, false, false, false, false, false, false, false, false, false, false, false, false]) (by kernel_rfl) ?_
    try simp only [List.setIfInBounds_toArray, List.set_cons_zero, List.set_cons_succ]
    refine h_takeL (i := 16) (v := .pointer (some ⟨r, 0, none⟩)) hns rfl rfl (by kernel_rfl) (by kernel_rfl) hP (y_move rfl) hS rfl (L' := #[true, true, true, true, true, true, true, true, true, true, true, true, true, true, true, false, true, false, false, false, false, false, false, false, false, false, false, false, false, false]) (by kernel_rfl) ?_
    refine h_callL (i := 15) (f := 26) (args := #[.pointer (some ⟨p, 0, none⟩)]) (by kernel_rfl) rfl rfl (by kernel_rfl) (enter_go rfl (by kernel_rfl) (fun w => by go_simp)) (L' := #[true, true, true, true, true, true, true, true, true, true, true, true, true, true, true, true, true, false, false, false, false, false, false, false, false, false, false, false, false, false]) (by kernel_rfl) ?_
    refine HLF.out.mono ?_
    rintro e wz ⟨rfl, hwz⟩
    obtain rfl := hwz.symm
    refine ⟨_, rfl, hS, ?_⟩
    refine h_callL (i := 17) (f := 49) (args := #[.pointer (some ⟨r, 0, none⟩)]) (by kernel_rfl) rfl rfl (by kernel_rfl) (enter_go rfl (by kernel_rfl) (fun w => by go_simp)) (L' := #[true, true, true, true, true, true, true, true, true, true, true, true, true, true, true, true, true, true, false, false, false, false, false, false, false, false, false, false, false, false]) (by kernel_rfl) ?_
    refine HRL.out.mono ?_
    rintro e wz ⟨rfl, hwz⟩
    obtain rfl := hwz.symm
    refine ⟨_, rfl, hS, ?_⟩
    refine h_takeL (i := 18) (v := .bool true) hns rfl rfl (by kernel_rfl) (by kernel_rfl) hP (y_bin (k := .i64) (k' := .i64) (m := (nc : Nat)) (n := (nc2 : Nat)) rfl (by kernel_rfl) (by kernel_rfl) (by kernel_rfl) (neqI _ _ _ HB1.out)) hS rfl (L' := #[true, true, true, true, true, true, true, true, true, true, true, true, true, true, true, true, true, true, true, false, false, false, false, false, false, false, false, false, false, false]) (by kernel_rfl) ?_
    refine h_takeL (i := 19) (v := .bool true) hns rfl rfl (by kernel_rfl) (by kernel_rfl) hP (y_pick (b := false) rfl) hS rfl (L' := #[true, true, true, true, true, true, true, true, true, true, true, true, true, true, true, true, true, true, true, true, false, false, false, false, false, false, false, false, false, false]) (by kernel_rfl) ?_
    refine h_takeL (i := 20) (v := .bool true) hns rfl rfl (by kernel_rfl) (by kernel_rfl) hP (y_move rfl) hS rfl (L' := #[true, true, true, true, true, true, true, true, true, true, true, true, true, true, true, true, true, true, true, true, true, false, false, false, false, false, false, false, false, false]) (by kernel_rfl) ?_
    refine h_takeL (i := 21) (v := undef) hns rfl rfl (by kernel_rfl) (by kernel_rfl) hP (y_skip (by kernel_rfl) rfl) hS rfl (L' := #[true, true, true, true, true, true, true, true, true, true, true, true, true, true, true, true, true, true, true, true, true, true, false, false, false, false, false, false, false, false]) (by kernel_rfl) ?_
    refine h_takeL (i := 23) (v := undef) hns rfl rfl (by kernel_rfl) (by kernel_rfl) hP (y_skip (by kernel_rfl) rfl) hS rfl (L' := #[true, true, true, true, true, true, true, true, true, true, true, true, true, true, true, true, true, true, true, true, true, true, false, true, false, false, false, false, false, false]) (by kernel_rfl) ?_
    try simp only [List.setIfInBounds_toArray, List.set_cons_zero, List.set_cons_succ]
    refine h_takeL (i := 24) (v := undef) hns rfl rfl (by kernel_rfl) (by kernel_rfl) hP (y_skip (by kernel_rfl) rfl) hS rfl (L' := #[true, true, true, true, true, true, true, true, true, true, true, true, true, true, true, true, true, true, true, true, true, true, false, true, true, false, false, false, false, false]) (by kernel_rfl) ?_
    refine h_takeL (i := 25) (v := undef) hns rfl rfl (by kernel_rfl) (by kernel_rfl) hP (y_skip (by kernel_rfl) rfl) hS rfl (L' := #[true, true, true, true, true, true, true, true, true, true, true, true, true, true, true, true, true, true, true, true, true, true, false, true, true, true, false, false, false, false]) (by kernel_rfl) ?_
    refine h_takeL (i := 26) (v := undef) hns rfl rfl (by kernel_rfl) (by kernel_rfl) hP (y_skip (by kernel_rfl) rfl) hS rfl (L' := #[true, true, true, true, true, true, true, true, true, true, true, true, true, true, true, true, true, true, true, true, true, true, false, true, true, true, true, false, false, false]) (by kernel_rfl) ?_
    refine h_takeL (i := 27) (v := undef) hns rfl rfl (by kernel_rfl) (by kernel_rfl) hP (y_skip (by kernel_rfl) rfl) hS rfl (L' := #[true, true, true, true, true, true, true, true, true, true, true, true, true, true, true, true, true, true, true, true, true, true, false, true, true, true, true, true, false, false]) (by kernel_rfl) ?_
    refine h_takeL (i := 22) (v := undef) hns rfl rfl (by kernel_rfl) (by kernel_rfl) hP (y_skip (by kernel_rfl) rfl) hS rfl (L' := #[true, true, true, true, true, true, true, true, true, true, true, true, true, true, true, true, true, true, true, true, true, true, true, true, true, true, true, true, false, false]) (by kernel_rfl) ?_
    refine h_takeL (i := 28) (v := undef) hns rfl rfl (by kernel_rfl) (by kernel_rfl) hP (y_skip (by kernel_rfl) rfl) hS rfl (L' := #[true, true, true, true, true, true, true, true, true, true, true, true, true, true, true, true, true, true, true, true, true, true, true, true, true, true, true, true, true, false]) (by kernel_rfl) ?_
    refine h_takeL (i := 29) (v := .bool true) hns rfl rfl (by kernel_rfl) (by kernel_rfl) hP (y_pick (b := true) rfl) hS rfl (L' := #[true, true, true, true, true, true, true, true, true, true, true, true, true, true, true, true, true, true, true, true, true, true, true, true, true, true, true, true, true, true]) (by kernel_rfl) ?_
    try simp only [List.setIfInBounds_toArray, List.set_cons_zero, List.set_cons_succ]
    refine wpAnyH_done (by kernel_rfl) ?_ _
    refine hN _ _ ?_
    clear hP hN hns
    clear hS
    generalize w.drew = w0 at *
    go_wp2_with fail
    go_ret
    exact ⟨rfl, HB0.out⟩
  | false =>
    go_enter Tryz.func16, Tryz.ntmps16
    go_upto_region 1 with fail
    refine h_openL (S := fun w' => w' = w.drew) (by kernel_rfl) (by kernel_rfl) (fun _ _ _ _ _ h => h) (L := #[false, false, false, false, false, false, false, false, false, false, false, false, false, false, false, false, false, false, false, false, false, false, false, false, false, false, false, false, false, false]) (by kernel_rfl) ?_
    intro Q' hns hP hN
    have hS := (rfl : w.drew = w.drew)
    refine h_takeL (i := 0) (v := .pointer (some ⟨p, 0, none⟩)) hns rfl rfl (by kernel_rfl) (by kernel_rfl) hP (y_move rfl) hS rfl (L' := #[true, false, false, false, false, false, false, false, false, false, false, false, false, false, false, false, false, false, false, false, false, false, false, false, false, false, false, false, false, false]) (by kernel_rfl) ?_
    refine h_takeL (i := 1) (v := .bool false) hns rfl rfl (by kernel_rfl) (by kernel_rfl) hP (y_eqN (ad := ⟨p, 0, none⟩) rfl (by kernel_rfl) (by kernel_rfl) (by kernel_rfl) (fun w => by go_simp)) hS rfl (L' := #[true, true, false, false, false, false, false, false, false, false, false, false, false, false, false, false, false, false, false, false, false, false, false, false, false, false, false, false, false, false]) (by kernel_rfl) ?_
    refine h_takeL (i := 2) (v := .bool false) hns rfl rfl (by kernel_rfl) (by kernel_rfl) hP (y_move rfl) hS rfl (L' := #[true, true, true, false, false, false, false, false, false, false, false, false, false, false, false, false, false, false, false, false, false, false, false, false, false, false, false, false, false, false]) (by kernel_rfl) ?_
    refine h_takeL (i := 3) (v := .pointer (some ⟨p, 0, none⟩)) hns rfl rfl (by kernel_rfl) (by kernel_rfl) hP (y_move rfl) hS rfl (L' := #[true, true, true, true, false, false, false, false, false, false, false, false, false, false, false, false, false, false, false, false, false, false, false, false, false, false, false, false, false, false]) (by kernel_rfl) ?_
    refine h_takeL (i := 5) (v := .pointer (some ⟨r, 0, none⟩)) hns rfl rfl (by kernel_rfl) (by kernel_rfl) hP (y_move rfl) hS rfl (L' := #[true, true, true, true, false, true, false, false, false, false, false, false, false, false, false, false, false, false, false, false, false, false, false, false, false, false, false, false, false, false]) (by kernel_rfl) ?_
    refine h_takeL (i := 6) (v := .pointer (some ⟨r, 0, none⟩)) hns rfl rfl (by kernel_rfl) (by kernel_rfl) hP (y_nil rfl) hS rfl (L' := #[true, true, true, true, false, true, true, false, false, false, false, false, false, false, false, false, false, false, false, false, false, false, false, false, false, false, false, false, false, false]) (by kernel_rfl) ?_
    refine h_takeL (i := 7) (v := .pointer (some ⟨r, 0, none⟩)) hns rfl rfl (by kernel_rfl) (by kernel_rfl) hP (y_faddr rfl (hf := fa95_0 (r))) hS rfl (L' := #[true, true, true, true, false, true, true, true, false, false, false, false, false, false, false, false, false, false, false, false, false, false, false, false, false, false, false, false, false, false]) (by kernel_rfl) ?_
    try simp only [List.setIfInBounds_toArray, List.set_cons_zero, List.set_cons_succ]
    refine h_takeL (i := 8) (v := .pointer (some ⟨r, 0, none⟩)) hns rfl rfl (by kernel_rfl) (by kernel_rfl) hP (y_faddr rfl (hf := fg93_0 (r) (0))) hS rfl (L' := #[true, true, true, true, false, true, true, true, true, false, false, false, false, false, false, false, false, false, false, false, false, false, false, false, false, false, false, false, false, false]) (by kernel_rfl) ?_
    refine h_takeL (i := 9) (v := .slice a2 n c2) hns rfl rfl (by kernel_rfl) (by kernel_rfl) hP (y_load rfl (hl := fun w' h => by rw [h]; exact HL0.out)) hS rfl (L' := #[true, true, true, true, false, true, true, true, true, true, false, false, false, false, false, false, false, false, false, false, false, false, false, false, false, false, false, false, false, false]) (by kernel_rfl) ?_
    refine h_takeL (i := 10) (v := .int .i64 (n : Nat)) hns rfl rfl (by kernel_rfl) (by kernel_rfl) hP (y_lenT lenP (p := a2) (c := c2) rfl (by kernel_rfl) (by kernel_rfl)) hS rfl (L' := #[true, true, true, true, false, true, true, true, true, true, true, false, false, false, false, false, false, false, false, false, false, false, false, false, false, false, false, false, false, false]) (by kernel_rfl) ?_
    refine h_callL (i := 4) (f := 29) (args := #[.pointer (some ⟨p, 0, none⟩)]) (by kernel_rfl) rfl rfl (by kernel_rfl) (enter_go rfl (by kernel_rfl) (fun w => by go_simp)) (L' := #[true, true, true, true, true, true, true, true, true, true, true, false, false, false, false, false, false, false, false, false, false, false, false, false, false, false, false, false, false, false]) (by kernel_rfl) ?_
    refine HPG.out.mono ?_
    rintro e wz ⟨rfl, hwz⟩
    obtain rfl := hwz.symm
    refine ⟨_, rfl, hS, ?_⟩
    refine h_takeL (i := 11) (v := .bool false) hns rfl rfl (by kernel_rfl) (by kernel_rfl) hP (y_bin (k := .i64) (k' := .i64) (m := (n : Nat)) (n := (n : Nat)) rfl (by kernel_rfl) (by kernel_rfl) (by kernel_rfl) (neqI _ _ _ HNN.out)) hS rfl (L' := #[true, true, true, true, true, true, true, true, true, true, true, true, false, false, false, false, false, false, false, false, false, false, false, false, false, false, false, false, false, false]) (by kernel_rfl) ?_
    refine h_takeL (i := 12) (v := .bool false) hns rfl rfl (by kernel_rfl) (by kernel_rfl) hP (y_pick (b := false) rfl) hS rfl (L' := #[true, true, true, true, true, true, true, true, true, true, true, true, true, false, false, false, false, false, false, false, false, false, false, false, false, false, false, false, false, false]) (by kernel_rfl) ?_
    refine h_takeL (i := 13) (v := .bool false) hns rfl rfl (by kernel_rfl) (by kernel_rfl) hP (y_move rfl) hS rfl (L' := #[true, true, true, true, true, true, true, true, true, true, true, true, true, true, false, false, false, false, false, false, false, false, false, false, false, false, false, false, false, false]) (by kernel_rfl) ?_
    refine h_takeL (i := 14) (v := .pointer (some ⟨p, 0, none⟩)) hns rfl rfl (by kernel_rfl) (by kernel_rfl) hP (y_move rfl) hS rfl (L' := #[true, true, true, true, true, true, true, true, true, true, true, true, true, true, true, false, false, false, false, false, false, false, false, false, false, false, false, false, false, false]) (by kernel_rfl) ?_
    try simp only [List.setIfInBounds_toArray, List.set_cons_zero, List.set_cons_succ]
    refine h_takeL (i := 16) (v := .pointer (some ⟨r, 0, none⟩)) hns rfl rfl (by kernel_rfl) (by kernel_rfl) hP (y_move rfl) hS rfl (L' := #[true, true, true, true, true, true, true, true, true, true, true, true, true, true, true, false, true, false, false, false, false, false, false, false, false, false, false, false, false, false]) (by kernel_rfl) ?_
    refine h_callL (i := 15) (f := 26) (args := #[.pointer (some ⟨p, 0, none⟩)]) (by kernel_rfl) rfl rfl (by kernel_rfl) (enter_go rfl (by kernel_rfl) (fun w => by go_simp)) (L' := #[true, true, true, true, true, true, true, true, true, true, true, true, true, true, true, true, true, false, false, false, false, false, false, false, false, false, false, false, false, false]) (by kernel_rfl) ?_
    refine HLF.out.mono ?_
    rintro e wz ⟨rfl, hwz⟩
    obtain rfl := hwz.symm
    refine ⟨_, rfl, hS, ?_⟩
    refine h_callL (i := 17) (f := 49) (args := #[.pointer (some ⟨r, 0, none⟩)]) (by kernel_rfl) rfl rfl (by kernel_rfl) (enter_go rfl (by kernel_rfl) (fun w => by go_simp)) (L' := #[true, true, true, true, true, true, true, true, true, true, true, true, true, true, true, true, true, true, false, false, false, false, false, false, false, false, false, false, false, false]) (by kernel_rfl) ?_
    refine HRL.out.mono ?_
    rintro e wz ⟨rfl, hwz⟩
    obtain rfl := hwz.symm
    refine ⟨_, rfl, hS, ?_⟩
    refine h_takeL (i := 18) (v := .bool false) hns rfl rfl (by kernel_rfl) (by kernel_rfl) hP (y_bin (k := .i64) (k' := .i64) (m := (nc : Nat)) (n := (nc2 : Nat)) rfl (by kernel_rfl) (by kernel_rfl) (by kernel_rfl) (neqI _ _ _ HB1.out)) hS rfl (L' := #[true, true, true, true, true, true, true, true, true, true, true, true, true, true, true, true, true, true, true, false, false, false, false, false, false, false, false, false, false, false]) (by kernel_rfl) ?_
    refine h_takeL (i := 19) (v := .bool false) hns rfl rfl (by kernel_rfl) (by kernel_rfl) hP (y_pick (b := false) rfl) hS rfl (L' := #[true, true, true, true, true, true, true, true, true, true, true, true, true, true, true, true, true, true, true, true, false, false, false, false, false, false, false, false, false, false]) (by kernel_rfl) ?_
    refine h_takeL (i := 20) (v := .bool false) hns rfl rfl (by kernel_rfl) (by kernel_rfl) hP (y_move rfl) hS rfl (L' := #[true, true, true, true, true, true, true, true, true, true, true, true, true, true, true, true, true, true, true, true, true, false, false, false, false, false, false, false, false, false]) (by kernel_rfl) ?_
    refine h_takeL (i := 21) (v := .pointer (some ⟨p, 0, none⟩)) hns rfl rfl (by kernel_rfl) (by kernel_rfl) hP (y_move rfl) hS rfl (L' := #[true, true, true, true, true, true, true, true, true, true, true, true, true, true, true, true, true, true, true, true, true, true, false, false, false, false, false, false, false, false]) (by kernel_rfl) ?_
    refine h_takeL (i := 23) (v := .pointer (some ⟨r, 0, none⟩)) hns rfl rfl (by kernel_rfl) (by kernel_rfl) hP (y_move rfl) hS rfl (L' := #[true, true, true, true, true, true, true, true, true, true, true, true, true, true, true, true, true, true, true, true, true, true, false, true, false, false, false, false, false, false]) (by kernel_rfl) ?_
    try simp only [List.setIfInBounds_toArray, List.set_cons_zero, List.set_cons_succ]
    refine h_takeL (i := 24) (v := .pointer (some ⟨r, 0, none⟩)) hns rfl rfl (by kernel_rfl) (by kernel_rfl) hP (y_nil rfl) hS rfl (L' := #[true, true, true, true, true, true, true, true, true, true, true, true, true, true, true, true, true, true, true, true, true, true, false, true, true, false, false, false, false, false]) (by kernel_rfl) ?_
    refine h_takeL (i := 25) (v := .pointer (some ⟨r, 0, none⟩)) hns rfl rfl (by kernel_rfl) (by kernel_rfl) hP (y_faddr rfl (hf := fa95_0 (r))) hS rfl (L' := #[true, true, true, true, true, true, true, true, true, true, true, true, true, true, true, true, true, true, true, true, true, true, false, true, true, true, false, false, false, false]) (by kernel_rfl) ?_
    refine h_takeL (i := 26) (v := .pointer (some ⟨r, 1, none⟩)) hns rfl rfl (by kernel_rfl) (by kernel_rfl) hP (y_faddr rfl (hf := fg93_1 (r) (0))) hS rfl (L' := #[true, true, true, true, true, true, true, true, true, true, true, true, true, true, true, true, true, true, true, true, true, true, false, true, true, true, true, false, false, false]) (by kernel_rfl) ?_
    refine h_takeL (i := 27) (v := .int .i64 rt2) hns rfl rfl (by kernel_rfl) (by kernel_rfl) hP (y_load rfl (hl := fun w' h => by rw [h]; exact HL1.out)) hS rfl (L' := #[true, true, true, true, true, true, true, true, true, true, true, true, true, true, true, true, true, true, true, true, true, true, false, true, true, true, true, true, false, false]) (by kernel_rfl) ?_
    refine h_callL (i := 22) (f := 35) (args := #[.pointer (some ⟨p, 0, none⟩)]) (by kernel_rfl) rfl rfl (by kernel_rfl) (enter_go rfl (by kernel_rfl) (fun w => by go_simp)) (L' := #[true, true, true, true, true, true, true, true, true, true, true, true, true, true, true, true, true, true, true, true, true, true, true, true, true, true, true, true, false, false]) (by kernel_rfl) ?_
    refine HRT.out.mono ?_
    rintro e wz ⟨rfl, hwz⟩
    obtain rfl := hwz.symm
    refine ⟨_, rfl, hS, ?_⟩
    refine h_takeL (i := 28) (v := .bool b2) hns rfl rfl (by kernel_rfl) (by kernel_rfl) hP (y_bin (k := .i64) (k' := .i64) (m := rt) (n := rt2) rfl (by kernel_rfl) (by kernel_rfl) (by kernel_rfl) (neqI _ _ _ HB2.out)) hS rfl (L' := #[true, true, true, true, true, true, true, true, true, true, true, true, true, true, true, true, true, true, true, true, true, true, true, true, true, true, true, true, true, false]) (by kernel_rfl) ?_
    refine h_takeL (i := 29) (v := .bool b2) hns rfl rfl (by kernel_rfl) (by kernel_rfl) hP (y_pick (b := false) rfl) hS rfl (L' := #[true, true, true, true, true, true, true, true, true, true, true, true, true, true, true, true, true, true, true, true, true, true, true, true, true, true, true, true, true, true]) (by kernel_rfl) ?_
    try simp only [List.setIfInBounds_toArray, List.set_cons_zero, List.set_cons_succ]
    refine wpAnyH_done (by kernel_rfl) ?_ _
    refine hN _ _ ?_
    clear hP hN hns
    clear hS HPG HLF HRT HRL HL0 HL1 HNF
    generalize w.drew = w0 at *
    cases b2 with
    | true =>
      have hbad : RR = false := by
        rw [HRR.out]
        refine decide_eq_false (fun e => ?_)
        have h1 := HB2.out
        rw [e.2] at h1
        simp at h1
      subst hbad
      go_wp2_with fail
      go_ret
      exact ⟨rfl, HB0.out⟩
    | false =>
      have hrt : rt = rt2 := by have := HB2.out; simpa using this
      have HRT := hid hrt
      clear HB1 HB2 HNN hrt
      go_wp2_with fail
      go_loopw [5, 6, 7, 8, 9] (fun v5 _ _ _ _ wv => ∃ i : Int, -1 ≤ i ∧ i ≤ (n : Int) + 1 ∧ v5 = .int .i64 i ∧ Below w0.heap.size w0 wv ∧ ∀ m : Int, -1 ≤ m → m < i → pgB cur m = pgB cur2 m ∧ pgE cur m = pgE cur2 m) (fun v5 _ _ _ _ _ => ((n : Int) + 1 - intOf v5).toNat)
      case atStart => exact ⟨-1, by omega, by omega, rfl, Below.refl _ _, fun m h1 h2 => by omega⟩
      case round =>
        obtain ⟨i, hi0, hi1, rfl, hB, hall⟩ := hrel
        have hn := HN.out
        have hcr : wr.cell? ⟨r, 0, none⟩ = some (.slice a2 n c2) := cell_at (below_at hB HRC.out (heap_lt HRC.out)) 0 rfl
        have hwk : IntKind.i64.wrap (i + 1) = i + 1 := by rw [IntWalk.i64_in _ ⟨by omega, by omega⟩]
        by_cases hlt : i ≤ (n : Int)
        · have HRE := hid ((HP0.out.below hB).readAny i)
          obtain ⟨l1, hl1⟩ : ∃ l, pgB cur i = l := ⟨_, rfl⟩
          obtain ⟨l2, hl2⟩ : ∃ l, pgB cur2 i = l := ⟨_, rfl⟩
          obtain ⟨e1, he1⟩ : ∃ l, pgE cur i = l := ⟨_, rfl⟩
          obtain ⟨e2, he2⟩ : ∃ l, pgE cur2 i = l := ⟨_, rfl⟩
          rw [hl1, he1] at HRE
          have HI : Hid ((-1 ≤ i ∧ i ≤ n) ∧ (pgB cur i = l1 ∧ pgB cur2 i = l2 ∧ pgE cur i = e1 ∧ pgE cur2 i = e2) ∧ Below w0.heap.size w0 wr ∧ ∀ m : Int, -1 ≤ m → m < i → pgB cur m = pgB cur2 m ∧ pgE cur m = pgE cur2 m) := hid ⟨⟨hi0, hlt⟩, ⟨hl1, hl2, he1, he2⟩, hB, hall⟩
          clear hi0 hi1 hB hall hn hl1 hl2 he1 he2
          go_wp2_with fail
          refine HRE.out.mono ?_
          rintro e w1 ⟨v, rfl, hRed⟩
          have hB1 : Below w0.heap.size w0 w1 := HI.out.2.2.1.trans (hRed.1.mono HI.out.2.2.1.size)
          have hrr := rread_any (HR0.out.below hB1) i
          rw [HI.out.2.1.2.1, HI.out.2.1.2.2.2] at hrr
          have HRR2 := hid hrr
          have HSL := hid hRed.sl
          have HB1 := hid hB1
          clear hRed hB1 hrr HRE hcr
          generalize hsv : strV l2 = sv at *
          have HSV := hid hsv
          clear hsv
          go_wp2_with fail
          refine HRR2.out.mono ?_
          rintro e wz ⟨rfl, hwz⟩
          obtain rfl := hwz.symm
          clear HRR2
          have hsv := HSV.out
          subst hsv
          obtain ⟨bs, hbs⟩ : ∃ b, decide (l1 ≠ l2) = b := ⟨_, rfl⟩
          obtain ⟨bf, hbf⟩ : ∃ b, (e1 != e2) = b := ⟨_, rfl⟩
          have HBS := hid hbs
          have HBF := hid hbf
          clear hbs hbf HSV
          go_upto_region 8 with fail
          cases bs with
          | true =>
            refine wp_region_lit ?_
            refine wp_y (v := v) rfl rfl (y_move rfl) rfl ?_
            try simp only [List.setIfInBounds_toArray, List.set_cons_zero, List.set_cons_succ]
            refine wp_y (v := strV l1) rfl rfl (y_convS rfl (by kernel_rfl) (by kernel_rfl) (fun w' h => by rw [h]; exact conv_sl HSL.out)) rfl ?_
            try simp only [List.setIfInBounds_toArray, List.set_cons_zero, List.set_cons_succ]
            refine wp_y (v := strV l2) rfl rfl (y_move rfl) rfl ?_
            try simp only [List.setIfInBounds_toArray, List.set_cons_zero, List.set_cons_succ]
            refine wp_y (v := .bool true) rfl rfl (y_neqS (l := l1) (m := l2) rfl (by kernel_rfl) (by kernel_rfl) (by kernel_rfl) HBS.out) rfl ?_
            try simp only [List.setIfInBounds_toArray, List.set_cons_zero, List.set_cons_succ]
            refine wp_y (v := .bool true) rfl rfl (y_move rfl) rfl ?_
            try simp only [List.setIfInBounds_toArray, List.set_cons_zero, List.set_cons_succ]
            refine wp_yg (v := undef) rfl (y_skip (by kernel_rfl) rfl) rfl ?_
            try simp only [List.setIfInBounds_toArray, List.set_cons_zero, List.set_cons_succ]
            refine wp_yg (v := undef) rfl (y_skip (by kernel_rfl) rfl) rfl ?_
            try simp only [List.setIfInBounds_toArray, List.set_cons_zero, List.set_cons_succ]
            refine wp_yg (v := undef) rfl (y_skip (by kernel_rfl) rfl) rfl ?_
            try simp only [List.setIfInBounds_toArray, List.set_cons_zero, List.set_cons_succ]
            refine wp_y (v := .bool true) rfl rfl (y_pick (b := true) rfl) rfl ?_
            try simp only [List.setIfInBounds_toArray, List.set_cons_zero, List.set_cons_succ]
            refine wp_end ?_
            have hbad : RR = false := by
              rw [HRR.out]
              refine decide_eq_false (fun e => ?_)
              have h1 := HBS.out
              have h2 := HI.out.2.1
              rw [← h2.1, ← h2.2.1, e.1] at h1
              simp at h1
            subst hbad
            have HZ := hid (HB0.out.trans (HB1.out.mono HB0.out.size))
            go_wp2_with fail
            go_ret
            exact ⟨rfl, HZ.out⟩
          | false =>
            refine wp_region_lit ?_
            refine wp_y (v := v) rfl rfl (y_move rfl) rfl ?_
            try simp only [List.setIfInBounds_toArray, List.set_cons_zero, List.set_cons_succ]
            refine wp_y (v := strV l1) rfl rfl (y_convS rfl (by kernel_rfl) (by kernel_rfl) (fun w' h => by rw [h]; exact conv_sl HSL.out)) rfl ?_
            try simp only [List.setIfInBounds_toArray, List.set_cons_zero, List.set_cons_succ]
            refine wp_y (v := strV l2) rfl rfl (y_move rfl) rfl ?_
            try simp only [List.setIfInBounds_toArray, List.set_cons_zero, List.set_cons_succ]
            refine wp_y (v := .bool false) rfl rfl (y_neqS (l := l1) (m := l2) rfl (by kernel_rfl) (by kernel_rfl) (by kernel_rfl) HBS.out) rfl ?_
            try simp only [List.setIfInBounds_toArray, List.set_cons_zero, List.set_cons_succ]
            refine wp_y (v := .bool false) rfl rfl (y_move rfl) rfl ?_
            try simp only [List.setIfInBounds_toArray, List.set_cons_zero, List.set_cons_succ]
            refine wp_yg (v := .int .i64 e1) rfl (y_move rfl) rfl ?_
            try simp only [List.setIfInBounds_toArray, List.set_cons_zero, List.set_cons_succ]
            refine wp_yg (v := .int .i64 e2) rfl (y_move rfl) rfl ?_
            try simp only [List.setIfInBounds_toArray, List.set_cons_zero, List.set_cons_succ]
            refine wp_yg (v := .bool bf) rfl (y_bin (k := .i64) (k' := .i64) (m := e1) (n := e2) rfl (by kernel_rfl) (by kernel_rfl) (by kernel_rfl) (neqE _ _ _ HBF.out)) rfl ?_
            try simp only [List.setIfInBounds_toArray, List.set_cons_zero, List.set_cons_succ]
            refine wp_y (v := .bool bf) rfl rfl (y_pick (b := false) rfl) rfl ?_
            try simp only [List.setIfInBounds_toArray, List.set_cons_zero, List.set_cons_succ]
            refine wp_end ?_
            cases bf with
            | true =>
              have hbad : RR = false := by
                rw [HRR.out]
                refine decide_eq_false (fun e => ?_)
                have h1 := HBF.out
                have h2 := HI.out.2.1
                rw [← h2.2.2.1, ← h2.2.2.2, e.1] at h1
                simp at h1
              subst hbad
              have HZ := hid (HB0.out.trans (HB1.out.mono HB0.out.size))
              go_wp2_with fail
              go_ret
              exact ⟨rfl, HZ.out⟩
            | false =>
              have HZ : Hid (∀ m : Int, -1 ≤ m → m < i + 1 → pgB cur m = pgB cur2 m ∧ pgE cur m = pgE cur2 m) := hid (fun m h1 h2 => by
                by_cases e : m = i
                · subst e
                  obtain ⟨h3, h4, h5, h6⟩ := HI.out.2.1
                  rw [h3, h4, h5, h6]
                  have h7 := HBS.out
                  have h8 := HBF.out
                  exact ⟨by simpa using h7, by simpa using h8⟩
                · exact HI.out.2.2.2 m h1 (by omega))
              go_wp2_with fail
              exact ⟨⟨i + 1, by have := HI.out.1; omega, by have := HI.out.1; omega, rfl, HB1.out, HZ.out⟩, by have := HI.out.1; simp [intOf]; omega⟩
        · have hi : i = (n : Int) + 1 := by omega
          have hgood : RR = true := by
            rw [HRR.out]
            exact decide_eq_true ⟨pgs_ext (by rw [hn.1, hn.2.1]) (fun m h1 h2 => hall m (by omega) (by rw [hn.1] at h2; omega)), HRT.out⟩
          subst hgood
          have HZ := hid (HB0.out.trans (hB.mono HB0.out.size))
          clear hB hall hn hi hi0 hi1 hwk
          go_wp2_with fail
          go_ret
          exact ⟨rfl, HZ.out⟩
end Go.Proofs.YtcmgclkbhhdnaaaGreatDoor
