/- the text PDoes -/
import Derived.Test.YtcmgclkbhhdnaaaGreatDoorPHasC
namespace Go.Proofs.YtcmgclkbhhdnaaaGreatDoor
open Go Go.RowKit
variable {Z : Nat → Prop}

theorem eqlE (a b : Int) (r : Bool) (h : (a == b) = r) (w : World) : (binOp .eql 33 (.int .i64 a) (.int .i64 b)).run Tryz.prog w = .ok (.bool r) w := by subst h; go_simp
theorem eqlS (a b : List UInt8) (r : Bool) (h : decide (a = b) = r) (w : World) : (binOp .eql 9 (strV a) (strV b)).run Tryz.prog w = .ok (.bool r) w := by
  subst h
  unfold strV
  go_simp
  by_cases hab : a = b <;> simp [hab]
theorem y_eqlS {ops : Array Oper} {S : World → Prop} {o : Oper} {a : Act} {x y : Operand} {t' : TypeId} {l m : List UInt8} {r : Bool} (hop : o.op = .binOp .eql 9 x y t') (hw : Region.wanted o (yielded ops a.tmps) = true) (hx : a.eval x = strV l) (hy : a.eval y = strV m) (hr : decide (l = m) = r) : YieldsIf Tryz.prog ops S o (.bool r) a :=
  .inl ⟨hw, fun w _ => by
    unfold execOp; rw [hop]; simp only [hx, hy, Sem.run_bind]
    have : (eqGuard .eql 9 x y (strV l) (strV m)).run Tryz.prog w = .ok () w := by
      unfold eqGuard strV; go_simp
    rw [this]; simp only [Result.andThen_ok, eqlS l m r hr w]; rfl⟩
theorem qinc (a : Int) (w : World) : (binOp .add 5 (.int .u8 a) (.int .u8 1)).run Tryz.prog w = .ok (.int .u8 (IntKind.u8.wrap (a + 1))) w := by go_simp
/-- A row's first n cells are bytes. -/
def Cu (w : World) (b n : Nat) : Prop := ∀ k, k < n → ∃ a : Int, w.cell? ⟨b, k, none⟩ = some (.int .u8 a)
theorem Cu.of_rd {w : World} {b : Nat} {l : List UInt8} (h : Rd w b 0 l) : Cu w b l.length := fun k hk => ⟨_, by have := h k hk; rwa [Nat.zero_add] at this⟩
theorem Cu.set {w : World} {b n : Nat} (h : Cu w b n) (k : Nat) (x : Int) : Cu (w.setCell ⟨b, k, none⟩ (.int .u8 x)) b n := fun j hj => by
  obtain ⟨a, ha⟩ := h j hj
  by_cases e : k = j
  · subst e
    exact ⟨x, World.cell?_setCell_same _ _ _ ha⟩
  · exact ⟨a, by rw [World.cell?_setCell_other _ _ _ _ (by intro e'; cases e'; exact e rfl)]; exact ha⟩
/-- What the loop that turns bytes holds. -/
def Lo (w0 wr : World) (b n : Nat) (t : TypeId) : Prop := Cu wr b n ∧ (∃ cs, wr.heap[b]? = some (.cells cs t (0, 0))) ∧ Fr [b] w0 wr
theorem Lo.next {w0 wr : World} {b n : Nat} {t : TypeId} (h : Lo w0 wr b n t) (k : Nat) (x : Int) : Lo w0 (wr.setCell ⟨b, k, none⟩ (.int .u8 x)) b n t := by
  obtain ⟨h1, ⟨cs, h2⟩, h3⟩ := h
  exact ⟨h1.set k x, ⟨_, heap_setCell h2 k _⟩, h3.trans (Fr.setCell _ _ _ _) (fun x hx => .inl hx)⟩
theorem load32 {w : World} {g o : Nat} {x y z : Value} (h0 : w.cell? ⟨g, o, none⟩ = some x) (h1 : w.cell? ⟨g, o + 1, none⟩ = some y) (h2 : w.cell? ⟨g, o + 2, none⟩ = some z) : (Instr.loadAt 32 (.pointer (some ⟨g, o, none⟩))).run Tryz.prog w = .ok (.agg #[x, y, z]) w := by
  have hsz : (Tryz.prog.info? 32).map (·.size) = some 3 := by kernel_rfl
  have hc := run_loadCells_list (P := Tryz.prog) w ⟨g, o, none⟩ [x, y, z] (fun j v hx => by
    match j, hx with
    | 0, hx => cases hx; rw [add_lit]; exact h0
    | 1, hx => cases hx; rw [add_lit]; exact h1
    | 2, hx => cases hx; rw [add_lit]; exact h2)
  simp only [Instr.loadAt, Instr.sureAddr, Sem.run_bind, Sem.run_pure, Result.andThen, loadVar, Tryz.isAgg32, run_size hsz, show 3 = [x, y, z].length from rfl, hc, if_true]
/-- What does leaves. -/
def Da (Z : Nat → Prop) (B : Nat) (w w' : World) (p j d r : Nat) (s : DS) (sq : Nat) (bl : List (List UInt8)) (cur was : Pgs) (wr : Int) (wa : Pgs) (wo : Int) (kd : Nat) : Prop :=
  ∃ s' sq' bl' cur' was' rt' wr' wa' wo', Bft Z B w w' p j d r s' sq' bl' cur' was' rt' wr' wa' wo' ∧ cur'.length = cur.length ∧ s'.n = s.n ∧ s.ops ≤ s'.ops ∧ s'.ops ≤ s.ops + ((2 * nbOf s.n + 4 : Nat) : Int) ∧ sq' ≤ sq + 1 ∧ s'.cut = s.cut ∧ (kd ≠ 7 → kd ≠ 8 → s' = s ∧ sq' = sq ∧ bl' = bl ∧ was' = was ∧ wr' = wr ∧ wa' = wa ∧ wo' = wo) ∧ (wa = was → wo = wr → wa' = was' ∧ wo' = wr')
theorem Bft.after {B : Nat} {w w1 w2 : World} {p j d r : Nat} {s : DS} {sq : Nat} {bl : List (List UInt8)} {cur was wa : Pgs} {rt wr wo : Int} (hB : Below w.heap.size w w1) (hBw : B ≤ w.heap.size) (h : Bft Z B w1 w2 p j d r s sq bl cur was rt wr wa wo) : Bft Z B w w2 p j d r s sq bl cur was rt wr wa wo :=
  ⟨h.1, (hB.mono hBw).trans h.2.1, (Kr.of_below hB).trans h.2.2⟩
theorem Da.of {B : Nat} {w w' : World} {p j d r : Nat} {s : DS} {sq : Nat} {bl : List (List UInt8)} {cur was cur' wa : Pgs} {rt' wr wo : Int} (kd : Nat) (h : Bft Z B w w' p j d r s sq bl cur' was rt' wr wa wo) (hl : cur'.length = cur.length) : Da Z B w w' p j d r s sq bl cur was wr wa wo kd :=
  ⟨s, sq, bl, cur', was, rt', wr, wa, wo, h, hl, rfl, Int.le_refl _, by omega, by omega, rfl, fun _ _ => ⟨rfl, rfl, rfl, rfl, rfl, rfl, rfl⟩, fun h1 h2 => ⟨h1, h2⟩⟩
theorem Bo.len {B : Nat} {w : World} {p j d r : Nat} {s : DS} {sq : Nat} {bl : List (List UInt8)} {cur was wa : Pgs} {rt wr wo : Int} (h : Bo Z B w p j d r s sq bl cur was rt wr wa wo) : was.length = cur.length := h.1.len
set_option maxRecDepth 100000 in
set_option maxHeartbeats 8000000 in
theorem does_page {B : Nat} {w : World} {p j d r : Nat} {s : DS} {sq : Nat} {bl : List (List UInt8)} {cur was wa : Pgs} {rt ww wo : Int} (h : Bo Z B w p j d r s sq bl cur was rt ww wa wo) (kd0 pg : Int) (v : UInt8) (h77 : pg ≠ 77) (hk0 : -9223372036854775808 ≤ kd0) (hk1 : kd0 ≤ 9223372036854775807) (hl1 : 1 ≤ cur.length) (hcom : pk kd0 10 = 7 ∨ pk kd0 10 = 8 → s.cut = -1 ∧ sq + 1 ≤ 1000000000 ∧ s.ops + ((2 * nbOf s.n + 4 : Nat) : Int) ≤ 1048576) (h9 : pk kd0 10 = 9 → wa = was ∧ wo = ww) (hZ : ∀ g, Z g → g < w.heap.size) :
    Calls Tryz.prog 15 #[.pointer (some ⟨p, 0, none⟩), .pointer (some ⟨r, 0, none⟩), .agg #[.int .i64 kd0, .int .i64 pg, cb v]] w fun e w' => e = .returned (.bool true) ∧ Da Z B w w' p j d r s sq bl cur was ww wa wo (pk kd0 10) := by
  obtain ⟨g0, hg0⟩ : ∃ g, w.heap.size = g := ⟨_, rfl⟩
  have hB1 : Below w.heap.size w (w.alloc (.cells #[.int .i64 kd0, .int .i64 pg, cb v] 32)) := (Below.refl _ _).alloc (Nat.le_refl _) _
  have hS1 : (w.alloc (.cells #[.int .i64 kd0, .int .i64 pg, cb v] 32)).heap[w.heap.size]? = some (.cells #[.int .i64 kd0, .int .i64 pg, cb v] 32 (0, 0)) := heap_alloc_last w _
  have hz1 : (w.alloc (.cells #[.int .i64 kd0, .int .i64 pg, cb v] 32)).heap.size = w.heap.size + 1 := by show (w.heap.push _).size = _; simp
  have hbx : (Instr.box 32 (.agg #[.int .i64 kd0, .int .i64 pg, cb v])).run Tryz.prog w = .ok (.pointer (some ⟨w.heap.size, 0, none⟩)) (w.alloc (.cells #[.int .i64 kd0, .int .i64 pg, cb v] 32)) := box_agg _ w _
  generalize w.alloc (.cells #[.int .i64 kd0, .int .i64 pg, cb v] 32) = w1 at *
  have HBo := hid (h.below hB1)
  have HB1 : Hid (Below w.heap.size w w1 ∧ B ≤ w.heap.size) := hid ⟨hB1, h.1.Bw⟩
  have HL8 : Hid (∀ (k : Int) (l : List UInt8), pgB cur k = l → l.length ≤ 896) := hid (fun k l e => by
    subst e
    unfold pgB
    split
    · rename_i ht
      obtain ⟨q, x, rfl, hq⟩ := tkD ht
      have h8 := h.1.c896 q x hq
      simp [hq]
      omega
    · simp)
  rw [hg0] at hbx hS1 hz1
  have HOP : Hid (w1.heap[g0]? = some (.cells #[.int .i64 kd0, .int .i64 pg, cb v] 32 (0, 0)) ∧ g0 < w1.heap.size) := hid ⟨hS1, by omega⟩
  have hc0 : w1.cell? ⟨g0, 0, none⟩ = some (.int .i64 kd0) := cell_at hS1 0 rfl
  have hc1 : w1.cell? ⟨g0, 1, none⟩ = some (.int .i64 pg) := cell_at hS1 1 rfl
  have HBX := hid hbx
  have HPK := hid (pick_any kd0 10 hk0 hk1 (by decide) w1)
  have hk10 := pk_lt kd0 (n := 10) (by decide)
  have HL1 := hid hl1
  have HCM := hid hcom
  have H9 := hid h9
  have HZ1 : Hid (∀ g, Z g → g < w1.heap.size) := hid (fun g hg => Nat.lt_of_lt_of_le (hZ g hg) hB1.size)
  obtain ⟨kd, hkd⟩ : ∃ kd, pk kd0 10 = kd := ⟨_, rfl⟩
  rw [hkd] at HPK hk10 HCM H9
  rw [hkd]
  have hb : (pg == 77) = false := by rw [beq_eq_false_iff_ne]; exact h77
  clear h hg0 hB1 hS1 hz1 hbx hk0 hk1 hl1 hcom h9 hZ hkd h77
  go_enter Tryz.func15, Tryz.ntmps15
  go_upto_region 0 with fail
  refine wp_region_lit ?_
  refine wp_run (v := .pointer (some ⟨g0, 0, none⟩)) rfl rfl (run_boxOp rfl (by kernel_rfl) HBX.out) rfl ?_
  try simp only [List.setIfInBounds_toArray, List.set_cons_zero, List.set_cons_succ]
  refine wp_y (v := (.bool false)) rfl rfl (y_assign rfl) rfl ?_
  try simp only [List.setIfInBounds_toArray, List.set_cons_zero, List.set_cons_succ]
  refine wp_end ?_
  go_wp2_with fail
  refine HPK.out.mono ?_
  rintro e wz ⟨rfl, hwz⟩
  obtain rfl := hwz.symm
  clear HPK hc0 hc1 HBX
  have hk : kd = 0 ∨ kd = 1 ∨ kd = 2 ∨ kd = 3 ∨ kd = 4 ∨ kd = 5 ∨ kd = 6 ∨ kd = 7 ∨ kd = 8 ∨ kd = 9 := by omega
  clear hk10
  rcases hk with rfl | rfl | rfl | rfl | rfl | rfl | rfl | rfl | rfl | rfl
  · obtain ⟨k0, e0, cur', hcl, hA⟩ := HBo.out.alloc
    have HA := hid hA
    have HC := hid hcl
    clear hcl
    clear hA
    go_wp2_with fail
    refine HA.out.mono ?_
    rintro e w2 ⟨rfl, hC⟩
    have HR := hid hC
    clear hC HA
    go_wp2_with fail
    refine HR.out.mono ?_
    rintro e w3 ⟨rfl, hF⟩
    have HZ : Hid (Da Z B w w3 p j d r s sq bl cur was ww wa wo 0) := hid (Da.of _ (Bft.after HB1.out.1 HB1.out.2 hF) HC.out)
    clear hF HR
    go_wp2_with fail
    go_ret
    exact ⟨rfl, HZ.out⟩
  · obtain ⟨k0, e0, cur', hcl, hA⟩ := HBo.out.alloc
    have HA := hid hA
    have HC := hid hcl
    clear hcl
    clear hA
    go_wp2_with fail
    refine HA.out.mono ?_
    rintro e w2 ⟨rfl, hC⟩
    have HR := hid hC
    clear hC HA
    go_wp2_with fail
    refine HR.out.mono ?_
    rintro e w3 ⟨rfl, hF⟩
    have HZ : Hid (Da Z B w w3 p j d r s sq bl cur was ww wa wo 1) := hid (Da.of _ (Bft.after HB1.out.1 HB1.out.2 hF) HC.out)
    clear hF HR
    go_wp2_with fail
    go_ret
    exact ⟨rfl, HZ.out⟩
  · obtain ⟨e0, cur', hcl, hA⟩ := HBo.out.free pg
    have HA := hid hA
    have HC := hid hcl
    clear hcl
    clear hA
    go_wp2_with fail
    refine HA.out.mono ?_
    rintro e w2 ⟨rfl, hC⟩
    have HR := hid hC
    clear hC HA
    go_wp2_with fail
    refine HR.out.mono ?_
    rintro e w3 ⟨rfl, hF⟩
    have HZ : Hid (Da Z B w w3 p j d r s sq bl cur was ww wa wo 2) := hid (Da.of _ (Bft.after HB1.out.1 HB1.out.2 hF) HC.out)
    clear hF HR
    go_wp2_with fail
    go_ret
    exact ⟨rfl, HZ.out⟩
  · have hrd := HBo.out.1.readAny pg
    obtain ⟨l1, hl1⟩ : ∃ l, pgB cur pg = l := ⟨_, rfl⟩
    obtain ⟨e1, he1⟩ : ∃ l, pgE cur pg = l := ⟨_, rfl⟩
    rw [hl1, he1] at hrd
    have HRE := hid hrd
    have HPE : Hid (pgB cur pg = l1 ∧ pgE cur pg = e1) := hid ⟨hl1, he1⟩
    have HPL : Hid (l1.length ≤ 896) := hid (HL8.out pg l1 hl1)
    clear hrd hl1 he1
    go_wp2_with fail
    refine HRE.out.mono ?_
    rintro e w2 ⟨v0, rfl, hRed⟩
    obtain ⟨ch, hR1⟩ := HBo.out.2
    have hrr := rread_any (hR1.below hRed.1) pg
    rw [HPE.out.1, HPE.out.2] at hrr
    have HRR := hid hrr
    have HSL := hid hRed.sl
    have HRED := hid hRed
    clear hRed hR1 hrr HRE HPE
    generalize hsv : strV l1 = sv at *
    have HSV := hid hsv
    clear hsv
    go_wp2_with fail
    refine HRR.out.mono ?_
    rintro e wz ⟨rfl, hwz⟩
    obtain rfl := hwz.symm
    clear HRR
    have hsv := HSV.out
    subst hsv
    clear HSV
    go_upto_region 15 with fail
    refine wp_region_lit ?_
    refine wp_y (v := v0) rfl rfl (y_move rfl) rfl ?_
    try simp only [List.setIfInBounds_toArray, List.set_cons_zero, List.set_cons_succ]
    refine wp_y (v := strV l1) rfl rfl (y_convS rfl (by kernel_rfl) (by kernel_rfl) (fun w' h => by rw [h]; exact conv_sl HSL.out)) rfl ?_
    try simp only [List.setIfInBounds_toArray, List.set_cons_zero, List.set_cons_succ]
    refine wp_y (v := strV l1) rfl rfl (y_move rfl) rfl ?_
    try simp only [List.setIfInBounds_toArray, List.set_cons_zero, List.set_cons_succ]
    refine wp_y (v := .bool true) rfl rfl (y_eqlS (l := l1) (m := l1) rfl (by kernel_rfl) (by kernel_rfl) (by kernel_rfl) (decide_eq_true rfl)) rfl ?_
    try simp only [List.setIfInBounds_toArray, List.set_cons_zero, List.set_cons_succ]
    refine wp_y (v := .bool true) rfl rfl (y_move rfl) rfl ?_
    try simp only [List.setIfInBounds_toArray, List.set_cons_zero, List.set_cons_succ]
    refine wp_yg (v := .int .i64 e1) rfl (y_move rfl) rfl ?_
    try simp only [List.setIfInBounds_toArray, List.set_cons_zero, List.set_cons_succ]
    refine wp_yg (v := .int .i64 e1) rfl (y_move rfl) rfl ?_
    try simp only [List.setIfInBounds_toArray, List.set_cons_zero, List.set_cons_succ]
    refine wp_yg (v := .bool true) rfl (y_bin (k := .i64) (k' := .i64) (m := e1) (n := e1) rfl (by kernel_rfl) (by kernel_rfl) (by kernel_rfl) (eqlE _ _ _ (beq_self_eq_true _))) rfl ?_
    try simp only [List.setIfInBounds_toArray, List.set_cons_zero, List.set_cons_succ]
    refine wp_y (v := .bool true) rfl rfl (y_pick (b := true) rfl) rfl ?_
    try simp only [List.setIfInBounds_toArray, List.set_cons_zero, List.set_cons_succ]
    refine wp_y (v := .bool true) rfl rfl (y_assign rfl) rfl ?_
    try simp only [List.setIfInBounds_toArray, List.set_cons_zero, List.set_cons_succ]
    refine wp_end ?_
    have hred := HRED.out
    obtain ⟨hB2, hv0⟩ := hred
    rcases hv0 with ⟨rfl, rfl⟩ | ⟨b, cap, cs, t, hb, hcap, rfl, hh, _, hRd⟩
    · have HZ : Hid (Da Z B w w2 p j d r s sq bl cur was ww wa wo 3) := hid (Da.of _ (Bft.after HB1.out.1 HB1.out.2 ⟨HBo.out.below hB2, hB2.mono (Nat.le_trans HB1.out.2 HB1.out.1.size), Kr.of_below hB2⟩) rfl)
      clear hB2 HSL HRED
      go_wp2_with fail
      go_loopw [17] (fun y wv => y = .int .i64 0 ∧ wv = w2) (fun _ _ => 0)
      case atStart => exact ⟨rfl, rfl⟩
      case round =>
        obtain ⟨rfl, hwv⟩ := hrel
        obtain rfl := hwv.symm
        go_wp2_with fail
        go_ret
        exact ⟨rfl, HZ.out⟩
    · have HLO : Hid (Lo w2 w2 b l1.length t) := hid ⟨Cu.of_rd hRd, ⟨cs, hh⟩, Fr.refl _ _⟩
      have HBB : Hid (Below w1.heap.size w1 w2 ∧ w1.heap.size ≤ b) := hid ⟨hB2, hb⟩
      have hl896 : l1.length ≤ 896 := HPL.out
      have HN1 : Hid (l1.length ≤ 896) := hid hl896
      clear hB2 hb hcap hh hRd HSL HRED hl896
      generalize l1.length = n1 at *
      go_wp2_with fail
      go_loopw [17] (fun y wv => ∃ k : Nat, k ≤ n1 ∧ y = .int .i64 k ∧ Lo w2 wv b n1 t) (fun y _ => n1 - (intOf y).toNat)
      case atStart => exact ⟨0, Nat.zero_le _, rfl, HLO.out⟩
      case round =>
        clear HLO
        obtain ⟨k, hk, rfl, hLo⟩ := hrel
        have hn1 := HN1.out
        have hwk : IntKind.i64.wrap ((k : Int) + 1) = ((k + 1 : Nat) : Int) := by rw [IntWalk.i64_in _ ⟨by omega, by omega⟩]; omega
        by_cases hlt : k < n1
        · have hlt' : (k : Int) < (n1 : Int) := by omega
          obtain ⟨x, hx⟩ := hLo.1 k hlt
          obtain ⟨cs, hcs⟩ := hLo.2.1
          have HLX := hid (load1 Tryz.isAgg5 hx)
          have HST := hid (store1 Tryz.sizeOf5 (.int .u8 (IntKind.u8.wrap (x + 1))) rfl rfl hx (open_at hcs k))
          have HZ := hid (hLo.next k (IntKind.u8.wrap (x + 1)))
          have HKX := hid hlt
          clear hx hcs hLo hlt hk hn1
          go_upto_region 19 with fail
          refine wp_region_lit ?_
          refine wp_y (v := .slice (some ⟨b, 0, none⟩) n1 cap) rfl rfl (y_move rfl) rfl ?_
          try simp only [List.setIfInBounds_toArray, List.set_cons_zero, List.set_cons_succ]
          refine wp_y (v := .int .i64 (k : Nat)) rfl rfl (y_move rfl) rfl ?_
          try simp only [List.setIfInBounds_toArray, List.set_cons_zero, List.set_cons_succ]
          refine wp_y (v := .pointer (some ⟨b, k, none⟩)) rfl rfl (y_index rfl (hr := idxB b n1 cap k HKX.out)) rfl ?_
          try simp only [List.setIfInBounds_toArray, List.set_cons_zero, List.set_cons_succ]
          refine wp_y (v := .int .u8 x) rfl rfl (y_load rfl (hl := fun w' h => by rw [h]; exact HLX.out)) rfl ?_
          try simp only [List.setIfInBounds_toArray, List.set_cons_zero, List.set_cons_succ]
          refine wp_y (v := .int .u8 (IntKind.u8.wrap (x + 1))) rfl rfl (y_bin (k := .u8) (k' := .u8) (m := x) (n := 1) rfl (by kernel_rfl) (by kernel_rfl) (by kernel_rfl) (qinc x)) rfl ?_
          try simp only [List.setIfInBounds_toArray, List.set_cons_zero, List.set_cons_succ]
          refine wp_y (v := .pointer (some ⟨b, k, none⟩)) rfl rfl (y_index rfl (hr := idxB b n1 cap k HKX.out)) rfl ?_
          try simp only [List.setIfInBounds_toArray, List.set_cons_zero, List.set_cons_succ]
          refine wp_do rfl rfl (run_storeOp rfl (by kernel_rfl) (by kernel_rfl) HST.out) ?_
          try simp only [List.setIfInBounds_toArray, List.set_cons_zero, List.set_cons_succ]
          refine wp_end ?_
          go_wp2_with fail
          exact ⟨⟨k + 1, HKX.out, rfl, HZ.out⟩, by have := HKX.out; simp [intOf]; omega⟩
        · have hkn : k = n1 := by omega
          subst k
          have hlt' : ¬ (n1 : Int) < (n1 : Int) := by omega
          have HLZ := hid hLo
          clear hLo hlt hk hn1 hwk
          have HZ : Hid (Da Z B w wr p j d r s sq bl cur was ww wa wo 3) := hid (by
            have hF := HLZ.out.2.2
            have hB3 : Below w1.heap.size w1 wr := HBB.out.1.trans (hF.below HBB.out.1.size (by simp; exact HBB.out.2))
            exact Da.of _ (Bft.after HB1.out.1 HB1.out.2 ⟨HBo.out.below hB3, hB3.mono (Nat.le_trans HB1.out.2 HB1.out.1.size), Kr.of_below hB3⟩) rfl)
          clear HLZ
          go_wp2_with fail
          go_ret
          exact ⟨rfl, HZ.out⟩
  · have HLD := hid (load32 (cell_at HOP.out.1 0 rfl) (cell_at HOP.out.1 1 rfl) (cell_at HOP.out.1 2 rfl))
    have hof := of_any kd0 pg v w1
    obtain ⟨n, hn⟩ : ∃ n, ofN pg v = n := ⟨_, rfl⟩
    rw [hn] at hof
    have HOF := hid hof
    have HNN := hid hn
    have HN1 : Hid (n ≤ 896) := hid (by rw [← hn]; unfold ofN; have := v.toNat_lt; split <;> omega)
    clear hof hn
    go_upto_region 23 with fail
    refine wp_region_lit ?_
    refine wp_y (v := .agg #[.int .i64 kd0, .int .i64 pg, cb v]) rfl rfl (y_load rfl (hl := fun w' h => by rw [h]; exact HLD.out)) rfl ?_
    try simp only [List.setIfInBounds_toArray, List.set_cons_zero, List.set_cons_succ]
    refine wp_call (f := 37) (args := #[.agg #[.int .i64 kd0, .int .i64 pg, cb v]]) (by kernel_rfl) (fun w => by go_simp) ?_
    refine HOF.out.mono ?_
    rintro e w2 ⟨g, hg, rfl, hRw, hB2⟩
    refine ⟨_, rfl, ?_⟩
    have H2 := hid (And.intro hg (And.intro hRw hB2))
    clear hg hRw hB2 HOF
    dsimp only [Act.put]
    try simp only [List.setIfInBounds_toArray, List.set_cons_zero, List.set_cons_succ]
    refine wp_y (v := .slice (some ⟨g, 0, none⟩) n n) rfl rfl (y_assign rfl) rfl ?_
    try simp only [List.setIfInBounds_toArray, List.set_cons_zero, List.set_cons_succ]
    refine wp_end ?_
    clear HLD
    have h2 := H2.out
    have hln : (ofL v n n).length = n := ofL_len v n n
    obtain ⟨e0, cur', hcl, hA⟩ := (HBo.out.below h2.2.2).write pg g n (ofL v n n) hln h2.2.1
    have HA := hid hA
    have HCL := hid hcl
    clear h2 hln hA hcl
    go_wp2_with fail
    refine HA.out.mono ?_
    rintro e w3 ⟨rfl, hA3, hR3, hC3⟩
    have hrw3 : Rw w3 g 5 (ofL v n n) := hA3.2.2.block g _ _ _ H2.out.2.1 (by decide) (by decide) (by decide) (by decide)
    have HC3 : Hid (∀ (w2 : World) (g2 : Nat), (∃ ch, Rp Z w2 B r cur wa rt wo ch) → Rw w2 g2 5 (ofL v n n) → Calls Tryz.prog 47 #[.pointer (some ⟨r, 0, none⟩), .int .i64 pg, .slice (some ⟨g2, 0, none⟩) n n] w2 fun en w3 => en = .returned (.int .i64 e0) ∧ Raf Z w2 w3 B r cur' wa rt wo) := hid (fun w2 g2 => hC3 (w2 := w2) (g2 := g2))
    have H3 : Hid (Aft B w2 w3 p j d s sq bl cur' was rt ww ∧ (∃ ch, Rp Z w3 B r cur wa rt wo ch) ∧ ∃ cs, w3.heap[g]? = some (.cells cs 5 (0, 0))) := hid ⟨hA3, hR3, _, hrw3⟩
    have HLO : Hid (Lo w3 w3 g n 5) := hid ⟨by have h := Cu.of_rd hrw3.rd; rwa [ofL_len] at h, ⟨_, hrw3⟩, Fr.refl _ _⟩
    clear hA3 hR3 hC3 hrw3 HA
    go_wp2_with fail
    go_loopw [20] (fun y wv => ∃ k : Nat, k ≤ n ∧ y = .int .i64 k ∧ Lo w3 wv g n 5) (fun y _ => n - (intOf y).toNat)
    case atStart => exact ⟨0, Nat.zero_le _, rfl, HLO.out⟩
    case round =>
      clear HLO
      obtain ⟨k, hk, rfl, hLo⟩ := hrel
      have hn1 := HN1.out
      have hwk : IntKind.i64.wrap ((k : Int) + 1) = ((k + 1 : Nat) : Int) := by rw [IntWalk.i64_in _ ⟨by omega, by omega⟩]; omega
      by_cases hlt : k < n
      · have hlt' : (k : Int) < (n : Int) := by omega
        obtain ⟨x, hx⟩ := hLo.1 k hlt
        obtain ⟨cs, hcs⟩ := hLo.2.1
        have HLX := hid (load1 Tryz.isAgg5 hx)
        have HST := hid (store1 Tryz.sizeOf5 (.int .u8 (IntKind.u8.wrap (x + 1))) rfl rfl hx (open_at hcs k))
        have HZ := hid (hLo.next k (IntKind.u8.wrap (x + 1)))
        have HKX := hid hlt
        clear hx hcs hLo hlt hk hn1
        go_upto_region 28 with fail
        refine wp_region_lit ?_
        refine wp_y (v := .slice (some ⟨g, 0, none⟩) n n) rfl rfl (y_move rfl) rfl ?_
        try simp only [List.setIfInBounds_toArray, List.set_cons_zero, List.set_cons_succ]
        refine wp_y (v := .int .i64 (k : Nat)) rfl rfl (y_move rfl) rfl ?_
        try simp only [List.setIfInBounds_toArray, List.set_cons_zero, List.set_cons_succ]
        refine wp_y (v := .pointer (some ⟨g, k, none⟩)) rfl rfl (y_index rfl (hr := idxB g n n k HKX.out)) rfl ?_
        try simp only [List.setIfInBounds_toArray, List.set_cons_zero, List.set_cons_succ]
        refine wp_y (v := .int .u8 x) rfl rfl (y_load rfl (hl := fun w' h => by rw [h]; exact HLX.out)) rfl ?_
        try simp only [List.setIfInBounds_toArray, List.set_cons_zero, List.set_cons_succ]
        refine wp_y (v := .int .u8 (IntKind.u8.wrap (x + 1))) rfl rfl (y_bin (k := .u8) (k' := .u8) (m := x) (n := 1) rfl (by kernel_rfl) (by kernel_rfl) (by kernel_rfl) (qinc x)) rfl ?_
        try simp only [List.setIfInBounds_toArray, List.set_cons_zero, List.set_cons_succ]
        refine wp_y (v := .pointer (some ⟨g, k, none⟩)) rfl rfl (y_index rfl (hr := idxB g n n k HKX.out)) rfl ?_
        try simp only [List.setIfInBounds_toArray, List.set_cons_zero, List.set_cons_succ]
        refine wp_do rfl rfl (run_storeOp rfl (by kernel_rfl) (by kernel_rfl) HST.out) ?_
        try simp only [List.setIfInBounds_toArray, List.set_cons_zero, List.set_cons_succ]
        refine wp_end ?_
        go_wp2_with fail
        exact ⟨⟨k + 1, HKX.out, rfl, HZ.out⟩, by have := HKX.out; simp [intOf]; omega⟩
      · have hkn : k = n := by omega
        subst k
        have hlt' : ¬ (n : Int) < (n : Int) := by omega
        have HLZ := hid hLo
        clear hLo hlt hk hn1 hwk
        have h3 := H3.out
        have hF := HLZ.out.2.2
        have h2 := H2.out
        have hb1 := HB1.out
        have hRw3 := H3.out.2.2
        obtain ⟨cs3, hcs3⟩ := hRw3
        have hBg : B ≤ g := Nat.le_trans (Nat.le_trans hb1.2 hb1.1.size) h2.1
        obtain ⟨hP4, hB4⟩ := h3.1.1.fr hF (Fx.one hBg hcs3 (by decide) (by decide) (by decide) (by decide))
        have hR4 : ∃ ch, Rp Z wr B r cur wa rt wo ch := by
          obtain ⟨ch, h⟩ := h3.2.1
          refine ⟨ch, h.keep (fun a c t ha ht => hF.at ha (fun hm => ?_))⟩
          obtain rfl : a = g := by simpa using hm
          rw [hcs3] at ha
          injection ha with ha
          injection ha with _ e
          subst e
          revert ht
          decide
        have hop4 : wr.heap[g0]? = some (.cells #[.int .i64 kd0, .int .i64 pg, cb v] 32 (0, 0)) := hF.at (h3.1.2.2.block g0 _ _ _ (below_at h2.2.2 HOP.out.1 HOP.out.2) (by decide) (by decide) (by decide) (by decide)) (by have h6 := h2.1; have h7 := HOP.out.2; simp; omega)
        have HLD4 := hid (load32 (cell_at hop4 0 rfl) (cell_at hop4 1 rfl) (cell_at hop4 2 rfl))
        have hof4 := of_any kd0 pg v wr
        rw [HNN.out] at hof4
        have HOF4 := hid hof4
        have hk3 : Kr Z w wr := (((Kr.of_below hb1.1).trans (Kr.of_below h2.2.2)).trans (Kr.of_kq h3.1.2.2)).later hF (by simp; exact Nat.le_trans hb1.1.size h2.1)
        have hbw : Below B w wr := (((hb1.1.mono hb1.2).trans (h2.2.2.mono (Nat.le_trans hb1.2 hb1.1.size))).trans h3.1.2.1).trans hB4
        have H4 := hid (And.intro hP4 (And.intro hR4 (And.intro hbw hk3)))
        clear h3 hF h2 hb1 hcs3 hBg hP4 hB4 hR4 hop4 hof4 hk3 hbw HLZ H3 H2
        go_upto_region 29 with fail
        refine wp_region_lit ?_
        refine wp_y (v := .int .i64 e0) rfl rfl (y_move rfl) rfl ?_
        try simp only [List.setIfInBounds_toArray, List.set_cons_zero, List.set_cons_succ]
        refine wp_y (v := .pointer (some ⟨r, 0, none⟩)) rfl rfl (y_move rfl) rfl ?_
        try simp only [List.setIfInBounds_toArray, List.set_cons_zero, List.set_cons_succ]
        refine wp_y (v := .int .i64 pg) rfl rfl (y_move rfl) rfl ?_
        try simp only [List.setIfInBounds_toArray, List.set_cons_zero, List.set_cons_succ]
        refine wp_y (v := .agg #[.int .i64 kd0, .int .i64 pg, cb v]) rfl rfl (y_load rfl (hl := fun w' h => by rw [h]; exact HLD4.out)) rfl ?_
        try simp only [List.setIfInBounds_toArray, List.set_cons_zero, List.set_cons_succ]
        refine wp_call (f := 37) (args := #[.agg #[.int .i64 kd0, .int .i64 pg, cb v]]) (by kernel_rfl) (fun w => by go_simp) ?_
        refine HOF4.out.mono ?_
        rintro e w5 ⟨g2, hg2, rfl, hRw2, hB5⟩
        refine ⟨_, rfl, ?_⟩
        have HC5 := hid (HC3.out w5 g2 (by obtain ⟨ch, h⟩ := H4.out.2.1; exact ⟨ch, h.below hB5⟩) hRw2)
        have H5 := hid hB5
        clear hg2 hRw2 hB5 HOF4
        dsimp only [Act.put]
        try simp only [List.setIfInBounds_toArray, List.set_cons_zero, List.set_cons_succ]
        refine wp_call (f := 47) (args := #[.pointer (some ⟨r, 0, none⟩), .int .i64 pg, .slice (some ⟨g2, 0, none⟩) n n]) (by kernel_rfl) (fun w => by go_simp) ?_
        refine HC5.out.mono ?_
        rintro e w6 ⟨rfl, hR6⟩
        refine ⟨_, rfl, ?_⟩
        have H6 := hid hR6
        clear hR6 HC5
        dsimp only [Act.put]
        try simp only [List.setIfInBounds_toArray, List.set_cons_zero, List.set_cons_succ]
        refine wp_y (v := .bool true) rfl rfl (y_bin (k := .i64) (k' := .i64) (m := e0) (n := e0) rfl (by kernel_rfl) (by kernel_rfl) (by kernel_rfl) (eqlE _ _ _ (beq_self_eq_true _))) rfl ?_
        try simp only [List.setIfInBounds_toArray, List.set_cons_zero, List.set_cons_succ]
        refine wp_y (v := .bool true) rfl rfl (y_assign rfl) rfl ?_
        try simp only [List.setIfInBounds_toArray, List.set_cons_zero, List.set_cons_succ]
        refine wp_end ?_
        have HZ : Hid (Da Z B w w6 p j d r s sq bl cur was ww wa wo 4) := hid (by
          have h4 := H4.out
          have hP5 := h4.1.below H5.out
          obtain ⟨hR6, X, hF6, hX6, hY6⟩ := H6.out
          obtain ⟨hP6, hB6⟩ := hP5.fr hF6 hX6
          exact Da.of _ ⟨⟨hP6, hR6⟩, (h4.2.2.1.trans (H5.out.mono h4.1.Bw)).trans hB6, (h4.2.2.2.trans (Kr.of_below H5.out)).trans (Kr.of_fy hF6 hY6)⟩ HCL.out)
        clear H4 H5 H6
        go_wp2_with fail
        go_ret
        exact ⟨rfl, HZ.out⟩
  · have HLD := hid (load32 (cell_at HOP.out.1 0 rfl) (cell_at HOP.out.1 1 rfl) (cell_at HOP.out.1 2 rfl))
    have hof := of_any kd0 pg v w1
    obtain ⟨n, hn⟩ : ∃ n, ofN pg v = n := ⟨_, rfl⟩
    rw [hn] at hof
    have HOF := hid hof
    have HNN := hid hn
    have HN1 : Hid (n ≤ 896) := hid (by rw [← hn]; unfold ofN; have := v.toNat_lt; split <;> omega)
    clear hof hn
    go_upto_region 23 with fail
    refine wp_region_lit ?_
    refine wp_y (v := .agg #[.int .i64 kd0, .int .i64 pg, cb v]) rfl rfl (y_load rfl (hl := fun w' h => by rw [h]; exact HLD.out)) rfl ?_
    try simp only [List.setIfInBounds_toArray, List.set_cons_zero, List.set_cons_succ]
    refine wp_call (f := 37) (args := #[.agg #[.int .i64 kd0, .int .i64 pg, cb v]]) (by kernel_rfl) (fun w => by go_simp) ?_
    refine HOF.out.mono ?_
    rintro e w2 ⟨g, hg, rfl, hRw, hB2⟩
    refine ⟨_, rfl, ?_⟩
    have H2 := hid (And.intro hg (And.intro hRw hB2))
    clear hg hRw hB2 HOF
    dsimp only [Act.put]
    try simp only [List.setIfInBounds_toArray, List.set_cons_zero, List.set_cons_succ]
    refine wp_y (v := .slice (some ⟨g, 0, none⟩) n n) rfl rfl (y_assign rfl) rfl ?_
    try simp only [List.setIfInBounds_toArray, List.set_cons_zero, List.set_cons_succ]
    refine wp_end ?_
    clear HLD
    have h2 := H2.out
    have hln : (ofL v n n).length = n := ofL_len v n n
    obtain ⟨e0, cur', hcl, hA⟩ := (HBo.out.below h2.2.2).write pg g n (ofL v n n) hln h2.2.1
    have HA := hid hA
    have HCL := hid hcl
    clear h2 hln hA hcl
    go_wp2_with fail
    refine HA.out.mono ?_
    rintro e w3 ⟨rfl, hA3, hR3, hC3⟩
    have hrw3 : Rw w3 g 5 (ofL v n n) := hA3.2.2.block g _ _ _ H2.out.2.1 (by decide) (by decide) (by decide) (by decide)
    have HC3 : Hid (∀ (w2 : World) (g2 : Nat), (∃ ch, Rp Z w2 B r cur wa rt wo ch) → Rw w2 g2 5 (ofL v n n) → Calls Tryz.prog 47 #[.pointer (some ⟨r, 0, none⟩), .int .i64 pg, .slice (some ⟨g2, 0, none⟩) n n] w2 fun en w3 => en = .returned (.int .i64 e0) ∧ Raf Z w2 w3 B r cur' wa rt wo) := hid (fun w2 g2 => hC3 (w2 := w2) (g2 := g2))
    have H3 : Hid (Aft B w2 w3 p j d s sq bl cur' was rt ww ∧ (∃ ch, Rp Z w3 B r cur wa rt wo ch) ∧ ∃ cs, w3.heap[g]? = some (.cells cs 5 (0, 0))) := hid ⟨hA3, hR3, _, hrw3⟩
    have HLO : Hid (Lo w3 w3 g n 5) := hid ⟨by have h := Cu.of_rd hrw3.rd; rwa [ofL_len] at h, ⟨_, hrw3⟩, Fr.refl _ _⟩
    clear hA3 hR3 hC3 hrw3 HA
    go_wp2_with fail
    go_loopw [20] (fun y wv => ∃ k : Nat, k ≤ n ∧ y = .int .i64 k ∧ Lo w3 wv g n 5) (fun y _ => n - (intOf y).toNat)
    case atStart => exact ⟨0, Nat.zero_le _, rfl, HLO.out⟩
    case round =>
      clear HLO
      obtain ⟨k, hk, rfl, hLo⟩ := hrel
      have hn1 := HN1.out
      have hwk : IntKind.i64.wrap ((k : Int) + 1) = ((k + 1 : Nat) : Int) := by rw [IntWalk.i64_in _ ⟨by omega, by omega⟩]; omega
      by_cases hlt : k < n
      · have hlt' : (k : Int) < (n : Int) := by omega
        obtain ⟨x, hx⟩ := hLo.1 k hlt
        obtain ⟨cs, hcs⟩ := hLo.2.1
        have HLX := hid (load1 Tryz.isAgg5 hx)
        have HST := hid (store1 Tryz.sizeOf5 (.int .u8 (IntKind.u8.wrap (x + 1))) rfl rfl hx (open_at hcs k))
        have HZ := hid (hLo.next k (IntKind.u8.wrap (x + 1)))
        have HKX := hid hlt
        clear hx hcs hLo hlt hk hn1
        go_upto_region 28 with fail
        refine wp_region_lit ?_
        refine wp_y (v := .slice (some ⟨g, 0, none⟩) n n) rfl rfl (y_move rfl) rfl ?_
        try simp only [List.setIfInBounds_toArray, List.set_cons_zero, List.set_cons_succ]
        refine wp_y (v := .int .i64 (k : Nat)) rfl rfl (y_move rfl) rfl ?_
        try simp only [List.setIfInBounds_toArray, List.set_cons_zero, List.set_cons_succ]
        refine wp_y (v := .pointer (some ⟨g, k, none⟩)) rfl rfl (y_index rfl (hr := idxB g n n k HKX.out)) rfl ?_
        try simp only [List.setIfInBounds_toArray, List.set_cons_zero, List.set_cons_succ]
        refine wp_y (v := .int .u8 x) rfl rfl (y_load rfl (hl := fun w' h => by rw [h]; exact HLX.out)) rfl ?_
        try simp only [List.setIfInBounds_toArray, List.set_cons_zero, List.set_cons_succ]
        refine wp_y (v := .int .u8 (IntKind.u8.wrap (x + 1))) rfl rfl (y_bin (k := .u8) (k' := .u8) (m := x) (n := 1) rfl (by kernel_rfl) (by kernel_rfl) (by kernel_rfl) (qinc x)) rfl ?_
        try simp only [List.setIfInBounds_toArray, List.set_cons_zero, List.set_cons_succ]
        refine wp_y (v := .pointer (some ⟨g, k, none⟩)) rfl rfl (y_index rfl (hr := idxB g n n k HKX.out)) rfl ?_
        try simp only [List.setIfInBounds_toArray, List.set_cons_zero, List.set_cons_succ]
        refine wp_do rfl rfl (run_storeOp rfl (by kernel_rfl) (by kernel_rfl) HST.out) ?_
        try simp only [List.setIfInBounds_toArray, List.set_cons_zero, List.set_cons_succ]
        refine wp_end ?_
        go_wp2_with fail
        exact ⟨⟨k + 1, HKX.out, rfl, HZ.out⟩, by have := HKX.out; simp [intOf]; omega⟩
      · have hkn : k = n := by omega
        subst k
        have hlt' : ¬ (n : Int) < (n : Int) := by omega
        have HLZ := hid hLo
        clear hLo hlt hk hn1 hwk
        have h3 := H3.out
        have hF := HLZ.out.2.2
        have h2 := H2.out
        have hb1 := HB1.out
        have hRw3 := H3.out.2.2
        obtain ⟨cs3, hcs3⟩ := hRw3
        have hBg : B ≤ g := Nat.le_trans (Nat.le_trans hb1.2 hb1.1.size) h2.1
        obtain ⟨hP4, hB4⟩ := h3.1.1.fr hF (Fx.one hBg hcs3 (by decide) (by decide) (by decide) (by decide))
        have hR4 : ∃ ch, Rp Z wr B r cur wa rt wo ch := by
          obtain ⟨ch, h⟩ := h3.2.1
          refine ⟨ch, h.keep (fun a c t ha ht => hF.at ha (fun hm => ?_))⟩
          obtain rfl : a = g := by simpa using hm
          rw [hcs3] at ha
          injection ha with ha
          injection ha with _ e
          subst e
          revert ht
          decide
        have hop4 : wr.heap[g0]? = some (.cells #[.int .i64 kd0, .int .i64 pg, cb v] 32 (0, 0)) := hF.at (h3.1.2.2.block g0 _ _ _ (below_at h2.2.2 HOP.out.1 HOP.out.2) (by decide) (by decide) (by decide) (by decide)) (by have h6 := h2.1; have h7 := HOP.out.2; simp; omega)
        have HLD4 := hid (load32 (cell_at hop4 0 rfl) (cell_at hop4 1 rfl) (cell_at hop4 2 rfl))
        have hof4 := of_any kd0 pg v wr
        rw [HNN.out] at hof4
        have HOF4 := hid hof4
        have hk3 : Kr Z w wr := (((Kr.of_below hb1.1).trans (Kr.of_below h2.2.2)).trans (Kr.of_kq h3.1.2.2)).later hF (by simp; exact Nat.le_trans hb1.1.size h2.1)
        have hbw : Below B w wr := (((hb1.1.mono hb1.2).trans (h2.2.2.mono (Nat.le_trans hb1.2 hb1.1.size))).trans h3.1.2.1).trans hB4
        have H4 := hid (And.intro hP4 (And.intro hR4 (And.intro hbw hk3)))
        clear h3 hF h2 hb1 hcs3 hBg hP4 hB4 hR4 hop4 hof4 hk3 hbw HLZ H3 H2
        go_upto_region 29 with fail
        refine wp_region_lit ?_
        refine wp_y (v := .int .i64 e0) rfl rfl (y_move rfl) rfl ?_
        try simp only [List.setIfInBounds_toArray, List.set_cons_zero, List.set_cons_succ]
        refine wp_y (v := .pointer (some ⟨r, 0, none⟩)) rfl rfl (y_move rfl) rfl ?_
        try simp only [List.setIfInBounds_toArray, List.set_cons_zero, List.set_cons_succ]
        refine wp_y (v := .int .i64 pg) rfl rfl (y_move rfl) rfl ?_
        try simp only [List.setIfInBounds_toArray, List.set_cons_zero, List.set_cons_succ]
        refine wp_y (v := .agg #[.int .i64 kd0, .int .i64 pg, cb v]) rfl rfl (y_load rfl (hl := fun w' h => by rw [h]; exact HLD4.out)) rfl ?_
        try simp only [List.setIfInBounds_toArray, List.set_cons_zero, List.set_cons_succ]
        refine wp_call (f := 37) (args := #[.agg #[.int .i64 kd0, .int .i64 pg, cb v]]) (by kernel_rfl) (fun w => by go_simp) ?_
        refine HOF4.out.mono ?_
        rintro e w5 ⟨g2, hg2, rfl, hRw2, hB5⟩
        refine ⟨_, rfl, ?_⟩
        have HC5 := hid (HC3.out w5 g2 (by obtain ⟨ch, h⟩ := H4.out.2.1; exact ⟨ch, h.below hB5⟩) hRw2)
        have H5 := hid hB5
        clear hg2 hRw2 hB5 HOF4
        dsimp only [Act.put]
        try simp only [List.setIfInBounds_toArray, List.set_cons_zero, List.set_cons_succ]
        refine wp_call (f := 47) (args := #[.pointer (some ⟨r, 0, none⟩), .int .i64 pg, .slice (some ⟨g2, 0, none⟩) n n]) (by kernel_rfl) (fun w => by go_simp) ?_
        refine HC5.out.mono ?_
        rintro e w6 ⟨rfl, hR6⟩
        refine ⟨_, rfl, ?_⟩
        have H6 := hid hR6
        clear hR6 HC5
        dsimp only [Act.put]
        try simp only [List.setIfInBounds_toArray, List.set_cons_zero, List.set_cons_succ]
        refine wp_y (v := .bool true) rfl rfl (y_bin (k := .i64) (k' := .i64) (m := e0) (n := e0) rfl (by kernel_rfl) (by kernel_rfl) (by kernel_rfl) (eqlE _ _ _ (beq_self_eq_true _))) rfl ?_
        try simp only [List.setIfInBounds_toArray, List.set_cons_zero, List.set_cons_succ]
        refine wp_y (v := .bool true) rfl rfl (y_assign rfl) rfl ?_
        try simp only [List.setIfInBounds_toArray, List.set_cons_zero, List.set_cons_succ]
        refine wp_end ?_
        have HZ : Hid (Da Z B w w6 p j d r s sq bl cur was ww wa wo 5) := hid (by
          have h4 := H4.out
          have hP5 := h4.1.below H5.out
          obtain ⟨hR6, X, hF6, hX6, hY6⟩ := H6.out
          obtain ⟨hP6, hB6⟩ := hP5.fr hF6 hX6
          exact Da.of _ ⟨⟨hP6, hR6⟩, (h4.2.2.1.trans (H5.out.mono h4.1.Bw)).trans hB6, (h4.2.2.2.trans (Kr.of_below H5.out)).trans (Kr.of_fy hF6 hY6)⟩ HCL.out)
        clear H4 H5 H6
        go_wp2_with fail
        go_ret
        exact ⟨rfl, HZ.out⟩
  · obtain ⟨e0, rt', hA⟩ := HBo.out.setRoot pg
    have HA := hid hA
    clear hA
    go_wp2_with fail
    refine HA.out.mono ?_
    rintro e w2 ⟨rfl, hC⟩
    have HR := hid hC
    clear hC HA
    go_wp2_with fail
    refine HR.out.mono ?_
    rintro e w3 ⟨rfl, hF⟩
    have HZ : Hid (Da Z B w w3 p j d r s sq bl cur was ww wa wo 6) := hid (Da.of _ (Bft.after HB1.out.1 HB1.out.2 hF) rfl)
    clear hF HR
    go_wp2_with fail
    go_ret
    exact ⟨rfl, HZ.out⟩
  · have hcm := HCM.out (by decide)
    have HA := hid (HBo.out.commit hcm.1 hcm.2.1 hcm.2.2 HL1.out HZ1.out)
    have HCC := hid hcm.1
    clear hcm
    go_wp2_with fail
    refine HA.out.mono ?_
    rintro e w2 ⟨rfl, hC⟩
    have HR := hid hC
    clear hC HA
    go_wp2_with fail
    refine HR.out.mono ?_
    rintro e w3 ⟨rfl, s', sq', bl', hF, h1, h2, h3, h4, h5⟩
    have HZ : Hid (Da Z B w w3 p j d r s sq bl cur was ww wa wo 7) := hid ⟨s', sq', bl', cur, cur, rt, rt, cur, rt, Bft.after HB1.out.1 HB1.out.2 hF, rfl, h1, h2, h3, h4, h5.trans HCC.out.symm, fun h7 h8 => absurd rfl (by assumption), fun _ _ => ⟨rfl, rfl⟩⟩
    clear hF h1 h2 h3 h4 h5 HR
    go_wp2_with fail
    go_ret
    exact ⟨rfl, HZ.out⟩
  · have hcm := HCM.out (by decide)
    have HA := hid (HBo.out.commit hcm.1 hcm.2.1 hcm.2.2 HL1.out HZ1.out)
    have HCC := hid hcm.1
    clear hcm
    go_wp2_with fail
    refine HA.out.mono ?_
    rintro e w2 ⟨rfl, hC⟩
    have HR := hid hC
    clear hC HA
    go_wp2_with fail
    refine HR.out.mono ?_
    rintro e w3 ⟨rfl, s', sq', bl', hF, h1, h2, h3, h4, h5⟩
    have HZ : Hid (Da Z B w w3 p j d r s sq bl cur was ww wa wo 8) := hid ⟨s', sq', bl', cur, cur, rt, rt, cur, rt, Bft.after HB1.out.1 HB1.out.2 hF, rfl, h1, h2, h3, h4, h5.trans HCC.out.symm, fun h7 h8 => absurd rfl (by assumption), fun _ _ => ⟨rfl, rfl⟩⟩
    clear hF h1 h2 h3 h4 h5 HR
    go_wp2_with fail
    go_ret
    exact ⟨rfl, HZ.out⟩
  · have HW := hid (H9.out rfl)
    clear H9
    have HA := hid (HBo.out.abort HL1.out HW.out.1 HW.out.2 HZ1.out)
    go_wp2_with fail
    refine HA.out.mono ?_
    rintro e w2 ⟨rfl, hC⟩
    have HR := hid hC
    clear hC HA
    go_wp2_with fail
    refine HR.out.mono ?_
    rintro e w3 ⟨rfl, hF⟩
    have HZ : Hid (Da Z B w w3 p j d r s sq bl cur was ww wa wo 9) := hid ⟨s, sq, bl, was, was, ww, ww, was, ww, Bft.after HB1.out.1 HB1.out.2 hF, HBo.out.len, rfl, Int.le_refl _, by omega, by omega, rfl, fun _ _ => ⟨rfl, rfl, rfl, rfl, rfl, HW.out.1.symm, HW.out.2.symm⟩, fun _ _ => ⟨rfl, rfl⟩⟩
    clear hF HR
    go_wp2_with fail
    go_ret
    exact ⟨rfl, HZ.out⟩
set_option maxRecDepth 100000 in
set_option maxHeartbeats 8000000 in
theorem does_77 {B : Nat} {w : World} {p j d r : Nat} {s : DS} {sq : Nat} {bl : List (List UInt8)} {cur was wa : Pgs} {rt ww wo : Int} (h : Bo Z B w p j d r s sq bl cur was rt ww wa wo) (kd0 : Int) (v : UInt8) (hk0 : -9223372036854775808 ≤ kd0) (hk1 : kd0 ≤ 9223372036854775807) (hl1 : 1 ≤ cur.length) (hcom : pk kd0 10 = 7 ∨ pk kd0 10 = 8 → s.cut = -1 ∧ sq + 1 ≤ 1000000000 ∧ s.ops + ((2 * nbOf s.n + 4 : Nat) : Int) ≤ 1048576) (h9 : pk kd0 10 = 9 → wa = was ∧ wo = ww) (hZ : ∀ g, Z g → g < w.heap.size) :
    Calls Tryz.prog 15 #[.pointer (some ⟨p, 0, none⟩), .pointer (some ⟨r, 0, none⟩), .agg #[.int .i64 kd0, .int .i64 77, cb v]] w fun e w' => e = .returned (.bool true) ∧ Da Z B w w' p j d r s sq bl cur was ww wa wo (pk kd0 10) := by
  obtain ⟨g0, hg0⟩ : ∃ g, w.heap.size = g := ⟨_, rfl⟩
  have hB1 : Below w.heap.size w (w.alloc (.cells #[.int .i64 kd0, .int .i64 77, cb v] 32)) := (Below.refl _ _).alloc (Nat.le_refl _) _
  have hS1 : (w.alloc (.cells #[.int .i64 kd0, .int .i64 77, cb v] 32)).heap[w.heap.size]? = some (.cells #[.int .i64 kd0, .int .i64 77, cb v] 32 (0, 0)) := heap_alloc_last w _
  have hz1 : (w.alloc (.cells #[.int .i64 kd0, .int .i64 77, cb v] 32)).heap.size = w.heap.size + 1 := by show (w.heap.push _).size = _; simp
  have hbx : (Instr.box 32 (.agg #[.int .i64 kd0, .int .i64 77, cb v])).run Tryz.prog w = .ok (.pointer (some ⟨w.heap.size, 0, none⟩)) (w.alloc (.cells #[.int .i64 kd0, .int .i64 77, cb v] 32)) := box_agg _ w _
  generalize w.alloc (.cells #[.int .i64 kd0, .int .i64 77, cb v] 32) = w1 at *
  have HBo := hid (h.below hB1)
  have HB1 : Hid (Below w.heap.size w w1 ∧ B ≤ w.heap.size) := hid ⟨hB1, h.1.Bw⟩
  have HL8 : Hid (∀ (k : Int) (l : List UInt8), pgB cur k = l → l.length ≤ 896) := hid (fun k l e => by
    subst e
    unfold pgB
    split
    · rename_i ht
      obtain ⟨q, x, rfl, hq⟩ := tkD ht
      have h8 := h.1.c896 q x hq
      simp [hq]
      omega
    · simp)
  rw [hg0] at hbx hS1 hz1
  have HOP : Hid (w1.heap[g0]? = some (.cells #[.int .i64 kd0, .int .i64 77, cb v] 32 (0, 0)) ∧ g0 < w1.heap.size) := hid ⟨hS1, by omega⟩
  have hc0 : w1.cell? ⟨g0, 0, none⟩ = some (.int .i64 kd0) := cell_at hS1 0 rfl
  have hc1 : w1.cell? ⟨g0, 1, none⟩ = some (.int .i64 77) := cell_at hS1 1 rfl
  have HBX := hid hbx
  have HPK := hid (pick_any kd0 10 hk0 hk1 (by decide) w1)
  have hk10 := pk_lt kd0 (n := 10) (by decide)
  have HL1 := hid hl1
  have HCM := hid hcom
  have H9 := hid h9
  have HZ1 : Hid (∀ g, Z g → g < w1.heap.size) := hid (fun g hg => Nat.lt_of_lt_of_le (hZ g hg) hB1.size)
  obtain ⟨kd, hkd⟩ : ∃ kd, pk kd0 10 = kd := ⟨_, rfl⟩
  rw [hkd] at HPK hk10 HCM H9
  rw [hkd]
  clear h hg0 hB1 hS1 hz1 hbx hk0 hk1 hl1 hcom h9 hZ hkd
  go_enter Tryz.func15, Tryz.ntmps15
  go_upto_region 0 with fail
  refine wp_region_lit ?_
  refine wp_run (v := .pointer (some ⟨g0, 0, none⟩)) rfl rfl (run_boxOp rfl (by kernel_rfl) HBX.out) rfl ?_
  try simp only [List.setIfInBounds_toArray, List.set_cons_zero, List.set_cons_succ]
  refine wp_y (v := (.bool false)) rfl rfl (y_assign rfl) rfl ?_
  try simp only [List.setIfInBounds_toArray, List.set_cons_zero, List.set_cons_succ]
  refine wp_end ?_
  go_wp2_with fail
  refine HPK.out.mono ?_
  rintro e wz ⟨rfl, hwz⟩
  obtain rfl := hwz.symm
  clear HPK hc0 hc1 HBX
  have hk : kd = 0 ∨ kd = 1 ∨ kd = 2 ∨ kd = 3 ∨ kd = 4 ∨ kd = 5 ∨ kd = 6 ∨ kd = 7 ∨ kd = 8 ∨ kd = 9 := by omega
  clear hk10
  rcases hk with rfl | rfl | rfl | rfl | rfl | rfl | rfl | rfl | rfl | rfl
  · obtain ⟨k0, e0, cur', hcl, hA⟩ := HBo.out.alloc
    have HA := hid hA
    have HC := hid hcl
    clear hcl
    clear hA
    go_wp2_with fail
    refine HA.out.mono ?_
    rintro e w2 ⟨rfl, hC⟩
    have HR := hid hC
    clear hC HA
    go_wp2_with fail
    refine HR.out.mono ?_
    rintro e w3 ⟨rfl, hF⟩
    have HZ : Hid (Da Z B w w3 p j d r s sq bl cur was ww wa wo 0) := hid (Da.of _ (Bft.after HB1.out.1 HB1.out.2 hF) HC.out)
    clear hF HR
    go_wp2_with fail
    go_ret
    exact ⟨rfl, HZ.out⟩
  · obtain ⟨k0, e0, cur', hcl, hA⟩ := HBo.out.alloc
    have HA := hid hA
    have HC := hid hcl
    clear hcl
    clear hA
    go_wp2_with fail
    refine HA.out.mono ?_
    rintro e w2 ⟨rfl, hC⟩
    have HR := hid hC
    clear hC HA
    go_wp2_with fail
    refine HR.out.mono ?_
    rintro e w3 ⟨rfl, hF⟩
    have HZ : Hid (Da Z B w w3 p j d r s sq bl cur was ww wa wo 1) := hid (Da.of _ (Bft.after HB1.out.1 HB1.out.2 hF) HC.out)
    clear hF HR
    go_wp2_with fail
    go_ret
    exact ⟨rfl, HZ.out⟩
  · obtain ⟨e0, cur', hcl, hA⟩ := HBo.out.free 0
    have HA := hid hA
    have HC := hid hcl
    clear hcl
    clear hA
    go_wp2_with fail
    refine HA.out.mono ?_
    rintro e w2 ⟨rfl, hC⟩
    have HR := hid hC
    clear hC HA
    go_wp2_with fail
    refine HR.out.mono ?_
    rintro e w3 ⟨rfl, hF⟩
    have HZ : Hid (Da Z B w w3 p j d r s sq bl cur was ww wa wo 2) := hid (Da.of _ (Bft.after HB1.out.1 HB1.out.2 hF) HC.out)
    clear hF HR
    go_wp2_with fail
    go_ret
    exact ⟨rfl, HZ.out⟩
  · have hrd := HBo.out.1.readAny 0
    obtain ⟨l1, hl1⟩ : ∃ l, pgB cur 0 = l := ⟨_, rfl⟩
    obtain ⟨e1, he1⟩ : ∃ l, pgE cur 0 = l := ⟨_, rfl⟩
    rw [hl1, he1] at hrd
    have HRE := hid hrd
    have HPE : Hid (pgB cur 0 = l1 ∧ pgE cur 0 = e1) := hid ⟨hl1, he1⟩
    have HPL : Hid (l1.length ≤ 896) := hid (HL8.out 0 l1 hl1)
    clear hrd hl1 he1
    go_wp2_with fail
    refine HRE.out.mono ?_
    rintro e w2 ⟨v0, rfl, hRed⟩
    obtain ⟨ch, hR1⟩ := HBo.out.2
    have hrr := rread_any (hR1.below hRed.1) 0
    rw [HPE.out.1, HPE.out.2] at hrr
    have HRR := hid hrr
    have HSL := hid hRed.sl
    have HRED := hid hRed
    clear hRed hR1 hrr HRE HPE
    generalize hsv : strV l1 = sv at *
    have HSV := hid hsv
    clear hsv
    go_wp2_with fail
    refine HRR.out.mono ?_
    rintro e wz ⟨rfl, hwz⟩
    obtain rfl := hwz.symm
    clear HRR
    have hsv := HSV.out
    subst hsv
    clear HSV
    go_upto_region 15 with fail
    refine wp_region_lit ?_
    refine wp_y (v := v0) rfl rfl (y_move rfl) rfl ?_
    try simp only [List.setIfInBounds_toArray, List.set_cons_zero, List.set_cons_succ]
    refine wp_y (v := strV l1) rfl rfl (y_convS rfl (by kernel_rfl) (by kernel_rfl) (fun w' h => by rw [h]; exact conv_sl HSL.out)) rfl ?_
    try simp only [List.setIfInBounds_toArray, List.set_cons_zero, List.set_cons_succ]
    refine wp_y (v := strV l1) rfl rfl (y_move rfl) rfl ?_
    try simp only [List.setIfInBounds_toArray, List.set_cons_zero, List.set_cons_succ]
    refine wp_y (v := .bool true) rfl rfl (y_eqlS (l := l1) (m := l1) rfl (by kernel_rfl) (by kernel_rfl) (by kernel_rfl) (decide_eq_true rfl)) rfl ?_
    try simp only [List.setIfInBounds_toArray, List.set_cons_zero, List.set_cons_succ]
    refine wp_y (v := .bool true) rfl rfl (y_move rfl) rfl ?_
    try simp only [List.setIfInBounds_toArray, List.set_cons_zero, List.set_cons_succ]
    refine wp_yg (v := .int .i64 e1) rfl (y_move rfl) rfl ?_
    try simp only [List.setIfInBounds_toArray, List.set_cons_zero, List.set_cons_succ]
    refine wp_yg (v := .int .i64 e1) rfl (y_move rfl) rfl ?_
    try simp only [List.setIfInBounds_toArray, List.set_cons_zero, List.set_cons_succ]
    refine wp_yg (v := .bool true) rfl (y_bin (k := .i64) (k' := .i64) (m := e1) (n := e1) rfl (by kernel_rfl) (by kernel_rfl) (by kernel_rfl) (eqlE _ _ _ (beq_self_eq_true _))) rfl ?_
    try simp only [List.setIfInBounds_toArray, List.set_cons_zero, List.set_cons_succ]
    refine wp_y (v := .bool true) rfl rfl (y_pick (b := true) rfl) rfl ?_
    try simp only [List.setIfInBounds_toArray, List.set_cons_zero, List.set_cons_succ]
    refine wp_y (v := .bool true) rfl rfl (y_assign rfl) rfl ?_
    try simp only [List.setIfInBounds_toArray, List.set_cons_zero, List.set_cons_succ]
    refine wp_end ?_
    have hred := HRED.out
    obtain ⟨hB2, hv0⟩ := hred
    rcases hv0 with ⟨rfl, rfl⟩ | ⟨b, cap, cs, t, hb, hcap, rfl, hh, _, hRd⟩
    · have HZ : Hid (Da Z B w w2 p j d r s sq bl cur was ww wa wo 3) := hid (Da.of _ (Bft.after HB1.out.1 HB1.out.2 ⟨HBo.out.below hB2, hB2.mono (Nat.le_trans HB1.out.2 HB1.out.1.size), Kr.of_below hB2⟩) rfl)
      clear hB2 HSL HRED
      go_wp2_with fail
      go_loopw [17] (fun y wv => y = .int .i64 0 ∧ wv = w2) (fun _ _ => 0)
      case atStart => exact ⟨rfl, rfl⟩
      case round =>
        obtain ⟨rfl, hwv⟩ := hrel
        obtain rfl := hwv.symm
        go_wp2_with fail
        go_ret
        exact ⟨rfl, HZ.out⟩
    · have HLO : Hid (Lo w2 w2 b l1.length t) := hid ⟨Cu.of_rd hRd, ⟨cs, hh⟩, Fr.refl _ _⟩
      have HBB : Hid (Below w1.heap.size w1 w2 ∧ w1.heap.size ≤ b) := hid ⟨hB2, hb⟩
      have hl896 : l1.length ≤ 896 := HPL.out
      have HN1 : Hid (l1.length ≤ 896) := hid hl896
      clear hB2 hb hcap hh hRd HSL HRED hl896
      generalize l1.length = n1 at *
      go_wp2_with fail
      go_loopw [17] (fun y wv => ∃ k : Nat, k ≤ n1 ∧ y = .int .i64 k ∧ Lo w2 wv b n1 t) (fun y _ => n1 - (intOf y).toNat)
      case atStart => exact ⟨0, Nat.zero_le _, rfl, HLO.out⟩
      case round =>
        clear HLO
        obtain ⟨k, hk, rfl, hLo⟩ := hrel
        have hn1 := HN1.out
        have hwk : IntKind.i64.wrap ((k : Int) + 1) = ((k + 1 : Nat) : Int) := by rw [IntWalk.i64_in _ ⟨by omega, by omega⟩]; omega
        by_cases hlt : k < n1
        · have hlt' : (k : Int) < (n1 : Int) := by omega
          obtain ⟨x, hx⟩ := hLo.1 k hlt
          obtain ⟨cs, hcs⟩ := hLo.2.1
          have HLX := hid (load1 Tryz.isAgg5 hx)
          have HST := hid (store1 Tryz.sizeOf5 (.int .u8 (IntKind.u8.wrap (x + 1))) rfl rfl hx (open_at hcs k))
          have HZ := hid (hLo.next k (IntKind.u8.wrap (x + 1)))
          have HKX := hid hlt
          clear hx hcs hLo hlt hk hn1
          go_upto_region 19 with fail
          refine wp_region_lit ?_
          refine wp_y (v := .slice (some ⟨b, 0, none⟩) n1 cap) rfl rfl (y_move rfl) rfl ?_
          try simp only [List.setIfInBounds_toArray, List.set_cons_zero, List.set_cons_succ]
          refine wp_y (v := .int .i64 (k : Nat)) rfl rfl (y_move rfl) rfl ?_
          try simp only [List.setIfInBounds_toArray, List.set_cons_zero, List.set_cons_succ]
          refine wp_y (v := .pointer (some ⟨b, k, none⟩)) rfl rfl (y_index rfl (hr := idxB b n1 cap k HKX.out)) rfl ?_
          try simp only [List.setIfInBounds_toArray, List.set_cons_zero, List.set_cons_succ]
          refine wp_y (v := .int .u8 x) rfl rfl (y_load rfl (hl := fun w' h => by rw [h]; exact HLX.out)) rfl ?_
          try simp only [List.setIfInBounds_toArray, List.set_cons_zero, List.set_cons_succ]
          refine wp_y (v := .int .u8 (IntKind.u8.wrap (x + 1))) rfl rfl (y_bin (k := .u8) (k' := .u8) (m := x) (n := 1) rfl (by kernel_rfl) (by kernel_rfl) (by kernel_rfl) (qinc x)) rfl ?_
          try simp only [List.setIfInBounds_toArray, List.set_cons_zero, List.set_cons_succ]
          refine wp_y (v := .pointer (some ⟨b, k, none⟩)) rfl rfl (y_index rfl (hr := idxB b n1 cap k HKX.out)) rfl ?_
          try simp only [List.setIfInBounds_toArray, List.set_cons_zero, List.set_cons_succ]
          refine wp_do rfl rfl (run_storeOp rfl (by kernel_rfl) (by kernel_rfl) HST.out) ?_
          try simp only [List.setIfInBounds_toArray, List.set_cons_zero, List.set_cons_succ]
          refine wp_end ?_
          go_wp2_with fail
          exact ⟨⟨k + 1, HKX.out, rfl, HZ.out⟩, by have := HKX.out; simp [intOf]; omega⟩
        · have hkn : k = n1 := by omega
          subst k
          have hlt' : ¬ (n1 : Int) < (n1 : Int) := by omega
          have HLZ := hid hLo
          clear hLo hlt hk hn1 hwk
          have HZ : Hid (Da Z B w wr p j d r s sq bl cur was ww wa wo 3) := hid (by
            have hF := HLZ.out.2.2
            have hB3 : Below w1.heap.size w1 wr := HBB.out.1.trans (hF.below HBB.out.1.size (by simp; exact HBB.out.2))
            exact Da.of _ (Bft.after HB1.out.1 HB1.out.2 ⟨HBo.out.below hB3, hB3.mono (Nat.le_trans HB1.out.2 HB1.out.1.size), Kr.of_below hB3⟩) rfl)
          clear HLZ
          go_wp2_with fail
          go_ret
          exact ⟨rfl, HZ.out⟩
  · have HLD := hid (load32 (cell_at HOP.out.1 0 rfl) (cell_at HOP.out.1 1 rfl) (cell_at HOP.out.1 2 rfl))
    have hof := of_any kd0 77 v w1
    obtain ⟨n, hn⟩ : ∃ n, ofN 77 v = n := ⟨_, rfl⟩
    rw [hn] at hof
    have HOF := hid hof
    have HNN := hid hn
    have HN1 : Hid (n ≤ 896) := hid (by rw [← hn]; unfold ofN; have := v.toNat_lt; split <;> omega)
    clear hof hn
    go_upto_region 23 with fail
    refine wp_region_lit ?_
    refine wp_y (v := .agg #[.int .i64 kd0, .int .i64 77, cb v]) rfl rfl (y_load rfl (hl := fun w' h => by rw [h]; exact HLD.out)) rfl ?_
    try simp only [List.setIfInBounds_toArray, List.set_cons_zero, List.set_cons_succ]
    refine wp_call (f := 37) (args := #[.agg #[.int .i64 kd0, .int .i64 77, cb v]]) (by kernel_rfl) (fun w => by go_simp) ?_
    refine HOF.out.mono ?_
    rintro e w2 ⟨g, hg, rfl, hRw, hB2⟩
    refine ⟨_, rfl, ?_⟩
    have H2 := hid (And.intro hg (And.intro hRw hB2))
    clear hg hRw hB2 HOF
    dsimp only [Act.put]
    try simp only [List.setIfInBounds_toArray, List.set_cons_zero, List.set_cons_succ]
    refine wp_y (v := .slice (some ⟨g, 0, none⟩) n n) rfl rfl (y_assign rfl) rfl ?_
    try simp only [List.setIfInBounds_toArray, List.set_cons_zero, List.set_cons_succ]
    refine wp_end ?_
    clear HLD
    have h2 := H2.out
    have hln : (ofL v n n).length = n := ofL_len v n n
    obtain ⟨e0, cur', hcl, hA⟩ := (HBo.out.below h2.2.2).write 0 g n (ofL v n n) hln h2.2.1
    have HA := hid hA
    have HCL := hid hcl
    clear h2 hln hA hcl
    go_wp2_with fail
    refine HA.out.mono ?_
    rintro e w3 ⟨rfl, hA3, hR3, hC3⟩
    have hrw3 : Rw w3 g 5 (ofL v n n) := hA3.2.2.block g _ _ _ H2.out.2.1 (by decide) (by decide) (by decide) (by decide)
    have HC3 : Hid (∀ (w2 : World) (g2 : Nat), (∃ ch, Rp Z w2 B r cur wa rt wo ch) → Rw w2 g2 5 (ofL v n n) → Calls Tryz.prog 47 #[.pointer (some ⟨r, 0, none⟩), .int .i64 0, .slice (some ⟨g2, 0, none⟩) n n] w2 fun en w3 => en = .returned (.int .i64 e0) ∧ Raf Z w2 w3 B r cur' wa rt wo) := hid (fun w2 g2 => hC3 (w2 := w2) (g2 := g2))
    have H3 : Hid (Aft B w2 w3 p j d s sq bl cur' was rt ww ∧ (∃ ch, Rp Z w3 B r cur wa rt wo ch) ∧ ∃ cs, w3.heap[g]? = some (.cells cs 5 (0, 0))) := hid ⟨hA3, hR3, _, hrw3⟩
    have HLO : Hid (Lo w3 w3 g n 5) := hid ⟨by have h := Cu.of_rd hrw3.rd; rwa [ofL_len] at h, ⟨_, hrw3⟩, Fr.refl _ _⟩
    clear hA3 hR3 hC3 hrw3 HA
    go_wp2_with fail
    go_loopw [20] (fun y wv => ∃ k : Nat, k ≤ n ∧ y = .int .i64 k ∧ Lo w3 wv g n 5) (fun y _ => n - (intOf y).toNat)
    case atStart => exact ⟨0, Nat.zero_le _, rfl, HLO.out⟩
    case round =>
      clear HLO
      obtain ⟨k, hk, rfl, hLo⟩ := hrel
      have hn1 := HN1.out
      have hwk : IntKind.i64.wrap ((k : Int) + 1) = ((k + 1 : Nat) : Int) := by rw [IntWalk.i64_in _ ⟨by omega, by omega⟩]; omega
      by_cases hlt : k < n
      · have hlt' : (k : Int) < (n : Int) := by omega
        obtain ⟨x, hx⟩ := hLo.1 k hlt
        obtain ⟨cs, hcs⟩ := hLo.2.1
        have HLX := hid (load1 Tryz.isAgg5 hx)
        have HST := hid (store1 Tryz.sizeOf5 (.int .u8 (IntKind.u8.wrap (x + 1))) rfl rfl hx (open_at hcs k))
        have HZ := hid (hLo.next k (IntKind.u8.wrap (x + 1)))
        have HKX := hid hlt
        clear hx hcs hLo hlt hk hn1
        go_upto_region 28 with fail
        refine wp_region_lit ?_
        refine wp_y (v := .slice (some ⟨g, 0, none⟩) n n) rfl rfl (y_move rfl) rfl ?_
        try simp only [List.setIfInBounds_toArray, List.set_cons_zero, List.set_cons_succ]
        refine wp_y (v := .int .i64 (k : Nat)) rfl rfl (y_move rfl) rfl ?_
        try simp only [List.setIfInBounds_toArray, List.set_cons_zero, List.set_cons_succ]
        refine wp_y (v := .pointer (some ⟨g, k, none⟩)) rfl rfl (y_index rfl (hr := idxB g n n k HKX.out)) rfl ?_
        try simp only [List.setIfInBounds_toArray, List.set_cons_zero, List.set_cons_succ]
        refine wp_y (v := .int .u8 x) rfl rfl (y_load rfl (hl := fun w' h => by rw [h]; exact HLX.out)) rfl ?_
        try simp only [List.setIfInBounds_toArray, List.set_cons_zero, List.set_cons_succ]
        refine wp_y (v := .int .u8 (IntKind.u8.wrap (x + 1))) rfl rfl (y_bin (k := .u8) (k' := .u8) (m := x) (n := 1) rfl (by kernel_rfl) (by kernel_rfl) (by kernel_rfl) (qinc x)) rfl ?_
        try simp only [List.setIfInBounds_toArray, List.set_cons_zero, List.set_cons_succ]
        refine wp_y (v := .pointer (some ⟨g, k, none⟩)) rfl rfl (y_index rfl (hr := idxB g n n k HKX.out)) rfl ?_
        try simp only [List.setIfInBounds_toArray, List.set_cons_zero, List.set_cons_succ]
        refine wp_do rfl rfl (run_storeOp rfl (by kernel_rfl) (by kernel_rfl) HST.out) ?_
        try simp only [List.setIfInBounds_toArray, List.set_cons_zero, List.set_cons_succ]
        refine wp_end ?_
        go_wp2_with fail
        exact ⟨⟨k + 1, HKX.out, rfl, HZ.out⟩, by have := HKX.out; simp [intOf]; omega⟩
      · have hkn : k = n := by omega
        subst k
        have hlt' : ¬ (n : Int) < (n : Int) := by omega
        have HLZ := hid hLo
        clear hLo hlt hk hn1 hwk
        have h3 := H3.out
        have hF := HLZ.out.2.2
        have h2 := H2.out
        have hb1 := HB1.out
        have hRw3 := H3.out.2.2
        obtain ⟨cs3, hcs3⟩ := hRw3
        have hBg : B ≤ g := Nat.le_trans (Nat.le_trans hb1.2 hb1.1.size) h2.1
        obtain ⟨hP4, hB4⟩ := h3.1.1.fr hF (Fx.one hBg hcs3 (by decide) (by decide) (by decide) (by decide))
        have hR4 : ∃ ch, Rp Z wr B r cur wa rt wo ch := by
          obtain ⟨ch, h⟩ := h3.2.1
          refine ⟨ch, h.keep (fun a c t ha ht => hF.at ha (fun hm => ?_))⟩
          obtain rfl : a = g := by simpa using hm
          rw [hcs3] at ha
          injection ha with ha
          injection ha with _ e
          subst e
          revert ht
          decide
        have hop4 : wr.heap[g0]? = some (.cells #[.int .i64 kd0, .int .i64 77, cb v] 32 (0, 0)) := hF.at (h3.1.2.2.block g0 _ _ _ (below_at h2.2.2 HOP.out.1 HOP.out.2) (by decide) (by decide) (by decide) (by decide)) (by have h6 := h2.1; have h7 := HOP.out.2; simp; omega)
        have HLD4 := hid (load32 (cell_at hop4 0 rfl) (cell_at hop4 1 rfl) (cell_at hop4 2 rfl))
        have hof4 := of_any kd0 77 v wr
        rw [HNN.out] at hof4
        have HOF4 := hid hof4
        have hk3 : Kr Z w wr := (((Kr.of_below hb1.1).trans (Kr.of_below h2.2.2)).trans (Kr.of_kq h3.1.2.2)).later hF (by simp; exact Nat.le_trans hb1.1.size h2.1)
        have hbw : Below B w wr := (((hb1.1.mono hb1.2).trans (h2.2.2.mono (Nat.le_trans hb1.2 hb1.1.size))).trans h3.1.2.1).trans hB4
        have H4 := hid (And.intro hP4 (And.intro hR4 (And.intro hbw hk3)))
        clear h3 hF h2 hb1 hcs3 hBg hP4 hB4 hR4 hop4 hof4 hk3 hbw HLZ H3 H2
        go_upto_region 29 with fail
        refine wp_region_lit ?_
        refine wp_y (v := .int .i64 e0) rfl rfl (y_move rfl) rfl ?_
        try simp only [List.setIfInBounds_toArray, List.set_cons_zero, List.set_cons_succ]
        refine wp_y (v := .pointer (some ⟨r, 0, none⟩)) rfl rfl (y_move rfl) rfl ?_
        try simp only [List.setIfInBounds_toArray, List.set_cons_zero, List.set_cons_succ]
        refine wp_y (v := .int .i64 0) rfl rfl (y_move rfl) rfl ?_
        try simp only [List.setIfInBounds_toArray, List.set_cons_zero, List.set_cons_succ]
        refine wp_y (v := .agg #[.int .i64 kd0, .int .i64 77, cb v]) rfl rfl (y_load rfl (hl := fun w' h => by rw [h]; exact HLD4.out)) rfl ?_
        try simp only [List.setIfInBounds_toArray, List.set_cons_zero, List.set_cons_succ]
        refine wp_call (f := 37) (args := #[.agg #[.int .i64 kd0, .int .i64 77, cb v]]) (by kernel_rfl) (fun w => by go_simp) ?_
        refine HOF4.out.mono ?_
        rintro e w5 ⟨g2, hg2, rfl, hRw2, hB5⟩
        refine ⟨_, rfl, ?_⟩
        have HC5 := hid (HC3.out w5 g2 (by obtain ⟨ch, h⟩ := H4.out.2.1; exact ⟨ch, h.below hB5⟩) hRw2)
        have H5 := hid hB5
        clear hg2 hRw2 hB5 HOF4
        dsimp only [Act.put]
        try simp only [List.setIfInBounds_toArray, List.set_cons_zero, List.set_cons_succ]
        refine wp_call (f := 47) (args := #[.pointer (some ⟨r, 0, none⟩), .int .i64 0, .slice (some ⟨g2, 0, none⟩) n n]) (by kernel_rfl) (fun w => by go_simp) ?_
        refine HC5.out.mono ?_
        rintro e w6 ⟨rfl, hR6⟩
        refine ⟨_, rfl, ?_⟩
        have H6 := hid hR6
        clear hR6 HC5
        dsimp only [Act.put]
        try simp only [List.setIfInBounds_toArray, List.set_cons_zero, List.set_cons_succ]
        refine wp_y (v := .bool true) rfl rfl (y_bin (k := .i64) (k' := .i64) (m := e0) (n := e0) rfl (by kernel_rfl) (by kernel_rfl) (by kernel_rfl) (eqlE _ _ _ (beq_self_eq_true _))) rfl ?_
        try simp only [List.setIfInBounds_toArray, List.set_cons_zero, List.set_cons_succ]
        refine wp_y (v := .bool true) rfl rfl (y_assign rfl) rfl ?_
        try simp only [List.setIfInBounds_toArray, List.set_cons_zero, List.set_cons_succ]
        refine wp_end ?_
        have HZ : Hid (Da Z B w w6 p j d r s sq bl cur was ww wa wo 4) := hid (by
          have h4 := H4.out
          have hP5 := h4.1.below H5.out
          obtain ⟨hR6, X, hF6, hX6, hY6⟩ := H6.out
          obtain ⟨hP6, hB6⟩ := hP5.fr hF6 hX6
          exact Da.of _ ⟨⟨hP6, hR6⟩, (h4.2.2.1.trans (H5.out.mono h4.1.Bw)).trans hB6, (h4.2.2.2.trans (Kr.of_below H5.out)).trans (Kr.of_fy hF6 hY6)⟩ HCL.out)
        clear H4 H5 H6
        go_wp2_with fail
        go_ret
        exact ⟨rfl, HZ.out⟩
  · have HLD := hid (load32 (cell_at HOP.out.1 0 rfl) (cell_at HOP.out.1 1 rfl) (cell_at HOP.out.1 2 rfl))
    have hof := of_any kd0 77 v w1
    obtain ⟨n, hn⟩ : ∃ n, ofN 77 v = n := ⟨_, rfl⟩
    rw [hn] at hof
    have HOF := hid hof
    have HNN := hid hn
    have HN1 : Hid (n ≤ 896) := hid (by rw [← hn]; unfold ofN; have := v.toNat_lt; split <;> omega)
    clear hof hn
    go_upto_region 23 with fail
    refine wp_region_lit ?_
    refine wp_y (v := .agg #[.int .i64 kd0, .int .i64 77, cb v]) rfl rfl (y_load rfl (hl := fun w' h => by rw [h]; exact HLD.out)) rfl ?_
    try simp only [List.setIfInBounds_toArray, List.set_cons_zero, List.set_cons_succ]
    refine wp_call (f := 37) (args := #[.agg #[.int .i64 kd0, .int .i64 77, cb v]]) (by kernel_rfl) (fun w => by go_simp) ?_
    refine HOF.out.mono ?_
    rintro e w2 ⟨g, hg, rfl, hRw, hB2⟩
    refine ⟨_, rfl, ?_⟩
    have H2 := hid (And.intro hg (And.intro hRw hB2))
    clear hg hRw hB2 HOF
    dsimp only [Act.put]
    try simp only [List.setIfInBounds_toArray, List.set_cons_zero, List.set_cons_succ]
    refine wp_y (v := .slice (some ⟨g, 0, none⟩) n n) rfl rfl (y_assign rfl) rfl ?_
    try simp only [List.setIfInBounds_toArray, List.set_cons_zero, List.set_cons_succ]
    refine wp_end ?_
    clear HLD
    have h2 := H2.out
    have hln : (ofL v n n).length = n := ofL_len v n n
    obtain ⟨e0, cur', hcl, hA⟩ := (HBo.out.below h2.2.2).write 0 g n (ofL v n n) hln h2.2.1
    have HA := hid hA
    have HCL := hid hcl
    clear h2 hln hA hcl
    go_wp2_with fail
    refine HA.out.mono ?_
    rintro e w3 ⟨rfl, hA3, hR3, hC3⟩
    have hrw3 : Rw w3 g 5 (ofL v n n) := hA3.2.2.block g _ _ _ H2.out.2.1 (by decide) (by decide) (by decide) (by decide)
    have HC3 : Hid (∀ (w2 : World) (g2 : Nat), (∃ ch, Rp Z w2 B r cur wa rt wo ch) → Rw w2 g2 5 (ofL v n n) → Calls Tryz.prog 47 #[.pointer (some ⟨r, 0, none⟩), .int .i64 0, .slice (some ⟨g2, 0, none⟩) n n] w2 fun en w3 => en = .returned (.int .i64 e0) ∧ Raf Z w2 w3 B r cur' wa rt wo) := hid (fun w2 g2 => hC3 (w2 := w2) (g2 := g2))
    have H3 : Hid (Aft B w2 w3 p j d s sq bl cur' was rt ww ∧ (∃ ch, Rp Z w3 B r cur wa rt wo ch) ∧ ∃ cs, w3.heap[g]? = some (.cells cs 5 (0, 0))) := hid ⟨hA3, hR3, _, hrw3⟩
    have HLO : Hid (Lo w3 w3 g n 5) := hid ⟨by have h := Cu.of_rd hrw3.rd; rwa [ofL_len] at h, ⟨_, hrw3⟩, Fr.refl _ _⟩
    clear hA3 hR3 hC3 hrw3 HA
    go_wp2_with fail
    go_loopw [20] (fun y wv => ∃ k : Nat, k ≤ n ∧ y = .int .i64 k ∧ Lo w3 wv g n 5) (fun y _ => n - (intOf y).toNat)
    case atStart => exact ⟨0, Nat.zero_le _, rfl, HLO.out⟩
    case round =>
      clear HLO
      obtain ⟨k, hk, rfl, hLo⟩ := hrel
      have hn1 := HN1.out
      have hwk : IntKind.i64.wrap ((k : Int) + 1) = ((k + 1 : Nat) : Int) := by rw [IntWalk.i64_in _ ⟨by omega, by omega⟩]; omega
      by_cases hlt : k < n
      · have hlt' : (k : Int) < (n : Int) := by omega
        obtain ⟨x, hx⟩ := hLo.1 k hlt
        obtain ⟨cs, hcs⟩ := hLo.2.1
        have HLX := hid (load1 Tryz.isAgg5 hx)
        have HST := hid (store1 Tryz.sizeOf5 (.int .u8 (IntKind.u8.wrap (x + 1))) rfl rfl hx (open_at hcs k))
        have HZ := hid (hLo.next k (IntKind.u8.wrap (x + 1)))
        have HKX := hid hlt
        clear hx hcs hLo hlt hk hn1
        go_upto_region 28 with fail
        refine wp_region_lit ?_
        refine wp_y (v := .slice (some ⟨g, 0, none⟩) n n) rfl rfl (y_move rfl) rfl ?_
        try simp only [List.setIfInBounds_toArray, List.set_cons_zero, List.set_cons_succ]
        refine wp_y (v := .int .i64 (k : Nat)) rfl rfl (y_move rfl) rfl ?_
        try simp only [List.setIfInBounds_toArray, List.set_cons_zero, List.set_cons_succ]
        refine wp_y (v := .pointer (some ⟨g, k, none⟩)) rfl rfl (y_index rfl (hr := idxB g n n k HKX.out)) rfl ?_
        try simp only [List.setIfInBounds_toArray, List.set_cons_zero, List.set_cons_succ]
        refine wp_y (v := .int .u8 x) rfl rfl (y_load rfl (hl := fun w' h => by rw [h]; exact HLX.out)) rfl ?_
        try simp only [List.setIfInBounds_toArray, List.set_cons_zero, List.set_cons_succ]
        refine wp_y (v := .int .u8 (IntKind.u8.wrap (x + 1))) rfl rfl (y_bin (k := .u8) (k' := .u8) (m := x) (n := 1) rfl (by kernel_rfl) (by kernel_rfl) (by kernel_rfl) (qinc x)) rfl ?_
        try simp only [List.setIfInBounds_toArray, List.set_cons_zero, List.set_cons_succ]
        refine wp_y (v := .pointer (some ⟨g, k, none⟩)) rfl rfl (y_index rfl (hr := idxB g n n k HKX.out)) rfl ?_
        try simp only [List.setIfInBounds_toArray, List.set_cons_zero, List.set_cons_succ]
        refine wp_do rfl rfl (run_storeOp rfl (by kernel_rfl) (by kernel_rfl) HST.out) ?_
        try simp only [List.setIfInBounds_toArray, List.set_cons_zero, List.set_cons_succ]
        refine wp_end ?_
        go_wp2_with fail
        exact ⟨⟨k + 1, HKX.out, rfl, HZ.out⟩, by have := HKX.out; simp [intOf]; omega⟩
      · have hkn : k = n := by omega
        subst k
        have hlt' : ¬ (n : Int) < (n : Int) := by omega
        have HLZ := hid hLo
        clear hLo hlt hk hn1 hwk
        have h3 := H3.out
        have hF := HLZ.out.2.2
        have h2 := H2.out
        have hb1 := HB1.out
        have hRw3 := H3.out.2.2
        obtain ⟨cs3, hcs3⟩ := hRw3
        have hBg : B ≤ g := Nat.le_trans (Nat.le_trans hb1.2 hb1.1.size) h2.1
        obtain ⟨hP4, hB4⟩ := h3.1.1.fr hF (Fx.one hBg hcs3 (by decide) (by decide) (by decide) (by decide))
        have hR4 : ∃ ch, Rp Z wr B r cur wa rt wo ch := by
          obtain ⟨ch, h⟩ := h3.2.1
          refine ⟨ch, h.keep (fun a c t ha ht => hF.at ha (fun hm => ?_))⟩
          obtain rfl : a = g := by simpa using hm
          rw [hcs3] at ha
          injection ha with ha
          injection ha with _ e
          subst e
          revert ht
          decide
        have hop4 : wr.heap[g0]? = some (.cells #[.int .i64 kd0, .int .i64 77, cb v] 32 (0, 0)) := hF.at (h3.1.2.2.block g0 _ _ _ (below_at h2.2.2 HOP.out.1 HOP.out.2) (by decide) (by decide) (by decide) (by decide)) (by have h6 := h2.1; have h7 := HOP.out.2; simp; omega)
        have HLD4 := hid (load32 (cell_at hop4 0 rfl) (cell_at hop4 1 rfl) (cell_at hop4 2 rfl))
        have hof4 := of_any kd0 77 v wr
        rw [HNN.out] at hof4
        have HOF4 := hid hof4
        have hk3 : Kr Z w wr := (((Kr.of_below hb1.1).trans (Kr.of_below h2.2.2)).trans (Kr.of_kq h3.1.2.2)).later hF (by simp; exact Nat.le_trans hb1.1.size h2.1)
        have hbw : Below B w wr := (((hb1.1.mono hb1.2).trans (h2.2.2.mono (Nat.le_trans hb1.2 hb1.1.size))).trans h3.1.2.1).trans hB4
        have H4 := hid (And.intro hP4 (And.intro hR4 (And.intro hbw hk3)))
        clear h3 hF h2 hb1 hcs3 hBg hP4 hB4 hR4 hop4 hof4 hk3 hbw HLZ H3 H2
        go_upto_region 29 with fail
        refine wp_region_lit ?_
        refine wp_y (v := .int .i64 e0) rfl rfl (y_move rfl) rfl ?_
        try simp only [List.setIfInBounds_toArray, List.set_cons_zero, List.set_cons_succ]
        refine wp_y (v := .pointer (some ⟨r, 0, none⟩)) rfl rfl (y_move rfl) rfl ?_
        try simp only [List.setIfInBounds_toArray, List.set_cons_zero, List.set_cons_succ]
        refine wp_y (v := .int .i64 0) rfl rfl (y_move rfl) rfl ?_
        try simp only [List.setIfInBounds_toArray, List.set_cons_zero, List.set_cons_succ]
        refine wp_y (v := .agg #[.int .i64 kd0, .int .i64 77, cb v]) rfl rfl (y_load rfl (hl := fun w' h => by rw [h]; exact HLD4.out)) rfl ?_
        try simp only [List.setIfInBounds_toArray, List.set_cons_zero, List.set_cons_succ]
        refine wp_call (f := 37) (args := #[.agg #[.int .i64 kd0, .int .i64 77, cb v]]) (by kernel_rfl) (fun w => by go_simp) ?_
        refine HOF4.out.mono ?_
        rintro e w5 ⟨g2, hg2, rfl, hRw2, hB5⟩
        refine ⟨_, rfl, ?_⟩
        have HC5 := hid (HC3.out w5 g2 (by obtain ⟨ch, h⟩ := H4.out.2.1; exact ⟨ch, h.below hB5⟩) hRw2)
        have H5 := hid hB5
        clear hg2 hRw2 hB5 HOF4
        dsimp only [Act.put]
        try simp only [List.setIfInBounds_toArray, List.set_cons_zero, List.set_cons_succ]
        refine wp_call (f := 47) (args := #[.pointer (some ⟨r, 0, none⟩), .int .i64 0, .slice (some ⟨g2, 0, none⟩) n n]) (by kernel_rfl) (fun w => by go_simp) ?_
        refine HC5.out.mono ?_
        rintro e w6 ⟨rfl, hR6⟩
        refine ⟨_, rfl, ?_⟩
        have H6 := hid hR6
        clear hR6 HC5
        dsimp only [Act.put]
        try simp only [List.setIfInBounds_toArray, List.set_cons_zero, List.set_cons_succ]
        refine wp_y (v := .bool true) rfl rfl (y_bin (k := .i64) (k' := .i64) (m := e0) (n := e0) rfl (by kernel_rfl) (by kernel_rfl) (by kernel_rfl) (eqlE _ _ _ (beq_self_eq_true _))) rfl ?_
        try simp only [List.setIfInBounds_toArray, List.set_cons_zero, List.set_cons_succ]
        refine wp_y (v := .bool true) rfl rfl (y_assign rfl) rfl ?_
        try simp only [List.setIfInBounds_toArray, List.set_cons_zero, List.set_cons_succ]
        refine wp_end ?_
        have HZ : Hid (Da Z B w w6 p j d r s sq bl cur was ww wa wo 5) := hid (by
          have h4 := H4.out
          have hP5 := h4.1.below H5.out
          obtain ⟨hR6, X, hF6, hX6, hY6⟩ := H6.out
          obtain ⟨hP6, hB6⟩ := hP5.fr hF6 hX6
          exact Da.of _ ⟨⟨hP6, hR6⟩, (h4.2.2.1.trans (H5.out.mono h4.1.Bw)).trans hB6, (h4.2.2.2.trans (Kr.of_below H5.out)).trans (Kr.of_fy hF6 hY6)⟩ HCL.out)
        clear H4 H5 H6
        go_wp2_with fail
        go_ret
        exact ⟨rfl, HZ.out⟩
  · obtain ⟨e0, rt', hA⟩ := HBo.out.setRoot 0
    have HA := hid hA
    clear hA
    go_wp2_with fail
    refine HA.out.mono ?_
    rintro e w2 ⟨rfl, hC⟩
    have HR := hid hC
    clear hC HA
    go_wp2_with fail
    refine HR.out.mono ?_
    rintro e w3 ⟨rfl, hF⟩
    have HZ : Hid (Da Z B w w3 p j d r s sq bl cur was ww wa wo 6) := hid (Da.of _ (Bft.after HB1.out.1 HB1.out.2 hF) rfl)
    clear hF HR
    go_wp2_with fail
    go_ret
    exact ⟨rfl, HZ.out⟩
  · have hcm := HCM.out (by decide)
    have HA := hid (HBo.out.commit hcm.1 hcm.2.1 hcm.2.2 HL1.out HZ1.out)
    have HCC := hid hcm.1
    clear hcm
    go_wp2_with fail
    refine HA.out.mono ?_
    rintro e w2 ⟨rfl, hC⟩
    have HR := hid hC
    clear hC HA
    go_wp2_with fail
    refine HR.out.mono ?_
    rintro e w3 ⟨rfl, s', sq', bl', hF, h1, h2, h3, h4, h5⟩
    have HZ : Hid (Da Z B w w3 p j d r s sq bl cur was ww wa wo 7) := hid ⟨s', sq', bl', cur, cur, rt, rt, cur, rt, Bft.after HB1.out.1 HB1.out.2 hF, rfl, h1, h2, h3, h4, h5.trans HCC.out.symm, fun h7 h8 => absurd rfl (by assumption), fun _ _ => ⟨rfl, rfl⟩⟩
    clear hF h1 h2 h3 h4 h5 HR
    go_wp2_with fail
    go_ret
    exact ⟨rfl, HZ.out⟩
  · have hcm := HCM.out (by decide)
    have HA := hid (HBo.out.commit hcm.1 hcm.2.1 hcm.2.2 HL1.out HZ1.out)
    have HCC := hid hcm.1
    clear hcm
    go_wp2_with fail
    refine HA.out.mono ?_
    rintro e w2 ⟨rfl, hC⟩
    have HR := hid hC
    clear hC HA
    go_wp2_with fail
    refine HR.out.mono ?_
    rintro e w3 ⟨rfl, s', sq', bl', hF, h1, h2, h3, h4, h5⟩
    have HZ : Hid (Da Z B w w3 p j d r s sq bl cur was ww wa wo 8) := hid ⟨s', sq', bl', cur, cur, rt, rt, cur, rt, Bft.after HB1.out.1 HB1.out.2 hF, rfl, h1, h2, h3, h4, h5.trans HCC.out.symm, fun h7 h8 => absurd rfl (by assumption), fun _ _ => ⟨rfl, rfl⟩⟩
    clear hF h1 h2 h3 h4 h5 HR
    go_wp2_with fail
    go_ret
    exact ⟨rfl, HZ.out⟩
  · have HW := hid (H9.out rfl)
    clear H9
    have HA := hid (HBo.out.abort HL1.out HW.out.1 HW.out.2 HZ1.out)
    go_wp2_with fail
    refine HA.out.mono ?_
    rintro e w2 ⟨rfl, hC⟩
    have HR := hid hC
    clear hC HA
    go_wp2_with fail
    refine HR.out.mono ?_
    rintro e w3 ⟨rfl, hF⟩
    have HZ : Hid (Da Z B w w3 p j d r s sq bl cur was ww wa wo 9) := hid ⟨s, sq, bl, was, was, ww, ww, was, ww, Bft.after HB1.out.1 HB1.out.2 hF, HBo.out.len, rfl, Int.le_refl _, by omega, by omega, rfl, fun _ _ => ⟨rfl, rfl, rfl, rfl, rfl, HW.out.1.symm, HW.out.2.symm⟩, fun _ _ => ⟨rfl, rfl⟩⟩
    clear hF HR
    go_wp2_with fail
    go_ret
    exact ⟨rfl, HZ.out⟩

theorem does_any {B : Nat} {w : World} {p j d r : Nat} {s : DS} {sq : Nat} {bl : List (List UInt8)} {cur was wa : Pgs} {rt wr wo : Int} (h : Bo Z B w p j d r s sq bl cur was rt wr wa wo) (kd pg : Int) (v : UInt8) (hk0 : -9223372036854775808 ≤ kd) (hk1 : kd ≤ 9223372036854775807) (hl1 : 1 ≤ cur.length) (hcom : pk kd 10 = 7 ∨ pk kd 10 = 8 → s.cut = -1 ∧ sq + 1 ≤ 1000000000 ∧ s.ops + ((2 * nbOf s.n + 4 : Nat) : Int) ≤ 1048576) (h9 : pk kd 10 = 9 → wa = was ∧ wo = wr) (hZ : ∀ g, Z g → g < w.heap.size) :
    Calls Tryz.prog 15 #[.pointer (some ⟨p, 0, none⟩), .pointer (some ⟨r, 0, none⟩), .agg #[.int .i64 kd, .int .i64 pg, cb v]] w fun e w' => e = .returned (.bool true) ∧ Da Z B w w' p j d r s sq bl cur was wr wa wo (pk kd 10) := by
  by_cases h77 : pg = 77
  · subst h77
    exact does_77 h kd v hk0 hk1 hl1 hcom h9 hZ
  · exact does_page h kd pg v h77 hk0 hk1 hl1 hcom h9 hZ
end Go.Proofs.YtcmgclkbhhdnaaaGreatDoor
