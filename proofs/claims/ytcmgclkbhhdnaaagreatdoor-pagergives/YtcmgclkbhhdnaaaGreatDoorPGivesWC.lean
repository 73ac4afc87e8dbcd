/- the text PGivesW -/
import Derived.Test.YtcmgclkbhhdnaaaGreatDoorPHasC
import Derived.Test.YtcmgclkbhhdnaaaGreatDoorPGivesMC
namespace Go.Proofs.YtcmgclkbhhdnaaaGreatDoor
open Go Go.RowKit

theorem idx42g (b o n cap k : Nat) (h : k < n) (w : World) : (Instr.indexAt 42 (.slice (some ⟨b, o, none⟩) n cap) (.int .i64 k)).run Tryz.prog w = .ok (.pointer (some ⟨b, o + k, none⟩)) w := by
  go_simp
theorem build32 (x : Value) (hx : x.oneCell' = true) (w : World) : (Instr.build 32 #[(2, x)]).run Tryz.prog w = .ok (.agg #[.int .i64 0, .int .i64 0, x]) w := by
  cases x <;> first | (simp [Value.oneCell'] at hx; done) | go_simp
theorem eqlEg (a b : Int) (r : Bool) (h : (a == b) = r) (w : World) : (binOp .eql 33 (.int .i64 a) (.int .i64 b)).run Tryz.prog w = .ok (.bool r) w := by subst h; go_simp
theorem qnotB (b : Bool) (w : World) : (Op.unary .not (.bool b)).run Tryz.prog w = .ok (.bool (!b)) w := by go_simp
theorem run_lenMOp {o : Oper} {a : Act} {w : World} {x : Operand} {v p : Value} (hop : o.op = .call { callee := .builtin .len, args := #[x], argTypes := #[67] }) (hx : a.eval x = p) (hr : ∀ ty, (Builtin.len_ #[67] ty #[p]).run Tryz.prog w = .ok v w) : (execOp a.eval o).run Tryz.prog w = .ok (.value v) w := by
  have h1 : (Builtin.len_ #[67] o.type #[a.eval x]).run Tryz.prog w = .ok v w := by rw [hx]; exact hr o.type
  unfold execOp
  simp only [hop, resolve, invoke, builtin, Sem.run_bind, Sem.run_pure, Result.andThen_ok, List.map_toArray, List.map_cons, List.map_nil, h1]
theorem eqlB (a b : Bool) (w : World) : (binOp .eql 4 (.bool a) (.bool b)).run Tryz.prog w = .ok (.bool (a == b)) w := by go_simp
theorem y_eqlB {ops : Array Oper} {S : World → Prop} {o : Oper} {a : Act} {x y : Operand} {t' : TypeId} {l m r : Bool} (hop : o.op = .binOp .eql 4 x y t') (hw : Region.wanted o (yielded ops a.tmps) = true) (hx : a.eval x = .bool l) (hy : a.eval y = .bool m) (hr : (l == m) = r) : YieldsIf Tryz.prog ops S o (.bool r) a :=
  .inl ⟨hw, fun w _ => by
    unfold execOp; rw [hop]; simp only [hx, hy, Sem.run_bind]
    have : (eqGuard .eql 4 x y (.bool l) (.bool m)).run Tryz.prog w = .ok () w := by
      unfold eqGuard; go_simp
    rw [this]; simp only [Result.andThen_ok, eqlB l m w, hr]; rfl⟩
theorem run_lk1Op {o : Oper} {a : Act} {w w1 : World} {t : TypeId} {x y : Operand} {p q v : Value} (hop : o.op = .lookup t x y false) (hx : a.eval x = p) (hy : a.eval y = q) (hr : (Instr.lookup t p q false).run Tryz.prog w = .ok v w1) : (execOp a.eval o).run Tryz.prog w = .ok (.value v) w1 := by
  unfold execOp; rw [hop]; simp only [hx, hy, Sem.run_bind, hr, Result.andThen_ok]; rfl
theorem mkMapB (w : World) : (Instr.makeMap 67 none).run Tryz.prog w = .ok (.map (some w.heap.size)) (w.alloc (.map #[] 0)) := by
  simp only [Instr.makeMap, Sem.run_bind]
  go_simp
theorem zeroB (w : World) : (zeroValue 4).run Tryz.prog w = .ok (.bool false) w := by go_simp
theorem pgB_at {cur : Pgs} {q : Nat} {x : List UInt8} (h : cur[q]? = some (some x)) : pgB cur (q : Nat) = x ∧ pgE cur (q : Nat) = 0 := by
  unfold pgB pgE
  have e : ((q : Int)).toNat = q := by omega
  rw [e, h]
  simp
set_option maxRecDepth 100000 in
set_option maxHeartbeats 8000000 in
theorem pagerGives_walk (c : Int) (a : Option Addr) (N cap : Nat) (zs : List Int) (by_ : Int) (W : World) (ht : Tab W) (hc : -9223372036854775808 ≤ c ∧ c ≤ 9223372036854775807) (hs : Iz W (.slice a N cap) zs) (hzl : zs.length = N) (hzb : ∀ z ∈ zs, -9223372036854775808 ≤ z ∧ z ≤ 9223372036854775807) (hN : N ≤ 9223372036854775807) (hby : 0 ≤ by_ ∧ by_ ≤ 255) :
    Calls Tryz.prog 8 #[.int .i64 c, .slice a N cap, .int .u8 by_] W fun e w' => e = .returned (.bool true) ∧ Below W.heap.size W w' := by
  obtain ⟨B, hB⟩ : ∃ B, W.heap.size = B := ⟨_, rfl⟩
  rw [hB]
  obtain ⟨v, hv⟩ : ∃ v : UInt8, by_ = (v.toNat : Int) := ⟨UInt8.ofNat by_.toNat, by rw [UInt8.toNat_ofNat']; omega⟩
  have ev : Value.int .u8 by_ = cb v := by rw [hv]; rfl
  rw [ev]
  have HSH := hid (shown_any W ht)
  have HT := hid ht
  have HTL : Hid (0 < B) := hid (by rw [← hB]; exact tab_lt ht)
  have HC := hid hc
  have HZS := hid (And.intro hs (And.intro hzl hzb))
  have HNN := hid hN
  have HB := hid hB
  have hpk := pk_lt c (n := 300) (by decide)
  obtain ⟨n, hn⟩ : ∃ n, 32 + pk c 300 = n := ⟨_, rfl⟩
  have Hn : Hid ((32 ≤ n ∧ n ≤ 331) ∧ 32 + pk c 300 = n) := hid ⟨by omega, hn⟩
  obtain ⟨L, hL⟩ : ∃ L, pgOf n = L := ⟨_, rfl⟩
  have HL : Hid (1 ≤ L ∧ pgOf n = L ∧ L ≤ 1000) := hid ⟨by rw [← hL]; unfold pgOf nbOf; omega, hL, by rw [← hL]; unfold pgOf nbOf; omega⟩
  clear ht hc hs hzl hzb hN hpk hn hB hL hby hv ev
  go_enter Tryz.func8, Tryz.ntmps8
  go_wp2_with fail
  refine HSH.out.mono ?_
  rintro e w1 ⟨rfl, hB1⟩
  have hbg := begun_any c HC.out.1 HC.out.2 w1 (HT.out.below hB1)
  rw [Hn.out.2] at hbg
  have HBG := hid hbg
  rw [HB.out] at hB1
  have HB1 : Hid (Below B W w1 ∧ B ≤ w1.heap.size) := hid ⟨hB1, by have := hB1.size; have := HB.out; omega⟩
  clear hB1 hbg HSH
  go_wp2_with fail
  refine HBG.out.mono ?_
  rintro e w2 ⟨d, j, p, r, s, bl, rfl, hP, hsn, hcut, hso, hR, hB2⟩
  clear hR hsn hcut hso
  rw [HL.out.2.1, ← laidP_zero v L] at hP
  obtain ⟨was, hwas⟩ : ∃ x, laidP v L 0 = x := ⟨_, rfl⟩
  have HI0 : Hid (Pv B w2 p j d s 1 bl (laidP v L 0) was (-1) (-1) ∧ Below B W w2) := hid ⟨by rw [← hwas]; exact hP.mono HB1.out.2 HTL.out, HB1.out.1.trans (hB2.mono HB1.out.2)⟩
  have hpg := HI0.out.1.pages
  rw [laidP_len] at hpg
  have HPG := hid hpg
  clear hP hB2 hwas hpg HBG HB1
  go_wp2_with fail
  refine HPG.out.mono ?_
  rintro e wz ⟨rfl, hwz⟩
  obtain rfl := hwz.symm
  clear HPG
  go_wp2_with fail
  go_loopw [13, 14, 15, 16] (fun v13 _ _ _ wv => ∃ i : Nat, i ≤ L ∧ v13 = .int .i64 i ∧ Pv B wv p j d s 1 bl (laidP v L i) was (-1) (-1) ∧ Below B W wv) (fun v13 _ _ _ _ => L - (intOf v13).toNat)
  case atStart => exact ⟨0, Nat.zero_le _, rfl, HI0.out⟩
  case round =>
    clear HI0
    obtain ⟨i, hi, rfl, hP, hBw⟩ := hrel
    have hll := HL.out
    have hwk : IntKind.i64.wrap ((i : Int) + 1) = ((i + 1 : Nat) : Int) := by rw [IntWalk.i64_in _ ⟨by omega, by omega⟩]; omega
    by_cases hlt : i < L
    · have hlt' : (i : Int) < (L : Int) := by omega
      have HIX := hid hlt
      have HAL := hid (hP.alloc i (by rw [laidP_get v L i i hlt, if_neg (by omega)]) (fun q hq e => by rw [laidP_get v L i q (by omega), if_pos hq] at e; cases e))
      have HBW := hid hBw
      clear hP hBw hlt hi hll
      go_wp2_with fail
      refine HAL.out.mono ?_
      rintro e w3 ⟨rfl, hP3, hB3, _⟩
      have hof := of_any 0 0 (v + UInt8.ofNat i) w3
      have e896 : ofN 0 (v + UInt8.ofNat i) = 896 := rfl
      rw [e896] at hof
      have HOF := hid hof
      have HP3 : Hid (Pv B w3 p j d s 1 bl ((laidP v L i).set i (some z896)) was (-1) (-1) ∧ Below B W w3) := hid ⟨hP3, HBW.out.trans hB3⟩
      clear hP3 hB3 hof e896 HAL HBW
      go_upto_region 10 with fail
      refine wp_region_lit ?_
      refine wp_y (v := .pointer (some ⟨p, 0, none⟩)) rfl rfl (y_move rfl (by kernel_rfl) (by kernel_rfl)) rfl ?_
      try simp only [List.setIfInBounds_toArray, List.set_cons_zero, List.set_cons_succ]
      refine wp_y (v := .int .i64 (i : Nat)) rfl rfl (y_move rfl (by kernel_rfl) (by kernel_rfl)) rfl ?_
      try simp only [List.setIfInBounds_toArray, List.set_cons_zero, List.set_cons_succ]
      refine wp_y (v := cb v) rfl rfl (y_move rfl (by kernel_rfl) (by kernel_rfl)) rfl ?_
      try simp only [List.setIfInBounds_toArray, List.set_cons_zero, List.set_cons_succ]
      refine wp_y (v := .int .i64 (i : Nat)) rfl rfl (y_move rfl (by kernel_rfl) (by kernel_rfl)) rfl ?_
      try simp only [List.setIfInBounds_toArray, List.set_cons_zero, List.set_cons_succ]
      refine wp_y (v := cb (UInt8.ofNat i)) rfl rfl (y_cnv rfl (by kernel_rfl) (by kernel_rfl) (qu8 i)) rfl ?_
      try simp only [List.setIfInBounds_toArray, List.set_cons_zero, List.set_cons_succ]
      refine wp_y (v := cb (v + UInt8.ofNat i)) rfl rfl (y_bin (k := .u8) (k' := .u8) (m := v.toNat) (n := (UInt8.ofNat i).toNat) rfl (by kernel_rfl) (by kernel_rfl) (by kernel_rfl) (qaddU v (UInt8.ofNat i))) rfl ?_
      try simp only [List.setIfInBounds_toArray, List.set_cons_zero, List.set_cons_succ]
      refine wp_run (v := .agg #[.int .i64 0, .int .i64 0, cb (v + UInt8.ofNat i)]) rfl rfl (run_buildOp rfl (by kernel_rfl) (build32 _ rfl _)) rfl ?_
      try simp only [List.setIfInBounds_toArray, List.set_cons_zero, List.set_cons_succ]
      refine wp_call (f := 37) (args := #[.agg #[.int .i64 0, .int .i64 0, cb (v + UInt8.ofNat i)]]) (by kernel_rfl) (fun w => by go_simp) ?_
      refine HOF.out.mono ?_
      rintro e w4 ⟨g, hg, rfl, hRw, hB4⟩
      refine ⟨_, rfl, ?_⟩
      have hlt := HIX.out
      have HWR := hid ((HP3.out.1.below hB4).write i z896 (by rw [List.getElem?_set, if_pos rfl, if_pos (by rw [laidP_len]; exact hlt)]) g 0 896 _ (ofL_len _ _ _) hRw.rd hRw (by decide))
      have HB4 := hid (HP3.out.2.trans (hB4.mono HP3.out.1.Bw))
      clear hg hRw hB4 hlt HOF HP3
      dsimp only [Act.put]
      try simp only [List.setIfInBounds_toArray, List.set_cons_zero, List.set_cons_succ]
      refine wp_call (f := 36) (args := #[.pointer (some ⟨p, 0, none⟩), .int .i64 (i : Nat), .slice (some ⟨g, 0, none⟩) 896 896]) (by kernel_rfl) (fun w => by go_simp) ?_
      refine HWR.out.mono ?_
      rintro e w5 ⟨rfl, hP5, hB5, _⟩
      refine ⟨_, rfl, ?_⟩
      rw [laidP_next v L i HIX.out] at hP5
      have HZ := hid (And.intro hP5 (HB4.out.trans hB5))
      clear hP5 hB5 HWR HB4
      dsimp only [Act.put]
      try simp only [List.setIfInBounds_toArray, List.set_cons_zero, List.set_cons_succ]
      refine wp_y (v := .int .i64 0) rfl rfl (y_assign rfl (by kernel_rfl) (by kernel_rfl)) rfl ?_
      try simp only [List.setIfInBounds_toArray, List.set_cons_zero, List.set_cons_succ]
      refine wp_end ?_
      go_wp2_with fail
      exact ⟨⟨i + 1, HIX.out, rfl, HZ.out⟩, by have := HIX.out; simp [intOf]; omega⟩
    · have hiL : i = L := by omega
      subst i
      have hlt' : ¬ (L : Int) < (L : Int) := by omega
      have HAF := hid (hP.allocFull (fun q e => by
        have hq := (List.getElem?_eq_some_iff.1 e).1
        rw [laidP_len] at hq
        rw [laidP_get v L L q hq, if_pos hq] at e
        cases e))
      have HPL := hid (And.intro hP hBw)
      clear hP hBw hlt hi hll hwk
      go_wp2_with fail
      refine HAF.out.mono ?_
      rintro e wz ⟨rfl, hwz⟩
      obtain rfl := hwz.symm
      clear HAF
      have hPm := HPL.out.1.mapped
      have hB3 : Below B W (wr.alloc (.map #[] 0)) := HPL.out.2.trans (((Below.refl _ _).alloc (Nat.le_refl _) _).mono HPL.out.1.Bw)
      have hmm := mkMapB wr
      obtain ⟨m, hm⟩ : ∃ m, wr.heap.size = m := ⟨_, rfl⟩
      rw [hm] at hPm hmm
      generalize wr.alloc (.map #[] 0) = w4 at *
      have HMM := hid hmm
      have HI1 : Hid (Pm B w4 p j d s 1 bl (laidP v L L) was (-1) (-1) m [] (fun _ => none) ∧ Below B W w4) := hid ⟨hPm, hB3⟩
      clear hPm hB3 hmm hm HPL
      go_upto_region 16 with fail
      refine wp_region_lit ?_
      refine wp_run (v := .map (some m)) rfl rfl (run_mmOp rfl HMM.out) rfl ?_
      try simp only [List.setIfInBounds_toArray, List.set_cons_zero, List.set_cons_succ]
      refine wp_y (v := .map (some m)) rfl rfl (y_assign rfl (by kernel_rfl) (by kernel_rfl)) rfl ?_
      try simp only [List.setIfInBounds_toArray, List.set_cons_zero, List.set_cons_succ]
      refine wp_end ?_
      clear HMM
      go_wp2_with fail
      go_loopw [20, 21, 22] (fun v20 _ _ wv => ∃ (i : Nat) (ks : List Int) (f : Int → Option Value) (cur : Pgs), i ≤ N ∧ v20 = .int .i64 i ∧ Pm B wv p j d s 1 bl cur was (-1) (-1) m ks f ∧ Gi v L ks f cur ∧ Below B W wv) (fun v20 _ _ _ => N - (intOf v20).toNat)
      case atStart => exact ⟨0, [], fun _ => none, _, Nat.zero_le _, rfl, HI1.out.1, Gi.begin v L, HI1.out.2⟩
      case round =>
        clear HI1
        obtain ⟨i, ks, f, cur, hi, rfl, hP, hG, hBw⟩ := hrel
        have hll := HL.out
        have hnn := HNN.out
        have hL0 : (0 : Int) < (L : Int) := by omega
        have hL1 : 0 < L := by omega
        by_cases hlt : i < N
        · have hlt' : (i : Int) < (N : Int) := by omega
          have hwk : IntKind.i64.wrap ((i : Int) + 1) = ((i + 1 : Nat) : Int) := by rw [IntWalk.i64_in _ ⟨by omega, by omega⟩]; omega
          have HIX := hid hlt
          obtain ⟨z, hz⟩ : ∃ z, zs[i]? = some z := ⟨_, List.getElem?_eq_getElem (by rw [HZS.out.2.1]; exact hlt)⟩
          obtain ⟨a', cap', he, hcell⟩ := HZS.out.1
          cases he
          obtain ⟨b, off, rfl, hc0⟩ := hcell i z hz
          have hzb := HZS.out.2.2 z (List.mem_of_getElem? hz)
          have hbl : b < B := by have h1 : b < W.heap.size := World.block_lt_of_cell? W _ hc0; have := HB.out; omega
          have HLZ := hid (load1 Tryz.isAgg3 ((hBw.cell (p := ⟨b, off + i, none⟩) hbl).trans hc0))
          have hpk := pick_any z L hzb.1 hzb.2 (by omega) wr
          have hql := pk_lt z (n := L) (by omega)
          obtain ⟨q, hq⟩ : ∃ q, pk z L = q := ⟨_, rfl⟩
          rw [hq] at hpk hql
          have HPK := hid hpk
          have HQL := hid hql
          have hmk := hP.2.1
          have HG := hid hG
          have HBW := hid hBw
          have HP := hid hP
          clear hP hG hBw hz hcell hc0 hzb hbl hpk hql hq hlt hi hll hnn
          go_upto_region 20 with fail
          refine wp_region_lit ?_
          refine wp_y (v := .slice (some ⟨b, off, none⟩) zs.length cap) rfl rfl (y_move rfl (by kernel_rfl) (by kernel_rfl)) rfl ?_
          try simp only [List.setIfInBounds_toArray, List.set_cons_zero, List.set_cons_succ]
          refine wp_y (v := .int .i64 (i : Nat)) rfl rfl (y_move rfl (by kernel_rfl) (by kernel_rfl)) rfl ?_
          try simp only [List.setIfInBounds_toArray, List.set_cons_zero, List.set_cons_succ]
          refine wp_y (v := .pointer (some ⟨b, off + i, none⟩)) rfl rfl (y_index rfl (by kernel_rfl) (by kernel_rfl) (by kernel_rfl) (idx42g b off zs.length cap i HIX.out)) rfl ?_
          try simp only [List.setIfInBounds_toArray, List.set_cons_zero, List.set_cons_succ]
          refine wp_y (v := .int .i64 z) rfl rfl (y_load rfl (by kernel_rfl) (by kernel_rfl) (fun w' h => by rw [h]; exact HLZ.out)) rfl ?_
          try simp only [List.setIfInBounds_toArray, List.set_cons_zero, List.set_cons_succ]
          refine wp_y (v := .int .i64 (L : Nat)) rfl rfl (y_move rfl (by kernel_rfl) (by kernel_rfl)) rfl ?_
          try simp only [List.setIfInBounds_toArray, List.set_cons_zero, List.set_cons_succ]
          refine wp_call (f := 12) (args := #[.int .i64 z, .int .i64 (L : Nat)]) (by kernel_rfl) (fun w => by go_simp) ?_
          refine HPK.out.mono ?_
          rintro e wz ⟨rfl, hwz⟩
          obtain rfl := hwz.symm
          refine ⟨_, rfl, ?_⟩
          dsimp only [Act.put]
          try simp only [List.setIfInBounds_toArray, List.set_cons_zero, List.set_cons_succ]
          refine wp_y (v := .int .i64 (q : Nat)) rfl rfl (y_assign rfl (by kernel_rfl) (by kernel_rfl)) rfl ?_
          try simp only [List.setIfInBounds_toArray, List.set_cons_zero, List.set_cons_succ]
          refine wp_end ?_
          clear HLZ HPK
          rcases HG.out.fb (q : Nat) with hf | hf
          · have hcq := HG.out.at_ q HQL.out
            rw [if_pos hf] at hcq
            have HFR := hid (HP.out.free q _ hcq (by omega))
            have HF := hid hf
            clear hcq hf hmk
            go_wp2_with fail
            refine HFR.out.mono ?_
            rintro e w5 ⟨rfl, hP5, hB5⟩
            have hlk := hP5.2.1.look1 Tryz.underlying67 zeroB (q : Nat)
            rw [HF.out] at hlk
            have HLK := hid (show (Instr.lookup 67 (.map (some m)) (.int .i64 (q : Nat)) false).run Tryz.prog w5 = .ok (.bool false) w5 from hlk)
            obtain ⟨w6, hup, hP6, hB6⟩ := hP5.put (q : Nat)
            have HUP := hid hup
            have HZ := hid (And.intro hP6 (And.intro (HG.out.free HQL.out HF.out) ((HBW.out.trans hB5).trans hB6)))
            clear hP5 hB5 hlk hup hP6 hB6 HFR
            go_upto_region 22 with fail
            refine wp_region_lit ?_
            refine wp_y (v := .int .i64 0) rfl rfl (y_move rfl (by kernel_rfl) (by kernel_rfl)) rfl ?_
            try simp only [List.setIfInBounds_toArray, List.set_cons_zero, List.set_cons_succ]
            refine wp_y (v := .bool true) rfl rfl (y_bin (k := .i64) (k' := .i64) (m := 0) (n := 0) rfl (by kernel_rfl) (by kernel_rfl) (by kernel_rfl) (eqlEg _ _ _ rfl)) rfl ?_
            try simp only [List.setIfInBounds_toArray, List.set_cons_zero, List.set_cons_succ]
            refine wp_y (v := .map (some m)) rfl rfl (y_move rfl (by kernel_rfl) (by kernel_rfl)) rfl ?_
            try simp only [List.setIfInBounds_toArray, List.set_cons_zero, List.set_cons_succ]
            refine wp_y (v := .int .i64 (q : Nat)) rfl rfl (y_move rfl (by kernel_rfl) (by kernel_rfl)) rfl ?_
            try simp only [List.setIfInBounds_toArray, List.set_cons_zero, List.set_cons_succ]
            refine wp_run (v := .bool false) rfl rfl (run_lk1Op rfl (by kernel_rfl) (by kernel_rfl) HLK.out) rfl ?_
            try simp only [List.setIfInBounds_toArray, List.set_cons_zero, List.set_cons_succ]
            refine wp_y (v := .bool false) rfl rfl (y_eqlB (l := true) (m := false) rfl (by kernel_rfl) (by kernel_rfl) (by kernel_rfl) rfl) rfl ?_
            try simp only [List.setIfInBounds_toArray, List.set_cons_zero, List.set_cons_succ]
            refine wp_y (v := .bool false) rfl rfl (y_move rfl (by kernel_rfl) (by kernel_rfl)) rfl ?_
            try simp only [List.setIfInBounds_toArray, List.set_cons_zero, List.set_cons_succ]
            refine wp_yg (v := .int .i64 0) rfl (y_move rfl (by kernel_rfl) (by kernel_rfl)) rfl ?_
            try simp only [List.setIfInBounds_toArray, List.set_cons_zero, List.set_cons_succ]
            refine wp_yg (v := .bool false) rfl (y_bin (k := .i64) (k' := .i64) (m := 0) (n := 0) rfl (by kernel_rfl) (by kernel_rfl) (by kernel_rfl) (neqE _ _ _ rfl)) rfl ?_
            try simp only [List.setIfInBounds_toArray, List.set_cons_zero, List.set_cons_succ]
            refine wp_yg (v := .bool false) rfl (y_move rfl (by kernel_rfl) (by kernel_rfl)) rfl ?_
            try simp only [List.setIfInBounds_toArray, List.set_cons_zero, List.set_cons_succ]
            refine wp_yg (v := undef) rfl (y_skip (by kernel_rfl) rfl) rfl ?_
            try simp only [List.setIfInBounds_toArray, List.set_cons_zero, List.set_cons_succ]
            refine wp_yg (v := undef) rfl (y_skip (by kernel_rfl) rfl) rfl ?_
            try simp only [List.setIfInBounds_toArray, List.set_cons_zero, List.set_cons_succ]
            refine wp_yg (v := .bool false) rfl (y_pick (b := false) rfl (by kernel_rfl) (by kernel_rfl) (by kernel_rfl)) rfl ?_
            try simp only [List.setIfInBounds_toArray, List.set_cons_zero, List.set_cons_succ]
            refine wp_y (v := .bool false) rfl rfl (y_pick (b := false) rfl (by kernel_rfl) (by kernel_rfl) (by kernel_rfl)) rfl ?_
            try simp only [List.setIfInBounds_toArray, List.set_cons_zero, List.set_cons_succ]
            refine wp_end ?_
            go_upto_region 24 with fail
            refine wp_region_lit ?_
            refine wp_y (v := .map (some m)) rfl rfl (y_move rfl (by kernel_rfl) (by kernel_rfl)) rfl ?_
            try simp only [List.setIfInBounds_toArray, List.set_cons_zero, List.set_cons_succ]
            refine wp_y (v := .int .i64 (q : Nat)) rfl rfl (y_move rfl (by kernel_rfl) (by kernel_rfl)) rfl ?_
            try simp only [List.setIfInBounds_toArray, List.set_cons_zero, List.set_cons_succ]
            refine wp_do rfl rfl (run_mapUpdate rfl (by kernel_rfl) (by kernel_rfl) (by kernel_rfl) HUP.out) ?_
            try simp only [List.setIfInBounds_toArray, List.set_cons_zero, List.set_cons_succ]
            refine wp_end ?_
            go_wp2_with fail
            exact ⟨⟨i + 1, _, _, _, HIX.out, rfl, HZ.out⟩, by have := HIX.out; simp [intOf]; omega⟩
          · have hcq := HG.out.at_ q HQL.out
            rw [if_neg (by rw [hf]; simp)] at hcq
            have eq0 : ((q : Int)).toNat = q := by omega
            have HFR := hid (HP.out.pv.freeNone (q : Nat) (.inr (by rw [eq0, hcq]; rfl)))
            clear eq0
            have HF := hid hf
            clear hcq hf hmk
            go_wp2_with fail
            refine HFR.out.mono ?_
            rintro e wz ⟨rfl, hwz⟩
            obtain rfl := hwz.symm
            have hlk := HP.out.2.1.look1 Tryz.underlying67 zeroB (q : Nat)
            rw [HF.out] at hlk
            have HLK := hid (show (Instr.lookup 67 (.map (some m)) (.int .i64 (q : Nat)) false).run Tryz.prog wr = .ok (.bool true) wr from hlk)
            obtain ⟨w6, hup, hP6, hB6⟩ := HP.out.put (q : Nat)
            have HUP := hid hup
            have HZ := hid (And.intro hP6 (And.intro (HG.out.again HF.out) (HBW.out.trans hB6)))
            clear hlk hup hP6 hB6 HFR
            go_upto_region 22 with fail
            refine wp_region_lit ?_
            refine wp_y (v := .int .i64 81) rfl rfl (y_move rfl (by kernel_rfl) (by kernel_rfl)) rfl ?_
            try simp only [List.setIfInBounds_toArray, List.set_cons_zero, List.set_cons_succ]
            refine wp_y (v := .bool false) rfl rfl (y_bin (k := .i64) (k' := .i64) (m := 81) (n := 0) rfl (by kernel_rfl) (by kernel_rfl) (by kernel_rfl) (eqlEg _ _ _ rfl)) rfl ?_
            try simp only [List.setIfInBounds_toArray, List.set_cons_zero, List.set_cons_succ]
            refine wp_y (v := .map (some m)) rfl rfl (y_move rfl (by kernel_rfl) (by kernel_rfl)) rfl ?_
            try simp only [List.setIfInBounds_toArray, List.set_cons_zero, List.set_cons_succ]
            refine wp_y (v := .int .i64 (q : Nat)) rfl rfl (y_move rfl (by kernel_rfl) (by kernel_rfl)) rfl ?_
            try simp only [List.setIfInBounds_toArray, List.set_cons_zero, List.set_cons_succ]
            refine wp_run (v := .bool true) rfl rfl (run_lk1Op rfl (by kernel_rfl) (by kernel_rfl) HLK.out) rfl ?_
            try simp only [List.setIfInBounds_toArray, List.set_cons_zero, List.set_cons_succ]
            refine wp_y (v := .bool false) rfl rfl (y_eqlB (l := false) (m := true) rfl (by kernel_rfl) (by kernel_rfl) (by kernel_rfl) rfl) rfl ?_
            try simp only [List.setIfInBounds_toArray, List.set_cons_zero, List.set_cons_succ]
            refine wp_y (v := .bool false) rfl rfl (y_move rfl (by kernel_rfl) (by kernel_rfl)) rfl ?_
            try simp only [List.setIfInBounds_toArray, List.set_cons_zero, List.set_cons_succ]
            refine wp_yg (v := .int .i64 81) rfl (y_move rfl (by kernel_rfl) (by kernel_rfl)) rfl ?_
            try simp only [List.setIfInBounds_toArray, List.set_cons_zero, List.set_cons_succ]
            refine wp_yg (v := .bool true) rfl (y_bin (k := .i64) (k' := .i64) (m := 81) (n := 0) rfl (by kernel_rfl) (by kernel_rfl) (by kernel_rfl) (neqE _ _ _ rfl)) rfl ?_
            try simp only [List.setIfInBounds_toArray, List.set_cons_zero, List.set_cons_succ]
            refine wp_yg (v := .bool true) rfl (y_move rfl (by kernel_rfl) (by kernel_rfl)) rfl ?_
            try simp only [List.setIfInBounds_toArray, List.set_cons_zero, List.set_cons_succ]
            refine wp_yg (v := .int .i64 81) rfl (y_move rfl (by kernel_rfl) (by kernel_rfl)) rfl ?_
            try simp only [List.setIfInBounds_toArray, List.set_cons_zero, List.set_cons_succ]
            refine wp_yg (v := .bool false) rfl (y_bin (k := .i64) (k' := .i64) (m := 81) (n := 81) rfl (by kernel_rfl) (by kernel_rfl) (by kernel_rfl) (neqE _ _ _ rfl)) rfl ?_
            try simp only [List.setIfInBounds_toArray, List.set_cons_zero, List.set_cons_succ]
            refine wp_yg (v := .bool false) rfl (y_pick (b := true) rfl (by kernel_rfl) (by kernel_rfl) (by kernel_rfl)) rfl ?_
            try simp only [List.setIfInBounds_toArray, List.set_cons_zero, List.set_cons_succ]
            refine wp_y (v := .bool false) rfl rfl (y_pick (b := false) rfl (by kernel_rfl) (by kernel_rfl) (by kernel_rfl)) rfl ?_
            try simp only [List.setIfInBounds_toArray, List.set_cons_zero, List.set_cons_succ]
            refine wp_end ?_
            go_upto_region 24 with fail
            refine wp_region_lit ?_
            refine wp_y (v := .map (some m)) rfl rfl (y_move rfl (by kernel_rfl) (by kernel_rfl)) rfl ?_
            try simp only [List.setIfInBounds_toArray, List.set_cons_zero, List.set_cons_succ]
            refine wp_y (v := .int .i64 (q : Nat)) rfl rfl (y_move rfl (by kernel_rfl) (by kernel_rfl)) rfl ?_
            try simp only [List.setIfInBounds_toArray, List.set_cons_zero, List.set_cons_succ]
            refine wp_do rfl rfl (run_mapUpdate rfl (by kernel_rfl) (by kernel_rfl) (by kernel_rfl) HUP.out) ?_
            try simp only [List.setIfInBounds_toArray, List.set_cons_zero, List.set_cons_succ]
            refine wp_end ?_
            go_wp2_with fail
            exact ⟨⟨i + 1, _, _, _, HIX.out, rfl, HZ.out⟩, by have := HIX.out; simp [intOf]; omega⟩
        · have hiN : i = N := by omega
          subst i
          have hlt' : ¬ (N : Int) < (N : Int) := by omega
          have hlf := hP.pv.left
          rw [hG.nf] at hlf
          obtain ⟨kl, hkl⟩ : ∃ x, ks.length = x := ⟨_, rfl⟩
          rw [hkl] at hlf
          have HLF := hid hlf
          have hln := hP.2.1.len
          rw [hkl] at hln
          have HLN := hid hln
          have HI2 : Hid (Pm B wr p j d s 1 bl cur was (-1) (-1) m ks f ∧ Ga v L f 0 cur ∧ Below B W wr) := hid ⟨hP, hG.turn, hBw⟩
          have HFB := hid hG.fb
          clear hlf hln hkl hP hG hBw hlt hi hll hnn hL0 hL1
          go_upto_region 25 with fail
          refine wp_region_lit ?_
          refine wp_y (v := .pointer (some ⟨p, 0, none⟩)) rfl rfl (y_move rfl (by kernel_rfl) (by kernel_rfl)) rfl ?_
          try simp only [List.setIfInBounds_toArray, List.set_cons_zero, List.set_cons_succ]
          refine wp_call (f := 26) (args := #[.pointer (some ⟨p, 0, none⟩)]) (by kernel_rfl) (fun w => by go_simp) ?_
          refine HLF.out.mono ?_
          rintro e wz ⟨rfl, hwz⟩
          obtain rfl := hwz.symm
          refine ⟨_, rfl, ?_⟩
          dsimp only [Act.put]
          try simp only [List.setIfInBounds_toArray, List.set_cons_zero, List.set_cons_succ]
          refine wp_y (v := .map (some m)) rfl rfl (y_move rfl (by kernel_rfl) (by kernel_rfl)) rfl ?_
          try simp only [List.setIfInBounds_toArray, List.set_cons_zero, List.set_cons_succ]
          refine wp_run (v := .int .i64 (kl : Nat)) rfl rfl (run_lenMOp rfl (by kernel_rfl) HLN.out) rfl ?_
          try simp only [List.setIfInBounds_toArray, List.set_cons_zero, List.set_cons_succ]
          refine wp_y (v := .bool false) rfl rfl (y_bin (k := .i64) (k' := .i64) (m := (kl : Nat)) (n := (kl : Nat)) rfl (by kernel_rfl) (by kernel_rfl) (by kernel_rfl) (neqI _ _ _ (bne_self_eq_false _))) rfl ?_
          try simp only [List.setIfInBounds_toArray, List.set_cons_zero, List.set_cons_succ]
          refine wp_end ?_
          clear HLF HLN
          go_wp2_with fail
          go_loopw [23, 24, 25, 26, 27, 28, 29] (fun v23 _ _ _ _ _ _ wv => ∃ (i : Nat) (cur : Pgs), i ≤ L ∧ v23 = .int .i64 i ∧ Pm B wv p j d s 1 bl cur was (-1) (-1) m ks f ∧ Ga v L f i cur ∧ Below B W wv) (fun v23 _ _ _ _ _ _ _ => L - (intOf v23).toNat)
          case atStart => exact ⟨0, cur, Nat.zero_le _, rfl, HI2.out⟩
          case round =>
            clear HI2
            obtain ⟨i, cur', hi, rfl, hP, hG, hBw⟩ := hrel
            have hll := HL.out
            have hwk : IntKind.i64.wrap ((i : Int) + 1) = ((i + 1 : Nat) : Int) := by rw [IntWalk.i64_in _ ⟨by omega, by omega⟩]; omega
            by_cases hlt : i < L
            · have hlt' : (i : Int) < (L : Int) := by omega
              have HIX := hid hlt
              have hlk := hP.2.1.look1 Tryz.underlying67 zeroB (i : Nat)
              have HP := hid hP
              have HG := hid hG
              have HBW := hid hBw
              rcases HFB.out (i : Nat) with hf | hf
              · rw [hf] at hlk
                have HLK := hid (show (Instr.lookup 67 (.map (some m)) (.int .i64 (i : Nat)) false).run Tryz.prog wr = .ok (.bool false) wr from hlk)
                have hcq := hG.at_ i hlt
                rw [if_pos hf] at hcq
                have hpe := pgB_at hcq
                have hrd := hP.pv.readAny (i : Nat)
                rw [hpe.1, hpe.2] at hrd
                have HRE := hid hrd
                have HF := hid hf
                clear hlk hf hcq hpe hrd hP hG hBw hlt hi hll
                go_upto_region 30 with fail
                refine wp_region_lit ?_
                refine wp_y (v := .map (some m)) rfl rfl (y_move rfl (by kernel_rfl) (by kernel_rfl)) rfl ?_
                try simp only [List.setIfInBounds_toArray, List.set_cons_zero, List.set_cons_succ]
                refine wp_y (v := .int .i64 (i : Nat)) rfl rfl (y_move rfl (by kernel_rfl) (by kernel_rfl)) rfl ?_
                try simp only [List.setIfInBounds_toArray, List.set_cons_zero, List.set_cons_succ]
                refine wp_run (v := .bool false) rfl rfl (run_lk1Op rfl (by kernel_rfl) (by kernel_rfl) HLK.out) rfl ?_
                try simp only [List.setIfInBounds_toArray, List.set_cons_zero, List.set_cons_succ]
                refine wp_y (v := .bool true) rfl rfl (y_un rfl (by kernel_rfl) (by kernel_rfl) (qnotB false)) rfl ?_
                try simp only [List.setIfInBounds_toArray, List.set_cons_zero, List.set_cons_succ]
                refine wp_end ?_
                go_wp2_with fail
                refine HRE.out.mono ?_
                rintro e w5 ⟨vb, rfl, hRed⟩
                have hof := of_any 0 0 (v + UInt8.ofNat i) w5.drew
                have e896 : ofN 0 (v + UInt8.ofNat i) = 896 := rfl
                rw [e896] at hof
                have HOF := hid hof
                obtain ⟨lb, hlb⟩ : ∃ l, ofL (v + UInt8.ofNat i) 896 896 = l := ⟨_, rfl⟩
                have hsl := hRed.sl
                rw [hlb] at hsl HOF
                have HSL := hid (show Sl w5.drew vb lb from hsl)
                have HLL : Hid (lb.length = 896) := hid (by rw [← hlb]; exact ofL_len _ _ _)
                have HR5 := hid hRed.1
                clear hRed hof e896 hsl hlb HRE
                go_upto_region 32 with fail
                refine h_openL (S := fun w' => Sl w' vb lb) (by kernel_rfl) (by kernel_rfl) (fun _ _ _ _ _ h => h) (L := #[false, false, false, false, false, false, false, false, false, false, false, false, false, false]) (by kernel_rfl) ?_
                intro Q' hns hP hN
                have hS := HSL.out
                try simp only [List.setIfInBounds_toArray, List.set_cons_zero, List.set_cons_succ]
                refine h_takeL (i := 0) (v := .int .i64 0) hns rfl rfl (by kernel_rfl) (by kernel_rfl) hP (y_move rfl (by kernel_rfl) (by kernel_rfl)) hS rfl (L' := #[true, false, false, false, false, false, false, false, false, false, false, false, false, false]) (by kernel_rfl) ?_
                try simp only [List.setIfInBounds_toArray, List.set_cons_zero, List.set_cons_succ]
                refine h_takeL (i := 1) (v := .bool false) hns rfl rfl (by kernel_rfl) (by kernel_rfl) hP (y_bin (k := .i64) (k' := .i64) (m := 0) (n := 0) rfl (by kernel_rfl) (by kernel_rfl) (by kernel_rfl) (neqE _ _ _ rfl)) hS rfl (L' := #[true, true, false, false, false, false, false, false, false, false, false, false, false, false]) (by kernel_rfl) ?_
                try simp only [List.setIfInBounds_toArray, List.set_cons_zero, List.set_cons_succ]
                refine h_takeL (i := 2) (v := .bool false) hns rfl rfl (by kernel_rfl) (by kernel_rfl) hP (y_move rfl (by kernel_rfl) (by kernel_rfl)) hS rfl (L' := #[true, true, true, false, false, false, false, false, false, false, false, false, false, false]) (by kernel_rfl) ?_
                try simp only [List.setIfInBounds_toArray, List.set_cons_zero, List.set_cons_succ]
                refine h_takeL (i := 3) (v := vb) hns rfl rfl (by kernel_rfl) (by kernel_rfl) hP (y_move rfl (by kernel_rfl) (by kernel_rfl)) hS rfl (L' := #[true, true, true, true, false, false, false, false, false, false, false, false, false, false]) (by kernel_rfl) ?_
                try simp only [List.setIfInBounds_toArray, List.set_cons_zero, List.set_cons_succ]
                refine h_takeL (i := 4) (v := strV lb) hns rfl rfl (by kernel_rfl) (by kernel_rfl) hP (y_convS rfl (by kernel_rfl) (by kernel_rfl) (fun w' h => conv_sl h)) hS rfl (L' := #[true, true, true, true, true, false, false, false, false, false, false, false, false, false]) (by kernel_rfl) ?_
                try simp only [List.setIfInBounds_toArray, List.set_cons_zero, List.set_cons_succ]
                refine h_takeL (i := 5) (v := cb v) hns rfl rfl (by kernel_rfl) (by kernel_rfl) hP (y_move rfl (by kernel_rfl) (by kernel_rfl)) hS rfl (L' := #[true, true, true, true, true, true, false, false, false, false, false, false, false, false]) (by kernel_rfl) ?_
                try simp only [List.setIfInBounds_toArray, List.set_cons_zero, List.set_cons_succ]
                refine h_takeL (i := 6) (v := .int .i64 (i : Nat)) hns rfl rfl (by kernel_rfl) (by kernel_rfl) hP (y_move rfl (by kernel_rfl) (by kernel_rfl)) hS rfl (L' := #[true, true, true, true, true, true, true, false, false, false, false, false, false, false]) (by kernel_rfl) ?_
                try simp only [List.setIfInBounds_toArray, List.set_cons_zero, List.set_cons_succ]
                refine h_takeL (i := 7) (v := cb (UInt8.ofNat i)) hns rfl rfl (by kernel_rfl) (by kernel_rfl) hP (y_cnv rfl (by kernel_rfl) (by kernel_rfl) (qu8 i)) hS rfl (L' := #[true, true, true, true, true, true, true, true, false, false, false, false, false, false]) (by kernel_rfl) ?_
                try simp only [List.setIfInBounds_toArray, List.set_cons_zero, List.set_cons_succ]
                refine h_takeL (i := 8) (v := cb (v + UInt8.ofNat i)) hns rfl rfl (by kernel_rfl) (by kernel_rfl) hP (y_bin (k := .u8) (k' := .u8) (m := v.toNat) (n := (UInt8.ofNat i).toNat) rfl (by kernel_rfl) (by kernel_rfl) (by kernel_rfl) (qaddU v (UInt8.ofNat i))) hS rfl (L' := #[true, true, true, true, true, true, true, true, true, false, false, false, false, false]) (by kernel_rfl) ?_
                try simp only [List.setIfInBounds_toArray, List.set_cons_zero, List.set_cons_succ]
                refine h_valL (i := 9) (v := .agg #[.int .i64 0, .int .i64 0, cb (v + UInt8.ofNat i)]) (by kernel_rfl) rfl rfl (by kernel_rfl) (run_buildOp rfl (by kernel_rfl) (build32 _ rfl _)) hS rfl (L' := #[true, true, true, true, true, true, true, true, true, true, false, false, false, false]) (by kernel_rfl) ?_
                try simp only [List.setIfInBounds_toArray, List.set_cons_zero, List.set_cons_succ]
                refine h_callL (i := 10) (f := 37) (args := #[.agg #[.int .i64 0, .int .i64 0, cb (v + UInt8.ofNat i)]]) (by kernel_rfl) rfl rfl (by kernel_rfl) (enter_go rfl (by kernel_rfl) (fun w => by go_simp)) (L' := #[true, true, true, true, true, true, true, true, true, true, true, false, false, false]) (by kernel_rfl) ?_
                refine HOF.out.mono ?_
                rintro e w6 ⟨g, hg, rfl, hRw, hB6⟩
                have hS := hS.below hB6
                refine ⟨_, rfl, hS, ?_⟩
                have HSL2 : Hid (Sl w6 (.slice (some ⟨g, 0, none⟩) 896 896) lb) := hid (by have h := Sl.mk hRw.rd (Nat.le_of_eq rfl); rw [HLL.out] at h; exact h)
                have HZ : Hid (Pm B w6 p j d s 1 bl cur' was (-1) (-1) m ks f ∧ Ga v L f (i + 1) cur' ∧ Below B W w6) := hid (by
                  have h1 := HP.out.below HR5.out
                  have hd : Below w5.heap.size w5 w5.drew := (Below.refl _ _).drew
                  have h2 := h1.below hd
                  exact ⟨h2.below hB6, HG.out.keep HF.out, ((HBW.out.trans (HR5.out.mono HP.out.pv.Bw)).trans (hd.mono h1.pv.Bw)).trans (hB6.mono h2.pv.Bw)⟩)
                clear hg hRw hB6 HOF
                try simp only [List.setIfInBounds_toArray, List.set_cons_zero, List.set_cons_succ]
                refine h_valL (i := 11) (v := strV lb) (by kernel_rfl) rfl rfl (by kernel_rfl) (run_cvOp rfl (by kernel_rfl) (conv_sl HSL2.out)) hS rfl (L' := #[true, true, true, true, true, true, true, true, true, true, true, true, false, false]) (by kernel_rfl) ?_
                try simp only [List.setIfInBounds_toArray, List.set_cons_zero, List.set_cons_succ]
                refine h_takeL (i := 12) (v := .bool false) hns rfl rfl (by kernel_rfl) (by kernel_rfl) hP (y_neqS (l := lb) (m := lb) rfl (by kernel_rfl) (by kernel_rfl) (by kernel_rfl) (decide_eq_false (fun h => h rfl))) hS rfl (L' := #[true, true, true, true, true, true, true, true, true, true, true, true, true, false]) (by kernel_rfl) ?_
                try simp only [List.setIfInBounds_toArray, List.set_cons_zero, List.set_cons_succ]
                refine h_takeL (i := 13) (v := .bool false) hns rfl rfl (by kernel_rfl) (by kernel_rfl) hP (y_pick (b := false) rfl (by kernel_rfl) (by kernel_rfl) (by kernel_rfl)) hS rfl (L' := #[true, true, true, true, true, true, true, true, true, true, true, true, true, true]) (by kernel_rfl) ?_
                try simp only [List.setIfInBounds_toArray, List.set_cons_zero, List.set_cons_succ]
                refine wpAnyH_done (by kernel_rfl) ?_ _
                refine hN _ _ ?_
                clear hP hN hns
                clear hS
                go_wp2_with fail
                exact ⟨⟨i + 1, cur', HIX.out, rfl, HZ.out⟩, by have := HIX.out; simp [intOf]; omega⟩
              · rw [hf] at hlk
                have HLK := hid (show (Instr.lookup 67 (.map (some m)) (.int .i64 (i : Nat)) false).run Tryz.prog wr = .ok (.bool true) wr from hlk)
                have hfn : f (i : Nat) ≠ none := by rw [hf]; simp
                have hfi := hG.first hlt hfn
                have HAL := hid (hP.alloc i hfi.1 hfi.2)
                have HF := hid hfn
                clear hlk hf hfn hfi hP hG hBw hlt hi hll
                go_upto_region 30 with fail
                refine wp_region_lit ?_
                refine wp_y (v := .map (some m)) rfl rfl (y_move rfl (by kernel_rfl) (by kernel_rfl)) rfl ?_
                try simp only [List.setIfInBounds_toArray, List.set_cons_zero, List.set_cons_succ]
                refine wp_y (v := .int .i64 (i : Nat)) rfl rfl (y_move rfl (by kernel_rfl) (by kernel_rfl)) rfl ?_
                try simp only [List.setIfInBounds_toArray, List.set_cons_zero, List.set_cons_succ]
                refine wp_run (v := .bool true) rfl rfl (run_lk1Op rfl (by kernel_rfl) (by kernel_rfl) HLK.out) rfl ?_
                try simp only [List.setIfInBounds_toArray, List.set_cons_zero, List.set_cons_succ]
                refine wp_y (v := .bool false) rfl rfl (y_un rfl (by kernel_rfl) (by kernel_rfl) (qnotB true)) rfl ?_
                try simp only [List.setIfInBounds_toArray, List.set_cons_zero, List.set_cons_succ]
                refine wp_end ?_
                go_wp2_with fail
                refine HAL.out.mono ?_
                rintro e w5 ⟨rfl, hP5, hB5⟩
                have hcq : (cur'.set i (some z896))[i]? = some (some z896) := by rw [List.getElem?_set, if_pos rfl, if_pos (by rw [HG.out.len]; exact HIX.out)]
                have hpe := pgB_at hcq
                have hrd := hP5.pv.readAny (i : Nat)
                rw [hpe.1, hpe.2] at hrd
                have HRE := hid hrd
                have HP5 := hid (And.intro hP5 (And.intro (HG.out.next HIX.out HF.out) (HBW.out.trans hB5)))
                clear hP5 hB5 hcq hpe hrd HAL
                go_wp2_with fail
                refine HRE.out.mono ?_
                rintro e w6 ⟨vb, rfl, hRed⟩
                have hsl := hRed.sl
                have HSL := hid (show Sl w6.drew vb z896 from hsl)
                have hmk := make896 w6.drew
                have hB7 : Below w6.drew.heap.size w6.drew (w6.drew.alloc (.cells (cells8 z896).toArray 5)) := (Below.refl _ _).alloc (Nat.le_refl _) _
                have hR7 : Rw (w6.drew.alloc (.cells (cells8 z896).toArray 5)) w6.drew.heap.size 5 z896 := heap_alloc_last w6.drew _
                obtain ⟨g7, hg7⟩ : ∃ g, w6.drew.heap.size = g := ⟨_, rfl⟩
                rw [hg7] at hmk hR7
                have hd6 : Below w6.heap.size w6 w6.drew := (Below.refl _ _).drew
                generalize w6.drew.alloc (.cells (cells8 z896).toArray 5) = w7 at *
                have HMK := hid hmk
                have HS7 := hid (HSL.out.below hB7)
                have HS8 : Hid (Sl w7 (.slice (some ⟨g7, 0, none⟩) 896 896) z896) := hid (Sl.mk hR7.rd (by decide))
                have HZ : Hid (Pm B w7 p j d s 1 bl (cur'.set i (some z896)) was (-1) (-1) m ks f ∧ Ga v L f (i + 1) (cur'.set i (some z896)) ∧ Below B W w7) := hid (by
                  obtain ⟨h1, h2, h3⟩ := HP5.out
                  have h4 := ((h1.below hRed.1).below hd6).below hB7
                  exact ⟨h4, h2, ((h3.trans (hRed.1.mono h1.pv.Bw)).trans (hd6.mono (h1.below hRed.1).pv.Bw)).trans (hB7.mono ((h1.below hRed.1).below hd6).pv.Bw)⟩)
                clear hRed hsl hmk hB7 hR7 hg7 hd6 HRE HP5
                generalize z896 = zz at *
                go_upto_region 36 with fail
                refine h_openL (S := fun w' => Sl w' vb zz) (by kernel_rfl) (by kernel_rfl) (fun _ _ _ _ _ h => h) (L := #[false, false, false, false, false, false, false, false, false, false, false, false, false, false, false, false, false, false]) (by kernel_rfl) ?_
                intro Q' hns hP hN
                have hS := HSL.out
                try simp only [List.setIfInBounds_toArray, List.set_cons_zero, List.set_cons_succ]
                refine h_takeL (i := 0) (v := .int .i64 (i : Nat)) hns rfl rfl (by kernel_rfl) (by kernel_rfl) hP (y_move rfl (by kernel_rfl) (by kernel_rfl)) hS rfl (L' := #[true, false, false, false, false, false, false, false, false, false, false, false, false, false, false, false, false, false]) (by kernel_rfl) ?_
                try simp only [List.setIfInBounds_toArray, List.set_cons_zero, List.set_cons_succ]
                refine h_takeL (i := 1) (v := .int .i64 (i : Nat)) hns rfl rfl (by kernel_rfl) (by kernel_rfl) hP (y_move rfl (by kernel_rfl) (by kernel_rfl)) hS rfl (L' := #[true, true, false, false, false, false, false, false, false, false, false, false, false, false, false, false, false, false]) (by kernel_rfl) ?_
                try simp only [List.setIfInBounds_toArray, List.set_cons_zero, List.set_cons_succ]
                refine h_takeL (i := 2) (v := .bool false) hns rfl rfl (by kernel_rfl) (by kernel_rfl) hP (y_bin (k := .i64) (k' := .i64) (m := (i : Nat)) (n := (i : Nat)) rfl (by kernel_rfl) (by kernel_rfl) (by kernel_rfl) (neqI _ _ _ (bne_self_eq_false _))) hS rfl (L' := #[true, true, true, false, false, false, false, false, false, false, false, false, false, false, false, false, false, false]) (by kernel_rfl) ?_
                try simp only [List.setIfInBounds_toArray, List.set_cons_zero, List.set_cons_succ]
                refine h_takeL (i := 3) (v := .bool false) hns rfl rfl (by kernel_rfl) (by kernel_rfl) hP (y_move rfl (by kernel_rfl) (by kernel_rfl)) hS rfl (L' := #[true, true, true, true, false, false, false, false, false, false, false, false, false, false, false, false, false, false]) (by kernel_rfl) ?_
                try simp only [List.setIfInBounds_toArray, List.set_cons_zero, List.set_cons_succ]
                refine h_takeL (i := 4) (v := .int .i64 0) hns rfl rfl (by kernel_rfl) (by kernel_rfl) hP (y_move rfl (by kernel_rfl) (by kernel_rfl)) hS rfl (L' := #[true, true, true, true, true, false, false, false, false, false, false, false, false, false, false, false, false, false]) (by kernel_rfl) ?_
                try simp only [List.setIfInBounds_toArray, List.set_cons_zero, List.set_cons_succ]
                refine h_takeL (i := 5) (v := .bool false) hns rfl rfl (by kernel_rfl) (by kernel_rfl) hP (y_bin (k := .i64) (k' := .i64) (m := 0) (n := 0) rfl (by kernel_rfl) (by kernel_rfl) (by kernel_rfl) (neqE _ _ _ rfl)) hS rfl (L' := #[true, true, true, true, true, true, false, false, false, false, false, false, false, false, false, false, false, false]) (by kernel_rfl) ?_
                try simp only [List.setIfInBounds_toArray, List.set_cons_zero, List.set_cons_succ]
                refine h_takeL (i := 6) (v := .bool false) hns rfl rfl (by kernel_rfl) (by kernel_rfl) hP (y_pick (b := false) rfl (by kernel_rfl) (by kernel_rfl) (by kernel_rfl)) hS rfl (L' := #[true, true, true, true, true, true, true, false, false, false, false, false, false, false, false, false, false, false]) (by kernel_rfl) ?_
                try simp only [List.setIfInBounds_toArray, List.set_cons_zero, List.set_cons_succ]
                refine h_takeL (i := 7) (v := .bool false) hns rfl rfl (by kernel_rfl) (by kernel_rfl) hP (y_move rfl (by kernel_rfl) (by kernel_rfl)) hS rfl (L' := #[true, true, true, true, true, true, true, true, false, false, false, false, false, false, false, false, false, false]) (by kernel_rfl) ?_
                try simp only [List.setIfInBounds_toArray, List.set_cons_zero, List.set_cons_succ]
                refine h_takeL (i := 8) (v := .int .i64 0) hns rfl rfl (by kernel_rfl) (by kernel_rfl) hP (y_move rfl (by kernel_rfl) (by kernel_rfl)) hS rfl (L' := #[true, true, true, true, true, true, true, true, true, false, false, false, false, false, false, false, false, false]) (by kernel_rfl) ?_
                try simp only [List.setIfInBounds_toArray, List.set_cons_zero, List.set_cons_succ]
                refine h_takeL (i := 9) (v := .bool false) hns rfl rfl (by kernel_rfl) (by kernel_rfl) hP (y_bin (k := .i64) (k' := .i64) (m := 0) (n := 0) rfl (by kernel_rfl) (by kernel_rfl) (by kernel_rfl) (neqE _ _ _ rfl)) hS rfl (L' := #[true, true, true, true, true, true, true, true, true, true, false, false, false, false, false, false, false, false]) (by kernel_rfl) ?_
                try simp only [List.setIfInBounds_toArray, List.set_cons_zero, List.set_cons_succ]
                refine h_takeL (i := 10) (v := .bool false) hns rfl rfl (by kernel_rfl) (by kernel_rfl) hP (y_pick (b := false) rfl (by kernel_rfl) (by kernel_rfl) (by kernel_rfl)) hS rfl (L' := #[true, true, true, true, true, true, true, true, true, true, true, false, false, false, false, false, false, false]) (by kernel_rfl) ?_
                try simp only [List.setIfInBounds_toArray, List.set_cons_zero, List.set_cons_succ]
                refine h_takeL (i := 11) (v := .bool false) hns rfl rfl (by kernel_rfl) (by kernel_rfl) hP (y_move rfl (by kernel_rfl) (by kernel_rfl)) hS rfl (L' := #[true, true, true, true, true, true, true, true, true, true, true, true, false, false, false, false, false, false]) (by kernel_rfl) ?_
                try simp only [List.setIfInBounds_toArray, List.set_cons_zero, List.set_cons_succ]
                refine h_takeL (i := 12) (v := vb) hns rfl rfl (by kernel_rfl) (by kernel_rfl) hP (y_move rfl (by kernel_rfl) (by kernel_rfl)) hS rfl (L' := #[true, true, true, true, true, true, true, true, true, true, true, true, true, false, false, false, false, false]) (by kernel_rfl) ?_
                try simp only [List.setIfInBounds_toArray, List.set_cons_zero, List.set_cons_succ]
                refine h_takeL (i := 13) (v := strV zz) hns rfl rfl (by kernel_rfl) (by kernel_rfl) hP (y_convS rfl (by kernel_rfl) (by kernel_rfl) (fun w' h => conv_sl h)) hS rfl (L' := #[true, true, true, true, true, true, true, true, true, true, true, true, true, true, false, false, false, false]) (by kernel_rfl) ?_
                try simp only [List.setIfInBounds_toArray, List.set_cons_zero, List.set_cons_succ]
                refine h_valL (i := 14) (v := .slice (some ⟨g7, 0, none⟩) 896 896) (by kernel_rfl) rfl rfl (by kernel_rfl) (run_mkOp rfl (by kernel_rfl) (by kernel_rfl) HMK.out) HS7.out rfl (L' := #[true, true, true, true, true, true, true, true, true, true, true, true, true, true, true, false, false, false]) (by kernel_rfl) ?_
                have hS := HS7.out
                try simp only [List.setIfInBounds_toArray, List.set_cons_zero, List.set_cons_succ]
                refine h_valL (i := 15) (v := strV zz) (by kernel_rfl) rfl rfl (by kernel_rfl) (run_cvOp rfl (by kernel_rfl) (conv_sl HS8.out)) hS rfl (L' := #[true, true, true, true, true, true, true, true, true, true, true, true, true, true, true, true, false, false]) (by kernel_rfl) ?_
                try simp only [List.setIfInBounds_toArray, List.set_cons_zero, List.set_cons_succ]
                refine h_takeL (i := 16) (v := .bool false) hns rfl rfl (by kernel_rfl) (by kernel_rfl) hP (y_neqS (l := zz) (m := zz) rfl (by kernel_rfl) (by kernel_rfl) (by kernel_rfl) (decide_eq_false (fun h => h rfl))) hS rfl (L' := #[true, true, true, true, true, true, true, true, true, true, true, true, true, true, true, true, true, false]) (by kernel_rfl) ?_
                try simp only [List.setIfInBounds_toArray, List.set_cons_zero, List.set_cons_succ]
                refine h_takeL (i := 17) (v := .bool false) hns rfl rfl (by kernel_rfl) (by kernel_rfl) hP (y_pick (b := false) rfl (by kernel_rfl) (by kernel_rfl) (by kernel_rfl)) hS rfl (L' := #[true, true, true, true, true, true, true, true, true, true, true, true, true, true, true, true, true, true]) (by kernel_rfl) ?_
                try simp only [List.setIfInBounds_toArray, List.set_cons_zero, List.set_cons_succ]
                refine wpAnyH_done (by kernel_rfl) ?_ _
                refine hN _ _ ?_
                clear hP hN hns
                clear hS
                go_wp2_with fail
                exact ⟨⟨i + 1, _, HIX.out, rfl, HZ.out⟩, by have := HIX.out; simp [intOf]; omega⟩
            · have hiL : i = L := by omega
              subst i
              have hlt' : ¬ (L : Int) < (L : Int) := by omega
              have hlf := hP.pv.left
              rw [hG.ends] at hlf
              have HLF : Hid (Calls Tryz.prog 26 #[.pointer (some ⟨p, 0, none⟩)] wr fun e w' => e = .returned (.int .i64 0) ∧ w' = wr) := hid hlf
              have HZ := hid hBw
              clear hlf hP hG hBw hlt hi hll hwk
              go_wp2_with fail
              refine HLF.out.mono ?_
              rintro e wz ⟨rfl, hwz⟩
              obtain rfl := hwz.symm
              clear HLF
              go_wp2_with fail
              go_ret
              exact ⟨rfl, HZ.out⟩
end Go.Proofs.YtcmgclkbhhdnaaaGreatDoor
