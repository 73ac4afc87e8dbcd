/- Numbers as bytes. -/
import Derived.Test.YtcjhimakbopipaaDoorMOver
import Derived.Test.YtcjhimakbopipaaDoorShelf
import Derived.Laws.MakeOwn
import Derived.Laws.OwnMore
namespace Go.Proofs.YtcjhimakbopipaaDoor
open Go Go.RowKit

section
variable {o : Oper} {a : Act} {w w1 : World}
theorem run_mkOp {t : TypeId} {p q : Operand} {x y v : Value} (hop : o.op = .makeSlice t p q) (hp : a.eval p = x) (hq : a.eval q = y) (hr : (Instr.makeSlice t x y).run Tryd.prog w = .ok v w1) :
    (execOp a.eval o).run Tryd.prog w = .ok (.value v) w1 := by
  unfold execOp; rw [hop]; simp only [hp, hq, Sem.run_bind, hr, Result.andThen_ok]; rfl
theorem run_appOp {t : TypeId} {x y : Operand} {p q v : Value} (hop : o.op = .call { callee := .builtin .append, args := #[x, y], argTypes := #[t, t] }) (hx : a.eval x = p) (hy : a.eval y = q) (hr : (Builtin.append_ #[t, t] o.type #[p, q]).run Tryd.prog w = .ok v w1) :
    (execOp a.eval o).run Tryd.prog w = .ok (.value v) w1 := by
  unfold execOp
  simp only [hop, resolve, invoke, builtin, Sem.run_bind, Sem.run_pure, Result.andThen_ok, List.map_toArray, List.map_cons, List.map_nil, hx, hy, hr]
theorem run_bsOp {t : TypeId} {n : Nat} {ps : Array (Nat × Operand)} {xs : Array (Nat × Value)} {v : Value} (hop : o.op = .buildSlice t n ps) (hp : (ps.map fun (i, x) => (i, a.eval x)) = xs) (hr : (Instr.buildSlice t n xs).run Tryd.prog w = .ok v w1) :
    (execOp a.eval o).run Tryd.prog w = .ok (.value v) w1 := by
  unfold execOp; rw [hop]; simp only [hp, Sem.run_bind, hr, Result.andThen_ok]; rfl
end
section
variable {ops : Array Oper} {o : Oper} {w w' : World} {rest : List Oper} {Q : Exit → Act → World → Prop}
theorem wp_run {v : Value} {d : Nat} {tmps T : Array Value} {ds : List Deferred} (hg : o.guard = none) (hd : o.dst = some d) (hr : (execOp (Act.mk tmps ds).eval o).run Tryd.prog w = .ok (.value v) w') (hT : tmps.setIfInBounds d v = T) (hK : wpList Tryd.prog ops Q rest ⟨T, ds⟩ w') : wpList Tryd.prog ops Q (o :: rest) ⟨tmps, ds⟩ w := by
  subst hT
  refine wpList_plain hg fun K hK' => ?_
  unfold Oper.wp
  rw [hr, Oper.upon_value]
  refine hK' _ _ ?_
  rw [hd]; exact hK
end
/-- A new row of the call's own, with room for c bytes. -/
theorem make25 (w : World) (c : Nat) (hc : c ≤ 281474976710656) : ∃ w', (Instr.makeSlice 25 (.int .i64 0) (.int .i64 c)).run Tryd.prog w = .ok (.slice (some ⟨w.heap.size, 0, none⟩) 0 c) w' ∧
    w'.ownsRow w.heap.size 5 1 (.slice (some ⟨w.heap.size, 0, none⟩) 0 c) 0 (cells8 []) ∧ Below w.heap.size w w' := by
  obtain ⟨i0, hi, hz0, hz1, hz2⟩ := info_parts info8
  obtain ⟨w', hr, ho, hg⟩ := run_make_own (P := Tryd.prog) w w.heap.size 25 5 i0 (.int .u8 0) 1 Tryd.underlying25 hi hz0 hz1 .i64 .i64 c (by rw [hz2]; omega) (by unfold maxLen; omega) (Nat.le_refl _)
  exact ⟨w', hr, ho, (Below.refl w.heap.size w).grown hg (Nat.le_refl _) (fun k hk => by cases hk)⟩
/-- Bytes written out, appended where there is room. -/
theorem app_in {wr : World} {B g cap n k : Nat} (m news : List UInt8) (ho : wr.ownsRow B 5 1 (.slice (some ⟨g, 0, none⟩) n cap) n (cells8 m)) (hk : news.length = k) (hroom : n + k ≤ cap) (hB : B ≤ wr.heap.size) (ty : TypeId) :
    ∃ w1, (Builtin.append_ #[25, 25] ty #[.slice (some ⟨g, 0, none⟩) n cap, .slice (some ⟨wr.heap.size, 0, none⟩) k k]).run Tryd.prog (wr.alloc (.cells (cells8 news).toArray 5)) = .ok (.slice (some ⟨g, 0, none⟩) (n + k) cap) w1 ∧
      w1.ownsRow B 5 1 (.slice (some ⟨g, 0, none⟩) (n + k) cap) (n + k) (cells8 (m ++ news)) ∧ Below B wr w1 := by
  obtain ⟨i0, hi, hz0, hz1, hz2⟩ := info_parts info8
  obtain ⟨w1, hr, ho1, hg1⟩ := run_append_fits (P := Tryd.prog) (wr.alloc (.cells (cells8 news).toArray 5)) B 25 ty 5 i0 1 Tryd.underlying25 hi hz1 g n cap _ (ho.alloc _) ⟨wr.heap.size, 0, none⟩ k k (cells8 news) (by rw [cells8_len]; omega)
    (World.news_of_block (fr := (0, 0)) (heap_alloc_new wr _)) (cells8_one _) hroom
  rw [cells8_append] at ho1
  exact ⟨w1, hr, ho1, (((Below.refl B wr).alloc hB _).grown hg1 (by simp; omega) (fun k hk => by cases hk; exact (owns_cap ho).2.2.1))⟩
theorem shr37_24 (x : Nat) (w : World) : (binOp .shr 37 (.int .u32 x) (.int .u64 24)).run Tryd.prog w = .ok (.int .u32 (x / 16777216 : Nat)) w := by
  have h1 : (x : Int) / 16777216 = ((x / 16777216 : Nat) : Int) := by omega
  generalize x / 16777216 = q at *
  go_simp
theorem shr37_16 (x : Nat) (w : World) : (binOp .shr 37 (.int .u32 x) (.int .u64 16)).run Tryd.prog w = .ok (.int .u32 (x / 65536 : Nat)) w := by
  have h1 : (x : Int) / 65536 = ((x / 65536 : Nat) : Int) := by omega
  generalize x / 65536 = q at *
  go_simp
theorem shr37_8 (x : Nat) (w : World) : (binOp .shr 37 (.int .u32 x) (.int .u64 8)).run Tryd.prog w = .ok (.int .u32 (x / 256 : Nat)) w := by
  have h1 : (x : Int) / 256 = ((x / 256 : Nat) : Int) := by omega
  generalize x / 256 = q at *
  go_simp
theorem cvt5 (x : Nat) (w : World) : (convert 37 5 (.int .u32 x)).run Tryd.prog w = .ok (.int .u8 (x % 256 : Nat)) w := by
  have h1 : IntKind.u8.wrap (x : Int) = ((x % 256 : Nat) : Int) := by rw [IntKind.wrap_u8']; omega
  generalize x % 256 = q at *
  go_simp
theorem cb_ofNat (x : Nat) (h : x < 256) : cb (UInt8.ofNat x) = .int .u8 (x : Nat) := by unfold cb; rw [u8_ofNat h]
theorem bslice4 (w : World) (x : Nat) : (Instr.buildSlice 25 4 #[(0, .int .u8 (x / 16777216 % 256 : Nat)), (1, .int .u8 (x / 65536 % 256 : Nat)), (2, .int .u8 (x / 256 % 256 : Nat)), (3, .int .u8 (x % 256 : Nat))]).run Tryd.prog w = .ok (.slice (some ⟨w.heap.size, 0, none⟩) 4 4) (w.alloc (.cells (cells8 (out4 x)).toArray 5)) := by
  have e : (cells8 (out4 x)).toArray = #[.int .u8 (x / 16777216 % 256 : Nat), .int .u8 (x / 65536 % 256 : Nat), .int .u8 (x / 256 % 256 : Nat), .int .u8 (x % 256 : Nat)] := by
    simp only [cells8, out4, List.map_cons, List.map_nil]
    rw [cb_ofNat _ (Nat.mod_lt _ (by decide)), cb_ofNat _ (Nat.mod_lt _ (by decide)), cb_ofNat _ (Nat.mod_lt _ (by decide)), cb_ofNat _ (Nat.mod_lt _ (by decide))]
  rw [e]
  generalize x / 16777216 % 256 = p at *
  generalize x / 65536 % 256 = q at *
  generalize x / 256 % 256 = r at *
  generalize x % 256 = s at *
  go_simp
theorem outs_take (h : List Nat) (k : Nat) (hk : k < h.length) : outs (h.take (k + 1)) = outs (h.take k) ++ out4 (h.getD k 0) := by
  rw [List.take_add_one, List.getElem?_eq_getElem hk, Option.toList_some, outs_snoc]
  simp [List.getD, hk]
set_option maxHeartbeats 1000000 in
theorem bytes_any (h : List Nat) (hl : h.length = 8) (w : World) :
    Calls Tryd.prog 31 #[V32 h] w fun r w' => ∃ v, r = .returned v ∧ Sl w' v (outs h) ∧ Below w.heap.size w w' := by
  show Calls _ _ #[.agg (cs32 h)] w _
  have a1 : Ar (w.alloc (.cells (cs32 h) 48)) w.heap.size 48 h := heap_alloc_last w _
  have hB0 := (Below.refl w.heap.size w).alloc (Nat.le_refl _) (.cells (cs32 h) 48)
  obtain ⟨w1, hM, hO, hB1⟩ := make25 (w.alloc (.cells (cs32 h) 48)) 32 (by decide)
  have hs1 : (w.alloc (.cells (cs32 h) 48)).heap.size = w.heap.size + 1 := by show (w.heap.push _).size = _; simp
  have a2 : Ar w1 w.heap.size 48 h := a1.below hB1 (by rw [hs1]; omega)
  have hB2 := hB0.trans (hB1.mono (by rw [hs1]; omega))
  rw [hs1] at hM hO
  have HA1 := hidM a2
  have HM := hidM hM
  have HO1 := hidM hO
  have HB1 := hidM hB2
  have HL := hidM hl
  clear a1 a2 hB0 hB1 hB2 hM hO
  go_enter Tryd.func31, Tryd.ntmps31
  go_upto_region 1 with fail
  generalize hb : w.heap.size = b at *
  refine wp_region_lit ?_
  refine wp_run (v := .slice (some ⟨b + 1, 0, none⟩) 0 32) rfl rfl (run_mkOp rfl (by kernel_rfl) (by kernel_rfl) HM.out) rfl ?_
  refine wp_y (v := .slice (some ⟨b + 1, 0, none⟩) 0 32) rfl rfl (y_assign rfl (by kernel_rfl) (by kernel_rfl)) rfl ?_
  simp only [List.setIfInBounds_toArray, List.set_cons_zero, List.set_cons_succ]
  refine wp_end ?_
  go_upto_region 2 with fail
  refine wp_region_lit ?_
  refine wp_y (v := V32 h) rfl rfl (y_load rfl (by kernel_rfl) (by kernel_rfl) (fun w' h => by subst h; exact load48 HL.out HA1.out)) rfl ?_
  refine wp_y (v := (.int .i64 0)) rfl rfl (y_move rfl (by kernel_rfl) (by kernel_rfl)) rfl ?_
  simp only [List.setIfInBounds_toArray, List.set_cons_zero, List.set_cons_succ]
  refine wp_end ?_
  go_wp2_with fail
  go_loopw [8, 3, 5] (fun x v _ wr => ∃ k : Nat, k ≤ 8 ∧ x = .int .i64 k ∧ v = .slice (some ⟨b + 1, 0, none⟩) (4 * k) 32 ∧ wr.ownsRow (b + 1) 5 1 (.slice (some ⟨b + 1, 0, none⟩) (4 * k) 32) (4 * k) (cells8 (outs (h.take k))) ∧ Below b w wr ∧ b + 1 < wr.heap.size) (fun x _ _ _ => 8 - (intOf x).toNat)
  case atStart => exact ⟨0, Nat.zero_le _, rfl, rfl, HO1.out, HB1.out, (HO1.out.lt _ rfl).2⟩
  case round =>
    clear HA1 HM HO1 HB1
    obtain ⟨k, hk, rfl, rfl, hO, hBr, hsz⟩ := hrel
    have HB := hidM hBr
    have HS := hidM hsz
    clear hBr hsz
    by_cases hlt : k < 8
    · have hlt' : (k : Int) < 8 := by omega
      have hwk : IntKind.i64.wrap ((k : Int) + 1) = ((k + 1 : Nat) : Int) := by rw [IntWalk.i64_in _ ⟨by omega, by omega⟩]; omega
      have hst := outs_take h k (by omega)
      obtain ⟨w2, hAP, hO2, hB2⟩ : ∃ w2, ((Builtin.append_ #[25, 25] 25 #[.slice (some ⟨b + 1, 0, none⟩) (4 * k) 32, .slice (some ⟨wr.heap.size, 0, none⟩) 4 4]).run Tryd.prog (wr.alloc (.cells (cells8 (out4 (h.getD k 0))).toArray 5)) = .ok (.slice (some ⟨b + 1, 0, none⟩) (4 * k + 4) 32) w2) ∧
          w2.ownsRow (b + 1) 5 1 (.slice (some ⟨b + 1, 0, none⟩) (4 * k + 4) 32) (4 * k + 4) (cells8 (outs (h.take (k + 1)))) ∧ Below (b + 1) wr w2 := by
        obtain ⟨w2, h1, h2, h3⟩ := app_in (outs (h.take k)) (out4 (h.getD k 0)) (k := 4) hO rfl (by omega) (by have := HS.out; omega) 25
        exact ⟨w2, h1, by rw [hst]; exact h2, h3⟩
      have HAP := hidM hAP
      have HO2 := hidM hO2
      have HB2 := hidM hB2
      have HK := hidM hlt
      clear hAP hO2 hB2 hst hO
      go_upto_region 4 with fail
      refine wp_region_lit ?_
      refine wp_y (v := .int .u32 ((h.getD k 0) : Nat)) rfl rfl (y_idx rfl (by kernel_rfl) (by kernel_rfl) (by kernel_rfl) (idxV48 h k HL.out HK.out)) rfl ?_
      refine wp_y (v := .int .u32 ((h.getD k 0) : Nat)) rfl rfl (y_assign rfl (by kernel_rfl) (by kernel_rfl)) rfl ?_
      simp only [List.setIfInBounds_toArray, List.set_cons_zero, List.set_cons_succ]
      refine wp_end ?_
      go_upto_region 5 with fail
      refine wp_region_lit ?_
      refine wp_y (v := .slice (some ⟨b + 1, 0, none⟩) (4 * k) 32) rfl rfl (y_move rfl (by kernel_rfl) (by kernel_rfl)) rfl ?_
      refine wp_y (v := .int .u32 ((h.getD k 0) : Nat)) rfl rfl (y_move rfl (by kernel_rfl) (by kernel_rfl)) rfl ?_
      refine wp_y (v := .int .u32 ((h.getD k 0) / 16777216 : Nat)) rfl rfl (y_bin rfl (by kernel_rfl) (by kernel_rfl) (by kernel_rfl) (shr37_24 _)) rfl ?_
      refine wp_y (v := .int .u8 ((h.getD k 0) / 16777216 % 256 : Nat)) rfl rfl (y_cnv rfl (by kernel_rfl) (by kernel_rfl) (cvt5 _)) rfl ?_
      refine wp_y (v := .int .u32 ((h.getD k 0) : Nat)) rfl rfl (y_move rfl (by kernel_rfl) (by kernel_rfl)) rfl ?_
      refine wp_y (v := .int .u32 ((h.getD k 0) / 65536 : Nat)) rfl rfl (y_bin rfl (by kernel_rfl) (by kernel_rfl) (by kernel_rfl) (shr37_16 _)) rfl ?_
      refine wp_y (v := .int .u8 ((h.getD k 0) / 65536 % 256 : Nat)) rfl rfl (y_cnv rfl (by kernel_rfl) (by kernel_rfl) (cvt5 _)) rfl ?_
      refine wp_y (v := .int .u32 ((h.getD k 0) : Nat)) rfl rfl (y_move rfl (by kernel_rfl) (by kernel_rfl)) rfl ?_
      simp only [List.setIfInBounds_toArray, List.set_cons_zero, List.set_cons_succ]
      refine wp_y (v := .int .u32 ((h.getD k 0) / 256 : Nat)) rfl rfl (y_bin rfl (by kernel_rfl) (by kernel_rfl) (by kernel_rfl) (shr37_8 _)) rfl ?_
      refine wp_y (v := .int .u8 ((h.getD k 0) / 256 % 256 : Nat)) rfl rfl (y_cnv rfl (by kernel_rfl) (by kernel_rfl) (cvt5 _)) rfl ?_
      refine wp_y (v := .int .u32 ((h.getD k 0) : Nat)) rfl rfl (y_move rfl (by kernel_rfl) (by kernel_rfl)) rfl ?_
      refine wp_y (v := .int .u8 ((h.getD k 0) % 256 : Nat)) rfl rfl (y_cnv rfl (by kernel_rfl) (by kernel_rfl) (cvt5 _)) rfl ?_
      refine wp_run (v := .slice (some ⟨wr.heap.size, 0, none⟩) 4 4) rfl rfl (run_bsOp rfl (by kernel_rfl) (bslice4 wr (h.getD k 0))) rfl ?_
      refine wp_run (v := .slice (some ⟨b + 1, 0, none⟩) (4 * k + 4) 32) rfl rfl (run_appOp rfl (by kernel_rfl) (by kernel_rfl) HAP.out) rfl ?_
      refine wp_y (v := .slice (some ⟨b + 1, 0, none⟩) (4 * k + 4) 32) rfl rfl (y_assign rfl (by kernel_rfl) (by kernel_rfl)) rfl ?_
      simp only [List.setIfInBounds_toArray, List.set_cons_zero, List.set_cons_succ]
      refine wp_end ?_
      go_wp2
      exact ⟨⟨k + 1, by omega, rfl, rfl, HO2.out, HB.out.trans (HB2.out.mono (by omega)), Nat.lt_of_lt_of_le HS.out HB2.out.size⟩, by simp [intOf]; omega⟩
    · have hk8 : k = 8 := by omega
      subst hk8
      rw [List.take_of_length_le (by omega)] at hO
      have HO := hidM hO
      clear hO
      go_wp2
      go_ret
      have hlen : (outs h).length = 32 := by rw [outs_len, hl]
      refine ⟨_, rfl, ?_, by rw [hb]; exact HB.out⟩
      have := Sl.mk (cap := 32) (owns_rd (l := outs h) HO.out) (by omega)
      rw [hlen] at this
      exact this
end Go.Proofs.YtcjhimakbopipaaDoor
