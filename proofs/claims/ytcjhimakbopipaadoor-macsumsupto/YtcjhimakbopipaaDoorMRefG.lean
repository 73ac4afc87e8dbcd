/- The document's Tag. -/
import Derived.Test.YtcjhimakbopipaaDoorMRefS
namespace Go.Proofs.YtcjhimakbopipaaDoor
open Go Go.RowKit

theorem run_cvOp {o : Oper} {a : Act} {w w1 : World} {s t : TypeId} {x : Operand} {p v : Value} (hop : o.op = .convert s t x) (hx : a.eval x = p) (hr : (convert s t p).run Tryd.prog w = .ok v w1) :
    (execOp a.eval o).run Tryd.prog w = .ok (.value v) w1 := by
  unfold execOp; rw [hop]; simp only [hx, Sem.run_bind, hr, Result.andThen_ok]; rfl
theorem gtr64t {m : Nat} (h : 64 < m) (w : World) : (binOp .gtr 3 (.int .i64 (m : Nat)) (.int .i64 64)).run Tryd.prog w = .ok (.bool true) w := by
  have h1 : (64 : Int) < m := by omega
  go_simp
theorem gtr64f {m : Nat} (h : ¬ 64 < m) (w : World) : (binOp .gtr 3 (.int .i64 (m : Nat)) (.int .i64 64)).run Tryd.prog w = .ok (.bool false) w := by
  have h1 : ¬ (64 : Int) < m := by omega
  go_simp
theorem lsst {i m : Nat} (h : i < m) (w : World) : (binOp .lss 3 (.int .i64 (i : Nat)) (.int .i64 (m : Nat))).run Tryd.prog w = .ok (.bool true) w := by
  have h1 : (i : Int) < m := by omega
  go_simp
theorem lssf {i m : Nat} (h : ¬ i < m) (w : World) : (binOp .lss 3 (.int .i64 (i : Nat)) (.int .i64 (m : Nat))).run Tryd.prog w = .ok (.bool false) w := by
  have h1 : ¬ (i : Int) < m := by omega
  go_simp
theorem owns_set8 {w : World} {B g n cap : Nat} {m : List UInt8} (h : w.ownsRow B 5 1 (.slice (some ⟨g, 0, none⟩) n cap) n (cells8 m)) (k : Nat) (_hk : k < n) (c : UInt8) :
    (w.setCell ⟨g, k, none⟩ (.int .u8 (c.toNat : Nat))).ownsRow B 5 1 (.slice (some ⟨g, 0, none⟩) n cap) n (cells8 (m.set k c)) := by
  have e : cells8 (m.set k c) = (cells8 m).set k (.int .u8 (c.toNat : Nat)) := by simp [cells8, List.map_set, cb]
  rw [e]
  obtain ⟨h1, h2⟩ := h
  refine ⟨by simpa using h1, ?_⟩
  rcases h2 with ⟨hv, _⟩ | ⟨g', cap', cur, hv, hb, hg, hn, hc, hcs, ht⟩
  · cases hv
  · cases hv
    refine .inr ⟨g, cap, cur.setIfInBounds k (.int .u8 (c.toNat : Nat)), rfl, hb, heap_setCell hg k _, hn, hc, by simpa using hcs, ?_⟩
    rw [Array.toList_setIfInBounds, ← ht, List.take_set]
theorem storeO {w : World} {B g n cap k : Nat} {m : List UInt8} (h : w.ownsRow B 5 1 (.slice (some ⟨g, 0, none⟩) n cap) n (cells8 m)) (hk : k < n) (c : UInt8) :
    (Instr.storeAt 5 (.pointer (some ⟨g, k, none⟩)) (.int .u8 (c.toNat : Nat))).run Tryd.prog w = .ok () (w.setCell ⟨g, k, none⟩ (.int .u8 (c.toNat : Nat))) := by
  have hl : m.length = n := by have := h.1; rw [cells8_len] at this; omega
  have h1 := owns_rd h k (by omega)
  rw [Nat.zero_add] at h1
  rcases h.2 with ⟨hv, _⟩ | ⟨g', cap', cur, hv, hb, hg, hn, hc, hcs, ht⟩
  · cases hv
  · cases hv
    exact store5c h1 (open_at hg k) c
theorem make64 (w : World) (c : Nat) (hc : 64 ≤ c) (hc2 : c ≤ 281474976710656) : ∃ w', (Instr.makeSlice 25 (.int .i64 64) (.int .i64 (c : Nat))).run Tryd.prog w = .ok (.slice (some ⟨w.heap.size, 0, none⟩) 64 c) w' ∧
    w'.ownsRow w.heap.size 5 1 (.slice (some ⟨w.heap.size, 0, none⟩) 64 c) 64 (cells8 (List.replicate 64 0)) ∧ Below w.heap.size w w' := by
  obtain ⟨i0, hi, hz0, hz1, hz2⟩ := info_parts info8
  have hr := run_make (P := Tryd.prog) w 25 5 i0 (.int .u8 0) Tryd.underlying25 hi hz0 .i64 .i64 64 c (by decide) (by omega) (by rw [hz2]; omega) (by omega)
  simp only [Int.toNat_natCast, hz1, Nat.mul_one] at hr
  refine ⟨_, hr, ⟨by simp [cells8_len], .inr ⟨w.heap.size, c, _, rfl, Nat.le_refl _, heap_alloc_last w _, hc, by unfold maxLen; omega, by rw [size_madeCells]; omega, ?_⟩⟩, (Below.refl _ _).alloc (Nat.le_refl _) _⟩
  have e : (madeCells (Value.int .u8 0).cells c).toList = List.replicate c (Value.int .u8 0) := by
    rw [List.eq_replicate_iff]
    refine ⟨by rw [Array.length_toList, size_madeCells], fun b hb => ?_⟩
    simp only [madeCells, Array.toList_map, List.mem_map] at hb
    obtain ⟨j, _, rfl⟩ := hb
    have : j % (Value.int .u8 0).cells.size = 0 := by show j % 1 = 0; omega
    rw [this]; rfl
  rw [e, List.take_replicate]
  simp only [cells8, List.map_replicate]
  congr 1
  omega
theorem conv_any (w : World) (l : List UInt8) : ∃ w' cap, (convert 9 25 (.string ⟨l.toArray⟩)).run Tryd.prog w = .ok (.slice (some ⟨w.heap.size, 0, none⟩) l.length cap) w' ∧ Rd w' w.heap.size 0 l ∧ w.heap.size < w'.heap.size ∧ Below w.heap.size w w' := by
  have hsz : (⟨l.toArray⟩ : ByteArray).size = l.length := by simp [ByteArray.size]
  have h := run_bytes_of_string (P := Tryd.prog) w 9 25 5 ⟨l.toArray⟩ Tryd.underlying9 Tryd.underlying25 Tryd.underlying5
  rw [hsz] at h
  generalize grownCap w l.length 0 5 = cap at *
  refine ⟨_, cap, h, fun k hk => ?_, by show _ < (w.heap.push _).size; simp, ((Below.refl w.heap.size w).drew).alloc (Nat.le_refl _) _⟩
  rw [Nat.zero_add]
  show (w.drew.alloc _).cell? ⟨w.drew.heap.size, k, none⟩ = _
  have hk' : k < (⟨l.toArray⟩ : ByteArray).data.size := by simpa using hk
  rw [World.cell?_alloc_mark, bytesRow_at _ cap k hk']
  simp [at8, List.getD, hk]
theorem app_fromG {wr : World} {B g cap n s c : Nat} (m news : List UInt8) (ho : wr.ownsRow B 5 1 (.slice (some ⟨g, 0, none⟩) n cap) n (cells8 m)) (hr : Rd wr s 0 news) (hroom : n + news.length ≤ cap) (hB : B ≤ wr.heap.size) (ty : TypeId) :
    ∃ w1, (Builtin.append_ #[25, 25] ty #[.slice (some ⟨g, 0, none⟩) n cap, .slice (some ⟨s, 0, none⟩) news.length c]).run Tryd.prog wr = .ok (.slice (some ⟨g, 0, none⟩) (n + news.length) cap) w1 ∧
      w1.ownsRow B 5 1 (.slice (some ⟨g, 0, none⟩) (n + news.length) cap) (n + news.length) (cells8 (m ++ news)) ∧ Below B wr w1 ∧ ∀ k, k < wr.heap.size → k ≠ g → w1.heap[k]? = wr.heap[k]? := by
  obtain ⟨i0, hi, hz0, hz1, hz2⟩ := info_parts info8
  obtain ⟨w1, hr', ho1, hg1⟩ := run_append_fits (P := Tryd.prog) wr B 25 ty 5 i0 1 Tryd.underlying25 hi hz1 g n cap _ ho ⟨s, 0, none⟩ news.length c (cells8 news) (by rw [cells8_len]; omega)
    (fun j u hu => by
      have hj : j < news.length := by have := (List.getElem?_eq_some_iff.1 hu).1; rwa [cells8_len] at this
      rw [Addr.add_lit, hr j hj, ← hu, cells8_get news j hj]) (cells8_one _) hroom
  rw [cells8_append] at ho1
  exact ⟨w1, hr', ho1, (Below.refl B wr).grown hg1 hB (fun k hk => by cases hk; exact (owns_cap ho).2.2.1), fun k hk hne => hg1.block k hk (fun e => hne (Option.some.inj e))⟩
theorem owns_same {w w' : World} {B g n cap : Nat} {xs : List Value} (h : w.ownsRow B 5 1 (.slice (some ⟨g, 0, none⟩) n cap) n xs) (he : w'.heap[g]? = w.heap[g]?) : w'.ownsRow B 5 1 (.slice (some ⟨g, 0, none⟩) n cap) n xs := by
  obtain ⟨h1, h2⟩ := h
  refine ⟨h1, ?_⟩
  rcases h2 with h2 | ⟨g', cap', cur, hv, hb, hg, r⟩
  · exact .inl h2
  · cases hv
    exact .inr ⟨g, cap, cur, rfl, hb, he.trans hg, r⟩
theorem kob_get_lt (key : List UInt8) (i : Nat) (h : i < (kob0 key).length) : (kob key).getD i 0 = (kob0 key).getD i 0 := by
  unfold kob; simp only [List.getD]; rw [List.getElem?_append_left h]
theorem kob_get_ge (key : List UInt8) (i : Nat) (h : ¬ i < (kob0 key).length) : (kob key).getD i 0 = 0 := by
  unfold kob; simp only [List.getD]
  rw [List.getElem?_append_right (by omega), List.getElem?_replicate]
  split <;> rfl
theorem msk_get (x : UInt8) (l : List UInt8) (i : Nat) (h : i < l.length) : (msk x l).getD i 0 = l.getD i 0 ^^^ x := by simp [msk, List.getD, h]
set_option maxRecDepth 100000 in
set_option maxHeartbeats 4000000 in
theorem refTag_any (key l : List UInt8) (g c : Nat) (hk : key.length + 136 ≤ 281474976710656) (hl : l.length + 300 ≤ 281474976710656) (w : World) (hg : Rd w g 0 l) (hgl : g < w.heap.size) :
    Calls Tryd.prog 14 #[.string ⟨key.toArray⟩, .slice (some ⟨g, 0, none⟩) l.length c] w fun r w' => ∃ p, r = .returned (.slice (some ⟨p, 0, none⟩) 32 32) ∧ Rd w' p 0 (tag key l) ∧ p < w'.heap.size ∧ Below w.heap.size w w' := by
  obtain ⟨w0, kc, hcv, hRK, hkg, hB0⟩ := conv_any w key
  obtain ⟨kg, hkgd⟩ : ∃ kg, kg = w.heap.size := ⟨_, rfl⟩
  obtain ⟨KB, hKB⟩ : ∃ KB, KB = kob key := ⟨_, rfl⟩
  obtain ⟨KK, hKK⟩ : ∃ KK, KK = kob0 key := ⟨_, rfl⟩
  have hkl := kob_len key
  have htag : tag key l = sha (msk 92 KB ++ sha (msk 54 KB ++ l)) := by rw [hKB]; rfl
  have hg1 := kob_get_lt key
  have hg2 := kob_get_ge key
  have hkd : kob0 key = if 64 < key.length then sha key else key := rfl
  rw [← hKB] at hkl hg1 hg2
  rw [← hKK] at hg1 hg2 hkd
  rw [← hkgd] at hcv hRK hkg
  have HCV := hidM hcv
  have HRK := hidM hRK
  have HKG := hidM hkg
  have HKL := hidM hk
  have HLN : Hid (64 + l.length ≤ 281474976710656) := hidM (by omega)
  have HTG := hidM htag
  have HG1 := hidM hg1
  have HG2 := hidM hg2
  have HKB := hidM hkl
  have HRG := hidM hg
  have HB00 := hidM hB0
  clear hKB hKK hcv hRK hkg htag hg1 hg2 hkl hg
  go_enter Tryd.func14, Tryd.ntmps14
  go_upto_region 1 with fail
  refine wp_region_lit ?_
  refine wp_y (v := .string ⟨key.toArray⟩) rfl rfl (y_move rfl (by kernel_rfl) (by kernel_rfl)) rfl ?_
  refine wp_run (v := .slice (some ⟨kg, 0, none⟩) (key.length) (kc)) rfl rfl (run_cvOp rfl (by kernel_rfl) HCV.out) rfl ?_
  refine wp_y (v := .slice (some ⟨kg, 0, none⟩) (key.length) (kc)) rfl rfl (y_assign rfl (by kernel_rfl) (by kernel_rfl)) rfl ?_
  try simp only [List.setIfInBounds_toArray, List.set_cons_zero, List.set_cons_succ]
  refine wp_end ?_
  by_cases hQ : 64 < key.length
  · rw [if_pos hQ] at hkd
    have HQ := hidM hQ
    go_upto_region 2 with fail
    refine wp_region_lit ?_
    refine wp_y (v := .slice (some ⟨kg, 0, none⟩) (key.length) (kc)) rfl rfl (y_move rfl (by kernel_rfl) (by kernel_rfl)) rfl ?_
    refine wp_y (v := .int .i64 (key.length : Nat)) rfl rfl (y_lenB (p := some ⟨kg, 0, none⟩) (c := kc) rfl (by kernel_rfl) (by kernel_rfl)) rfl ?_
    refine wp_y (v := .bool true) rfl rfl (y_bin rfl (by kernel_rfl) (by kernel_rfl) (by kernel_rfl) (gtr64t HQ.out)) rfl ?_
    try simp only [List.setIfInBounds_toArray, List.set_cons_zero, List.set_cons_succ]
    refine wp_end ?_
    go_upto_region 3 with fail
    refine wp_region_lit ?_
    refine wp_y (v := .slice (some ⟨kg, 0, none⟩) (key.length) (kc)) rfl rfl (y_move rfl (by kernel_rfl) (by kernel_rfl)) rfl ?_
    refine wp_call (f := 11) (args := #[.slice (some ⟨kg, 0, none⟩) (key.length) (kc)]) (by kernel_rfl) (fun w => by go_simp) ?_
    refine (refSum_any key kg kc HKL.out _ HRK.out HKG.out).mono ?_
    rintro e w1 ⟨kg2, rfl, hRK2, hkg2, hB2⟩
    refine ⟨_, rfl, ?_⟩
    dsimp only [Act.put]
    refine wp_y (v := .slice (some ⟨kg2, 0, none⟩) (32) (32)) rfl rfl (y_assign rfl (by kernel_rfl) (by kernel_rfl)) rfl ?_
    try simp only [List.setIfInBounds_toArray, List.set_cons_zero, List.set_cons_succ]
    refine wp_end ?_
    have hB1 : Below w.heap.size w w1 := HB00.out.trans (hB2.mono HB00.out.size)
    have hkkl : KK.length = 32 := by rw [hkd, sha_len]
    have hRK1 : Rd w1 kg2 0 KK := by rw [hkd]; exact hRK2
    have hkg1 := hkg2
    clear hB2 hRK2 hkg2
    obtain ⟨w2, hM1, hO1, hB2⟩ := make64 w1 (64 + l.length) (by omega) (by omega)
    obtain ⟨w3, hM2, hO2, hB3⟩ := make64 w2 96 (by decide) (by decide)
    obtain ⟨ib, hib⟩ : ∃ ib, ib = w1.heap.size := ⟨_, rfl⟩
    obtain ⟨ob, hob⟩ : ∃ ob, ob = w2.heap.size := ⟨_, rfl⟩
    have hio : ib < ob := by rw [hib, hob]; exact (owns_cap hO1).2.2.2
    have hob3 := (owns_cap hO2).2.2.2
    rw [← hib] at hM1 hO1 hB2 hkg1
    rw [← hob] at hM2 hO2 hB3 hob3
    have hO1' := owns_below hO1 hB3 (fun k hk => by cases hk; exact hio)
    have hB13 := hB2.trans (hB3.mono (Nat.le_of_lt hio))
    have hBB : w.heap.size ≤ ib := by rw [hib]; exact hB1.size
    have hgib : g < ib := by omega
    have HM1 := hidM hM1
    have HM2 := hidM hM2
    have HO1 : Hid (w3.ownsRow ib 5 1 (.slice (some ⟨ib, 0, none⟩) 64 (64 + l.length)) 64 (cells8 ((msk 54 KB).take 0 ++ (List.replicate 64 (0 : UInt8)).drop 0))) := hidM (by simpa using hO1')
    have HO2 : Hid (w3.ownsRow ob 5 1 (.slice (some ⟨ob, 0, none⟩) 64 96) 64 (cells8 ((msk 92 KB).take 0 ++ (List.replicate 64 (0 : UInt8)).drop 0))) := hidM (by simpa using hO2)
    have HB3 := hidM hB13
    have HB1 := hidM hB1
    have HRK1 := hidM hRK1
    have HKG1 := hidM hkg1
    have HR1 := hidM (HRG.out.below' hB1 hgl)
    have HKK := hidM hkkl
    have HS3 := hidM hob3
    clear hM1 hM2 hO1 hO2 hO1' hB2 hB3 hB13 hB1 hRK1 hkg1 hkkl hib hob hob3
    go_upto_region 4 with fail
    refine wp_region_lit ?_
    refine wp_y (v := .slice (some ⟨g, 0, none⟩) l.length c) rfl rfl (y_move rfl (by kernel_rfl) (by kernel_rfl)) rfl ?_
    refine wp_y (v := .int .i64 (l.length : Nat)) rfl rfl (y_lenB (p := some ⟨g, 0, none⟩) (c := c) rfl (by kernel_rfl) (by kernel_rfl)) rfl ?_
    refine wp_y (v := .int .i64 (64 + l.length : Nat)) rfl rfl (y_bin rfl (by kernel_rfl) (by kernel_rfl) (by kernel_rfl) (addK 64 l.length HLN.out)) rfl ?_
    refine wp_run (v := .slice (some ⟨ib, 0, none⟩) (64) (64 + l.length)) rfl rfl (run_mkOp rfl (by kernel_rfl) (by kernel_rfl) HM1.out) rfl ?_
    refine wp_y (v := .slice (some ⟨ib, 0, none⟩) (64) (64 + l.length)) rfl rfl (y_assign rfl (by kernel_rfl) (by kernel_rfl)) rfl ?_
    try simp only [List.setIfInBounds_toArray, List.set_cons_zero, List.set_cons_succ]
    refine wp_end ?_
    go_upto_region 5 with fail
    refine wp_region_lit ?_
    refine wp_run (v := .slice (some ⟨ob, 0, none⟩) (64) (96)) rfl rfl (run_mkOp rfl (by kernel_rfl) (by kernel_rfl) HM2.out) rfl ?_
    refine wp_y (v := .slice (some ⟨ob, 0, none⟩) (64) (96)) rfl rfl (y_assign rfl (by kernel_rfl) (by kernel_rfl)) rfl ?_
    try simp only [List.setIfInBounds_toArray, List.set_cons_zero, List.set_cons_succ]
    refine wp_end ?_
    go_wp2_with fail
    go_loopw [8, 9] (fun x _ wr => ∃ i : Nat, i ≤ 64 ∧ x = .int .i64 i ∧ wr.ownsRow ib 5 1 (.slice (some ⟨ib, 0, none⟩) 64 (64 + l.length)) 64 (cells8 ((msk 54 KB).take i ++ (List.replicate 64 (0 : UInt8)).drop i)) ∧ wr.ownsRow ob 5 1 (.slice (some ⟨ob, 0, none⟩) 64 96) 64 (cells8 ((msk 92 KB).take i ++ (List.replicate 64 (0 : UInt8)).drop i)) ∧ Below ib w1 wr) (fun x _ _ => 64 - (intOf x).toNat)
    case atStart => exact ⟨0, Nat.zero_le _, rfl, HO1.out, HO2.out, HB3.out⟩
    case round =>
      clear HM1 HM2 HO1 HO2 HB3 HS3
      obtain ⟨i, hi, rfl, hOI, hOO, hBr⟩ := hrel
      by_cases hlt : i < 64
      · have hlt' : (i : Int) < 64 := by omega
        have hwk : IntKind.i64.wrap ((i : Int) + 1) = ((i + 1 : Nat) : Int) := by rw [IntWalk.i64_in _ ⟨by omega, by omega⟩]; omega
        have HI := hidM hlt
        have hs1 := set_mid8 (List.replicate 64 (0 : UInt8)) (msk 54 KB) i (by rw [msk_len, HKB.out]; simp) (by rw [msk_len, HKB.out]; exact hlt)
        have hs2 := set_mid8 (List.replicate 64 (0 : UInt8)) (msk 92 KB) i (by rw [msk_len, HKB.out]; simp) (by rw [msk_len, HKB.out]; exact hlt)
        rw [msk_get 54 KB i (by rw [HKB.out]; exact hlt)] at hs1
        rw [msk_get 92 KB i (by rw [HKB.out]; exact hlt)] at hs2
        by_cases hik : i < KK.length
        · rw [HG1.out i hik] at hs1 hs2
          have hi1 := owns_set8 hOI i hlt (KK.getD i 0 ^^^ 54)
          rw [hs1] at hi1
          have hOO2 : (wr.setCell ⟨ib, i, none⟩ (.int .u8 ((KK.getD i 0 ^^^ 54).toNat : Nat))).ownsRow ob 5 1 (.slice (some ⟨ob, 0, none⟩) 64 96) 64 (cells8 ((msk 92 KB).take i ++ (List.replicate 64 (0 : UInt8)).drop i)) := ownsRow_setCell_below hOO (by show ib < ob; exact hio) _
          have ho2 := owns_set8 hOO2 i hlt (KK.getD i 0 ^^^ 92)
          rw [hs2] at ho2
          have hi2 : ((wr.setCell ⟨ib, i, none⟩ (.int .u8 ((KK.getD i 0 ^^^ 54).toNat : Nat))).setCell ⟨ob, i, none⟩ (.int .u8 ((KK.getD i 0 ^^^ 92).toNat : Nat))).ownsRow ib 5 1 (.slice (some ⟨ib, 0, none⟩) 64 (64 + l.length)) 64 (cells8 ((msk 54 KB).take (i + 1) ++ (List.replicate 64 (0 : UInt8)).drop (i + 1))) :=
            owns_below hi1 ((Below.refl ob _).setCell (p := ⟨ob, i, none⟩) (Nat.le_refl _) _) (fun k hk => by cases hk; exact hio)
          have hB2 : Below ib w1 ((wr.setCell ⟨ib, i, none⟩ (.int .u8 ((KK.getD i 0 ^^^ 54).toNat : Nat))).setCell ⟨ob, i, none⟩ (.int .u8 ((KK.getD i 0 ^^^ 92).toNat : Nat))) := (hBr.setCell (p := ⟨ib, i, none⟩) (Nat.le_refl _) _).setCell (p := ⟨ob, i, none⟩) (Nat.le_of_lt hio) _
          have hc := (HRK1.out.below' hBr HKG1.out) i hik
          rw [Nat.zero_add] at hc
          have HC : Hid (wr.cell? ⟨kg2, i, none⟩ = some (.int .u8 ((KK.getD i 0).toNat : Nat))) := hidM hc
          have HQ2 : Hid (i < 32) := hidM (by rw [← HKK.out]; exact hik)
          have HOI := hidM hOI
          have HOO2 := hidM hOO2
          have HI5 := hidM hi2
          have HO5 := hidM ho2
          have HB5 := hidM hB2
          clear hs1 hs2 hi1 hOO2 ho2 hi2 hB2 hc hOI hOO hBr
          go_upto_region 10 with fail
          refine wp_region_lit ?_
          refine wp_y (v := .int .i64 i) rfl rfl (y_move rfl (by kernel_rfl) (by kernel_rfl)) rfl ?_
          refine wp_y (v := .slice (some ⟨kg2, 0, none⟩) (32) (32)) rfl rfl (y_move rfl (by kernel_rfl) (by kernel_rfl)) rfl ?_
          refine wp_y (v := .int .i64 (32 : Nat)) rfl rfl (y_lenB (p := some ⟨kg2, 0, none⟩) (c := 32) rfl (by kernel_rfl) (by kernel_rfl)) rfl ?_
          refine wp_y (v := .bool true) rfl rfl (y_bin rfl (by kernel_rfl) (by kernel_rfl) (by kernel_rfl) (lsst HQ2.out)) rfl ?_
          try simp only [List.setIfInBounds_toArray, List.set_cons_zero, List.set_cons_succ]
          refine wp_end ?_
          go_upto_region 11 with fail
          refine wp_region_lit ?_
          refine wp_y (v := .slice (some ⟨kg2, 0, none⟩) (32) (32)) rfl rfl (y_move rfl (by kernel_rfl) (by kernel_rfl)) rfl ?_
          refine wp_y (v := .int .i64 i) rfl rfl (y_move rfl (by kernel_rfl) (by kernel_rfl)) rfl ?_
          refine wp_y (v := .pointer (some ⟨kg2, i, none⟩)) rfl rfl (y_index rfl (by kernel_rfl) (by kernel_rfl) (by kernel_rfl) (idx25 kg2 (32) (32) i HQ2.out)) rfl ?_
          refine wp_y (v := .int .u8 ((KK.getD i 0).toNat : Nat)) rfl rfl (y_load rfl (by kernel_rfl) (by kernel_rfl) (fun w' h => by subst h; exact load5 HC.out)) rfl ?_
          refine wp_y (v := .int .u8 ((KK.getD i 0).toNat : Nat)) rfl rfl (y_assign rfl (by kernel_rfl) (by kernel_rfl)) rfl ?_
          try simp only [List.setIfInBounds_toArray, List.set_cons_zero, List.set_cons_succ]
          refine wp_end ?_
          go_upto_region 12 with fail
          refine wp_region_lit ?_
          refine wp_y (v := .slice (some ⟨ib, 0, none⟩) (64) (64 + l.length)) rfl rfl (y_move rfl (by kernel_rfl) (by kernel_rfl)) rfl ?_
          refine wp_y (v := .int .i64 i) rfl rfl (y_move rfl (by kernel_rfl) (by kernel_rfl)) rfl ?_
          refine wp_y (v := .int .u8 ((KK.getD i 0).toNat : Nat)) rfl rfl (y_move rfl (by kernel_rfl) (by kernel_rfl)) rfl ?_
          refine wp_y (v := .int .u8 (((KK.getD i 0) ^^^ 54).toNat : Nat)) rfl rfl (y_bin rfl (by kernel_rfl) (by kernel_rfl) (by kernel_rfl) (xor5 _ 54)) rfl ?_
          refine wp_y (v := .pointer (some ⟨ib, i, none⟩)) rfl rfl (y_index rfl (by kernel_rfl) (by kernel_rfl) (by kernel_rfl) (idx25 ib 64 (64 + l.length) i HI.out)) rfl ?_
          refine wp_do rfl rfl (run_storeOp rfl (by kernel_rfl) (by kernel_rfl) (storeO HOI.out HI.out ((KK.getD i 0) ^^^ 54))) ?_
          try simp only [List.setIfInBounds_toArray, List.set_cons_zero, List.set_cons_succ]
          refine wp_end ?_
          go_upto_region 13 with fail
          refine wp_region_lit ?_
          refine wp_y (v := .slice (some ⟨ob, 0, none⟩) (64) (96)) rfl rfl (y_move rfl (by kernel_rfl) (by kernel_rfl)) rfl ?_
          refine wp_y (v := .int .i64 i) rfl rfl (y_move rfl (by kernel_rfl) (by kernel_rfl)) rfl ?_
          refine wp_y (v := .int .u8 ((KK.getD i 0).toNat : Nat)) rfl rfl (y_move rfl (by kernel_rfl) (by kernel_rfl)) rfl ?_
          refine wp_y (v := .int .u8 (((KK.getD i 0) ^^^ 92).toNat : Nat)) rfl rfl (y_bin rfl (by kernel_rfl) (by kernel_rfl) (by kernel_rfl) (xor5 _ 92)) rfl ?_
          refine wp_y (v := .pointer (some ⟨ob, i, none⟩)) rfl rfl (y_index rfl (by kernel_rfl) (by kernel_rfl) (by kernel_rfl) (idx25 ob 64 96 i HI.out)) rfl ?_
          refine wp_do rfl rfl (run_storeOp rfl (by kernel_rfl) (by kernel_rfl) (storeO HOO2.out HI.out ((KK.getD i 0) ^^^ 92))) ?_
          try simp only [List.setIfInBounds_toArray, List.set_cons_zero, List.set_cons_succ]
          refine wp_end ?_
          clear HOI HOO2 HC
          generalize (wr.setCell ⟨ib, i, none⟩ (.int .u8 ((KK.getD i 0 ^^^ 54).toNat : Nat))).setCell ⟨ob, i, none⟩ (.int .u8 ((KK.getD i 0 ^^^ 92).toNat : Nat)) = w4 at *
          go_wp2
          exact ⟨⟨i + 1, by omega, rfl, HI5.out, HO5.out, HB5.out⟩, by simp [intOf]; omega⟩
        · rw [HG2.out i hik] at hs1 hs2
          have hi1 := owns_set8 hOI i hlt (0 ^^^ 54)
          rw [hs1] at hi1
          have hOO2 : (wr.setCell ⟨ib, i, none⟩ (.int .u8 (((0 : UInt8) ^^^ 54).toNat : Nat))).ownsRow ob 5 1 (.slice (some ⟨ob, 0, none⟩) 64 96) 64 (cells8 ((msk 92 KB).take i ++ (List.replicate 64 (0 : UInt8)).drop i)) := ownsRow_setCell_below hOO (by show ib < ob; exact hio) _
          have ho2 := owns_set8 hOO2 i hlt (0 ^^^ 92)
          rw [hs2] at ho2
          have hi2 : ((wr.setCell ⟨ib, i, none⟩ (.int .u8 (((0 : UInt8) ^^^ 54).toNat : Nat))).setCell ⟨ob, i, none⟩ (.int .u8 (((0 : UInt8) ^^^ 92).toNat : Nat))).ownsRow ib 5 1 (.slice (some ⟨ib, 0, none⟩) 64 (64 + l.length)) 64 (cells8 ((msk 54 KB).take (i + 1) ++ (List.replicate 64 (0 : UInt8)).drop (i + 1))) :=
            owns_below hi1 ((Below.refl ob _).setCell (p := ⟨ob, i, none⟩) (Nat.le_refl _) _) (fun k hk => by cases hk; exact hio)
          have hB2 : Below ib w1 ((wr.setCell ⟨ib, i, none⟩ (.int .u8 (((0 : UInt8) ^^^ 54).toNat : Nat))).setCell ⟨ob, i, none⟩ (.int .u8 (((0 : UInt8) ^^^ 92).toNat : Nat))) := (hBr.setCell (p := ⟨ib, i, none⟩) (Nat.le_refl _) _).setCell (p := ⟨ob, i, none⟩) (Nat.le_of_lt hio) _
          have HQ2 : Hid (¬ i < 32) := hidM (by rw [← HKK.out]; exact hik)
          have HOI := hidM hOI
          have HOO2 := hidM hOO2
          have HI5 := hidM hi2
          have HO5 := hidM ho2
          have HB5 := hidM hB2
          clear hs1 hs2 hi1 hOO2 ho2 hi2 hB2 hOI hOO hBr
          go_upto_region 10 with fail
          refine wp_region_lit ?_
          refine wp_y (v := .int .i64 i) rfl rfl (y_move rfl (by kernel_rfl) (by kernel_rfl)) rfl ?_
          refine wp_y (v := .slice (some ⟨kg2, 0, none⟩) (32) (32)) rfl rfl (y_move rfl (by kernel_rfl) (by kernel_rfl)) rfl ?_
          refine wp_y (v := .int .i64 (32 : Nat)) rfl rfl (y_lenB (p := some ⟨kg2, 0, none⟩) (c := 32) rfl (by kernel_rfl) (by kernel_rfl)) rfl ?_
          refine wp_y (v := .bool false) rfl rfl (y_bin rfl (by kernel_rfl) (by kernel_rfl) (by kernel_rfl) (lssf HQ2.out)) rfl ?_
          try simp only [List.setIfInBounds_toArray, List.set_cons_zero, List.set_cons_succ]
          refine wp_end ?_
          go_upto_region 12 with fail
          refine wp_region_lit ?_
          refine wp_y (v := .slice (some ⟨ib, 0, none⟩) (64) (64 + l.length)) rfl rfl (y_move rfl (by kernel_rfl) (by kernel_rfl)) rfl ?_
          refine wp_y (v := .int .i64 i) rfl rfl (y_move rfl (by kernel_rfl) (by kernel_rfl)) rfl ?_
          refine wp_y (v := .int .u8 ((0 : UInt8).toNat : Nat)) rfl rfl (y_move rfl (by kernel_rfl) (by kernel_rfl)) rfl ?_
          refine wp_y (v := .int .u8 (((0 : UInt8) ^^^ 54).toNat : Nat)) rfl rfl (y_bin rfl (by kernel_rfl) (by kernel_rfl) (by kernel_rfl) (xor5 _ 54)) rfl ?_
          refine wp_y (v := .pointer (some ⟨ib, i, none⟩)) rfl rfl (y_index rfl (by kernel_rfl) (by kernel_rfl) (by kernel_rfl) (idx25 ib 64 (64 + l.length) i HI.out)) rfl ?_
          refine wp_do rfl rfl (run_storeOp rfl (by kernel_rfl) (by kernel_rfl) (storeO HOI.out HI.out ((0 : UInt8) ^^^ 54))) ?_
          try simp only [List.setIfInBounds_toArray, List.set_cons_zero, List.set_cons_succ]
          refine wp_end ?_
          go_upto_region 13 with fail
          refine wp_region_lit ?_
          refine wp_y (v := .slice (some ⟨ob, 0, none⟩) (64) (96)) rfl rfl (y_move rfl (by kernel_rfl) (by kernel_rfl)) rfl ?_
          refine wp_y (v := .int .i64 i) rfl rfl (y_move rfl (by kernel_rfl) (by kernel_rfl)) rfl ?_
          refine wp_y (v := .int .u8 ((0 : UInt8).toNat : Nat)) rfl rfl (y_move rfl (by kernel_rfl) (by kernel_rfl)) rfl ?_
          refine wp_y (v := .int .u8 (((0 : UInt8) ^^^ 92).toNat : Nat)) rfl rfl (y_bin rfl (by kernel_rfl) (by kernel_rfl) (by kernel_rfl) (xor5 _ 92)) rfl ?_
          refine wp_y (v := .pointer (some ⟨ob, i, none⟩)) rfl rfl (y_index rfl (by kernel_rfl) (by kernel_rfl) (by kernel_rfl) (idx25 ob 64 96 i HI.out)) rfl ?_
          refine wp_do rfl rfl (run_storeOp rfl (by kernel_rfl) (by kernel_rfl) (storeO HOO2.out HI.out ((0 : UInt8) ^^^ 92))) ?_
          try simp only [List.setIfInBounds_toArray, List.set_cons_zero, List.set_cons_succ]
          refine wp_end ?_
          clear HOI HOO2
          generalize (wr.setCell ⟨ib, i, none⟩ (.int .u8 (((0 : UInt8) ^^^ 54).toNat : Nat))).setCell ⟨ob, i, none⟩ (.int .u8 (((0 : UInt8) ^^^ 92).toNat : Nat)) = w4 at *
          go_wp2
          exact ⟨⟨i + 1, by omega, rfl, HI5.out, HO5.out, HB5.out⟩, by simp [intOf]; omega⟩
      · have hi64 : i = 64 := by omega
        subst hi64
        rw [List.take_of_length_le (by rw [msk_len, HKB.out]; exact Nat.le_refl _), List.drop_of_length_le (by simp), List.append_nil] at hOI hOO
        have hibr := (owns_cap hOI).2.2.2
        obtain ⟨w5, hAP, hO5, hB5, hsm⟩ := app_fromG (c := c) (msk 54 KB) l hOI (HR1.out.below' hBr hgib) (Nat.le_refl _) (Nat.le_of_lt hibr) 25
        have hOO5 : w5.ownsRow ob 5 1 (.slice (some ⟨ob, 0, none⟩) 64 96) 64 (cells8 (msk 92 KB)) := owns_same hOO (hsm ob (owns_cap hOO).2.2.2 (Nat.ne_of_gt hio))
        have hml : (msk 54 KB ++ l).length = 64 + l.length := by rw [List.length_append, msk_len, HKB.out]
        have hsum1 := refSum_any (msk 54 KB ++ l) ib (64 + l.length) (by rw [hml]; omega) w5 (owns_rd hO5) (owns_cap hO5).2.2.2
        rw [hml] at hsum1
        have hml2 : (msk 92 KB ++ sha (msk 54 KB ++ l)).length = 64 + 32 := by rw [List.length_append, msk_len, HKB.out, sha_len]
        have hsum2 := fun w hr hb => refSum_any (msk 92 KB ++ sha (msk 54 KB ++ l)) ob 96 (by rw [hml2]; decide) w hr hb
        rw [hml2] at hsum2
        have HSUM1 := hidM hsum1
        have HSUM2 := hidM hsum2
        have HAP := hidM hAP
        have HO5 := hidM hOO5
        have HOB5 := hidM (owns_cap hOO5).2.2.2
        have HB05 : Hid (ob ≤ w5.heap.size) := hidM (Nat.le_of_lt (owns_cap hOO5).2.2.2)
        have HB5 := hidM (HB1.out.trans ((hBr.trans hB5).mono hBB))
        clear hsm hAP hO5 hOO5 hB5 hsum1 hsum2 hOI hOO hBr hibr
        go_upto_region 14 with fail
        refine wp_region_lit ?_
        refine wp_y (v := .slice (some ⟨ib, 0, none⟩) (64) (64 + l.length)) rfl rfl (y_move rfl (by kernel_rfl) (by kernel_rfl)) rfl ?_
        refine wp_y (v := .slice (some ⟨g, 0, none⟩) l.length c) rfl rfl (y_move rfl (by kernel_rfl) (by kernel_rfl)) rfl ?_
        refine wp_run (v := .slice (some ⟨ib, 0, none⟩) (64 + l.length) (64 + l.length)) rfl rfl (run_appOp rfl (by kernel_rfl) (by kernel_rfl) HAP.out) rfl ?_
        refine wp_y (v := .slice (some ⟨ib, 0, none⟩) (64 + l.length) (64 + l.length)) rfl rfl (y_assign rfl (by kernel_rfl) (by kernel_rfl)) rfl ?_
        try simp only [List.setIfInBounds_toArray, List.set_cons_zero, List.set_cons_succ]
        refine wp_end ?_
        go_upto_region 15 with fail
        refine wp_region_lit ?_
        refine wp_y (v := .slice (some ⟨ob, 0, none⟩) (64) (96)) rfl rfl (y_move rfl (by kernel_rfl) (by kernel_rfl)) rfl ?_
        refine wp_y (v := .slice (some ⟨ib, 0, none⟩) (64 + l.length) (64 + l.length)) rfl rfl (y_move rfl (by kernel_rfl) (by kernel_rfl)) rfl ?_
        refine wp_call (f := 11) (args := #[.slice (some ⟨ib, 0, none⟩) (64 + l.length) (64 + l.length)]) (by kernel_rfl) (fun w => by go_simp) ?_
        refine HSUM1.out.mono ?_
        rintro e w6 ⟨p1, rfl, hR6, hp1, hB6⟩
        obtain ⟨w7, hAP7, hO7, hB7⟩ := app_from (c := 32) (msk 92 KB) _ (owns_below HO5.out hB6 (fun k hk => by cases hk; exact HOB5.out)) hR6 (by rw [sha_len]; decide) (Nat.le_trans HB05.out hB6.size) 25
        rw [sha_len] at hAP7 hO7
        have hsum2 := HSUM2.out w7 (owns_rd hO7) (owns_cap hO7).2.2.2
        refine ⟨_, rfl, ?_⟩
        dsimp only [Act.put]
        refine wp_run (v := .slice (some ⟨ob, 0, none⟩) (64 + 32) (96)) rfl rfl (run_appOp rfl (by kernel_rfl) (by kernel_rfl) hAP7) rfl ?_
        refine wp_call (f := 11) (args := #[.slice (some ⟨ob, 0, none⟩) (64 + 32) (96)]) (by kernel_rfl) (fun w => by go_simp) ?_
        refine hsum2.mono ?_
        rintro e w8 ⟨p2, rfl, hR8, hp2, hB8⟩
        refine ⟨_, rfl, ?_⟩
        dsimp only [Act.put]
        refine wp_y (v := .slice (some ⟨p2, 0, none⟩) (32) (32)) rfl rfl (y_assign rfl (by kernel_rfl) (by kernel_rfl)) rfl ?_
        try simp only [List.setIfInBounds_toArray, List.set_cons_zero, List.set_cons_succ]
        refine wp_end ?_
        go_wp2
        go_ret
        refine ⟨p2, rfl, by rw [HTG.out]; exact hR8, hp2, ?_⟩
        have hb6 := HB5.out.trans (hB6.mono HB5.out.size)
        have hb7 := hb6.trans (hB7.mono (by omega))
        exact hb7.trans (hB8.mono hb7.size)

  · rw [if_neg hQ] at hkd
    have HQ := hidM hQ
    go_upto_region 2 with fail
    refine wp_region_lit ?_
    refine wp_y (v := .slice (some ⟨kg, 0, none⟩) (key.length) (kc)) rfl rfl (y_move rfl (by kernel_rfl) (by kernel_rfl)) rfl ?_
    refine wp_y (v := .int .i64 (key.length : Nat)) rfl rfl (y_lenB (p := some ⟨kg, 0, none⟩) (c := kc) rfl (by kernel_rfl) (by kernel_rfl)) rfl ?_
    refine wp_y (v := .bool false) rfl rfl (y_bin rfl (by kernel_rfl) (by kernel_rfl) (by kernel_rfl) (gtr64f HQ.out)) rfl ?_
    try simp only [List.setIfInBounds_toArray, List.set_cons_zero, List.set_cons_succ]
    refine wp_end ?_
    have hB1 : Below w.heap.size w w0 := HB00.out
    have hkkl : KK.length = key.length := by rw [hkd]
    have hRK1 : Rd w0 kg 0 KK := by rw [hkd]; exact HRK.out
    have hkg1 := HKG.out
    generalize w0 = w1 at *
    obtain ⟨w2, hM1, hO1, hB2⟩ := make64 w1 (64 + l.length) (by omega) (by omega)
    obtain ⟨w3, hM2, hO2, hB3⟩ := make64 w2 96 (by decide) (by decide)
    obtain ⟨ib, hib⟩ : ∃ ib, ib = w1.heap.size := ⟨_, rfl⟩
    obtain ⟨ob, hob⟩ : ∃ ob, ob = w2.heap.size := ⟨_, rfl⟩
    have hio : ib < ob := by rw [hib, hob]; exact (owns_cap hO1).2.2.2
    have hob3 := (owns_cap hO2).2.2.2
    rw [← hib] at hM1 hO1 hB2 hkg1
    rw [← hob] at hM2 hO2 hB3 hob3
    have hO1' := owns_below hO1 hB3 (fun k hk => by cases hk; exact hio)
    have hB13 := hB2.trans (hB3.mono (Nat.le_of_lt hio))
    have hBB : w.heap.size ≤ ib := by rw [hib]; exact hB1.size
    have hgib : g < ib := by omega
    have HM1 := hidM hM1
    have HM2 := hidM hM2
    have HO1 : Hid (w3.ownsRow ib 5 1 (.slice (some ⟨ib, 0, none⟩) 64 (64 + l.length)) 64 (cells8 ((msk 54 KB).take 0 ++ (List.replicate 64 (0 : UInt8)).drop 0))) := hidM (by simpa using hO1')
    have HO2 : Hid (w3.ownsRow ob 5 1 (.slice (some ⟨ob, 0, none⟩) 64 96) 64 (cells8 ((msk 92 KB).take 0 ++ (List.replicate 64 (0 : UInt8)).drop 0))) := hidM (by simpa using hO2)
    have HB3 := hidM hB13
    have HB1 := hidM hB1
    have HRK1 := hidM hRK1
    have HKG1 := hidM hkg1
    have HR1 := hidM (HRG.out.below' hB1 hgl)
    have HKK := hidM hkkl
    have HS3 := hidM hob3
    clear hM1 hM2 hO1 hO2 hO1' hB2 hB3 hB13 hB1 hRK1 hkg1 hkkl hib hob hob3
    go_upto_region 4 with fail
    refine wp_region_lit ?_
    refine wp_y (v := .slice (some ⟨g, 0, none⟩) l.length c) rfl rfl (y_move rfl (by kernel_rfl) (by kernel_rfl)) rfl ?_
    refine wp_y (v := .int .i64 (l.length : Nat)) rfl rfl (y_lenB (p := some ⟨g, 0, none⟩) (c := c) rfl (by kernel_rfl) (by kernel_rfl)) rfl ?_
    refine wp_y (v := .int .i64 (64 + l.length : Nat)) rfl rfl (y_bin rfl (by kernel_rfl) (by kernel_rfl) (by kernel_rfl) (addK 64 l.length HLN.out)) rfl ?_
    refine wp_run (v := .slice (some ⟨ib, 0, none⟩) (64) (64 + l.length)) rfl rfl (run_mkOp rfl (by kernel_rfl) (by kernel_rfl) HM1.out) rfl ?_
    refine wp_y (v := .slice (some ⟨ib, 0, none⟩) (64) (64 + l.length)) rfl rfl (y_assign rfl (by kernel_rfl) (by kernel_rfl)) rfl ?_
    try simp only [List.setIfInBounds_toArray, List.set_cons_zero, List.set_cons_succ]
    refine wp_end ?_
    go_upto_region 5 with fail
    refine wp_region_lit ?_
    refine wp_run (v := .slice (some ⟨ob, 0, none⟩) (64) (96)) rfl rfl (run_mkOp rfl (by kernel_rfl) (by kernel_rfl) HM2.out) rfl ?_
    refine wp_y (v := .slice (some ⟨ob, 0, none⟩) (64) (96)) rfl rfl (y_assign rfl (by kernel_rfl) (by kernel_rfl)) rfl ?_
    try simp only [List.setIfInBounds_toArray, List.set_cons_zero, List.set_cons_succ]
    refine wp_end ?_
    go_wp2_with fail
    go_loopw [8, 9] (fun x _ wr => ∃ i : Nat, i ≤ 64 ∧ x = .int .i64 i ∧ wr.ownsRow ib 5 1 (.slice (some ⟨ib, 0, none⟩) 64 (64 + l.length)) 64 (cells8 ((msk 54 KB).take i ++ (List.replicate 64 (0 : UInt8)).drop i)) ∧ wr.ownsRow ob 5 1 (.slice (some ⟨ob, 0, none⟩) 64 96) 64 (cells8 ((msk 92 KB).take i ++ (List.replicate 64 (0 : UInt8)).drop i)) ∧ Below ib w1 wr) (fun x _ _ => 64 - (intOf x).toNat)
    case atStart => exact ⟨0, Nat.zero_le _, rfl, HO1.out, HO2.out, HB3.out⟩
    case round =>
      clear HM1 HM2 HO1 HO2 HB3 HS3
      obtain ⟨i, hi, rfl, hOI, hOO, hBr⟩ := hrel
      by_cases hlt : i < 64
      · have hlt' : (i : Int) < 64 := by omega
        have hwk : IntKind.i64.wrap ((i : Int) + 1) = ((i + 1 : Nat) : Int) := by rw [IntWalk.i64_in _ ⟨by omega, by omega⟩]; omega
        have HI := hidM hlt
        have hs1 := set_mid8 (List.replicate 64 (0 : UInt8)) (msk 54 KB) i (by rw [msk_len, HKB.out]; simp) (by rw [msk_len, HKB.out]; exact hlt)
        have hs2 := set_mid8 (List.replicate 64 (0 : UInt8)) (msk 92 KB) i (by rw [msk_len, HKB.out]; simp) (by rw [msk_len, HKB.out]; exact hlt)
        rw [msk_get 54 KB i (by rw [HKB.out]; exact hlt)] at hs1
        rw [msk_get 92 KB i (by rw [HKB.out]; exact hlt)] at hs2
        by_cases hik : i < KK.length
        · rw [HG1.out i hik] at hs1 hs2
          have hi1 := owns_set8 hOI i hlt (KK.getD i 0 ^^^ 54)
          rw [hs1] at hi1
          have hOO2 : (wr.setCell ⟨ib, i, none⟩ (.int .u8 ((KK.getD i 0 ^^^ 54).toNat : Nat))).ownsRow ob 5 1 (.slice (some ⟨ob, 0, none⟩) 64 96) 64 (cells8 ((msk 92 KB).take i ++ (List.replicate 64 (0 : UInt8)).drop i)) := ownsRow_setCell_below hOO (by show ib < ob; exact hio) _
          have ho2 := owns_set8 hOO2 i hlt (KK.getD i 0 ^^^ 92)
          rw [hs2] at ho2
          have hi2 : ((wr.setCell ⟨ib, i, none⟩ (.int .u8 ((KK.getD i 0 ^^^ 54).toNat : Nat))).setCell ⟨ob, i, none⟩ (.int .u8 ((KK.getD i 0 ^^^ 92).toNat : Nat))).ownsRow ib 5 1 (.slice (some ⟨ib, 0, none⟩) 64 (64 + l.length)) 64 (cells8 ((msk 54 KB).take (i + 1) ++ (List.replicate 64 (0 : UInt8)).drop (i + 1))) :=
            owns_below hi1 ((Below.refl ob _).setCell (p := ⟨ob, i, none⟩) (Nat.le_refl _) _) (fun k hk => by cases hk; exact hio)
          have hB2 : Below ib w1 ((wr.setCell ⟨ib, i, none⟩ (.int .u8 ((KK.getD i 0 ^^^ 54).toNat : Nat))).setCell ⟨ob, i, none⟩ (.int .u8 ((KK.getD i 0 ^^^ 92).toNat : Nat))) := (hBr.setCell (p := ⟨ib, i, none⟩) (Nat.le_refl _) _).setCell (p := ⟨ob, i, none⟩) (Nat.le_of_lt hio) _
          have hc := (HRK1.out.below' hBr HKG1.out) i hik
          rw [Nat.zero_add] at hc
          have HC : Hid (wr.cell? ⟨kg, i, none⟩ = some (.int .u8 ((KK.getD i 0).toNat : Nat))) := hidM hc
          have HQ2 : Hid (i < key.length) := hidM (by rw [← HKK.out]; exact hik)
          have HOI := hidM hOI
          have HOO2 := hidM hOO2
          have HI5 := hidM hi2
          have HO5 := hidM ho2
          have HB5 := hidM hB2
          clear hs1 hs2 hi1 hOO2 ho2 hi2 hB2 hc hOI hOO hBr
          go_upto_region 10 with fail
          refine wp_region_lit ?_
          refine wp_y (v := .int .i64 i) rfl rfl (y_move rfl (by kernel_rfl) (by kernel_rfl)) rfl ?_
          refine wp_y (v := .slice (some ⟨kg, 0, none⟩) (key.length) (kc)) rfl rfl (y_move rfl (by kernel_rfl) (by kernel_rfl)) rfl ?_
          refine wp_y (v := .int .i64 (key.length : Nat)) rfl rfl (y_lenB (p := some ⟨kg, 0, none⟩) (c := kc) rfl (by kernel_rfl) (by kernel_rfl)) rfl ?_
          refine wp_y (v := .bool true) rfl rfl (y_bin rfl (by kernel_rfl) (by kernel_rfl) (by kernel_rfl) (lsst HQ2.out)) rfl ?_
          try simp only [List.setIfInBounds_toArray, List.set_cons_zero, List.set_cons_succ]
          refine wp_end ?_
          go_upto_region 11 with fail
          refine wp_region_lit ?_
          refine wp_y (v := .slice (some ⟨kg, 0, none⟩) (key.length) (kc)) rfl rfl (y_move rfl (by kernel_rfl) (by kernel_rfl)) rfl ?_
          refine wp_y (v := .int .i64 i) rfl rfl (y_move rfl (by kernel_rfl) (by kernel_rfl)) rfl ?_
          refine wp_y (v := .pointer (some ⟨kg, i, none⟩)) rfl rfl (y_index rfl (by kernel_rfl) (by kernel_rfl) (by kernel_rfl) (idx25 kg (key.length) (kc) i HQ2.out)) rfl ?_
          refine wp_y (v := .int .u8 ((KK.getD i 0).toNat : Nat)) rfl rfl (y_load rfl (by kernel_rfl) (by kernel_rfl) (fun w' h => by subst h; exact load5 HC.out)) rfl ?_
          refine wp_y (v := .int .u8 ((KK.getD i 0).toNat : Nat)) rfl rfl (y_assign rfl (by kernel_rfl) (by kernel_rfl)) rfl ?_
          try simp only [List.setIfInBounds_toArray, List.set_cons_zero, List.set_cons_succ]
          refine wp_end ?_
          go_upto_region 12 with fail
          refine wp_region_lit ?_
          refine wp_y (v := .slice (some ⟨ib, 0, none⟩) (64) (64 + l.length)) rfl rfl (y_move rfl (by kernel_rfl) (by kernel_rfl)) rfl ?_
          refine wp_y (v := .int .i64 i) rfl rfl (y_move rfl (by kernel_rfl) (by kernel_rfl)) rfl ?_
          refine wp_y (v := .int .u8 ((KK.getD i 0).toNat : Nat)) rfl rfl (y_move rfl (by kernel_rfl) (by kernel_rfl)) rfl ?_
          refine wp_y (v := .int .u8 (((KK.getD i 0) ^^^ 54).toNat : Nat)) rfl rfl (y_bin rfl (by kernel_rfl) (by kernel_rfl) (by kernel_rfl) (xor5 _ 54)) rfl ?_
          refine wp_y (v := .pointer (some ⟨ib, i, none⟩)) rfl rfl (y_index rfl (by kernel_rfl) (by kernel_rfl) (by kernel_rfl) (idx25 ib 64 (64 + l.length) i HI.out)) rfl ?_
          refine wp_do rfl rfl (run_storeOp rfl (by kernel_rfl) (by kernel_rfl) (storeO HOI.out HI.out ((KK.getD i 0) ^^^ 54))) ?_
          try simp only [List.setIfInBounds_toArray, List.set_cons_zero, List.set_cons_succ]
          refine wp_end ?_
          go_upto_region 13 with fail
          refine wp_region_lit ?_
          refine wp_y (v := .slice (some ⟨ob, 0, none⟩) (64) (96)) rfl rfl (y_move rfl (by kernel_rfl) (by kernel_rfl)) rfl ?_
          refine wp_y (v := .int .i64 i) rfl rfl (y_move rfl (by kernel_rfl) (by kernel_rfl)) rfl ?_
          refine wp_y (v := .int .u8 ((KK.getD i 0).toNat : Nat)) rfl rfl (y_move rfl (by kernel_rfl) (by kernel_rfl)) rfl ?_
          refine wp_y (v := .int .u8 (((KK.getD i 0) ^^^ 92).toNat : Nat)) rfl rfl (y_bin rfl (by kernel_rfl) (by kernel_rfl) (by kernel_rfl) (xor5 _ 92)) rfl ?_
          refine wp_y (v := .pointer (some ⟨ob, i, none⟩)) rfl rfl (y_index rfl (by kernel_rfl) (by kernel_rfl) (by kernel_rfl) (idx25 ob 64 96 i HI.out)) rfl ?_
          refine wp_do rfl rfl (run_storeOp rfl (by kernel_rfl) (by kernel_rfl) (storeO HOO2.out HI.out ((KK.getD i 0) ^^^ 92))) ?_
          try simp only [List.setIfInBounds_toArray, List.set_cons_zero, List.set_cons_succ]
          refine wp_end ?_
          clear HOI HOO2 HC
          generalize (wr.setCell ⟨ib, i, none⟩ (.int .u8 ((KK.getD i 0 ^^^ 54).toNat : Nat))).setCell ⟨ob, i, none⟩ (.int .u8 ((KK.getD i 0 ^^^ 92).toNat : Nat)) = w4 at *
          go_wp2
          exact ⟨⟨i + 1, by omega, rfl, HI5.out, HO5.out, HB5.out⟩, by simp [intOf]; omega⟩
        · rw [HG2.out i hik] at hs1 hs2
          have hi1 := owns_set8 hOI i hlt (0 ^^^ 54)
          rw [hs1] at hi1
          have hOO2 : (wr.setCell ⟨ib, i, none⟩ (.int .u8 (((0 : UInt8) ^^^ 54).toNat : Nat))).ownsRow ob 5 1 (.slice (some ⟨ob, 0, none⟩) 64 96) 64 (cells8 ((msk 92 KB).take i ++ (List.replicate 64 (0 : UInt8)).drop i)) := ownsRow_setCell_below hOO (by show ib < ob; exact hio) _
          have ho2 := owns_set8 hOO2 i hlt (0 ^^^ 92)
          rw [hs2] at ho2
          have hi2 : ((wr.setCell ⟨ib, i, none⟩ (.int .u8 (((0 : UInt8) ^^^ 54).toNat : Nat))).setCell ⟨ob, i, none⟩ (.int .u8 (((0 : UInt8) ^^^ 92).toNat : Nat))).ownsRow ib 5 1 (.slice (some ⟨ib, 0, none⟩) 64 (64 + l.length)) 64 (cells8 ((msk 54 KB).take (i + 1) ++ (List.replicate 64 (0 : UInt8)).drop (i + 1))) :=
            owns_below hi1 ((Below.refl ob _).setCell (p := ⟨ob, i, none⟩) (Nat.le_refl _) _) (fun k hk => by cases hk; exact hio)
          have hB2 : Below ib w1 ((wr.setCell ⟨ib, i, none⟩ (.int .u8 (((0 : UInt8) ^^^ 54).toNat : Nat))).setCell ⟨ob, i, none⟩ (.int .u8 (((0 : UInt8) ^^^ 92).toNat : Nat))) := (hBr.setCell (p := ⟨ib, i, none⟩) (Nat.le_refl _) _).setCell (p := ⟨ob, i, none⟩) (Nat.le_of_lt hio) _
          have HQ2 : Hid (¬ i < key.length) := hidM (by rw [← HKK.out]; exact hik)
          have HOI := hidM hOI
          have HOO2 := hidM hOO2
          have HI5 := hidM hi2
          have HO5 := hidM ho2
          have HB5 := hidM hB2
          clear hs1 hs2 hi1 hOO2 ho2 hi2 hB2 hOI hOO hBr
          go_upto_region 10 with fail
          refine wp_region_lit ?_
          refine wp_y (v := .int .i64 i) rfl rfl (y_move rfl (by kernel_rfl) (by kernel_rfl)) rfl ?_
          refine wp_y (v := .slice (some ⟨kg, 0, none⟩) (key.length) (kc)) rfl rfl (y_move rfl (by kernel_rfl) (by kernel_rfl)) rfl ?_
          refine wp_y (v := .int .i64 (key.length : Nat)) rfl rfl (y_lenB (p := some ⟨kg, 0, none⟩) (c := kc) rfl (by kernel_rfl) (by kernel_rfl)) rfl ?_
          refine wp_y (v := .bool false) rfl rfl (y_bin rfl (by kernel_rfl) (by kernel_rfl) (by kernel_rfl) (lssf HQ2.out)) rfl ?_
          try simp only [List.setIfInBounds_toArray, List.set_cons_zero, List.set_cons_succ]
          refine wp_end ?_
          go_upto_region 12 with fail
          refine wp_region_lit ?_
          refine wp_y (v := .slice (some ⟨ib, 0, none⟩) (64) (64 + l.length)) rfl rfl (y_move rfl (by kernel_rfl) (by kernel_rfl)) rfl ?_
          refine wp_y (v := .int .i64 i) rfl rfl (y_move rfl (by kernel_rfl) (by kernel_rfl)) rfl ?_
          refine wp_y (v := .int .u8 ((0 : UInt8).toNat : Nat)) rfl rfl (y_move rfl (by kernel_rfl) (by kernel_rfl)) rfl ?_
          refine wp_y (v := .int .u8 (((0 : UInt8) ^^^ 54).toNat : Nat)) rfl rfl (y_bin rfl (by kernel_rfl) (by kernel_rfl) (by kernel_rfl) (xor5 _ 54)) rfl ?_
          refine wp_y (v := .pointer (some ⟨ib, i, none⟩)) rfl rfl (y_index rfl (by kernel_rfl) (by kernel_rfl) (by kernel_rfl) (idx25 ib 64 (64 + l.length) i HI.out)) rfl ?_
          refine wp_do rfl rfl (run_storeOp rfl (by kernel_rfl) (by kernel_rfl) (storeO HOI.out HI.out ((0 : UInt8) ^^^ 54))) ?_
          try simp only [List.setIfInBounds_toArray, List.set_cons_zero, List.set_cons_succ]
          refine wp_end ?_
          go_upto_region 13 with fail
          refine wp_region_lit ?_
          refine wp_y (v := .slice (some ⟨ob, 0, none⟩) (64) (96)) rfl rfl (y_move rfl (by kernel_rfl) (by kernel_rfl)) rfl ?_
          refine wp_y (v := .int .i64 i) rfl rfl (y_move rfl (by kernel_rfl) (by kernel_rfl)) rfl ?_
          refine wp_y (v := .int .u8 ((0 : UInt8).toNat : Nat)) rfl rfl (y_move rfl (by kernel_rfl) (by kernel_rfl)) rfl ?_
          refine wp_y (v := .int .u8 (((0 : UInt8) ^^^ 92).toNat : Nat)) rfl rfl (y_bin rfl (by kernel_rfl) (by kernel_rfl) (by kernel_rfl) (xor5 _ 92)) rfl ?_
          refine wp_y (v := .pointer (some ⟨ob, i, none⟩)) rfl rfl (y_index rfl (by kernel_rfl) (by kernel_rfl) (by kernel_rfl) (idx25 ob 64 96 i HI.out)) rfl ?_
          refine wp_do rfl rfl (run_storeOp rfl (by kernel_rfl) (by kernel_rfl) (storeO HOO2.out HI.out ((0 : UInt8) ^^^ 92))) ?_
          try simp only [List.setIfInBounds_toArray, List.set_cons_zero, List.set_cons_succ]
          refine wp_end ?_
          clear HOI HOO2
          generalize (wr.setCell ⟨ib, i, none⟩ (.int .u8 (((0 : UInt8) ^^^ 54).toNat : Nat))).setCell ⟨ob, i, none⟩ (.int .u8 (((0 : UInt8) ^^^ 92).toNat : Nat)) = w4 at *
          go_wp2
          exact ⟨⟨i + 1, by omega, rfl, HI5.out, HO5.out, HB5.out⟩, by simp [intOf]; omega⟩
      · have hi64 : i = 64 := by omega
        subst hi64
        rw [List.take_of_length_le (by rw [msk_len, HKB.out]; exact Nat.le_refl _), List.drop_of_length_le (by simp), List.append_nil] at hOI hOO
        have hibr := (owns_cap hOI).2.2.2
        obtain ⟨w5, hAP, hO5, hB5, hsm⟩ := app_fromG (c := c) (msk 54 KB) l hOI (HR1.out.below' hBr hgib) (Nat.le_refl _) (Nat.le_of_lt hibr) 25
        have hOO5 : w5.ownsRow ob 5 1 (.slice (some ⟨ob, 0, none⟩) 64 96) 64 (cells8 (msk 92 KB)) := owns_same hOO (hsm ob (owns_cap hOO).2.2.2 (Nat.ne_of_gt hio))
        have hml : (msk 54 KB ++ l).length = 64 + l.length := by rw [List.length_append, msk_len, HKB.out]
        have hsum1 := refSum_any (msk 54 KB ++ l) ib (64 + l.length) (by rw [hml]; omega) w5 (owns_rd hO5) (owns_cap hO5).2.2.2
        rw [hml] at hsum1
        have hml2 : (msk 92 KB ++ sha (msk 54 KB ++ l)).length = 64 + 32 := by rw [List.length_append, msk_len, HKB.out, sha_len]
        have hsum2 := fun w hr hb => refSum_any (msk 92 KB ++ sha (msk 54 KB ++ l)) ob 96 (by rw [hml2]; decide) w hr hb
        rw [hml2] at hsum2
        have HSUM1 := hidM hsum1
        have HSUM2 := hidM hsum2
        have HAP := hidM hAP
        have HO5 := hidM hOO5
        have HOB5 := hidM (owns_cap hOO5).2.2.2
        have HB05 : Hid (ob ≤ w5.heap.size) := hidM (Nat.le_of_lt (owns_cap hOO5).2.2.2)
        have HB5 := hidM (HB1.out.trans ((hBr.trans hB5).mono hBB))
        clear hsm hAP hO5 hOO5 hB5 hsum1 hsum2 hOI hOO hBr hibr
        go_upto_region 14 with fail
        refine wp_region_lit ?_
        refine wp_y (v := .slice (some ⟨ib, 0, none⟩) (64) (64 + l.length)) rfl rfl (y_move rfl (by kernel_rfl) (by kernel_rfl)) rfl ?_
        refine wp_y (v := .slice (some ⟨g, 0, none⟩) l.length c) rfl rfl (y_move rfl (by kernel_rfl) (by kernel_rfl)) rfl ?_
        refine wp_run (v := .slice (some ⟨ib, 0, none⟩) (64 + l.length) (64 + l.length)) rfl rfl (run_appOp rfl (by kernel_rfl) (by kernel_rfl) HAP.out) rfl ?_
        refine wp_y (v := .slice (some ⟨ib, 0, none⟩) (64 + l.length) (64 + l.length)) rfl rfl (y_assign rfl (by kernel_rfl) (by kernel_rfl)) rfl ?_
        try simp only [List.setIfInBounds_toArray, List.set_cons_zero, List.set_cons_succ]
        refine wp_end ?_
        go_upto_region 15 with fail
        refine wp_region_lit ?_
        refine wp_y (v := .slice (some ⟨ob, 0, none⟩) (64) (96)) rfl rfl (y_move rfl (by kernel_rfl) (by kernel_rfl)) rfl ?_
        refine wp_y (v := .slice (some ⟨ib, 0, none⟩) (64 + l.length) (64 + l.length)) rfl rfl (y_move rfl (by kernel_rfl) (by kernel_rfl)) rfl ?_
        refine wp_call (f := 11) (args := #[.slice (some ⟨ib, 0, none⟩) (64 + l.length) (64 + l.length)]) (by kernel_rfl) (fun w => by go_simp) ?_
        refine HSUM1.out.mono ?_
        rintro e w6 ⟨p1, rfl, hR6, hp1, hB6⟩
        obtain ⟨w7, hAP7, hO7, hB7⟩ := app_from (c := 32) (msk 92 KB) _ (owns_below HO5.out hB6 (fun k hk => by cases hk; exact HOB5.out)) hR6 (by rw [sha_len]; decide) (Nat.le_trans HB05.out hB6.size) 25
        rw [sha_len] at hAP7 hO7
        have hsum2 := HSUM2.out w7 (owns_rd hO7) (owns_cap hO7).2.2.2
        refine ⟨_, rfl, ?_⟩
        dsimp only [Act.put]
        refine wp_run (v := .slice (some ⟨ob, 0, none⟩) (64 + 32) (96)) rfl rfl (run_appOp rfl (by kernel_rfl) (by kernel_rfl) hAP7) rfl ?_
        refine wp_call (f := 11) (args := #[.slice (some ⟨ob, 0, none⟩) (64 + 32) (96)]) (by kernel_rfl) (fun w => by go_simp) ?_
        refine hsum2.mono ?_
        rintro e w8 ⟨p2, rfl, hR8, hp2, hB8⟩
        refine ⟨_, rfl, ?_⟩
        dsimp only [Act.put]
        refine wp_y (v := .slice (some ⟨p2, 0, none⟩) (32) (32)) rfl rfl (y_assign rfl (by kernel_rfl) (by kernel_rfl)) rfl ?_
        try simp only [List.setIfInBounds_toArray, List.set_cons_zero, List.set_cons_succ]
        refine wp_end ?_
        go_wp2
        go_ret
        refine ⟨p2, rfl, by rw [HTG.out]; exact hR8, hp2, ?_⟩
        have hb6 := HB5.out.trans (hB6.mono HB5.out.size)
        have hb7 := hb6.trans (hB7.mono (by omega))
        exact hb7.trans (hB8.mono hb7.size)

end Go.Proofs.YtcjhimakbopipaaDoor
