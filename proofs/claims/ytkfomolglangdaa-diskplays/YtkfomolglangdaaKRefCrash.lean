/- The document's Crash. -/
import Derived.Test.YtkfomolglangdaaKRefCrashM
namespace Go.Proofs.Ytkfomolglangdaa
open Go Go.RowKit

theorem run_idxOp {o : Oper} {a : Act} {w : World} {x y : Operand} {t : TypeId} {p k v : Value} (hop : o.op = .indexAddr t x y) (hx : a.eval x = p) (hy : a.eval y = k) (hr : (Instr.indexAt t p k).run Try.prog w = .ok v w) :
    (execOp a.eval o).run Try.prog w = .ok (.value v) w := by unfold execOp; rw [hop]; simp only [hx, hy, Sem.run_bind, hr, Result.andThen_ok]; rfl
set_option maxRecDepth 100000 in
set_option maxHeartbeats 3200000 in
theorem rcrash_ok {w : World} {B r : Nat} {vs vl : Value} {ops cut : Int} {off : Bool} {kept : List (List UInt8)} {L : List (Nat × List UInt8)} (h : Rc w r vs vl ops cut off) (hS : Sf w B vs kept) (hL : Ls w B vl L) (hk0 : kept.length ≠ 0) (hk1 : kept.length ≤ 16384)
    (hat : ∀ x ∈ L, x.1 < kept.length) (hLn : L.length ≤ 1048576) {a : Option Addr} {len cp : Nat} {zs : List Int} (hI : Ints w.heap.size w a len zs) (hlen : len ≤ 1152921504606846976) :
    Calls Try.prog 33 #[.pointer (some ⟨r, 0, none⟩), .slice a len cp] w fun e w' => ∃ q vx, e = .returned (.pointer (some ⟨q, 0, none⟩)) ∧ w.heap.size ≤ q ∧ Rc w' q vx (.slice none 0 0) 0 (-1) false ∧ Sf w' w.heap.size vx (rcr kept L zs L.length) ∧ Below w.heap.size w w' := by
  obtain ⟨ga, ca, rfl⟩ : ∃ ga ca, vs = .slice (some ⟨ga, 0, none⟩) kept.length ca := by obtain ⟨V, _, h2⟩ := hS; exact own_some h2 hk0
  obtain ⟨al, cl, rfl⟩ := hL.shape
  have HD := hid (And.intro h (And.intro hS (And.intro hL hI)))
  have HK := hid (And.intro hk1 (And.intro hat (And.intro hLn hlen)))
  clear h hS hL hI hk1 hat hLn hlen
  go_enter Try.func33, Try.ntmps33
  go_upto_region 3 with fail
  have hR0 : Rc (w.alloc (.cells #[.slice none 0 0, .slice none 0 0, .int .i64 0, .int .i64 (-1), .bool false] 62)) w.heap.size (.slice none 0 0) (.slice none 0 0) 0 (-1) false := heap_alloc_last _ _
  have hB0 : Below w.heap.size w (w.alloc (.cells #[.slice none 0 0, .slice none 0 0, .int .i64 0, .int .i64 (-1), .bool false] 62)) := (Below.refl _ _).alloc (Nat.le_refl _) _
  have HR0 := hid hR0
  have HB0 := hid hB0
  have hBle : w.heap.size ≤ w.heap.size := Nat.le_refl _
  clear hR0 hB0
  generalize w.alloc (.cells #[.slice none 0 0, .slice none 0 0, .int .i64 0, .int .i64 (-1), .bool false] 62) = w0 at *
  obtain ⟨q, hq⟩ : ∃ q, q = w.heap.size := ⟨_, rfl⟩
  rw [← hq] at HR0 ⊢
  have hqle : w.heap.size ≤ q := Nat.le_of_eq hq.symm
  clear hq hBle
  go_loopw [6] (fun x wr => ∃ (k : Nat) (vx : Value), k ≤ kept.length ∧ x = .int .i64 k ∧ Rc wr q vx (.slice none 0 0) 0 (-1) false ∧ Sf wr w.heap.size vx (kept.take k) ∧ Below w.heap.size w wr) (fun x _ => kept.length - (intOf x).toNat)
  case atStart => exact ⟨0, _, Nat.zero_le _, rfl, HR0.out, Sf.nil _ _, HB0.out⟩
  case round =>
    obtain ⟨k, vx, hk, rfl, hRr, hSr, hBr⟩ := hrel
    have hn' := HK.out.1
    have HWk := hid (incR (k := k) (by omega))
    have hDr := below_at hBr HD.out.1 (heap_lt HD.out.1)
    have hD : Rc wr r (.slice (some ⟨ga, 0, none⟩) kept.length ca) (.slice al L.length cl) ops cut off := hDr
    have h0 := hD.c0
    by_cases hlt : k < kept.length
    · have hlt' : decide ((k : Int) < (kept.length : Int)) = true := decide_eq_true (by omega)
      have hmes : kept.length - ((k + 1 : Nat) : Int).toNat < kept.length - (k : Int).toNat := by omega
      have hqs := heap_lt hRr
      have hnl : (kept.take k).length = k := by rw [List.length_take]; omega
      obtain ⟨l1, hl1⟩ : ∃ l1, kept[k]? = some l1 := ⟨_, List.getElem?_eq_getElem (by omega)⟩
      have hSd := HD.out.2.1.fr (Fr.of_below (X := []) hBr) (by simp) (by simp)
      obtain ⟨ga', ca', u1, e, hcu, hb1⟩ := hSd.get hl1
      cases e
      obtain ⟨gu, cu, rfl⟩ := hb1.shape
      obtain ⟨g1, c1, w1, hrun1, hown1, hB1⟩ := copy_in (w := wr.drew) (bc := cu) hb1.1 hb1.news 35
      have hB1' : Below wr.heap.size wr w1 := ⟨hB1.os, hB1.tape, hB1.output, hB1.size, hB1.block⟩
      have hR1 : Rc w1 q vx (.slice none 0 0) 0 (-1) false := below_at hB1' hRr hqs
      have hS1 := hSr.fr (Fr.of_below (X := []) hB1') (by simp) (by simp)
      have hqw : w.heap.size ≤ w1.heap.size := Nat.le_trans hBr.size hB1'.size
      obtain ⟨g3, c3, w3, hrun3, hS3, hF3, hty⟩ := more_sf hS1 ⟨hb1.1, own_low hown1⟩ (by rw [hnl]; omega) hqw 59
      rw [hnl] at hrun3 hS3
      have hrv : q ∉ vx.ownBlock.toList := fun hm => by
        obtain ⟨_, c, hc⟩ := hty q hm
        rw [Rc, hc] at hR1; cases hR1
      have hR3 := hR1.fr hF3 hrv
      have hF4 : Fr [q] w3 (w3.setCell ⟨q, 0, none⟩ (.slice (some ⟨g3, 0, none⟩) (k + 1) c3)) := Fr.setCell _ _ _ _
      have hR4 : Rc (w3.setCell ⟨q, 0, none⟩ (.slice (some ⟨g3, 0, none⟩) (k + 1) c3)) q (.slice (some ⟨g3, 0, none⟩) (k + 1) c3) (.slice none 0 0) 0 (-1) false := heap_setCell hR3 0 _
      have hS4 := hS3.fr hF4 (fun g c => hR3.ne (by decide)) (fun g c => hR3.ne (by decide))
      have hno : kept.take k ++ [l1] = kept.take (k + 1) := by rw [List.take_add_one, hl1]; rfl
      rw [hno] at hS4
      have b1 : Below w.heap.size w w1 := hBr.trans (hB1'.mono hBr.size)
      have b3' : Below w.heap.size w1 w3 := hF3.below hqw (fun k hk => (hty k hk).1)
      have b3 : Below w.heap.size w w3 := b1.trans b3'
      have hB4 : Below w.heap.size w (w3.setCell ⟨q, 0, none⟩ (.slice (some ⟨g3, 0, none⟩) (k + 1) c3)) :=
        b3.trans (hF4.below b3.size (fun k hk => (by simp at hk; omega)))
      have hcell : ∀ {w' : World}, Below w.heap.size w w' → w'.cell? ⟨r, 0, none⟩ = some (.slice (some ⟨ga, 0, none⟩) kept.length ca) ∧ w'.cell? ⟨ga, k, none⟩ = some (.slice (some ⟨gu, 0, none⟩) 128 cu) := fun hb => by
        refine ⟨cell_at (below_at hb HD.out.1 (heap_lt HD.out.1)) 0 rfl, ?_⟩
        obtain ⟨ga2, ca2, u2, e2, hcu2, hb2⟩ := HD.out.2.1.get hl1
        cases e2
        have e3 := hBr.cell (p := ⟨ga, k, none⟩) (World.block_lt_of_cell? w _ hcu2)
        rw [hcu, hcu2] at e3
        rw [hb.cell (p := ⟨ga, k, none⟩) (World.block_lt_of_cell? w _ hcu2), hcu2, ← e3]
      have HS0 := hid (show wr.drew.cell? ⟨q, 0, none⟩ = some vx ∧ wr.drew.cell? ⟨r, 0, none⟩ = some (.slice (some ⟨ga, 0, none⟩) kept.length ca) ∧ wr.drew.cell? ⟨ga, k, none⟩ = some (.slice (some ⟨gu, 0, none⟩) 128 cu) from ⟨hRr.c0, h0, hcu⟩)
      have HC1 := hid (And.intro hrun1 (And.intro hR1.c0 (hcell b1)))
      have hFa : Fr [] w1 (w1.alloc (.cells #[.slice (some ⟨g1, 0, none⟩) 128 c1] 35)) := Fr.alloc _ _
      have HC2 := hid (And.intro (hR1.fr hFa (by simp)).c0 (hcell (b1.trans (hFa.below hqw (by simp)))))
      have HC3 := hid (And.intro hrun3 (And.intro (And.intro hR3.c0 (hcell b3)) (hR3.f 0)))
      have HE := hid (And.intro hR4 (And.intro hS4 hB4))
      clear hRr hSr hBr hB1 hB1' hb1 hR1 hS1 hrun1 hown1 hrun3 hS3 hF3 hty hrv hR3 hF4 hR4 hS4 hno hB4 hn' hk HR0 HB0 b1 b3 b3' hcell hFa hDr hD hSd hcu hl1 hqw
      go_upto_region 5 with fail
      refine z_open (S := fun w' => w'.cell? ⟨q, 0, none⟩ = some vx ∧ w'.cell? ⟨r, 0, none⟩ = some (.slice (some ⟨ga, 0, none⟩) kept.length ca) ∧ w'.cell? ⟨ga, k, none⟩ = some (.slice (some ⟨gu, 0, none⟩) 128 cu)) 17 (by kernel_rfl) (by kernel_rfl) (fun _ _ _ _ _ h => h) (L := #[false, false, false, false, false, false, false, false, false, false, false, false, false, false, false, false, false, false]) (by kernel_rfl) ?_
      intro Q' hns hP hN
      have hS := HS0.out
      refine z_pure (i := 0) (v := .pointer (some ⟨q, 0, none⟩)) hns rfl rfl rfl (by kernel_rfl) (by kernel_rfl) hP (y_move rfl (by kernel_rfl) (by kernel_rfl)) (fun _ => hS) rfl (L' := #[true, false, false, false, false, false, false, false, false, false, false, false, false, false, false, false, false, false]) (by kernel_rfl) ?_
      refine z_pure (i := 1) (v := .pointer (some ⟨q, 0, none⟩)) hns rfl rfl rfl (by kernel_rfl) (by kernel_rfl) hP (y_move rfl (by kernel_rfl) (by kernel_rfl)) (fun _ => hS) rfl (L' := #[true, true, false, false, false, false, false, false, false, false, false, false, false, false, false, false, false, false]) (by kernel_rfl) ?_
      refine z_pure (i := 2) (v := .pointer (some ⟨q, 0, none⟩)) hns rfl rfl rfl (by kernel_rfl) (by kernel_rfl) hP (y_nil rfl (by kernel_rfl) (by kernel_rfl)) (fun _ => hS) rfl (L' := #[true, true, true, false, false, false, false, false, false, false, false, false, false, false, false, false, false, false]) (by kernel_rfl) ?_
      refine z_pure (i := 3) (v := .pointer (some ⟨q, 0, none⟩)) hns rfl rfl rfl (by kernel_rfl) (by kernel_rfl) hP (y_faddr rfl (by kernel_rfl) (by kernel_rfl) (fa62_0 (q))) (fun _ => hS) rfl (L' := #[true, true, true, true, false, false, false, false, false, false, false, false, false, false, false, false, false, false]) (by kernel_rfl) ?_
      refine z_read (i := 4) (v := vx) hns rfl (by kernel_rfl) rfl rfl (by kernel_rfl) (by kernel_rfl) hP (y_load rfl (by kernel_rfl) (by kernel_rfl) (fun w h => load1 Try.isAgg59 h.1)) rfl hS rfl (L' := #[true, true, true, true, true, false, false, false, false, false, false, false, false, false, false, false, false, false]) (by kernel_rfl) ?_
      refine z_pure (i := 5) (v := .pointer (some ⟨r, 0, none⟩)) hns rfl rfl rfl (by kernel_rfl) (by kernel_rfl) hP (y_move rfl (by kernel_rfl) (by kernel_rfl)) (fun _ => hS) rfl (L' := #[true, true, true, true, true, true, false, false, false, false, false, false, false, false, false, false, false, false]) (by kernel_rfl) ?_
      refine z_pure (i := 6) (v := .pointer (some ⟨r, 0, none⟩)) hns rfl rfl rfl (by kernel_rfl) (by kernel_rfl) hP (y_nil rfl (by kernel_rfl) (by kernel_rfl)) (fun _ => hS) rfl (L' := #[true, true, true, true, true, true, true, false, false, false, false, false, false, false, false, false, false, false]) (by kernel_rfl) ?_
      simp only [List.setIfInBounds_toArray, List.set_cons_zero, List.set_cons_succ]
      refine z_pure (i := 7) (v := .pointer (some ⟨r, 0, none⟩)) hns rfl rfl rfl (by kernel_rfl) (by kernel_rfl) hP (y_faddr rfl (by kernel_rfl) (by kernel_rfl) (fa62_0 (r))) (fun _ => hS) rfl (L' := #[true, true, true, true, true, true, true, true, false, false, false, false, false, false, false, false, false, false]) (by kernel_rfl) ?_
      refine z_read (i := 8) (v := .slice (some ⟨ga, 0, none⟩) kept.length ca) hns rfl (by kernel_rfl) rfl rfl (by kernel_rfl) (by kernel_rfl) hP (y_load rfl (by kernel_rfl) (by kernel_rfl) (fun w h => load1 Try.isAgg59 h.2.1)) rfl hS rfl (L' := #[true, true, true, true, true, true, true, true, true, false, false, false, false, false, false, false, false, false]) (by kernel_rfl) ?_
      refine z_pure (i := 9) (v := .int .i64 k) hns rfl rfl rfl (by kernel_rfl) (by kernel_rfl) hP (y_move rfl (by kernel_rfl) (by kernel_rfl)) (fun _ => hS) rfl (L' := #[true, true, true, true, true, true, true, true, true, true, false, false, false, false, false, false, false, false]) (by kernel_rfl) ?_
      refine z_pure (i := 10) (v := .pointer (some ⟨ga, k, none⟩)) hns rfl rfl rfl (by kernel_rfl) (by kernel_rfl) hP (y_index rfl (by kernel_rfl) (by kernel_rfl) (by kernel_rfl) (idx59 ga kept.length ca k hlt)) (fun _ => hS) rfl (L' := #[true, true, true, true, true, true, true, true, true, true, true, false, false, false, false, false, false, false]) (by kernel_rfl) ?_
      refine z_read (i := 11) (v := .slice (some ⟨gu, 0, none⟩) 128 cu) hns rfl (by kernel_rfl) rfl rfl (by kernel_rfl) (by kernel_rfl) hP (y_load rfl (by kernel_rfl) (by kernel_rfl) (fun w h => load1 Try.isAgg35 h.2.2)) rfl hS rfl (L' := #[true, true, true, true, true, true, true, true, true, true, true, true, false, false, false, false, false, false]) (by kernel_rfl) ?_
      refine z_val (i := 12) (v := .slice (some ⟨g1, 0, none⟩) 128 c1) (by kernel_rfl) rfl rfl (by kernel_rfl) (run_appOp rfl (by kernel_rfl) (by kernel_rfl) HC1.out.1) HC1.out.2 rfl (L' := #[true, true, true, true, true, true, true, true, true, true, true, true, true, false, false, false, false, false]) (by kernel_rfl) ?_
      refine z_val (i := 13) (v := .slice (some ⟨w1.heap.size, 0, none⟩) 1 1) (by kernel_rfl) rfl rfl (by kernel_rfl) (run_bsliceOp rfl (by kernel_rfl) (bslice59 w1 g1 128 c1)) HC2.out rfl (L' := #[true, true, true, true, true, true, true, true, true, true, true, true, true, true, false, false, false, false]) (by kernel_rfl) ?_
      refine z_val (i := 14) (v := .slice (some ⟨g3, 0, none⟩) (k + 1) c3) (by kernel_rfl) rfl rfl (by kernel_rfl) (run_appOp rfl (by kernel_rfl) (by kernel_rfl) HC3.out.1) HC3.out.2.1 rfl (L' := #[true, true, true, true, true, true, true, true, true, true, true, true, true, true, true, false, false, false]) (by kernel_rfl) ?_
      simp only [List.setIfInBounds_toArray, List.set_cons_zero, List.set_cons_succ]
      refine z_pure (i := 15) (v := .pointer (some ⟨q, 0, none⟩)) hns rfl rfl rfl (by kernel_rfl) (by kernel_rfl) hP (y_nil rfl (by kernel_rfl) (by kernel_rfl)) (fun _ => HC3.out.2.1) rfl (L' := #[true, true, true, true, true, true, true, true, true, true, true, true, true, true, true, true, false, false]) (by kernel_rfl) ?_
      refine z_pure (i := 16) (v := .pointer (some ⟨q, 0, none⟩)) hns rfl rfl rfl (by kernel_rfl) (by kernel_rfl) hP (y_faddr rfl (by kernel_rfl) (by kernel_rfl) (fa62_0 (q))) (fun _ => HC3.out.2.1) rfl (L' := #[true, true, true, true, true, true, true, true, true, true, true, true, true, true, true, true, true, false]) (by kernel_rfl) ?_
      refine z_last (by kernel_rfl) rfl rfl (by kernel_rfl) (run_storeOp rfl (by kernel_rfl) (by kernel_rfl) (store1 (t := 59) Try.sizeOf59 (.slice (some ⟨g3, 0, none⟩) (k + 1) c3) rfl rfl HC3.out.2.1.1 HC3.out.2.2)) rfl (L' := #[true, true, true, true, true, true, true, true, true, true, true, true, true, true, true, true, true, true]) (by kernel_rfl) ?_
      simp only [List.setIfInBounds_toArray, List.set_cons_zero, List.set_cons_succ]
      refine z_done (by kernel_rfl) ?_ _
      refine hN _ _ ?_
      clear hP hN hns
      clear HC1 HC2 HC3 hS HS0
      generalize w3.setCell ⟨q, 0, none⟩ (.slice (some ⟨g3, 0, none⟩) (k + 1) c3) = w4 at *
      go_upto_region 4 with fail
      refine wp_region_lit ?_
      refine wp_move (v := .int .i64 k) (by kernel_rfl) ?_
      refine wp_addi (z := ((k + 1 : Nat) : Int)) (by kernel_rfl) (by kernel_rfl) HWk.out ?_
      refine wp_assign (v := .int .i64 (k + 1 : Nat)) (by kernel_rfl) ?_
      dsimp only [Act.put]
      simp only [List.setIfInBounds_toArray, List.set_cons_zero, List.set_cons_succ]
      refine wp_end ?_
      go_wp2
      go_roundw
      case rel => exact ⟨k + 1, _, hlt, rfl, HE.out⟩
      case measure => exact hmes
    · have hlt' : decide ((k : Int) < (kept.length : Int)) = false := decide_eq_false (by omega)
      have hkn : kept.take k = kept := List.take_of_length_le (by omega)
      rw [hkn] at hSr
      have HX := hid (And.intro hRr (And.intro hSr hBr))
      clear hRr hSr hBr hkn hk HWk hn' hDr hD
      obtain ⟨gx, cx, rfl⟩ : ∃ gx cx, vx = .slice (some ⟨gx, 0, none⟩) kept.length cx := by obtain ⟨V, _, h2⟩ := HX.out.2.1; exact own_some h2 hk0
      go_upto_region 7 with fail
      clear h0 hlt hlt' HR0 HB0
      go_loopw [7, 8, 9] (fun x _ _ w2 => ∃ j : Nat, j ≤ L.length ∧ x = .int .i64 j ∧ Rc w2 q (.slice (some ⟨gx, 0, none⟩) kept.length cx) (.slice none 0 0) 0 (-1) false ∧ Sf w2 w.heap.size (.slice (some ⟨gx, 0, none⟩) kept.length cx) (rcr kept L zs j) ∧ Below w.heap.size w w2) (fun x _ _ _ => L.length - (intOf x).toNat)
      case atStart => exact ⟨0, Nat.zero_le _, rfl, HX.out.1, HX.out.2.1, HX.out.2.2⟩
      case round =>
        obtain ⟨j, hjl, rfl, hRr, hSr, hBr⟩ := hrel
        have hLn' := HK.out.2.2.1
        have HWj := hid (incR (k := j) (by omega))
        have hD : Rc wr r (.slice (some ⟨ga, 0, none⟩) kept.length ca) (.slice al L.length cl) ops cut off := below_at hBr HD.out.1 (heap_lt HD.out.1)
        have h1 := hD.c1
        have HX2 := hid (And.intro hRr (And.intro hSr hBr))
        clear hRr hSr hBr hD HX hLn'
        by_cases hj : j < L.length
        · have hj' : decide ((j : Int) < (L.length : Int)) = true := decide_eq_true (by omega)
          have hmes : L.length - ((j + 1 : Nat) : Int).toNat < L.length - (j : Int).toNat := by omega
          go_upto_region 11 with fail
          go_loopw [8, 9] (fun b x w2 => ∃ t : Nat, t ≤ len ∧ x = .int .i64 t ∧ b = .bool (decide ((j : Int) ∈ zs.take t)) ∧ w2 = wr) (fun _ x _ => len - (intOf x).toNat)
          case atStart => exact ⟨0, Nat.zero_le _, rfl, by simp, rfl⟩
          case round =>
            obtain ⟨t, htl, rfl, rfl, rfl⟩ := hrel
            have hln' := HK.out.2.2.2
            have HWt := hid (incR (k := t) (by omega))
            have hI := HD.out.2.2.2.below HX2.out.2.2
            have hzl := hI.1
            by_cases ht : t < len
            · have ht' : decide ((t : Int) < (len : Int)) = true := decide_eq_true (by omega)
              have ht2 : (t : Int) < (len : Int) := by omega
              have hmt : len - ((t + 1 : Nat) : Int).toNat < len - (t : Int).toNat := by omega
              obtain ⟨bz, oz, rfl, _, hcz⟩ := hI.2 (by omega)
              obtain ⟨z, hz⟩ : ∃ z, zs[t]? = some z := ⟨_, List.getElem?_eq_getElem (by omega)⟩
              have c9 := hcz t (by omega)
              rw [hz, Option.getD_some] at c9
              have htk : zs.take (t + 1) = zs.take t ++ [z] := by rw [List.take_add_one, hz]; rfl
              clear hcz hI hln' htl hzl
              by_cases hm : (j : Int) ∈ zs.take t
              · have e : decide ((j : Int) ∈ zs.take (t + 1)) = true := decide_eq_true (by rw [htk]; exact List.mem_append_left _ hm)
                rw [decide_eq_true hm]
                clear hz htk
                go_upto_region 12 with fail
                refine wp_region_lit ?_
                refine wp_move (v := .int .i64 t) (by kernel_rfl) ?_
                refine wp_addi (z := ((t + 1 : Nat) : Int)) (by kernel_rfl) (by kernel_rfl) HWt.out ?_
                refine wp_assign (v := .int .i64 (t + 1 : Nat)) (by kernel_rfl) ?_
                dsimp only [Act.put]
                simp only [List.setIfInBounds_toArray, List.set_cons_zero, List.set_cons_succ]
                refine wp_end ?_
                go_wp2
                go_roundw
                case rel => exact ⟨t + 1, ht, rfl, by rw [e], trivial⟩
                case measure => exact hmt
              · by_cases hzj : z = (j : Int)
                · have e : decide ((j : Int) ∈ zs.take (t + 1)) = true := decide_eq_true (by rw [htk, hzj]; simp)
                  rw [decide_eq_false hm]
                  clear hz htk
                  subst hzj
                  go_upto_region 12 with fail
                  refine wp_region_lit ?_
                  refine wp_move (v := .int .i64 t) (by kernel_rfl) ?_
                  refine wp_addi (z := ((t + 1 : Nat) : Int)) (by kernel_rfl) (by kernel_rfl) HWt.out ?_
                  refine wp_assign (v := .int .i64 (t + 1 : Nat)) (by kernel_rfl) ?_
                  dsimp only [Act.put]
                  simp only [List.setIfInBounds_toArray, List.set_cons_zero, List.set_cons_succ]
                  refine wp_end ?_
                  go_wp2
                  go_roundw
                  case rel => exact ⟨t + 1, ht, rfl, by rw [e], trivial⟩
                  case measure => exact hmt
                · have e : decide ((j : Int) ∈ zs.take (t + 1)) = false := decide_eq_false (by rw [htk]; simp only [List.mem_append, List.mem_singleton, not_or]; exact ⟨hm, fun h => hzj h.symm⟩)
                  have hzb : (z == (j : Int)) = false := by rw [beq_eq_false_iff_ne]; exact hzj
                  rw [decide_eq_false hm]
                  clear hz htk
                  go_upto_region 12 with fail
                  refine wp_region_lit ?_
                  refine wp_move (v := .int .i64 t) (by kernel_rfl) ?_
                  refine wp_addi (z := ((t + 1 : Nat) : Int)) (by kernel_rfl) (by kernel_rfl) HWt.out ?_
                  refine wp_assign (v := .int .i64 (t + 1 : Nat)) (by kernel_rfl) ?_
                  dsimp only [Act.put]
                  simp only [List.setIfInBounds_toArray, List.set_cons_zero, List.set_cons_succ]
                  refine wp_end ?_
                  go_wp2
                  go_roundw
                  case rel => exact ⟨t + 1, ht, rfl, by rw [e], trivial⟩
                  case measure => exact hmt
            · have ht' : decide ((t : Int) < (len : Int)) = false := decide_eq_false (by omega)
              have hzt : zs.take t = zs := List.take_of_length_le (by omega)
              rw [hzt]
              clear hzt hzl htl hln' hI HWt
              by_cases hm : (j : Int) ∈ zs
              · rw [decide_eq_true hm]
                obtain ⟨⟨i1, l1⟩, hx⟩ : ∃ x, L[j]? = some x := ⟨_, List.getElem?_eq_getElem hj⟩
                have hi1 : i1 < kept.length := HK.out.2.1 _ (List.mem_of_getElem? hx)
                obtain ⟨gl, u1, rfl, q0, q1, hbw⟩ := HD.out.2.2.1.get hx
                obtain ⟨gu, cu, rfl⟩ := hbw.shape
                obtain ⟨hRr, hSr, hBr⟩ := HX2.out
                have hb1 := hbw.fr (Fr.of_below (X := []) hBr) (by simp)
                obtain ⟨g1, c1, w1, hrun1, hown1, hB1⟩ := copy_in (w := wr.drew) (bc := cu) hb1.1 hb1.news 35
                have hB1' : Below wr.heap.size wr w1 := ⟨hB1.os, hB1.tape, hB1.output, hB1.size, hB1.block⟩
                have hR1 : Rc w1 q (.slice (some ⟨gx, 0, none⟩) kept.length cx) (.slice none 0 0) 0 (-1) false := below_at hB1' hRr (heap_lt hRr)
                have hS1 := hSr.fr (Fr.of_below (X := []) hB1') (by simp) (by simp)
                have b1 : Below w.heap.size w w1 := hBr.trans (hB1'.mono hBr.size)
                obtain ⟨hSn, hgx, ⟨cc, hcc⟩, ⟨vv, hvv⟩⟩ := hS1.put (rcr_len _ _ _ _) hi1 (show Bk w1 (.slice (some ⟨g1, 0, none⟩) 128 c1) l1 from ⟨hb1.1, own_low hown1⟩)
                have hF5 : Fr [gx] w1 (w1.setCell ⟨gx, i1, none⟩ (.slice (some ⟨g1, 0, none⟩) 128 c1)) := Fr.setCell _ _ _ _
                have hqg : q ∉ [gx] := fun h => by
                  obtain rfl : q = gx := by simpa using h
                  rw [Rc, hcc] at hR1; cases hR1
                have hR5 := hR1.fr hF5 hqg
                have b5 : Below w.heap.size w (w1.setCell ⟨gx, i1, none⟩ (.slice (some ⟨g1, 0, none⟩) 128 c1)) := b1.trans (hF5.below b1.size (fun k hk => (by simp at hk; omega)))
                have hcell : ∀ {w' : World}, Below w.heap.size w w' → w'.cell? ⟨r, 1, none⟩ = some (.slice (some ⟨gl, 0, none⟩) L.length cl) ∧ w'.cell? ⟨gl, j * 2, none⟩ = some (.int .i64 i1) ∧ w'.cell? ⟨gl, j * 2 + 1, none⟩ = some (.slice (some ⟨gu, 0, none⟩) 128 cu) := fun hb =>
                  ⟨cell_at (below_at hb HD.out.1 (heap_lt HD.out.1)) 1 rfl, (hb.cell (p := ⟨gl, j * 2, none⟩) (World.block_lt_of_cell? w _ q0)).trans q0, (hb.cell (p := ⟨gl, j * 2 + 1, none⟩) (World.block_lt_of_cell? w _ q1)).trans q1⟩
                rw [← rcr_in hx hm] at hSn
                have HC1 := hid (And.intro hrun1 (And.intro hR1.c0 (hcell b1)))
                have HC2 := hid (And.intro hvv (And.intro (open_at hcc i1) (And.intro hR5.c0 (hcell b5))))
                have HS0 := hid (show wr.drew.cell? ⟨q, 0, none⟩ = some (.slice (some ⟨gx, 0, none⟩) kept.length cx) ∧ wr.drew.cell? ⟨r, 1, none⟩ = some (.slice (some ⟨gl, 0, none⟩) L.length cl) ∧ wr.drew.cell? ⟨gl, j * 2, none⟩ = some (.int .i64 i1) ∧ wr.drew.cell? ⟨gl, j * 2 + 1, none⟩ = some (.slice (some ⟨gu, 0, none⟩) 128 cu) from ⟨hRr.c0, hcell (w' := wr) hBr⟩)
                have HE := hid (And.intro hR5 (And.intro hSn b5))
                clear hRr hSr hBr hb1 hrun1 hown1 hB1 hB1' hR1 hS1 b1 hSn hgx hcc hvv hF5 hqg hR5 b5 hcell hbw q0 q1 hx HX2
                go_upto_region 15 with fail
                refine h_openL (S := fun w' => w'.cell? ⟨q, 0, none⟩ = some (.slice (some ⟨gx, 0, none⟩) kept.length cx) ∧ w'.cell? ⟨r, 1, none⟩ = some (.slice (some ⟨gl, 0, none⟩) L.length cl) ∧ w'.cell? ⟨gl, j * 2, none⟩ = some (.int .i64 i1) ∧ w'.cell? ⟨gl, j * 2 + 1, none⟩ = some (.slice (some ⟨gu, 0, none⟩) 128 cu)) (by kernel_rfl) (by kernel_rfl) (fun _ _ _ _ _ h => h) (L := #[false, false, false, false, false, false, false, false, false, false, false, false, false, false, false, false, false, false, false, false, false, false, false]) (by kernel_rfl) ?_
                intro Q' hns hP hN
                have hS := HS0.out
                refine h_takeL (i := 0) (v := .pointer (some ⟨q, 0, none⟩)) hns rfl rfl (by kernel_rfl) (by kernel_rfl) hP (y_move rfl (by kernel_rfl) (by kernel_rfl)) hS rfl (L' := #[true, false, false, false, false, false, false, false, false, false, false, false, false, false, false, false, false, false, false, false, false, false, false]) (by kernel_rfl) ?_
                refine h_takeL (i := 1) (v := .pointer (some ⟨q, 0, none⟩)) hns rfl rfl (by kernel_rfl) (by kernel_rfl) hP (y_nil rfl (by kernel_rfl) (by kernel_rfl)) hS rfl (L' := #[true, true, false, false, false, false, false, false, false, false, false, false, false, false, false, false, false, false, false, false, false, false, false]) (by kernel_rfl) ?_
                refine h_takeL (i := 2) (v := .pointer (some ⟨q, 0, none⟩)) hns rfl rfl (by kernel_rfl) (by kernel_rfl) hP (y_faddr rfl (by kernel_rfl) (by kernel_rfl) (fa62_0 (q))) hS rfl (L' := #[true, true, true, false, false, false, false, false, false, false, false, false, false, false, false, false, false, false, false, false, false, false, false]) (by kernel_rfl) ?_
                refine h_takeL (i := 3) (v := .slice (some ⟨gx, 0, none⟩) kept.length cx) hns rfl rfl (by kernel_rfl) (by kernel_rfl) hP (y_load rfl (by kernel_rfl) (by kernel_rfl) (fun w h => load1 Try.isAgg59 h.1)) hS rfl (L' := #[true, true, true, true, false, false, false, false, false, false, false, false, false, false, false, false, false, false, false, false, false, false, false]) (by kernel_rfl) ?_
                refine h_takeL (i := 4) (v := .pointer (some ⟨r, 0, none⟩)) hns rfl rfl (by kernel_rfl) (by kernel_rfl) hP (y_move rfl (by kernel_rfl) (by kernel_rfl)) hS rfl (L' := #[true, true, true, true, true, false, false, false, false, false, false, false, false, false, false, false, false, false, false, false, false, false, false]) (by kernel_rfl) ?_
                refine h_takeL (i := 5) (v := .pointer (some ⟨r, 0, none⟩)) hns rfl rfl (by kernel_rfl) (by kernel_rfl) hP (y_nil rfl (by kernel_rfl) (by kernel_rfl)) hS rfl (L' := #[true, true, true, true, true, true, false, false, false, false, false, false, false, false, false, false, false, false, false, false, false, false, false]) (by kernel_rfl) ?_
                refine h_takeL (i := 6) (v := .pointer (some ⟨r, 1, none⟩)) hns rfl rfl (by kernel_rfl) (by kernel_rfl) hP (y_faddr rfl (by kernel_rfl) (by kernel_rfl) (fa62_1 (r))) hS rfl (L' := #[true, true, true, true, true, true, true, false, false, false, false, false, false, false, false, false, false, false, false, false, false, false, false]) (by kernel_rfl) ?_
                simp only [List.setIfInBounds_toArray, List.set_cons_zero, List.set_cons_succ]
                refine h_takeL (i := 7) (v := .slice (some ⟨gl, 0, none⟩) L.length cl) hns rfl rfl (by kernel_rfl) (by kernel_rfl) hP (y_load rfl (by kernel_rfl) (by kernel_rfl) (fun w h => load1 Try.isAgg60 h.2.1)) hS rfl (L' := #[true, true, true, true, true, true, true, true, false, false, false, false, false, false, false, false, false, false, false, false, false, false, false]) (by kernel_rfl) ?_
                refine h_takeL (i := 8) (v := .int .i64 j) hns rfl rfl (by kernel_rfl) (by kernel_rfl) hP (y_move rfl (by kernel_rfl) (by kernel_rfl)) hS rfl (L' := #[true, true, true, true, true, true, true, true, true, false, false, false, false, false, false, false, false, false, false, false, false, false, false]) (by kernel_rfl) ?_
                refine h_takeL (i := 9) (v := .pointer (some ⟨gl, j * 2, none⟩)) hns rfl rfl (by kernel_rfl) (by kernel_rfl) hP (y_index rfl (by kernel_rfl) (by kernel_rfl) (by kernel_rfl) (idx60 gl L.length cl j hj)) hS rfl (L' := #[true, true, true, true, true, true, true, true, true, true, false, false, false, false, false, false, false, false, false, false, false, false, false]) (by kernel_rfl) ?_
                refine h_takeL (i := 10) (v := .pointer (some ⟨gl, j * 2, none⟩)) hns rfl rfl (by kernel_rfl) (by kernel_rfl) hP (y_faddr rfl (by kernel_rfl) (by kernel_rfl) (fa81_0 gl (j * 2))) hS rfl (L' := #[true, true, true, true, true, true, true, true, true, true, true, false, false, false, false, false, false, false, false, false, false, false, false]) (by kernel_rfl) ?_
                refine h_takeL (i := 11) (v := .int .i64 i1) hns rfl rfl (by kernel_rfl) (by kernel_rfl) hP (y_load rfl (by kernel_rfl) (by kernel_rfl) (fun w h => load1 Try.isAgg3 h.2.2.1)) hS rfl (L' := #[true, true, true, true, true, true, true, true, true, true, true, true, false, false, false, false, false, false, false, false, false, false, false]) (by kernel_rfl) ?_
                refine h_takeL (i := 12) (v := .pointer (some ⟨r, 0, none⟩)) hns rfl rfl (by kernel_rfl) (by kernel_rfl) hP (y_move rfl (by kernel_rfl) (by kernel_rfl)) hS rfl (L' := #[true, true, true, true, true, true, true, true, true, true, true, true, true, false, false, false, false, false, false, false, false, false, false]) (by kernel_rfl) ?_
                refine h_takeL (i := 13) (v := .pointer (some ⟨r, 0, none⟩)) hns rfl rfl (by kernel_rfl) (by kernel_rfl) hP (y_nil rfl (by kernel_rfl) (by kernel_rfl)) hS rfl (L' := #[true, true, true, true, true, true, true, true, true, true, true, true, true, true, false, false, false, false, false, false, false, false, false]) (by kernel_rfl) ?_
                refine h_takeL (i := 14) (v := .pointer (some ⟨r, 1, none⟩)) hns rfl rfl (by kernel_rfl) (by kernel_rfl) hP (y_faddr rfl (by kernel_rfl) (by kernel_rfl) (fa62_1 (r))) hS rfl (L' := #[true, true, true, true, true, true, true, true, true, true, true, true, true, true, true, false, false, false, false, false, false, false, false]) (by kernel_rfl) ?_
                simp only [List.setIfInBounds_toArray, List.set_cons_zero, List.set_cons_succ]
                refine h_takeL (i := 15) (v := .slice (some ⟨gl, 0, none⟩) L.length cl) hns rfl rfl (by kernel_rfl) (by kernel_rfl) hP (y_load rfl (by kernel_rfl) (by kernel_rfl) (fun w h => load1 Try.isAgg60 h.2.1)) hS rfl (L' := #[true, true, true, true, true, true, true, true, true, true, true, true, true, true, true, true, false, false, false, false, false, false, false]) (by kernel_rfl) ?_
                refine h_takeL (i := 16) (v := .int .i64 j) hns rfl rfl (by kernel_rfl) (by kernel_rfl) hP (y_move rfl (by kernel_rfl) (by kernel_rfl)) hS rfl (L' := #[true, true, true, true, true, true, true, true, true, true, true, true, true, true, true, true, true, false, false, false, false, false, false]) (by kernel_rfl) ?_
                refine h_takeL (i := 17) (v := .pointer (some ⟨gl, j * 2, none⟩)) hns rfl rfl (by kernel_rfl) (by kernel_rfl) hP (y_index rfl (by kernel_rfl) (by kernel_rfl) (by kernel_rfl) (idx60 gl L.length cl j hj)) hS rfl (L' := #[true, true, true, true, true, true, true, true, true, true, true, true, true, true, true, true, true, true, false, false, false, false, false]) (by kernel_rfl) ?_
                refine h_takeL (i := 18) (v := .pointer (some ⟨gl, j * 2 + 1, none⟩)) hns rfl rfl (by kernel_rfl) (by kernel_rfl) hP (y_faddr rfl (by kernel_rfl) (by kernel_rfl) (fa81_1 gl (j * 2))) hS rfl (L' := #[true, true, true, true, true, true, true, true, true, true, true, true, true, true, true, true, true, true, true, false, false, false, false]) (by kernel_rfl) ?_
                refine h_takeL (i := 19) (v := .slice (some ⟨gu, 0, none⟩) 128 cu) hns rfl rfl (by kernel_rfl) (by kernel_rfl) hP (y_load rfl (by kernel_rfl) (by kernel_rfl) (fun w h => load1 Try.isAgg35 h.2.2.2)) hS rfl (L' := #[true, true, true, true, true, true, true, true, true, true, true, true, true, true, true, true, true, true, true, true, false, false, false]) (by kernel_rfl) ?_
                refine h_valL (i := 20) (v := .slice (some ⟨g1, 0, none⟩) 128 c1) (by kernel_rfl) rfl rfl (by kernel_rfl) (run_appOp rfl (by kernel_rfl) (by kernel_rfl) HC1.out.1) HC1.out.2 rfl (L' := #[true, true, true, true, true, true, true, true, true, true, true, true, true, true, true, true, true, true, true, true, true, false, false]) (by kernel_rfl) ?_
                refine h_valL (i := 21) (v := .pointer (some ⟨gx, i1, none⟩)) (by kernel_rfl) rfl rfl (by kernel_rfl) (run_idxOp rfl (by kernel_rfl) (by kernel_rfl) (idx59 gx kept.length cx i1 hi1 w1)) HC1.out.2 rfl (L' := #[true, true, true, true, true, true, true, true, true, true, true, true, true, true, true, true, true, true, true, true, true, true, false]) (by kernel_rfl) ?_
                refine h_skipL (i := 22) (by kernel_rfl) rfl rfl (by kernel_rfl) (run_storeOp rfl (by kernel_rfl) (by kernel_rfl) (store1 (t := 35) Try.sizeOf35 (.slice (some ⟨g1, 0, none⟩) 128 c1) rfl rfl HC2.out.1 HC2.out.2.1)) HC2.out.2.2 (L' := #[true, true, true, true, true, true, true, true, true, true, true, true, true, true, true, true, true, true, true, true, true, true, true]) (by kernel_rfl) ?_
                simp only [List.setIfInBounds_toArray, List.set_cons_zero, List.set_cons_succ]
                refine wpAnyH_done (by kernel_rfl) ?_ _
                refine hN _ _ ?_
                clear hP hN hns
                clear HC1 HC2 HS0 hS
                generalize w1.setCell ⟨gx, i1, none⟩ (.slice (some ⟨g1, 0, none⟩) 128 c1) = w5 at *
                go_upto_region 8 with fail
                refine wp_region_lit ?_
                refine wp_move (v := .int .i64 j) (by kernel_rfl) ?_
                refine wp_addi (z := ((j + 1 : Nat) : Int)) (by kernel_rfl) (by kernel_rfl) HWj.out ?_
                refine wp_assign (v := .int .i64 (j + 1 : Nat)) (by kernel_rfl) ?_
                dsimp only [Act.put]
                simp only [List.setIfInBounds_toArray, List.set_cons_zero, List.set_cons_succ]
                refine wp_end ?_
                go_wp2
                go_roundw
                case rel => exact ⟨j + 1, hj, rfl, HE.out⟩
                case measure => exact hmes
              · rw [decide_eq_false hm]
                have HE := HX2.out
                rw [← rcr_out hm] at HE
                have HE2 := hid HE
                clear HE HX2
                go_upto_region 8 with fail
                refine wp_region_lit ?_
                refine wp_move (v := .int .i64 j) (by kernel_rfl) ?_
                refine wp_addi (z := ((j + 1 : Nat) : Int)) (by kernel_rfl) (by kernel_rfl) HWj.out ?_
                refine wp_assign (v := .int .i64 (j + 1 : Nat)) (by kernel_rfl) ?_
                dsimp only [Act.put]
                simp only [List.setIfInBounds_toArray, List.set_cons_zero, List.set_cons_succ]
                refine wp_end ?_
                go_wp2
                go_roundw
                case rel => exact ⟨j + 1, hj, rfl, HE2.out⟩
                case measure => exact hmes
        · have hj' : decide ((j : Int) < (L.length : Int)) = false := decide_eq_false (by omega)
          obtain rfl : j = L.length := by omega
          go_wp2
          go_ret
          exact ⟨q, _, rfl, hqle, HX2.out.1, HX2.out.2.1, HX2.out.2.2⟩
end Go.Proofs.Ytkfomolglangdaa
