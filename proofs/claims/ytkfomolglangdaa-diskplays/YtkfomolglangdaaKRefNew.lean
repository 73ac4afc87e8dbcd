/- The document's New. -/
import Derived.Test.YtkfomolglangdaaKRefFlush
namespace Go.Proofs.Ytkfomolglangdaa
open Go Go.RowKit

section
variable {o : Oper} {a : Act} {w w1 : World}
theorem run_mkOp {t : TypeId} {p q : Operand} {x y v : Value} (hop : o.op = .makeSlice t p q) (hp : a.eval p = x) (hq : a.eval q = y) (hr : (Instr.makeSlice t x y).run Try.prog w = .ok v w1) :
    (execOp a.eval o).run Try.prog w = .ok (.value v) w1 := by
  unfold execOp; rw [hop]; simp only [hp, hq, Sem.run_bind, hr, Result.andThen_ok]; rfl
end
def z128 : Array Value := (cells8 (List.replicate 128 0)).toArray
theorem make35 (w : World) : (Instr.makeSlice 35 (.int .i64 128) (.int .i64 128)).run Try.prog w = .ok (.slice (some ⟨w.heap.size, 0, none⟩) 128 128) (w.alloc (.cells z128 5)) := by
  go_simp
  kernel_rfl
theorem bslice59 (w : World) (g n cap : Nat) : (Instr.buildSlice 59 1 #[(0, .slice (some ⟨g, 0, none⟩) n cap)]).run Try.prog w = .ok (.slice (some ⟨w.heap.size, 0, none⟩) 1 1) (w.alloc (.cells #[.slice (some ⟨g, 0, none⟩) n cap] 35)) := by go_simp
/-- A sector is laid behind those there are. -/
theorem more_sf {w : World} {B : Nat} {vs : Value} {ss : List (List UInt8)} {l : List UInt8} {g1 c1 : Nat} (hS : Sf w B vs ss) (hb : Bk w (.slice (some ⟨g1, 0, none⟩) 128 c1) l) (hn : ss.length ≤ 16384) (hBs : B ≤ w.heap.size) (ty : TypeId) :
    ∃ g c w', (Builtin.append_ #[59, 59] ty #[vs, .slice (some ⟨w.heap.size, 0, none⟩) 1 1]).run Try.prog (w.alloc (.cells #[.slice (some ⟨g1, 0, none⟩) 128 c1] 35)) = .ok (.slice (some ⟨g, 0, none⟩) (ss.length + 1) c) w' ∧
      Sf w' B (.slice (some ⟨g, 0, none⟩) (ss.length + 1) c) (ss ++ [l]) ∧ Fr vs.ownBlock.toList w w' ∧ (∀ k ∈ vs.ownBlock.toList, B ≤ k ∧ ∃ c, w.heap[k]? = some (.cells c 35 (0, 0))) := by
  obtain ⟨i0, hi, hz0, hz1, hz2⟩ := info_parts info35
  obtain ⟨V, hV, hK3⟩ := hS
  have hB : Fr [] w (w.alloc (.cells #[.slice (some ⟨g1, 0, none⟩) 128 c1] 35)) := Fr.alloc _ _
  obtain ⟨v', w', hr, ho, hg, _⟩ := run_append_own (P := Try.prog) (w.alloc (.cells #[.slice (some ⟨g1, 0, none⟩) 128 c1] 35)) B 59 ty 35 i0 (.slice none 0 0) 1 24 Try.underlying59 hi hz0 hz1 hz2 rfl (by decide) vs ss.length _ (hK3.alloc _) ⟨w.heap.size, 0, none⟩ 1 1 [.slice (some ⟨g1, 0, none⟩) 128 c1]
    rfl (fun j u hj => by rw [Addr.add_lit, Nat.zero_add]; exact cell_at (heap_alloc_last w _) j (by simpa using hj)) (fun u hu => by simp only [List.mem_cons, List.not_mem_nil, or_false] at hu; subst hu; rfl) (by unfold maxLen; omega) (by omega) (by simp; omega)
  obtain ⟨g, c, rfl⟩ := own_some ho (by omega)
  have hF : Fr vs.ownBlock.toList w w' := (hB.mono (Y := vs.ownBlock.toList) (by simp)).trans (grown_fr hg) (fun x hx => .inl hx)
  have ht := own_type hK3
  have hVl : V.length = ss.length := by have := hK3.1; omega
  have hbk : ∀ v l, Bk w v l → Bk w' v l := fun v l h => h.fr hF (fun g c hg' hm => by obtain ⟨c', hc⟩ := ht g hm; rw [hg'] at hc; cases hc)
  refine ⟨g, c, w', hr, ⟨V ++ [.slice (some ⟨g1, 0, none⟩) 128 c1], fun i l' hl' => ?_, by simpa using ho⟩, hF, fun k hk => ⟨(hK3.lt k (by simpa using hk)).1, ht k hk⟩⟩
  by_cases e : i < ss.length
  · rw [List.getElem?_append_left e] at hl'
    obtain ⟨u, hu, hb'⟩ := hV i l' hl'
    exact ⟨u, by rw [List.getElem?_append_left (by omega)]; exact hu, hbk _ _ hb'⟩
  · rw [List.getElem?_append_right (by omega)] at hl'
    have e0 : i - ss.length = 0 := by
      have := (List.getElem?_eq_some_iff.1 hl').1
      simp at this; omega
    rw [e0] at hl'
    cases hl'
    exact ⟨_, by rw [List.getElem?_append_right (by omega), hVl, e0]; rfl, hbk _ _ hb⟩
theorem Sf.nil (w : World) (B : Nat) : Sf w B (.slice none 0 0) [] := ⟨[], by simp, World.ownsRow_nil _ _ _ _⟩
set_option maxRecDepth 100000 in
set_option maxHeartbeats 1600000 in
theorem rnew_bad (w : World) (x : Int) (hx : x < 1 ∨ 16384 < x) :
    Calls Try.prog 11 #[.int .i64 x] w fun e w' => e = .returned (.tuple #[.pointer none, .int .i64 40]) ∧ w' = w := by
  by_cases e : x < 1
  · have d0 : decide (x < 1) = true := decide_eq_true e
    clear hx
    go_enter Try.func11, Try.ntmps11
    go_wp2
    go_ret2
    exact ⟨rfl, rfl⟩
  · have d0 : decide (x < 1) = false := decide_eq_false e
    have d1 : decide (16384 < x) = true := decide_eq_true (by omega)
    clear hx
    go_enter Try.func11, Try.ntmps11
    go_wp2
    go_ret2
    exact ⟨rfl, rfl⟩
set_option maxRecDepth 100000 in
set_option maxHeartbeats 1600000 in
theorem rnew_ok (w : World) (n : Nat) (h0 : n ≠ 0) (hn : n ≤ 16384) :
    Calls Try.prog 11 #[.int .i64 n] w fun e w' => ∃ r, e = .returned (.tuple #[.pointer (some ⟨r, 0, none⟩), .int .i64 0]) ∧ Ref w' w.heap.size r (DS.new n) ∧ Below w.heap.size w w' := by
  have d0 : decide ((n : Int) < 1) = false := decide_eq_false (by omega)
  have d1 : decide (16384 < (n : Int)) = false := decide_eq_false (by omega)
  have d2 : ¬ 16384 < n := by omega
  have d3 : ¬ n < 1 := by omega
  have HN := hid hn
  clear hn
  go_enter Try.func11, Try.ntmps11
  go_upto_region 5 with fail
  have hR0 : Rc (w.alloc (.cells #[.slice none 0 0, .slice none 0 0, .int .i64 0, .int .i64 (-1), .bool false] 62)) w.heap.size (.slice none 0 0) (.slice none 0 0) 0 (-1) false := heap_alloc_last _ _
  have hB0 : Below w.heap.size w (w.alloc (.cells #[.slice none 0 0, .slice none 0 0, .int .i64 0, .int .i64 (-1), .bool false] 62)) := (Below.refl _ _).alloc (Nat.le_refl _) _
  obtain ⟨B, hBq⟩ : ∃ B, B = w.heap.size := ⟨_, rfl⟩
  have hBle : B ≤ w.heap.size := Nat.le_of_eq hBq
  have HR0 := hid hR0
  have HB0 := hid hB0
  have HBq := hid hBq
  clear hR0 hB0 hBq
  rw [← HBq.out] at HB0
  have hgoal : ∀ (w' : World) r, Ref w' B r (DS.new n) ∧ Below B w w' → Ref w' w.heap.size r (DS.new n) ∧ Below w.heap.size w w' := fun w' r h => by rw [← HBq.out]; exact h
  generalize w.alloc (.cells #[.slice none 0 0, .slice none 0 0, .int .i64 0, .int .i64 (-1), .bool false] 62) = w0 at *
  clear HBq
  generalize w.heap.size = q at HR0 hBle ⊢
  go_loopw [5] (fun x wr => ∃ (k : Nat) (vs : Value), k ≤ n ∧ x = .int .i64 k ∧ Rc wr q vs (.slice none 0 0) 0 (-1) false ∧ Sf wr B vs (noughts k) ∧ Below B w wr) (fun x _ => n - (intOf x).toNat)
  case atStart => exact ⟨0, _, Nat.zero_le _, rfl, HR0.out, Sf.nil _ _, HB0.out⟩
  case round =>
    obtain ⟨k, vs, hk, rfl, hRr, hSr, hBr⟩ := hrel
    have hn' := HN.out
    have HWk := hid (incR (k := k) (by omega))
    by_cases hlt : k < n
    · have hlt' : decide ((k : Int) < (n : Int)) = true := decide_eq_true (by omega)
      have hmes : n - ((k + 1 : Nat) : Int).toNat < n - (k : Int).toNat := by omega
      have hqs := heap_lt hRr
      have hnl : (noughts k).length = k := by simp [noughts]
      have hB1 : Below wr.heap.size wr (wr.drew.alloc (.cells z128 5)) := by
        have h := (Below.refl wr.drew.heap.size wr.drew).alloc (Nat.le_refl _) (.cells z128 5)
        exact ⟨h.os, h.tape, h.output, h.size, h.block⟩
      have hb1 : Bk (wr.drew.alloc (.cells z128 5)) (.slice (some ⟨wr.heap.size, 0, none⟩) 128 128) (List.replicate 128 0) := ⟨by simp, by rw [cells8_len]; simp, .inr ⟨_, _, z128, rfl, Nat.zero_le _, heap_alloc_last wr.drew _, Nat.le_refl _, by unfold maxLen; omega, by kernel_rfl, by kernel_rfl⟩⟩
      have hR1 : Rc _ q vs (.slice none 0 0) 0 (-1) false := below_at hB1 hRr hqs
      have hS1 := hSr.fr (Fr.of_below (X := []) hB1) (by simp) (by simp)
      obtain ⟨w1, hw1⟩ : ∃ w1, w1 = wr.drew.alloc (.cells z128 5) := ⟨_, rfl⟩
      rw [← hw1] at hB1 hb1 hR1 hS1
      obtain ⟨g3, c3, w3, hrun3, hS3, hF3, hty⟩ := more_sf hS1 hb1 (by rw [hnl]; omega) (Nat.le_trans hBle (Nat.le_of_lt (heap_lt hR1))) 59
      rw [hnl] at hrun3 hS3
      have hrv : q ∉ vs.ownBlock.toList := fun hm => by
        obtain ⟨_, c, hc⟩ := hty q hm
        rw [Rc, hc] at hR1; cases hR1
      have hR3 := hR1.fr hF3 hrv
      have hF4 : Fr [q] w3 (w3.setCell ⟨q, 0, none⟩ (.slice (some ⟨g3, 0, none⟩) (k + 1) c3)) := Fr.setCell _ _ _ _
      have hR4 : Rc (w3.setCell ⟨q, 0, none⟩ (.slice (some ⟨g3, 0, none⟩) (k + 1) c3)) q (.slice (some ⟨g3, 0, none⟩) (k + 1) c3) (.slice none 0 0) 0 (-1) false := heap_setCell hR3 0 _
      have hS4 := hS3.fr hF4 (fun g c => hR3.ne (by decide)) (fun g c => hR3.ne (by decide))
      have hno : noughts k ++ [List.replicate 128 0] = noughts (k + 1) := by simp [noughts, List.replicate_succ']
      rw [hno] at hS4
      have hB4 : Below B w (w3.setCell ⟨q, 0, none⟩ (.slice (some ⟨g3, 0, none⟩) (k + 1) c3)) := by
        have b1 : Below B w w1 := hBr.trans (hB1.mono (Nat.le_trans hBle (Nat.le_of_lt hqs)))
        have b3 : Below B w1 w3 := hF3.below (Nat.le_trans hBle (Nat.le_of_lt (heap_lt hR1))) (fun k hk => (hty k hk).1)
        exact (b1.trans b3).trans (hF4.below (Nat.le_trans hBle (Nat.le_of_lt (heap_lt hR3))) (fun k hk => (by simp at hk; omega)))
      have HRr := hid hRr
      have HC0 := hid (show (Instr.makeSlice 35 (.int .i64 128) (.int .i64 128)).run Try.prog wr.drew = .ok (.slice (some ⟨wr.heap.size, 0, none⟩) 128 128) w1 by rw [hw1]; exact make35 wr.drew)
      have HC1 := hid hR1.c0
      have HC2 := hid ((hR1.fr (Fr.alloc w1 (.cells #[.slice (some ⟨wr.heap.size, 0, none⟩) 128 128] 35)) (by simp)).c0)
      have HC3 := hid (And.intro hrun3 (And.intro hR3.c0 (hR3.f 0)))
      have HE := hid (And.intro hR4 (And.intro hS4 hB4))
      clear hRr hSr hBr hB1 hb1 hR1 hS1 hrun3 hS3 hF3 hty hrv hR3 hF4 hR4 hS4 hno hB4 hn' hk hw1 HR0 HB0
      go_upto_region 7 with fail
      refine z_open (S := fun w' => w'.cell? ⟨q, 0, none⟩ = some vs) 10 (by kernel_rfl) (by kernel_rfl) (fun _ _ _ _ _ h => h) (L := #[false, false, false, false, false, false, false, false, false, false, false]) (by kernel_rfl) ?_
      intro Q' hns hP hN
      have hS := (show wr.drew.cell? ⟨q, 0, none⟩ = some vs from HRr.out.c0)
      refine z_pure (i := 0) (v := .pointer (some ⟨q, 0, none⟩)) hns rfl rfl rfl (by kernel_rfl) (by kernel_rfl) hP (y_move rfl (by kernel_rfl) (by kernel_rfl)) (fun _ => hS) rfl (L' := #[true, false, false, false, false, false, false, false, false, false, false]) (by kernel_rfl) ?_
      refine z_pure (i := 1) (v := .pointer (some ⟨q, 0, none⟩)) hns rfl rfl rfl (by kernel_rfl) (by kernel_rfl) hP (y_move rfl (by kernel_rfl) (by kernel_rfl)) (fun _ => hS) rfl (L' := #[true, true, false, false, false, false, false, false, false, false, false]) (by kernel_rfl) ?_
      refine z_pure (i := 2) (v := .pointer (some ⟨q, 0, none⟩)) hns rfl rfl rfl (by kernel_rfl) (by kernel_rfl) hP (y_nil rfl (by kernel_rfl) (by kernel_rfl)) (fun _ => hS) rfl (L' := #[true, true, true, false, false, false, false, false, false, false, false]) (by kernel_rfl) ?_
      refine z_pure (i := 3) (v := .pointer (some ⟨q, 0, none⟩)) hns rfl rfl rfl (by kernel_rfl) (by kernel_rfl) hP (y_faddr rfl (by kernel_rfl) (by kernel_rfl) (fa62_0 (q))) (fun _ => hS) rfl (L' := #[true, true, true, true, false, false, false, false, false, false, false]) (by kernel_rfl) ?_
      refine z_read (i := 4) (v := vs) hns rfl (by kernel_rfl) rfl rfl (by kernel_rfl) (by kernel_rfl) hP (y_load rfl (by kernel_rfl) (by kernel_rfl) (fun w h => load1 Try.isAgg59 h)) rfl hS rfl (L' := #[true, true, true, true, true, false, false, false, false, false, false]) (by kernel_rfl) ?_
      refine z_val (i := 5) (v := .slice (some ⟨wr.heap.size, 0, none⟩) 128 128) (by kernel_rfl) rfl rfl (by kernel_rfl) (run_mkOp rfl (by kernel_rfl) (by kernel_rfl) HC0.out) HC1.out rfl (L' := #[true, true, true, true, true, true, false, false, false, false, false]) (by kernel_rfl) ?_
      refine z_val (i := 6) (v := .slice (some ⟨w1.heap.size, 0, none⟩) 1 1) (by kernel_rfl) rfl rfl (by kernel_rfl) (run_bsliceOp rfl (by kernel_rfl) (bslice59 w1 wr.heap.size 128 128)) HC2.out rfl (L' := #[true, true, true, true, true, true, true, false, false, false, false]) (by kernel_rfl) ?_
      simp only [List.setIfInBounds_toArray, List.set_cons_zero, List.set_cons_succ]
      refine z_val (i := 7) (v := .slice (some ⟨g3, 0, none⟩) (k + 1) c3) (by kernel_rfl) rfl rfl (by kernel_rfl) (run_appOp rfl (by kernel_rfl) (by kernel_rfl) HC3.out.1) HC3.out.2.1 rfl (L' := #[true, true, true, true, true, true, true, true, false, false, false]) (by kernel_rfl) ?_
      refine z_pure (i := 8) (v := .pointer (some ⟨q, 0, none⟩)) hns rfl rfl rfl (by kernel_rfl) (by kernel_rfl) hP (y_nil rfl (by kernel_rfl) (by kernel_rfl)) (fun _ => HC3.out.2.1) rfl (L' := #[true, true, true, true, true, true, true, true, true, false, false]) (by kernel_rfl) ?_
      refine z_pure (i := 9) (v := .pointer (some ⟨q, 0, none⟩)) hns rfl rfl rfl (by kernel_rfl) (by kernel_rfl) hP (y_faddr rfl (by kernel_rfl) (by kernel_rfl) (fa62_0 (q))) (fun _ => HC3.out.2.1) rfl (L' := #[true, true, true, true, true, true, true, true, true, true, false]) (by kernel_rfl) ?_
      refine z_last (by kernel_rfl) rfl rfl (by kernel_rfl) (run_storeOp rfl (by kernel_rfl) (by kernel_rfl) (store1 (t := 59) Try.sizeOf59 (.slice (some ⟨g3, 0, none⟩) (k + 1) c3) rfl rfl HC3.out.2.1 HC3.out.2.2)) rfl (L' := #[true, true, true, true, true, true, true, true, true, true, true]) (by kernel_rfl) ?_
      simp only [List.setIfInBounds_toArray, List.set_cons_zero, List.set_cons_succ]
      refine z_done (by kernel_rfl) ?_ _
      refine hN _ _ ?_
      clear hP hN hns
      clear HC0 HC1 HC2 HC3 HRr hS
      generalize w3.setCell ⟨q, 0, none⟩ (.slice (some ⟨g3, 0, none⟩) (k + 1) c3) = w4 at *
      go_upto_region 6 with fail
      refine wp_region_lit ?_
      refine wp_move (v := .int .i64 k) (by kernel_rfl) ?_
      refine wp_addi (z := ((k + 1 : Nat) : Int)) (by kernel_rfl) (by kernel_rfl) HWk.out ?_
      refine wp_assign (v := .int .i64 (k + 1 : Nat)) (by kernel_rfl) ?_
      dsimp only [Act.put]
      simp only [List.setIfInBounds_toArray, List.set_cons_zero, List.set_cons_succ]
      refine wp_end ?_
      go_wp2
      go_roundw
      case rel => exact ⟨k + 1, _, hlt, rfl, HE.out⟩
      case measure => exact hmes
    · have hlt' : decide ((k : Int) < (n : Int)) = false := decide_eq_false (by omega)
      obtain rfl : k = n := by omega
      have HE := hid (And.intro hRr (And.intro hSr hBr))
      have HN2 := hid hn'
      clear hRr hSr hBr hn' HWk
      go_wp2
      go_ret2
      exact ⟨q, rfl, hgoal _ _ ⟨⟨vs, _, hBle, HE.out.1, HE.out.2.1, Ls.nil _ _, DS.Ok.new h0 HN2.out⟩, HE.out.2.2⟩⟩
end Go.Proofs.Ytkfomolglangdaa
