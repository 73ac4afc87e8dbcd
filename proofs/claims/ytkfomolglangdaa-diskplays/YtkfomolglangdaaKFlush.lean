/- Flush; and what Write refuses. -/
import Derived.Test.YtkfomolglangdaaKWrite
namespace Go.Proofs.Ytkfomolglangdaa
open Go Go.RowKit

theorem look_in0 {w : World} {m : Nat} {L : List (Nat × List UInt8)} (h : Mp w m L) (n : Nat) (x : Nat × List UInt8) (hx : L[n]? = some x) :
    (Instr.lookup 65 (.map (some m)) (.int .i64 n) false).run Try.prog w = .ok (wv x) w := look_in h n x hx false
theorem look_in1 {w : World} {m : Nat} {L : List (Nat × List UInt8)} (h : Mp w m L) (n : Nat) (x : Nat × List UInt8) (hx : L[n]? = some x) :
    (Instr.lookup 65 (.map (some m)) (.int .i64 n) true).run Try.prog w = .ok (.tuple #[wv x, .bool true]) w := look_in h n x hx true

theorem makeMap65 (w : World) : (Instr.makeMap 65 none).run Try.prog w = .ok (.map (some w.heap.size)) (w.alloc (.map #[] 0)) := by
  simp only [Instr.makeMap, Sem.run_bind]
  rfl
/-- Writes laid over sectors, in order. -/
def layAll (ss : List (List UInt8)) (L : List (Nat × List UInt8)) : List (List UInt8) := L.foldl (fun ss x => ss.set x.1 x.2) ss
theorem layAll_len (L : List (Nat × List UInt8)) : ∀ ss, (layAll ss L).length = ss.length := by
  induction L with
  | nil => intro ss; rfl
  | cons x r ih => intro ss; show (layAll (ss.set x.1 x.2) r).length = _; rw [ih]; simp
theorem layAll_snoc (ss : List (List UInt8)) (L : List (Nat × List UInt8)) (x : Nat × List UInt8) : layAll ss (L ++ [x]) = (layAll ss L).set x.1 x.2 := by simp [layAll]
theorem layAll_take (ss : List (List UInt8)) (L : List (Nat × List UInt8)) (k : Nat) (x : Nat × List UInt8) (hx : L[k]? = some x) : layAll ss (L.take (k + 1)) = (layAll ss (L.take k)).set x.1 x.2 := by
  rw [List.take_add_one, hx]; exact layAll_snoc _ _ _

section
variable (w : World) (p : Nat) (ops cut : Int) (gone : Bool) (m : Nat)
set_option maxRecDepth 100000 in
set_option maxHeartbeats 400000 in
theorem write_gone (vn vk v x : Value) (h : Dc w p vn vk m ops cut gone) (hl : lost cut ops = true) :
    Calls Try.prog 19 #[.pointer (some ⟨p, 0, none⟩), x, v] w fun e w' => e = .returned (.int .i64 43) ∧ Dc w' p vn vk m ops cut true ∧ Fr [p] w w' := by
  have H1 := hid (loses_any w p _ _ m ops cut gone h)
  rw [hl] at H1
  clear h
  go_enter Try.func19, Try.ntmps19
  go_wp2_with fail
  refine H1.out.mono ?_
  rintro e w1 ⟨rfl, hD1, hF1⟩
  go_wp2
  go_ret
  exact ⟨rfl, hD1, hF1⟩
set_option maxRecDepth 100000 in
set_option maxHeartbeats 400000 in
theorem write_at (b n cb : Nat) (vn v : Value) (x : Int) (h : Dc w p vn (.slice (some ⟨b, 0, none⟩) n cb) m ops cut gone) (hl : lost cut ops = false) (hx : x < 0 ∨ (n : Int) ≤ x) :
    Calls Try.prog 19 #[.pointer (some ⟨p, 0, none⟩), .int .i64 x, v] w fun e w' => e = .returned (.int .i64 41) ∧ Dc w' p vn (.slice (some ⟨b, 0, none⟩) n cb) m ops cut false ∧ Fr [p] w w' := by
  have H1 := hid (loses_any w p _ _ m ops cut gone h)
  rw [hl] at H1
  clear h
  go_enter Try.func19, Try.ntmps19
  go_wp2_with fail
  refine H1.out.mono ?_
  clear H1
  rintro e w1 ⟨rfl, hD1, hF1⟩
  have H2 := hid (has_any w1 p _ b n cb m ops cut false x hD1)
  rw [hasB_out hx] at H2
  have HD1 := hid hD1
  have HF1 := hid hF1
  clear hD1 hF1
  go_wp2_with fail
  refine H2.out.mono ?_
  rintro e w1 ⟨rfl, rfl⟩
  go_wp2
  go_ret
  exact ⟨rfl, HD1.out, HF1.out⟩
set_option maxRecDepth 100000 in
set_option maxHeartbeats 400000 in
theorem write_len (b n cb : Nat) (vn : Value) (i : Nat) (a : Option Addr) (len cap : Nat) (h : Dc w p vn (.slice (some ⟨b, 0, none⟩) n cb) m ops cut gone) (hl : lost cut ops = false) (hx : i < n) (hn : len ≠ 128) :
    Calls Try.prog 19 #[.pointer (some ⟨p, 0, none⟩), .int .i64 i, .slice a len cap] w fun e w' => e = .returned (.int .i64 42) ∧ Dc w' p vn (.slice (some ⟨b, 0, none⟩) n cb) m ops cut false ∧ Fr [p] w w' := by
  have H1 := hid (loses_any w p _ _ m ops cut gone h)
  rw [hl] at H1
  have hne : ((len : Int) == 128) = false := by rw [beq_eq_false_iff_ne]; omega
  clear h
  go_enter Try.func19, Try.ntmps19
  go_wp2_with fail
  refine H1.out.mono ?_
  clear H1
  rintro e w1 ⟨rfl, hD1, hF1⟩
  have H2 := hid (has_any w1 p _ b n cb m ops cut false i hD1)
  rw [hasB_in hx] at H2
  have HD1 := hid hD1
  have HF1 := hid hF1
  clear hD1 hF1
  go_wp2_with fail
  refine H2.out.mono ?_
  rintro e w1 ⟨rfl, rfl⟩
  go_wp2
  go_ret
  exact ⟨rfl, HD1.out, HF1.out⟩
set_option maxRecDepth 100000 in
set_option maxHeartbeats 400000 in
theorem write_full (b n cb : Nat) (vn : Value) (i : Nat) (a : Option Addr) (cap : Nat) (h : Dc w p vn (.slice (some ⟨b, 0, none⟩) n cb) m ops cut gone) (hl : lost cut ops = false) (hx : i < n) (ho : 1048576 ≤ ops) :
    Calls Try.prog 19 #[.pointer (some ⟨p, 0, none⟩), .int .i64 i, .slice a 128 cap] w fun e w' => e = .returned (.int .i64 44) ∧ Dc w' p vn (.slice (some ⟨b, 0, none⟩) n cb) m ops cut false ∧ Fr [p] w w' := by
  have H1 := hid (loses_any w p _ _ m ops cut gone h)
  rw [hl] at H1
  have hops' : decide ((1048576 : Int) ≤ ops) = true := decide_eq_true ho
  clear h ho
  go_enter Try.func19, Try.ntmps19
  go_wp2_with fail
  refine H1.out.mono ?_
  clear H1
  rintro e w1 ⟨rfl, hD1, hF1⟩
  have H2 := hid (has_any w1 p _ b n cb m ops cut false i hD1)
  rw [hasB_in hx] at H2
  have H3 := hid hD1.c3
  have HD1 := hid hD1
  have HF1 := hid hF1
  clear hD1 hF1
  go_wp2_with fail
  refine H2.out.mono ?_
  rintro e w1 ⟨rfl, rfl⟩
  have h3 := H3.out
  go_wp2
  go_ret
  exact ⟨rfl, HD1.out, HF1.out⟩
set_option maxRecDepth 100000 in
set_option maxHeartbeats 400000 in
theorem flush_gone (vn vk : Value) (h : Dc w p vn vk m ops cut gone) (hl : lost cut ops = true) :
    Calls Try.prog 21 #[.pointer (some ⟨p, 0, none⟩)] w fun e w' => e = .returned (.int .i64 43) ∧ Dc w' p vn vk m ops cut true ∧ Fr [p] w w' := by
  have H1 := hid (loses_any w p _ _ m ops cut gone h)
  rw [hl] at H1
  clear h
  go_enter Try.func21, Try.ntmps21
  go_wp2_with fail
  refine H1.out.mono ?_
  rintro e w1 ⟨rfl, hD1, hF1⟩
  go_wp2
  go_ret
  exact ⟨rfl, hD1, hF1⟩
set_option maxRecDepth 100000 in
set_option maxHeartbeats 400000 in
theorem flush_full (vn vk : Value) (h : Dc w p vn vk m ops cut gone) (hl : lost cut ops = false) (ho : 1048576 ≤ ops) :
    Calls Try.prog 21 #[.pointer (some ⟨p, 0, none⟩)] w fun e w' => e = .returned (.int .i64 44) ∧ Dc w' p vn vk m ops cut false ∧ Fr [p] w w' := by
  have H1 := hid (loses_any w p _ _ m ops cut gone h)
  rw [hl] at H1
  have hops' : decide ((1048576 : Int) ≤ ops) = true := decide_eq_true ho
  clear h ho
  go_enter Try.func21, Try.ntmps21
  go_wp2_with fail
  refine H1.out.mono ?_
  clear H1
  rintro e w1 ⟨rfl, hD1, hF1⟩
  have h3 := hD1.c3
  go_wp2
  go_ret
  exact ⟨rfl, hD1, hF1⟩
end

set_option maxRecDepth 100000 in
set_option maxHeartbeats 1600000 in
theorem flush_ok (w : World) (p a ca b n cb m : Nat) (ops cut : Int) (gone : Bool) (now kept : List (List UInt8)) (L : List (Nat × List UInt8))
    (h : Dc w p (.slice (some ⟨a, 0, none⟩) n ca) (.slice (some ⟨b, 0, none⟩) n cb) m ops cut gone) (hra : Row w a ca now) (hrb : Row w b cb kept) (hm : Mp w m L) (hn : kept.length = n) (hab : a ≠ b)
    (hL : ∀ x ∈ L, x.1 < n ∧ x.2.length = 128) (hlost : lost cut ops = false) (hops0 : 0 ≤ ops) (hops : ops < 1048576) (hLn : L.length ≤ 1048576) :
    Calls Try.prog 21 #[.pointer (some ⟨p, 0, none⟩)] w fun e w' => e = .returned (.int .i64 0) ∧ ∃ m', w.heap.size ≤ m' ∧
      Dc w' p (.slice (some ⟨a, 0, none⟩) n ca) (.slice (some ⟨b, 0, none⟩) n cb) m' (ops + 1) cut false ∧ Row w' a ca now ∧ Row w' b cb (layAll kept L) ∧ Mp w' m' [] ∧ Fr [p, b] w w' := by
  have hpm : p ≠ m := fun e => by subst e; rw [Mp] at hm; rw [Dc] at h; rw [hm] at h; cases h
  have hpa : p ≠ a := fun e => by obtain ⟨cur, hg, _⟩ := hra; subst e; rw [Dc] at h; rw [hg] at h; cases h
  have hpb : p ≠ b := fun e => by obtain ⟨cur, hg, _⟩ := hrb; subst e; rw [Dc] at h; rw [hg] at h; cases h
  have hmb : m ≠ b := fun e => by obtain ⟨cur, hg, _⟩ := hrb; subst e; rw [Mp] at hm; rw [hg] at hm; cases hm
  have hops' : decide ((1048576 : Int) ≤ ops) = false := decide_eq_false (by omega)
  have hwr : wrap64 (ops + 1) = ops + 1 := by unfold wrap64; omega
  have H1 := hid (loses_any w p _ _ m ops cut gone h)
  rw [hlost] at H1
  have HRa := hid hra
  have HRb := hid hrb
  have HM := hid hm
  have HL := hid hL
  have HLn := hid hLn
  clear h hra hrb hm hL hLn hops hops0
  go_enter Try.func21, Try.ntmps21
  go_wp2_with fail
  refine H1.out.mono ?_
  clear H1
  rintro e w1 ⟨rfl, hD1, hF1⟩
  have HRa1 := hid (HRa.out.fr hF1 (by simpa using hpa.symm))
  have HRb1 := hid (HRb.out.fr hF1 (by simpa using hpb.symm))
  have HM1 : Hid (Mp w1 m L) := hid (hF1.at HM.out (by simpa using hpm.symm))
  have h2 := hD1.c2
  have h3 := hD1.c3
  have hlen := len_map HM1.out
  have HD1 := hid hD1
  have HF1 := hid hF1
  clear HRa HRb HM hD1 hF1
  go_upto_region 8 with fail
  go_loopw [18, 3] (fun x _ wr => ∃ k : Nat, k ≤ L.length ∧ x = .int .i64 k ∧ Dc wr p (.slice (some ⟨a, 0, none⟩) n ca) (.slice (some ⟨b, 0, none⟩) n cb) m ops cut false ∧ Row wr a ca now ∧ Row wr b cb (layAll kept (L.take k)) ∧ Mp wr m L ∧ Fr [p, b] w wr) (fun x _ _ => L.length - (intOf x).toNat)
  case atStart => exact ⟨0, Nat.zero_le _, rfl, HD1.out, HRa1.out, HRb1.out, HM1.out, HF1.out.mono (by simp)⟩
  case round =>
    obtain ⟨k, hk, rfl, hDr, hRar, hRbr, hmr, hFr⟩ := hrel
    have HLn' := HLn.out
    have hwk : IntKind.i64.wrap ((k : Int) + 1) = ((k + 1 : Nat) : Int) := by rw [IntWalk.i64_in _ ⟨by omega, by omega⟩]; omega
    clear HLn' h2 h3 hlen
    by_cases hlt : k < L.length
    · have hmes : L.length - ((k + 1 : Nat) : Int).toNat < L.length - (k : Int).toNat := by omega
      obtain ⟨⟨i, l⟩, hx⟩ : ∃ x, L[k]? = some x := ⟨_, List.getElem?_eq_getElem hlt⟩
      obtain ⟨hi, hl⟩ := HL.out (i, l) (List.mem_of_getElem? hx)
      obtain ⟨cur, hgr, hzr, hcr, hxr, hcsr⟩ := hRbr
      have hlen : (layAll kept (L.take k)).length = n := by rw [layAll_len, hn]
      have hlt' : (k : Int) < (L.length : Int) := by omega
      have H := And.intro hcr (And.intro hxr hcsr)
      have HH := hid H
      have Hmr := hid hmr
      have HFr := hid hFr
      have HRar := hid hRar
      clear H hcr hxr hcsr hFr hRar
      go_upto_region 10 with fail
      refine h_openL (S := fun w' => w'.heap[p]? = wr.heap[p]? ∧ w'.heap[m]? = wr.heap[m]?) (by kernel_rfl) (by kernel_rfl) (fun _ _ _ _ _ h => h) (L := #[false, false, false, false, false, false, false, false, false, false, false]) (by kernel_rfl) ?_
      intro Q' hns hP hN
      have hS := (show wr.drew.heap[p]? = wr.heap[p]? ∧ wr.drew.heap[m]? = wr.heap[m]? from ⟨rfl, rfl⟩)
      refine h_takeL (i := 0) (v := .pointer (some ⟨p, 0, none⟩)) hns rfl rfl (by kernel_rfl) (by kernel_rfl) hP (y_move rfl (by kernel_rfl) (by kernel_rfl)) hS rfl (L' := #[true, false, false, false, false, false, false, false, false, false, false]) (by kernel_rfl) ?_
      refine h_takeL (i := 1) (v := .pointer (some ⟨p, 0, none⟩)) hns rfl rfl (by kernel_rfl) (by kernel_rfl) hP (y_nil rfl (by kernel_rfl) (by kernel_rfl)) hS rfl (L' := #[true, true, false, false, false, false, false, false, false, false, false]) (by kernel_rfl) ?_
      refine h_takeL (i := 2) (v := .pointer (some ⟨p, 2, none⟩)) hns rfl rfl (by kernel_rfl) (by kernel_rfl) hP (y_faddr rfl (by kernel_rfl) (by kernel_rfl) (fa67_2 (p))) hS rfl (L' := #[true, true, true, false, false, false, false, false, false, false, false]) (by kernel_rfl) ?_
      refine h_takeL (i := 3) (v := .map (some m)) hns rfl rfl (by kernel_rfl) (by kernel_rfl) hP (y_load rfl (by kernel_rfl) (by kernel_rfl) (fun w h => load1 Try.isAgg65 (cell_at (h.1.trans hDr) 2 rfl))) hS rfl (L' := #[true, true, true, true, false, false, false, false, false, false, false]) (by kernel_rfl) ?_
      refine h_takeL (i := 4) (v := .int .i64 k) hns rfl rfl (by kernel_rfl) (by kernel_rfl) hP (y_move rfl (by kernel_rfl) (by kernel_rfl)) hS rfl (L' := #[true, true, true, true, true, false, false, false, false, false, false]) (by kernel_rfl) ?_
      refine h_takeL (i := 5) (v := wv (i, l)) hns rfl rfl (by kernel_rfl) (by kernel_rfl) hP (y_look rfl (by kernel_rfl) (by kernel_rfl) (by kernel_rfl) (fun w' h => look_in0 (w := w') (h.2.trans hmr) k (i, l) hx)) hS rfl (L' := #[true, true, true, true, true, true, false, false, false, false, false]) (by kernel_rfl) ?_
      refine h_takeL (i := 6) (v := .pointer (some ⟨p, 0, none⟩)) hns rfl rfl (by kernel_rfl) (by kernel_rfl) hP (y_move rfl (by kernel_rfl) (by kernel_rfl)) hS rfl (L' := #[true, true, true, true, true, true, true, false, false, false, false]) (by kernel_rfl) ?_
      simp only [List.setIfInBounds_toArray, List.set_cons_zero, List.set_cons_succ]
      refine h_takeL (i := 7) (v := .pointer (some ⟨p, 0, none⟩)) hns rfl rfl (by kernel_rfl) (by kernel_rfl) hP (y_nil rfl (by kernel_rfl) (by kernel_rfl)) hS rfl (L' := #[true, true, true, true, true, true, true, true, false, false, false]) (by kernel_rfl) ?_
      refine h_takeL (i := 8) (v := .pointer (some ⟨p, 1, none⟩)) hns rfl rfl (by kernel_rfl) (by kernel_rfl) hP (y_faddr rfl (by kernel_rfl) (by kernel_rfl) (fa67_1 (p))) hS rfl (L' := #[true, true, true, true, true, true, true, true, true, false, false]) (by kernel_rfl) ?_
      refine h_takeL (i := 9) (v := .slice (some ⟨b, 0, none⟩) n cb) hns rfl rfl (by kernel_rfl) (by kernel_rfl) hP (y_load rfl (by kernel_rfl) (by kernel_rfl) (fun w h => load1 Try.isAgg58 (cell_at (h.1.trans hDr) 1 rfl))) hS rfl (L' := #[true, true, true, true, true, true, true, true, true, true, false]) (by kernel_rfl) ?_
      refine h_callL (i := 10) (f := 37) (args := #[wv (i, l), .slice (some ⟨b, 0, none⟩) n cb]) (by kernel_rfl) rfl rfl (by kernel_rfl) (enter_go rfl (by kernel_rfl) (fun w => by go_simp)) (L' := #[true, true, true, true, true, true, true, true, true, true, true]) (by kernel_rfl) ?_
      refine (lay_w i l b n cb cur wr.drew hl hi hgr (by rw [← hlen]; exact hzr)).mono ?_
      rintro e w4 ⟨rfl, rfl⟩
      have hF4 := lay_fr wr b cur i l
      refine ⟨.tuple #[], rfl, ⟨hF4.block p (heap_lt hDr) (by simpa using hpb), hF4.block m (heap_lt hmr) (by simpa using hmb)⟩, ?_⟩
      simp only [List.setIfInBounds_toArray, List.set_cons_zero, List.set_cons_succ]
      refine wpAnyH_done (by kernel_rfl) ?_ _
      refine hN _ _ ?_
      clear hP hN hns
      have hRb4 := lay_row (w := wr.drew) (ss := layAll kept (L.take k)) hgr hzr HH.out.1 HH.out.2.1 HH.out.2.2 i (by rw [hlen]; exact hi) l hl
      have hs : (layAll kept (L.take k)).set i l = layAll kept (L.take (k + 1)) := (layAll_take kept L k (i, l) hx).symm
      rw [hs] at hRb4
      have hD4 := hDr.fr hF4 (by simpa using hpb)
      have hm4 : Mp (laidW wr.drew b cur i l) m L := hF4.at Hmr.out (by simpa using hmb)
      have hRa4 := HRar.out.fr hF4 (by simpa using hab)
      have hF4' : Fr [p, b] w (laidW wr.drew b cur i l) := HFr.out.trans hF4 (by simp)
      clear hDr hmr hF4 hS hgr hzr HH Hmr HRar HFr hs
      generalize laidW wr.drew b cur i l = w4 at *
      go_upto_region 11 with fail
      refine wp_region_lit ?_
      refine wp_addi (z := ((k + 1 : Nat) : Int)) (by kernel_rfl) (by kernel_rfl) hwk ?_
      refine wp_move (v := .int .i64 (k + 1 : Nat)) (by kernel_rfl) ?_
      dsimp only [Act.put]
      simp only [List.setIfInBounds_toArray, List.set_cons_zero, List.set_cons_succ]
      refine wp_end ?_
      go_wp2_with fail
      go_roundw
      case rel => exact ⟨k + 1, hlt, rfl, hD4, hRa4, hRb4, hm4, hF4'⟩
      case measure => exact hmes
    · obtain rfl : k = L.length := by omega
      rw [List.take_length] at hRbr
      have hlt' : ¬ (L.length : Int) < (L.length : Int) := by omega
      have hFa : Fr [] wr (wr.alloc (.map #[] 0)) := Fr.alloc _ _
      have hDa := hDr.fr hFa (by simp)
      have c2' := hDa.c2
      have f2' := hDa.f 2
      go_upto_region 12 with fail
      refine wp_region_lit ?_
      refine wp_move (v := .pointer (some ⟨p, 0, none⟩)) (by kernel_rfl) ?_
      refine wp_makeMap (makeMap65 wr) ?_
      refine wp_nil (v := ⟨p, 0, none⟩) (by kernel_rfl) ?_
      refine wp_faddr (by kernel_rfl) (fa67_2 (p) _) ?_
      refine wp_store (by kernel_rfl) (by kernel_rfl) (store1 (t := 65) Try.sizeOf65 (.map (some wr.heap.size)) rfl rfl c2' f2') ?_
      dsimp only [Act.put]
      simp only [List.setIfInBounds_toArray, List.set_cons_zero, List.set_cons_succ]
      refine wp_end ?_
      have hDb : Dc ((wr.alloc (.map #[] 0)).setCell ⟨p, 2, none⟩ (.map (some wr.heap.size))) p (.slice (some ⟨a, 0, none⟩) n ca) (.slice (some ⟨b, 0, none⟩) n cb) wr.heap.size ops cut false := heap_setCell hDa 2 _
      have hFb : Fr [p] wr ((wr.alloc (.map #[] 0)).setCell ⟨p, 2, none⟩ (.map (some wr.heap.size))) := (hFa.mono (by simp)).trans (Fr.setCell _ p 2 _) (by simp)
      have hmp : wr.heap.size ≠ p := by have := heap_lt hDr; omega
      have hmb' : Mp ((wr.alloc (.map #[] 0)).setCell ⟨p, 2, none⟩ (.map (some wr.heap.size))) wr.heap.size [] := (Fr.setCell (wr.alloc (.map #[] 0)) p 2 (.map (some wr.heap.size))).at (heap_alloc_last wr (.map #[] 0)) (by simpa using hmp)
      have hRab := hRar.fr hFb (by simpa using hpa.symm)
      have hRbb := hRbr.fr hFb (by simpa using hpb.symm)
      have hFw := hFr.trans hFb (by simp)
      have hsz : w.heap.size ≤ wr.heap.size := hFr.size
      clear hDr hRar hRbr hmr hFr hFa hDa c2' f2' hFb
      generalize wr.heap.size = m' at *
      generalize (wr.alloc (.map #[] 0)).setCell ⟨p, 2, none⟩ (.map (some m')) = w5 at *
      have h3 := hDb.c3
      have f3 := hDb.f 3
      go_wp2
      go_ret
      exact ⟨rfl, m', hsz, heap_setCell hDb 3 _, hRab.fr (Fr.setCell w5 p 3 _) (by simpa using hpa.symm), hRbb.fr (Fr.setCell w5 p 3 _) (by simpa using hpb.symm), (Fr.setCell w5 p 3 _).at hmb' (by simpa using hmp), hFw.trans (Fr.setCell w5 p 3 _) (by simp)⟩
end Go.Proofs.Ytkfomolglangdaa
