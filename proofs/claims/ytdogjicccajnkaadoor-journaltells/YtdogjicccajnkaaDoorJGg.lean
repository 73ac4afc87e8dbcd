/- texts put together: JBegun JBegun2 JShown JRefRead JCmp JRefused JStr JRefWrite JRefWriteN -/
import Derived.Test.YtdogjicccajnkaaDoorJGf
/- The reference's Begun. -/
namespace Go.Proofs.YtdogjicccajnkaaDoor
open Go Go.RowKit

def strV (b : List UInt8) : Value := .string ⟨b.toArray⟩
/-- The reference's journal at block r: its blocks are bl, its count is sq; from B on lies what it may change. -/
def Rj (w : World) (B r : Nat) (bl : List (List UInt8)) (sq : Int) : Prop :=
  ∃ vb, w.heap[r]? = some (.cells #[vb, .int .i64 sq] 51 (0, 0)) ∧ w.ownsRow B 9 1 vb bl.length (bl.map strV)
theorem infoS : (Tryd.prog.info? 9).map (fun i => (i.zero, i.size, i.bytes)) = some (some (.string ByteArray.empty), 1, 16) := by kernel_rfl
def z112 : List UInt8 := List.replicate 112 0
theorem z112_len : z112.length = 112 := by simp [z112]
theorem make33 (w : World) : (Instr.makeSlice 33 (.int .i64 112) (.int .i64 112)).run Tryd.prog w = .ok (.slice (some ⟨w.heap.size, 0, none⟩) 112 112) (w.alloc (.cells (cells8 z112).toArray 5)) := by
  go_simp
  kernel_rfl
theorem bslice49 (w : World) (b : List UInt8) : (Instr.buildSlice 49 1 #[(0, strV b)]).run Tryd.prog w = .ok (.slice (some ⟨w.heap.size, 0, none⟩) 1 1) (w.alloc (.cells #[strV b] 9)) := by
  unfold strV
  go_simp
/-- One string more. -/
theorem more_str {w : World} {B : Nat} {v : Value} {bl : List (List UInt8)} (h : w.ownsRow B 9 1 v bl.length (bl.map strV)) (b : List UInt8) (hn : bl.length ≤ 1000000) (hB : B ≤ w.heap.size) (ty : TypeId) :
    ∃ v' w', (Builtin.append_ #[49, 49] ty #[v, .slice (some ⟨w.heap.size, 0, none⟩) 1 1]).run Tryd.prog (w.alloc (.cells #[strV b] 9)) = .ok v' w' ∧ w'.ownsRow B 9 1 v' (bl ++ [b]).length ((bl ++ [b]).map strV) ∧ Below B w w' := by
  cases hie : Tryd.prog.info? 9 with
  | none => have := infoS; rw [hie] at this; cases this
  | some i0 =>
    have hi := infoS
    rw [hie] at hi
    simp only [Option.map_some, Option.some.injEq, Prod.mk.injEq] at hi
    obtain ⟨hz0, hz1, hz2⟩ := hi
    obtain ⟨v', w', hr, ho, hg, _⟩ := run_append_own_at (P := Tryd.prog) (w := w.alloc (.cells #[strV b] 9)) B 49 ty 9 i0 (.string ByteArray.empty) 1 16 Tryd.underlying49 hie hz0 hz1 hz2 rfl (by decide) v bl.length _ (h.alloc _) ⟨w.heap.size, 0, none⟩ 1 1 [strV b]
      rfl (fun j u hj => by rw [Addr.add_lit, Nat.zero_add]; exact cell_at (heap_alloc_last w _) j (by simpa using hj)) (fun u hu => by have e : u = strV b := List.mem_singleton.1 hu; rw [e]; rfl) (by unfold maxLen; omega) (by omega) (by show B ≤ (w.heap.push _).size; simp; omega)
    refine ⟨v', w', hr, ?_, ?_⟩
    · rw [List.length_append, List.map_append]
      exact ho
    · have hF : Below B (w.alloc (.cells #[strV b] 9)) w' := ⟨hg.os, hg.tape, hg.output, hg.size, fun k hk => hg.block k (by show k < (w.heap.push _).size; simp; omega) (fun e => by
        rcases h.2 with ⟨rfl, _⟩ | ⟨g, cap, cur, rfl, hb, _⟩
        · simp [Value.ownBlock] at e
        · simp [Value.ownBlock] at e; omega)⟩
      exact (((Below.refl _ w).alloc (Nat.le_refl _) _).mono hB).trans hF
theorem fa51_0 (b : Nat) (w : World) : (Instr.fieldAt 51 (.pointer (some ⟨b, 0, none⟩)) 0).run Tryd.prog w = .ok (.pointer (some ⟨b, 0, none⟩)) w := by go_simp
theorem owns_set {w : World} {B r : Nat} {v : Value} {n : Nat} {xs : List Value} (h : w.ownsRow B 9 1 v n xs) (hr : r < B) (i : Nat) (u : Value) : (w.setCell ⟨r, i, none⟩ u).ownsRow B 9 1 v n xs := by
  obtain ⟨h1, h2⟩ := h
  refine ⟨h1, ?_⟩
  rcases h2 with h2 | ⟨g, cap, cur, rfl, hb, hg, r2⟩
  · exact .inl h2
  · exact .inr ⟨g, cap, cur, rfl, hb, (Fr.setCell w r i u).at hg (by simp; omega), r2⟩
set_option maxRecDepth 100000 in
set_option maxHeartbeats 4000000 in
theorem refBegun_any (n : Nat) (h0 : 32 ≤ n) (h1 : n ≤ 16384) (w : World) :
    Calls Tryd.prog 33 #[.int .i64 n] w fun e w' => ∃ r, w.heap.size ≤ r ∧ e = .returned (.pointer (some ⟨r, 0, none⟩)) ∧ Rj w' (r + 1) r (zeros (nbOf n)) 0 ∧ Below w.heap.size w w' := by
  have HB := hid (fun w => refBlocks_any n h0 h1 w)
  have hnb : nbOf n ≤ 8192 := by unfold nbOf; omega
  have HNB := hid hnb
  clear h0 h1 hnb
  generalize nbOf n = nb at *
  go_enter Tryd.func33, Tryd.ntmps33
  go_wp2_with fail
  have hB0 : Below w.heap.size w (w.alloc (.cells #[.slice none 0 0, .int .i64 0] 51)) := (Below.refl _ _).alloc (Nat.le_refl _) _
  have hr0 : (w.alloc (.cells #[.slice none 0 0, .int .i64 0] 51)).heap[w.heap.size]? = some (.cells #[.slice none 0 0, .int .i64 0] 51 (0, 0)) := heap_alloc_last w _
  generalize w.alloc (.cells #[.slice none 0 0, .int .i64 0] 51) = w0 at *
  generalize hrb : w.heap.size = rb at *
  go_loopw [4] (fun y wr => ∃ (k : Nat) (vb : Value), k ≤ nb ∧ y = .int .i64 k ∧ wr.heap[rb]? = some (.cells #[vb, .int .i64 0] 51 (0, 0)) ∧ wr.ownsRow (rb + 1) 9 1 vb (zeros k).length ((zeros k).map strV) ∧ Below rb w wr) (fun y _ => nb - (intOf y).toNat)
  case atStart => exact ⟨0, _, by omega, rfl, hr0, World.ownsRow_nil _ _ _ _, hB0⟩
  case round =>
    clear hr0 hB0
    obtain ⟨k, vb, hk, rfl, hr, ho, hBr⟩ := hrel
    have hnb := HNB.out
    have hwk : IntKind.i64.wrap ((k : Int) + 1) = ((k + 1 : Nat) : Int) := by rw [IntWalk.i64_in _ ⟨by omega, by omega⟩]; omega
    by_cases hlt : k < nb
    · have hlt' : (k : Int) < (nb : Int) := by omega
      have hrl := heap_lt hr
      obtain ⟨wa, hwa⟩ : ∃ wa, wa = wr.drew.alloc (.cells (cells8 z112).toArray 5) := ⟨_, rfl⟩
      have hmk := make33 wr.drew
      rw [← hwa] at hmk
      have hra : wa.heap[wr.heap.size]? = some (.cells (cells8 z112).toArray 5 (0, 0)) := by rw [hwa]; exact heap_alloc_last wr.drew _
      have hBa : Below wr.heap.size wr wa := by
        have h2 : Below wr.drew.heap.size wr.drew wa := by rw [hwa]; exact (Below.refl _ _).alloc (Nat.le_refl _) _
        exact ⟨h2.os, h2.tape, h2.output, h2.size, h2.block⟩
      have hoa : wa.ownsRow (rb + 1) 9 1 vb (zeros k).length ((zeros k).map strV) := by rw [hwa]; exact World.ownsRow.alloc (show wr.drew.ownsRow _ _ _ _ _ _ from ho) _
      have hcv : (convert 33 9 (.slice (some ⟨wr.heap.size, 0, none⟩) 112 112)).run Tryd.prog wa = .ok (strV z112) wa := by
        have hrd : Rd wa wr.heap.size 0 z112 := fun j hj => by
          rw [Nat.zero_add]
          exact cell_at hra j (by rw [List.getElem?_toArray]; exact cells8_get _ j hj)
        have h3 := conv_sl (Sl.mk (cap := 112) hrd (by rw [z112_len]; exact Nat.le_refl _))
        rw [z112_len] at h3
        exact h3
      have hjr : wa.heap[rb]? = some (.cells #[vb, .int .i64 0] 51 (0, 0)) := below_at hBa hr hrl
      obtain ⟨v', wc, hap, hoc, hBc⟩ := more_str hoa z112 (by unfold zeros; rw [List.length_replicate]; omega) (by have := heap_lt hjr; omega) 49
      have hbs := bslice49 wa z112
      obtain ⟨wb, hwb⟩ : ∃ wb, wb = wa.alloc (.cells #[strV z112] 9) := ⟨_, rfl⟩
      rw [← hwb] at hbs hap
      have hjb : wb.heap[rb]? = some (.cells #[vb, .int .i64 0] 51 (0, 0)) := by rw [hwb]; exact below_at ((Below.refl wa.heap.size wa).alloc (Nat.le_refl _) _) hjr (heap_lt hjr)
      have hjc : wc.heap[rb]? = some (.cells #[vb, .int .i64 0] 51 (0, 0)) := below_at hBc hjr (by omega)
      have hz : zeros (k + 1) = zeros k ++ [z112] := by unfold zeros z112; rw [List.replicate_succ']
      have hst : (Instr.storeAt 49 (.pointer (some ⟨rb, 0, none⟩)) v').run Tryd.prog wc = .ok () (wc.setCell ⟨rb, 0, none⟩ v') := store1 Tryd.sizeOf49 v' (by
        rcases hoc.2 with ⟨rfl, _⟩ | ⟨g, cap, cur, rfl, _⟩ <;> rfl) (by
        rcases hoc.2 with ⟨rfl, _⟩ | ⟨g, cap, cur, rfl, _⟩ <;> rfl) (cell_at hjc 0 rfl) (open_at hjc 0)
      have HZ : Hid ((wc.setCell ⟨rb, 0, none⟩ v').heap[rb]? = some (.cells #[v', .int .i64 0] 51 (0, 0)) ∧ (wc.setCell ⟨rb, 0, none⟩ v').ownsRow (rb + 1) 9 1 v' (zeros (k + 1)).length ((zeros (k + 1)).map strV) ∧ Below rb w (wc.setCell ⟨rb, 0, none⟩ v')) := hid ⟨heap_setCell hjc 0 v', by rw [hz]; exact owns_set hoc (by omega) 0 v', (hBr.trans (hBa.mono (by omega))).trans ((hBc.mono (by omega)).trans ((Fr.setCell wc rb 0 v').below (by have := heap_lt hjc; omega) (by simp)))⟩
      have HMK := hid hmk
      have HCV := hid hcv
      have HBS := hid hbs
      have HAP := hid hap
      have HST := hid hst
      have HR := hid hr
      have HJA := hid hjr
      have HJB := hid hjb
      have HJC := hid hjc
      clear hmk hra hBa hoa hcv hjr hap hoc hBc hbs hjb hjc hz hst hr ho hBr hwa hwb hrl
      go_wp2_with fail
      refine (HB.out _).mono ?_
      rintro e wz ⟨rfl, hwz⟩
      obtain rfl := hwz.symm
      go_upto_region 5 with fail
      refine z_open (S := fun w' => w'.heap[rb]? = some (.cells #[vb, .int .i64 0] 51 (0, 0))) 11 (by kernel_rfl) (by kernel_rfl) (fun _ _ _ _ _ h => h) (L := #[false, false, false, false, false, false, false, false, false, false, false, false]) (by kernel_rfl) ?_
      intro Q' hns hP hN
      have hS := (show wr.drew.heap[rb]? = some (.cells #[vb, .int .i64 0] 51 (0, 0)) from HR.out)
      refine z_pure (i := 0) (v := .pointer (some ⟨rb, 0, none⟩)) hns rfl rfl rfl (by kernel_rfl) (by kernel_rfl) hP (y_move rfl (by kernel_rfl) (by kernel_rfl)) (fun _ => hS) rfl (L' := #[true, false, false, false, false, false, false, false, false, false, false, false]) (by kernel_rfl) ?_
      refine z_pure (i := 1) (v := .pointer (some ⟨rb, 0, none⟩)) hns rfl rfl rfl (by kernel_rfl) (by kernel_rfl) hP (y_move rfl (by kernel_rfl) (by kernel_rfl)) (fun _ => hS) rfl (L' := #[true, true, false, false, false, false, false, false, false, false, false, false]) (by kernel_rfl) ?_
      refine z_pure (i := 2) (v := .pointer (some ⟨rb, 0, none⟩)) hns rfl rfl rfl (by kernel_rfl) (by kernel_rfl) hP (y_nil rfl (by kernel_rfl) (by kernel_rfl)) (fun _ => hS) rfl (L' := #[true, true, true, false, false, false, false, false, false, false, false, false]) (by kernel_rfl) ?_
      refine z_pure (i := 3) (v := .pointer (some ⟨rb, 0, none⟩)) hns rfl rfl rfl (by kernel_rfl) (by kernel_rfl) hP (y_faddr rfl (by kernel_rfl) (by kernel_rfl) (fa51_0 (rb))) (fun _ => hS) rfl (L' := #[true, true, true, true, false, false, false, false, false, false, false, false]) (by kernel_rfl) ?_
      refine z_read (i := 4) (v := vb) hns rfl (by kernel_rfl) rfl rfl (by kernel_rfl) (by kernel_rfl) hP (y_load rfl (by kernel_rfl) (by kernel_rfl) (fun w' h => load1 Tryd.isAgg49 (cell_at h 0 rfl))) rfl hS rfl (L' := #[true, true, true, true, true, false, false, false, false, false, false, false]) (by kernel_rfl) ?_
      refine z_val (i := 5) (v := .slice (some ⟨wr.heap.size, 0, none⟩) 112 112) (by kernel_rfl) rfl rfl (by kernel_rfl) (run_mkOp rfl (by kernel_rfl) (by kernel_rfl) HMK.out) HJA.out rfl (L' := #[true, true, true, true, true, true, false, false, false, false, false, false]) (by kernel_rfl) ?_
      refine z_val (i := 6) (v := strV z112) (by kernel_rfl) rfl rfl (by kernel_rfl) (run_cvOp rfl (by kernel_rfl) HCV.out) HJA.out rfl (L' := #[true, true, true, true, true, true, true, false, false, false, false, false]) (by kernel_rfl) ?_
      simp only [List.setIfInBounds_toArray, List.set_cons_zero, List.set_cons_succ]
      refine z_val (i := 7) (v := .slice (some ⟨wa.heap.size, 0, none⟩) 1 1) (by kernel_rfl) rfl rfl (by kernel_rfl) (run_bsOp rfl (by kernel_rfl) HBS.out) HJB.out rfl (L' := #[true, true, true, true, true, true, true, true, false, false, false, false]) (by kernel_rfl) ?_
      refine z_val (i := 8) (v := v') (by kernel_rfl) rfl rfl (by kernel_rfl) (run_appOp rfl (by kernel_rfl) (by kernel_rfl) HAP.out) HJC.out rfl (L' := #[true, true, true, true, true, true, true, true, true, false, false, false]) (by kernel_rfl) ?_
      refine z_pure (i := 9) (v := .pointer (some ⟨rb, 0, none⟩)) hns rfl rfl rfl (by kernel_rfl) (by kernel_rfl) hP (y_nil rfl (by kernel_rfl) (by kernel_rfl)) (fun _ => HJC.out) rfl (L' := #[true, true, true, true, true, true, true, true, true, true, false, false]) (by kernel_rfl) ?_
      refine z_pure (i := 10) (v := .pointer (some ⟨rb, 0, none⟩)) hns rfl rfl rfl (by kernel_rfl) (by kernel_rfl) hP (y_faddr rfl (by kernel_rfl) (by kernel_rfl) (fa51_0 (rb))) (fun _ => HJC.out) rfl (L' := #[true, true, true, true, true, true, true, true, true, true, true, false]) (by kernel_rfl) ?_
      refine z_last (by kernel_rfl) rfl rfl (by kernel_rfl) (run_storeOp rfl (by kernel_rfl) (by kernel_rfl) HST.out) rfl (L' := #[true, true, true, true, true, true, true, true, true, true, true, true]) (by kernel_rfl) ?_
      try simp only [List.setIfInBounds_toArray, List.set_cons_zero, List.set_cons_succ]
      refine z_done (by kernel_rfl) ?_ _
      refine hN _ _ ?_
      clear hP hN hns
      clear HMK HCV HBS HAP HST HR HJA HJB HJC hS
      generalize wc.setCell ⟨rb, 0, none⟩ v' = wd at *
      go_wp2
      exact ⟨⟨k + 1, _, hlt, rfl, HZ.out⟩, by simp [intOf]; omega⟩
    · have hlt' : ¬ (k : Int) < (nb : Int) := by omega
      have hkn : k = nb := by omega
      rw [hkn] at ho
      have HZ : Hid (Rj wr (rb + 1) rb (zeros nb) 0 ∧ Below rb w wr) := hid ⟨⟨vb, hr, ho⟩, hBr⟩
      clear hr ho hBr hkn hnb
      go_wp2_with fail
      refine (HB.out _).mono ?_
      rintro e wz ⟨rfl, hwz⟩
      obtain rfl := hwz.symm
      go_wp2
      go_ret
      exact ⟨rb, by omega, rfl, HZ.out.1, by first | exact HZ.out.2 | rw [hrb]; exact HZ.out.2⟩
end Go.Proofs.YtdogjicccajnkaaDoor
/- The law's begun: a journal on a new disk. -/
namespace Go.Proofs.YtdogjicccajnkaaDoor
open Go Go.RowKit

theorem notesR_zero (nb : Nat) (sq : Int) : ∀ (L : List (List UInt8)) (i : Nat) (ns : List (Nat × List UInt8)), notesR nb sq ((0 : Nat) : Int) i L = some ns → ns = []
  | [], i, ns, h => by simp [notesR] at h; exact h
  | l :: L, i, ns, h => by
    have hs : ∀ a, noteStep nb sq ((0 : Nat) : Int) i l = some a → a = [] := fun a ha => by
      unfold noteStep at ha
      split at ha
      · cases ha
      · rw [if_pos (by omega)] at ha; cases ha; rfl
    simp only [notesR] at h
    cases hn : noteStep nb sq ((0 : Nat) : Int) i l with
    | none => rw [hn] at h; cases h
    | some a =>
      rw [hn] at h
      simp only [Option.map_eq_some_iff] at h
      obtain ⟨b, hb, rfl⟩ := h
      rw [hs a hn, notesR_zero nb sq L (i + 1) b hb]
      rfl
theorem Con.opens0 {s : DS} {sq : Nat} {bl : List (List UInt8)} (h : Con s.now (nbOf s.n) sq 0 bl) (hl : s.loose = []) : s.openR = (0, ((sq : Nat) : Int), s) := by
  obtain ⟨ns, hns, _, _⟩ := h.notesOf
  have h0 := notesR_zero _ _ _ _ _ hns
  subst h0
  unfold DS.openR
  rw [h.last, if_neg (by simp)]
  simp only [hns]
  rw [if_neg (by rw [h.ok]; decide), List.filter_nil]
  unfold DS.mendR
  rw [hl]
  simp
theorem tab_lt {w : World} (h : Tab w) : 0 < w.heap.size := World.block_lt_of_cell? w _ (h 0 (by decide))
theorem open_first {w : World} {p : Nat} {X : List Nat} {s : DS} {sq : Nat} {bl : List (List UInt8)} (hD : Disk w p X s) (ht : Tab w) (hS : Sett s sq 0 bl) (hn : 0 ∉ X) :
    Calls Tryd.prog 13 #[.pointer (some ⟨p, 0, none⟩)] w fun e w' => ∃ j X', w.heap.size ≤ j ∧ e = .returned (.tuple #[.pointer (some ⟨j, 0, none⟩), .int .i64 0]) ∧ Jr w' j p X' s sq 0 bl ∧ (∀ k ∈ X', k ∈ X ∨ w.heap.size ≤ k) ∧ Fr X w w' := by
  refine (open_any hD ht hS.gone hS.n32).mono ?_
  rintro e w' ⟨⟨X', hD', hX'⟩, hF, hr⟩
  rw [hS.con.opens0 hS.loose] at hD' hr
  rcases hr with ⟨hne, _⟩ | ⟨_, j, hj, he, hJ⟩
  · exact absurd rfl hne
  · exact ⟨j, X', hj, he, ⟨hJ, hD', ht.fr hF hn, hS⟩, hX', hF⟩
/-- What begun leaves. -/
def Begun (w : World) (n : Nat) (e : Ending) (w' : World) : Prop :=
  ∃ p j r X s, e = .returned (.tuple #[.pointer (some ⟨p, 0, none⟩), .pointer (some ⟨j, 0, none⟩), .pointer (some ⟨r, 0, none⟩)]) ∧ Jr w' j p X s 0 0 (zeros (nbOf n)) ∧ s.n = n ∧ s.cut = -1 ∧ s.ops = ((2 * nbOf n + 3 : Nat) : Int) ∧ Rj w' (r + 1) r (zeros (nbOf n)) 0 ∧ (∀ k ∈ X, w.heap.size ≤ k) ∧ w.heap.size ≤ j ∧ w.heap.size ≤ r ∧ Below w.heap.size w w'
set_option maxRecDepth 100000 in
set_option maxHeartbeats 2000000 in
theorem begun_any (n : Nat) (h0 : 32 ≤ n) (h1 : n ≤ 16384) (w : World) (ht : Tab w) : Calls Tryd.prog 19 #[.int .i64 n] w (Begun w n) := by
  have HN := hid (new_d w n (by omega) h1)
  have HT := hid ht
  have H0 := hid h0
  have H1 := hid h1
  have HTL := hid (tab_lt ht)
  clear ht h0 h1
  go_enter Tryd.func19, Tryd.ntmps19
  go_wp2_with fail
  refine HN.out.mono ?_
  rintro e w1 ⟨p, X1, rfl, hD1, hX1, hB1⟩
  have hnot : ∀ {X : List Nat}, (∀ k ∈ X, w.heap.size ≤ k) → 0 ∉ X := fun h hm => by
    have h2 := h _ hm
    have h3 := HTL.out
    omega
  have hnb : nbOf n < 8192 := by have := H1.out; unfold nbOf; omega
  have HF := hid (format_rest hD1 (HT.out.below hB1) rfl (show 32 ≤ (DS.new n).n from H0.out) rfl (by show (0 : Int) + _ ≤ _; show (0 : Int) + ((2 * nbOf n + 3 : Nat) : Int) ≤ 1048576; omega) (hnot hX1))
  have HB1 := hid hB1
  have HX1 := hid hX1
  clear hD1 hB1 hX1 HN hnb
  go_wp2_with fail
  refine HF.out.mono ?_
  rintro e w2 ⟨rfl, s2, X2, hD2, hT2, hS2, h21, h22, h23, hX2, hF2⟩
  have hB2 : Below w.heap.size w w2 := HB1.out.trans (hF2.below HB1.out.size HX1.out)
  have hX2' : ∀ k ∈ X2, w.heap.size ≤ k := fun k hk => by
    rcases hX2 k hk with h | h
    · exact HX1.out k h
    · exact Nat.le_trans HB1.out.size h
  have HO := hid (open_first hD2 hT2 hS2 (hnot hX2'))
  have HB2 := hid hB2
  have HX2 := hid hX2'
  have HS := hid (show s2.n = n ∧ s2.cut = -1 ∧ s2.ops = ((2 * nbOf n + 3 : Nat) : Int) from ⟨h21, h22, by rw [h23]; show (0 : Int) + _ = _; rw [Int.zero_add]; rfl⟩)
  clear hD2 hT2 hS2 h21 h22 h23 hX2 hF2 hB2 hX2' HB1 HX1 HF hnot
  go_wp2_with fail
  refine HO.out.mono ?_
  rintro e w3 ⟨j, X3, hj, rfl, hJ3, hX3, hF3⟩
  have hB3 : Below w.heap.size w w3 := HB2.out.trans (hF3.below HB2.out.size HX2.out)
  have hX3' : ∀ k ∈ X3, w.heap.size ≤ k := fun k hk => by
    rcases hX3 k hk with h | h
    · exact HX2.out k h
    · exact Nat.le_trans HB2.out.size h
  have hj' : w.heap.size ≤ j := Nat.le_trans HB2.out.size hj
  have HJ3 := hid hJ3
  have HB3 := hid hB3
  have HX3 := hid hX3'
  have HRB := hid (refBegun_any n H0.out H1.out w3)
  clear hj hJ3 hX3 hF3 hB3 hX3' HO HB2 HX2
  go_wp2_with fail
  refine HRB.out.mono ?_
  rintro e w4 ⟨r, hr, rfl, hR, hB4⟩
  have HZ : Hid (Begun w n (.returned (.tuple #[.pointer (some ⟨p, 0, none⟩), .pointer (some ⟨j, 0, none⟩), .pointer (some ⟨r, 0, none⟩)])) w4) := hid ⟨p, j, r, X3, s2, rfl, HJ3.out.below hB4, HS.out.1, HS.out.2.1, HS.out.2.2, hR, HX3.out, hj', Nat.le_trans HB3.out.size hr, HB3.out.trans (hB4.mono HB3.out.size)⟩
  clear hr hR hB4 HRB HJ3 HB3 HX3 hj' HS
  go_wp2
  go_ret3
  exact HZ.out
end Go.Proofs.YtdogjicccajnkaaDoor
/- The law's shown: some of the document's examples. -/
namespace Go.Proofs.YtdogjicccajnkaaDoor
open Go Go.RowKit

def x57 : List UInt8 := z112.set 5 7
theorem x57_len : x57.length = 112 := by simp [x57, z112_len]
theorem idx33 (b n cap k : Nat) (h : k < n) (w : World) : (Instr.indexAt 33 (.slice (some ⟨b, 0, none⟩) n cap) (.int .i64 k)).run Tryd.prog w = .ok (.pointer (some ⟨b, k, none⟩)) w := by
  have h1 : (k : Int) < n := by omega
  go_simp
theorem bslice43 (w : World) (x : Int) : (Instr.buildSlice 43 1 #[(0, .int .i64 x)]).run Tryd.prog w = .ok (.slice (some ⟨w.heap.size, 0, none⟩) 1 1) (w.alloc (.cells #[.int .i64 x] 3)) := by go_simp
theorem bslice46a (w : World) (g n c : Nat) : (Instr.buildSlice 46 1 #[(0, .slice (some ⟨g, 0, none⟩) n c)]).run Tryd.prog w = .ok (.slice (some ⟨w.heap.size, 0, none⟩) 1 1) (w.alloc (.cells #[.slice (some ⟨g, 0, none⟩) n c] 33)) := by go_simp
theorem rw8_not {w : World} {p : Nat} {X : List Nat} {s : DS} {j nb : Nat} {seq off : Int} {g : Nat} {l : List UInt8} (hD : Disk w p X s) (hj : Jn w j p nb seq off) (h : Rw w g 5 l) : g ∉ j :: X := fun hm => by
  rcases List.mem_cons.1 hm with rfl | hm
  · rw [Jn, show w.heap[g]? = _ from h] at hj
    injection hj with hj
    injection hj with h1 h2
    exact absurd h2 (by decide)
  · exact hD.other h (by decide) (by decide) hm
theorem fit57 : Fit 19 [3] [x57] := ⟨rfl, by simp, by simp [hasB], by simp [x57_len]⟩
set_option maxRecDepth 100000 in
set_option maxHeartbeats 8000000 in
theorem shown_any (w : World) (ht : Tab w) : Calls Tryd.prog 9 #[] w fun e w' => e = .returned (.bool true) ∧ Below w.heap.size w w' := by
  have HN := hid (new_d w 40 (by decide) (by decide))
  have HT := hid ht
  have HTL := hid (tab_lt ht)
  clear ht
  have HNOT : Hid (∀ X : List Nat, (∀ k ∈ X, w.heap.size ≤ k) → 0 ∉ X) := hid (fun X h hm => by
    have h2 := h _ hm
    have h3 := HTL.out
    omega)
  go_enter Tryd.func9, Tryd.ntmps9
  go_wp2_with fail
  refine HN.out.mono ?_
  rintro e w1 ⟨p, X1, rfl, hD1, hX1, hB1⟩
  have HO1 := hid (open_any hD1 (HT.out.below hB1) rfl (show 32 ≤ (DS.new 40).n by decide))
  have HB1 := hid hB1
  have HX1 := hid hX1
  clear hD1 hB1 hX1 HN
  go_wp2_with fail
  refine HO1.out.mono ?_
  rintro e w2 ⟨⟨X2, hD2, hX2⟩, hF2, hr2⟩
  rw [open_new 40 (by decide)] at hD2 hr2
  have he : e = .returned (.tuple #[.pointer none, .int .i64 60]) := by
    rcases hr2 with ⟨_, h⟩ | ⟨h, _⟩
    · exact h
    · exact absurd h (by decide)
  subst he
  have hB2 : Below w.heap.size w w2 := HB1.out.trans (hF2.below HB1.out.size HX1.out)
  have hX2' : ∀ k ∈ X2, w.heap.size ≤ k := fun k hk => by
    rcases hX2 k hk with h | h
    · exact HX1.out k h
    · exact Nat.le_trans HB1.out.size h
  have HFM := hid (format_rest hD2 (HT.out.below hB2) rfl (show 32 ≤ (DS.new 40).n by decide) rfl (by decide) (HNOT.out X2 hX2'))
  have HB2 := hid hB2
  have HX2 := hid hX2'
  clear hD2 hr2 hX2 hF2 hB2 hX2' HO1 HB1 HX1
  go_wp2_with fail
  refine HFM.out.mono ?_
  rintro e w3 ⟨rfl, s3, X3, hD3, hT3, hS3, h31, h32, h33, hX3, hF3⟩
  have h31 : s3.n = 40 := h31
  have h33 : s3.ops = 41 := h33
  have hB3 : Below w.heap.size w w3 := HB2.out.trans (hF3.below HB2.out.size HX2.out)
  have hX3' : ∀ k ∈ X3, w.heap.size ≤ k := fun k hk => by
    rcases hX3 k hk with h | h
    · exact HX2.out k h
    · exact Nat.le_trans HB2.out.size h
  have HO3 := hid (open_first hD3 hT3 hS3 (HNOT.out X3 hX3'))
  have HB3 := hid hB3
  have HX3 := hid hX3'
  have HS3 := hid (And.intro h31 (And.intro h32 h33))
  clear hD3 hT3 hS3 h31 h32 h33 hX3 hF3 hB3 hX3' HFM HB2 HX2
  go_wp2_with fail
  refine HO3.out.mono ?_
  rintro e w4 ⟨j, X4, hj, rfl, hJ4, hX4, hF4⟩
  have hB4 : Below w.heap.size w w4 := HB3.out.trans (hF4.below HB3.out.size HX3.out)
  have hX4' : ∀ k ∈ X4, w.heap.size ≤ k := fun k hk => by
    rcases hX4 k hk with h | h
    · exact HX3.out k h
    · exact Nat.le_trans HB3.out.size h
  have hj' : w.heap.size ≤ j := Nat.le_trans HB3.out.size hj
  have hbk := jblocks_any hJ4.jn
  rw [HS3.out.1] at hbk
  have HBK := hid (show Calls Tryd.prog 16 #[.pointer (some ⟨j, 0, none⟩)] w4 fun e w' => e = .returned (.int .i64 19) ∧ w' = w4 from hbk)
  have HJ4 := hid hJ4
  have HB4 := hid hB4
  have HX4 := hid hX4'
  have HJL := hid hj'
  clear hj hJ4 hX4 hF4 hB4 hX4' hj' HO3 HB3 HX3 hbk
  go_wp2_with fail
  refine HBK.out.mono ?_
  rintro e wz ⟨rfl, hwz⟩
  obtain rfl := hwz.symm
  clear HBK
  have hmk := make33 w4
  obtain ⟨w5, hw5⟩ : ∃ w5, w5 = w4.alloc (.cells (cells8 z112).toArray 5) := ⟨_, rfl⟩
  rw [← hw5] at hmk
  have hr5 : Rw w5 w4.heap.size 5 z112 := by rw [hw5]; exact heap_alloc_last w4 _
  have hB5 : Below w4.heap.size w4 w5 := by rw [hw5]; exact (Below.refl _ _).alloc (Nat.le_refl _) _
  have hst := store5r hr5 (k := 5) (by rw [z112_len]; decide) 7
  have hr6 : Rw (w5.setCell ⟨w4.heap.size, 5, none⟩ (cb 7)) w4.heap.size 5 x57 := hr5.set 5 7
  have hB6 : Below w4.heap.size w4 (w5.setCell ⟨w4.heap.size, 5, none⟩ (cb 7)) := hB5.trans ((Fr.setCell w5 w4.heap.size 5 (cb 7)).below hB5.size (by simp))
  have HMK := hid hmk
  have HST := hid hst
  have HR6 := hid hr6
  have HB6 := hid hB6
  clear hmk hst hr6 hB6 hr5 hB5 hw5
  go_upto_region 7 with fail
  refine wp_region_lit ?_
  refine wp_run (v := .slice (some ⟨w4.heap.size, 0, none⟩) 112 112) rfl rfl (run_mkOp rfl (by kernel_rfl) (by kernel_rfl) HMK.out) rfl ?_
  refine wp_y (v := .slice (some ⟨w4.heap.size, 0, none⟩) 112 112) rfl rfl (y_assign rfl (by kernel_rfl) (by kernel_rfl)) rfl ?_
  try simp only [List.setIfInBounds_toArray, List.set_cons_zero, List.set_cons_succ]
  refine wp_end ?_
  go_upto_region 8 with fail
  refine wp_region_lit ?_
  refine wp_y (v := .slice (some ⟨w4.heap.size, 0, none⟩) 112 112) rfl rfl (y_move rfl (by kernel_rfl) (by kernel_rfl)) rfl ?_
  refine wp_y (v := .pointer (some ⟨w4.heap.size, 5, none⟩)) rfl rfl (y_index rfl (by kernel_rfl) (by kernel_rfl) (by kernel_rfl) (idx33 w4.heap.size 112 112 5 (by decide))) rfl ?_
  refine wp_do rfl rfl (run_storeOp rfl (by kernel_rfl) (by kernel_rfl) HST.out) ?_
  try simp only [List.setIfInBounds_toArray, List.set_cons_zero, List.set_cons_succ]
  refine wp_end ?_
  clear HMK HST
  generalize w5.setCell ⟨w4.heap.size, 5, none⟩ (cb 7) = w6 at *
  have HJ6 := hid (HJ4.out.below HB6.out)
  have HB06 := hid (HB4.out.trans (HB6.out.mono HB4.out.size))
  have hxb : w.heap.size ≤ w4.heap.size := HB4.out.size
  clear HJ4 HB4 HB6
  generalize w4.heap.size = xb at *
  clear w5
  have hq7 := bslice43 w6 3
  obtain ⟨w7, hw7⟩ : ∃ w7, w7 = w6.alloc (.cells #[.int .i64 3] 3) := ⟨_, rfl⟩
  rw [← hw7] at hq7
  have hq8 := bslice46a w7 xb 112 112
  obtain ⟨w8, hw8⟩ : ∃ w8, w8 = w7.alloc (.cells #[.slice (some ⟨xb, 0, none⟩) 112 112] 33) := ⟨_, rfl⟩
  rw [← hw8] at hq8
  have hB7 : Below w6.heap.size w6 w7 := by rw [hw7]; exact (Below.refl _ _).alloc (Nat.le_refl _) _
  have hB8 : Below w7.heap.size w7 w8 := by rw [hw8]; exact (Below.refl _ _).alloc (Nat.le_refl _) _
  have hc7 : w7.heap[w6.heap.size]? = some (.cells #[.int .i64 3] 3 (0, 0)) := by rw [hw7]; exact heap_alloc_last w6 _
  have hc8 : w8.heap[w7.heap.size]? = some (.cells #[.slice (some ⟨xb, 0, none⟩) 112 112] 33 (0, 0)) := by rw [hw8]; exact heap_alloc_last w7 _
  have hB68 := hB7.trans (hB8.mono hB7.size)
  have hJ8 := HJ6.out.below hB68
  have hr8 := HR6.out.below hB68 HR6.out.lt
  have hsl : Sl w8 (.slice (some ⟨xb, 0, none⟩) 112 112) x57 := by
    have := Sl.mk (cap := 112) hr8.rd (by rw [x57_len]; exact Nat.le_refl _)
    rw [x57_len] at this; exact this
  have hia : Iz w8 (.slice (some ⟨w6.heap.size, 0, none⟩) 1 1) [3] := ⟨_, 1, rfl, fun k x hx => by
    match k, hx with
    | 0, hx => cases hx; exact ⟨_, 0, rfl, cell_at (below_at hB8 hc7 (heap_lt hc7)) 0 rfl⟩
    | k + 1, hx => simp at hx⟩
  have hib : Bz w8 (.slice (some ⟨w7.heap.size, 0, none⟩) 1 1) [x57] := ⟨_, 1, rfl, fun k hk => by
    have hk0 : k = 0 := by simpa using hk
    subst hk0
    refine ⟨_, 0, some ⟨xb, 0, none⟩, 112, rfl, ?_, ?_⟩
    · show w8.cell? ⟨w7.heap.size, 0 + 0, none⟩ = some (.slice _ x57.length 112)
      rw [x57_len]; exact cell_at hc8 0 rfl
    · show Sl w8 (.slice _ x57.length 112) x57
      rw [x57_len]; exact hsl⟩
  have hcut := HS3.out.2.1
  have hops := HS3.out.2.2
  have hfit : Fit (nbOf s3.n) [3] [x57] := by rw [HS3.out.1]; exact fit57
  have HWR := hid (hJ8.write hcut (by decide) hia hib hfit (by decide) (by rw [hops]; decide))
  have HXN := hid (rw8_not hJ8.disk hJ8.jn hr8)
  have HR8 := hid hr8
  have HB8 := hid (HB06.out.trans (hB68.mono HB06.out.size))
  have HQ7 := hid hq7
  have HQ8 := hid hq8
  clear hq7 hq8 hB7 hB8 hc7 hc8 hB68 hJ8 hr8 hsl hia hib hcut hops hfit hw7 hw8 HR6 HJ6 HB06
  go_upto_region 9 with fail
  refine wp_region_lit ?_
  refine wp_y (v := .pointer (some ⟨j, 0, none⟩)) rfl rfl (y_move rfl (by kernel_rfl) (by kernel_rfl)) rfl ?_
  refine wp_run (v := .slice (some ⟨w6.heap.size, 0, none⟩) 1 1) rfl rfl (run_bsOp rfl (by kernel_rfl) HQ7.out) rfl ?_
  refine wp_y (v := .slice (some ⟨xb, 0, none⟩) 112 112) rfl rfl (y_move rfl (by kernel_rfl) (by kernel_rfl)) rfl ?_
  refine wp_run (v := .slice (some ⟨w7.heap.size, 0, none⟩) 1 1) rfl rfl (run_bsOp rfl (by kernel_rfl) HQ8.out) rfl ?_
  refine wp_call (f := 15) (args := #[.pointer (some ⟨j, 0, none⟩), .slice (some ⟨w6.heap.size, 0, none⟩) 1 1, .slice (some ⟨w7.heap.size, 0, none⟩) 1 1]) (by kernel_rfl) (fun w => by go_simp) ?_
  refine HWR.out.mono ?_
  rintro e w9 ⟨rfl, s9, X9, hJ9, h91, h92, h93, hX9, hF9⟩
  refine ⟨_, rfl, ?_⟩
  dsimp only [Act.put]
  refine wp_y (v := .int .i64 0) rfl rfl (y_assign rfl (by kernel_rfl) (by kernel_rfl)) rfl ?_
  try simp only [List.setIfInBounds_toArray, List.set_cons_zero, List.set_cons_succ]
  refine wp_end ?_
  have hr9 := hF9.at HR8.out HXN.out
  have hB9 : Below w.heap.size w w9 := HB8.out.trans (hF9.below HB8.out.size (fun k hk => by
    rcases List.mem_cons.1 hk with rfl | hk
    · exact HJL.out
    · exact HX4.out k hk))
  have hbl : (layAll (zeros (nbOf (DS.new 40).n)) (wsOf [3] [x57]))[3]? = some x57 := by
    have : wsOf [3] [x57] = [(3, x57)] := rfl
    rw [this]
    show ((zeros 19).set 3 x57)[3]? = some x57
    exact List.getElem?_set_self (by unfold zeros; rw [List.length_replicate]; decide)
  have HRD := hid (show Calls Tryd.prog 14 #[.pointer (some ⟨j, 0, none⟩), .int .i64 3] w9 _ from hJ9.read hbl)
  have HSQ := hid (jseq_any hJ9.jn)
  have HJ9 := hid hJ9
  have HR9 := hid (show Rw w9 xb 5 x57 from hr9)
  have HB9 := hid hB9
  clear hr9 hB9 hbl hJ9 h91 h92 h93 hX9 hF9 HWR HXN HR8 HB8 HQ7 HQ8
  generalize w7.heap.size = b7
  generalize w6.heap.size = b6
  go_wp2_with fail
  refine HRD.out.mono ?_
  rintro e w10 ⟨hB10, g, f, hg, rfl, hf, hfl, hft⟩
  have hcv1 : (convert 33 9 (.slice (some ⟨g, 0, none⟩) 112 112)).run Tryd.prog w10 = .ok (strV x57) w10 := by
    have h1 := hf.rd.part 0 112
    rw [List.drop_zero, hft] at h1
    have h2 := conv_sl (Sl.mk (cap := 112) h1 (by rw [x57_len]; exact Nat.le_refl _))
    rw [x57_len] at h2; exact h2
  have hr10 := HR9.out.below hB10 HR9.out.lt
  have hcv2 : (convert 33 9 (.slice (some ⟨xb, 0, none⟩) 112 112)).run Tryd.prog w10 = .ok (strV x57) w10 := by
    have h2 := conv_sl (Sl.mk (cap := 112) hr10.rd (by rw [x57_len]; exact Nat.le_refl _))
    rw [x57_len] at h2; exact h2
  have hJ10 := HJ9.out.below hB10
  have HSQ := hid (show Calls Tryd.prog 17 #[.pointer (some ⟨j, 0, none⟩)] w10 fun e w' => e = .returned (.int .i64 1) ∧ w' = w10 from jseq_any hJ10.jn)
  have HB10 := hid (HB9.out.trans (hB10.mono HB9.out.size))
  clear hB10 hg hf hfl hft hr10 hJ10 HRD HR9 HJ9 HB9
  unfold strV at hcv1 hcv2
  go_wp2_with fail
  refine HSQ.out.mono ?_
  rintro e wz ⟨rfl, hwz⟩
  obtain rfl := hwz.symm
  go_wp2
  go_ret
  exact ⟨rfl, HB10.out⟩
end Go.Proofs.YtdogjicccajnkaaDoor
/- The reference's Read. -/
namespace Go.Proofs.YtdogjicccajnkaaDoor
open Go Go.RowKit

theorem rj_cell {w : World} {B g cap : Nat} {bl : List (List UInt8)} (h : w.ownsRow B 9 1 (.slice (some ⟨g, 0, none⟩) bl.length cap) bl.length (bl.map strV)) {i : Nat} {b : List UInt8} (hb : bl[i]? = some b) : w.cell? ⟨g, i, none⟩ = some (strV b) := by
  rcases h.2 with ⟨h, _⟩ | ⟨g', cap', cur, hv, hbb, hg, hc, hm, hs, ht⟩
  · cases h
  · cases hv
    refine cell_at hg i ?_
    have h1 : (bl.map strV)[i]? = some (strV b) := by rw [List.getElem?_map, hb]; rfl
    rw [← ht, List.getElem?_take_of_lt (by have := (List.getElem?_eq_some_iff.1 hb).1; omega)] at h1
    simpa using h1
set_option maxHeartbeats 1000000 in
theorem refRead_in {w : World} {B r : Nat} {bl : List (List UInt8)} {sq : Int} (h : Rj w B r bl sq) {i : Nat} {b : List UInt8} (hb : bl[i]? = some b) :
    Calls Tryd.prog 24 #[.pointer (some ⟨r, 0, none⟩), .int .i64 i] w fun e w' => e = .returned (.tuple #[strV b, .int .i64 0]) ∧ w' = w := by
  obtain ⟨vb, hr, ho⟩ := h
  have hi := (List.getElem?_eq_some_iff.1 hb).1
  have hc0 : w.cell? ⟨r, 0, none⟩ = some vb := cell_at hr 0 rfl
  obtain ⟨g, cap, rfl⟩ : ∃ g cap, vb = .slice (some ⟨g, 0, none⟩) bl.length cap := by
    rcases ho.2 with ⟨_, h0⟩ | ⟨g, cap, cur, rfl, _⟩
    · omega
    · exact ⟨g, cap, rfl⟩
  have hcb := rj_cell ho hb
  have hi' : (i : Int) < (bl.length : Int) := by omega
  have hi2 : ¬ (bl.length : Int) ≤ (i : Int) := by omega
  unfold strV at *
  generalize bl.length = n at *
  clear hr ho hb
  go_enter Tryd.func24, Tryd.ntmps24
  go_wp2
  go_ret2
  exact ⟨rfl, rfl⟩
set_option maxHeartbeats 1000000 in
theorem refRead_out {w : World} {B r : Nat} {bl : List (List UInt8)} {sq : Int} (h : Rj w B r bl sq) {x : Int} (hx : hasB x bl.length = false) :
    Calls Tryd.prog 24 #[.pointer (some ⟨r, 0, none⟩), .int .i64 x] w fun e w' => e = .returned (.tuple #[strV [], .int .i64 2]) ∧ w' = w := by
  obtain ⟨vb, hr, ho⟩ := h
  have hc0 : w.cell? ⟨r, 0, none⟩ = some vb := cell_at hr 0 rfl
  obtain ⟨a, cap, rfl⟩ : ∃ a cap, vb = .slice a bl.length cap := by
    rcases ho.2 with ⟨rfl, h0⟩ | ⟨g, cap, cur, rfl, _⟩
    · exact ⟨none, 0, by rw [h0]⟩
    · exact ⟨_, cap, rfl⟩
  have hx2 : x < 0 ∨ (0 ≤ x ∧ (bl.length : Int) ≤ x) := by
    unfold hasB at hx
    simp at hx
    omega
  unfold strV
  generalize bl.length = n at *
  clear hr ho hx
  rcases hx2 with hx | ⟨hx, hy⟩
  · go_enter Tryd.func24, Tryd.ntmps24
    go_wp2
    go_ret2
    exact ⟨rfl, rfl⟩
  · have hx' : ¬ x < 0 := by omega
    go_enter Tryd.func24, Tryd.ntmps24
    go_wp2
    go_ret2
    exact ⟨rfl, rfl⟩
end Go.Proofs.YtdogjicccajnkaaDoor
/- Comparisons of numbers, lengths: laws for a region. -/
namespace Go.Proofs.YtdogjicccajnkaaDoor
open Go Go.RowKit

theorem lssI (a b : Int) (r : Bool) (h : decide (a < b) = r) (w : World) : (binOp .lss 3 (.int .i64 a) (.int .i64 b)).run Tryd.prog w = .ok (.bool r) w := by subst h; go_simp
theorem geqI (a b : Int) (r : Bool) (h : decide (b ≤ a) = r) (w : World) : (binOp .geq 3 (.int .i64 a) (.int .i64 b)).run Tryd.prog w = .ok (.bool r) w := by subst h; go_simp
theorem neqI (a b : Int) (r : Bool) (h : (a != b) = r) (w : World) : (binOp .neq 3 (.int .i64 a) (.int .i64 b)).run Tryd.prog w = .ok (.bool r) w := by subst h; go_simp
theorem eqlI (a b : Int) (r : Bool) (h : (a == b) = r) (w : World) : (binOp .eql 3 (.int .i64 a) (.int .i64 b)).run Tryd.prog w = .ok (.bool r) w := by subst h; go_simp
theorem y_lenT {t : TypeId} (hl : ∀ (p : Option Addr) (n c : Nat) (ty : TypeId) (w : World), (Builtin.len_ #[t] ty #[.slice p n c]).run Tryd.prog w = .ok (.int .i64 n) w) {ops : Array Oper} {S : World → Prop} {o : Oper} {a : Act} {x : Operand} {p : Option Addr} {n c : Nat} (hop : o.op = .call { callee := .builtin .len, args := #[x], argTypes := #[t] }) (hw : Region.wanted o (yielded ops a.tmps) = true) (hx : a.eval x = .slice p n c) : YieldsIf Tryd.prog ops S o (.int .i64 n) a :=
  .inl ⟨hw, fun w _ => by
    have h1 : (Builtin.len_ #[t] o.type #[a.eval x]).run Tryd.prog w = .ok (.int .i64 n) w := by rw [hx]; exact hl p n c o.type w
    unfold execOp
    simp only [hop, resolve, invoke, builtin, Sem.run_bind, Sem.run_pure, Result.andThen_ok, List.map_toArray, List.map_cons, List.map_nil, h1]⟩
theorem len49 (p : Option Addr) (n c : Nat) (ty : TypeId) (w : World) : (Builtin.len_ #[49] ty #[.slice p n c]).run Tryd.prog w = .ok (.int .i64 n) w := by go_simp
theorem len33 (p : Option Addr) (n c : Nat) (ty : TypeId) (w : World) : (Builtin.len_ #[33] ty #[.slice p n c]).run Tryd.prog w = .ok (.int .i64 n) w := by go_simp
end Go.Proofs.YtdogjicccajnkaaDoor
/- The reference's Refused. -/
namespace Go.Proofs.YtdogjicccajnkaaDoor
open Go Go.RowKit

set_option maxRecDepth 100000 in
set_option maxHeartbeats 8000000 in
theorem refused_any {w : World} {B r : Nat} {bl : List (List UInt8)} {sq : Int} {va vb : Value} {zs : List Int} {ps : List (List UInt8)} (h : Rj w B r bl sq) (ha : Iz w va zs) (hb : Bz w vb ps) (hl : zs.length ≤ 281474976710656) :
    Calls Tryd.prog 28 #[.pointer (some ⟨r, 0, none⟩), va, vb] w fun e w' => e = .returned (.int .i64 (if Fit bl.length zs ps then 0 else 2)) ∧ Below w.heap.size w w' := by
  obtain ⟨vv, hr, ho⟩ := h
  obtain ⟨ax, cx, rfl⟩ : ∃ a cap, vv = .slice a bl.length cap := by
    rcases ho.2 with ⟨rfl, h0⟩ | ⟨g, cap, cur, rfl, _⟩
    · exact ⟨none, 0, by rw [h0]⟩
    · exact ⟨_, cap, rfl⟩
  obtain ⟨aa, ca, rfl, ha⟩ := ha
  obtain ⟨ab, cb', rfl, hb⟩ := hb
  obtain ⟨RR, hRR⟩ : ∃ RR : Int, RR = if Fit bl.length zs ps then 0 else 2 := ⟨_, rfl⟩
  rw [← hRR]
  have HBAD : Hid (¬ Fit bl.length zs ps → RR = 2) := hid (fun h => by rw [hRR, if_neg h])
  have HGOOD : Hid (Fit bl.length zs ps → RR = 0) := hid (fun h => by rw [hRR, if_pos h])
  have HR := hid hr
  have HA := hid ha
  have HBB := hid hb
  have HL := hid hl
  have hrl := heap_lt hr
  clear hRR hr ho ha hb hl
  generalize bl.length = nb at *
  by_cases hlen : zs.length = ps.length
  · obtain ⟨n, hn⟩ : ∃ n, n = zs.length := ⟨_, rfl⟩
    rw [← hlen, ← hn]
    have HN := hid hn
    have HLEN := hid (show n = ps.length from hn.trans hlen)
    clear hn hlen
    go_enter Tryd.func28, Tryd.ntmps28
    go_wp2_with fail
    generalize hmb : w.heap.size = mb at *
    go_loopw [7, 8] (fun y _ wr => ∃ k : Nat, k ≤ n ∧ y = .int .i64 k ∧ (zs.take k).Nodup ∧ (∀ z ∈ zs.take k, hasB z nb = true) ∧ (∀ l ∈ ps.take k, l.length = 112) ∧ Below mb w wr) (fun y _ _ => n - (intOf y).toNat)
    case atStart => exact ⟨0, by omega, rfl, by simp, by simp, by simp, by rw [← hmb]; exact Below.refl _ _⟩
    case round =>
      obtain ⟨k, hk, rfl, hnd, hhs, hls, hBr⟩ := hrel
      have hll := HL.out
      have hlz := HN.out
      have hwk : IntKind.i64.wrap ((k : Int) + 1) = ((k + 1 : Nat) : Int) := by
        rw [IntWalk.i64_in _ ⟨by omega, by omega⟩]; omega
      by_cases hlt : k < n
      · have hlt' : (k : Int) < (n : Int) := by omega
        obtain ⟨z, hz⟩ : ∃ z, zs[k]? = some z := ⟨_, List.getElem?_eq_getElem (by omega)⟩
        obtain ⟨b1, o1, e1, hc1⟩ := HA.out k z hz
        obtain ⟨b2, o2, ap, cp, e2, hc2, hs2⟩ := HBB.out k (by have := HLEN.out; omega)
        obtain rfl := e1
        obtain rfl := e2
        have hpk : ps[k]? = some (ps.getD k []) := by simp [List.getD, show k < ps.length by have := HLEN.out; omega]
        generalize ps.getD k [] = pk at *
        have hd1 : wr.cell? ⟨b1, o1 + k, none⟩ = some (.int .i64 z) := by rw [hBr.cell (p := ⟨b1, o1 + k, none⟩) (by rw [← hmb]; exact World.block_lt_of_cell? w _ hc1)]; exact hc1
        have hd2 : wr.cell? ⟨b2, o2 + k, none⟩ = some (.slice ap pk.length cp) := by rw [hBr.cell (p := ⟨b2, o2 + k, none⟩) (by rw [← hmb]; exact World.block_lt_of_cell? w _ hc2)]; exact hc2
        have hdr : wr.heap[r]? = some (.cells #[.slice ax nb cx, .int .i64 sq] 51 (0, 0)) := below_at hBr HR.out hrl
        have HZS := hid hz
        have HPK := hid hpk
        have HND := hid hnd
        have HHS := hid hhs
        have HLS := hid hls
        have HBR := hid hBr
        have HD1 := hid hd1
        have HD2 := hid hd2
        have HDR := hid hdr
        clear hc1 hc2 hs2 hnd hhs hls hBr hll hz hpk hlz hd1 hd2 hdr
        by_cases hz0 : z < 0
        · have HV1 := hid (decide_eq_true hz0)
          have hbad := HBAD.out (fun hf => by have := (hf.at (List.mem_of_getElem? HZS.out)).1; omega)
          subst hbad
          go_upto_region 6 with fail
          refine h_openL (S := fun w' => w'.cell? ⟨b1, o1 + k, none⟩ = some (.int .i64 z) ∧ w'.cell? ⟨b2, o2 + k, none⟩ = some (.slice ap pk.length cp) ∧ w'.heap[r]? = some (.cells #[.slice ax nb cx, .int .i64 sq] 51 (0, 0))) (by kernel_rfl) (by kernel_rfl) (fun _ _ _ _ _ h => h) (L := #[false, false, false, false, false, false, false, false, false, false, false, false, false, false, false, false, false, false, false, false, false, false, false, false, false]) (by kernel_rfl) ?_
          intro Q' hns hP hN
          have hS := (show wr.drew.cell? ⟨b1, o1 + k, none⟩ = some (.int .i64 z) ∧ wr.drew.cell? ⟨b2, o2 + k, none⟩ = some (.slice ap pk.length cp) ∧ wr.drew.heap[r]? = some (.cells #[.slice ax nb cx, .int .i64 sq] 51 (0, 0)) from ⟨HD1.out, HD2.out, HDR.out⟩)
          refine h_takeL (i := 0) (v := .slice (some ⟨b1, o1, none⟩) n ca) hns rfl rfl (by kernel_rfl) (by kernel_rfl) hP (y_move rfl (by kernel_rfl) (by kernel_rfl)) hS rfl (L' := #[true, false, false, false, false, false, false, false, false, false, false, false, false, false, false, false, false, false, false, false, false, false, false, false, false]) (by kernel_rfl) ?_
          refine h_takeL (i := 1) (v := .int .i64 k) hns rfl rfl (by kernel_rfl) (by kernel_rfl) hP (y_move rfl (by kernel_rfl) (by kernel_rfl)) hS rfl (L' := #[true, true, false, false, false, false, false, false, false, false, false, false, false, false, false, false, false, false, false, false, false, false, false, false, false]) (by kernel_rfl) ?_
          refine h_takeL (i := 2) (v := .pointer (some ⟨b1, o1 + k, none⟩)) hns rfl rfl (by kernel_rfl) (by kernel_rfl) hP (y_index rfl (by kernel_rfl) (by kernel_rfl) (by kernel_rfl) (idx43 b1 o1 n ca k hlt)) hS rfl (L' := #[true, true, true, false, false, false, false, false, false, false, false, false, false, false, false, false, false, false, false, false, false, false, false, false, false]) (by kernel_rfl) ?_
          refine h_takeL (i := 3) (v := .int .i64 z) hns rfl rfl (by kernel_rfl) (by kernel_rfl) hP (y_load rfl (by kernel_rfl) (by kernel_rfl) (fun w' h => load1 Tryd.isAgg3 h.1)) hS rfl (L' := #[true, true, true, true, false, false, false, false, false, false, false, false, false, false, false, false, false, false, false, false, false, false, false, false, false]) (by kernel_rfl) ?_
          refine h_takeL (i := 4) (v := .bool true) hns rfl rfl (by kernel_rfl) (by kernel_rfl) hP (y_bin (k := .i64) (k' := .i64) (m := z) (n := 0) rfl (by kernel_rfl) (by kernel_rfl) (by kernel_rfl) (lssI _ _ _ HV1.out)) hS rfl (L' := #[true, true, true, true, true, false, false, false, false, false, false, false, false, false, false, false, false, false, false, false, false, false, false, false, false]) (by kernel_rfl) ?_
          refine h_takeL (i := 5) (v := .bool true) hns rfl rfl (by kernel_rfl) (by kernel_rfl) hP (y_move rfl (by kernel_rfl) (by kernel_rfl)) hS rfl (L' := #[true, true, true, true, true, true, false, false, false, false, false, false, false, false, false, false, false, false, false, false, false, false, false, false, false]) (by kernel_rfl) ?_
          refine h_takeL (i := 6) (v := undef) hns rfl rfl (by kernel_rfl) (by kernel_rfl) hP (y_skip (by kernel_rfl) rfl) hS rfl (L' := #[true, true, true, true, true, true, true, false, false, false, false, false, false, false, false, false, false, false, false, false, false, false, false, false, false]) (by kernel_rfl) ?_
          simp only [List.setIfInBounds_toArray, List.set_cons_zero, List.set_cons_succ]
          refine h_takeL (i := 7) (v := undef) hns rfl rfl (by kernel_rfl) (by kernel_rfl) hP (y_skip (by kernel_rfl) rfl) hS rfl (L' := #[true, true, true, true, true, true, true, true, false, false, false, false, false, false, false, false, false, false, false, false, false, false, false, false, false]) (by kernel_rfl) ?_
          refine h_takeL (i := 8) (v := undef) hns rfl rfl (by kernel_rfl) (by kernel_rfl) hP (y_skip (by kernel_rfl) rfl) hS rfl (L' := #[true, true, true, true, true, true, true, true, true, false, false, false, false, false, false, false, false, false, false, false, false, false, false, false, false]) (by kernel_rfl) ?_
          refine h_takeL (i := 9) (v := undef) hns rfl rfl (by kernel_rfl) (by kernel_rfl) hP (y_skip (by kernel_rfl) rfl) hS rfl (L' := #[true, true, true, true, true, true, true, true, true, true, false, false, false, false, false, false, false, false, false, false, false, false, false, false, false]) (by kernel_rfl) ?_
          refine h_takeL (i := 10) (v := undef) hns rfl rfl (by kernel_rfl) (by kernel_rfl) hP (y_skip (by kernel_rfl) rfl) hS rfl (L' := #[true, true, true, true, true, true, true, true, true, true, true, false, false, false, false, false, false, false, false, false, false, false, false, false, false]) (by kernel_rfl) ?_
          refine h_takeL (i := 11) (v := undef) hns rfl rfl (by kernel_rfl) (by kernel_rfl) hP (y_skip (by kernel_rfl) rfl) hS rfl (L' := #[true, true, true, true, true, true, true, true, true, true, true, true, false, false, false, false, false, false, false, false, false, false, false, false, false]) (by kernel_rfl) ?_
          refine h_takeL (i := 12) (v := undef) hns rfl rfl (by kernel_rfl) (by kernel_rfl) hP (y_skip (by kernel_rfl) rfl) hS rfl (L' := #[true, true, true, true, true, true, true, true, true, true, true, true, true, false, false, false, false, false, false, false, false, false, false, false, false]) (by kernel_rfl) ?_
          refine h_takeL (i := 13) (v := undef) hns rfl rfl (by kernel_rfl) (by kernel_rfl) hP (y_skip (by kernel_rfl) rfl) hS rfl (L' := #[true, true, true, true, true, true, true, true, true, true, true, true, true, true, false, false, false, false, false, false, false, false, false, false, false]) (by kernel_rfl) ?_
          refine h_takeL (i := 14) (v := undef) hns rfl rfl (by kernel_rfl) (by kernel_rfl) hP (y_skip (by kernel_rfl) rfl) hS rfl (L' := #[true, true, true, true, true, true, true, true, true, true, true, true, true, true, true, false, false, false, false, false, false, false, false, false, false]) (by kernel_rfl) ?_
          simp only [List.setIfInBounds_toArray, List.set_cons_zero, List.set_cons_succ]
          refine h_takeL (i := 15) (v := undef) hns rfl rfl (by kernel_rfl) (by kernel_rfl) hP (y_skip (by kernel_rfl) rfl) hS rfl (L' := #[true, true, true, true, true, true, true, true, true, true, true, true, true, true, true, true, false, false, false, false, false, false, false, false, false]) (by kernel_rfl) ?_
          refine h_takeL (i := 16) (v := .bool true) hns rfl rfl (by kernel_rfl) (by kernel_rfl) hP (y_pick (b := true) rfl (by kernel_rfl) (by kernel_rfl) rfl) hS rfl (L' := #[true, true, true, true, true, true, true, true, true, true, true, true, true, true, true, true, true, false, false, false, false, false, false, false, false]) (by kernel_rfl) ?_
          refine h_takeL (i := 17) (v := .bool true) hns rfl rfl (by kernel_rfl) (by kernel_rfl) hP (y_move rfl (by kernel_rfl) (by kernel_rfl)) hS rfl (L' := #[true, true, true, true, true, true, true, true, true, true, true, true, true, true, true, true, true, true, false, false, false, false, false, false, false]) (by kernel_rfl) ?_
          refine h_takeL (i := 18) (v := undef) hns rfl rfl (by kernel_rfl) (by kernel_rfl) hP (y_skip (by kernel_rfl) rfl) hS rfl (L' := #[true, true, true, true, true, true, true, true, true, true, true, true, true, true, true, true, true, true, true, false, false, false, false, false, false]) (by kernel_rfl) ?_
          refine h_takeL (i := 19) (v := undef) hns rfl rfl (by kernel_rfl) (by kernel_rfl) hP (y_skip (by kernel_rfl) rfl) hS rfl (L' := #[true, true, true, true, true, true, true, true, true, true, true, true, true, true, true, true, true, true, true, true, false, false, false, false, false]) (by kernel_rfl) ?_
          refine h_takeL (i := 20) (v := undef) hns rfl rfl (by kernel_rfl) (by kernel_rfl) hP (y_skip (by kernel_rfl) rfl) hS rfl (L' := #[true, true, true, true, true, true, true, true, true, true, true, true, true, true, true, true, true, true, true, true, true, false, false, false, false]) (by kernel_rfl) ?_
          refine h_takeL (i := 21) (v := undef) hns rfl rfl (by kernel_rfl) (by kernel_rfl) hP (y_skip (by kernel_rfl) rfl) hS rfl (L' := #[true, true, true, true, true, true, true, true, true, true, true, true, true, true, true, true, true, true, true, true, true, true, false, false, false]) (by kernel_rfl) ?_
          refine h_takeL (i := 22) (v := undef) hns rfl rfl (by kernel_rfl) (by kernel_rfl) hP (y_skip (by kernel_rfl) rfl) hS rfl (L' := #[true, true, true, true, true, true, true, true, true, true, true, true, true, true, true, true, true, true, true, true, true, true, true, false, false]) (by kernel_rfl) ?_
          simp only [List.setIfInBounds_toArray, List.set_cons_zero, List.set_cons_succ]
          refine h_takeL (i := 23) (v := undef) hns rfl rfl (by kernel_rfl) (by kernel_rfl) hP (y_skip (by kernel_rfl) rfl) hS rfl (L' := #[true, true, true, true, true, true, true, true, true, true, true, true, true, true, true, true, true, true, true, true, true, true, true, true, false]) (by kernel_rfl) ?_
          refine h_takeL (i := 24) (v := .bool true) hns rfl rfl (by kernel_rfl) (by kernel_rfl) hP (y_pick (b := true) rfl (by kernel_rfl) (by kernel_rfl) rfl) hS rfl (L' := #[true, true, true, true, true, true, true, true, true, true, true, true, true, true, true, true, true, true, true, true, true, true, true, true, true]) (by kernel_rfl) ?_
          simp only [List.setIfInBounds_toArray, List.set_cons_zero, List.set_cons_succ]
          refine wpAnyH_done (by kernel_rfl) ?_ _
          refine hN _ _ ?_
          clear hP hN hns
          clear hS
          have HB := hid (HBR.out.drew)
          clear HBR HD1 HD2 HDR HZS HPK HND HHS HLS HBAD HGOOD
          go_wp2
          go_ret
          exact ⟨rfl, by first | exact HB.out | rw [hmb]; exact HB.out⟩
        · have HV1 := hid (decide_eq_false hz0)
          by_cases hzn : (nb : Int) ≤ z
          · have HV2 := hid (decide_eq_true hzn)
            have hbad := HBAD.out (fun hf => by have := (hf.at (List.mem_of_getElem? HZS.out)).2; omega)
            subst hbad
            go_upto_region 6 with fail
            refine h_openL (S := fun w' => w'.cell? ⟨b1, o1 + k, none⟩ = some (.int .i64 z) ∧ w'.cell? ⟨b2, o2 + k, none⟩ = some (.slice ap pk.length cp) ∧ w'.heap[r]? = some (.cells #[.slice ax nb cx, .int .i64 sq] 51 (0, 0))) (by kernel_rfl) (by kernel_rfl) (fun _ _ _ _ _ h => h) (L := #[false, false, false, false, false, false, false, false, false, false, false, false, false, false, false, false, false, false, false, false, false, false, false, false, false]) (by kernel_rfl) ?_
            intro Q' hns hP hN
            have hS := (show wr.drew.cell? ⟨b1, o1 + k, none⟩ = some (.int .i64 z) ∧ wr.drew.cell? ⟨b2, o2 + k, none⟩ = some (.slice ap pk.length cp) ∧ wr.drew.heap[r]? = some (.cells #[.slice ax nb cx, .int .i64 sq] 51 (0, 0)) from ⟨HD1.out, HD2.out, HDR.out⟩)
            refine h_takeL (i := 0) (v := .slice (some ⟨b1, o1, none⟩) n ca) hns rfl rfl (by kernel_rfl) (by kernel_rfl) hP (y_move rfl (by kernel_rfl) (by kernel_rfl)) hS rfl (L' := #[true, false, false, false, false, false, false, false, false, false, false, false, false, false, false, false, false, false, false, false, false, false, false, false, false]) (by kernel_rfl) ?_
            refine h_takeL (i := 1) (v := .int .i64 k) hns rfl rfl (by kernel_rfl) (by kernel_rfl) hP (y_move rfl (by kernel_rfl) (by kernel_rfl)) hS rfl (L' := #[true, true, false, false, false, false, false, false, false, false, false, false, false, false, false, false, false, false, false, false, false, false, false, false, false]) (by kernel_rfl) ?_
            refine h_takeL (i := 2) (v := .pointer (some ⟨b1, o1 + k, none⟩)) hns rfl rfl (by kernel_rfl) (by kernel_rfl) hP (y_index rfl (by kernel_rfl) (by kernel_rfl) (by kernel_rfl) (idx43 b1 o1 n ca k hlt)) hS rfl (L' := #[true, true, true, false, false, false, false, false, false, false, false, false, false, false, false, false, false, false, false, false, false, false, false, false, false]) (by kernel_rfl) ?_
            refine h_takeL (i := 3) (v := .int .i64 z) hns rfl rfl (by kernel_rfl) (by kernel_rfl) hP (y_load rfl (by kernel_rfl) (by kernel_rfl) (fun w' h => load1 Tryd.isAgg3 h.1)) hS rfl (L' := #[true, true, true, true, false, false, false, false, false, false, false, false, false, false, false, false, false, false, false, false, false, false, false, false, false]) (by kernel_rfl) ?_
            refine h_takeL (i := 4) (v := .bool false) hns rfl rfl (by kernel_rfl) (by kernel_rfl) hP (y_bin (k := .i64) (k' := .i64) (m := z) (n := 0) rfl (by kernel_rfl) (by kernel_rfl) (by kernel_rfl) (lssI _ _ _ HV1.out)) hS rfl (L' := #[true, true, true, true, true, false, false, false, false, false, false, false, false, false, false, false, false, false, false, false, false, false, false, false, false]) (by kernel_rfl) ?_
            refine h_takeL (i := 5) (v := .bool false) hns rfl rfl (by kernel_rfl) (by kernel_rfl) hP (y_move rfl (by kernel_rfl) (by kernel_rfl)) hS rfl (L' := #[true, true, true, true, true, true, false, false, false, false, false, false, false, false, false, false, false, false, false, false, false, false, false, false, false]) (by kernel_rfl) ?_
            refine h_takeL (i := 6) (v := .slice (some ⟨b1, o1, none⟩) n ca) hns rfl rfl (by kernel_rfl) (by kernel_rfl) hP (y_move rfl (by kernel_rfl) (by kernel_rfl)) hS rfl (L' := #[true, true, true, true, true, true, true, false, false, false, false, false, false, false, false, false, false, false, false, false, false, false, false, false, false]) (by kernel_rfl) ?_
            simp only [List.setIfInBounds_toArray, List.set_cons_zero, List.set_cons_succ]
            refine h_takeL (i := 7) (v := .int .i64 k) hns rfl rfl (by kernel_rfl) (by kernel_rfl) hP (y_move rfl (by kernel_rfl) (by kernel_rfl)) hS rfl (L' := #[true, true, true, true, true, true, true, true, false, false, false, false, false, false, false, false, false, false, false, false, false, false, false, false, false]) (by kernel_rfl) ?_
            refine h_takeL (i := 8) (v := .pointer (some ⟨b1, o1 + k, none⟩)) hns rfl rfl (by kernel_rfl) (by kernel_rfl) hP (y_index rfl (by kernel_rfl) (by kernel_rfl) (by kernel_rfl) (idx43 b1 o1 n ca k hlt)) hS rfl (L' := #[true, true, true, true, true, true, true, true, true, false, false, false, false, false, false, false, false, false, false, false, false, false, false, false, false]) (by kernel_rfl) ?_
            refine h_takeL (i := 9) (v := .int .i64 z) hns rfl rfl (by kernel_rfl) (by kernel_rfl) hP (y_load rfl (by kernel_rfl) (by kernel_rfl) (fun w' h => load1 Tryd.isAgg3 h.1)) hS rfl (L' := #[true, true, true, true, true, true, true, true, true, true, false, false, false, false, false, false, false, false, false, false, false, false, false, false, false]) (by kernel_rfl) ?_
            refine h_takeL (i := 10) (v := .pointer (some ⟨r, 0, none⟩)) hns rfl rfl (by kernel_rfl) (by kernel_rfl) hP (y_move rfl (by kernel_rfl) (by kernel_rfl)) hS rfl (L' := #[true, true, true, true, true, true, true, true, true, true, true, false, false, false, false, false, false, false, false, false, false, false, false, false, false]) (by kernel_rfl) ?_
            refine h_takeL (i := 11) (v := .pointer (some ⟨r, 0, none⟩)) hns rfl rfl (by kernel_rfl) (by kernel_rfl) hP (y_nil rfl (by kernel_rfl) (by kernel_rfl)) hS rfl (L' := #[true, true, true, true, true, true, true, true, true, true, true, true, false, false, false, false, false, false, false, false, false, false, false, false, false]) (by kernel_rfl) ?_
            refine h_takeL (i := 12) (v := .pointer (some ⟨r, 0, none⟩)) hns rfl rfl (by kernel_rfl) (by kernel_rfl) hP (y_faddr rfl (by kernel_rfl) (by kernel_rfl) (fa51_0 (r))) hS rfl (L' := #[true, true, true, true, true, true, true, true, true, true, true, true, true, false, false, false, false, false, false, false, false, false, false, false, false]) (by kernel_rfl) ?_
            refine h_takeL (i := 13) (v := .slice ax nb cx) hns rfl rfl (by kernel_rfl) (by kernel_rfl) hP (y_load rfl (by kernel_rfl) (by kernel_rfl) (fun w' h => load1 Tryd.isAgg49 (cell_at h.2.2 0 rfl))) hS rfl (L' := #[true, true, true, true, true, true, true, true, true, true, true, true, true, true, false, false, false, false, false, false, false, false, false, false, false]) (by kernel_rfl) ?_
            refine h_takeL (i := 14) (v := .int .i64 nb) hns rfl rfl (by kernel_rfl) (by kernel_rfl) hP (y_lenT len49 (p := ax) (c := cx) rfl (by kernel_rfl) (by kernel_rfl)) hS rfl (L' := #[true, true, true, true, true, true, true, true, true, true, true, true, true, true, true, false, false, false, false, false, false, false, false, false, false]) (by kernel_rfl) ?_
            simp only [List.setIfInBounds_toArray, List.set_cons_zero, List.set_cons_succ]
            refine h_takeL (i := 15) (v := .bool true) hns rfl rfl (by kernel_rfl) (by kernel_rfl) hP (y_bin (k := .i64) (k' := .i64) (m := z) (n := (nb : Nat)) rfl (by kernel_rfl) (by kernel_rfl) (by kernel_rfl) (geqI _ _ _ HV2.out)) hS rfl (L' := #[true, true, true, true, true, true, true, true, true, true, true, true, true, true, true, true, false, false, false, false, false, false, false, false, false]) (by kernel_rfl) ?_
            refine h_takeL (i := 16) (v := .bool true) hns rfl rfl (by kernel_rfl) (by kernel_rfl) hP (y_pick (b := false) rfl (by kernel_rfl) (by kernel_rfl) rfl) hS rfl (L' := #[true, true, true, true, true, true, true, true, true, true, true, true, true, true, true, true, true, false, false, false, false, false, false, false, false]) (by kernel_rfl) ?_
            refine h_takeL (i := 17) (v := .bool true) hns rfl rfl (by kernel_rfl) (by kernel_rfl) hP (y_move rfl (by kernel_rfl) (by kernel_rfl)) hS rfl (L' := #[true, true, true, true, true, true, true, true, true, true, true, true, true, true, true, true, true, true, false, false, false, false, false, false, false]) (by kernel_rfl) ?_
            refine h_takeL (i := 18) (v := undef) hns rfl rfl (by kernel_rfl) (by kernel_rfl) hP (y_skip (by kernel_rfl) rfl) hS rfl (L' := #[true, true, true, true, true, true, true, true, true, true, true, true, true, true, true, true, true, true, true, false, false, false, false, false, false]) (by kernel_rfl) ?_
            refine h_takeL (i := 19) (v := undef) hns rfl rfl (by kernel_rfl) (by kernel_rfl) hP (y_skip (by kernel_rfl) rfl) hS rfl (L' := #[true, true, true, true, true, true, true, true, true, true, true, true, true, true, true, true, true, true, true, true, false, false, false, false, false]) (by kernel_rfl) ?_
            refine h_takeL (i := 20) (v := undef) hns rfl rfl (by kernel_rfl) (by kernel_rfl) hP (y_skip (by kernel_rfl) rfl) hS rfl (L' := #[true, true, true, true, true, true, true, true, true, true, true, true, true, true, true, true, true, true, true, true, true, false, false, false, false]) (by kernel_rfl) ?_
            refine h_takeL (i := 21) (v := undef) hns rfl rfl (by kernel_rfl) (by kernel_rfl) hP (y_skip (by kernel_rfl) rfl) hS rfl (L' := #[true, true, true, true, true, true, true, true, true, true, true, true, true, true, true, true, true, true, true, true, true, true, false, false, false]) (by kernel_rfl) ?_
            refine h_takeL (i := 22) (v := undef) hns rfl rfl (by kernel_rfl) (by kernel_rfl) hP (y_skip (by kernel_rfl) rfl) hS rfl (L' := #[true, true, true, true, true, true, true, true, true, true, true, true, true, true, true, true, true, true, true, true, true, true, true, false, false]) (by kernel_rfl) ?_
            simp only [List.setIfInBounds_toArray, List.set_cons_zero, List.set_cons_succ]
            refine h_takeL (i := 23) (v := undef) hns rfl rfl (by kernel_rfl) (by kernel_rfl) hP (y_skip (by kernel_rfl) rfl) hS rfl (L' := #[true, true, true, true, true, true, true, true, true, true, true, true, true, true, true, true, true, true, true, true, true, true, true, true, false]) (by kernel_rfl) ?_
            refine h_takeL (i := 24) (v := .bool true) hns rfl rfl (by kernel_rfl) (by kernel_rfl) hP (y_pick (b := true) rfl (by kernel_rfl) (by kernel_rfl) rfl) hS rfl (L' := #[true, true, true, true, true, true, true, true, true, true, true, true, true, true, true, true, true, true, true, true, true, true, true, true, true]) (by kernel_rfl) ?_
            simp only [List.setIfInBounds_toArray, List.set_cons_zero, List.set_cons_succ]
            refine wpAnyH_done (by kernel_rfl) ?_ _
            refine hN _ _ ?_
            clear hP hN hns
            clear hS
            have HB := hid (HBR.out.drew)
            clear HBR HD1 HD2 HDR HZS HPK HND HHS HLS HBAD HGOOD
            go_wp2
            go_ret
            exact ⟨rfl, by first | exact HB.out | rw [hmb]; exact HB.out⟩
          · have HV2 := hid (decide_eq_false hzn)
            obtain ⟨bb, hbb⟩ : ∃ bb, bb = ((pk.length : Int) != 112) := ⟨_, rfl⟩
            have HV3 := hid hbb.symm
            go_upto_region 6 with fail
            refine h_openL (S := fun w' => w'.cell? ⟨b1, o1 + k, none⟩ = some (.int .i64 z) ∧ w'.cell? ⟨b2, o2 + k, none⟩ = some (.slice ap pk.length cp) ∧ w'.heap[r]? = some (.cells #[.slice ax nb cx, .int .i64 sq] 51 (0, 0))) (by kernel_rfl) (by kernel_rfl) (fun _ _ _ _ _ h => h) (L := #[false, false, false, false, false, false, false, false, false, false, false, false, false, false, false, false, false, false, false, false, false, false, false, false, false]) (by kernel_rfl) ?_
            intro Q' hns hP hN
            have hS := (show wr.drew.cell? ⟨b1, o1 + k, none⟩ = some (.int .i64 z) ∧ wr.drew.cell? ⟨b2, o2 + k, none⟩ = some (.slice ap pk.length cp) ∧ wr.drew.heap[r]? = some (.cells #[.slice ax nb cx, .int .i64 sq] 51 (0, 0)) from ⟨HD1.out, HD2.out, HDR.out⟩)
            refine h_takeL (i := 0) (v := .slice (some ⟨b1, o1, none⟩) n ca) hns rfl rfl (by kernel_rfl) (by kernel_rfl) hP (y_move rfl (by kernel_rfl) (by kernel_rfl)) hS rfl (L' := #[true, false, false, false, false, false, false, false, false, false, false, false, false, false, false, false, false, false, false, false, false, false, false, false, false]) (by kernel_rfl) ?_
            refine h_takeL (i := 1) (v := .int .i64 k) hns rfl rfl (by kernel_rfl) (by kernel_rfl) hP (y_move rfl (by kernel_rfl) (by kernel_rfl)) hS rfl (L' := #[true, true, false, false, false, false, false, false, false, false, false, false, false, false, false, false, false, false, false, false, false, false, false, false, false]) (by kernel_rfl) ?_
            refine h_takeL (i := 2) (v := .pointer (some ⟨b1, o1 + k, none⟩)) hns rfl rfl (by kernel_rfl) (by kernel_rfl) hP (y_index rfl (by kernel_rfl) (by kernel_rfl) (by kernel_rfl) (idx43 b1 o1 n ca k hlt)) hS rfl (L' := #[true, true, true, false, false, false, false, false, false, false, false, false, false, false, false, false, false, false, false, false, false, false, false, false, false]) (by kernel_rfl) ?_
            refine h_takeL (i := 3) (v := .int .i64 z) hns rfl rfl (by kernel_rfl) (by kernel_rfl) hP (y_load rfl (by kernel_rfl) (by kernel_rfl) (fun w' h => load1 Tryd.isAgg3 h.1)) hS rfl (L' := #[true, true, true, true, false, false, false, false, false, false, false, false, false, false, false, false, false, false, false, false, false, false, false, false, false]) (by kernel_rfl) ?_
            refine h_takeL (i := 4) (v := .bool false) hns rfl rfl (by kernel_rfl) (by kernel_rfl) hP (y_bin (k := .i64) (k' := .i64) (m := z) (n := 0) rfl (by kernel_rfl) (by kernel_rfl) (by kernel_rfl) (lssI _ _ _ HV1.out)) hS rfl (L' := #[true, true, true, true, true, false, false, false, false, false, false, false, false, false, false, false, false, false, false, false, false, false, false, false, false]) (by kernel_rfl) ?_
            refine h_takeL (i := 5) (v := .bool false) hns rfl rfl (by kernel_rfl) (by kernel_rfl) hP (y_move rfl (by kernel_rfl) (by kernel_rfl)) hS rfl (L' := #[true, true, true, true, true, true, false, false, false, false, false, false, false, false, false, false, false, false, false, false, false, false, false, false, false]) (by kernel_rfl) ?_
            refine h_takeL (i := 6) (v := .slice (some ⟨b1, o1, none⟩) n ca) hns rfl rfl (by kernel_rfl) (by kernel_rfl) hP (y_move rfl (by kernel_rfl) (by kernel_rfl)) hS rfl (L' := #[true, true, true, true, true, true, true, false, false, false, false, false, false, false, false, false, false, false, false, false, false, false, false, false, false]) (by kernel_rfl) ?_
            simp only [List.setIfInBounds_toArray, List.set_cons_zero, List.set_cons_succ]
            refine h_takeL (i := 7) (v := .int .i64 k) hns rfl rfl (by kernel_rfl) (by kernel_rfl) hP (y_move rfl (by kernel_rfl) (by kernel_rfl)) hS rfl (L' := #[true, true, true, true, true, true, true, true, false, false, false, false, false, false, false, false, false, false, false, false, false, false, false, false, false]) (by kernel_rfl) ?_
            refine h_takeL (i := 8) (v := .pointer (some ⟨b1, o1 + k, none⟩)) hns rfl rfl (by kernel_rfl) (by kernel_rfl) hP (y_index rfl (by kernel_rfl) (by kernel_rfl) (by kernel_rfl) (idx43 b1 o1 n ca k hlt)) hS rfl (L' := #[true, true, true, true, true, true, true, true, true, false, false, false, false, false, false, false, false, false, false, false, false, false, false, false, false]) (by kernel_rfl) ?_
            refine h_takeL (i := 9) (v := .int .i64 z) hns rfl rfl (by kernel_rfl) (by kernel_rfl) hP (y_load rfl (by kernel_rfl) (by kernel_rfl) (fun w' h => load1 Tryd.isAgg3 h.1)) hS rfl (L' := #[true, true, true, true, true, true, true, true, true, true, false, false, false, false, false, false, false, false, false, false, false, false, false, false, false]) (by kernel_rfl) ?_
            refine h_takeL (i := 10) (v := .pointer (some ⟨r, 0, none⟩)) hns rfl rfl (by kernel_rfl) (by kernel_rfl) hP (y_move rfl (by kernel_rfl) (by kernel_rfl)) hS rfl (L' := #[true, true, true, true, true, true, true, true, true, true, true, false, false, false, false, false, false, false, false, false, false, false, false, false, false]) (by kernel_rfl) ?_
            refine h_takeL (i := 11) (v := .pointer (some ⟨r, 0, none⟩)) hns rfl rfl (by kernel_rfl) (by kernel_rfl) hP (y_nil rfl (by kernel_rfl) (by kernel_rfl)) hS rfl (L' := #[true, true, true, true, true, true, true, true, true, true, true, true, false, false, false, false, false, false, false, false, false, false, false, false, false]) (by kernel_rfl) ?_
            refine h_takeL (i := 12) (v := .pointer (some ⟨r, 0, none⟩)) hns rfl rfl (by kernel_rfl) (by kernel_rfl) hP (y_faddr rfl (by kernel_rfl) (by kernel_rfl) (fa51_0 (r))) hS rfl (L' := #[true, true, true, true, true, true, true, true, true, true, true, true, true, false, false, false, false, false, false, false, false, false, false, false, false]) (by kernel_rfl) ?_
            refine h_takeL (i := 13) (v := .slice ax nb cx) hns rfl rfl (by kernel_rfl) (by kernel_rfl) hP (y_load rfl (by kernel_rfl) (by kernel_rfl) (fun w' h => load1 Tryd.isAgg49 (cell_at h.2.2 0 rfl))) hS rfl (L' := #[true, true, true, true, true, true, true, true, true, true, true, true, true, true, false, false, false, false, false, false, false, false, false, false, false]) (by kernel_rfl) ?_
            refine h_takeL (i := 14) (v := .int .i64 nb) hns rfl rfl (by kernel_rfl) (by kernel_rfl) hP (y_lenT len49 (p := ax) (c := cx) rfl (by kernel_rfl) (by kernel_rfl)) hS rfl (L' := #[true, true, true, true, true, true, true, true, true, true, true, true, true, true, true, false, false, false, false, false, false, false, false, false, false]) (by kernel_rfl) ?_
            simp only [List.setIfInBounds_toArray, List.set_cons_zero, List.set_cons_succ]
            refine h_takeL (i := 15) (v := .bool false) hns rfl rfl (by kernel_rfl) (by kernel_rfl) hP (y_bin (k := .i64) (k' := .i64) (m := z) (n := (nb : Nat)) rfl (by kernel_rfl) (by kernel_rfl) (by kernel_rfl) (geqI _ _ _ HV2.out)) hS rfl (L' := #[true, true, true, true, true, true, true, true, true, true, true, true, true, true, true, true, false, false, false, false, false, false, false, false, false]) (by kernel_rfl) ?_
            refine h_takeL (i := 16) (v := .bool false) hns rfl rfl (by kernel_rfl) (by kernel_rfl) hP (y_pick (b := false) rfl (by kernel_rfl) (by kernel_rfl) rfl) hS rfl (L' := #[true, true, true, true, true, true, true, true, true, true, true, true, true, true, true, true, true, false, false, false, false, false, false, false, false]) (by kernel_rfl) ?_
            refine h_takeL (i := 17) (v := .bool false) hns rfl rfl (by kernel_rfl) (by kernel_rfl) hP (y_move rfl (by kernel_rfl) (by kernel_rfl)) hS rfl (L' := #[true, true, true, true, true, true, true, true, true, true, true, true, true, true, true, true, true, true, false, false, false, false, false, false, false]) (by kernel_rfl) ?_
            refine h_takeL (i := 18) (v := .slice (some ⟨b2, o2, none⟩) n cb') hns rfl rfl (by kernel_rfl) (by kernel_rfl) hP (y_move rfl (by kernel_rfl) (by kernel_rfl)) hS rfl (L' := #[true, true, true, true, true, true, true, true, true, true, true, true, true, true, true, true, true, true, true, false, false, false, false, false, false]) (by kernel_rfl) ?_
            refine h_takeL (i := 19) (v := .int .i64 k) hns rfl rfl (by kernel_rfl) (by kernel_rfl) hP (y_move rfl (by kernel_rfl) (by kernel_rfl)) hS rfl (L' := #[true, true, true, true, true, true, true, true, true, true, true, true, true, true, true, true, true, true, true, true, false, false, false, false, false]) (by kernel_rfl) ?_
            refine h_takeL (i := 20) (v := .pointer (some ⟨b2, o2 + k, none⟩)) hns rfl rfl (by kernel_rfl) (by kernel_rfl) hP (y_index rfl (by kernel_rfl) (by kernel_rfl) (by kernel_rfl) (idx46 b2 o2 n cb' k hlt)) hS rfl (L' := #[true, true, true, true, true, true, true, true, true, true, true, true, true, true, true, true, true, true, true, true, true, false, false, false, false]) (by kernel_rfl) ?_
            refine h_takeL (i := 21) (v := .slice ap pk.length cp) hns rfl rfl (by kernel_rfl) (by kernel_rfl) hP (y_load rfl (by kernel_rfl) (by kernel_rfl) (fun w' h => load1 Tryd.isAgg33 h.2.1)) hS rfl (L' := #[true, true, true, true, true, true, true, true, true, true, true, true, true, true, true, true, true, true, true, true, true, true, false, false, false]) (by kernel_rfl) ?_
            refine h_takeL (i := 22) (v := .int .i64 (pk.length : Nat)) hns rfl rfl (by kernel_rfl) (by kernel_rfl) hP (y_lenT len33 (p := ap) (c := cp) rfl (by kernel_rfl) (by kernel_rfl)) hS rfl (L' := #[true, true, true, true, true, true, true, true, true, true, true, true, true, true, true, true, true, true, true, true, true, true, true, false, false]) (by kernel_rfl) ?_
            simp only [List.setIfInBounds_toArray, List.set_cons_zero, List.set_cons_succ]
            refine h_takeL (i := 23) (v := .bool bb) hns rfl rfl (by kernel_rfl) (by kernel_rfl) hP (y_bin (k := .i64) (k' := .i64) (m := (pk.length : Nat)) (n := 112) rfl (by kernel_rfl) (by kernel_rfl) (by kernel_rfl) (neqI _ _ _ HV3.out)) hS rfl (L' := #[true, true, true, true, true, true, true, true, true, true, true, true, true, true, true, true, true, true, true, true, true, true, true, true, false]) (by kernel_rfl) ?_
            refine h_takeL (i := 24) (v := .bool bb) hns rfl rfl (by kernel_rfl) (by kernel_rfl) hP (y_pick (b := false) rfl (by kernel_rfl) (by kernel_rfl) rfl) hS rfl (L' := #[true, true, true, true, true, true, true, true, true, true, true, true, true, true, true, true, true, true, true, true, true, true, true, true, true]) (by kernel_rfl) ?_
            simp only [List.setIfInBounds_toArray, List.set_cons_zero, List.set_cons_succ]
            refine wpAnyH_done (by kernel_rfl) ?_ _
            refine hN _ _ ?_
            clear hP hN hns
            clear hS
            have HB := hid (HBR.out.drew)
            have HD1 := hid (show wr.drew.cell? ⟨b1, o1 + k, none⟩ = some (.int .i64 z) from HD1.out)
            clear HBR HD2 HDR
            generalize wr.drew = wq at *
            cases bb with
            | true =>
              have hne : pk.length ≠ 112 := fun e => by rw [e] at hbb; simp at hbb
              have hbad := HBAD.out (fun hf => hne (hf.2.2.2 pk (List.mem_of_getElem? HPK.out)))
              subst hbad
              clear HD1 HZS HPK HND HHS HLS HBAD HGOOD HV1 HV2 HV3
              go_wp2
              go_ret
              exact ⟨rfl, by first | exact HB.out | rw [hmb]; exact HB.out⟩
            | false =>
              have hpl : pk.length = 112 := by simp at hbb; omega
              have hzh : hasB z nb = true := by unfold hasB; simp; omega
              clear HV1 HV2 HV3 hbb
              go_wp2_with fail
              go_loopw [8] (fun y wt => ∃ q : Nat, q ≤ k ∧ y = .int .i64 q ∧ z ∉ zs.take q ∧ Below mb w wt ∧ wt.cell? ⟨b1, o1 + k, none⟩ = some (.int .i64 z)) (fun y _ => k - (intOf y).toNat)
              case atStart => exact ⟨0, by omega, rfl, by simp, HB.out, HD1.out⟩
              case round =>
                clear HB HD1
                obtain ⟨q, hq, rfl, hnot, hBt, hdz⟩ := hrel
                have hlz := HN.out
                have hll := HL.out
                have hwq : IntKind.i64.wrap ((q : Int) + 1) = ((q + 1 : Nat) : Int) := by
                  rw [IntWalk.i64_in _ ⟨by omega, by omega⟩]; omega
                by_cases hqk : q < k
                · have hqk' : (q : Int) < (k : Int) := by omega
                  have hqn : q < n := by omega
                  obtain ⟨y, hy⟩ : ∃ y, zs[q]? = some y := ⟨_, List.getElem?_eq_getElem (by omega)⟩
                  obtain ⟨b3, o3, e3, hc3⟩ := HA.out q y hy
                  cases e3
                  have hdy : wr.cell? ⟨b1, o1 + q, none⟩ = some (.int .i64 y) := by rw [hBt.cell (p := ⟨b1, o1 + q, none⟩) (by rw [← hmb]; exact World.block_lt_of_cell? w _ hc3)]; exact hc3
                  obtain ⟨bb, hbb⟩ : ∃ bb, bb = (y == z) := ⟨_, rfl⟩
                  have HV4 := hid hbb.symm
                  have HY := hid hy
                  have HDY := hid hdy
                  have HDZ := hid hdz
                  have HBT := hid hBt
                  have HNOT := hid hnot
                  clear hy hc3 hdy hdz hBt hnot hlz hll
                  go_upto_region 11 with fail
                  refine h_openL (S := fun w' => w'.cell? ⟨b1, o1 + q, none⟩ = some (.int .i64 y) ∧ w'.cell? ⟨b1, o1 + k, none⟩ = some (.int .i64 z)) (by kernel_rfl) (by kernel_rfl) (fun _ _ _ _ _ h => h) (L := #[false, false, false, false, false, false, false, false, false]) (by kernel_rfl) ?_
                  intro Q' hns hP hN
                  have hS := (show wr.drew.cell? ⟨b1, o1 + q, none⟩ = some (.int .i64 y) ∧ wr.drew.cell? ⟨b1, o1 + k, none⟩ = some (.int .i64 z) from ⟨HDY.out, HDZ.out⟩)
                  refine h_takeL (i := 0) (v := .slice (some ⟨b1, o1, none⟩) n ca) hns rfl rfl (by kernel_rfl) (by kernel_rfl) hP (y_move rfl (by kernel_rfl) (by kernel_rfl)) hS rfl (L' := #[true, false, false, false, false, false, false, false, false]) (by kernel_rfl) ?_
                  refine h_takeL (i := 1) (v := .int .i64 q) hns rfl rfl (by kernel_rfl) (by kernel_rfl) hP (y_move rfl (by kernel_rfl) (by kernel_rfl)) hS rfl (L' := #[true, true, false, false, false, false, false, false, false]) (by kernel_rfl) ?_
                  refine h_takeL (i := 2) (v := .pointer (some ⟨b1, o1 + q, none⟩)) hns rfl rfl (by kernel_rfl) (by kernel_rfl) hP (y_index rfl (by kernel_rfl) (by kernel_rfl) (by kernel_rfl) (idx43 b1 o1 n ca q hqn)) hS rfl (L' := #[true, true, true, false, false, false, false, false, false]) (by kernel_rfl) ?_
                  refine h_takeL (i := 3) (v := .int .i64 y) hns rfl rfl (by kernel_rfl) (by kernel_rfl) hP (y_load rfl (by kernel_rfl) (by kernel_rfl) (fun w' h => load1 Tryd.isAgg3 h.1)) hS rfl (L' := #[true, true, true, true, false, false, false, false, false]) (by kernel_rfl) ?_
                  refine h_takeL (i := 4) (v := .slice (some ⟨b1, o1, none⟩) n ca) hns rfl rfl (by kernel_rfl) (by kernel_rfl) hP (y_move rfl (by kernel_rfl) (by kernel_rfl)) hS rfl (L' := #[true, true, true, true, true, false, false, false, false]) (by kernel_rfl) ?_
                  refine h_takeL (i := 5) (v := .int .i64 k) hns rfl rfl (by kernel_rfl) (by kernel_rfl) hP (y_move rfl (by kernel_rfl) (by kernel_rfl)) hS rfl (L' := #[true, true, true, true, true, true, false, false, false]) (by kernel_rfl) ?_
                  refine h_takeL (i := 6) (v := .pointer (some ⟨b1, o1 + k, none⟩)) hns rfl rfl (by kernel_rfl) (by kernel_rfl) hP (y_index rfl (by kernel_rfl) (by kernel_rfl) (by kernel_rfl) (idx43 b1 o1 n ca k hlt)) hS rfl (L' := #[true, true, true, true, true, true, true, false, false]) (by kernel_rfl) ?_
                  simp only [List.setIfInBounds_toArray, List.set_cons_zero, List.set_cons_succ]
                  refine h_takeL (i := 7) (v := .int .i64 z) hns rfl rfl (by kernel_rfl) (by kernel_rfl) hP (y_load rfl (by kernel_rfl) (by kernel_rfl) (fun w' h => load1 Tryd.isAgg3 h.2)) hS rfl (L' := #[true, true, true, true, true, true, true, true, false]) (by kernel_rfl) ?_
                  refine h_takeL (i := 8) (v := .bool bb) hns rfl rfl (by kernel_rfl) (by kernel_rfl) hP (y_bin (k := .i64) (k' := .i64) (m := y) (n := z) rfl (by kernel_rfl) (by kernel_rfl) (by kernel_rfl) (eqlI _ _ _ HV4.out)) hS rfl (L' := #[true, true, true, true, true, true, true, true, true]) (by kernel_rfl) ?_
                  simp only [List.setIfInBounds_toArray, List.set_cons_zero, List.set_cons_succ]
                  refine wpAnyH_done (by kernel_rfl) ?_ _
                  refine hN _ _ ?_
                  clear hP hN hns
                  clear hS
                  have HB := hid (show Below mb w wr.drew from HBT.out.drew)
                  have HD1 := hid (show wr.drew.cell? ⟨b1, o1 + k, none⟩ = some (.int .i64 z) from HDZ.out)
                  clear HBT HDZ HDY
                  generalize wr.drew = wv at *
                  cases bb with
                  | true =>
                    have hyz : y = z := by simpa using hbb.symm
                    have hbad := HBAD.out (fun hf => by
                      have hnd := hf.2.1
                      rw [← List.take_append_drop k zs] at hnd
                      have hzd : z ∈ zs.drop k := List.mem_of_getElem? (i := 0) (by rw [List.getElem?_drop]; exact HZS.out)
                      have hzt : z ∈ zs.take k := by
                        rw [← hyz]
                        exact List.mem_of_getElem? (i := q) (by rw [List.getElem?_take_of_lt hqk]; exact HY.out)
                      exact (List.nodup_append.1 hnd).2.2 z hzt z hzd rfl)
                    clear HBAD HGOOD HZS HPK HND HHS HLS HD1 HV4 HY HNOT hbb hyz
                    subst hbad
                    go_wp2
                    go_ret
                    exact ⟨rfl, by first | exact HB.out | rw [hmb]; exact HB.out⟩
                  | false =>
                    have hyz : y ≠ z := by simpa using hbb.symm
                    have HZ : Hid (z ∉ zs.take (q + 1) ∧ Below mb w wv ∧ wv.cell? ⟨b1, o1 + k, none⟩ = some (.int .i64 z)) := hid ⟨by
                      rw [List.take_add_one, HY.out]
                      simp only [Option.toList_some, List.mem_append, List.mem_singleton, not_or]
                      exact ⟨HNOT.out, fun e => hyz e.symm⟩, HB.out, HD1.out⟩
                    clear HV4 HY HNOT hbb hyz HB HD1
                    go_wp2
                    exact ⟨⟨q + 1, by omega, rfl, HZ.out⟩, by simp [intOf]; omega⟩
                · have hqk' : ¬ (q : Int) < (k : Int) := by omega
                  have hqe : q = k := by omega
                  rw [hqe] at hnot
                  have htz : zs.take (k + 1) = zs.take k ++ [z] := by rw [List.take_add_one, HZS.out]; rfl
                  have htp : ps.take (k + 1) = ps.take k ++ [pk] := by rw [List.take_add_one, HPK.out]; rfl
                  have HZ : Hid ((zs.take (k + 1)).Nodup ∧ (∀ z ∈ zs.take (k + 1), hasB z nb = true) ∧ (∀ l ∈ ps.take (k + 1), l.length = 112) ∧ Below mb w wr) := hid (by
                    rw [htz, htp]
                    refine ⟨List.nodup_append.2 ⟨HND.out, by simp, fun a ha b hb => ?_⟩, fun y hy => ?_, fun l hl => ?_, hBt⟩
                    · obtain rfl : b = z := by simpa using hb
                      exact fun e => hnot (e ▸ ha)
                    · rcases List.mem_append.1 hy with hy | hy
                      · exact HHS.out y hy
                      · obtain rfl : y = z := by simpa using hy
                        exact hzh
                    · rcases List.mem_append.1 hl with hl | hl
                      · exact HLS.out l hl
                      · obtain rfl : l = pk := by simpa using hl
                        exact hpl)
                  clear hnot htz htp hBt hdz hlz hll HBAD HGOOD HZS HPK HND HHS HLS hqe
                  go_wp2
                  exact ⟨⟨k + 1, hlt, rfl, HZ.out⟩, by simp [intOf]; omega⟩
      · have hlt' : ¬ (k : Int) < (n : Int) := by omega
        have hkl : k = n := by omega
        rw [hkl, List.take_of_length_le (by omega)] at hnd hhs
        rw [hkl, List.take_of_length_le (by rw [HLEN.out]; exact Nat.le_refl _)] at hls
        have hgood : RR = 0 := HGOOD.out ⟨HN.out.symm.trans HLEN.out, hnd, hhs, hls⟩
        have HB := hid hBr
        clear HBAD HGOOD hnd hhs hls hBr hll hlz
        subst hgood
        go_wp2
        go_ret
        exact ⟨rfl, by first | exact HB.out | rw [hmb]; exact HB.out⟩
  · have hlen' : ¬ (zs.length : Int) = (ps.length : Int) := by omega
    have hbad := HBAD.out (fun hf => hlen hf.1)
    clear HBAD HGOOD HR HA HBB HL
    subst hbad
    go_enter Tryd.func28, Tryd.ntmps28
    go_wp2
    go_ret
    exact ⟨rfl, Below.refl _ _⟩
end Go.Proofs.YtdogjicccajnkaaDoor
/- Rows of strings. -/
namespace Go.Proofs.YtdogjicccajnkaaDoor
open Go Go.RowKit

theorem y_convS {ops : Array Oper} {S : World → Prop} {o : Oper} {a : Act} {x : Operand} {v u : Value} (hop : o.op = .convert 33 9 x) (hw : Region.wanted o (yielded ops a.tmps) = true) (hv : a.eval x = v)
    (hc : ∀ w, S w → (convert 33 9 v).run Tryd.prog w = .ok u w) : YieldsIf Tryd.prog ops S o u a :=
  .inl ⟨hw, fun w h => by unfold execOp; rw [hop]; simp [hv, hc w h]⟩
theorem owns_put {w : World} {B g n cap : Nat} {xs : List Value} (h : w.ownsRow B 9 1 (.slice (some ⟨g, 0, none⟩) n cap) n xs) (i : Nat) (u : Value) : (w.setCell ⟨g, i, none⟩ u).ownsRow B 9 1 (.slice (some ⟨g, 0, none⟩) n cap) n (xs.set i u) := by
  obtain ⟨h1, h2⟩ := h
  refine ⟨by rw [List.length_set]; exact h1, ?_⟩
  rcases h2 with ⟨h, _⟩ | ⟨g', cap', cur, hv, hb, hg, hc, hm, hs, ht⟩
  · cases h
  · cases hv
    refine .inr ⟨g, cap, cur.setIfInBounds i u, rfl, hb, heap_setCell hg i u, hc, hm, by rw [Array.size_setIfInBounds]; exact hs, ?_⟩
    rw [Array.toList_setIfInBounds, List.take_set, ht]
theorem idx49 (b n cap k : Nat) (h : k < n) (w : World) : (Instr.indexAt 49 (.slice (some ⟨b, 0, none⟩) n cap) (.int .i64 k)).run Tryd.prog w = .ok (.pointer (some ⟨b, k, none⟩)) w := by
  have h1 : (k : Int) < n := by omega
  go_simp
end Go.Proofs.YtdogjicccajnkaaDoor
/- The reference's Write. -/
namespace Go.Proofs.YtdogjicccajnkaaDoor
open Go Go.RowKit

theorem wsOf_get {zs : List Int} {ps : List (List UInt8)} {k : Nat} {z : Int} {p : List UInt8} (hz : zs[k]? = some z) (hp : ps[k]? = some p) : (wsOf zs ps)[k]? = some (z.toNat, p) := by
  unfold wsOf
  rw [List.getElem?_map, (List.getElem?_zip_eq_some (z := (z, p))).2 ⟨hz, hp⟩]
  rfl
set_option maxRecDepth 100000 in
set_option maxHeartbeats 8000000 in
theorem refWrite_any {w : World} {B r : Nat} {bl : List (List UInt8)} {sq : Int} {va vb : Value} {zs : List Int} {ps : List (List UInt8)} (h : Rj w B r bl sq) (hrB : r < B) (ha : Iz w va zs) (hb : Bz w vb ps)
    (hfr : ∀ g c w', w.heap[g]? = some (.cells c 9 (0, 0)) → Fr [g] w w' → Iz w' va zs ∧ Bz w' vb ps) (hl : zs.length ≤ 281474976710656) (hf : Fit bl.length zs ps) (h0 : zs ≠ []) (hsq : 0 ≤ sq ∧ sq < 1000000000000) :
    Calls Tryd.prog 23 #[.pointer (some ⟨r, 0, none⟩), va, vb] w fun e w' => e = .returned (.int .i64 0) ∧ Rj w' B r (layAll bl (wsOf zs ps)) (sq + 1) ∧ ∃ g c, w.heap[g]? = some (.cells c 9 (0, 0)) ∧ Fr [r, g] w w' := by
  have HREF := hid (refused_any h ha hb hl)
  rw [if_pos hf] at HREF
  obtain ⟨vv, hr, ho⟩ := h
  have hnl := hf.len
  have hz0 : zs.length ≠ 0 := fun e => h0 (List.length_eq_zero_iff.1 e)
  obtain ⟨g, cx, c0, rfl, hgc⟩ : ∃ g cap c, vv = .slice (some ⟨g, 0, none⟩) bl.length cap ∧ w.heap[g]? = some (.cells c 9 (0, 0)) := by
    rcases ho.2 with ⟨_, h0⟩ | ⟨g, cap, cur, rfl, _, hg, _⟩
    · omega
    · exact ⟨g, cap, cur, rfl, hg⟩
  have hrg : r ≠ g := fun e => by rw [e, hgc] at hr; cases hr
  have HFR : Hid (∀ w', Fr [g] w w' → Iz w' va zs ∧ Bz w' vb ps) := hid (fun w' hF => hfr g c0 w' hgc hF)
  obtain ⟨aa, ca, rfl, _⟩ := ha
  obtain ⟨ab, cb', rfl, _⟩ := hb
  obtain ⟨n, hn⟩ : ∃ n, n = zs.length := ⟨_, rfl⟩
  rw [← hf.1, ← hn] at HREF HFR ⊢
  have hq1 : IntKind.i64.wrap (sq + 1) = sq + 1 := by rw [IntWalk.i64_in _ ⟨by omega, by omega⟩]
  have hn0 : ¬ (n : Int) = 0 := by omega
  have HN := hid hn
  have HF := hid hf
  have HL := hid hl
  have HGC := hid hgc
  have HR0 := hid hr
  have HO0 := hid ho
  obtain ⟨nb, hnb⟩ : ∃ nb, nb = bl.length := ⟨_, rfl⟩
  rw [← hnb] at HO0 HF HR0
  have HNB := hid hnb
  clear hr ho hnl hz0 hgc hfr hl hf h0 hn hnb
  go_enter Tryd.func23, Tryd.ntmps23
  go_wp2_with fail
  refine HREF.out.mono ?_
  rintro e w1 ⟨rfl, hB1⟩
  have HS0 : Hid (w1.heap[r]? = some (.cells #[.slice (some ⟨g, 0, none⟩) nb cx, .int .i64 sq] 51 (0, 0)) ∧ w1.ownsRow B 9 1 (.slice (some ⟨g, 0, none⟩) nb cx) nb ((layAll bl ((wsOf zs ps).take 0)).map strV) ∧ Fr [g] w w1) := hid ⟨below_at hB1 HR0.out (heap_lt HR0.out), by
    obtain ⟨h1, h2⟩ := HO0.out
    refine ⟨h1, ?_⟩
    rcases h2 with h2 | ⟨g', cap, cur, hv, hb, hg, r2⟩
    · exact .inl h2
    · exact .inr ⟨g', cap, cur, hv, hb, below_at hB1 hg (heap_lt hg), r2⟩, Fr.of_below (X := [g]) hB1⟩
  clear hB1 HREF HR0 HO0
  go_wp2_with fail
  go_loopw [8] (fun y wr => ∃ k : Nat, k ≤ n ∧ y = .int .i64 k ∧ wr.heap[r]? = some (.cells #[.slice (some ⟨g, 0, none⟩) nb cx, .int .i64 sq] 51 (0, 0)) ∧ wr.ownsRow B 9 1 (.slice (some ⟨g, 0, none⟩) nb cx) nb ((layAll bl ((wsOf zs ps).take k)).map strV) ∧ Fr [g] w wr) (fun y _ => n - (intOf y).toNat)
  case atStart => exact ⟨0, by omega, rfl, HS0.out⟩
  case round =>
    clear HS0
    obtain ⟨k, hk, rfl, hr, ho, hFr⟩ := hrel
    have hlz := HN.out
    have hll := HL.out
    have hwk : IntKind.i64.wrap ((k : Int) + 1) = ((k + 1 : Nat) : Int) := by rw [IntWalk.i64_in _ ⟨by omega, by omega⟩]; omega
    by_cases hlt : k < n
    · have hlt' : (k : Int) < (n : Int) := by omega
      obtain ⟨z, hz⟩ : ∃ z, zs[k]? = some z := ⟨_, List.getElem?_eq_getElem (by omega)⟩
      obtain ⟨⟨a1, c1, e1, ha⟩, ⟨a2, c2, e2, hb⟩⟩ := HFR.out wr hFr
      obtain ⟨b1, o1, e3, hc1⟩ := ha k z hz
      obtain ⟨b2, o2, ap, cp, e4, hc2, hs2⟩ := hb k (by have := HF.out.1; omega)
      have hpk : ps[k]? = some (ps.getD k []) := by simp [List.getD, show k < ps.length by have := HF.out.1; omega]
      generalize ps.getD k [] = pk at *
      obtain ⟨rfl, -, rfl⟩ : aa = a1 ∧ n = zs.length ∧ ca = c1 := by injection e1 with h1 h2 h3; exact ⟨h1, h2, h3⟩
      obtain ⟨rfl, -, rfl⟩ : ab = a2 ∧ n = ps.length ∧ cb' = c2 := by injection e2 with h1 h2 h3; exact ⟨h1, h2, h3⟩
      subst e3
      subst e4
      have hzn := HF.out.at (List.mem_of_getElem? hz)
      obtain ⟨m, rfl⟩ : ∃ m : Nat, z = (m : Int) := ⟨z.toNat, by omega⟩
      have hmn : m < nb := by omega
      have hll2 : (layAll bl ((wsOf zs ps).take k)).length = nb := by rw [layAll_len]; exact HNB.out.symm
      have hst : layAll bl ((wsOf zs ps).take (k + 1)) = (layAll bl ((wsOf zs ps).take k)).set m pk := by
        have := layAll_take bl (wsOf zs ps) k _ (wsOf_get hz hpk)
        rw [this]; rfl
      have hoc : ∃ u, wr.cell? ⟨g, m, none⟩ = some u ∧ wr.frozen? ⟨g, m, none⟩ = false := by
        rcases ho.2 with ⟨h, _⟩ | ⟨g', cap', cur, hv, hbb, hg, hc, hm, hs, ht⟩
        · cases h
        · cases hv
          exact ⟨_, cell_at hg m (Array.getElem?_eq_getElem (by omega)), open_at hg m⟩
      obtain ⟨u0, hu0, hf0⟩ := hoc
      have hsto : (Instr.storeAt 9 (.pointer (some ⟨g, m, none⟩)) (strV pk)).run Tryd.prog wr.drew = .ok () (wr.drew.setCell ⟨g, m, none⟩ (strV pk)) := store1 Tryd.sizeOf9 (strV pk) rfl rfl (show wr.drew.cell? ⟨g, m, none⟩ = some u0 from hu0) (show wr.drew.frozen? ⟨g, m, none⟩ = false from hf0)
      have hcv : ∀ w', w'.heap = wr.heap → (convert 33 9 (.slice ap pk.length cp)).run Tryd.prog w' = .ok (strV pk) w' := fun w' hw' => by
        have : Sl w' (.slice ap pk.length cp) pk := by
          obtain ⟨a5, c5, e5, h5, h6, h7⟩ := hs2
          refine ⟨a5, c5, e5, h5, h6, fun hne => ?_⟩
          obtain ⟨b, off, e, hrd⟩ := h7 hne
          exact ⟨b, off, e, fun j hj => by have := hrd j hj; unfold World.cell? at *; rw [hw']; exact this⟩
        exact conv_sl this
      have HZ : Hid ((wr.drew.setCell ⟨g, m, none⟩ (strV pk)).heap[r]? = some (.cells #[.slice (some ⟨g, 0, none⟩) nb cx, .int .i64 sq] 51 (0, 0)) ∧ (wr.drew.setCell ⟨g, m, none⟩ (strV pk)).ownsRow B 9 1 (.slice (some ⟨g, 0, none⟩) nb cx) nb ((layAll bl ((wsOf zs ps).take (k + 1))).map strV) ∧ Fr [g] w (wr.drew.setCell ⟨g, m, none⟩ (strV pk))) := hid ⟨(Fr.setCell wr.drew g m (strV pk)).at (show wr.drew.heap[r]? = _ from hr) (by simpa using hrg), by rw [hst, List.map_set]; exact owns_put (show wr.drew.ownsRow _ _ _ _ _ _ from ho) m (strV pk), (hFr.trans (Fr.drew wr) (by simp)).trans (Fr.setCell wr.drew g m (strV pk)) (fun x hx => .inl hx)⟩
      have HD1 := hid hc1
      have HD2 := hid hc2
      have HDR := hid hr
      have HSTO := hid hsto
      have HCV := hid hcv
      clear e1 e2 hz ha hb hs2 hpk hzn hll2 hst hu0 hf0 hsto hcv hc1 hc2 hr ho hFr hlz hll
      go_upto_region 7 with fail
      refine z_open (S := fun w' => w' = wr.drew) 14 (by kernel_rfl) (by kernel_rfl) (fun _ _ _ _ _ h => h) (L := #[false, false, false, false, false, false, false, false, false, false, false, false, false, false, false]) (by kernel_rfl) ?_
      intro Q' hns hP hN
      have hS := (show wr.drew = wr.drew from rfl)
      refine z_pure (i := 0) (v := .pointer (some ⟨r, 0, none⟩)) hns rfl rfl rfl (by kernel_rfl) (by kernel_rfl) hP (y_move rfl (by kernel_rfl) (by kernel_rfl)) (fun _ => hS) rfl (L' := #[true, false, false, false, false, false, false, false, false, false, false, false, false, false, false]) (by kernel_rfl) ?_
      refine z_pure (i := 1) (v := .pointer (some ⟨r, 0, none⟩)) hns rfl rfl rfl (by kernel_rfl) (by kernel_rfl) hP (y_nil rfl (by kernel_rfl) (by kernel_rfl)) (fun _ => hS) rfl (L' := #[true, true, false, false, false, false, false, false, false, false, false, false, false, false, false]) (by kernel_rfl) ?_
      refine z_pure (i := 2) (v := .pointer (some ⟨r, 0, none⟩)) hns rfl rfl rfl (by kernel_rfl) (by kernel_rfl) hP (y_faddr rfl (by kernel_rfl) (by kernel_rfl) (fa51_0 (r))) (fun _ => hS) rfl (L' := #[true, true, true, false, false, false, false, false, false, false, false, false, false, false, false]) (by kernel_rfl) ?_
      refine z_read (i := 3) (v := .slice (some ⟨g, 0, none⟩) nb cx) hns rfl (by kernel_rfl) rfl rfl (by kernel_rfl) (by kernel_rfl) hP (y_load rfl (by kernel_rfl) (by kernel_rfl) (fun w' h => by subst h; exact load1 Tryd.isAgg49 (cell_at (show wr.drew.heap[r]? = _ from HDR.out) 0 rfl))) rfl hS rfl (L' := #[true, true, true, true, false, false, false, false, false, false, false, false, false, false, false]) (by kernel_rfl) ?_
      refine z_pure (i := 4) (v := .slice (some ⟨b1, o1, none⟩) n ca) hns rfl rfl rfl (by kernel_rfl) (by kernel_rfl) hP (y_move rfl (by kernel_rfl) (by kernel_rfl)) (fun _ => hS) rfl (L' := #[true, true, true, true, true, false, false, false, false, false, false, false, false, false, false]) (by kernel_rfl) ?_
      refine z_pure (i := 5) (v := .int .i64 k) hns rfl rfl rfl (by kernel_rfl) (by kernel_rfl) hP (y_move rfl (by kernel_rfl) (by kernel_rfl)) (fun _ => hS) rfl (L' := #[true, true, true, true, true, true, false, false, false, false, false, false, false, false, false]) (by kernel_rfl) ?_
      refine z_pure (i := 6) (v := .pointer (some ⟨b1, o1 + k, none⟩)) hns rfl rfl rfl (by kernel_rfl) (by kernel_rfl) hP (y_index rfl (by kernel_rfl) (by kernel_rfl) (by kernel_rfl) (idx43 b1 o1 n ca k hlt)) (fun _ => hS) rfl (L' := #[true, true, true, true, true, true, true, false, false, false, false, false, false, false, false]) (by kernel_rfl) ?_
      simp only [List.setIfInBounds_toArray, List.set_cons_zero, List.set_cons_succ]
      refine z_read (i := 7) (v := .int .i64 (m : Nat)) hns rfl (by kernel_rfl) rfl rfl (by kernel_rfl) (by kernel_rfl) hP (y_load rfl (by kernel_rfl) (by kernel_rfl) (fun w' h => by subst h; exact load1 Tryd.isAgg3 (show wr.drew.cell? _ = _ from HD1.out))) rfl hS rfl (L' := #[true, true, true, true, true, true, true, true, false, false, false, false, false, false, false]) (by kernel_rfl) ?_
      refine z_pure (i := 8) (v := .slice (some ⟨b2, o2, none⟩) n cb') hns rfl rfl rfl (by kernel_rfl) (by kernel_rfl) hP (y_move rfl (by kernel_rfl) (by kernel_rfl)) (fun _ => hS) rfl (L' := #[true, true, true, true, true, true, true, true, true, false, false, false, false, false, false]) (by kernel_rfl) ?_
      refine z_pure (i := 9) (v := .int .i64 k) hns rfl rfl rfl (by kernel_rfl) (by kernel_rfl) hP (y_move rfl (by kernel_rfl) (by kernel_rfl)) (fun _ => hS) rfl (L' := #[true, true, true, true, true, true, true, true, true, true, false, false, false, false, false]) (by kernel_rfl) ?_
      refine z_pure (i := 10) (v := .pointer (some ⟨b2, o2 + k, none⟩)) hns rfl rfl rfl (by kernel_rfl) (by kernel_rfl) hP (y_index rfl (by kernel_rfl) (by kernel_rfl) (by kernel_rfl) (idx46 b2 o2 n cb' k hlt)) (fun _ => hS) rfl (L' := #[true, true, true, true, true, true, true, true, true, true, true, false, false, false, false]) (by kernel_rfl) ?_
      refine z_read (i := 11) (v := .slice ap pk.length cp) hns rfl (by kernel_rfl) rfl rfl (by kernel_rfl) (by kernel_rfl) hP (y_load rfl (by kernel_rfl) (by kernel_rfl) (fun w' h => by subst h; exact load1 Tryd.isAgg33 (show wr.drew.cell? _ = _ from HD2.out))) rfl hS rfl (L' := #[true, true, true, true, true, true, true, true, true, true, true, true, false, false, false]) (by kernel_rfl) ?_
      refine z_read (i := 12) (v := strV pk) hns rfl (by kernel_rfl) rfl rfl (by kernel_rfl) (by kernel_rfl) hP (y_convS rfl (by kernel_rfl) (by kernel_rfl) (fun w' h => by subst h; exact HCV.out _ rfl)) rfl hS rfl (L' := #[true, true, true, true, true, true, true, true, true, true, true, true, true, false, false]) (by kernel_rfl) ?_
      refine z_pure (i := 13) (v := .pointer (some ⟨g, m, none⟩)) hns rfl rfl rfl (by kernel_rfl) (by kernel_rfl) hP (y_index rfl (by kernel_rfl) (by kernel_rfl) (by kernel_rfl) (idx49 g nb cx m hmn)) (fun _ => hS) rfl (L' := #[true, true, true, true, true, true, true, true, true, true, true, true, true, true, false]) (by kernel_rfl) ?_
      refine z_last (by kernel_rfl) rfl rfl (by kernel_rfl) (run_storeOp rfl (by kernel_rfl) (by kernel_rfl) HSTO.out) rfl (L' := #[true, true, true, true, true, true, true, true, true, true, true, true, true, true, true]) (by kernel_rfl) ?_
      try simp only [List.setIfInBounds_toArray, List.set_cons_zero, List.set_cons_succ]
      refine z_done (by kernel_rfl) ?_ _
      refine hN _ _ ?_
      clear hP hN hns
      clear hS HSTO HCV HD1 HD2 HDR
      generalize wr.drew.setCell ⟨g, m, none⟩ (strV pk) = wd at *
      go_wp2
      exact ⟨⟨k + 1, hlt, rfl, HZ.out⟩, by simp [intOf]; omega⟩
    · have hlt' : ¬ (k : Int) < (n : Int) := by omega
      have hkn : k = n := by omega
      have hwl : (wsOf zs ps).length = n := by rw [wsOf_len HF.out.1]; exact hlz.symm
      rw [hkn, List.take_of_length_le (by omega)] at ho
      have hcs : wr.cell? ⟨r, 1, none⟩ = some (.int .i64 sq) := cell_at hr 1 rfl
      have hfz := open_at hr 1
      have HZ : Hid (Rj (wr.setCell ⟨r, 1, none⟩ (.int .i64 (sq + 1))) B r (layAll bl (wsOf zs ps)) (sq + 1) ∧ ∃ g c, w.heap[g]? = some (.cells c 9 (0, 0)) ∧ Fr [r, g] w (wr.setCell ⟨r, 1, none⟩ (.int .i64 (sq + 1)))) := hid ⟨⟨.slice (some ⟨g, 0, none⟩) nb cx, heap_setCell hr 1 (.int .i64 (sq + 1)), by
        have h1 : (layAll bl (wsOf zs ps)).length = nb := by rw [layAll_len]; exact HNB.out.symm
        rw [h1]
        exact owns_set ho hrB 1 _⟩, g, c0, HGC.out, (hFr.mono (Y := [r, g]) (fun x hx => .inl (by simp at hx; simp [hx]))).trans (Fr.setCell wr r 1 _) (fun x hx => .inl (by simp at hx; simp [hx]))⟩
      clear hr ho hFr hkn hwl hlz hll HGC
      go_wp2
      go_ret
      refine ⟨rfl, HZ.out.1, ?_⟩
      obtain ⟨g, c, h1, h2⟩ := HZ.out.2
      first | exact ⟨g, c, h1, h2⟩ | exact ⟨g, ⟨c, h1⟩, h2⟩
end Go.Proofs.YtdogjicccajnkaaDoor
/- The reference's Write, where it is refused, or of nothing. -/
namespace Go.Proofs.YtdogjicccajnkaaDoor
open Go Go.RowKit

set_option maxHeartbeats 1000000 in
theorem refWrite_bad {w : World} {B r : Nat} {bl : List (List UInt8)} {sq : Int} {va vb : Value} {zs : List Int} {ps : List (List UInt8)} (h : Rj w B r bl sq) (ha : Iz w va zs) (hb : Bz w vb ps) (hl : zs.length ≤ 281474976710656) (hf : ¬ Fit bl.length zs ps) :
    Calls Tryd.prog 23 #[.pointer (some ⟨r, 0, none⟩), va, vb] w fun e w' => e = .returned (.int .i64 2) ∧ Below w.heap.size w w' := by
  have HREF := hid (refused_any h ha hb hl)
  rw [if_neg hf] at HREF
  clear h ha hb hl hf
  go_enter Tryd.func23, Tryd.ntmps23
  go_wp2_with fail
  refine HREF.out.mono ?_
  rintro e w1 ⟨rfl, hB1⟩
  have HB := hid hB1
  clear hB1 HREF
  go_wp2
  go_ret
  exact ⟨rfl, HB.out⟩
set_option maxHeartbeats 1000000 in
theorem refWrite_none {w : World} {B r : Nat} {bl : List (List UInt8)} {sq : Int} {va vb : Value} (h : Rj w B r bl sq) (ha : Iz w va []) (hb : Bz w vb []) :
    Calls Tryd.prog 23 #[.pointer (some ⟨r, 0, none⟩), va, vb] w fun e w' => e = .returned (.int .i64 0) ∧ Below w.heap.size w w' := by
  have HREF := hid (refused_any h ha hb (by simp))
  rw [if_pos (show Fit bl.length [] [] from ⟨rfl, by simp, by simp, by simp⟩)] at HREF
  obtain ⟨aa, ca, rfl, _⟩ := ha
  obtain ⟨ab, cb', rfl, _⟩ := hb
  clear h
  go_enter Tryd.func23, Tryd.ntmps23
  go_wp2_with fail
  refine HREF.out.mono ?_
  rintro e w1 ⟨rfl, hB1⟩
  have HB := hid hB1
  clear hB1 HREF
  go_wp2
  go_ret
  exact ⟨rfl, HB.out⟩
end Go.Proofs.YtdogjicccajnkaaDoor
