/- texts put together: JCommit JGet JBlock JSmall JRead JFrs JLast JNto JNotesOf JMissing -/
import Derived.Test.YtcmgclkbhhdnaaaGreatDoorJGc
import Derived.Great.BuildSlice
import Derived.Maps.AppendAt
namespace Go.Proofs.YtcmgclkbhhdnaaaGreatDoor
open Go Go.RowKit

def markK : List UInt8 := [109, 97, 114, 107]
def blockK : List UInt8 := [98, 108, 111, 99, 107]
theorem and1 (a : Nat) (ha : a < 9223372036854775808) : bits .and .i64 (a : Int) 1 = ((a % 2 : Nat) : Int) := by
  have h1 : (BitVec.ofInt 64 (a : Int)).toNat = a := by
    rw [BitVec.ofInt_natCast, BitVec.toNat_ofNat]; exact Nat.mod_eq_of_lt (by omega)
  have h2 : (BitVec.ofInt 64 (1 : Int)).toNat = 1 := by decide
  show IntKind.i64.wrap ((BitVec.ofInt 64 (a : Int) &&& BitVec.ofInt 64 1).toNat : Int) = _
  rw [BitVec.toNat_and, h1, h2, Nat.and_one_is_mod, IntWalk.i64_in _ ⟨by omega, by omega⟩]
theorem markAt_any (sq : Nat) (h : sq < 9223372036854775808) (w : World) : Calls Tryz.prog 117 #[.int .i64 (sq : Nat)] w fun e w' => e = .returned (.int .i64 (sq % 2 : Nat)) ∧ w' = w := by
  have h1 := and1 sq h
  generalize sq % 2 = r at *
  go_enter Tryz.func117, Tryz.ntmps117
  go_wp2
  go_ret
  exact ⟨rfl, rfl⟩
theorem hd_not {w : World} {p : Nat} {X : List Nat} {s : DS} {j nb : Nat} {seq off : Int} {g : Nat} {a b : Int} (hD : Disk w p X s) (hj : Jn w j p nb seq off) (hg : Hd w g a b) : g ∉ j :: X := fun hm => by
  rcases List.mem_cons.1 hm with rfl | hm
  · rw [Jn, show w.heap[g]? = _ from hg] at hj; cases hj
  · exact hD.other hg (by decide) (by decide) hm
theorem Tab.fr {X : List Nat} {w w' : World} (h : Tab w) (hF : Fr X w w') (hX : 0 ∉ X) : Tab w' := fun k hk => by
  have h1 := h k hk
  have hl := World.block_lt_of_cell? w _ h1
  rw [← h1]
  unfold World.cell?
  rw [hF.block _ hl hX]
theorem tab_not {w : World} {p : Nat} {X : List Nat} {s : DS} {j nb : Nat} {seq off : Int} (hD : Disk w p X s) (hj : Jn w j p nb seq off) (ht : Tab w) : 0 ∉ j :: X := fun hm => by
  have h0 : ∀ g : Nat, 0 = g → w.cell? ⟨g, 0, none⟩ = some (.int .u32 (crcAt 0 : Nat)) := fun g e => by subst e; exact ht 0 (by decide)
  have hrow : ∀ {g cap : Nat} {ss : List (List UInt8)}, Row w g cap ss → ss.length ≠ 0 → w.cell? ⟨g, 0, none⟩ ≠ some (.int .u32 (crcAt 0 : Nat)) := by
    rintro g cap ss ⟨cur, hg, _, _, _, hc⟩ hne hcell
    cases ss with
    | nil => exact hne rfl
    | cons l r =>
      obtain ⟨h1, h2⟩ := hc 0 l rfl
      cases l with
      | nil => simp at h1
      | cons c l =>
        have h3 := h2 0 _ rfl
        rw [cell_at hg 0 h3] at hcell
        cases hcell
  rcases List.mem_cons.1 hm with he | hm
  · have h1 := h0 _ he
    rw [hj.c0] at h1; cases h1
  · obtain ⟨a, ca, b, cb, m, rfl, hDc, hA, hB, hM, _, hok⟩ := hD
    simp only [List.mem_cons, List.not_mem_nil, or_false] at hm
    rcases hm with he | he | he | he
    · have h1 := h0 _ he
      rw [hDc.c0] at h1; cases h1
    · exact hrow hA (by rw [hok.nowLen]; exact hok.n0) (h0 _ he)
    · exact hrow hB (by rw [hok.keptLen]; exact hok.n0) (h0 _ he)
    · have h1 := h0 _ he
      simp [World.cell?, show w.heap[m]? = _ from hM] at h1
/-- What commit does. -/
def DS.comR (s : DS) (nb sq cnt : Nat) (ns : List (Nat × List UInt8)) : Int × DS :=
  if (s.puts (noteAtL ns)).1 ≠ 0 then s.puts (noteAtL ns) else
  if (s.puts (noteAtL ns)).2.fl.1 ≠ 0 then (s.puts (noteAtL ns)).2.fl else
  if ((s.puts (noteAtL ns)).2.fl.2.wr (sq % 2 : Nat) (frameOf markK [] (sq : Nat) (cnt : Nat))).1 ≠ 0 then (s.puts (noteAtL ns)).2.fl.2.wr (sq % 2 : Nat) (frameOf markK [] (sq : Nat) (cnt : Nat)) else
  if ((s.puts (noteAtL ns)).2.fl.2.wr (sq % 2 : Nat) (frameOf markK [] (sq : Nat) (cnt : Nat))).2.fl.1 ≠ 0 then ((s.puts (noteAtL ns)).2.fl.2.wr (sq % 2 : Nat) (frameOf markK [] (sq : Nat) (cnt : Nat))).2.fl else
  ((s.puts (noteAtL ns)).2.fl.2.wr (sq % 2 : Nat) (frameOf markK [] (sq : Nat) (cnt : Nat))).2.fl.2.layR nb ns
/-- What a call on a journal leaves. -/
def Left (w : World) (j p nb : Nat) (seq : Int) (X : List Nat) (R : Int × DS) (e : Ending) (w' : World) : Prop :=
  e = .returned (.int .i64 R.1) ∧ Jn w' j p nb seq R.1 ∧ ∃ X', Disk w' p X' R.2 ∧ (∀ k ∈ X', k ∈ X ∨ w.heap.size ≤ k) ∧ Fr (j :: X) w w'
theorem Left.tr {w w1 w2 : World} {j p nb : Nat} {seq : Int} {X X1 : List Nat} {R : Int × DS} {e : Ending} (h : Left w1 j p nb seq X1 R e w2) (hF : Fr (j :: X) w w1) (hX : ∀ k ∈ X1, k ∈ X ∨ w.heap.size ≤ k) : Left w j p nb seq X R e w2 := by
  obtain ⟨h1, h2, X2, h3, h4, h5⟩ := h
  refine ⟨h1, h2, X2, h3, fun k hk => ?_, hF.trans h5 (fun k hk => ?_)⟩
  · rcases h4 k hk with h | h
    · exact hX k h
    · exact .inr (Nat.le_trans hF.size h)
  · rcases List.mem_cons.1 hk with rfl | hk
    · exact .inl (by simp)
    · rcases hX k hk with h | h
      · exact .inl (List.mem_cons_of_mem _ h)
      · exact .inr h
set_option maxRecDepth 100000 in
set_option maxHeartbeats 4000000 in
theorem commit_any {w : World} {j p nb g sq cnt : Nat} {seq off : Int} {X : List Nat} {s : DS} {v : Value} {ns : List (Nat × List UInt8)} (hj : Jn w j p nb seq off) (hD : Disk w p X s) (hn : Nts w g v ns) (ht : Tab w) (hnb : nb ≤ 1000000) (hns : ns.length ≤ 1000000) (hi : ∀ x ∈ ns, x.1 ≤ 1000000) (hsq : sq < 9223372036854775808) (hcn : cnt ≤ 1000000) :
    Calls Tryz.prog 92 #[.pointer (some ⟨j, 0, none⟩), .agg #[.int .i64 (sq : Nat), .int .i64 (cnt : Nat)], v] w (Left w j p nb seq X (s.comR nb sq cnt ns)) := by
  obtain ⟨va, vc, rfl⟩ := hn.shape
  have hbx := box78 w (sq : Nat) (cnt : Nat)
  obtain ⟨w0, hw0⟩ : ∃ w0, w0 = w.alloc (.cells #[.int .i64 (sq : Nat), .int .i64 (cnt : Nat)] 131) := ⟨_, rfl⟩
  rw [← hw0] at hbx
  have hB0 : Below w.heap.size w w0 := by rw [hw0]; exact (Below.refl _ _).alloc (Nat.le_refl _) _
  have hh0 : Hd w0 w.heap.size (sq : Nat) (cnt : Nat) := by rw [hw0]; exact heap_alloc_last w _
  have HBX := hid hbx
  have HJ0 := hid (show Jn w0 j p nb seq off from below_at hB0 hj (heap_lt hj))
  have HD0 := hid (hD.below hB0)
  have HN0 := hid (hn.below hB0)
  have HT0 := hid (ht.below hB0)
  have HH0 := hid hh0
  have HF0 := hid (show Fr (j :: X) w w0 from Fr.of_below (X := j :: X) hB0)
  have HNB := hid hnb
  have HNL := hid hns
  have HIX := hid hi
  have HSQ := hid hsq
  have HCN := hid hcn
  clear hj hD hn ht hnb hns hi hsq hcn hbx hw0 hB0 hh0
  go_enter Tryz.func92, Tryz.ntmps92
  go_upto_region 0 with fail
  refine wp_region_lit ?_
  refine wp_run (v := .pointer (some ⟨w.heap.size, 0, none⟩)) rfl rfl (run_boxOp rfl (by kernel_rfl) HBX.out) rfl ?_
  refine wp_y (v := (.int .i64 0)) rfl rfl (y_assign rfl) rfl ?_
  try simp only [List.setIfInBounds_toArray, List.set_cons_zero, List.set_cons_succ]
  refine wp_end ?_
  clear HBX
  generalize hhb : w.heap.size = hb at *
  go_wp2_with fail
  go_loopw [14, 7, 8] (fun y _ _ wr => ∃ (k : Nat) (of : Int), k ≤ ns.length ∧ y = .int .i64 k ∧ Jn wr j p nb seq of ∧ (s.puts ((noteAtL ns).take k)).1 = 0 ∧ Disk wr p X (s.puts ((noteAtL ns).take k)).2 ∧ Nts wr g (.slice va ns.length vc) ns ∧ Fr (j :: X) w wr ∧ Tab wr ∧ Hd wr hb (sq : Nat) (cnt : Nat)) (fun y _ _ _ => ns.length - (intOf y).toNat)
  case atStart => exact ⟨0, off, Nat.zero_le _, rfl, HJ0.out, rfl, HD0.out, HN0.out, HF0.out, HT0.out, HH0.out⟩
  case round =>
    clear HJ0 HD0 HN0 HF0 HT0 HH0
    obtain ⟨k, of, hk, rfl, hJr, h0, hDr, hNr, hFr, hTr, hHr⟩ := hrel
    have hnl := HNL.out
    have hwk : IntKind.i64.wrap ((k : Int) + 1) = ((k + 1 : Nat) : Int) := by rw [IntWalk.i64_in _ ⟨by omega, by omega⟩]; omega
    clear hnl
    by_cases hlt : k < ns.length
    · have hlt' : (k : Int) < (ns.length : Int) := by omega
      obtain ⟨⟨i1, l1⟩, hx⟩ : ∃ x, ns[k]? = some x := ⟨_, List.getElem?_eq_getElem hlt⟩
      obtain ⟨cap, cur, e, hg, hc0, hc1, hfl⟩ := hNr.get hx
      cases e
      have hst := DS.puts_take (noteAtL_get hx) s
      rw [if_pos h0] at hst
      have HI1 : Hid (k ≤ 1000000) := hid (by have := HNL.out; omega)
      have HGN := hid (note_not hDr hJr hg)
      have HHN := hid (hd_not hDr hJr hHr)
      have HTN := hid (tab_not hDr hJr hTr)
      have HJ := hid hJr
      have HD := hid hDr
      have HG := hid hg
      have HC0 := hid hc0
      have HC1 := hid hc1
      have HFL := hid hfl
      have HFR := hid hFr
      have HNR := hid hNr
      have HST := hid hst
      have HTR := hid hTr
      have HHR := hid hHr
      obtain ⟨s2, hs2⟩ : ∃ s2, s2 = (s.puts ((noteAtL ns).take k)).2 := ⟨_, rfl⟩
      rw [← hs2] at HD HST
      clear hx hJr hDr hNr hg hc0 hc1 hfl hst hFr h0 hs2 hTr hHr
      go_upto_region 4 with fail
      refine z_open (S := fun w' => (∃ o, Jn w' j p nb seq o) ∧ w'.heap[g]? = some (.cells cur 160 (0, 0))) 9 (by kernel_rfl) (by kernel_rfl) (fun _ _ _ _ _ h => h) (L := #[false, false, false, false, false, false, false, false, false, false]) (by kernel_rfl) ?_
      intro Q' hns hP hN
      have hS := (show (∃ o, Jn wr.drew j p nb seq o) ∧ wr.drew.heap[g]? = some (.cells cur 160 (0, 0)) from ⟨⟨of, HJ.out⟩, HG.out⟩)
      refine z_pure (i := 0) (v := .pointer (some ⟨j, 0, none⟩)) hns rfl rfl rfl (by kernel_rfl) (by kernel_rfl) hP (y_move rfl) (fun _ => hS) rfl (L' := #[true, false, false, false, false, false, false, false, false, false]) (by kernel_rfl) ?_
      refine z_pure (i := 1) (v := .int .i64 k) hns rfl rfl rfl (by kernel_rfl) (by kernel_rfl) hP (y_move rfl) (fun _ => hS) rfl (L' := #[true, true, false, false, false, false, false, false, false, false]) (by kernel_rfl) ?_
      refine z_pure (i := 3) (v := .slice (some ⟨g, 0, none⟩) ns.length vc) hns rfl rfl rfl (by kernel_rfl) (by kernel_rfl) hP (y_move rfl) (fun _ => hS) rfl (L' := #[true, true, false, true, false, false, false, false, false, false]) (by kernel_rfl) ?_
      refine z_pure (i := 4) (v := .int .i64 k) hns rfl rfl rfl (by kernel_rfl) (by kernel_rfl) hP (y_move rfl) (fun _ => hS) rfl (L' := #[true, true, false, true, true, false, false, false, false, false]) (by kernel_rfl) ?_
      refine z_pure (i := 5) (v := .pointer (some ⟨g, k * 129, none⟩)) hns rfl rfl rfl (by kernel_rfl) (by kernel_rfl) hP (y_index rfl (hr := idx86 g ns.length vc k hlt)) (fun _ => hS) rfl (L' := #[true, true, false, true, true, true, false, false, false, false]) (by kernel_rfl) ?_
      refine z_pure (i := 6) (v := .pointer (some ⟨g, k * 129 + 1, none⟩)) hns rfl rfl rfl (by kernel_rfl) (by kernel_rfl) hP (y_faddr rfl (hf := fa96_1 g (k * 129))) (fun _ => hS) rfl (L' := #[true, true, false, true, true, true, true, false, false, false]) (by kernel_rfl) ?_
      refine z_read (i := 7) (v := V8 l1) hns rfl (by kernel_rfl) rfl rfl (by kernel_rfl) (by kernel_rfl) hP (y_load rfl (hl := fun w' h => load75at HFL.out h.2 HC1.out)) rfl hS rfl (L' := #[true, true, false, true, true, true, true, true, false, false]) (by kernel_rfl) ?_
      simp only [List.setIfInBounds_toArray, List.set_cons_zero, List.set_cons_succ]
      refine z_call (i := 2) (f := 76) (args := #[.int .i64 k]) (by kernel_rfl) rfl rfl (by kernel_rfl) (enter_go rfl (by kernel_rfl) (fun w => by go_simp)) (L' := #[true, true, true, true, true, true, true, true, false, false]) (by kernel_rfl) ?_
      refine (noteAt_any k HI1.out _).mono ?_
      rintro e wz ⟨rfl, hwz⟩
      subst hwz
      refine ⟨_, rfl, hS, ?_⟩
      refine z_call (i := 8) (f := 75) (args := #[.pointer (some ⟨j, 0, none⟩), .int .i64 (2 + k : Nat), V8 l1]) (by kernel_rfl) rfl rfl (by kernel_rfl) (enter_go rfl (by kernel_rfl) (fun w => by go_simp)) (L' := #[true, true, true, true, true, true, true, true, true, false]) (by kernel_rfl) ?_
      refine (put_any (show Jn wr.drew j p nb seq of from HJ.out) (show Disk wr.drew p X s2 from HD.out) ((2 + k : Nat) : Int) l1 HFL.out).mono ?_
      rintro e w3 ⟨rfl, hJ3, hD3, hF3⟩
      have hF3 : Fr (j :: X) wr w3 := hF3.undrew
      have hg3 : w3.heap[g]? = some (.cells cur 160 (0, 0)) := hF3.at HG.out HGN.out
      have hS3 : (∃ o, Jn w3 j p nb seq o) ∧ w3.heap[g]? = some (.cells cur 160 (0, 0)) := ⟨⟨_, hJ3⟩, hg3⟩
      refine ⟨_, rfl, hS3, ?_⟩
      refine z_val (i := 9) (v := .int .i64 (s2.wr (2 + k : Nat) l1).1) (by kernel_rfl) rfl rfl (by kernel_rfl) (run_asg rfl (by kernel_rfl)) hS3 rfl (L' := #[true, true, true, true, true, true, true, true, true, true]) (by kernel_rfl) ?_
      try simp only [List.setIfInBounds_toArray, List.set_cons_zero, List.set_cons_succ]
      refine z_done (by kernel_rfl) ?_ _
      refine hN _ _ ?_
      clear hP hN hns
      clear hS
      have hN3 := HNR.out.fr hF3 (fun c hc => HGN.out)
      have hF03 : Fr (j :: X) w w3 := HFR.out.trans hF3 (fun k hk => .inl hk)
      have hT3 : Tab w3 := HTR.out.fr hF3 HTN.out
      have hH3 : Hd w3 hb (sq : Nat) (cnt : Nat) := hF3.at HHR.out HHN.out
      by_cases he : (s2.wr ((2 + k : Nat) : Int) l1).1 = 0
      · have hst0 : (s.puts ((noteAtL ns).take (k + 1))).1 = 0 := by rw [HST.out]; exact he
        have hD5 : Disk w3 p X (s.puts ((noteAtL ns).take (k + 1))).2 := by rw [HST.out]; exact hD3
        rw [he] at hJ3 ⊢
        have HZ := hid (And.intro hJ3 (And.intro hst0 (And.intro hD5 (And.intro hN3 (And.intro hF03 (And.intro hT3 hH3))))))
        clear hJ3 hst0 hD5 hN3 hF03 hD3 hF3 hg3 hS3 he HJ HD HG HC0 HC1 HFL HFR HNR HST HGN HI1 HHN HTN HTR HHR hT3 hH3
        go_wp2
        exact ⟨⟨k + 1, 0, hlt, rfl, HZ.out⟩, by simp [intOf]; omega⟩
      · have hne : (s.puts ((noteAtL ns).take (k + 1))).1 ≠ 0 := by rw [HST.out]; exact he
        have hall := DS.puts_stop (noteAtL ns) s (k + 1) hne
        have hlr : s.comR nb sq cnt ns = s2.wr ((2 + k : Nat) : Int) l1 := by
          unfold DS.comR
          rw [hall, if_pos hne, HST.out]
        have HL : Hid (∀ e, e = .returned (.int .i64 (s2.wr ((2 + k : Nat) : Int) l1).1) → Left w j p nb seq X (s.comR nb sq cnt ns) e w3) := hid (fun e h => by rw [hlr]; exact ⟨h, hJ3, X, hD3, fun k hk => .inl hk, hF03⟩)
        generalize (s2.wr ((2 + k : Nat) : Int) l1).1 = ev at *
        clear hJ3 hN3 hF03 hD3 hF3 hg3 hS3 HJ HD HG HC0 HC1 HFL HFR HNR HST HGN HI1 hne hall hlr HHN HTN HTR HHR hT3 hH3
        go_wp2
        go_ret
        exact HL.out _ rfl
    · have hlt' : ¬ (k : Int) < (ns.length : Int) := by omega
      have hkl : k = ns.length := by omega
      rw [hkl, List.take_of_length_le (by rw [noteAtL_len]; exact Nat.le_refl _)] at h0 hDr
      have hGN : ∀ c, wr.heap[g]? = some (.cells c 160 (0, 0)) → g ∉ j :: X := fun c hc => note_not hDr hJr hc
      have HHN := hid (hd_not hDr hJr hHr)
      have HTN := hid (tab_not hDr hJr hTr)
      have HJ := hid hJr
      have HD := hid hDr
      have HFR := hid hFr
      have HNR := hid hNr
      have HTR := hid hTr
      have HHR := hid hHr
      have HGN := hid hGN
      have HRR : Hid (s.comR nb sq cnt ns = if (s.puts (noteAtL ns)).2.fl.1 ≠ 0 then (s.puts (noteAtL ns)).2.fl else
  if ((s.puts (noteAtL ns)).2.fl.2.wr (sq % 2 : Nat) (frameOf markK [] (sq : Nat) (cnt : Nat))).1 ≠ 0 then (s.puts (noteAtL ns)).2.fl.2.wr (sq % 2 : Nat) (frameOf markK [] (sq : Nat) (cnt : Nat)) else
  if ((s.puts (noteAtL ns)).2.fl.2.wr (sq % 2 : Nat) (frameOf markK [] (sq : Nat) (cnt : Nat))).2.fl.1 ≠ 0 then ((s.puts (noteAtL ns)).2.fl.2.wr (sq % 2 : Nat) (frameOf markK [] (sq : Nat) (cnt : Nat))).2.fl else
  ((s.puts (noteAtL ns)).2.fl.2.wr (sq % 2 : Nat) (frameOf markK [] (sq : Nat) (cnt : Nat))).2.fl.2.layR nb ns) := hid (by unfold DS.comR; rw [if_neg (not_not_intro h0)])
      generalize s.comR nb sq cnt ns = RR at *
      generalize (s.puts (noteAtL ns)).2 = s4 at *
      clear hJr hDr hNr hFr h0 hkl hTr hHr hGN
      go_wp2_with fail
      refine (jflush_any HJ.out HD.out).mono ?_
      rintro e w5 ⟨rfl, hJ5, X5, hD5, hX5, hF5⟩
      have hF05 : Fr (j :: X) w w5 := HFR.out.trans hF5 (fun k hk => .inl hk)
      have hX5' : ∀ k ∈ X5, k ∈ X ∨ w.heap.size ≤ k := fun k hk => by
        rcases hX5 k hk with h | h
        · exact .inl h
        · exact .inr (Nat.le_trans HFR.out.size h)
      by_cases he : s4.fl.1 = 0
      · have HRR2 := HRR.out
        rw [if_neg (not_not_intro he)] at HRR2
        have HRR := hid HRR2
        have HN5 := hid (HNR.out.fr hF5 HGN.out)
        have HT5 := hid (show Tab w5 from HTR.out.fr hF5 HTN.out)
        have HH5 := hid (show Hd w5 hb (sq : Nat) (cnt : Nat) from hF5.at HHR.out HHN.out)
        have HJ5 := hid hJ5
        have HD5 := hid hD5
        have HF5 := hid hF05
        have HX5 := hid hX5'
        have HSB : Hid ((-9223372036854775808 : Int) ≤ (sq : Nat) ∧ ((sq : Nat) : Int) ≤ 9223372036854775807) := hid (by have := HSQ.out; omega)
        have HCB : Hid ((-9223372036854775808 : Int) ≤ (cnt : Nat) ∧ ((cnt : Nat) : Int) ≤ 9223372036854775807) := hid (by have := HCN.out; omega)
        generalize s4.fl.2 = s5 at *
        obtain ⟨o5, ho5⟩ : ∃ o5, o5 = s4.fl.1 := ⟨_, rfl⟩
        rw [← ho5] at HJ5 ⊢
        rw [show o5 = 0 from ho5.trans he]
        clear hJ5 hD5 hX5 hF5 hF05 hX5' HRR2 HNR HTR HHR HJ HD HFR HTN HHN HGN he
        go_upto_region 11 with fail
        refine z_open (S := fun w' => (∃ o, Jn w' j p nb seq o) ∧ Hd w' hb (sq : Nat) (cnt : Nat)) 7 (by kernel_rfl) (by kernel_rfl) (fun _ _ _ _ _ h => h) (L := #[false, false, false, false, false, false, false, false]) (by kernel_rfl) ?_
        intro Q' hns hP hN
        have hS := (show (∃ o, Jn w5.drew j p nb seq o) ∧ Hd w5.drew hb (sq : Nat) (cnt : Nat) from ⟨⟨_, HJ5.out⟩, HH5.out⟩)
        refine z_pure (i := 0) (v := .pointer (some ⟨j, 0, none⟩)) hns rfl rfl rfl (by kernel_rfl) (by kernel_rfl) hP (y_move rfl) (fun _ => hS) rfl (L' := #[true, false, false, false, false, false, false, false]) (by kernel_rfl) ?_
        refine z_pure (i := 1) (v := .pointer (some ⟨hb, 0, none⟩)) hns rfl rfl rfl (by kernel_rfl) (by kernel_rfl) hP (y_faddr rfl (hf := fa78_0 (hb))) (fun _ => hS) rfl (L' := #[true, true, false, false, false, false, false, false]) (by kernel_rfl) ?_
        refine z_read (i := 2) (v := .int .i64 (sq : Nat)) hns rfl (by kernel_rfl) rfl rfl (by kernel_rfl) (by kernel_rfl) hP (y_load rfl (hl := fun w' h => load1 Tryz.isAgg2 (cell_at h.2 0 rfl))) rfl hS rfl (L' := #[true, true, true, false, false, false, false, false]) (by kernel_rfl) ?_
        refine z_read (i := 4) (v := .agg #[.int .i64 (sq : Nat), .int .i64 (cnt : Nat)]) hns rfl (by kernel_rfl) rfl rfl (by kernel_rfl) (by kernel_rfl) hP (y_load rfl (hl := fun w' h => load78 h.2)) rfl hS rfl (L' := #[true, true, true, false, true, false, false, false]) (by kernel_rfl) ?_
        refine z_call (i := 3) (f := 117) (args := #[.int .i64 (sq : Nat)]) (by kernel_rfl) rfl rfl (by kernel_rfl) (enter_go rfl (by kernel_rfl) (fun w => by go_simp)) (L' := #[true, true, true, true, true, false, false, false]) (by kernel_rfl) ?_
        refine (markAt_any sq HSQ.out _).mono ?_
        rintro e wz ⟨rfl, hwz⟩
        subst hwz
        refine ⟨_, rfl, hS, ?_⟩
        refine z_call (i := 5) (f := 74) (args := #[.string ⟨markK.toArray⟩, .slice none 0 0, .agg #[.int .i64 (sq : Nat), .int .i64 (cnt : Nat)]]) (by kernel_rfl) rfl rfl (by kernel_rfl) (enter_go rfl (by kernel_rfl) (fun w => by go_simp)) (L' := #[true, true, true, true, true, true, false, false]) (by kernel_rfl) ?_
        refine (framed_any markK [] (sq : Nat) (cnt : Nat) _ w5.drew (show Tab w5.drew from HT5.out) (Sl.nil _) HSB.out HCB.out (by decide)).mono ?_
        rintro e w6 ⟨rfl, hB6⟩
        have hB6 : Below w5.heap.size w5 w6 := ⟨hB6.os, hB6.tape, hB6.output, hB6.size, hB6.block⟩
        have hJ6 : Jn w6 j p nb seq o5 := below_at hB6 HJ5.out (heap_lt HJ5.out)
        have hD6 := HD5.out.below hB6
        have hS6 : (∃ o, Jn w6 j p nb seq o) ∧ Hd w6 hb (sq : Nat) (cnt : Nat) := ⟨⟨_, hJ6⟩, below_at hB6 HH5.out (heap_lt HH5.out)⟩
        refine ⟨_, rfl, hS6, ?_⟩
        refine z_call (i := 6) (f := 75) (args := #[.pointer (some ⟨j, 0, none⟩), .int .i64 (sq % 2 : Nat), V8 (frameOf markK [] (sq : Nat) (cnt : Nat))]) (by kernel_rfl) rfl rfl (by kernel_rfl) (enter_go rfl (by kernel_rfl) (fun w => by go_simp)) (L' := #[true, true, true, true, true, true, true, false]) (by kernel_rfl) ?_
        refine (put_any hJ6 hD6 ((sq % 2 : Nat) : Int) _ (frameOf_len _ _ _ _)).mono ?_
        rintro e w7 ⟨rfl, hJ7, hD7, hF7⟩
        have hh7 : Hd w7 hb (sq : Nat) (cnt : Nat) := hF7.at hS6.2 (hd_not hD6 hJ6 hS6.2)
        have hS7 : (∃ o, Jn w7 j p nb seq o) ∧ Hd w7 hb (sq : Nat) (cnt : Nat) := ⟨⟨_, hJ7⟩, hh7⟩
        refine ⟨_, rfl, hS7, ?_⟩
        simp only [List.setIfInBounds_toArray, List.set_cons_zero, List.set_cons_succ]
        refine z_val (i := 7) (v := .int .i64 (s5.wr (sq % 2 : Nat) (frameOf markK [] (sq : Nat) (cnt : Nat))).1) (by kernel_rfl) rfl rfl (by kernel_rfl) (run_asg rfl (by kernel_rfl)) hS7 rfl (L' := #[true, true, true, true, true, true, true, true]) (by kernel_rfl) ?_
        try simp only [List.setIfInBounds_toArray, List.set_cons_zero, List.set_cons_succ]
        refine z_done (by kernel_rfl) ?_ _
        refine hN _ _ ?_
        clear hP hN hns
        clear hS
        have hF57 : Fr (j :: X5) w5 w7 := (Fr.of_below (X := j :: X5) hB6).trans hF7 (fun k hk => .inl hk)
        have hN7 := (HN5.out.below hB6).fr hF7 (fun c hc => note_not hD6 hJ6 hc)
        have hF07 : Fr (j :: X) w w7 := HF5.out.trans hF57 (fun k hk => by
          rcases List.mem_cons.1 hk with rfl | hk
          · exact .inl (by simp)
          · rcases HX5.out k hk with h | h
            · exact .inl (List.mem_cons_of_mem _ h)
            · exact .inr h)
        by_cases he : (s5.wr (sq % 2 : Nat) (frameOf markK [] (sq : Nat) (cnt : Nat))).1 = 0
        · have HRR2 := HRR.out
          rw [if_neg (not_not_intro he)] at HRR2
          have HRR := hid HRR2
          rw [he] at hJ7 ⊢
          generalize (s5.wr (sq % 2 : Nat) (frameOf markK [] (sq : Nat) (cnt : Nat))).2 = s7 at *
          have HJ7 := hid hJ7
          have HD7 := hid hD7
          have HN7 := hid hN7
          have HF7 := hid hF07
          clear hJ7 hD7 hN7 hF07 hF57 hF7 hh7 hS7 hS6 hD6 hJ6 hB6 HRR2 he HJ5 HD5 HN5 HT5 HH5 HF5
          go_wp2_with fail
          refine (jflush_any HJ7.out HD7.out).mono ?_
          rintro e w8 ⟨rfl, hJ8, X8, hD8, hX8, hF8⟩
          have hX8' : ∀ k ∈ X8, k ∈ X ∨ w.heap.size ≤ k := fun k hk => by
            rcases hX8 k hk with h | h
            · exact HX5.out k h
            · exact .inr (Nat.le_trans HF7.out.size h)
          have hF08 : Fr (j :: X) w w8 := HF7.out.trans hF8 (fun k hk => by
            rcases List.mem_cons.1 hk with rfl | hk
            · exact .inl (by simp)
            · rcases HX5.out k hk with h | h
              · exact .inl (List.mem_cons_of_mem _ h)
              · exact .inr h)
          by_cases he : s7.fl.1 = 0
          · have HRR2 := HRR.out
            rw [if_neg (not_not_intro he)] at HRR2
            have hN8 := HN7.out.fr hF8 (fun c hc => note_not HD7.out HJ7.out hc)
            rw [he] at hJ8 ⊢
            generalize s7.fl.2 = s8 at *
            have HRR := hid HRR2
            have HJ8 := hid hJ8
            have HD8 := hid hD8
            have HN8 := hid hN8
            have HF8 := hid hF08
            have HX8 := hid hX8'
            clear HRR2 hJ8 hD8 hN8 hF08 hX8' hX8 hF8 HJ7 HD7 HN7 HF7 he
            go_wp2_with fail
            refine (jlay_any HJ8.out HD8.out HN8.out HNB.out HNL.out HIX.out).mono ?_
            rintro e w9 hL
            have HL := hid (show Left w j p nb seq X RR e w9 from by rw [HRR.out]; exact Left.tr hL HF8.out HX8.out)
            obtain ⟨rfl, _⟩ := hL
            clear HRR HJ8 HD8 HN8 HF8 HX8 HX5
            generalize (s8.layR nb ns).1 = ev at *
            go_wp2
            go_ret
            exact HL.out
          · have HL : Hid (∀ e, e = .returned (.int .i64 s7.fl.1) → Left w j p nb seq X RR e w8) := hid (fun e h => by rw [HRR.out, if_pos he]; exact ⟨h, hJ8, X8, hD8, hX8', hF08⟩)
            generalize s7.fl.1 = ev at *
            clear hJ8 hD8 hF08 hX8' hX8 hF8 HJ7 HD7 HN7 HF7 HRR HX5
            go_wp2
            go_ret
            exact HL.out _ rfl
        · have HL : Hid (∀ e, e = .returned (.int .i64 (s5.wr (sq % 2 : Nat) (frameOf markK [] (sq : Nat) (cnt : Nat))).1) → Left w j p nb seq X RR e w7) := hid (fun e h => by rw [HRR.out, if_pos he]; exact ⟨h, hJ7, X5, hD7, HX5.out, hF07⟩)
          generalize (s5.wr (sq % 2 : Nat) (frameOf markK [] (sq : Nat) (cnt : Nat))).1 = ev at *
          clear hJ7 hD7 hN7 hF07 hF57 hF7 hh7 hS7 hS6 hD6 hJ6 hB6 HJ5 HD5 HN5 HT5 HH5 HF5 HRR HX5
          go_wp2
          go_ret
          exact HL.out _ rfl
      · have HL : Hid (∀ e, e = .returned (.int .i64 s4.fl.1) → Left w j p nb seq X RR e w5) := hid (fun e h => by rw [HRR.out, if_pos he]; exact ⟨h, hJ5, X5, hD5, hX5', hF05⟩)
        generalize s4.fl.1 = ev at *
        clear hJ5 hD5 hX5 hF5 hF05 hX5' HRR HNR HTR HHR HJ HD HFR HTN HHN HGN
        go_wp2
        go_ret
        exact HL.out _ rfl
end Go.Proofs.YtcmgclkbhhdnaaaGreatDoor
namespace Go.Proofs.YtcmgclkbhhdnaaaGreatDoor
open Go Go.RowKit

theorem arrAt75 (b c : Nat) (w : World) : (Instr.arrayAt 141 (.slice (some ⟨b, 0, none⟩) 128 c)).run Tryz.prog w = .ok (.pointer (some ⟨b, 0, none⟩)) w := by
  simp [Instr.arrayAt, run_underlying under75, Sem.run_bind, Sem.run_pure, Result.andThen]
theorem y_arr {ops : Array Oper} {S : World → Prop} {o : Oper} {a : Act} {x : Operand} {t : TypeId} {p v : Value} (hop : o.op = .sliceToArrayPointer t x) (hw : Region.wanted o (yielded ops a.tmps) = true) (hx : a.eval x = p)
    (hr : ∀ w, (Instr.arrayAt t p).run Tryz.prog w = .ok v w) : YieldsIf Tryz.prog ops S o v a :=
  .inl ⟨hw, fun w _ => by unfold execOp; rw [hop]; simp only [hx, Sem.run_bind, hr w, Result.andThen_ok]; rfl⟩
theorem build75z (w : World) : (Instr.build 141 #[]).run Tryz.prog w = .ok (V8 z128) w := by
  have hz : (zeroValue 141).run Tryz.prog w = .ok (.agg (cells8 z128).toArray) w := (zero_of_info (n := 128) (by kernel_rfl)).1 w
  simp [Instr.build, Sem.run_bind, hz, Result.andThen, V8, Instr.fill, Value.cells]
set_option maxRecDepth 100000 in
set_option maxHeartbeats 2000000 in
theorem get_ok {w : World} {j p nb : Nat} {seq off : Int} {X : List Nat} {s : DS} (hj : Jn w j p nb seq off) (hD : Disk w p X s) (hg : s.gone = false) (i : Nat) (l : List UInt8) (hl : s.now[i]? = some l) :
    Calls Tryz.prog 100 #[.pointer (some ⟨j, 0, none⟩), .int .i64 i] w fun e w' => e = .returned (.tuple #[V8 l, .int .i64 0]) ∧ Below w.heap.size w w' := by
  have ha0 := alloc75 w
  obtain ⟨w1, hw1⟩ : ∃ w1, w1 = w.alloc (.cells (cells8 z128).toArray 141) := ⟨_, rfl⟩
  rw [← hw1] at ha0
  have hB1 : Below w.heap.size w w1 := by rw [hw1]; exact (Below.refl _ _).alloc (Nat.le_refl _) _
  have hr1 : Rw w1 w.heap.size 141 z128 := by rw [hw1]; exact heap_alloc_last w _
  have hll : l.length = 128 := hD.ok.nowLens _ (List.mem_of_getElem? hl)
  have hj1 : Jn w1 j p nb seq off := below_at hB1 hj (heap_lt hj)
  have hc0 := hj1.c0
  have hrd := read_d (hD.below hB1) hg i l hl
  have HA0 := hid ha0
  have HRD := hid hrd
  have HB1 := hid hB1
  have HR1 := hid hr1
  have HLL := hid hll
  clear ha0 hB1 hr1 hll hj1 hrd hj hD hg hl hw1
  go_enter Tryz.func100, Tryz.ntmps100
  go_upto_region 0 with fail
  refine wp_region_lit ?_
  refine wp_run (v := .pointer (some ⟨w.heap.size, 0, none⟩)) rfl rfl (run_alOp rfl HA0.out) rfl ?_
  refine wp_y (v := (.int .i64 0)) rfl rfl (y_assign rfl) rfl ?_
  try simp only [List.setIfInBounds_toArray, List.set_cons_zero, List.set_cons_succ]
  refine wp_end ?_
  clear HA0
  generalize hfb : w.heap.size = fb at *
  go_wp2_with fail
  refine HRD.out.mono ?_
  rintro e w2 ⟨rfl, hw2⟩
  have hl2 : Rw w2 w1.heap.size 120 l := by rw [hw2]; exact heap_alloc_last w1 _
  have hB2 : Below w1.heap.size w1 w2 := by rw [hw2]; exact (Below.refl _ _).alloc (Nat.le_refl _) _
  have hr2 := HR1.out.below hB2 HR1.out.lt
  have hB02 := HB1.out.trans (hB2.mono (by have := HR1.out.lt; omega))
  have HL2 := hid hl2
  have HR2 := hid hr2
  have HB2 := hid hB02
  clear hl2 hr2 hB02 hB2 hw2 HR1 HB1 HRD
  generalize w1.heap.size = lb at *
  go_upto_region 4 with fail
  refine wp_region_lit ?_
  refine wp_y (v := .slice (some ⟨lb, 0, none⟩) 128 128) rfl rfl (y_move rfl) rfl ?_
  refine wp_y (v := .pointer (some ⟨lb, 0, none⟩)) rfl rfl (y_arr rfl (by kernel_rfl) (by kernel_rfl) (arrAt75 lb 128)) rfl ?_
  refine wp_y (v := V8 l) rfl rfl (y_load rfl (hl := fun w' h => by subst h; exact load75 HLL.out HL2.out)) rfl ?_
  refine wp_do rfl rfl (run_storeOp rfl (by kernel_rfl) (by kernel_rfl) (store75 z128_len HLL.out HR2.out)) ?_
  refine wp_y (v := (.int .i64 0)) rfl rfl (y_assign rfl) rfl ?_
  try simp only [List.setIfInBounds_toArray, List.set_cons_zero, List.set_cons_succ]
  refine wp_end ?_
  go_wp2
  refine ret_pair rfl rfl (by kernel_rfl) (load75 HLL.out (HR2.out.row l)) ⟨rfl, by rw [hfb]; exact below_row HB2.out (Nat.le_refl _) _⟩
end Go.Proofs.YtcmgclkbhhdnaaaGreatDoor
namespace Go.Proofs.YtcmgclkbhhdnaaaGreatDoor
open Go Go.RowKit

theorem ext2_0 (a b : Value) (w : World) : (Instr.extract (.tuple #[a, b]) 0).run Tryz.prog w = .ok a w := by go_simp
theorem ext2_1 (a b : Value) (w : World) : (Instr.extract (.tuple #[a, b]) 1).run Tryz.prog w = .ok b w := by go_simp
/-- What block answers of a sector. -/
def blkR (l : List UInt8) (at_ : Nat) : List UInt8 × Int := if (headOf blockK l).2.2 = true ∧ (headOf blockK l).2.1 = at_ then (l, 0) else (z128, 62)
set_option maxRecDepth 100000 in
set_option maxHeartbeats 2000000 in
theorem block_any {w : World} {j p nb : Nat} {seq off : Int} {X : List Nat} {s : DS} (hj : Jn w j p nb seq off) (hD : Disk w p X s) (ht : Tab w) (hg : s.gone = false) (hnb : nb ≤ 1000000) (i : Nat) (hi : i ≤ 1000000) (l : List UInt8) (hl : s.now[2 + nb + i]? = some l) :
    Calls Tryz.prog 104 #[.pointer (some ⟨j, 0, none⟩), .int .i64 i] w fun e w' => e = .returned (.tuple #[V8 (blkR l i).1, .int .i64 (blkR l i).2]) ∧ Below w.heap.size w w' := by
  have ha0 := alloc75 w
  obtain ⟨w1, hw1⟩ : ∃ w1, w1 = w.alloc (.cells (cells8 z128).toArray 141) := ⟨_, rfl⟩
  rw [← hw1] at ha0
  have hB1 : Below w.heap.size w w1 := by rw [hw1]; exact (Below.refl _ _).alloc (Nat.le_refl _) _
  have hr1 : Rw w1 w.heap.size 141 z128 := by rw [hw1]; exact heap_alloc_last w _
  have hll : l.length = 128 := hD.ok.nowLens _ (List.mem_of_getElem? hl)
  have hj1 : Jn w1 j p nb seq off := below_at hB1 hj (heap_lt hj)
  have hgt := get_ok hj1 (hD.below hB1) hg (2 + nb + i) l hl
  have hba := blockAt_any hj1 hnb i hi
  have ht1 := ht.below hB1
  have HA0 := hid ha0
  have HGT := hid hgt
  have HBA := hid hba
  have HB1 := hid hB1
  have HR1 := hid hr1
  have HLL := hid hll
  have HT1 := hid ht1
  clear ha0 hB1 hr1 hll hj1 hgt hba hj hD hg hl hw1 ht ht1 hnb hi
  obtain ⟨hs, hm, hok, hho⟩ : ∃ a b c, headOf blockK l = (a, b, c) := ⟨_, _, _, rfl⟩
  have HBK : Hid (blkR l i = if hok = true ∧ hm = (i : Int) then (l, 0) else (z128, 62)) := hid (by unfold blkR; rw [hho])
  have HHO := hid hho
  clear hho
  generalize blkR l i = R at *
  go_enter Tryz.func104, Tryz.ntmps104
  go_upto_region 0 with fail
  refine wp_region_lit ?_
  refine wp_run (v := .pointer (some ⟨w.heap.size, 0, none⟩)) rfl rfl (run_alOp rfl HA0.out) rfl ?_
  refine wp_y (v := (.int .i64 0)) rfl rfl (y_assign rfl) rfl ?_
  try simp only [List.setIfInBounds_toArray, List.set_cons_zero, List.set_cons_succ]
  refine wp_end ?_
  clear HA0
  generalize hfb : w.heap.size = fb at *
  go_upto_region 1 with fail
  refine wp_region_lit ?_
  refine wp_y (v := .pointer (some ⟨j, 0, none⟩)) rfl rfl (y_move rfl) rfl ?_
  refine wp_y (v := .pointer (some ⟨j, 0, none⟩)) rfl rfl (y_move rfl) rfl ?_
  refine wp_y (v := .int .i64 i) rfl rfl (y_move rfl) rfl ?_
  refine wp_call (f := 77) (args := #[.pointer (some ⟨j, 0, none⟩), .int .i64 i]) (by kernel_rfl) (fun w => by go_simp) ?_
  refine HBA.out.mono ?_
  rintro e wz ⟨rfl, hwz⟩
  obtain rfl := hwz.symm
  refine ⟨_, rfl, ?_⟩
  dsimp only [Act.put]
  refine wp_call (f := 100) (args := #[.pointer (some ⟨j, 0, none⟩), .int .i64 (2 + nb + i : Nat)]) (by kernel_rfl) (fun w => by go_simp) ?_
  refine HGT.out.mono ?_
  rintro e w2 ⟨rfl, hB2⟩
  refine ⟨_, rfl, ?_⟩
  dsimp only [Act.put]
  refine wp_y (v := .tuple #[V8 l, .int .i64 0]) rfl rfl (y_move rfl) rfl ?_
  refine wp_y (v := V8 l) rfl rfl (y_ext rfl (hr := ext2_0 (V8 l) (.int .i64 0))) rfl ?_
  refine wp_y (v := .int .i64 0) rfl rfl (y_ext rfl (hr := ext2_1 (V8 l) (.int .i64 0))) rfl ?_
  simp only [List.setIfInBounds_toArray, List.set_cons_zero, List.set_cons_succ]
  refine wp_run (v := .pointer (some ⟨w2.heap.size, 0, none⟩)) rfl rfl (run_alOp rfl (alloc75 w2)) rfl ?_
  refine wp_do rfl rfl (run_storeOp rfl (by kernel_rfl) (by kernel_rfl) (store75 z128_len HLL.out (show Rw _ w2.heap.size 141 z128 from heap_alloc_last w2 _))) ?_
  refine wp_y (v := .int .i64 0) rfl rfl (y_assign rfl) rfl ?_
  try simp only [List.setIfInBounds_toArray, List.set_cons_zero, List.set_cons_succ]
  refine wp_end ?_
  have hr3 : Rw ((w2.alloc (.cells (cells8 z128).toArray 141)).setRow w2.heap.size (cells8 l).toArray) w2.heap.size 141 l := Rw.row (heap_alloc_last w2 _) l
  have hB3 : Below w2.heap.size w2 ((w2.alloc (.cells (cells8 z128).toArray 141)).setRow w2.heap.size (cells8 l).toArray) := below_row ((Below.refl _ _).alloc (Nat.le_refl _) _) (Nat.le_refl _) _
  have hr03 := (HR1.out.below hB2 HR1.out.lt).below hB3 (Nat.lt_of_lt_of_le HR1.out.lt hB2.size)
  have hB03 := HB1.out.trans ((hB2.trans (hB3.mono hB2.size)).mono (by have := HR1.out.lt; omega))
  have ht3 := (HT1.out.below hB2).below hB3
  have HR3 := hid hr3
  have HR03 := hid hr03
  have HB03 := hid hB03
  have HT3 := hid ht3
  clear hr3 hr03 hB03 ht3 hB3 hB2 HR1 HB1 HT1 HGT HBA
  generalize (w2.alloc (.cells (cells8 z128).toArray 141)).setRow w2.heap.size (cells8 l).toArray = w3 at *
  generalize w2.heap.size = lb at *
  clear w2
  go_upto_region 4 with fail
  refine wp_region_lit ?_
  refine wp_y (v := V8 l) rfl rfl (y_load rfl (hl := fun w' h => by subst h; exact load75 HLL.out HR3.out)) rfl ?_
  refine wp_call (f := 101) (args := #[V8 l, .string ⟨blockK.toArray⟩]) (by kernel_rfl) (fun w => by go_simp) ?_
  refine (head_any blockK l _ HT3.out HLL.out (by decide)).mono ?_
  rintro e w4 ⟨rfl, hB4⟩
  rw [HHO.out]
  refine ⟨_, rfl, ?_⟩
  dsimp only [Act.put]
  refine wp_y (v := .tuple #[.agg #[.int .i64 hs, .int .i64 hm], .bool hok]) rfl rfl (y_move rfl) rfl ?_
  refine wp_y (v := .agg #[.int .i64 hs, .int .i64 hm]) rfl rfl (y_ext rfl (hr := ext2_0 (.agg #[.int .i64 hs, .int .i64 hm]) (.bool hok))) rfl ?_
  refine wp_y (v := .bool hok) rfl rfl (y_ext rfl (hr := ext2_1 (.agg #[.int .i64 hs, .int .i64 hm]) (.bool hok))) rfl ?_
  refine wp_run (v := .pointer (some ⟨w4.heap.size, 0, none⟩)) rfl rfl (run_alOp rfl (alloc78 w4)) rfl ?_
  refine wp_do rfl rfl (run_storeOp rfl (by kernel_rfl) (by kernel_rfl) (store78 (show Hd _ w4.heap.size 0 0 from heap_alloc_last w4 _) hs hm)) ?_
  refine wp_y (v := .bool hok) rfl rfl (y_assign rfl) rfl ?_
  try simp only [List.setIfInBounds_toArray, List.set_cons_zero, List.set_cons_succ]
  refine wp_end ?_
  have hh5 : Hd ((w4.alloc (.cells #[.int .i64 0, .int .i64 0] 131)).setRow w4.heap.size #[.int .i64 hs, .int .i64 hm]) w4.heap.size hs hm := Hd.row (show Hd (w4.alloc (.cells #[.int .i64 0, .int .i64 0] 131)) w4.heap.size 0 0 from heap_alloc_last w4 _) hs hm
  have hB5 : Below w4.heap.size w4 ((w4.alloc (.cells #[.int .i64 0, .int .i64 0] 131)).setRow w4.heap.size #[.int .i64 hs, .int .i64 hm]) := below_row ((Below.refl _ _).alloc (Nat.le_refl _) _) (Nat.le_refl _) _
  have hr4 := (HR3.out.below hB4 HR3.out.lt).below hB5 (Nat.lt_of_lt_of_le HR3.out.lt hB4.size)
  have hr5 := (HR03.out.below hB4 HR03.out.lt).below hB5 (Nat.lt_of_lt_of_le HR03.out.lt hB4.size)
  have hB05 := HB03.out.trans ((hB4.trans (hB5.mono hB4.size)).mono (by have := HR03.out.lt; omega))
  generalize (w4.alloc (.cells #[.int .i64 0, .int .i64 0] 131)).setRow w4.heap.size #[.int .i64 hs, .int .i64 hm] = w5 at *
  have hc1 : w5.cell? ⟨w4.heap.size, 1, none⟩ = some (.int .i64 hm) := cell_at hh5 1 rfl
  generalize w4.heap.size = hb at *
  have HR := hid hr5
  have HL := hid hr4
  have HB := hid hB05
  clear hr4 hr5 hB05 hB5 hB4 HR3 HR03 HB03 HT3 hh5
  clear w3 w4
  by_cases hgood : hok = true ∧ hm = (i : Int)
  · have hbk := HBK.out
    rw [if_pos hgood] at hbk
    obtain ⟨rfl, rfl⟩ := hgood
    subst hbk
    clear HBK HHO
    go_upto_region 7 with fail
    refine wp_region_lit ?_
    refine wp_y (v := V8 l) rfl rfl (y_load rfl (hl := fun w' h => by subst h; exact load75 HLL.out HL.out)) rfl ?_
    refine wp_do rfl rfl (run_storeOp rfl (by kernel_rfl) (by kernel_rfl) (store75 z128_len HLL.out HR.out)) ?_
    refine wp_y (v := (.int .i64 0)) rfl rfl (y_assign rfl) rfl ?_
    try simp only [List.setIfInBounds_toArray, List.set_cons_zero, List.set_cons_succ]
    refine wp_end ?_
    go_wp2
    refine ret_pair rfl rfl (by kernel_rfl) (load75 HLL.out (HR.out.row l)) ⟨rfl, by first | exact below_row HB.out (Nat.le_refl _) _ | rw [hfb]; exact below_row HB.out (Nat.le_refl _) _⟩
  · have hbk := HBK.out
    rw [if_neg hgood] at hbk
    subst hbk
    clear HBK HHO
    cases hok with
    | false =>
      clear hgood
      go_upto_region 6 with fail
      refine wp_region_lit ?_
      refine wp_run (v := V8 z128) rfl rfl (run_buildOp rfl (by kernel_rfl) (build75z _)) rfl ?_
      refine wp_do rfl rfl (run_storeOp rfl (by kernel_rfl) (by kernel_rfl) (store75 z128_len z128_len HR.out)) ?_
      refine wp_y (v := (.int .i64 62)) rfl rfl (y_assign rfl) rfl ?_
      try simp only [List.setIfInBounds_toArray, List.set_cons_zero, List.set_cons_succ]
      refine wp_end ?_
      go_wp2
      refine ret_pair rfl rfl (by kernel_rfl) (load75 z128_len (HR.out.row z128)) ⟨rfl, by first | exact below_row HB.out (Nat.le_refl _) _ | rw [hfb]; exact below_row HB.out (Nat.le_refl _) _⟩
    | true =>
      have hne : ¬ hm = (i : Int) := fun h => hgood ⟨rfl, h⟩
      clear hgood
      go_upto_region 6 with fail
      refine wp_region_lit ?_
      refine wp_run (v := V8 z128) rfl rfl (run_buildOp rfl (by kernel_rfl) (build75z _)) rfl ?_
      refine wp_do rfl rfl (run_storeOp rfl (by kernel_rfl) (by kernel_rfl) (store75 z128_len z128_len HR.out)) ?_
      refine wp_y (v := (.int .i64 62)) rfl rfl (y_assign rfl) rfl ?_
      try simp only [List.setIfInBounds_toArray, List.set_cons_zero, List.set_cons_succ]
      refine wp_end ?_
      go_wp2
      refine ret_pair rfl rfl (by kernel_rfl) (load75 z128_len (HR.out.row z128)) ⟨rfl, by first | exact below_row HB.out (Nat.le_refl _) _ | rw [hfb]; exact below_row HB.out (Nat.le_refl _) _⟩
end Go.Proofs.YtcmgclkbhhdnaaaGreatDoor
namespace Go.Proofs.YtcmgclkbhhdnaaaGreatDoor
open Go Go.RowKit

/-- How many blocks a journal has on a disk of n sectors. -/
def nbOf (n : Nat) : Nat := (n - 2) / 2
theorem over_ok {w : World} {p : Nat} {X : List Nat} {s : DS} (hD : Disk w p X s) (hn : 32 ≤ s.n) : Calls Tryz.prog 68 #[.pointer (some ⟨p, 0, none⟩)] w fun e w' => e = .returned (.tuple #[.pointer (some ⟨w.heap.size, 0, none⟩), .int .i64 0]) ∧ Jn w' w.heap.size p (nbOf s.n) 0 0 ∧ Below w.heap.size w w' := by
  have HS := hid (sectors_d hD)
  have hn1 := hD.ok.n1
  have hlt : ¬ (s.n : Int) < 32 := by omega
  have h1 : IntKind.i64.wrap ((s.n : Int) - 2) = ((s.n - 2 : Nat) : Int) := by rw [IntWalk.i64_in _ ⟨by omega, by omega⟩]; omega
  have h2 : wrap64 (((s.n - 2 : Nat) : Int) / 2) = ((nbOf s.n : Nat) : Int) := by
    unfold wrap64 nbOf; omega
  clear hD
  generalize nbOf s.n = nb at *
  generalize s.n - 2 = n2 at *
  go_enter Tryz.func68, Tryz.ntmps68
  go_wp2_with fail
  refine HS.out.mono ?_
  rintro e w2 ⟨rfl, hw2⟩
  obtain rfl := hw2.symm
  go_wp2_with fail
  refine HS.out.mono ?_
  rintro e w2 ⟨rfl, hw2⟩
  obtain rfl := hw2.symm
  go_wp2
  go_ret2
  exact ⟨rfl, heap_alloc_last w _, (Below.refl _ _).alloc (Nat.le_refl _) _⟩
theorem jblocks_any {w : World} {j p nb : Nat} {seq off : Int} (hj : Jn w j p nb seq off) : Calls Tryz.prog 34 #[.pointer (some ⟨j, 0, none⟩)] w fun e w' => e = .returned (.int .i64 nb) ∧ w' = w := by
  have c1 := hj.c1
  clear hj
  go_enter Tryz.func34, Tryz.ntmps34
  go_wp2
  go_ret
  exact ⟨rfl, rfl⟩
/-- Does one follow the other, as the program reckons. -/
def nextB (a b : Int) : Bool := a == wrap64 (b + 1) || b == wrap64 (a + 1)
theorem neighbours_any (a b : Int) (w : World) : Calls Tryz.prog 102 #[.int .i64 a, .int .i64 b] w fun e w' => e = .returned (.bool (nextB a b)) ∧ w' = w := by
  by_cases h : a = wrap64 (b + 1)
  · have hn : nextB a b = true := by unfold nextB; rw [← h]; simp
    rw [hn]
    clear hn
    go_enter Tryz.func102, Tryz.ntmps102
    go_wp2
    go_ret
    exact ⟨rfl, rfl⟩
  · unfold nextB
    go_enter Tryz.func102, Tryz.ntmps102
    go_wp2
    go_ret
    exact ⟨rfl, rfl⟩
end Go.Proofs.YtcmgclkbhhdnaaaGreatDoor
namespace Go.Proofs.YtcmgclkbhhdnaaaGreatDoor
open Go Go.RowKit

/-- What mend does. -/
def DS.mendR (s : DS) (nb : Nat) (ns : List (Nat × List UInt8)) : Int × DS :=
  if s.loose.length = 0 then if ns.length = 0 then (0, s) else s.layR nb ns
  else if s.fl.1 ≠ 0 then s.fl else if ns.length = 0 then (0, s.fl.2) else s.fl.2.layR nb ns
set_option maxRecDepth 100000 in
set_option maxHeartbeats 2000000 in
theorem mend_any {w : World} {j p nb g : Nat} {seq : Int} {X : List Nat} {s : DS} {v : Value} {ns : List (Nat × List UInt8)} (hj : Jn w j p nb seq 0) (hD : Disk w p X s) (hn : Nts w g v ns) (hnb : nb ≤ 1000000) (hns : ns.length ≤ 1000000) (hi : ∀ x ∈ ns, x.1 ≤ 1000000) :
    Calls Tryz.prog 72 #[.pointer (some ⟨j, 0, none⟩), v] w (Left w j p nb seq X (s.mendR nb ns)) := by
  obtain ⟨va, vc, rfl⟩ := hn.shape
  have hc0 := hj.c0
  have HLO := hid (loose_d hD)
  have HFL := hid (jflush_any hj hD)
  have HLA := hid (jlay_any hj hD hn hnb hns hi)
  have HN := hid hn
  have HNB := hid hnb
  have HNL := hid hns
  have HIX := hid hi
  have HSTAY : Hid (Left w j p nb seq X (0, s) (.returned (.int .i64 0)) w) := hid ⟨rfl, hj, X, hD, fun k hk => .inl hk, Fr.refl _ _⟩
  have HGN : Hid (∀ c, w.heap[g]? = some (.cells c 160 (0, 0)) → g ∉ j :: X) := hid (fun c hc => note_not hD hj hc)
  clear hj hD hn hnb hns hi
  unfold DS.mendR
  by_cases hl : s.loose.length = 0
  · rw [if_pos hl]
    rw [hl] at HLO
    clear hl
    by_cases hz : ns.length = 0
    · rw [if_pos hz]
      rw [hz]
      clear hz
      go_enter Tryz.func72, Tryz.ntmps72
      go_wp2_with fail
      refine HLO.out.mono ?_
      rintro e w2 ⟨rfl, hw2⟩
      obtain rfl := hw2.symm
      go_wp2
      go_ret
      exact HSTAY.out
    · rw [if_neg hz]
      have hz' : ¬ (ns.length : Int) = 0 := by omega
      generalize s.layR nb ns = R at *
      go_enter Tryz.func72, Tryz.ntmps72
      go_wp2_with fail
      refine HLO.out.mono ?_
      rintro e w2 ⟨rfl, hw2⟩
      obtain rfl := hw2.symm
      go_wp2_with fail
      refine HLA.out.mono ?_
      rintro e w2 hL
      have HL := hid (show Left w j p nb seq X R e w2 from hL)
      obtain ⟨rfl, _⟩ := hL
      generalize R.1 = ev at *
      go_wp2
      go_ret
      exact HL.out
  · rw [if_neg hl]
    obtain ⟨RR, hRR⟩ : ∃ RR, RR = if s.fl.1 ≠ 0 then s.fl else if ns.length = 0 then (0, s.fl.2) else s.fl.2.layR nb ns := ⟨_, rfl⟩
    rw [← hRR]
    have HRR := hid hRR
    clear hRR
    have hl' : ¬ (s.loose.length : Int) = 0 := by omega
    have hl2 : (0 : Int) < (s.loose.length : Int) := by omega
    clear hl
    go_enter Tryz.func72, Tryz.ntmps72
    go_wp2_with fail
    refine HLO.out.mono ?_
    rintro e w2 ⟨rfl, hw2⟩
    obtain rfl := hw2.symm
    clear HLO HLA
    go_wp2_with fail
    refine HFL.out.mono ?_
    rintro e w3 ⟨rfl, hJ3, X3, hD3, hX3, hF3⟩
    by_cases he : s.fl.1 = 0
    · have hRR := HRR.out
      rw [if_neg (not_not_intro he)] at hRR
      rw [he] at hJ3 ⊢
      have hn3 := HN.out.fr hF3 HGN.out
      have HLA := hid (jlay_any hJ3 hD3 hn3 HNB.out HNL.out HIX.out)
      have HSTAY : Hid (Left w j p nb seq X (0, s.fl.2) (.returned (.int .i64 0)) w3) := hid ⟨rfl, hJ3, X3, hD3, hX3, hF3⟩
      have HF := hid hF3
      have HX := hid hX3
      clear hJ3 hD3 hX3 hF3 hn3 he HFL HN HGN hc0 HRR
      generalize s.fl.2 = s3 at *
      by_cases hz : ns.length = 0
      · rw [if_pos hz] at hRR
        rw [← hRR] at HSTAY
        rw [hz]
        clear hz hRR
        go_wp2
        go_ret
        exact HSTAY.out
      · rw [if_neg hz] at hRR
        have HR2 := hid hRR
        clear hRR
        have hz' : ¬ (ns.length : Int) = 0 := by omega
        go_wp2_with fail
        refine HLA.out.mono ?_
        rintro e w4 hL
        have HL := hid (show Left w j p nb seq X RR e w4 from by rw [HR2.out]; exact Left.tr hL HF.out HX.out)
        obtain ⟨rfl, _⟩ := hL
        clear HF HX HLA HR2
        generalize (s3.layR nb ns).1 = ev at *
        go_wp2
        go_ret
        exact HL.out
    · have HL : Hid (∀ e, e = .returned (.int .i64 s.fl.1) → Left w j p nb seq X RR e w3) := hid (fun e h => by rw [HRR.out, if_pos he]; exact ⟨h, hJ3, X3, hD3, hX3, hF3⟩)
      clear HRR
      generalize s.fl.1 = ev at *
      clear hJ3 hD3 hX3 hF3 HFL HN HGN hc0 HSTAY
      go_wp2
      go_ret
      exact HL.out _ rfl
set_option maxRecDepth 100000 in
set_option maxHeartbeats 2000000 in
theorem jread_any {w : World} {j p nb : Nat} {seq : Int} {X : List Nat} {s : DS} (hj : Jn w j p nb seq 0) (hD : Disk w p X s) (ht : Tab w) (hg : s.gone = false) (hnb : nb ≤ 1000000) (i : Nat) (hi : i < nb) (l : List UInt8) (hl : s.now[2 + nb + i]? = some l) :
    Calls Tryz.prog 95 #[.pointer (some ⟨j, 0, none⟩), .int .i64 i] w fun e w' => Below w.heap.size w w' ∧
      ((blkR l i).2 ≠ 0 ∧ e = .returned (.tuple #[.slice none 0 0, .int .i64 (blkR l i).2]) ∨ (blkR l i).2 = 0 ∧ ∃ g, w.heap.size ≤ g ∧ e = .returned (.tuple #[.slice (some ⟨g, 0, none⟩) 112 112, .int .i64 0]) ∧ Rw w' g 141 (blkR l i).1) := by
  have c3 := hj.c3
  have hll : l.length = 128 := hD.ok.nowLens _ (List.mem_of_getElem? hl)
  have hbl : (blkR l i).1.length = 128 := by unfold blkR; split; exact hll; exact z128_len
  have HH := hid (jhas_any hj (i : Int))
  rw [show hasB (i : Int) nb = true by unfold hasB; simp; omega] at HH
  have HB := hid (block_any hj hD ht hg hnb i (by omega) l hl)
  have HBL := hid hbl
  clear hj hD ht hg hl hll hbl hnb
  generalize blkR l i = R at *
  obtain ⟨r, ev⟩ := R
  dsimp only at HB HBL ⊢
  go_enter Tryz.func95, Tryz.ntmps95
  go_wp2_with fail
  refine HH.out.mono ?_
  rintro e w2 ⟨rfl, hw2⟩
  obtain rfl := hw2.symm
  go_upto_region 7 with fail
  refine wp_region_lit ?_
  refine wp_y (v := .pointer (some ⟨j, 0, none⟩)) rfl rfl (y_move rfl) rfl ?_
  refine wp_y (v := .int .i64 i) rfl rfl (y_move rfl) rfl ?_
  refine wp_call (f := 104) (args := #[.pointer (some ⟨j, 0, none⟩), .int .i64 i]) (by kernel_rfl) (fun w => by go_simp) ?_
  refine HB.out.mono ?_
  rintro e w2 ⟨rfl, hB2⟩
  refine ⟨_, rfl, ?_⟩
  dsimp only [Act.put]
  refine wp_y (v := .tuple #[V8 r, .int .i64 ev]) rfl rfl (y_move rfl) rfl ?_
  refine wp_y (v := V8 r) rfl rfl (y_ext rfl (hr := ext2_0 (V8 r) (.int .i64 ev))) rfl ?_
  refine wp_y (v := .int .i64 ev) rfl rfl (y_ext rfl (hr := ext2_1 (V8 r) (.int .i64 ev))) rfl ?_
  refine wp_run (v := .pointer (some ⟨w2.heap.size, 0, none⟩)) rfl rfl (run_alOp rfl (alloc75 w2)) rfl ?_
  refine wp_do rfl rfl (run_storeOp rfl (by kernel_rfl) (by kernel_rfl) (store75 z128_len HBL.out (show Rw _ w2.heap.size 141 z128 from heap_alloc_last w2 _))) ?_
  simp only [List.setIfInBounds_toArray, List.set_cons_zero, List.set_cons_succ]
  refine wp_y (v := .int .i64 ev) rfl rfl (y_assign rfl) rfl ?_
  try simp only [List.setIfInBounds_toArray, List.set_cons_zero, List.set_cons_succ]
  refine wp_end ?_
  have hr3 : Rw ((w2.alloc (.cells (cells8 z128).toArray 141)).setRow w2.heap.size (cells8 r).toArray) w2.heap.size 141 r := Rw.row (heap_alloc_last w2 _) r
  have hB3 : Below w.heap.size w ((w2.alloc (.cells (cells8 z128).toArray 141)).setRow w2.heap.size (cells8 r).toArray) := hB2.trans ((below_row ((Below.refl _ _).alloc (Nat.le_refl _) _) (Nat.le_refl _) _).mono hB2.size)
  have hgs := hB2.size
  generalize (w2.alloc (.cells (cells8 z128).toArray 141)).setRow w2.heap.size (cells8 r).toArray = w3 at *
  generalize w2.heap.size = lb at *
  have HZ := hid (And.intro hr3 (And.intro hB3 hgs))
  clear hr3 hB3 hgs hB2 HB HH c3
  clear w2
  by_cases he : ev = 0
  · subst he
    go_wp2
    go_ret2
    exact ⟨HZ.out.2.1, lb, HZ.out.2.2, rfl, HZ.out.1⟩
  · go_wp2
    go_ret2
    exact ⟨HZ.out.2.1, .inl ⟨he, rfl⟩⟩
end Go.Proofs.YtcmgclkbhhdnaaaGreatDoor
namespace Go.Proofs.YtcmgclkbhhdnaaaGreatDoor
open Go Go.RowKit

/-- Block g, of type t, has the frames fs. -/
def Frs (w : World) (g : Nat) (t : TypeId) (fs : List (List UInt8)) : Prop :=
  (∀ f ∈ fs, f.length = 128) ∧ ∃ cur, w.heap[g]? = some (.cells cur t (0, 0)) ∧ fs.length * 128 ≤ cur.size ∧ ∀ (i : Nat) f, fs[i]? = some f → ∀ (j : Nat) v, (cells8 f)[j]? = some v → cur[i * 128 + j]? = some v
theorem Frs.lt {w : World} {g : Nat} {t : TypeId} {fs : List (List UInt8)} (h : Frs w g t fs) : g < w.heap.size := by
  obtain ⟨_, cur, hg, _⟩ := h; exact heap_lt hg
theorem Frs.below {B : Nat} {w w' : World} {g : Nat} {t : TypeId} {fs : List (List UInt8)} (h : Frs w g t fs) (hB : Below B w w') (hg : g < B) : Frs w' g t fs := by
  obtain ⟨h1, cur, h2, h3⟩ := h; exact ⟨h1, cur, below_at hB h2 hg, h3⟩
theorem Frs.load {w : World} {g : Nat} {t : TypeId} {fs : List (List UInt8)} (h : Frs w g t fs) {k : Nat} {f : List UInt8} (hf : fs[k]? = some f) : (Instr.loadAt 141 (.pointer (some ⟨g, k * 128, none⟩))).run Tryz.prog w = .ok (V8 f) w := by
  obtain ⟨h1, cur, h2, _, h3⟩ := h
  exact load75at (h1 f (List.mem_of_getElem? hf)) h2 (h3 k f hf)
theorem Frs.store {w : World} {g : Nat} {t : TypeId} {fs : List (List UInt8)} (h : Frs w g t fs) {k : Nat} (hk : k < fs.length) (f : List UInt8) (hf : f.length = 128) :
    ∃ c, (Instr.storeAt 141 (.pointer (some ⟨g, k * 128, none⟩)) (V8 f)).run Tryz.prog w = .ok () (w.setRow g c) ∧ Frs (w.setRow g c) g t (fs.set k f) := by
  obtain ⟨h1, cur, h2, hs, h3⟩ := h
  have hl : k * 128 + (cells8 f).length ≤ cur.size := by rw [cells8_len]; omega
  refine ⟨relaid cur (k * 128) (cells8 f), storeAt_k size75 w g (k * 128) cur t (cells8 f) (by rw [cells8_len]; exact hf) h2 hl (cells8_one _), fun x hx => ?_, _, setRow_heap w g cur _ _ _ h2, by rw [relaid_size _ _ _ hl]; simpa using hs, fun i x hx => ?_⟩
  · rcases List.mem_or_eq_of_mem_set hx with h | rfl
    · exact h1 x h
    · exact hf
  · by_cases e : k = i
    · subst e
      rw [List.getElem?_set_self hk] at hx
      cases hx
      intro j v hj
      rw [relaid_in _ _ _ hl j (by have := (List.getElem?_eq_some_iff.1 hj).1; exact this)]
      exact hj
    · rw [List.getElem?_set_ne e] at hx
      intro j v hj
      have hj' : j < 128 := by have := (List.getElem?_eq_some_iff.1 hj).1; rw [cells8_len, h1 x (List.mem_of_getElem? hx)] at this; omega
      rw [relaid_out _ _ _ hl _ (by rw [cells8_len]; omega)]
      exact h3 i x hx j v hj
theorem cells8_rep (n : Nat) : cells8 (List.replicate n 0) = List.replicate n (cb 0) := by unfold cells8; rw [List.map_replicate]
theorem frs_z (n : Nat) (i : Nat) (f : List UInt8) (h : (List.replicate n z128)[i]? = some f) (j : Nat) (v : Value) (hj : (cells8 f)[j]? = some v) : (cells8 (List.replicate (n * 128) 0)).toArray[i * 128 + j]? = some v := by
  obtain ⟨h1, h2⟩ := List.getElem?_eq_some_iff.1 h
  rw [List.length_replicate] at h1
  rw [List.getElem_replicate] at h2
  subst h2
  have hj' : j < 128 := by have := (List.getElem?_eq_some_iff.1 hj).1; rw [cells8_len, z128_len] at this; exact this
  have e : i * 128 + j < n * 128 := by omega
  rw [z128, cells8_rep, List.getElem?_replicate, if_pos hj'] at hj
  rw [cells8_rep, List.getElem?_toArray, List.getElem?_replicate, if_pos e]
  exact hj
theorem alloc79 (w : World) : (Instr.alloc 143 true (.tuple #[])).run Tryz.prog w = .ok (.pointer (some ⟨w.heap.size, 0, none⟩)) (w.alloc (.cells (cells8 (List.replicate (2 * 128) 0)).toArray 143)) := by
  have hz : (zeroValue 143).run Tryz.prog w = .ok (.agg (cells8 (List.replicate (2 * 128) 0)).toArray) w := (zero_of_info (n := 256) (by kernel_rfl)).1 w
  simp only [Instr.alloc, Sem.run_bind, hz, Result.andThen_ok]
  rfl
theorem frs79 (w : World) : Frs (w.alloc (.cells (cells8 (List.replicate (2 * 128) 0)).toArray 143)) w.heap.size 143 [z128, z128] :=
  ⟨by intro f hf; simp at hf; rw [hf]; exact z128_len, _, heap_alloc_last w _, by rw [cells8_size, List.length_replicate]; exact Nat.le_refl _, fun i f hf => frs_z 2 i f hf⟩
theorem idx79 (g k : Nat) (h : k < 2) (w : World) : (Instr.indexAt 143 (.pointer (some ⟨g, 0, none⟩)) (.int .i64 k)).run Tryz.prog w = .ok (.pointer (some ⟨g, k * 128, none⟩)) w := by
  have h1 : (k : Int) < 2 := by omega
  go_simp
theorem idx121 (g n cap k : Nat) (h : k < n) (w : World) : (Instr.indexAt 170 (.slice (some ⟨g, 0, none⟩) n cap) (.int .i64 k)).run Tryz.prog w = .ok (.pointer (some ⟨g, k * 128, none⟩)) w := by
  have h1 : (k : Int) < n := by omega
  go_simp
end Go.Proofs.YtcmgclkbhhdnaaaGreatDoor
namespace Go.Proofs.YtcmgclkbhhdnaaaGreatDoor
open Go Go.RowKit

/-- What lastMark answers of the two sectors. -/
def lastR (a b : List UInt8) : (Int × Int) × Int :=
  if (headOf markK a).2.2 = false ∧ (headOf markK b).2.2 = false then ((0, 0), 60)
  else if (headOf markK a).2.2 = false ∨ (headOf markK b).2.2 = false ∨ nextB (headOf markK a).1 (headOf markK b).1 = false then ((0, 0), 62)
  else if (headOf markK b).1 < (headOf markK a).1 then (((headOf markK a).1, (headOf markK a).2.1), 0) else (((headOf markK b).1, (headOf markK b).2.1), 0)
theorem marks_set (a b x : List UInt8) (k : Nat) (hx : [a, b][k]? = some x) : ([a, b].take k ++ [z128, z128].drop k).set k x = [a, b].take (k + 1) ++ [z128, z128].drop (k + 1) := by
  match k, hx with
  | 0, hx => cases hx; rfl
  | 1, hx => cases hx; rfl
  | k + 2, hx => simp at hx
set_option maxRecDepth 100000 in
set_option maxHeartbeats 4000000 in
theorem lastMark_any {w : World} {j p nb : Nat} {seq off : Int} {X : List Nat} {s : DS} (hj : Jn w j p nb seq off) (hD : Disk w p X s) (ht : Tab w) (hg : s.gone = false) (a b : List UInt8) (ha : s.now[0]? = some a) (hb : s.now[1]? = some b) :
    Calls Tryz.prog 69 #[.pointer (some ⟨j, 0, none⟩)] w fun e w' => e = .returned (.tuple #[.agg #[.int .i64 (lastR a b).1.1, .int .i64 (lastR a b).1.2], .int .i64 (lastR a b).2]) ∧ Below w.heap.size w w' := by
  have hal : a.length = 128 := hD.ok.nowLens _ (List.mem_of_getElem? ha)
  have hbl : b.length = 128 := hD.ok.nowLens _ (List.mem_of_getElem? hb)
  have hnow : ∀ (k : Nat) (x : List UInt8), [a, b][k]? = some x → s.now[k]? = some x ∧ x.length = 128 := fun k x hx => by
    match k, hx with
    | 0, hx => cases hx; exact ⟨ha, hal⟩
    | 1, hx => cases hx; exact ⟨hb, hbl⟩
    | k + 2, hx => simp at hx
  have hjl := heap_lt hj
  have ha0 := alloc78 w
  obtain ⟨w1, hw1⟩ : ∃ w1, w1 = w.alloc (.cells #[.int .i64 0, .int .i64 0] 131) := ⟨_, rfl⟩
  rw [← hw1] at ha0
  have hz1 : w1.heap.size = w.heap.size + 1 := by rw [hw1]; show (w.heap.push _).size = _; simp
  have hB1 : Below w.heap.size w w1 := by rw [hw1]; exact (Below.refl _ _).alloc (Nat.le_refl _) _
  have hh1 : Hd w1 w.heap.size 0 0 := by rw [hw1]; exact heap_alloc_last w _
  have ha1 := alloc79 w1
  obtain ⟨w2, hw2⟩ : ∃ w2, w2 = w1.alloc (.cells (cells8 (List.replicate (2 * 128) 0)).toArray 143) := ⟨_, rfl⟩
  rw [← hw2, hz1] at ha1
  have hB2 : Below w1.heap.size w1 w2 := by rw [hw2]; exact (Below.refl _ _).alloc (Nat.le_refl _) _
  have hm2 : Frs w2 (w.heap.size + 1) 143 [z128, z128] := by have := frs79 w1; rw [← hw2, hz1] at this; exact this
  have hh2 : Hd w2 w.heap.size 0 0 := below_at hB2 hh1 (heap_lt hh1)
  have hB02 : Below w.heap.size w w2 := hB1.trans (hB2.mono (by omega))
  have HA0 := hid ha0
  have HA1 := hid ha1
  have HM2 := hid hm2
  have HH2 := hid hh2
  have HB2 := hid hB02
  have HJ := hid hj
  have HD := hid hD
  have HT := hid ht
  have HNOW := hid hnow
  have HG := hid hg
  have HAL := hid hal
  have HBL := hid hbl
  obtain ⟨s1, m1, ok1, hho1⟩ : ∃ x y z, headOf markK a = (x, y, z) := ⟨_, _, _, rfl⟩
  obtain ⟨s2, m2, ok2, hho2⟩ : ∃ x y z, headOf markK b = (x, y, z) := ⟨_, _, _, rfl⟩
  obtain ⟨R, hR⟩ : ∃ R, R = lastR a b := ⟨_, rfl⟩
  have HR : Hid (R = if ok1 = false ∧ ok2 = false then ((0, 0), 60) else if ok1 = false ∨ ok2 = false ∨ nextB s1 s2 = false then ((0, 0), 62) else if s2 < s1 then ((s1, m1), 0) else ((s2, m2), 0)) := hid (by rw [hR]; unfold lastR; rw [hho1, hho2])
  have HHO1 := hid hho1
  have HHO2 := hid hho2
  rw [← hR]
  clear hR hho1 hho2 ha0 ha1 hw1 hw2 hz1 hB1 hh1 hB2 hm2 hh2 hB02 hj hD ht hnow ha hb hal hbl hg
  go_enter Tryz.func69, Tryz.ntmps69
  go_upto_region 0 with fail
  refine wp_region_lit ?_
  refine wp_run (v := .pointer (some ⟨w.heap.size, 0, none⟩)) rfl rfl (run_alOp rfl HA0.out) rfl ?_
  refine wp_y (v := (.int .i64 0)) rfl rfl (y_assign rfl) rfl ?_
  try simp only [List.setIfInBounds_toArray, List.set_cons_zero, List.set_cons_succ]
  refine wp_end ?_
  clear HA0
  go_upto_region 1 with fail
  refine wp_region_lit ?_
  refine wp_run (v := .pointer (some ⟨(w.heap.size + 1), 0, none⟩)) rfl rfl (run_alOp rfl HA1.out) rfl ?_
  try simp only [List.setIfInBounds_toArray, List.set_cons_zero, List.set_cons_succ]
  refine wp_end ?_
  clear HA1
  generalize hrb : w.heap.size = rb at *
  obtain ⟨mb, hmb⟩ : ∃ mb, mb = rb + 1 := ⟨_, rfl⟩
  rw [← hmb] at HM2 ⊢
  go_wp2_with fail
  go_loopw [12, 5, 6, 7] (fun y _ _ _ wr => ∃ k : Nat, k ≤ 2 ∧ y = .int .i64 k ∧ Frs wr mb 143 ([a, b].take k ++ [z128, z128].drop k) ∧ Hd wr rb 0 0 ∧ Below rb w wr) (fun y _ _ _ _ => 2 - (intOf y).toNat)
  case atStart => exact ⟨0, Nat.zero_le _, rfl, HM2.out, HH2.out, HB2.out⟩
  case round =>
    clear HM2 HH2 HB2
    obtain ⟨k, hk, rfl, hMr, hHr, hBr⟩ := hrel
    by_cases hlt : k < 2
    · have hlt' : (k : Int) < 2 := by omega
      obtain ⟨x, hx⟩ : ∃ x, [a, b][k]? = some x := ⟨_, List.getElem?_eq_getElem (by simpa using hlt)⟩
      have hnx := HNOW.out k x hx
      have hJr : Jn wr j p nb seq off := below_at hBr HJ.out (by rw [← hrb] at *; exact hjl)
      have hDr : Disk wr p X s := HD.out.below (by rw [hrb]; exact hBr)
      have HGT := hid (get_ok hJr hDr HG.out k x hnx.1)
      have HXL := hid hnx.2
      have HMR := hid hMr
      have HHR := hid hHr
      have HBR := hid hBr
      have HST := hid (marks_set a b x k hx)
      have hwk : IntKind.i64.wrap ((k : Int) + 1) = ((k + 1 : Nat) : Int) := by rw [IntWalk.i64_in _ ⟨by omega, by omega⟩]; omega
      clear hMr hHr hBr hJr hDr hnx hx
      go_upto_region 5 with fail
      refine wp_region_lit ?_
      refine wp_y (v := .pointer (some ⟨j, 0, none⟩)) rfl rfl (y_move rfl) rfl ?_
      refine wp_y (v := .int .i64 k) rfl rfl (y_move rfl) rfl ?_
      refine wp_call (f := 100) (args := #[.pointer (some ⟨j, 0, none⟩), .int .i64 k]) (by kernel_rfl) (fun w => by go_simp) ?_
      refine HGT.out.mono ?_
      rintro e w2 ⟨rfl, hB2⟩
      refine ⟨_, rfl, ?_⟩
      dsimp only [Act.put]
      refine wp_y (v := .tuple #[V8 x, .int .i64 0]) rfl rfl (y_move rfl) rfl ?_
      refine wp_y (v := V8 x) rfl rfl (y_ext rfl (hr := ext2_0 (V8 x) (.int .i64 0))) rfl ?_
      refine wp_y (v := .int .i64 0) rfl rfl (y_ext rfl (hr := ext2_1 (V8 x) (.int .i64 0))) rfl ?_
      refine wp_run (v := .pointer (some ⟨w2.heap.size, 0, none⟩)) rfl rfl (run_alOp rfl (alloc75 w2)) rfl ?_
      refine wp_do rfl rfl (run_storeOp rfl (by kernel_rfl) (by kernel_rfl) (store75 z128_len HXL.out (show Rw _ w2.heap.size 141 z128 from heap_alloc_last w2 _))) ?_
      simp only [List.setIfInBounds_toArray, List.set_cons_zero, List.set_cons_succ]
      refine wp_y (v := .int .i64 0) rfl rfl (y_assign rfl) rfl ?_
      try simp only [List.setIfInBounds_toArray, List.set_cons_zero, List.set_cons_succ]
      refine wp_end ?_
      have hr3 : Rw ((w2.alloc (.cells (cells8 z128).toArray 141)).setRow w2.heap.size (cells8 x).toArray) w2.heap.size 141 x := Rw.row (heap_alloc_last w2 _) x
      have hB3 : Below w2.heap.size w2 ((w2.alloc (.cells (cells8 z128).toArray 141)).setRow w2.heap.size (cells8 x).toArray) := below_row ((Below.refl _ _).alloc (Nat.le_refl _) _) (Nat.le_refl _) _
      have hm3 := (HMR.out.below hB2 HMR.out.lt).below hB3 (Nat.lt_of_lt_of_le HMR.out.lt hB2.size)
      have hmlt := Nat.lt_of_lt_of_le HMR.out.lt hB2.size
      have hh3 : Hd _ rb 0 0 := below_at hB3 (below_at hB2 HHR.out (heap_lt HHR.out)) (Nat.lt_of_lt_of_le (heap_lt HHR.out) hB2.size)
      have hB03 := HBR.out.trans ((hB2.trans (hB3.mono hB2.size)).mono (by have := heap_lt HHR.out; omega))
      generalize (w2.alloc (.cells (cells8 z128).toArray 141)).setRow w2.heap.size (cells8 x).toArray = w3 at *
      generalize w2.heap.size = lb at *
      obtain ⟨c, hst, hm4⟩ := hm3.store (k := k) (by rw [List.length_append, List.length_take, List.length_drop]; simp; omega) x HXL.out
      rw [HST.out] at hm4
      have hh4 : Hd (w3.setRow mb c) rb 0 0 := (setRow_other w3 mb rb c (by omega)).trans hh3
      have hB4 : Below rb w (w3.setRow mb c) := below_row hB03 (by omega) c
      have HLD := hid (load75 HXL.out hr3)
      have HSR := hid hst
      have HZ := hid (And.intro hm4 (And.intro hh4 hB4))
      clear hr3 hB3 hm3 hmlt hh3 hB03 hst hm4 hh4 hB4 hB2 HGT HMR HHR HBR HST
      clear w2
      go_upto_region 8 with fail
      refine wp_region_lit ?_
      refine wp_y (v := .int .i64 k) rfl rfl (y_move rfl) rfl ?_
      refine wp_y (v := V8 x) rfl rfl (y_load rfl (hl := fun w' h => by subst h; exact HLD.out)) rfl ?_
      refine wp_y (v := .pointer (some ⟨mb, k * 128, none⟩)) rfl rfl (y_index rfl (hr := idx79 mb k hlt)) rfl ?_
      refine wp_do rfl rfl (run_storeOp rfl (by kernel_rfl) (by kernel_rfl) HSR.out) ?_
      try simp only [List.setIfInBounds_toArray, List.set_cons_zero, List.set_cons_succ]
      refine wp_end ?_
      clear HSR HLD
      generalize w3.setRow mb c = w4 at *
      go_wp2
      exact ⟨⟨k + 1, by omega, rfl, HZ.out⟩, by simp [intOf]; omega⟩
    · have hk2 : k = 2 := by omega
      subst hk2
      have HMR := hid (show Frs wr mb 143 [a, b] from hMr)
      have HHR := hid hHr
      have HBR := hid hBr
      have HTR := hid (HT.out.below (show Below w.heap.size w wr by rw [hrb]; exact hBr))
      clear hMr hHr hBr
      go_upto_region 10 with fail
      refine wp_region_lit ?_
      refine wp_y (v := .pointer (some ⟨mb, 0 * 128, none⟩)) rfl rfl (y_index rfl (hr := idx79 mb 0 (by decide))) rfl ?_
      refine wp_y (v := V8 a) rfl rfl (y_load rfl (hl := fun w' h => by subst h; exact HMR.out.load (k := 0) rfl)) rfl ?_
      refine wp_call (f := 101) (args := #[V8 a, .string ⟨markK.toArray⟩]) (by kernel_rfl) (fun w => by go_simp) ?_
      refine (head_any markK a _ HTR.out HAL.out (by decide)).mono ?_
      rintro e w4 ⟨rfl, hB4⟩
      rw [HHO1.out]
      refine ⟨_, rfl, ?_⟩
      dsimp only [Act.put]
      refine wp_y (v := .tuple #[.agg #[.int .i64 s1, .int .i64 m1], .bool ok1]) rfl rfl (y_move rfl) rfl ?_
      refine wp_y (v := .agg #[.int .i64 s1, .int .i64 m1]) rfl rfl (y_ext rfl (hr := ext2_0 (.agg #[.int .i64 s1, .int .i64 m1]) (.bool ok1))) rfl ?_
      refine wp_y (v := .bool ok1) rfl rfl (y_ext rfl (hr := ext2_1 (.agg #[.int .i64 s1, .int .i64 m1]) (.bool ok1))) rfl ?_
      refine wp_run (v := .pointer (some ⟨w4.heap.size, 0, none⟩)) rfl rfl (run_alOp rfl (alloc78 w4)) rfl ?_
      refine wp_do rfl rfl (run_storeOp rfl (by kernel_rfl) (by kernel_rfl) (store78 (show Hd _ w4.heap.size 0 0 from heap_alloc_last w4 _) s1 m1)) ?_
      simp only [List.setIfInBounds_toArray, List.set_cons_zero, List.set_cons_succ]
      refine wp_y (v := .bool ok1) rfl rfl (y_assign rfl) rfl ?_
      try simp only [List.setIfInBounds_toArray, List.set_cons_zero, List.set_cons_succ]
      refine wp_end ?_
      have hh5 : Hd ((w4.alloc (.cells #[.int .i64 0, .int .i64 0] 131)).setRow w4.heap.size #[.int .i64 s1, .int .i64 m1]) w4.heap.size s1 m1 := Hd.row (show Hd (w4.alloc (.cells #[.int .i64 0, .int .i64 0] 131)) w4.heap.size 0 0 from heap_alloc_last w4 _) s1 m1
      have hB5 : Below w4.heap.size w4 ((w4.alloc (.cells #[.int .i64 0, .int .i64 0] 131)).setRow w4.heap.size #[.int .i64 s1, .int .i64 m1]) := below_row ((Below.refl _ _).alloc (Nat.le_refl _) _) (Nat.le_refl _) _
      have hBw5 := hB4.trans (hB5.mono hB4.size)
      generalize (w4.alloc (.cells #[.int .i64 0, .int .i64 0] 131)).setRow w4.heap.size #[.int .i64 s1, .int .i64 m1] = w5 at *
      generalize w4.heap.size = ab at *
      have HM5 := hid (HMR.out.below hBw5 HMR.out.lt)
      have HH5 := hid (show Hd w5 rb 0 0 from below_at hBw5 HHR.out (heap_lt HHR.out))
      have HB5 := hid (HBR.out.trans (hBw5.mono (by have := heap_lt HHR.out; omega)))
      have HT5 := hid (HTR.out.below hBw5)
      have HA5 := hid hh5
      clear hh5 hB5 hBw5 hB4 HMR HHR HBR HTR
      clear w4
      go_upto_region 11 with fail
      refine wp_region_lit ?_
      refine wp_y (v := .pointer (some ⟨mb, 1 * 128, none⟩)) rfl rfl (y_index rfl (hr := idx79 mb 1 (by decide))) rfl ?_
      refine wp_y (v := V8 b) rfl rfl (y_load rfl (hl := fun w' h => by subst h; exact HM5.out.load (k := 1) rfl)) rfl ?_
      refine wp_call (f := 101) (args := #[V8 b, .string ⟨markK.toArray⟩]) (by kernel_rfl) (fun w => by go_simp) ?_
      refine (head_any markK b _ HT5.out HBL.out (by decide)).mono ?_
      rintro e w6 ⟨rfl, hB6⟩
      rw [HHO2.out]
      refine ⟨_, rfl, ?_⟩
      dsimp only [Act.put]
      refine wp_y (v := .tuple #[.agg #[.int .i64 s2, .int .i64 m2], .bool ok2]) rfl rfl (y_move rfl) rfl ?_
      refine wp_y (v := .agg #[.int .i64 s2, .int .i64 m2]) rfl rfl (y_ext rfl (hr := ext2_0 (.agg #[.int .i64 s2, .int .i64 m2]) (.bool ok2))) rfl ?_
      refine wp_y (v := .bool ok2) rfl rfl (y_ext rfl (hr := ext2_1 (.agg #[.int .i64 s2, .int .i64 m2]) (.bool ok2))) rfl ?_
      refine wp_run (v := .pointer (some ⟨w6.heap.size, 0, none⟩)) rfl rfl (run_alOp rfl (alloc78 w6)) rfl ?_
      refine wp_do rfl rfl (run_storeOp rfl (by kernel_rfl) (by kernel_rfl) (store78 (show Hd _ w6.heap.size 0 0 from heap_alloc_last w6 _) s2 m2)) ?_
      simp only [List.setIfInBounds_toArray, List.set_cons_zero, List.set_cons_succ]
      refine wp_y (v := .bool ok2) rfl rfl (y_assign rfl) rfl ?_
      try simp only [List.setIfInBounds_toArray, List.set_cons_zero, List.set_cons_succ]
      refine wp_end ?_
      have hh7 : Hd ((w6.alloc (.cells #[.int .i64 0, .int .i64 0] 131)).setRow w6.heap.size #[.int .i64 s2, .int .i64 m2]) w6.heap.size s2 m2 := Hd.row (show Hd (w6.alloc (.cells #[.int .i64 0, .int .i64 0] 131)) w6.heap.size 0 0 from heap_alloc_last w6 _) s2 m2
      have hB7 : Below w6.heap.size w6 ((w6.alloc (.cells #[.int .i64 0, .int .i64 0] 131)).setRow w6.heap.size #[.int .i64 s2, .int .i64 m2]) := below_row ((Below.refl _ _).alloc (Nat.le_refl _) _) (Nat.le_refl _) _
      have hBw7 := hB6.trans (hB7.mono hB6.size)
      generalize (w6.alloc (.cells #[.int .i64 0, .int .i64 0] 131)).setRow w6.heap.size #[.int .i64 s2, .int .i64 m2] = w7 at *
      generalize w6.heap.size = bb at *
      have HR7 := hid (show Hd w7 rb 0 0 from below_at hBw7 HH5.out (heap_lt HH5.out))
      have HB7 := hid (HB5.out.trans (hBw7.mono (by have := heap_lt HH5.out; omega)))
      have hA7 : Hd w7 ab s1 m1 := below_at hBw7 HA5.out (heap_lt HA5.out)
      have HA7 := hid hA7
      have HC7 := hid hh7
      have hca : w7.cell? ⟨ab, 0, none⟩ = some (.int .i64 s1) := cell_at hA7 0 rfl
      have hcb : w7.cell? ⟨bb, 0, none⟩ = some (.int .i64 s2) := cell_at hh7 0 rfl
      clear hA7 hh7 hB7 hBw7 hB6 HM5 HH5 HB5 HT5 HA5 HHO1 HHO2 HJ HD HT HNOW HG HAL HBL
      clear w5 w6
      cases ok1 with
      | false =>
        cases ok2 with
        | false =>
          obtain rfl := HR.out
          clear HR
          go_upto_region 13 with fail
          refine wp_region_lit ?_
          refine wp_run (v := .agg #[.int .i64 0, .int .i64 0]) rfl rfl (run_buildOp rfl (by kernel_rfl) (build78z _)) rfl ?_
          refine wp_do rfl rfl (run_storeOp rfl (by kernel_rfl) (by kernel_rfl) (store78 HR7.out 0 0)) ?_
          refine wp_y (v := (.int .i64 60)) rfl rfl (y_assign rfl) rfl ?_
          try simp only [List.setIfInBounds_toArray, List.set_cons_zero, List.set_cons_succ]
          refine wp_end ?_
          go_wp2
          refine ret_pair rfl rfl (by kernel_rfl) (load78 (HR7.out.row 0 0)) ⟨rfl, by first | exact below_row HB7.out (Nat.le_refl _) _ | rw [hrb]; exact below_row HB7.out (Nat.le_refl _) _⟩
        | true =>
          obtain rfl := HR.out
          clear HR
          go_upto_region 15 with fail
          refine wp_region_lit ?_
          refine wp_run (v := .agg #[.int .i64 0, .int .i64 0]) rfl rfl (run_buildOp rfl (by kernel_rfl) (build78z _)) rfl ?_
          refine wp_do rfl rfl (run_storeOp rfl (by kernel_rfl) (by kernel_rfl) (store78 HR7.out 0 0)) ?_
          refine wp_y (v := (.int .i64 62)) rfl rfl (y_assign rfl) rfl ?_
          try simp only [List.setIfInBounds_toArray, List.set_cons_zero, List.set_cons_succ]
          refine wp_end ?_
          go_wp2
          refine ret_pair rfl rfl (by kernel_rfl) (load78 (HR7.out.row 0 0)) ⟨rfl, by first | exact below_row HB7.out (Nat.le_refl _) _ | rw [hrb]; exact below_row HB7.out (Nat.le_refl _) _⟩
      | true =>
        cases ok2 with
        | false =>
          obtain rfl := HR.out
          clear HR
          go_upto_region 15 with fail
          refine wp_region_lit ?_
          refine wp_run (v := .agg #[.int .i64 0, .int .i64 0]) rfl rfl (run_buildOp rfl (by kernel_rfl) (build78z _)) rfl ?_
          refine wp_do rfl rfl (run_storeOp rfl (by kernel_rfl) (by kernel_rfl) (store78 HR7.out 0 0)) ?_
          refine wp_y (v := (.int .i64 62)) rfl rfl (y_assign rfl) rfl ?_
          try simp only [List.setIfInBounds_toArray, List.set_cons_zero, List.set_cons_succ]
          refine wp_end ?_
          go_wp2
          refine ret_pair rfl rfl (by kernel_rfl) (load78 (HR7.out.row 0 0)) ⟨rfl, by first | exact below_row HB7.out (Nat.le_refl _) _ | rw [hrb]; exact below_row HB7.out (Nat.le_refl _) _⟩
        | true =>
          have HNX := hid (neighbours_any s1 s2 w7)
          have hR := HR.out
          clear HR
          cases hnx : nextB s1 s2 with
          | false =>
            rw [hnx] at hR HNX
            obtain rfl := hR
            clear hnx
            go_wp2_with fail
            refine HNX.out.mono ?_
            rintro e wz ⟨rfl, hwz⟩
            obtain rfl := hwz.symm
            go_upto_region 15 with fail
            refine wp_region_lit ?_
            refine wp_run (v := .agg #[.int .i64 0, .int .i64 0]) rfl rfl (run_buildOp rfl (by kernel_rfl) (build78z _)) rfl ?_
            refine wp_do rfl rfl (run_storeOp rfl (by kernel_rfl) (by kernel_rfl) (store78 HR7.out 0 0)) ?_
            refine wp_y (v := (.int .i64 62)) rfl rfl (y_assign rfl) rfl ?_
            try simp only [List.setIfInBounds_toArray, List.set_cons_zero, List.set_cons_succ]
            refine wp_end ?_
            go_wp2
            refine ret_pair rfl rfl (by kernel_rfl) (load78 (HR7.out.row 0 0)) ⟨rfl, by first | exact below_row HB7.out (Nat.le_refl _) _ | rw [hrb]; exact below_row HB7.out (Nat.le_refl _) _⟩
          | true =>
            rw [hnx] at hR HNX
            clear hnx
            by_cases hgt : s2 < s1
            · have hR2 : R = ((s1, m1), 0) := by rw [hR]; simp [hgt]
              clear hR
              subst hR2
              go_wp2_with fail
              refine HNX.out.mono ?_
              rintro e wz ⟨rfl, hwz⟩
              obtain rfl := hwz.symm
              go_upto_region 17 with fail
              refine wp_region_lit ?_
              refine wp_y (v := .agg #[.int .i64 s1, .int .i64 m1]) rfl rfl (y_load rfl (hl := fun w' h => by subst h; exact load78 HA7.out)) rfl ?_
              refine wp_do rfl rfl (run_storeOp rfl (by kernel_rfl) (by kernel_rfl) (store78 HR7.out s1 m1)) ?_
              refine wp_y (v := (.int .i64 0)) rfl rfl (y_assign rfl) rfl ?_
              try simp only [List.setIfInBounds_toArray, List.set_cons_zero, List.set_cons_succ]
              refine wp_end ?_
              go_wp2
              refine ret_pair rfl rfl (by kernel_rfl) (load78 (HR7.out.row s1 m1)) ⟨rfl, by first | exact below_row HB7.out (Nat.le_refl _) _ | rw [hrb]; exact below_row HB7.out (Nat.le_refl _) _⟩
            · have hR2 : R = ((s2, m2), 0) := by rw [hR]; simp [hgt]
              clear hR
              subst hR2
              go_wp2_with fail
              refine HNX.out.mono ?_
              rintro e wz ⟨rfl, hwz⟩
              obtain rfl := hwz.symm
              go_upto_region 18 with fail
              refine wp_region_lit ?_
              refine wp_y (v := .agg #[.int .i64 s2, .int .i64 m2]) rfl rfl (y_load rfl (hl := fun w' h => by subst h; exact load78 HC7.out)) rfl ?_
              refine wp_do rfl rfl (run_storeOp rfl (by kernel_rfl) (by kernel_rfl) (store78 HR7.out s2 m2)) ?_
              refine wp_y (v := (.int .i64 0)) rfl rfl (y_assign rfl) rfl ?_
              try simp only [List.setIfInBounds_toArray, List.set_cons_zero, List.set_cons_succ]
              refine wp_end ?_
              go_wp2
              refine ret_pair rfl rfl (by kernel_rfl) (load78 (HR7.out.row s2 m2)) ⟨rfl, by first | exact below_row HB7.out (Nat.le_refl _) _ | rw [hrb]; exact below_row HB7.out (Nat.le_refl _) _⟩
end Go.Proofs.YtcmgclkbhhdnaaaGreatDoor
namespace Go.Proofs.YtcmgclkbhhdnaaaGreatDoor
open Go Go.RowKit

def noteV (x : Nat × List UInt8) : Value := .agg (noteC x).toArray
theorem zero96 (w : World) : (zeroValue 160).run Tryz.prog w = .ok (noteV (0, z128)) w := (zero_of_info (n := 129) (by kernel_rfl)).1 w
theorem size96 : (Tryz.prog.info? 160).map (·.size) = some 129 := by kernel_rfl
theorem agg96 (w : World) : (isAgg 160).run Tryz.prog w = .ok true w := by simp [isAgg, run_underlying Tryz.underlying160]
theorem noteC_one (x : Nat × List UInt8) : ∀ u ∈ noteC x, u.oneCell' = true := by
  intro u hu
  rcases List.mem_cons.1 hu with rfl | hu
  · rfl
  · exact cells8_one _ u hu
theorem build96 (w : World) (n : Nat) (l : List UInt8) (hl : l.length = 128) :
    (Instr.build 160 #[(0, .int .i64 n), (1, V8 l)]).run Tryz.prog w = .ok (noteV (n, l)) w := by
  unfold Instr.build
  simp only [Sem.run_bind, zero96, Result.andThen_ok, run_underlying Tryz.underlying160]
  have e : ∀ a : Array (Nat × Nat), a = #[(0, 1), (1, 128)] → Instr.fill (fun x => a[x]?) (noteV (0, z128)).cells [(0, .int .i64 n), (1, .agg (cells8 l).toArray)] = some (.int .i64 n :: cells8 l).toArray := fun a ha => by
    subst ha
    exact fill_two (noteV (0, z128)).cells (by decide +kernel) _ rfl (cells8 l) (by rw [cells8_len]; exact hl) _ rfl rfl
  have hm := fun (w : World) => run_size size75 w
  have hmm : ∀ f g : Field, f.type = 3 → f.offset = 0 → g.type = 141 → g.offset = 1 → Sem.run Tryz.prog (Array.mapM (fun f => do
      let s ← Go.sizeOf f.type
      pure (f.offset, s)) #[f, g]) w = .ok #[(0, 1), (1, 128)] w := fun f g h1 h2 h3 h4 => by
    simp [h1, h2, h3, h4, hm, Tryz.sizeOf3]
  rw [hmm _ _ rfl rfl rfl rfl, Result.andThen_ok]
  have := e _ rfl
  simp only [V8]
  rw [this]
  rfl
theorem fill_whole (n : Nat) (z : Array Value) (hz : z.size = n) (cs : List Value) (hc : cs.length = n) (pl : Nat → Option (Nat × Nat)) (h0 : pl 0 = some (0, n)) :
    Instr.fill pl z [(0, .agg cs.toArray)] = some cs.toArray := by
  unfold Instr.fill
  rw [h0]
  simp only [Value.cells, List.size_toArray, hc, hz]
  rw [if_neg (by simp)]
  unfold Instr.fill
  congr 1
  apply Array.ext_getElem?
  intro i
  have := fold_get cs 0 0 z i (by rw [hz, hc]; omega)
  rw [← Array.foldl_toList, Array.toList_zipIdx]
  simp only at this ⊢
  rw [this]
  by_cases hi : i < n
  · rw [if_pos (by omega)]; simp
  · rw [if_neg (by omega), Array.getElem?_eq_none (by omega), List.getElem?_toArray, List.getElem?_eq_none (by omega)]
theorem bslice86 (w : World) (x : Nat × List UInt8) (hx : x.2.length = 128) : (Instr.buildSlice 134 1 #[(0, noteV x)]).run Tryz.prog w = .ok (.slice (some ⟨w.heap.size, 0, none⟩) 1 1) (w.alloc (.cells (noteC x).toArray 160)) := by
  cases hie : Tryz.prog.info? 160 with
  | none => have := size96; rw [hie] at this; cases this
  | some ie =>
    have hs : ie.size = 129 := by have := size96; rw [hie] at this; simpa using this
    have hz : ∃ z, ie.zero = some z := by
      have h : ((Tryz.prog.info? 160).bind (·.zero)).isSome = true := by kernel_rfl
      rw [hie] at h
      exact Option.isSome_iff_exists.1 h
    obtain ⟨z, hz⟩ := hz
    refine run_buildSlice w 134 160 1 #[(0, noteV x)] (noteC x).toArray ie z Tryz.underlying134 hie hz (by rw [hs]; omega) (by rw [hs]; omega) ?_
    exact fill_whole 129 _ (by simp [hs]) (noteC x) (noteC_len hx) _ (by rw [hs])
/-- The slice v has the notes ns, in a block of its own from B on. -/
def Nto (w : World) (B : Nat) (v : Value) (ns : List (Nat × List UInt8)) : Prop := (∀ x ∈ ns, x.2.length = 128) ∧ w.ownsRow B 160 129 v ns.length (ns.map noteC).flatten
theorem Nto.nil (w : World) (B : Nat) : Nto w B (.slice none 0 0) [] := ⟨by simp, World.ownsRow_nil _ _ _ _⟩
theorem nflat_get : ∀ (ns : List (Nat × List UInt8)), (∀ x ∈ ns, x.2.length = 128) → ∀ (k : Nat) x, ns[k]? = some x → ∀ (i : Nat) u, (noteC x)[i]? = some u → (ns.map noteC).flatten[k * 129 + i]? = some u
  | [], _, k, x, hx, i, u, _ => by simp at hx
  | y :: r, h, 0, x, hx, i, u, hu => by
    cases hx
    have hi : i < (noteC y).length := (List.getElem?_eq_some_iff.1 hu).1
    rw [List.map_cons, List.flatten_cons, Nat.zero_mul, Nat.zero_add, List.getElem?_append_left hi]
    exact hu
  | y :: r, h, k + 1, x, hx, i, u, hu => by
    rw [List.map_cons, List.flatten_cons, List.getElem?_append_right (by rw [noteC_len (h y (by simp))]; omega), noteC_len (h y (by simp)), show (k + 1) * 129 + i - 129 = k * 129 + i by omega]
    exact nflat_get r (fun x hx => h x (List.mem_cons_of_mem _ hx)) k x (by simpa using hx) i u hu
theorem Nto.nts {w : World} {B : Nat} {v : Value} {ns : List (Nat × List UInt8)} (h : Nto w B v ns) : ∃ g, Nts w g v ns := by
  obtain ⟨h1, h2, h3⟩ := h
  rcases h3 with ⟨rfl, h0⟩ | ⟨g, cap, cur, rfl, hb, hg, hc, hm, hs, ht⟩
  · exact ⟨0, h1, .inl ⟨rfl, List.length_eq_zero_iff.1 h0⟩⟩
  · refine ⟨g, h1, .inr ⟨cap, cur, rfl, hg, fun k x hx i u hu => ?_⟩⟩
    have hf := nflat_get ns h1 k x hx i u hu
    rw [← ht] at hf
    have hlt : k * 129 + i < ns.length * 129 := by
      have h4 := (List.getElem?_eq_some_iff.1 hx).1
      have h5 := (List.getElem?_eq_some_iff.1 hu).1
      rw [noteC_len (h1 x (List.mem_of_getElem? hx))] at h5
      omega
    rw [List.getElem?_take_of_lt hlt] at hf
    simpa using hf
theorem Nto.below {w w' : World} {B : Nat} {v : Value} {ns : List (Nat × List UInt8)} (h : Nto w B v ns) (hB : Below w.heap.size w w') : Nto w' B v ns := by
  obtain ⟨h1, h2, h3⟩ := h
  refine ⟨h1, h2, ?_⟩
  rcases h3 with h3 | ⟨g, cap, cur, rfl, hb, hg, r⟩
  · exact .inl h3
  · exact .inr ⟨g, cap, cur, rfl, hb, below_at hB hg (heap_lt hg), r⟩
theorem Nto.mono {w : World} {B B' : Nat} {v : Value} {ns : List (Nat × List UInt8)} (h : Nto w B v ns) (hB : B' ≤ B) : Nto w B' v ns := by
  obtain ⟨h1, h2, h3⟩ := h
  refine ⟨h1, h2, ?_⟩
  rcases h3 with h3 | ⟨g, cap, cur, rfl, hb, r⟩
  · exact .inl h3
  · exact .inr ⟨g, cap, cur, rfl, Nat.le_trans hB hb, r⟩
theorem info96 : (Tryz.prog.info? 160).map (fun i => (i.zero, i.size, i.bytes)) = some (some (noteV (0, z128)), 129, 136) := by kernel_rfl
/-- One note more. -/
theorem Nto.more {w : World} {B : Nat} {v : Value} {ns : List (Nat × List UInt8)} (h : Nto w B v ns) (x : Nat × List UInt8) (hx : x.2.length = 128) (hn : ns.length ≤ 1000000) (hB : B ≤ w.heap.size) (ty : TypeId) :
    ∃ v' w', (Builtin.append_ #[134, 134] ty #[v, .slice (some ⟨w.heap.size, 0, none⟩) 1 1]).run Tryz.prog (w.alloc (.cells (noteC x).toArray 160)) = .ok v' w' ∧ Nto w' B v' (ns ++ [x]) ∧ Below B w w' := by
  obtain ⟨h1, h2⟩ := h
  cases hie : Tryz.prog.info? 160 with
  | none => have := size96; rw [hie] at this; cases this
  | some i0 =>
    have hi := info96
    rw [hie] at hi
    simp only [Option.map_some, Option.some.injEq, Prod.mk.injEq] at hi
    obtain ⟨hz0, hz1, hz2⟩ := hi
    obtain ⟨v', w', hr, ho, hg, _⟩ := run_append_own_at (P := Tryz.prog) (w := w.alloc (.cells (noteC x).toArray 160)) B 134 ty 160 i0 (noteV (0, z128)) 129 136 Tryz.underlying134 hie hz0 hz1 hz2 (by simp [noteV, Value.cells]; exact noteC_len z128_len) (by decide) v ns.length _ (h2.alloc _) ⟨w.heap.size, 0, none⟩ 1 1 (noteC x)
      (by rw [noteC_len hx]) (fun j u hj => by rw [Addr.add_lit, Nat.zero_add]; exact cell_at (heap_alloc_last w _) j (by simpa using hj)) (noteC_one x) (by unfold maxLen; omega) (by omega) (by show B ≤ (w.heap.push _).size; simp; omega)
    refine ⟨v', w', hr, ⟨fun y hy => ?_, ?_⟩, ?_⟩
    · rcases List.mem_append.1 hy with hy | hy
      · exact h1 y hy
      · obtain rfl : y = x := by simpa using hy
        exact hx
    · have e : ((ns ++ [x]).map noteC).flatten = (ns.map noteC).flatten ++ noteC x := by simp
      rw [e, List.length_append]
      exact ho
    · have hF : Below B (w.alloc (.cells (noteC x).toArray 160)) w' := ⟨hg.os, hg.tape, hg.output, hg.size, fun k hk => hg.block k (by show k < (w.heap.push _).size; simp; omega) (fun e => by
        rcases h2.2 with ⟨rfl, _⟩ | ⟨g, cap, cur, rfl, hb, _⟩
        · simp [Value.ownBlock] at e
        · simp [Value.ownBlock] at e; omega)⟩
      exact (((Below.refl _ w).alloc (Nat.le_refl _) _).mono hB).trans hF
end Go.Proofs.YtcmgclkbhhdnaaaGreatDoor
namespace Go.Proofs.YtcmgclkbhhdnaaaGreatDoor
open Go Go.RowKit

/-- What notesOf makes of one note's sector; none: no crash leaves that. -/
def noteStep (nb : Nat) (sq cnt : Int) (i : Nat) (l : List UInt8) : Option (List (Nat × List UInt8)) :=
  if (headOf blockK l).2.2 = false ∨ hasB (headOf blockK l).2.1 nb = false then none
  else if cnt ≤ i then some []
  else if (headOf blockK l).1 = sq then some [((headOf blockK l).2.1.toNat, l)]
  else if (headOf blockK l).1 = wrap64 (sq + 1) then some [] else none
/-- What it answers of all of them. -/
def notesR (nb : Nat) (sq cnt : Int) : Nat → List (List UInt8) → Option (List (Nat × List UInt8))
  | _, [] => some []
  | i, l :: r => match noteStep nb sq cnt i l with
    | none => none
    | some a => (notesR nb sq cnt (i + 1) r).map (a ++ ·)
theorem notesR_snoc (nb : Nat) (sq cnt : Int) (x : List UInt8) : ∀ (L : List (List UInt8)) (i : Nat), notesR nb sq cnt i (L ++ [x]) = (notesR nb sq cnt i L).bind fun a => (noteStep nb sq cnt (i + L.length) x).map (a ++ ·)
  | [], i => by
    simp only [List.nil_append, notesR, List.length_nil, Nat.add_zero, Option.bind_some, List.nil_append]
    cases noteStep nb sq cnt i x <;> simp
  | l :: L, i => by
    simp only [List.cons_append, notesR]
    cases noteStep nb sq cnt i l with
    | none => rfl
    | some a =>
      simp only
      rw [notesR_snoc nb sq cnt x L (i + 1), List.length_cons, show i + 1 + L.length = i + (L.length + 1) by omega]
      cases notesR nb sq cnt (i + 1) L with
      | none => rfl
      | some b => cases noteStep nb sq cnt (i + (L.length + 1)) x <;> simp
theorem notesR_stop (nb : Nat) (sq cnt : Int) : ∀ (L : List (List UInt8)) (i k : Nat), notesR nb sq cnt i (L.take k) = none → notesR nb sq cnt i L = none
  | [], i, k, h => by simp [notesR] at h
  | l :: L, i, 0, h => by simp [notesR] at h
  | l :: L, i, k + 1, h => by
    simp only [List.take_succ_cons, notesR] at h ⊢
    cases hs : noteStep nb sq cnt i l with
    | none => rfl
    | some a =>
      rw [hs] at h
      simp only [Option.map_eq_none_iff] at h ⊢
      exact notesR_stop nb sq cnt L (i + 1) k h
theorem noteStep_mem {nb : Nat} {sq cnt : Int} {i : Nat} {l : List UInt8} {a : List (Nat × List UInt8)} (h : noteStep nb sq cnt i l = some a) : ∀ x ∈ a, x.1 < nb ∧ x.2 = l := by
  unfold noteStep at h
  split at h
  · cases h
  rename_i h1
  split at h
  · cases h; simp
  split at h
  · cases h
    intro x hx
    obtain rfl : x = _ := by simpa using hx
    refine ⟨?_, rfl⟩
    simp only [not_or, Bool.not_eq_false] at h1
    have := h1.2
    unfold hasB at this
    simp at this
    show (headOf blockK l).2.1.toNat < nb
    omega
  split at h
  · cases h; simp
  · cases h
theorem noteStep_len {nb : Nat} {sq cnt : Int} {i : Nat} {l : List UInt8} {a : List (Nat × List UInt8)} (h : noteStep nb sq cnt i l = some a) : a.length ≤ 1 := by
  unfold noteStep at h
  repeat' split at h
  all_goals first | cases h | skip
  all_goals simp
theorem notesR_mem (nb : Nat) (sq cnt : Int) : ∀ (L : List (List UInt8)) (i : Nat) (ns : List (Nat × List UInt8)), notesR nb sq cnt i L = some ns → ∀ x ∈ ns, x.1 < nb ∧ x.2 ∈ L
  | [], i, ns, h => by simp [notesR] at h; subst h; simp
  | l :: L, i, ns, h => by
    simp only [notesR] at h
    cases hs : noteStep nb sq cnt i l with
    | none => rw [hs] at h; cases h
    | some a =>
      rw [hs] at h
      simp only [Option.map_eq_some_iff] at h
      obtain ⟨b, hb, rfl⟩ := h
      intro x hx
      rcases List.mem_append.1 hx with hx | hx
      · have := noteStep_mem hs x hx
        exact ⟨this.1, by rw [this.2]; simp⟩
      · have := notesR_mem nb sq cnt L (i + 1) b hb x hx
        exact ⟨this.1, List.mem_cons_of_mem _ this.2⟩
theorem notesR_len (nb : Nat) (sq cnt : Int) : ∀ (L : List (List UInt8)) (i : Nat) (ns : List (Nat × List UInt8)), notesR nb sq cnt i L = some ns → ns.length ≤ L.length
  | [], i, ns, h => by simp [notesR] at h; subst h; simp
  | l :: L, i, ns, h => by
    simp only [notesR] at h
    cases hs : noteStep nb sq cnt i l with
    | none => rw [hs] at h; cases h
    | some a =>
      rw [hs] at h
      simp only [Option.map_eq_some_iff] at h
      obtain ⟨b, hb, rfl⟩ := h
      have h1 := noteStep_len hs
      have h2 := notesR_len nb sq cnt L (i + 1) b hb
      simp; omega
/-- What notesOf answers: the notes, or 62. -/
def NotesOf (w' : World) (B : Nat) (e : Ending) : Option (List (Nat × List UInt8)) → Prop
  | none => e = .returned (.tuple #[.slice none 0 0, .int .i64 62])
  | some ns => ∃ v, e = .returned (.tuple #[v, .int .i64 0]) ∧ Nto w' B v ns
set_option maxRecDepth 100000 in
set_option maxHeartbeats 8000000 in
theorem notesOf_any {w : World} {j p nb : Nat} {seq off : Int} {X : List Nat} {s : DS} (hj : Jn w j p nb seq off) (hD : Disk w p X s) (ht : Tab w) (hg : s.gone = false) (hnb : nb ≤ 1000000) (sq cnt : Int) (fs : List (List UInt8)) (hfl : fs.length = nb) (hfs : ∀ (k : Nat) l, fs[k]? = some l → s.now[2 + k]? = some l) :
    Calls Tryz.prog 70 #[.pointer (some ⟨j, 0, none⟩), .agg #[.int .i64 sq, .int .i64 cnt]] w fun e w' => NotesOf w' w.heap.size e (notesR nb sq cnt 0 fs) ∧ Below w.heap.size w w' := by
  have hbx := box78 w sq cnt
  obtain ⟨w0, hw0⟩ : ∃ w0, w0 = w.alloc (.cells #[.int .i64 sq, .int .i64 cnt] 131) := ⟨_, rfl⟩
  rw [← hw0] at hbx
  have hB0 : Below w.heap.size w w0 := by rw [hw0]; exact (Below.refl _ _).alloc (Nat.le_refl _) _
  have hh0 : Hd w0 w.heap.size sq cnt := by rw [hw0]; exact heap_alloc_last w _
  have hjl := heap_lt hj
  have hc1 : w0.cell? ⟨j, 1, none⟩ = some (.int .i64 nb) := Jn.c1 (show Jn w0 j p nb seq off from below_at hB0 hj hjl)
  have HLEN : Hid (∀ l ∈ fs, l.length = 128) := hid (fun l hl => by
    obtain ⟨k, hk⟩ := List.mem_iff_getElem?.1 hl
    exact hD.ok.nowLens _ (List.mem_of_getElem? (hfs k l hk)))
  have HBX := hid hbx
  have HB0 := hid hB0
  have HH0 := hid hh0
  have HJ := hid hj
  have HD := hid hD
  have HT := hid ht
  have HG := hid hg
  have HNB := hid hnb
  have HFL := hid hfl
  have HFS := hid hfs
  clear hj hD ht hg hnb hfl hfs hbx hw0 hB0 hh0
  obtain ⟨RR, hRR⟩ : ∃ RR, RR = notesR nb sq cnt 0 fs := ⟨_, rfl⟩
  rw [← hRR]
  have HRR := hid hRR
  clear hRR
  go_enter Tryz.func70, Tryz.ntmps70
  go_upto_region 0 with fail
  refine wp_region_lit ?_
  refine wp_run (v := .pointer (some ⟨w.heap.size, 0, none⟩)) rfl rfl (run_boxOp rfl (by kernel_rfl) HBX.out) rfl ?_
  refine wp_y (v := (.slice none 0 0)) rfl rfl (y_assign rfl) rfl ?_
  refine wp_y (v := (.int .i64 0)) rfl rfl (y_assign rfl) rfl ?_
  try simp only [List.setIfInBounds_toArray, List.set_cons_zero, List.set_cons_succ]
  refine wp_end ?_
  clear HBX
  generalize hrb : w.heap.size = rb at *
  go_wp2_with fail
  go_loopw [16, 6, 7, 8, 9, 10, 11] (fun y v _ _ _ _ _ wr => ∃ (k : Nat) (ns : List (Nat × List UInt8)), k ≤ nb ∧ y = .int .i64 k ∧ notesR nb sq cnt 0 (fs.take k) = some ns ∧ Nto wr (rb + 1) v ns ∧ Hd wr rb sq cnt ∧ Below rb w wr) (fun y _ _ _ _ _ _ _ => nb - (intOf y).toNat)
  case atStart => exact ⟨0, [], Nat.zero_le _, rfl, rfl, Nto.nil _ _, HH0.out, HB0.out⟩
  case round =>
    clear HH0 HB0 hc1
    obtain ⟨k, ns, hk, rfl, hns, hNr, hHr, hBr⟩ := hrel
    have hnb := HNB.out
    have hwk : IntKind.i64.wrap ((k : Int) + 1) = ((k + 1 : Nat) : Int) := by rw [IntWalk.i64_in _ ⟨by omega, by omega⟩]; omega
    by_cases hlt : k < nb
    · have hlt' : (k : Int) < (nb : Int) := by omega
      have hkk : k ≤ 1000000 := by omega
      obtain ⟨x, hx⟩ : ∃ x, fs[k]? = some x := ⟨_, List.getElem?_eq_getElem (by rw [HFL.out]; exact hlt)⟩
      have hJr : Jn wr j p nb seq off := below_at hBr HJ.out hjl
      have hDr : Disk wr p X s := HD.out.below (by rw [hrb]; exact hBr)
      have hTr : Tab wr := HT.out.below (by rw [hrb]; exact hBr)
      have hstep : notesR nb sq cnt 0 (fs.take (k + 1)) = (noteStep nb sq cnt k x).map (ns ++ ·) := by
        rw [List.take_add_one, hx]
        show notesR nb sq cnt 0 (fs.take k ++ [x]) = _
        rw [notesR_snoc, hns, List.length_take, Option.bind_some, Nat.zero_add, show min k fs.length = k by rw [HFL.out]; omega]
      have hnl : ns.length ≤ 1000000 := by have := notesR_len nb sq cnt _ 0 ns hns; rw [List.length_take] at this; omega
      have HNA := hid (noteAt_any k hkk wr)
      have HGT := hid (get_ok hJr hDr HG.out (2 + k) x (HFS.out k x hx))
      have HXL := hid (HLEN.out x (List.mem_of_getElem? hx))
      have HNL := hid hnl
      have HNR := hid hNr
      have HHR := hid hHr
      have HBR := hid hBr
      have HTR := hid hTr
      obtain ⟨hs, hm, hok, hho⟩ : ∃ a b c, headOf blockK x = (a, b, c) := ⟨_, _, _, rfl⟩
      have HSTEP : Hid (notesR nb sq cnt 0 (fs.take (k + 1)) = (if hok = false ∨ hasB hm nb = false then none else if cnt ≤ k then some [] else if hs = sq then some [(hm.toNat, x)] else if hs = wrap64 (sq + 1) then some [] else none : Option _).map (ns ++ ·)) := hid (by rw [hstep]; unfold noteStep; rw [hho])
      have HHO := hid hho
      have HBAD : Hid (notesR nb sq cnt 0 (fs.take (k + 1)) = none → RR = none) := hid (fun h => by rw [HRR.out]; exact notesR_stop nb sq cnt fs 0 (k + 1) h)
      clear hnb hNr hHr hBr hJr hDr hTr hstep hnl hx hns hho hkk
      go_upto_region 5 with fail
      refine wp_region_lit ?_
      refine wp_y (v := .pointer (some ⟨j, 0, none⟩)) rfl rfl (y_move rfl) rfl ?_
      refine wp_y (v := .int .i64 k) rfl rfl (y_move rfl) rfl ?_
      refine wp_call (f := 76) (args := #[.int .i64 k]) (by kernel_rfl) (fun w => by go_simp) ?_
      refine HNA.out.mono ?_
      rintro e wz ⟨rfl, hwz⟩
      obtain rfl := hwz.symm
      refine ⟨_, rfl, ?_⟩
      dsimp only [Act.put]
      refine wp_call (f := 100) (args := #[.pointer (some ⟨j, 0, none⟩), .int .i64 (2 + k : Nat)]) (by kernel_rfl) (fun w => by go_simp) ?_
      refine HGT.out.mono ?_
      rintro e w2 ⟨rfl, hB2⟩
      refine ⟨_, rfl, ?_⟩
      dsimp only [Act.put]
      refine wp_y (v := .tuple #[V8 x, .int .i64 0]) rfl rfl (y_move rfl) rfl ?_
      refine wp_y (v := V8 x) rfl rfl (y_ext rfl (hr := ext2_0 (V8 x) (.int .i64 0))) rfl ?_
      refine wp_y (v := .int .i64 0) rfl rfl (y_ext rfl (hr := ext2_1 (V8 x) (.int .i64 0))) rfl ?_
      refine wp_run (v := .pointer (some ⟨w2.heap.size, 0, none⟩)) rfl rfl (run_alOp rfl (alloc75 w2)) rfl ?_
      simp only [List.setIfInBounds_toArray, List.set_cons_zero, List.set_cons_succ]
      refine wp_do rfl rfl (run_storeOp rfl (by kernel_rfl) (by kernel_rfl) (store75 z128_len HXL.out (show Rw _ w2.heap.size 141 z128 from heap_alloc_last w2 _))) ?_
      refine wp_y (v := .int .i64 0) rfl rfl (y_assign rfl) rfl ?_
      try simp only [List.setIfInBounds_toArray, List.set_cons_zero, List.set_cons_succ]
      refine wp_end ?_
      have hr3 : Rw ((w2.alloc (.cells (cells8 z128).toArray 141)).setRow w2.heap.size (cells8 x).toArray) w2.heap.size 141 x := Rw.row (heap_alloc_last w2 _) x
      have hB3 : Below w2.heap.size w2 ((w2.alloc (.cells (cells8 z128).toArray 141)).setRow w2.heap.size (cells8 x).toArray) := below_row ((Below.refl _ _).alloc (Nat.le_refl _) _) (Nat.le_refl _) _
      have hBw3 := hB2.trans (hB3.mono hB2.size)
      generalize (w2.alloc (.cells (cells8 z128).toArray 141)).setRow w2.heap.size (cells8 x).toArray = w3 at *
      generalize w2.heap.size = lb at *
      have HF3 := hid hr3
      have HB3 := hid hBw3
      have HT3 := hid (HTR.out.below hBw3)
      clear hr3 hB3 hBw3 hB2 HGT HNA
      clear w2
      go_upto_region 8 with fail
      refine wp_region_lit ?_
      refine wp_y (v := V8 x) rfl rfl (y_load rfl (hl := fun w' h => by subst h; exact load75 HXL.out HF3.out)) rfl ?_
      refine wp_call (f := 101) (args := #[V8 x, .string ⟨blockK.toArray⟩]) (by kernel_rfl) (fun w => by go_simp) ?_
      refine (head_any blockK x _ HT3.out HXL.out (by decide)).mono ?_
      rintro e w4 ⟨rfl, hB4⟩
      rw [HHO.out]
      refine ⟨_, rfl, ?_⟩
      dsimp only [Act.put]
      refine wp_y (v := .tuple #[.agg #[.int .i64 hs, .int .i64 hm], .bool hok]) rfl rfl (y_move rfl) rfl ?_
      refine wp_y (v := .agg #[.int .i64 hs, .int .i64 hm]) rfl rfl (y_ext rfl (hr := ext2_0 (.agg #[.int .i64 hs, .int .i64 hm]) (.bool hok))) rfl ?_
      refine wp_y (v := .bool hok) rfl rfl (y_ext rfl (hr := ext2_1 (.agg #[.int .i64 hs, .int .i64 hm]) (.bool hok))) rfl ?_
      refine wp_run (v := .pointer (some ⟨w4.heap.size, 0, none⟩)) rfl rfl (run_alOp rfl (alloc78 w4)) rfl ?_
      refine wp_do rfl rfl (run_storeOp rfl (by kernel_rfl) (by kernel_rfl) (store78 (show Hd _ w4.heap.size 0 0 from heap_alloc_last w4 _) hs hm)) ?_
      refine wp_y (v := .bool hok) rfl rfl (y_assign rfl) rfl ?_
      try simp only [List.setIfInBounds_toArray, List.set_cons_zero, List.set_cons_succ]
      refine wp_end ?_
      have hh5 : Hd ((w4.alloc (.cells #[.int .i64 0, .int .i64 0] 131)).setRow w4.heap.size #[.int .i64 hs, .int .i64 hm]) w4.heap.size hs hm := Hd.row (show Hd (w4.alloc (.cells #[.int .i64 0, .int .i64 0] 131)) w4.heap.size 0 0 from heap_alloc_last w4 _) hs hm
      have hB5 : Below w4.heap.size w4 ((w4.alloc (.cells #[.int .i64 0, .int .i64 0] 131)).setRow w4.heap.size #[.int .i64 hs, .int .i64 hm]) := below_row ((Below.refl _ _).alloc (Nat.le_refl _) _) (Nat.le_refl _) _
      have hB35 := hB4.trans (hB5.mono hB4.size)
      generalize (w4.alloc (.cells #[.int .i64 0, .int .i64 0] 131)).setRow w4.heap.size #[.int .i64 hs, .int .i64 hm] = w5 at *
      have hc0 : w5.cell? ⟨w4.heap.size, 0, none⟩ = some (.int .i64 hs) := cell_at hh5 0 rfl
      have hc1 : w5.cell? ⟨w4.heap.size, 1, none⟩ = some (.int .i64 hm) := cell_at hh5 1 rfl
      generalize w4.heap.size = ab at *
      have HF5 := hid (HF3.out.below hB35 HF3.out.lt)
      have hBr5 := HB3.out.trans (hB35.mono HB3.out.size)
      have HN5 := hid (HNR.out.below hBr5)
      have hh5' : Hd w5 rb sq cnt := below_at hBr5 HHR.out (heap_lt HHR.out)
      have hd0 : w5.cell? ⟨rb, 0, none⟩ = some (.int .i64 sq) := cell_at hh5' 0 rfl
      have hd1 : w5.cell? ⟨rb, 1, none⟩ = some (.int .i64 cnt) := cell_at hh5' 1 rfl
      have HH5 := hid hh5'
      have hB05 := HBR.out.trans (hBr5.mono (by have := heap_lt HHR.out; omega))
      have HB5 := hid hB05
      have HHAS := hid (jhas_any (show Jn w5 j p nb seq off from below_at hB05 HJ.out hjl) hm)
      clear hh5 hB5 hB35 hB4 hBr5 hh5' hB05 HF3 HB3 HT3 HNR HHR HBR HTR HHO
      clear w3 w4
      cases hok with
      | false =>
        have hnone := HBAD.out HSTEP.out
        clear HBAD HSTEP HRR HJ HD HT HG HFL HFS HLEN HHAS
        subst hnone
        go_wp2
        go_ret2
        exact ⟨rfl, by first | exact HB5.out | rw [hrb]; exact HB5.out⟩
      | true =>
        cases hhas : hasB hm nb with
        | false =>
          have hnone := HBAD.out (by rw [HSTEP.out, if_pos (.inr hhas)]; rfl)
          rw [hhas] at HHAS
          clear HBAD HSTEP HRR HJ HD HT HG HFL HFS HLEN hhas
          subst hnone
          go_wp2_with fail
          refine HHAS.out.mono ?_
          rintro e wz ⟨rfl, hwz⟩
          obtain rfl := hwz.symm
          go_wp2
          go_ret2
          exact ⟨rfl, by first | exact HB5.out | rw [hrb]; exact HB5.out⟩
        | true =>
          rw [hhas] at HHAS
          obtain ⟨m, rfl⟩ : ∃ m : Nat, hm = (m : Int) := ⟨hm.toNat, by unfold hasB at hhas; simp at hhas; omega⟩
          have hst2 := HSTEP.out
          rw [if_neg (by simp [hhas])] at hst2
          clear hhas HSTEP
          by_cases hcn : cnt ≤ (k : Int)
          · rw [if_pos hcn] at hst2
            have HZ : Hid (∃ v', v' = u6 ∧ notesR nb sq cnt 0 (fs.take (k + 1)) = some ns ∧ Nto w5 (rb + 1) v' ns ∧ Hd w5 rb sq cnt ∧ Below rb w w5) := hid ⟨_, rfl, by rw [hst2]; simp, HN5.out, HH5.out, HB5.out⟩
            clear hst2 HBAD HN5 HH5 HB5
            go_wp2_with fail
            refine HHAS.out.mono ?_
            rintro e wz ⟨rfl, hwz⟩
            obtain rfl := hwz.symm
            go_wp2
            obtain ⟨v', rfl, hz⟩ := HZ.out
            exact ⟨⟨k + 1, ns, hlt, rfl, hz⟩, by simp [intOf]; omega⟩
          · rw [if_neg hcn] at hst2
            by_cases hsq : hs = sq
            · rw [if_pos hsq] at hst2
              subst hsq
              have HS2 := hid (show notesR nb hs cnt 0 (fs.take (k + 1)) = some (ns ++ [(m, x)]) by rw [hst2]; simp)
              have hrs := heap_lt HH5.out
              obtain ⟨v', w6, hap, hn6, hB6⟩ := HN5.out.more (m, x) HXL.out HNL.out (by omega) 134
              have hh6 : Hd w6 rb hs cnt := below_at hB6 HH5.out (by omega)
              have HAP := hid hap
              have HZ := hid (And.intro HS2.out (And.intro hn6 (And.intro hh6 (HB5.out.trans (hB6.mono (by omega))))))
              clear hst2 HBAD HN5 HH5 hap hn6 hB6 hh6 HS2 hrs HB5
              go_wp2_with fail
              refine HHAS.out.mono ?_
              rintro e wz ⟨rfl, hwz⟩
              obtain rfl := hwz.symm
              clear HHAS
              go_upto_region 13 with fail
              refine wp_region_lit ?_
              refine wp_y (v := u6) rfl rfl (y_move rfl) rfl ?_
              refine wp_y (v := .pointer (some ⟨ab, 1, none⟩)) rfl rfl (y_faddr rfl (hf := fa78_1 ab)) rfl ?_
              refine wp_y (v := .int .i64 m) rfl rfl (y_load rfl (hl := fun w' h => by subst h; exact load1 Tryz.isAgg3 hc1)) rfl ?_
              refine wp_y (v := V8 x) rfl rfl (y_load rfl (hl := fun w' h => by subst h; exact load75 HXL.out HF5.out)) rfl ?_
              refine wp_run (v := noteV (m, x)) rfl rfl (run_buildOp rfl (by kernel_rfl) (build96 _ m x HXL.out)) rfl ?_
              refine wp_run (v := .slice (some ⟨w5.heap.size, 0, none⟩) 1 1) rfl rfl (run_bsOp rfl (by kernel_rfl) (bslice86 _ (m, x) HXL.out)) rfl ?_
              refine wp_run (v := v') rfl rfl (run_appOp rfl (by kernel_rfl) (by kernel_rfl) HAP.out) rfl ?_
              refine wp_y (v := v') rfl rfl (y_assign rfl) rfl ?_
              try simp only [List.setIfInBounds_toArray, List.set_cons_zero, List.set_cons_succ]
              refine wp_end ?_
              go_wp2
              exact ⟨⟨k + 1, _, hlt, rfl, HZ.out⟩, by simp [intOf]; omega⟩
            · rw [if_neg hsq] at hst2
              by_cases hnx : hs = wrap64 (sq + 1)
              · rw [if_pos hnx] at hst2
                have HZ : Hid (∃ v', v' = u6 ∧ notesR nb sq cnt 0 (fs.take (k + 1)) = some ns ∧ Nto w5 (rb + 1) v' ns ∧ Hd w5 rb sq cnt ∧ Below rb w w5) := hid ⟨_, rfl, by rw [hst2]; simp, HN5.out, HH5.out, HB5.out⟩
                clear hst2 HBAD HN5 HH5 HB5
                go_wp2_with fail
                refine HHAS.out.mono ?_
                rintro e wz ⟨rfl, hwz⟩
                obtain rfl := hwz.symm
                go_wp2
                obtain ⟨v', rfl, hz⟩ := HZ.out
                exact ⟨⟨k + 1, ns, hlt, rfl, hz⟩, by simp [intOf]; omega⟩
              · rw [if_neg hnx] at hst2
                have hnone := HBAD.out (by rw [hst2]; rfl)
                clear HBAD HRR HJ HD HT HG HFL HFS HLEN hst2
                subst hnone
                go_wp2_with fail
                refine HHAS.out.mono ?_
                rintro e wz ⟨rfl, hwz⟩
                obtain rfl := hwz.symm
                go_wp2
                go_ret2
                exact ⟨rfl, by first | exact HB5.out | rw [hrb]; exact HB5.out⟩
    · have hlt' : ¬ (k : Int) < (nb : Int) := by omega
      have hkn : k = nb := by omega
      rw [hkn, List.take_of_length_le (by rw [HFL.out]; exact Nat.le_refl _), ← HRR.out] at hns
      have HZ : Hid (NotesOf wr rb (.returned (.tuple #[u6, .int .i64 0])) RR ∧ Below rb w wr) := hid ⟨by rw [hns]; exact ⟨_, rfl, hNr.mono (Nat.le_succ _)⟩, hBr⟩
      clear hns hNr hHr hBr HRR hnb HJ HD HT HG HFL HFS HLEN HNB
      go_wp2
      go_ret2
      exact HZ.out
end Go.Proofs.YtcmgclkbhhdnaaaGreatDoor
namespace Go.Proofs.YtcmgclkbhhdnaaaGreatDoor
open Go Go.RowKit

theorem made_at (z : Array Value) (m n k i : Nat) (hm : z.size = m) (hk : k < n) (hi : i < m) : (madeCells z (n * m))[k * m + i]? = z[i]? := by
  have h1 : k * m + i < n * m := by
    have : (k + 1) * m ≤ n * m := Nat.mul_le_mul_right m hk
    rw [Nat.succ_mul] at this; omega
  have h2 : (k * m + i) % z.size = i := by rw [hm, Nat.add_comm, Nat.add_mul_mod_self_right, Nat.mod_eq_of_lt hi]
  unfold madeCells
  rw [Array.getElem?_map, Array.getElem?_eq_getElem (by simpa using h1)]
  simp only [Option.map_some, Array.getElem_range]
  rw [h2, Array.getElem?_eq_getElem (by omega), getElem!_pos _ _ (by omega)]
theorem info75 : (Tryz.prog.info? 141).map (fun i => (i.zero, i.size, i.bytes)) = some (some (V8 z128), 128, 128) := by kernel_rfl
theorem make121 (w : World) (n : Nat) (hn : n ≤ 1000000) : ∃ cur, (Instr.makeSlice 170 (.int .i64 n) (.int .i64 n)).run Tryz.prog w = .ok (.slice (some ⟨w.heap.size, 0, none⟩) n n) (w.alloc (.cells cur 141)) ∧ Frs (w.alloc (.cells cur 141)) w.heap.size 141 (List.replicate n z128) := by
  cases hie : Tryz.prog.info? 141 with
  | none => have := size75; rw [hie] at this; cases this
  | some i0 =>
    have hi := info75
    rw [hie] at hi
    simp only [Option.map_some, Option.some.injEq, Prod.mk.injEq] at hi
    obtain ⟨hz0, hz1, hz2⟩ := hi
    have hr := run_make (P := Tryz.prog) w 170 141 i0 (V8 z128) Tryz.underlying170 hie hz0 .i64 .i64 n n (by omega) (Int.le_refl _) (by rw [hz2]; omega) (by omega)
    rw [Int.toNat_natCast, hz1] at hr
    refine ⟨_, hr, fun f hf => ?_, _, heap_alloc_last w _, ?_, fun i f hf j v hj => ?_⟩
    · rw [List.eq_of_mem_replicate hf]; exact z128_len
    · rw [List.length_replicate, size_madeCells]; exact Nat.le_refl _
    · obtain ⟨h1, h2⟩ := List.getElem?_eq_some_iff.1 hf
      rw [List.length_replicate] at h1
      rw [List.getElem_replicate] at h2
      subst h2
      have hj' : j < 128 := by have := (List.getElem?_eq_some_iff.1 hj).1; rw [cells8_len, z128_len] at this; exact this
      rw [made_at (V8 z128).cells 128 n i j (by show (cells8 z128).toArray.size = 128; rw [cells8_size]; exact z128_len) h1 hj']
      show (cells8 z128).toArray[j]? = some v
      rw [List.getElem?_toArray]; exact hj
theorem blocks_set (bs : List (List UInt8)) (n k : Nat) (x : List UInt8) (hn : bs.length = n) (hx : bs[k]? = some x) : (bs.take k ++ List.replicate (n - k) z128).set k x = bs.take (k + 1) ++ List.replicate (n - (k + 1)) z128 := by
  have hk : k < n := by rw [← hn]; exact (List.getElem?_eq_some_iff.1 hx).1
  rw [List.set_append_right _ _ (by rw [List.length_take]; omega), List.length_take, show k - min k bs.length = 0 by omega, show n - k = (n - (k + 1)) + 1 by omega, List.replicate_succ, List.set_cons_zero, List.take_add_one, hx]
  simp
theorem load96 {w : World} {g o : Nat} {cur : Array Value} {x : Nat × List UInt8} (hx : x.2.length = 128) (h : w.heap[g]? = some (.cells cur 160 (0, 0))) (h0 : cur[o]? = some (.int .i64 x.1)) (h1 : ∀ (i : Nat) u, (cells8 x.2)[i]? = some u → cur[o + 1 + i]? = some u) : (Instr.loadAt 160 (.pointer (some ⟨g, o, none⟩))).run Tryz.prog w = .ok (noteV x) w :=
  loadAt_k agg96 size96 w g o cur 160 (0, 0) (noteC x) (noteC_len hx) h (fun j v hv => by
    match j, hv with
    | 0, hv => cases hv; exact h0
    | j + 1, hv => rw [show o + (j + 1) = o + 1 + j by omega]; exact h1 j v hv)
/-- Which notes are missing. -/
def missF (bs : List (List UInt8)) (x : Nat × List UInt8) : Bool := !decide (bs.getD x.1 [] = x.2)
/-- What missing answers. -/
def Missing (w' : World) (B : Nat) (e : Ending) (bs : List (List UInt8)) (ns : List (Nat × List UInt8)) : Prop :=
  (∃ (k : Nat) (l : List UInt8), bs[k]? = some l ∧ (blkR l k).2 ≠ 0) ∧ e = .returned (.tuple #[.slice none 0 0, .int .i64 62]) ∨
  (∀ (k : Nat) (l : List UInt8), bs[k]? = some l → (blkR l k).2 = 0) ∧ ∃ v, e = .returned (.tuple #[v, .int .i64 0]) ∧ Nto w' B v (ns.filter (missF bs))
theorem blkR_cases (l : List UInt8) (k : Nat) : (blkR l k) = (l, 0) ∨ (blkR l k).2 = 62 := by unfold blkR; split <;> simp
set_option maxRecDepth 100000 in
set_option maxHeartbeats 8000000 in
theorem missing_any {w : World} {j p nb g : Nat} {seq off : Int} {X : List Nat} {s : DS} {v : Value} {ns : List (Nat × List UInt8)} (hj : Jn w j p nb seq off) (hD : Disk w p X s) (ht : Tab w) (hn : Nts w g v ns) (hg : s.gone = false) (hnb : nb ≤ 1000000) (hns : ns.length ≤ 1000000) (hi : ∀ x ∈ ns, x.1 < nb) (bs : List (List UInt8)) (hbl : bs.length = nb) (hbs : ∀ (k : Nat) l, bs[k]? = some l → s.now[2 + nb + k]? = some l) :
    Calls Tryz.prog 71 #[.pointer (some ⟨j, 0, none⟩), v] w fun e w' => Missing w' w.heap.size e bs ns ∧ Below w.heap.size w w' := by
  obtain ⟨va, vc, rfl⟩ := hn.shape
  have hjl := heap_lt hj
  have hc1 := hj.c1
  obtain ⟨cur0, hmk, hf0⟩ := make121 w nb hnb
  obtain ⟨w0, hw0⟩ : ∃ w0, w0 = w.alloc (.cells cur0 141) := ⟨_, rfl⟩
  rw [← hw0] at hmk hf0
  have hB0 : Below w.heap.size w w0 := by rw [hw0]; exact (Below.refl _ _).alloc (Nat.le_refl _) _
  have hd1 : w0.cell? ⟨j, 1, none⟩ = some (.int .i64 nb) := Jn.c1 (show Jn w0 j p nb seq off from below_at hB0 hj hjl)
  have HLEN : Hid (∀ l ∈ bs, l.length = 128) := hid (fun l hl => by
    obtain ⟨k, hk⟩ := List.mem_iff_getElem?.1 hl
    exact hD.ok.nowLens _ (List.mem_of_getElem? (hbs k l hk)))
  have HMK := hid hmk
  have HF0 := hid hf0
  have HB0 := hid hB0
  have HJ := hid hj
  have HD := hid hD
  have HT := hid ht
  have HN := hid hn
  have HG := hid hg
  have HNB := hid hnb
  have HNS := hid hns
  have HIX := hid hi
  have HBL := hid hbl
  have HBS := hid hbs
  clear hj hD ht hn hg hnb hns hi hbl hbs hmk hf0 hB0 hw0
  go_enter Tryz.func71, Tryz.ntmps71
  go_upto_region 1 with fail
  refine wp_region_lit ?_
  refine wp_y (v := .pointer (some ⟨j, 0, none⟩)) rfl rfl (y_move rfl) rfl ?_
  refine wp_y (v := .pointer (some ⟨j, 0, none⟩)) rfl rfl (y_nil rfl) rfl ?_
  refine wp_y (v := .pointer (some ⟨j, 1, none⟩)) rfl rfl (y_faddr rfl (hf := fa82_1 (j))) rfl ?_
  refine wp_y (v := .int .i64 nb) rfl rfl (y_load rfl (hl := fun w' h => by subst h; exact load1 Tryz.isAgg3 hc1)) rfl ?_
  refine wp_run (v := .slice (some ⟨w.heap.size, 0, none⟩) nb nb) rfl rfl (run_mkOp rfl (by kernel_rfl) (by kernel_rfl) HMK.out) rfl ?_
  refine wp_y (v := .slice (some ⟨w.heap.size, 0, none⟩) nb nb) rfl rfl (y_assign rfl) rfl ?_
  try simp only [List.setIfInBounds_toArray, List.set_cons_zero, List.set_cons_succ]
  refine wp_end ?_
  clear HMK
  generalize hrb : w.heap.size = rb at *
  go_wp2_with fail
  go_loopw [21, 7, 8, 9] (fun y _ _ _ wr => ∃ k : Nat, k ≤ nb ∧ y = .int .i64 k ∧ (∀ (i : Nat) (l : List UInt8), i < k → bs[i]? = some l → (blkR l i).2 = 0) ∧ Frs wr rb 141 (bs.take k ++ List.replicate (nb - k) z128) ∧ Below rb w wr) (fun y _ _ _ _ => nb - (intOf y).toNat)
  case atStart => exact ⟨0, Nat.zero_le _, rfl, fun i l h => by omega, HF0.out, HB0.out⟩
  case round =>
    clear HF0 HB0 hc1 hd1
    obtain ⟨k, hk, rfl, hall, hFr, hBr⟩ := hrel
    have hnb := HNB.out
    have hwk : IntKind.i64.wrap ((k : Int) + 1) = ((k + 1 : Nat) : Int) := by rw [IntWalk.i64_in _ ⟨by omega, by omega⟩]; omega
    by_cases hlt : k < nb
    · have hlt' : (k : Int) < (nb : Int) := by omega
      obtain ⟨x, hx⟩ : ∃ x, bs[k]? = some x := ⟨_, List.getElem?_eq_getElem (by rw [HBL.out]; exact hlt)⟩
      have hJr : Jn wr j p nb seq off := below_at hBr HJ.out hjl
      have hDr : Disk wr p X s := HD.out.below (by rw [hrb]; exact hBr)
      have hTr : Tab wr := HT.out.below (by rw [hrb]; exact hBr)
      have HBK := hid (block_any hJr hDr hTr HG.out hnb k (by omega) x (HBS.out k x hx))
      have HXL := hid (show (blkR x k).1.length = 128 by
        rcases blkR_cases x k with h | h
        · rw [h]; exact HLEN.out x (List.mem_of_getElem? hx)
        · unfold blkR; split
          · exact HLEN.out x (List.mem_of_getElem? hx)
          · exact z128_len)
      have HX := hid hx
      have HALL := hid hall
      have HFR := hid hFr
      have HBR := hid hBr
      clear hx hJr hDr hTr hall hFr hBr hnb
      go_upto_region 5 with fail
      refine wp_region_lit ?_
      refine wp_y (v := .pointer (some ⟨j, 0, none⟩)) rfl rfl (y_move rfl) rfl ?_
      refine wp_y (v := .int .i64 k) rfl rfl (y_move rfl) rfl ?_
      refine wp_call (f := 104) (args := #[.pointer (some ⟨j, 0, none⟩), .int .i64 k]) (by kernel_rfl) (fun w => by go_simp) ?_
      refine HBK.out.mono ?_
      rintro e w2 ⟨rfl, hB2⟩
      refine ⟨_, rfl, ?_⟩
      dsimp only [Act.put]
      refine wp_y (v := .tuple #[V8 (blkR x k).1, .int .i64 (blkR x k).2]) rfl rfl (y_move rfl) rfl ?_
      refine wp_y (v := V8 (blkR x k).1) rfl rfl (y_ext rfl (hr := ext2_0 (V8 (blkR x k).1) (.int .i64 (blkR x k).2))) rfl ?_
      refine wp_y (v := .int .i64 (blkR x k).2) rfl rfl (y_ext rfl (hr := ext2_1 (V8 (blkR x k).1) (.int .i64 (blkR x k).2))) rfl ?_
      refine wp_run (v := .pointer (some ⟨w2.heap.size, 0, none⟩)) rfl rfl (run_alOp rfl (alloc75 w2)) rfl ?_
      refine wp_do rfl rfl (run_storeOp rfl (by kernel_rfl) (by kernel_rfl) (store75 z128_len HXL.out (show Rw _ w2.heap.size 141 z128 from heap_alloc_last w2 _))) ?_
      simp only [List.setIfInBounds_toArray, List.set_cons_zero, List.set_cons_succ]
      refine wp_y (v := .int .i64 (blkR x k).2) rfl rfl (y_assign rfl) rfl ?_
      try simp only [List.setIfInBounds_toArray, List.set_cons_zero, List.set_cons_succ]
      refine wp_end ?_
      have hr3 : Rw ((w2.alloc (.cells (cells8 z128).toArray 141)).setRow w2.heap.size (cells8 (blkR x k).1).toArray) w2.heap.size 141 (blkR x k).1 := Rw.row (heap_alloc_last w2 _) _
      have hB3 : Below w2.heap.size w2 ((w2.alloc (.cells (cells8 z128).toArray 141)).setRow w2.heap.size (cells8 (blkR x k).1).toArray) := below_row ((Below.refl _ _).alloc (Nat.le_refl _) _) (Nat.le_refl _) _
      have hBw3 := hB2.trans (hB3.mono hB2.size)
      generalize (w2.alloc (.cells (cells8 z128).toArray 141)).setRow w2.heap.size (cells8 (blkR x k).1).toArray = w3 at *
      generalize w2.heap.size = lb at *
      have hf3 := HFR.out.below hBw3 HFR.out.lt
      have hB03 := HBR.out.trans (hBw3.mono (by have := HFR.out.lt; omega))
      clear hB3 hBw3 hB2 HBK
      clear w2
      rcases blkR_cases x k with hbk | hbk
      · rw [hbk] at hr3 HXL ⊢
        have hr3 : Rw w3 lb 141 x := hr3
        have hxl : x.length = 128 := HXL.out
        obtain ⟨c, hst, hm4⟩ := hf3.store (k := k) (by rw [List.length_append, List.length_take, List.length_replicate, HBL.out]; omega) x hxl
        rw [blocks_set bs nb k x HBL.out HX.out] at hm4
        have hB4 : Below rb w (w3.setRow rb c) := below_row hB03 (Nat.le_refl _) c
        have hall2 : ∀ (i : Nat) (l : List UInt8), i < k + 1 → bs[i]? = some l → (blkR l i).2 = 0 := fun i l h hl => by
          by_cases e : i = k
          · subst e; rw [HX.out] at hl; cases hl; rw [hbk]
          · exact HALL.out i l (by omega) hl
        have HLD := hid (load75 hxl hr3)
        have HSR := hid hst
        have HZ := hid (And.intro hall2 (And.intro hm4 hB4))
        clear hr3 hf3 hB03 hst hm4 hB4 hall2 hbk hxl HFR HBR HALL HX HXL
        go_upto_region 8 with fail
        refine wp_region_lit ?_
        refine wp_y (v := .slice (some ⟨rb, 0, none⟩) nb nb) rfl rfl (y_move rfl) rfl ?_
        refine wp_y (v := .int .i64 k) rfl rfl (y_move rfl) rfl ?_
        refine wp_y (v := V8 x) rfl rfl (y_load rfl (hl := fun w' h => by subst h; exact HLD.out)) rfl ?_
        refine wp_y (v := .pointer (some ⟨rb, k * 128, none⟩)) rfl rfl (y_index rfl (hr := idx121 rb nb nb k hlt)) rfl ?_
        refine wp_do rfl rfl (run_storeOp rfl (by kernel_rfl) (by kernel_rfl) HSR.out) ?_
        try simp only [List.setIfInBounds_toArray, List.set_cons_zero, List.set_cons_succ]
        refine wp_end ?_
        clear HSR HLD
        generalize w3.setRow rb c = w4 at *
        go_wp2
        exact ⟨⟨k + 1, by omega, rfl, HZ.out⟩, by simp [intOf]; omega⟩
      · rw [hbk]
        have HZ : Hid (Missing w3 rb (.returned (.tuple #[.slice none 0 0, .int .i64 62])) bs ns ∧ Below rb w w3) := hid ⟨.inl ⟨⟨k, x, HX.out, by rw [hbk]; decide⟩, rfl⟩, hB03⟩
        clear hr3 hf3 hB03 hbk HFR HBR HALL HX HXL
        go_wp2
        go_ret2
        first | exact HZ.out | (rw [hrb]; exact HZ.out)
    · have hkn : k = nb := by omega
      have hlt' : ¬ (k : Int) < (nb : Int) := by omega
      rw [hkn, List.take_of_length_le (by rw [HBL.out]; exact Nat.le_refl _), Nat.sub_self, List.replicate_zero, List.append_nil] at hFr
      have HALL : Hid (∀ (i : Nat) (l : List UInt8), bs[i]? = some l → (blkR l i).2 = 0) := hid (fun i l hl => hall i l (by have := (List.getElem?_eq_some_iff.1 hl).1; rw [HBL.out] at this; omega) hl)
      have HFR := hid hFr
      have HBR := hid hBr
      clear hall hFr hBr hkn hnb hwk
      go_wp2_with fail
      go_loopw [40, 10, 11] (fun y v _ wq => ∃ k : Nat, k ≤ ns.length ∧ y = .int .i64 k ∧ Nto wq (rb + 1) v ((ns.take k).filter (missF bs)) ∧ Frs wq rb 141 bs ∧ Below rb w wq) (fun y _ _ _ => ns.length - (intOf y).toNat)
      case atStart => exact ⟨0, Nat.zero_le _, rfl, Nto.nil _ _, HFR.out, HBR.out⟩
      case round =>
        obtain ⟨q, hq, rfl, hNq, hFq, hBq⟩ := hrel
        have hns := HNS.out
        have hwk : IntKind.i64.wrap ((q : Int) + 1) = ((q + 1 : Nat) : Int) := by rw [IntWalk.i64_in _ ⟨by omega, by omega⟩]; omega
        clear HFR HBR
        by_cases hlq : q < ns.length
        · have hlq' : (q : Int) < (ns.length : Int) := by omega
          obtain ⟨⟨i1, l1⟩, hx⟩ : ∃ x, ns[q]? = some x := ⟨_, List.getElem?_eq_getElem hlq⟩
          have hNw := HN.out.below (show Below w.heap.size w wr by rw [hrb]; exact hBq)
          obtain ⟨cap, cur, e, hg, hc0, hcc, hfl⟩ := hNw.get hx
          cases e
          have hi1 : i1 < nb := HIX.out _ (List.mem_of_getElem? hx)
          obtain ⟨b1, hb1⟩ : ∃ b1, bs[i1]? = some b1 := ⟨_, List.getElem?_eq_getElem (by rw [HBL.out]; exact hi1)⟩
          have hb1l := HLEN.out b1 (List.mem_of_getElem? hb1)
          have hstep : (ns.take (q + 1)).filter (missF bs) = (ns.take q).filter (missF bs) ++ (if missF bs (i1, l1) = true then [(i1, l1)] else []) := by
            rw [List.take_add_one, hx, List.filter_append]
            simp only [Option.toList_some, List.filter_cons, List.filter_nil]
          have hmf : missF bs (i1, l1) = !decide (b1 = l1) := by unfold missF; simp [List.getD, hb1]
          obtain ⟨bb, hbb⟩ : ∃ bb, bb = !decide (b1 = l1) := ⟨_, rfl⟩
          rw [hmf, ← hbb] at hstep
          have hfl2 : ((ns.take q).filter (missF bs)).length ≤ 1000000 := by
            have h1 := List.length_filter_le (missF bs) (ns.take q)
            rw [List.length_take] at h1; omega
          have HBB := hid hbb.symm
          have HST := hid hstep
          have HG2 := hid hg
          have HC0 := hid hc0
          have HCC := hid hcc
          have HFL := hid (show l1.length = 128 from hfl)
          have HB1 := hid hb1
          have HB1L := hid hb1l
          have HNQ := hid hNq
          have HFQ := hid hFq
          have HBQ := hid hBq
          have HF2 := hid hfl2
          clear hx hg hc0 hcc hfl hb1 hb1l hNq hFq hBq hNw hstep hmf hbb hns hfl2
          go_upto_region 14 with fail
          refine h_openL (S := fun w' => w'.heap[g]? = some (.cells cur 160 (0, 0)) ∧ Frs w' rb 141 bs) (by kernel_rfl) (by kernel_rfl) (fun _ _ _ _ _ h => h) (L := #[false, false, false, false, false, false, false, false, false, false, false, false, false, false]) (by kernel_rfl) ?_
          intro Q' hns hP hN
          have hS := (show wr.drew.heap[g]? = some (.cells cur 160 (0, 0)) ∧ Frs wr.drew rb 141 bs from ⟨HG2.out, HFQ.out⟩)
          refine h_takeL (i := 0) (v := .slice (some ⟨rb, 0, none⟩) nb nb) hns rfl rfl (by kernel_rfl) (by kernel_rfl) hP (y_move rfl) hS rfl (L' := #[true, false, false, false, false, false, false, false, false, false, false, false, false, false]) (by kernel_rfl) ?_
          refine h_takeL (i := 1) (v := .slice (some ⟨g, 0, none⟩) ns.length vc) hns rfl rfl (by kernel_rfl) (by kernel_rfl) hP (y_move rfl) hS rfl (L' := #[true, true, false, false, false, false, false, false, false, false, false, false, false, false]) (by kernel_rfl) ?_
          refine h_takeL (i := 2) (v := .int .i64 q) hns rfl rfl (by kernel_rfl) (by kernel_rfl) hP (y_move rfl) hS rfl (L' := #[true, true, true, false, false, false, false, false, false, false, false, false, false, false]) (by kernel_rfl) ?_
          refine h_takeL (i := 3) (v := .pointer (some ⟨g, q * 129, none⟩)) hns rfl rfl (by kernel_rfl) (by kernel_rfl) hP (y_index rfl (hr := idx86 g ns.length vc q hlq)) hS rfl (L' := #[true, true, true, true, false, false, false, false, false, false, false, false, false, false]) (by kernel_rfl) ?_
          refine h_takeL (i := 4) (v := .pointer (some ⟨g, q * 129, none⟩)) hns rfl rfl (by kernel_rfl) (by kernel_rfl) hP (y_faddr rfl (hf := fa96_0 g (q * 129))) hS rfl (L' := #[true, true, true, true, true, false, false, false, false, false, false, false, false, false]) (by kernel_rfl) ?_
          refine h_takeL (i := 5) (v := .int .i64 i1) hns rfl rfl (by kernel_rfl) (by kernel_rfl) hP (y_load rfl (hl := fun w' h => load1 Tryz.isAgg3 (cell_at h.1 (q * 129) HC0.out))) hS rfl (L' := #[true, true, true, true, true, true, false, false, false, false, false, false, false, false]) (by kernel_rfl) ?_
          refine h_takeL (i := 6) (v := .pointer (some ⟨rb, i1 * 128, none⟩)) hns rfl rfl (by kernel_rfl) (by kernel_rfl) hP (y_index rfl (hr := idx121 rb nb nb i1 hi1)) hS rfl (L' := #[true, true, true, true, true, true, true, false, false, false, false, false, false, false]) (by kernel_rfl) ?_
          simp only [List.setIfInBounds_toArray, List.set_cons_zero, List.set_cons_succ]
          refine h_takeL (i := 7) (v := V8 b1) hns rfl rfl (by kernel_rfl) (by kernel_rfl) hP (y_load rfl (hl := fun w' h => h.2.load HB1.out)) hS rfl (L' := #[true, true, true, true, true, true, true, true, false, false, false, false, false, false]) (by kernel_rfl) ?_
          refine h_takeL (i := 8) (v := .slice (some ⟨g, 0, none⟩) ns.length vc) hns rfl rfl (by kernel_rfl) (by kernel_rfl) hP (y_move rfl) hS rfl (L' := #[true, true, true, true, true, true, true, true, true, false, false, false, false, false]) (by kernel_rfl) ?_
          refine h_takeL (i := 9) (v := .int .i64 q) hns rfl rfl (by kernel_rfl) (by kernel_rfl) hP (y_move rfl) hS rfl (L' := #[true, true, true, true, true, true, true, true, true, true, false, false, false, false]) (by kernel_rfl) ?_
          refine h_takeL (i := 10) (v := .pointer (some ⟨g, q * 129, none⟩)) hns rfl rfl (by kernel_rfl) (by kernel_rfl) hP (y_index rfl (hr := idx86 g ns.length vc q hlq)) hS rfl (L' := #[true, true, true, true, true, true, true, true, true, true, true, false, false, false]) (by kernel_rfl) ?_
          refine h_takeL (i := 11) (v := .pointer (some ⟨g, q * 129 + 1, none⟩)) hns rfl rfl (by kernel_rfl) (by kernel_rfl) hP (y_faddr rfl (hf := fa96_1 g (q * 129))) hS rfl (L' := #[true, true, true, true, true, true, true, true, true, true, true, true, false, false]) (by kernel_rfl) ?_
          refine h_takeL (i := 12) (v := V8 l1) hns rfl rfl (by kernel_rfl) (by kernel_rfl) hP (y_load rfl (hl := fun w' h => load75at HFL.out h.1 HCC.out)) hS rfl (L' := #[true, true, true, true, true, true, true, true, true, true, true, true, true, false]) (by kernel_rfl) ?_
          refine h_takeL (i := 13) (v := .bool bb) hns rfl rfl (by kernel_rfl) (by kernel_rfl) hP (y_neq75 HB1L.out HFL.out rfl (by kernel_rfl) (by kernel_rfl) (by kernel_rfl) HBB.out) hS rfl (L' := #[true, true, true, true, true, true, true, true, true, true, true, true, true, true]) (by kernel_rfl) ?_
          simp only [List.setIfInBounds_toArray, List.set_cons_zero, List.set_cons_succ]
          refine wpAnyH_done (by kernel_rfl) ?_ _
          refine hN _ _ ?_
          clear hP hN hns
          clear hS
          have HNQ := hid (show Nto wr.drew (rb + 1) u10 _ from HNQ.out)
          have HFQ := hid (show Frs wr.drew rb 141 bs from HFQ.out)
          have HBQ := hid (show Below rb w wr.drew from HBQ.out.drew)
          have HG2 := hid (show wr.drew.heap[g]? = some (.cells cur 160 (0, 0)) from HG2.out)
          generalize wr.drew = w5 at *
          cases bb with
          | false =>
            have HZ : Hid (∃ v', v' = u10 ∧ Nto w5 (rb + 1) v' ((ns.take (q + 1)).filter (missF bs)) ∧ Frs w5 rb 141 bs ∧ Below rb w w5) := hid ⟨_, rfl, by rw [HST.out]; simpa using HNQ.out, HFQ.out, HBQ.out⟩
            clear HBB HST HG2 HC0 HCC HFL HB1 HB1L HNQ HFQ HBQ HF2
            go_wp2
            obtain ⟨v', rfl, hz⟩ := HZ.out
            exact ⟨⟨q + 1, hlq, rfl, hz⟩, by simp [intOf]; omega⟩
          | true =>
            have hrs := HFQ.out.lt
            obtain ⟨v', w6, hap, hn6, hB6⟩ := HNQ.out.more (i1, l1) HFL.out HF2.out (by omega) 134
            have hf6 := HFQ.out.below hB6 (Nat.lt_succ_self _)
            have HAP := hid hap
            have HZ := hid (And.intro (show Nto w6 (rb + 1) v' ((ns.take (q + 1)).filter (missF bs)) by rw [HST.out]; simpa using hn6) (And.intro hf6 (HBQ.out.trans (hB6.mono (Nat.le_succ _)))))
            clear hap hn6 hB6 hf6 hrs HBB HST HB1 HB1L HNQ HFQ HBQ HF2
            go_upto_region 15 with fail
            refine wp_region_lit ?_
            refine wp_y (v := u10) rfl rfl (y_move rfl) rfl ?_
            refine wp_y (v := .slice (some ⟨g, 0, none⟩) ns.length vc) rfl rfl (y_move rfl) rfl ?_
            refine wp_y (v := .int .i64 q) rfl rfl (y_move rfl) rfl ?_
            refine wp_y (v := .pointer (some ⟨g, q * 129, none⟩)) rfl rfl (y_index rfl (hr := idx86 g ns.length vc q hlq)) rfl ?_
            refine wp_y (v := noteV (i1, l1)) rfl rfl (y_load rfl (hl := fun w' h => by subst h; exact load96 (x := (i1, l1)) HFL.out HG2.out HC0.out HCC.out)) rfl ?_
            refine wp_run (v := .slice (some ⟨w5.heap.size, 0, none⟩) 1 1) rfl rfl (run_bsOp rfl (by kernel_rfl) (bslice86 _ (i1, l1) HFL.out)) rfl ?_
            refine wp_run (v := v') rfl rfl (run_appOp rfl (by kernel_rfl) (by kernel_rfl) HAP.out) rfl ?_
            refine wp_y (v := v') rfl rfl (y_assign rfl) rfl ?_
            try simp only [List.setIfInBounds_toArray, List.set_cons_zero, List.set_cons_succ]
            refine wp_end ?_
            go_wp2
            exact ⟨⟨q + 1, hlq, rfl, HZ.out⟩, by simp [intOf]; omega⟩
        · have hlq' : ¬ (q : Int) < (ns.length : Int) := by omega
          have hqn : q = ns.length := by omega
          rw [hqn, List.take_of_length_le (Nat.le_refl _)] at hNq
          have HZ : Hid (Missing wr rb (.returned (.tuple #[u10, .int .i64 0])) bs ns ∧ Below rb w wr) := hid ⟨.inr ⟨HALL.out, _, rfl, hNq.mono (Nat.le_succ _)⟩, hBq⟩
          clear hNq hFq hBq hns HJ HD HT HG HBL HBS HLEN HNB HALL HN HNS HIX
          go_wp2
          go_ret2
          first | exact HZ.out | (rw [hrb]; exact HZ.out)
end Go.Proofs.YtcmgclkbhhdnaaaGreatDoor
