/- The law's again: a journal that is opened behind a crash, and perhaps behind crashes in that. -/
import Derived.Test.YtdogjicccajnkaaDoorJCloneC
import Derived.Test.YtdogjicccajnkaaDoorJLifeC
namespace Go.Proofs.YtdogjicccajnkaaDoor
open Go Go.RowKit

structure FallV where
  cut : Int
  ta : Option Addr
  tn : Nat
  tc : Nat
  zs : List Int
def FallF (W : World) (f : FallV) : Prop := (-9223372036854775808 ≤ f.cut ∧ f.cut ≤ 9223372036854775807) ∧ Iz W (.slice f.ta f.tn f.tc) f.zs ∧ f.zs.length = f.tn ∧ f.tn * 8 ≤ 140737488351232
def Falls (W : World) (a : Option Addr) (len : Nat) (fs : List FallV) : Prop := fs.length = len ∧ ∀ (k : Nat) (f : FallV), fs[k]? = some f → ∃ b o, a = some ⟨b, o, none⟩ ∧ W.cell? ⟨b, o + k * 2, none⟩ = some (.int .i64 f.cut) ∧ W.cell? ⟨b, o + (k * 2 + 1), none⟩ = some (.slice f.ta f.tn f.tc)
/-- A disk that a crash left, on which a journal lies. -/
structure Aft (s : DS) (n sq cnt : Nat) (bl : List (List UInt8)) : Prop where
  sn : s.n = n
  gone : s.gone = false
  loose : s.loose = []
  same : s.kept = s.now
  cut : s.cut = -1
  ops : s.ops = 0
  con : Con s.now (nbOf n) sq cnt bl
theorem Aft.of_cr {s : DS} {n sq cnt : Nat} {bl : List (List UInt8)} {zs : List Int} (hn : s.n = n) (h : Con (crashed s.kept s.loose zs) (nbOf n) sq cnt bl) : Aft (s.cr zs) n sq cnt bl := ⟨hn, rfl, rfl, rfl, rfl, rfl, h⟩
theorem Sett.cr {s : DS} {sq cnt : Nat} {bl : List (List UInt8)} (h : Sett s sq cnt bl) (zs : List Int) : Con (crashed s.kept s.loose zs) (nbOf s.n) sq cnt bl := by
  rw [h.loose, crashed_none, h.same]
  exact h.con
theorem idxF (b o n cap k : Nat) (h : k < n) (w : World) : (Instr.indexAt 57 (.slice (some ⟨b, o, none⟩) n cap) (.int .i64 k)).run Tryd.prog w = .ok (.pointer (some ⟨b, o + k * 2, none⟩)) w := by
  have h1 : (k : Int) < n := by omega
  go_simp
theorem faF0 (b o : Nat) (w : World) : (Instr.fieldAt 102 (.pointer (some ⟨b, o, none⟩)) 0).run Tryd.prog w = .ok (.pointer (some ⟨b, o, none⟩)) w := by go_simp
theorem addG (a b r : Int) (h : IntKind.i64.wrap (a + b) = r) (w : World) : (binOp .add 3 (.int .i64 a) (.int .i64 b)).run Tryd.prog w = .ok (.int .i64 r) w := by subst h; go_simp
set_option maxRecDepth 100000 in
set_option maxHeartbeats 8000000 in
theorem again_any {W w : World} {ab n sq cnt N cap p : Nat} {bl : List (List UInt8)} {a : Option Addr} {fs : List FallV} {X : List Nat} {s : DS} (hT : Tab W) (hab : W.heap.size = ab) (hfs : Falls W a N fs) (hff : ∀ f ∈ fs, FallF W f) (hn : 32 ≤ n ∧ n < 92) (hW : Below ab W w) (hD : Disk w p X s) (hA : Aft s n sq cnt bl) (hX : ∀ k ∈ X, ab ≤ k) :
    Calls Tryd.prog 29 #[.pointer (some ⟨p, 0, none⟩), .slice a N cap] w fun e w' => ∃ p' j' X' s', e = .returned (.tuple #[.pointer (some ⟨p', 0, none⟩), .pointer (some ⟨j', 0, none⟩), .bool true]) ∧ Jr w' j' p' X' s' sq cnt bl ∧ s'.n = n ∧ s'.cut = -1 ∧ 0 ≤ s'.ops ∧ s'.ops ≤ ((nbOf n + 1 : Nat) : Int) ∧ (∀ k ∈ X', ab ≤ k) ∧ ab ≤ j' ∧ Below ab W w' ∧ Kp w w' := by
  have HT := hid hT
  have HTL : Hid (0 < ab) := hid (by rw [← hab]; exact tab_lt hT)
  have HW0 : Hid (ab ≤ W.heap.size) := hid (Nat.le_of_eq hab.symm)
  have HAB := hid hab
  have HFS := hid hfs
  have HFF := hid hff
  have HN := hid hn
  have HNB2 : Hid (nbOf n ≤ 45) := hid (by have := HN.out; unfold nbOf; omega)
  have H0 := hid (And.intro hD (And.intro hA (And.intro hX (And.intro hW (Kp.refl w)))))
  clear hT hab hfs hff hn hD hA hX hW
  go_enter Tryd.func29, Tryd.ntmps29
  go_wp2_with fail
  go_loopw [0, 7, 8, 9] (fun v0 v7 _ _ wr => ∃ (i p : Nat) (X : List Nat) (s : DS), i ≤ N ∧ i ≤ 4 ∧ v7 = .int .i64 i ∧ v0 = .pointer (some ⟨p, 0, none⟩) ∧ Disk wr p X s ∧ Aft s n sq cnt bl ∧ (∀ k ∈ X, ab ≤ k) ∧ Below ab W wr ∧ Kp w wr) (fun _ v7 _ _ _ => N - (intOf v7).toNat)
  case atStart => exact ⟨0, p, X, s, Nat.zero_le _, Nat.zero_le _, rfl, rfl, H0.out⟩
  case round =>
    clear H0
    rename World => wo
    obtain ⟨i, p, X, s, hi1, hi2, rfl, rfl, hD, hA, hX, hWo, hKo⟩ := hrel
    have hwi : IntKind.i64.wrap ((i : Int) + 1) = ((i + 1 : Nat) : Int) := by rw [IntWalk.i64_in _ ⟨by omega, by omega⟩]; omega
    by_cases hlt : i < N ∧ i < 4
    · have hb1 : (i : Int) < (N : Int) := by omega
      have hb2 : (i : Int) < 4 := by omega
      obtain ⟨f, hf⟩ : ∃ f, fs[i]? = some f := ⟨_, List.getElem?_eq_getElem (by have := HFS.out.1; omega)⟩
      obtain ⟨bf, of, rfl, hk0, hk1⟩ := HFS.out.2 i f hf
      have hFF := HFF.out f (List.mem_of_getElem? hf)
      have hbfl : bf < ab := by rw [← HAB.out]; exact World.block_lt_of_cell? W _ hk0
      have HCF1 : Hid (∀ w', Below ab W w' → w'.cell? ⟨bf, of + i * 2, none⟩ = some (.int .i64 f.cut)) := hid (fun w' h => by rw [h.cell (p := ⟨bf, of + i * 2, none⟩) hbfl]; exact hk0)
      have HCF2 : Hid (∀ w', Below ab W w' → w'.cell? ⟨bf, of + i * 2 + 1, none⟩ = some (.slice f.ta f.tn f.tc)) := hid (fun w' h => by rw [h.cell (p := ⟨bf, of + i * 2 + 1, none⟩) hbfl, Nat.add_assoc]; exact hk1)
      have hd : Below wo.heap.size wo wo.drew := (Below.refl _ _).drew
      have hWd : Below ab W wo.drew := hWo.trans (hd.mono (Nat.le_trans HW0.out hWo.size))
      have HDD := hid (hD.below hd)
      have HA := hid hA
      have HXL := hid hX
      have HSZ : Hid (ab ≤ wo.drew.heap.size) := hid (Nat.le_trans HW0.out hWo.size)
      have HS4 := hid (HCF1.out _ hWd)
      have HCF : Hid (∀ w', Below ab wo.drew w' → w'.cell? ⟨bf, of + i * 2, none⟩ = some (.int .i64 f.cut)) := hid (fun w' h => HCF1.out w' (hWd.trans h))
      have HPK := hid (fun w => pick_any f.cut 50 hFF.1.1 hFF.1.2 (by decide) w)
      have HQ := hid (pk_lt f.cut (n := 50) (by decide))
      generalize pk f.cut 50 = q at *
      have HAD : Hid (IntKind.i64.wrap (0 + ((q : Nat) : Int)) = ((q : Nat) : Int)) := hid (by have := HQ.out; rw [IntWalk.i64_in _ ⟨by omega, by omega⟩]; omega)
      have HIN : Hid (i < N) := hid hlt.1
      have HI : Hid (i + 1 ≤ N ∧ i + 1 ≤ 4) := hid ⟨hlt.1, hlt.2⟩
      have HFV := hid hFF
      have HWD := hid (And.intro hWd (hKo.trans (Kp.of_below hd)))
      clear hD hA hX hWo hKo hf hk0 hk1 hFF hbfl hd hWd hi1 hi2 hlt
      go_wp2_with fail
      refine h_openL (S := fun w' => w'.cell? ⟨bf, of + i * 2, none⟩ = some (.int .i64 f.cut)) (by kernel_rfl) (by kernel_rfl) (fun _ _ _ _ _ h => h) (L := #[false, false, false, false, false, false, false, false, false, false, false]) (by kernel_rfl) ?_
      intro Q' hns hP hN
      have hS := HS4.out
      refine h_takeL (i := 0) (v := .pointer (some ⟨p, 0, none⟩)) hns rfl rfl (by kernel_rfl) (by kernel_rfl) hP (y_move rfl (by kernel_rfl) (by kernel_rfl)) hS rfl (L' := #[true, false, false, false, false, false, false, false, false, false, false]) (by kernel_rfl) ?_
      refine h_takeL (i := 1) (v := .pointer (some ⟨p, 0, none⟩)) hns rfl rfl (by kernel_rfl) (by kernel_rfl) hP (y_move rfl (by kernel_rfl) (by kernel_rfl)) hS rfl (L' := #[true, true, false, false, false, false, false, false, false, false, false]) (by kernel_rfl) ?_
      refine h_takeL (i := 3) (v := .slice (some ⟨bf, of, none⟩) N cap) hns rfl rfl (by kernel_rfl) (by kernel_rfl) hP (y_move rfl (by kernel_rfl) (by kernel_rfl)) hS rfl (L' := #[true, true, false, true, false, false, false, false, false, false, false]) (by kernel_rfl) ?_
      refine h_takeL (i := 4) (v := .int .i64 i) hns rfl rfl (by kernel_rfl) (by kernel_rfl) hP (y_move rfl (by kernel_rfl) (by kernel_rfl)) hS rfl (L' := #[true, true, false, true, true, false, false, false, false, false, false]) (by kernel_rfl) ?_
      refine h_takeL (i := 5) (v := .pointer (some ⟨bf, of + i * 2, none⟩)) hns rfl rfl (by kernel_rfl) (by kernel_rfl) hP (y_index rfl (by kernel_rfl) (by kernel_rfl) (by kernel_rfl) (idxF bf of N cap i HIN.out)) hS rfl (L' := #[true, true, false, true, true, true, false, false, false, false, false]) (by kernel_rfl) ?_
      refine h_takeL (i := 6) (v := .pointer (some ⟨bf, of + i * 2, none⟩)) hns rfl rfl (by kernel_rfl) (by kernel_rfl) hP (y_faddr rfl (by kernel_rfl) (by kernel_rfl) (faF0 bf (of + i * 2))) hS rfl (L' := #[true, true, false, true, true, true, true, false, false, false, false]) (by kernel_rfl) ?_
      refine h_takeL (i := 7) (v := .int .i64 f.cut) hns rfl rfl (by kernel_rfl) (by kernel_rfl) hP (y_load rfl (by kernel_rfl) (by kernel_rfl) (fun w' h => load1 Tryd.isAgg3 h)) hS rfl (L' := #[true, true, false, true, true, true, true, true, false, false, false]) (by kernel_rfl) ?_
      simp only [List.setIfInBounds_toArray, List.set_cons_zero, List.set_cons_succ]
      refine h_callL (i := 2) (f := 20) (args := #[.pointer (some ⟨p, 0, none⟩)]) (by kernel_rfl) rfl rfl (by kernel_rfl) (enter_go rfl (by kernel_rfl) (fun w => by go_simp)) (L' := #[true, true, true, true, true, true, true, true, false, false, false]) (by kernel_rfl) ?_
      refine (ops_d HDD.out).mono ?_
      rintro e wz ⟨rfl, hwz⟩
      obtain rfl := hwz.symm
      refine ⟨_, rfl, hS, ?_⟩
      rw [HA.out.ops]
      refine h_callL (i := 8) (f := 11) (args := #[.int .i64 f.cut, .int .i64 50]) (by kernel_rfl) rfl rfl (by kernel_rfl) (enter_go rfl (by kernel_rfl) (fun w => by go_simp)) (L' := #[true, true, true, true, true, true, true, true, true, false, false]) (by kernel_rfl) ?_
      refine (HPK.out _).mono ?_
      rintro e wz ⟨rfl, hwz⟩
      obtain rfl := hwz.symm
      refine ⟨_, rfl, hS, ?_⟩
      refine h_takeL (i := 9) (v := .int .i64 (q : Nat)) hns rfl rfl (by kernel_rfl) (by kernel_rfl) hP (y_bin (k := .i64) (k' := .i64) (m := 0) (n := (q : Nat)) rfl (by kernel_rfl) (by kernel_rfl) (by kernel_rfl) (addG _ _ _ HAD.out)) hS rfl (L' := #[true, true, true, true, true, true, true, true, true, true, false]) (by kernel_rfl) ?_
      refine h_callL (i := 10) (f := 26) (args := #[.pointer (some ⟨p, 0, none⟩), .int .i64 (q : Nat)]) (by kernel_rfl) rfl rfl (by kernel_rfl) (enter_go rfl (by kernel_rfl) (fun w => by go_simp)) (L' := #[true, true, true, true, true, true, true, true, true, true, true]) (by kernel_rfl) ?_
      refine (cutAt_d HDD.out ((q : Nat) : Int)).mono ?_
      rintro e w3 ⟨rfl, hD3, hF3⟩
      have hS3 : w3.cell? ⟨bf, of + i * 2, none⟩ = some (.int .i64 f.cut) := HCF.out w3 (hF3.below HSZ.out HXL.out)
      refine ⟨_, rfl, hS3, ?_⟩
      simp only [List.setIfInBounds_toArray, List.set_cons_zero, List.set_cons_succ]
      refine wpAnyH_done (by kernel_rfl) ?_ _
      refine hN _ _ ?_
      clear hP hN hns
      clear hS HS4 HCF HPK HAD hS3
      have hW3 : Below ab W w3 := HWD.out.1.trans (hF3.below HSZ.out HXL.out)
      have hK3 := HWD.out.2.trans (Kp.of_frX HDD.out hF3)
      have hT3 := HT.out.belowB hW3 HTL.out
      have hsn3 : ({ s with cut := ((q : Nat) : Int), gone := false } : DS).n = n := HA.out.sn
      have hop := open_any hD3 hT3 rfl (by rw [hsn3]; exact HN.out.1)
      have hsh := open_shape (s := { s with cut := ((q : Nat) : Int), gone := false }) (sq := sq) (cnt := cnt) (bl := bl) (by rw [hsn3]; exact HN.out.1) rfl HA.out.loose HA.out.same hD3.ok.nowLen (by rw [hsn3]; exact HA.out.con) (by rw [hsn3]; have := HNB2.out; show s.ops + _ ≤ _; rw [HA.out.ops]; omega)
      have HOPD := hid hop
      have HSH := hid hsh
      have HD3 := hid hD3
      have HW3 := hid (And.intro hW3 (And.intro hK3 hsn3))
      clear hF3 hW3 hK3 hT3 hsn3 hop hsh hD3 HDD HWD HSZ HQ
      go_wp2_with fail
      refine HOPD.out.mono ?_
      rintro e w5 ⟨⟨X5, hD5, hX5⟩, hF5, hr5⟩
      have hw3 := HW3.out
      have hW5 : Below ab W w5 := hw3.1.trans (hF5.below (Nat.le_trans HW0.out hw3.1.size) HXL.out)
      have HW5 := hid (And.intro hW5 (hw3.2.1.trans (Kp.of_frX HD3.out hF5)))
      have hIz : Iz w5 (.slice f.ta f.tn f.tc) f.zs := HFV.out.2.1.below (by rw [HAB.out]; exact hW5)
      have hcs : w5.cell? ⟨bf, of + i * 2 + 1, none⟩ = some (.slice f.ta f.tn f.tc) := HCF2.out w5 hW5
      have HCR := hid (crash_d (cp := f.tc) hD5 (hIz.ints HFV.out.2.2.1) HFV.out.2.2.2)
      rcases HSH.out with ⟨s', ho', hS, h1, h2, h3, h4⟩ | ⟨s', ho', h0, h1, hcon⟩
      · rw [ho'] at hr5 HCR
        have HAF : Hid (Aft (s'.cr f.zs) n sq cnt bl) := hid (Aft.of_cr (h1.trans hw3.2.2) (by have h := hS.cr f.zs; rw [h1, hw3.2.2] at h; exact h))
        obtain ⟨j5, rfl⟩ : ∃ j5, e = .returned (.tuple #[.pointer (some ⟨j5, 0, none⟩), .int .i64 0]) := by
          rcases hr5 with ⟨hne, _⟩ | ⟨_, j, _, he, _⟩
          · exact absurd rfl hne
          · exact ⟨j, he⟩
        clear hw3 hW5 hIz hD5 hX5 hF5 hr5 ho' hS h1 h2 h3 h4 HSH HD3 HW3 HCF1 HCF2 HA HXL
        clear HOPD
        go_wp2_with fail
        refine HCR.out.mono ?_
        rintro e w6 ⟨p6, X6, rfl, hD6, hX6, hB6⟩
        have hW6 : Below ab W w6 := HW5.out.1.trans (hB6.mono (Nat.le_trans HW0.out HW5.out.1.size))
        have HZ : Hid (Disk w6 p6 X6 _ ∧ Aft _ n sq cnt bl ∧ (∀ k ∈ X6, ab ≤ k) ∧ Below ab W w6 ∧ Kp w w6) := hid ⟨hD6, HAF.out, fun k hk => Nat.le_trans (Nat.le_trans HW0.out HW5.out.1.size) (hX6 k hk), hW6, HW5.out.2.trans (Kp.of_below hB6)⟩
        clear hD6 hX6 hB6 hW6 HCR HW5 HAF
        go_wp2_with fail
        exact ⟨⟨i + 1, p6, X6, _, HI.out.1, HI.out.2, rfl, rfl, HZ.out⟩, by have := HI.out; simp [intOf]; omega⟩
      · rw [ho'] at hr5 HCR
        have HAF : Hid (Aft (s'.cr f.zs) n sq cnt bl) := hid (Aft.of_cr (h1.trans hw3.2.2) (by have h := hcon f.zs; rw [hw3.2.2] at h; exact h))
        obtain rfl : e = .returned (.tuple #[.pointer none, .int .i64 43]) := by
          rcases hr5 with ⟨_, he⟩ | ⟨h9, _⟩
          · exact he
          · exact absurd (show (43 : Int) = 0 from h9) (by decide)
        clear hw3 hW5 hIz hD5 hX5 hF5 hr5 ho' h0 h1 hcon HSH HD3 HW3 HCF1 HCF2 HA HXL
        clear HOPD
        go_wp2_with fail
        refine HCR.out.mono ?_
        rintro e w6 ⟨p6, X6, rfl, hD6, hX6, hB6⟩
        have hW6 : Below ab W w6 := HW5.out.1.trans (hB6.mono (Nat.le_trans HW0.out HW5.out.1.size))
        have HZ : Hid (Disk w6 p6 X6 _ ∧ Aft _ n sq cnt bl ∧ (∀ k ∈ X6, ab ≤ k) ∧ Below ab W w6 ∧ Kp w w6) := hid ⟨hD6, HAF.out, fun k hk => Nat.le_trans (Nat.le_trans HW0.out HW5.out.1.size) (hX6 k hk), hW6, HW5.out.2.trans (Kp.of_below hB6)⟩
        clear hD6 hX6 hB6 hW6 HCR HW5 HAF
        go_wp2_with fail
        exact ⟨⟨i + 1, p6, X6, _, HI.out.1, HI.out.2, rfl, rfl, HZ.out⟩, by have := HI.out; simp [intOf]; omega⟩
    · have hTo := HT.out.belowB hWo HTL.out
      have HO := hid (open_rest hD hTo hA.gone (by rw [hA.sn]; exact HN.out.1) hA.cut hA.loose hA.same (by rw [hA.sn]; exact hA.con) (by rw [hA.sn, hA.ops]; have := HNB2.out; omega) (fun hm => by have h1 := hX _ hm; have h2 := HTL.out; omega))
      have HR := hid (And.intro hD (And.intro hA (And.intro hX (And.intro hWo hKo))))
      have HLT := hid hlt
      clear hD hA hX hWo hKo hTo hi1 hi2 hlt
      by_cases hN : i < N
      · have hb1 : (i : Int) < (N : Int) := by omega
        have hb2 : ¬ (i : Int) < 4 := by have := HLT.out; omega
        clear hN
        go_wp2_with fail
        refine HO.out.mono ?_
        rintro e w7 ⟨j7, s7, X7, hj7, rfl, hJ7, hn7, hc7, ho7, ho7', hX7, hF7⟩
        have hr := HR.out
        have HZ : Hid (∃ p' j' X' s', Ending.returned (.tuple #[.pointer (some ⟨p, 0, none⟩), .pointer (some ⟨j7, 0, none⟩), .bool true]) = .returned (.tuple #[.pointer (some ⟨p', 0, none⟩), .pointer (some ⟨j', 0, none⟩), .bool true]) ∧ Jr w7 j' p' X' s' sq cnt bl ∧ s'.n = n ∧ s'.cut = -1 ∧ 0 ≤ s'.ops ∧ s'.ops ≤ ((nbOf n + 1 : Nat) : Int) ∧ (∀ k ∈ X', ab ≤ k) ∧ ab ≤ j' ∧ Below ab W w7 ∧ Kp w w7) := hid ⟨p, j7, X7, s7, rfl, hJ7, hn7.trans hr.2.1.sn, hc7, by rw [hr.2.1.ops] at ho7; exact ho7, by rw [hr.2.1.ops, hr.2.1.sn, Int.zero_add] at ho7'; exact ho7', fun k hk => (hX7 k hk).elim (hr.2.2.1 k) (Nat.le_trans (Nat.le_trans HW0.out hr.2.2.2.1.size)), Nat.le_trans (Nat.le_trans HW0.out hr.2.2.2.1.size) hj7, hr.2.2.2.1.trans (hF7.below (Nat.le_trans HW0.out hr.2.2.2.1.size) hr.2.2.1), hr.2.2.2.2.trans (Kp.of_frX hr.1 hF7)⟩
        clear hr hJ7 hn7 hc7 ho7 ho7' hX7 hF7 hj7 HO HR
        go_wp2
        go_ret3
        exact HZ.out
      · have hb1 : ¬ (i : Int) < (N : Int) := by omega
        clear hN
        go_wp2_with fail
        refine HO.out.mono ?_
        rintro e w7 ⟨j7, s7, X7, hj7, rfl, hJ7, hn7, hc7, ho7, ho7', hX7, hF7⟩
        have hr := HR.out
        have HZ : Hid (∃ p' j' X' s', Ending.returned (.tuple #[.pointer (some ⟨p, 0, none⟩), .pointer (some ⟨j7, 0, none⟩), .bool true]) = .returned (.tuple #[.pointer (some ⟨p', 0, none⟩), .pointer (some ⟨j', 0, none⟩), .bool true]) ∧ Jr w7 j' p' X' s' sq cnt bl ∧ s'.n = n ∧ s'.cut = -1 ∧ 0 ≤ s'.ops ∧ s'.ops ≤ ((nbOf n + 1 : Nat) : Int) ∧ (∀ k ∈ X', ab ≤ k) ∧ ab ≤ j' ∧ Below ab W w7 ∧ Kp w w7) := hid ⟨p, j7, X7, s7, rfl, hJ7, hn7.trans hr.2.1.sn, hc7, by rw [hr.2.1.ops] at ho7; exact ho7, by rw [hr.2.1.ops, hr.2.1.sn, Int.zero_add] at ho7'; exact ho7', fun k hk => (hX7 k hk).elim (hr.2.2.1 k) (Nat.le_trans (Nat.le_trans HW0.out hr.2.2.2.1.size)), Nat.le_trans (Nat.le_trans HW0.out hr.2.2.2.1.size) hj7, hr.2.2.2.1.trans (hF7.below (Nat.le_trans HW0.out hr.2.2.2.1.size) hr.2.2.1), hr.2.2.2.2.trans (Kp.of_frX hr.1 hF7)⟩
        clear hr hJ7 hn7 hc7 ho7 ho7' hX7 hF7 hj7 HO HR
        go_wp2
        go_ret3
        exact HZ.out
end Go.Proofs.YtdogjicccajnkaaDoor
