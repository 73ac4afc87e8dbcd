/- The walks of the reference's TakeText, TakeKeyInt, TakeKeyText. -/
import Derived.Test.YtlddkbmfkipmpaaDoorWRefTakeInt
namespace Go.Proofs.YtlddkbmfkipmpaaDoor
open Go Go.RowKit

set_option maxHeartbeats 400000 in
theorem refTakeText_no (a : Option Addr) (l : List UInt8) (cap : Nat) (at_ most : Int) (w : World) (hv : Sl w (.slice a l.length cap) l) (hn : l.length ≤ 281474976710656) (h : tInt l at_ = none) :
    Calls Tryd.prog 23 #[.slice a l.length cap, .int .i64 at_, .int .i64 most] w fun e w' => e = .returned (triS [] 0 false) ∧ Below w.heap.size w w' := by
  have HV := hid hv
  have HH := hid h
  clear hv h
  go_enter Tryd.func23, Tryd.ntmps23
  go_wp2_with (go_at_call 21; refine (refTakeInt_v _ l at_ _ HV.out hn).mono ?_; rintro e w1 ⟨rfl, hB1⟩; rw [HH.out]; unfold outI tri)
  go_ret3
  exact ⟨rfl, hB1⟩

set_option maxHeartbeats 400000 in
theorem refTakeText_bad (a : Option Addr) (l : List UInt8) (cap : Nat) (at_ most n : Int) (k : Nat) (w : World) (hv : Sl w (.slice a l.length cap) l) (hn : l.length ≤ 281474976710656) (h : tInt l at_ = some (n, k))
    (hj : 0 ≤ at_) (hjk : at_ + k ≤ l.length) (hbad : n < 0 ∨ most < n ∨ (l.length : Int) - (at_ + k) < n) :
    Calls Tryd.prog 23 #[.slice a l.length cap, .int .i64 at_, .int .i64 most] w fun e w' => e = .returned (triS [] 0 false) ∧ Below w.heap.size w w' := by
  have HV := hid hv
  have HH := hid h
  clear hv h
  by_cases h1 : n < 0
  · have b1 : decide (n < 0) = true := decide_eq_true h1
    go_enter Tryd.func23, Tryd.ntmps23
    go_wp2_with (go_at_call 21; refine (refTakeInt_v _ l at_ _ HV.out hn).mono ?_; rintro e w1 ⟨rfl, hB1⟩; rw [HH.out]; unfold outI tri)
    go_ret3
    exact ⟨rfl, hB1⟩
  · have b1 : decide (n < 0) = false := decide_eq_false h1
    by_cases h2 : most < n
    · have b2 : decide (most < n) = true := decide_eq_true h2
      go_enter Tryd.func23, Tryd.ntmps23
      go_wp2_with (go_at_call 21; refine (refTakeInt_v _ l at_ _ HV.out hn).mono ?_; rintro e w1 ⟨rfl, hB1⟩; rw [HH.out]; unfold outI tri)
      go_ret3
      exact ⟨rfl, hB1⟩
    · have b2 : decide (most < n) = false := decide_eq_false h2
      have b3 : decide ((l.length : Int) - (at_ + k) < n) = true := decide_eq_true (by omega)
      go_enter Tryd.func23, Tryd.ntmps23
      go_wp2_with (go_at_call 21; refine (refTakeInt_v _ l at_ _ HV.out hn).mono ?_; rintro e w1 ⟨rfl, hB1⟩; rw [HH.out]; unfold outI tri)
      go_ret3
      exact ⟨rfl, hB1⟩

set_option maxHeartbeats 400000 in
theorem refTakeText_ok0 (b off : Nat) (l : List UInt8) (j k : Nat) (most : Int) (w : World) (hr : Rd w b off l) (hc : l.length ≤ j + k) (hn : l.length ≤ 281474976710656) (h : tInt l (j : Int) = some ((0 : Int), k))
    (hm : (0 : Int) ≤ most) (hl : j + k ≤ l.length) :
    Calls Tryd.prog 23 #[.slice (some ⟨b, off, none⟩) l.length (j + k), .int .i64 j, .int .i64 most] w fun e w' => e = .returned (triS [] ((j : Int) + (k : Int)) true) ∧ Below w.heap.size w w' := by
  have HR := hid hr
  have HH := hid h
  clear hr h
  have b2 : decide (most < (0 : Int)) = false := decide_eq_false (by omega)
  have b3 : decide ((l.length : Int) - ((j : Int) + k) < 0) = false := decide_eq_false (by omega)
  go_enter Tryd.func23, Tryd.ntmps23
  go_wp2_with (go_at_call 21; refine (refTakeInt_v _ l j _ (Sl.mk HR.out hc) hn).mono ?_; rintro e w1 ⟨rfl, hB1⟩; have hcv := conv_empty (w := w1) (some ⟨b, off, none⟩) 0 (fun h => by cases h); rw [HH.out]; unfold outI tri)
  go_ret3
  exact ⟨rfl, hB1⟩

set_option maxHeartbeats 400000 in
theorem refTakeText_ok1 (b off : Nat) (l : List UInt8) (cap j k n : Nat) (most : Int) (w : World) (hr : Rd w b off l) (hc : l.length ≤ cap) (hn : l.length ≤ 281474976710656) (h : tInt l (j : Int) = some ((n : Int), k))
    (hm : (n : Int) ≤ most) (hl : j + k + n ≤ l.length) (hcap : j + k < cap) :
    Calls Tryd.prog 23 #[.slice (some ⟨b, off, none⟩) l.length cap, .int .i64 j, .int .i64 most] w fun e w' => e = .returned (triS ((l.drop (j + k)).take n) ((j : Int) + ((k + n : Nat) : Int)) true) ∧ Below w.heap.size w w' := by
  have HR := hid hr
  have HH := hid h
  clear hr h
  have b1 : decide ((n : Int) < 0) = false := decide_eq_false (by omega)
  have b2 : decide (most < (n : Int)) = false := decide_eq_false (by omega)
  have b3 : decide ((l.length : Int) - ((j : Int) + k) < n) = false := decide_eq_false (by omega)
  go_enter Tryd.func23, Tryd.ntmps23
  go_wp2_with (go_at_call 21; refine (refTakeInt_v _ l j _ (Sl.mk HR.out hc) hn).mono ?_; rintro e w1 ⟨rfl, hB1⟩; have hcv := conv_sub (w := w1) (HR.out.below hB1) (j + k) n (by omega) hc (c := cap - (j + k)) (by omega); rw [HH.out]; unfold outI tri)
  go_ret3
  refine ⟨?_, hB1⟩
  show Ending.returned (triS ((l.drop (j + k)).take n) ((j : Int) + k + n) true) = _
  rw [Int.natCast_add, Int.add_assoc]

/-- The reference's TakeText, whatever it is given. -/
theorem refTakeText_any (a : Option Addr) (l : List UInt8) (cap : Nat) (at_ most : Int) (w : World) (hv : Sl w (.slice a l.length cap) l) (hn : l.length ≤ 281474976710656) :
    Calls Tryd.prog 23 #[.slice a l.length cap, .int .i64 at_, .int .i64 most] w fun e w' => e = .returned (outS (tText l at_ most) at_) ∧ Below w.heap.size w w' := by
  unfold tText
  cases hT : tInt l at_ with
  | none => exact refTakeText_no a l cap at_ most w hv hn hT
  | some p =>
    obtain ⟨n, k⟩ := p
    obtain ⟨h0, h1, _, hne⟩ := tInt_len hT
    dsimp only
    by_cases hc : 0 ≤ n ∧ n ≤ most ∧ n ≤ (l.length : Int) - (at_ + k)
    · rw [if_pos hc]
      obtain ⟨j, rfl⟩ := Int.eq_ofNat_of_zero_le h0
      obtain ⟨m, rfl⟩ := Int.eq_ofNat_of_zero_le hc.1
      rw [Int.toNat_natCast, Int.toNat_natCast]
      obtain ⟨a', cap', he, h2, h3, h4⟩ := hv
      cases he
      obtain ⟨b, off, rfl, hr⟩ := h4 hne
      by_cases hcap : j + k < cap
      · exact refTakeText_ok1 b off l cap j k m most w hr h2 hn hT hc.2.1 (by omega) hcap
      · obtain rfl : cap = j + k := by omega
        obtain rfl : m = 0 := by omega
        exact refTakeText_ok0 b off l j k most w hr h2 hn hT hc.2.1 (by omega)
    · rw [if_neg hc]
      exact refTakeText_bad a l cap at_ most n k w hv hn hT h0 h1 (by omega)

set_option maxHeartbeats 400000 in
theorem refTakeKeyInt_no (a : Option Addr) (n cap : Nat) (at_ : Int) (w : World) (hn : n ≤ 281474976710656) (h : at_ < 0 ∨ (n : Int) - 8 < at_) :
    Calls Tryd.prog 25 #[.slice a n cap, .int .i64 at_] w fun e w' => e = .returned (tri 0 0 false) ∧ w' = w := by
  by_cases h0 : at_ < 0
  · have hb : decide (at_ < 0) = true := decide_eq_true h0
    go_enter Tryd.func25, Tryd.ntmps25
    go_wp2
    go_ret3
    exact ⟨rfl, rfl⟩
  · have hb : decide (at_ < 0) = false := decide_eq_false h0
    by_cases h1 : (n : Int) < at_
    · have hb2 : decide ((n : Int) < at_) = true := decide_eq_true h1
      go_enter Tryd.func25, Tryd.ntmps25
      go_wp2
      go_ret3
      exact ⟨rfl, rfl⟩
    · have hb2 : decide ((n : Int) < at_) = false := decide_eq_false h1
      have hb3 : decide ((n : Int) - at_ < 8) = true := decide_eq_true (by omega)
      go_enter Tryd.func25, Tryd.ntmps25
      go_wp2
      go_ret3
      exact ⟨rfl, rfl⟩

set_option maxRecDepth 100000 in
set_option maxHeartbeats 800000 in
theorem refTakeKeyInt_ok (b off cap j : Nat) (l : List UInt8) (w : World) (hr : Rd w b off l) (hn : l.length ≤ 281474976710656) (_hc : l.length ≤ cap) (hj : j + 8 ≤ l.length) :
    Calls Tryd.prog 25 #[.slice (some ⟨b, off, none⟩) l.length cap, .int .i64 j] w fun e w' => e = .returned (tri (unku (val 0 ((l.drop j).take 8))) ((j : Int) + 8) true) ∧ w' = w := by
  have hb : decide ((j : Int) < 0) = false := decide_eq_false (by omega)
  have hb2 : decide ((l.length : Int) < (j : Int)) = false := decide_eq_false (by omega)
  have hb2' : decide (l.length < j) = false := decide_eq_false (by omega)
  have hb3 : decide ((l.length : Int) - (j : Int) < 8) = false := decide_eq_false (by omega)
  have HR := hid hr
  clear hr
  go_enter Tryd.func25, Tryd.ntmps25
  go_wp2
  go_loop [7, 8] (fun q i => ∃ k u : Nat, k ≤ 8 ∧ i = .int .i64 k ∧ q = .int .u64 u ∧ u = val 0 ((l.drop j).take k)) (fun _ i => 8 - (intOf i).toNat)
  case atStart => exact ⟨0, 0, by omega, rfl, rfl, rfl⟩
  case round =>
    obtain ⟨k, u, hk, rfl, rfl, hu⟩ := hrel
    have HU := hid hu
    clear hu
    by_cases hlt : k < 8
    · have hcell : w.cell? ⟨b, off + (j + k), none⟩ = some (.int .u8 (at8 l (j + k))) := HR.out (j + k) (by omega)
      have hub : u < 72057594037927936 := by rw [HU.out]; exact val_take_lt _ k (by omega)
      have hx1 := (l.getD (j + k) 0).toNat_lt
      unfold at8 at hcell
      have hstep : u * 256 + (l.getD (j + k) 0).toNat = val 0 ((l.drop j).take (k + 1)) := by rw [take_snoc8 l j k (by omega), val_snoc, ← HU.out]
      have HST := hid hstep
      clear hstep
      generalize (l.getD (j + k) 0).toNat = x at *
      have hor := hid (or_eight u x hub (by omega))
      go_wp2_with fail
      refine ⟨⟨k + 1, u * 256 + x, by omega, by go_num, congrArg (Value.int .u64) hor.out, HST.out⟩, by simp [intOf]; omega⟩
    · obtain rfl : k = 8 := by omega
      have hub : u < 18446744073709551616 := by rw [HU.out]; exact val8_lt (by simp; omega)
      have hxs := xor_sign u hub
      have HI : Hid (wrap64 (((u + 9223372036854775808) % 18446744073709551616 : Nat) : Int) = unku (val 0 ((l.drop j).take 8))) := by
        show _ = _
        rw [← HU.out]
        unfold unku wrap64
        omega
      have hyb : (u + 9223372036854775808) % 18446744073709551616 < 18446744073709551616 := Nat.mod_lt _ (by decide)
      generalize (u + 9223372036854775808) % 18446744073709551616 = y at *
      go_wp2
      go_ret3
      refine ⟨?_, rfl⟩
      show Ending.returned (tri (wrap64 (y : Int)) ((j : Int) + 8) true) = _
      rw [HI.out]

/-- The reference's TakeKeyInt, whatever it is given. -/
theorem refTakeKeyInt_v (v : Value) (l : List UInt8) (at_ : Int) (w : World) (hv : Sl w v l) (hn : l.length ≤ 281474976710656) :
    Calls Tryd.prog 25 #[v, .int .i64 at_] w fun e w' => e = .returned (outI (tKI l at_) at_) ∧ w' = w := by
  unfold tKI takeKI
  obtain ⟨a, cap, rfl, h2, h3, h4⟩ := hv
  by_cases h : 0 ≤ at_ ∧ at_ + 8 ≤ l.length
  · obtain ⟨j, rfl⟩ := Int.eq_ofNat_of_zero_le h.1
    rw [if_pos (by omega), Int.toNat_natCast, List.length_drop, if_pos (by omega)]
    obtain ⟨b, off, rfl, hr⟩ := h4 (by intro e; rw [e] at h; simp at h; omega)
    exact refTakeKeyInt_ok b off cap j l w hr hn h2 (by omega)
  · have e : (if 0 ≤ at_ ∧ at_ ≤ l.length then if 8 ≤ (l.drop at_.toNat).length then some (unku (val 0 ((l.drop at_.toNat).take 8)), 8) else none else none) = (none : Option (Int × Nat)) := by
      by_cases h' : 0 ≤ at_ ∧ at_ ≤ l.length
      · rw [if_pos h', if_neg (by rw [List.length_drop]; omega)]
      · rw [if_neg h']
    rw [e]
    exact refTakeKeyInt_no a l.length cap at_ w hn (by omega)

set_option maxHeartbeats 400000 in
theorem refTakeKeyText_out (a : Option Addr) (n cap : Nat) (at_ : Int) (w : World) (h : at_ < 0 ∨ (n : Int) ≤ at_) :
    Calls Tryd.prog 27 #[.slice a n cap, .int .i64 at_] w fun e w' => e = .returned (triS [] 0 false) ∧ w' = w := by
  by_cases h0 : at_ < 0
  · have hb : decide (at_ < 0) = true := decide_eq_true h0
    go_enter Tryd.func27, Tryd.ntmps27
    go_wp2
    go_ret3
    exact ⟨rfl, rfl⟩
  · have hb : decide (at_ < 0) = false := decide_eq_false h0
    by_cases h1 : (n : Int) < at_
    · have hb2 : decide ((n : Int) < at_) = true := decide_eq_true h1
      go_enter Tryd.func27, Tryd.ntmps27
      go_wp2
      go_ret3
      exact ⟨rfl, rfl⟩
    · have hb2 : decide ((n : Int) < at_) = false := decide_eq_false h1
      have hb3 : decide (at_ < (n : Int)) = false := decide_eq_false (by omega)
      go_enter Tryd.func27, Tryd.ntmps27
      go_wp2
      refine wp_loop_rounds 1 ?_
      rw [rounds_succ]
      go_wp2
      go_ret3
      exact ⟨rfl, rfl⟩

set_option maxRecDepth 100000 in
set_option maxHeartbeats 1600000 in
theorem refTakeKeyText_in (b off cap j : Nat) (l : List UInt8) (w : World) (hr : Rd w b off l) (hn : l.length ≤ 281474976710656) (_hc : l.length ≤ cap) (hj : j < l.length) (hcnt : kcnt (l.drop j) ≤ 140737488355328) :
    Calls Tryd.prog 27 #[.slice (some ⟨b, off, none⟩) l.length cap, .int .i64 j] w fun e w' => e = .returned (outS (takeKT (l.drop j)) j) ∧ Below w.heap.size w w' := by
  have hb : decide ((j : Int) < 0) = false := decide_eq_false (by omega)
  have hb2 : decide ((l.length : Int) < (j : Int)) = false := decide_eq_false (by omega)
  have hb2' : decide (l.length < j) = false := decide_eq_false (by omega)
  have HR := hid hr
  clear hr
  go_enter Tryd.func27, Tryd.ntmps27
  go_wp2
  go_loopw [7, 8] (fun v i wr => ∃ (k : Nat) (acc : List UInt8), j + k ≤ l.length ∧ i = .int .i64 ((j + k : Nat) : Int) ∧ wr.ownsRow w.heap.size 5 1 v acc.length (cells8 acc) ∧ Below w.heap.size w wr ∧ takeKT (l.drop j) = kdec acc k (l.drop (j + k)) ∧ acc.length + kcnt (l.drop (j + k)) ≤ 140737488355328) (fun _ i _ => l.length - (intOf i).toNat)
  case atStart => exact ⟨0, [], by omega, by simp, World.ownsRow_nil _ _ _ _, Below.refl _ _, rfl, by simpa using hcnt⟩
  case round =>
    obtain ⟨k, acc, hk, rfl, ho, hbel, hd, hcn⟩ := hrel
    have HD := hid hd
    clear hd hcnt
    have HCN := hid hcn
    clear hcn
    have hB := hbel.size
    by_cases hlt : j + k < l.length
    · have hcell := HR.out (j + k) hlt
      rw [← hbel.cell (p := ⟨b, off + (j + k), none⟩) (World.block_lt_of_cell? w _ hcell)] at hcell
      have hx1 := (l.getD (j + k) 0).toNat_lt
      have hdr := drop_cons8 l (j + k) hlt
      unfold at8 at hcell
      by_cases hz : l.getD (j + k) 0 = 0
      · have hbz : (((l.getD (j + k) 0).toNat : Int) != 0) = false := by rw [hz]; rfl
        rw [hz] at hdr
        generalize (l.getD (j + k) 0).toNat = x at *
        clear hz
        by_cases hend : j + k + 1 = l.length
        · have hd2 : takeKT (l.drop j) = none := by rw [HD.out, hdr, hend, List.drop_length, kdec_end]
          have HD2 := hid hd2
          have hbe : (((j + k : Nat) : Int) + 1 == (l.length : Int)) = true := by simp only [beq_iff_eq]; omega
          have hbe2 : ((j : Int) + (k : Int) + 1 == (l.length : Int)) = true := by simp only [beq_iff_eq]; omega
          clear hd2 hdr hend
          go_wp2
          go_ret3
          exact ⟨by rw [HD2.out]; rfl, hbel⟩
        · have hlt2 : j + k + 1 < l.length := by omega
          have hcell2 := HR.out (j + k + 1) hlt2
          rw [← hbel.cell (p := ⟨b, off + (j + k + 1), none⟩) (World.block_lt_of_cell? w _ hcell2)] at hcell2
          have hdr2 := drop_cons8 l (j + k + 1) hlt2
          have hx2 := (l.getD (j + k + 1) 0).toNat_lt
          have hbe : (((j + k : Nat) : Int) + 1 == (l.length : Int)) = false := by simp only [beq_eq_false_iff_ne, ne_eq]; omega
          have hbe2 : ((j : Int) + (k : Int) + 1 == (l.length : Int)) = false := by simp only [beq_eq_false_iff_ne, ne_eq]; omega
          rw [hdr2] at hdr
          have HDR := hid hdr
          clear hdr hdr2 hend
          unfold at8 at hcell2
          have h1i : l.getD (j + k + 1) 0 = 1 ↔ (l.getD (j + k + 1) 0).toNat = 1 := ⟨fun h => by rw [h]; rfl, fun h => u8_ext h⟩
          have h255i : l.getD (j + k + 1) 0 = 255 ↔ (l.getD (j + k + 1) 0).toNat = 255 := ⟨fun h => by rw [h]; rfl, fun h => u8_ext h⟩
          by_cases h1 : (l.getD (j + k + 1) 0).toNat = 1
          · have hd2 : takeKT (l.drop j) = some (acc, k + 2) := by rw [HD.out, HDR.out, kdec_zero, if_pos (h1i.2 h1)]
            have HD2 := hid hd2
            rw [h1] at hcell2
            clear hd2 h1i h255i h1
            have hcv := conv_sl (owns_sl' ho)
            go_wp2
            go_ret3
            refine ⟨?_, hbel⟩
            rw [HD2.out]
            show Ending.returned (triS acc ((j : Int) + k + 2) true) = Ending.returned (triS acc ((j : Int) + ((k + 2 : Nat) : Int)) true)
            have e : (j : Int) + k + 2 = (j : Int) + ((k + 2 : Nat) : Int) := by omega
            rw [e]
          · have hb1 : (((l.getD (j + k + 1) 0).toNat : Int) == 1) = false := by simp only [beq_eq_false_iff_ne, ne_eq]; omega
            have hb1n : (((l.getD (j + k + 1) 0).toNat : Int) != 1) = true := by simp only [bne_iff_ne, ne_eq]; omega
            by_cases h2 : (l.getD (j + k + 1) 0).toNat = 255
            · have hd2 : takeKT (l.drop j) = kdec (acc ++ [0]) (k + 2) (l.drop (j + (k + 2))) := by
                rw [HD.out, HDR.out, kdec_zero, if_neg (fun h => h1 (h1i.1 h)), if_pos (h255i.2 h2)]; rfl
              have hc2 : (acc ++ [0]).length + kcnt (l.drop (j + (k + 2))) ≤ 140737488355328 := by
                have := HCN.out
                rw [HDR.out, kcnt_zero, if_neg (fun h => h1 (h1i.1 h)), if_pos (h255i.2 h2)] at this
                rw [List.length_append]; simp only [List.length_singleton]
                have e : j + (k + 2) = j + k + 1 + 1 := by omega
                rw [e]; omega
              have hal : acc.length + 1 ≤ 140737488355328 := by rw [List.length_append] at hc2; simp only [List.length_singleton] at hc2; omega
              have HD2 := hid hd2
              have HC2 := hid hc2
              rw [h2] at hcell2
              clear hd2 hc2 h1i h255i h1 h2 hb1 hb1n
              go_wp2_with (at_builtin; refine appG [0] #[.int .u8 0] rfl rfl _ _ rfl w.heap.size acc.length 1 1 _ acc rfl rfl rfl (by omega) ho hal hbel hB ?_; intro g cap1 w2 ho2 hbel2 hsz2)
              go_roundw
              case rel =>
                refine ⟨k + 2, acc ++ [0], by omega, by go_num, by simpa using ho2, hbel2, HD2.out, HC2.out⟩
              case measure => simp [intOf]; omega
            · have hb2 : (((l.getD (j + k + 1) 0).toNat : Int) != 255) = true := by simp only [bne_iff_ne, ne_eq]; omega
              have hd2 : takeKT (l.drop j) = none := by rw [HD.out, HDR.out, kdec_zero, if_neg (fun h => h1 (h1i.1 h)), if_neg (fun h => h2 (h255i.1 h))]
              have HD2 := hid hd2
              clear hd2 h1i h255i h1 h2
              generalize (l.getD (j + k + 1) 0).toNat = y at *
              go_wp2
              go_ret3
              exact ⟨by rw [HD2.out]; rfl, hbel⟩
      · have hzn : (l.getD (j + k) 0).toNat ≠ 0 := fun h => hz (u8_ext (by simpa using h))
        have hd2 : takeKT (l.drop j) = kdec (acc ++ [l.getD (j + k) 0]) (k + 1) (l.drop (j + (k + 1))) := by rw [HD.out, hdr, kdec_ne _ _ _ _ hz]; rfl
        have hc2 : (acc ++ [l.getD (j + k) 0]).length + kcnt (l.drop (j + (k + 1))) ≤ 140737488355328 := by
          have := HCN.out
          rw [hdr, kcnt_ne _ _ hz] at this
          rw [List.length_append]; simp only [List.length_singleton]
          have e : j + (k + 1) = j + k + 1 := by omega
          rw [e]; omega
        have hal : acc.length + 1 ≤ 140737488355328 := by rw [List.length_append] at hc2; simp only [List.length_singleton] at hc2; omega
        have HD2 := hid hd2
        have HC2 := hid hc2
        clear hd2 hc2 hdr
        have hbz : (((l.getD (j + k) 0).toNat : Int) != 0) = true := by simp only [bne_iff_ne, ne_eq]; omega
        have hnews : (#[Value.int .u8 ((l.getD (j + k) 0).toNat : Int)] : Array Value).toList = cells8 [l.getD (j + k) 0] := rfl
        have HN := hid hnews
        clear hnews hz
        generalize l.getD (j + k) 0 = c at *
        go_wp2_with (at_builtin; refine appG [c] #[.int .u8 (c.toNat : Int)] HN.out rfl _ _ rfl w.heap.size acc.length 1 1 _ acc rfl rfl rfl (by omega) ho hal hbel hB ?_; intro g cap1 w2 ho2 hbel2 hsz2)
        go_roundw
        case rel =>
          refine ⟨k + 1, acc ++ [c], by omega, by go_num, by simpa using ho2, hbel2, HD2.out, HC2.out⟩
        case measure => simp [intOf]; omega
    · have hd2 : takeKT (l.drop j) = none := by rw [HD.out, List.drop_eq_nil_of_le (by omega)]; rfl
      have HD2 := hid hd2
      clear hd2
      go_wp2
      go_ret3
      exact ⟨by rw [HD2.out]; rfl, hbel⟩

/-- The reference's TakeKeyText, whatever it is given. -/
theorem refTakeKeyText_v (v : Value) (l : List UInt8) (at_ : Int) (w : World) (hv : Sl w v l) (hn : l.length ≤ 281474976710656) (hcnt : kcnt (l.drop at_.toNat) ≤ 140737488355328) :
    Calls Tryd.prog 27 #[v, .int .i64 at_] w fun e w' => e = .returned (outS (tKT l at_) at_) ∧ Below w.heap.size w w' := by
  unfold tKT
  obtain ⟨a, cap, rfl, h2, h3, h4⟩ := hv
  by_cases h : 0 ≤ at_ ∧ at_ < l.length
  · obtain ⟨j, rfl⟩ := Int.eq_ofNat_of_zero_le h.1
    rw [if_pos (by omega), Int.toNat_natCast]
    rw [Int.toNat_natCast] at hcnt
    obtain ⟨b, off, rfl, hr⟩ := h4 (by intro e; rw [e] at h; simp at h; omega)
    exact refTakeKeyText_in b off cap j l w hr hn h2 (by omega) hcnt
  · have e : (if 0 ≤ at_ ∧ at_ ≤ l.length then takeKT (l.drop at_.toNat) else none) = none := by
      by_cases h' : 0 ≤ at_ ∧ at_ ≤ l.length
      · rw [if_pos h', List.drop_eq_nil_of_le (by omega)]; rfl
      · rw [if_neg h']
    rw [e]
    exact (refTakeKeyText_out a l.length cap at_ w (by omega)).mono fun e w' ⟨h1, h2⟩ => ⟨h1, h2 ▸ Below.refl _ _⟩
end Go.Proofs.YtlddkbmfkipmpaaDoor
