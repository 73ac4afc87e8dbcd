/- The walk of wire's TakeKeyText. -/
import Derived.Test.YtpflajehakiloaaDoorWTakeKey
namespace Go.Proofs.YtpflajehakiloaaDoor
open Go Go.RowKit

def tKT (l : List UInt8) (at_ : Int) : Option (List UInt8 × Nat) := if 0 ≤ at_ ∧ at_ ≤ l.length then takeKT (l.drop at_.toNat) else none

/-- How many bytes the reading loop lays by. -/
def kcnt : List UInt8 → Nat
  | [] => 0
  | c :: r => if c ≠ 0 then 1 + kcnt r else
      match r with
      | [] => 0
      | d :: r' => if d = 1 then 0 else if d = 255 then 1 + kcnt r' else 0
theorem kcnt_ne (c : UInt8) (r : List UInt8) (h : c ≠ 0) : kcnt (c :: r) = 1 + kcnt r := by rw [kcnt.eq_def]; simp [h]
theorem kcnt_zero (d : UInt8) (r : List UInt8) : kcnt (0 :: d :: r) = if d = 1 then 0 else if d = 255 then 1 + kcnt r else 0 := by rw [kcnt.eq_def]; simp
theorem kcnt_end : kcnt [0] = 0 := by rw [kcnt.eq_def]; simp
theorem kcnt_le : ∀ (n : Nat) (l : List UInt8), l.length ≤ n → kcnt l ≤ l.length
  | _, [], _ => by simp [kcnt]
  | 0, c :: r, h => by simp at h
  | n + 1, c :: r, h => by
    by_cases hc : c = 0
    · subst hc
      cases r with
      | nil => rw [kcnt_end]; simp
      | cons d r' =>
        rw [kcnt_zero]
        have := kcnt_le n r' (by simp at h; omega)
        simp only [List.length_cons]
        split
        · omega
        · split <;> omega
    · rw [kcnt_ne _ _ hc]
      have := kcnt_le n r (by simpa using h)
      simp only [List.length_cons]; omega

theorem owns_sl' {w : World} {B n : Nat} {v : Value} {l : List UInt8} (h : w.ownsRow B 5 1 v n (cells8 l)) : Sl w v l := by
  have hl : n = l.length := by have := h.1; rw [cells8_len] at this; omega
  subst hl
  rcases h.2 with ⟨rfl, h0⟩ | ⟨g, cap, cur, rfl, _⟩
  · rw [List.length_eq_zero_iff.1 h0]; exact Sl.nil w
  · exact owns_sl h

set_option maxHeartbeats 400000 in
theorem takeKeyText_out (a : Option Addr) (n cap : Nat) (at_ : Int) (w : World) (h : at_ < 0 ∨ (n : Int) ≤ at_) :
    Calls Tryd.prog 26 #[.slice a n cap, .int .i64 at_] w fun e w' => e = .returned (triS [] 0 false) ∧ w' = w := by
  by_cases h0 : at_ < 0
  · have hb : decide (at_ < 0) = true := decide_eq_true h0
    go_enter Tryd.func26, Tryd.ntmps26
    go_wp2
    go_step3
    go_wp2
    rw [Exit.noGoto_ret]
    go_ret3
    exact ⟨rfl, rfl⟩
  · have hb : decide (at_ < 0) = false := decide_eq_false h0
    have hb2 : decide (at_ < (n : Int)) = false := decide_eq_false (by omega)
    go_enter Tryd.func26, Tryd.ntmps26
    go_wp2
    go_step3
    go_wp2
    go_step3
    go_wp2
    refine wp_loop_rounds 1 ?_
    rw [rounds_succ]
    go_wp2
    rw [Exit.noGoto_ret]
    go_ret3
    exact ⟨rfl, rfl⟩

set_option maxRecDepth 100000 in
set_option maxHeartbeats 1600000 in
theorem takeKeyText_in (b off cap j : Nat) (l : List UInt8) (w : World) (hr : Rd w b off l) (hn : l.length ≤ 281474976710656) (_hc : l.length ≤ cap) (hj : j < l.length) (hcnt : kcnt (l.drop j) ≤ 140737488355328) :
    Calls Tryd.prog 26 #[.slice (some ⟨b, off, none⟩) l.length cap, .int .i64 j] w fun e w' => e = .returned (outS (takeKT (l.drop j)) j) ∧ Below w.heap.size w w' := by
  have HR := hid hr
  clear hr
  go_enter Tryd.func26, Tryd.ntmps26
  go_wp2
  go_step3
  go_wp2
  go_step3
  go_wp2
  go_loopw [7, 8] (fun v i wr => ∃ (k : Nat) (acc : List UInt8), j + k ≤ l.length ∧ i = .int .i64 ((j + k : Nat) : Int) ∧ wr.ownsRow w.heap.size 5 1 v acc.length (cells8 acc) ∧ Below w.heap.size w wr ∧ takeKT (l.drop j) = kdec acc k (l.drop (j + k)) ∧ acc.length + kcnt (l.drop (j + k)) ≤ 140737488355328) (fun _ i _ => l.length - (intOf i).toNat)
  case atStart => exact ⟨0, [], by omega, by simp, World.ownsRow_nil _ _ _ _, Below.refl _ _, rfl, by simpa using hcnt⟩
  case round =>
    obtain ⟨k, acc, hk, rfl, ho, hbel, hd, hcn⟩ := hrel
    have HD := hid hd
    clear hd hcnt
    have HCN := hid hcn
    clear hcn
    have hB := hbel.size
    by_cases hlt : j + k < l.length
    · have hcell := HR.out (j + k) hlt
      rw [← hbel.cell (p := ⟨b, off + (j + k), none⟩) (World.block_lt_of_cell? w _ hcell)] at hcell
      have hx1 := (l.getD (j + k) 0).toNat_lt
      have hdr := drop_cons8 l (j + k) hlt
      unfold at8 at hcell
      by_cases hz : l.getD (j + k) 0 = 0
      · have hbz : (((l.getD (j + k) 0).toNat : Int) != 0) = false := by rw [hz]; rfl
        rw [hz] at hdr
        generalize (l.getD (j + k) 0).toNat = x at *
        clear hz
        by_cases hend : j + k + 1 = l.length
        · have hd2 : takeKT (l.drop j) = none := by rw [HD.out, hdr, hend, List.drop_length, kdec_end]
          have HD2 := hid hd2
          have hbe : (((j + k : Nat) : Int) + 1 == (l.length : Int)) = true := by simp only [beq_iff_eq]; omega
          clear hd2 hdr hend
          go_wp2
          rw [Exit.noGoto_ret]
          go_ret3
          exact ⟨by rw [HD2.out]; rfl, hbel⟩
        · have hlt2 : j + k + 1 < l.length := by omega
          have hcell2 := HR.out (j + k + 1) hlt2
          rw [← hbel.cell (p := ⟨b, off + (j + k + 1), none⟩) (World.block_lt_of_cell? w _ hcell2)] at hcell2
          have hdr2 := drop_cons8 l (j + k + 1) hlt2
          have hx2 := (l.getD (j + k + 1) 0).toNat_lt
          have hbe : (((j + k : Nat) : Int) + 1 == (l.length : Int)) = false := by simp only [beq_eq_false_iff_ne, ne_eq]; omega
          rw [hdr2] at hdr
          have HDR := hid hdr
          clear hdr hdr2 hend
          unfold at8 at hcell2
          have h1i : l.getD (j + k + 1) 0 = 1 ↔ (l.getD (j + k + 1) 0).toNat = 1 := ⟨fun h => by rw [h]; rfl, fun h => u8_ext h⟩
          have h255i : l.getD (j + k + 1) 0 = 255 ↔ (l.getD (j + k + 1) 0).toNat = 255 := ⟨fun h => by rw [h]; rfl, fun h => u8_ext h⟩
          by_cases h1 : (l.getD (j + k + 1) 0).toNat = 1
          · have hd2 : takeKT (l.drop j) = some (acc, k + 2) := by rw [HD.out, HDR.out, kdec_zero, if_pos (h1i.2 h1)]
            have HD2 := hid hd2
            rw [h1] at hcell2
            clear hd2 h1i h255i h1
            have hcv := conv_sl (owns_sl' ho)
            go_wp2
            rw [Exit.noGoto_ret]
            go_ret3
            refine ⟨?_, hbel⟩
            rw [HD2.out]
            show Ending.returned (triS acc ((j : Int) + k + 1 + 1) true) = Ending.returned (triS acc ((j : Int) + ((k + 2 : Nat) : Int)) true)
            have e : (j : Int) + k + 1 + 1 = (j : Int) + ((k + 2 : Nat) : Int) := by omega
            rw [e]
          · have hb1 : (((l.getD (j + k + 1) 0).toNat : Int) == 1) = false := by simp only [beq_eq_false_iff_ne, ne_eq]; omega
            by_cases h2 : (l.getD (j + k + 1) 0).toNat = 255
            · have hd2 : takeKT (l.drop j) = kdec (acc ++ [0]) (k + 2) (l.drop (j + (k + 2))) := by
                rw [HD.out, HDR.out, kdec_zero, if_neg (fun h => h1 (h1i.1 h)), if_pos (h255i.2 h2)]; rfl
              have hc2 : (acc ++ [0]).length + kcnt (l.drop (j + (k + 2))) ≤ 140737488355328 := by
                have := HCN.out
                rw [HDR.out, kcnt_zero, if_neg (fun h => h1 (h1i.1 h)), if_pos (h255i.2 h2)] at this
                rw [List.length_append]; simp only [List.length_singleton]
                have e : j + (k + 2) = j + k + 1 + 1 := by omega
                rw [e]; omega
              have hal : acc.length + 1 ≤ 140737488355328 := by rw [List.length_append] at hc2; simp only [List.length_singleton] at hc2; omega
              have HD2 := hid hd2
              have HC2 := hid hc2
              rw [h2] at hcell2
              clear hd2 hc2 h1i h255i h1 h2 hb1
              go_wp2_with (at_builtin; refine appG [0] #[.int .u8 0] rfl rfl _ _ rfl w.heap.size acc.length 1 1 _ acc rfl rfl rfl (by omega) ho hal hbel hB ?_; intro g cap1 w2 ho2 hbel2 hsz2)
              go_roundw
              case rel =>
                refine ⟨k + 2, acc ++ [0], by omega, by go_num, by simpa using ho2, hbel2, HD2.out, HC2.out⟩
              case measure => simp [intOf]; omega
            · have hb2 : (((l.getD (j + k + 1) 0).toNat : Int) == 255) = false := by simp only [beq_eq_false_iff_ne, ne_eq]; omega
              have hd2 : takeKT (l.drop j) = none := by rw [HD.out, HDR.out, kdec_zero, if_neg (fun h => h1 (h1i.1 h)), if_neg (fun h => h2 (h255i.1 h))]
              have HD2 := hid hd2
              clear hd2 h1i h255i h1 h2
              generalize (l.getD (j + k + 1) 0).toNat = y at *
              go_wp2
              rw [Exit.noGoto_ret]
              go_ret3
              exact ⟨by rw [HD2.out]; rfl, hbel⟩
      · have hzn : (l.getD (j + k) 0).toNat ≠ 0 := fun h => hz (u8_ext (by simpa using h))
        have hd2 : takeKT (l.drop j) = kdec (acc ++ [l.getD (j + k) 0]) (k + 1) (l.drop (j + (k + 1))) := by rw [HD.out, hdr, kdec_ne _ _ _ _ hz]; rfl
        have hc2 : (acc ++ [l.getD (j + k) 0]).length + kcnt (l.drop (j + (k + 1))) ≤ 140737488355328 := by
          have := HCN.out
          rw [hdr, kcnt_ne _ _ hz] at this
          rw [List.length_append]; simp only [List.length_singleton]
          have e : j + (k + 1) = j + k + 1 := by omega
          rw [e]; omega
        have hal : acc.length + 1 ≤ 140737488355328 := by rw [List.length_append] at hc2; simp only [List.length_singleton] at hc2; omega
        have HD2 := hid hd2
        have HC2 := hid hc2
        clear hd2 hc2 hdr
        have hbz : (((l.getD (j + k) 0).toNat : Int) != 0) = true := by simp only [bne_iff_ne, ne_eq]; omega
        have hnews : (#[Value.int .u8 ((l.getD (j + k) 0).toNat : Int)] : Array Value).toList = cells8 [l.getD (j + k) 0] := rfl
        have HN := hid hnews
        clear hnews hz
        generalize l.getD (j + k) 0 = c at *
        go_wp2_with (at_builtin; refine appG [c] #[.int .u8 (c.toNat : Int)] HN.out rfl _ _ rfl w.heap.size acc.length 1 1 _ acc rfl rfl rfl (by omega) ho hal hbel hB ?_; intro g cap1 w2 ho2 hbel2 hsz2)
        go_roundw
        case rel =>
          refine ⟨k + 1, acc ++ [c], by omega, by go_num, by simpa using ho2, hbel2, HD2.out, HC2.out⟩
        case measure => simp [intOf]; omega
    · have hd2 : takeKT (l.drop j) = none := by rw [HD.out, List.drop_eq_nil_of_le (by omega)]; rfl
      have HD2 := hid hd2
      clear hd2
      go_wp2
      rw [Exit.noGoto_ret]
      go_ret3
      exact ⟨by rw [HD2.out]; rfl, hbel⟩

/-- TakeKeyText, whatever it is given. -/
theorem takeKeyText_any (a : Option Addr) (l : List UInt8) (cap : Nat) (at_ : Int) (w : World) (hv : Sl w (.slice a l.length cap) l) (hn : l.length ≤ 281474976710656) (hcnt : kcnt (l.drop at_.toNat) ≤ 140737488355328) :
    Calls Tryd.prog 26 #[.slice a l.length cap, .int .i64 at_] w fun e w' => e = .returned (outS (tKT l at_) at_) ∧ Below w.heap.size w w' := by
  unfold tKT
  obtain ⟨a', cap', he, h2, h3, h4⟩ := hv
  cases he
  by_cases h : 0 ≤ at_ ∧ at_ < l.length
  · obtain ⟨j, rfl⟩ := Int.eq_ofNat_of_zero_le h.1
    rw [if_pos (by omega), Int.toNat_natCast]
    rw [Int.toNat_natCast] at hcnt
    obtain ⟨b, off, rfl, hr⟩ := h4 (by intro e; rw [e] at h; simp at h; omega)
    exact takeKeyText_in b off cap j l w hr hn h2 (by omega) hcnt
  · have e : (if 0 ≤ at_ ∧ at_ ≤ l.length then takeKT (l.drop at_.toNat) else none) = none := by
      by_cases h' : 0 ≤ at_ ∧ at_ ≤ l.length
      · rw [if_pos h', List.drop_eq_nil_of_le (by omega)]; rfl
      · rw [if_neg h']
    rw [e]
    exact (takeKeyText_out a l.length cap at_ w (by omega)).mono fun e w' ⟨h1, h2⟩ => ⟨h1, h2 ▸ Below.refl _ _⟩
end Go.Proofs.YtpflajehakiloaaDoor
