/- The walk of WireSums. -/
import Derived.Test.YtlddkbmfkipmpaaDoorWRefCrc
import Derived.Test.YtlddkbmfkipmpaaDoorWPartsArg
namespace Go.Proofs.YtlddkbmfkipmpaaDoor
open Go Go.RowKit

theorem Parts.below {w w' : World} {a : Option Addr} {ps : List (List UInt8)} (h : Parts w a ps) (hB : Below w.heap.size w w') : Parts w' a ps := fun k hk => by
  obtain ⟨b, o, ap, cp, e, hc, hs⟩ := h k hk
  refine ⟨b, o, ap, cp, e, ?_, hs.below hB⟩
  rw [hB.cell (p := ⟨b, o + k, none⟩) (World.block_lt_of_cell? w _ hc)]; exact hc
theorem parts1 (w : World) (a : Option Addr) (cap : Nat) (l : List UInt8) (hv : Sl w (.slice a l.length cap) l) : Parts (w.alloc (.cells #[.slice a l.length cap] 22)) (some ⟨w.heap.size, 0, none⟩) [l] := by
  intro k hk
  have hk0 : k = 0 := by simpa using hk
  subst hk0
  have hc := World.cell?_alloc_mark w #[.slice a l.length cap] 22 (0, 0) 0
  exact ⟨w.heap.size, 0, a, cap, rfl, hc, sl_alloc hv _⟩
theorem one_len {m : List UInt8} {n : Nat} (h : m.length ≤ n) : ∀ l ∈ [m], l.length ≤ n := by
  intro l hl
  have e : l = m := by simpa using hl
  rw [e]; exact h
theorem parts1' (w : World) (a : Option Addr) (n cap : Nat) (l : List UInt8) (hl : l.length = n) (hv : Sl w (.slice a n cap) l) : Parts (w.alloc (.cells #[.slice a n cap] 22)) (some ⟨w.heap.size, 0, none⟩) [l] := by
  subst hl; exact parts1 w a cap l hv
theorem bits_xor_u8_nat (a b : Nat) (ha : a < 256) (hb : b < 256) : bits .xor .u8 (a : Int) (b : Int) = ((a ^^^ b : Nat) : Int) := by
  have hx : a ^^^ b < 2 ^ 8 := Nat.xor_lt_two_pow (by omega) (by omega)
  have h1 : (BitVec.ofInt 8 (a : Int)).toNat = a := by
    rw [BitVec.ofInt_natCast, BitVec.toNat_ofNat]; exact Nat.mod_eq_of_lt (by omega)
  have h2 : (BitVec.ofInt 8 (b : Int)).toNat = b := by
    rw [BitVec.ofInt_natCast, BitVec.toNat_ofNat]; exact Nat.mod_eq_of_lt (by omega)
  show IntKind.u8.wrap ((BitVec.ofInt 8 (a : Int) ^^^ BitVec.ofInt 8 (b : Int)).toNat : Int) = _
  rw [BitVec.toNat_xor, h1, h2, IntKind.wrap_u8]
  omega
theorem flat_take (ps : List (List UInt8)) (k : Nat) (h : k < ps.length) : (ps.take (k + 1)).flatten = (ps.take k).flatten ++ ps.getD k [] := by
  rw [List.take_add_one, List.flatten_append]
  simp [List.getD, h]
theorem flat_take_len (ps : List (List UInt8)) (k : Nat) : (ps.take k).flatten.length ≤ ps.flatten.length := by
  have h : ps.flatten = (ps.take k).flatten ++ (ps.drop k).flatten := by rw [← List.flatten_append, List.take_append_drop]
  rw [h, List.length_append]; omega
theorem part_len (ps : List (List UInt8)) : ∀ l ∈ ps, l.length ≤ ps.flatten.length := by
  induction ps with
  | nil => intro l h; cases h
  | cons p r ih =>
    intro l h
    rw [List.flatten_cons, List.length_append]
    rcases List.mem_cons.1 h with rfl | h
    · omega
    · have := ih l h; omega
/-- One byte of a row, written anew. -/
theorem rd_set {w : World} {g k : Nat} {l : List UInt8} (h : Rd w g 0 l) (hk : k < l.length) (c : UInt8) : Rd (w.setCell ⟨g, k, none⟩ (.int .u8 (c.toNat : Int))) g 0 (l.set k c) := fun j hj => by
  rw [List.length_set] at hj
  rw [Nat.zero_add]
  have hj' := h j hj
  rw [Nat.zero_add] at hj'
  by_cases e : j = k
  · subst e
    rw [World.cell?_setCell_same _ _ _ hj']
    simp [at8, List.getD, hj]
  · rw [World.cell?_setCell_other _ _ _ _ (by simp <;> omega), hj']
    simp [at8, List.getD, List.getElem?_set_ne (show k ≠ j by omega)]
theorem owns_frozen {w : World} {B g n cap : Nat} {xs : List Value} (h : w.ownsRow B 5 1 (.slice (some ⟨g, 0, none⟩) n cap) n xs) (k : Nat) : w.frozen? ⟨g, k, none⟩ = false := by
  rcases h.2 with ⟨h, _⟩ | ⟨g', cap', cur, hv, hb, hg, _⟩
  · cases h
  · cases hv
    simp [World.frozen?, hg]
theorem list_split (l : List UInt8) (k : Nat) (h : k < l.length) : l = l.take k ++ l.getD k 0 :: l.drop (k + 1) := by
  rw [← drop_cons8 l k h, List.take_append_drop]
theorem set_split (l : List UInt8) (k : Nat) (c : UInt8) (h : k < l.length) : l.set k c = l.take k ++ c :: l.drop (k + 1) := List.set_eq_take_append_cons_drop.trans (by rw [if_pos h])

set_option maxRecDepth 100000 in
set_option maxHeartbeats 2000000 in
theorem wireSums_walk (a : Option Addr) (ps : List (List UInt8)) (cap : Nat) (at_ by_ : Int) (w : World) (ht : Tab w) (hp : Parts w a ps) (a0 : -9223372036854775808 ≤ at_) (a1 : at_ ≤ 9223372036854775807) (b0 : 0 ≤ by_) (b1 : by_ ≤ 255) (hup : ps.length + ps.flatten.length ≤ 1048576) :
    Calls Tryd.prog 5 #[.slice a ps.length cap, .int .i64 at_, .int .u8 by_] w fun e w' => e = .returned (.bool true) ∧ Below w.heap.size w w' := by
  have HT := hid ht
  have HP := hid hp
  have hq := fun l hl => Nat.le_trans (part_len ps l hl) (show ps.flatten.length ≤ 281474976710656 by omega)
  have HQ := hid hq
  clear ht hp hq
  obtain ⟨by_, rfl⟩ := Int.eq_ofNat_of_zero_le b0
  generalize hN : ps.length = N at *
  have HN := hid hN
  clear hN
  go_enter Tryd.func5, Tryd.ntmps5
  go_wp2_with fail
  refine (shown_any w HT.out).mono ?_
  rintro e w1 ⟨rfl, hB1⟩
  have HP1 := hid (HP.out.below hB1)
  have HT1 := hid (HT.out.below hB1)
  go_wp2_with fail
  go_loopw [8, 9] (fun v i wr => ∃ (k : Nat) (m : List UInt8), k ≤ N ∧ i = .int .i64 k ∧ m = (ps.take k).flatten ∧ wr.ownsRow w1.heap.size 5 1 v m.length (cells8 m) ∧ Below w1.heap.size w1 wr) (fun _ i _ => N - (intOf i).toNat)
  case atStart => exact ⟨0, [], by omega, rfl, rfl, World.ownsRow_nil _ _ _ _, Below.refl _ _⟩
  case round =>
    obtain ⟨k, m, hk, rfl, hm, ho, hbel⟩ := hrel
    have hB := hbel.size
    have HM := hid hm
    clear hm
    by_cases hlt : k < N
    · obtain ⟨b, o, ap, cp, rfl, hcell, hsl⟩ := (HP1.out.below hbel) k (by rw [HN.out]; exact hlt)
      have hfl := flat_take ps k (by rw [HN.out]; exact hlt)
      have hfl2 := flat_take_len ps (k + 1)
      rw [hfl, ← HM.out, List.length_append] at hfl2
      rw [← HM.out] at hfl
      have HF := hid hfl
      have HSL := hid hsl
      clear hfl hsl
      generalize ps.getD k [] = lp at *
      have hbn : m.length + lp.length ≤ 140737488355328 := by omega
      clear hfl2
      go_wp2_with (at_builtin; refine appS lp rfl _ _ rfl w1.heap.size m.length _ _ m rfl rfl HSL.out ho hbn hbel hB ?_; intro v2 w2 ho2 hbel2 hsz2)
      go_roundw
      case rel => exact ⟨k + 1, m ++ lp, by omega, by go_num, HF.out.symm, by simpa using ho2, hbel2⟩
      case measure => simp [intOf]; omega
    · have hall : m = ps.flatten := by rw [HM.out, List.take_of_length_le (by rw [HN.out]; omega)]
      have HA := hid hall
      clear hall HM
      have hml : m.length ≤ 1048576 := by rw [HA.out]; omega
      have hBw := Below.next hB1 hbel
      go_wp2_with fail
      refine (crc_any a N cap ps wr (HP1.out.below hbel) HN.out (by omega) HQ.out (HT1.out.below hbel)).mono ?_
      rintro e wr ⟨rfl, rfl⟩
      rw [← HA.out]
      have hSl := owns_sl' ho
      have HO := hid ho
      have HSl := hid hSl
      obtain ⟨va, vc, rfl, q2, -, -⟩ := hSl
      clear ho
      have hcc : ((crcOf m : Nat) : Int) = ((crcOf m : Nat) : Int) := rfl
      clear hcc
      generalize hcm : crcOf m = cc
      have HCM := hid hcm
      clear hcm
      go_wp2_with fail
      refine (refCrc_v va vc m wr HSl.out (by omega)).mono ?_
      rintro e wr ⟨rfl, rfl⟩
      rw [HCM.out]
      go_wp2_with fail
      refine (crc_any _ 1 1 [m] _ (parts1 wr va vc m HSl.out) rfl (by decide) (one_len (by omega)) (tab_alloc (HT1.out.below hbel) _)).mono ?_
      rintro e w2 ⟨rfl, rfl⟩
      rw [show ([m] : List (List UInt8)).flatten = m by simp, HCM.out]
      by_cases hz : m.length = 0
      · have hzb : ((m.length : Int) == 0) = true := by simp only [beq_iff_eq]; omega
        go_wp2
        go_ret
        exact ⟨rfl, hBw.alloc hBw.size _⟩
      · have hzb : ((m.length : Int) == 0) = false := by simp only [beq_eq_false_iff_ne, ne_eq]; omega
        by_cases hby : by_ = 0
        · have hbb : ((by_ : Int) == 0) = true := by simp only [beq_iff_eq]; omega
          go_wp2
          go_ret
          exact ⟨rfl, hBw.alloc hBw.size _⟩
        · have hbb : ((by_ : Int) == 0) = false := by simp only [beq_eq_false_iff_ne, ne_eq]; omega
          obtain ⟨g, cap2, hform, hBg, hgl⟩ := HO.out.form (by omega)
          cases hform
          obtain ⟨c, hc⟩ : ∃ c : Nat, at_ < 0 ∧ -(at_ + 1) = (c : Int) ∨ ¬ at_ < 0 ∧ at_ = (c : Int) := by
            by_cases h : at_ < 0
            · exact ⟨(-(at_ + 1)).toNat, .inl ⟨h, by omega⟩⟩
            · exact ⟨at_.toNat, .inr ⟨h, by omega⟩⟩
          have hcb : (c : Int) ≤ 9223372036854775807 := by omega
          have hmp : 0 < m.length := by omega
          have n2 : c % m.length < m.length := Nat.mod_lt _ hmp
          have m2a : 0 ≤ (c : Int) % (m.length : Int) := Int.emod_nonneg _ (by omega)
          have m2b : (c : Int) % (m.length : Int) < (m.length : Int) := Int.emod_lt_of_pos _ (by omega)
          have hcell := owns_rd HO.out (c % m.length) n2
          rw [Nat.zero_add] at hcell
          have hcell2 : (wr.alloc (.cells #[.slice (some ⟨g, 0, none⟩) m.length vc] 22)).cell? ⟨g, c % m.length, none⟩ = some (.int .u8 (at8 m (c % m.length))) := (World.cell?_alloc_lt _ _ _ hgl).trans hcell
          have hfr : (wr.alloc (.cells #[.slice (some ⟨g, 0, none⟩) m.length vc] 22)).frozen? ⟨g, c % m.length, none⟩ = false := by
            have := owns_frozen (HO.out.alloc (.cells #[.slice (some ⟨g, 0, none⟩) m.length vc] 22)) (c % m.length)
            exact this
          have hx1 := (m.getD (c % m.length) 0).toNat_lt
          have hxor := bits_xor_u8_nat (m.getD (c % m.length) 0).toNat by_ (by omega) (by omega)
          have hyb : (m.getD (c % m.length) 0).toNat ^^^ by_ < 256 := by
            have : (m.getD (c % m.length) 0).toNat ^^^ by_ < 2 ^ 8 := Nat.xor_lt_two_pow (by omega) (by omega)
            simpa using this
          unfold at8 at hcell2
          clear hcell
          have hne : m.getD (c % m.length) 0 ≠ UInt8.ofNat ((m.getD (c % m.length) 0).toNat ^^^ by_) := by
            intro h
            have h1 := congrArg UInt8.toNat h
            rw [u8_ofNat hyb] at h1
            have h2 : (m.getD (c % m.length) 0).toNat ^^^ by_ = (m.getD (c % m.length) 0).toNat ^^^ 0 := by rw [Nat.xor_zero]; omega
            exact hby (xor_l h2)
          have hoth := crcOf_other (m.take (c % m.length)) (m.drop (c % m.length + 1)) _ _ hne
          rw [← list_split m _ n2, ← set_split m _ _ n2, HCM.out] at hoth
          have hrd := rd_set (k := c % m.length) (owns_rd HO.out) n2 (UInt8.ofNat ((m.getD (c % m.length) 0).toNat ^^^ by_))
          rw [u8_ofNat hyb] at hrd
          clear hne
          generalize (m.getD (c % m.length) 0).toNat ^^^ by_ = y at *
          generalize (m.getD (c % m.length) 0).toNat = x at *
          have hsl2 := Sl.mk hrd (cap := vc) (by rw [List.length_set]; exact q2)
          rw [List.length_set] at hsl2
          have hsl3 := sl_alloc hsl2 (.cells #[.slice (some ⟨g, 0, none⟩) m.length vc] 22)
          have HSL2 := hid hsl3
          have hnb : (((crcOf (m.set (c % m.length) (UInt8.ofNat y)) : Nat) : Int) != (cc : Int)) = true := by simp only [bne_iff_ne, ne_eq]; omega
          have hsetl : (m.set (c % m.length) (UInt8.ofNat y)).length = m.length := List.length_set
          have HSE := hid hsetl
          clear hsl2 hsl3 hrd hoth hsetl
          generalize m.set (c % m.length) (UInt8.ofNat y) = m2 at *
          have hB2 : Below w1.heap.size w1 ((wr.setCell ⟨g, c % m.length, none⟩ (.int .u8 (y : Int))).alloc (.cells #[.slice (some ⟨g, 0, none⟩) m.length vc] 22)) := (hbel.setCell hBg _).alloc (by simp; omega) _
          have hWs : ((wr.setCell ⟨g, c % m.length, none⟩ (.int .u8 (y : Int))).alloc (.cells #[.slice (some ⟨g, 0, none⟩) m.length vc] 22)).heap.size = wr.heap.size + 1 := by simp
          have hpt := parts1' _ (some ⟨g, 0, none⟩) m.length vc m2 HSE.out HSL2.out
          rw [hWs] at hpt
          have HB2 := hid hB2
          have HPT := hid hpt
          clear hB2 hpt hWs
          rcases hc with ⟨hc1, hc2⟩ | ⟨hc1, hc2⟩
          all_goals
            have HC2 := hid hc2
            clear hc2
            first | (have hcw : -(at_ + 1) = (c : Int) := HC2.out) | (have hcw : at_ = (c : Int) := HC2.out)
            go_wp2_with fail
            refine (crc_any _ 1 1 [m2] _ HPT.out rfl (by decide) (one_len (by rw [HSE.out]; omega)) (tab_alloc (HT1.out.below HB2.out) _)).mono ?_
            rintro e w2 ⟨rfl, rfl⟩
            rw [show ([m2] : List (List UInt8)).flatten = m2 by simp]
            go_wp2
            go_ret
            have hB3 := Below.next hB1 HB2.out
            exact ⟨rfl, hB3.alloc hB3.size _⟩
end Go.Proofs.YtlddkbmfkipmpaaDoor
