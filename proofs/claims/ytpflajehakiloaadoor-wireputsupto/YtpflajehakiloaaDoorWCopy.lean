/- The walks of wire's copyWithRoom and appendInt. -/
import Derived.Test.YtpflajehakiloaaDoorWBase
namespace Go.Proofs.YtpflajehakiloaaDoor
open Go Go.RowKit

theorem sl_cells {w w' : World} {a : Option Addr} {cap : Nat} {l : List UInt8} (hv : Sl w (.slice a l.length cap) l) (hg : w.grownBy w' none) :
    ∀ ad, a = some ad → ∀ j u, (cells8 l)[j]? = some u → w'.cell? (ad.add j) = some u := by
  rintro ad rfl j u hu
  have hj : j < l.length := by have := (List.getElem?_eq_some_iff.1 hu).1; rwa [cells8_len] at this
  obtain ⟨a', cap', he, _, _, h4⟩ := hv
  cases he
  obtain ⟨b, off, e, hr⟩ := h4 (by intro h; rw [h] at hj; simp at hj)
  obtain rfl := Option.some.inj e
  rw [Addr.add_lit]
  rw [cells8_get l j hj] at hu
  rw [← hu]
  exact hg.cell (hr j hj) (by simp)

set_option maxHeartbeats 400000 in
theorem copy_any (a : Option Addr) (l : List UInt8) (cap : Nat) (r : Int) (w : World) (hv : Sl w (.slice a l.length cap) l) (hr : 0 ≤ r) (hb : (l.length : Int) + r ≤ 281474976710656) :
    Calls Tryd.prog 32 #[.slice a l.length cap, .int .i64 r] w fun e w' => e = .returned (.slice (some ⟨w.heap.size, 0, none⟩) l.length (l.length + r.toNat)) ∧
      w'.ownsRow w.heap.size 5 1 (.slice (some ⟨w.heap.size, 0, none⟩) l.length (l.length + r.toNat)) l.length (cells8 l) ∧ Below w.heap.size w w' := by
  obtain ⟨i0, hi0, hz0, hz1, hz2⟩ := info_parts info8
  have hN : a = none → l.length = 0 ∧ cap = 0 := by
    intro h
    obtain ⟨a', cap', he, h2, h3, h4⟩ := hv
    cases he
    have := h3 h
    omega
  have HV : Hid (Sl w (.slice a l.length cap) l) := hv
  clear hv
  go_enter Tryd.func32, Tryd.ntmps32
  go_wp2_with (first
    | (at_make; refine wpList_make_own _ rfl _ _ 22 rfl w.heap.size 5 i0 (.int .u8 0) 1 Tryd.underlying22 hi0 hz0 hz1 _ _ _ (l.length + r.toNat) rfl rfl (by omega) (by rw [hz2]; omega) (by unfold maxLen; omega) (Nat.le_refl _) ?_; intro w0 hown0 hgrow0)
    | (at_builtin; refine wpList_append_fits_any _ rfl _ _ 22 rfl w.heap.size 5 i0 1 Tryd.underlying22 hi0 hz1 w.heap.size 0 (l.length + r.toNat) _ rfl hown0 a l.length cap (cells8 l) rfl (by rw [cells8_len]; omega) hN (sl_cells HV.out hgrow0) (cells8_one l) (by omega) ?_; intro w1 hown1 hgrow1))
  simp only [Nat.zero_add, List.nil_append] at hown1 ⊢
  go_ret
  exact ⟨rfl, hown1, ((Below.refl _ _).grown hgrow0 (Nat.le_refl _) (fun k h => by cases h)).grown hgrow1 hgrow0.size (fun k hk => by cases hk; exact Nat.le_refl _)⟩

/-- The loop's part of a number's bytes: those laid so far, and what is left. -/
theorem vb_step {u : Nat} (h : ¬ u < 128) : cells8 (vb u) = [Value.int .u8 ((u : Int) % 128 + 128)] ++ cells8 (vb (u / 128)) := by
  rw [vb_ge h]
  have : (UInt8.ofNat (u % 128 + 128)).toNat = u % 128 + 128 := u8_ofNat (by omega)
  simp [cells8, cb]; omega

set_option maxRecDepth 100000 in
set_option maxHeartbeats 800000 in
theorem appInt_any (B g cap : Nat) (l : List UInt8) (n : Int) (w : World) (h0 : -9223372036854775808 ≤ n) (h1 : n ≤ 9223372036854775807)
    (hown : w.ownsRow B 5 1 (.slice (some ⟨g, 0, none⟩) l.length cap) l.length (cells8 l)) (hroom : l.length + (vb (zig n)).length ≤ cap) (hB : B ≤ w.heap.size) :
    Calls Tryd.prog 31 #[.slice (some ⟨g, 0, none⟩) l.length cap, .int .i64 n] w fun e w' => e = .returned (.slice (some ⟨g, 0, none⟩) (l ++ vb (zig n)).length cap) ∧
      w'.ownsRow B 5 1 (.slice (some ⟨g, 0, none⟩) (l ++ vb (zig n)).length cap) (l ++ vb (zig n)).length (cells8 (l ++ vb (zig n))) ∧ Below B w w' := by
  obtain ⟨i0, hi0, hz0, hz1, hz2⟩ := info_parts info8
  have hz := zig_lt h0 h1
  go_enter Tryd.func31, Tryd.ntmps31
  go_wp2_with (go_at_call 38; refine (fold_any n h0 h1 _).mono ?_; rintro e w ⟨rfl, rfl⟩)
  go_loopw [0, 5] (fun v u wr => ∃ (m : List UInt8) (q : Nat), q < 18446744073709551616 ∧ u = .int .u64 q ∧ m ++ vb q = l ++ vb (zig n) ∧ v = .slice (some ⟨g, 0, none⟩) m.length cap ∧ wr.ownsRow B 5 1 (.slice (some ⟨g, 0, none⟩) m.length cap) m.length (cells8 m) ∧ Below B w wr ∧ B ≤ wr.heap.size) (fun _ u _ => (intOf u).toNat)
  case atStart => exact ⟨l, zig n, hz, rfl, rfl, rfl, hown, Below.refl _ _, hB⟩
  case round =>
    obtain ⟨m, q, hq, rfl, hm, rfl, ho, hbel, hBr⟩ := hrel
    have hlen : m.length + (vb q).length = l.length + (vb (zig n)).length := by have := congrArg List.length hm; simpa using this
    have HM : Hid (m ++ vb q = l ++ vb (zig n)) := hm
    clear hm hown
    have hvp := vb_pos q
    by_cases hlt : q < 128
    · have hcell : cells8 m ++ [Value.int .u8 (q : Int)] = cells8 (l ++ vb (zig n)) := by
        rw [← HM.out, ← cells8_append, vb_lt hlt, cells8_ofInt (q : Int) (by omega) (by omega)]; simp
      have hl1 : m.length + 1 = (l ++ vb (zig n)).length := by rw [← HM.out, vb_lt hlt]; simp
      have HC := hid hcell
      have HL := hid hl1
      clear hcell hl1
      go_wp2_with (at_builtin; refine wpList_append_fits _ rfl _ _ 22 rfl B 5 i0 1 Tryd.underlying22 hi0 hz1 g m.length cap _ rfl (ho.alloc _) ⟨wr.heap.size, 0, none⟩ 1 1 [.int .u8 (q : Int)] rfl (by rfl) (World.news_of_block (cs := #[.int .u8 (q : Int)]) (t := 5) (fr := (0, 0)) (heap_alloc_new wr _)) (by simp [Value.oneCell']) (by omega) ?_; intro w1 hown1 hgrow1)
      go_ret
      rw [HC.out, HL.out] at hown1
      rw [HL.out]
      exact ⟨rfl, hown1, (hbel.alloc hBr _).grown hgrow1 (by simp; omega) (fun k hk => by cases hk; exact (owns_cap ho).2.2.1)⟩
    · have hcell := vb_step hlt
      have hvl : (vb q).length = (vb (q / 128)).length + 1 := by rw [vb_ge hlt]; simp
      have HVL := hid hvl
      have HC := hid hcell
      clear hcell hvl
      go_wp2_with (at_builtin; refine wpList_append_fits _ rfl _ _ 22 rfl B 5 i0 1 Tryd.underlying22 hi0 hz1 g m.length cap _ rfl (ho.alloc _) ⟨wr.heap.size, 0, none⟩ 1 1 [.int .u8 ((q : Int) % 128 + 128)] rfl (by rfl) (World.news_of_block (cs := #[.int .u8 ((q : Int) % 128 + 128)]) (t := 5) (fr := (0, 0)) (heap_alloc_new wr _)) (by simp [Value.oneCell']) (by omega) ?_; intro w1 hown1 hgrow1)
      go_roundw
      case rel =>
        have e8 : UInt8.ofNat (q % 128 + 128) :: vb (q / 128) = vb q := (vb_ge hlt).symm
        have hc1 : cells8 m ++ [Value.int .u8 ((q : Int) % 128 + 128)] = cells8 (m ++ [UInt8.ofNat (q % 128 + 128)]) := by
          rw [← cells8_append, cells8_ofInt _ (by omega) (by omega)]
          congr 4
        rw [hc1] at hown1
        refine ⟨m ++ [UInt8.ofNat (q % 128 + 128)], q / 128, by omega, by go_num, ?_, by simp, by simpa using hown1, (hbel.alloc hBr _).grown hgrow1 (by simp; omega) (fun k hk => by cases hk; exact (owns_cap ho).2.2.1), ?_⟩
        · rw [List.append_assoc, List.singleton_append, e8, HM.out]
        · have := hgrow1.size; simp at this; omega
      case measure => simp [intOf]; omega
end Go.Proofs.YtpflajehakiloaaDoor
