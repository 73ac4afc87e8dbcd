/- Blocks of a journal that follow each other, read; a head read, and laid to be written. -/
import Derived.Test.YtdbgccgjdgomkaaGreatDoorPAlsoWC
import Derived.Laws.MakeOwn
namespace Go.Proofs.YtdbgccgjdgomkaaGreatDoor
open Go Go.RowKit

/-- The bytes of blocks that follow each other. -/
def cat (bl : List (List UInt8)) (f n : Nat) : List UInt8 := ((bl.drop f).take n).flatten
theorem cat_zero (bl : List (List UInt8)) (f : Nat) : cat bl f 0 = [] := by simp [cat]
theorem cat_succ (bl : List (List UInt8)) (f n : Nat) (b : List UInt8) (h : bl[f + n]? = some b) : cat bl f (n + 1) = cat bl f n ++ b := by
  unfold cat
  rw [List.take_add_one, List.getElem?_drop, h]
  simp
theorem cat_len (bl : List (List UInt8)) (hl : ∀ b ∈ bl, b.length = 112) (f : Nat) : ∀ n, f + n ≤ bl.length → (cat bl f n).length = n * 112
  | 0, _ => by simp [cat]
  | n + 1, h => by
    obtain ⟨b, hb⟩ : ∃ b, bl[f + n]? = some b := ⟨_, List.getElem?_eq_getElem (by omega)⟩
    rw [cat_succ bl f n b hb, List.length_append, cat_len bl hl f n (by omega), hl b (List.mem_of_getElem? hb)]
    omega
/-- Bytes are put behind bytes. -/
theorem more_bytes {w : World} {B : Nat} {v : Value} {l : List UInt8} (h : w.ownsRow B 5 1 v l.length (cells8 l)) {g m c : Nat} {b : List UInt8} (hb : Rd w g 0 b) (hm : b.length = m) (hn : l.length ≤ 1000000) (hmb : m ≤ 1000000) (hB : B ≤ w.heap.size) (ty : TypeId) :
    ∃ v' w', (Builtin.append_ #[49, 49] ty #[v, .slice (some ⟨g, 0, none⟩) m c]).run Tryz.prog w = .ok v' w' ∧ w'.ownsRow B 5 1 v' (l ++ b).length (cells8 (l ++ b)) ∧ Below B w w' := by
  obtain ⟨i0, hie, hz0, hz1, hz2⟩ := info_parts info8
  obtain ⟨v', w', hr, ho, hg, _, _⟩ := run_append_own_at (P := Tryz.prog) (w := w) B 49 ty 5 i0 (.int .u8 0) 1 1 Tryz.underlying49 hie hz0 hz1 hz2 rfl (by decide) v l.length _ h ⟨g, 0, none⟩ m c (cells8 b)
    (by rw [cells8_len, hm, Nat.mul_one]) (fun j u hj => by
      have hjl : j < b.length := by have := (List.getElem?_eq_some_iff.1 hj).1; rwa [cells8_len] at this
      rw [cells8_get b j hjl] at hj
      cases hj
      rw [Addr.add_lit]
      exact hb j hjl) (cells8_one b) (by unfold maxLen; omega) (by omega) hB
  refine ⟨v', w', hr, ?_, ?_⟩
  · rw [cells8_append, ← hm, ← List.length_append] at ho
    exact ho
  · exact (Below.refl B w).grown hg hB (fun k e => by
      rcases h.2 with ⟨rfl, _⟩ | ⟨g2, cap, cur, rfl, hb2, _, _⟩
      · simp [Value.ownBlock] at e
      · obtain rfl : g2 = k := by simpa [Value.ownBlock] using e
        exact hb2)
theorem owns_below2 {w w' : World} {B : Nat} {t : TypeId} {v : Value} {n : Nat} {xs : List Value} (h : w.ownsRow B t 1 v n xs) (hB : Below w.heap.size w w') : w'.ownsRow B t 1 v n xs := owns_fr (X := []) h (Fr.of_below hB) (by simp)
set_option maxRecDepth 100000 in
set_option maxHeartbeats 1000000 in
theorem readBlocks_any {w : World} {j p : Nat} {X : List Nat} {s : DS} {sq cnt : Nat} {bl : List (List UInt8)} (h : Jr w j p X s sq cnt bl) (f n : Nat) (hn : f + n ≤ bl.length) (hn2 : n ≤ 100) :
    Calls Tryz.prog 62 #[.pointer (some ⟨j, 0, none⟩), .int .i64 f, .int .i64 n] w fun e w' => ∃ v, e = .returned (.tuple #[v, .int .i64 0]) ∧ w'.ownsRow w.heap.size 5 1 v (n * 112) (cells8 (cat bl f n)) ∧ Below w.heap.size w w' := by
  obtain ⟨B, hB⟩ : ∃ B, w.heap.size = B := ⟨_, rfl⟩
  obtain ⟨i0, hie, hz0, hz1, hz2⟩ := info_parts info8
  obtain ⟨w1, hmk, ho1, hg1⟩ := run_make_own (P := Tryz.prog) w w.heap.size 49 5 i0 (.int .u8 0) 1 Tryz.underlying49 hie hz0 hz1 .i64 .i64 (n * 112) (by rw [hz2]; omega) (by unfold maxLen; omega) (Nat.le_refl _)
  have hB1 : Below w.heap.size w w1 := (Below.refl _ w).grown hg1 (Nat.le_refl _) (fun k e => by cases e)
  have hnb := h.nb
  have hbl : bl.length = nbOf s.n := h.sett.con.len
  obtain ⟨nn, hnn⟩ : ∃ nn, n * 112 = nn := ⟨_, rfl⟩
  have hmu : IntKind.i64.wrap ((n : Int) * 112) = (nn : Int) := by rw [IntWalk.i64_in _ ⟨by omega, by omega⟩]; omega
  rw [hnn] at hmk ho1 ⊢
  rw [hB] at hmk ho1 hB1 ⊢
  have HNN := hid hnn
  have HMK := hid hmk
  have H1 := hid (And.intro ho1 hB1)
  have HJ := hid h
  have HN := hid (show f + n ≤ bl.length ∧ n ≤ 100 ∧ bl.length < 8192 from ⟨hn, hn2, by omega⟩)
  have HB := hid hB
  have HMUL := hid hmu
  clear hmk ho1 hB1 hg1 h hn hn2 hnb hbl hB hie hz0 hz1 hz2 hnn hmu
  go_enter Tryz.func62, Tryz.ntmps62
  go_upto_region 1 with fail
  refine wp_region_lit ?_
  refine wp_y (v := .int .i64 n) rfl rfl (y_move rfl (by kernel_rfl) (by kernel_rfl)) rfl ?_
  refine wp_y (v := .int .i64 (nn : Nat)) rfl rfl (y_bin (k := .i64) (k' := .i64) (m := n) (n := 112) rfl (by kernel_rfl) (by kernel_rfl) (by kernel_rfl) (qmul _ _ _ HMUL.out)) rfl ?_
  refine wp_run (v := .slice (some ⟨B, 0, none⟩) 0 nn) rfl rfl (run_mkOp rfl (by kernel_rfl) (by kernel_rfl) HMK.out) rfl ?_
  refine wp_y (v := .slice (some ⟨B, 0, none⟩) 0 nn) rfl rfl (y_assign rfl (by kernel_rfl) (by kernel_rfl)) rfl ?_
  try simp only [List.setIfInBounds_toArray, List.set_cons_zero, List.set_cons_succ]
  refine wp_end ?_
  clear HMK
  go_wp2_with fail
  go_loopw [16, 8, 9, 10, 11] (fun y v _ _ _ wr => ∃ k : Nat, k ≤ n ∧ y = .int .i64 k ∧ wr.ownsRow B 5 1 v (k * 112) (cells8 (cat bl f k)) ∧ Below B w wr) (fun y _ _ _ _ _ => n - (intOf y).toNat)
  case atStart => exact ⟨0, Nat.zero_le _, rfl, by rw [cat_zero, Nat.zero_mul]; exact H1.out.1, H1.out.2⟩
  case round =>
    clear H1
    obtain ⟨k, hk, rfl, ho, hBr⟩ := hrel
    have hnn := HN.out
    have hwk : IntKind.i64.wrap ((k : Int) + 1) = ((k + 1 : Nat) : Int) := by rw [IntWalk.i64_in _ ⟨by omega, by omega⟩]; omega
    by_cases hlt : k < n
    · have hlt' : (k : Int) < (n : Int) := by omega
      have hwf : IntKind.i64.wrap ((f : Int) + (k : Int)) = ((f + k : Nat) : Int) := by rw [IntWalk.i64_in _ ⟨by omega, by omega⟩]; omega
      obtain ⟨b, hb⟩ : ∃ b, bl[f + k]? = some b := ⟨_, List.getElem?_eq_getElem (by omega)⟩
      have hJr := HJ.out.below (by rw [HB.out]; exact hBr)
      have hlen : b.length = 112 := hJr.sett.con.lens b (List.mem_of_getElem? hb)
      have hcl := cat_len bl hJr.sett.con.lens f k (by omega)
      have HRD := hid (hJr.readS hb)
      have HO := hid ho
      have HBR := hid hBr
      have HK := hid (And.intro hlt (And.intro hb (And.intro hlen hcl)))
      clear ho hBr hJr hb hlen hcl hlt hk
      obtain ⟨fk, hfk⟩ : ∃ fk, fk = f + k := ⟨_, rfl⟩
      rw [← hfk] at hwf HRD
      have HFK := hid hfk
      clear hfk
      have hfkI : (f : Int) + (k : Int) = (fk : Int) := by have := HFK.out; omega
      go_wp2_with fail
      refine HRD.out.mono ?_
      rintro e w3 ⟨hB3, g, fr, hg, rfl, hfr, hfl, hft, hsl⟩
      have hkk := HK.out
      have hrd : Rd w3 g 0 b := by
        have h1 := hfr.rd.part 0 112
        rw [List.drop_zero, hft] at h1
        exact h1
      have ho3 := owns_below2 HO.out hB3
      have hBs : B ≤ w3.heap.size := by have := HBR.out.size; have := hB3.size; have := HB.out; omega
      rw [← hkk.2.2.2] at ho3
      obtain ⟨v', w4, hap, ho4, hB4⟩ := more_bytes (c := 112) ho3 hrd hkk.2.2.1 (by rw [hkk.2.2.2]; omega) (by decide) hBs 49
      rw [← cat_succ bl f k b hkk.2.1] at ho4
      have hl4 : (cat bl f (k + 1)).length = (k + 1) * 112 := by rw [cat_succ bl f k b hkk.2.1, List.length_append, hkk.2.2.2, hkk.2.2.1]; omega
      rw [hl4] at ho4
      have HAP := hid hap
      have HZ := hid (And.intro ho4 ((HBR.out.trans (hB3.mono (by have := HBR.out.size; have := HB.out; omega))).trans hB4))
      have HLT := hid hkk.1
      clear hkk hrd ho3 hBs hap ho4 hB4 hl4 hB3 hg hfr hfl hft hsl hfkI
      go_upto_region 8 with fail
      refine wp_region_lit ?_
      refine wp_y (v := u8) rfl rfl (y_move rfl (by kernel_rfl) (by kernel_rfl)) rfl ?_
      refine wp_y (v := .slice (some ⟨g, 0, none⟩) 112 112) rfl rfl (y_move rfl (by kernel_rfl) (by kernel_rfl)) rfl ?_
      refine wp_run (v := v') rfl rfl (run_appOp rfl (by kernel_rfl) (by kernel_rfl) HAP.out) rfl ?_
      refine wp_y (v := v') rfl rfl (y_assign rfl (by kernel_rfl) (by kernel_rfl)) rfl ?_
      try simp only [List.setIfInBounds_toArray, List.set_cons_zero, List.set_cons_succ]
      refine wp_end ?_
      go_wp2_with fail
      exact ⟨⟨k + 1, HLT.out, rfl, HZ.out⟩, by have := HLT.out; simp [intOf]; omega⟩
    · obtain rfl : k = n := by omega
      have hlt' : ¬ (k : Int) < (k : Int) := by omega
      have HZ := hid (And.intro ho hBr)
      clear ho hBr hk hlt
      go_wp2_with fail
      go_ret2
      exact ⟨_, rfl, by rw [← HNN.out]; exact HZ.out.1, HZ.out.2⟩
theorem pagesOf_any {w : World} {j p nb : Nat} {sq off : Int} (hj : Jn w j p nb sq off) (h0 : 2 ≤ nb) (h1 : nb < 8192) : Calls Tryz.prog 41 #[.pointer (some ⟨j, 0, none⟩)] w fun e w' => e = .returned (.int .i64 (((nb - 2) / 8 : Nat) : Int)) ∧ w' = w := by
  have HB := hid (jblocks_any hj)
  have h2 : IntKind.i64.wrap ((nb : Int) - 2) = ((nb - 2 : Nat) : Int) := by rw [IntWalk.i64_in _ ⟨by omega, by omega⟩]; omega
  have HE := hid (show wrap64 (((nb - 2 : Nat) : Int) / 8) = (((nb - 2) / 8 : Nat) : Int) by unfold wrap64; omega)
  generalize (nb - 2) / 8 = q at *
  generalize nb - 2 = n2 at *
  clear hj
  go_enter Tryz.func41, Tryz.ntmps41
  go_wp2_with fail
  refine HB.out.mono ?_
  rintro e wz ⟨rfl, hwz⟩
  obtain rfl := hwz.symm
  clear HB
  go_wp2
  go_ret
  exact ⟨by show Ending.returned (.int .i64 (wrap64 ((n2 : Int) / 8))) = _; rw [HE.out], rfl⟩
theorem firstBlock_any (k : Nat) (hk : k ≤ 1023) (w : World) : Calls Tryz.prog 56 #[.int .i64 k] w fun e w' => e = .returned (.int .i64 ((2 + k * 8 : Nat) : Int)) ∧ w' = w := by
  have h1 : IntKind.i64.wrap ((k : Int) * 8) = ((k * 8 : Nat) : Int) := by rw [IntWalk.i64_in _ ⟨by omega, by omega⟩]; omega
  have h2 : IntKind.i64.wrap (2 + ((k * 8 : Nat) : Int)) = ((2 + k * 8 : Nat) : Int) := by rw [IntWalk.i64_in _ ⟨by omega, by omega⟩]; omega
  generalize 2 + k * 8 = q at *
  generalize k * 8 = r at *
  go_enter Tryz.func56, Tryz.ntmps56
  go_wp2
  go_ret
  exact ⟨by simp [*], rfl⟩
end Go.Proofs.YtdbgccgjdgomkaaGreatDoor
