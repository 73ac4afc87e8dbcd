/- Crash. -/
import Derived.Test.YtkfomolglangdaaKClone
import Derived.Test.YtkfomolglangdaaKIter
namespace Go.Proofs.Ytkfomolglangdaa
open Go Go.RowKit

/-- The write that the number k speaks of is laid. -/
def layOne (L : List (Nat × List UInt8)) (ss : List (List UInt8)) (k : Int) : List (List UInt8) :=
  match (if 0 ≤ k then L[k.toNat]? else none) with
  | some x => ss.set x.1 x.2
  | none => ss
theorem layOne_in {L : List (Nat × List UInt8)} {n : Nat} {x : Nat × List UInt8} (h : L[n]? = some x) (ss : List (List UInt8)) : layOne L ss (n : Int) = ss.set x.1 x.2 := by
  unfold layOne; rw [if_pos (by omega), Int.toNat_natCast, h]
theorem layOne_out {L : List (Nat × List UInt8)} {k : Int} (h : k < 0 ∨ (L.length : Int) ≤ k) (ss : List (List UInt8)) : layOne L ss k = ss := by
  unfold layOne
  by_cases h0 : 0 ≤ k
  · rw [if_pos h0, List.getElem?_eq_none (by omega)]
  · rw [if_neg h0]
theorem layOne_len (L : List (Nat × List UInt8)) (ss : List (List UInt8)) (k : Int) : (layOne L ss k).length = ss.length := by
  unfold layOne; split <;> simp
def crashed (kept : List (List UInt8)) (L : List (Nat × List UInt8)) (zs : List Int) : List (List UInt8) := (sorted zs).foldl (layOne L) kept
theorem laySome_len (L : List (Nat × List UInt8)) (ks : List Int) : ∀ ss, (ks.foldl (layOne L) ss).length = ss.length := by
  induction ks with
  | nil => intro ss; rfl
  | cons k r ih => intro ss; rw [List.foldl_cons, ih, layOne_len]
theorem laySome_take (L : List (Nat × List UInt8)) (ks : List Int) (ss : List (List UInt8)) (k : Nat) (h : k < ks.length) : (ks.take (k + 1)).foldl (layOne L) ss = layOne L ((ks.take k).foldl (layOne L) ss) (ks[k]?.getD 0) := by
  have : ks[k]? = some (ks[k]?.getD 0) := by rw [List.getElem?_eq_getElem h]; rfl
  rw [List.take_add_one, this]; simp
theorem zw_eq : zw = wv (0, List.replicate 128 0) := by
  unfold zw wv
  have : cells8 (List.replicate 128 0) = List.replicate 128 (Value.int .u8 0) := by simp only [cells8, List.map_replicate]; rfl
  rw [this]; rfl

set_option maxRecDepth 100000 in
set_option maxHeartbeats 1600000 in
theorem crash_ok (w : World) (p b n cb m : Nat) (vn : Value) (ops cut : Int) (gone : Bool) (kept : List (List UInt8)) (L : List (Nat × List UInt8)) (a : Option Addr) (len cp : Nat) (zs : List Int)
    (h : Dc w p vn (.slice (some ⟨b, 0, none⟩) n cb) m ops cut gone) (hr : Row w b cb kept) (hn : kept.length = n) (h0 : n ≠ 0) (hb : n ≤ 16384) (hm : Mp w m L) (hL : ∀ x ∈ L, x.1 < n ∧ x.2.length = 128)
    (hI : Ints w.heap.size w a len zs) (hreach : len * 8 ≤ 140737488351232) :
    Calls Try.prog 16 #[.pointer (some ⟨p, 0, none⟩), .slice a len cp] w fun e w' => ∃ p' a' ca' b' cb' m', e = .returned (.pointer (some ⟨p', 0, none⟩)) ∧
      Dc w' p' (.slice (some ⟨a', 0, none⟩) n ca') (.slice (some ⟨b', 0, none⟩) n cb') m' 0 (-1) false ∧ Row w' a' ca' (crashed kept L zs) ∧ Row w' b' cb' (crashed kept L zs) ∧ Mp w' m' [] ∧
      w.heap.size ≤ p' ∧ w.heap.size ≤ a' ∧ w.heap.size ≤ b' ∧ w.heap.size ≤ m' ∧ a' ≠ b' ∧ Below w.heap.size w w' := by
  have hlenz := hI.1
  have hsl : (sorted zs).length = len := by simp [sorted, hlenz]
  have c1 := h.c1
  have HD := hid h
  have HM := hid hm
  have HI := hid hI
  have HL := hid hL
  have H1 := hid (clone_any w b n cb kept hr hn h0 hb)
  clear h hr hm hI hL
  go_enter Try.func16, Try.ntmps16
  go_wp2_with fail
  refine H1.out.mono ?_
  clear H1
  rintro e w1 ⟨g, cap, rfl, hg, hrow, hB1⟩
  have HB1 := hid hB1
  have HR1 := hid hrow
  clear hrow hB1
  go_wp2_with fail
  refine (values_any a len cp w1).mono ?_
  rintro e w2 ⟨rfl, rfl⟩
  have hs2 : (w1.alloc (.cells #[.slice a len cp] 36)).heap.size = w1.heap.size + 1 := by simp
  have hB2 : Below w1.heap.size w1 (w1.alloc (.cells #[.slice a len cp] 36)) := (Below.refl _ _).alloc (Nat.le_refl _) _
  have hsz1 := HB1.out.size
  have hI2 := HI.out.below (HB1.out.trans (hB2.mono hsz1))
  have H3 := hid (sorted_any w1.heap.size w.heap.size a len cp zs hreach (w1.alloc (.cells #[.slice a len cp] 36)) (by rw [hs2]; omega) (by rw [hs2]; omega) (cell_at (heap_alloc_last w1 _) 0 rfl) hI2)
  rw [hs2] at H3
  have HB2 := hid hB2
  clear hI2 hB2 HI
  generalize w1.alloc (.cells #[.slice a len cp] 36) = w2 at *
  go_wp2_with fail
  refine H3.out.mono ?_
  clear H3
  rintro e w3 ⟨a3, cp3, rfl, hI3, hne3, hB3⟩
  have HB3 : Hid (Below w1.heap.size w1 w3) := hid (HB2.out.trans (hB3.mono (by omega)))
  have HI3 := hid hI3
  have HN3 := hid hne3
  have hR3 := HR1.out.below HB3.out HR1.out.lt
  have hgl : g < w1.heap.size := HR1.out.lt
  have hBw3 : Below w.heap.size w w3 := HB1.out.trans (HB3.out.mono hsz1)
  have hD3 : Dc w3 p vn (.slice (some ⟨b, 0, none⟩) n cb) m ops cut gone := below_at hBw3 HD.out (heap_lt HD.out)
  have hM3 : Mp w3 m L := below_at hBw3 HM.out (heap_lt HM.out)
  have hpg : p ≠ g := by have := heap_lt HD.out; omega
  have hmg : m ≠ g := by have := heap_lt HM.out; omega
  have HD3 := hid hD3
  have HM3 := hid hM3
  have HR3 := hid hR3
  have HBw3 := hid hBw3
  clear hI3 hne3 hB3 HB3 HB2 HR1 hR3 hD3 hM3 hBw3 HD HM HB1 c1
  go_upto_region 5 with fail
  go_loopw [21, 7, 8, 9] (fun x _ _ _ wr => ∃ k : Nat, k ≤ len ∧ x = .int .i64 k ∧ Row wr g cap (((sorted zs).take k).foldl (layOne L) kept) ∧ Fr [g] w3 wr) (fun x _ _ _ _ => len - (intOf x).toNat)
  case atStart => exact ⟨0, Nat.zero_le _, rfl, HR3.out, Fr.refl _ _⟩
  case round =>
    obtain ⟨k, hk, rfl, hRr, hFr⟩ := hrel
    have hwk : IntKind.i64.wrap ((k : Int) + 1) = ((k + 1 : Nat) : Int) := by rw [IntWalk.i64_in _ ⟨by omega, by omega⟩]; omega
    have hDr := HD3.out.fr hFr (by simpa using hpg)
    have hMr : Mp wr m L := hFr.at HM3.out (by simpa using hmg)
    by_cases hlt : k < len
    · have hmes : len - ((k + 1 : Nat) : Int).toNat < len - (k : Int).toNat := by omega
      have hlt' : (k : Int) < (len : Int) := by omega
      have hIr := HI3.out.fr hFr (fun ad e => by have := HN3.out ad e; simp; omega)
      obtain ⟨b3, off3, rfl, _, hcs⟩ := hIr.2 (by omega)
      have hcx := hcs k (by rw [hsl]; exact hlt)
      have hstep := laySome_take L (sorted zs) kept k (by rw [hsl]; exact hlt)
      have Hstep := hid hstep
      have HRr := hid hRr
      have HFr := hid hFr
      have HMr := hid hMr
      have HDr := hid hDr
      clear hstep hRr hFr hcs hIr hMr hDr
      generalize (sorted zs)[k]?.getD 0 = z at *
      go_upto_region 7 with fail
      by_cases hin : 0 ≤ z ∧ z < (L.length : Int)
      · obtain ⟨n', rfl⟩ : ∃ n' : Nat, z = n' := ⟨z.toNat, by omega⟩
        obtain ⟨⟨i, l⟩, hx⟩ : ∃ x, L[n']? = some x := ⟨_, List.getElem?_eq_getElem (by omega)⟩
        obtain ⟨hi, hl⟩ := HL.out (i, l) (List.mem_of_getElem? hx)
        have hlook := look_in1 HMr.out n' (i, l) hx
        have hst : (Instr.storeAt 76 (.pointer (some ⟨wr.heap.size, 0, none⟩)) (wv (i, l))).run Try.prog (wr.alloc (.cells Try.zeroCells76 76)) = .ok () (wr.alloc (.cells (wc (i, l)) 76)) :=
          store_new Try.prog wr 76 129 size76 Try.zeroCells76 (.int .i64 i :: cells8 l) zc76 (wc_len (i, l) hl) (wc_one (i, l))
        refine wp_region_lit ?_
        refine wp_move (v := .pointer (some ⟨p, 0, none⟩)) (by kernel_rfl) ?_
        refine wp_nil (v := ⟨p, 0, none⟩) (by kernel_rfl) ?_
        refine wp_faddr (by kernel_rfl) (fa67_2 (p) _) ?_
        refine wp_load (by kernel_rfl) (load1 Try.isAgg65 HDr.out.c2) ?_
        refine wp_move (v := .int .i64 n') (by kernel_rfl) ?_
        refine wp_lookup (by kernel_rfl) (by kernel_rfl) hlook ?_
        refine wp_move (v := .tuple #[wv (i, l), .bool true]) (by kernel_rfl) ?_
        refine wp_extract (x := .tuple #[wv (i, l), .bool true]) (v := wv (i, l)) (by kernel_rfl) (by rfl) ?_
        refine wp_extract (x := .tuple #[wv (i, l), .bool true]) (v := .bool true) (by kernel_rfl) (by rfl) ?_
        refine wp_alloc (alloc76 wr) ?_
        refine wp_store (by kernel_rfl) (by kernel_rfl) hst ?_
        refine wp_assign (v := .bool true) (by kernel_rfl) ?_
        dsimp only [Act.put]
        simp only [List.setIfInBounds_toArray, List.set_cons_zero, List.set_cons_succ]
        refine wp_end ?_
        have hFa : Fr [] wr (wr.alloc (.cells (wc (i, l)) 76)) := Fr.alloc _ _
        have hq2 : (wr.alloc (.cells (wc (i, l)) 76)).heap[wr.heap.size]? = some (.cells (wc (i, l)) 76 (0, 0)) := heap_alloc_last _ _
        obtain ⟨cur, hgq, hzq, hcq, hxq, hcsq⟩ := HRr.out.fr hFa (by simp)
        have hFq : Fr [g] w3 (wr.alloc (.cells (wc (i, l)) 76)) := HFr.out.trans hFa (by simp)
        have hlen : (((sorted zs).take k).foldl (layOne L) kept).length = n := by rw [laySome_len, hn]
        have hset := Hstep.out
        rw [layOne_in hx] at hset
        have HX := hid (And.intro hset (And.intro hcq (And.intro hxq (And.intro hcsq hFq))))
        clear hlook hst hset hcq hxq hcsq hFq hFa HFr HRr HMr HDr hcx
        generalize wr.heap.size = q at *
        generalize wr.alloc (.cells (wc (i, l)) 76) = wq at *
        go_upto_region 9 with fail
        refine wp_region_lit ?_
        refine wp_load (by kernel_rfl) (load_w hl hq2) ?_
        refine wp_move (v := .slice (some ⟨g, 0, none⟩) n cap) (by kernel_rfl) ?_
        refine wp_call (f := 37) (args := #[wv (i, l), .slice (some ⟨g, 0, none⟩) n cap]) (by kernel_rfl) (fun w => by go_simp) ?_
        refine (lay_w i l g n cap cur wq hl hi hgq (by rw [← hlen]; exact hzq)).mono ?_
        rintro e w4 ⟨rfl, rfl⟩
        refine ⟨.tuple #[], rfl, ?_⟩
        dsimp only [Act.put]
        simp only [List.setIfInBounds_toArray, List.set_cons_zero, List.set_cons_succ]
        refine wp_end ?_
        obtain ⟨hset, hcq, hxq, hcsq, hFq⟩ := HX.out
        have hR4 := lay_row (w := wq) (ss := ((sorted zs).take k).foldl (layOne L) kept) hgq hzq hcq hxq hcsq i (by rw [hlen]; exact hi) l hl
        have hR4' : Row (laidW wq g cur i l) g cap (((sorted zs).take (k + 1)).foldl (layOne L) kept) := by rw [hset]; exact hR4
        have hF4 : Fr [g] w3 (laidW wq g cur i l) := hFq.trans (lay_fr' wq g cur i l) (by simp)
        clear hR4 hset hcq hxq hcsq hFq HX hgq hzq hq2
        generalize laidW wq g cur i l = w4 at *
        go_upto_region 10 with fail
        refine wp_region_lit ?_
        refine wp_addi (z := ((k + 1 : Nat) : Int)) (by kernel_rfl) (by kernel_rfl) hwk ?_
        refine wp_move (v := .int .i64 (k + 1 : Nat)) (by kernel_rfl) ?_
        dsimp only [Act.put]
        simp only [List.setIfInBounds_toArray, List.set_cons_zero, List.set_cons_succ]
        refine wp_end ?_
        go_wp2_with fail
        go_roundw
        case rel => exact ⟨k + 1, hlt, rfl, hR4', hF4⟩
        case measure => exact hmes
      · have hlook := look_out HMr.out z (by omega)
        rw [zw_eq] at hlook
        have hst : (Instr.storeAt 76 (.pointer (some ⟨wr.heap.size, 0, none⟩)) (wv (0, List.replicate 128 0))).run Try.prog (wr.alloc (.cells Try.zeroCells76 76)) = .ok () (wr.alloc (.cells (wc (0, List.replicate 128 0)) 76)) :=
          store_new Try.prog wr 76 129 size76 Try.zeroCells76 (.int .i64 (0 : Nat) :: cells8 (List.replicate 128 0)) zc76 (wc_len (0, List.replicate 128 0) List.length_replicate) (wc_one (0, List.replicate 128 0))
        generalize (0, List.replicate 128 (0 : UInt8)) = zx at hlook hst
        refine wp_region_lit ?_
        refine wp_move (v := .pointer (some ⟨p, 0, none⟩)) (by kernel_rfl) ?_
        refine wp_nil (v := ⟨p, 0, none⟩) (by kernel_rfl) ?_
        refine wp_faddr (by kernel_rfl) (fa67_2 (p) _) ?_
        refine wp_load (by kernel_rfl) (load1 Try.isAgg65 HDr.out.c2) ?_
        refine wp_move (v := .int .i64 z) (by kernel_rfl) ?_
        refine wp_lookup (by kernel_rfl) (by kernel_rfl) hlook ?_
        refine wp_move (v := .tuple #[wv zx, .bool false]) (by kernel_rfl) ?_
        refine wp_extract (x := .tuple #[wv zx, .bool false]) (v := wv zx) (by kernel_rfl) (by rfl) ?_
        refine wp_extract (x := .tuple #[wv zx, .bool false]) (v := .bool false) (by kernel_rfl) (by rfl) ?_
        refine wp_alloc (alloc76 wr) ?_
        refine wp_store (by kernel_rfl) (by kernel_rfl) hst ?_
        refine wp_assign (v := .bool false) (by kernel_rfl) ?_
        dsimp only [Act.put]
        simp only [List.setIfInBounds_toArray, List.set_cons_zero, List.set_cons_succ]
        refine wp_end ?_
        have hFa : Fr [] wr (wr.alloc (.cells (wc zx) 76)) := Fr.alloc _ _
        have hRq := HRr.out.fr hFa (by simp)
        have hFq : Fr [g] w3 (wr.alloc (.cells (wc zx) 76)) := HFr.out.trans hFa (by simp)
        have hset := Hstep.out
        rw [layOne_out (by omega)] at hset
        rw [← hset] at hRq
        clear hlook hst hset hFa HFr HRr HMr HDr hcx Hstep
        generalize wr.heap.size = q at *
        generalize wr.alloc (.cells (wc zx) 76) = w4 at *
        go_upto_region 10 with fail
        refine wp_region_lit ?_
        refine wp_addi (z := ((k + 1 : Nat) : Int)) (by kernel_rfl) (by kernel_rfl) hwk ?_
        refine wp_move (v := .int .i64 (k + 1 : Nat)) (by kernel_rfl) ?_
        dsimp only [Act.put]
        simp only [List.setIfInBounds_toArray, List.set_cons_zero, List.set_cons_succ]
        refine wp_end ?_
        go_wp2_with fail
        go_roundw
        case rel => exact ⟨k + 1, hlt, rfl, hRq, hFq⟩
        case measure => exact hmes
    · obtain rfl : k = len := by omega
      rw [← hsl, List.take_length] at hRr
      have hlt' : ¬ (k : Int) < (k : Int) := by omega
      have hBf : Below w.heap.size w wr := HBw3.out.trans (hFr.below (HBw3.out.size) (by simpa using hg))
      have HBf := hid hBf
      have hgw : g < wr.heap.size := hRr.lt
      have H5 := hid (holding_any wr g n cap _ hRr (by rw [laySome_len, hn]) h0 hb)
      clear hRr hBf hDr hMr hFr
      go_wp2_with fail
      refine H5.out.mono ?_
      rintro e w5 ⟨p5, a5, ca5, m5, rfl, hD5, hRa5, hRb5, hM5, q1, q2, q3, hB5⟩
      have HH := hid (And.intro hD5 (And.intro hRa5 (And.intro hRb5 (And.intro hM5 hB5))))
      clear hD5 hRa5 hRb5 hM5 hB5 H5
      go_wp2
      go_ret
      obtain ⟨hD5, hRa5, hRb5, hM5, hB5⟩ := HH.out
      have hs := HBf.out.size
      exact ⟨p5, a5, ca5, g, cap, m5, rfl, hD5, hRa5, hRb5, hM5, by omega, by omega, hg, by omega, by omega, HBf.out.trans (hB5.mono hs)⟩
end Go.Proofs.Ytkfomolglangdaa
