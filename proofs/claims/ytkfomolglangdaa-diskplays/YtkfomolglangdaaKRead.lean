/- Read. -/
import Derived.Test.YtkfomolglangdaaKDisk
import Derived.Test.YtkfomolglangdaaKLay
namespace Go.Proofs.Ytkfomolglangdaa
open Go Go.RowKit

theorem hasB_in {i n : Nat} (h : i < n) : hasB (i : Int) n = true := by unfold hasB; simp; omega
theorem hasB_out {x : Int} {n : Nat} (h : x < 0 ∨ (n : Int) ≤ x) : hasB x n = false := by unfold hasB; simp; omega

set_option maxRecDepth 100000 in
set_option maxHeartbeats 400000 in
theorem read_gone (w : World) (p : Nat) (vn vk : Value) (m : Nat) (ops cut x : Int) (h : Dc w p vn vk m ops cut true) :
    Calls Try.prog 17 #[.pointer (some ⟨p, 0, none⟩), .int .i64 x] w fun e w' => e = .returned (.tuple #[.slice none 0 0, .int .i64 43]) ∧ w' = w := by
  have h5 := h.c5
  clear h
  go_enter Try.func17, Try.ntmps17
  go_wp2
  go_ret2
  exact ⟨rfl, rfl⟩
set_option maxRecDepth 100000 in
set_option maxHeartbeats 400000 in
theorem read_out (w : World) (p : Nat) (vn : Value) (b n cb m : Nat) (ops cut x : Int) (h : Dc w p vn (.slice (some ⟨b, 0, none⟩) n cb) m ops cut false) (hx : x < 0 ∨ (n : Int) ≤ x) :
    Calls Try.prog 17 #[.pointer (some ⟨p, 0, none⟩), .int .i64 x] w fun e w' => e = .returned (.tuple #[.slice none 0 0, .int .i64 41]) ∧ w' = w := by
  have h5 := h.c5
  have H := hid (has_any w p vn b n cb m ops cut false x h)
  rw [hasB_out hx] at H
  clear h
  go_enter Try.func17, Try.ntmps17
  go_wp2_with fail
  refine H.out.mono ?_
  rintro e w ⟨rfl, rfl⟩
  go_wp2
  go_ret2
  exact ⟨rfl, rfl⟩
set_option maxRecDepth 100000 in
set_option maxHeartbeats 400000 in
theorem read_ok (w : World) (p a ca : Nat) (b n cb m : Nat) (ops cut : Int) (ss : List (List UInt8)) (i : Nat) (s : List UInt8) (h : Dc w p (.slice (some ⟨a, 0, none⟩) n ca) (.slice (some ⟨b, 0, none⟩) n cb) m ops cut false) (hr : Row w a ca ss) (hn : ss.length = n) (hs : ss[i]? = some s) :
    Calls Try.prog 17 #[.pointer (some ⟨p, 0, none⟩), .int .i64 i] w fun e w' => e = .returned (.tuple #[.slice (some ⟨w.heap.size, 0, none⟩) 128 128, .int .i64 0]) ∧ w' = w.alloc (.cells (cells8 s).toArray 70) := by
  have hi : i < n := by rw [← hn]; exact (List.getElem?_eq_some_iff.1 hs).1
  have hi' : (i : Int) < n := by omega
  have h5 := h.c5
  have h0 := h.c0
  have H := hid (has_any w p _ b n cb m ops cut false i h)
  rw [hasB_in hi] at H
  obtain ⟨cur, hg, hz, _, _, hcs⟩ := hr
  obtain ⟨h128, hc⟩ := hcs i s hs
  have HL := hid (loadAt_k agg70 size70 w a (i * 128) cur 70 (0, 0) (cells8 s) (by rw [cells8_len]; exact h128) hg hc)
  have HS := hid (store_new Try.prog w 70 128 size70 Try.zeroCells70 (cells8 s) zc70 (by rw [cells8_len]; exact h128) (cells8_one s))
  clear h hg hz hcs hc
  generalize (cells8 s).toArray = S at *
  go_enter Try.func17, Try.ntmps17
  go_wp2_with fail
  refine H.out.mono ?_
  rintro e w ⟨rfl, rfl⟩
  go_wp2_with (first | (refine wp_load (t := 70) (p := .tmp 22) rfl HL.out ?_) | (refine wp_store (t := 70) (p := .tmp 6) (q := .tmp 23) rfl rfl HS.out ?_))
  go_ret2
  exact ⟨rfl, rfl⟩
end Go.Proofs.Ytkfomolglangdaa
