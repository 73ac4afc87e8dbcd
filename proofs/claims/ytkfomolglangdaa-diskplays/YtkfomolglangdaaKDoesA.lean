/- What the law's own functions need of both disks besides: Crash and Poke of the document's, what is refused, a nil disk. -/
import Derived.Test.YtkfomolglangdaaKRefPoke
namespace Go.Proofs.Ytkfomolglangdaa
open Go Go.RowKit

theorem Ref.lower {w : World} {B B' r : Nat} {s : DS} (h : Ref w B r s) (hB : B' ≤ B) : Ref w B' r s := by
  obtain ⟨vs, vl, h1, hR, ⟨V, hV, hS⟩, ⟨K, hK0, hK, hL⟩, hok⟩ := h
  exact ⟨vs, vl, Nat.le_trans hB h1, hR, ⟨V, hV, owns_base hS hB⟩, ⟨K, hK0, hK, owns_base hL hB⟩, hok⟩
theorem rcrash_d {w : World} {B r : Nat} {s : DS} (h : Ref w B r s) {a : Option Addr} {len cp : Nat} {zs : List Int} (hI : Ints w.heap.size w a len zs) (hlen : len ≤ 1152921504606846976) :
    Calls Try.prog 33 #[.pointer (some ⟨r, 0, none⟩), .slice a len cp] w fun e w' => ∃ q, e = .returned (.pointer (some ⟨q, 0, none⟩)) ∧ Ref w' w.heap.size q (s.cr zs) ∧ Below w.heap.size w w' := by
  have hok := h.ok
  obtain ⟨vs, vl, hB, hR, hS, hL, _⟩ := h
  refine (rcrash_ok hR hS hL (by rw [hok.keptLen]; exact hok.n0) (by rw [hok.keptLen]; exact hok.n1) (fun x hx => by rw [hok.keptLen]; exact (hok.at_ x hx).1) (Ref.few hok) hI hlen).mono ?_
  rintro e w' ⟨q, vx, rfl, hq, hR', hS', hBl⟩
  rw [rcr_crashed] at hS'
  exact ⟨q, rfl, ⟨vx, _, hq, hR', hS', Ls.nil _ _, hok.cr zs⟩, hBl⟩
theorem rpoke_d {w : World} {B r : Nat} {s : DS} (h : Ref w B r s) {i q : Nat} (c : UInt8) (hi : i < s.n) (hq : q < 128) :
    Calls Try.prog 32 #[.pointer (some ⟨r, 0, none⟩), .int .i64 i, .int .i64 q, .int .u8 c.toNat] w fun e w' => e = .returned (.int .i64 0) ∧ Ref w' B r (s.poke i q c) ∧ ∃ Y, Fr Y w w' ∧ Mine w B Y := by
  have hok := h.ok
  obtain ⟨vs, vl, hB, hR, hS, hL, _⟩ := h
  refine (rpoke_ok hR hS hL (Ref.few hok) c (by rw [hok.keptLen]; exact hi) hq).mono ?_
  rintro e w' ⟨rfl, hR', hS', hL', hY⟩
  exact ⟨rfl, ⟨vs, vl, hB, hR', hS', hL', hok.poke c hi⟩, hY⟩
section
variable {w : World} {B r p : Nat} {X : List Nat} {s : DS}
set_option maxHeartbeats 800000 in
theorem rpoke_at (h : Ref w B r s) (x y : Int) (v : Value) (hx : x < 0 ∨ (s.n : Int) ≤ x) :
    Calls Try.prog 32 #[.pointer (some ⟨r, 0, none⟩), .int .i64 x, .int .i64 y, v] w fun e w' => e = .returned (.int .i64 41) ∧ w' = w := by
  have hok := h.ok
  obtain ⟨vs, vl, _, hR, hS, hL, _⟩ := h
  obtain ⟨a, ca, rfl⟩ := hS.shape
  rw [hok.keptLen] at hR
  have h0 := hR.c0
  clear hR hS hL hok
  generalize s.n = n at *
  by_cases e : x < 0
  · have d0 : decide (x < 0) = true := decide_eq_true e
    go_enter Try.func32, Try.ntmps32
    go_wp2
    go_ret
    exact ⟨rfl, rfl⟩
  · have d0 : decide (x < 0) = false := decide_eq_false e
    have d1 : decide ((n : Int) ≤ x) = true := decide_eq_true (by omega)
    clear hx
    go_enter Try.func32, Try.ntmps32
    go_wp2
    go_ret
    exact ⟨rfl, rfl⟩
set_option maxHeartbeats 800000 in
theorem rpoke_arg (h : Ref w B r s) (i : Nat) (hi : i < s.n) (y : Int) (v : Value) (hy : y < 0 ∨ (128 : Int) ≤ y) :
    Calls Try.prog 32 #[.pointer (some ⟨r, 0, none⟩), .int .i64 i, .int .i64 y, v] w fun e w' => e = .returned (.int .i64 2) ∧ w' = w := by
  have hok := h.ok
  obtain ⟨vs, vl, _, hR, hS, hL, _⟩ := h
  obtain ⟨a, ca, rfl⟩ := hS.shape
  rw [hok.keptLen] at hR
  have h0 := hR.c0
  clear hR hS hL hok
  generalize s.n = n at *
  have e0 : decide ((i : Int) < 0) = false := decide_eq_false (by omega)
  have e1 : decide ((n : Int) ≤ (i : Int)) = false := decide_eq_false (by omega)
  by_cases e : y < 0
  · have d0 : decide (y < 0) = true := decide_eq_true e
    go_enter Try.func32, Try.ntmps32
    go_wp2
    go_ret
    exact ⟨rfl, rfl⟩
  · have d0 : decide (y < 0) = false := decide_eq_false e
    have d1 : decide ((128 : Int) ≤ y) = true := decide_eq_true (by omega)
    clear hy
    go_enter Try.func32, Try.ntmps32
    go_wp2
    go_ret
    exact ⟨rfl, rfl⟩
set_option maxHeartbeats 800000 in
theorem poke_at (h : Disk w p X s) (x y : Int) (v : Value) (hx : x < 0 ∨ (s.n : Int) ≤ x) :
    Calls Try.prog 23 #[.pointer (some ⟨p, 0, none⟩), .int .i64 x, .int .i64 y, v] w fun e w' => e = .returned (.int .i64 41) ∧ w' = w := by
  obtain ⟨a, ca, b, cb, m, rfl, hD, _⟩ := h
  have H := hid (has_any w p _ b s.n cb m s.ops s.cut s.gone x hD)
  rw [hasB_out hx] at H
  clear hD
  go_enter Try.func23, Try.ntmps23
  go_wp2_with fail
  refine H.out.mono ?_
  rintro e w ⟨rfl, rfl⟩
  go_wp2
  go_ret
  exact ⟨rfl, rfl⟩
set_option maxHeartbeats 800000 in
theorem poke_arg (h : Disk w p X s) (i : Nat) (hi : i < s.n) (y : Int) (v : Value) (hy : y < 0 ∨ (128 : Int) ≤ y) :
    Calls Try.prog 23 #[.pointer (some ⟨p, 0, none⟩), .int .i64 i, .int .i64 y, v] w fun e w' => e = .returned (.int .i64 2) ∧ w' = w := by
  obtain ⟨a, ca, b, cb, m, rfl, hD, _⟩ := h
  have H := hid (has_any w p _ b s.n cb m s.ops s.cut s.gone i hD)
  rw [hasB_in hi] at H
  clear hD
  by_cases e : y < 0
  · have d0 : decide (y < 0) = true := decide_eq_true e
    go_enter Try.func23, Try.ntmps23
    go_wp2_with fail
    refine H.out.mono ?_
    rintro e w ⟨rfl, rfl⟩
    go_wp2
    go_ret
    exact ⟨rfl, rfl⟩
  · have d0 : decide (y < 0) = false := decide_eq_false e
    have d1 : decide ((128 : Int) ≤ y) = true := decide_eq_true (by omega)
    clear hy
    go_enter Try.func23, Try.ntmps23
    go_wp2_with fail
    refine H.out.mono ?_
    rintro e w ⟨rfl, rfl⟩
    go_wp2
    go_ret
    exact ⟨rfl, rfl⟩
theorem read_at_d (h : Disk w p X s) (hg : s.gone = false) (x : Int) (hx : x < 0 ∨ (s.n : Int) ≤ x) :
    Calls Try.prog 17 #[.pointer (some ⟨p, 0, none⟩), .int .i64 x] w fun e w' => e = .returned (.tuple #[.slice none 0 0, .int .i64 41]) ∧ w' = w := by
  obtain ⟨a, ca, b, cb, m, rfl, hD, _⟩ := h
  rw [hg] at hD
  exact read_out w p _ b s.n cb m s.ops s.cut x hD hx
theorem nil_read (x : Value) (w : World) : Calls Try.prog 17 #[.pointer none, x] w fun e w' => e = .returned (.tuple #[.slice none 0 0, .int .i64 1]) ∧ w' = w := by
  go_enter Try.func17, Try.ntmps17
  go_wp2
  go_ret2
  exact ⟨rfl, rfl⟩
theorem nil_write (x y : Value) (w : World) : Calls Try.prog 19 #[.pointer none, x, y] w fun e w' => e = .returned (.int .i64 1) ∧ w' = w := by
  go_enter Try.func19, Try.ntmps19
  go_wp2
  go_ret
  exact ⟨rfl, rfl⟩
theorem nil_flush (w : World) : Calls Try.prog 21 #[.pointer none] w fun e w' => e = .returned (.int .i64 1) ∧ w' = w := by
  go_enter Try.func21, Try.ntmps21
  go_wp2
  go_ret
  exact ⟨rfl, rfl⟩
theorem nil_poke (x y z : Value) (w : World) : Calls Try.prog 23 #[.pointer none, x, y, z] w fun e w' => e = .returned (.int .i64 1) ∧ w' = w := by
  go_enter Try.func23, Try.ntmps23
  go_wp2
  go_ret
  exact ⟨rfl, rfl⟩
theorem nil_cut (x : Value) (w : World) : Calls Try.prog 25 #[.pointer none, x] w fun e w' => e = .returned (.tuple #[]) ∧ w' = w := by
  go_enter Try.func25, Try.ntmps25
  go_wp2
  exact bodyPost_ret (results_none rfl _ _ _) rfl ⟨rfl, rfl⟩
theorem nil_sectors (w : World) : Calls Try.prog 22 #[.pointer none] w fun e w' => e = .returned (.int .i64 0) ∧ w' = w := by
  go_enter Try.func22, Try.ntmps22
  go_wp2
  go_ret
  exact ⟨rfl, rfl⟩
theorem nil_ops (w : World) : Calls Try.prog 24 #[.pointer none] w fun e w' => e = .returned (.int .i64 0) ∧ w' = w := by
  go_enter Try.func24, Try.ntmps24
  go_wp2
  go_ret
  exact ⟨rfl, rfl⟩
theorem nil_loose (w : World) : Calls Try.prog 15 #[.pointer none] w fun e w' => e = .returned (.int .i64 0) ∧ w' = w := by
  go_enter Try.func15, Try.ntmps15
  go_wp2
  go_ret
  exact ⟨rfl, rfl⟩
theorem nil_crash (x : Value) (w : World) : Calls Try.prog 16 #[.pointer none, x] w fun e w' => e = .returned (.pointer none) ∧ w' = w := by
  go_enter Try.func16, Try.ntmps16
  go_wp2
  go_ret
  exact ⟨rfl, rfl⟩
end
set_option maxRecDepth 100000 in
set_option maxHeartbeats 1600000 in
theorem nothing_any (w : World) : Calls Try.prog 9 #[] w fun e w' => e = .returned (.bool true) ∧ Below w.heap.size w w' := by
  go_enter Try.func9, Try.ntmps9
  go_wp2_with fail
  refine (nil_read _ _).mono ?_
  rintro e w1 ⟨rfl, rfl⟩
  go_wp2_with fail
  refine (of_int 1 (by decide) (by decide) _).mono ?_
  rintro e w2 ⟨rfl, _, hB2⟩
  go_wp2_with fail
  refine (nil_write _ _ _).mono ?_
  rintro e w3 ⟨rfl, rfl⟩
  go_wp2_with fail
  refine (nil_flush _).mono ?_
  rintro e w4 ⟨rfl, rfl⟩
  go_wp2_with fail
  refine (nil_poke _ _ _ _).mono ?_
  rintro e w5 ⟨rfl, rfl⟩
  go_wp2_with fail
  refine (nil_cut _ _).mono ?_
  rintro e w6 ⟨rfl, rfl⟩
  go_wp2_with fail
  refine (nil_sectors _).mono ?_
  rintro e w7 ⟨rfl, rfl⟩
  go_wp2_with fail
  refine (nil_ops _).mono ?_
  rintro e w8 ⟨rfl, rfl⟩
  go_wp2_with fail
  refine (nil_loose _).mono ?_
  rintro e w9 ⟨rfl, rfl⟩
  go_wp2_with fail
  refine (nil_crash _ _).mono ?_
  rintro e w10 ⟨rfl, rfl⟩
  go_wp2
  go_ret
  exact ⟨rfl, hB2⟩
end Go.Proofs.Ytkfomolglangdaa
