/- What the laws begin with: some of the document's examples. -/
import Derived.Test.YtkfomolglangdaaKOf
namespace Go.Proofs.Ytkfomolglangdaa
open Go Go.RowKit

theorem Below.next {w w1 w2 : World} (hb : Below w.heap.size w w1) (h : Below w1.heap.size w1 w2) : Below w.heap.size w w2 := hb.trans (h.mono hb.size)

section
variable {ops : Array Oper} {S : World → Prop} {o : Oper} {a : Act} {w w1 : World}
theorem y_eqi {t : TypeId} {x y : Int} {p q : Operand} (ht : t = 3 ∨ t = 25) (hop : o.op = .binOp .eql t p q t) (hw : Region.wanted o (yielded ops a.tmps) = true) (hp : a.eval p = .int .i64 x) (hq : a.eval q = .int .i64 y) {r : Bool} (hr : (x == y) = r) :
    YieldsIf Try.prog ops S o (.bool r) a :=
  .inl ⟨hw, fun w _ => by subst hr; rcases ht with rfl | rfl <;> (unfold execOp; rw [hop]; simp only [hp, hq]; go_simp)⟩
theorem y_conv {x : Operand} {v : Value} {t : ByteArray} (hop : o.op = .convert 35 9 x) (hw : Region.wanted o (yielded ops a.tmps) = true) (hv : a.eval x = v)
    (hc : ∀ w, S w → (convert 35 9 v).run Try.prog w = .ok (.string t) w) : YieldsIf Try.prog ops S o (.string t) a :=
  .inl ⟨hw, fun w h => by unfold execOp; rw [hop]; simp [hv, hc w h]⟩
theorem run_conv {x : Operand} {v : Value} {t : ByteArray} (hop : o.op = .convert 35 9 x) (hv : a.eval x = v) (hc : (convert 35 9 v).run Try.prog w = .ok (.string t) w) :
    (execOp a.eval o).run Try.prog w = .ok (.value (.string t)) w := by unfold execOp; rw [hop]; simp [hv, hc]
theorem y_eqlT {x y : Operand} {s t : ByteArray} (he : (s.toList == t.toList) = true) (hop : o.op = .binOp .eql 9 x y 9) (hw : Region.wanted o (yielded ops a.tmps) = true) (hx : a.eval x = .string s) (hy : a.eval y = .string t) :
    YieldsIf Try.prog ops S o (.bool true) a :=
  .inl ⟨hw, fun w _ => by
    have : (execOp a.eval o).run Try.prog w = .ok (.value (.bool (s.toList == t.toList))) w := by unfold execOp; rw [hop]; simp only [hx, hy]; go_simp
    rw [this, he]⟩
end

theorem lost_neg (x : Int) : lost (-1) x = false := by unfold lost; simp
theorem DS.wr_ok {s : DS} {i : Nat} {l : List UInt8} (h1 : lost s.cut s.ops = false) (hi : i < s.n) (hl : l.length = 128) (ho : s.ops < 1048576) :
    s.wr i l = (0, { s with gone := false, now := s.now.set i l, loose := s.loose ++ [(i, l)], ops := s.ops + 1 }) := by
  unfold DS.wr
  rw [if_neg (by simp [h1]), if_neg (by omega), if_neg (by simp [hl]), if_neg (by omega)]
  rfl
theorem DS.fl_ok {s : DS} (h1 : lost s.cut s.ops = false) (ho : s.ops < 1048576) :
    s.fl = (0, { s with gone := false, kept := s.now, loose := [], ops := s.ops + 1 }) := by
  unfold DS.fl
  rw [if_neg (by simp [h1]), if_neg (by omega)]

/-- A disk of the call's own. -/
def Own (w0 w : World) (p : Nat) (s : DS) : Prop := ∃ X, Disk w p X s ∧ (∀ k ∈ X, w0.heap.size ≤ k) ∧ Below w0.heap.size w0 w
theorem Own.below {w0 w w' : World} {p : Nat} {s : DS} (h : Own w0 w p s) (hB : Below w.heap.size w w') : Own w0 w' p s := by
  obtain ⟨X, h1, h2, h3⟩ := h; exact ⟨X, h1.below hB, h2, Below.next h3 hB⟩
theorem own_new {w0 w : World} (hB : Below w0.heap.size w0 w) (n : Nat) (h0 : n ≠ 0) (hn : n ≤ 16384) :
    Calls Try.prog 10 #[.int .i64 n] w fun e w' => ∃ p, e = .returned (.tuple #[.pointer (some ⟨p, 0, none⟩), .int .i64 0]) ∧ Own w0 w' p (DS.new n) := by
  refine (new_d w n h0 hn).mono ?_
  rintro e w' ⟨p, X, rfl, hD, hX, hF⟩
  exact ⟨p, rfl, X, hD, fun k hk => Nat.le_trans hB.size (hX k hk), Below.next hB hF⟩
theorem own_write {w0 w : World} {p : Nat} {s : DS} (h : Own w0 w p s) (x : Int) {v : Value} {l : List UInt8} (hv : Sl w v l) :
    Calls Try.prog 19 #[.pointer (some ⟨p, 0, none⟩), .int .i64 x, v] w fun e w' => e = .returned (.int .i64 (s.wr x l).1) ∧ Own w0 w' p (s.wr x l).2 := by
  obtain ⟨X, hD, hX, hB⟩ := h
  refine (write_d hD x hv).mono ?_
  rintro e w' ⟨rfl, hD', hF⟩
  exact ⟨rfl, X, hD', hX, hB.trans (hF.below hB.size hX)⟩
theorem own_flush {w0 w : World} {p : Nat} {s : DS} (h : Own w0 w p s) :
    Calls Try.prog 21 #[.pointer (some ⟨p, 0, none⟩)] w fun e w' => e = .returned (.int .i64 s.fl.1) ∧ Own w0 w' p s.fl.2 := by
  obtain ⟨X, hD, hX, hB⟩ := h
  refine (flush_d hD).mono ?_
  rintro e w' ⟨rfl, X', hD', hX', hF⟩
  exact ⟨rfl, X', hD', fun k hk => by rcases hX' k hk with h | h; exact hX k h; exact Nat.le_trans hB.size h, hB.trans (hF.below hB.size hX)⟩
theorem own_crash {w0 w : World} {p : Nat} {s : DS} (h : Own w0 w p s) {a : Option Addr} {len cp : Nat} {zs : List Int} (hI : Ints w.heap.size w a len zs) (hreach : len * 8 ≤ 140737488351232) :
    Calls Try.prog 16 #[.pointer (some ⟨p, 0, none⟩), .slice a len cp] w fun e w' => ∃ p', e = .returned (.pointer (some ⟨p', 0, none⟩)) ∧ Own w w' p' (s.cr zs) := by
  obtain ⟨X, hD, hX, hB⟩ := h
  refine (crash_d hD hI hreach).mono ?_
  rintro e w' ⟨p', X', rfl, hD', hX', hF⟩
  exact ⟨p', rfl, X', hD', hX', hF⟩
theorem own_read {w0 w : World} {p : Nat} {s : DS} (h : Own w0 w p s) (hg : s.gone = false) (i : Nat) (l : List UInt8) (hl : s.now[i]? = some l) :
    Calls Try.prog 17 #[.pointer (some ⟨p, 0, none⟩), .int .i64 i] w fun e w' => e = .returned (.tuple #[.slice (some ⟨w.heap.size, 0, none⟩) 128 128, .int .i64 0]) ∧ Sl w' (.slice (some ⟨w.heap.size, 0, none⟩) 128 128) l ∧ Below w.heap.size w w' := by
  obtain ⟨X, hD, hX, hB⟩ := h
  have hl128 := hD.ok.nowLens l (List.mem_of_getElem? hl)
  refine (read_d hD hg i l hl).mono ?_
  rintro e w' ⟨rfl, rfl⟩
  exact ⟨rfl, alloc_sl w l hl128 _, (Below.refl _ _).alloc (Nat.le_refl _) _⟩

theorem crashed_nil (kept : List (List UInt8)) (L : List (Nat × List UInt8)) : crashed kept L [] = kept := by simp [crashed, sorted]
theorem crashed_zero (kept : List (List UInt8)) (x : Nat × List UInt8) (L : List (Nat × List UInt8)) : crashed kept (x :: L) [0] = kept.set x.1 x.2 := by simp [crashed, sorted, layOne]

/-- The disk of the examples. -/
def exS (lx ly : List UInt8) : DS := { n := 4, now := (((noughts 4).set 1 lx).set 1 ly).set 2 ly, kept := (noughts 4).set 1 lx, loose := [(1, ly), (2, ly)], ops := 4, cut := -1, gone := false }

set_option maxRecDepth 100000 in
set_option maxHeartbeats 4000000 in
theorem shown_any (w : World) :
    Calls Try.prog 8 #[] w fun e w' => e = .returned (.bool true) ∧ Below w.heap.size w w' := by
  obtain ⟨lx, hlx⟩ : ∃ l, l = List.replicate 128 (120 : UInt8) := ⟨_, rfl⟩
  obtain ⟨ly, hly⟩ : ∃ l, l = List.replicate 128 (121 : UInt8) := ⟨_, rfl⟩
  have hx128 : lx.length = 128 := by rw [hlx]; simp
  have hy128 : ly.length = 128 := by rw [hly]; simp
  go_enter Try.func8, Try.ntmps8
  go_wp2_with fail
  refine (own_new (Below.refl w.heap.size w) 4 (by omega) (by omega)).mono ?_
  rintro e w1 ⟨p, rfl, hO⟩
  have HO := hid hO
  clear hO
  go_wp2_with fail
  refine (of_any 120 w1).mono ?_
  rintro e w2 ⟨rfl, hs2, hB2⟩
  have hs2 := hs2.sl
  rw [← hlx] at hs2
  have HO2 := hid (HO.out.below hB2)
  clear HO hB2
  generalize Value.slice (some ⟨w1.heap.size, 0, none⟩) 128 128 = v2 at hs2 ⊢
  go_wp2_with fail
  refine (own_write HO2.out 1 hs2).mono ?_
  rintro e w3 ⟨rfl, hO3⟩
  rw [show (1 : Int) = ((1 : Nat) : Int) from rfl, DS.wr_ok (lost_neg _) (of_decide_eq_true rfl) hx128 (of_decide_eq_true rfl)] at hO3 ⊢
  have HO3 := hid hO3
  clear hO3 HO2 hs2
  go_wp2_with fail
  refine (own_flush HO3.out).mono ?_
  rintro e w4 ⟨rfl, hO4⟩
  rw [DS.fl_ok (lost_neg _) (of_decide_eq_true rfl)] at hO4 ⊢
  have HO4 := hid hO4
  clear hO4 HO3
  go_wp2_with fail
  refine (of_any 121 w4).mono ?_
  rintro e w5 ⟨rfl, hs5, hB5⟩
  have hs5 := hs5.sl
  rw [← hly] at hs5
  have HO5 := hid (HO4.out.below hB5)
  clear HO4 hB5
  generalize Value.slice (some ⟨w4.heap.size, 0, none⟩) 128 128 = v5 at hs5 ⊢
  go_wp2_with fail
  refine (own_write HO5.out 1 hs5).mono ?_
  rintro e w6 ⟨rfl, hO6⟩
  rw [show (1 : Int) = ((1 : Nat) : Int) from rfl, DS.wr_ok (lost_neg _) (of_decide_eq_true rfl) hy128 (of_decide_eq_true rfl)] at hO6 ⊢
  have HO6 := hid hO6
  clear hO6 HO5 hs5
  go_wp2_with fail
  refine (of_any 121 w6).mono ?_
  rintro e w7 ⟨rfl, hs7, hB7⟩
  have hs7 := hs7.sl
  rw [← hly] at hs7
  have HO7 := hid (HO6.out.below hB7)
  clear HO6 hB7
  generalize Value.slice (some ⟨w6.heap.size, 0, none⟩) 128 128 = v7 at hs7 ⊢
  go_wp2_with fail
  refine (own_write HO7.out 2 hs7).mono ?_
  rintro e w8 ⟨rfl, hO8⟩
  rw [show (2 : Int) = ((2 : Nat) : Int) from rfl, DS.wr_ok (lost_neg _) (of_decide_eq_true rfl) hy128 (of_decide_eq_true rfl)] at hO8 ⊢
  have HO8 : Hid (Own w w8 p (exS lx ly)) := hid hO8
  clear hO8 HO7 hs7
  go_wp2_with fail
  have hB9 : Below w8.heap.size w8 (w8.alloc (.cells #[.int .i64 0] 3)) := (Below.refl _ _).alloc (Nat.le_refl _) _
  have hI9 : Ints (w8.alloc (.cells #[.int .i64 0] 3)).heap.size (w8.alloc (.cells #[.int .i64 0] 3)) (some ⟨w8.heap.size, 0, none⟩) 1 [0] :=
    ⟨rfl, fun _ => ⟨w8.heap.size, 0, rfl, by simp, fun j hj => by
      obtain rfl : j = 0 := by simpa using hj
      exact cell_at (heap_alloc_last w8 _) 0 rfl⟩⟩
  have HO9 := hid (HO8.out.below hB9)
  have HI9 := hid hI9
  clear hB9 hI9 HO8
  generalize w8.heap.size = g9 at *
  generalize w8.alloc (.cells #[.int .i64 0] 3) = w9 at *
  refine (own_crash HO9.out HI9.out (by omega)).mono ?_
  rintro e w10 ⟨p1, rfl, hC10⟩
  have hcr1 : ((exS lx ly).cr [0]).now[1]? = some ly := by
    show (crashed _ _ _)[1]? = _
    rw [show (exS lx ly).loose = (1, ly) :: [(2, ly)] from rfl, crashed_zero]
    simp [exS, noughts]
  have HC10 := hid hC10
  have HO10 := hid (HO9.out.below (by obtain ⟨_, _, _, h⟩ := hC10; exact h))
  clear HO9 HI9 hC10
  go_wp2_with fail
  refine (own_read HC10.out rfl 1 ly hcr1).mono ?_
  rintro e w11 ⟨rfl, hs11, hB11⟩
  have HS11 := hid hs11
  have HC11 := hid (HC10.out.below hB11)
  have HO11 := hid (HO10.out.below hB11)
  clear HC10 HO10 hs11 hB11
  generalize Value.slice (some ⟨w10.heap.size, 0, none⟩) 128 128 = vs at *
  go_wp2_with fail
  refine (own_crash HO11.out (a := none) (len := 0) (cp := 0) (zs := []) ⟨rfl, fun h => absurd rfl h⟩ (by omega)).mono ?_
  rintro e w12 ⟨p2, rfl, hC12⟩
  have hcr2 : ((exS lx ly).cr []).now[1]? = some lx := by
    show (crashed _ _ _)[1]? = _
    rw [crashed_nil]
    simp [exS, noughts]
  have HC12 := hid hC12
  have hB12 : Below w11.heap.size w11 w12 := by obtain ⟨_, _, _, h⟩ := hC12; exact h
  have HO12 := hid (HO11.out.below hB12)
  have HC12' := hid (HC11.out.below hB12)
  have HS12 := hid (HS11.out.below hB12)
  clear HO11 HC11 HS11 hC12 hB12
  go_wp2_with fail
  refine (own_read HC12.out rfl 1 lx hcr2).mono ?_
  rintro e W ⟨rfl, hs13, hB13⟩
  have HS2 := hid hs13
  have HS1 := hid (HS12.out.below hB13)
  obtain ⟨X, hDk, hXk, hBw⟩ := HO12.out.below hB13
  obtain ⟨X1, hD1, _, _⟩ := HC12'.out.below hB13
  have HDk := hid hDk
  have HD1 := hid hD1
  have HBw := hid hBw
  clear HO12 HC12 HC12' HS12 hs13 hB13 hDk hD1 hBw hXk
  generalize Value.slice (some ⟨w12.heap.size, 0, none⟩) 128 128 = vt at *
  go_wp2_with fail
  refine h_openL (S := fun w' => Below W.heap.size W w') (by kernel_rfl) (by kernel_rfl) (fun _ _ _ _ _ h => h) (L := #[false, false, false, false, false, false, false, false, false, false, false, false, false, false, false, false, false, false, false, false, false, false, false, false, false, false, false, false, false, false, false, false, false, false, false, false, false, false, false, false, false, false, false, false, false, false, false, false, false, false, false, false]) (by kernel_rfl) ?_
  intro Q' hns hP hN
  have hS := (show Below W.heap.size W W.drew from (Below.refl _ _).drew)
  refine h_takeL (i := 0) (v := (.int .i64 0)) hns rfl rfl (by kernel_rfl) (by kernel_rfl) hP (y_move rfl (by kernel_rfl) (by kernel_rfl)) hS rfl (L' := #[true, false, false, false, false, false, false, false, false, false, false, false, false, false, false, false, false, false, false, false, false, false, false, false, false, false, false, false, false, false, false, false, false, false, false, false, false, false, false, false, false, false, false, false, false, false, false, false, false, false, false, false]) (by kernel_rfl) ?_
  refine h_takeL (i := 1) (v := (.bool true)) hns rfl rfl (by kernel_rfl) (by kernel_rfl) hP (y_eqi (t := 25) (x := 0) (y := 0) (.inr rfl) rfl (by kernel_rfl) (by kernel_rfl) (by kernel_rfl) rfl) hS rfl (L' := #[true, true, false, false, false, false, false, false, false, false, false, false, false, false, false, false, false, false, false, false, false, false, false, false, false, false, false, false, false, false, false, false, false, false, false, false, false, false, false, false, false, false, false, false, false, false, false, false, false, false, false, false]) (by kernel_rfl) ?_
  refine h_takeL (i := 2) (v := (.bool true)) hns rfl rfl (by kernel_rfl) (by kernel_rfl) hP (y_move rfl (by kernel_rfl) (by kernel_rfl)) hS rfl (L' := #[true, true, true, false, false, false, false, false, false, false, false, false, false, false, false, false, false, false, false, false, false, false, false, false, false, false, false, false, false, false, false, false, false, false, false, false, false, false, false, false, false, false, false, false, false, false, false, false, false, false, false, false]) (by kernel_rfl) ?_
  refine h_takeL (i := 3) (v := (.int .i64 0)) hns rfl rfl (by kernel_rfl) (by kernel_rfl) hP (y_move rfl (by kernel_rfl) (by kernel_rfl)) hS rfl (L' := #[true, true, true, true, false, false, false, false, false, false, false, false, false, false, false, false, false, false, false, false, false, false, false, false, false, false, false, false, false, false, false, false, false, false, false, false, false, false, false, false, false, false, false, false, false, false, false, false, false, false, false, false]) (by kernel_rfl) ?_
  refine h_takeL (i := 4) (v := (.bool true)) hns rfl rfl (by kernel_rfl) (by kernel_rfl) hP (y_eqi (t := 25) (x := 0) (y := 0) (.inr rfl) rfl (by kernel_rfl) (by kernel_rfl) (by kernel_rfl) rfl) hS rfl (L' := #[true, true, true, true, true, false, false, false, false, false, false, false, false, false, false, false, false, false, false, false, false, false, false, false, false, false, false, false, false, false, false, false, false, false, false, false, false, false, false, false, false, false, false, false, false, false, false, false, false, false, false, false]) (by kernel_rfl) ?_
  refine h_takeL (i := 5) (v := (.bool true)) hns rfl rfl (by kernel_rfl) (by kernel_rfl) hP (y_pick (b := true) rfl (by kernel_rfl) (by kernel_rfl) (by kernel_rfl)) hS rfl (L' := #[true, true, true, true, true, true, false, false, false, false, false, false, false, false, false, false, false, false, false, false, false, false, false, false, false, false, false, false, false, false, false, false, false, false, false, false, false, false, false, false, false, false, false, false, false, false, false, false, false, false, false, false]) (by kernel_rfl) ?_
  refine h_takeL (i := 6) (v := (.bool true)) hns rfl rfl (by kernel_rfl) (by kernel_rfl) hP (y_move rfl (by kernel_rfl) (by kernel_rfl)) hS rfl (L' := #[true, true, true, true, true, true, true, false, false, false, false, false, false, false, false, false, false, false, false, false, false, false, false, false, false, false, false, false, false, false, false, false, false, false, false, false, false, false, false, false, false, false, false, false, false, false, false, false, false, false, false, false]) (by kernel_rfl) ?_
  simp only [List.setIfInBounds_toArray, List.set_cons_zero, List.set_cons_succ]
  refine h_takeL (i := 7) (v := (.int .i64 0)) hns rfl rfl (by kernel_rfl) (by kernel_rfl) hP (y_move rfl (by kernel_rfl) (by kernel_rfl)) hS rfl (L' := #[true, true, true, true, true, true, true, true, false, false, false, false, false, false, false, false, false, false, false, false, false, false, false, false, false, false, false, false, false, false, false, false, false, false, false, false, false, false, false, false, false, false, false, false, false, false, false, false, false, false, false, false]) (by kernel_rfl) ?_
  refine h_takeL (i := 8) (v := (.bool true)) hns rfl rfl (by kernel_rfl) (by kernel_rfl) hP (y_eqi (t := 25) (x := 0) (y := 0) (.inr rfl) rfl (by kernel_rfl) (by kernel_rfl) (by kernel_rfl) rfl) hS rfl (L' := #[true, true, true, true, true, true, true, true, true, false, false, false, false, false, false, false, false, false, false, false, false, false, false, false, false, false, false, false, false, false, false, false, false, false, false, false, false, false, false, false, false, false, false, false, false, false, false, false, false, false, false, false]) (by kernel_rfl) ?_
  refine h_takeL (i := 9) (v := (.bool true)) hns rfl rfl (by kernel_rfl) (by kernel_rfl) hP (y_pick (b := true) rfl (by kernel_rfl) (by kernel_rfl) (by kernel_rfl)) hS rfl (L' := #[true, true, true, true, true, true, true, true, true, true, false, false, false, false, false, false, false, false, false, false, false, false, false, false, false, false, false, false, false, false, false, false, false, false, false, false, false, false, false, false, false, false, false, false, false, false, false, false, false, false, false, false]) (by kernel_rfl) ?_
  refine h_takeL (i := 10) (v := (.bool true)) hns rfl rfl (by kernel_rfl) (by kernel_rfl) hP (y_move rfl (by kernel_rfl) (by kernel_rfl)) hS rfl (L' := #[true, true, true, true, true, true, true, true, true, true, true, false, false, false, false, false, false, false, false, false, false, false, false, false, false, false, false, false, false, false, false, false, false, false, false, false, false, false, false, false, false, false, false, false, false, false, false, false, false, false, false, false]) (by kernel_rfl) ?_
  refine h_takeL (i := 11) (v := (.int .i64 0)) hns rfl rfl (by kernel_rfl) (by kernel_rfl) hP (y_move rfl (by kernel_rfl) (by kernel_rfl)) hS rfl (L' := #[true, true, true, true, true, true, true, true, true, true, true, true, false, false, false, false, false, false, false, false, false, false, false, false, false, false, false, false, false, false, false, false, false, false, false, false, false, false, false, false, false, false, false, false, false, false, false, false, false, false, false, false]) (by kernel_rfl) ?_
  refine h_takeL (i := 12) (v := (.bool true)) hns rfl rfl (by kernel_rfl) (by kernel_rfl) hP (y_eqi (t := 25) (x := 0) (y := 0) (.inr rfl) rfl (by kernel_rfl) (by kernel_rfl) (by kernel_rfl) rfl) hS rfl (L' := #[true, true, true, true, true, true, true, true, true, true, true, true, true, false, false, false, false, false, false, false, false, false, false, false, false, false, false, false, false, false, false, false, false, false, false, false, false, false, false, false, false, false, false, false, false, false, false, false, false, false, false, false]) (by kernel_rfl) ?_
  refine h_takeL (i := 13) (v := (.bool true)) hns rfl rfl (by kernel_rfl) (by kernel_rfl) hP (y_pick (b := true) rfl (by kernel_rfl) (by kernel_rfl) (by kernel_rfl)) hS rfl (L' := #[true, true, true, true, true, true, true, true, true, true, true, true, true, true, false, false, false, false, false, false, false, false, false, false, false, false, false, false, false, false, false, false, false, false, false, false, false, false, false, false, false, false, false, false, false, false, false, false, false, false, false, false]) (by kernel_rfl) ?_
  refine h_takeL (i := 14) (v := (.bool true)) hns rfl rfl (by kernel_rfl) (by kernel_rfl) hP (y_move rfl (by kernel_rfl) (by kernel_rfl)) hS rfl (L' := #[true, true, true, true, true, true, true, true, true, true, true, true, true, true, true, false, false, false, false, false, false, false, false, false, false, false, false, false, false, false, false, false, false, false, false, false, false, false, false, false, false, false, false, false, false, false, false, false, false, false, false, false]) (by kernel_rfl) ?_
  simp only [List.setIfInBounds_toArray, List.set_cons_zero, List.set_cons_succ]
  refine h_takeL (i := 15) (v := .pointer (some ⟨p, 0, none⟩)) hns rfl rfl (by kernel_rfl) (by kernel_rfl) hP (y_move rfl (by kernel_rfl) (by kernel_rfl)) hS rfl (L' := #[true, true, true, true, true, true, true, true, true, true, true, true, true, true, true, true, false, false, false, false, false, false, false, false, false, false, false, false, false, false, false, false, false, false, false, false, false, false, false, false, false, false, false, false, false, false, false, false, false, false, false, false]) (by kernel_rfl) ?_
  refine h_callL (i := 16) (f := 15) (args := #[.pointer (some ⟨p, 0, none⟩)]) (by kernel_rfl) rfl rfl (by kernel_rfl) (enter_go rfl (by kernel_rfl) (fun w => by go_simp)) (L' := #[true, true, true, true, true, true, true, true, true, true, true, true, true, true, true, true, true, false, false, false, false, false, false, false, false, false, false, false, false, false, false, false, false, false, false, false, false, false, false, false, false, false, false, false, false, false, false, false, false, false, false, false]) (by kernel_rfl) ?_
  refine (loose_d (HDk.out.below hS)).mono ?_
  rintro e wz ⟨rfl, hwz⟩
  subst hwz
  refine ⟨_, rfl, hS, ?_⟩
  refine h_takeL (i := 17) (v := (.bool true)) hns rfl rfl (by kernel_rfl) (by kernel_rfl) hP (y_eqi (t := 3) (x := 2) (y := 2) (.inl rfl) rfl (by kernel_rfl) (by kernel_rfl) (by kernel_rfl) rfl) hS rfl (L' := #[true, true, true, true, true, true, true, true, true, true, true, true, true, true, true, true, true, true, false, false, false, false, false, false, false, false, false, false, false, false, false, false, false, false, false, false, false, false, false, false, false, false, false, false, false, false, false, false, false, false, false, false]) (by kernel_rfl) ?_
  refine h_takeL (i := 18) (v := (.bool true)) hns rfl rfl (by kernel_rfl) (by kernel_rfl) hP (y_pick (b := true) rfl (by kernel_rfl) (by kernel_rfl) (by kernel_rfl)) hS rfl (L' := #[true, true, true, true, true, true, true, true, true, true, true, true, true, true, true, true, true, true, true, false, false, false, false, false, false, false, false, false, false, false, false, false, false, false, false, false, false, false, false, false, false, false, false, false, false, false, false, false, false, false, false, false]) (by kernel_rfl) ?_
  refine h_takeL (i := 19) (v := (.bool true)) hns rfl rfl (by kernel_rfl) (by kernel_rfl) hP (y_move rfl (by kernel_rfl) (by kernel_rfl)) hS rfl (L' := #[true, true, true, true, true, true, true, true, true, true, true, true, true, true, true, true, true, true, true, true, false, false, false, false, false, false, false, false, false, false, false, false, false, false, false, false, false, false, false, false, false, false, false, false, false, false, false, false, false, false, false, false]) (by kernel_rfl) ?_
  refine h_takeL (i := 20) (v := .pointer (some ⟨p, 0, none⟩)) hns rfl rfl (by kernel_rfl) (by kernel_rfl) hP (y_move rfl (by kernel_rfl) (by kernel_rfl)) hS rfl (L' := #[true, true, true, true, true, true, true, true, true, true, true, true, true, true, true, true, true, true, true, true, true, false, false, false, false, false, false, false, false, false, false, false, false, false, false, false, false, false, false, false, false, false, false, false, false, false, false, false, false, false, false, false]) (by kernel_rfl) ?_
  refine h_callL (i := 21) (f := 24) (args := #[.pointer (some ⟨p, 0, none⟩)]) (by kernel_rfl) rfl rfl (by kernel_rfl) (enter_go rfl (by kernel_rfl) (fun w => by go_simp)) (L' := #[true, true, true, true, true, true, true, true, true, true, true, true, true, true, true, true, true, true, true, true, true, true, false, false, false, false, false, false, false, false, false, false, false, false, false, false, false, false, false, false, false, false, false, false, false, false, false, false, false, false, false, false]) (by kernel_rfl) ?_
  refine (ops_d (HDk.out.below hS)).mono ?_
  rintro e wz ⟨rfl, hwz⟩
  subst hwz
  refine ⟨_, rfl, hS, ?_⟩
  refine h_takeL (i := 22) (v := (.bool true)) hns rfl rfl (by kernel_rfl) (by kernel_rfl) hP (y_eqi (t := 3) (x := 4) (y := 4) (.inl rfl) rfl (by kernel_rfl) (by kernel_rfl) (by kernel_rfl) rfl) hS rfl (L' := #[true, true, true, true, true, true, true, true, true, true, true, true, true, true, true, true, true, true, true, true, true, true, true, false, false, false, false, false, false, false, false, false, false, false, false, false, false, false, false, false, false, false, false, false, false, false, false, false, false, false, false, false]) (by kernel_rfl) ?_
  simp only [List.setIfInBounds_toArray, List.set_cons_zero, List.set_cons_succ]
  refine h_takeL (i := 23) (v := (.bool true)) hns rfl rfl (by kernel_rfl) (by kernel_rfl) hP (y_pick (b := true) rfl (by kernel_rfl) (by kernel_rfl) (by kernel_rfl)) hS rfl (L' := #[true, true, true, true, true, true, true, true, true, true, true, true, true, true, true, true, true, true, true, true, true, true, true, true, false, false, false, false, false, false, false, false, false, false, false, false, false, false, false, false, false, false, false, false, false, false, false, false, false, false, false, false]) (by kernel_rfl) ?_
  refine h_takeL (i := 24) (v := (.bool true)) hns rfl rfl (by kernel_rfl) (by kernel_rfl) hP (y_move rfl (by kernel_rfl) (by kernel_rfl)) hS rfl (L' := #[true, true, true, true, true, true, true, true, true, true, true, true, true, true, true, true, true, true, true, true, true, true, true, true, true, false, false, false, false, false, false, false, false, false, false, false, false, false, false, false, false, false, false, false, false, false, false, false, false, false, false, false]) (by kernel_rfl) ?_
  refine h_takeL (i := 25) (v := vs) hns rfl rfl (by kernel_rfl) (by kernel_rfl) hP (y_move rfl (by kernel_rfl) (by kernel_rfl)) hS rfl (L' := #[true, true, true, true, true, true, true, true, true, true, true, true, true, true, true, true, true, true, true, true, true, true, true, true, true, true, false, false, false, false, false, false, false, false, false, false, false, false, false, false, false, false, false, false, false, false, false, false, false, false, false, false]) (by kernel_rfl) ?_
  refine h_takeL (i := 26) (v := .string ⟨ly.toArray⟩) hns rfl rfl (by kernel_rfl) (by kernel_rfl) hP (y_conv rfl (by kernel_rfl) (by kernel_rfl) (fun w' hw => conv_sl (HS1.out.below hw))) hS rfl (L' := #[true, true, true, true, true, true, true, true, true, true, true, true, true, true, true, true, true, true, true, true, true, true, true, true, true, true, true, false, false, false, false, false, false, false, false, false, false, false, false, false, false, false, false, false, false, false, false, false, false, false, false, false]) (by kernel_rfl) ?_
  refine h_callL (i := 27) (f := 20) (args := #[.int .u8 121]) (by kernel_rfl) rfl rfl (by kernel_rfl) (enter_go rfl (by kernel_rfl) (fun w => by go_simp)) (L' := #[true, true, true, true, true, true, true, true, true, true, true, true, true, true, true, true, true, true, true, true, true, true, true, true, true, true, true, true, false, false, false, false, false, false, false, false, false, false, false, false, false, false, false, false, false, false, false, false, false, false, false, false]) (by kernel_rfl) ?_
  refine (of_any 121 _).mono ?_
  rintro e wx ⟨rfl, hsx, hBx⟩
  have hsx := hsx.sl
  have hS2 : Below W.heap.size W wx := Below.next hS hBx
  refine ⟨_, rfl, hS2, ?_⟩
  clear hS hBx
  have hS := hS2
  clear hS2
  generalize Value.slice _ 128 128 = vx at hsx ⊢
  refine h_valL (i := 28) (v := .string ⟨ly.toArray⟩) (by kernel_rfl) rfl rfl (by kernel_rfl) (run_conv rfl (by kernel_rfl) (conv_sl (hly ▸ hsx))) hS rfl (L' := #[true, true, true, true, true, true, true, true, true, true, true, true, true, true, true, true, true, true, true, true, true, true, true, true, true, true, true, true, true, false, false, false, false, false, false, false, false, false, false, false, false, false, false, false, false, false, false, false, false, false, false, false]) (by kernel_rfl) ?_
  refine h_takeL (i := 29) (v := (.bool true)) hns rfl rfl (by kernel_rfl) (by kernel_rfl) hP (y_eqlT (s := ⟨ly.toArray⟩) (t := ⟨ly.toArray⟩) (beq_self_eq_true _) rfl (by kernel_rfl) (by kernel_rfl) (by kernel_rfl)) hS rfl (L' := #[true, true, true, true, true, true, true, true, true, true, true, true, true, true, true, true, true, true, true, true, true, true, true, true, true, true, true, true, true, true, false, false, false, false, false, false, false, false, false, false, false, false, false, false, false, false, false, false, false, false, false, false]) (by kernel_rfl) ?_
  refine h_takeL (i := 30) (v := (.bool true)) hns rfl rfl (by kernel_rfl) (by kernel_rfl) hP (y_pick (b := true) rfl (by kernel_rfl) (by kernel_rfl) (by kernel_rfl)) hS rfl (L' := #[true, true, true, true, true, true, true, true, true, true, true, true, true, true, true, true, true, true, true, true, true, true, true, true, true, true, true, true, true, true, true, false, false, false, false, false, false, false, false, false, false, false, false, false, false, false, false, false, false, false, false, false]) (by kernel_rfl) ?_
  simp only [List.setIfInBounds_toArray, List.set_cons_zero, List.set_cons_succ]
  refine h_takeL (i := 31) (v := (.bool true)) hns rfl rfl (by kernel_rfl) (by kernel_rfl) hP (y_move rfl (by kernel_rfl) (by kernel_rfl)) hS rfl (L' := #[true, true, true, true, true, true, true, true, true, true, true, true, true, true, true, true, true, true, true, true, true, true, true, true, true, true, true, true, true, true, true, true, false, false, false, false, false, false, false, false, false, false, false, false, false, false, false, false, false, false, false, false]) (by kernel_rfl) ?_
  refine h_takeL (i := 32) (v := (.int .i64 0)) hns rfl rfl (by kernel_rfl) (by kernel_rfl) hP (y_move rfl (by kernel_rfl) (by kernel_rfl)) hS rfl (L' := #[true, true, true, true, true, true, true, true, true, true, true, true, true, true, true, true, true, true, true, true, true, true, true, true, true, true, true, true, true, true, true, true, true, false, false, false, false, false, false, false, false, false, false, false, false, false, false, false, false, false, false, false]) (by kernel_rfl) ?_
  refine h_takeL (i := 33) (v := (.bool true)) hns rfl rfl (by kernel_rfl) (by kernel_rfl) hP (y_eqi (t := 25) (x := 0) (y := 0) (.inr rfl) rfl (by kernel_rfl) (by kernel_rfl) (by kernel_rfl) rfl) hS rfl (L' := #[true, true, true, true, true, true, true, true, true, true, true, true, true, true, true, true, true, true, true, true, true, true, true, true, true, true, true, true, true, true, true, true, true, true, false, false, false, false, false, false, false, false, false, false, false, false, false, false, false, false, false, false]) (by kernel_rfl) ?_
  refine h_takeL (i := 34) (v := (.bool true)) hns rfl rfl (by kernel_rfl) (by kernel_rfl) hP (y_pick (b := true) rfl (by kernel_rfl) (by kernel_rfl) (by kernel_rfl)) hS rfl (L' := #[true, true, true, true, true, true, true, true, true, true, true, true, true, true, true, true, true, true, true, true, true, true, true, true, true, true, true, true, true, true, true, true, true, true, true, false, false, false, false, false, false, false, false, false, false, false, false, false, false, false, false, false]) (by kernel_rfl) ?_
  refine h_takeL (i := 35) (v := (.bool true)) hns rfl rfl (by kernel_rfl) (by kernel_rfl) hP (y_move rfl (by kernel_rfl) (by kernel_rfl)) hS rfl (L' := #[true, true, true, true, true, true, true, true, true, true, true, true, true, true, true, true, true, true, true, true, true, true, true, true, true, true, true, true, true, true, true, true, true, true, true, true, false, false, false, false, false, false, false, false, false, false, false, false, false, false, false, false]) (by kernel_rfl) ?_
  refine h_takeL (i := 36) (v := vt) hns rfl rfl (by kernel_rfl) (by kernel_rfl) hP (y_move rfl (by kernel_rfl) (by kernel_rfl)) hS rfl (L' := #[true, true, true, true, true, true, true, true, true, true, true, true, true, true, true, true, true, true, true, true, true, true, true, true, true, true, true, true, true, true, true, true, true, true, true, true, true, false, false, false, false, false, false, false, false, false, false, false, false, false, false, false]) (by kernel_rfl) ?_
  refine h_takeL (i := 37) (v := .string ⟨lx.toArray⟩) hns rfl rfl (by kernel_rfl) (by kernel_rfl) hP (y_conv rfl (by kernel_rfl) (by kernel_rfl) (fun w' hw => conv_sl (HS2.out.below hw))) hS rfl (L' := #[true, true, true, true, true, true, true, true, true, true, true, true, true, true, true, true, true, true, true, true, true, true, true, true, true, true, true, true, true, true, true, true, true, true, true, true, true, true, false, false, false, false, false, false, false, false, false, false, false, false, false, false]) (by kernel_rfl) ?_
  refine h_callL (i := 38) (f := 20) (args := #[.int .u8 120]) (by kernel_rfl) rfl rfl (by kernel_rfl) (enter_go rfl (by kernel_rfl) (fun w => by go_simp)) (L' := #[true, true, true, true, true, true, true, true, true, true, true, true, true, true, true, true, true, true, true, true, true, true, true, true, true, true, true, true, true, true, true, true, true, true, true, true, true, true, true, false, false, false, false, false, false, false, false, false, false, false, false, false]) (by kernel_rfl) ?_
  refine (of_any 120 _).mono ?_
  rintro e wx ⟨rfl, hsx, hBx⟩
  have hsx := hsx.sl
  have hS2 : Below W.heap.size W wx := Below.next hS hBx
  refine ⟨_, rfl, hS2, ?_⟩
  clear hS hBx
  have hS := hS2
  clear hS2
  generalize Value.slice _ 128 128 = vx at hsx ⊢
  simp only [List.setIfInBounds_toArray, List.set_cons_zero, List.set_cons_succ]
  refine h_valL (i := 39) (v := .string ⟨lx.toArray⟩) (by kernel_rfl) rfl rfl (by kernel_rfl) (run_conv rfl (by kernel_rfl) (conv_sl (hlx ▸ hsx))) hS rfl (L' := #[true, true, true, true, true, true, true, true, true, true, true, true, true, true, true, true, true, true, true, true, true, true, true, true, true, true, true, true, true, true, true, true, true, true, true, true, true, true, true, true, false, false, false, false, false, false, false, false, false, false, false, false]) (by kernel_rfl) ?_
  refine h_takeL (i := 40) (v := (.bool true)) hns rfl rfl (by kernel_rfl) (by kernel_rfl) hP (y_eqlT (s := ⟨lx.toArray⟩) (t := ⟨lx.toArray⟩) (beq_self_eq_true _) rfl (by kernel_rfl) (by kernel_rfl) (by kernel_rfl)) hS rfl (L' := #[true, true, true, true, true, true, true, true, true, true, true, true, true, true, true, true, true, true, true, true, true, true, true, true, true, true, true, true, true, true, true, true, true, true, true, true, true, true, true, true, true, false, false, false, false, false, false, false, false, false, false, false]) (by kernel_rfl) ?_
  refine h_takeL (i := 41) (v := (.bool true)) hns rfl rfl (by kernel_rfl) (by kernel_rfl) hP (y_pick (b := true) rfl (by kernel_rfl) (by kernel_rfl) (by kernel_rfl)) hS rfl (L' := #[true, true, true, true, true, true, true, true, true, true, true, true, true, true, true, true, true, true, true, true, true, true, true, true, true, true, true, true, true, true, true, true, true, true, true, true, true, true, true, true, true, true, false, false, false, false, false, false, false, false, false, false]) (by kernel_rfl) ?_
  refine h_takeL (i := 42) (v := (.bool true)) hns rfl rfl (by kernel_rfl) (by kernel_rfl) hP (y_move rfl (by kernel_rfl) (by kernel_rfl)) hS rfl (L' := #[true, true, true, true, true, true, true, true, true, true, true, true, true, true, true, true, true, true, true, true, true, true, true, true, true, true, true, true, true, true, true, true, true, true, true, true, true, true, true, true, true, true, true, false, false, false, false, false, false, false, false, false]) (by kernel_rfl) ?_
  refine h_takeL (i := 43) (v := (.int .i64 0)) hns rfl rfl (by kernel_rfl) (by kernel_rfl) hP (y_move rfl (by kernel_rfl) (by kernel_rfl)) hS rfl (L' := #[true, true, true, true, true, true, true, true, true, true, true, true, true, true, true, true, true, true, true, true, true, true, true, true, true, true, true, true, true, true, true, true, true, true, true, true, true, true, true, true, true, true, true, true, false, false, false, false, false, false, false, false]) (by kernel_rfl) ?_
  refine h_takeL (i := 44) (v := (.bool true)) hns rfl rfl (by kernel_rfl) (by kernel_rfl) hP (y_eqi (t := 25) (x := 0) (y := 0) (.inr rfl) rfl (by kernel_rfl) (by kernel_rfl) (by kernel_rfl) rfl) hS rfl (L' := #[true, true, true, true, true, true, true, true, true, true, true, true, true, true, true, true, true, true, true, true, true, true, true, true, true, true, true, true, true, true, true, true, true, true, true, true, true, true, true, true, true, true, true, true, true, false, false, false, false, false, false, false]) (by kernel_rfl) ?_
  refine h_takeL (i := 45) (v := (.bool true)) hns rfl rfl (by kernel_rfl) (by kernel_rfl) hP (y_pick (b := true) rfl (by kernel_rfl) (by kernel_rfl) (by kernel_rfl)) hS rfl (L' := #[true, true, true, true, true, true, true, true, true, true, true, true, true, true, true, true, true, true, true, true, true, true, true, true, true, true, true, true, true, true, true, true, true, true, true, true, true, true, true, true, true, true, true, true, true, true, false, false, false, false, false, false]) (by kernel_rfl) ?_
  refine h_takeL (i := 46) (v := (.bool true)) hns rfl rfl (by kernel_rfl) (by kernel_rfl) hP (y_move rfl (by kernel_rfl) (by kernel_rfl)) hS rfl (L' := #[true, true, true, true, true, true, true, true, true, true, true, true, true, true, true, true, true, true, true, true, true, true, true, true, true, true, true, true, true, true, true, true, true, true, true, true, true, true, true, true, true, true, true, true, true, true, true, false, false, false, false, false]) (by kernel_rfl) ?_
  simp only [List.setIfInBounds_toArray, List.set_cons_zero, List.set_cons_succ]
  refine h_takeL (i := 47) (v := .pointer (some ⟨p1, 0, none⟩)) hns rfl rfl (by kernel_rfl) (by kernel_rfl) hP (y_move rfl (by kernel_rfl) (by kernel_rfl)) hS rfl (L' := #[true, true, true, true, true, true, true, true, true, true, true, true, true, true, true, true, true, true, true, true, true, true, true, true, true, true, true, true, true, true, true, true, true, true, true, true, true, true, true, true, true, true, true, true, true, true, true, true, false, false, false, false]) (by kernel_rfl) ?_
  refine h_callL (i := 48) (f := 15) (args := #[.pointer (some ⟨p1, 0, none⟩)]) (by kernel_rfl) rfl rfl (by kernel_rfl) (enter_go rfl (by kernel_rfl) (fun w => by go_simp)) (L' := #[true, true, true, true, true, true, true, true, true, true, true, true, true, true, true, true, true, true, true, true, true, true, true, true, true, true, true, true, true, true, true, true, true, true, true, true, true, true, true, true, true, true, true, true, true, true, true, true, true, false, false, false]) (by kernel_rfl) ?_
  refine (loose_d (HD1.out.below hS)).mono ?_
  rintro e wz ⟨rfl, hwz⟩
  subst hwz
  refine ⟨_, rfl, hS, ?_⟩
  refine h_takeL (i := 49) (v := (.bool true)) hns rfl rfl (by kernel_rfl) (by kernel_rfl) hP (y_eqi (t := 3) (x := 0) (y := 0) (.inl rfl) rfl (by kernel_rfl) (by kernel_rfl) (by kernel_rfl) rfl) hS rfl (L' := #[true, true, true, true, true, true, true, true, true, true, true, true, true, true, true, true, true, true, true, true, true, true, true, true, true, true, true, true, true, true, true, true, true, true, true, true, true, true, true, true, true, true, true, true, true, true, true, true, true, true, false, false]) (by kernel_rfl) ?_
  refine h_takeL (i := 50) (v := (.bool true)) hns rfl rfl (by kernel_rfl) (by kernel_rfl) hP (y_pick (b := true) rfl (by kernel_rfl) (by kernel_rfl) (by kernel_rfl)) hS rfl (L' := #[true, true, true, true, true, true, true, true, true, true, true, true, true, true, true, true, true, true, true, true, true, true, true, true, true, true, true, true, true, true, true, true, true, true, true, true, true, true, true, true, true, true, true, true, true, true, true, true, true, true, true, false]) (by kernel_rfl) ?_
  refine h_takeL (i := 51) (v := (.bool true)) hns rfl rfl (by kernel_rfl) (by kernel_rfl) hP (y_assign rfl (by kernel_rfl) (by kernel_rfl)) hS rfl (L' := #[true, true, true, true, true, true, true, true, true, true, true, true, true, true, true, true, true, true, true, true, true, true, true, true, true, true, true, true, true, true, true, true, true, true, true, true, true, true, true, true, true, true, true, true, true, true, true, true, true, true, true, true]) (by kernel_rfl) ?_
  simp only [List.setIfInBounds_toArray, List.set_cons_zero, List.set_cons_succ]
  refine wpAnyH_done (by kernel_rfl) ?_ _
  refine hN _ _ ?_
  clear hP hN hns
  go_wp2
  go_ret
  exact ⟨rfl, Below.next HBw.out hS⟩
end Go.Proofs.Ytkfomolglangdaa
