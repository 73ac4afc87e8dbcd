/- The walk of DiskOff. -/
import Derived.Test.YtkfomolglangdaaKFlushesW
namespace Go.Proofs.Ytkfomolglangdaa
open Go Go.RowKit

section
variable {ops : Array Oper} {S : World → Prop} {o : Oper} {a : Act} {w w1 : World}
theorem y_neqi {t : TypeId} {x y : Int} {p q : Operand} (ht : t = 3 ∨ t = 25) (hop : o.op = .binOp .neq t p q t) (hw : Region.wanted o (yielded ops a.tmps) = true) (hp : a.eval p = .int .i64 x) (hq : a.eval q = .int .i64 y) {r : Bool} (hr : (x != y) = r) :
    YieldsIf Try.prog ops S o (.bool r) a :=
  .inl ⟨hw, fun w _ => by subst hr; rcases ht with rfl | rfl <;> (unfold execOp; rw [hop]; simp only [hp, hq]; go_simp)⟩
theorem y_neqF {x y : Operand} {s t : ByteArray} (he : (s.toList == t.toList) = true) (hop : o.op = .binOp .neq 9 x y 9) (hw : Region.wanted o (yielded ops a.tmps) = true) (hx : a.eval x = .string s) (hy : a.eval y = .string t) :
    YieldsIf Try.prog ops S o (.bool false) a :=
  .inl ⟨hw, fun w _ => by
    have : (execOp a.eval o).run Try.prog w = .ok (.value (.bool (!(s.toList == t.toList)))) w := by unfold execOp; rw [hop]; simp only [hx, hy]; go_simp
    rw [this, he]; rfl⟩
theorem run_idx {t : TypeId} {p q : Operand} {x y v : Value} (hop : o.op = .indexAddr t p q) (hp : a.eval p = x) (hq : a.eval q = y) (hr : (Instr.indexAt t x y).run Try.prog w = .ok v w) :
    (execOp a.eval o).run Try.prog w = .ok (.value v) w := by
  unfold execOp; rw [hop]; simp only [hp, hq, Sem.run_bind, hr, Result.andThen_ok]; rfl
end
theorem idx54 (g cap k : Nat) (h : k < 8) (w : World) : (Instr.indexAt 54 (.slice (some ⟨g, 0, none⟩) 8 cap) (.int .i64 k)).run Try.prog w = .ok (.pointer (some ⟨g, k, none⟩)) w := by
  have h1 : (k : Int) < 8 := by omega
  go_simp

def strs (L : List (List UInt8)) : List Value := L.map fun l => .string ⟨l.toArray⟩
theorem strs_len (L : List (List UInt8)) : (strs L).length = L.length := by simp [strs]
theorem info9 : (Try.prog.info? 9).map (fun i => (i.zero, i.size, i.bytes)) = some (some (.string ByteArray.empty), 1, 16) := by kernel_rfl
theorem LO.shape {w : World} {base : Nat} {v : Value} {L : List (Nat × List UInt8)} (h : LO w base v L) : ∃ a cap, v = .slice a L.length cap := by
  obtain ⟨K, _, _, h3⟩ := h
  rcases h3.2 with ⟨rfl, hz⟩ | ⟨g, cap, cur, rfl, _⟩
  · exact ⟨none, 0, by rw [hz]⟩
  · exact ⟨_, _, rfl⟩
/-- The disk with its power cut at once. -/
def DS.off (s : DS) (b : Bool) : DS := { s with cut := s.ops, gone := b }
theorem lost_off {s : DS} (h : 0 ≤ s.ops) : lost s.ops s.ops = true := by unfold lost; simp [h]
theorem DS.wr_off {s : DS} (h : 0 ≤ s.ops) (b : Bool) (x : Int) (l : List UInt8) : (s.off b).wr x l = (43, s.off true) := by
  unfold DS.wr; rw [if_pos (show lost (s.off b).cut (s.off b).ops = true from lost_off h)]; rfl
theorem DS.fl_off {s : DS} (h : 0 ≤ s.ops) (b : Bool) : (s.off b).fl = (43, s.off true) := by
  unfold DS.fl; rw [if_pos (show lost (s.off b).cut (s.off b).ops = true from lost_off h)]; rfl
theorem read_gone_d {w : World} {p : Nat} {X : List Nat} {s : DS} (h : Disk w p X s) (hg : s.gone = true) (x : Int) :
    Calls Try.prog 17 #[.pointer (some ⟨p, 0, none⟩), .int .i64 x] w fun e w' => e = .returned (.tuple #[.slice none 0 0, .int .i64 43]) ∧ w' = w := by
  obtain ⟨a, ca, b, cb, m, rfl, hD, _⟩ := h
  rw [hg] at hD
  exact read_gone w p _ _ m s.ops s.cut x hD

set_option maxRecDepth 100000 in
set_option maxHeartbeats 8000000 in
theorem diskOff_walk (a0 : Option Addr) (len0 cap0 : Nat) (xs : List OpV) (a1 : Option Addr) (len1 cap1 : Nat) (ys : List OpV) (w : World)
    (hs : Ops w a0 len0 xs) (hl0 : len0 ≤ 9223372036854775807) (hs1 : Ops w a1 len1 ys) (hf1 : ∀ x ∈ ys, ∃ l, Sl w (.slice x.ba x.bl x.bc) l ∧ l.length = x.bl) (hl1 : len1 ≤ 9223372036854775807) :
    Calls Try.prog 7 #[.slice a0 len0 cap0, .slice a1 len1 cap1] w fun e w' => e = .returned (.bool true) ∧ Below w.heap.size w w' := by
  obtain ⟨i0, hi, hz0, hz1, hz2⟩ := info_parts info9
  have HS := hid hs
  have HY := hid hs1
  have HYF := hid hf1
  clear hs hs1 hf1
  go_enter Try.func7, Try.ntmps7
  go_wp2_with fail
  refine (shown_any w).mono ?_
  rintro e w1 ⟨rfl, hB1⟩
  have HB1 := hid hB1
  clear hB1
  go_wp2_with fail
  refine (plays_any w1 a0 len0 cap0 xs (HS.out.below HB1.out) hl0).mono ?_
  rintro e w2 ⟨p, X, s, v2, rfl, hD, hn, hcut, hgone, hops, hX, hLO, hB2⟩
  obtain ⟨av, cv, rfl⟩ := hLO.shape
  have hops0 := hD.ok.o0
  have hnl : s.now.length = 8 := by rw [hD.ok.nowLen, hn]
  have hX' : ∀ k ∈ X, w.heap.size ≤ k := fun k hk => Nat.le_trans HB1.out.size (hX k hk)
  have HD := hid hD
  have HX := hid hX'
  have HB := hid (Below.next HB1.out hB2)
  clear hD hX hX' hB2 HB1 HS hLO
  go_upto_region 7 with fail
  go_loopw [9, 10, 11, 12] (fun v x _ _ wr => ∃ k : Nat, k ≤ 8 ∧ x = .int .i64 k ∧ Disk wr p X s ∧ wr.ownsRow w.heap.size 9 1 v k (strs (s.now.take k)) ∧ Below w.heap.size w wr) (fun _ x _ _ _ => 8 - (intOf x).toNat)
  case atStart => exact ⟨0, by omega, rfl, HD.out, World.ownsRow_nil _ _ _ _, HB.out⟩
  case round =>
    obtain ⟨k, hk, rfl, hDr, hWr, hBr⟩ := hrel
    have HWk := hid (show IntKind.i64.wrap ((k : Int) + 1) = ((k + 1 : Nat) : Int) by rw [IntWalk.i64_in _ ⟨by omega, by omega⟩]; omega)
    by_cases hlt : k < 8
    · have hlt' : (k : Int) < 8 := by omega
      have hmes : 8 - ((k + 1 : Nat) : Int).toNat < 8 - (k : Int).toNat := by omega
      obtain ⟨l, hx⟩ : ∃ l, s.now[k]? = some l := ⟨_, List.getElem?_eq_getElem (by omega)⟩
      have hl128 := hDr.ok.nowLens l (List.mem_of_getElem? hx)
      have htk : s.now.take (k + 1) = s.now.take k ++ [l] := by rw [List.take_add_one, hx]; rfl
      have HH := hid (And.intro hDr (And.intro hWr hBr))
      clear hDr hWr hBr
      go_wp2_with fail
      refine (read_d HH.out.1 hgone k l hx).mono ?_
      rintro e w3 ⟨rfl, hw3⟩
      have hB3 : Below wr.heap.size wr w3 := by rw [hw3]; exact (Below.refl _ _).alloc (Nat.le_refl _) _
      have hs3 : Sl w3 (.slice (some ⟨wr.heap.size, 0, none⟩) 128 128) l := by rw [hw3]; exact alloc_sl wr l hl128 _
      have hcv := conv_sl hs3
      have hW3 := owns_fr HH.out.2.1 (Fr.of_below (X := []) hB3) (by simp)
      have HH3 := hid (And.intro (HH.out.1.below hB3) (And.intro hW3 (Below.next HH.out.2.2 hB3)))
      have HW3 := hid (hW3.alloc (.cells #[.string ⟨l.toArray⟩] 9))
      have hsz3 := (Below.next HH.out.2.2 hB3).size
      clear HH hW3 hw3 hB3 hs3
      generalize Value.slice (some ⟨wr.heap.size, 0, none⟩) 128 128 = vb at *
      go_wp2_with (at_builtin; refine wpList_append_own _ rfl _ _ 54 rfl w.heap.size 9 i0 (.string ByteArray.empty) 1 16 Try.underlying54 hi hz0 hz1 hz2 rfl (by decide) _ _ _ rfl HW3.out ⟨w3.heap.size, 0, none⟩ 1 1 [.string ⟨l.toArray⟩] rfl rfl ?qc2 ?qc3 ?qc4 ?qc5 ?qc6 ?_)
      case qc2 =>
        intro j u hj
        rw [Addr.add_lit, Nat.zero_add]
        exact cell_at (heap_alloc_last w3 _) j (by simpa using hj)
      case qc3 => intro u hu; simp only [List.mem_cons, List.not_mem_nil, or_false] at hu; subst hu; rfl
      case qc4 => unfold maxLen; omega
      case qc5 => omega
      case qc6 => simp; omega
      intro v7 w7 hown7 hgrow7 _
      have hF7 := grown_fr hgrow7
      have htyp := own_type HW3.out
      have hB4 : Below w3.heap.size w3 (w3.alloc (.cells #[.string ⟨l.toArray⟩] 9)) := (Below.refl _ _).alloc (Nat.le_refl _) _
      have hD4 := HH3.out.1.below hB4
      have hD7 := hD4.fr hF7 (fun k hk hk2 => by obtain ⟨c, hc⟩ := htyp k hk2; exact hD4.other hc (by decide) (by decide) hk)
      have hB7 : Below w.heap.size w w7 := (Below.next HH3.out.2.2 hB4).trans (hF7.below (by simp; omega) (fun k hk => by
        rcases HW3.out.2 with ⟨e, _⟩ | ⟨g', cap', cur, e, hb, _⟩
        · rw [e] at hk; simp [Value.ownBlock] at hk
        · rw [e] at hk; simp [Value.ownBlock] at hk; subst hk; exact hb))
      have hW7 : w7.ownsRow w.heap.size 9 1 v7 (k + 1) (strs (s.now.take (k + 1))) := by
        rw [htk]; simpa [strs] using hown7
      have HH7 := hid (And.intro hD7 (And.intro hW7 hB7))
      clear hF7 htyp hB4 hD4 hD7 hB7 hW7 hown7 hgrow7 HH3 HW3 hcv
      go_upto_region 8 with fail
      refine wp_region_lit ?_
      refine wp_move (v := .int .i64 k) (by kernel_rfl) ?_
      refine wp_addi (z := ((k + 1 : Nat) : Int)) (by kernel_rfl) (by kernel_rfl) HWk.out ?_
      refine wp_assign (v := .int .i64 (k + 1 : Nat)) (by kernel_rfl) ?_
      dsimp only [Act.put]
      simp only [List.setIfInBounds_toArray, List.set_cons_zero, List.set_cons_succ]
      refine wp_end ?_
      go_wp2_with fail
      go_roundw
      case rel => exact ⟨k + 1, hlt, rfl, HH7.out.1, HH7.out.2.1, HH7.out.2.2⟩
      case measure => exact hmes
    · obtain rfl : k = 8 := by omega
      have hlt' : ¬ ((8 : Nat) : Int) < 8 := by omega
      rw [show s.now.take 8 = s.now from List.take_of_length_le (by omega)] at hWr
      have hshape : ∃ gw capw, u9 = .slice (some ⟨gw, 0, none⟩) 8 capw := by
        rcases hWr.2 with ⟨_, hz⟩ | ⟨g, cap, cur, e, _⟩
        · omega
        · exact ⟨g, cap, e⟩
      obtain ⟨gw, capw, rfl⟩ := hshape
      have HD2 := hid hDr
      have HW2 := hid hWr
      have HB2 := hid hBr
      clear hDr hWr hBr HD HB HWk
      go_wp2_with fail
      refine (ops_d HD2.out).mono ?_
      rintro e wr ⟨rfl, rfl⟩
      go_wp2_with fail
      refine (cutAt_d HD2.out s.ops).mono ?_
      rintro e w3 ⟨rfl, hD3, hF3⟩
      have hD3' : Disk w3 p X (s.off false) := hD3
      have hW3 := owns_fr HW2.out hF3 (fun g c hg => HD2.out.other hg (by decide) (by decide))
      have hB3 := HB2.out.trans (hF3.below HB2.out.size HX.out)
      have HH3 := hid (And.intro hD3' (And.intro hW3 hB3))
      clear hD3 hD3' hF3 hW3 hB3 HD2 HW2 HB2
      go_upto_region 15 with fail
      go_loopw [14, 15, 16, 17] (fun o x _ _ wr => ∃ (j : Nat) (b : Bool) (X : List Nat), j ≤ len1 ∧ j ≤ 50 ∧ x = .int .i64 j ∧ o = .bool b ∧ Disk wr p X (s.off b) ∧ (∀ k ∈ X, w.heap.size ≤ k) ∧ wr.ownsRow w.heap.size 9 1 (.slice (some ⟨gw, 0, none⟩) 8 capw) 8 (strs s.now) ∧ Below w.heap.size w wr) (fun _ x _ _ _ => 50 - (intOf x).toNat)
      case atStart => exact ⟨0, false, X, by omega, by omega, rfl, rfl, HH3.out.1, HX.out, HH3.out.2.1, HH3.out.2.2⟩
      case round =>
        obtain ⟨j, bo, Xr, hj, hj1, rfl, rfl, hDr, hXr, hWr, hBr⟩ := hrel
        have HWk := hid (show IntKind.i64.wrap ((j : Int) + 1) = ((j + 1 : Nat) : Int) by rw [IntWalk.i64_in _ ⟨by omega, by omega⟩]; omega)
        by_cases hltj : j < len1 ∧ j < 50
        · have hlt1 : j < len1 := hltj.1
          have hlt2 : j < 50 := hltj.2
          have hlt' : decide ((j : Int) < (len1 : Int)) = true := decide_eq_true (by omega)
          have hlt2' : decide ((j : Int) < 50) = true := decide_eq_true (by omega)
          have hmes : 50 - ((j + 1 : Nat) : Int).toNat < 50 - (j : Int).toNat := by omega
          obtain ⟨y, hy⟩ : ∃ y, ys[j]? = some y := ⟨_, List.getElem?_eq_getElem (by rw [HY.out.1]; exact hlt1)⟩
          obtain ⟨b1, b2, b3, b, off, rfl, c0, c1, c2, c3, c4⟩ := HY.out.2 j y hy
          obtain ⟨ly, hsy, _⟩ := HYF.out y (List.mem_of_getElem? hy)
          have q0 := cell_below hBr c0
          have q1 := cell_below hBr c1
          have q2 := cell_below hBr c2
          have q3 := cell_below hBr c3
          have q4 := cell_below hBr c4
          have HH := hid (And.intro hDr (And.intro hXr (And.intro hWr (And.intro hBr (hsy.below hBr)))))
          clear hDr hXr hWr hBr c0 c1 c2 c3 c4 hsy
          go_wp2_with fail
          have hBa : Below wr.heap.size wr (wr.alloc (.cells #[.int .i64 y.kind, .int .i64 y.at_, .int .i64 y.nn, .slice y.ba y.bl y.bc, .slice y.sa y.sl y.sc] 38)) := (Below.refl _ _).alloc (Nat.le_refl _) _
          have hgo := heap_alloc_last wr (.cells #[.int .i64 y.kind, .int .i64 y.at_, .int .i64 y.nn, .slice y.ba y.bl y.bc, .slice y.sa y.sl y.sc] 38)
          have d1 : (wr.alloc (.cells #[.int .i64 y.kind, .int .i64 y.at_, .int .i64 y.nn, .slice y.ba y.bl y.bc, .slice y.sa y.sl y.sc] 38)).cell? ⟨wr.heap.size, 1, none⟩ = some (.int .i64 y.at_) := cell_at hgo 1 rfl
          have d3 : (wr.alloc (.cells #[.int .i64 y.kind, .int .i64 y.at_, .int .i64 y.nn, .slice y.ba y.bl y.bc, .slice y.sa y.sl y.sc] 38)).cell? ⟨wr.heap.size, 3, none⟩ = some (.slice y.ba y.bl y.bc) := cell_at hgo 3 rfl
          obtain ⟨hDr, hXr, hWr, hBr, hsy⟩ := HH.out
          have HQ := hid (And.intro (hDr.below hBa) (And.intro hXr (And.intro (owns_fr hWr (Fr.of_below (X := []) hBa) (by simp)) (And.intro (Below.next hBr hBa) (hsy.below hBa)))))
          clear HH q0 q1 q2 q3 q4 hDr hXr hWr hBr hsy hBa hgo
          generalize wr.heap.size = o at *
          generalize wr.alloc (.cells #[.int .i64 y.kind, .int .i64 y.at_, .int .i64 y.nn, .slice y.ba y.bl y.bc, .slice y.sa y.sl y.sc] 38) = wq at *
          refine (pick_any y.kind 3 b1.1 b1.2 (by omega) wq).mono ?_
          rintro e wq ⟨rfl, rfl⟩
          have hz3 := pk_lt y.kind (show (3 : Nat) ≠ 0 by omega)
          have hz : pk y.kind 3 = 0 ∨ pk y.kind 3 = 1 ∨ pk y.kind 3 = 2 := by omega
          generalize pk y.kind 3 = z at *
          rcases hz with rfl | rfl | rfl
          · go_wp2_with fail
            refine (write_d HQ.out.1 y.at_ HQ.out.2.2.2.2).mono ?_
            rintro e w5 ⟨rfl, hD5, hF5⟩
            rw [DS.wr_off hops0] at hD5 ⊢
            have HE := hid (And.intro hD5 (And.intro HQ.out.2.1 (And.intro (owns_fr HQ.out.2.2.1 hF5 (fun g c hg => HQ.out.1.other hg (by decide) (by decide))) (HQ.out.2.2.2.1.trans (hF5.below HQ.out.2.2.2.1.size HQ.out.2.1)))))
            clear hD5 hF5 HQ d1 d3
            go_upto_region 16 with fail
            refine wp_region_lit ?_
            refine wp_move (v := .int .i64 j) (by kernel_rfl) ?_
            refine wp_addi (z := ((j + 1 : Nat) : Int)) (by kernel_rfl) (by kernel_rfl) HWk.out ?_
            refine wp_assign (v := .int .i64 (j + 1 : Nat)) (by kernel_rfl) ?_
            dsimp only [Act.put]
            simp only [List.setIfInBounds_toArray, List.set_cons_zero, List.set_cons_succ]
            refine wp_end ?_
            go_wp2_with fail
            go_roundw
            case rel => exact ⟨j + 1, true, Xr, hltj.1, hltj.2, rfl, rfl, HE.out.1, HE.out.2.1, HE.out.2.2.1, HE.out.2.2.2⟩
            case measure => exact hmes
          · go_wp2_with fail
            refine (flush_d HQ.out.1).mono ?_
            rintro e w5 ⟨rfl, X5, hD5, hX5, hF5⟩
            rw [DS.fl_off hops0] at hD5 ⊢
            have HE := hid (And.intro hD5 (And.intro (fun k hk => by rcases hX5 k hk with h | h; exact HQ.out.2.1 k h; exact Nat.le_trans HQ.out.2.2.2.1.size h) (And.intro (owns_fr HQ.out.2.2.1 hF5 (fun g c hg => HQ.out.1.other hg (by decide) (by decide))) (HQ.out.2.2.2.1.trans (hF5.below HQ.out.2.2.2.1.size HQ.out.2.1)))))
            clear hD5 hF5 hX5 HQ d1 d3
            go_upto_region 16 with fail
            refine wp_region_lit ?_
            refine wp_move (v := .int .i64 j) (by kernel_rfl) ?_
            refine wp_addi (z := ((j + 1 : Nat) : Int)) (by kernel_rfl) (by kernel_rfl) HWk.out ?_
            refine wp_assign (v := .int .i64 (j + 1 : Nat)) (by kernel_rfl) ?_
            dsimp only [Act.put]
            simp only [List.setIfInBounds_toArray, List.set_cons_zero, List.set_cons_succ]
            refine wp_end ?_
            go_wp2_with fail
            go_roundw
            case rel => exact ⟨j + 1, true, X5, hltj.1, hltj.2, rfl, rfl, HE.out.1, HE.out.2.1, HE.out.2.2.1, HE.out.2.2.2⟩
            case measure => exact hmes
          · go_wp2_with fail
            refine (pick_any y.at_ 8 b2.1 b2.2 (by omega) wq).mono ?_
            rintro e wq ⟨rfl, rfl⟩
            have hi8 := pk_lt y.at_ (show (8 : Nat) ≠ 0 by omega)
            obtain ⟨l, hx⟩ : ∃ l, s.now[pk y.at_ 8]? = some l := ⟨_, List.getElem?_eq_getElem (by rw [hnl]; exact hi8)⟩
            generalize pk y.at_ 8 = i at *
            clear d1 d3
            cases bo with
            | true =>
              go_wp2_with fail
              refine (read_gone_d HQ.out.1 rfl i).mono ?_
              rintro e wq ⟨rfl, rfl⟩
              have HE := hid (And.intro HQ.out.1 (And.intro HQ.out.2.1 (And.intro HQ.out.2.2.1 HQ.out.2.2.2.1)))
              clear HQ
              go_upto_region 16 with fail
              refine wp_region_lit ?_
              refine wp_move (v := .int .i64 j) (by kernel_rfl) ?_
              refine wp_addi (z := ((j + 1 : Nat) : Int)) (by kernel_rfl) (by kernel_rfl) HWk.out ?_
              refine wp_assign (v := .int .i64 (j + 1 : Nat)) (by kernel_rfl) ?_
              dsimp only [Act.put]
              simp only [List.setIfInBounds_toArray, List.set_cons_zero, List.set_cons_succ]
              refine wp_end ?_
              go_wp2_with fail
              go_roundw
              case rel => exact ⟨j + 1, true, Xr, hltj.1, hltj.2, rfl, rfl, HE.out.1, HE.out.2.1, HE.out.2.2.1, HE.out.2.2.2⟩
              case measure => exact hmes
            | false =>
              go_wp2_with fail
              refine (read_d HQ.out.1 rfl i l hx).mono ?_
              rintro e w5 ⟨rfl, hw5⟩
              have hB5 : Below wq.heap.size wq w5 := by rw [hw5]; exact (Below.refl _ _).alloc (Nat.le_refl _) _
              have HE := hid (And.intro (HQ.out.1.below hB5) (And.intro HQ.out.2.1 (And.intro (owns_fr HQ.out.2.2.1 (Fr.of_below (X := []) hB5) (by simp)) (Below.next HQ.out.2.2.2.1 hB5))))
              clear HQ hw5 hB5
              go_upto_region 16 with fail
              refine wp_region_lit ?_
              refine wp_move (v := .int .i64 j) (by kernel_rfl) ?_
              refine wp_addi (z := ((j + 1 : Nat) : Int)) (by kernel_rfl) (by kernel_rfl) HWk.out ?_
              refine wp_assign (v := .int .i64 (j + 1 : Nat)) (by kernel_rfl) ?_
              dsimp only [Act.put]
              simp only [List.setIfInBounds_toArray, List.set_cons_zero, List.set_cons_succ]
              refine wp_end ?_
              go_wp2_with fail
              go_roundw
              case rel => exact ⟨j + 1, false, Xr, hltj.1, hltj.2, rfl, rfl, HE.out.1, HE.out.2.1, HE.out.2.2.1, HE.out.2.2.2⟩
              case measure => exact hmes
        · have HH := hid (And.intro hDr (And.intro hXr (And.intro hWr hBr)))
          clear hDr hXr hWr hBr HWk
          by_cases h1 : j < len1
          · have h2 : ¬ j < 50 := fun h => hltj ⟨h1, h⟩
            have e1 : decide ((j : Int) < (len1 : Int)) = true := decide_eq_true (by omega)
            have e2 : decide ((j : Int) < 50) = false := decide_eq_false (by omega)
            clear hltj
            go_wp2_with fail
            refine (ops_d HH.out.1).mono ?_
            rintro e wr ⟨rfl, rfl⟩
            rw [show (s.off bo).ops = s.ops from rfl]
            go_wp2_with fail
            refine (loose_d HH.out.1).mono ?_
            rintro e wr ⟨rfl, rfl⟩
            rw [show (s.off bo).loose.length = s.loose.length from rfl]
            go_wp2_with fail
            refine (cutAt_d HH.out.1 (-1)).mono ?_
            rintro e w5 ⟨rfl, hD5, hF5⟩
            have hD5' : Disk w5 p Xr { s with cut := -1, gone := false } := hD5
            have HE := hid (And.intro hD5' (And.intro (owns_fr HH.out.2.2.1 hF5 (fun g c hg => HH.out.1.other hg (by decide) (by decide))) (HH.out.2.2.2.trans (hF5.below HH.out.2.2.2.size HH.out.2.1))))
            clear hD5 hD5' hF5 HH
            go_upto_region 34 with fail
            go_loopw [18, 19, 20] (fun x _ _ wr => ∃ k : Nat, k ≤ 8 ∧ x = .int .i64 k ∧ Disk wr p Xr { s with cut := -1, gone := false } ∧ wr.ownsRow w.heap.size 9 1 (.slice (some ⟨gw, 0, none⟩) 8 capw) 8 (strs s.now) ∧ Below w.heap.size w wr) (fun x _ _ _ => 8 - (intOf x).toNat)
            case atStart => exact ⟨0, by omega, rfl, HE.out.1, HE.out.2.1, HE.out.2.2⟩
            case round =>
              obtain ⟨k, hk, rfl, hDk, hWk, hBk⟩ := hrel
              have HWk := hid (show IntKind.i64.wrap ((k : Int) + 1) = ((k + 1 : Nat) : Int) by rw [IntWalk.i64_in _ ⟨by omega, by omega⟩]; omega)
              by_cases hk8 : k < 8
              · have hk8' : (k : Int) < 8 := by omega
                have hmes : 8 - ((k + 1 : Nat) : Int).toNat < 8 - (k : Int).toNat := by omega
                obtain ⟨l, hx⟩ : ∃ l, s.now[k]? = some l := ⟨_, List.getElem?_eq_getElem (by omega)⟩
                have hl128 := hDk.ok.nowLens l (List.mem_of_getElem? hx)
                have hc := hWk.cells (g := gw) rfl k (.string ⟨l.toArray⟩) (by rw [strs, List.getElem?_map, hx]; rfl)
                rw [Addr.add_lit, Nat.zero_add] at hc
                have HK := hid (And.intro hDk (And.intro hWk (And.intro hBk hc)))
                clear hDk hWk hBk hc
                go_wp2_with fail
                refine (read_d HK.out.1 rfl k l hx).mono ?_
                rintro e W ⟨rfl, hW⟩
                have hBW : Below wr.heap.size wr W := by rw [hW]; exact (Below.refl _ _).alloc (Nat.le_refl _) _
                have HS1 : Hid (Sl W (.slice (some ⟨wr.heap.size, 0, none⟩) 128 128) l) := by rw [hW]; exact hid (alloc_sl wr l hl128 _)
                have HC := hid (cell_below hBW HK.out.2.2.2)
                have HL := hid (And.intro (HK.out.1.below hBW) (And.intro (owns_fr HK.out.2.1 (Fr.of_below (X := []) hBW) (by simp)) (Below.next HK.out.2.2.1 hBW)))
                clear HK hBW hW
                generalize Value.slice (some ⟨wr.heap.size, 0, none⟩) 128 128 = vb at *
                go_wp2_with fail
                refine h_openL (S := fun w' => Below W.heap.size W w') (by kernel_rfl) (by kernel_rfl) (fun _ _ _ _ _ h => h) (L := #[false, false, false, false, false, false, false, false, false, false, false]) (by kernel_rfl) ?_
                intro Q' hns hP hN
                have hS := (show Below W.heap.size W W.drew from (Below.refl _ _).drew)
                refine h_takeL (i := 0) (v := (.int .i64 0)) hns rfl rfl (by kernel_rfl) (by kernel_rfl) hP (y_move rfl (by kernel_rfl) (by kernel_rfl)) hS rfl (L' := #[true, false, false, false, false, false, false, false, false, false, false]) (by kernel_rfl) ?_
                refine h_takeL (i := 1) (v := (.bool false)) hns rfl rfl (by kernel_rfl) (by kernel_rfl) hP (y_neqi (t := 25) (x := 0) (y := 0) (.inr rfl) rfl (by kernel_rfl) (by kernel_rfl) (by kernel_rfl) rfl) hS rfl (L' := #[true, true, false, false, false, false, false, false, false, false, false]) (by kernel_rfl) ?_
                refine h_takeL (i := 2) (v := (.bool false)) hns rfl rfl (by kernel_rfl) (by kernel_rfl) hP (y_move rfl (by kernel_rfl) (by kernel_rfl)) hS rfl (L' := #[true, true, true, false, false, false, false, false, false, false, false]) (by kernel_rfl) ?_
                refine h_takeL (i := 3) (v := vb) hns rfl rfl (by kernel_rfl) (by kernel_rfl) hP (y_move rfl (by kernel_rfl) (by kernel_rfl)) hS rfl (L' := #[true, true, true, true, false, false, false, false, false, false, false]) (by kernel_rfl) ?_
                refine h_takeL (i := 4) (v := .string ⟨l.toArray⟩) hns rfl rfl (by kernel_rfl) (by kernel_rfl) hP (y_conv rfl (by kernel_rfl) (by kernel_rfl) (fun w' hw => conv_sl (HS1.out.below hw))) hS rfl (L' := #[true, true, true, true, true, false, false, false, false, false, false]) (by kernel_rfl) ?_
                refine h_takeL (i := 5) (v := .slice (some ⟨gw, 0, none⟩) 8 capw) hns rfl rfl (by kernel_rfl) (by kernel_rfl) hP (y_move rfl (by kernel_rfl) (by kernel_rfl)) hS rfl (L' := #[true, true, true, true, true, true, false, false, false, false, false]) (by kernel_rfl) ?_
                refine h_takeL (i := 6) (v := .int .i64 k) hns rfl rfl (by kernel_rfl) (by kernel_rfl) hP (y_move rfl (by kernel_rfl) (by kernel_rfl)) hS rfl (L' := #[true, true, true, true, true, true, true, false, false, false, false]) (by kernel_rfl) ?_
                simp only [List.setIfInBounds_toArray, List.set_cons_zero, List.set_cons_succ]
                refine h_takeL (i := 7) (v := .pointer (some ⟨gw, k, none⟩)) hns rfl rfl (by kernel_rfl) (by kernel_rfl) hP (y_val (by kernel_rfl) (fun w _ => run_idx rfl (by kernel_rfl) (by kernel_rfl) (idx54 gw capw k hk8 w))) hS rfl (L' := #[true, true, true, true, true, true, true, true, false, false, false]) (by kernel_rfl) ?_
                refine h_takeL (i := 8) (v := .string ⟨l.toArray⟩) hns rfl rfl (by kernel_rfl) (by kernel_rfl) hP (y_load rfl (by kernel_rfl) (by kernel_rfl) (fun w' h => load1 Try.isAgg9 (cell_below h HC.out))) hS rfl (L' := #[true, true, true, true, true, true, true, true, true, false, false]) (by kernel_rfl) ?_
                refine h_takeL (i := 9) (v := (.bool false)) hns rfl rfl (by kernel_rfl) (by kernel_rfl) hP (y_neqF (s := ⟨l.toArray⟩) (t := ⟨l.toArray⟩) (beq_self_eq_true _) rfl (by kernel_rfl) (by kernel_rfl) (by kernel_rfl)) hS rfl (L' := #[true, true, true, true, true, true, true, true, true, true, false]) (by kernel_rfl) ?_
                refine h_takeL (i := 10) (v := (.bool false)) hns rfl rfl (by kernel_rfl) (by kernel_rfl) hP (y_pick (b := false) rfl (by kernel_rfl) (by kernel_rfl) (by kernel_rfl)) hS rfl (L' := #[true, true, true, true, true, true, true, true, true, true, true]) (by kernel_rfl) ?_
                simp only [List.setIfInBounds_toArray, List.set_cons_zero, List.set_cons_succ]
                refine wpAnyH_done (by kernel_rfl) ?_ _
                refine hN _ _ ?_
                clear hP hN hns
                have HM := hid (And.intro (HL.out.1.below hS) (And.intro (owns_fr HL.out.2.1 (Fr.of_below (X := []) hS) (by simp)) (Below.next HL.out.2.2 hS)))
                clear HL hS HS1 HC
                generalize W.drew = W2 at *
                go_upto_region 35 with fail
                refine wp_region_lit ?_
                refine wp_move (v := .int .i64 k) (by kernel_rfl) ?_
                refine wp_addi (z := ((k + 1 : Nat) : Int)) (by kernel_rfl) (by kernel_rfl) HWk.out ?_
                refine wp_assign (v := .int .i64 (k + 1 : Nat)) (by kernel_rfl) ?_
                dsimp only [Act.put]
                simp only [List.setIfInBounds_toArray, List.set_cons_zero, List.set_cons_succ]
                refine wp_end ?_
                go_wp2_with fail
                go_roundw
                case rel => exact ⟨k + 1, hk8, rfl, HM.out.1, HM.out.2.1, HM.out.2.2⟩
                case measure => exact hmes
              · obtain rfl : k = 8 := by omega
                have hlt' : ¬ ((8 : Nat) : Int) < 8 := by omega
                have HB8 := hid hBk
                clear hDk hWk hBk
                go_wp2
                go_ret
                exact ⟨rfl, HB8.out⟩
          · have e1 : decide ((j : Int) < (len1 : Int)) = false := decide_eq_false (by omega)
            clear hltj
            go_wp2_with fail
            refine (ops_d HH.out.1).mono ?_
            rintro e wr ⟨rfl, rfl⟩
            rw [show (s.off bo).ops = s.ops from rfl]
            go_wp2_with fail
            refine (loose_d HH.out.1).mono ?_
            rintro e wr ⟨rfl, rfl⟩
            rw [show (s.off bo).loose.length = s.loose.length from rfl]
            go_wp2_with fail
            refine (cutAt_d HH.out.1 (-1)).mono ?_
            rintro e w5 ⟨rfl, hD5, hF5⟩
            have hD5' : Disk w5 p Xr { s with cut := -1, gone := false } := hD5
            have HE := hid (And.intro hD5' (And.intro (owns_fr HH.out.2.2.1 hF5 (fun g c hg => HH.out.1.other hg (by decide) (by decide))) (HH.out.2.2.2.trans (hF5.below HH.out.2.2.2.size HH.out.2.1))))
            clear hD5 hD5' hF5 HH
            go_upto_region 34 with fail
            go_loopw [18, 19, 20] (fun x _ _ wr => ∃ k : Nat, k ≤ 8 ∧ x = .int .i64 k ∧ Disk wr p Xr { s with cut := -1, gone := false } ∧ wr.ownsRow w.heap.size 9 1 (.slice (some ⟨gw, 0, none⟩) 8 capw) 8 (strs s.now) ∧ Below w.heap.size w wr) (fun x _ _ _ => 8 - (intOf x).toNat)
            case atStart => exact ⟨0, by omega, rfl, HE.out.1, HE.out.2.1, HE.out.2.2⟩
            case round =>
              obtain ⟨k, hk, rfl, hDk, hWk, hBk⟩ := hrel
              have HWk := hid (show IntKind.i64.wrap ((k : Int) + 1) = ((k + 1 : Nat) : Int) by rw [IntWalk.i64_in _ ⟨by omega, by omega⟩]; omega)
              by_cases hk8 : k < 8
              · have hk8' : (k : Int) < 8 := by omega
                have hmes : 8 - ((k + 1 : Nat) : Int).toNat < 8 - (k : Int).toNat := by omega
                obtain ⟨l, hx⟩ : ∃ l, s.now[k]? = some l := ⟨_, List.getElem?_eq_getElem (by omega)⟩
                have hl128 := hDk.ok.nowLens l (List.mem_of_getElem? hx)
                have hc := hWk.cells (g := gw) rfl k (.string ⟨l.toArray⟩) (by rw [strs, List.getElem?_map, hx]; rfl)
                rw [Addr.add_lit, Nat.zero_add] at hc
                have HK := hid (And.intro hDk (And.intro hWk (And.intro hBk hc)))
                clear hDk hWk hBk hc
                go_wp2_with fail
                refine (read_d HK.out.1 rfl k l hx).mono ?_
                rintro e W ⟨rfl, hW⟩
                have hBW : Below wr.heap.size wr W := by rw [hW]; exact (Below.refl _ _).alloc (Nat.le_refl _) _
                have HS1 : Hid (Sl W (.slice (some ⟨wr.heap.size, 0, none⟩) 128 128) l) := by rw [hW]; exact hid (alloc_sl wr l hl128 _)
                have HC := hid (cell_below hBW HK.out.2.2.2)
                have HL := hid (And.intro (HK.out.1.below hBW) (And.intro (owns_fr HK.out.2.1 (Fr.of_below (X := []) hBW) (by simp)) (Below.next HK.out.2.2.1 hBW)))
                clear HK hBW hW
                generalize Value.slice (some ⟨wr.heap.size, 0, none⟩) 128 128 = vb at *
                go_wp2_with fail
                refine h_openL (S := fun w' => Below W.heap.size W w') (by kernel_rfl) (by kernel_rfl) (fun _ _ _ _ _ h => h) (L := #[false, false, false, false, false, false, false, false, false, false, false]) (by kernel_rfl) ?_
                intro Q' hns hP hN
                have hS := (show Below W.heap.size W W.drew from (Below.refl _ _).drew)
                refine h_takeL (i := 0) (v := (.int .i64 0)) hns rfl rfl (by kernel_rfl) (by kernel_rfl) hP (y_move rfl (by kernel_rfl) (by kernel_rfl)) hS rfl (L' := #[true, false, false, false, false, false, false, false, false, false, false]) (by kernel_rfl) ?_
                refine h_takeL (i := 1) (v := (.bool false)) hns rfl rfl (by kernel_rfl) (by kernel_rfl) hP (y_neqi (t := 25) (x := 0) (y := 0) (.inr rfl) rfl (by kernel_rfl) (by kernel_rfl) (by kernel_rfl) rfl) hS rfl (L' := #[true, true, false, false, false, false, false, false, false, false, false]) (by kernel_rfl) ?_
                refine h_takeL (i := 2) (v := (.bool false)) hns rfl rfl (by kernel_rfl) (by kernel_rfl) hP (y_move rfl (by kernel_rfl) (by kernel_rfl)) hS rfl (L' := #[true, true, true, false, false, false, false, false, false, false, false]) (by kernel_rfl) ?_
                refine h_takeL (i := 3) (v := vb) hns rfl rfl (by kernel_rfl) (by kernel_rfl) hP (y_move rfl (by kernel_rfl) (by kernel_rfl)) hS rfl (L' := #[true, true, true, true, false, false, false, false, false, false, false]) (by kernel_rfl) ?_
                refine h_takeL (i := 4) (v := .string ⟨l.toArray⟩) hns rfl rfl (by kernel_rfl) (by kernel_rfl) hP (y_conv rfl (by kernel_rfl) (by kernel_rfl) (fun w' hw => conv_sl (HS1.out.below hw))) hS rfl (L' := #[true, true, true, true, true, false, false, false, false, false, false]) (by kernel_rfl) ?_
                refine h_takeL (i := 5) (v := .slice (some ⟨gw, 0, none⟩) 8 capw) hns rfl rfl (by kernel_rfl) (by kernel_rfl) hP (y_move rfl (by kernel_rfl) (by kernel_rfl)) hS rfl (L' := #[true, true, true, true, true, true, false, false, false, false, false]) (by kernel_rfl) ?_
                refine h_takeL (i := 6) (v := .int .i64 k) hns rfl rfl (by kernel_rfl) (by kernel_rfl) hP (y_move rfl (by kernel_rfl) (by kernel_rfl)) hS rfl (L' := #[true, true, true, true, true, true, true, false, false, false, false]) (by kernel_rfl) ?_
                simp only [List.setIfInBounds_toArray, List.set_cons_zero, List.set_cons_succ]
                refine h_takeL (i := 7) (v := .pointer (some ⟨gw, k, none⟩)) hns rfl rfl (by kernel_rfl) (by kernel_rfl) hP (y_val (by kernel_rfl) (fun w _ => run_idx rfl (by kernel_rfl) (by kernel_rfl) (idx54 gw capw k hk8 w))) hS rfl (L' := #[true, true, true, true, true, true, true, true, false, false, false]) (by kernel_rfl) ?_
                refine h_takeL (i := 8) (v := .string ⟨l.toArray⟩) hns rfl rfl (by kernel_rfl) (by kernel_rfl) hP (y_load rfl (by kernel_rfl) (by kernel_rfl) (fun w' h => load1 Try.isAgg9 (cell_below h HC.out))) hS rfl (L' := #[true, true, true, true, true, true, true, true, true, false, false]) (by kernel_rfl) ?_
                refine h_takeL (i := 9) (v := (.bool false)) hns rfl rfl (by kernel_rfl) (by kernel_rfl) hP (y_neqF (s := ⟨l.toArray⟩) (t := ⟨l.toArray⟩) (beq_self_eq_true _) rfl (by kernel_rfl) (by kernel_rfl) (by kernel_rfl)) hS rfl (L' := #[true, true, true, true, true, true, true, true, true, true, false]) (by kernel_rfl) ?_
                refine h_takeL (i := 10) (v := (.bool false)) hns rfl rfl (by kernel_rfl) (by kernel_rfl) hP (y_pick (b := false) rfl (by kernel_rfl) (by kernel_rfl) (by kernel_rfl)) hS rfl (L' := #[true, true, true, true, true, true, true, true, true, true, true]) (by kernel_rfl) ?_
                simp only [List.setIfInBounds_toArray, List.set_cons_zero, List.set_cons_succ]
                refine wpAnyH_done (by kernel_rfl) ?_ _
                refine hN _ _ ?_
                clear hP hN hns
                have HM := hid (And.intro (HL.out.1.below hS) (And.intro (owns_fr HL.out.2.1 (Fr.of_below (X := []) hS) (by simp)) (Below.next HL.out.2.2 hS)))
                clear HL hS HS1 HC
                generalize W.drew = W2 at *
                go_upto_region 35 with fail
                refine wp_region_lit ?_
                refine wp_move (v := .int .i64 k) (by kernel_rfl) ?_
                refine wp_addi (z := ((k + 1 : Nat) : Int)) (by kernel_rfl) (by kernel_rfl) HWk.out ?_
                refine wp_assign (v := .int .i64 (k + 1 : Nat)) (by kernel_rfl) ?_
                dsimp only [Act.put]
                simp only [List.setIfInBounds_toArray, List.set_cons_zero, List.set_cons_succ]
                refine wp_end ?_
                go_wp2_with fail
                go_roundw
                case rel => exact ⟨k + 1, hk8, rfl, HM.out.1, HM.out.2.1, HM.out.2.2⟩
                case measure => exact hmes
              · obtain rfl : k = 8 := by omega
                have hlt' : ¬ ((8 : Nat) : Int) < 8 := by omega
                have HB8 := hid hBk
                clear hDk hWk hBk
                go_wp2
                go_ret
                exact ⟨rfl, HB8.out⟩
end Go.Proofs.Ytkfomolglangdaa
