/- texts put together: ONC OND -/
import Derived.Test.YtekgfdbeinacjaaDoorAG14
namespace Go.Proofs.YtekgfdbeinacjaaDoor
open Go Go.RowKit

/-- Are passes none? -/
def badP (n : Int) : Bool := !(IntKind.i64.wrap ((BitVec.ofInt 64 n &&& ~~~(BitVec.ofInt 64 15)).toNat : Nat) == 0)
theorem rules_sub (n : Int) : ∀ r ∈ rulesN n, r ∈ rulesP := fun _ hr => (List.mem_filter.1 hr).1
theorem chk_ok {c : Co} (h : (chkP c == 0) = true) : okT 4 1 c = true ∧ szC c ≤ 2000 ∧ ahC c = false := by
  have h := eq_of_beq h
  cases h4 : isOfP 4 c with
  | false => rw [chk_no h4] at h; cases h
  | true =>
    rw [chk_yes h4] at h
    have := (isOfP_eq 4 c).1 h4
    refine ⟨this.1, this.2, ?_⟩
    cases ha : ahC c with
    | false => rfl
    | true => rw [ha] at h; cases h
/-- What passes make of a contract. -/
noncomputable def doP (c : Co) (n : Int) : Option Co := bif badP n || !(chkP c == 0) then none else some (rwP (rulesN n) c)
/-- What is answered. -/
def DoR (w : World) (A : Nat → Prop) (r : Option Co) (e : Ending) (w' : World) : Prop := (match r with
  | none => e = .returned (.tuple #[cv 0 0 [] (.slice none 0 0), .int .i64 160])
  | some t => ∃ v', e = .returned (.tuple #[v', .int .i64 0]) ∧ NcS (Since A w w') w' v' t) ∧ Below w.heap.size w w'
set_option maxRecDepth 100000 in
seal rn rnN rnS Goes ans atEnd put0 putM opened openedY putA0 putA oneSt st0 keep put in
theorem do_any {c : Co} {v : Value} {w : World} {A : Nat → Prop} (n : Int) (hA : ∀ x, A x → x < w.heap.size) (hN : NcS A w v c) (hT : Tab w) : Calls Tryd.prog 6 #[v, .int .i64 n] w (DoR w A (doP c n)) := by
  obtain ⟨op, k, s, kids⟩ := c
  obtain ⟨ak, cc, rfl, -, -, -⟩ := hN.open
  obtain ⟨N, hL⟩ : ∃ N, kids.length = N := ⟨_, rfl⟩
  rw [hL] at hN ⊢
  refine Goes.begin Tryd.func6 [] (fun _ => True) Holds.nil (by simp [Mem.ids]) (fun _ _ => trivial) ?_
  cases hb : badP n with
  | true =>
    refine Goes.run2 [1, 1, 1] [(true, true), (badP n, true)] ⟨rfl, hb, trivial⟩ fun g2 g4 => ?_
    exact Goes.ret [1] (.tuple #[cv 0 0 [] (.slice none 0 0), .int .i64 160]) fun w' hm hI => ⟨by unfold doP; rw [hb]; rfl, bel0 hI⟩
  | false =>
    refine Goes.run2 [0, 0] [(badP n, false)] ⟨hb, trivial⟩ fun g2 g4 => ?_
    refine Goes.call0 10 #[cv op k s (.slice ak N cc)] (.int .i64 (chkP (.mk op k s kids))) (fun w' hm hI => check_any ((hN.bel hA (bel0 hI)).toN fun x hx => Nat.lt_of_lt_of_le (hA x hx) (bel0 hI).size)) ?_
    cases hc : (chkP (.mk op k s kids) == 0) with
    | false =>
      refine Goes.run [1, 1] [(!(chkP (.mk op k s kids) == 0), true)] ⟨by rw [hc]; rfl, trivial⟩ ?_
      exact Goes.ret [1] (.tuple #[cv 0 0 [] (.slice none 0 0), .int .i64 160]) fun w' hm hI => ⟨by unfold doP; rw [hb, hc]; rfl, bel0 hI⟩
    | true =>
      obtain ⟨hok, -, -⟩ := chk_ok hc
      refine Goes.run [0] [(!(chkP (.mk op k s kids) == 0), false)] ⟨by rw [hc]; rfl, trivial⟩ ?_
      refine Goes.open [0] ?_
      refine Goes.run [0, 0, 1] [] trivial ?_
      refine Goes.lone1 2 (TookS.callM 2 12 #[.int .i64 n] fun w1 hm1 hn1 hI1 h01 => (rulesOf_any n w1).mono fun e w2 ⟨kN, b, he, hR, hB12⟩ => ⟨_, fun w' => Ch [] w w' ∧ Ch [g2, g4] w2 w', _, he, h01.bel hB12, hm1.bel hB12, hn1, fun w3 hc3 => ⟨((hI1.bel hB12) w3 hc3).1, hc3.mono fun x hx => mem_eq hx⟩, ?_⟩)
      have hM2 : Holds [(g2, cO4 op k s ak N cc), (g4, cO4 0 0 [] none 0 0)] w2 := fun j b o hj => by
        match j, hj with
        | 0, hj => cases hj; exact (hm1.bel hB12).get 0
        | 1, hj => cases hj; exact (hm1.bel hB12).get 1
      refine Goes.lone1 3 (TookS.callM 3 11 #[cv op k s (.slice ak N cc), .slice (some ⟨b, 0, none⟩) kN 27] fun w3 hm3 hn3 hI3 h03 => ?_)
      have hB03 : Below w.heap.size w w3 := hI3.now.1.toB (fun x hx => by cases hx)
      refine (rewrite_any (rules_sub n) (.mk op k s kids) 4 1 (cv op k s (.slice ak N cc)) w3 A b kN (by unfold tyOk; omega) hok (fun x hx => Nat.lt_of_lt_of_le (hA x hx) hB03.size) (hN.bel hA hB03) (hR.later (below_end hM2 hI3.now.2 hm3 (by kernel_rfl))) (hT.below hB03)).mono fun e w4 ⟨v4, he4, hN4, hB34⟩ => ?_
      obtain ⟨op4, k4, s4, a4, n4, c4, rfl⟩ := hN4.cells
      refine ⟨_, fun w' => Ch [] w w' ∧ Ch [g2, g4] w4 w', _, he4, h03.bel hB34, hm3.bel hB34, hn3, fun w5 hc5 => ⟨((hI3.bel hB34) w5 hc5).1, hc5.mono fun x hx => mem_eq hx⟩, ?_⟩
      have hk3 : ∀ x ∈ [g2, g4], w.heap.size ≤ x ∧ x < w3.heap.size := fun x hx => ⟨fresh_of (L := []) (Q := fun _ => True) (hI3.mono fun w' h => ⟨h.1, trivial⟩) (mem_eq hx) (by simp), holds_lt hm3 x (mem_eq hx)⟩
      refine Goes.oneA 4 1 [0] ?_
      refine Goes.run [5] [] trivial ?_
      refine Goes.ret [1] (.tuple #[cv op4 k4 s4 (.slice a4 n4 c4), .int .i64 0]) fun w' hm hI => ⟨?_, hI.now.1.toB (fun x hx => by cases hx)⟩
      unfold doP
      rw [hb, hc]
      refine ⟨_, rfl, (hN4.later fun x hx => ?_).mono fun x hx => ?_⟩
      · refine hI.now.2.block x ?_ fun hm => ?_
        · rcases hx with hx | hx
          · exact Nat.lt_of_lt_of_le (hA x hx) (Nat.le_trans hB03.size hB34.size)
          · exact hx.2
        · have := hk3 x hm
          rcases hx with hx | hx
          · have := hA x hx; omega
          · omega
      · rcases hx with hx | hx
        · exact .inl hx
        · exact .inr ⟨Nat.le_trans hB03.size hx.1, Nat.lt_of_lt_of_le hx.2 hI.now.2.size⟩
end Go.Proofs.YtekgfdbeinacjaaDoor
namespace Go.Proofs.YtekgfdbeinacjaaDoor
open Go Go.RowKit

abbrev oneC0 : Co := .mk 26 0 [] [.mk 7 0 [] [numC 400000, numC 600000], .mk 24 0 [69, 85, 82] []]
theorem one_do : doP oneC0 3 = some (.mk 24 0 [69, 85, 82] []) := by kernel_rfl
theorem cell8 {w : World} {g : Nat} {cs : Array Value} {t : TypeId} (h : w.heap[g]? = some (.cells cs t (0, 0))) {i : Nat} {v : Value} (hv : cs[i]? = some v) : w.cell? ⟨g, i, none⟩ = some v := by
  unfold World.cell?
  rw [h]
  simpa using hv
/-- Two terms in a row make one. -/
theorem NcS.pair {A : Nat → Prop} {w : World} {g : Nat} {op k op1 k1 op2 k2 : Int} {s s1 s2 : List UInt8} {u1 u2 : Value} {c1 c2 : Co} {T : TypeId} (hg : w.heap[g]? = some (.cells #[.int .i64 op1, .int .i64 k1, strV s1, u1, .int .i64 op2, .int .i64 k2, strV s2, u2] T (0, 0))) (hA : A g) (hf : Fits op k s) (h1 : NcS A w (cv op1 k1 s1 u1) c1) (h2 : NcS A w (cv op2 k2 s2 u2) c2) : NcS A w (cv op k s (.slice (some ⟨g, 0, none⟩) 2 2)) (.mk op k s [c1, c2]) := by
  refine .mk op k s [c1, c2] (some ⟨g, 0, none⟩) 2 (fun i => match i with | 0 => cv op1 k1 s1 u1 | _ => cv op2 k2 s2 u2) hf ⟨by simp, by omega⟩ (fun i hi => ⟨g, 0, rfl, hA, ?_⟩) (fun i t ht => ?_)
  · match i, hi with
    | 0, _ => exact ⟨op1, k1, s1, u1, rfl, cell8 hg (i := 0) rfl, cell8 hg (i := 1) rfl, cell8 hg (i := 2) rfl, cell8 hg (i := 3) rfl⟩
    | 1, _ => exact ⟨op2, k2, s2, u2, rfl, cell8 hg (i := 4) rfl, cell8 hg (i := 5) rfl, cell8 hg (i := 6) rfl, cell8 hg (i := 7) rfl⟩
  · match i, ht with
    | 0, ht => cases ht; exact h1
    | 1, ht => cases ht; exact h2
theorem fit24 {A : Nat → Prop} (w : World) : NcS A w (cv 24 0 [69, 85, 82] (.slice none 0 0)) (.mk 24 0 [69, 85, 82] []) := .mk 24 0 [69, 85, 82] [] none 0 (fun _ => undef) ⟨by omega, by omega, by simp⟩ ⟨by simp, by omega⟩ (fun i hi => by simp at hi) (fun i t ht => by simp at ht)
set_option maxRecDepth 100000 in
seal rn rnN rnS Goes ans atEnd put0 putM opened openedY putA0 putA oneSt st0 keep put in
theorem shown16_any {w : World} (hT : Tab w) : Calls Tryd.prog 5 #[] w fun e w' => e = .returned (.bool true) ∧ Below w.heap.size w w' := by
  refine Goes.begin Tryd.func5 [] (fun _ => True) Holds.nil (by simp [Mem.ids]) (fun _ _ => trivial) ?_
  refine Goes.run3 [2, 2] [] trivial fun g6 g9 g1 => ?_
  refine Goes.call 6 #[cv 26 0 [] (.slice (some ⟨g9, 0, none⟩) 2 2), .int .i64 3] fun w1 hm1 hn1 hI1 => ?_
  have h6 : w1.heap[g6]? = some (.cells #[.int .i64 1, .int .i64 400000, strV [], .slice none 0 0, .int .i64 1, .int .i64 600000, strV [], .slice none 0 0] 24 (0, 0)) := hm1.get 0
  have h9 : w1.heap[g9]? = some (.cells #[.int .i64 7, .int .i64 0, strV [], .slice (some ⟨g6, 0, none⟩) 2 2, .int .i64 24, .int .i64 0, strV [69, 85, 82], .slice none 0 0] 24 (0, 0)) := hm1.get 1
  have hN : NcS (fun x => x = g6 ∨ x = g9) w1 (cv 26 0 [] (.slice (some ⟨g9, 0, none⟩) 2 2)) oneC0 := .pair h9 (.inr rfl) (show Fits 26 0 [] from ⟨by omega, by omega, by simp⟩) (.pair h6 (.inl rfl) (show Fits 7 0 [] from ⟨by omega, by omega, by simp⟩) (.leaf (show Fits 1 400000 [] from ⟨by omega, by omega, by simp⟩)) (.leaf (show Fits 1 600000 [] from ⟨by omega, by omega, by simp⟩))) (fit24 _)
  have hA : ∀ x, (x = g6 ∨ x = g9) → x < w1.heap.size := fun x hx => by
    rcases hx with rfl | rfl
    · exact lt_of_get h6
    · exact lt_of_get h9
  refine (do_any 3 hA hN (hT.below (bel0 hI1))).mono fun e w2 ⟨he, hB⟩ => ?_
  rw [one_do] at he
  obtain ⟨v', he, hN2⟩ := he
  obtain ⟨a, cc, rfl, -, -, -⟩ := hN2.open
  refine ⟨_, _, _, he, hm1.bel hB, hn1, hI1.bel hB, ?_⟩
  refine Goes.run1 [3, 1, 3, 1, 3] [(true, true), (true, true)] ⟨rfl, rfl, trivial⟩ fun g => ?_
  exact Goes.ret [] (.bool true) fun w' hm hI => ⟨rfl, bel0 hI⟩
end Go.Proofs.YtekgfdbeinacjaaDoor
