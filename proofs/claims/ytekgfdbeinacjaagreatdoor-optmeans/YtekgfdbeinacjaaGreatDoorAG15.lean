/- texts put together: ONC OND OTwM NB NTold NVal NVal2 NVal3 NSp NLay NAc NRd NAcq0 NAcq NAcq2 NBeg NBeg2 NStep0 NStep NLaw NPure NRac0 NRac NRf NRbeg NTerm -/
import Derived.Test.YtekgfdbeinacjaaGreatDoorAG14
import Derived.Test.YtekgfdbeinacjaaGreatDoorAG3
import Derived.Lib.Bytealg
namespace Go.Proofs.YtekgfdbeinacjaaGreatDoor
open Go Go.RowKit

/-- Are passes none? -/
def badP (n : Int) : Bool := !(IntKind.i64.wrap ((BitVec.ofInt 64 n &&& ~~~(BitVec.ofInt 64 15)).toNat : Nat) == 0)
theorem rules_sub (n : Int) : ∀ r ∈ rulesN n, r ∈ rulesP := fun _ hr => (List.mem_filter.1 hr).1
theorem chk_ok {c : Co} (h : (chkP c == 0) = true) : okT 4 1 c = true ∧ szC c ≤ 2000 ∧ ahC c = false := by
  have h := eq_of_beq h
  cases h4 : isOfP 4 c with
  | false => rw [chk_no h4] at h; cases h
  | true =>
    rw [chk_yes h4] at h
    have := (isOfP_eq 4 c).1 h4
    refine ⟨this.1, this.2, ?_⟩
    cases ha : ahC c with
    | false => rfl
    | true => rw [ha] at h; cases h
theorem ok_chk {c : Co} (h1 : okT 4 1 c = true) (h2 : szC c ≤ 2000) (h3 : ahC c = false) : chkP c = 0 := by
  rw [chk_yes ((isOfP_eq 4 c).2 ⟨h1, h2⟩), h3]
  rfl
/-- What passes make of a contract. -/
noncomputable def doP (c : Co) (n : Int) : Option Co := bif badP n || !(chkP c == 0) then none else some (rwP (rulesN n) c)
/-- What is answered. -/
def DoR (w : World) (A : Nat → Prop) (r : Option Co) (e : Ending) (w' : World) : Prop := (match r with
  | none => e = .returned (.tuple #[cv 0 0 [] (.slice none 0 0), .int .i64 160])
  | some t => ∃ v', e = .returned (.tuple #[v', .int .i64 0]) ∧ NcS (Since A w w') w' v' t) ∧ Below w.heap.size w w'
set_option maxRecDepth 100000 in
seal rn rnN rnS Goes ans atEnd put0 putM opened openedY putA0 putA oneSt st0 keep put in
theorem do_any {c : Co} {v : Value} {w : World} {A : Nat → Prop} (n : Int) (hA : ∀ x, A x → x < w.heap.size) (hN : NcS A w v c) (hT : Tab w) : Calls Tryz.prog 7 #[v, .int .i64 n] w (DoR w A (doP c n)) := by
  obtain ⟨op, k, s, kids⟩ := c
  obtain ⟨ak, cc, rfl, -, -, -⟩ := hN.open
  obtain ⟨N, hL⟩ : ∃ N, kids.length = N := ⟨_, rfl⟩
  rw [hL] at hN ⊢
  refine Goes.begin Tryz.func7 [] (fun _ => True) Holds.nil (by simp [Mem.ids]) (fun _ _ => trivial) ?_
  cases hb : badP n with
  | true =>
    refine Goes.run2 [1, 1, 1] [(true, true), (badP n, true)] ⟨rfl, hb, trivial⟩ fun g2 g4 => ?_
    exact Goes.ret [1] (.tuple #[cv 0 0 [] (.slice none 0 0), .int .i64 160]) fun w' hm hI => ⟨by unfold doP; rw [hb]; rfl, bel0 hI⟩
  | false =>
    refine Goes.run2 [0, 0] [(badP n, false)] ⟨hb, trivial⟩ fun g2 g4 => ?_
    refine Goes.call0 17 #[cv op k s (.slice ak N cc)] (.int .i64 (chkP (.mk op k s kids))) (fun w' hm hI => check_any ((hN.bel hA (bel0 hI)).toN fun x hx => Nat.lt_of_lt_of_le (hA x hx) (bel0 hI).size)) ?_
    cases hc : (chkP (.mk op k s kids) == 0) with
    | false =>
      refine Goes.run [1, 1] [(!(chkP (.mk op k s kids) == 0), true)] ⟨by rw [hc]; rfl, trivial⟩ ?_
      exact Goes.ret [1] (.tuple #[cv 0 0 [] (.slice none 0 0), .int .i64 160]) fun w' hm hI => ⟨by unfold doP; rw [hb, hc]; rfl, bel0 hI⟩
    | true =>
      obtain ⟨hok, -, -⟩ := chk_ok hc
      refine Goes.run [0] [(!(chkP (.mk op k s kids) == 0), false)] ⟨by rw [hc]; rfl, trivial⟩ ?_
      refine Goes.open [0] ?_
      refine Goes.run [0, 0, 1] [] trivial ?_
      refine Goes.lone1 2 (TookS.callM 2 19 #[.int .i64 n] fun w1 hm1 hn1 hI1 h01 => (rulesOf_any n w1).mono fun e w2 ⟨kN, b, he, hR, hB12⟩ => ⟨_, fun w' => Ch [] w w' ∧ Ch [g2, g4] w2 w', _, he, h01.bel hB12, hm1.bel hB12, hn1, fun w3 hc3 => ⟨((hI1.bel hB12) w3 hc3).1, hc3.mono fun x hx => mem_eq hx⟩, ?_⟩)
      have hM2 : Holds [(g2, cO4 op k s ak N cc), (g4, cO4 0 0 [] none 0 0)] w2 := fun j b o hj => by
        match j, hj with
        | 0, hj => cases hj; exact (hm1.bel hB12).get 0
        | 1, hj => cases hj; exact (hm1.bel hB12).get 1
      refine Goes.lone1 3 (TookS.callM 3 18 #[cv op k s (.slice ak N cc), .slice (some ⟨b, 0, none⟩) kN 27] fun w3 hm3 hn3 hI3 h03 => ?_)
      have hB03 : Below w.heap.size w w3 := hI3.now.1.toB (fun x hx => by cases hx)
      refine (rewrite_any (rules_sub n) (.mk op k s kids) 4 1 (cv op k s (.slice ak N cc)) w3 A b kN (by unfold tyOk; omega) hok (fun x hx => Nat.lt_of_lt_of_le (hA x hx) hB03.size) (hN.bel hA hB03) (hR.later (below_end hM2 hI3.now.2 hm3 (by kernel_rfl))) (hT.below hB03)).mono fun e w4 ⟨v4, he4, hN4, hB34⟩ => ?_
      obtain ⟨op4, k4, s4, a4, n4, c4, rfl⟩ := hN4.cells
      refine ⟨_, fun w' => Ch [] w w' ∧ Ch [g2, g4] w4 w', _, he4, h03.bel hB34, hm3.bel hB34, hn3, fun w5 hc5 => ⟨((hI3.bel hB34) w5 hc5).1, hc5.mono fun x hx => mem_eq hx⟩, ?_⟩
      have hk3 : ∀ x ∈ [g2, g4], w.heap.size ≤ x ∧ x < w3.heap.size := fun x hx => ⟨fresh_of (L := []) (Q := fun _ => True) (hI3.mono fun w' h => ⟨h.1, trivial⟩) (mem_eq hx) (by simp), holds_lt hm3 x (mem_eq hx)⟩
      refine Goes.oneA 4 1 [0] ?_
      refine Goes.run [5] [] trivial ?_
      refine Goes.ret [1] (.tuple #[cv op4 k4 s4 (.slice a4 n4 c4), .int .i64 0]) fun w' hm hI => ⟨?_, hI.now.1.toB (fun x hx => by cases hx)⟩
      unfold doP
      rw [hb, hc]
      refine ⟨_, rfl, (hN4.later fun x hx => ?_).mono fun x hx => ?_⟩
      · refine hI.now.2.block x ?_ fun hm => ?_
        · rcases hx with hx | hx
          · exact Nat.lt_of_lt_of_le (hA x hx) (Nat.le_trans hB03.size hB34.size)
          · exact hx.2
        · have := hk3 x hm
          rcases hx with hx | hx
          · have := hA x hx; omega
          · omega
      · rcases hx with hx | hx
        · exact .inl hx
        · exact .inr ⟨Nat.le_trans hB03.size hx.1, Nat.lt_of_lt_of_le hx.2 hI.now.2.size⟩
end Go.Proofs.YtekgfdbeinacjaaGreatDoor
namespace Go.Proofs.YtekgfdbeinacjaaGreatDoor
open Go Go.RowKit

abbrev oneC0 : Co := .mk 26 0 [] [.mk 7 0 [] [numC 400000, numC 600000], .mk 24 0 [69, 85, 82] []]
theorem one_do : doP oneC0 3 = some (.mk 24 0 [69, 85, 82] []) := by kernel_rfl
theorem cell8 {w : World} {g : Nat} {cs : Array Value} {t : TypeId} (h : w.heap[g]? = some (.cells cs t (0, 0))) {i : Nat} {v : Value} (hv : cs[i]? = some v) : w.cell? ⟨g, i, none⟩ = some v := by
  unfold World.cell?
  rw [h]
  simpa using hv
/-- Two terms in a row make one. -/
theorem NcS.pair {A : Nat → Prop} {w : World} {g : Nat} {op k op1 k1 op2 k2 : Int} {s s1 s2 : List UInt8} {u1 u2 : Value} {c1 c2 : Co} {T : TypeId} (hg : w.heap[g]? = some (.cells #[.int .i64 op1, .int .i64 k1, strV s1, u1, .int .i64 op2, .int .i64 k2, strV s2, u2] T (0, 0))) (hA : A g) (hf : Fits op k s) (h1 : NcS A w (cv op1 k1 s1 u1) c1) (h2 : NcS A w (cv op2 k2 s2 u2) c2) : NcS A w (cv op k s (.slice (some ⟨g, 0, none⟩) 2 2)) (.mk op k s [c1, c2]) := by
  refine .mk op k s [c1, c2] (some ⟨g, 0, none⟩) 2 (fun i => match i with | 0 => cv op1 k1 s1 u1 | _ => cv op2 k2 s2 u2) hf ⟨by simp, by omega⟩ (fun i hi => ⟨g, 0, rfl, hA, ?_⟩) (fun i t ht => ?_)
  · match i, hi with
    | 0, _ => exact ⟨op1, k1, s1, u1, rfl, cell8 hg (i := 0) rfl, cell8 hg (i := 1) rfl, cell8 hg (i := 2) rfl, cell8 hg (i := 3) rfl⟩
    | 1, _ => exact ⟨op2, k2, s2, u2, rfl, cell8 hg (i := 4) rfl, cell8 hg (i := 5) rfl, cell8 hg (i := 6) rfl, cell8 hg (i := 7) rfl⟩
  · match i, ht with
    | 0, ht => cases ht; exact h1
    | 1, ht => cases ht; exact h2
theorem fit24 {A : Nat → Prop} (w : World) : NcS A w (cv 24 0 [69, 85, 82] (.slice none 0 0)) (.mk 24 0 [69, 85, 82] []) := .mk 24 0 [69, 85, 82] [] none 0 (fun _ => undef) ⟨by omega, by omega, by simp⟩ ⟨by simp, by omega⟩ (fun i hi => by simp at hi) (fun i t ht => by simp at ht)
set_option maxRecDepth 100000 in
seal rn rnN rnS Goes ans atEnd put0 putM opened openedY putA0 putA oneSt st0 keep put in
theorem shown16_any {w : World} (hT : Tab w) : Calls Tryz.prog 6 #[] w fun e w' => e = .returned (.bool true) ∧ Below w.heap.size w w' := by
  refine Goes.begin Tryz.func6 [] (fun _ => True) Holds.nil (by simp [Mem.ids]) (fun _ _ => trivial) ?_
  refine Goes.run3 [2, 2] [] trivial fun g6 g9 g1 => ?_
  refine Goes.call 7 #[cv 26 0 [] (.slice (some ⟨g9, 0, none⟩) 2 2), .int .i64 3] fun w1 hm1 hn1 hI1 => ?_
  have h6 : w1.heap[g6]? = some (.cells #[.int .i64 1, .int .i64 400000, strV [], .slice none 0 0, .int .i64 1, .int .i64 600000, strV [], .slice none 0 0] 24 (0, 0)) := hm1.get 0
  have h9 : w1.heap[g9]? = some (.cells #[.int .i64 7, .int .i64 0, strV [], .slice (some ⟨g6, 0, none⟩) 2 2, .int .i64 24, .int .i64 0, strV [69, 85, 82], .slice none 0 0] 24 (0, 0)) := hm1.get 1
  have hN : NcS (fun x => x = g6 ∨ x = g9) w1 (cv 26 0 [] (.slice (some ⟨g9, 0, none⟩) 2 2)) oneC0 := .pair h9 (.inr rfl) (show Fits 26 0 [] from ⟨by omega, by omega, by simp⟩) (.pair h6 (.inl rfl) (show Fits 7 0 [] from ⟨by omega, by omega, by simp⟩) (.leaf (show Fits 1 400000 [] from ⟨by omega, by omega, by simp⟩)) (.leaf (show Fits 1 600000 [] from ⟨by omega, by omega, by simp⟩))) (fit24 _)
  have hA : ∀ x, (x = g6 ∨ x = g9) → x < w1.heap.size := fun x hx => by
    rcases hx with rfl | rfl
    · exact lt_of_get h6
    · exact lt_of_get h9
  refine (do_any 3 hA hN (hT.below (bel0 hI1))).mono fun e w2 ⟨he, hB⟩ => ?_
  rw [one_do] at he
  obtain ⟨v', he, hN2⟩ := he
  obtain ⟨a, cc, rfl, -, -, -⟩ := hN2.open
  refine ⟨_, _, _, he, hm1.bel hB, hn1, hI1.bel hB, ?_⟩
  refine Goes.run1 [3, 1, 3, 1, 3] [(true, true), (true, true)] ⟨rfl, rfl, trivial⟩ fun g => ?_
  exact Goes.ret [] (.bool true) fun w' hm hI => ⟨rfl, bel0 hI⟩
end Go.Proofs.YtekgfdbeinacjaaGreatDoor
namespace Go.Proofs.YtekgfdbeinacjaaGreatDoor
open Go

/-- What passes make of a contract is one. -/
theorem do_some {c t : Co} {n : Int} (h : doP c n = some t) : badP n = false ∧ (chkP c == 0) = true ∧ t = rwP (rulesN n) c := by
  unfold doP at h
  cases hb : badP n with
  | true => rw [hb] at h; cases h
  | false =>
    rw [hb] at h
    cases hc : (chkP c == 0) with
    | false => rw [hc] at h; cases h
    | true => rw [hc] at h; cases h; exact ⟨rfl, rfl, rfl⟩
theorem do_chk {c t : Co} {n : Int} (h : doP c n = some t) : chkP t = 0 ∧ szC t ≤ szC c ∧ hzC t ≤ hzC c := by
  obtain ⟨-, hc, rfl⟩ := do_some h
  obtain ⟨h1, h2, h3⟩ := chk_ok hc
  obtain ⟨k, -⟩ := rw_good (rules_sub n) c 4 1 (by unfold tyOk; omega) h1
  exact ⟨ok_chk k.ok (Int.le_trans k.sz h2) (k.ah h3), k.sz, k.hz⟩
end Go.Proofs.YtekgfdbeinacjaaGreatDoor
namespace Go.Proofs.YtekgfdbeinacjaaGreatDoor
open Go Go.RowKit

theorem loadAgg {t : TypeId} {n : Nat} (ha : ∀ w, (isAgg t).run Tryz.prog w = .ok true w) (hs : (Tryz.prog.info? t).map (·.size) = some n) {w : World} {b o : Nat} (l : List Value) (hl : l.length = n) (h : ∀ j x, l[j]? = some x → w.cell? ⟨b, o + j, none⟩ = some x) : (Instr.loadAt t (.pointer (some ⟨b, o, none⟩))).run Tryz.prog w = .ok (.agg l.toArray) w := by
  have hc := run_loadCells_list (P := Tryz.prog) w ⟨b, o, none⟩ l (fun j x hx => by rw [add_lit]; exact h j x hx)
  subst hl
  simp only [Instr.loadAt, Instr.sureAddr, Sem.run_bind, Sem.run_pure, Result.andThen, loadVar, ha, run_size hs, hc, if_true]
theorem geqT (a b : List UInt8) (w : World) : (binOp .geq 9 (strV a) (strV b)).run Tryz.prog w = .ok (.bool (!(decide (a < b)))) w := by
  unfold strV
  rw [show binOp .geq 9 (.string ⟨a.toArray⟩) (.string ⟨b.toArray⟩) = pure (.bool !(Op.bytesLess (ByteArray.mk a.toArray).toList (ByteArray.mk b.toArray).toList)) by simp [binOp, Op.stringOp], Go.Proofs.bytesLess_eq, Lib.toList_data, Lib.toList_data]
  rfl
/-- Stamps behind a day. -/
def stOk (last : Int) : List (Int × Int) → Bool
  | [] => true
  | q :: r => (!decide (q.1 ≤ last) && dayP q.1 && numP q.2) && stOk q.1 r
def stmP (l : List (Int × Int)) : Bool := decide (l.length ≤ 4096) && stOk (-1) l
/-- Feeds behind a name. -/
def fdOk (last : List UInt8) : Fs → Bool
  | [] => true
  | f :: r => (decide (last < f.1) && namP f.1 && stmP f.2) && fdOk f.1 r
def rfP (fs : Fs) : Bool := decide (fs.length ≤ 64) && fdOk [] fs
end Go.Proofs.YtekgfdbeinacjaaGreatDoor
namespace Go.Proofs.YtekgfdbeinacjaaGreatDoor
open Go Go.RowKit

end Go.Proofs.YtekgfdbeinacjaaGreatDoor
namespace Go.Proofs.YtekgfdbeinacjaaGreatDoor
open Go Go.RowKit

theorem st_facts : ∀ {l : List (Int × Int)} {last : Int}, stOk last l = true → RiseD l ∧ ∀ q ∈ l, last < q.1 ∧ dayP q.1 = true ∧ inM q.2
  | [], last, _ => ⟨List.Pairwise.nil, by simp⟩
  | q :: r, last, h => by
    rw [stOk] at h
    simp only [Bool.and_eq_true, Bool.not_eq_true', decide_eq_false_iff_not] at h
    obtain ⟨⟨⟨h1, h2⟩, h3⟩, h4⟩ := h
    obtain ⟨g1, g2⟩ := st_facts h4
    refine ⟨List.pairwise_cons.2 ⟨fun x hx => (g2 x hx).1, g1⟩, fun x hx => ?_⟩
    rcases List.mem_cons.1 hx with rfl | hx
    · exact ⟨by omega, h2, numP_in.1 h3⟩
    · obtain ⟨a, b, c⟩ := g2 x hx
      exact ⟨by omega, b, c⟩
theorem fd_facts : ∀ {fs : Fs} {last : List UInt8}, fdOk last fs = true → RiseN fs ∧ ∀ f ∈ fs, last < f.1 ∧ namP f.1 = true ∧ stmP f.2 = true
  | [], last, _ => ⟨List.Pairwise.nil, by simp⟩
  | f :: r, last, h => by
    rw [fdOk] at h
    simp only [Bool.and_eq_true, decide_eq_true_eq] at h
    obtain ⟨⟨⟨h1, h2⟩, h3⟩, h4⟩ := h
    obtain ⟨g1, g2⟩ := fd_facts h4
    refine ⟨List.pairwise_cons.2 ⟨fun x hx => (g2 x hx).1, g1⟩, fun x hx => ?_⟩
    rcases List.mem_cons.1 hx with rfl | hx
    · exact ⟨h1, h2, h3⟩
    · obtain ⟨a, b, c⟩ := g2 x hx
      exact ⟨List.lt_trans h1 a, b, c⟩
/-- Right feeds. -/
structure RFd (fs : Fs) : Prop where
  len : fs.length ≤ 64
  rise : RiseN fs
  each : ∀ f ∈ fs, namP f.1 = true ∧ f.2.length ≤ 4096 ∧ RiseD f.2 ∧ ∀ q ∈ f.2, dayP q.1 = true ∧ inM q.2
theorem rf_right {fs : Fs} (h : rfP fs = true) : RFd fs := by
  unfold rfP at h
  simp only [Bool.and_eq_true, decide_eq_true_eq] at h
  obtain ⟨g1, g2⟩ := fd_facts h.2
  refine ⟨h.1, g1, fun f hf => ?_⟩
  obtain ⟨-, a, b⟩ := g2 f hf
  unfold stmP at b
  simp only [Bool.and_eq_true, decide_eq_true_eq] at b
  obtain ⟨e1, e2⟩ := st_facts b.2
  exact ⟨a, b.1, e1, fun q hq => (e2 q hq).2⟩
theorem RFd.rf {fs : Fs} (h : RFd fs) : RF fs := fun f hf q hq => ((h.each f hf).2.2.2 q hq).2
end Go.Proofs.YtekgfdbeinacjaaGreatDoor
namespace Go.Proofs.YtekgfdbeinacjaaGreatDoor
open Go Go.RowKit

section
variable {fs : Fs} {a : Option Addr} {N cF : Nat} {day : Int}
end
end Go.Proofs.YtekgfdbeinacjaaGreatDoor
namespace Go.Proofs.YtekgfdbeinacjaaGreatDoor
open Go Go.RowKit

def shp (op : Nat) (l : List Int) (z : Int) : Bool := z == 4 || (decide (1 ≤ op) && decide (op ≤ 5) && l == []) || (op == 6 && l == [0] && z == 0) || (op == 14 && l == [1] && z == 1) || ((op == 15 || op == 16) && l == [1, 1] && z == 1) || (decide (7 ≤ op) && op != 14 && op != 15 && op != 16 && op != 22 && (match l with | [x, y] => x != 4 && y != 4 | _ => false))
theorem rk_shp : ∀ n : Fin 32, (match rkP ((n : Nat) : Int) with | some (l, z) => shp n l z | none => true) = true := by decide
/-- How an observable may stand. -/
theorem rk_cases {op z : Int} {l : List Int} (h : rkP op = some (l, z)) (hz : z ≠ 4) : ((op = 1 ∨ op = 2 ∨ op = 3 ∨ op = 4 ∨ op = 5) ∧ l = []) ∨ (op = 6 ∧ l = [0] ∧ z = 0) ∨ (op = 14 ∧ l = [1] ∧ z = 1) ∨ ((op = 15 ∨ op = 16) ∧ l = [1, 1] ∧ z = 1) ∨ (7 ≤ op ∧ op ≠ 14 ∧ op ≠ 15 ∧ op ≠ 16 ∧ op ≠ 22 ∧ ∃ x y, l = [x, y] ∧ x ≠ 4 ∧ y ≠ 4) := by
  obtain ⟨o0, o1⟩ := op_small h
  have hn : ((op.toNat : Nat) : Int) = op := by omega
  have hs := rk_shp ⟨op.toNat, by omega⟩
  simp only [hn, h] at hs
  unfold shp at hs
  simp only [Bool.or_eq_true, Bool.and_eq_true, beq_iff_eq, decide_eq_true_eq, bne_iff_ne] at hs
  rcases hs with ((((h | ⟨⟨h1, h2⟩, h3⟩) | ⟨⟨h1, h2⟩, h3⟩) | ⟨⟨h1, h2⟩, h3⟩) | ⟨⟨h1, h2⟩, h3⟩) | ⟨⟨⟨⟨⟨h1, h2⟩, h3⟩, h4⟩, h5⟩, h6⟩
  · exact absurd h hz
  · exact .inl ⟨by omega, h3⟩
  · exact .inr (.inl ⟨by omega, h2, h3⟩)
  · exact .inr (.inr (.inl ⟨by omega, h2, h3⟩))
  · exact .inr (.inr (.inr (.inl ⟨by omega, h2, h3⟩)))
  · refine .inr (.inr (.inr (.inr ⟨by omega, by omega, by omega, by omega, by omega, ?_⟩)))
    match l, h6 with
    | [x, y], h6 => simp only [Bool.and_eq_true, bne_iff_ne] at h6; exact ⟨x, y, rfl, h6⟩
end Go.Proofs.YtekgfdbeinacjaaGreatDoor
namespace Go.Proofs.YtekgfdbeinacjaaGreatDoor
open Go Go.RowKit

section
variable {P : Program} {F : Exit → Act → World → Prop} {Inv : World → Prop} {s : St}
/-- A block is made, and it is no elder one. -/
def mkSt (P : Program) (g : Nat) (s : St) : St :=
  match mkG P ⟨s, [], [], []⟩ [g] with
  | some (y, _) => y.st
  | none => s
theorem Goes.new1 (n1 : Nat) (hn1 : ∀ w, Inv w → n1 ≤ w.heap.size) (h : ∀ g, n1 ≤ g → Goes P F Inv (mkSt P g s)) (hs : ∀ g, (mkG P ⟨s, [], [], []⟩ [g]).map (fun q => (q.1.on, q.1.ob)) = some ([], []) := by intro g; kernel_rfl) : Goes P F Inv s := by
  intro w hm hn hI
  have hg := hs w.heap.size
  have hG := h w.heap.size (hn1 w hI.now)
  cases hmk : mkG P ⟨s, [], [], []⟩ [w.heap.size] with
  | none => rw [hmk] at hg; cases hg
  | some q =>
    obtain ⟨y, gs⟩ := q
    unfold mkSt at hG
    rw [hmk] at hG hg
    simp only at hG
    simp only [Option.map_some, Option.some.injEq, Prod.mk.injEq] at hg
    unfold mkG at hmk
    simp only at hmk
    split at hmk
    · rename_i ops o rest res k hno
      split at hmk
      · rename_i hc
        simp only [Bool.and_eq_true] at hc
        split at hmk
        · rename_i y' hd
          cases hmk
          exact doOp_goes (x := ⟨s, [], [], []⟩) (nextOp_todo hno) hd (wants_ok hno hc.2) ⟨by rw [hg.1]; simp, by rw [hg.2]; simp⟩ hG hm hn hI (fun n e => by cases e; rfl)
        · cases hmk
      · cases hmk
    · cases hmk
end
/-- Rows of two types lie apart. -/
theorem own_ne {w : World} {b1 e1 s1 n1 b2 e2 s2 n2 : Nat} {v1 v2 : Value} {x1 x2 : List Value} (h : w.ownsRow b1 e1 s1 v1 n1 x1) (h' : w.ownsRow b2 e2 s2 v2 n2 x2) (he : e1 ≠ e2) {b : Nat} (hb : v1.ownBlock = some b) : v2.ownBlock ≠ some b := by
  intro hb'
  rcases h.2 with ⟨rfl, -⟩ | ⟨g, cap, cur, rfl, -, hg, -⟩
  · cases hb
  · rcases h'.2 with ⟨rfl, -⟩ | ⟨g', cap', cur', rfl, -, hg', -⟩
    · cases hb'
    · cases hb
      cases hb'
      rw [hg] at hg'
      simp at hg'
      exact he hg'.2
/-- A row lies in no block of another type. -/
theorem own_not {w : World} {b1 e1 s1 n1 e g : Nat} {v1 : Value} {x1 : List Value} {c : Array Value} {z : Nat × Nat} (h : w.ownsRow b1 e1 s1 v1 n1 x1) (hg : w.heap[g]? = some (.cells c e z)) (he : e1 ≠ e) : v1.ownBlock ≠ some g := by
  intro hb
  rcases h.2 with ⟨rfl, -⟩ | ⟨g', cap, cur, rfl, -, hg', -⟩
  · cases hb
  · cases hb
    rw [hg] at hg'
    simp at hg'
    exact he hg'.2.1.symm
theorem own_ch {w w' : World} {b1 e1 s1 n1 : Nat} {v1 : Value} {x1 : List Value} {L : List Nat} (h : w.ownsRow b1 e1 s1 v1 n1 x1) (hc : Ch L w w') (ha : ∀ b, v1.ownBlock = some b → b ∉ L) : w'.ownsRow b1 e1 s1 v1 n1 x1 := by
  refine ⟨h.1, ?_⟩
  rcases h.2 with hn | ⟨g, cap, cur, rfl, hb, hg, rest⟩
  · exact .inl hn
  · exact .inr ⟨g, cap, cur, rfl, hb, (hc.block g (lt_of_get hg) (ha g rfl)).trans hg, rest⟩
theorem own_kept {w w' : World} {b1 e1 s1 n1 : Nat} {v1 : Value} {x1 : List Value} {o : Option Nat} (h : w.ownsRow b1 e1 s1 v1 n1 x1) (hg : w.grownBy w' o) (ha : ∀ b, v1.ownBlock = some b → o ≠ some b) : w'.ownsRow b1 e1 s1 v1 n1 x1 :=
  h.kept hg (by
    cases hb : v1.ownBlock with
    | none => exact .inl rfl
    | some b => exact .inr fun e => ha b hb e.symm)
/-- A spot: a term, its kids' places. -/
structure Sp where
  op : Int
  k : Int
  s : List UInt8
  kv : Value
  pl : List Int
theorem cell_row {w : World} {g : Nat} {l : List Value} {e : TypeId} {z : Nat × Nat} (hg : w.heap[g]? = some (.cells l.toArray e z)) : ∀ j u, l[j]? = some u → w.cell? ((⟨g, 0, none⟩ : Addr).add j) = some u := fun j u hu => by
  have e1 : (⟨g, 0, none⟩ : Addr).add j = ⟨g, j, none⟩ := by unfold Addr.add; split <;> simp_all
  rw [e1]
  unfold World.cell?
  rw [hg]
  simpa using hu
end Go.Proofs.YtekgfdbeinacjaaGreatDoor
namespace Go.Proofs.YtekgfdbeinacjaaGreatDoor
open Go Go.RowKit

theorem szL_snoc {c : Co} : ∀ l : List Co, szL (l ++ [c]) = szL l + szC c
  | [] => by show szL [c] = _; rw [szL, szL, szL]; omega
  | y :: r => by show szL (y :: (r ++ [c])) = _; rw [szL, szL, szL_snoc r]; omega
theorem take_more {α : Type} {l : List α} {i : Nat} {u : α} (h : l[i]? = some u) : l.take (i + 1) = l.take i ++ [u] := by
  rw [List.take_add_one, h]
  rfl
theorem own_form {w : World} {b1 e1 s1 n1 : Nat} {v1 : Value} {x1 : List Value} (h : w.ownsRow b1 e1 s1 v1 n1 x1) : ∃ a cap, v1 = .slice a n1 cap := by
  rcases h.2 with ⟨e, hn⟩ | ⟨g, cap, cur, e, -⟩
  · exact ⟨none, 0, by rw [e, hn]⟩
  · exact ⟨_, _, e⟩
theorem Ch.grown {L : List Nat} {w w1 w2 : World} {o : Option Nat} (h : Ch L w w1) (hg : w1.grownBy w2 o) (ho : ∀ b, o = some b → b ∈ L ∨ w.heap.size ≤ b) : Ch L w w2 :=
  ⟨hg.os.trans h.os, hg.tape.trans h.tape, hg.output.trans h.output, Nat.le_trans h.size hg.size, fun i hi hx => (hg.block i (Nat.lt_of_lt_of_le hi h.size) (fun e => by
    rcases ho i e.symm with h1 | h1
    · exact hx h1
    · omega)).trans (h.block i hi hx)⟩
theorem grown_below {n0 : Nat} {w w' : World} {o : Option Nat} (h : w.grownBy w' o) (ho : ∀ b, o = some b → n0 ≤ b) (hn : n0 ≤ w.heap.size) : Below n0 w w' := ⟨h.os, h.tape, h.output, h.size, fun i hi => h.block i (by omega) (fun e => by have := ho i e.symm; omega)⟩
theorem own_mem {v : Value} {b : Nat} : v.ownBlock = some b ↔ b ∈ v.ownBlock.toList := by
  cases v.ownBlock <;> simp [eq_comm]
theorem ch_below {n0 : Nat} {w w' : World} {L : List Nat} (h : Ch L w w') (hL : ∀ b ∈ L, n0 ≤ b) (hn : n0 ≤ w.heap.size) : Below n0 w w' := ⟨h.os, h.tape, h.output, h.size, fun i hi => h.block i (by omega) (fun hm => by have := hL i hm; omega)⟩
end Go.Proofs.YtekgfdbeinacjaaGreatDoor
namespace Go.Proofs.YtekgfdbeinacjaaGreatDoor
open Go Go.RowKit

def lvC (ls : List (Int × Int)) : List Value := ls.flatMap fun x => [.int .i64 x.1, .int .i64 x.2]
def trC (day : Int) (ts : List (List UInt8 × Int)) : List Value := ts.flatMap fun x => [.int .i64 day, strV x.1, .int .i64 x.2]
theorem lvC_app (a b : List (Int × Int)) : lvC (a ++ b) = lvC a ++ lvC b := by unfold lvC; simp
theorem trC_app (day : Int) (a b : List (List UInt8 × Int)) : trC day (a ++ b) = trC day a ++ trC day b := by unfold trC; simp
/-- Lives, transfers: rows of one's own. -/
def Lvs (base : Nat) (w : World) (v : Value) (ls : List (Int × Int)) : Prop := w.ownsRow base 60 2 v ls.length (lvC ls)
def Trs (base : Nat) (day : Int) (w : World) (v : Value) (ts : List (List UInt8 × Int)) : Prop := w.ownsRow base 58 3 v ts.length (trC day ts)
theorem Lvs.nil {base : Nat} {w : World} : Lvs base w (.slice none 0 0) [] := w.ownsRow_nil _ _ _
theorem Trs.nil {base : Nat} {day : Int} {w : World} : Trs base day w (.slice none 0 0) [] := w.ownsRow_nil _ _ _
theorem Lvs.add {base : Nat} {w : World} {v : Value} {ls : List (Int × Int)} (h : Lvs base w v ls) (hb : base ≤ w.heap.size) (x : Int × Int) {bj c : Nat} {et ty : TypeId} {z : Nat × Nat} (hj : w.heap[bj]? = some (.cells #[.int .i64 x.1, .int .i64 x.2] et z)) (hl : ls.length + 1 ≤ 100000000) :
    ∃ b c' w', (Builtin.append_ #[32, 32] ty #[v, .slice (some ⟨bj, 0, none⟩) 1 c]).run Tryz.prog w = .ok (.slice (some ⟨b, 0, none⟩) (ls.length + 1) c') w' ∧ Lvs base w' (.slice (some ⟨b, 0, none⟩) (ls.length + 1) c') (ls ++ [x]) ∧ w.grownBy w' v.ownBlock ∧ (v.ownBlock = some b ∨ b = w.heap.size) := by
  obtain ⟨b, c', w', hr, hrow, hgr, hob⟩ := append_coreA (P := Tryz.prog) (t := 32) (e := 60) (ty := ty) (size := 2) (bytes := 16) (a := ⟨bj, 0, none⟩) (m := 1) (c := c) (news := [.int .i64 x.1, .int .i64 x.2]) h hb (by simp) (cell_row hj) (by simp [Value.oneCell']) (.inr (by omega)) (by unfold maxLen; omega) (by omega) (by kernel_rfl)
  refine ⟨b, c', w', hr, ?_, hgr, ?_⟩
  · unfold Lvs
    rw [lvC_app, List.length_append]
    exact hrow
  · rcases hob with h | h
    · exact .inl h.symm
    · refine .inr ?_
      simp [Value.ownBlock] at h
      exact h
theorem Trs.add {base : Nat} {day : Int} {w : World} {v : Value} {ts : List (List UInt8 × Int)} (h : Trs base day w v ts) (hb : base ≤ w.heap.size) (x : List UInt8 × Int) {bj c : Nat} {et ty : TypeId} {z : Nat × Nat} (hj : w.heap[bj]? = some (.cells #[.int .i64 day, strV x.1, .int .i64 x.2] et z)) (hl : ts.length + 1 ≤ 100000000) :
    ∃ b c' w', (Builtin.append_ #[33, 33] ty #[v, .slice (some ⟨bj, 0, none⟩) 1 c]).run Tryz.prog w = .ok (.slice (some ⟨b, 0, none⟩) (ts.length + 1) c') w' ∧ Trs base day w' (.slice (some ⟨b, 0, none⟩) (ts.length + 1) c') (ts ++ [x]) ∧ w.grownBy w' v.ownBlock ∧ (v.ownBlock = some b ∨ b = w.heap.size) := by
  obtain ⟨b, c', w', hr, hrow, hgr, hob⟩ := append_coreA (P := Tryz.prog) (t := 33) (e := 58) (ty := ty) (size := 3) (bytes := 32) (a := ⟨bj, 0, none⟩) (m := 1) (c := c) (news := [.int .i64 day, strV x.1, .int .i64 x.2]) h hb (by simp) (cell_row hj) (by simp [Value.oneCell', strV]) (.inr (by omega)) (by unfold maxLen; omega) (by omega) (by kernel_rfl)
  refine ⟨b, c', w', hr, ?_, hgr, ?_⟩
  · unfold Trs
    rw [trC_app, List.length_append]
    exact hrow
  · rcases hob with h | h
    · exact .inl h.symm
    · refine .inr ?_
      simp [Value.ownBlock] at h
      exact h
/-- The blocks that acquiring may change. -/
def Oo (g : Nat) (lv tv : Value) : List Nat := g :: (lv.ownBlock.toList ++ tv.ownBlock.toList)
/-- Of types that nothing else has. -/
def ty4 (e : TypeId) : Bool := e == 1000000 || e == 55 || e == 60 || e == 58
def Ty4 (w : World) (x : Nat) : Prop := ∃ c e z, w.heap[x]? = some (.cells c e z) ∧ ty4 e = true
/-- Acquiring under way: what waits and is transferred so far, and that nothing else was changed. -/
def AcI (n0 g : Nat) (day : Int) (w : World) (lv tv lv1 tv1 : Value) (ls1 : List (Int × Int)) (ts1 : List (List UInt8 × Int)) (w' : World) : Prop :=
  Ch (Oo g lv tv) w w' ∧ (Lvs n0 w' lv1 ls1 ∧ Trs n0 day w' tv1 ts1 ∧ ∀ x ∈ lv1.ownBlock.toList ++ tv1.ownBlock.toList, x ∈ Oo g lv tv ∨ w.heap.size ≤ x)
theorem own_ty {w : World} {b1 e1 s1 n1 : Nat} {v1 : Value} {x1 : List Value} (h : w.ownsRow b1 e1 s1 v1 n1 x1) {b : Nat} (hb : v1.ownBlock = some b) : ∃ c z, w.heap[b]? = some (.cells c e1 z) := by
  rcases h.2 with ⟨rfl, -⟩ | ⟨g, cap, cur, rfl, -, hg, -⟩
  · cases hb
  · cases hb; exact ⟨_, _, hg⟩
theorem AcI.refl {n0 g : Nat} {day : Int} {w : World} {lv tv : Value} {ls : List (Int × Int)} {ts : List (List UInt8 × Int)} (hl : Lvs n0 w lv ls) (ht : Trs n0 day w tv ts) : AcI n0 g day w lv tv lv tv ls ts w := ⟨Ch.refl _ _, hl, ht, fun _ hx => .inl (List.mem_cons_of_mem _ hx)⟩
/-- Other blocks may be changed. -/
theorem AcI.stay {n0 g : Nat} {day : Int} {w w' : World} {lv tv lv1 tv1 : Value} {ls1 : List (Int × Int)} {ts1 : List (List UInt8 × Int)} {L : List Nat} (h : AcI n0 g day w lv tv lv1 tv1 ls1 ts1 w') (hg : ∃ c e z, w'.heap[g]? = some (.cells c e z) ∧ e ≠ 60 ∧ e ≠ 58) (hL : ∀ x ∈ L, x = g ∨ (w.heap.size ≤ x ∧ ∃ c e z, w'.heap[x]? = some (.cells c e z) ∧ ty4 e = false)) : Stay L w' (AcI n0 g day w lv tv lv1 tv1 ls1 ts1) := by
  have key : ∀ {e1 s1 n1 : Nat} {u : Value} {xs : List Value}, (e1 = 60 ∨ e1 = 58) → w'.ownsRow n0 e1 s1 u n1 xs → ∀ b, u.ownBlock = some b → b ∉ L := by
    intro e1 s1 n1 u xs he hr b hb hm
    rcases hL b hm with rfl | ⟨-, c, e, z, hx, h4⟩
    · obtain ⟨c, e, z, hx, h1, h2⟩ := hg
      refine own_not hr hx ?_ hb
      rcases he with rfl | rfl
      · exact fun e => h1 e.symm
      · exact fun e => h2 e.symm
    · refine own_not hr hx ?_ hb
      rintro rfl
      rcases he with rfl | rfl <;> cases h4
  exact fun _ hc => ⟨h.1.trans hc fun x hx => by
    rcases hL x hx with rfl | ⟨h1, -⟩
    · exact .inl (by simp [Oo])
    · exact .inr h1, own_ch h.2.1 hc (key (.inl rfl) h.2.1), own_ch h.2.2.1 hc (key (.inr rfl) h.2.2.1), h.2.2.2⟩
/-- One part behind another. -/
theorem AcI.trans {n0 g : Nat} {day : Int} {w w1 w2 : World} {lv tv lv1 tv1 lv2 tv2 : Value} {ls1 ls2 : List (Int × Int)} {ts1 ts2 : List (List UInt8 × Int)} (h : AcI n0 g day w lv tv lv1 tv1 ls1 ts1 w1) (k : AcI n0 g day w1 lv1 tv1 lv2 tv2 ls2 ts2 w2) : AcI n0 g day w lv tv lv2 tv2 ls2 ts2 w2 := by
  have hO : ∀ x ∈ Oo g lv1 tv1, x ∈ Oo g lv tv ∨ w.heap.size ≤ x := fun x hx => by
    rcases List.mem_cons.1 hx with rfl | hx
    · exact .inl (by simp [Oo])
    · exact h.2.2.2 x hx
  refine ⟨h.1.trans k.1 hO, k.2.1, k.2.2.1, fun x hx => ?_⟩
  rcases k.2.2.2 x hx with h1 | h1
  · exact hO x h1
  · exact .inr (Nat.le_trans h.1.size h1)
/-- One more waits. -/
theorem AcI.live {n0 g : Nat} {day : Int} {w w1 : World} {lv tv lv1 tv1 : Value} {ls1 : List (Int × Int)} {ts1 : List (List UInt8 × Int)} (h : AcI n0 g day w lv tv lv1 tv1 ls1 ts1 w1) (hb : n0 ≤ w1.heap.size) (x : Int × Int) {bj c : Nat} {et ty : TypeId} {z : Nat × Nat} (hj : w1.heap[bj]? = some (.cells #[.int .i64 x.1, .int .i64 x.2] et z)) (hl : ls1.length + 1 ≤ 100000000) :
    ∃ b c' w', (Builtin.append_ #[32, 32] ty #[lv1, .slice (some ⟨bj, 0, none⟩) 1 c]).run Tryz.prog w1 = .ok (.slice (some ⟨b, 0, none⟩) (ls1.length + 1) c') w' ∧ AcI n0 g day w lv tv (.slice (some ⟨b, 0, none⟩) (ls1.length + 1) c') tv1 (ls1 ++ [x]) ts1 w' ∧ ∀ (i : Nat) (c : Array Value) (e : TypeId) (z : Nat × Nat), w1.heap[i]? = some (.cells c e z) → e ≠ 60 → w'.heap[i]? = some (.cells c e z) := by
  obtain ⟨b, c', w', hr, hrow, hgr, hob⟩ := h.2.1.add hb x hj hl (ty := ty) (c := c)
  refine ⟨b, c', w', hr, ⟨h.1.grown hgr fun b hb => h.2.2.2 b (List.mem_append_left _ (own_mem.1 hb)), hrow, own_kept h.2.2.1 hgr fun b hb => own_ne h.2.2.1 h.2.1 (by decide) hb, fun y hy => ?_⟩, fun i c e z hi he => ?_⟩
  · rcases List.mem_append.1 hy with hy | hy
    · have := own_mem.2 hy
      cases this
      rcases hob with h1 | h1
      · exact h.2.2.2 _ (List.mem_append_left _ (own_mem.1 h1))
      · exact .inr (by rw [h1]; exact h.1.size)
    · exact h.2.2.2 y (List.mem_append_right _ hy)
  · rw [hgr.block i (lt_of_get hi) (fun e1 => own_not h.2.1 hi (fun e => he e.symm) e1.symm)]
    exact hi
/-- One more is transferred. -/
theorem AcI.pay {n0 g : Nat} {day : Int} {w w1 : World} {lv tv lv1 tv1 : Value} {ls1 : List (Int × Int)} {ts1 : List (List UInt8 × Int)} (h : AcI n0 g day w lv tv lv1 tv1 ls1 ts1 w1) (hb : n0 ≤ w1.heap.size) (x : List UInt8 × Int) {bj c : Nat} {et ty : TypeId} {z : Nat × Nat} (hj : w1.heap[bj]? = some (.cells #[.int .i64 day, strV x.1, .int .i64 x.2] et z)) (hl : ts1.length + 1 ≤ 100000000) :
    ∃ b c' w', (Builtin.append_ #[33, 33] ty #[tv1, .slice (some ⟨bj, 0, none⟩) 1 c]).run Tryz.prog w1 = .ok (.slice (some ⟨b, 0, none⟩) (ts1.length + 1) c') w' ∧ AcI n0 g day w lv tv lv1 (.slice (some ⟨b, 0, none⟩) (ts1.length + 1) c') ls1 (ts1 ++ [x]) w' ∧ ∀ (i : Nat) (c : Array Value) (e : TypeId) (z : Nat × Nat), w1.heap[i]? = some (.cells c e z) → e ≠ 58 → w'.heap[i]? = some (.cells c e z) := by
  obtain ⟨b, c', w', hr, hrow, hgr, hob⟩ := h.2.2.1.add hb x hj hl (ty := ty) (c := c)
  refine ⟨b, c', w', hr, ⟨h.1.grown hgr fun b hb => h.2.2.2 b (List.mem_append_right _ (own_mem.1 hb)), own_kept h.2.1 hgr fun b hb => own_ne h.2.1 h.2.2.1 (by decide) hb, hrow, fun y hy => ?_⟩, fun i c e z hi he => ?_⟩
  · rcases List.mem_append.1 hy with hy | hy
    · exact h.2.2.2 y (List.mem_append_left _ hy)
    · have := own_mem.2 hy
      cases this
      rcases hob with h1 | h1
      · exact h.2.2.2 _ (List.mem_append_right _ (own_mem.1 h1))
      · exact .inr (by rw [h1]; exact h.1.size)
  · rw [hgr.block i (lt_of_get hi) (fun e1 => own_not h.2.2.1 hi (fun e => he e.symm) e1.symm)]
    exact hi
/-- What acquiring may change is of its types. -/
theorem oo_ty {n0 g : Nat} {day : Int} {w : World} {lv tv : Value} {ls : List (Int × Int)} {ts : List (List UInt8 × Int)} (hl : Lvs n0 w lv ls) (ht : Trs n0 day w tv ts) (hg : Ty4 w g) : ∀ x ∈ Oo g lv tv, Ty4 w x := by
  intro x hx
  rcases List.mem_cons.1 hx with rfl | hx
  · exact hg
  · rcases List.mem_append.1 hx with hx | hx
    · obtain ⟨c, z, h⟩ := own_ty hl (own_mem.2 hx)
      exact ⟨c, _, z, h, by decide⟩
    · obtain ⟨c, z, h⟩ := own_ty ht (own_mem.2 hx)
      exact ⟨c, _, z, h, by decide⟩
theorem oo_low {n0 g : Nat} {day : Int} {w : World} {lv tv : Value} {ls : List (Int × Int)} {ts : List (List UInt8 × Int)} (hl : Lvs n0 w lv ls) (ht : Trs n0 day w tv ts) (hg : n0 ≤ g) : ∀ x ∈ Oo g lv tv, n0 ≤ x := by
  intro x hx
  rcases List.mem_cons.1 hx with rfl | hx
  · exact hg
  · rcases List.mem_append.1 hx with hx | hx
    · exact (hl.lt x (own_mem.2 hx)).1
    · exact (ht.lt x (own_mem.2 hx)).1
/-- A block of another type is left alone. -/
theorem ch_other {w w' : World} {L : List Nat} (h : Ch L w w') (hL : ∀ x ∈ L, Ty4 w x) {i : Nat} {c : Array Value} {e : TypeId} {z : Nat × Nat} (hi : w.heap[i]? = some (.cells c e z)) (he : ty4 e = false) : w'.heap[i]? = some (.cells c e z) := by
  rw [h.block i (lt_of_get hi) (fun hm => by
    obtain ⟨c', e', z', hx, h4⟩ := hL i hm
    rw [hi] at hx
    cases hx
    rw [he] at h4
    cases h4)]
  exact hi
end Go.Proofs.YtekgfdbeinacjaaGreatDoor
namespace Go.Proofs.YtekgfdbeinacjaaGreatDoor
open Go Go.RowKit

end Go.Proofs.YtekgfdbeinacjaaGreatDoor
namespace Go.Proofs.YtekgfdbeinacjaaGreatDoor
open Go Go.RowKit

def Loc (w : World) (loc : Mem) : Prop := ∀ q ∈ loc, w.heap.size ≤ q.1 ∧ ∃ c e z, q.2 = .cells c e z ∧ ty4 e = false
theorem holds_in {m : Mem} {w : World} (h : ∀ q ∈ m, w.heap[q.1]? = some q.2) : Holds m w := fun _ _ _ hj => h _ (List.mem_of_getElem? hj)
theorem in_holds {m : Mem} {w : World} (h : Holds m w) : ∀ q ∈ m, w.heap[q.1]? = some q.2 := fun q hq => by
  obtain ⟨j, hj⟩ := List.getElem?_of_mem hq
  exact h j q.1 q.2 hj
section
variable {P : Program} {F : Exit → Act → World → Prop} {s : St} {n0 g : Nat} {day : Int} {fv sv lv tv lv1 tv1 : Value} {ls1 : List (Int × Int)} {ts1 : List (List UInt8 × Int)} {w : World}
end
theorem cell_obj {w : World} {b i : Nat} {cur : Array Value} {t : TypeId} {z : Nat × Nat} {u : Value} (h : w.heap[b]? = some (.cells cur t z)) (hi : cur[i]? = some u) : w.cell? ⟨b, i, none⟩ = some u := by
  unfold World.cell?
  rw [h]
  simpa using hi
theorem szL_append : ∀ a b : List Co, szL (a ++ b) = szL a + szL b
  | [], b => by show szL b = _; rw [szL]; omega
  | c :: r, b => by show szL (c :: (r ++ b)) = _; rw [szL, szL, szL_append r b]; omega
/-- No more waits and is transferred than there are terms. -/
theorem acq_len (fs : Fs) (day : Int) (c : Co) : ∀ p f, (((acq fs day c p f).1.length + (acq fs day c p f).2.length : Nat) : Int) ≤ szC c := by
  induction c using Co.ind with
  | h op k t kids ih =>
    intro p f
    have hb : ∀ i g, (((brA (acqL fs day kids (p + 1)) i g).1.length + (brA (acqL fs day kids (p + 1)) i g).2.length : Nat) : Int) ≤ szL (kids.take (i + 1)) - szL (kids.take i) := by
      intro i g
      cases hc : kids[i]? with
      | none =>
        rw [acq_none fs day (p + 1) g hc]
        have : kids.take (i + 1) = kids.take i := by rw [List.take_of_length_le (by have := List.getElem?_eq_none_iff.1 hc; omega), List.take_of_length_le (List.getElem?_eq_none_iff.1 hc)]
        rw [this]
        simp [r0]
      | some u =>
        rw [acq_get fs day (p + 1) g hc, take_more hc, szL_snoc]
        have := ih u (List.mem_of_getElem? hc) (p + 1 + szL (kids.take i)) g
        omega
    have hle : ∀ i, szL (kids.take (i + 1)) - szL (kids.take i) ≤ szL kids ∧ 0 ≤ szL (kids.take i) ∧ szL (kids.take i) ≤ szL kids := by
      intro i
      have h1 := szL_pos (kids.take i)
      have h2 : ∀ j, szL (kids.take j) ≤ szL kids := by
        intro j
        have := szL_append (kids.take j) (kids.drop j)
        rw [List.take_append_drop] at this
        have := szL_pos (kids.drop j)
        omega
      have := h2 i
      have := h2 (i + 1)
      omega
    have hpos := szL_pos kids
    rw [acq, szC]
    refine acqC_ind (Q := fun r => ((r.1.length + r.2.length : Nat) : Int) ≤ 1 + szL kids) ?_ ?_ ?_ ?_ ?_
    · simp [r0]; omega
    · intro _ _; simp; omega
    · intro _ _; simp [wt]; omega
    · intro i g _
      have := hb i g
      have := hle i
      omega
    · have h0 := hb 0 f
      have h1 := hb 1 f
      have := hle 0
      have := hle 1
      have := hle 2
      simp only [R2.cat, List.length_append]
      simp only [List.take_zero, szL] at h0
      have e2 : szL (kids.take (1 + 1)) ≤ szL kids := (hle 2).2.2
      simp only [Nat.zero_add] at h0
      omega
end Go.Proofs.YtekgfdbeinacjaaGreatDoor
namespace Go.Proofs.YtekgfdbeinacjaaGreatDoor
open Go Go.RowKit

theorem hexA {n0 g : Nat} {day : Int} {w w' : World} {lv tv lv1 tv1 : Value} {ls ls1 : List (Int × Int)} {ts ts1 : List (List UInt8 × Int)} (hl : Lvs n0 w lv ls) (ht : Trs n0 day w tv ts) (hg0 : n0 ≤ g) (hn : n0 ≤ w.heap.size) (h : AcI n0 g day w lv tv lv1 tv1 ls1 ts1 w') : Below n0 w w' := ch_below h.1 (oo_low hl ht hg0) hn
theorem holds1 {w : World} {b : Nat} {ob : Obj} (h : w.heap[b]? = some ob) : Holds [(b, ob)] w := fun j c o hj => by match j, hj with | 0, hj => (cases hj; exact h)
section
variable {n0 base g : Nat} {fs : Fs} {day : Int} {aF : Option Addr} {NF cF : Nat} {sv : Value} {c : Co} {A : List (Sp × Value)}
end
end Go.Proofs.YtekgfdbeinacjaaGreatDoor
namespace Go.Proofs.YtekgfdbeinacjaaGreatDoor
open Go Go.RowKit

section
variable {P : Program} {F : Exit → Act → World → Prop} {s : St} {n0 g : Nat} {day : Int} {fv sv lv tv lv1 tv1 : Value} {ls1 : List (Int × Int)} {ts1 : List (List UInt8 × Int)} {w : World} {fs : Fs}
end
def con9 (op : Nat) (l : List Int) (z : Int) : Bool := z != 4 || (op == 23 && l == []) || (op == 24 && l == []) || (op == 25 && l == [4]) || (op == 26 && l == [0, 4]) || (op == 27 && l == [4, 4]) || (op == 28 && l == [1, 4, 4]) || (op == 29 && l == [4]) || (op == 30 && l == [1, 4]) || (op == 31 && l == [4, 4])
theorem rk_con9 : ∀ n : Fin 32, (match rkP ((n : Nat) : Int) with | some (l, z) => con9 n l z | none => true) = true := by decide
/-- How a contract may stand. -/
theorem con_cases {d op k : Int} {s : List UInt8} {kids : List Co} (h : typF d (.mk op k s kids) = (4, true)) :
    (op = 23 ∧ kids = []) ∨ (op = 24 ∧ kids = []) ∨ (op = 25 ∧ ∃ c0, kids = [c0] ∧ typF (d + 1) c0 = (4, true)) ∨ (op = 26 ∧ ∃ c0 c1, kids = [c0, c1] ∧ typF (d + 1) c0 = (0, true) ∧ typF (d + 1) c1 = (4, true)) ∨ (op = 27 ∧ ∃ c0 c1, kids = [c0, c1] ∧ typF (d + 1) c0 = (4, true) ∧ typF (d + 1) c1 = (4, true)) ∨ (op = 28 ∧ ∃ c0 c1 c2, kids = [c0, c1, c2] ∧ typF (d + 1) c0 = (1, true) ∧ typF (d + 1) c1 = (4, true) ∧ typF (d + 1) c2 = (4, true)) ∨ (op = 29 ∧ ∃ c0, kids = [c0] ∧ typF (d + 1) c0 = (4, true)) ∨ (op = 30 ∧ ∃ c0 c1, kids = [c0, c1] ∧ typF (d + 1) c0 = (1, true) ∧ typF (d + 1) c1 = (4, true)) ∨ (op = 31 ∧ ∃ c0 c1, kids = [c0, c1] ∧ typF (d + 1) c0 = (4, true) ∧ typF (d + 1) c1 = (4, true)) := by
  obtain ⟨-, -, -, l, hl, he⟩ := typ_parts.1 h
  obtain ⟨hlen, hat⟩ := tys_at hl
  have kid : ∀ (i : Nat) (u : Co) (x : Int), kids[i]? = some u → l[i]? = some x → typF (d + 1) u = (x, true) := fun i u x hu hx => by
    obtain ⟨x', h1, h2⟩ := hat i u hu
    rw [hx] at h1
    cases h1
    exact h2
  rcases end_shape he with ⟨-, h4, -⟩ | hr
  · exact absurd rfl h4
  · obtain ⟨o0, o1⟩ := op_small hr
    have hn : ((op.toNat : Nat) : Int) = op := by omega
    have hs := rk_con9 ⟨op.toNat, by omega⟩
    simp only [hn, hr] at hs
    unfold con9 at hs
    simp only [Bool.or_eq_true, Bool.and_eq_true, beq_iff_eq, bne_iff_ne] at hs
    have k0 : l = [] → kids = [] := fun e => List.eq_nil_of_length_eq_zero (by rw [← hlen, e]; rfl)
    have k1 : ∀ x, l = [x] → ∃ c0, kids = [c0] ∧ typF (d + 1) c0 = (x, true) := fun x e => by
      subst e
      match kids, hlen, kid with
      | [c0], _, kid => exact ⟨c0, rfl, kid 0 c0 x rfl rfl⟩
    have k2 : ∀ x y, l = [x, y] → ∃ c0 c1, kids = [c0, c1] ∧ typF (d + 1) c0 = (x, true) ∧ typF (d + 1) c1 = (y, true) := fun x y e => by
      subst e
      match kids, hlen, kid with
      | [c0, c1], _, kid => exact ⟨c0, c1, rfl, kid 0 c0 x rfl rfl, kid 1 c1 y rfl rfl⟩
    have k3 : ∀ x y z, l = [x, y, z] → ∃ c0 c1 c2, kids = [c0, c1, c2] ∧ typF (d + 1) c0 = (x, true) ∧ typF (d + 1) c1 = (y, true) ∧ typF (d + 1) c2 = (z, true) := fun x y z e => by
      subst e
      match kids, hlen, kid with
      | [c0, c1, c2], _, kid => exact ⟨c0, c1, c2, rfl, kid 0 c0 x rfl rfl, kid 1 c1 y rfl rfl, kid 2 c2 z rfl rfl⟩
    rcases hs with ((((((((h | ⟨h, e⟩) | ⟨h, e⟩) | ⟨h, e⟩) | ⟨h, e⟩) | ⟨h, e⟩) | ⟨h, e⟩) | ⟨h, e⟩) | ⟨h, e⟩) | ⟨h, e⟩
    · exact absurd rfl h
    · exact .inl ⟨by omega, k0 e⟩
    · exact .inr (.inl ⟨by omega, k0 e⟩)
    · exact .inr (.inr (.inl ⟨by omega, k1 _ e⟩))
    · exact .inr (.inr (.inr (.inl ⟨by omega, k2 _ _ e⟩)))
    · exact .inr (.inr (.inr (.inr (.inl ⟨by omega, k2 _ _ e⟩))))
    · exact .inr (.inr (.inr (.inr (.inr (.inl ⟨by omega, k3 _ _ _ e⟩)))))
    · exact .inr (.inr (.inr (.inr (.inr (.inr (.inl ⟨by omega, k1 _ e⟩))))))
    · exact .inr (.inr (.inr (.inr (.inr (.inr (.inr (.inl ⟨by omega, k2 _ _ e⟩)))))))
    · exact .inr (.inr (.inr (.inr (.inr (.inr (.inr (.inr ⟨by omega, k2 _ _ e⟩)))))))
section
variable {n0 base g : Nat} {fs : Fs} {day : Int} {aF : Option Addr} {NF cF : Nat} {sv : Value} {c : Co} {A : List (Sp × Value)}

end
end Go.Proofs.YtekgfdbeinacjaaGreatDoor
namespace Go.Proofs.YtekgfdbeinacjaaGreatDoor
open Go Go.RowKit

theorem typ_full {c : Co} (h : (typP c).2 = true) : typF 1 c = ((typP c).1, true) := by
  have h1 := (typ_right h).1
  have h2 := rty_eq c
  unfold rtyP at h2
  cases hs : smaP c with
  | false => rw [hs] at h2; rw [← h2] at h; cases h
  | true =>
    rw [hs, cond_true, h1, cond_true] at h2
    rw [← h2, ← h1]
/-- What Value answers. -/
noncomputable def valR (fs : Fs) (day : Int) (c : Co) : Option Int × Int := bif (typP c).2 && !((typP c).1 == 4) && (dayP day && rfP fs) then (valP fs day c, 0) else (none, 150)
/-- What Begin answers. -/
noncomputable def begR (fs : Fs) (day : Int) (c : Co) : R2 × Int := bif chkP c == 0 && (dayP day && rfP fs) then (acq fs day c 0 1000000, 0) else (r0, 150)
/-- Lives and transfers are answered. -/
def LTQ (day : Int) (w : World) (r : R2 × Int) (e : Ending) (w' : World) : Prop := ∃ lv tv, e = .returned (.tuple #[lv, tv, .int .i64 r.2]) ∧ Lvs w.heap.size w' lv r.1.1 ∧ Trs w.heap.size day w' tv r.1.2 ∧ Below w.heap.size w w'
theorem chk_typ {c : Co} (h : (chkP c == 0) = true) : typF 1 c = (4, true) ∧ szC c ≤ 2000 ∧ ahC c = false := by
  have h := eq_of_beq h
  rw [chk_eq] at h
  cases hb : (typP c).2 with
  | false => rw [hb] at h; cases h
  | true =>
    cases h4 : ((typP c).1 != 4) with
    | true => rw [hb, h4] at h; cases h
    | false =>
      rw [hb, h4] at h
      have e4 : (typP c).1 = 4 := by simpa using h4
      refine ⟨by rw [typ_full hb, e4], (typ_right hb).2, ?_⟩
      cases ha : ahC c with
      | false => rfl
      | true => rw [ha] at h; cases h
end Go.Proofs.YtekgfdbeinacjaaGreatDoor
namespace Go.Proofs.YtekgfdbeinacjaaGreatDoor
open Go Go.RowKit

theorem nd_of {m m' : Mem} (h : m.ids.Nodup) (e : m.ids = m'.ids) : m'.ids.Nodup := e ▸ h
/-- Rows that are answered. -/
def RtI (w : World) (day : Int) (lv tv : Value) (ls : List (Int × Int)) (ts : List (List UInt8 × Int)) (w' : World) : Prop := Below w.heap.size w w' ∧ (Lvs w.heap.size w' lv ls ∧ Trs w.heap.size day w' tv ts)
theorem RtI.stay {w w' : World} {day : Int} {lv tv : Value} {ls : List (Int × Int)} {ts : List (List UInt8 × Int)} {L : List Nat} (h : RtI w day lv tv ls ts w') (hL : ∀ g ∈ L, w.heap.size ≤ g ∧ ∃ c e z, w'.heap[g]? = some (.cells c e z) ∧ e ≠ 60 ∧ e ≠ 58) : Stay L w' (RtI w day lv tv ls ts) := by
  intro w2 hc
  refine ⟨⟨hc.os.trans h.1.os, hc.tape.trans h.1.tape, hc.output.trans h.1.output, Nat.le_trans h.1.size hc.size, fun i hi => (hc.block i (Nat.lt_of_lt_of_le hi h.1.size) (fun hm => by have := (hL i hm).1; omega)).trans (h.1.block i hi)⟩, own_ch h.2.1 hc fun b hb hm => ?_, own_ch h.2.2 hc fun b hb hm => ?_⟩
  · obtain ⟨-, c, e, z, hx, h1, -⟩ := hL b hm
    exact own_not h.2.1 hx (fun e => h1 e.symm) hb
  · obtain ⟨-, c, e, z, hx, -, h2⟩ := hL b hm
    exact own_not h.2.2 hx (fun e => h2 e.symm) hb
theorem aq_rows {w w1 w2 : World} {g : Nat} {day : Int} {lv tv : Value} {ls : List (Int × Int)} {ts : List (List UInt8 × Int)} (hB : Below w.heap.size w w1) (hg : w.heap.size ≤ g) (h : AcI w.heap.size g day w1 (.slice none 0 0) (.slice none 0 0) lv tv ls ts w2) : RtI w day lv tv ls ts w2 := by
  refine ⟨hB.trans (ch_below h.1 (fun x hx => ?_) hB.size), h.2.1, h.2.2.1⟩
  simp [Oo, Value.ownBlock] at hx
  omega
end Go.Proofs.YtekgfdbeinacjaaGreatDoor
namespace Go.Proofs.YtekgfdbeinacjaaGreatDoor
open Go Go.RowKit

def opAt (c : Co) (q : Int) : Bool := match termP c q with | some t => isW t | none => false
/-- Lives behind a place. -/
def rlF (c : Co) (last : Int) : List (Int × Int) → Bool
  | [] => true
  | x :: r => (!decide (x.1 ≤ last) && !decide (x.1 ≥ szC c) && opAt c x.1 && numP x.2) && rlF c x.1 r
def rlP (c : Co) (l : List (Int × Int)) : Bool := rlF c (-1) l
theorem idxLv (b o n cap k : Nat) (h : k < n) (w : World) : (Instr.indexAt 32 (.slice (some ⟨b, o, none⟩) n cap) (.int .i64 k)).run Tryz.prog w = .ok (.pointer (some ⟨b, o + k * 2, none⟩)) w := by go_simp
end Go.Proofs.YtekgfdbeinacjaaGreatDoor
namespace Go.Proofs.YtekgfdbeinacjaaGreatDoor
open Go Go.RowKit

/-- Go on from a world that is known, with other known blocks. -/
theorem Goes.rebase {P : Program} {F : Exit → Act → World → Prop} {Inv : World → Prop} {s : St} (h : ∀ w1, Holds s.mem w1 → s.mem.ids.Nodup → Stay s.mem.ids w1 Inv → ∃ Inv' m', Holds m' w1 ∧ m'.ids.Nodup ∧ Stay m'.ids w1 Inv' ∧ Goes P F Inv' ⟨s.todo, s.tmps, m'⟩) : Goes P F Inv s := fun w hm hn hI => by
  obtain ⟨Inv', m', h1, h2, h3, h4⟩ := h w hm hn hI
  exact h4 w h1 h2 h3
/-- What Step answers. -/
noncomputable def steR (fs : Fs) (day : Int) (lab : List UInt8) (which : Int) (c : Co) (l : List (Int × Int)) : R2 × Int := bif (chkP c == 0 && (dayP day && rfP fs) && rcP lab which) && rlP c l then (stepP fs day lab which c l, 0) else (r0, 150)
theorem rl_facts {c : Co} : ∀ {l : List (Int × Int)} {last : Int}, -1 ≤ last → rlF c last l = true → ((l.length : Int) ≤ max 0 (szC c - 1 - last)) ∧ ∀ x ∈ l, 0 ≤ x.1 ∧ ∃ t, termP c x.1 = some t ∧ isW t = true
  | [], last, _, _ => ⟨by simp; omega, by simp⟩
  | x :: r, last, h0, h => by
    rw [rlF] at h
    simp only [Bool.and_eq_true, Bool.not_eq_true', decide_eq_false_iff_not] at h
    obtain ⟨⟨⟨⟨h1, h2⟩, h3⟩, -⟩, h4⟩ := h
    obtain ⟨g1, g2⟩ := rl_facts (by omega) h4
    refine ⟨by rw [List.length_cons]; omega, fun y hy => ?_⟩
    rcases List.mem_cons.1 hy with rfl | hy
    · refine ⟨by omega, ?_⟩
      unfold opAt at h3
      cases ht : termP c y.1 with
      | none => rw [ht] at h3; cases h3
      | some t => rw [ht] at h3; exact ⟨t, rfl, h3⟩
    · exact g2 y hy
/-- A term of a right contract where something may wait is a contract. -/
theorem typ_term (c : Co) : ∀ {d : Int} {q : Int} {t : Co}, (typF d c).2 = true → termP c q = some t → ∃ d', (typF d' t).2 = true := by
  induction c using Co.ind with
  | h op k s kids ih =>
    intro d q t h ht
    rw [termP] at ht
    cases hq : (q == 0) with
    | true => rw [hq, cond_true] at ht; cases ht; exact ⟨d, h⟩
    | false =>
      rw [hq, cond_false] at ht
      obtain ⟨u, hu, e, he⟩ := termL_mem ht
      exact ih u hu ((typ_kids h).2.2 u hu) he
theorem w_con {d : Int} {t : Co} (h : (typF d t).2 = true) (hw : isW t = true) : typF d t = (4, true) := by
  cases t with
  | mk op k s kids =>
  have hz : typF d (.mk op k s kids) = ((typF d (.mk op k s kids)).1, true) := by rw [← h]
  obtain ⟨-, -, -, l, hl, he⟩ := typ_parts.1 hz
  unfold isW at hw
  simp only [Bool.or_eq_true, beq_iff_eq] at hw
  rcases end_shape he with ⟨rfl, -, -⟩ | hr
  · omega
  · by_cases h4 : (typF d (.mk op k s kids)).1 = 4
    · rw [hz, h4]
    · rcases rk_cases hr h4 with ⟨h, -⟩ | ⟨h, -⟩ | ⟨h, -⟩ | ⟨h, -⟩ | ⟨h7, -⟩
      · omega
      · omega
      · omega
      · omega
      · exfalso
        obtain ⟨o0, o1⟩ := op_small hr
        have key : ∀ n : Fin 32, (match rkP ((n : Nat) : Int) with | some (_, z) => z == 4 || !((n : Nat) == 26 || (n : Nat) == 28 || (n : Nat) == 29 || (n : Nat) == 30 || (n : Nat) == 31) | none => true) = true := by decide
        have hn : ((op.toNat : Nat) : Int) = op := by omega
        have hs := key ⟨op.toNat, by omega⟩
        simp only [hn, hr, Bool.or_eq_true, beq_iff_eq, Bool.not_eq_true', Bool.or_eq_false_iff, beq_eq_false_iff_ne] at hs
        rcases hs with hs | hs
        · exact h4 hs
        · omega
/-- A step of one that waits. -/
noncomputable def stx (fs : Fs) (day : Int) (lab : List UInt8) (which : Int) (c : Co) (x : Int × Int) : R2 := match termP c x.1 with | some t => stepX fs day lab which t x.1 x.2 | none => r0
theorem step_cons {fs : Fs} {day : Int} {lab : List UInt8} {which : Int} {c : Co} (x : Int × Int) (r : List (Int × Int)) : stepP fs day lab which c (x :: r) = R2.cat (stx fs day lab which c x) (stepP fs day lab which c r) := rfl
theorem step_len {fs : Fs} {day : Int} {lab : List UInt8} {which : Int} {c : Co} : ∀ l : List (Int × Int), (((stepP fs day lab which c l).1.length + (stepP fs day lab which c l).2.length : Nat) : Int) ≤ szC c * l.length
  | [] => by simp [stepP, r0]
  | x :: r => by
    have ih := step_len (fs := fs) (day := day) (lab := lab) (which := which) (c := c) r
    have hp := szC_pos c
    have key : (((stx fs day lab which c x).1.length + (stx fs day lab which c x).2.length : Nat) : Int) ≤ szC c := by
      unfold stx
      cases ht : termP c x.1 with
      | none => simp [r0]; omega
      | some t =>
        simp only
        have h1 := (term_in c x.1 t ht).2.1
        have h0 := (term_in c x.1 t ht).1
        cases t with
        | mk op k s kids =>
        rw [stepX]
        cases hb : ((op == 31 && decide (lab ≠ []) && decide (s = lab)) && decide (day ≤ k)) with
        | true =>
          rw [cond_true]
          cases hc : kids[(which - 1).toNat]? with
          | none => rw [acq_none fs day (x.1 + 1) x.2 hc]; simp [r0]; omega
          | some u =>
            rw [acq_get fs day (x.1 + 1) x.2 hc]
            have := acq_len fs day u (x.1 + 1 + szL (kids.take (which - 1).toNat)) x.2
            have := szL_cut hc
            rw [szC] at h1
            omega
        | false =>
          rw [cond_false]
          have := acq_len fs day (.mk op k s kids) x.1 x.2
          omega
    have e : szC c * (((x :: r).length : Nat) : Int) = szC c * (r.length : Int) + szC c := by rw [List.length_cons, Int.natCast_add, Int.mul_add]; simp
    rw [e, step_cons]
    have e1 : (R2.cat (stx fs day lab which c x) (stepP fs day lab which c r)).1.length = (stx fs day lab which c x).1.length + (stepP fs day lab which c r).1.length := by simp [R2.cat]
    have e2 : (R2.cat (stx fs day lab which c x) (stepP fs day lab which c r)).2.length = (stx fs day lab which c x).2.length + (stepP fs day lab which c r).2.length := by simp [R2.cat]
    rw [e1, e2]
    omega
theorem cat_nil (a : R2) : R2.cat a r0 = a := by simp [R2.cat, r0]
theorem nil_cat (a : R2) : R2.cat r0 a = a := by simp [R2.cat, r0]
theorem cat_assoc (a b d : R2) : R2.cat (R2.cat a b) d = R2.cat a (R2.cat b d) := by simp [R2.cat]
theorem step_snoc {fs : Fs} {day : Int} {lab : List UInt8} {which : Int} {c : Co} (x : Int × Int) : ∀ l : List (Int × Int), stepP fs day lab which c (l ++ [x]) = R2.cat (stepP fs day lab which c l) (stx fs day lab which c x)
  | [] => by
    show stepP fs day lab which c [x] = _
    rw [step_cons, show stepP fs day lab which c [] = r0 from rfl, cat_nil, nil_cat]
  | y :: r => by
    show stepP fs day lab which c (y :: (r ++ [x])) = _
    rw [step_cons, step_cons, step_snoc x r, cat_assoc]
theorem holds_of {m m1 : Mem} {w : World} (e : m1 = m) (h : Holds m w) : Holds m1 w := e ▸ h
theorem Sts.at' {w w' : World} {v : Value} {l : List (Int × Int)} (h : Sts w.heap.size w v l) (hB : Below w.heap.size w w') : Sts w'.heap.size w' v l := (h.later hB).more hB.size
end Go.Proofs.YtekgfdbeinacjaaGreatDoor
namespace Go.Proofs.YtekgfdbeinacjaaGreatDoor
open Go Go.RowKit

theorem own_more {w : World} {b b1 e1 s1 n1 : Nat} {v1 : Value} {x1 : List Value} (h : w.ownsRow b1 e1 s1 v1 n1 x1) (hb : b ≤ b1) : w.ownsRow b e1 s1 v1 n1 x1 := by
  refine ⟨h.1, ?_⟩
  rcases h.2 with hn | ⟨g, cap, cur, e, h0, rest⟩
  · exact .inl hn
  · exact .inr ⟨g, cap, cur, e, by omega, rest⟩
theorem lvC_at : ∀ {l : List (Int × Int)} {i : Nat} {q : Int × Int}, l[i]? = some q → (lvC l)[i * 2]? = some (.int .i64 q.1) ∧ (lvC l)[i * 2 + 1]? = some (.int .i64 q.2)
  | [], i, q, h => by simp at h
  | x :: r, 0, q, h => by simp at h; subst h; exact ⟨rfl, rfl⟩
  | x :: r, i + 1, q, h => by
    obtain ⟨h1, h2⟩ := lvC_at (l := r) (i := i) (q := q) (by simpa using h)
    have e : lvC (x :: r) = [.int .i64 x.1, .int .i64 x.2] ++ lvC r := by unfold lvC; simp
    rw [e]
    constructor
    · rw [List.getElem?_append_right (by simp; omega)]; simpa [show (i + 1) * 2 - 2 = i * 2 by omega] using h1
    · rw [List.getElem?_append_right (by simp; omega)]; simpa [show (i + 1) * 2 + 1 - 2 = i * 2 + 1 by omega] using h2
theorem trC_at {day : Int} : ∀ {l : List (List UInt8 × Int)} {i : Nat} {q : List UInt8 × Int}, l[i]? = some q → ∀ j u, [Value.int .i64 day, strV q.1, .int .i64 q.2][j]? = some u → (trC day l)[i * 3 + j]? = some u
  | [], i, q, h => by simp at h
  | x :: r, 0, q, h => by
    simp at h; subst h
    intro j u hu
    have e : trC day (x :: r) = [.int .i64 day, strV x.1, .int .i64 x.2] ++ trC day r := by unfold trC; simp
    rw [e, Nat.zero_mul, Nat.zero_add, List.getElem?_append_left (by have := (List.getElem?_eq_some_iff.1 hu).1; simpa using this)]
    exact hu
  | x :: r, i + 1, q, h => by
    intro j u hu
    have h1 := trC_at (day := day) (l := r) (i := i) (q := q) (by simpa using h) j u hu
    have e : trC day (x :: r) = [.int .i64 day, strV x.1, .int .i64 x.2] ++ trC day r := by unfold trC; simp
    rw [e, List.getElem?_append_right (by simp; omega)]
    simpa [show (i + 1) * 3 + j - 3 = i * 3 + j by omega] using h1
/-- A row, opened. -/
theorem own_open {w : World} {b1 e1 s1 n1 : Nat} {v1 : Value} {x1 : List Value} (h : w.ownsRow b1 e1 s1 v1 n1 x1) (h0 : n1 ≠ 0) : ∃ g cap cur, v1 = .slice (some ⟨g, 0, none⟩) n1 cap ∧ w.heap[g]? = some (.cells cur e1 (0, 0)) ∧ n1 ≤ cap ∧ cap ≤ maxLen ∧ ∀ (i : Nat) (u : Value), x1[i]? = some u → cur[i]? = some u := by
  rcases h.2 with ⟨-, hn⟩ | ⟨g, cap, cur, e, -, hg, h1, h2, -, ht⟩
  · exact absurd hn h0
  · refine ⟨g, cap, cur, e, hg, h1, h2, fun i u hu => ?_⟩
    rw [← ht, List.getElem?_take] at hu
    split at hu
    · simpa using hu
    · cases hu
theorem Lvs.sts {base : Nat} {w : World} {v : Value} {l : List (Int × Int)} (h : Lvs base w v l) : Sts w.heap.size w v l := by
  by_cases h0 : l.length = 0
  · obtain ⟨a, cap, e⟩ := own_form h
    have hl := List.eq_nil_of_length_eq_zero h0
    subst hl
    rcases h.2 with ⟨e2, -⟩ | ⟨g, cap', cur, e2, -, -, h1, h2, -⟩
    · exact ⟨none, 0, e2, ⟨by simp, by omega⟩, fun i q hq => by simp at hq⟩
    · exact ⟨_, cap', e2, ⟨h1, by unfold maxLen at h2; omega⟩, fun i q hq => by simp at hq⟩
  · obtain ⟨g, cap, cur, e, hg, h1, h2, hc⟩ := own_open h h0
    refine ⟨some ⟨g, 0, none⟩, cap, e, ⟨h1, by unfold maxLen at h2; omega⟩, fun i q hq => ⟨g, 0, rfl, lt_of_get hg, ?_, ?_⟩⟩
    · rw [Nat.zero_add]; exact cell_obj hg (hc _ _ (lvC_at hq).1)
    · rw [Nat.zero_add]; exact cell_obj hg (hc _ _ (lvC_at hq).2)
section
variable {P : Program} {F : Exit → Act → World → Prop} {Inv : World → Prop} {s : St}
/-- Begin or Step is called. -/
theorem Goes.callLT (f : FuncId) (args : Array Value) (day : Int) (r : R2 × Int) (n0 : Nat) (hr : ∀ w1, Holds s.mem w1 → Stay s.mem.ids w1 Inv → Calls P f args w1 (LTQ day w1 r)) (hsz : ∀ w', Inv w' → n0 ≤ w'.heap.size)
    (h : ∀ aL cL aT cT, Goes P F (fun w' => Inv w' ∧ (Lvs n0 w' (.slice aL r.1.1.length cL) r.1.1 ∧ Trs n0 day w' (.slice aT r.1.2.length cT) r.1.2)) (put0 s (.tuple #[.slice aL r.1.1.length cL, .slice aT r.1.2.length cT, .int .i64 r.2])))
    (ha : ask s = some (f, args) := by kernel_rfl) (hw : wants s = true := by kernel_rfl) (hf : okf P f = true := by kernel_rfl) : Goes P F Inv s :=
  Goes.call f args (fun w1 hm hn hI => (hr w1 hm hI).mono fun e w2 ⟨lv, tv, he, hl, ht, hB⟩ => by
    obtain ⟨aL, cL, rfl⟩ := own_form hl
    obtain ⟨aT, cT, rfl⟩ := own_form ht
    have hn1 := hsz w1 hI.now
    have key : ∀ {b1 e1 s1 n1 : Nat} {v1 : Value} {x1 : List Value}, w2.ownsRow w1.heap.size e1 s1 v1 n1 x1 → ∀ b, v1.ownBlock = some b → b ∉ s.mem.ids := fun hr b hb hmem => by
      have h1 := (hr.lt b hb).1
      obtain ⟨q, hq, rfl⟩ := List.mem_map.1 hmem
      have := lt_of_get (in_holds hm q hq)
      omega
    exact ⟨_, _, s.mem, he, hm.bel hB, hn, fun w3 hc => ⟨hI.bel hB w3 hc, own_more (own_ch hl hc (key (b1 := 0) hl)) hn1, own_more (own_ch ht hc (key (b1 := 0) ht)) hn1⟩, h aL cL aT cT⟩) ha hw hf
end
theorem idxTr (b n cap k : Nat) (h : k < n) (w : World) : (Instr.indexAt 33 (.slice (some ⟨b, 0, none⟩) n cap) (.int .i64 k)).run Tryz.prog w = .ok (.pointer (some ⟨b, k * 3, none⟩)) w := by go_simp
theorem idxLv0 (b n cap k : Nat) (h : k < n) (w : World) : (Instr.indexAt 32 (.slice (some ⟨b, 0, none⟩) n cap) (.int .i64 k)).run Tryz.prog w = .ok (.pointer (some ⟨b, k * 2, none⟩)) w := by go_simp
theorem sizeTr : (Tryz.prog.info? 58).map (·.size) = some 3 := by kernel_rfl
theorem loadTr {w : World} {g : Nat} {cur : Array Value} {day : Int} {ts : List (List UInt8 × Int)} {i : Nat} {q : List UInt8 × Int} (hg : w.heap[g]? = some (.cells cur 58 (0, 0))) (hc : ∀ (i : Nat) (u : Value), (trC day ts)[i]? = some u → cur[i]? = some u) (hq : ts[i]? = some q) : (Instr.loadAt 58 (.pointer (some ⟨g, i * 3, none⟩))).run Tryz.prog w = .ok (.agg #[.int .i64 day, strV q.1, .int .i64 q.2]) w :=
  loadAgg Tryz.isAgg58 sizeTr [.int .i64 day, strV q.1, .int .i64 q.2] rfl fun j u hu => cell_obj hg (hc _ _ (trC_at hq j u hu))
theorem hex2 {w w' : World} {b b' : Nat} {ob ob' : Obj} (hb : w.heap[b]? = some ob) (hb' : w.heap[b']? = some ob') (h : Ch (Mem.ids []) w w') : Holds [(b, ob), (b', ob')] w' := holds_in (by simp only [List.forall_mem_cons, List.not_mem_nil, false_implies, implies_true, and_true]; exact ⟨(h.block b (lt_of_get hb) (by simp [Mem.ids])).trans hb, (h.block b' (lt_of_get hb') (by simp [Mem.ids])).trans hb'⟩)
set_option maxRecDepth 100000 in
seal rn rnN rnS Goes ans atEnd put0 put putM opened openedY putA0 putA oneSt st0 keep mkSt newSt in
theorem sametrans_any {base base' : Nat} {l : List (List UInt8 × Int)} {v v' : Value} {w : World} {day : Int} (h : Trs base day w v l) (h' : Trs base' day w v' l) (hl : l.length ≤ 1000000000) : Calls Tryz.prog 11 #[v, v'] w fun e w' => e = .returned (.bool true) ∧ Below w.heap.size w w' := by
  obtain ⟨a, c, rfl⟩ := own_form h
  obtain ⟨a', c', rfl⟩ := own_form h'
  obtain ⟨N, hN⟩ : ∃ N, l.length = N := ⟨_, rfl⟩
  rw [hN] at hl h h' ⊢
  refine Goes.begin Tryz.func11 [] (fun _ => True) Holds.nil (by simp [Mem.ids]) (fun _ _ => trivial) ?_
  refine Goes.run [0] [((N : Int) != (N : Int), false)] ⟨by simp, trivial⟩ ?_
  refine Goes.loop0 (α := Nat) 26 (fun i => [(0, .slice a N c), (1, .slice a' N c'), (5, .int .i64 i)]) [] (fun i => i ≤ N) (fun i => N - i) 0 (Nat.zero_le _) ?_
  rintro i J hi back
  cases hlt : decide ((i : Int) < (N : Int)) with
  | false =>
    refine Goes.run [0, 0] [(decide ((i : Int) < (N : Int)), false)] ⟨hlt, trivial⟩ ?_
    exact Goes.ret [] (.bool true) fun w' hm hI => ⟨rfl, bel0 hI⟩
  | true =>
    have hil : i < N := by have := of_decide_eq_true hlt; omega
    obtain ⟨q, hq⟩ : ∃ q, l[i]? = some q := ⟨l[i]'(by omega), by simp⟩
    obtain ⟨g, cap, cur, he, hg, -, -, hc⟩ := own_open h (by omega)
    obtain ⟨g', cap', cur', he', hg', -, -, hc'⟩ := own_open h' (by omega)
    rw [hN] at he he'
    cases he
    cases he'
    refine Goes.run [0, 1] [(decide ((i : Int) < (N : Int)), true)] ⟨hlt, trivial⟩ ?_
    refine Goes.openY [] [(g, .cells cur 58 (0, 0)), (g', .cells cur' 58 (0, 0))] (fun w' hI => hex2 hg hg' hI.1) ?_
    refine Goes.run [0, 1] [] trivial ?_
    refine Goes.valA 2 (Instr.indexAt 33 (.slice (some ⟨g, 0, none⟩) N c) (.int .i64 i)) (.pointer (some ⟨g, i * 3, none⟩)) (fun w' _ => idxTr g N c i hil w') ?_
    refine Goes.valA 3 (Instr.loadAt 58 (.pointer (some ⟨g, i * 3, none⟩))) (.agg #[.int .i64 day, strV q.1, .int .i64 q.2]) (fun w' hm => loadTr (cur := cur) (hm.get 0) hc hq) ?_
    refine Goes.run [4, 5] [] trivial ?_
    refine Goes.valA 6 (Instr.indexAt 33 (.slice (some ⟨g', 0, none⟩) N c') (.int .i64 i)) (.pointer (some ⟨g', i * 3, none⟩)) (fun w' _ => idxTr g' N c' i hil w') ?_
    refine Goes.valA 7 (Instr.loadAt 58 (.pointer (some ⟨g', i * 3, none⟩))) (.agg #[.int .i64 day, strV q.1, .int .i64 q.2]) (fun w' hm => loadTr (cur := cur') (hm.get 1) hc' hq) ?_
    refine Goes.valA 8 (do eqGuard .neq 58 (.tmp 20) (.tmp 24) (.agg #[.int .i64 day, strV q.1, .int .i64 q.2]) (.agg #[.int .i64 day, strV q.1, .int .i64 q.2]); binOp .neq 58 (.agg #[.int .i64 day, strV q.1, .int .i64 q.2]) (.agg #[.int .i64 day, strV q.1, .int .i64 q.2])) (.bool false) (fun w' _ => by have := neq_agg (t := 58) (.tmp 20) (.tmp 24) (by kernel_rfl) (eqTr day q.1 q.2 day q.1 q.2 w'); simpa using this) ?_
    refine Goes.run [0] [(false, false)] ⟨rfl, trivial⟩ ?_
    refine Goes.slot 5 (.int .i64 (i + 1 : Nat)) (u := .int .i64 (IntKind.i64.wrap ((i : Int) + 1))) (congrArg _ (wrap_nat (by omega))) ?_
    exact back (i + 1) _ hil (by omega) (by kernel_rfl) (by kernel_rfl) (by kernel_rfl)
theorem Fds.nil0 {n : Nat} {w : World} : Fds n w (.slice none 0 0) [] := ⟨none, 0, rfl, ⟨by simp, by omega⟩, fun i f h => by simp at h⟩
end Go.Proofs.YtekgfdbeinacjaaGreatDoor
namespace Go.Proofs.YtekgfdbeinacjaaGreatDoor
open Go Go.RowKit

theorem num_in {n : Int} : numP n = true ↔ inM n := by unfold numP inM; simp
theorem rl_good {c : Co} : ∀ {l : List (Int × Int)} {last : Int}, l.Pairwise (fun x y => x.1 < y.1) → (∀ x ∈ l, last < x.1 ∧ x.1 < szC c ∧ opAt c x.1 = true ∧ inM x.2) → rlF c last l = true
  | [], _, _, _ => rfl
  | x :: r, last, hp, h => by
    rw [List.pairwise_cons] at hp
    obtain ⟨h1, h2, h3, h4⟩ := h x (by simp)
    rw [rlF, decide_eq_false (by omega), decide_eq_false (by omega), h3, num_in.2 h4, rl_good hp.2 fun y hy => ⟨hp.1 y hy, (h y (by simp [hy])).2⟩]
    rfl
theorem gd_rl {c : Co} {l : List (Int × Int)} (h : Gd c l) (hf : ∀ x ∈ l, inM x.2) : rlP c l = true := by
  obtain ⟨h1, h2⟩ := h.rise
  refine rl_good h1 fun x hx => ?_
  obtain ⟨t, ht, hw⟩ := h.each x hx
  have h3 := (term_in c _ t ht).2.1
  have h4 := szC_pos t
  refine ⟨by have := h2 x hx; omega, by omega, ?_, hf x hx⟩
  unfold opAt
  rw [ht]
  exact hw
theorem inM_one : inM 1000000 := by unfold inM; omega
theorem beg_cases (fs : Fs) (day : Int) (c : Co) : (begR fs day c = (acq fs day c 0 1000000, 0) ∧ (chkP c == 0 && (dayP day && rfP fs)) = true) ∨ (begR fs day c = (r0, 150) ∧ (chkP c == 0 && (dayP day && rfP fs)) = false) := by
  unfold begR
  cases (chkP c == 0 && (dayP day && rfP fs)) with
  | true => exact .inl ⟨rfl, rfl⟩
  | false => exact .inr ⟨rfl, rfl⟩
theorem ste_cases (fs : Fs) (day : Int) (lab : List UInt8) (which : Int) (c : Co) (l : List (Int × Int)) : (steR fs day lab which c l = (stepP fs day lab which c l, 0) ∧ (chkP c == 0 && (dayP day && rfP fs)) = true ∧ rlP c l = true) ∨ (steR fs day lab which c l = (r0, 150) ∧ ((chkP c == 0 && (dayP day && rfP fs) && rcP lab which) && rlP c l) = false) := by
  unfold steR
  cases h : ((chkP c == 0 && (dayP day && rfP fs) && rcP lab which) && rlP c l) with
  | true =>
    simp only [Bool.and_eq_true] at h
    exact .inl ⟨rfl, by simp only [Bool.and_eq_true]; exact h.1.1, h.2⟩
  | false => exact .inr ⟨rfl, rfl⟩
end Go.Proofs.YtekgfdbeinacjaaGreatDoor
namespace Go.Proofs.YtekgfdbeinacjaaGreatDoor
open Go Go.RowKit

def rO (day : Int) (fv lv tv : Value) : Obj := .cells #[.int .i64 day, fv, lv, tv] 55 (0, 0)
theorem rO_ty {w : World} {g : Nat} {day : Int} {fv lv tv : Value} (h : w.heap[g]? = some (rO day fv lv tv)) : Ty4 w g := ⟨_, _, _, h, by decide⟩
def RQ (n0 g : Nat) (day : Int) (fv : Value) (w : World) (lv tv : Value) (u : Value) (ls' : List (Int × Int)) (ts' : List (List UInt8 × Int)) (e : Ending) (w' : World) : Prop := ∃ lv' tv', e = .returned u ∧ w'.heap[g]? = some (rO day fv lv' tv') ∧ AcI n0 g day w lv tv lv' tv' ls' ts' w'
section
variable {P : Program} {F : Exit → Act → World → Prop} {s : St} {n0 g : Nat} {day : Int} {fv lv tv lv1 tv1 : Value} {ls1 : List (Int × Int)} {ts1 : List (List UInt8 × Int)} {w : World}
theorem rq_next {loc : Mem} (hloc : Loc w loc) {m : Mem} (hmem : m = (g, rO day fv lv1 tv1) :: loc) {w1 w2 : World} (hm : Holds m w1) (hI : AcI n0 g day w lv tv lv1 tv1 ls1 ts1 w1) {lv2 tv2 : Value} {ls2 : List (Int × Int)} {ts2 : List (List UInt8 × Int)} (hg2 : w2.heap[g]? = some (rO day fv lv2 tv2)) (hA : AcI n0 g day w1 lv1 tv1 lv2 tv2 ls2 ts2 w2) :
    Holds ((g, rO day fv lv2 tv2) :: loc) w2 ∧ Stay (Mem.ids ((g, rO day fv lv2 tv2) :: loc)) w2 (AcI n0 g day w lv tv lv2 tv2 ls2 ts2) ∧ ∀ (i : Nat) (c : Array Value) (e : TypeId) (z : Nat × Nat), w1.heap[i]? = some (.cells c e z) → ty4 e = false → w2.heap[i]? = some (.cells c e z) := by
  subst hmem
  have hall := in_holds hm
  have hT := oo_ty hI.2.1 hI.2.2.1 (rO_ty (hall _ List.mem_cons_self))
  have hoth : ∀ (i : Nat) (c : Array Value) (e : TypeId) (z : Nat × Nat), w1.heap[i]? = some (.cells c e z) → ty4 e = false → w2.heap[i]? = some (.cells c e z) := fun i c e z hi he => ch_other hA.1 hT hi he
  have hl : ∀ q ∈ loc, w2.heap[q.1]? = some q.2 := fun q hq => by
    obtain ⟨-, c, e, z, h1, h2⟩ := hloc q hq
    have := hall q (List.mem_cons_of_mem _ hq)
    rw [h1] at this ⊢
    exact hoth _ _ _ _ this h2
  refine ⟨holds_in fun q hq => ?_, (hI.trans hA).stay ⟨_, _, _, hg2, by decide, by decide⟩ fun x hx => ?_, hoth⟩
  · rcases List.mem_cons.1 hq with rfl | hq
    · exact hg2
    · exact hl q hq
  · unfold Mem.ids at hx
    rw [List.map_cons] at hx
    rcases List.mem_cons.1 hx with rfl | hx
    · exact .inl rfl
    · obtain ⟨q, hq, rfl⟩ := List.mem_map.1 hx
      obtain ⟨h0, c, e, z, h1, h2⟩ := hloc q hq
      exact .inr ⟨h0, c, e, z, by rw [hl q hq, h1], h2⟩
/-- A part of acquiring is called. -/
theorem Goes.callRQ (f : FuncId) (args : Array Value) (u : Value) (ls2 : List (Int × Int)) (ts2 : List (List UInt8 × Int)) (loc : Mem) (hloc : Loc w loc)
    (hr : ∀ w1, Holds s.mem w1 → AcI n0 g day w lv tv lv1 tv1 ls1 ts1 w1 → Calls P f args w1 (RQ n0 g day fv w1 lv1 tv1 u ls2 ts2))
    (h : ∀ lv2 tv2, Goes P F (AcI n0 g day w lv tv lv2 tv2 ls2 ts2) (put s u ((g, rO day fv lv2 tv2) :: loc)))
    (hmem : s.mem = (g, rO day fv lv1 tv1) :: loc := by kernel_rfl) (ha : ask s = some (f, args) := by kernel_rfl) (hw : wants s = true := by kernel_rfl) (hf : okf P f = true := by kernel_rfl) : Goes P F (AcI n0 g day w lv tv lv1 tv1 ls1 ts1) s :=
  Goes.call f args (fun w1 hm hn hI => (hr w1 hm hI.now).mono fun e w2 ⟨lv2, tv2, he, hg2, hA⟩ => by
    obtain ⟨h1, h2, -⟩ := rq_next hloc hmem hm hI.now hg2 hA
    exact ⟨u, _, _, he, h1, by rw [hmem] at hn; exact hn, h2, h lv2 tv2⟩) ha hw hf
/-- The same, in a drawn region that reads other blocks besides. -/
theorem Goes.callRQA (i : Nat) (f : FuncId) (args : Array Value) (u : Value) (ls2 : List (Int × Int)) (ts2 : List (List UInt8 × Int)) (loc : Mem) (hloc : Loc w loc) (m0 : Mem) (hm0 : ∀ q ∈ m0, ∃ c e z, q.2 = .cells c e z ∧ ty4 e = false)
    (hr : ∀ w1, Holds s.mem w1 → AcI n0 g day w lv tv lv1 tv1 ls1 ts1 w1 → Calls P f args w1 (RQ n0 g day fv w1 lv1 tv1 u ls2 ts2))
    (h : ∀ lv2 tv2, Goes P F (AcI n0 g day w lv tv lv2 tv2 ls2 ts2) (putA i s u ((g, rO day fv lv2 tv2) :: loc)))
    (hM : anyM s = m0 := by kernel_rfl) (hmem : s.mem = (g, rO day fv lv1 tv1) :: loc := by kernel_rfl) (ha : askA i s = some (f, args) := by kernel_rfl) (hw : anyLone i s = true := by kernel_rfl) (hf : okf P f = true := by kernel_rfl) : Goes P F (AcI n0 g day w lv tv lv1 tv1 ls1 ts1) s :=
  Goes.callA i f args (fun ops m1 n l k ht w1 hm hn hI h0 => (hr w1 hm hI.now).mono fun e w2 ⟨lv2, tv2, he, hg2, hA⟩ => by
    obtain ⟨h1, h2, h3⟩ := rq_next hloc hmem hm hI.now hg2 hA
    refine ⟨u, _, _, he, holds_in fun q hq => ?_, h1, by rw [hmem] at hn; exact hn, h2, h lv2 tv2⟩
    have hq' : q ∈ m0 := by rw [← hM]; unfold anyM; rw [ht]; exact hq
    obtain ⟨c, e, z, e1, e2⟩ := hm0 q hq'
    have := in_holds h0 q hq
    rw [e1] at this ⊢
    exact h3 _ _ _ _ this e2) ha hw hf
end
section
variable {P : Program} {F : Exit → Act → World → Prop} {Inv : World → Prop} {s : St}
end
set_option maxRecDepth 100000 in
seal rn rnN rnS Goes ans atEnd put0 put putM opened openedY putA0 putA oneSt st0 keep mkSt newSt in
theorem waits_any {n0 g : Nat} {day : Int} {fv lv tv : Value} {ls : List (Int × Int)} {ts : List (List UInt8 × Int)} {w : World} (hl : Lvs n0 w lv ls) (ht : Trs n0 day w tv ts) (hg : w.heap[g]? = some (rO day fv lv tv)) (hn : n0 ≤ w.heap.size) (p f : Int) (hlen : ls.length + 1 ≤ 100000000) : Calls Tryz.prog 45 #[.pointer (some ⟨g, 0, none⟩), .int .i64 p, .int .i64 f] w (RQ n0 g day fv w lv tv (.tuple #[]) (ls ++ [(p, f)]) ts) := by
  refine Goes.enter Tryz.func45 [(g, rO day fv lv tv)] (AcI n0 g day w lv tv lv tv ls ts) (holds1 hg) (by simp [Mem.ids]) ((AcI.refl hl ht).stay ⟨_, _, _, hg, by decide, by decide⟩ (fun x hx => .inl (by simpa [Mem.ids] using hx))) ?_
  refine Goes.run1 [0] [] trivial fun gb => ?_
  refine Goes.eff (Builtin.append_ #[32, 32] 32 #[lv, .slice (some ⟨gb, 0, none⟩) 1 1]) fun w1 hm1 hn1 hI1 => ?_
  have z1 : w1.heap[gb]? = some (.cells #[.int .i64 p, .int .i64 f] 60 (0, 0)) := hm1.get 1
  obtain ⟨b, c', w2, hr, hI2, hk2⟩ := hI1.now.live (Nat.le_trans hn hI1.now.1.size) (p, f) z1 hlen (ty := 32) (c := 1)
  have z2 : w2.heap[g]? = some (rO day fv lv tv) := hk2 g _ _ _ (hm1.get 0) (by decide)
  refine ⟨_, w2, _, [(g, rO day fv lv tv)], hr, holds1 z2, by simp [Mem.ids], hI2.stay ⟨_, _, _, z2, by decide, by decide⟩ (fun x hx => .inl (by simpa [Mem.ids] using hx)), ?_⟩
  refine Goes.run [0] [] trivial ?_
  exact Goes.ret [] (.tuple #[]) fun w' hm hI => ⟨_, tv, rfl, hm.get 0, hI.now⟩
/-- Acquiring a term, by the document. -/
def ROk (n0 g : Nat) (fs : Fs) (day : Int) (fv : Value) (t : Co) : Prop := ∀ (d p f : Int) (v lv tv : Value) (ls : List (Int × Int)) (ts : List (List UInt8 × Int)) (w : World), typF d t = (4, true) → 0 ≤ p → p + szC t ≤ 100000 → szC t ≤ 2000 → Nc n0 w v t → Fds n0 w fv fs → n0 ≤ w.heap.size → Lvs n0 w lv ls → Trs n0 day w tv ts → w.heap[g]? = some (rO day fv lv tv) → ((ls.length + ts.length : Nat) : Int) + szC t ≤ 10000000 → Calls Tryz.prog 23 #[.pointer (some ⟨g, 0, none⟩), v, .int .i64 p, .int .i64 f] w (RQ n0 g day fv w lv tv (.tuple #[]) (ls ++ (acq fs day t p f).1) (ts ++ (acq fs day t p f).2))
set_option maxRecDepth 100000 in
seal rn rnN rnS Goes ans atEnd put0 put putM opened openedY putA0 putA oneSt st0 keep mkSt newSt in
theorem rbranch_any {n0 g : Nat} {fs : Fs} {day : Int} {fv : Value} (hg0 : n0 ≤ g) {d op k : Int} {s : List UInt8} {kids : List Co} {i : Nat} {u : Co} (hu : kids[i]? = some u) (hty : typF d u = (4, true)) (ih : ROk n0 g fs day fv u) {v lv tv : Value} {ls : List (Int × Int)} {ts : List (List UInt8 × Int)} {w : World} (hN : Nc n0 w v (.mk op k s kids)) (hF : Fds n0 w fv fs) (hn : n0 ≤ w.heap.size) (hl : Lvs n0 w lv ls) (ht : Trs n0 day w tv ts) (hg : w.heap[g]? = some (rO day fv lv tv)) {p : Int} (hp0 : 0 ≤ p) (hp1 : p + szC (.mk op k s kids) ≤ 100000) (hsz : szC (.mk op k s kids) ≤ 2000) (f : Int) (hlen : ((ls.length + ts.length : Nat) : Int) + szC u ≤ 10000000) : Calls Tryz.prog 27 #[.pointer (some ⟨g, 0, none⟩), v, .int .i64 p, .int .i64 (i : Int), .int .i64 f] w (RQ n0 g day fv w lv tv (.tuple #[]) (ls ++ (brA (acqL fs day kids (p + 1)) i f).1) (ts ++ (brA (acqL fs day kids (p + 1)) i f).2)) := by
  rw [acq_get fs day (p + 1) f hu]
  obtain ⟨a, cc, rfl, hfit, hcap, hkids⟩ := hN.open
  obtain ⟨N, hL⟩ : ∃ N, kids.length = N := ⟨_, rfl⟩
  rw [hL] at hcap ⊢
  have hiN : i < N := by rw [← hL]; exact (List.getElem?_eq_some_iff.1 hu).1
  have hcut := szL_cut hu
  rw [szC] at hp1 hsz
  have hbel : ∀ {w' : World} {lv1 tv1 : Value} {ls1 : List (Int × Int)} {ts1 : List (List UInt8 × Int)}, AcI n0 g day w lv tv lv1 tv1 ls1 ts1 w' → Below n0 w w' := fun h => hexA hl ht hg0 hn h
  refine Goes.enter Tryz.func27 [(g, rO day fv lv tv)] (AcI n0 g day w lv tv lv tv ls ts) (holds1 hg) (by simp [Mem.ids]) ((AcI.refl hl ht).stay ⟨_, _, _, hg, by decide, by decide⟩ (fun x hx => .inl (by simpa [Mem.ids] using hx))) ?_
  refine Goes.run [] [] trivial ?_
  refine Goes.new1 w.heap.size (fun w' h => h.1.size) fun g6 hg6 => ?_
  have hloc : Loc w [(g6, cO op k s (.slice a N cc))] := fun q hq => by rw [List.mem_singleton] at hq; subst hq; exact ⟨hg6, _, _, _, rfl, by decide⟩
  refine Goes.upto 11 [] [] trivial ?_
  have hposK := szL_pos kids
  refine Goes.slot 10 (.int .i64 (p + 1)) (u := .int .i64 (IntKind.i64.wrap (p + 1))) (congrArg _ (IntWalk.i64_in _ ⟨by omega, by omega⟩)) ?_
  refine Goes.run [] [] trivial ?_
  refine Goes.loop0 (α := Nat) 36 (fun m => [(0, .pointer (some ⟨g, 0, none⟩)), (3, .int .i64 (i : Int)), (4, .int .i64 f), (6, .pointer (some ⟨g6, 0, none⟩)), (10, .int .i64 (p + 1 + szL (kids.take m))), (11, .int .i64 (m : Int))]) [(g, rO day fv lv tv), (g6, cO op k s (.slice a N cc))] (fun m => m ≤ i) (fun m => i - m) 0 (Nat.zero_le _) ?_ (by rw [List.take_zero, szL, Int.add_zero]; kernel_rfl)
  rintro m J hm back
  have kidOf : ∀ (m : Nat) (y : Co), kids[m]? = some y → ∃ b o z, a = some ⟨b, o, none⟩ ∧ b < n0 ∧ Cl4 w b (o + m * 4) z ∧ Nc n0 w z y := fun m y hy => hkids m y hy
  cases hlt : decide ((m : Int) < (i : Int)) with
  | false =>
    obtain rfl : m = i := by have := of_decide_eq_false hlt; omega
    obtain ⟨b, o, y, rfl, hb, hcl, hy⟩ := kidOf m u hu
    obtain ⟨op', k', t', a', N', c', rfl⟩ := hy.cells
    refine Goes.run [0, 0, 1] [(decide ((m : Int) < (m : Int)), false)] ⟨hlt, trivial⟩ ?_
    refine Goes.val (Instr.indexAt 22 (.slice (some ⟨b, o, none⟩) N cc) (.int .i64 m)) (.pointer (some ⟨b, o + m * 4, none⟩)) (fun w' _ _ => idxC b o N cc m hiN w') ?_
    refine Goes.val (Instr.loadAt 24 (.pointer (some ⟨b, o + m * 4, none⟩))) (cv op' k' t' (.slice a' N' c')) (fun w' _ hI => loadC (hcl.below hb (hbel hI.now))) ?_
    refine Goes.run [] [] trivial ?_
    refine Goes.callRQ 23 #[.pointer (some ⟨g, 0, none⟩), cv op' k' t' (.slice a' N' c'), .int .i64 (p + 1 + szL (kids.take m)), .int .i64 f] (.tuple #[]) _ _ [(g6, cO op k s (.slice (some ⟨b, o, none⟩) N cc))] hloc (fun w1 hm1 hI1 => ih d _ f _ lv tv ls ts w1 hty (by omega) (by omega) (by omega) (hy.later (hbel hI1)) (hF.later (hbel hI1)) (Nat.le_trans hn hI1.1.size) hI1.2.1 hI1.2.2.1 (hm1.get 0) hlen) fun lv2 tv2 => ?_
    refine Goes.run [] [] trivial ?_
    exact Goes.ret [] (.tuple #[]) fun w' hm hI => ⟨lv2, tv2, rfl, hm.get 0, hI.now⟩
  | true =>
    have hmi : m < i := by have := of_decide_eq_true hlt; omega
    obtain ⟨x, hx⟩ : ∃ x, kids[m]? = some x := ⟨kids[m]'(by omega), by simp⟩
    obtain ⟨b, o, y, rfl, hb, hcl, hy⟩ := kidOf m x hx
    obtain ⟨op', k', t', a', N', c', rfl⟩ := hy.cells
    have hcx := szL_cut hx
    have htk := take_more hx
    have hpx := szC_pos x
    refine Goes.run [0, 1, 1] [(decide ((m : Int) < (i : Int)), true)] ⟨hlt, trivial⟩ ?_
    refine Goes.val (Instr.indexAt 22 (.slice (some ⟨b, o, none⟩) N cc) (.int .i64 m)) (.pointer (some ⟨b, o + m * 4, none⟩)) (fun w' _ _ => idxC b o N cc m (by omega) w') ?_
    refine Goes.val (Instr.loadAt 24 (.pointer (some ⟨b, o + m * 4, none⟩))) (cv op' k' t' (.slice a' N' c')) (fun w' _ hI => loadC (hcl.below hb (hbel hI.now))) ?_
    refine Goes.call0 15 #[cv op' k' t' (.slice a' N' c')] (.int .i64 (szC x)) (fun w' _ hI => rsizeC_any x _ w' (by omega) ((hy.later (hbel hI.now)).more (Nat.le_trans hn hI.now.1.size))) ?_
    refine Goes.run [] [] trivial ?_
    refine Goes.slot 10 (.int .i64 (p + 1 + szL (kids.take (m + 1)))) (u := .int .i64 (IntKind.i64.wrap (p + 1 + szL (kids.take m) + szC x))) (congrArg _ (by rw [IntWalk.i64_in _ ⟨by omega, by omega⟩, htk, szL_snoc]; omega)) ?_
    refine Goes.slot 11 (.int .i64 (m + 1 : Nat)) (u := .int .i64 (IntKind.i64.wrap ((m : Int) + 1))) (congrArg _ (wrap_nat (by omega))) ?_
    exact back (m + 1) _ hmi (by omega) (by kernel_rfl) (by kernel_rfl) (by kernel_rfl)
end Go.Proofs.YtekgfdbeinacjaaGreatDoor
namespace Go.Proofs.YtekgfdbeinacjaaGreatDoor
open Go Go.RowKit

theorem nd_pre {m m' : Mem} {r : List Nat} (h : m.ids.Nodup) (e : m.ids = m'.ids ++ r) : m'.ids.Nodup := by rw [e] at h; exact (List.nodup_append.1 h).1
theorem st2 {w w' : World} {g g5 : Nat} {o o' : Obj} (h : w.heap.size ≤ g5) (h' : ∃ c e z, w'.heap[g5]? = some (.cells c e z) ∧ ty4 e = false) : ∀ x ∈ Mem.ids [(g, o), (g5, o')], x = g ∨ (w.heap.size ≤ x ∧ ∃ c e z, w'.heap[x]? = some (.cells c e z) ∧ ty4 e = false) := by
  intro x hx
  simp only [Mem.ids, List.map_cons, List.map_nil, List.mem_cons, List.not_mem_nil, or_false] at hx
  rcases hx with rfl | rfl
  · exact .inl rfl
  · exact .inr ⟨h, h'⟩
set_option maxRecDepth 100000 in
seal rn rnN rnS Goes ans atEnd put0 put putM opened openedY putA0 putA oneSt st0 keep mkSt newSt in
theorem racquire_any {n0 g : Nat} {fs : Fs} {day : Int} {fv : Value} (hR : RFd fs) (hg0 : n0 ≤ g) (t : Co) : ROk n0 g fs day fv t := by
  induction t using Co.ind with
  | h op k s kids ihs =>
    intro d p f v lv tv ls ts w htyp hp0 hp1 hsz hN hF hn hl ht hg hlen
    have hN0 := hN
    obtain ⟨a, cc, rfl, hfit, hcap, hkids⟩ := hN.open
    obtain ⟨N, hL⟩ : ∃ N, kids.length = N := ⟨_, rfl⟩
    rw [hL] at hN0 ⊢
    have hbel : ∀ {w' : World} {lv1 tv1 : Value} {ls1 : List (Int × Int)} {ts1 : List (List UInt8 × Int)}, AcI n0 g day w lv tv lv1 tv1 ls1 ts1 w' → Below n0 w w' := fun h => hexA hl ht hg0 hn h
    have hpos := szC_pos (.mk op k s kids)
    refine Goes.enter Tryz.func23 [(g, rO day fv lv tv)] (AcI n0 g day w lv tv lv tv ls ts) (holds1 hg) (by simp [Mem.ids]) ((AcI.refl hl ht).stay ⟨_, _, _, hg, by decide, by decide⟩ (fun x hx => .inl (by simpa [Mem.ids] using hx))) ?_
    refine Goes.run [] [] trivial ?_
    refine Goes.new1 w.heap.size (fun w' h => h.1.size) fun g5 hg5 => ?_
    have hloc : Loc w [(g5, cO op k s (.slice a N cc))] := fun q hq => by rw [List.mem_singleton] at hq; subst hq; exact ⟨hg5, _, _, _, rfl, by decide⟩
    rcases con_cases htyp with ⟨rfl, rfl⟩ | ⟨rfl, rfl⟩ | ⟨rfl, c0, rfl, ht0⟩ | ⟨rfl, c0, c1, rfl, ht0, ht1⟩ | ⟨rfl, c0, c1, rfl, ht0, ht1⟩ | ⟨rfl, c0, c1, c2, rfl, ht0, ht1, ht2⟩ | ⟨rfl, c0, rfl, ht0⟩ | ⟨rfl, c0, c1, rfl, ht0, ht1⟩ | ⟨rfl, c0, c1, rfl, ht0, ht1⟩
    · -- 23
      have hacq : acq fs day (.mk 23 k s []) p f = r0 := by rw [acq]; rfl
      refine Goes.run [1, 0, 0, 0, 0, 0, 0, 0, 0] [(false, false), (false, false), (false, false), (false, false), (false, false), (false, false), (false, false), (false, false)] ⟨rfl, rfl, rfl, rfl, rfl, rfl, rfl, rfl, trivial⟩ ?_
      exact Goes.ret [] (.tuple #[]) fun w' hm hI => ⟨lv, tv, rfl, hm.get 0, by rw [hacq]; simpa [r0] using hI.now⟩
    · -- 24
      obtain rfl : N = 0 := hL.symm
      have hacq : acq fs day (.mk 24 k s []) p f = bif f == 0 then r0 else ([], [(s, f)]) := by rw [acq]; rfl
      cases h0 : (f == 0) with
      | true =>
        rw [h0, cond_true] at hacq
        refine Goes.run [1, 1, 0] [(f != 0, false), (true, true)] ⟨by rw [bne, h0]; rfl, rfl, trivial⟩ ?_
        exact Goes.ret [] (.tuple #[]) fun w' hm hI => ⟨lv, tv, rfl, hm.get 0, by rw [hacq]; simpa [r0] using hI.now⟩
      | false =>
        rw [h0, cond_false] at hacq
        refine Goes.run [1, 1, 1] [(f != 0, true), (true, true)] ⟨by rw [bne, h0]; rfl, rfl, trivial⟩ ?_
        refine Goes.open [1] ?_
        refine Goes.run [0, 1, 2, 3, 5, 6, 7, 9, 10, 0, 11] [] trivial ?_
        refine Goes.two 4 8 (TookS.runM 4 0 [1] ?_) (TookS.runM 8 0 [1] ?_)
        · refine Goes.lone1 8 (TookS.runM 8 0 [1] ?_)
          refine Goes.run [12] [] trivial ?_
          refine Goes.lone1 13 (TookS.new1 13 0 [1] (fun _ _ => Nat.zero_le _) fun gb _ => ?_)
          refine Goes.lone1 14 (TookS.effM 14 (Builtin.append_ #[33, 33] 33 #[tv, .slice (some ⟨gb, 0, none⟩) 1 1]) fun w1 hm1 hn1 hI1 h01 => ?_)
          have z1 : w1.heap[gb]? = some (.cells #[.int .i64 day, strV s, .int .i64 f] 58 (0, 0)) := hm1.get 2
          obtain ⟨b, c', w2, hr, hI2, hk⟩ := hI1.now.pay (Nat.le_trans hn hI1.now.1.size) (s, f) z1 (by omega) (ty := 33) (c := 1)
          have z2 : w2.heap[g]? = some (rO day fv lv tv) := hk g _ _ _ (hm1.get 0) (by decide)
          have z3 : w2.heap[g5]? = some (cO 24 k s (.slice a 0 cc)) := hk g5 _ _ _ (hm1.get 1) (by decide)
          refine ⟨_, w2, _, [(g, rO day fv lv tv), (g5, cO 24 k s (.slice a 0 cc))], hr, holds_of (by kernel_rfl) (holds1 z3), (fun j b o h => by match j, h with | 0, h => (cases h; exact z2) | 1, h => (cases h; exact z3)), nd_pre (r := [gb]) hn1 (by kernel_rfl), hI2.stay ⟨_, _, _, z2, by decide, by decide⟩ (st2 hg5 ⟨_, _, _, z3, by decide⟩), ?_⟩
          refine Goes.run [15, 16] [] trivial ?_
          refine Goes.lone1 17 (TookS.runM 17 0 [1] ?_)
          refine Goes.run [] [] trivial ?_
          exact Goes.ret [] (.tuple #[]) fun w' hm hI => ⟨lv, _, rfl, hm.get 0, by rw [hacq]; simpa using hI.now⟩
        · refine Goes.run [12] [] trivial ?_
          refine Goes.two 4 13 (TookS.runM 4 0 [1] ?_) (TookS.new1 13 0 [1] (fun _ _ => Nat.zero_le _) fun gb _ => ?_)
          · refine Goes.lone1 13 (TookS.new1 13 0 [1] (fun _ _ => Nat.zero_le _) fun gb _ => ?_)
            refine Goes.lone1 14 (TookS.effM 14 (Builtin.append_ #[33, 33] 33 #[tv, .slice (some ⟨gb, 0, none⟩) 1 1]) fun w1 hm1 hn1 hI1 h01 => ?_)
            have z1 : w1.heap[gb]? = some (.cells #[.int .i64 day, strV s, .int .i64 f] 58 (0, 0)) := hm1.get 2
            obtain ⟨b, c', w2, hr, hI2, hk⟩ := hI1.now.pay (Nat.le_trans hn hI1.now.1.size) (s, f) z1 (by omega) (ty := 33) (c := 1)
            have z2 : w2.heap[g]? = some (rO day fv lv tv) := hk g _ _ _ (hm1.get 0) (by decide)
            have z3 : w2.heap[g5]? = some (cO 24 k s (.slice a 0 cc)) := hk g5 _ _ _ (hm1.get 1) (by decide)
            refine ⟨_, w2, _, [(g, rO day fv lv tv), (g5, cO 24 k s (.slice a 0 cc))], hr, holds_of (by kernel_rfl) (holds1 z3), (fun j b o h => by match j, h with | 0, h => (cases h; exact z2) | 1, h => (cases h; exact z3)), nd_pre (r := [gb]) hn1 (by kernel_rfl), hI2.stay ⟨_, _, _, z2, by decide, by decide⟩ (st2 hg5 ⟨_, _, _, z3, by decide⟩), ?_⟩
            refine Goes.run [15, 16] [] trivial ?_
            refine Goes.lone1 17 (TookS.runM 17 0 [1] ?_)
            refine Goes.run [] [] trivial ?_
            exact Goes.ret [] (.tuple #[]) fun w' hm hI => ⟨lv, _, rfl, hm.get 0, by rw [hacq]; simpa using hI.now⟩
          · refine Goes.lone1 4 (TookS.runM 4 0 [1] ?_)
            refine Goes.lone1 14 (TookS.effM 14 (Builtin.append_ #[33, 33] 33 #[tv, .slice (some ⟨gb, 0, none⟩) 1 1]) fun w1 hm1 hn1 hI1 h01 => ?_)
            have z1 : w1.heap[gb]? = some (.cells #[.int .i64 day, strV s, .int .i64 f] 58 (0, 0)) := hm1.get 2
            obtain ⟨b, c', w2, hr, hI2, hk⟩ := hI1.now.pay (Nat.le_trans hn hI1.now.1.size) (s, f) z1 (by omega) (ty := 33) (c := 1)
            have z2 : w2.heap[g]? = some (rO day fv lv tv) := hk g _ _ _ (hm1.get 0) (by decide)
            have z3 : w2.heap[g5]? = some (cO 24 k s (.slice a 0 cc)) := hk g5 _ _ _ (hm1.get 1) (by decide)
            refine ⟨_, w2, _, [(g, rO day fv lv tv), (g5, cO 24 k s (.slice a 0 cc))], hr, holds_of (by kernel_rfl) (holds1 z3), (fun j b o h => by match j, h with | 0, h => (cases h; exact z2) | 1, h => (cases h; exact z3)), nd_pre (r := [gb]) hn1 (by kernel_rfl), hI2.stay ⟨_, _, _, z2, by decide, by decide⟩ (st2 hg5 ⟨_, _, _, z3, by decide⟩), ?_⟩
            refine Goes.run [15, 16] [] trivial ?_
            refine Goes.lone1 17 (TookS.runM 17 0 [1] ?_)
            refine Goes.run [] [] trivial ?_
            exact Goes.ret [] (.tuple #[]) fun w' hm hI => ⟨lv, _, rfl, hm.get 0, by rw [hacq]; simpa using hI.now⟩
    · -- 25
      obtain rfl : N = 1 := hL.symm
      have hacq : acq fs day (.mk 25 k s [c0]) p f = brA (acqL fs day [c0] (p + 1)) 0 (- clampI f) := by rw [acq]; rfl
      refine Goes.run [1, 0, 1] [(true, true), (false, false)] ⟨rfl, rfl, trivial⟩ ?_
      refine Goes.open [1] ?_
      refine Goes.run [0, 1, 0, 2, 3] [] trivial ?_
      refine Goes.callA0 4 42 #[.int .i64 f] (.int .i64 (- clampI f)) (fun w' _ _ => (rneg_any f w').mono fun _ _ h => ⟨h.1, by rw [h.2]; exact Below.refl _ _⟩) ?_
      refine Goes.callRQA 5 27 #[.pointer (some ⟨g, 0, none⟩), cv 25 k s (.slice a 1 cc), .int .i64 p, .int .i64 (0 : Nat), .int .i64 (- clampI f)] (.tuple #[]) (ls ++ (brA (acqL fs day [c0] (p + 1)) 0 (- clampI f)).1) (ts ++ (brA (acqL fs day [c0] (p + 1)) 0 (- clampI f)).2) [(g5, cO 25 k s (.slice a 1 cc))] hloc [(g5, cO 25 k s (.slice a 1 cc))] (fun q hq => by rw [List.mem_singleton] at hq; subst hq; exact ⟨_, _, _, rfl, by decide⟩) (fun w1 hm1 hI1 => rbranch_any hg0 (i := 0) (u := c0) rfl ht0 (ihs c0 (by simp)) (hN0.later (hbel hI1)) (hF.later (hbel hI1)) (Nat.le_trans hn hI1.1.size) hI1.2.1 hI1.2.2.1 (hm1.get 0) hp0 hp1 hsz (- clampI f) (by simp only [szC, szL] at hlen; have := szC_pos c0; omega)) fun lv2 tv2 => ?_
      refine Goes.run [] [] trivial ?_
      exact Goes.ret [] (.tuple #[]) fun w' hm hI => ⟨lv2, tv2, rfl, hm.get 0, by rw [hacq]; exact hI.now⟩
    · -- 26
      obtain rfl : N = 2 := hL.symm
      obtain ⟨bk, ok, y0, rfl, hbk, hcl0, hy0⟩ := hkids 0 c0 rfl
      obtain ⟨p0, k0, t0, a0, N0, c0', rfl⟩ := hy0.cells
      obtain ⟨ob, hob⟩ := blk_of (w := w) (b := bk) (Nat.lt_of_lt_of_le hbk hn)
      have hacq : acq fs day (.mk 26 k s [c0, c1]) p f = match valP fs day c0 with | some n => brA (acqL fs day [c0, c1] (p + 1)) 1 (mulI f n) | none => wt p f := by rw [acq, valL]; rfl
      refine Goes.run [1, 0, 0, 0, 1] [(true, true), (false, false), (false, false), (false, false)] ⟨rfl, rfl, rfl, rfl, trivial⟩ ?_
      refine Goes.openY [0, 1] [(bk, ob)] (fun w' hI => holds1 (((hbel hI).block bk hbk).trans hob)) ?_
      refine Goes.run [0, 1, 1, 2, 0, 4, 5, 6, 7, 0, 8, 9, 10, 11, 0] [] trivial ?_
      refine Goes.valA 3 (Instr.loadAt 24 (.pointer (some ⟨bk, ok + 0 * 4, none⟩))) (cv p0 k0 t0 (.slice a0 N0 c0')) (fun w' hm => loadC (hcl0.same ((hm.get 2).trans hob.symm))) ?_
      refine Goes.callA0 12 43 #[cv p0 k0 t0 (.slice a0 N0 c0'), .int .i64 day, fv] (oV (valP fs day c0)) (fun w' _ hI => val_any day c0 _ w' (ob_right c0 _ _ ht0 (by decide)) ((hy0.later (hbel hI.now)).more (Nat.le_trans hn hI.now.1.size)) ((hF.later (hbel hI.now)).more (Nat.le_trans hn hI.now.1.size))) ?_
      cases hv : valP fs day c0 with
      | none =>
        rw [hv] at hacq
        refine Goes.run [13, 14, 15, 16, 17, 0] [(false, false)] ⟨rfl, trivial⟩ ?_
        refine Goes.callRQ 45 #[.pointer (some ⟨g, 0, none⟩), .int .i64 p, .int .i64 f] (.tuple #[]) (ls ++ [(p, f)]) ts [(g5, cO 26 k s (.slice (some ⟨bk, ok, none⟩) 2 cc))] hloc (fun w1 hm1 hI1 => waits_any (fv := fv) hI1.2.1 hI1.2.2.1 (hm1.get 0) (Nat.le_trans hn hI1.1.size) p f (by omega)) fun lv2 tv2 => ?_
        refine Goes.run [] [] trivial ?_
        exact Goes.ret [] (.tuple #[]) fun w' hm hI => ⟨lv2, tv2, rfl, hm.get 0, by rw [hacq]; have := hI.now; simpa [wt] using this⟩
      | some n =>
        rw [hv] at hacq
        refine Goes.run [13, 14, 15, 16, 17, 1] [(true, true)] ⟨rfl, trivial⟩ ?_
        refine Goes.open [1] ?_
        refine Goes.run [0, 1, 0, 2, 3, 4] [] trivial ?_
        refine Goes.callA0 5 44 #[.int .i64 f, .int .i64 n] (.int .i64 (mulI f n)) (fun w' _ _ => (rmul_any f n w').mono fun _ _ h => ⟨h.1, by rw [h.2]; exact Below.refl _ _⟩) ?_
        refine Goes.callRQA 6 27 #[.pointer (some ⟨g, 0, none⟩), cv 26 k s (.slice (some ⟨bk, ok, none⟩) 2 cc), .int .i64 p, .int .i64 (1 : Nat), .int .i64 (mulI f n)] (.tuple #[]) (ls ++ (brA (acqL fs day [c0, c1] (p + 1)) 1 (mulI f n)).1) (ts ++ (brA (acqL fs day [c0, c1] (p + 1)) 1 (mulI f n)).2) [(g5, cO 26 k s (.slice (some ⟨bk, ok, none⟩) 2 cc))] hloc [(g5, cO 26 k s (.slice (some ⟨bk, ok, none⟩) 2 cc))] (fun q hq => by rw [List.mem_singleton] at hq; subst hq; exact ⟨_, _, _, rfl, by decide⟩) (fun w1 hm1 hI1 => rbranch_any hg0 (i := 1) (u := c1) rfl ht1 (ihs c1 (by simp)) (hN0.later (hbel hI1)) (hF.later (hbel hI1)) (Nat.le_trans hn hI1.1.size) hI1.2.1 hI1.2.2.1 (hm1.get 0) hp0 hp1 hsz (mulI f n) (by simp only [szC, szL] at hlen; have := szC_pos c0; have := szC_pos c1; omega)) fun lv2 tv2 => ?_
        refine Goes.run [] [] trivial ?_
        exact Goes.ret [] (.tuple #[]) fun w' hm hI => ⟨lv2, tv2, rfl, hm.get 0, by rw [hacq]; exact hI.now⟩
    · -- 27
      obtain rfl : N = 2 := hL.symm
      have hacq : acq fs day (.mk 27 k s [c0, c1]) p f = R2.cat (brA (acqL fs day [c0, c1] (p + 1)) 0 f) (brA (acqL fs day [c0, c1] (p + 1)) 1 f) := by rw [acq]; rfl
      have hlen0 := acq_len fs day c0 (p + 1 + szL ([c0, c1].take 0)) f
      rw [← acq_get fs day (p + 1) f (l := [c0, c1]) (i := 0) (c := c0) rfl] at hlen0
      refine Goes.run [1, 0, 0, 1, 1] [(true, true), (false, false), (false, false)] ⟨rfl, rfl, rfl, trivial⟩ ?_
      refine Goes.callRQ 27 #[.pointer (some ⟨g, 0, none⟩), cv 27 k s (.slice a 2 cc), .int .i64 p, .int .i64 (0 : Nat), .int .i64 (f)] (.tuple #[]) (ls ++ (brA (acqL fs day [c0, c1] (p + 1)) 0 (f)).1) (ts ++ (brA (acqL fs day [c0, c1] (p + 1)) 0 (f)).2) [(g5, cO 27 k s (.slice a 2 cc))] hloc (fun w1 hm1 hI1 => rbranch_any hg0 (i := 0) (u := c0) rfl ht0 (ihs c0 (by simp)) (hN0.later (hbel hI1)) (hF.later (hbel hI1)) (Nat.le_trans hn hI1.1.size) hI1.2.1 hI1.2.2.1 (hm1.get 0) hp0 hp1 hsz (f) (by simp only [szC, szL] at hlen; have := szC_pos c0; have := szC_pos c1; omega)) fun lv2 tv2 => ?_
      refine Goes.run [1] [] trivial ?_
      refine Goes.callRQ 27 #[.pointer (some ⟨g, 0, none⟩), cv 27 k s (.slice a 2 cc), .int .i64 p, .int .i64 (1 : Nat), .int .i64 (f)] (.tuple #[]) ((ls ++ (brA (acqL fs day [c0, c1] (p + 1)) 0 f).1) ++ (brA (acqL fs day [c0, c1] (p + 1)) 1 (f)).1) ((ts ++ (brA (acqL fs day [c0, c1] (p + 1)) 0 f).2) ++ (brA (acqL fs day [c0, c1] (p + 1)) 1 (f)).2) [(g5, cO 27 k s (.slice a 2 cc))] hloc (fun w1 hm1 hI1 => rbranch_any hg0 (i := 1) (u := c1) rfl ht1 (ihs c1 (by simp)) (hN0.later (hbel hI1)) (hF.later (hbel hI1)) (Nat.le_trans hn hI1.1.size) hI1.2.1 hI1.2.2.1 (hm1.get 0) hp0 hp1 hsz (f) (by simp only [szC, szL] at hlen; rw [List.length_append, List.length_append]; omega)) fun lv3 tv3 => ?_
      refine Goes.run [] [] trivial ?_
      exact Goes.ret [] (.tuple #[]) fun w' hm hI => ⟨lv3, tv3, rfl, hm.get 0, by rw [hacq]; have := hI.now; simpa [R2.cat] using this⟩
    · -- 28
      obtain rfl : N = 3 := hL.symm
      obtain ⟨bk, ok, y0, rfl, hbk, hcl0, hy0⟩ := hkids 0 c0 rfl
      obtain ⟨p0, k0, t0, a0, N0, c0', rfl⟩ := hy0.cells
      obtain ⟨ob, hob⟩ := blk_of (w := w) (b := bk) (Nat.lt_of_lt_of_le hbk hn)
      have hacq : acq fs day (.mk 28 k s [c0, c1, c2]) p f = match valP fs day c0 with | some n => brA (acqL fs day [c0, c1, c2] (p + 1)) (2 - n).toNat f | none => wt p f := by rw [acq, valL]; rfl
      refine Goes.run [1, 0, 0, 0, 0, 1] [(true, true), (false, false), (false, false), (false, false), (false, false)] ⟨rfl, rfl, rfl, rfl, rfl, trivial⟩ ?_
      refine Goes.openY [0, 1] [(bk, ob)] (fun w' hI => holds1 (((hbel hI).block bk hbk).trans hob)) ?_
      refine Goes.run [0, 1, 1, 2, 0, 4, 5, 6, 7, 0, 8, 9, 10, 11, 0] [] trivial ?_
      refine Goes.valA 3 (Instr.loadAt 24 (.pointer (some ⟨bk, ok + 0 * 4, none⟩))) (cv p0 k0 t0 (.slice a0 N0 c0')) (fun w' hm => loadC (hcl0.same ((hm.get 2).trans hob.symm))) ?_
      refine Goes.callA0 12 43 #[cv p0 k0 t0 (.slice a0 N0 c0'), .int .i64 day, fv] (oV (valP fs day c0)) (fun w' _ hI => val_any day c0 _ w' (ob_right c0 _ _ ht0 (by decide)) ((hy0.later (hbel hI.now)).more (Nat.le_trans hn hI.now.1.size)) ((hF.later (hbel hI.now)).more (Nat.le_trans hn hI.now.1.size))) ?_
      cases hv : valP fs day c0 with
      | none =>
        rw [hv] at hacq
        refine Goes.run [13, 14, 15, 16, 17, 0] [(false, false)] ⟨rfl, trivial⟩ ?_
        refine Goes.callRQ 45 #[.pointer (some ⟨g, 0, none⟩), .int .i64 p, .int .i64 f] (.tuple #[]) (ls ++ [(p, f)]) ts [(g5, cO 28 k s (.slice (some ⟨bk, ok, none⟩) 3 cc))] hloc (fun w1 hm1 hI1 => waits_any (fv := fv) hI1.2.1 hI1.2.2.1 (hm1.get 0) (Nat.le_trans hn hI1.1.size) p f (by omega)) fun lv2 tv2 => ?_
        refine Goes.run [] [] trivial ?_
        exact Goes.ret [] (.tuple #[]) fun w' hm hI => ⟨lv2, tv2, rfl, hm.get 0, by rw [hacq]; have := hI.now; simpa [wt] using this⟩
      | some n =>
        rw [hv] at hacq
        rcases (val_kd hR.rf c0 _ _ _ ht0 (by omega) hv).2.1 rfl with rfl | rfl
        · refine Goes.run [13, 14, 15, 16, 17, 1, 1] [(true, true)] ⟨rfl, trivial⟩ ?_
          refine Goes.callRQ 27 #[.pointer (some ⟨g, 0, none⟩), cv 28 k s (.slice (some ⟨bk, ok, none⟩) 3 cc), .int .i64 p, .int .i64 (2 : Nat), .int .i64 (f)] (.tuple #[]) (ls ++ (brA (acqL fs day [c0, c1, c2] (p + 1)) 2 (f)).1) (ts ++ (brA (acqL fs day [c0, c1, c2] (p + 1)) 2 (f)).2) [(g5, cO 28 k s (.slice (some ⟨bk, ok, none⟩) 3 cc))] hloc (fun w1 hm1 hI1 => rbranch_any hg0 (i := 2) (u := c2) rfl ht2 (ihs c2 (by simp)) (hN0.later (hbel hI1)) (hF.later (hbel hI1)) (Nat.le_trans hn hI1.1.size) hI1.2.1 hI1.2.2.1 (hm1.get 0) hp0 hp1 hsz (f) (by simp only [szC, szL] at hlen; have := szC_pos c0; have := szC_pos c1; have := szC_pos c2; omega)) fun lv2 tv2 => ?_
          refine Goes.run [] [] trivial ?_
          exact Goes.ret [] (.tuple #[]) fun w' hm hI => ⟨lv2, tv2, rfl, hm.get 0, by rw [hacq]; exact hI.now⟩
        · refine Goes.run [13, 14, 15, 16, 17, 1, 1] [(true, true)] ⟨rfl, trivial⟩ ?_
          refine Goes.callRQ 27 #[.pointer (some ⟨g, 0, none⟩), cv 28 k s (.slice (some ⟨bk, ok, none⟩) 3 cc), .int .i64 p, .int .i64 (1 : Nat), .int .i64 (f)] (.tuple #[]) (ls ++ (brA (acqL fs day [c0, c1, c2] (p + 1)) 1 (f)).1) (ts ++ (brA (acqL fs day [c0, c1, c2] (p + 1)) 1 (f)).2) [(g5, cO 28 k s (.slice (some ⟨bk, ok, none⟩) 3 cc))] hloc (fun w1 hm1 hI1 => rbranch_any hg0 (i := 1) (u := c1) rfl ht1 (ihs c1 (by simp)) (hN0.later (hbel hI1)) (hF.later (hbel hI1)) (Nat.le_trans hn hI1.1.size) hI1.2.1 hI1.2.2.1 (hm1.get 0) hp0 hp1 hsz (f) (by simp only [szC, szL] at hlen; have := szC_pos c0; have := szC_pos c1; have := szC_pos c2; omega)) fun lv2 tv2 => ?_
          refine Goes.run [] [] trivial ?_
          exact Goes.ret [] (.tuple #[]) fun w' hm hI => ⟨lv2, tv2, rfl, hm.get 0, by rw [hacq]; exact hI.now⟩
    · -- 29
      obtain rfl : N = 1 := hL.symm
      have hacq : acq fs day (.mk 29 k s [c0]) p f = bif decide (k ≤ day) then brA (acqL fs day [c0] (p + 1)) 0 f else wt p f := by rw [acq]; rfl
      refine Goes.run [1, 0, 0, 0, 0, 0, 1] [(true, true), (false, false), (false, false), (false, false), (false, false), (false, false)] ⟨rfl, rfl, rfl, rfl, rfl, rfl, trivial⟩ ?_
      refine Goes.open [0, 1] ?_
      cases hd : decide (k ≤ day) with
      | true =>
        rw [hd, cond_true] at hacq
        refine Goes.run [0, 1, 2, 3, 0, 4, 5, 1, 6, 1, 1] [(decide (k ≤ day), true)] ⟨hd, trivial⟩ ?_
        refine Goes.callRQ 27 #[.pointer (some ⟨g, 0, none⟩), cv 29 k s (.slice a 1 cc), .int .i64 p, .int .i64 (0 : Nat), .int .i64 (f)] (.tuple #[]) (ls ++ (brA (acqL fs day [c0] (p + 1)) 0 (f)).1) (ts ++ (brA (acqL fs day [c0] (p + 1)) 0 (f)).2) [(g5, cO 29 k s (.slice a 1 cc))] hloc (fun w1 hm1 hI1 => rbranch_any hg0 (i := 0) (u := c0) rfl ht0 (ihs c0 (by simp)) (hN0.later (hbel hI1)) (hF.later (hbel hI1)) (Nat.le_trans hn hI1.1.size) hI1.2.1 hI1.2.2.1 (hm1.get 0) hp0 hp1 hsz (f) (by simp only [szC, szL] at hlen; have := szC_pos c0; omega)) fun lv2 tv2 => ?_
        refine Goes.run [] [] trivial ?_
        exact Goes.ret [] (.tuple #[]) fun w' hm hI => ⟨lv2, tv2, rfl, hm.get 0, by rw [hacq]; exact hI.now⟩
      | false =>
        rw [hd, cond_false] at hacq
        refine Goes.run [0, 1, 2, 3, 0, 4, 5, 1, 6, 0] [(decide (k ≤ day), false)] ⟨hd, trivial⟩ ?_
        refine Goes.callRQ 45 #[.pointer (some ⟨g, 0, none⟩), .int .i64 p, .int .i64 f] (.tuple #[]) (ls ++ [(p, f)]) ts [(g5, cO 29 k s (.slice a 1 cc))] hloc (fun w1 hm1 hI1 => waits_any (fv := fv) hI1.2.1 hI1.2.2.1 (hm1.get 0) (Nat.le_trans hn hI1.1.size) p f (by omega)) fun lv2 tv2 => ?_
        refine Goes.run [] [] trivial ?_
        exact Goes.ret [] (.tuple #[]) fun w' hm hI => ⟨lv2, tv2, rfl, hm.get 0, by rw [hacq]; have := hI.now; simpa [wt] using this⟩
    · -- 30
      obtain rfl : N = 2 := hL.symm
      obtain ⟨bk, ok, y0, rfl, hbk, hcl0, hy0⟩ := hkids 0 c0 rfl
      obtain ⟨p0, k0, t0, a0, N0, c0', rfl⟩ := hy0.cells
      obtain ⟨ob, hob⟩ := blk_of (w := w) (b := bk) (Nat.lt_of_lt_of_le hbk hn)
      have hacq : acq fs day (.mk 30 k s [c0, c1]) p f = bif decide (k < day) then r0 else match valP fs day c0 with | some b => (bif b == 1 then brA (acqL fs day [c0, c1] (p + 1)) 1 f else wt p f) | none => wt p f := by rw [acq, valL]; rfl
      refine Goes.run [1, 0, 0, 0, 0, 0, 0, 1] [(true, true), (false, false), (false, false), (false, false), (false, false), (false, false), (false, false)] ⟨rfl, rfl, rfl, rfl, rfl, rfl, rfl, trivial⟩ ?_
      refine Goes.open [0, 1] ?_
      cases hd : decide (k < day) with
      | true =>
        rw [hd, cond_true] at hacq
        refine Goes.run [0, 1, 2, 3, 0, 4, 5, 1, 6, 1] [(decide (k < day), true)] ⟨hd, trivial⟩ ?_
        exact Goes.ret [] (.tuple #[]) fun w' hm hI => ⟨lv, tv, rfl, hm.get 0, by rw [hacq]; simpa [r0] using hI.now⟩
      | false =>
        rw [hd, cond_false] at hacq
        refine Goes.run [0, 1, 2, 3, 0, 4, 5, 1, 6, 0] [(decide (k < day), false)] ⟨hd, trivial⟩ ?_
        refine Goes.openY [0, 1] [(bk, ob)] (fun w' hI => holds1 (((hbel hI).block bk hbk).trans hob)) ?_
        refine Goes.run [0, 1, 1, 2, 0, 4, 5, 6, 7, 0, 8, 9, 10, 11, 0] [] trivial ?_
        refine Goes.valA 3 (Instr.loadAt 24 (.pointer (some ⟨bk, ok + 0 * 4, none⟩))) (cv p0 k0 t0 (.slice a0 N0 c0')) (fun w' hm => loadC (hcl0.same ((hm.get 2).trans hob.symm))) ?_
        refine Goes.callA0 12 43 #[cv p0 k0 t0 (.slice a0 N0 c0'), .int .i64 day, fv] (oV (valP fs day c0)) (fun w' _ hI => val_any day c0 _ w' (ob_right c0 _ _ ht0 (by decide)) ((hy0.later (hbel hI.now)).more (Nat.le_trans hn hI.now.1.size)) ((hF.later (hbel hI.now)).more (Nat.le_trans hn hI.now.1.size))) ?_
        cases hv : valP fs day c0 with
        | none =>
          rw [hv] at hacq
          refine Goes.run [13, 14, 15, 16, 17, 0, 0] [(false, false), (false, false)] ⟨rfl, rfl, trivial⟩ ?_
          refine Goes.callRQ 45 #[.pointer (some ⟨g, 0, none⟩), .int .i64 p, .int .i64 f] (.tuple #[]) (ls ++ [(p, f)]) ts [(g5, cO 30 k s (.slice (some ⟨bk, ok, none⟩) 2 cc))] hloc (fun w1 hm1 hI1 => waits_any (fv := fv) hI1.2.1 hI1.2.2.1 (hm1.get 0) (Nat.le_trans hn hI1.1.size) p f (by omega)) fun lv2 tv2 => ?_
          refine Goes.run [] [] trivial ?_
          exact Goes.ret [] (.tuple #[]) fun w' hm hI => ⟨lv2, tv2, rfl, hm.get 0, by rw [hacq]; have := hI.now; simpa [wt] using this⟩
        | some n =>
          rw [hv] at hacq
          rcases (val_kd hR.rf c0 _ _ _ ht0 (by omega) hv).2.1 rfl with rfl | rfl
          · refine Goes.run [13, 14, 15, 16, 17, 1, 0] [(false, false), (true, true)] ⟨rfl, rfl, trivial⟩ ?_
            refine Goes.callRQ 45 #[.pointer (some ⟨g, 0, none⟩), .int .i64 p, .int .i64 f] (.tuple #[]) (ls ++ [(p, f)]) ts [(g5, cO 30 k s (.slice (some ⟨bk, ok, none⟩) 2 cc))] hloc (fun w1 hm1 hI1 => waits_any (fv := fv) hI1.2.1 hI1.2.2.1 (hm1.get 0) (Nat.le_trans hn hI1.1.size) p f (by omega)) fun lv2 tv2 => ?_
            refine Goes.run [] [] trivial ?_
            exact Goes.ret [] (.tuple #[]) fun w' hm hI => ⟨lv2, tv2, rfl, hm.get 0, by rw [hacq]; have := hI.now; simpa [wt] using this⟩
          · refine Goes.run [13, 14, 15, 16, 17, 1, 1, 1] [(true, true), (true, true)] ⟨rfl, rfl, trivial⟩ ?_
            refine Goes.callRQ 27 #[.pointer (some ⟨g, 0, none⟩), cv 30 k s (.slice (some ⟨bk, ok, none⟩) 2 cc), .int .i64 p, .int .i64 (1 : Nat), .int .i64 (f)] (.tuple #[]) (ls ++ (brA (acqL fs day [c0, c1] (p + 1)) 1 (f)).1) (ts ++ (brA (acqL fs day [c0, c1] (p + 1)) 1 (f)).2) [(g5, cO 30 k s (.slice (some ⟨bk, ok, none⟩) 2 cc))] hloc (fun w1 hm1 hI1 => rbranch_any hg0 (i := 1) (u := c1) rfl ht1 (ihs c1 (by simp)) (hN0.later (hbel hI1)) (hF.later (hbel hI1)) (Nat.le_trans hn hI1.1.size) hI1.2.1 hI1.2.2.1 (hm1.get 0) hp0 hp1 hsz (f) (by simp only [szC, szL] at hlen; have := szC_pos c0; have := szC_pos c1; omega)) fun lv2 tv2 => ?_
            refine Goes.run [] [] trivial ?_
            exact Goes.ret [] (.tuple #[]) fun w' hm hI => ⟨lv2, tv2, rfl, hm.get 0, by rw [hacq]; exact hI.now⟩
    · -- 31
      obtain rfl : N = 2 := hL.symm
      have hacq : acq fs day (.mk 31 k s [c0, c1]) p f = bif decide (k < day) then brA (acqL fs day [c0, c1] (p + 1)) 1 f else wt p f := by rw [acq]; rfl
      refine Goes.run [1, 0, 0, 0, 0, 0, 0, 0, 1] [(true, true), (false, false), (false, false), (false, false), (false, false), (false, false), (false, false), (false, false)] ⟨rfl, rfl, rfl, rfl, rfl, rfl, rfl, rfl, trivial⟩ ?_
      refine Goes.open [0, 1] ?_
      cases hd : decide (k < day) with
      | true =>
        rw [hd, cond_true] at hacq
        refine Goes.run [0, 1, 2, 3, 0, 4, 5, 1, 6, 1, 1] [(decide (k < day), true)] ⟨hd, trivial⟩ ?_
        refine Goes.callRQ 27 #[.pointer (some ⟨g, 0, none⟩), cv 31 k s (.slice a 2 cc), .int .i64 p, .int .i64 (1 : Nat), .int .i64 (f)] (.tuple #[]) (ls ++ (brA (acqL fs day [c0, c1] (p + 1)) 1 (f)).1) (ts ++ (brA (acqL fs day [c0, c1] (p + 1)) 1 (f)).2) [(g5, cO 31 k s (.slice a 2 cc))] hloc (fun w1 hm1 hI1 => rbranch_any hg0 (i := 1) (u := c1) rfl ht1 (ihs c1 (by simp)) (hN0.later (hbel hI1)) (hF.later (hbel hI1)) (Nat.le_trans hn hI1.1.size) hI1.2.1 hI1.2.2.1 (hm1.get 0) hp0 hp1 hsz (f) (by simp only [szC, szL] at hlen; have := szC_pos c0; have := szC_pos c1; omega)) fun lv2 tv2 => ?_
        refine Goes.run [] [] trivial ?_
        exact Goes.ret [] (.tuple #[]) fun w' hm hI => ⟨lv2, tv2, rfl, hm.get 0, by rw [hacq]; exact hI.now⟩
      | false =>
        rw [hd, cond_false] at hacq
        refine Goes.run [0, 1, 2, 3, 0, 4, 5, 1, 6, 0] [(decide (k < day), false)] ⟨hd, trivial⟩ ?_
        refine Goes.callRQ 45 #[.pointer (some ⟨g, 0, none⟩), .int .i64 p, .int .i64 f] (.tuple #[]) (ls ++ [(p, f)]) ts [(g5, cO 31 k s (.slice a 2 cc))] hloc (fun w1 hm1 hI1 => waits_any (fv := fv) hI1.2.1 hI1.2.2.1 (hm1.get 0) (Nat.le_trans hn hI1.1.size) p f (by omega)) fun lv2 tv2 => ?_
        refine Goes.run [] [] trivial ?_
        exact Goes.ret [] (.tuple #[]) fun w' hm hI => ⟨lv2, tv2, rfl, hm.get 0, by rw [hacq]; have := hI.now; simpa [wt] using this⟩
end Go.Proofs.YtekgfdbeinacjaaGreatDoor
namespace Go.Proofs.YtekgfdbeinacjaaGreatDoor
open Go Go.RowKit

def lstD (l : List (Int × Int)) : Nat → Int
  | 0 => -1
  | j + 1 => ((l[j]?).map (·.1)).getD (-1)
def lstN (fs : Fs) : Nat → List UInt8
  | 0 => []
  | j + 1 => ((fs[j]?).map (·.1)).getD []
theorem Cel.same {w w' : World} {b o : Nat} {v : Value} {ob : Obj} (h : w.cell? ⟨b, o, none⟩ = some v) (e : w.heap[b]? = some ob) (e' : w'.heap[b]? = some ob) : w'.cell? ⟨b, o, none⟩ = some v := (cell_same (e'.trans e.symm)).trans h
theorem nam_lt {s : List UInt8} (h : namP s = true) : decide (([] : List UInt8) < s) = true := by
  cases s with
  | nil => cases h
  | cons x r => exact decide_eq_true (List.nil_lt_cons _ _)
set_option maxRecDepth 100000 in
set_option maxHeartbeats 8000000 in
seal rn rnN rnS Goes ans atEnd put0 put putM opened openedY putA0 putA oneSt st0 keep in
theorem rfeedsR_any {fs : Fs} {v : Value} {w : World} (hF : Fds w.heap.size w v fs) (hl : ∀ f ∈ fs, f.1.length ≤ 9223372036854775807) : Calls Tryz.prog 21 #[v] w fun e w' => e = .returned (.bool (rfP fs)) ∧ Below w.heap.size w w' := by
  obtain ⟨a, c, rfl, hc, hfs⟩ := hF
  obtain ⟨N, hN⟩ : ∃ N, fs.length = N := ⟨_, rfl⟩
  rw [hN] at hc ⊢
  refine Goes.begin Tryz.func21 [] (fun _ => True) Holds.nil (by simp [Mem.ids]) (fun _ _ => trivial) ?_
  cases h0 : decide ((N : Int) > 64) with
  | true =>
    refine Goes.run [1] [(decide ((N : Int) > 64), true)] ⟨h0, trivial⟩ ?_
    exact Goes.ret [] (.bool false) fun w' hm hI => ⟨by unfold rfP; rw [hN, decide_eq_false (by have := of_decide_eq_true h0; omega)]; rfl, bel0 hI⟩
  | false =>
    have hW : rfP fs = fdOk [] fs := by unfold rfP; rw [hN, decide_eq_true (by have := of_decide_eq_false h0; omega), Bool.true_and]
    rw [hW]
    refine Goes.run [0] [(decide ((N : Int) > 64), false)] ⟨h0, trivial⟩ ?_
    refine Goes.loop0 (α := Nat) 106 (fun i => [(0, .slice a N c), (3, .int .i64 i)]) [] (fun i => i ≤ N ∧ fdOk [] fs = fdOk (lstN fs i) (fs.drop i)) (fun i => N - i) 0 ⟨Nat.zero_le _, rfl⟩ ?_
    rintro i J ⟨hi, hrest⟩ back
    cases hlt : decide ((i : Int) < (N : Int)) with
    | false =>
      refine Goes.run [0, 0] [(decide ((i : Int) < (N : Int)), false)] ⟨hlt, trivial⟩ ?_
      exact Goes.ret [] (.bool true) fun w' hm hI => ⟨by rw [hrest, List.drop_of_length_le (by have := of_decide_eq_false hlt; omega)]; rfl, bel0 hI⟩
    | true =>
      have hil : i < N := by have := of_decide_eq_true hlt; omega
      obtain ⟨f, hf⟩ : ∃ f, fs[i]? = some f := ⟨fs[i]'(by omega), by simp⟩
      obtain ⟨b, o, u, rfl, hb, x1, x2, a2, c2, rfl, hc2, hstm⟩ := hfs i f hf
      obtain ⟨ob, hob⟩ := blk_of hb
      obtain ⟨M, hM⟩ : ∃ M, f.2.length = M := ⟨_, rfl⟩
      rw [hM] at x2 hc2
      have hR : fdOk [] fs = ((decide (lstN fs i < f.1) && namP f.1 && stmP f.2) && fdOk f.1 (fs.drop (i + 1))) := by rw [hrest, drop_any hf, fdOk]
      cases i with
      | zero =>
        refine Goes.run [0, 1] [(decide (((0 : Nat) : Int) < (N : Int)), true)] ⟨hlt, trivial⟩ ?_
        refine Goes.val (Instr.indexAt 38 (.slice (some ⟨b, o, none⟩) N c) (.int .i64 ((0 : Nat) : Int))) (.pointer (some ⟨b, o + 0 * 2, none⟩)) (fun w' _ _ => idxF b o N c 0 hil w') ?_
        refine Goes.run [] [] trivial ?_
        refine Goes.val (Instr.loadAt 9 (.pointer (some ⟨b, o + 0 * 2, none⟩))) (strV f.1) (fun w' _ hI => load1 Tryz.isAgg9 (((bel0 hI).cell (p := ⟨b, o + 0 * 2, none⟩) hb).trans x1)) ?_
        refine Goes.call0 41 #[strV f.1] (.bool (namP f.1)) (fun w' _ _ => rname_any f.1 w' (hl f (List.mem_of_getElem? hf))) ?_
        refine Goes.run [] [] trivial ?_
        refine Goes.val (Instr.indexAt 38 (.slice (some ⟨b, o, none⟩) N c) (.int .i64 ((0 : Nat) : Int))) (.pointer (some ⟨b, o + 0 * 2, none⟩)) (fun w' _ _ => idxF b o N c 0 hil w') ?_
        refine Goes.run [] [] trivial ?_
        refine Goes.val (Instr.loadAt 80 (.pointer (some ⟨b, o + 0 * 2 + 1, none⟩))) (.slice a2 M c2) (fun w' _ hI => load1 Tryz.isAgg80 (((bel0 hI).cell (p := ⟨b, o + 0 * 2 + 1, none⟩) hb).trans x2)) ?_
        refine Goes.run [] [] trivial ?_
        refine Goes.openY [] [(b, ob)] (fun w' hI => hex1 hob hI.1) ?_
        cases hnm : namP f.1 with
        | false =>
          refine Goes.run [0, 1, 2, 3, 4, 5, 6, 7, 8, 9, 10, 11, 12, 13, 14, 15, 16, 17, 18, 19, 20, 21, 22, 23, 24, 1] [(true, true)] ⟨rfl, trivial⟩ ?_
          exact Goes.ret [] (.bool false) fun w' hm hI => ⟨by rw [hR, hnm]; simp, bel0 hI⟩
        | true =>
          have hfst : decide (lstN fs 0 < f.1) = true := nam_lt hnm
          rw [hfst, hnm] at hR
          cases hM4 : decide ((M : Int) > 4096) with
          | true =>
            refine Goes.run [0, 1, 2, 3, 4] [] trivial ?_
            refine Goes.slot 31 (.bool false) (u := .bool (decide (((0 : Nat) : Int) > 0))) (congrArg _ (rfl)) ?_
            refine Goes.run [5, 6, 7, 8, 9, 10, 11, 12, 13, 14, 15, 16, 17, 18, 19, 20, 21, 22, 23, 24, 1] [(decide ((M : Int) > 4096), true)] ⟨hM4, trivial⟩ ?_
            exact Goes.ret [] (.bool false) fun w' hm hI => ⟨by rw [hR]; unfold stmP; rw [hM, decide_eq_false (by have := of_decide_eq_true hM4; omega)]; simp, bel0 hI⟩
          | false =>
            refine Goes.run [0, 1, 2, 3, 4] [] trivial ?_
            refine Goes.slot 31 (.bool false) (u := .bool (decide (((0 : Nat) : Int) > 0))) (congrArg _ (rfl)) ?_
            refine Goes.run [5, 6, 7, 8, 9, 10, 11, 12, 13, 14, 15, 16, 17, 18, 19, 20, 21, 22, 23, 24, 0] [(decide ((M : Int) > 4096), false)] ⟨hM4, trivial⟩ ?_
            have hlen4 : stmP f.2 = stOk (-1) f.2 := by unfold stmP; rw [hM, decide_eq_true (by have := of_decide_eq_false hM4; omega), Bool.true_and]
            refine Goes.loop0 (α := Nat) 106 (fun k => [(0, .slice (some ⟨b, o, none⟩) N c), (3, .int .i64 ((0 : Nat) : Int)), (5, .slice a2 M c2), (6, .int .i64 k)]) [] (fun k => k ≤ M ∧ stOk (-1) f.2 = stOk (lstD f.2 k) (f.2.drop k)) (fun k => M - k) 0 ⟨Nat.zero_le _, rfl⟩ ?_
            rintro k J2 ⟨hkM, hst⟩ back2
            cases hkl : decide ((k : Int) < (M : Int)) with
            | false =>
              refine Goes.run [0, 0] [(decide ((k : Int) < (M : Int)), false)] ⟨hkl, trivial⟩ ?_
              refine Goes.slot 3 (.int .i64 (0 + 1 : Nat)) (u := .int .i64 (IntKind.i64.wrap (((0 : Nat) : Int) + 1))) (congrArg _ (wrap_nat (by omega))) ?_
              exact back (0 + 1) _ ⟨hil, by rw [hR, hlen4, hst, List.drop_of_length_le (by have := of_decide_eq_false hkl; omega), stOk]; simp [lstN, hf]⟩ (by omega) (by kernel_rfl) (by kernel_rfl) (by kernel_rfl)
            | true =>
              have hkl' : k < M := by have := of_decide_eq_true hkl; omega
              obtain ⟨q, hq⟩ : ∃ q, f.2[k]? = some q := ⟨f.2[k]'(by omega), by simp⟩
              obtain ⟨b2, o2, rfl, hb2, y1, y2⟩ := hstm k q hq
              obtain ⟨ob2, hob2⟩ := blk_of hb2
              have hdrop := drop_any hq
              refine Goes.run [0, 1] [(decide ((k : Int) < (M : Int)), true)] ⟨hkl, trivial⟩ ?_
              cases k with
              | zero =>
                refine Goes.openY [] [(b2, ob2)] (fun w' hI => hex1 hob2 hI.1) ?_
                cases h1 : decide (q.1 < 0) with
                | true =>
                  refine Goes.run [0, 1] [] trivial ?_
                  refine Goes.valA 2 (Instr.indexAt 80 (.slice (some ⟨b2, o2, none⟩) M c2) (.int .i64 ((0 : Nat) : Int))) (.pointer (some ⟨b2, o2 + 0 * 2, none⟩)) (fun w' _ => idxT b2 o2 M c2 0 (by omega) w') ?_
                  refine Goes.run [3] [] trivial ?_
                  refine Goes.valA 4 (Instr.loadAt 3 (.pointer (some ⟨b2, o2 + 0 * 2, none⟩))) (.int .i64 q.1) (fun w' hm => load1 Tryz.isAgg3 (Cel.same y1 hob2 (hm.get 0))) ?_
                  refine Goes.run [5] [] trivial ?_
                  refine Goes.slot 63 (.bool true) (u := .bool (decide (q.1 < 0))) (congrArg _ (h1)) ?_
                  refine Goes.run [6, 7, 8, 9, 10, 11, 12, 13, 14, 15, 16, 17, 18, 19, 20, 21, 22, 23, 24, 25, 26, 27, 28, 29, 30, 31, 32, 33, 34, 35, 36, 37, 38, 39, 40, 41, 42, 43, 44, 45, 46, 47, 1] [(true, true)] ⟨rfl, trivial⟩ ?_
                  have hbad : (!decide (q.1 ≤ lstD f.2 0) && dayP q.1 && numP q.2) = false := by
                    rw [Bool.and_eq_false_iff, Bool.and_eq_false_iff]
                    refine .inl (.inr ?_); unfold dayP; have := of_decide_eq_true h1; rw [decide_eq_false (by omega), Bool.false_and]
                  exact Goes.ret [] (.bool false) fun w' hm hI => ⟨by rw [hR, hlen4, hst, hdrop, stOk, hbad]; simp, bel0 hI⟩
                | false =>
                  cases h2 : decide (q.1 > 73048) with
                  | true =>
                    refine Goes.run [0, 1] [] trivial ?_
                    refine Goes.valA 2 (Instr.indexAt 80 (.slice (some ⟨b2, o2, none⟩) M c2) (.int .i64 ((0 : Nat) : Int))) (.pointer (some ⟨b2, o2 + 0 * 2, none⟩)) (fun w' _ => idxT b2 o2 M c2 0 (by omega) w') ?_
                    refine Goes.run [3] [] trivial ?_
                    refine Goes.valA 4 (Instr.loadAt 3 (.pointer (some ⟨b2, o2 + 0 * 2, none⟩))) (.int .i64 q.1) (fun w' hm => load1 Tryz.isAgg3 (Cel.same y1 hob2 (hm.get 0))) ?_
                    refine Goes.run [5] [] trivial ?_
                    refine Goes.slot 63 (.bool false) (u := .bool (decide (q.1 < 0))) (congrArg _ (h1)) ?_
                    refine Goes.run [6, 7, 8] [] trivial ?_
                    refine Goes.valA 9 (Instr.indexAt 80 (.slice (some ⟨b2, o2, none⟩) M c2) (.int .i64 ((0 : Nat) : Int))) (.pointer (some ⟨b2, o2 + 0 * 2, none⟩)) (fun w' _ => idxT b2 o2 M c2 0 (by omega) w') ?_
                    refine Goes.run [10] [] trivial ?_
                    refine Goes.valA 11 (Instr.loadAt 3 (.pointer (some ⟨b2, o2 + 0 * 2, none⟩))) (.int .i64 q.1) (fun w' hm => load1 Tryz.isAgg3 (Cel.same y1 hob2 (hm.get 0))) ?_
                    refine Goes.run [12] [] trivial ?_
                    refine Goes.slot 70 (.bool true) (u := .bool (decide (q.1 > 73048))) (congrArg _ (h2)) ?_
                    refine Goes.run [13, 14, 15, 16, 17, 18, 19, 20, 21, 22, 23, 24, 25, 26, 27, 28, 29, 30, 31, 32, 33, 34, 35, 36, 37, 38, 39, 40, 41, 42, 43, 44, 45, 46, 47, 1] [(true, true)] ⟨rfl, trivial⟩ ?_
                    have hbad : (!decide (q.1 ≤ lstD f.2 0) && dayP q.1 && numP q.2) = false := by
                      rw [Bool.and_eq_false_iff, Bool.and_eq_false_iff]
                      refine .inl (.inr ?_); unfold dayP; have := of_decide_eq_true h2; rw [Bool.and_eq_false_iff]; exact .inr (decide_eq_false (by omega))
                    exact Goes.ret [] (.bool false) fun w' hm hI => ⟨by rw [hR, hlen4, hst, hdrop, stOk, hbad]; simp, bel0 hI⟩
                  | false =>
                    cases h4 : decide (q.2 < -1000000000000000) with
                    | true =>
                      refine Goes.run [0, 1] [] trivial ?_
                      refine Goes.valA 2 (Instr.indexAt 80 (.slice (some ⟨b2, o2, none⟩) M c2) (.int .i64 ((0 : Nat) : Int))) (.pointer (some ⟨b2, o2 + 0 * 2, none⟩)) (fun w' _ => idxT b2 o2 M c2 0 (by omega) w') ?_
                      refine Goes.run [3] [] trivial ?_
                      refine Goes.valA 4 (Instr.loadAt 3 (.pointer (some ⟨b2, o2 + 0 * 2, none⟩))) (.int .i64 q.1) (fun w' hm => load1 Tryz.isAgg3 (Cel.same y1 hob2 (hm.get 0))) ?_
                      refine Goes.run [5] [] trivial ?_
                      refine Goes.slot 63 (.bool false) (u := .bool (decide (q.1 < 0))) (congrArg _ (h1)) ?_
                      refine Goes.run [6, 7, 8] [] trivial ?_
                      refine Goes.valA 9 (Instr.indexAt 80 (.slice (some ⟨b2, o2, none⟩) M c2) (.int .i64 ((0 : Nat) : Int))) (.pointer (some ⟨b2, o2 + 0 * 2, none⟩)) (fun w' _ => idxT b2 o2 M c2 0 (by omega) w') ?_
                      refine Goes.run [10] [] trivial ?_
                      refine Goes.valA 11 (Instr.loadAt 3 (.pointer (some ⟨b2, o2 + 0 * 2, none⟩))) (.int .i64 q.1) (fun w' hm => load1 Tryz.isAgg3 (Cel.same y1 hob2 (hm.get 0))) ?_
                      refine Goes.run [12] [] trivial ?_
                      refine Goes.slot 70 (.bool false) (u := .bool (decide (q.1 > 73048))) (congrArg _ (h2)) ?_
                      refine Goes.run [13, 14, 15, 16] [] trivial ?_
                      refine Goes.slot 74 (.bool false) (u := .bool (decide (((0 : Nat) : Int) > 0))) (congrArg _ (rfl)) ?_
                      refine Goes.run [17, 18, 19, 20, 21, 22, 23, 24, 25, 26, 27, 28, 29, 30, 31, 32, 33, 34] [] trivial ?_
                      refine Goes.valA 35 (Instr.indexAt 80 (.slice (some ⟨b2, o2, none⟩) M c2) (.int .i64 ((0 : Nat) : Int))) (.pointer (some ⟨b2, o2 + 0 * 2, none⟩)) (fun w' _ => idxT b2 o2 M c2 0 (by omega) w') ?_
                      refine Goes.run [36] [] trivial ?_
                      refine Goes.valA 37 (Instr.loadAt 2 (.pointer (some ⟨b2, o2 + 0 * 2 + 1, none⟩))) (.int .i64 q.2) (fun w' hm => load1 Tryz.isAgg2 (Cel.same y2 hob2 (hm.get 0))) ?_
                      refine Goes.run [38] [] trivial ?_
                      refine Goes.slot 96 (.bool true) (u := .bool (decide (q.2 < -1000000000000000))) (congrArg _ (h4)) ?_
                      refine Goes.run [39, 40, 41, 42, 43, 44, 45, 46, 47, 1] [(true, true)] ⟨rfl, trivial⟩ ?_
                      have hbad : (!decide (q.1 ≤ lstD f.2 0) && dayP q.1 && numP q.2) = false := by
                        rw [Bool.and_eq_false_iff, Bool.and_eq_false_iff]
                        refine .inr ?_; unfold numP; have := of_decide_eq_true h4; rw [decide_eq_false (by omega), Bool.false_and]
                      exact Goes.ret [] (.bool false) fun w' hm hI => ⟨by rw [hR, hlen4, hst, hdrop, stOk, hbad]; simp, bel0 hI⟩
                    | false =>
                      cases h5 : decide (q.2 > 1000000000000000) with
                      | true =>
                        refine Goes.run [0, 1] [] trivial ?_
                        refine Goes.valA 2 (Instr.indexAt 80 (.slice (some ⟨b2, o2, none⟩) M c2) (.int .i64 ((0 : Nat) : Int))) (.pointer (some ⟨b2, o2 + 0 * 2, none⟩)) (fun w' _ => idxT b2 o2 M c2 0 (by omega) w') ?_
                        refine Goes.run [3] [] trivial ?_
                        refine Goes.valA 4 (Instr.loadAt 3 (.pointer (some ⟨b2, o2 + 0 * 2, none⟩))) (.int .i64 q.1) (fun w' hm => load1 Tryz.isAgg3 (Cel.same y1 hob2 (hm.get 0))) ?_
                        refine Goes.run [5] [] trivial ?_
                        refine Goes.slot 63 (.bool false) (u := .bool (decide (q.1 < 0))) (congrArg _ (h1)) ?_
                        refine Goes.run [6, 7, 8] [] trivial ?_
                        refine Goes.valA 9 (Instr.indexAt 80 (.slice (some ⟨b2, o2, none⟩) M c2) (.int .i64 ((0 : Nat) : Int))) (.pointer (some ⟨b2, o2 + 0 * 2, none⟩)) (fun w' _ => idxT b2 o2 M c2 0 (by omega) w') ?_
                        refine Goes.run [10] [] trivial ?_
                        refine Goes.valA 11 (Instr.loadAt 3 (.pointer (some ⟨b2, o2 + 0 * 2, none⟩))) (.int .i64 q.1) (fun w' hm => load1 Tryz.isAgg3 (Cel.same y1 hob2 (hm.get 0))) ?_
                        refine Goes.run [12] [] trivial ?_
                        refine Goes.slot 70 (.bool false) (u := .bool (decide (q.1 > 73048))) (congrArg _ (h2)) ?_
                        refine Goes.run [13, 14, 15, 16] [] trivial ?_
                        refine Goes.slot 74 (.bool false) (u := .bool (decide (((0 : Nat) : Int) > 0))) (congrArg _ (rfl)) ?_
                        refine Goes.run [17, 18, 19, 20, 21, 22, 23, 24, 25, 26, 27, 28, 29, 30, 31, 32, 33, 34] [] trivial ?_
                        refine Goes.valA 35 (Instr.indexAt 80 (.slice (some ⟨b2, o2, none⟩) M c2) (.int .i64 ((0 : Nat) : Int))) (.pointer (some ⟨b2, o2 + 0 * 2, none⟩)) (fun w' _ => idxT b2 o2 M c2 0 (by omega) w') ?_
                        refine Goes.run [36] [] trivial ?_
                        refine Goes.valA 37 (Instr.loadAt 2 (.pointer (some ⟨b2, o2 + 0 * 2 + 1, none⟩))) (.int .i64 q.2) (fun w' hm => load1 Tryz.isAgg2 (Cel.same y2 hob2 (hm.get 0))) ?_
                        refine Goes.run [38] [] trivial ?_
                        refine Goes.slot 96 (.bool false) (u := .bool (decide (q.2 < -1000000000000000))) (congrArg _ (h4)) ?_
                        refine Goes.run [39, 40, 41, 42] [] trivial ?_
                        refine Goes.valA 43 (Instr.indexAt 80 (.slice (some ⟨b2, o2, none⟩) M c2) (.int .i64 ((0 : Nat) : Int))) (.pointer (some ⟨b2, o2 + 0 * 2, none⟩)) (fun w' _ => idxT b2 o2 M c2 0 (by omega) w') ?_
                        refine Goes.run [44] [] trivial ?_
                        refine Goes.valA 45 (Instr.loadAt 2 (.pointer (some ⟨b2, o2 + 0 * 2 + 1, none⟩))) (.int .i64 q.2) (fun w' hm => load1 Tryz.isAgg2 (Cel.same y2 hob2 (hm.get 0))) ?_
                        refine Goes.run [46] [] trivial ?_
                        refine Goes.slot 104 (.bool true) (u := .bool (decide (q.2 > 1000000000000000))) (congrArg _ (h5)) ?_
                        refine Goes.run [47, 1] [(true, true)] ⟨rfl, trivial⟩ ?_
                        have hbad : (!decide (q.1 ≤ lstD f.2 0) && dayP q.1 && numP q.2) = false := by
                          rw [Bool.and_eq_false_iff, Bool.and_eq_false_iff]
                          refine .inr ?_; unfold numP; have := of_decide_eq_true h5; rw [Bool.and_eq_false_iff]; exact .inr (decide_eq_false (by omega))
                        exact Goes.ret [] (.bool false) fun w' hm hI => ⟨by rw [hR, hlen4, hst, hdrop, stOk, hbad]; simp, bel0 hI⟩
                      | false =>
                        refine Goes.run [0, 1] [] trivial ?_
                        refine Goes.valA 2 (Instr.indexAt 80 (.slice (some ⟨b2, o2, none⟩) M c2) (.int .i64 ((0 : Nat) : Int))) (.pointer (some ⟨b2, o2 + 0 * 2, none⟩)) (fun w' _ => idxT b2 o2 M c2 0 (by omega) w') ?_
                        refine Goes.run [3] [] trivial ?_
                        refine Goes.valA 4 (Instr.loadAt 3 (.pointer (some ⟨b2, o2 + 0 * 2, none⟩))) (.int .i64 q.1) (fun w' hm => load1 Tryz.isAgg3 (Cel.same y1 hob2 (hm.get 0))) ?_
                        refine Goes.run [5] [] trivial ?_
                        refine Goes.slot 63 (.bool false) (u := .bool (decide (q.1 < 0))) (congrArg _ (h1)) ?_
                        refine Goes.run [6, 7, 8] [] trivial ?_
                        refine Goes.valA 9 (Instr.indexAt 80 (.slice (some ⟨b2, o2, none⟩) M c2) (.int .i64 ((0 : Nat) : Int))) (.pointer (some ⟨b2, o2 + 0 * 2, none⟩)) (fun w' _ => idxT b2 o2 M c2 0 (by omega) w') ?_
                        refine Goes.run [10] [] trivial ?_
                        refine Goes.valA 11 (Instr.loadAt 3 (.pointer (some ⟨b2, o2 + 0 * 2, none⟩))) (.int .i64 q.1) (fun w' hm => load1 Tryz.isAgg3 (Cel.same y1 hob2 (hm.get 0))) ?_
                        refine Goes.run [12] [] trivial ?_
                        refine Goes.slot 70 (.bool false) (u := .bool (decide (q.1 > 73048))) (congrArg _ (h2)) ?_
                        refine Goes.run [13, 14, 15, 16] [] trivial ?_
                        refine Goes.slot 74 (.bool false) (u := .bool (decide (((0 : Nat) : Int) > 0))) (congrArg _ (rfl)) ?_
                        refine Goes.run [17, 18, 19, 20, 21, 22, 23, 24, 25, 26, 27, 28, 29, 30, 31, 32, 33, 34] [] trivial ?_
                        refine Goes.valA 35 (Instr.indexAt 80 (.slice (some ⟨b2, o2, none⟩) M c2) (.int .i64 ((0 : Nat) : Int))) (.pointer (some ⟨b2, o2 + 0 * 2, none⟩)) (fun w' _ => idxT b2 o2 M c2 0 (by omega) w') ?_
                        refine Goes.run [36] [] trivial ?_
                        refine Goes.valA 37 (Instr.loadAt 2 (.pointer (some ⟨b2, o2 + 0 * 2 + 1, none⟩))) (.int .i64 q.2) (fun w' hm => load1 Tryz.isAgg2 (Cel.same y2 hob2 (hm.get 0))) ?_
                        refine Goes.run [38] [] trivial ?_
                        refine Goes.slot 96 (.bool false) (u := .bool (decide (q.2 < -1000000000000000))) (congrArg _ (h4)) ?_
                        refine Goes.run [39, 40, 41, 42] [] trivial ?_
                        refine Goes.valA 43 (Instr.indexAt 80 (.slice (some ⟨b2, o2, none⟩) M c2) (.int .i64 ((0 : Nat) : Int))) (.pointer (some ⟨b2, o2 + 0 * 2, none⟩)) (fun w' _ => idxT b2 o2 M c2 0 (by omega) w') ?_
                        refine Goes.run [44] [] trivial ?_
                        refine Goes.valA 45 (Instr.loadAt 2 (.pointer (some ⟨b2, o2 + 0 * 2 + 1, none⟩))) (.int .i64 q.2) (fun w' hm => load1 Tryz.isAgg2 (Cel.same y2 hob2 (hm.get 0))) ?_
                        refine Goes.run [46] [] trivial ?_
                        refine Goes.slot 104 (.bool false) (u := .bool (decide (q.2 > 1000000000000000))) (congrArg _ (h5)) ?_
                        refine Goes.run [47, 0] [(false, false)] ⟨rfl, trivial⟩ ?_
                        refine Goes.slot 6 (.int .i64 (0 + 1 : Nat)) (u := .int .i64 (IntKind.i64.wrap (((0 : Nat) : Int) + 1))) (congrArg _ (wrap_nat (by omega))) ?_
                        have hgood : (!decide (q.1 ≤ lstD f.2 0) && dayP q.1 && numP q.2) = true := by
                          have e1 := of_decide_eq_false h1; have e2 := of_decide_eq_false h2; have e4 := of_decide_eq_false h4; have e5 := of_decide_eq_false h5
                          have a1 : decide (q.1 ≤ lstD f.2 0) = false := decide_eq_false (by show ¬ q.1 ≤ -1; omega)
                          have a2 : dayP q.1 = true := by unfold dayP; rw [decide_eq_true (by omega), decide_eq_true (by omega)]; rfl
                          have a3 : numP q.2 = true := by unfold numP; rw [decide_eq_true (by omega), decide_eq_true (by omega)]; rfl
                          rw [a1, a2, a3]; rfl
                        exact back2 (0 + 1) _ ⟨by omega, by rw [hst, hdrop, stOk, hgood, Bool.true_and]; rw [show lstD f.2 (0 + 1) = q.1 by simp [lstD, hq]]⟩ (by omega) (by kernel_rfl) (by kernel_rfl) (by kernel_rfl)
              | succ j =>
                obtain ⟨qj, hqj⟩ : ∃ qj, f.2[j]? = some qj := ⟨f.2[j]'(by omega), by simp⟩
                obtain ⟨b9, o9, e9, -, z1, -⟩ := hstm j qj hqj
                cases e9
                have hlast : lstD f.2 (j + 1) = qj.1 := by simp [lstD, hqj]
                refine Goes.openY [] [(b2, ob2)] (fun w' hI => hex1 hob2 hI.1) ?_
                cases h1 : decide (q.1 < 0) with
                | true =>
                  refine Goes.run [0, 1] [] trivial ?_
                  refine Goes.valA 2 (Instr.indexAt 80 (.slice (some ⟨b2, o2, none⟩) M c2) (.int .i64 ((j + 1 : Nat) : Int))) (.pointer (some ⟨b2, o2 + (j + 1) * 2, none⟩)) (fun w' _ => idxT b2 o2 M c2 (j + 1) (by omega) w') ?_
                  refine Goes.run [3] [] trivial ?_
                  refine Goes.valA 4 (Instr.loadAt 3 (.pointer (some ⟨b2, o2 + (j + 1) * 2, none⟩))) (.int .i64 q.1) (fun w' hm => load1 Tryz.isAgg3 (Cel.same y1 hob2 (hm.get 0))) ?_
                  refine Goes.run [5] [] trivial ?_
                  refine Goes.slot 63 (.bool true) (u := .bool (decide (q.1 < 0))) (congrArg _ (h1)) ?_
                  refine Goes.run [6, 7, 8, 9, 10, 11, 12, 13, 14, 15, 16, 17, 18, 19, 20, 21, 22, 23, 24, 25, 26, 27, 28, 29, 30, 31, 32, 33, 34, 35, 36, 37, 38, 39, 40, 41, 42, 43, 44, 45, 46, 47, 1] [(true, true)] ⟨rfl, trivial⟩ ?_
                  have hbad : (!decide (q.1 ≤ lstD f.2 (j + 1)) && dayP q.1 && numP q.2) = false := by
                    rw [Bool.and_eq_false_iff, Bool.and_eq_false_iff]
                    refine .inl (.inr ?_); unfold dayP; have := of_decide_eq_true h1; rw [decide_eq_false (by omega), Bool.false_and]
                  exact Goes.ret [] (.bool false) fun w' hm hI => ⟨by rw [hR, hlen4, hst, hdrop, stOk, hbad]; simp, bel0 hI⟩
                | false =>
                  cases h2 : decide (q.1 > 73048) with
                  | true =>
                    refine Goes.run [0, 1] [] trivial ?_
                    refine Goes.valA 2 (Instr.indexAt 80 (.slice (some ⟨b2, o2, none⟩) M c2) (.int .i64 ((j + 1 : Nat) : Int))) (.pointer (some ⟨b2, o2 + (j + 1) * 2, none⟩)) (fun w' _ => idxT b2 o2 M c2 (j + 1) (by omega) w') ?_
                    refine Goes.run [3] [] trivial ?_
                    refine Goes.valA 4 (Instr.loadAt 3 (.pointer (some ⟨b2, o2 + (j + 1) * 2, none⟩))) (.int .i64 q.1) (fun w' hm => load1 Tryz.isAgg3 (Cel.same y1 hob2 (hm.get 0))) ?_
                    refine Goes.run [5] [] trivial ?_
                    refine Goes.slot 63 (.bool false) (u := .bool (decide (q.1 < 0))) (congrArg _ (h1)) ?_
                    refine Goes.run [6, 7, 8] [] trivial ?_
                    refine Goes.valA 9 (Instr.indexAt 80 (.slice (some ⟨b2, o2, none⟩) M c2) (.int .i64 ((j + 1 : Nat) : Int))) (.pointer (some ⟨b2, o2 + (j + 1) * 2, none⟩)) (fun w' _ => idxT b2 o2 M c2 (j + 1) (by omega) w') ?_
                    refine Goes.run [10] [] trivial ?_
                    refine Goes.valA 11 (Instr.loadAt 3 (.pointer (some ⟨b2, o2 + (j + 1) * 2, none⟩))) (.int .i64 q.1) (fun w' hm => load1 Tryz.isAgg3 (Cel.same y1 hob2 (hm.get 0))) ?_
                    refine Goes.run [12] [] trivial ?_
                    refine Goes.slot 70 (.bool true) (u := .bool (decide (q.1 > 73048))) (congrArg _ (h2)) ?_
                    refine Goes.run [13, 14, 15, 16, 17, 18, 19, 20, 21, 22, 23, 24, 25, 26, 27, 28, 29, 30, 31, 32, 33, 34, 35, 36, 37, 38, 39, 40, 41, 42, 43, 44, 45, 46, 47, 1] [(true, true)] ⟨rfl, trivial⟩ ?_
                    have hbad : (!decide (q.1 ≤ lstD f.2 (j + 1)) && dayP q.1 && numP q.2) = false := by
                      rw [Bool.and_eq_false_iff, Bool.and_eq_false_iff]
                      refine .inl (.inr ?_); unfold dayP; have := of_decide_eq_true h2; rw [Bool.and_eq_false_iff]; exact .inr (decide_eq_false (by omega))
                    exact Goes.ret [] (.bool false) fun w' hm hI => ⟨by rw [hR, hlen4, hst, hdrop, stOk, hbad]; simp, bel0 hI⟩
                  | false =>
                    cases h3 : decide (qj.1 ≥ q.1) with
                    | true =>
                      refine Goes.run [0, 1] [] trivial ?_
                      refine Goes.valA 2 (Instr.indexAt 80 (.slice (some ⟨b2, o2, none⟩) M c2) (.int .i64 ((j + 1 : Nat) : Int))) (.pointer (some ⟨b2, o2 + (j + 1) * 2, none⟩)) (fun w' _ => idxT b2 o2 M c2 (j + 1) (by omega) w') ?_
                      refine Goes.run [3] [] trivial ?_
                      refine Goes.valA 4 (Instr.loadAt 3 (.pointer (some ⟨b2, o2 + (j + 1) * 2, none⟩))) (.int .i64 q.1) (fun w' hm => load1 Tryz.isAgg3 (Cel.same y1 hob2 (hm.get 0))) ?_
                      refine Goes.run [5] [] trivial ?_
                      refine Goes.slot 63 (.bool false) (u := .bool (decide (q.1 < 0))) (congrArg _ (h1)) ?_
                      refine Goes.run [6, 7, 8] [] trivial ?_
                      refine Goes.valA 9 (Instr.indexAt 80 (.slice (some ⟨b2, o2, none⟩) M c2) (.int .i64 ((j + 1 : Nat) : Int))) (.pointer (some ⟨b2, o2 + (j + 1) * 2, none⟩)) (fun w' _ => idxT b2 o2 M c2 (j + 1) (by omega) w') ?_
                      refine Goes.run [10] [] trivial ?_
                      refine Goes.valA 11 (Instr.loadAt 3 (.pointer (some ⟨b2, o2 + (j + 1) * 2, none⟩))) (.int .i64 q.1) (fun w' hm => load1 Tryz.isAgg3 (Cel.same y1 hob2 (hm.get 0))) ?_
                      refine Goes.run [12] [] trivial ?_
                      refine Goes.slot 70 (.bool false) (u := .bool (decide (q.1 > 73048))) (congrArg _ (h2)) ?_
                      refine Goes.run [13, 14, 15, 16] [] trivial ?_
                      refine Goes.slot 74 (.bool true) (u := .bool (decide (((j + 1 : Nat) : Int) > 0))) (congrArg _ (decide_eq_true (by omega))) ?_
                      refine Goes.run [17, 18, 19, 20] [] trivial ?_
                      refine Goes.slot 78 (.int .i64 (j : Int)) (u := .int .i64 (IntKind.i64.wrap (((j + 1 : Nat) : Int) - 1))) (congrArg _ (by rw [IntWalk.i64_in _ ⟨by omega, by omega⟩]; omega)) ?_
                      refine Goes.valA 21 (Instr.indexAt 80 (.slice (some ⟨b2, o2, none⟩) M c2) (.int .i64 (j : Int))) (.pointer (some ⟨b2, o2 + j * 2, none⟩)) (fun w' _ => idxT b2 o2 M c2 j (by omega) w') ?_
                      refine Goes.run [22] [] trivial ?_
                      refine Goes.valA 23 (Instr.loadAt 3 (.pointer (some ⟨b2, o2 + j * 2, none⟩))) (.int .i64 qj.1) (fun w' hm => load1 Tryz.isAgg3 (Cel.same z1 hob2 (hm.get 0))) ?_
                      refine Goes.run [24, 25] [] trivial ?_
                      refine Goes.valA 26 (Instr.indexAt 80 (.slice (some ⟨b2, o2, none⟩) M c2) (.int .i64 ((j + 1 : Nat) : Int))) (.pointer (some ⟨b2, o2 + (j + 1) * 2, none⟩)) (fun w' _ => idxT b2 o2 M c2 (j + 1) (by omega) w') ?_
                      refine Goes.run [27] [] trivial ?_
                      refine Goes.valA 28 (Instr.loadAt 3 (.pointer (some ⟨b2, o2 + (j + 1) * 2, none⟩))) (.int .i64 q.1) (fun w' hm => load1 Tryz.isAgg3 (Cel.same y1 hob2 (hm.get 0))) ?_
                      refine Goes.run [29] [] trivial ?_
                      refine Goes.slot 87 (.bool true) (u := .bool (decide (qj.1 ≥ q.1))) (congrArg _ (h3)) ?_
                      refine Goes.run [30, 31, 32, 33, 34, 35, 36, 37, 38, 39, 40, 41, 42, 43, 44, 45, 46, 47, 1] [(true, true)] ⟨rfl, trivial⟩ ?_
                      have hbad : (!decide (q.1 ≤ lstD f.2 (j + 1)) && dayP q.1 && numP q.2) = false := by
                        rw [Bool.and_eq_false_iff, Bool.and_eq_false_iff]
                        refine .inl (.inl ?_); rw [hlast]; have := of_decide_eq_true h3; rw [decide_eq_true (by omega)]; rfl
                      exact Goes.ret [] (.bool false) fun w' hm hI => ⟨by rw [hR, hlen4, hst, hdrop, stOk, hbad]; simp, bel0 hI⟩
                    | false =>
                      cases h4 : decide (q.2 < -1000000000000000) with
                      | true =>
                        refine Goes.run [0, 1] [] trivial ?_
                        refine Goes.valA 2 (Instr.indexAt 80 (.slice (some ⟨b2, o2, none⟩) M c2) (.int .i64 ((j + 1 : Nat) : Int))) (.pointer (some ⟨b2, o2 + (j + 1) * 2, none⟩)) (fun w' _ => idxT b2 o2 M c2 (j + 1) (by omega) w') ?_
                        refine Goes.run [3] [] trivial ?_
                        refine Goes.valA 4 (Instr.loadAt 3 (.pointer (some ⟨b2, o2 + (j + 1) * 2, none⟩))) (.int .i64 q.1) (fun w' hm => load1 Tryz.isAgg3 (Cel.same y1 hob2 (hm.get 0))) ?_
                        refine Goes.run [5] [] trivial ?_
                        refine Goes.slot 63 (.bool false) (u := .bool (decide (q.1 < 0))) (congrArg _ (h1)) ?_
                        refine Goes.run [6, 7, 8] [] trivial ?_
                        refine Goes.valA 9 (Instr.indexAt 80 (.slice (some ⟨b2, o2, none⟩) M c2) (.int .i64 ((j + 1 : Nat) : Int))) (.pointer (some ⟨b2, o2 + (j + 1) * 2, none⟩)) (fun w' _ => idxT b2 o2 M c2 (j + 1) (by omega) w') ?_
                        refine Goes.run [10] [] trivial ?_
                        refine Goes.valA 11 (Instr.loadAt 3 (.pointer (some ⟨b2, o2 + (j + 1) * 2, none⟩))) (.int .i64 q.1) (fun w' hm => load1 Tryz.isAgg3 (Cel.same y1 hob2 (hm.get 0))) ?_
                        refine Goes.run [12] [] trivial ?_
                        refine Goes.slot 70 (.bool false) (u := .bool (decide (q.1 > 73048))) (congrArg _ (h2)) ?_
                        refine Goes.run [13, 14, 15, 16] [] trivial ?_
                        refine Goes.slot 74 (.bool true) (u := .bool (decide (((j + 1 : Nat) : Int) > 0))) (congrArg _ (decide_eq_true (by omega))) ?_
                        refine Goes.run [17, 18, 19, 20] [] trivial ?_
                        refine Goes.slot 78 (.int .i64 (j : Int)) (u := .int .i64 (IntKind.i64.wrap (((j + 1 : Nat) : Int) - 1))) (congrArg _ (by rw [IntWalk.i64_in _ ⟨by omega, by omega⟩]; omega)) ?_
                        refine Goes.valA 21 (Instr.indexAt 80 (.slice (some ⟨b2, o2, none⟩) M c2) (.int .i64 (j : Int))) (.pointer (some ⟨b2, o2 + j * 2, none⟩)) (fun w' _ => idxT b2 o2 M c2 j (by omega) w') ?_
                        refine Goes.run [22] [] trivial ?_
                        refine Goes.valA 23 (Instr.loadAt 3 (.pointer (some ⟨b2, o2 + j * 2, none⟩))) (.int .i64 qj.1) (fun w' hm => load1 Tryz.isAgg3 (Cel.same z1 hob2 (hm.get 0))) ?_
                        refine Goes.run [24, 25] [] trivial ?_
                        refine Goes.valA 26 (Instr.indexAt 80 (.slice (some ⟨b2, o2, none⟩) M c2) (.int .i64 ((j + 1 : Nat) : Int))) (.pointer (some ⟨b2, o2 + (j + 1) * 2, none⟩)) (fun w' _ => idxT b2 o2 M c2 (j + 1) (by omega) w') ?_
                        refine Goes.run [27] [] trivial ?_
                        refine Goes.valA 28 (Instr.loadAt 3 (.pointer (some ⟨b2, o2 + (j + 1) * 2, none⟩))) (.int .i64 q.1) (fun w' hm => load1 Tryz.isAgg3 (Cel.same y1 hob2 (hm.get 0))) ?_
                        refine Goes.run [29] [] trivial ?_
                        refine Goes.slot 87 (.bool false) (u := .bool (decide (qj.1 ≥ q.1))) (congrArg _ (h3)) ?_
                        refine Goes.run [30, 31, 32, 33, 34] [] trivial ?_
                        refine Goes.valA 35 (Instr.indexAt 80 (.slice (some ⟨b2, o2, none⟩) M c2) (.int .i64 ((j + 1 : Nat) : Int))) (.pointer (some ⟨b2, o2 + (j + 1) * 2, none⟩)) (fun w' _ => idxT b2 o2 M c2 (j + 1) (by omega) w') ?_
                        refine Goes.run [36] [] trivial ?_
                        refine Goes.valA 37 (Instr.loadAt 2 (.pointer (some ⟨b2, o2 + (j + 1) * 2 + 1, none⟩))) (.int .i64 q.2) (fun w' hm => load1 Tryz.isAgg2 (Cel.same y2 hob2 (hm.get 0))) ?_
                        refine Goes.run [38] [] trivial ?_
                        refine Goes.slot 96 (.bool true) (u := .bool (decide (q.2 < -1000000000000000))) (congrArg _ (h4)) ?_
                        refine Goes.run [39, 40, 41, 42, 43, 44, 45, 46, 47, 1] [(true, true)] ⟨rfl, trivial⟩ ?_
                        have hbad : (!decide (q.1 ≤ lstD f.2 (j + 1)) && dayP q.1 && numP q.2) = false := by
                          rw [Bool.and_eq_false_iff, Bool.and_eq_false_iff]
                          refine .inr ?_; unfold numP; have := of_decide_eq_true h4; rw [decide_eq_false (by omega), Bool.false_and]
                        exact Goes.ret [] (.bool false) fun w' hm hI => ⟨by rw [hR, hlen4, hst, hdrop, stOk, hbad]; simp, bel0 hI⟩
                      | false =>
                        cases h5 : decide (q.2 > 1000000000000000) with
                        | true =>
                          refine Goes.run [0, 1] [] trivial ?_
                          refine Goes.valA 2 (Instr.indexAt 80 (.slice (some ⟨b2, o2, none⟩) M c2) (.int .i64 ((j + 1 : Nat) : Int))) (.pointer (some ⟨b2, o2 + (j + 1) * 2, none⟩)) (fun w' _ => idxT b2 o2 M c2 (j + 1) (by omega) w') ?_
                          refine Goes.run [3] [] trivial ?_
                          refine Goes.valA 4 (Instr.loadAt 3 (.pointer (some ⟨b2, o2 + (j + 1) * 2, none⟩))) (.int .i64 q.1) (fun w' hm => load1 Tryz.isAgg3 (Cel.same y1 hob2 (hm.get 0))) ?_
                          refine Goes.run [5] [] trivial ?_
                          refine Goes.slot 63 (.bool false) (u := .bool (decide (q.1 < 0))) (congrArg _ (h1)) ?_
                          refine Goes.run [6, 7, 8] [] trivial ?_
                          refine Goes.valA 9 (Instr.indexAt 80 (.slice (some ⟨b2, o2, none⟩) M c2) (.int .i64 ((j + 1 : Nat) : Int))) (.pointer (some ⟨b2, o2 + (j + 1) * 2, none⟩)) (fun w' _ => idxT b2 o2 M c2 (j + 1) (by omega) w') ?_
                          refine Goes.run [10] [] trivial ?_
                          refine Goes.valA 11 (Instr.loadAt 3 (.pointer (some ⟨b2, o2 + (j + 1) * 2, none⟩))) (.int .i64 q.1) (fun w' hm => load1 Tryz.isAgg3 (Cel.same y1 hob2 (hm.get 0))) ?_
                          refine Goes.run [12] [] trivial ?_
                          refine Goes.slot 70 (.bool false) (u := .bool (decide (q.1 > 73048))) (congrArg _ (h2)) ?_
                          refine Goes.run [13, 14, 15, 16] [] trivial ?_
                          refine Goes.slot 74 (.bool true) (u := .bool (decide (((j + 1 : Nat) : Int) > 0))) (congrArg _ (decide_eq_true (by omega))) ?_
                          refine Goes.run [17, 18, 19, 20] [] trivial ?_
                          refine Goes.slot 78 (.int .i64 (j : Int)) (u := .int .i64 (IntKind.i64.wrap (((j + 1 : Nat) : Int) - 1))) (congrArg _ (by rw [IntWalk.i64_in _ ⟨by omega, by omega⟩]; omega)) ?_
                          refine Goes.valA 21 (Instr.indexAt 80 (.slice (some ⟨b2, o2, none⟩) M c2) (.int .i64 (j : Int))) (.pointer (some ⟨b2, o2 + j * 2, none⟩)) (fun w' _ => idxT b2 o2 M c2 j (by omega) w') ?_
                          refine Goes.run [22] [] trivial ?_
                          refine Goes.valA 23 (Instr.loadAt 3 (.pointer (some ⟨b2, o2 + j * 2, none⟩))) (.int .i64 qj.1) (fun w' hm => load1 Tryz.isAgg3 (Cel.same z1 hob2 (hm.get 0))) ?_
                          refine Goes.run [24, 25] [] trivial ?_
                          refine Goes.valA 26 (Instr.indexAt 80 (.slice (some ⟨b2, o2, none⟩) M c2) (.int .i64 ((j + 1 : Nat) : Int))) (.pointer (some ⟨b2, o2 + (j + 1) * 2, none⟩)) (fun w' _ => idxT b2 o2 M c2 (j + 1) (by omega) w') ?_
                          refine Goes.run [27] [] trivial ?_
                          refine Goes.valA 28 (Instr.loadAt 3 (.pointer (some ⟨b2, o2 + (j + 1) * 2, none⟩))) (.int .i64 q.1) (fun w' hm => load1 Tryz.isAgg3 (Cel.same y1 hob2 (hm.get 0))) ?_
                          refine Goes.run [29] [] trivial ?_
                          refine Goes.slot 87 (.bool false) (u := .bool (decide (qj.1 ≥ q.1))) (congrArg _ (h3)) ?_
                          refine Goes.run [30, 31, 32, 33, 34] [] trivial ?_
                          refine Goes.valA 35 (Instr.indexAt 80 (.slice (some ⟨b2, o2, none⟩) M c2) (.int .i64 ((j + 1 : Nat) : Int))) (.pointer (some ⟨b2, o2 + (j + 1) * 2, none⟩)) (fun w' _ => idxT b2 o2 M c2 (j + 1) (by omega) w') ?_
                          refine Goes.run [36] [] trivial ?_
                          refine Goes.valA 37 (Instr.loadAt 2 (.pointer (some ⟨b2, o2 + (j + 1) * 2 + 1, none⟩))) (.int .i64 q.2) (fun w' hm => load1 Tryz.isAgg2 (Cel.same y2 hob2 (hm.get 0))) ?_
                          refine Goes.run [38] [] trivial ?_
                          refine Goes.slot 96 (.bool false) (u := .bool (decide (q.2 < -1000000000000000))) (congrArg _ (h4)) ?_
                          refine Goes.run [39, 40, 41, 42] [] trivial ?_
                          refine Goes.valA 43 (Instr.indexAt 80 (.slice (some ⟨b2, o2, none⟩) M c2) (.int .i64 ((j + 1 : Nat) : Int))) (.pointer (some ⟨b2, o2 + (j + 1) * 2, none⟩)) (fun w' _ => idxT b2 o2 M c2 (j + 1) (by omega) w') ?_
                          refine Goes.run [44] [] trivial ?_
                          refine Goes.valA 45 (Instr.loadAt 2 (.pointer (some ⟨b2, o2 + (j + 1) * 2 + 1, none⟩))) (.int .i64 q.2) (fun w' hm => load1 Tryz.isAgg2 (Cel.same y2 hob2 (hm.get 0))) ?_
                          refine Goes.run [46] [] trivial ?_
                          refine Goes.slot 104 (.bool true) (u := .bool (decide (q.2 > 1000000000000000))) (congrArg _ (h5)) ?_
                          refine Goes.run [47, 1] [(true, true)] ⟨rfl, trivial⟩ ?_
                          have hbad : (!decide (q.1 ≤ lstD f.2 (j + 1)) && dayP q.1 && numP q.2) = false := by
                            rw [Bool.and_eq_false_iff, Bool.and_eq_false_iff]
                            refine .inr ?_; unfold numP; have := of_decide_eq_true h5; rw [Bool.and_eq_false_iff]; exact .inr (decide_eq_false (by omega))
                          exact Goes.ret [] (.bool false) fun w' hm hI => ⟨by rw [hR, hlen4, hst, hdrop, stOk, hbad]; simp, bel0 hI⟩
                        | false =>
                          refine Goes.run [0, 1] [] trivial ?_
                          refine Goes.valA 2 (Instr.indexAt 80 (.slice (some ⟨b2, o2, none⟩) M c2) (.int .i64 ((j + 1 : Nat) : Int))) (.pointer (some ⟨b2, o2 + (j + 1) * 2, none⟩)) (fun w' _ => idxT b2 o2 M c2 (j + 1) (by omega) w') ?_
                          refine Goes.run [3] [] trivial ?_
                          refine Goes.valA 4 (Instr.loadAt 3 (.pointer (some ⟨b2, o2 + (j + 1) * 2, none⟩))) (.int .i64 q.1) (fun w' hm => load1 Tryz.isAgg3 (Cel.same y1 hob2 (hm.get 0))) ?_
                          refine Goes.run [5] [] trivial ?_
                          refine Goes.slot 63 (.bool false) (u := .bool (decide (q.1 < 0))) (congrArg _ (h1)) ?_
                          refine Goes.run [6, 7, 8] [] trivial ?_
                          refine Goes.valA 9 (Instr.indexAt 80 (.slice (some ⟨b2, o2, none⟩) M c2) (.int .i64 ((j + 1 : Nat) : Int))) (.pointer (some ⟨b2, o2 + (j + 1) * 2, none⟩)) (fun w' _ => idxT b2 o2 M c2 (j + 1) (by omega) w') ?_
                          refine Goes.run [10] [] trivial ?_
                          refine Goes.valA 11 (Instr.loadAt 3 (.pointer (some ⟨b2, o2 + (j + 1) * 2, none⟩))) (.int .i64 q.1) (fun w' hm => load1 Tryz.isAgg3 (Cel.same y1 hob2 (hm.get 0))) ?_
                          refine Goes.run [12] [] trivial ?_
                          refine Goes.slot 70 (.bool false) (u := .bool (decide (q.1 > 73048))) (congrArg _ (h2)) ?_
                          refine Goes.run [13, 14, 15, 16] [] trivial ?_
                          refine Goes.slot 74 (.bool true) (u := .bool (decide (((j + 1 : Nat) : Int) > 0))) (congrArg _ (decide_eq_true (by omega))) ?_
                          refine Goes.run [17, 18, 19, 20] [] trivial ?_
                          refine Goes.slot 78 (.int .i64 (j : Int)) (u := .int .i64 (IntKind.i64.wrap (((j + 1 : Nat) : Int) - 1))) (congrArg _ (by rw [IntWalk.i64_in _ ⟨by omega, by omega⟩]; omega)) ?_
                          refine Goes.valA 21 (Instr.indexAt 80 (.slice (some ⟨b2, o2, none⟩) M c2) (.int .i64 (j : Int))) (.pointer (some ⟨b2, o2 + j * 2, none⟩)) (fun w' _ => idxT b2 o2 M c2 j (by omega) w') ?_
                          refine Goes.run [22] [] trivial ?_
                          refine Goes.valA 23 (Instr.loadAt 3 (.pointer (some ⟨b2, o2 + j * 2, none⟩))) (.int .i64 qj.1) (fun w' hm => load1 Tryz.isAgg3 (Cel.same z1 hob2 (hm.get 0))) ?_
                          refine Goes.run [24, 25] [] trivial ?_
                          refine Goes.valA 26 (Instr.indexAt 80 (.slice (some ⟨b2, o2, none⟩) M c2) (.int .i64 ((j + 1 : Nat) : Int))) (.pointer (some ⟨b2, o2 + (j + 1) * 2, none⟩)) (fun w' _ => idxT b2 o2 M c2 (j + 1) (by omega) w') ?_
                          refine Goes.run [27] [] trivial ?_
                          refine Goes.valA 28 (Instr.loadAt 3 (.pointer (some ⟨b2, o2 + (j + 1) * 2, none⟩))) (.int .i64 q.1) (fun w' hm => load1 Tryz.isAgg3 (Cel.same y1 hob2 (hm.get 0))) ?_
                          refine Goes.run [29] [] trivial ?_
                          refine Goes.slot 87 (.bool false) (u := .bool (decide (qj.1 ≥ q.1))) (congrArg _ (h3)) ?_
                          refine Goes.run [30, 31, 32, 33, 34] [] trivial ?_
                          refine Goes.valA 35 (Instr.indexAt 80 (.slice (some ⟨b2, o2, none⟩) M c2) (.int .i64 ((j + 1 : Nat) : Int))) (.pointer (some ⟨b2, o2 + (j + 1) * 2, none⟩)) (fun w' _ => idxT b2 o2 M c2 (j + 1) (by omega) w') ?_
                          refine Goes.run [36] [] trivial ?_
                          refine Goes.valA 37 (Instr.loadAt 2 (.pointer (some ⟨b2, o2 + (j + 1) * 2 + 1, none⟩))) (.int .i64 q.2) (fun w' hm => load1 Tryz.isAgg2 (Cel.same y2 hob2 (hm.get 0))) ?_
                          refine Goes.run [38] [] trivial ?_
                          refine Goes.slot 96 (.bool false) (u := .bool (decide (q.2 < -1000000000000000))) (congrArg _ (h4)) ?_
                          refine Goes.run [39, 40, 41, 42] [] trivial ?_
                          refine Goes.valA 43 (Instr.indexAt 80 (.slice (some ⟨b2, o2, none⟩) M c2) (.int .i64 ((j + 1 : Nat) : Int))) (.pointer (some ⟨b2, o2 + (j + 1) * 2, none⟩)) (fun w' _ => idxT b2 o2 M c2 (j + 1) (by omega) w') ?_
                          refine Goes.run [44] [] trivial ?_
                          refine Goes.valA 45 (Instr.loadAt 2 (.pointer (some ⟨b2, o2 + (j + 1) * 2 + 1, none⟩))) (.int .i64 q.2) (fun w' hm => load1 Tryz.isAgg2 (Cel.same y2 hob2 (hm.get 0))) ?_
                          refine Goes.run [46] [] trivial ?_
                          refine Goes.slot 104 (.bool false) (u := .bool (decide (q.2 > 1000000000000000))) (congrArg _ (h5)) ?_
                          refine Goes.run [47, 0] [(false, false)] ⟨rfl, trivial⟩ ?_
                          refine Goes.slot 6 (.int .i64 ((j + 1) + 1 : Nat)) (u := .int .i64 (IntKind.i64.wrap ((((j + 1) : Nat) : Int) + 1))) (congrArg _ (wrap_nat (by omega))) ?_
                          have hgood : (!decide (q.1 ≤ lstD f.2 (j + 1)) && dayP q.1 && numP q.2) = true := by
                            have e1 := of_decide_eq_false h1; have e2 := of_decide_eq_false h2; have e4 := of_decide_eq_false h4; have e5 := of_decide_eq_false h5
                            have a1 : decide (q.1 ≤ lstD f.2 (j + 1)) = false := decide_eq_false (by rw [hlast]; have := of_decide_eq_false h3; omega)
                            have a2 : dayP q.1 = true := by unfold dayP; rw [decide_eq_true (by omega), decide_eq_true (by omega)]; rfl
                            have a3 : numP q.2 = true := by unfold numP; rw [decide_eq_true (by omega), decide_eq_true (by omega)]; rfl
                            rw [a1, a2, a3]; rfl
                          exact back2 ((j + 1) + 1) _ ⟨by omega, by rw [hst, hdrop, stOk, hgood, Bool.true_and]; rw [show lstD f.2 ((j + 1) + 1) = q.1 by simp [lstD, hq]]⟩ (by omega) (by kernel_rfl) (by kernel_rfl) (by kernel_rfl)
      | succ j =>
        obtain ⟨fj, hfj⟩ : ∃ fj, fs[j]? = some fj := ⟨fs[j]'(by omega), by simp⟩
        obtain ⟨b9, o9, u9, e9, -, zf, -⟩ := hfs j fj hfj
        cases e9
        have hlastN : lstN fs (j + 1) = fj.1 := by simp [lstN, hfj]
        refine Goes.run [0, 1] [(decide (((j + 1 : Nat) : Int) < (N : Int)), true)] ⟨hlt, trivial⟩ ?_
        refine Goes.val (Instr.indexAt 38 (.slice (some ⟨b, o, none⟩) N c) (.int .i64 ((j + 1 : Nat) : Int))) (.pointer (some ⟨b, o + (j + 1) * 2, none⟩)) (fun w' _ _ => idxF b o N c (j + 1) hil w') ?_
        refine Goes.run [] [] trivial ?_
        refine Goes.val (Instr.loadAt 9 (.pointer (some ⟨b, o + (j + 1) * 2, none⟩))) (strV f.1) (fun w' _ hI => load1 Tryz.isAgg9 (((bel0 hI).cell (p := ⟨b, o + (j + 1) * 2, none⟩) hb).trans x1)) ?_
        refine Goes.call0 41 #[strV f.1] (.bool (namP f.1)) (fun w' _ _ => rname_any f.1 w' (hl f (List.mem_of_getElem? hf))) ?_
        refine Goes.run [] [] trivial ?_
        refine Goes.val (Instr.indexAt 38 (.slice (some ⟨b, o, none⟩) N c) (.int .i64 ((j + 1 : Nat) : Int))) (.pointer (some ⟨b, o + (j + 1) * 2, none⟩)) (fun w' _ _ => idxF b o N c (j + 1) hil w') ?_
        refine Goes.run [] [] trivial ?_
        refine Goes.val (Instr.loadAt 80 (.pointer (some ⟨b, o + (j + 1) * 2 + 1, none⟩))) (.slice a2 M c2) (fun w' _ hI => load1 Tryz.isAgg80 (((bel0 hI).cell (p := ⟨b, o + (j + 1) * 2 + 1, none⟩) hb).trans x2)) ?_
        refine Goes.run [] [] trivial ?_
        refine Goes.openY [] [(b, ob)] (fun w' hI => hex1 hob hI.1) ?_
        cases hnm : namP f.1 with
        | false =>
          refine Goes.run [0, 1, 2, 3, 4, 5, 6, 7, 8, 9, 10, 11, 12, 13, 14, 15, 16, 17, 18, 19, 20, 21, 22, 23, 24, 1] [(true, true)] ⟨rfl, trivial⟩ ?_
          exact Goes.ret [] (.bool false) fun w' hm hI => ⟨by rw [hR, hnm]; simp, bel0 hI⟩
        | true =>
          cases hlt2 : decide (fj.1 < f.1) with
          | false =>
            refine Goes.run [0, 1, 2, 3, 4] [] trivial ?_
            refine Goes.slot 31 (.bool true) (u := .bool (decide (((j + 1 : Nat) : Int) > 0))) (congrArg _ (decide_eq_true (by omega))) ?_
            refine Goes.run [5, 6, 7, 8] [] trivial ?_
            refine Goes.slot 35 (.int .i64 (j : Int)) (u := .int .i64 (IntKind.i64.wrap (((j + 1 : Nat) : Int) - 1))) (congrArg _ (by rw [IntWalk.i64_in _ ⟨by omega, by omega⟩]; omega)) ?_
            refine Goes.valA 9 (Instr.indexAt 38 (.slice (some ⟨b, o, none⟩) N c) (.int .i64 (j : Int))) (.pointer (some ⟨b, o + j * 2, none⟩)) (fun w' _ => idxF b o N c j (by omega) w') ?_
            refine Goes.run [10] [] trivial ?_
            refine Goes.valA 11 (Instr.loadAt 9 (.pointer (some ⟨b, o + j * 2, none⟩))) (strV fj.1) (fun w' hm => load1 Tryz.isAgg9 (Cel.same zf hob (hm.get 0))) ?_
            refine Goes.run [12, 13] [] trivial ?_
            refine Goes.valA 14 (Instr.indexAt 38 (.slice (some ⟨b, o, none⟩) N c) (.int .i64 ((j + 1 : Nat) : Int))) (.pointer (some ⟨b, o + (j + 1) * 2, none⟩)) (fun w' _ => idxF b o N c (j + 1) (by omega) w') ?_
            refine Goes.run [15] [] trivial ?_
            refine Goes.valA 16 (Instr.loadAt 9 (.pointer (some ⟨b, o + (j + 1) * 2, none⟩))) (strV f.1) (fun w' hm => load1 Tryz.isAgg9 (Cel.same x1 hob (hm.get 0))) ?_
            refine Goes.valA 17 (binOp .geq 9 (strV fj.1) (strV f.1)) (.bool (!(decide (fj.1 < f.1)))) (fun w' _ => geqT fj.1 f.1 w') ?_
            refine Goes.slot 44 (.bool true) (u := .bool (!(decide (fj.1 < f.1)))) (congrArg _ (by rw [hlt2]; rfl)) ?_
            refine Goes.run [18, 19, 20, 21, 22, 23, 24, 1] [(true, true)] ⟨rfl, trivial⟩ ?_
            exact Goes.ret [] (.bool false) fun w' hm hI => ⟨by rw [hR, hlastN, hlt2]; simp, bel0 hI⟩
          | true =>
            have hfst : decide (lstN fs (j + 1) < f.1) = true := by rw [hlastN]; exact hlt2
            rw [hfst, hnm] at hR
            cases hM4 : decide ((M : Int) > 4096) with
            | true =>
              refine Goes.run [0, 1, 2, 3, 4] [] trivial ?_
              refine Goes.slot 31 (.bool true) (u := .bool (decide (((j + 1 : Nat) : Int) > 0))) (congrArg _ (decide_eq_true (by omega))) ?_
              refine Goes.run [5, 6, 7, 8] [] trivial ?_
              refine Goes.slot 35 (.int .i64 (j : Int)) (u := .int .i64 (IntKind.i64.wrap (((j + 1 : Nat) : Int) - 1))) (congrArg _ (by rw [IntWalk.i64_in _ ⟨by omega, by omega⟩]; omega)) ?_
              refine Goes.valA 9 (Instr.indexAt 38 (.slice (some ⟨b, o, none⟩) N c) (.int .i64 (j : Int))) (.pointer (some ⟨b, o + j * 2, none⟩)) (fun w' _ => idxF b o N c j (by omega) w') ?_
              refine Goes.run [10] [] trivial ?_
              refine Goes.valA 11 (Instr.loadAt 9 (.pointer (some ⟨b, o + j * 2, none⟩))) (strV fj.1) (fun w' hm => load1 Tryz.isAgg9 (Cel.same zf hob (hm.get 0))) ?_
              refine Goes.run [12, 13] [] trivial ?_
              refine Goes.valA 14 (Instr.indexAt 38 (.slice (some ⟨b, o, none⟩) N c) (.int .i64 ((j + 1 : Nat) : Int))) (.pointer (some ⟨b, o + (j + 1) * 2, none⟩)) (fun w' _ => idxF b o N c (j + 1) (by omega) w') ?_
              refine Goes.run [15] [] trivial ?_
              refine Goes.valA 16 (Instr.loadAt 9 (.pointer (some ⟨b, o + (j + 1) * 2, none⟩))) (strV f.1) (fun w' hm => load1 Tryz.isAgg9 (Cel.same x1 hob (hm.get 0))) ?_
              refine Goes.valA 17 (binOp .geq 9 (strV fj.1) (strV f.1)) (.bool (!(decide (fj.1 < f.1)))) (fun w' _ => geqT fj.1 f.1 w') ?_
              refine Goes.slot 44 (.bool false) (u := .bool (!(decide (fj.1 < f.1)))) (congrArg _ (by rw [hlt2]; rfl)) ?_
              refine Goes.run [18, 19, 20, 21, 22, 23, 24, 1] [(decide ((M : Int) > 4096), true)] ⟨hM4, trivial⟩ ?_
              exact Goes.ret [] (.bool false) fun w' hm hI => ⟨by rw [hR]; unfold stmP; rw [hM, decide_eq_false (by have := of_decide_eq_true hM4; omega)]; simp, bel0 hI⟩
            | false =>
              refine Goes.run [0, 1, 2, 3, 4] [] trivial ?_
              refine Goes.slot 31 (.bool true) (u := .bool (decide (((j + 1 : Nat) : Int) > 0))) (congrArg _ (decide_eq_true (by omega))) ?_
              refine Goes.run [5, 6, 7, 8] [] trivial ?_
              refine Goes.slot 35 (.int .i64 (j : Int)) (u := .int .i64 (IntKind.i64.wrap (((j + 1 : Nat) : Int) - 1))) (congrArg _ (by rw [IntWalk.i64_in _ ⟨by omega, by omega⟩]; omega)) ?_
              refine Goes.valA 9 (Instr.indexAt 38 (.slice (some ⟨b, o, none⟩) N c) (.int .i64 (j : Int))) (.pointer (some ⟨b, o + j * 2, none⟩)) (fun w' _ => idxF b o N c j (by omega) w') ?_
              refine Goes.run [10] [] trivial ?_
              refine Goes.valA 11 (Instr.loadAt 9 (.pointer (some ⟨b, o + j * 2, none⟩))) (strV fj.1) (fun w' hm => load1 Tryz.isAgg9 (Cel.same zf hob (hm.get 0))) ?_
              refine Goes.run [12, 13] [] trivial ?_
              refine Goes.valA 14 (Instr.indexAt 38 (.slice (some ⟨b, o, none⟩) N c) (.int .i64 ((j + 1 : Nat) : Int))) (.pointer (some ⟨b, o + (j + 1) * 2, none⟩)) (fun w' _ => idxF b o N c (j + 1) (by omega) w') ?_
              refine Goes.run [15] [] trivial ?_
              refine Goes.valA 16 (Instr.loadAt 9 (.pointer (some ⟨b, o + (j + 1) * 2, none⟩))) (strV f.1) (fun w' hm => load1 Tryz.isAgg9 (Cel.same x1 hob (hm.get 0))) ?_
              refine Goes.valA 17 (binOp .geq 9 (strV fj.1) (strV f.1)) (.bool (!(decide (fj.1 < f.1)))) (fun w' _ => geqT fj.1 f.1 w') ?_
              refine Goes.slot 44 (.bool false) (u := .bool (!(decide (fj.1 < f.1)))) (congrArg _ (by rw [hlt2]; rfl)) ?_
              refine Goes.run [18, 19, 20, 21, 22, 23, 24, 0] [(decide ((M : Int) > 4096), false)] ⟨hM4, trivial⟩ ?_
              have hlen4 : stmP f.2 = stOk (-1) f.2 := by unfold stmP; rw [hM, decide_eq_true (by have := of_decide_eq_false hM4; omega), Bool.true_and]
              refine Goes.loop0 (α := Nat) 106 (fun k => [(0, .slice (some ⟨b, o, none⟩) N c), (3, .int .i64 ((j + 1 : Nat) : Int)), (5, .slice a2 M c2), (6, .int .i64 k)]) [] (fun k => k ≤ M ∧ stOk (-1) f.2 = stOk (lstD f.2 k) (f.2.drop k)) (fun k => M - k) 0 ⟨Nat.zero_le _, rfl⟩ ?_
              rintro k J2 ⟨hkM, hst⟩ back2
              cases hkl : decide ((k : Int) < (M : Int)) with
              | false =>
                refine Goes.run [0, 0] [(decide ((k : Int) < (M : Int)), false)] ⟨hkl, trivial⟩ ?_
                refine Goes.slot 3 (.int .i64 ((j + 1) + 1 : Nat)) (u := .int .i64 (IntKind.i64.wrap (((j + 1 : Nat) : Int) + 1))) (congrArg _ (wrap_nat (by omega))) ?_
                exact back ((j + 1) + 1) _ ⟨hil, by rw [hR, hlen4, hst, List.drop_of_length_le (by have := of_decide_eq_false hkl; omega), stOk]; simp [lstN, hf]⟩ (by omega) (by kernel_rfl) (by kernel_rfl) (by kernel_rfl)
              | true =>
                have hkl' : k < M := by have := of_decide_eq_true hkl; omega
                obtain ⟨q, hq⟩ : ∃ q, f.2[k]? = some q := ⟨f.2[k]'(by omega), by simp⟩
                obtain ⟨b2, o2, rfl, hb2, y1, y2⟩ := hstm k q hq
                obtain ⟨ob2, hob2⟩ := blk_of hb2
                have hdrop := drop_any hq
                refine Goes.run [0, 1] [(decide ((k : Int) < (M : Int)), true)] ⟨hkl, trivial⟩ ?_
                cases k with
                | zero =>
                  refine Goes.openY [] [(b2, ob2)] (fun w' hI => hex1 hob2 hI.1) ?_
                  cases h1 : decide (q.1 < 0) with
                  | true =>
                    refine Goes.run [0, 1] [] trivial ?_
                    refine Goes.valA 2 (Instr.indexAt 80 (.slice (some ⟨b2, o2, none⟩) M c2) (.int .i64 ((0 : Nat) : Int))) (.pointer (some ⟨b2, o2 + 0 * 2, none⟩)) (fun w' _ => idxT b2 o2 M c2 0 (by omega) w') ?_
                    refine Goes.run [3] [] trivial ?_
                    refine Goes.valA 4 (Instr.loadAt 3 (.pointer (some ⟨b2, o2 + 0 * 2, none⟩))) (.int .i64 q.1) (fun w' hm => load1 Tryz.isAgg3 (Cel.same y1 hob2 (hm.get 0))) ?_
                    refine Goes.run [5] [] trivial ?_
                    refine Goes.slot 63 (.bool true) (u := .bool (decide (q.1 < 0))) (congrArg _ (h1)) ?_
                    refine Goes.run [6, 7, 8, 9, 10, 11, 12, 13, 14, 15, 16, 17, 18, 19, 20, 21, 22, 23, 24, 25, 26, 27, 28, 29, 30, 31, 32, 33, 34, 35, 36, 37, 38, 39, 40, 41, 42, 43, 44, 45, 46, 47, 1] [(true, true)] ⟨rfl, trivial⟩ ?_
                    have hbad : (!decide (q.1 ≤ lstD f.2 0) && dayP q.1 && numP q.2) = false := by
                      rw [Bool.and_eq_false_iff, Bool.and_eq_false_iff]
                      refine .inl (.inr ?_); unfold dayP; have := of_decide_eq_true h1; rw [decide_eq_false (by omega), Bool.false_and]
                    exact Goes.ret [] (.bool false) fun w' hm hI => ⟨by rw [hR, hlen4, hst, hdrop, stOk, hbad]; simp, bel0 hI⟩
                  | false =>
                    cases h2 : decide (q.1 > 73048) with
                    | true =>
                      refine Goes.run [0, 1] [] trivial ?_
                      refine Goes.valA 2 (Instr.indexAt 80 (.slice (some ⟨b2, o2, none⟩) M c2) (.int .i64 ((0 : Nat) : Int))) (.pointer (some ⟨b2, o2 + 0 * 2, none⟩)) (fun w' _ => idxT b2 o2 M c2 0 (by omega) w') ?_
                      refine Goes.run [3] [] trivial ?_
                      refine Goes.valA 4 (Instr.loadAt 3 (.pointer (some ⟨b2, o2 + 0 * 2, none⟩))) (.int .i64 q.1) (fun w' hm => load1 Tryz.isAgg3 (Cel.same y1 hob2 (hm.get 0))) ?_
                      refine Goes.run [5] [] trivial ?_
                      refine Goes.slot 63 (.bool false) (u := .bool (decide (q.1 < 0))) (congrArg _ (h1)) ?_
                      refine Goes.run [6, 7, 8] [] trivial ?_
                      refine Goes.valA 9 (Instr.indexAt 80 (.slice (some ⟨b2, o2, none⟩) M c2) (.int .i64 ((0 : Nat) : Int))) (.pointer (some ⟨b2, o2 + 0 * 2, none⟩)) (fun w' _ => idxT b2 o2 M c2 0 (by omega) w') ?_
                      refine Goes.run [10] [] trivial ?_
                      refine Goes.valA 11 (Instr.loadAt 3 (.pointer (some ⟨b2, o2 + 0 * 2, none⟩))) (.int .i64 q.1) (fun w' hm => load1 Tryz.isAgg3 (Cel.same y1 hob2 (hm.get 0))) ?_
                      refine Goes.run [12] [] trivial ?_
                      refine Goes.slot 70 (.bool true) (u := .bool (decide (q.1 > 73048))) (congrArg _ (h2)) ?_
                      refine Goes.run [13, 14, 15, 16, 17, 18, 19, 20, 21, 22, 23, 24, 25, 26, 27, 28, 29, 30, 31, 32, 33, 34, 35, 36, 37, 38, 39, 40, 41, 42, 43, 44, 45, 46, 47, 1] [(true, true)] ⟨rfl, trivial⟩ ?_
                      have hbad : (!decide (q.1 ≤ lstD f.2 0) && dayP q.1 && numP q.2) = false := by
                        rw [Bool.and_eq_false_iff, Bool.and_eq_false_iff]
                        refine .inl (.inr ?_); unfold dayP; have := of_decide_eq_true h2; rw [Bool.and_eq_false_iff]; exact .inr (decide_eq_false (by omega))
                      exact Goes.ret [] (.bool false) fun w' hm hI => ⟨by rw [hR, hlen4, hst, hdrop, stOk, hbad]; simp, bel0 hI⟩
                    | false =>
                      cases h4 : decide (q.2 < -1000000000000000) with
                      | true =>
                        refine Goes.run [0, 1] [] trivial ?_
                        refine Goes.valA 2 (Instr.indexAt 80 (.slice (some ⟨b2, o2, none⟩) M c2) (.int .i64 ((0 : Nat) : Int))) (.pointer (some ⟨b2, o2 + 0 * 2, none⟩)) (fun w' _ => idxT b2 o2 M c2 0 (by omega) w') ?_
                        refine Goes.run [3] [] trivial ?_
                        refine Goes.valA 4 (Instr.loadAt 3 (.pointer (some ⟨b2, o2 + 0 * 2, none⟩))) (.int .i64 q.1) (fun w' hm => load1 Tryz.isAgg3 (Cel.same y1 hob2 (hm.get 0))) ?_
                        refine Goes.run [5] [] trivial ?_
                        refine Goes.slot 63 (.bool false) (u := .bool (decide (q.1 < 0))) (congrArg _ (h1)) ?_
                        refine Goes.run [6, 7, 8] [] trivial ?_
                        refine Goes.valA 9 (Instr.indexAt 80 (.slice (some ⟨b2, o2, none⟩) M c2) (.int .i64 ((0 : Nat) : Int))) (.pointer (some ⟨b2, o2 + 0 * 2, none⟩)) (fun w' _ => idxT b2 o2 M c2 0 (by omega) w') ?_
                        refine Goes.run [10] [] trivial ?_
                        refine Goes.valA 11 (Instr.loadAt 3 (.pointer (some ⟨b2, o2 + 0 * 2, none⟩))) (.int .i64 q.1) (fun w' hm => load1 Tryz.isAgg3 (Cel.same y1 hob2 (hm.get 0))) ?_
                        refine Goes.run [12] [] trivial ?_
                        refine Goes.slot 70 (.bool false) (u := .bool (decide (q.1 > 73048))) (congrArg _ (h2)) ?_
                        refine Goes.run [13, 14, 15, 16] [] trivial ?_
                        refine Goes.slot 74 (.bool false) (u := .bool (decide (((0 : Nat) : Int) > 0))) (congrArg _ (rfl)) ?_
                        refine Goes.run [17, 18, 19, 20, 21, 22, 23, 24, 25, 26, 27, 28, 29, 30, 31, 32, 33, 34] [] trivial ?_
                        refine Goes.valA 35 (Instr.indexAt 80 (.slice (some ⟨b2, o2, none⟩) M c2) (.int .i64 ((0 : Nat) : Int))) (.pointer (some ⟨b2, o2 + 0 * 2, none⟩)) (fun w' _ => idxT b2 o2 M c2 0 (by omega) w') ?_
                        refine Goes.run [36] [] trivial ?_
                        refine Goes.valA 37 (Instr.loadAt 2 (.pointer (some ⟨b2, o2 + 0 * 2 + 1, none⟩))) (.int .i64 q.2) (fun w' hm => load1 Tryz.isAgg2 (Cel.same y2 hob2 (hm.get 0))) ?_
                        refine Goes.run [38] [] trivial ?_
                        refine Goes.slot 96 (.bool true) (u := .bool (decide (q.2 < -1000000000000000))) (congrArg _ (h4)) ?_
                        refine Goes.run [39, 40, 41, 42, 43, 44, 45, 46, 47, 1] [(true, true)] ⟨rfl, trivial⟩ ?_
                        have hbad : (!decide (q.1 ≤ lstD f.2 0) && dayP q.1 && numP q.2) = false := by
                          rw [Bool.and_eq_false_iff, Bool.and_eq_false_iff]
                          refine .inr ?_; unfold numP; have := of_decide_eq_true h4; rw [decide_eq_false (by omega), Bool.false_and]
                        exact Goes.ret [] (.bool false) fun w' hm hI => ⟨by rw [hR, hlen4, hst, hdrop, stOk, hbad]; simp, bel0 hI⟩
                      | false =>
                        cases h5 : decide (q.2 > 1000000000000000) with
                        | true =>
                          refine Goes.run [0, 1] [] trivial ?_
                          refine Goes.valA 2 (Instr.indexAt 80 (.slice (some ⟨b2, o2, none⟩) M c2) (.int .i64 ((0 : Nat) : Int))) (.pointer (some ⟨b2, o2 + 0 * 2, none⟩)) (fun w' _ => idxT b2 o2 M c2 0 (by omega) w') ?_
                          refine Goes.run [3] [] trivial ?_
                          refine Goes.valA 4 (Instr.loadAt 3 (.pointer (some ⟨b2, o2 + 0 * 2, none⟩))) (.int .i64 q.1) (fun w' hm => load1 Tryz.isAgg3 (Cel.same y1 hob2 (hm.get 0))) ?_
                          refine Goes.run [5] [] trivial ?_
                          refine Goes.slot 63 (.bool false) (u := .bool (decide (q.1 < 0))) (congrArg _ (h1)) ?_
                          refine Goes.run [6, 7, 8] [] trivial ?_
                          refine Goes.valA 9 (Instr.indexAt 80 (.slice (some ⟨b2, o2, none⟩) M c2) (.int .i64 ((0 : Nat) : Int))) (.pointer (some ⟨b2, o2 + 0 * 2, none⟩)) (fun w' _ => idxT b2 o2 M c2 0 (by omega) w') ?_
                          refine Goes.run [10] [] trivial ?_
                          refine Goes.valA 11 (Instr.loadAt 3 (.pointer (some ⟨b2, o2 + 0 * 2, none⟩))) (.int .i64 q.1) (fun w' hm => load1 Tryz.isAgg3 (Cel.same y1 hob2 (hm.get 0))) ?_
                          refine Goes.run [12] [] trivial ?_
                          refine Goes.slot 70 (.bool false) (u := .bool (decide (q.1 > 73048))) (congrArg _ (h2)) ?_
                          refine Goes.run [13, 14, 15, 16] [] trivial ?_
                          refine Goes.slot 74 (.bool false) (u := .bool (decide (((0 : Nat) : Int) > 0))) (congrArg _ (rfl)) ?_
                          refine Goes.run [17, 18, 19, 20, 21, 22, 23, 24, 25, 26, 27, 28, 29, 30, 31, 32, 33, 34] [] trivial ?_
                          refine Goes.valA 35 (Instr.indexAt 80 (.slice (some ⟨b2, o2, none⟩) M c2) (.int .i64 ((0 : Nat) : Int))) (.pointer (some ⟨b2, o2 + 0 * 2, none⟩)) (fun w' _ => idxT b2 o2 M c2 0 (by omega) w') ?_
                          refine Goes.run [36] [] trivial ?_
                          refine Goes.valA 37 (Instr.loadAt 2 (.pointer (some ⟨b2, o2 + 0 * 2 + 1, none⟩))) (.int .i64 q.2) (fun w' hm => load1 Tryz.isAgg2 (Cel.same y2 hob2 (hm.get 0))) ?_
                          refine Goes.run [38] [] trivial ?_
                          refine Goes.slot 96 (.bool false) (u := .bool (decide (q.2 < -1000000000000000))) (congrArg _ (h4)) ?_
                          refine Goes.run [39, 40, 41, 42] [] trivial ?_
                          refine Goes.valA 43 (Instr.indexAt 80 (.slice (some ⟨b2, o2, none⟩) M c2) (.int .i64 ((0 : Nat) : Int))) (.pointer (some ⟨b2, o2 + 0 * 2, none⟩)) (fun w' _ => idxT b2 o2 M c2 0 (by omega) w') ?_
                          refine Goes.run [44] [] trivial ?_
                          refine Goes.valA 45 (Instr.loadAt 2 (.pointer (some ⟨b2, o2 + 0 * 2 + 1, none⟩))) (.int .i64 q.2) (fun w' hm => load1 Tryz.isAgg2 (Cel.same y2 hob2 (hm.get 0))) ?_
                          refine Goes.run [46] [] trivial ?_
                          refine Goes.slot 104 (.bool true) (u := .bool (decide (q.2 > 1000000000000000))) (congrArg _ (h5)) ?_
                          refine Goes.run [47, 1] [(true, true)] ⟨rfl, trivial⟩ ?_
                          have hbad : (!decide (q.1 ≤ lstD f.2 0) && dayP q.1 && numP q.2) = false := by
                            rw [Bool.and_eq_false_iff, Bool.and_eq_false_iff]
                            refine .inr ?_; unfold numP; have := of_decide_eq_true h5; rw [Bool.and_eq_false_iff]; exact .inr (decide_eq_false (by omega))
                          exact Goes.ret [] (.bool false) fun w' hm hI => ⟨by rw [hR, hlen4, hst, hdrop, stOk, hbad]; simp, bel0 hI⟩
                        | false =>
                          refine Goes.run [0, 1] [] trivial ?_
                          refine Goes.valA 2 (Instr.indexAt 80 (.slice (some ⟨b2, o2, none⟩) M c2) (.int .i64 ((0 : Nat) : Int))) (.pointer (some ⟨b2, o2 + 0 * 2, none⟩)) (fun w' _ => idxT b2 o2 M c2 0 (by omega) w') ?_
                          refine Goes.run [3] [] trivial ?_
                          refine Goes.valA 4 (Instr.loadAt 3 (.pointer (some ⟨b2, o2 + 0 * 2, none⟩))) (.int .i64 q.1) (fun w' hm => load1 Tryz.isAgg3 (Cel.same y1 hob2 (hm.get 0))) ?_
                          refine Goes.run [5] [] trivial ?_
                          refine Goes.slot 63 (.bool false) (u := .bool (decide (q.1 < 0))) (congrArg _ (h1)) ?_
                          refine Goes.run [6, 7, 8] [] trivial ?_
                          refine Goes.valA 9 (Instr.indexAt 80 (.slice (some ⟨b2, o2, none⟩) M c2) (.int .i64 ((0 : Nat) : Int))) (.pointer (some ⟨b2, o2 + 0 * 2, none⟩)) (fun w' _ => idxT b2 o2 M c2 0 (by omega) w') ?_
                          refine Goes.run [10] [] trivial ?_
                          refine Goes.valA 11 (Instr.loadAt 3 (.pointer (some ⟨b2, o2 + 0 * 2, none⟩))) (.int .i64 q.1) (fun w' hm => load1 Tryz.isAgg3 (Cel.same y1 hob2 (hm.get 0))) ?_
                          refine Goes.run [12] [] trivial ?_
                          refine Goes.slot 70 (.bool false) (u := .bool (decide (q.1 > 73048))) (congrArg _ (h2)) ?_
                          refine Goes.run [13, 14, 15, 16] [] trivial ?_
                          refine Goes.slot 74 (.bool false) (u := .bool (decide (((0 : Nat) : Int) > 0))) (congrArg _ (rfl)) ?_
                          refine Goes.run [17, 18, 19, 20, 21, 22, 23, 24, 25, 26, 27, 28, 29, 30, 31, 32, 33, 34] [] trivial ?_
                          refine Goes.valA 35 (Instr.indexAt 80 (.slice (some ⟨b2, o2, none⟩) M c2) (.int .i64 ((0 : Nat) : Int))) (.pointer (some ⟨b2, o2 + 0 * 2, none⟩)) (fun w' _ => idxT b2 o2 M c2 0 (by omega) w') ?_
                          refine Goes.run [36] [] trivial ?_
                          refine Goes.valA 37 (Instr.loadAt 2 (.pointer (some ⟨b2, o2 + 0 * 2 + 1, none⟩))) (.int .i64 q.2) (fun w' hm => load1 Tryz.isAgg2 (Cel.same y2 hob2 (hm.get 0))) ?_
                          refine Goes.run [38] [] trivial ?_
                          refine Goes.slot 96 (.bool false) (u := .bool (decide (q.2 < -1000000000000000))) (congrArg _ (h4)) ?_
                          refine Goes.run [39, 40, 41, 42] [] trivial ?_
                          refine Goes.valA 43 (Instr.indexAt 80 (.slice (some ⟨b2, o2, none⟩) M c2) (.int .i64 ((0 : Nat) : Int))) (.pointer (some ⟨b2, o2 + 0 * 2, none⟩)) (fun w' _ => idxT b2 o2 M c2 0 (by omega) w') ?_
                          refine Goes.run [44] [] trivial ?_
                          refine Goes.valA 45 (Instr.loadAt 2 (.pointer (some ⟨b2, o2 + 0 * 2 + 1, none⟩))) (.int .i64 q.2) (fun w' hm => load1 Tryz.isAgg2 (Cel.same y2 hob2 (hm.get 0))) ?_
                          refine Goes.run [46] [] trivial ?_
                          refine Goes.slot 104 (.bool false) (u := .bool (decide (q.2 > 1000000000000000))) (congrArg _ (h5)) ?_
                          refine Goes.run [47, 0] [(false, false)] ⟨rfl, trivial⟩ ?_
                          refine Goes.slot 6 (.int .i64 (0 + 1 : Nat)) (u := .int .i64 (IntKind.i64.wrap (((0 : Nat) : Int) + 1))) (congrArg _ (wrap_nat (by omega))) ?_
                          have hgood : (!decide (q.1 ≤ lstD f.2 0) && dayP q.1 && numP q.2) = true := by
                            have e1 := of_decide_eq_false h1; have e2 := of_decide_eq_false h2; have e4 := of_decide_eq_false h4; have e5 := of_decide_eq_false h5
                            have a1 : decide (q.1 ≤ lstD f.2 0) = false := decide_eq_false (by show ¬ q.1 ≤ -1; omega)
                            have a2 : dayP q.1 = true := by unfold dayP; rw [decide_eq_true (by omega), decide_eq_true (by omega)]; rfl
                            have a3 : numP q.2 = true := by unfold numP; rw [decide_eq_true (by omega), decide_eq_true (by omega)]; rfl
                            rw [a1, a2, a3]; rfl
                          exact back2 (0 + 1) _ ⟨by omega, by rw [hst, hdrop, stOk, hgood, Bool.true_and]; rw [show lstD f.2 (0 + 1) = q.1 by simp [lstD, hq]]⟩ (by omega) (by kernel_rfl) (by kernel_rfl) (by kernel_rfl)
                | succ j2 =>
                  obtain ⟨qj, hqj⟩ : ∃ qj, f.2[j2]? = some qj := ⟨f.2[j2]'(by omega), by simp⟩
                  obtain ⟨b9, o9, e9, -, z1, -⟩ := hstm j2 qj hqj
                  cases e9
                  have hlast : lstD f.2 (j2 + 1) = qj.1 := by simp [lstD, hqj]
                  refine Goes.openY [] [(b2, ob2)] (fun w' hI => hex1 hob2 hI.1) ?_
                  cases h1 : decide (q.1 < 0) with
                  | true =>
                    refine Goes.run [0, 1] [] trivial ?_
                    refine Goes.valA 2 (Instr.indexAt 80 (.slice (some ⟨b2, o2, none⟩) M c2) (.int .i64 ((j2 + 1 : Nat) : Int))) (.pointer (some ⟨b2, o2 + (j2 + 1) * 2, none⟩)) (fun w' _ => idxT b2 o2 M c2 (j2 + 1) (by omega) w') ?_
                    refine Goes.run [3] [] trivial ?_
                    refine Goes.valA 4 (Instr.loadAt 3 (.pointer (some ⟨b2, o2 + (j2 + 1) * 2, none⟩))) (.int .i64 q.1) (fun w' hm => load1 Tryz.isAgg3 (Cel.same y1 hob2 (hm.get 0))) ?_
                    refine Goes.run [5] [] trivial ?_
                    refine Goes.slot 63 (.bool true) (u := .bool (decide (q.1 < 0))) (congrArg _ (h1)) ?_
                    refine Goes.run [6, 7, 8, 9, 10, 11, 12, 13, 14, 15, 16, 17, 18, 19, 20, 21, 22, 23, 24, 25, 26, 27, 28, 29, 30, 31, 32, 33, 34, 35, 36, 37, 38, 39, 40, 41, 42, 43, 44, 45, 46, 47, 1] [(true, true)] ⟨rfl, trivial⟩ ?_
                    have hbad : (!decide (q.1 ≤ lstD f.2 (j2 + 1)) && dayP q.1 && numP q.2) = false := by
                      rw [Bool.and_eq_false_iff, Bool.and_eq_false_iff]
                      refine .inl (.inr ?_); unfold dayP; have := of_decide_eq_true h1; rw [decide_eq_false (by omega), Bool.false_and]
                    exact Goes.ret [] (.bool false) fun w' hm hI => ⟨by rw [hR, hlen4, hst, hdrop, stOk, hbad]; simp, bel0 hI⟩
                  | false =>
                    cases h2 : decide (q.1 > 73048) with
                    | true =>
                      refine Goes.run [0, 1] [] trivial ?_
                      refine Goes.valA 2 (Instr.indexAt 80 (.slice (some ⟨b2, o2, none⟩) M c2) (.int .i64 ((j2 + 1 : Nat) : Int))) (.pointer (some ⟨b2, o2 + (j2 + 1) * 2, none⟩)) (fun w' _ => idxT b2 o2 M c2 (j2 + 1) (by omega) w') ?_
                      refine Goes.run [3] [] trivial ?_
                      refine Goes.valA 4 (Instr.loadAt 3 (.pointer (some ⟨b2, o2 + (j2 + 1) * 2, none⟩))) (.int .i64 q.1) (fun w' hm => load1 Tryz.isAgg3 (Cel.same y1 hob2 (hm.get 0))) ?_
                      refine Goes.run [5] [] trivial ?_
                      refine Goes.slot 63 (.bool false) (u := .bool (decide (q.1 < 0))) (congrArg _ (h1)) ?_
                      refine Goes.run [6, 7, 8] [] trivial ?_
                      refine Goes.valA 9 (Instr.indexAt 80 (.slice (some ⟨b2, o2, none⟩) M c2) (.int .i64 ((j2 + 1 : Nat) : Int))) (.pointer (some ⟨b2, o2 + (j2 + 1) * 2, none⟩)) (fun w' _ => idxT b2 o2 M c2 (j2 + 1) (by omega) w') ?_
                      refine Goes.run [10] [] trivial ?_
                      refine Goes.valA 11 (Instr.loadAt 3 (.pointer (some ⟨b2, o2 + (j2 + 1) * 2, none⟩))) (.int .i64 q.1) (fun w' hm => load1 Tryz.isAgg3 (Cel.same y1 hob2 (hm.get 0))) ?_
                      refine Goes.run [12] [] trivial ?_
                      refine Goes.slot 70 (.bool true) (u := .bool (decide (q.1 > 73048))) (congrArg _ (h2)) ?_
                      refine Goes.run [13, 14, 15, 16, 17, 18, 19, 20, 21, 22, 23, 24, 25, 26, 27, 28, 29, 30, 31, 32, 33, 34, 35, 36, 37, 38, 39, 40, 41, 42, 43, 44, 45, 46, 47, 1] [(true, true)] ⟨rfl, trivial⟩ ?_
                      have hbad : (!decide (q.1 ≤ lstD f.2 (j2 + 1)) && dayP q.1 && numP q.2) = false := by
                        rw [Bool.and_eq_false_iff, Bool.and_eq_false_iff]
                        refine .inl (.inr ?_); unfold dayP; have := of_decide_eq_true h2; rw [Bool.and_eq_false_iff]; exact .inr (decide_eq_false (by omega))
                      exact Goes.ret [] (.bool false) fun w' hm hI => ⟨by rw [hR, hlen4, hst, hdrop, stOk, hbad]; simp, bel0 hI⟩
                    | false =>
                      cases h3 : decide (qj.1 ≥ q.1) with
                      | true =>
                        refine Goes.run [0, 1] [] trivial ?_
                        refine Goes.valA 2 (Instr.indexAt 80 (.slice (some ⟨b2, o2, none⟩) M c2) (.int .i64 ((j2 + 1 : Nat) : Int))) (.pointer (some ⟨b2, o2 + (j2 + 1) * 2, none⟩)) (fun w' _ => idxT b2 o2 M c2 (j2 + 1) (by omega) w') ?_
                        refine Goes.run [3] [] trivial ?_
                        refine Goes.valA 4 (Instr.loadAt 3 (.pointer (some ⟨b2, o2 + (j2 + 1) * 2, none⟩))) (.int .i64 q.1) (fun w' hm => load1 Tryz.isAgg3 (Cel.same y1 hob2 (hm.get 0))) ?_
                        refine Goes.run [5] [] trivial ?_
                        refine Goes.slot 63 (.bool false) (u := .bool (decide (q.1 < 0))) (congrArg _ (h1)) ?_
                        refine Goes.run [6, 7, 8] [] trivial ?_
                        refine Goes.valA 9 (Instr.indexAt 80 (.slice (some ⟨b2, o2, none⟩) M c2) (.int .i64 ((j2 + 1 : Nat) : Int))) (.pointer (some ⟨b2, o2 + (j2 + 1) * 2, none⟩)) (fun w' _ => idxT b2 o2 M c2 (j2 + 1) (by omega) w') ?_
                        refine Goes.run [10] [] trivial ?_
                        refine Goes.valA 11 (Instr.loadAt 3 (.pointer (some ⟨b2, o2 + (j2 + 1) * 2, none⟩))) (.int .i64 q.1) (fun w' hm => load1 Tryz.isAgg3 (Cel.same y1 hob2 (hm.get 0))) ?_
                        refine Goes.run [12] [] trivial ?_
                        refine Goes.slot 70 (.bool false) (u := .bool (decide (q.1 > 73048))) (congrArg _ (h2)) ?_
                        refine Goes.run [13, 14, 15, 16] [] trivial ?_
                        refine Goes.slot 74 (.bool true) (u := .bool (decide (((j2 + 1 : Nat) : Int) > 0))) (congrArg _ (decide_eq_true (by omega))) ?_
                        refine Goes.run [17, 18, 19, 20] [] trivial ?_
                        refine Goes.slot 78 (.int .i64 (j2 : Int)) (u := .int .i64 (IntKind.i64.wrap (((j2 + 1 : Nat) : Int) - 1))) (congrArg _ (by rw [IntWalk.i64_in _ ⟨by omega, by omega⟩]; omega)) ?_
                        refine Goes.valA 21 (Instr.indexAt 80 (.slice (some ⟨b2, o2, none⟩) M c2) (.int .i64 (j2 : Int))) (.pointer (some ⟨b2, o2 + j2 * 2, none⟩)) (fun w' _ => idxT b2 o2 M c2 j2 (by omega) w') ?_
                        refine Goes.run [22] [] trivial ?_
                        refine Goes.valA 23 (Instr.loadAt 3 (.pointer (some ⟨b2, o2 + j2 * 2, none⟩))) (.int .i64 qj.1) (fun w' hm => load1 Tryz.isAgg3 (Cel.same z1 hob2 (hm.get 0))) ?_
                        refine Goes.run [24, 25] [] trivial ?_
                        refine Goes.valA 26 (Instr.indexAt 80 (.slice (some ⟨b2, o2, none⟩) M c2) (.int .i64 ((j2 + 1 : Nat) : Int))) (.pointer (some ⟨b2, o2 + (j2 + 1) * 2, none⟩)) (fun w' _ => idxT b2 o2 M c2 (j2 + 1) (by omega) w') ?_
                        refine Goes.run [27] [] trivial ?_
                        refine Goes.valA 28 (Instr.loadAt 3 (.pointer (some ⟨b2, o2 + (j2 + 1) * 2, none⟩))) (.int .i64 q.1) (fun w' hm => load1 Tryz.isAgg3 (Cel.same y1 hob2 (hm.get 0))) ?_
                        refine Goes.run [29] [] trivial ?_
                        refine Goes.slot 87 (.bool true) (u := .bool (decide (qj.1 ≥ q.1))) (congrArg _ (h3)) ?_
                        refine Goes.run [30, 31, 32, 33, 34, 35, 36, 37, 38, 39, 40, 41, 42, 43, 44, 45, 46, 47, 1] [(true, true)] ⟨rfl, trivial⟩ ?_
                        have hbad : (!decide (q.1 ≤ lstD f.2 (j2 + 1)) && dayP q.1 && numP q.2) = false := by
                          rw [Bool.and_eq_false_iff, Bool.and_eq_false_iff]
                          refine .inl (.inl ?_); rw [hlast]; have := of_decide_eq_true h3; rw [decide_eq_true (by omega)]; rfl
                        exact Goes.ret [] (.bool false) fun w' hm hI => ⟨by rw [hR, hlen4, hst, hdrop, stOk, hbad]; simp, bel0 hI⟩
                      | false =>
                        cases h4 : decide (q.2 < -1000000000000000) with
                        | true =>
                          refine Goes.run [0, 1] [] trivial ?_
                          refine Goes.valA 2 (Instr.indexAt 80 (.slice (some ⟨b2, o2, none⟩) M c2) (.int .i64 ((j2 + 1 : Nat) : Int))) (.pointer (some ⟨b2, o2 + (j2 + 1) * 2, none⟩)) (fun w' _ => idxT b2 o2 M c2 (j2 + 1) (by omega) w') ?_
                          refine Goes.run [3] [] trivial ?_
                          refine Goes.valA 4 (Instr.loadAt 3 (.pointer (some ⟨b2, o2 + (j2 + 1) * 2, none⟩))) (.int .i64 q.1) (fun w' hm => load1 Tryz.isAgg3 (Cel.same y1 hob2 (hm.get 0))) ?_
                          refine Goes.run [5] [] trivial ?_
                          refine Goes.slot 63 (.bool false) (u := .bool (decide (q.1 < 0))) (congrArg _ (h1)) ?_
                          refine Goes.run [6, 7, 8] [] trivial ?_
                          refine Goes.valA 9 (Instr.indexAt 80 (.slice (some ⟨b2, o2, none⟩) M c2) (.int .i64 ((j2 + 1 : Nat) : Int))) (.pointer (some ⟨b2, o2 + (j2 + 1) * 2, none⟩)) (fun w' _ => idxT b2 o2 M c2 (j2 + 1) (by omega) w') ?_
                          refine Goes.run [10] [] trivial ?_
                          refine Goes.valA 11 (Instr.loadAt 3 (.pointer (some ⟨b2, o2 + (j2 + 1) * 2, none⟩))) (.int .i64 q.1) (fun w' hm => load1 Tryz.isAgg3 (Cel.same y1 hob2 (hm.get 0))) ?_
                          refine Goes.run [12] [] trivial ?_
                          refine Goes.slot 70 (.bool false) (u := .bool (decide (q.1 > 73048))) (congrArg _ (h2)) ?_
                          refine Goes.run [13, 14, 15, 16] [] trivial ?_
                          refine Goes.slot 74 (.bool true) (u := .bool (decide (((j2 + 1 : Nat) : Int) > 0))) (congrArg _ (decide_eq_true (by omega))) ?_
                          refine Goes.run [17, 18, 19, 20] [] trivial ?_
                          refine Goes.slot 78 (.int .i64 (j2 : Int)) (u := .int .i64 (IntKind.i64.wrap (((j2 + 1 : Nat) : Int) - 1))) (congrArg _ (by rw [IntWalk.i64_in _ ⟨by omega, by omega⟩]; omega)) ?_
                          refine Goes.valA 21 (Instr.indexAt 80 (.slice (some ⟨b2, o2, none⟩) M c2) (.int .i64 (j2 : Int))) (.pointer (some ⟨b2, o2 + j2 * 2, none⟩)) (fun w' _ => idxT b2 o2 M c2 j2 (by omega) w') ?_
                          refine Goes.run [22] [] trivial ?_
                          refine Goes.valA 23 (Instr.loadAt 3 (.pointer (some ⟨b2, o2 + j2 * 2, none⟩))) (.int .i64 qj.1) (fun w' hm => load1 Tryz.isAgg3 (Cel.same z1 hob2 (hm.get 0))) ?_
                          refine Goes.run [24, 25] [] trivial ?_
                          refine Goes.valA 26 (Instr.indexAt 80 (.slice (some ⟨b2, o2, none⟩) M c2) (.int .i64 ((j2 + 1 : Nat) : Int))) (.pointer (some ⟨b2, o2 + (j2 + 1) * 2, none⟩)) (fun w' _ => idxT b2 o2 M c2 (j2 + 1) (by omega) w') ?_
                          refine Goes.run [27] [] trivial ?_
                          refine Goes.valA 28 (Instr.loadAt 3 (.pointer (some ⟨b2, o2 + (j2 + 1) * 2, none⟩))) (.int .i64 q.1) (fun w' hm => load1 Tryz.isAgg3 (Cel.same y1 hob2 (hm.get 0))) ?_
                          refine Goes.run [29] [] trivial ?_
                          refine Goes.slot 87 (.bool false) (u := .bool (decide (qj.1 ≥ q.1))) (congrArg _ (h3)) ?_
                          refine Goes.run [30, 31, 32, 33, 34] [] trivial ?_
                          refine Goes.valA 35 (Instr.indexAt 80 (.slice (some ⟨b2, o2, none⟩) M c2) (.int .i64 ((j2 + 1 : Nat) : Int))) (.pointer (some ⟨b2, o2 + (j2 + 1) * 2, none⟩)) (fun w' _ => idxT b2 o2 M c2 (j2 + 1) (by omega) w') ?_
                          refine Goes.run [36] [] trivial ?_
                          refine Goes.valA 37 (Instr.loadAt 2 (.pointer (some ⟨b2, o2 + (j2 + 1) * 2 + 1, none⟩))) (.int .i64 q.2) (fun w' hm => load1 Tryz.isAgg2 (Cel.same y2 hob2 (hm.get 0))) ?_
                          refine Goes.run [38] [] trivial ?_
                          refine Goes.slot 96 (.bool true) (u := .bool (decide (q.2 < -1000000000000000))) (congrArg _ (h4)) ?_
                          refine Goes.run [39, 40, 41, 42, 43, 44, 45, 46, 47, 1] [(true, true)] ⟨rfl, trivial⟩ ?_
                          have hbad : (!decide (q.1 ≤ lstD f.2 (j2 + 1)) && dayP q.1 && numP q.2) = false := by
                            rw [Bool.and_eq_false_iff, Bool.and_eq_false_iff]
                            refine .inr ?_; unfold numP; have := of_decide_eq_true h4; rw [decide_eq_false (by omega), Bool.false_and]
                          exact Goes.ret [] (.bool false) fun w' hm hI => ⟨by rw [hR, hlen4, hst, hdrop, stOk, hbad]; simp, bel0 hI⟩
                        | false =>
                          cases h5 : decide (q.2 > 1000000000000000) with
                          | true =>
                            refine Goes.run [0, 1] [] trivial ?_
                            refine Goes.valA 2 (Instr.indexAt 80 (.slice (some ⟨b2, o2, none⟩) M c2) (.int .i64 ((j2 + 1 : Nat) : Int))) (.pointer (some ⟨b2, o2 + (j2 + 1) * 2, none⟩)) (fun w' _ => idxT b2 o2 M c2 (j2 + 1) (by omega) w') ?_
                            refine Goes.run [3] [] trivial ?_
                            refine Goes.valA 4 (Instr.loadAt 3 (.pointer (some ⟨b2, o2 + (j2 + 1) * 2, none⟩))) (.int .i64 q.1) (fun w' hm => load1 Tryz.isAgg3 (Cel.same y1 hob2 (hm.get 0))) ?_
                            refine Goes.run [5] [] trivial ?_
                            refine Goes.slot 63 (.bool false) (u := .bool (decide (q.1 < 0))) (congrArg _ (h1)) ?_
                            refine Goes.run [6, 7, 8] [] trivial ?_
                            refine Goes.valA 9 (Instr.indexAt 80 (.slice (some ⟨b2, o2, none⟩) M c2) (.int .i64 ((j2 + 1 : Nat) : Int))) (.pointer (some ⟨b2, o2 + (j2 + 1) * 2, none⟩)) (fun w' _ => idxT b2 o2 M c2 (j2 + 1) (by omega) w') ?_
                            refine Goes.run [10] [] trivial ?_
                            refine Goes.valA 11 (Instr.loadAt 3 (.pointer (some ⟨b2, o2 + (j2 + 1) * 2, none⟩))) (.int .i64 q.1) (fun w' hm => load1 Tryz.isAgg3 (Cel.same y1 hob2 (hm.get 0))) ?_
                            refine Goes.run [12] [] trivial ?_
                            refine Goes.slot 70 (.bool false) (u := .bool (decide (q.1 > 73048))) (congrArg _ (h2)) ?_
                            refine Goes.run [13, 14, 15, 16] [] trivial ?_
                            refine Goes.slot 74 (.bool true) (u := .bool (decide (((j2 + 1 : Nat) : Int) > 0))) (congrArg _ (decide_eq_true (by omega))) ?_
                            refine Goes.run [17, 18, 19, 20] [] trivial ?_
                            refine Goes.slot 78 (.int .i64 (j2 : Int)) (u := .int .i64 (IntKind.i64.wrap (((j2 + 1 : Nat) : Int) - 1))) (congrArg _ (by rw [IntWalk.i64_in _ ⟨by omega, by omega⟩]; omega)) ?_
                            refine Goes.valA 21 (Instr.indexAt 80 (.slice (some ⟨b2, o2, none⟩) M c2) (.int .i64 (j2 : Int))) (.pointer (some ⟨b2, o2 + j2 * 2, none⟩)) (fun w' _ => idxT b2 o2 M c2 j2 (by omega) w') ?_
                            refine Goes.run [22] [] trivial ?_
                            refine Goes.valA 23 (Instr.loadAt 3 (.pointer (some ⟨b2, o2 + j2 * 2, none⟩))) (.int .i64 qj.1) (fun w' hm => load1 Tryz.isAgg3 (Cel.same z1 hob2 (hm.get 0))) ?_
                            refine Goes.run [24, 25] [] trivial ?_
                            refine Goes.valA 26 (Instr.indexAt 80 (.slice (some ⟨b2, o2, none⟩) M c2) (.int .i64 ((j2 + 1 : Nat) : Int))) (.pointer (some ⟨b2, o2 + (j2 + 1) * 2, none⟩)) (fun w' _ => idxT b2 o2 M c2 (j2 + 1) (by omega) w') ?_
                            refine Goes.run [27] [] trivial ?_
                            refine Goes.valA 28 (Instr.loadAt 3 (.pointer (some ⟨b2, o2 + (j2 + 1) * 2, none⟩))) (.int .i64 q.1) (fun w' hm => load1 Tryz.isAgg3 (Cel.same y1 hob2 (hm.get 0))) ?_
                            refine Goes.run [29] [] trivial ?_
                            refine Goes.slot 87 (.bool false) (u := .bool (decide (qj.1 ≥ q.1))) (congrArg _ (h3)) ?_
                            refine Goes.run [30, 31, 32, 33, 34] [] trivial ?_
                            refine Goes.valA 35 (Instr.indexAt 80 (.slice (some ⟨b2, o2, none⟩) M c2) (.int .i64 ((j2 + 1 : Nat) : Int))) (.pointer (some ⟨b2, o2 + (j2 + 1) * 2, none⟩)) (fun w' _ => idxT b2 o2 M c2 (j2 + 1) (by omega) w') ?_
                            refine Goes.run [36] [] trivial ?_
                            refine Goes.valA 37 (Instr.loadAt 2 (.pointer (some ⟨b2, o2 + (j2 + 1) * 2 + 1, none⟩))) (.int .i64 q.2) (fun w' hm => load1 Tryz.isAgg2 (Cel.same y2 hob2 (hm.get 0))) ?_
                            refine Goes.run [38] [] trivial ?_
                            refine Goes.slot 96 (.bool false) (u := .bool (decide (q.2 < -1000000000000000))) (congrArg _ (h4)) ?_
                            refine Goes.run [39, 40, 41, 42] [] trivial ?_
                            refine Goes.valA 43 (Instr.indexAt 80 (.slice (some ⟨b2, o2, none⟩) M c2) (.int .i64 ((j2 + 1 : Nat) : Int))) (.pointer (some ⟨b2, o2 + (j2 + 1) * 2, none⟩)) (fun w' _ => idxT b2 o2 M c2 (j2 + 1) (by omega) w') ?_
                            refine Goes.run [44] [] trivial ?_
                            refine Goes.valA 45 (Instr.loadAt 2 (.pointer (some ⟨b2, o2 + (j2 + 1) * 2 + 1, none⟩))) (.int .i64 q.2) (fun w' hm => load1 Tryz.isAgg2 (Cel.same y2 hob2 (hm.get 0))) ?_
                            refine Goes.run [46] [] trivial ?_
                            refine Goes.slot 104 (.bool true) (u := .bool (decide (q.2 > 1000000000000000))) (congrArg _ (h5)) ?_
                            refine Goes.run [47, 1] [(true, true)] ⟨rfl, trivial⟩ ?_
                            have hbad : (!decide (q.1 ≤ lstD f.2 (j2 + 1)) && dayP q.1 && numP q.2) = false := by
                              rw [Bool.and_eq_false_iff, Bool.and_eq_false_iff]
                              refine .inr ?_; unfold numP; have := of_decide_eq_true h5; rw [Bool.and_eq_false_iff]; exact .inr (decide_eq_false (by omega))
                            exact Goes.ret [] (.bool false) fun w' hm hI => ⟨by rw [hR, hlen4, hst, hdrop, stOk, hbad]; simp, bel0 hI⟩
                          | false =>
                            refine Goes.run [0, 1] [] trivial ?_
                            refine Goes.valA 2 (Instr.indexAt 80 (.slice (some ⟨b2, o2, none⟩) M c2) (.int .i64 ((j2 + 1 : Nat) : Int))) (.pointer (some ⟨b2, o2 + (j2 + 1) * 2, none⟩)) (fun w' _ => idxT b2 o2 M c2 (j2 + 1) (by omega) w') ?_
                            refine Goes.run [3] [] trivial ?_
                            refine Goes.valA 4 (Instr.loadAt 3 (.pointer (some ⟨b2, o2 + (j2 + 1) * 2, none⟩))) (.int .i64 q.1) (fun w' hm => load1 Tryz.isAgg3 (Cel.same y1 hob2 (hm.get 0))) ?_
                            refine Goes.run [5] [] trivial ?_
                            refine Goes.slot 63 (.bool false) (u := .bool (decide (q.1 < 0))) (congrArg _ (h1)) ?_
                            refine Goes.run [6, 7, 8] [] trivial ?_
                            refine Goes.valA 9 (Instr.indexAt 80 (.slice (some ⟨b2, o2, none⟩) M c2) (.int .i64 ((j2 + 1 : Nat) : Int))) (.pointer (some ⟨b2, o2 + (j2 + 1) * 2, none⟩)) (fun w' _ => idxT b2 o2 M c2 (j2 + 1) (by omega) w') ?_
                            refine Goes.run [10] [] trivial ?_
                            refine Goes.valA 11 (Instr.loadAt 3 (.pointer (some ⟨b2, o2 + (j2 + 1) * 2, none⟩))) (.int .i64 q.1) (fun w' hm => load1 Tryz.isAgg3 (Cel.same y1 hob2 (hm.get 0))) ?_
                            refine Goes.run [12] [] trivial ?_
                            refine Goes.slot 70 (.bool false) (u := .bool (decide (q.1 > 73048))) (congrArg _ (h2)) ?_
                            refine Goes.run [13, 14, 15, 16] [] trivial ?_
                            refine Goes.slot 74 (.bool true) (u := .bool (decide (((j2 + 1 : Nat) : Int) > 0))) (congrArg _ (decide_eq_true (by omega))) ?_
                            refine Goes.run [17, 18, 19, 20] [] trivial ?_
                            refine Goes.slot 78 (.int .i64 (j2 : Int)) (u := .int .i64 (IntKind.i64.wrap (((j2 + 1 : Nat) : Int) - 1))) (congrArg _ (by rw [IntWalk.i64_in _ ⟨by omega, by omega⟩]; omega)) ?_
                            refine Goes.valA 21 (Instr.indexAt 80 (.slice (some ⟨b2, o2, none⟩) M c2) (.int .i64 (j2 : Int))) (.pointer (some ⟨b2, o2 + j2 * 2, none⟩)) (fun w' _ => idxT b2 o2 M c2 j2 (by omega) w') ?_
                            refine Goes.run [22] [] trivial ?_
                            refine Goes.valA 23 (Instr.loadAt 3 (.pointer (some ⟨b2, o2 + j2 * 2, none⟩))) (.int .i64 qj.1) (fun w' hm => load1 Tryz.isAgg3 (Cel.same z1 hob2 (hm.get 0))) ?_
                            refine Goes.run [24, 25] [] trivial ?_
                            refine Goes.valA 26 (Instr.indexAt 80 (.slice (some ⟨b2, o2, none⟩) M c2) (.int .i64 ((j2 + 1 : Nat) : Int))) (.pointer (some ⟨b2, o2 + (j2 + 1) * 2, none⟩)) (fun w' _ => idxT b2 o2 M c2 (j2 + 1) (by omega) w') ?_
                            refine Goes.run [27] [] trivial ?_
                            refine Goes.valA 28 (Instr.loadAt 3 (.pointer (some ⟨b2, o2 + (j2 + 1) * 2, none⟩))) (.int .i64 q.1) (fun w' hm => load1 Tryz.isAgg3 (Cel.same y1 hob2 (hm.get 0))) ?_
                            refine Goes.run [29] [] trivial ?_
                            refine Goes.slot 87 (.bool false) (u := .bool (decide (qj.1 ≥ q.1))) (congrArg _ (h3)) ?_
                            refine Goes.run [30, 31, 32, 33, 34] [] trivial ?_
                            refine Goes.valA 35 (Instr.indexAt 80 (.slice (some ⟨b2, o2, none⟩) M c2) (.int .i64 ((j2 + 1 : Nat) : Int))) (.pointer (some ⟨b2, o2 + (j2 + 1) * 2, none⟩)) (fun w' _ => idxT b2 o2 M c2 (j2 + 1) (by omega) w') ?_
                            refine Goes.run [36] [] trivial ?_
                            refine Goes.valA 37 (Instr.loadAt 2 (.pointer (some ⟨b2, o2 + (j2 + 1) * 2 + 1, none⟩))) (.int .i64 q.2) (fun w' hm => load1 Tryz.isAgg2 (Cel.same y2 hob2 (hm.get 0))) ?_
                            refine Goes.run [38] [] trivial ?_
                            refine Goes.slot 96 (.bool false) (u := .bool (decide (q.2 < -1000000000000000))) (congrArg _ (h4)) ?_
                            refine Goes.run [39, 40, 41, 42] [] trivial ?_
                            refine Goes.valA 43 (Instr.indexAt 80 (.slice (some ⟨b2, o2, none⟩) M c2) (.int .i64 ((j2 + 1 : Nat) : Int))) (.pointer (some ⟨b2, o2 + (j2 + 1) * 2, none⟩)) (fun w' _ => idxT b2 o2 M c2 (j2 + 1) (by omega) w') ?_
                            refine Goes.run [44] [] trivial ?_
                            refine Goes.valA 45 (Instr.loadAt 2 (.pointer (some ⟨b2, o2 + (j2 + 1) * 2 + 1, none⟩))) (.int .i64 q.2) (fun w' hm => load1 Tryz.isAgg2 (Cel.same y2 hob2 (hm.get 0))) ?_
                            refine Goes.run [46] [] trivial ?_
                            refine Goes.slot 104 (.bool false) (u := .bool (decide (q.2 > 1000000000000000))) (congrArg _ (h5)) ?_
                            refine Goes.run [47, 0] [(false, false)] ⟨rfl, trivial⟩ ?_
                            refine Goes.slot 6 (.int .i64 ((j2 + 1) + 1 : Nat)) (u := .int .i64 (IntKind.i64.wrap ((((j2 + 1) : Nat) : Int) + 1))) (congrArg _ (wrap_nat (by omega))) ?_
                            have hgood : (!decide (q.1 ≤ lstD f.2 (j2 + 1)) && dayP q.1 && numP q.2) = true := by
                              have e1 := of_decide_eq_false h1; have e2 := of_decide_eq_false h2; have e4 := of_decide_eq_false h4; have e5 := of_decide_eq_false h5
                              have a1 : decide (q.1 ≤ lstD f.2 (j2 + 1)) = false := decide_eq_false (by rw [hlast]; have := of_decide_eq_false h3; omega)
                              have a2 : dayP q.1 = true := by unfold dayP; rw [decide_eq_true (by omega), decide_eq_true (by omega)]; rfl
                              have a3 : numP q.2 = true := by unfold numP; rw [decide_eq_true (by omega), decide_eq_true (by omega)]; rfl
                              rw [a1, a2, a3]; rfl
                            exact back2 ((j2 + 1) + 1) _ ⟨by omega, by rw [hst, hdrop, stOk, hgood, Bool.true_and]; rw [show lstD f.2 ((j2 + 1) + 1) = q.1 by simp [lstD, hq]]⟩ (by omega) (by kernel_rfl) (by kernel_rfl) (by kernel_rfl)
end Go.Proofs.YtekgfdbeinacjaaGreatDoor
namespace Go.Proofs.YtekgfdbeinacjaaGreatDoor
open Go Go.RowKit

set_option maxRecDepth 100000 in
seal rn rnN rnS Goes ans atEnd put0 put putM opened openedY putA0 putA oneSt st0 keep mkSt newSt in
theorem rbegin_any {fs : Fs} {fv u : Value} {c : Co} {w : World} (day : Int) (hN : Nc w.heap.size w u c) (hF : Fds w.heap.size w fv fs) (hl : ∀ f ∈ fs, f.1.length ≤ 9223372036854775807) : Calls Tryz.prog 10 #[u, .int .i64 day, fv] w (LTQ day w (begR fs day c)) := by
  obtain ⟨op, k, t, a, N, cc, rfl⟩ := hN.cells
  obtain ⟨aF, NF, cF, rfl⟩ : ∃ aF NF cF, fv = .slice aF NF cF := by obtain ⟨x, y, e, -⟩ := hF; exact ⟨x, _, y, e⟩
  obtain ⟨E, hE⟩ : ∃ E, chkP c = E := ⟨_, rfl⟩
  have hV : begR fs day c = bif E == 0 && (dayP day && rfP fs) then (acq fs day c 0 1000000, 0) else (r0, 150) := by unfold begR; rw [hE]
  have bad : ∀ w', Below w.heap.size w w' → (E == 0 && (dayP day && rfP fs)) = false → LTQ day w (begR fs day c) (.returned (.tuple #[.slice none 0 0, .slice none 0 0, .int .i64 150])) w' := fun w' hB h => ⟨.slice none 0 0, .slice none 0 0, by rw [hV, h]; rfl, by rw [hV, h]; exact Lvs.nil, by rw [hV, h]; exact Trs.nil, hB⟩
  refine Goes.begin Tryz.func10 [] (fun _ => True) Holds.nil (by simp [Mem.ids]) (fun _ _ => trivial) ?_
  refine Goes.run1 [] [] trivial fun g3 => ?_
  refine Goes.call0 21 #[.slice aF NF cF] (.bool (rfP fs)) (fun w' _ hI => rfeedsR_any (hF.at (bel0 hI)) hl) ?_
  refine Goes.run [] [] trivial ?_
  refine Goes.call0 22 #[.int .i64 day] (.bool (dayP day)) (fun w' _ _ => rday_any day w') ?_
  refine Goes.run [0] [] trivial ?_
  refine Goes.call0 14 #[cv op k t (.slice a N cc)] (.int .i64 E) (fun w' _ hI => by have := rcheck_any (hN.at (bel0 hI)); rwa [hE] at this) ?_
  cases h0 : (E == 0) with
  | false =>
    refine Goes.run [1, 1, 1] [(true, true), (true, true), (E != 0, true)] ⟨rfl, rfl, by rw [bne, h0]; rfl, trivial⟩ ?_
    exact Goes.ret [] (.tuple #[.slice none 0 0, .slice none 0 0, .int .i64 150]) fun w' hm hI => bad w' (bel0 hI) (by rw [h0]; rfl)
  | true =>
    cases hR : rfP fs with
    | false =>
      refine Goes.run [0, 1, 1] [(true, true), (true, true), (E != 0, false)] ⟨rfl, rfl, by rw [bne, h0]; rfl, trivial⟩ ?_
      exact Goes.ret [] (.tuple #[.slice none 0 0, .slice none 0 0, .int .i64 150]) fun w' hm hI => bad w' (bel0 hI) (by rw [h0, hR, Bool.and_false]; rfl)
    | true =>
      cases hD : dayP day with
      | false =>
        refine Goes.run [0, 0, 1] [(true, true), (false, false), (E != 0, false)] ⟨rfl, rfl, by rw [bne, h0]; rfl, trivial⟩ ?_
        exact Goes.ret [] (.tuple #[.slice none 0 0, .slice none 0 0, .int .i64 150]) fun w' hm hI => bad w' (bel0 hI) (by rw [h0, hR, hD]; rfl)
      | true =>
        have hV2 : begR fs day c = (acq fs day c 0 1000000, 0) := by rw [hV, h0, hR, hD]; rfl
        obtain ⟨htyp, hszc, -⟩ := chk_typ (c := c) (by rw [hE]; exact h0)
        rw [hV2]
        refine Goes.run1 [0, 0, 0, 0] [(false, false), (false, false), (E != 0, false)] ⟨rfl, rfl, by rw [bne, h0]; rfl, trivial⟩ fun gw => ?_
        refine Goes.call 23 #[.pointer (some ⟨gw, 0, none⟩), cv op k t (.slice a N cc), .int .i64 0, .int .i64 1000000] fun w3 hm3 hn3 hI3 => ?_
        have hB3 : Below w.heap.size w w3 := bel0 hI3
        have hf2 : w.heap.size ≤ gw := fresh_of hI3 (g := gw) (ids_get (j := 1) (o := rO day (.slice aF NF cF) (.slice none 0 0) (.slice none 0 0)) (by kernel_rfl)) (by simp [Mem.ids])
        refine (racquire_any (n0 := w.heap.size) (g := gw) (day := day) (fv := .slice aF NF cF) (rf_right hR) hf2 c 1 0 1000000 _ (.slice none 0 0) (.slice none 0 0) [] [] w3 htyp (by omega) (by omega) hszc (hN.later hB3) (hF.later hB3) hB3.size Lvs.nil Trs.nil (hm3.get 1) (by simpa using (by omega : szC c ≤ 10000000))).mono fun e w4 ⟨lv, tv, he4, hg2, hA4⟩ => ?_
        simp only [List.nil_append] at hA4
        have hRt := aq_rows hB3 hf2 hA4
        refine ⟨_, RtI w day lv tv (acq fs day c 0 1000000).1 (acq fs day c 0 1000000).2, [(gw, rO day (.slice aF NF cF) lv tv)], he4, holds1 hg2, by simp [Mem.ids], hRt.stay (fun y hy => by simp [Mem.ids] at hy; subst hy; exact ⟨hf2, _, _, _, hg2, by decide, by decide⟩), ?_⟩
        refine Goes.run [] [] trivial ?_
        refine Goes.open [0] ?_
        refine Goes.run [0, 1, 2, 3, 0, 4, 5, 6, 7, 0, 8, 9, 10] [] trivial ?_
        exact Goes.ret [] (.tuple #[lv, tv, .int .i64 0]) fun w' hm hI => ⟨lv, tv, rfl, hI.now.2.1, hI.now.2.2, hI.now.1⟩
theorem beg_len {fs : Fs} {day : Int} {c : Co} : (begR fs day c).1.1.length ≤ 1000000000 ∧ (begR fs day c).1.2.length ≤ 1000000000 := by
  rcases beg_cases fs day c with ⟨h1, h2⟩ | ⟨h1, -⟩
  · have hc := (chk_typ (c := c) (by simp only [Bool.and_eq_true] at h2; exact h2.1)).2.1
    have := acq_len fs day c 0 1000000
    rw [h1]
    constructor <;> (simp only; omega)
  · rw [h1]; simp [r0]
end Go.Proofs.YtekgfdbeinacjaaGreatDoor
namespace Go.Proofs.YtekgfdbeinacjaaGreatDoor
open Go Go.RowKit

def TmR (n0 : Nat) (w : World) (t : Option Co) (e : Ending) (w' : World) : Prop := ∃ v, e = .returned (.tuple #[v, .bool t.isSome]) ∧ (∀ x, t = some x → Nc n0 w v x) ∧ (t = none → v = cv 0 0 [] (.slice none 0 0)) ∧ Below w.heap.size w w'
theorem Cl4.back {n : Nat} {w w' : World} {b o : Nat} {v : Value} (h : Cl4 w' b o v) (hb : b < n) (hB : Below n w w') : Cl4 w b o v := by
  obtain ⟨op, k, s, u, e, h0, h1, h2, h3⟩ := h
  exact ⟨op, k, s, u, e, (hB.cell (p := ⟨b, o, none⟩) hb).symm.trans h0, (hB.cell (p := ⟨b, o + 1, none⟩) hb).symm.trans h1, (hB.cell (p := ⟨b, o + 2, none⟩) hb).symm.trans h2, (hB.cell (p := ⟨b, o + 3, none⟩) hb).symm.trans h3⟩
theorem Nc.back {n : Nat} {w w' : World} {v : Value} {t : Co} (h : Nc n w' v t) (hB : Below n w w') : Nc n w v t := by
  induction h with
  | mk op k s kids a c vs hf hl hc hk ih =>
    refine .mk op k s kids a c vs hf hl (fun i hi => ?_) (fun i t ht => ih i t ht)
    obtain ⟨b, o, e, hb, h⟩ := hc i hi
    exact ⟨b, o, e, hb, h.back hb hB⟩
theorem TmR.form {n0 : Nat} {w w' : World} {t : Option Co} {e : Ending} (h : TmR n0 w t e w') : ∃ op k s a n c, e = .returned (.tuple #[cv op k s (.slice a n c), .bool t.isSome]) ∧ (∀ x, t = some x → Nc n0 w (cv op k s (.slice a n c)) x) ∧ (t = none → cv op k s (.slice a n c) = cv 0 0 [] (.slice none 0 0)) ∧ Below w.heap.size w w' := by
  obtain ⟨v, he, h1, h2, h3⟩ := h
  cases t with
  | none =>
    obtain rfl := h2 rfl
    exact ⟨0, 0, [], none, 0, 0, he, h1, fun _ => rfl, h3⟩
  | some x =>
    obtain ⟨op, k, s, a, n, c, rfl⟩ := (h1 x rfl).cells
    exact ⟨op, k, s, a, n, c, he, h1, fun h => (by cases h), h3⟩
set_option maxRecDepth 100000 in
seal rn rnN rnS Goes ans atEnd put0 put putM opened openedY putA0 putA oneSt st0 keep mkSt newSt in
theorem rterm_any (c : Co) : ∀ (n0 : Nat) (q : Int) (v : Value) (w : World), szC c ≤ 2000 → n0 ≤ w.heap.size → Nc n0 w v c → Calls Tryz.prog 26 #[v, .int .i64 q] w (TmR n0 w (termP c q)) := by
  induction c using Co.ind with
  | h op k s kids ih =>
    intro n0 q v w hsz hn hN
    have hN0 := hN
    obtain ⟨a, cc, rfl, hfit, hcap, hkids⟩ := hN.open
    obtain ⟨N, hL⟩ : ∃ N, kids.length = N := ⟨_, rfl⟩
    rw [hL] at hcap hN0 ⊢
    have hpos := szL_pos kids
    rw [szC] at hsz
    refine Goes.begin Tryz.func26 [] (fun _ => True) Holds.nil (by simp [Mem.ids]) (fun _ _ => trivial) ?_
    cases hq : (q == 0) with
    | true =>
      refine Goes.run2 [1, 0, 1] [(q == 0, true)] ⟨hq, trivial⟩ fun g2 g4 => ?_
      exact Goes.ret [1] (.tuple #[cv op k s (.slice a N cc), .bool true]) fun w' hm hI => ⟨_, by rw [termP, hq]; rfl, fun x hx => (by rw [termP, hq] at hx; cases hx; exact hN0), fun h => (by rw [termP, hq] at h; cases h), bel0 hI⟩
    | false =>
      have hT : termP (.mk op k s kids) q = termL kids 1 q := by rw [termP, hq]; rfl
      rw [hT]
      refine Goes.run2 [0] [(q == 0, false)] ⟨hq, trivial⟩ fun g2 g4 => ?_
      refine Goes.loop0 (α := Nat) 50 (fun m => [(1, .int .i64 q), (2, .pointer (some ⟨g2, 0, none⟩)), (4, .pointer (some ⟨g4, 0, none⟩)), (6, .int .i64 (1 + szL (kids.take m))), (7, .int .i64 (m : Int))]) [(g2, cO op k s (.slice a N cc)), (g4, cO 0 0 [] (.slice none 0 0))] (fun m => m ≤ N ∧ termL (kids.drop m) (1 + szL (kids.take m)) q = termL kids 1 q) (fun m => N - m) 0 ⟨Nat.zero_le _, by simp [szL]⟩ ?_ (by rw [List.take_zero, szL, Int.add_zero]; kernel_rfl)
      rintro m J ⟨hm, hst⟩ back
      cases hlt : decide ((m : Int) < (N : Int)) with
      | false =>
        have hd : kids.drop m = [] := List.drop_eq_nil_of_le (by have := of_decide_eq_false hlt; omega)
        rw [hd, termL] at hst
        refine Goes.run [0, 0, 0, 1] [(decide ((m : Int) < (N : Int)), false)] ⟨hlt, trivial⟩ ?_
        exact Goes.ret [1] (.tuple #[cv 0 0 [] (.slice none 0 0), .bool false]) fun w' hm hI => ⟨_, by rw [← hst]; rfl, fun x hx => (by rw [← hst] at hx; cases hx), fun _ => rfl, bel0 hI⟩
      | true =>
        have hmi : m < N := by have := of_decide_eq_true hlt; omega
        obtain ⟨x, hx⟩ : ∃ x, kids[m]? = some x := ⟨kids[m]'(by omega), by simp⟩
        obtain ⟨b, o, y, rfl, hb, hcl, hy⟩ := hkids m x hx
        obtain ⟨op', k', t', a', N', c', rfl⟩ := hy.cells
        have hcx := szL_cut hx
        have htk := take_more hx
        have hpx := szC_pos x
        rw [drop_at hx, termL] at hst
        refine Goes.run [0, 0, 1, 0] [(decide ((m : Int) < (N : Int)), true)] ⟨hlt, trivial⟩ ?_
        refine Goes.val (Instr.indexAt 22 (.slice (some ⟨b, o, none⟩) N cc) (.int .i64 m)) (.pointer (some ⟨b, o + m * 4, none⟩)) (fun w' _ _ => idxC b o N cc m (by omega) w') ?_
        refine Goes.val (Instr.loadAt 24 (.pointer (some ⟨b, o + m * 4, none⟩))) (cv op' k' t' (.slice a' N' c')) (fun w' _ hI => loadC (hcl.below hb ((bel0 hI).mono hn))) ?_
        refine Goes.call0 15 #[cv op' k' t' (.slice a' N' c')] (.int .i64 (szC x)) (fun w' _ hI => rsizeC_any x _ w' (by omega) ((hy.later ((bel0 hI).mono hn)).more (Nat.le_trans hn (bel0 hI).size))) ?_
        have hpl := szL_pos (kids.take m)
        have next : (decide (1 + szL (kids.take m) ≤ q) && decide (q < 1 + szL (kids.take m) + szC x)) = false → termL (kids.drop (m + 1)) (1 + szL (kids.take (m + 1))) q = termL kids 1 q := fun hb => by
          rw [hb, cond_false] at hst
          rw [← hst, htk, szL_snoc]
          congr 1
          omega
        cases h1 : decide (1 + szL (kids.take m) ≤ q) with
        | false =>
          refine Goes.upto 28 [] [] trivial ?_
          refine Goes.slot 27 (.bool false) (u := .bool (decide (q ≥ 1 + szL (kids.take m)))) (congrArg _ h1) ?_
          refine Goes.run [0, 0] [(false, false), (false, false)] ⟨rfl, rfl, trivial⟩ ?_
          refine Goes.slot 6 (.int .i64 (1 + szL (kids.take (m + 1)))) (u := .int .i64 (IntKind.i64.wrap (1 + szL (kids.take m) + szC x))) (congrArg _ (by rw [IntWalk.i64_in _ ⟨by omega, by omega⟩, htk, szL_snoc]; omega)) ?_
          refine Goes.slot 7 (.int .i64 (m + 1 : Nat)) (u := .int .i64 (IntKind.i64.wrap ((m : Int) + 1))) (congrArg _ (wrap_nat (by omega))) ?_
          exact back (m + 1) _ ⟨by omega, next (by rw [h1]; rfl)⟩ (by omega) (by kernel_rfl) (by kernel_rfl) (by kernel_rfl)
        | true =>
          refine Goes.upto 28 [] [] trivial ?_
          refine Goes.slot 27 (.bool true) (u := .bool (decide (q ≥ 1 + szL (kids.take m)))) (congrArg _ h1) ?_
          refine Goes.upto 33 [1] [(true, true)] ⟨rfl, trivial⟩ ?_
          refine Goes.slot 32 (.int .i64 (1 + szL (kids.take m) + szC x)) (u := .int .i64 (IntKind.i64.wrap (1 + szL (kids.take m) + szC x))) (congrArg _ (IntWalk.i64_in _ ⟨by omega, by omega⟩)) ?_
          cases h2 : decide (q < 1 + szL (kids.take m) + szC x) with
          | false =>
            refine Goes.upto 34 [] [] trivial ?_
            refine Goes.slot 33 (.bool false) (u := .bool (decide (q < 1 + szL (kids.take m) + szC x))) (congrArg _ h2) ?_
            refine Goes.run [0] [(false, false)] ⟨rfl, trivial⟩ ?_
            refine Goes.slot 6 (.int .i64 (1 + szL (kids.take (m + 1)))) (u := .int .i64 (IntKind.i64.wrap (1 + szL (kids.take m) + szC x))) (congrArg _ (by rw [IntWalk.i64_in _ ⟨by omega, by omega⟩, htk, szL_snoc]; omega)) ?_
            refine Goes.slot 7 (.int .i64 (m + 1 : Nat)) (u := .int .i64 (IntKind.i64.wrap ((m : Int) + 1))) (congrArg _ (wrap_nat (by omega))) ?_
            exact back (m + 1) _ ⟨by omega, next (by rw [h2, Bool.and_false])⟩ (by omega) (by kernel_rfl) (by kernel_rfl) (by kernel_rfl)
          | true =>
            have e1 := of_decide_eq_true h1
            have e2 := of_decide_eq_true h2
            rw [h1, h2] at hst
            simp only [Bool.and_self, cond_true] at hst
            refine Goes.upto 34 [] [] trivial ?_
            refine Goes.slot 33 (.bool true) (u := .bool (decide (q < 1 + szL (kids.take m) + szC x))) (congrArg _ h2) ?_
            refine Goes.run [1, 0] [(true, true)] ⟨rfl, trivial⟩ ?_
            refine Goes.val (Instr.indexAt 22 (.slice (some ⟨b, o, none⟩) N cc) (.int .i64 m)) (.pointer (some ⟨b, o + m * 4, none⟩)) (fun w' _ _ => idxC b o N cc m (by omega) w') ?_
            refine Goes.val (Instr.loadAt 24 (.pointer (some ⟨b, o + m * 4, none⟩))) (cv op' k' t' (.slice a' N' c')) (fun w' _ hI => loadC (hcl.below hb ((bel0 hI).mono hn))) ?_
            refine Goes.upto 43 [] [] trivial ?_
            refine Goes.slot 42 (.int .i64 (q - (1 + szL (kids.take m)))) (u := .int .i64 (IntKind.i64.wrap (q - (1 + szL (kids.take m))))) (congrArg _ (IntWalk.i64_in _ ⟨by omega, by omega⟩)) ?_
            refine Goes.call 26 #[cv op' k' t' (.slice a' N' c'), .int .i64 (q - (1 + szL (kids.take m)))] fun w1 hm1 hn1 hI1 => ?_
            have hB1 := bel0 hI1
            refine (ih x (List.mem_of_getElem? hx) n0 _ _ w1 (by omega) (Nat.le_trans hn hB1.size) (hy.later (hB1.mono hn))).mono fun e w2 hR => ?_
            obtain ⟨op2, k2, s2, a2, n2, c2, he, g1, g2', hB2⟩ := hR.form
            rw [hst] at he g1 g2'
            refine ⟨_, fun w' => Ch (Mem.ids []) w w' ∧ True, _, he, hm1.bel hB2, hn1, hI1.bel hB2, ?_⟩
            refine Goes.run [1] [] trivial ?_
            exact Goes.ret [1] (.tuple #[cv op2 k2 s2 (.slice a2 n2 c2), .bool (termL kids 1 q).isSome]) fun w' hm hI => ⟨_, rfl, fun y hy => Nc.back (g1 y hy) (hB1.mono hn), g2', bel0 hI⟩
end Go.Proofs.YtekgfdbeinacjaaGreatDoor
