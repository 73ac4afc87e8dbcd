/- the text GRigW -/
import Derived.Test.YtebikhfjmpjpjaaGreatDoorAG15
import Derived.Test.DevTool
import Derived.Test.YtebikhfjmpjpjaaGreatDoorAG16
namespace Go.Proofs.YtebikhfjmpjpjaaGreatDoor
open Go Go.RowKit

theorem By.sl {base : Nat} {w : World} {v : Value} {l : List UInt8} (h : By base w v l) : Sl w v l := by
  have h0 := h
  unfold By at h0
  rcases h.2 with ⟨e, hz⟩ | ⟨g, cap, cur, e, -⟩
  · have hl : l = [] := List.eq_nil_of_length_eq_zero hz
    rw [e, hl]
    exact Sl.nil w
  · rw [e] at h0 ⊢
    exact owns_sl h0
theorem conv_by {base : Nat} {w : World} {v : Value} {l : List UInt8} (h : By base w v l) : (convert 60 9 v).run Tryz.prog w = .ok (strV l) w := conv_sl h.sl
def eR (r : Bool) : Int := bif r then 0 else 170
def lR (k : Kd) : List UInt8 := bif rightR k then encB k else []
section
variable {w : World} {rg : Int} {aW aI : Option Addr} {nW cW nI cI : Nat}
theorem renc_two {k : Kd} (hM : CdM w aW nW cW aI nI cI k) (hrg : k.regs = rg) : Calls Tryz.prog 23 #[cdV rg aW nW cW aI nI cI] w fun e w' => (∃ v, e = .returned (.tuple #[v, .int .i64 (eR (rightR k))]) ∧ By w.heap.size w' v (lR k)) ∧ Below w.heap.size w w' :=
  (renc_any hM hrg fun h => right_fit h).mono fun e w' ⟨h, hB⟩ => ⟨by
    unfold lR
    cases hR : rightR k with
    | true => rw [hR] at h; exact h
    | false => rw [hR] at h; exact ⟨_, h, By.nil⟩, hB⟩
theorem penc_two {k : Kd} (hU : TabU w) (hM : CdM w aW nW cW aI nI cI k) (hrg : k.regs = rg) (hwf : k.wf) : Calls Tryz.prog 22 #[cdV rg aW nW cW aI nI cI] w fun e w' => (∃ v, e = .returned (.tuple #[v, .int .i64 (eR (rightR k))]) ∧ By w.heap.size w' v (lR k)) ∧ Below w.heap.size w w' :=
  (penc_any hU hM hrg hwf fun h => right_fit (by rw [right_eq] at h; exact h)).mono fun e w' ⟨h, hB⟩ => ⟨by
    rw [right_eq] at h
    unfold lR
    cases hR : rightR k with
    | true => rw [hR] at h; exact h
    | false => rw [hR] at h; exact ⟨_, h, By.nil⟩, hB⟩
/-- A call that answers bytes of its own. -/
theorem by_next {Q : World → Prop} {m : Mem} {w1 w2 : World} {u : Value} {l : List UInt8} (hm : Holds m w1) (hI : Stay m.ids w1 Q) (hB : Below w1.heap.size w1 w2) (hu : By w1.heap.size w2 u l) : Stay m.ids w2 (fun w' => Q w' ∧ ∃ b, By b w' u l) := fun w3 hc => ⟨hI.bel hB w3 hc, w1.heap.size, own_ch hu hc fun b hb hx => by
    have h1 := holds_lt hm b hx
    rcases hu.2 with ⟨e, -⟩ | ⟨g, cap, cur, e, h7, -⟩
    · rw [e] at hb; cases hb
    · rw [e] at hb
      cases hb
      have h8 : g < w1.heap.size := h1
      omega⟩
set_option maxHeartbeats 2000000 in
set_option maxRecDepth 100000 in
seal rn rnN rnS Goes ans atEnd put0 put putM opened openedY putA0 putA oneSt st0 keep mkSt newSt in
theorem rights_walk {k : Kd} (hT : Tab w) (hU : TabU w) (hM : CdM w aW nW cW aI nI cI k) (hrg : k.regs = rg) (hwf : k.wf) : Calls Tryz.prog 5 #[cdV rg aW nW cW aI nI cI] w fun e w' => e = .returned (.bool true) ∧ Below w.heap.size w w' := by
  obtain ⟨r, hr⟩ : ∃ r, rightR k = r := ⟨_, rfl⟩
  refine Goes.begin Tryz.func5 [] (fun _ => True) Holds.nil (by simp [Mem.ids]) (fun _ _ => trivial) ?_
  refine Goes.run1 [] [] trivial fun g1 => ?_
  refine Goes.call0 8 #[] (.bool true) (fun w' hm hI => shown17_any (hT.below (bel0 hI)) (hU.below (bel0 hI))) ?_
  refine Goes.run [0] [] trivial ?_
  refine Goes.call0 12 #[cdV rg aW nW cW aI nI cI] (.bool r) (fun w' hm hI => hr ▸ rright_any (hM.below (bel0 hI)) hrg) ?_
  refine Goes.run [0] [] trivial ?_
  refine Goes.call 22 #[cdV rg aW nW cW aI nI cI] fun w1 hm1 hn1 hI1 => (penc_two (hU.below (bel0 hI1)) (hM.below (bel0 hI1)) hrg hwf).mono fun e w2 ⟨⟨va, he, hva⟩, hB⟩ => ?_
  refine ⟨_, _, _, he, hm1.bel hB, hn1, by_next hm1 hI1 hB hva, ?_⟩
  refine Goes.run [0] [] trivial ?_
  refine Goes.call 23 #[cdV rg aW nW cW aI nI cI] fun w3 hm3 hn3 hI3 => (renc_two (hM.below (hI3.now.1.1.toB (fun x hx => by cases hx))) hrg).mono fun e w4 ⟨⟨vb, he4, hvb⟩, hB4⟩ => ?_
  refine ⟨_, _, _, he4, hm3.bel hB4, hn3, by_next hm3 hI3 hB4 hvb, ?_⟩
  clear hm1 hn1 hI1 hB he hm3 hn3 hI3 he4 hB4 hva hvb
  rw [hr]
  have hlR : lR k = lR k := rfl
  cases r with
  | false =>
    refine Goes.run [0, 1, 0] [(true, true), (false, false)] ⟨rfl, rfl, trivial⟩ ?_
    refine Goes.call0 21 #[cdV rg aW nW cW aI nI cI] (.bool false) (fun w' hm hI => by have := gright_any (hU.below (hI.now.1.1.1.toB (fun x hx => by cases hx))) (hM.below (hI.now.1.1.1.toB (fun x hx => by cases hx))) hrg hwf; rw [right_eq, hr] at this; exact this) ?_
    refine Goes.run [1, 0] [(true, true)] ⟨rfl, trivial⟩ ?_
    refine Goes.call0 13 #[cdV rg aW nW cW aI nI cI] (.int .i64 0) (fun w' hm hI => by have := fuel_any (hU.below (hI.now.1.1.1.toB (fun x hx => by cases hx))) (hM.below (hI.now.1.1.1.toB (fun x hx => by cases hx))) hrg hwf; rw [right_eq, hr] at this; exact this) ?_
    refine Goes.upto 42 [1] [(true, true)] ⟨rfl, trivial⟩ ?_
    refine Goes.val (convert 60 9 va) (strV (lR k)) (fun w' hm hI => by obtain ⟨⟨-, b, h⟩, -⟩ := hI.now; exact conv_by h) ?_
    refine Goes.upto 44 [] [] trivial ?_
    refine Goes.val (convert 60 9 vb) (strV (lR k)) (fun w' hm hI => by obtain ⟨-, b, h⟩ := hI.now; exact conv_by h) ?_
    refine Goes.upto 45 [] [] trivial ?_
    refine Goes.val (do eqGuard .eql 9 (.tmp 42) (.tmp 44) (strV (lR k)) (strV (lR k)); binOp .eql 9 (strV (lR k)) (strV (lR k))) (.bool true) (fun w' hm hI => by have := eqT (.tmp 42) (.tmp 44) (lR k) (lR k) rfl w'; simpa using this) ?_
    refine Goes.run [1] [(true, true)] ⟨rfl, trivial⟩ ?_
    exact Goes.ret [] (.bool true) fun w' hm hI => ⟨rfl, hI.now.1.1.1.toB (fun x hx => by cases hx)⟩
  | true =>
    refine Goes.run [1, 0, 1, 0] [(true, true), (true, true)] ⟨rfl, rfl, trivial⟩ ?_
    refine Goes.call0 21 #[cdV rg aW nW cW aI nI cI] (.bool true) (fun w' hm hI => by have := gright_any (hU.below (hI.now.1.1.1.toB (fun x hx => by cases hx))) (hM.below (hI.now.1.1.1.toB (fun x hx => by cases hx))) hrg hwf; rw [right_eq, hr] at this; exact this) ?_
    refine Goes.run [1, 0] [(true, true)] ⟨rfl, trivial⟩ ?_
    refine Goes.call0 13 #[cdV rg aW nW cW aI nI cI] (.int .i64 nI) (fun w' hm hI => by have := fuel_any (hU.below (hI.now.1.1.1.toB (fun x hx => by cases hx))) (hM.below (hI.now.1.1.1.toB (fun x hx => by cases hx))) hrg hwf; rw [right_eq, hr] at this; exact this) ?_
    refine Goes.upto 42 [1] [((nI : Int) == (nI : Int), true)] ⟨by simp, trivial⟩ ?_
    refine Goes.val (convert 60 9 va) (strV (lR k)) (fun w' hm hI => by obtain ⟨⟨-, b, h⟩, -⟩ := hI.now; exact conv_by h) ?_
    refine Goes.upto 44 [] [] trivial ?_
    refine Goes.val (convert 60 9 vb) (strV (lR k)) (fun w' hm hI => by obtain ⟨-, b, h⟩ := hI.now; exact conv_by h) ?_
    refine Goes.upto 45 [] [] trivial ?_
    refine Goes.val (do eqGuard .eql 9 (.tmp 42) (.tmp 44) (strV (lR k)) (strV (lR k)); binOp .eql 9 (strV (lR k)) (strV (lR k))) (.bool true) (fun w' hm hI => by have := eqT (.tmp 42) (.tmp 44) (lR k) (lR k) rfl w'; simpa using this) ?_
    refine Goes.run [1] [(true, true)] ⟨rfl, trivial⟩ ?_
    exact Goes.ret [] (.bool true) fun w' hm hI => ⟨rfl, hI.now.1.1.1.toB (fun x hx => by cases hx)⟩
end
end Go.Proofs.YtebikhfjmpjpjaaGreatDoor
