/- the text GBaW -/
import Derived.Test.YtddbiiejilcbbaaGreatDoorAG16
import Derived.Test.DevTool
namespace Go.Proofs.YtddbiiejilcbbaaGreatDoor
open Go Go.RowKit

theorem dec_zero {l : List UInt8} (h : (decE l == 0) = true) : decK l = cdG l ⟨0, false⟩ ∧ rightR (decK l) = true ∧ encB (decK l) = l := by
  have h := eq_of_beq h
  cases h1 : ((cdE l).bad || decide ((cdE l).pos < l.length)) with
  | true => rw [(dec_bad h1).2.2] at h; cases h
  | false =>
    cases hr : rightR (cdG l ⟨0, false⟩) with
    | false => rw [(dec_form h1 hr).2.2] at h; cases h
    | true =>
      rw [(dec_ok h1 hr).1]
      rw [Bool.or_eq_false_iff, decide_eq_false_iff_not] at h1
      exact ⟨rfl, hr, dec_enc h1.1 h1.2⟩
theorem enc_zero {k : Kd} (hr : rightR k = true) : decK (lR k) = k ∧ decA (lR k) = 0 ∧ decE (lR k) = 0 := by
  have e : lR k = encB k := by unfold lR; rw [hr]; rfl
  obtain ⟨e1, e2, e3⟩ := enc_dec (right_fit hr)
  rw [e]
  have h1 : ((cdE (encB k)).bad || decide ((cdE (encB k)).pos < (encB k).length)) = false := by rw [e2, e3]; simp
  have := dec_ok h1 (by rw [e1]; exact hr)
  rw [e1] at this
  exact this
theorem lR_len {w : World} {base : Nat} {v : Value} {l : List UInt8} (h : By base w v l) : ∃ a c, v = .slice a l.length c ∧ Stay [] w (fun w' => Sl w' v l) := by
  obtain ⟨a, c, e⟩ := own_form h
  exact ⟨a, c, e, fun w' hc => h.sl.below (hc.toB fun x hx => by cases hx)⟩
theorem encB_small {k : Kd} (hr : rightR k = true) : (encB k).length ≤ 281474976710656 := by
  have hf := right_fit hr
  have hw := hf.wn
  have hx := hf.xn
  have each : ∀ (ws : List Wk), (∀ x ∈ ws, x ∈ k.waits) → (ws.flatMap wB).length ≤ ws.length * 100 := by
    intro ws
    induction ws with
    | nil => intro _; simp
    | cons x r ih =>
      intro h
      have h1 := ih fun y hy => h y (List.mem_cons_of_mem _ hy)
      have h2 := wB_len hf (h x List.mem_cons_self)
      rw [List.flatMap_cons, List.length_append, List.length_cons]
      omega
  have eachx : ∀ (xs : List Ik), (∀ x ∈ xs, x ∈ k.ins) → (xs.flatMap xB).length ≤ xs.length * 100 := by
    intro ws
    induction ws with
    | nil => intro _; simp
    | cons x r ih =>
      intro h
      have h1 := ih fun y hy => h y (List.mem_cons_of_mem _ hy)
      have h2 := xB_len hf (h x List.mem_cons_self)
      rw [List.flatMap_cons, List.length_append, List.length_cons]
      omega
  have a1 := each k.waits fun _ h => h
  have a2 := eachx k.ins fun _ h => h
  have b1 := bB_len hf.regs
  have b2 := bB_len (n := (k.waits.length : Int)) ⟨by omega, by omega⟩
  have b3 := bB_len (n := (k.ins.length : Int)) ⟨by omega, by omega⟩
  unfold encB hdB
  simp only [List.length_append]
  omega
theorem lR_small (k : Kd) : (lR k).length ≤ 281474976710656 := by
  unfold lR
  cases hr : rightR k with
  | true => exact encB_small hr
  | false => simp
section
variable {w : World} {rg : Int} {aW aI : Option Addr} {nW cW nI cI : Nat} {cap : Nat} {a : Option Addr} {l : List UInt8}
theorem away1 {w1 w2 w3 : World} {L : List Nat} {bW bI : Option Addr} {mW dW mI dI : Nat} {k : Kd} (hM : CdM w2 bW mW dW bI mI dI k) (hf : (∀ x, bW = some x → w1.heap.size ≤ x.block) ∧ ∀ x, bI = some x → w1.heap.size ≤ x.block) (hL : ∀ x ∈ L, x < w1.heap.size) (hc : Ch L w2 w3) : CdM w3 bW mW dW bI mI dI k :=
  hM.away (fun x hx hm => by have := hL _ hm; have := hf.1 x hx; omega) (fun x hx hm => by have := hL _ hm; have := hf.2 x hx; omega) hc
set_option maxHeartbeats 2000000 in
set_option maxRecDepth 100000 in
seal rn rnN rnS Goes ans atEnd put0 put putM opened openedY putA0 putA oneSt st0 keep mkSt newSt in
theorem back_walk {k : Kd} (hT : Tab w) (hU : TabU w) (hM : CdM w aW nW cW aI nI cI k) (hrg : k.regs = rg) (hwf : k.wf) (hS : Stay [] w (fun w' => Sl w' (.slice a l.length cap) l)) (hn : l.length ≤ 281474976710656) : Calls Tryz.prog 4 #[cdV rg aW nW cW aI nI cI, .slice a l.length cap] w fun e w' => e = .returned (.bool true) ∧ Below w.heap.size w w' := by
  have hSb : ∀ {w1}, Ch [] w w1 → Stay [] w1 (fun w' => Sl w' (.slice a l.length cap) l) := fun hC w3 hc => hS w3 (hC.trans hc fun x hx => by cases hx)
  have bel : ∀ {w1}, Ch [] w w1 → Below w.heap.size w w1 := fun h => h.toB fun x hx => by cases hx
  refine Goes.begin Tryz.func4 [] (fun _ => True) Holds.nil (by simp [Mem.ids]) (fun _ _ => trivial) ?_
  refine Goes.run1 [] [] trivial fun g2 => ?_
  refine Goes.call0 7 #[] (.bool true) (fun w' hm hI => shown17_any (hT.below (bel hI.now.1)) (hU.below (bel hI.now.1))) ?_
  refine Goes.run [0] [] trivial ?_
  refine Goes.call 11 #[cdV rg aW nW cW aI nI cI] fun w1 hm1 hn1 hI1 => (penc_two (hU.below (bel hI1.now.1)) (hM.below (bel hI1.now.1)) hrg hwf).mono fun e w2 ⟨⟨va, he, hva⟩, hB⟩ => ?_
  obtain ⟨a1, c1, rfl, -⟩ := lR_len hva
  have y2 : w1.heap[g2]? = some (cO3 rg (.slice aW nW cW) (.slice aI nI cI)) := hm1.get 0
  refine ⟨_, fun w' => Ch [] w w' ∧ ∃ b, By b w' (.slice a1 (lR k).length c1) (lR k), [(g2, cO3 rg (.slice aW nW cW) (.slice aI nI cI))], he, hold1 ((hB.block g2 (lt_of_get y2)).trans y2), by simp [Mem.ids], fun w3 hc => ?_, ?_⟩
  · have := by_next hm1 hI1 hB hva w3 (hc.mono fun x hx => mem_eq (l := [g2]) (by simpa [Mem.ids] using hx))
    exact ⟨this.1.1, this.2⟩
  clear hm1 hn1 hI1 hB he hva y2
  refine Goes.run [] [] trivial ?_
  refine Goes.call 8 #[.slice a1 (lR k).length c1] fun w1 hm1 hn1 hI1 => (pdec_any (hU.below (bel hI1.now.1)) (by obtain ⟨b, hb⟩ := hI1.now.2; exact (lR_len hb).choose_spec.choose_spec.2) (lR_small k)).mono fun e w2 ⟨rg', bW, mW, dW, bI, mI, dI, he, hM2, hrg2, hf2, hB⟩ => ?_
  have y2 : w1.heap[g2]? = some (cO3 rg (.slice aW nW cW) (.slice aI nI cI)) := hm1.get 0
  have z2 := lt_of_get y2
  refine ⟨_, fun w' => Ch [] w w' ∧ CdM w' bW mW dW bI mI dI (decK (lR k)), [(g2, cO3 rg (.slice aW nW cW) (.slice aI nI cI))], he, hold1 ((hB.block g2 z2).trans y2), by simp [Mem.ids], fun w3 hc => ⟨(hI1.bel hB w3 (hc.mono fun x hx => mem_eq (l := [g2]) (by simpa [Mem.ids] using hx))).1, away1 hM2 hf2 (fun x hx => by simp [Mem.ids] at hx; omega) hc⟩, ?_⟩
  clear hm1 hn1 hI1 hB he hM2 hf2 y2 z2
  obtain ⟨r, hr⟩ : ∃ r, rightR k = r := ⟨_, rfl⟩
  rw [hr]
  cases r with
  | false =>
    refine Goes.run1 [1, 0, 0] [(false, false), (false, false)] ⟨rfl, rfl, trivial⟩ fun g8 => ?_
    refine Goes.inv (Inv' := fun w' => Ch [] w w' ∧ True) (fun w' h => ⟨h.1, trivial⟩) ?_
    refine Goes.call 8 #[.slice a l.length cap] fun w1 hm1 hn1 hI1 => (pdec_any (hU.below (bel hI1.now.1)) (hSb hI1.now.1) hn).mono fun e w2 ⟨rx, xW, pW, qW, xI, pI, qI, he, hM2, hrg3, hf2, hB⟩ => ?_
    refine ⟨_, fun w' => Ch [] w w' ∧ CdM w' xW pW qW xI pI qI (decK l), [], he, Holds.nil, by simp [Mem.ids], fun w3 hc => ⟨(hI1.bel hB).now.1.trans hc (fun x hx => by cases hx), hM2.below (hc.toB fun x hx => by cases hx)⟩, ?_⟩
    clear hm1 hn1 hI1 hB he hM2 hf2
    cases hz : (decE l == 0) with
    | false =>
      refine Goes.run1 [0, 1] [(decE l != 0, true)] ⟨by unfold bne; rw [hz]; rfl, trivial⟩ fun g11 => ?_
      exact Goes.ret [] (.bool true) fun w' hm hI => ⟨rfl, bel hI.now.1⟩
    | true =>
      obtain ⟨d1, d2, d3⟩ := dec_zero hz
      have e9 : lR (decK l) = l := by unfold lR; rw [d2]; exact d3
      refine Goes.run1 [0, 0, 0] [(decE l != 0, false)] ⟨by unfold bne; rw [hz]; rfl, trivial⟩ fun g11 => ?_
      refine Goes.call 11 #[cdV rx xW pW qW xI pI qI] fun w1 hm1 hn1 hI1 => (penc_two (hU.below (bel hI1.now.1)) hI1.now.2 hrg3 (by rw [d1]; exact cdG_wf l _)).mono fun e w2 ⟨⟨vb, he, hvb⟩, hB⟩ => ?_
      rw [d2] at he
      rw [e9] at hvb
      refine ⟨_, fun w' => Ch [] w w' ∧ ∃ b, By b w' vb l, [], he, Holds.nil, by simp [Mem.ids], fun w3 hc => (fun h => ⟨h.1.1, h.2⟩) (by_next hm1 hI1 hB hvb w3 (hc.mono fun x hx => by cases hx)), ?_⟩
      clear hm1 hn1 hI1 hB he hvb
      refine Goes.upto 65 [1, 1] [(true, true), (true, true)] ⟨rfl, rfl, trivial⟩ ?_
      refine Goes.val (convert 22 9 vb) (strV l) (fun w' hm hI => by obtain ⟨-, b, h⟩ := hI.now; exact conv_by h) ?_
      refine Goes.upto 67 [] [] trivial ?_
      refine Goes.val (convert 22 9 (.slice a l.length cap)) (strV l) (fun w' hm hI => conv_sl (hS w' hI.now.1)) ?_
      refine Goes.upto 68 [] [] trivial ?_
      refine Goes.val (do eqGuard .eql 9 (.tmp 65) (.tmp 67) (strV l) (strV l); binOp .eql 9 (strV l) (strV l)) (.bool true) (fun w' hm hI => by have := eqT (.tmp 65) (.tmp 67) l l rfl w'; simpa using this) ?_
      refine Goes.run [] [] trivial ?_
      exact Goes.ret [] (.bool true) fun w' hm hI => ⟨rfl, bel hI.now.1⟩
  | true =>
    obtain ⟨e1, e2, e3⟩ := enc_zero hr
    rw [e1] at hrg2
    obtain rfl : rg' = rg := hrg2.symm.trans hrg
    rw [e1, e2, e3]
    refine Goes.run1 [1, 1, 0, 0, 0, 1] [(false, false), (false, false), (true, true)] ⟨rfl, rfl, rfl, trivial⟩ fun g8 => ?_
    refine Goes.call0 10 #[cdV rg' aW nW cW aI nI cI, cdV rg' bW mW dW bI mI dI] (.bool true) (fun w' hm hI => samecode_any (hM.below (bel hI.now.1)) hI.now.2 ⟨by have := (right_fit hr).wn; have h1 := hM.lw; omega, by have := (right_fit hr).xn; have h1 := hM.li; omega⟩) ?_
    refine Goes.run [0] [(false, false)] ⟨rfl, trivial⟩ ?_
    refine Goes.inv (Inv' := fun w' => Ch [] w w' ∧ True) (fun w' h => ⟨h.1, trivial⟩) ?_
    refine Goes.call 8 #[.slice a l.length cap] fun w1 hm1 hn1 hI1 => (pdec_any (hU.below (bel hI1.now.1)) (hSb hI1.now.1) hn).mono fun e w2 ⟨rx, xW, pW, qW, xI, pI, qI, he, hM2, hrg3, hf2, hB⟩ => ?_
    refine ⟨_, fun w' => Ch [] w w' ∧ CdM w' xW pW qW xI pI qI (decK l), [], he, Holds.nil, by simp [Mem.ids], fun w3 hc => ⟨(hI1.bel hB).now.1.trans hc (fun x hx => by cases hx), hM2.below (hc.toB fun x hx => by cases hx)⟩, ?_⟩
    clear hm1 hn1 hI1 hB he hM2 hf2
    cases hz : (decE l == 0) with
    | false =>
      refine Goes.run1 [0, 1] [(decE l != 0, true)] ⟨by unfold bne; rw [hz]; rfl, trivial⟩ fun g11 => ?_
      exact Goes.ret [] (.bool true) fun w' hm hI => ⟨rfl, bel hI.now.1⟩
    | true =>
      obtain ⟨d1, d2, d3⟩ := dec_zero hz
      have e9 : lR (decK l) = l := by unfold lR; rw [d2]; exact d3
      refine Goes.run1 [0, 0, 0] [(decE l != 0, false)] ⟨by unfold bne; rw [hz]; rfl, trivial⟩ fun g11 => ?_
      refine Goes.call 11 #[cdV rx xW pW qW xI pI qI] fun w1 hm1 hn1 hI1 => (penc_two (hU.below (bel hI1.now.1)) hI1.now.2 hrg3 (by rw [d1]; exact cdG_wf l _)).mono fun e w2 ⟨⟨vb, he, hvb⟩, hB⟩ => ?_
      rw [d2] at he
      rw [e9] at hvb
      refine ⟨_, fun w' => Ch [] w w' ∧ ∃ b, By b w' vb l, [], he, Holds.nil, by simp [Mem.ids], fun w3 hc => (fun h => ⟨h.1.1, h.2⟩) (by_next hm1 hI1 hB hvb w3 (hc.mono fun x hx => by cases hx)), ?_⟩
      clear hm1 hn1 hI1 hB he hvb
      refine Goes.upto 65 [1, 1] [(true, true), (true, true)] ⟨rfl, rfl, trivial⟩ ?_
      refine Goes.val (convert 22 9 vb) (strV l) (fun w' hm hI => by obtain ⟨-, b, h⟩ := hI.now; exact conv_by h) ?_
      refine Goes.upto 67 [] [] trivial ?_
      refine Goes.val (convert 22 9 (.slice a l.length cap)) (strV l) (fun w' hm hI => conv_sl (hS w' hI.now.1)) ?_
      refine Goes.upto 68 [] [] trivial ?_
      refine Goes.val (do eqGuard .eql 9 (.tmp 65) (.tmp 67) (strV l) (strV l); binOp .eql 9 (strV l) (strV l)) (.bool true) (fun w' hm hI => by have := eqT (.tmp 65) (.tmp 67) l l rfl w'; simpa using this) ?_
      refine Goes.run [] [] trivial ?_
      exact Goes.ret [] (.bool true) fun w' hm hI => ⟨rfl, bel hI.now.1⟩
end
end Go.Proofs.YtddbiiejilcbbaaGreatDoor
