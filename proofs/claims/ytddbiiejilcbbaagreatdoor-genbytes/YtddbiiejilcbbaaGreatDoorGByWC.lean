/- the text GByW -/
import Derived.Test.YtddbiiejilcbbaaGreatDoorAG16
import Derived.Test.DevTool
namespace Go.Proofs.YtddbiiejilcbbaaGreatDoor
open Go Go.RowKit

theorem decK_small (l : List UInt8) : (decK l).waits.length ≤ 1000000000000 ∧ (decK l).ins.length ≤ 1000000000000 := by
  unfold decK
  cases ((cdE l).bad || decide ((cdE l).pos < l.length)) with
  | true => simp [k0]
  | false =>
    simp only [cond_false]
    cases hr : rightR (cdG l ⟨0, false⟩) with
    | false => simp [k0]
    | true =>
      have := hr
      unfold rightR headR at this
      simp only [Bool.and_eq_true, decide_eq_true_eq] at this
      simp only [cond_true]
      omega
section
variable {cap : Nat} {a : Option Addr} {l : List UInt8} {w : World}
set_option maxHeartbeats 2000000 in
set_option maxRecDepth 100000 in
seal rn rnN rnS Goes ans atEnd put0 put putM opened openedY putA0 putA oneSt st0 keep mkSt newSt in
theorem bytes_walk (hT : Tab w) (hU : TabU w) (hS : Stay [] w (fun w' => Sl w' (.slice a l.length cap) l)) (hn : l.length ≤ 281474976710656) : Calls Tryz.prog 3 #[.slice a l.length cap] w fun e w' => e = .returned (.bool true) ∧ Below w.heap.size w w' := by
  have hS' : ∀ {w1}, Below w.heap.size w w1 → Stay [] w1 (fun w' => Sl w' (.slice a l.length cap) l) := fun hB w3 hc => hS w3 ((⟨hB.os, hB.tape, hB.output, hB.size, fun i hi _ => hB.block i hi⟩ : Ch [] w _).trans hc fun x hx => by cases hx)
  refine Goes.begin Tryz.func3 [] (fun _ => True) Holds.nil (by simp [Mem.ids]) (fun _ _ => trivial) ?_
  refine Goes.run [] [] trivial ?_
  refine Goes.call0 7 #[] (.bool true) (fun w' hm hI => shown17_any (hT.below (bel0 hI)) (hU.below (bel0 hI))) ?_
  refine Goes.run [] [] trivial ?_
  refine Goes.call 8 #[.slice a l.length cap] fun w1 hm1 hn1 hI1 => (pdec_any (hU.below (bel0 hI1)) (hS' (bel0 hI1)) hn).mono fun e w2 ⟨rg, aW, nW, cW, aI, nI, cI, he, hM, hrg, _, hB⟩ => ?_
  refine ⟨_, fun w' => Ch [] w w' ∧ CdM w' aW nW cW aI nI cI (decK l), [], he, Holds.nil, by simp [Mem.ids], fun w3 hc => ⟨(hI1.bel hB).now.1.trans hc (fun x hx => by cases hx), hM.below (hc.toB fun x hx => by cases hx)⟩, ?_⟩
  refine Goes.run1 [0] [] trivial fun g4 => ?_
  refine Goes.call 9 #[.slice a l.length cap] fun w3 hm3 hn3 hI3 => (rdec_any (hS' (hI3.now.1.toB fun x hx => by cases hx)) hn).mono fun e w4 ⟨rg', aW', nW', cW', aI', nI', cI', he4, hM4, hrg4, hf4, hB4⟩ => ?_
  obtain rfl : rg' = rg := hrg4.symm.trans hrg
  have y4 : w3.heap[g4]? = some (cO3 rg' (.slice aW nW cW) (.slice aI nI cI)) := hm3.get 0
  refine ⟨_, fun w' => Ch [] w w' ∧ CdM w' aW nW cW aI nI cI (decK l) ∧ CdM w' aW' nW' cW' aI' nI' cI' (decK l), [(g4, cO3 rg' (.slice aW nW cW) (.slice aI nI cI))], he4, hold1 ((hB4.block g4 (lt_of_get y4)).trans y4), by simp [Mem.ids], fun w5 hc => ⟨(hI3.bel hB4 w5 (hc.mono fun x hx => mem_eq (l := [g4]) (by simpa [Mem.ids] using hx))).1, (hI3.bel hB4 w5 (hc.mono fun x hx => mem_eq (l := [g4]) (by simpa [Mem.ids] using hx))).2, ?_⟩, ?_⟩
  · have far : ∀ x : Addr, w3.heap.size ≤ x.block → x.block ∉ [g4] := fun x hx hm => by
      rw [List.mem_singleton] at hm
      have := lt_of_get y4
      omega
    exact hM4.away (fun x hx => far x (hf4.1 x hx)) (fun x hx => far x (hf4.2 x hx)) hc
  clear hm1 hn1 hI1 hB he hM hm3 hn3 hI3 he4 hM4 hB4 y4
  refine Goes.run1 [1, 1, 0, 1] [(true, true)] ⟨rfl, trivial⟩ fun g7 => ?_
  refine Goes.call0 10 #[cdV rg' aW nW cW aI nI cI, cdV rg' aW' nW' cW' aI' nI' cI'] (.bool true) (fun w' hm hI => samecode_any hI.now.2.1 hI.now.2.2 ⟨by have := decK_small l; have h1 := hI.now.2.1.lw; omega, by have := decK_small l; have h1 := hI.now.2.1.li; omega⟩) ?_
  refine Goes.run [1, 1] [(decA l == decA l, true), (true, true)] ⟨by simp, rfl, trivial⟩ ?_
  exact Goes.ret [] (.bool (decE l == decE l)) fun w' hm hI => ⟨by simp, hI.now.1.toB fun x hx => by cases hx⟩
end
end Go.Proofs.YtddbiiejilcbbaaGreatDoor
