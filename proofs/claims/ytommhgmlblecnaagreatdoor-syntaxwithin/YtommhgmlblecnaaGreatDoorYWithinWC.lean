/- the text YWithinW -/
import Derived.Test.YtommhgmlblecnaaGreatDoorYPureWC
import Derived.Test.YtommhgmlblecnaaGreatDoorYGf
namespace Go.Proofs.YtommhgmlblecnaaGreatDoor
open Go Go.RowKit

set_option maxRecDepth 100000 in
set_option maxHeartbeats 2000000 in
seal rn Goes ans atEnd put0 putM opened putA0 oneSt st0 keep putA prt whP in
theorem within_any (l : List UInt8) (w : World) (ht : Tab w) (hl : l.length ≤ 1000000000000000000) : Calls Tryz.prog 3 #[strV l] w fun e w' => e = .returned (.bool true) ∧ Below w.heap.size w w' := by
  obtain ⟨Z, hZ⟩ : ∃ Z, whP xprP l = Z := ⟨_, rfl⟩
  obtain ⟨M, hM⟩ : ∃ M, whP modP (preW ++ 32 :: (l ++ 10 :: [59])) = M := ⟨_, rfl⟩
  refine Goes.begin Tryz.func3 [] Tab (fun j b o h => by cases h) (by simp [Mem.ids]) ht.stay ?_
  refine Goes.run [] [] trivial ?_
  refine Goes.call0 9 #[] (.bool true) (fun w' _ hI => shown7_any w' hI.now.2) ?_
  refine Goes.run [] [] trivial ?_
  refine Goes.callG [] 10 #[strV l] fun w1 hm1 hI1 => (xexpr_any _ w1 hI1.now.2 (L := []) (fun x hx => by simp at hx)).mono fun _ w2 ⟨u, e1, hB, hS⟩ => ⟨_, fun w => Nd w u.nd Z.1, e1, hB, by rw [hZ] at hS; exact hS, ?_⟩
  rw [hZ]
  refine Goes.upto1 19 [0] [] trivial fun g1 => ?_
  refine Goes.val (binOp .add 9 (strV (preW ++ [32])) (strV l)) (strV ((preW ++ [32]) ++ l)) (fun w' _ _ => addS7 (by simp [preW]; omega) w') ?_
  refine Goes.val (binOp .add 9 (strV ((preW ++ [32]) ++ l)) (strV [10, 59])) (strV (((preW ++ [32]) ++ l) ++ [10, 59])) (fun w' _ _ => addS7 (by simp [preW]; omega) w') ?_
  refine Goes.slot 20 (strV (preW ++ 32 :: (l ++ 10 :: [59]))) (u := strV (((preW ++ [32]) ++ l) ++ [10, 59])) (by simp) ?_
  obtain ⟨T, hT⟩ : ∃ T, preW ++ 32 :: (l ++ 10 :: [59]) = T := ⟨_, rfl⟩
  have hin := within_pure l
  rw [hT] at hM hin ⊢
  rw [hZ, hM] at hin
  have hbd := fun h => whP_bad (row := modP) (l := T) h
  rw [hM] at hbd
  refine Goes.run [] [] trivial ?_
  refine Goes.callG [g1] 11 #[strV T] fun w1 hm1 hI1 => (xmod_any _ w1 hI1.now.1.2 (L := [g1]) hm1).mono fun _ w2 ⟨v, e1, hB, hS⟩ => ⟨_, fun w => Nd w v.nd M.1, e1, hB, by rw [hM] at hS; exact hS, ?_⟩
  rw [hM]
  cases hf : (M.2.2 == 0) with
  | false =>
    have hf' : (M.2.2 != 0) = true := by unfold bne; rw [hf]; rfl
    have hm0 : M.1 = .mk 0 [] 0 [] 0 := hbd (by simpa using hf')
    rw [hm0]
    refine Goes.know fun w3 hm hI => ?_
    obtain ⟨a, c, d, rfl⟩ := hI.now.2.t6
    refine ⟨_, hI, ?_⟩
    cases he : (Z.2.2 != 0) with
    | true =>
      refine Goes.run1 [1, 1, 1, 1, 0, 1] [(M.2.2 == 0, false), (true, true), (true, true), (Z.2.2 != 0, true)] ⟨hf, rfl, rfl, he, trivial⟩ fun g2 => ?_
      exact Goes.ret [] (.bool true) fun w' hm hI => ⟨rfl, ch_below hI.now.1.1.1⟩
    | false =>
      refine Goes.run1 [1, 0, 1, 1, 0, 1] [(M.2.2 == 0, false), (true, true), (M.2.2 != 0, true), (Z.2.2 != 0, false)] ⟨hf, rfl, hf', he, trivial⟩ fun g2 => ?_
      exact Goes.ret [] (.bool true) fun w' hm hI => ⟨rfl, ch_below hI.now.1.1.1⟩
  | true =>
    have hf' : (M.2.2 != 0) = false := by unfold bne; rw [hf]; rfl
    cases he : (Z.2.2 != 0) with
    | true =>
      refine Goes.run1 [1, 1, 1, 1, 1] [(M.2.2 == 0, true), (true, true), (true, true), (Z.2.2 != 0, true)] ⟨hf, rfl, rfl, he, trivial⟩ fun g2 => ?_
      exact Goes.ret [] (.bool true) fun w' hm hI => ⟨rfl, ch_below hI.now.1.1.1⟩
    | false =>
      obtain ⟨x, n, p, x', n', p', e', hm1, hsam⟩ := hin (by simpa using he) (by simpa using hf)
      rw [hm1]
      refine Goes.know fun w3 hm hI => ?_
      obtain ⟨b, o, v0, ob, ha, h0⟩ := Stay.kid (hI.mono fun _ h => h.2) (i := 0) rfl
      obtain ⟨a, c, d, rfl⟩ := hI.now.2.t6
      obtain rfl : a = some ⟨b, o, none⟩ := ha
      obtain ⟨b1, o1, v1, ob1, ha1, h1⟩ := Stay.kid (h0.mono fun _ h => h.2.1) (i := 0) rfl
      obtain ⟨a0, c0, d0, rfl⟩ := h0.now.2.1.t6
      obtain rfl : a0 = some ⟨b1, o1, none⟩ := ha1
      refine ⟨_, (hI.mono fun _ h => h.1).and (h0.and h1), ?_⟩
      refine Goes.run1 [1, 0, 0, 1, 0, 1] [(false, false), (M.2.2 != 0, false), (Z.2.2 != 0, false)] ⟨rfl, hf', he, trivial⟩ fun g2 => ?_
      refine Goes.val (Instr.indexAt 23 (.slice (some ⟨b, o, none⟩) 1 c) (.int .i64 (0 : Nat))) (.pointer (some ⟨b, o + 0 * 5, none⟩)) (fun w' _ _ => idx24 b o 1 c 0 (by decide) w') ?_
      refine Goes.run [] [] trivial ?_
      refine Goes.val (Instr.loadAt 23 (.pointer (some ⟨b, o + 0 * 5 + 3, none⟩))) (.slice (some ⟨b1, o1, none⟩) 1 c0) (fun w' _ hI => cl_s hI.now.2.1.1 23 Tryz.isAgg23) ?_
      refine Goes.run [0] [(false, false)] ⟨rfl, trivial⟩ ?_
      refine Goes.openX [0, 1] [(b, ob), (b1, ob1)] (fun w' h => Holds.two h.2.1.2.2 h.2.2.2.2) ?_
      refine Goes.run [0, 1, 2, 3, 1] [] trivial ?_
      refine Goes.valA 4 (Instr.indexAt 23 (.slice (some ⟨b, o, none⟩) 1 c) (.int .i64 (0 : Nat))) (.pointer (some ⟨b, o + 0 * 5, none⟩)) (fun w' _ => idx24 b o 1 c 0 (by decide) w') ?_
      refine Goes.run [5] [] trivial ?_
      refine Goes.valA 6 (Instr.loadAt 23 (.pointer (some ⟨b, o + 0 * 5 + 3, none⟩))) (.slice (some ⟨b1, o1, none⟩) 1 c0) (fun w' hm => cl_s (h0.now.1.same ((hm.get 2).trans h0.now.2.2.symm)) 23 Tryz.isAgg23) ?_
      refine Goes.valA 7 (Instr.indexAt 23 (.slice (some ⟨b1, o1, none⟩) 1 c0) (.int .i64 (0 : Nat))) (.pointer (some ⟨b1, o1 + 0 * 5, none⟩)) (fun w' _ => idx24 b1 o1 1 c0 0 (by decide) w') ?_
      refine Goes.valA 8 (Instr.loadAt 25 (.pointer (some ⟨b1, o1 + 0 * 5, none⟩))) v1.nd (fun w' hm => load24 (h1.now.1.same ((hm.get 3).trans h1.now.2.2.symm))) ?_
      refine Goes.run [9, 0] [] trivial ?_
      refine Goes.callA0 10 12 #[v1.nd, u.nd] (.bool true) (fun w' _ hI => hsam ▸ rsame_any e' Z.1 w' v1.nd u.nd hI.now.2.2.2.1 hI.now.1.2) ?_
      refine Goes.run [11, 12] [] trivial ?_
      exact Goes.ret [] (.bool true) fun w' hm hI => ⟨rfl, ch_below hI.now.1.1.1⟩
theorem syntaxWithin_walk (s : ByteArray) (w : World) (ht : Tab w) (hs : s.size ≤ 140737488351232) : Calls Tryz.prog 3 #[.string s] w fun e w' => e = .returned (.bool true) ∧ Below w.heap.size w w' := by
  have := within_any s.data.toList w ht (by have : s.data.toList.length = s.size := rfl; omega)
  exact this
end Go.Proofs.YtommhgmlblecnaaGreatDoor
