/- CausalKids walked. -/
import Derived.Test.YtfblnjidghijaaaCShown
import Derived.Test.YtfblnjidghijaaaCKidsM
import Derived.Test.YtfblnjidghijaaaEKid
namespace Go.Proofs.Ytfblnjidghijaaa
open Go Go.RowKit

theorem Cl4.same {w w' : World} {b o : Nat} {v : Value} (h : Cl4 w b o v) (e : w'.heap[b]? = w.heap[b]?) : Cl4 w' b o v := by
  obtain ⟨op, k, s, u, rfl, a0, a1, a2, a3⟩ := h
  have key : ∀ o, w'.cell? ⟨b, o, none⟩ = w.cell? ⟨b, o, none⟩ := fun o => by unfold World.cell?; rw [e]
  exact ⟨op, k, s, u, rfl, (key _).trans a0, (key _).trans a1, (key _).trans a2, (key _).trans a3⟩
set_option maxRecDepth 100000 in
seal rn rnN rnS Goes ans atEnd put0 putM opened openedY putA0 putA oneSt st0 orT orG in
theorem kids_walk {c : Co} {v : Value} {w : World} (which : Int) (hN : Nc w.heap.size w v c) : Calls Try.prog 4 #[v, .int .i64 which] w fun e w' => e = .returned (.bool true) ∧ Below w.heap.size w w' := by
  cases c with
  | mk op k t kids =>
  have hN0 := hN
  obtain ⟨a, cc, rfl, hf, hcap, hkids⟩ := hN.open
  obtain ⟨N, hL⟩ : ∃ N, kids.length = N := ⟨_, rfl⟩
  rw [hL] at hN0 ⊢
  refine Goes.begin Try.func4 [] (fun _ => True) Holds.nil (by simp [Mem.ids]) (fun _ _ => trivial) ?_
  refine Goes.run1 [] [] trivial fun g => ?_
  refine Goes.call0 6 #[] (.bool true) (fun w' _ _ => shown_any w') ?_
  refine Goes.run [0] [] trivial ?_
  refine Goes.call0 7 #[cv op k t (.slice a N cc)] (.tuple #[.int .i64 (typP (.mk op k t kids)).1, .bool (typP (.mk op k t kids)).2]) (fun w' _ hI => type_any (hN0.at (bel0 hI))) ?_
  cases hb : (typP (.mk op k t kids)).2 with
  | false =>
    refine Goes.run [1, 1, 1] [(true, true), (true, true), (true, true)] ⟨rfl, rfl, rfl, trivial⟩ ?_
    exact Goes.ret [] (.bool true) fun w' hm hI => ⟨rfl, bel0 hI⟩
  | true =>
    cases h1 : decide (which < 0) with
    | true =>
      refine Goes.run [0, 1, 1] [(true, true), (decide (which < 0), true), (false, false)] ⟨rfl, h1, rfl, trivial⟩ ?_
      exact Goes.ret [] (.bool true) fun w' hm hI => ⟨rfl, bel0 hI⟩
    | false =>
      obtain ⟨i, rfl⟩ : ∃ i : Nat, which = i := ⟨which.toNat, by have := of_decide_eq_false h1; omega⟩
      cases h2 : decide ((i : Int) ≥ (N : Int)) with
      | true =>
        refine Goes.run [0, 0, 0, 1] [(decide ((i : Int) ≥ (N : Int)), true), (decide ((i : Int) < 0), false), (false, false)] ⟨h2, h1, rfl, trivial⟩ ?_
        exact Goes.ret [] (.bool true) fun w' hm hI => ⟨rfl, bel0 hI⟩
      | false =>
        have hil : i < N := by have := of_decide_eq_false h2; omega
        obtain ⟨u, hu⟩ : ∃ u, kids[i]? = some u := ⟨kids[i]'(by omega), by simp⟩
        obtain ⟨b, o, x, rfl, hbl, hcl, hx⟩ := hkids i u hu
        obtain ⟨op', k', t', a', N', c', rfl⟩ := hx.cells
        obtain ⟨r1, r2, r3⟩ := kid_right hb hu
        obtain ⟨ob, hob⟩ : ∃ ob, w.heap[b]? = some ob := ⟨w.heap[b]'hbl, Array.getElem?_eq_getElem hbl⟩
        obtain ⟨SA, hSA⟩ : ∃ A, askP szF 0 u = A := ⟨_, rfl⟩
        obtain ⟨SB, hSB⟩ : ∃ A, askP szF 0 (.mk op k t kids) = A := ⟨_, rfl⟩
        obtain ⟨HA, hHA⟩ : ∃ A, askP hzF 0 u = A := ⟨_, rfl⟩
        obtain ⟨HB, hHB⟩ : ∃ A, askP hzF 0 (.mk op k t kids) = A := ⟨_, rfl⟩
        rw [hSA, hSB] at r2
        rw [hHA, hHB] at r3
        have hclw : ∀ w' : World, w'.heap[b]? = some ob → Cl4 w' b (o + i * 4) (cv op' k' t' (.slice a' N' c')) := fun w' h => hcl.same (h.trans hob.symm)
        have hbw : ∀ w' : World, (Ch (Mem.ids []) w w' ∧ True) → w'.heap[b]? = some ob := fun w' h => (h.1.block b hbl (by simp [Mem.ids])).trans hob
        refine Goes.run [0, 0, 0, 0, 0] [(decide ((i : Int) ≥ (N : Int)), false), (decide ((i : Int) < 0), false), (false, false)] ⟨h2, h1, rfl, trivial⟩ ?_
        refine Goes.val (Instr.indexAt 22 (.slice (some ⟨b, o, none⟩) N cc) (.int .i64 i)) (.pointer (some ⟨b, o + i * 4, none⟩)) (fun w' _ _ => idxC b o N cc i hil w') ?_
        refine Goes.val (Instr.loadAt 24 (.pointer (some ⟨b, o + i * 4, none⟩))) (cv op' k' t' (.slice a' N' c')) (fun w' _ hI => loadC (hclw _ (hbw _ hI.now))) ?_
        refine Goes.call0 7 #[cv op' k' t' (.slice a' N' c')] (.tuple #[.int .i64 (typP u).1, .bool true]) (fun w' _ hI => by have := type_any (hx.at (bel0 hI)); rwa [r1] at this) ?_
        refine Goes.run [] [] trivial ?_
        refine Goes.openY [0] [(b, ob)] (fun w' h j b' o' hj => by match j, hj with | 0, hj => (cases hj; exact hbw w' h)) ?_
        refine Goes.run [0, 1, 2, 3, 4, 5, 6, 0, 7] [] trivial ?_
        refine Goes.valA 8 (Instr.indexAt 22 (.slice (some ⟨b, o, none⟩) N cc) (.int .i64 i)) (.pointer (some ⟨b, o + i * 4, none⟩)) (fun w' _ => idxC b o N cc i hil w') ?_
        refine Goes.valA 9 (Instr.loadAt 24 (.pointer (some ⟨b, o + i * 4, none⟩))) (cv op' k' t' (.slice a' N' c')) (fun w' h => loadC (hclw _ (h.get 1))) ?_
        refine Goes.run [11, 0] [] trivial ?_
        refine Goes.callA0 10 16 #[cv op' k' t' (.slice a' N' c')] (.int .i64 SA) (fun w' _ hI => by have := size_any (hx.at (bel0 hI)); rwa [hSA] at this) ?_
        refine Goes.callA0 12 16 #[cv op k t (.slice (some ⟨b, o, none⟩) N cc)] (.int .i64 SB) (fun w' _ hI => by have := size_any (hN0.at (bel0 hI)); rwa [hSB] at this) ?_
        refine Goes.run [13] [] trivial ?_
        refine Goes.slot 52 (.bool true) (u := .bool (decide (SA < SB))) (by rw [decide_eq_true r2]) ?_
        refine Goes.run [14, 15, 16, 17, 0, 18] [] trivial ?_
        refine Goes.valA 19 (Instr.indexAt 22 (.slice (some ⟨b, o, none⟩) N cc) (.int .i64 i)) (.pointer (some ⟨b, o + i * 4, none⟩)) (fun w' _ => idxC b o N cc i hil w') ?_
        refine Goes.valA 20 (Instr.loadAt 24 (.pointer (some ⟨b, o + i * 4, none⟩))) (cv op' k' t' (.slice a' N' c')) (fun w' h => loadC (hclw _ (h.get 1))) ?_
        refine Goes.run [22, 0] [] trivial ?_
        refine Goes.callA0 21 11 #[cv op' k' t' (.slice a' N' c')] (.int .i64 HA) (fun w' _ hI => by have := horizon_any (hx.at (bel0 hI)); rwa [hHA] at this) ?_
        refine Goes.callA0 23 11 #[cv op k t (.slice (some ⟨b, o, none⟩) N cc)] (.int .i64 HB) (fun w' _ hI => by have := horizon_any (hN0.at (bel0 hI)); rwa [hHB] at this) ?_
        refine Goes.run [24] [] trivial ?_
        refine Goes.slot 63 (.bool true) (u := .bool (decide (HA ≤ HB))) (by rw [decide_eq_true r3]) ?_
        refine Goes.run [25, 26] [] trivial ?_
        exact Goes.ret [] (.bool true) fun w' hm hI => ⟨rfl, bel0 hI⟩
end Go.Proofs.Ytfblnjidghijaaa
