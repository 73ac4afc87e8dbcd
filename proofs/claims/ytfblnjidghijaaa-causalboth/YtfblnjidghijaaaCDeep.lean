/- The law's own deep. -/
import Derived.Test.YtfblnjidghijaaaCBothM
import Derived.Test.YtfblnjidghijaaaCShown
namespace Go.Proofs.Ytfblnjidghijaaa
open Go Go.RowKit

set_option maxRecDepth 100000 in
seal rn rnN rnS Goes ans atEnd put0 putM opened putA0 putA oneSt st0 orT orG in
theorem deep_any (c : Co) : ∀ (v : Value) (w : World) (n : Int), -100 ≤ n → n ≤ 200 → Nc w.heap.size w v c → Calls Try.prog 18 #[v, .int .i64 n] w fun e w' => e = .returned (.bool (deepP n c)) ∧ Below w.heap.size w w' := by
  induction c using Co.ind with
  | h op k t kids ih =>
    intro v w n hn1 hn2 hN
    obtain ⟨a, cc, rfl, hfit, hcap, hkids⟩ := hN.open
    obtain ⟨N, hL⟩ : ∃ N, kids.length = N := ⟨_, rfl⟩
    rw [hL] at hcap ⊢
    refine Goes.begin Try.func18 [] (fun _ => True) Holds.nil (by simp [Mem.ids]) (fun _ _ => trivial) ?_
    cases h1 : decide (n ≤ 1) with
    | true =>
      refine Goes.run1 [1] [(decide (n ≤ 1), true)] ⟨h1, trivial⟩ fun g => ?_
      exact Goes.ret [] (.bool true) fun w' hm hI => ⟨by unfold deepP; rw [h1] <;> rfl, bel0 hI⟩
    | false =>
      have hn : 1 < n := by have := of_decide_eq_false h1; omega
      have hw : IntKind.i64.wrap (n - 1) = n - 1 := IntWalk.i64_in _ ⟨by omega, by omega⟩
      refine Goes.run1 [0] [(decide (n ≤ 1), false)] ⟨h1, trivial⟩ fun g => ?_
      have hW : deepP n (.mk op k t kids) = deepL (n - 1) kids := by unfold deepP; rw [h1] <;> rfl
      rw [hW]
      refine Goes.loop0 (α := Nat) 25 (fun i => [(1, .int .i64 n), (2, .pointer (some ⟨g, 0, none⟩)), (5, .int .i64 i)]) [(g, cO op k t (.slice a N cc))] (fun i => i ≤ N ∧ deepL (n - 1) kids = deepL (n - 1) (kids.drop i)) (fun i => N - i) 0 ⟨Nat.zero_le _, rfl⟩ ?_
      rintro i J ⟨hi, hrest⟩ back
      cases hlt : decide ((i : Int) < (N : Int)) with
      | false =>
        obtain rfl : i = N := by have := of_decide_eq_false hlt; omega
        refine Goes.run [0, 0, 0] [(decide ((i : Int) < (i : Int)), false)] ⟨hlt, trivial⟩ ?_
        exact Goes.ret [] (.bool false) fun w' hm hI => ⟨by rw [hrest, List.drop_of_length_le (by omega), deepL], bel0 hI⟩
      | true =>
        have hil : i < N := by have := of_decide_eq_true hlt; omega
        obtain ⟨u, hu⟩ : ∃ u, kids[i]? = some u := ⟨kids[i]'(by omega), by simp⟩
        obtain ⟨b, o, x, rfl, hb, hcl, hx⟩ := hkids i u hu
        obtain ⟨op', k', t', a', N', c', rfl⟩ := hx.cells
        have hdrop : kids.drop i = u :: kids.drop (i + 1) := by
          obtain ⟨h1, h2⟩ := List.getElem?_eq_some_iff.1 hu
          rw [List.drop_eq_getElem_cons h1, h2]
        refine Goes.run [0, 0, 1, 0] [(decide ((i : Int) < (N : Int)), true)] ⟨hlt, trivial⟩ ?_
        refine Goes.val (Instr.indexAt 22 (.slice (some ⟨b, o, none⟩) N cc) (.int .i64 i)) (.pointer (some ⟨b, o + i * 4, none⟩)) (fun w' _ _ => idxC b o N cc i hil w') ?_
        refine Goes.val (Instr.loadAt 24 (.pointer (some ⟨b, o + i * 4, none⟩))) (cv op' k' t' (.slice a' N' c')) (fun w' _ hI => loadC (hcl.below hb (bel0 hI))) ?_
        refine Goes.run [] [] trivial ?_
        refine Goes.slot 22 (.int .i64 (n - 1)) (u := .int .i64 (IntKind.i64.wrap (n - 1))) (congrArg _ hw) ?_
        refine Goes.call0 18 #[cv op' k' t' (.slice a' N' c'), .int .i64 (n - 1)] (.bool (deepP (n - 1) u)) (fun w' _ hI => ih u (List.mem_of_getElem? hu) _ w' (n - 1) (by omega) (by omega) (hx.at (bel0 hI))) ?_
        cases hd : deepP (n - 1) u with
        | true =>
          refine Goes.run [1] [(true, true)] ⟨rfl, trivial⟩ ?_
          exact Goes.ret [] (.bool true) fun w' hm hI => ⟨by rw [hrest, hdrop, deepL, hd]; rfl, bel0 hI⟩
        | false =>
          refine Goes.run [0] [(false, false)] ⟨rfl, trivial⟩ ?_
          refine Goes.slot 5 (.int .i64 (i + 1 : Nat)) (u := .int .i64 (IntKind.i64.wrap ((i : Int) + 1))) (congrArg _ (wrap_nat (by omega))) ?_
          exact back (i + 1) _ ⟨hil, by rw [hrest, hdrop, deepL, hd]; rfl⟩ (by omega) (by kernel_rfl) (by kernel_rfl) (by kernel_rfl)
end Go.Proofs.Ytfblnjidghijaaa
