/- the text OMeF -/
import Derived.Test.YtekgfdbeinacjaaGreatDoorAG15
namespace Go.Proofs.YtekgfdbeinacjaaGreatDoor
open Go Go.RowKit

set_option maxRecDepth 100000 in
seal rn rnN rnS Goes ans atEnd put0 put putM opened openedY putA0 putA oneSt st0 keep mkSt newSt in
theorem factors_any {base base' : Nat} {l m : List (Int × Int)} {v v' : Value} {w : World} (hlm : m.length = l.length) (hf : ∀ (i : Nat) x y, l[i]? = some x → m[i]? = some y → y.2 = x.2) (h : Lvs base w v l) (h' : Lvs base' w v' m) (hl : l.length ≤ 1000000000) : Calls Tryz.prog 12 #[v, v'] w fun e w' => e = .returned (.bool true) ∧ Below w.heap.size w w' := by
  obtain ⟨a, c, rfl⟩ := own_form h
  obtain ⟨a', c', rfl⟩ := own_form h'
  obtain ⟨N, hN⟩ : ∃ N, l.length = N := ⟨_, rfl⟩
  rw [hN] at hl h hlm ⊢
  rw [hlm] at h' ⊢
  refine Goes.begin Tryz.func12 [] (fun _ => True) Holds.nil (by simp [Mem.ids]) (fun _ _ => trivial) ?_
  refine Goes.run [0] [((N : Int) != (N : Int), false)] ⟨by simp, trivial⟩ ?_
  refine Goes.loop0 (α := Nat) 28 (fun i => [(0, .slice a N c), (1, .slice a' N c'), (5, .int .i64 i)]) [] (fun i => i ≤ N) (fun i => N - i) 0 (Nat.zero_le _) ?_
  rintro i J hi back
  cases hlt : decide ((i : Int) < (N : Int)) with
  | false =>
    refine Goes.run [0, 0] [(decide ((i : Int) < (N : Int)), false)] ⟨hlt, trivial⟩ ?_
    exact Goes.ret [] (.bool true) fun w' hm hI => ⟨rfl, bel0 hI⟩
  | true =>
    have hil : i < N := by have := of_decide_eq_true hlt; omega
    obtain ⟨q, hq⟩ : ∃ q, l[i]? = some q := ⟨l[i]'(by omega), by simp⟩
    obtain ⟨r, hr⟩ : ∃ r, m[i]? = some r := ⟨m[i]'(by omega), by simp⟩
    have hqr : r.2 = q.2 := hf i q r hq hr
    obtain ⟨g, cap, cur, he, hg, -, -, hc⟩ := own_open h (by omega)
    obtain ⟨g', cap', cur', he', hg', -, -, hc'⟩ := own_open h' (by omega)
    rw [hN] at he
    rw [hlm] at he'
    cases he
    cases he'
    refine Goes.run [0, 1] [(decide ((i : Int) < (N : Int)), true)] ⟨hlt, trivial⟩ ?_
    refine Goes.openY [] [(g, .cells cur 60 (0, 0)), (g', .cells cur' 60 (0, 0))] (fun w' hI => hex2 hg hg' hI.1) ?_
    refine Goes.run [0, 1] [] trivial ?_
    refine Goes.valA 2 (Instr.indexAt 32 (.slice (some ⟨g, 0, none⟩) N c) (.int .i64 i)) (.pointer (some ⟨g, i * 2, none⟩)) (fun w' _ => idxLv0 g N c i hil w') ?_
    refine Goes.run [3] [] trivial ?_
    refine Goes.valA 4 (Instr.loadAt 2 (.pointer (some ⟨g, i * 2 + 1, none⟩))) (.int .i64 q.2) (fun w' hm => load1 Tryz.isAgg2 (cell_obj (t := 60) (z := (0, 0)) (hm.get 0) (hc _ _ (lvC_at hq).2))) ?_
    refine Goes.run [5, 6] [] trivial ?_
    refine Goes.valA 7 (Instr.indexAt 32 (.slice (some ⟨g', 0, none⟩) N c') (.int .i64 i)) (.pointer (some ⟨g', i * 2, none⟩)) (fun w' _ => idxLv0 g' N c' i hil w') ?_
    refine Goes.run [8] [] trivial ?_
    refine Goes.valA 9 (Instr.loadAt 2 (.pointer (some ⟨g', i * 2 + 1, none⟩))) (.int .i64 r.2) (fun w' hm => load1 Tryz.isAgg2 (cell_obj (t := 60) (z := (0, 0)) (hm.get 1) (hc' _ _ (lvC_at hr).2))) ?_
    refine Goes.run [10, 0] [(q.2 != r.2, false)] ⟨by rw [hqr]; simp, trivial⟩ ?_
    refine Goes.slot 5 (.int .i64 (i + 1 : Nat)) (u := .int .i64 (IntKind.i64.wrap ((i : Int) + 1))) (congrArg _ (wrap_nat (by omega))) ?_
    exact back (i + 1) _ hil (by omega) (by kernel_rfl) (by kernel_rfl) (by kernel_rfl)
end Go.Proofs.YtekgfdbeinacjaaGreatDoor
