/- texts put together: NRf VmL1 -/
import Derived.Test.YtddbiiejilcbbaaGreatDoorAG16
import Derived.Test.YtddbiiejilcbbaaGreatDoorAG23
namespace Go.Proofs.YtddbiiejilcbbaaGreatDoor
open Go Go.RowKit

def lstD (l : List (Int × Int)) : Nat → Int
  | 0 => -1
  | j + 1 => ((l[j]?).map (·.1)).getD (-1)
def lstN (fs : Fs) : Nat → List UInt8
  | 0 => []
  | j + 1 => ((fs[j]?).map (·.1)).getD []
theorem Cel.same {w w' : World} {b o : Nat} {v : Value} {ob : Obj} (h : w.cell? ⟨b, o, none⟩ = some v) (e : w.heap[b]? = some ob) (e' : w'.heap[b]? = some ob) : w'.cell? ⟨b, o, none⟩ = some v := (cell_same (e'.trans e.symm)).trans h
theorem nam_lt {s : List UInt8} (h : namP s = true) : decide (([] : List UInt8) < s) = true := by
  cases s with
  | nil => cases h
  | cons x r => exact decide_eq_true (List.nil_lt_cons _ _)
set_option maxRecDepth 100000 in
set_option maxHeartbeats 8000000 in
seal rn rnN rnS Goes ans atEnd put0 put putM opened openedY putA0 putA oneSt st0 keep in
theorem rfeedsR_any {fs : Fs} {v : Value} {w : World} (hF : Fds w.heap.size w v fs) (hl : ∀ f ∈ fs, f.1.length ≤ 9223372036854775807) : Calls Tryz.prog 68 #[v] w fun e w' => e = .returned (.bool (rfP fs)) ∧ Below w.heap.size w w' := by
  obtain ⟨a, c, rfl, hc, hfs⟩ := hF
  obtain ⟨N, hN⟩ : ∃ N, fs.length = N := ⟨_, rfl⟩
  rw [hN] at hc ⊢
  refine Goes.begin Tryz.func68 [] (fun _ => True) Holds.nil (by simp [Mem.ids]) (fun _ _ => trivial) ?_
  cases h0 : decide ((N : Int) > 64) with
  | true =>
    refine Goes.run [1] [(decide ((N : Int) > 64), true)] ⟨h0, trivial⟩ ?_
    exact Goes.ret [] (.bool false) fun w' hm hI => ⟨by unfold rfP; rw [hN, decide_eq_false (by have := of_decide_eq_true h0; omega)]; rfl, bel0 hI⟩
  | false =>
    have hW : rfP fs = fdOk [] fs := by unfold rfP; rw [hN, decide_eq_true (by have := of_decide_eq_false h0; omega), Bool.true_and]
    rw [hW]
    refine Goes.run [0] [(decide ((N : Int) > 64), false)] ⟨h0, trivial⟩ ?_
    refine Goes.loop0 (α := Nat) 106 (fun i => [(0, .slice a N c), (3, .int .i64 i)]) [] (fun i => i ≤ N ∧ fdOk [] fs = fdOk (lstN fs i) (fs.drop i)) (fun i => N - i) 0 ⟨Nat.zero_le _, rfl⟩ ?_
    rintro i J ⟨hi, hrest⟩ back
    cases hlt : decide ((i : Int) < (N : Int)) with
    | false =>
      refine Goes.run [0, 0] [(decide ((i : Int) < (N : Int)), false)] ⟨hlt, trivial⟩ ?_
      exact Goes.ret [] (.bool true) fun w' hm hI => ⟨by rw [hrest, List.drop_of_length_le (by have := of_decide_eq_false hlt; omega)]; rfl, bel0 hI⟩
    | true =>
      have hil : i < N := by have := of_decide_eq_true hlt; omega
      obtain ⟨f, hf⟩ : ∃ f, fs[i]? = some f := ⟨fs[i]'(by omega), by simp⟩
      obtain ⟨b, o, u, rfl, hb, x1, x2, a2, c2, rfl, hc2, hstm⟩ := hfs i f hf
      obtain ⟨ob, hob⟩ := blk_of hb
      obtain ⟨M, hM⟩ : ∃ M, f.2.length = M := ⟨_, rfl⟩
      rw [hM] at x2 hc2
      have hR : fdOk [] fs = ((decide (lstN fs i < f.1) && namP f.1 && stmP f.2) && fdOk f.1 (fs.drop (i + 1))) := by rw [hrest, drop_any hf, fdOk]
      cases i with
      | zero =>
        refine Goes.run [0, 1] [(decide (((0 : Nat) : Int) < (N : Int)), true)] ⟨hlt, trivial⟩ ?_
        refine Goes.val (Instr.indexAt 36 (.slice (some ⟨b, o, none⟩) N c) (.int .i64 ((0 : Nat) : Int))) (.pointer (some ⟨b, o + 0 * 2, none⟩)) (fun w' _ _ => idxF b o N c 0 hil w') ?_
        refine Goes.run [] [] trivial ?_
        refine Goes.val (Instr.loadAt 9 (.pointer (some ⟨b, o + 0 * 2, none⟩))) (strV f.1) (fun w' _ hI => load1 Tryz.isAgg9 (((bel0 hI).cell (p := ⟨b, o + 0 * 2, none⟩) hb).trans x1)) ?_
        refine Goes.call0 71 #[strV f.1] (.bool (namP f.1)) (fun w' _ _ => rname_any f.1 w' (hl f (List.mem_of_getElem? hf))) ?_
        refine Goes.run [] [] trivial ?_
        refine Goes.val (Instr.indexAt 36 (.slice (some ⟨b, o, none⟩) N c) (.int .i64 ((0 : Nat) : Int))) (.pointer (some ⟨b, o + 0 * 2, none⟩)) (fun w' _ _ => idxF b o N c 0 hil w') ?_
        refine Goes.run [] [] trivial ?_
        refine Goes.val (Instr.loadAt 160 (.pointer (some ⟨b, o + 0 * 2 + 1, none⟩))) (.slice a2 M c2) (fun w' _ hI => load1 Tryz.isAgg160 (((bel0 hI).cell (p := ⟨b, o + 0 * 2 + 1, none⟩) hb).trans x2)) ?_
        refine Goes.run [] [] trivial ?_
        refine Goes.openY [] [(b, ob)] (fun w' hI => hex1 hob hI.1) ?_
        cases hnm : namP f.1 with
        | false =>
          refine Goes.run [0, 1, 2, 3, 4, 5, 6, 7, 8, 9, 10, 11, 12, 13, 14, 15, 16, 17, 18, 19, 20, 21, 22, 23, 24, 1] [(true, true)] ⟨rfl, trivial⟩ ?_
          exact Goes.ret [] (.bool false) fun w' hm hI => ⟨by rw [hR, hnm]; simp, bel0 hI⟩
        | true =>
          have hfst : decide (lstN fs 0 < f.1) = true := nam_lt hnm
          rw [hfst, hnm] at hR
          cases hM4 : decide ((M : Int) > 4096) with
          | true =>
            refine Goes.run [0, 1, 2, 3, 4] [] trivial ?_
            refine Goes.slot 31 (.bool false) (u := .bool (decide (((0 : Nat) : Int) > 0))) (congrArg _ (rfl)) ?_
            refine Goes.run [5, 6, 7, 8, 9, 10, 11, 12, 13, 14, 15, 16, 17, 18, 19, 20, 21, 22, 23, 24, 1] [(decide ((M : Int) > 4096), true)] ⟨hM4, trivial⟩ ?_
            exact Goes.ret [] (.bool false) fun w' hm hI => ⟨by rw [hR]; unfold stmP; rw [hM, decide_eq_false (by have := of_decide_eq_true hM4; omega)]; simp, bel0 hI⟩
          | false =>
            refine Goes.run [0, 1, 2, 3, 4] [] trivial ?_
            refine Goes.slot 31 (.bool false) (u := .bool (decide (((0 : Nat) : Int) > 0))) (congrArg _ (rfl)) ?_
            refine Goes.run [5, 6, 7, 8, 9, 10, 11, 12, 13, 14, 15, 16, 17, 18, 19, 20, 21, 22, 23, 24, 0] [(decide ((M : Int) > 4096), false)] ⟨hM4, trivial⟩ ?_
            have hlen4 : stmP f.2 = stOk (-1) f.2 := by unfold stmP; rw [hM, decide_eq_true (by have := of_decide_eq_false hM4; omega), Bool.true_and]
            refine Goes.loop0 (α := Nat) 106 (fun k => [(0, .slice (some ⟨b, o, none⟩) N c), (3, .int .i64 ((0 : Nat) : Int)), (5, .slice a2 M c2), (6, .int .i64 k)]) [] (fun k => k ≤ M ∧ stOk (-1) f.2 = stOk (lstD f.2 k) (f.2.drop k)) (fun k => M - k) 0 ⟨Nat.zero_le _, rfl⟩ ?_
            rintro k J2 ⟨hkM, hst⟩ back2
            cases hkl : decide ((k : Int) < (M : Int)) with
            | false =>
              refine Goes.run [0, 0] [(decide ((k : Int) < (M : Int)), false)] ⟨hkl, trivial⟩ ?_
              refine Goes.slot 3 (.int .i64 (0 + 1 : Nat)) (u := .int .i64 (IntKind.i64.wrap (((0 : Nat) : Int) + 1))) (congrArg _ (wrap_nat (by omega))) ?_
              exact back (0 + 1) _ ⟨hil, by rw [hR, hlen4, hst, List.drop_of_length_le (by have := of_decide_eq_false hkl; omega), stOk]; simp [lstN, hf]⟩ (by omega) (by kernel_rfl) (by kernel_rfl) (by kernel_rfl)
            | true =>
              have hkl' : k < M := by have := of_decide_eq_true hkl; omega
              obtain ⟨q, hq⟩ : ∃ q, f.2[k]? = some q := ⟨f.2[k]'(by omega), by simp⟩
              obtain ⟨b2, o2, rfl, hb2, y1, y2⟩ := hstm k q hq
              obtain ⟨ob2, hob2⟩ := blk_of hb2
              have hdrop := drop_any hq
              refine Goes.run [0, 1] [(decide ((k : Int) < (M : Int)), true)] ⟨hkl, trivial⟩ ?_
              cases k with
              | zero =>
                refine Goes.openY [] [(b2, ob2)] (fun w' hI => hex1 hob2 hI.1) ?_
                cases h1 : decide (q.1 < 0) with
                | true =>
                  refine Goes.run [0, 1] [] trivial ?_
                  refine Goes.valA 2 (Instr.indexAt 160 (.slice (some ⟨b2, o2, none⟩) M c2) (.int .i64 ((0 : Nat) : Int))) (.pointer (some ⟨b2, o2 + 0 * 2, none⟩)) (fun w' _ => idxT b2 o2 M c2 0 (by omega) w') ?_
                  refine Goes.run [3] [] trivial ?_
                  refine Goes.valA 4 (Instr.loadAt 3 (.pointer (some ⟨b2, o2 + 0 * 2, none⟩))) (.int .i64 q.1) (fun w' hm => load1 Tryz.isAgg3 (Cel.same y1 hob2 (hm.get 0))) ?_
                  refine Goes.run [5] [] trivial ?_
                  refine Goes.slot 63 (.bool true) (u := .bool (decide (q.1 < 0))) (congrArg _ (h1)) ?_
                  refine Goes.run [6, 7, 8, 9, 10, 11, 12, 13, 14, 15, 16, 17, 18, 19, 20, 21, 22, 23, 24, 25, 26, 27, 28, 29, 30, 31, 32, 33, 34, 35, 36, 37, 38, 39, 40, 41, 42, 43, 44, 45, 46, 47, 1] [(true, true)] ⟨rfl, trivial⟩ ?_
                  have hbad : (!decide (q.1 ≤ lstD f.2 0) && dayP q.1 && numP q.2) = false := by
                    rw [Bool.and_eq_false_iff, Bool.and_eq_false_iff]
                    refine .inl (.inr ?_); unfold dayP; have := of_decide_eq_true h1; rw [decide_eq_false (by omega), Bool.false_and]
                  exact Goes.ret [] (.bool false) fun w' hm hI => ⟨by rw [hR, hlen4, hst, hdrop, stOk, hbad]; simp, bel0 hI⟩
                | false =>
                  cases h2 : decide (q.1 > 73048) with
                  | true =>
                    refine Goes.run [0, 1] [] trivial ?_
                    refine Goes.valA 2 (Instr.indexAt 160 (.slice (some ⟨b2, o2, none⟩) M c2) (.int .i64 ((0 : Nat) : Int))) (.pointer (some ⟨b2, o2 + 0 * 2, none⟩)) (fun w' _ => idxT b2 o2 M c2 0 (by omega) w') ?_
                    refine Goes.run [3] [] trivial ?_
                    refine Goes.valA 4 (Instr.loadAt 3 (.pointer (some ⟨b2, o2 + 0 * 2, none⟩))) (.int .i64 q.1) (fun w' hm => load1 Tryz.isAgg3 (Cel.same y1 hob2 (hm.get 0))) ?_
                    refine Goes.run [5] [] trivial ?_
                    refine Goes.slot 63 (.bool false) (u := .bool (decide (q.1 < 0))) (congrArg _ (h1)) ?_
                    refine Goes.run [6, 7, 8] [] trivial ?_
                    refine Goes.valA 9 (Instr.indexAt 160 (.slice (some ⟨b2, o2, none⟩) M c2) (.int .i64 ((0 : Nat) : Int))) (.pointer (some ⟨b2, o2 + 0 * 2, none⟩)) (fun w' _ => idxT b2 o2 M c2 0 (by omega) w') ?_
                    refine Goes.run [10] [] trivial ?_
                    refine Goes.valA 11 (Instr.loadAt 3 (.pointer (some ⟨b2, o2 + 0 * 2, none⟩))) (.int .i64 q.1) (fun w' hm => load1 Tryz.isAgg3 (Cel.same y1 hob2 (hm.get 0))) ?_
                    refine Goes.run [12] [] trivial ?_
                    refine Goes.slot 70 (.bool true) (u := .bool (decide (q.1 > 73048))) (congrArg _ (h2)) ?_
                    refine Goes.run [13, 14, 15, 16, 17, 18, 19, 20, 21, 22, 23, 24, 25, 26, 27, 28, 29, 30, 31, 32, 33, 34, 35, 36, 37, 38, 39, 40, 41, 42, 43, 44, 45, 46, 47, 1] [(true, true)] ⟨rfl, trivial⟩ ?_
                    have hbad : (!decide (q.1 ≤ lstD f.2 0) && dayP q.1 && numP q.2) = false := by
                      rw [Bool.and_eq_false_iff, Bool.and_eq_false_iff]
                      refine .inl (.inr ?_); unfold dayP; have := of_decide_eq_true h2; rw [Bool.and_eq_false_iff]; exact .inr (decide_eq_false (by omega))
                    exact Goes.ret [] (.bool false) fun w' hm hI => ⟨by rw [hR, hlen4, hst, hdrop, stOk, hbad]; simp, bel0 hI⟩
                  | false =>
                    cases h4 : decide (q.2 < -1000000000000000) with
                    | true =>
                      refine Goes.run [0, 1] [] trivial ?_
                      refine Goes.valA 2 (Instr.indexAt 160 (.slice (some ⟨b2, o2, none⟩) M c2) (.int .i64 ((0 : Nat) : Int))) (.pointer (some ⟨b2, o2 + 0 * 2, none⟩)) (fun w' _ => idxT b2 o2 M c2 0 (by omega) w') ?_
                      refine Goes.run [3] [] trivial ?_
                      refine Goes.valA 4 (Instr.loadAt 3 (.pointer (some ⟨b2, o2 + 0 * 2, none⟩))) (.int .i64 q.1) (fun w' hm => load1 Tryz.isAgg3 (Cel.same y1 hob2 (hm.get 0))) ?_
                      refine Goes.run [5] [] trivial ?_
                      refine Goes.slot 63 (.bool false) (u := .bool (decide (q.1 < 0))) (congrArg _ (h1)) ?_
                      refine Goes.run [6, 7, 8] [] trivial ?_
                      refine Goes.valA 9 (Instr.indexAt 160 (.slice (some ⟨b2, o2, none⟩) M c2) (.int .i64 ((0 : Nat) : Int))) (.pointer (some ⟨b2, o2 + 0 * 2, none⟩)) (fun w' _ => idxT b2 o2 M c2 0 (by omega) w') ?_
                      refine Goes.run [10] [] trivial ?_
                      refine Goes.valA 11 (Instr.loadAt 3 (.pointer (some ⟨b2, o2 + 0 * 2, none⟩))) (.int .i64 q.1) (fun w' hm => load1 Tryz.isAgg3 (Cel.same y1 hob2 (hm.get 0))) ?_
                      refine Goes.run [12] [] trivial ?_
                      refine Goes.slot 70 (.bool false) (u := .bool (decide (q.1 > 73048))) (congrArg _ (h2)) ?_
                      refine Goes.run [13, 14, 15, 16] [] trivial ?_
                      refine Goes.slot 74 (.bool false) (u := .bool (decide (((0 : Nat) : Int) > 0))) (congrArg _ (rfl)) ?_
                      refine Goes.run [17, 18, 19, 20, 21, 22, 23, 24, 25, 26, 27, 28, 29, 30, 31, 32, 33, 34] [] trivial ?_
                      refine Goes.valA 35 (Instr.indexAt 160 (.slice (some ⟨b2, o2, none⟩) M c2) (.int .i64 ((0 : Nat) : Int))) (.pointer (some ⟨b2, o2 + 0 * 2, none⟩)) (fun w' _ => idxT b2 o2 M c2 0 (by omega) w') ?_
                      refine Goes.run [36] [] trivial ?_
                      refine Goes.valA 37 (Instr.loadAt 2 (.pointer (some ⟨b2, o2 + 0 * 2 + 1, none⟩))) (.int .i64 q.2) (fun w' hm => load1 Tryz.isAgg2 (Cel.same y2 hob2 (hm.get 0))) ?_
                      refine Goes.run [38] [] trivial ?_
                      refine Goes.slot 96 (.bool true) (u := .bool (decide (q.2 < -1000000000000000))) (congrArg _ (h4)) ?_
                      refine Goes.run [39, 40, 41, 42, 43, 44, 45, 46, 47, 1] [(true, true)] ⟨rfl, trivial⟩ ?_
                      have hbad : (!decide (q.1 ≤ lstD f.2 0) && dayP q.1 && numP q.2) = false := by
                        rw [Bool.and_eq_false_iff, Bool.and_eq_false_iff]
                        refine .inr ?_; unfold numP; have := of_decide_eq_true h4; rw [decide_eq_false (by omega), Bool.false_and]
                      exact Goes.ret [] (.bool false) fun w' hm hI => ⟨by rw [hR, hlen4, hst, hdrop, stOk, hbad]; simp, bel0 hI⟩
                    | false =>
                      cases h5 : decide (q.2 > 1000000000000000) with
                      | true =>
                        refine Goes.run [0, 1] [] trivial ?_
                        refine Goes.valA 2 (Instr.indexAt 160 (.slice (some ⟨b2, o2, none⟩) M c2) (.int .i64 ((0 : Nat) : Int))) (.pointer (some ⟨b2, o2 + 0 * 2, none⟩)) (fun w' _ => idxT b2 o2 M c2 0 (by omega) w') ?_
                        refine Goes.run [3] [] trivial ?_
                        refine Goes.valA 4 (Instr.loadAt 3 (.pointer (some ⟨b2, o2 + 0 * 2, none⟩))) (.int .i64 q.1) (fun w' hm => load1 Tryz.isAgg3 (Cel.same y1 hob2 (hm.get 0))) ?_
                        refine Goes.run [5] [] trivial ?_
                        refine Goes.slot 63 (.bool false) (u := .bool (decide (q.1 < 0))) (congrArg _ (h1)) ?_
                        refine Goes.run [6, 7, 8] [] trivial ?_
                        refine Goes.valA 9 (Instr.indexAt 160 (.slice (some ⟨b2, o2, none⟩) M c2) (.int .i64 ((0 : Nat) : Int))) (.pointer (some ⟨b2, o2 + 0 * 2, none⟩)) (fun w' _ => idxT b2 o2 M c2 0 (by omega) w') ?_
                        refine Goes.run [10] [] trivial ?_
                        refine Goes.valA 11 (Instr.loadAt 3 (.pointer (some ⟨b2, o2 + 0 * 2, none⟩))) (.int .i64 q.1) (fun w' hm => load1 Tryz.isAgg3 (Cel.same y1 hob2 (hm.get 0))) ?_
                        refine Goes.run [12] [] trivial ?_
                        refine Goes.slot 70 (.bool false) (u := .bool (decide (q.1 > 73048))) (congrArg _ (h2)) ?_
                        refine Goes.run [13, 14, 15, 16] [] trivial ?_
                        refine Goes.slot 74 (.bool false) (u := .bool (decide (((0 : Nat) : Int) > 0))) (congrArg _ (rfl)) ?_
                        refine Goes.run [17, 18, 19, 20, 21, 22, 23, 24, 25, 26, 27, 28, 29, 30, 31, 32, 33, 34] [] trivial ?_
                        refine Goes.valA 35 (Instr.indexAt 160 (.slice (some ⟨b2, o2, none⟩) M c2) (.int .i64 ((0 : Nat) : Int))) (.pointer (some ⟨b2, o2 + 0 * 2, none⟩)) (fun w' _ => idxT b2 o2 M c2 0 (by omega) w') ?_
                        refine Goes.run [36] [] trivial ?_
                        refine Goes.valA 37 (Instr.loadAt 2 (.pointer (some ⟨b2, o2 + 0 * 2 + 1, none⟩))) (.int .i64 q.2) (fun w' hm => load1 Tryz.isAgg2 (Cel.same y2 hob2 (hm.get 0))) ?_
                        refine Goes.run [38] [] trivial ?_
                        refine Goes.slot 96 (.bool false) (u := .bool (decide (q.2 < -1000000000000000))) (congrArg _ (h4)) ?_
                        refine Goes.run [39, 40, 41, 42] [] trivial ?_
                        refine Goes.valA 43 (Instr.indexAt 160 (.slice (some ⟨b2, o2, none⟩) M c2) (.int .i64 ((0 : Nat) : Int))) (.pointer (some ⟨b2, o2 + 0 * 2, none⟩)) (fun w' _ => idxT b2 o2 M c2 0 (by omega) w') ?_
                        refine Goes.run [44] [] trivial ?_
                        refine Goes.valA 45 (Instr.loadAt 2 (.pointer (some ⟨b2, o2 + 0 * 2 + 1, none⟩))) (.int .i64 q.2) (fun w' hm => load1 Tryz.isAgg2 (Cel.same y2 hob2 (hm.get 0))) ?_
                        refine Goes.run [46] [] trivial ?_
                        refine Goes.slot 104 (.bool true) (u := .bool (decide (q.2 > 1000000000000000))) (congrArg _ (h5)) ?_
                        refine Goes.run [47, 1] [(true, true)] ⟨rfl, trivial⟩ ?_
                        have hbad : (!decide (q.1 ≤ lstD f.2 0) && dayP q.1 && numP q.2) = false := by
                          rw [Bool.and_eq_false_iff, Bool.and_eq_false_iff]
                          refine .inr ?_; unfold numP; have := of_decide_eq_true h5; rw [Bool.and_eq_false_iff]; exact .inr (decide_eq_false (by omega))
                        exact Goes.ret [] (.bool false) fun w' hm hI => ⟨by rw [hR, hlen4, hst, hdrop, stOk, hbad]; simp, bel0 hI⟩
                      | false =>
                        refine Goes.run [0, 1] [] trivial ?_
                        refine Goes.valA 2 (Instr.indexAt 160 (.slice (some ⟨b2, o2, none⟩) M c2) (.int .i64 ((0 : Nat) : Int))) (.pointer (some ⟨b2, o2 + 0 * 2, none⟩)) (fun w' _ => idxT b2 o2 M c2 0 (by omega) w') ?_
                        refine Goes.run [3] [] trivial ?_
                        refine Goes.valA 4 (Instr.loadAt 3 (.pointer (some ⟨b2, o2 + 0 * 2, none⟩))) (.int .i64 q.1) (fun w' hm => load1 Tryz.isAgg3 (Cel.same y1 hob2 (hm.get 0))) ?_
                        refine Goes.run [5] [] trivial ?_
                        refine Goes.slot 63 (.bool false) (u := .bool (decide (q.1 < 0))) (congrArg _ (h1)) ?_
                        refine Goes.run [6, 7, 8] [] trivial ?_
                        refine Goes.valA 9 (Instr.indexAt 160 (.slice (some ⟨b2, o2, none⟩) M c2) (.int .i64 ((0 : Nat) : Int))) (.pointer (some ⟨b2, o2 + 0 * 2, none⟩)) (fun w' _ => idxT b2 o2 M c2 0 (by omega) w') ?_
                        refine Goes.run [10] [] trivial ?_
                        refine Goes.valA 11 (Instr.loadAt 3 (.pointer (some ⟨b2, o2 + 0 * 2, none⟩))) (.int .i64 q.1) (fun w' hm => load1 Tryz.isAgg3 (Cel.same y1 hob2 (hm.get 0))) ?_
                        refine Goes.run [12] [] trivial ?_
                        refine Goes.slot 70 (.bool false) (u := .bool (decide (q.1 > 73048))) (congrArg _ (h2)) ?_
                        refine Goes.run [13, 14, 15, 16] [] trivial ?_
                        refine Goes.slot 74 (.bool false) (u := .bool (decide (((0 : Nat) : Int) > 0))) (congrArg _ (rfl)) ?_
                        refine Goes.run [17, 18, 19, 20, 21, 22, 23, 24, 25, 26, 27, 28, 29, 30, 31, 32, 33, 34] [] trivial ?_
                        refine Goes.valA 35 (Instr.indexAt 160 (.slice (some ⟨b2, o2, none⟩) M c2) (.int .i64 ((0 : Nat) : Int))) (.pointer (some ⟨b2, o2 + 0 * 2, none⟩)) (fun w' _ => idxT b2 o2 M c2 0 (by omega) w') ?_
                        refine Goes.run [36] [] trivial ?_
                        refine Goes.valA 37 (Instr.loadAt 2 (.pointer (some ⟨b2, o2 + 0 * 2 + 1, none⟩))) (.int .i64 q.2) (fun w' hm => load1 Tryz.isAgg2 (Cel.same y2 hob2 (hm.get 0))) ?_
                        refine Goes.run [38] [] trivial ?_
                        refine Goes.slot 96 (.bool false) (u := .bool (decide (q.2 < -1000000000000000))) (congrArg _ (h4)) ?_
                        refine Goes.run [39, 40, 41, 42] [] trivial ?_
                        refine Goes.valA 43 (Instr.indexAt 160 (.slice (some ⟨b2, o2, none⟩) M c2) (.int .i64 ((0 : Nat) : Int))) (.pointer (some ⟨b2, o2 + 0 * 2, none⟩)) (fun w' _ => idxT b2 o2 M c2 0 (by omega) w') ?_
                        refine Goes.run [44] [] trivial ?_
                        refine Goes.valA 45 (Instr.loadAt 2 (.pointer (some ⟨b2, o2 + 0 * 2 + 1, none⟩))) (.int .i64 q.2) (fun w' hm => load1 Tryz.isAgg2 (Cel.same y2 hob2 (hm.get 0))) ?_
                        refine Goes.run [46] [] trivial ?_
                        refine Goes.slot 104 (.bool false) (u := .bool (decide (q.2 > 1000000000000000))) (congrArg _ (h5)) ?_
                        refine Goes.run [47, 0] [(false, false)] ⟨rfl, trivial⟩ ?_
                        refine Goes.slot 6 (.int .i64 (0 + 1 : Nat)) (u := .int .i64 (IntKind.i64.wrap (((0 : Nat) : Int) + 1))) (congrArg _ (wrap_nat (by omega))) ?_
                        have hgood : (!decide (q.1 ≤ lstD f.2 0) && dayP q.1 && numP q.2) = true := by
                          have e1 := of_decide_eq_false h1; have e2 := of_decide_eq_false h2; have e4 := of_decide_eq_false h4; have e5 := of_decide_eq_false h5
                          have a1 : decide (q.1 ≤ lstD f.2 0) = false := decide_eq_false (by show ¬ q.1 ≤ -1; omega)
                          have a2 : dayP q.1 = true := by unfold dayP; rw [decide_eq_true (by omega), decide_eq_true (by omega)]; rfl
                          have a3 : numP q.2 = true := by unfold numP; rw [decide_eq_true (by omega), decide_eq_true (by omega)]; rfl
                          rw [a1, a2, a3]; rfl
                        exact back2 (0 + 1) _ ⟨by omega, by rw [hst, hdrop, stOk, hgood, Bool.true_and]; rw [show lstD f.2 (0 + 1) = q.1 by simp [lstD, hq]]⟩ (by omega) (by kernel_rfl) (by kernel_rfl) (by kernel_rfl)
              | succ j =>
                obtain ⟨qj, hqj⟩ : ∃ qj, f.2[j]? = some qj := ⟨f.2[j]'(by omega), by simp⟩
                obtain ⟨b9, o9, e9, -, z1, -⟩ := hstm j qj hqj
                cases e9
                have hlast : lstD f.2 (j + 1) = qj.1 := by simp [lstD, hqj]
                refine Goes.openY [] [(b2, ob2)] (fun w' hI => hex1 hob2 hI.1) ?_
                cases h1 : decide (q.1 < 0) with
                | true =>
                  refine Goes.run [0, 1] [] trivial ?_
                  refine Goes.valA 2 (Instr.indexAt 160 (.slice (some ⟨b2, o2, none⟩) M c2) (.int .i64 ((j + 1 : Nat) : Int))) (.pointer (some ⟨b2, o2 + (j + 1) * 2, none⟩)) (fun w' _ => idxT b2 o2 M c2 (j + 1) (by omega) w') ?_
                  refine Goes.run [3] [] trivial ?_
                  refine Goes.valA 4 (Instr.loadAt 3 (.pointer (some ⟨b2, o2 + (j + 1) * 2, none⟩))) (.int .i64 q.1) (fun w' hm => load1 Tryz.isAgg3 (Cel.same y1 hob2 (hm.get 0))) ?_
                  refine Goes.run [5] [] trivial ?_
                  refine Goes.slot 63 (.bool true) (u := .bool (decide (q.1 < 0))) (congrArg _ (h1)) ?_
                  refine Goes.run [6, 7, 8, 9, 10, 11, 12, 13, 14, 15, 16, 17, 18, 19, 20, 21, 22, 23, 24, 25, 26, 27, 28, 29, 30, 31, 32, 33, 34, 35, 36, 37, 38, 39, 40, 41, 42, 43, 44, 45, 46, 47, 1] [(true, true)] ⟨rfl, trivial⟩ ?_
                  have hbad : (!decide (q.1 ≤ lstD f.2 (j + 1)) && dayP q.1 && numP q.2) = false := by
                    rw [Bool.and_eq_false_iff, Bool.and_eq_false_iff]
                    refine .inl (.inr ?_); unfold dayP; have := of_decide_eq_true h1; rw [decide_eq_false (by omega), Bool.false_and]
                  exact Goes.ret [] (.bool false) fun w' hm hI => ⟨by rw [hR, hlen4, hst, hdrop, stOk, hbad]; simp, bel0 hI⟩
                | false =>
                  cases h2 : decide (q.1 > 73048) with
                  | true =>
                    refine Goes.run [0, 1] [] trivial ?_
                    refine Goes.valA 2 (Instr.indexAt 160 (.slice (some ⟨b2, o2, none⟩) M c2) (.int .i64 ((j + 1 : Nat) : Int))) (.pointer (some ⟨b2, o2 + (j + 1) * 2, none⟩)) (fun w' _ => idxT b2 o2 M c2 (j + 1) (by omega) w') ?_
                    refine Goes.run [3] [] trivial ?_
                    refine Goes.valA 4 (Instr.loadAt 3 (.pointer (some ⟨b2, o2 + (j + 1) * 2, none⟩))) (.int .i64 q.1) (fun w' hm => load1 Tryz.isAgg3 (Cel.same y1 hob2 (hm.get 0))) ?_
                    refine Goes.run [5] [] trivial ?_
                    refine Goes.slot 63 (.bool false) (u := .bool (decide (q.1 < 0))) (congrArg _ (h1)) ?_
                    refine Goes.run [6, 7, 8] [] trivial ?_
                    refine Goes.valA 9 (Instr.indexAt 160 (.slice (some ⟨b2, o2, none⟩) M c2) (.int .i64 ((j + 1 : Nat) : Int))) (.pointer (some ⟨b2, o2 + (j + 1) * 2, none⟩)) (fun w' _ => idxT b2 o2 M c2 (j + 1) (by omega) w') ?_
                    refine Goes.run [10] [] trivial ?_
                    refine Goes.valA 11 (Instr.loadAt 3 (.pointer (some ⟨b2, o2 + (j + 1) * 2, none⟩))) (.int .i64 q.1) (fun w' hm => load1 Tryz.isAgg3 (Cel.same y1 hob2 (hm.get 0))) ?_
                    refine Goes.run [12] [] trivial ?_
                    refine Goes.slot 70 (.bool true) (u := .bool (decide (q.1 > 73048))) (congrArg _ (h2)) ?_
                    refine Goes.run [13, 14, 15, 16, 17, 18, 19, 20, 21, 22, 23, 24, 25, 26, 27, 28, 29, 30, 31, 32, 33, 34, 35, 36, 37, 38, 39, 40, 41, 42, 43, 44, 45, 46, 47, 1] [(true, true)] ⟨rfl, trivial⟩ ?_
                    have hbad : (!decide (q.1 ≤ lstD f.2 (j + 1)) && dayP q.1 && numP q.2) = false := by
                      rw [Bool.and_eq_false_iff, Bool.and_eq_false_iff]
                      refine .inl (.inr ?_); unfold dayP; have := of_decide_eq_true h2; rw [Bool.and_eq_false_iff]; exact .inr (decide_eq_false (by omega))
                    exact Goes.ret [] (.bool false) fun w' hm hI => ⟨by rw [hR, hlen4, hst, hdrop, stOk, hbad]; simp, bel0 hI⟩
                  | false =>
                    cases h3 : decide (qj.1 ≥ q.1) with
                    | true =>
                      refine Goes.run [0, 1] [] trivial ?_
                      refine Goes.valA 2 (Instr.indexAt 160 (.slice (some ⟨b2, o2, none⟩) M c2) (.int .i64 ((j + 1 : Nat) : Int))) (.pointer (some ⟨b2, o2 + (j + 1) * 2, none⟩)) (fun w' _ => idxT b2 o2 M c2 (j + 1) (by omega) w') ?_
                      refine Goes.run [3] [] trivial ?_
                      refine Goes.valA 4 (Instr.loadAt 3 (.pointer (some ⟨b2, o2 + (j + 1) * 2, none⟩))) (.int .i64 q.1) (fun w' hm => load1 Tryz.isAgg3 (Cel.same y1 hob2 (hm.get 0))) ?_
                      refine Goes.run [5] [] trivial ?_
                      refine Goes.slot 63 (.bool false) (u := .bool (decide (q.1 < 0))) (congrArg _ (h1)) ?_
                      refine Goes.run [6, 7, 8] [] trivial ?_
                      refine Goes.valA 9 (Instr.indexAt 160 (.slice (some ⟨b2, o2, none⟩) M c2) (.int .i64 ((j + 1 : Nat) : Int))) (.pointer (some ⟨b2, o2 + (j + 1) * 2, none⟩)) (fun w' _ => idxT b2 o2 M c2 (j + 1) (by omega) w') ?_
                      refine Goes.run [10] [] trivial ?_
                      refine Goes.valA 11 (Instr.loadAt 3 (.pointer (some ⟨b2, o2 + (j + 1) * 2, none⟩))) (.int .i64 q.1) (fun w' hm => load1 Tryz.isAgg3 (Cel.same y1 hob2 (hm.get 0))) ?_
                      refine Goes.run [12] [] trivial ?_
                      refine Goes.slot 70 (.bool false) (u := .bool (decide (q.1 > 73048))) (congrArg _ (h2)) ?_
                      refine Goes.run [13, 14, 15, 16] [] trivial ?_
                      refine Goes.slot 74 (.bool true) (u := .bool (decide (((j + 1 : Nat) : Int) > 0))) (congrArg _ (decide_eq_true (by omega))) ?_
                      refine Goes.run [17, 18, 19, 20] [] trivial ?_
                      refine Goes.slot 78 (.int .i64 (j : Int)) (u := .int .i64 (IntKind.i64.wrap (((j + 1 : Nat) : Int) - 1))) (congrArg _ (by rw [IntWalk.i64_in _ ⟨by omega, by omega⟩]; omega)) ?_
                      refine Goes.valA 21 (Instr.indexAt 160 (.slice (some ⟨b2, o2, none⟩) M c2) (.int .i64 (j : Int))) (.pointer (some ⟨b2, o2 + j * 2, none⟩)) (fun w' _ => idxT b2 o2 M c2 j (by omega) w') ?_
                      refine Goes.run [22] [] trivial ?_
                      refine Goes.valA 23 (Instr.loadAt 3 (.pointer (some ⟨b2, o2 + j * 2, none⟩))) (.int .i64 qj.1) (fun w' hm => load1 Tryz.isAgg3 (Cel.same z1 hob2 (hm.get 0))) ?_
                      refine Goes.run [24, 25] [] trivial ?_
                      refine Goes.valA 26 (Instr.indexAt 160 (.slice (some ⟨b2, o2, none⟩) M c2) (.int .i64 ((j + 1 : Nat) : Int))) (.pointer (some ⟨b2, o2 + (j + 1) * 2, none⟩)) (fun w' _ => idxT b2 o2 M c2 (j + 1) (by omega) w') ?_
                      refine Goes.run [27] [] trivial ?_
                      refine Goes.valA 28 (Instr.loadAt 3 (.pointer (some ⟨b2, o2 + (j + 1) * 2, none⟩))) (.int .i64 q.1) (fun w' hm => load1 Tryz.isAgg3 (Cel.same y1 hob2 (hm.get 0))) ?_
                      refine Goes.run [29] [] trivial ?_
                      refine Goes.slot 87 (.bool true) (u := .bool (decide (qj.1 ≥ q.1))) (congrArg _ (h3)) ?_
                      refine Goes.run [30, 31, 32, 33, 34, 35, 36, 37, 38, 39, 40, 41, 42, 43, 44, 45, 46, 47, 1] [(true, true)] ⟨rfl, trivial⟩ ?_
                      have hbad : (!decide (q.1 ≤ lstD f.2 (j + 1)) && dayP q.1 && numP q.2) = false := by
                        rw [Bool.and_eq_false_iff, Bool.and_eq_false_iff]
                        refine .inl (.inl ?_); rw [hlast]; have := of_decide_eq_true h3; rw [decide_eq_true (by omega)]; rfl
                      exact Goes.ret [] (.bool false) fun w' hm hI => ⟨by rw [hR, hlen4, hst, hdrop, stOk, hbad]; simp, bel0 hI⟩
                    | false =>
                      cases h4 : decide (q.2 < -1000000000000000) with
                      | true =>
                        refine Goes.run [0, 1] [] trivial ?_
                        refine Goes.valA 2 (Instr.indexAt 160 (.slice (some ⟨b2, o2, none⟩) M c2) (.int .i64 ((j + 1 : Nat) : Int))) (.pointer (some ⟨b2, o2 + (j + 1) * 2, none⟩)) (fun w' _ => idxT b2 o2 M c2 (j + 1) (by omega) w') ?_
                        refine Goes.run [3] [] trivial ?_
                        refine Goes.valA 4 (Instr.loadAt 3 (.pointer (some ⟨b2, o2 + (j + 1) * 2, none⟩))) (.int .i64 q.1) (fun w' hm => load1 Tryz.isAgg3 (Cel.same y1 hob2 (hm.get 0))) ?_
                        refine Goes.run [5] [] trivial ?_
                        refine Goes.slot 63 (.bool false) (u := .bool (decide (q.1 < 0))) (congrArg _ (h1)) ?_
                        refine Goes.run [6, 7, 8] [] trivial ?_
                        refine Goes.valA 9 (Instr.indexAt 160 (.slice (some ⟨b2, o2, none⟩) M c2) (.int .i64 ((j + 1 : Nat) : Int))) (.pointer (some ⟨b2, o2 + (j + 1) * 2, none⟩)) (fun w' _ => idxT b2 o2 M c2 (j + 1) (by omega) w') ?_
                        refine Goes.run [10] [] trivial ?_
                        refine Goes.valA 11 (Instr.loadAt 3 (.pointer (some ⟨b2, o2 + (j + 1) * 2, none⟩))) (.int .i64 q.1) (fun w' hm => load1 Tryz.isAgg3 (Cel.same y1 hob2 (hm.get 0))) ?_
                        refine Goes.run [12] [] trivial ?_
                        refine Goes.slot 70 (.bool false) (u := .bool (decide (q.1 > 73048))) (congrArg _ (h2)) ?_
                        refine Goes.run [13, 14, 15, 16] [] trivial ?_
                        refine Goes.slot 74 (.bool true) (u := .bool (decide (((j + 1 : Nat) : Int) > 0))) (congrArg _ (decide_eq_true (by omega))) ?_
                        refine Goes.run [17, 18, 19, 20] [] trivial ?_
                        refine Goes.slot 78 (.int .i64 (j : Int)) (u := .int .i64 (IntKind.i64.wrap (((j + 1 : Nat) : Int) - 1))) (congrArg _ (by rw [IntWalk.i64_in _ ⟨by omega, by omega⟩]; omega)) ?_
                        refine Goes.valA 21 (Instr.indexAt 160 (.slice (some ⟨b2, o2, none⟩) M c2) (.int .i64 (j : Int))) (.pointer (some ⟨b2, o2 + j * 2, none⟩)) (fun w' _ => idxT b2 o2 M c2 j (by omega) w') ?_
                        refine Goes.run [22] [] trivial ?_
                        refine Goes.valA 23 (Instr.loadAt 3 (.pointer (some ⟨b2, o2 + j * 2, none⟩))) (.int .i64 qj.1) (fun w' hm => load1 Tryz.isAgg3 (Cel.same z1 hob2 (hm.get 0))) ?_
                        refine Goes.run [24, 25] [] trivial ?_
                        refine Goes.valA 26 (Instr.indexAt 160 (.slice (some ⟨b2, o2, none⟩) M c2) (.int .i64 ((j + 1 : Nat) : Int))) (.pointer (some ⟨b2, o2 + (j + 1) * 2, none⟩)) (fun w' _ => idxT b2 o2 M c2 (j + 1) (by omega) w') ?_
                        refine Goes.run [27] [] trivial ?_
                        refine Goes.valA 28 (Instr.loadAt 3 (.pointer (some ⟨b2, o2 + (j + 1) * 2, none⟩))) (.int .i64 q.1) (fun w' hm => load1 Tryz.isAgg3 (Cel.same y1 hob2 (hm.get 0))) ?_
                        refine Goes.run [29] [] trivial ?_
                        refine Goes.slot 87 (.bool false) (u := .bool (decide (qj.1 ≥ q.1))) (congrArg _ (h3)) ?_
                        refine Goes.run [30, 31, 32, 33, 34] [] trivial ?_
                        refine Goes.valA 35 (Instr.indexAt 160 (.slice (some ⟨b2, o2, none⟩) M c2) (.int .i64 ((j + 1 : Nat) : Int))) (.pointer (some ⟨b2, o2 + (j + 1) * 2, none⟩)) (fun w' _ => idxT b2 o2 M c2 (j + 1) (by omega) w') ?_
                        refine Goes.run [36] [] trivial ?_
                        refine Goes.valA 37 (Instr.loadAt 2 (.pointer (some ⟨b2, o2 + (j + 1) * 2 + 1, none⟩))) (.int .i64 q.2) (fun w' hm => load1 Tryz.isAgg2 (Cel.same y2 hob2 (hm.get 0))) ?_
                        refine Goes.run [38] [] trivial ?_
                        refine Goes.slot 96 (.bool true) (u := .bool (decide (q.2 < -1000000000000000))) (congrArg _ (h4)) ?_
                        refine Goes.run [39, 40, 41, 42, 43, 44, 45, 46, 47, 1] [(true, true)] ⟨rfl, trivial⟩ ?_
                        have hbad : (!decide (q.1 ≤ lstD f.2 (j + 1)) && dayP q.1 && numP q.2) = false := by
                          rw [Bool.and_eq_false_iff, Bool.and_eq_false_iff]
                          refine .inr ?_; unfold numP; have := of_decide_eq_true h4; rw [decide_eq_false (by omega), Bool.false_and]
                        exact Goes.ret [] (.bool false) fun w' hm hI => ⟨by rw [hR, hlen4, hst, hdrop, stOk, hbad]; simp, bel0 hI⟩
                      | false =>
                        cases h5 : decide (q.2 > 1000000000000000) with
                        | true =>
                          refine Goes.run [0, 1] [] trivial ?_
                          refine Goes.valA 2 (Instr.indexAt 160 (.slice (some ⟨b2, o2, none⟩) M c2) (.int .i64 ((j + 1 : Nat) : Int))) (.pointer (some ⟨b2, o2 + (j + 1) * 2, none⟩)) (fun w' _ => idxT b2 o2 M c2 (j + 1) (by omega) w') ?_
                          refine Goes.run [3] [] trivial ?_
                          refine Goes.valA 4 (Instr.loadAt 3 (.pointer (some ⟨b2, o2 + (j + 1) * 2, none⟩))) (.int .i64 q.1) (fun w' hm => load1 Tryz.isAgg3 (Cel.same y1 hob2 (hm.get 0))) ?_
                          refine Goes.run [5] [] trivial ?_
                          refine Goes.slot 63 (.bool false) (u := .bool (decide (q.1 < 0))) (congrArg _ (h1)) ?_
                          refine Goes.run [6, 7, 8] [] trivial ?_
                          refine Goes.valA 9 (Instr.indexAt 160 (.slice (some ⟨b2, o2, none⟩) M c2) (.int .i64 ((j + 1 : Nat) : Int))) (.pointer (some ⟨b2, o2 + (j + 1) * 2, none⟩)) (fun w' _ => idxT b2 o2 M c2 (j + 1) (by omega) w') ?_
                          refine Goes.run [10] [] trivial ?_
                          refine Goes.valA 11 (Instr.loadAt 3 (.pointer (some ⟨b2, o2 + (j + 1) * 2, none⟩))) (.int .i64 q.1) (fun w' hm => load1 Tryz.isAgg3 (Cel.same y1 hob2 (hm.get 0))) ?_
                          refine Goes.run [12] [] trivial ?_
                          refine Goes.slot 70 (.bool false) (u := .bool (decide (q.1 > 73048))) (congrArg _ (h2)) ?_
                          refine Goes.run [13, 14, 15, 16] [] trivial ?_
                          refine Goes.slot 74 (.bool true) (u := .bool (decide (((j + 1 : Nat) : Int) > 0))) (congrArg _ (decide_eq_true (by omega))) ?_
                          refine Goes.run [17, 18, 19, 20] [] trivial ?_
                          refine Goes.slot 78 (.int .i64 (j : Int)) (u := .int .i64 (IntKind.i64.wrap (((j + 1 : Nat) : Int) - 1))) (congrArg _ (by rw [IntWalk.i64_in _ ⟨by omega, by omega⟩]; omega)) ?_
                          refine Goes.valA 21 (Instr.indexAt 160 (.slice (some ⟨b2, o2, none⟩) M c2) (.int .i64 (j : Int))) (.pointer (some ⟨b2, o2 + j * 2, none⟩)) (fun w' _ => idxT b2 o2 M c2 j (by omega) w') ?_
                          refine Goes.run [22] [] trivial ?_
                          refine Goes.valA 23 (Instr.loadAt 3 (.pointer (some ⟨b2, o2 + j * 2, none⟩))) (.int .i64 qj.1) (fun w' hm => load1 Tryz.isAgg3 (Cel.same z1 hob2 (hm.get 0))) ?_
                          refine Goes.run [24, 25] [] trivial ?_
                          refine Goes.valA 26 (Instr.indexAt 160 (.slice (some ⟨b2, o2, none⟩) M c2) (.int .i64 ((j + 1 : Nat) : Int))) (.pointer (some ⟨b2, o2 + (j + 1) * 2, none⟩)) (fun w' _ => idxT b2 o2 M c2 (j + 1) (by omega) w') ?_
                          refine Goes.run [27] [] trivial ?_
                          refine Goes.valA 28 (Instr.loadAt 3 (.pointer (some ⟨b2, o2 + (j + 1) * 2, none⟩))) (.int .i64 q.1) (fun w' hm => load1 Tryz.isAgg3 (Cel.same y1 hob2 (hm.get 0))) ?_
                          refine Goes.run [29] [] trivial ?_
                          refine Goes.slot 87 (.bool false) (u := .bool (decide (qj.1 ≥ q.1))) (congrArg _ (h3)) ?_
                          refine Goes.run [30, 31, 32, 33, 34] [] trivial ?_
                          refine Goes.valA 35 (Instr.indexAt 160 (.slice (some ⟨b2, o2, none⟩) M c2) (.int .i64 ((j + 1 : Nat) : Int))) (.pointer (some ⟨b2, o2 + (j + 1) * 2, none⟩)) (fun w' _ => idxT b2 o2 M c2 (j + 1) (by omega) w') ?_
                          refine Goes.run [36] [] trivial ?_
                          refine Goes.valA 37 (Instr.loadAt 2 (.pointer (some ⟨b2, o2 + (j + 1) * 2 + 1, none⟩))) (.int .i64 q.2) (fun w' hm => load1 Tryz.isAgg2 (Cel.same y2 hob2 (hm.get 0))) ?_
                          refine Goes.run [38] [] trivial ?_
                          refine Goes.slot 96 (.bool false) (u := .bool (decide (q.2 < -1000000000000000))) (congrArg _ (h4)) ?_
                          refine Goes.run [39, 40, 41, 42] [] trivial ?_
                          refine Goes.valA 43 (Instr.indexAt 160 (.slice (some ⟨b2, o2, none⟩) M c2) (.int .i64 ((j + 1 : Nat) : Int))) (.pointer (some ⟨b2, o2 + (j + 1) * 2, none⟩)) (fun w' _ => idxT b2 o2 M c2 (j + 1) (by omega) w') ?_
                          refine Goes.run [44] [] trivial ?_
                          refine Goes.valA 45 (Instr.loadAt 2 (.pointer (some ⟨b2, o2 + (j + 1) * 2 + 1, none⟩))) (.int .i64 q.2) (fun w' hm => load1 Tryz.isAgg2 (Cel.same y2 hob2 (hm.get 0))) ?_
                          refine Goes.run [46] [] trivial ?_
                          refine Goes.slot 104 (.bool true) (u := .bool (decide (q.2 > 1000000000000000))) (congrArg _ (h5)) ?_
                          refine Goes.run [47, 1] [(true, true)] ⟨rfl, trivial⟩ ?_
                          have hbad : (!decide (q.1 ≤ lstD f.2 (j + 1)) && dayP q.1 && numP q.2) = false := by
                            rw [Bool.and_eq_false_iff, Bool.and_eq_false_iff]
                            refine .inr ?_; unfold numP; have := of_decide_eq_true h5; rw [Bool.and_eq_false_iff]; exact .inr (decide_eq_false (by omega))
                          exact Goes.ret [] (.bool false) fun w' hm hI => ⟨by rw [hR, hlen4, hst, hdrop, stOk, hbad]; simp, bel0 hI⟩
                        | false =>
                          refine Goes.run [0, 1] [] trivial ?_
                          refine Goes.valA 2 (Instr.indexAt 160 (.slice (some ⟨b2, o2, none⟩) M c2) (.int .i64 ((j + 1 : Nat) : Int))) (.pointer (some ⟨b2, o2 + (j + 1) * 2, none⟩)) (fun w' _ => idxT b2 o2 M c2 (j + 1) (by omega) w') ?_
                          refine Goes.run [3] [] trivial ?_
                          refine Goes.valA 4 (Instr.loadAt 3 (.pointer (some ⟨b2, o2 + (j + 1) * 2, none⟩))) (.int .i64 q.1) (fun w' hm => load1 Tryz.isAgg3 (Cel.same y1 hob2 (hm.get 0))) ?_
                          refine Goes.run [5] [] trivial ?_
                          refine Goes.slot 63 (.bool false) (u := .bool (decide (q.1 < 0))) (congrArg _ (h1)) ?_
                          refine Goes.run [6, 7, 8] [] trivial ?_
                          refine Goes.valA 9 (Instr.indexAt 160 (.slice (some ⟨b2, o2, none⟩) M c2) (.int .i64 ((j + 1 : Nat) : Int))) (.pointer (some ⟨b2, o2 + (j + 1) * 2, none⟩)) (fun w' _ => idxT b2 o2 M c2 (j + 1) (by omega) w') ?_
                          refine Goes.run [10] [] trivial ?_
                          refine Goes.valA 11 (Instr.loadAt 3 (.pointer (some ⟨b2, o2 + (j + 1) * 2, none⟩))) (.int .i64 q.1) (fun w' hm => load1 Tryz.isAgg3 (Cel.same y1 hob2 (hm.get 0))) ?_
                          refine Goes.run [12] [] trivial ?_
                          refine Goes.slot 70 (.bool false) (u := .bool (decide (q.1 > 73048))) (congrArg _ (h2)) ?_
                          refine Goes.run [13, 14, 15, 16] [] trivial ?_
                          refine Goes.slot 74 (.bool true) (u := .bool (decide (((j + 1 : Nat) : Int) > 0))) (congrArg _ (decide_eq_true (by omega))) ?_
                          refine Goes.run [17, 18, 19, 20] [] trivial ?_
                          refine Goes.slot 78 (.int .i64 (j : Int)) (u := .int .i64 (IntKind.i64.wrap (((j + 1 : Nat) : Int) - 1))) (congrArg _ (by rw [IntWalk.i64_in _ ⟨by omega, by omega⟩]; omega)) ?_
                          refine Goes.valA 21 (Instr.indexAt 160 (.slice (some ⟨b2, o2, none⟩) M c2) (.int .i64 (j : Int))) (.pointer (some ⟨b2, o2 + j * 2, none⟩)) (fun w' _ => idxT b2 o2 M c2 j (by omega) w') ?_
                          refine Goes.run [22] [] trivial ?_
                          refine Goes.valA 23 (Instr.loadAt 3 (.pointer (some ⟨b2, o2 + j * 2, none⟩))) (.int .i64 qj.1) (fun w' hm => load1 Tryz.isAgg3 (Cel.same z1 hob2 (hm.get 0))) ?_
                          refine Goes.run [24, 25] [] trivial ?_
                          refine Goes.valA 26 (Instr.indexAt 160 (.slice (some ⟨b2, o2, none⟩) M c2) (.int .i64 ((j + 1 : Nat) : Int))) (.pointer (some ⟨b2, o2 + (j + 1) * 2, none⟩)) (fun w' _ => idxT b2 o2 M c2 (j + 1) (by omega) w') ?_
                          refine Goes.run [27] [] trivial ?_
                          refine Goes.valA 28 (Instr.loadAt 3 (.pointer (some ⟨b2, o2 + (j + 1) * 2, none⟩))) (.int .i64 q.1) (fun w' hm => load1 Tryz.isAgg3 (Cel.same y1 hob2 (hm.get 0))) ?_
                          refine Goes.run [29] [] trivial ?_
                          refine Goes.slot 87 (.bool false) (u := .bool (decide (qj.1 ≥ q.1))) (congrArg _ (h3)) ?_
                          refine Goes.run [30, 31, 32, 33, 34] [] trivial ?_
                          refine Goes.valA 35 (Instr.indexAt 160 (.slice (some ⟨b2, o2, none⟩) M c2) (.int .i64 ((j + 1 : Nat) : Int))) (.pointer (some ⟨b2, o2 + (j + 1) * 2, none⟩)) (fun w' _ => idxT b2 o2 M c2 (j + 1) (by omega) w') ?_
                          refine Goes.run [36] [] trivial ?_
                          refine Goes.valA 37 (Instr.loadAt 2 (.pointer (some ⟨b2, o2 + (j + 1) * 2 + 1, none⟩))) (.int .i64 q.2) (fun w' hm => load1 Tryz.isAgg2 (Cel.same y2 hob2 (hm.get 0))) ?_
                          refine Goes.run [38] [] trivial ?_
                          refine Goes.slot 96 (.bool false) (u := .bool (decide (q.2 < -1000000000000000))) (congrArg _ (h4)) ?_
                          refine Goes.run [39, 40, 41, 42] [] trivial ?_
                          refine Goes.valA 43 (Instr.indexAt 160 (.slice (some ⟨b2, o2, none⟩) M c2) (.int .i64 ((j + 1 : Nat) : Int))) (.pointer (some ⟨b2, o2 + (j + 1) * 2, none⟩)) (fun w' _ => idxT b2 o2 M c2 (j + 1) (by omega) w') ?_
                          refine Goes.run [44] [] trivial ?_
                          refine Goes.valA 45 (Instr.loadAt 2 (.pointer (some ⟨b2, o2 + (j + 1) * 2 + 1, none⟩))) (.int .i64 q.2) (fun w' hm => load1 Tryz.isAgg2 (Cel.same y2 hob2 (hm.get 0))) ?_
                          refine Goes.run [46] [] trivial ?_
                          refine Goes.slot 104 (.bool false) (u := .bool (decide (q.2 > 1000000000000000))) (congrArg _ (h5)) ?_
                          refine Goes.run [47, 0] [(false, false)] ⟨rfl, trivial⟩ ?_
                          refine Goes.slot 6 (.int .i64 ((j + 1) + 1 : Nat)) (u := .int .i64 (IntKind.i64.wrap ((((j + 1) : Nat) : Int) + 1))) (congrArg _ (wrap_nat (by omega))) ?_
                          have hgood : (!decide (q.1 ≤ lstD f.2 (j + 1)) && dayP q.1 && numP q.2) = true := by
                            have e1 := of_decide_eq_false h1; have e2 := of_decide_eq_false h2; have e4 := of_decide_eq_false h4; have e5 := of_decide_eq_false h5
                            have a1 : decide (q.1 ≤ lstD f.2 (j + 1)) = false := decide_eq_false (by rw [hlast]; have := of_decide_eq_false h3; omega)
                            have a2 : dayP q.1 = true := by unfold dayP; rw [decide_eq_true (by omega), decide_eq_true (by omega)]; rfl
                            have a3 : numP q.2 = true := by unfold numP; rw [decide_eq_true (by omega), decide_eq_true (by omega)]; rfl
                            rw [a1, a2, a3]; rfl
                          exact back2 ((j + 1) + 1) _ ⟨by omega, by rw [hst, hdrop, stOk, hgood, Bool.true_and]; rw [show lstD f.2 ((j + 1) + 1) = q.1 by simp [lstD, hq]]⟩ (by omega) (by kernel_rfl) (by kernel_rfl) (by kernel_rfl)
      | succ j =>
        obtain ⟨fj, hfj⟩ : ∃ fj, fs[j]? = some fj := ⟨fs[j]'(by omega), by simp⟩
        obtain ⟨b9, o9, u9, e9, -, zf, -⟩ := hfs j fj hfj
        cases e9
        have hlastN : lstN fs (j + 1) = fj.1 := by simp [lstN, hfj]
        refine Goes.run [0, 1] [(decide (((j + 1 : Nat) : Int) < (N : Int)), true)] ⟨hlt, trivial⟩ ?_
        refine Goes.val (Instr.indexAt 36 (.slice (some ⟨b, o, none⟩) N c) (.int .i64 ((j + 1 : Nat) : Int))) (.pointer (some ⟨b, o + (j + 1) * 2, none⟩)) (fun w' _ _ => idxF b o N c (j + 1) hil w') ?_
        refine Goes.run [] [] trivial ?_
        refine Goes.val (Instr.loadAt 9 (.pointer (some ⟨b, o + (j + 1) * 2, none⟩))) (strV f.1) (fun w' _ hI => load1 Tryz.isAgg9 (((bel0 hI).cell (p := ⟨b, o + (j + 1) * 2, none⟩) hb).trans x1)) ?_
        refine Goes.call0 71 #[strV f.1] (.bool (namP f.1)) (fun w' _ _ => rname_any f.1 w' (hl f (List.mem_of_getElem? hf))) ?_
        refine Goes.run [] [] trivial ?_
        refine Goes.val (Instr.indexAt 36 (.slice (some ⟨b, o, none⟩) N c) (.int .i64 ((j + 1 : Nat) : Int))) (.pointer (some ⟨b, o + (j + 1) * 2, none⟩)) (fun w' _ _ => idxF b o N c (j + 1) hil w') ?_
        refine Goes.run [] [] trivial ?_
        refine Goes.val (Instr.loadAt 160 (.pointer (some ⟨b, o + (j + 1) * 2 + 1, none⟩))) (.slice a2 M c2) (fun w' _ hI => load1 Tryz.isAgg160 (((bel0 hI).cell (p := ⟨b, o + (j + 1) * 2 + 1, none⟩) hb).trans x2)) ?_
        refine Goes.run [] [] trivial ?_
        refine Goes.openY [] [(b, ob)] (fun w' hI => hex1 hob hI.1) ?_
        cases hnm : namP f.1 with
        | false =>
          refine Goes.run [0, 1, 2, 3, 4, 5, 6, 7, 8, 9, 10, 11, 12, 13, 14, 15, 16, 17, 18, 19, 20, 21, 22, 23, 24, 1] [(true, true)] ⟨rfl, trivial⟩ ?_
          exact Goes.ret [] (.bool false) fun w' hm hI => ⟨by rw [hR, hnm]; simp, bel0 hI⟩
        | true =>
          cases hlt2 : decide (fj.1 < f.1) with
          | false =>
            refine Goes.run [0, 1, 2, 3, 4] [] trivial ?_
            refine Goes.slot 31 (.bool true) (u := .bool (decide (((j + 1 : Nat) : Int) > 0))) (congrArg _ (decide_eq_true (by omega))) ?_
            refine Goes.run [5, 6, 7, 8] [] trivial ?_
            refine Goes.slot 35 (.int .i64 (j : Int)) (u := .int .i64 (IntKind.i64.wrap (((j + 1 : Nat) : Int) - 1))) (congrArg _ (by rw [IntWalk.i64_in _ ⟨by omega, by omega⟩]; omega)) ?_
            refine Goes.valA 9 (Instr.indexAt 36 (.slice (some ⟨b, o, none⟩) N c) (.int .i64 (j : Int))) (.pointer (some ⟨b, o + j * 2, none⟩)) (fun w' _ => idxF b o N c j (by omega) w') ?_
            refine Goes.run [10] [] trivial ?_
            refine Goes.valA 11 (Instr.loadAt 9 (.pointer (some ⟨b, o + j * 2, none⟩))) (strV fj.1) (fun w' hm => load1 Tryz.isAgg9 (Cel.same zf hob (hm.get 0))) ?_
            refine Goes.run [12, 13] [] trivial ?_
            refine Goes.valA 14 (Instr.indexAt 36 (.slice (some ⟨b, o, none⟩) N c) (.int .i64 ((j + 1 : Nat) : Int))) (.pointer (some ⟨b, o + (j + 1) * 2, none⟩)) (fun w' _ => idxF b o N c (j + 1) (by omega) w') ?_
            refine Goes.run [15] [] trivial ?_
            refine Goes.valA 16 (Instr.loadAt 9 (.pointer (some ⟨b, o + (j + 1) * 2, none⟩))) (strV f.1) (fun w' hm => load1 Tryz.isAgg9 (Cel.same x1 hob (hm.get 0))) ?_
            refine Goes.valA 17 (binOp .geq 9 (strV fj.1) (strV f.1)) (.bool (!(decide (fj.1 < f.1)))) (fun w' _ => geqT fj.1 f.1 w') ?_
            refine Goes.slot 44 (.bool true) (u := .bool (!(decide (fj.1 < f.1)))) (congrArg _ (by rw [hlt2]; rfl)) ?_
            refine Goes.run [18, 19, 20, 21, 22, 23, 24, 1] [(true, true)] ⟨rfl, trivial⟩ ?_
            exact Goes.ret [] (.bool false) fun w' hm hI => ⟨by rw [hR, hlastN, hlt2]; simp, bel0 hI⟩
          | true =>
            have hfst : decide (lstN fs (j + 1) < f.1) = true := by rw [hlastN]; exact hlt2
            rw [hfst, hnm] at hR
            cases hM4 : decide ((M : Int) > 4096) with
            | true =>
              refine Goes.run [0, 1, 2, 3, 4] [] trivial ?_
              refine Goes.slot 31 (.bool true) (u := .bool (decide (((j + 1 : Nat) : Int) > 0))) (congrArg _ (decide_eq_true (by omega))) ?_
              refine Goes.run [5, 6, 7, 8] [] trivial ?_
              refine Goes.slot 35 (.int .i64 (j : Int)) (u := .int .i64 (IntKind.i64.wrap (((j + 1 : Nat) : Int) - 1))) (congrArg _ (by rw [IntWalk.i64_in _ ⟨by omega, by omega⟩]; omega)) ?_
              refine Goes.valA 9 (Instr.indexAt 36 (.slice (some ⟨b, o, none⟩) N c) (.int .i64 (j : Int))) (.pointer (some ⟨b, o + j * 2, none⟩)) (fun w' _ => idxF b o N c j (by omega) w') ?_
              refine Goes.run [10] [] trivial ?_
              refine Goes.valA 11 (Instr.loadAt 9 (.pointer (some ⟨b, o + j * 2, none⟩))) (strV fj.1) (fun w' hm => load1 Tryz.isAgg9 (Cel.same zf hob (hm.get 0))) ?_
              refine Goes.run [12, 13] [] trivial ?_
              refine Goes.valA 14 (Instr.indexAt 36 (.slice (some ⟨b, o, none⟩) N c) (.int .i64 ((j + 1 : Nat) : Int))) (.pointer (some ⟨b, o + (j + 1) * 2, none⟩)) (fun w' _ => idxF b o N c (j + 1) (by omega) w') ?_
              refine Goes.run [15] [] trivial ?_
              refine Goes.valA 16 (Instr.loadAt 9 (.pointer (some ⟨b, o + (j + 1) * 2, none⟩))) (strV f.1) (fun w' hm => load1 Tryz.isAgg9 (Cel.same x1 hob (hm.get 0))) ?_
              refine Goes.valA 17 (binOp .geq 9 (strV fj.1) (strV f.1)) (.bool (!(decide (fj.1 < f.1)))) (fun w' _ => geqT fj.1 f.1 w') ?_
              refine Goes.slot 44 (.bool false) (u := .bool (!(decide (fj.1 < f.1)))) (congrArg _ (by rw [hlt2]; rfl)) ?_
              refine Goes.run [18, 19, 20, 21, 22, 23, 24, 1] [(decide ((M : Int) > 4096), true)] ⟨hM4, trivial⟩ ?_
              exact Goes.ret [] (.bool false) fun w' hm hI => ⟨by rw [hR]; unfold stmP; rw [hM, decide_eq_false (by have := of_decide_eq_true hM4; omega)]; simp, bel0 hI⟩
            | false =>
              refine Goes.run [0, 1, 2, 3, 4] [] trivial ?_
              refine Goes.slot 31 (.bool true) (u := .bool (decide (((j + 1 : Nat) : Int) > 0))) (congrArg _ (decide_eq_true (by omega))) ?_
              refine Goes.run [5, 6, 7, 8] [] trivial ?_
              refine Goes.slot 35 (.int .i64 (j : Int)) (u := .int .i64 (IntKind.i64.wrap (((j + 1 : Nat) : Int) - 1))) (congrArg _ (by rw [IntWalk.i64_in _ ⟨by omega, by omega⟩]; omega)) ?_
              refine Goes.valA 9 (Instr.indexAt 36 (.slice (some ⟨b, o, none⟩) N c) (.int .i64 (j : Int))) (.pointer (some ⟨b, o + j * 2, none⟩)) (fun w' _ => idxF b o N c j (by omega) w') ?_
              refine Goes.run [10] [] trivial ?_
              refine Goes.valA 11 (Instr.loadAt 9 (.pointer (some ⟨b, o + j * 2, none⟩))) (strV fj.1) (fun w' hm => load1 Tryz.isAgg9 (Cel.same zf hob (hm.get 0))) ?_
              refine Goes.run [12, 13] [] trivial ?_
              refine Goes.valA 14 (Instr.indexAt 36 (.slice (some ⟨b, o, none⟩) N c) (.int .i64 ((j + 1 : Nat) : Int))) (.pointer (some ⟨b, o + (j + 1) * 2, none⟩)) (fun w' _ => idxF b o N c (j + 1) (by omega) w') ?_
              refine Goes.run [15] [] trivial ?_
              refine Goes.valA 16 (Instr.loadAt 9 (.pointer (some ⟨b, o + (j + 1) * 2, none⟩))) (strV f.1) (fun w' hm => load1 Tryz.isAgg9 (Cel.same x1 hob (hm.get 0))) ?_
              refine Goes.valA 17 (binOp .geq 9 (strV fj.1) (strV f.1)) (.bool (!(decide (fj.1 < f.1)))) (fun w' _ => geqT fj.1 f.1 w') ?_
              refine Goes.slot 44 (.bool false) (u := .bool (!(decide (fj.1 < f.1)))) (congrArg _ (by rw [hlt2]; rfl)) ?_
              refine Goes.run [18, 19, 20, 21, 22, 23, 24, 0] [(decide ((M : Int) > 4096), false)] ⟨hM4, trivial⟩ ?_
              have hlen4 : stmP f.2 = stOk (-1) f.2 := by unfold stmP; rw [hM, decide_eq_true (by have := of_decide_eq_false hM4; omega), Bool.true_and]
              refine Goes.loop0 (α := Nat) 106 (fun k => [(0, .slice (some ⟨b, o, none⟩) N c), (3, .int .i64 ((j + 1 : Nat) : Int)), (5, .slice a2 M c2), (6, .int .i64 k)]) [] (fun k => k ≤ M ∧ stOk (-1) f.2 = stOk (lstD f.2 k) (f.2.drop k)) (fun k => M - k) 0 ⟨Nat.zero_le _, rfl⟩ ?_
              rintro k J2 ⟨hkM, hst⟩ back2
              cases hkl : decide ((k : Int) < (M : Int)) with
              | false =>
                refine Goes.run [0, 0] [(decide ((k : Int) < (M : Int)), false)] ⟨hkl, trivial⟩ ?_
                refine Goes.slot 3 (.int .i64 ((j + 1) + 1 : Nat)) (u := .int .i64 (IntKind.i64.wrap (((j + 1 : Nat) : Int) + 1))) (congrArg _ (wrap_nat (by omega))) ?_
                exact back ((j + 1) + 1) _ ⟨hil, by rw [hR, hlen4, hst, List.drop_of_length_le (by have := of_decide_eq_false hkl; omega), stOk]; simp [lstN, hf]⟩ (by omega) (by kernel_rfl) (by kernel_rfl) (by kernel_rfl)
              | true =>
                have hkl' : k < M := by have := of_decide_eq_true hkl; omega
                obtain ⟨q, hq⟩ : ∃ q, f.2[k]? = some q := ⟨f.2[k]'(by omega), by simp⟩
                obtain ⟨b2, o2, rfl, hb2, y1, y2⟩ := hstm k q hq
                obtain ⟨ob2, hob2⟩ := blk_of hb2
                have hdrop := drop_any hq
                refine Goes.run [0, 1] [(decide ((k : Int) < (M : Int)), true)] ⟨hkl, trivial⟩ ?_
                cases k with
                | zero =>
                  refine Goes.openY [] [(b2, ob2)] (fun w' hI => hex1 hob2 hI.1) ?_
                  cases h1 : decide (q.1 < 0) with
                  | true =>
                    refine Goes.run [0, 1] [] trivial ?_
                    refine Goes.valA 2 (Instr.indexAt 160 (.slice (some ⟨b2, o2, none⟩) M c2) (.int .i64 ((0 : Nat) : Int))) (.pointer (some ⟨b2, o2 + 0 * 2, none⟩)) (fun w' _ => idxT b2 o2 M c2 0 (by omega) w') ?_
                    refine Goes.run [3] [] trivial ?_
                    refine Goes.valA 4 (Instr.loadAt 3 (.pointer (some ⟨b2, o2 + 0 * 2, none⟩))) (.int .i64 q.1) (fun w' hm => load1 Tryz.isAgg3 (Cel.same y1 hob2 (hm.get 0))) ?_
                    refine Goes.run [5] [] trivial ?_
                    refine Goes.slot 63 (.bool true) (u := .bool (decide (q.1 < 0))) (congrArg _ (h1)) ?_
                    refine Goes.run [6, 7, 8, 9, 10, 11, 12, 13, 14, 15, 16, 17, 18, 19, 20, 21, 22, 23, 24, 25, 26, 27, 28, 29, 30, 31, 32, 33, 34, 35, 36, 37, 38, 39, 40, 41, 42, 43, 44, 45, 46, 47, 1] [(true, true)] ⟨rfl, trivial⟩ ?_
                    have hbad : (!decide (q.1 ≤ lstD f.2 0) && dayP q.1 && numP q.2) = false := by
                      rw [Bool.and_eq_false_iff, Bool.and_eq_false_iff]
                      refine .inl (.inr ?_); unfold dayP; have := of_decide_eq_true h1; rw [decide_eq_false (by omega), Bool.false_and]
                    exact Goes.ret [] (.bool false) fun w' hm hI => ⟨by rw [hR, hlen4, hst, hdrop, stOk, hbad]; simp, bel0 hI⟩
                  | false =>
                    cases h2 : decide (q.1 > 73048) with
                    | true =>
                      refine Goes.run [0, 1] [] trivial ?_
                      refine Goes.valA 2 (Instr.indexAt 160 (.slice (some ⟨b2, o2, none⟩) M c2) (.int .i64 ((0 : Nat) : Int))) (.pointer (some ⟨b2, o2 + 0 * 2, none⟩)) (fun w' _ => idxT b2 o2 M c2 0 (by omega) w') ?_
                      refine Goes.run [3] [] trivial ?_
                      refine Goes.valA 4 (Instr.loadAt 3 (.pointer (some ⟨b2, o2 + 0 * 2, none⟩))) (.int .i64 q.1) (fun w' hm => load1 Tryz.isAgg3 (Cel.same y1 hob2 (hm.get 0))) ?_
                      refine Goes.run [5] [] trivial ?_
                      refine Goes.slot 63 (.bool false) (u := .bool (decide (q.1 < 0))) (congrArg _ (h1)) ?_
                      refine Goes.run [6, 7, 8] [] trivial ?_
                      refine Goes.valA 9 (Instr.indexAt 160 (.slice (some ⟨b2, o2, none⟩) M c2) (.int .i64 ((0 : Nat) : Int))) (.pointer (some ⟨b2, o2 + 0 * 2, none⟩)) (fun w' _ => idxT b2 o2 M c2 0 (by omega) w') ?_
                      refine Goes.run [10] [] trivial ?_
                      refine Goes.valA 11 (Instr.loadAt 3 (.pointer (some ⟨b2, o2 + 0 * 2, none⟩))) (.int .i64 q.1) (fun w' hm => load1 Tryz.isAgg3 (Cel.same y1 hob2 (hm.get 0))) ?_
                      refine Goes.run [12] [] trivial ?_
                      refine Goes.slot 70 (.bool true) (u := .bool (decide (q.1 > 73048))) (congrArg _ (h2)) ?_
                      refine Goes.run [13, 14, 15, 16, 17, 18, 19, 20, 21, 22, 23, 24, 25, 26, 27, 28, 29, 30, 31, 32, 33, 34, 35, 36, 37, 38, 39, 40, 41, 42, 43, 44, 45, 46, 47, 1] [(true, true)] ⟨rfl, trivial⟩ ?_
                      have hbad : (!decide (q.1 ≤ lstD f.2 0) && dayP q.1 && numP q.2) = false := by
                        rw [Bool.and_eq_false_iff, Bool.and_eq_false_iff]
                        refine .inl (.inr ?_); unfold dayP; have := of_decide_eq_true h2; rw [Bool.and_eq_false_iff]; exact .inr (decide_eq_false (by omega))
                      exact Goes.ret [] (.bool false) fun w' hm hI => ⟨by rw [hR, hlen4, hst, hdrop, stOk, hbad]; simp, bel0 hI⟩
                    | false =>
                      cases h4 : decide (q.2 < -1000000000000000) with
                      | true =>
                        refine Goes.run [0, 1] [] trivial ?_
                        refine Goes.valA 2 (Instr.indexAt 160 (.slice (some ⟨b2, o2, none⟩) M c2) (.int .i64 ((0 : Nat) : Int))) (.pointer (some ⟨b2, o2 + 0 * 2, none⟩)) (fun w' _ => idxT b2 o2 M c2 0 (by omega) w') ?_
                        refine Goes.run [3] [] trivial ?_
                        refine Goes.valA 4 (Instr.loadAt 3 (.pointer (some ⟨b2, o2 + 0 * 2, none⟩))) (.int .i64 q.1) (fun w' hm => load1 Tryz.isAgg3 (Cel.same y1 hob2 (hm.get 0))) ?_
                        refine Goes.run [5] [] trivial ?_
                        refine Goes.slot 63 (.bool false) (u := .bool (decide (q.1 < 0))) (congrArg _ (h1)) ?_
                        refine Goes.run [6, 7, 8] [] trivial ?_
                        refine Goes.valA 9 (Instr.indexAt 160 (.slice (some ⟨b2, o2, none⟩) M c2) (.int .i64 ((0 : Nat) : Int))) (.pointer (some ⟨b2, o2 + 0 * 2, none⟩)) (fun w' _ => idxT b2 o2 M c2 0 (by omega) w') ?_
                        refine Goes.run [10] [] trivial ?_
                        refine Goes.valA 11 (Instr.loadAt 3 (.pointer (some ⟨b2, o2 + 0 * 2, none⟩))) (.int .i64 q.1) (fun w' hm => load1 Tryz.isAgg3 (Cel.same y1 hob2 (hm.get 0))) ?_
                        refine Goes.run [12] [] trivial ?_
                        refine Goes.slot 70 (.bool false) (u := .bool (decide (q.1 > 73048))) (congrArg _ (h2)) ?_
                        refine Goes.run [13, 14, 15, 16] [] trivial ?_
                        refine Goes.slot 74 (.bool false) (u := .bool (decide (((0 : Nat) : Int) > 0))) (congrArg _ (rfl)) ?_
                        refine Goes.run [17, 18, 19, 20, 21, 22, 23, 24, 25, 26, 27, 28, 29, 30, 31, 32, 33, 34] [] trivial ?_
                        refine Goes.valA 35 (Instr.indexAt 160 (.slice (some ⟨b2, o2, none⟩) M c2) (.int .i64 ((0 : Nat) : Int))) (.pointer (some ⟨b2, o2 + 0 * 2, none⟩)) (fun w' _ => idxT b2 o2 M c2 0 (by omega) w') ?_
                        refine Goes.run [36] [] trivial ?_
                        refine Goes.valA 37 (Instr.loadAt 2 (.pointer (some ⟨b2, o2 + 0 * 2 + 1, none⟩))) (.int .i64 q.2) (fun w' hm => load1 Tryz.isAgg2 (Cel.same y2 hob2 (hm.get 0))) ?_
                        refine Goes.run [38] [] trivial ?_
                        refine Goes.slot 96 (.bool true) (u := .bool (decide (q.2 < -1000000000000000))) (congrArg _ (h4)) ?_
                        refine Goes.run [39, 40, 41, 42, 43, 44, 45, 46, 47, 1] [(true, true)] ⟨rfl, trivial⟩ ?_
                        have hbad : (!decide (q.1 ≤ lstD f.2 0) && dayP q.1 && numP q.2) = false := by
                          rw [Bool.and_eq_false_iff, Bool.and_eq_false_iff]
                          refine .inr ?_; unfold numP; have := of_decide_eq_true h4; rw [decide_eq_false (by omega), Bool.false_and]
                        exact Goes.ret [] (.bool false) fun w' hm hI => ⟨by rw [hR, hlen4, hst, hdrop, stOk, hbad]; simp, bel0 hI⟩
                      | false =>
                        cases h5 : decide (q.2 > 1000000000000000) with
                        | true =>
                          refine Goes.run [0, 1] [] trivial ?_
                          refine Goes.valA 2 (Instr.indexAt 160 (.slice (some ⟨b2, o2, none⟩) M c2) (.int .i64 ((0 : Nat) : Int))) (.pointer (some ⟨b2, o2 + 0 * 2, none⟩)) (fun w' _ => idxT b2 o2 M c2 0 (by omega) w') ?_
                          refine Goes.run [3] [] trivial ?_
                          refine Goes.valA 4 (Instr.loadAt 3 (.pointer (some ⟨b2, o2 + 0 * 2, none⟩))) (.int .i64 q.1) (fun w' hm => load1 Tryz.isAgg3 (Cel.same y1 hob2 (hm.get 0))) ?_
                          refine Goes.run [5] [] trivial ?_
                          refine Goes.slot 63 (.bool false) (u := .bool (decide (q.1 < 0))) (congrArg _ (h1)) ?_
                          refine Goes.run [6, 7, 8] [] trivial ?_
                          refine Goes.valA 9 (Instr.indexAt 160 (.slice (some ⟨b2, o2, none⟩) M c2) (.int .i64 ((0 : Nat) : Int))) (.pointer (some ⟨b2, o2 + 0 * 2, none⟩)) (fun w' _ => idxT b2 o2 M c2 0 (by omega) w') ?_
                          refine Goes.run [10] [] trivial ?_
                          refine Goes.valA 11 (Instr.loadAt 3 (.pointer (some ⟨b2, o2 + 0 * 2, none⟩))) (.int .i64 q.1) (fun w' hm => load1 Tryz.isAgg3 (Cel.same y1 hob2 (hm.get 0))) ?_
                          refine Goes.run [12] [] trivial ?_
                          refine Goes.slot 70 (.bool false) (u := .bool (decide (q.1 > 73048))) (congrArg _ (h2)) ?_
                          refine Goes.run [13, 14, 15, 16] [] trivial ?_
                          refine Goes.slot 74 (.bool false) (u := .bool (decide (((0 : Nat) : Int) > 0))) (congrArg _ (rfl)) ?_
                          refine Goes.run [17, 18, 19, 20, 21, 22, 23, 24, 25, 26, 27, 28, 29, 30, 31, 32, 33, 34] [] trivial ?_
                          refine Goes.valA 35 (Instr.indexAt 160 (.slice (some ⟨b2, o2, none⟩) M c2) (.int .i64 ((0 : Nat) : Int))) (.pointer (some ⟨b2, o2 + 0 * 2, none⟩)) (fun w' _ => idxT b2 o2 M c2 0 (by omega) w') ?_
                          refine Goes.run [36] [] trivial ?_
                          refine Goes.valA 37 (Instr.loadAt 2 (.pointer (some ⟨b2, o2 + 0 * 2 + 1, none⟩))) (.int .i64 q.2) (fun w' hm => load1 Tryz.isAgg2 (Cel.same y2 hob2 (hm.get 0))) ?_
                          refine Goes.run [38] [] trivial ?_
                          refine Goes.slot 96 (.bool false) (u := .bool (decide (q.2 < -1000000000000000))) (congrArg _ (h4)) ?_
                          refine Goes.run [39, 40, 41, 42] [] trivial ?_
                          refine Goes.valA 43 (Instr.indexAt 160 (.slice (some ⟨b2, o2, none⟩) M c2) (.int .i64 ((0 : Nat) : Int))) (.pointer (some ⟨b2, o2 + 0 * 2, none⟩)) (fun w' _ => idxT b2 o2 M c2 0 (by omega) w') ?_
                          refine Goes.run [44] [] trivial ?_
                          refine Goes.valA 45 (Instr.loadAt 2 (.pointer (some ⟨b2, o2 + 0 * 2 + 1, none⟩))) (.int .i64 q.2) (fun w' hm => load1 Tryz.isAgg2 (Cel.same y2 hob2 (hm.get 0))) ?_
                          refine Goes.run [46] [] trivial ?_
                          refine Goes.slot 104 (.bool true) (u := .bool (decide (q.2 > 1000000000000000))) (congrArg _ (h5)) ?_
                          refine Goes.run [47, 1] [(true, true)] ⟨rfl, trivial⟩ ?_
                          have hbad : (!decide (q.1 ≤ lstD f.2 0) && dayP q.1 && numP q.2) = false := by
                            rw [Bool.and_eq_false_iff, Bool.and_eq_false_iff]
                            refine .inr ?_; unfold numP; have := of_decide_eq_true h5; rw [Bool.and_eq_false_iff]; exact .inr (decide_eq_false (by omega))
                          exact Goes.ret [] (.bool false) fun w' hm hI => ⟨by rw [hR, hlen4, hst, hdrop, stOk, hbad]; simp, bel0 hI⟩
                        | false =>
                          refine Goes.run [0, 1] [] trivial ?_
                          refine Goes.valA 2 (Instr.indexAt 160 (.slice (some ⟨b2, o2, none⟩) M c2) (.int .i64 ((0 : Nat) : Int))) (.pointer (some ⟨b2, o2 + 0 * 2, none⟩)) (fun w' _ => idxT b2 o2 M c2 0 (by omega) w') ?_
                          refine Goes.run [3] [] trivial ?_
                          refine Goes.valA 4 (Instr.loadAt 3 (.pointer (some ⟨b2, o2 + 0 * 2, none⟩))) (.int .i64 q.1) (fun w' hm => load1 Tryz.isAgg3 (Cel.same y1 hob2 (hm.get 0))) ?_
                          refine Goes.run [5] [] trivial ?_
                          refine Goes.slot 63 (.bool false) (u := .bool (decide (q.1 < 0))) (congrArg _ (h1)) ?_
                          refine Goes.run [6, 7, 8] [] trivial ?_
                          refine Goes.valA 9 (Instr.indexAt 160 (.slice (some ⟨b2, o2, none⟩) M c2) (.int .i64 ((0 : Nat) : Int))) (.pointer (some ⟨b2, o2 + 0 * 2, none⟩)) (fun w' _ => idxT b2 o2 M c2 0 (by omega) w') ?_
                          refine Goes.run [10] [] trivial ?_
                          refine Goes.valA 11 (Instr.loadAt 3 (.pointer (some ⟨b2, o2 + 0 * 2, none⟩))) (.int .i64 q.1) (fun w' hm => load1 Tryz.isAgg3 (Cel.same y1 hob2 (hm.get 0))) ?_
                          refine Goes.run [12] [] trivial ?_
                          refine Goes.slot 70 (.bool false) (u := .bool (decide (q.1 > 73048))) (congrArg _ (h2)) ?_
                          refine Goes.run [13, 14, 15, 16] [] trivial ?_
                          refine Goes.slot 74 (.bool false) (u := .bool (decide (((0 : Nat) : Int) > 0))) (congrArg _ (rfl)) ?_
                          refine Goes.run [17, 18, 19, 20, 21, 22, 23, 24, 25, 26, 27, 28, 29, 30, 31, 32, 33, 34] [] trivial ?_
                          refine Goes.valA 35 (Instr.indexAt 160 (.slice (some ⟨b2, o2, none⟩) M c2) (.int .i64 ((0 : Nat) : Int))) (.pointer (some ⟨b2, o2 + 0 * 2, none⟩)) (fun w' _ => idxT b2 o2 M c2 0 (by omega) w') ?_
                          refine Goes.run [36] [] trivial ?_
                          refine Goes.valA 37 (Instr.loadAt 2 (.pointer (some ⟨b2, o2 + 0 * 2 + 1, none⟩))) (.int .i64 q.2) (fun w' hm => load1 Tryz.isAgg2 (Cel.same y2 hob2 (hm.get 0))) ?_
                          refine Goes.run [38] [] trivial ?_
                          refine Goes.slot 96 (.bool false) (u := .bool (decide (q.2 < -1000000000000000))) (congrArg _ (h4)) ?_
                          refine Goes.run [39, 40, 41, 42] [] trivial ?_
                          refine Goes.valA 43 (Instr.indexAt 160 (.slice (some ⟨b2, o2, none⟩) M c2) (.int .i64 ((0 : Nat) : Int))) (.pointer (some ⟨b2, o2 + 0 * 2, none⟩)) (fun w' _ => idxT b2 o2 M c2 0 (by omega) w') ?_
                          refine Goes.run [44] [] trivial ?_
                          refine Goes.valA 45 (Instr.loadAt 2 (.pointer (some ⟨b2, o2 + 0 * 2 + 1, none⟩))) (.int .i64 q.2) (fun w' hm => load1 Tryz.isAgg2 (Cel.same y2 hob2 (hm.get 0))) ?_
                          refine Goes.run [46] [] trivial ?_
                          refine Goes.slot 104 (.bool false) (u := .bool (decide (q.2 > 1000000000000000))) (congrArg _ (h5)) ?_
                          refine Goes.run [47, 0] [(false, false)] ⟨rfl, trivial⟩ ?_
                          refine Goes.slot 6 (.int .i64 (0 + 1 : Nat)) (u := .int .i64 (IntKind.i64.wrap (((0 : Nat) : Int) + 1))) (congrArg _ (wrap_nat (by omega))) ?_
                          have hgood : (!decide (q.1 ≤ lstD f.2 0) && dayP q.1 && numP q.2) = true := by
                            have e1 := of_decide_eq_false h1; have e2 := of_decide_eq_false h2; have e4 := of_decide_eq_false h4; have e5 := of_decide_eq_false h5
                            have a1 : decide (q.1 ≤ lstD f.2 0) = false := decide_eq_false (by show ¬ q.1 ≤ -1; omega)
                            have a2 : dayP q.1 = true := by unfold dayP; rw [decide_eq_true (by omega), decide_eq_true (by omega)]; rfl
                            have a3 : numP q.2 = true := by unfold numP; rw [decide_eq_true (by omega), decide_eq_true (by omega)]; rfl
                            rw [a1, a2, a3]; rfl
                          exact back2 (0 + 1) _ ⟨by omega, by rw [hst, hdrop, stOk, hgood, Bool.true_and]; rw [show lstD f.2 (0 + 1) = q.1 by simp [lstD, hq]]⟩ (by omega) (by kernel_rfl) (by kernel_rfl) (by kernel_rfl)
                | succ j2 =>
                  obtain ⟨qj, hqj⟩ : ∃ qj, f.2[j2]? = some qj := ⟨f.2[j2]'(by omega), by simp⟩
                  obtain ⟨b9, o9, e9, -, z1, -⟩ := hstm j2 qj hqj
                  cases e9
                  have hlast : lstD f.2 (j2 + 1) = qj.1 := by simp [lstD, hqj]
                  refine Goes.openY [] [(b2, ob2)] (fun w' hI => hex1 hob2 hI.1) ?_
                  cases h1 : decide (q.1 < 0) with
                  | true =>
                    refine Goes.run [0, 1] [] trivial ?_
                    refine Goes.valA 2 (Instr.indexAt 160 (.slice (some ⟨b2, o2, none⟩) M c2) (.int .i64 ((j2 + 1 : Nat) : Int))) (.pointer (some ⟨b2, o2 + (j2 + 1) * 2, none⟩)) (fun w' _ => idxT b2 o2 M c2 (j2 + 1) (by omega) w') ?_
                    refine Goes.run [3] [] trivial ?_
                    refine Goes.valA 4 (Instr.loadAt 3 (.pointer (some ⟨b2, o2 + (j2 + 1) * 2, none⟩))) (.int .i64 q.1) (fun w' hm => load1 Tryz.isAgg3 (Cel.same y1 hob2 (hm.get 0))) ?_
                    refine Goes.run [5] [] trivial ?_
                    refine Goes.slot 63 (.bool true) (u := .bool (decide (q.1 < 0))) (congrArg _ (h1)) ?_
                    refine Goes.run [6, 7, 8, 9, 10, 11, 12, 13, 14, 15, 16, 17, 18, 19, 20, 21, 22, 23, 24, 25, 26, 27, 28, 29, 30, 31, 32, 33, 34, 35, 36, 37, 38, 39, 40, 41, 42, 43, 44, 45, 46, 47, 1] [(true, true)] ⟨rfl, trivial⟩ ?_
                    have hbad : (!decide (q.1 ≤ lstD f.2 (j2 + 1)) && dayP q.1 && numP q.2) = false := by
                      rw [Bool.and_eq_false_iff, Bool.and_eq_false_iff]
                      refine .inl (.inr ?_); unfold dayP; have := of_decide_eq_true h1; rw [decide_eq_false (by omega), Bool.false_and]
                    exact Goes.ret [] (.bool false) fun w' hm hI => ⟨by rw [hR, hlen4, hst, hdrop, stOk, hbad]; simp, bel0 hI⟩
                  | false =>
                    cases h2 : decide (q.1 > 73048) with
                    | true =>
                      refine Goes.run [0, 1] [] trivial ?_
                      refine Goes.valA 2 (Instr.indexAt 160 (.slice (some ⟨b2, o2, none⟩) M c2) (.int .i64 ((j2 + 1 : Nat) : Int))) (.pointer (some ⟨b2, o2 + (j2 + 1) * 2, none⟩)) (fun w' _ => idxT b2 o2 M c2 (j2 + 1) (by omega) w') ?_
                      refine Goes.run [3] [] trivial ?_
                      refine Goes.valA 4 (Instr.loadAt 3 (.pointer (some ⟨b2, o2 + (j2 + 1) * 2, none⟩))) (.int .i64 q.1) (fun w' hm => load1 Tryz.isAgg3 (Cel.same y1 hob2 (hm.get 0))) ?_
                      refine Goes.run [5] [] trivial ?_
                      refine Goes.slot 63 (.bool false) (u := .bool (decide (q.1 < 0))) (congrArg _ (h1)) ?_
                      refine Goes.run [6, 7, 8] [] trivial ?_
                      refine Goes.valA 9 (Instr.indexAt 160 (.slice (some ⟨b2, o2, none⟩) M c2) (.int .i64 ((j2 + 1 : Nat) : Int))) (.pointer (some ⟨b2, o2 + (j2 + 1) * 2, none⟩)) (fun w' _ => idxT b2 o2 M c2 (j2 + 1) (by omega) w') ?_
                      refine Goes.run [10] [] trivial ?_
                      refine Goes.valA 11 (Instr.loadAt 3 (.pointer (some ⟨b2, o2 + (j2 + 1) * 2, none⟩))) (.int .i64 q.1) (fun w' hm => load1 Tryz.isAgg3 (Cel.same y1 hob2 (hm.get 0))) ?_
                      refine Goes.run [12] [] trivial ?_
                      refine Goes.slot 70 (.bool true) (u := .bool (decide (q.1 > 73048))) (congrArg _ (h2)) ?_
                      refine Goes.run [13, 14, 15, 16, 17, 18, 19, 20, 21, 22, 23, 24, 25, 26, 27, 28, 29, 30, 31, 32, 33, 34, 35, 36, 37, 38, 39, 40, 41, 42, 43, 44, 45, 46, 47, 1] [(true, true)] ⟨rfl, trivial⟩ ?_
                      have hbad : (!decide (q.1 ≤ lstD f.2 (j2 + 1)) && dayP q.1 && numP q.2) = false := by
                        rw [Bool.and_eq_false_iff, Bool.and_eq_false_iff]
                        refine .inl (.inr ?_); unfold dayP; have := of_decide_eq_true h2; rw [Bool.and_eq_false_iff]; exact .inr (decide_eq_false (by omega))
                      exact Goes.ret [] (.bool false) fun w' hm hI => ⟨by rw [hR, hlen4, hst, hdrop, stOk, hbad]; simp, bel0 hI⟩
                    | false =>
                      cases h3 : decide (qj.1 ≥ q.1) with
                      | true =>
                        refine Goes.run [0, 1] [] trivial ?_
                        refine Goes.valA 2 (Instr.indexAt 160 (.slice (some ⟨b2, o2, none⟩) M c2) (.int .i64 ((j2 + 1 : Nat) : Int))) (.pointer (some ⟨b2, o2 + (j2 + 1) * 2, none⟩)) (fun w' _ => idxT b2 o2 M c2 (j2 + 1) (by omega) w') ?_
                        refine Goes.run [3] [] trivial ?_
                        refine Goes.valA 4 (Instr.loadAt 3 (.pointer (some ⟨b2, o2 + (j2 + 1) * 2, none⟩))) (.int .i64 q.1) (fun w' hm => load1 Tryz.isAgg3 (Cel.same y1 hob2 (hm.get 0))) ?_
                        refine Goes.run [5] [] trivial ?_
                        refine Goes.slot 63 (.bool false) (u := .bool (decide (q.1 < 0))) (congrArg _ (h1)) ?_
                        refine Goes.run [6, 7, 8] [] trivial ?_
                        refine Goes.valA 9 (Instr.indexAt 160 (.slice (some ⟨b2, o2, none⟩) M c2) (.int .i64 ((j2 + 1 : Nat) : Int))) (.pointer (some ⟨b2, o2 + (j2 + 1) * 2, none⟩)) (fun w' _ => idxT b2 o2 M c2 (j2 + 1) (by omega) w') ?_
                        refine Goes.run [10] [] trivial ?_
                        refine Goes.valA 11 (Instr.loadAt 3 (.pointer (some ⟨b2, o2 + (j2 + 1) * 2, none⟩))) (.int .i64 q.1) (fun w' hm => load1 Tryz.isAgg3 (Cel.same y1 hob2 (hm.get 0))) ?_
                        refine Goes.run [12] [] trivial ?_
                        refine Goes.slot 70 (.bool false) (u := .bool (decide (q.1 > 73048))) (congrArg _ (h2)) ?_
                        refine Goes.run [13, 14, 15, 16] [] trivial ?_
                        refine Goes.slot 74 (.bool true) (u := .bool (decide (((j2 + 1 : Nat) : Int) > 0))) (congrArg _ (decide_eq_true (by omega))) ?_
                        refine Goes.run [17, 18, 19, 20] [] trivial ?_
                        refine Goes.slot 78 (.int .i64 (j2 : Int)) (u := .int .i64 (IntKind.i64.wrap (((j2 + 1 : Nat) : Int) - 1))) (congrArg _ (by rw [IntWalk.i64_in _ ⟨by omega, by omega⟩]; omega)) ?_
                        refine Goes.valA 21 (Instr.indexAt 160 (.slice (some ⟨b2, o2, none⟩) M c2) (.int .i64 (j2 : Int))) (.pointer (some ⟨b2, o2 + j2 * 2, none⟩)) (fun w' _ => idxT b2 o2 M c2 j2 (by omega) w') ?_
                        refine Goes.run [22] [] trivial ?_
                        refine Goes.valA 23 (Instr.loadAt 3 (.pointer (some ⟨b2, o2 + j2 * 2, none⟩))) (.int .i64 qj.1) (fun w' hm => load1 Tryz.isAgg3 (Cel.same z1 hob2 (hm.get 0))) ?_
                        refine Goes.run [24, 25] [] trivial ?_
                        refine Goes.valA 26 (Instr.indexAt 160 (.slice (some ⟨b2, o2, none⟩) M c2) (.int .i64 ((j2 + 1 : Nat) : Int))) (.pointer (some ⟨b2, o2 + (j2 + 1) * 2, none⟩)) (fun w' _ => idxT b2 o2 M c2 (j2 + 1) (by omega) w') ?_
                        refine Goes.run [27] [] trivial ?_
                        refine Goes.valA 28 (Instr.loadAt 3 (.pointer (some ⟨b2, o2 + (j2 + 1) * 2, none⟩))) (.int .i64 q.1) (fun w' hm => load1 Tryz.isAgg3 (Cel.same y1 hob2 (hm.get 0))) ?_
                        refine Goes.run [29] [] trivial ?_
                        refine Goes.slot 87 (.bool true) (u := .bool (decide (qj.1 ≥ q.1))) (congrArg _ (h3)) ?_
                        refine Goes.run [30, 31, 32, 33, 34, 35, 36, 37, 38, 39, 40, 41, 42, 43, 44, 45, 46, 47, 1] [(true, true)] ⟨rfl, trivial⟩ ?_
                        have hbad : (!decide (q.1 ≤ lstD f.2 (j2 + 1)) && dayP q.1 && numP q.2) = false := by
                          rw [Bool.and_eq_false_iff, Bool.and_eq_false_iff]
                          refine .inl (.inl ?_); rw [hlast]; have := of_decide_eq_true h3; rw [decide_eq_true (by omega)]; rfl
                        exact Goes.ret [] (.bool false) fun w' hm hI => ⟨by rw [hR, hlen4, hst, hdrop, stOk, hbad]; simp, bel0 hI⟩
                      | false =>
                        cases h4 : decide (q.2 < -1000000000000000) with
                        | true =>
                          refine Goes.run [0, 1] [] trivial ?_
                          refine Goes.valA 2 (Instr.indexAt 160 (.slice (some ⟨b2, o2, none⟩) M c2) (.int .i64 ((j2 + 1 : Nat) : Int))) (.pointer (some ⟨b2, o2 + (j2 + 1) * 2, none⟩)) (fun w' _ => idxT b2 o2 M c2 (j2 + 1) (by omega) w') ?_
                          refine Goes.run [3] [] trivial ?_
                          refine Goes.valA 4 (Instr.loadAt 3 (.pointer (some ⟨b2, o2 + (j2 + 1) * 2, none⟩))) (.int .i64 q.1) (fun w' hm => load1 Tryz.isAgg3 (Cel.same y1 hob2 (hm.get 0))) ?_
                          refine Goes.run [5] [] trivial ?_
                          refine Goes.slot 63 (.bool false) (u := .bool (decide (q.1 < 0))) (congrArg _ (h1)) ?_
                          refine Goes.run [6, 7, 8] [] trivial ?_
                          refine Goes.valA 9 (Instr.indexAt 160 (.slice (some ⟨b2, o2, none⟩) M c2) (.int .i64 ((j2 + 1 : Nat) : Int))) (.pointer (some ⟨b2, o2 + (j2 + 1) * 2, none⟩)) (fun w' _ => idxT b2 o2 M c2 (j2 + 1) (by omega) w') ?_
                          refine Goes.run [10] [] trivial ?_
                          refine Goes.valA 11 (Instr.loadAt 3 (.pointer (some ⟨b2, o2 + (j2 + 1) * 2, none⟩))) (.int .i64 q.1) (fun w' hm => load1 Tryz.isAgg3 (Cel.same y1 hob2 (hm.get 0))) ?_
                          refine Goes.run [12] [] trivial ?_
                          refine Goes.slot 70 (.bool false) (u := .bool (decide (q.1 > 73048))) (congrArg _ (h2)) ?_
                          refine Goes.run [13, 14, 15, 16] [] trivial ?_
                          refine Goes.slot 74 (.bool true) (u := .bool (decide (((j2 + 1 : Nat) : Int) > 0))) (congrArg _ (decide_eq_true (by omega))) ?_
                          refine Goes.run [17, 18, 19, 20] [] trivial ?_
                          refine Goes.slot 78 (.int .i64 (j2 : Int)) (u := .int .i64 (IntKind.i64.wrap (((j2 + 1 : Nat) : Int) - 1))) (congrArg _ (by rw [IntWalk.i64_in _ ⟨by omega, by omega⟩]; omega)) ?_
                          refine Goes.valA 21 (Instr.indexAt 160 (.slice (some ⟨b2, o2, none⟩) M c2) (.int .i64 (j2 : Int))) (.pointer (some ⟨b2, o2 + j2 * 2, none⟩)) (fun w' _ => idxT b2 o2 M c2 j2 (by omega) w') ?_
                          refine Goes.run [22] [] trivial ?_
                          refine Goes.valA 23 (Instr.loadAt 3 (.pointer (some ⟨b2, o2 + j2 * 2, none⟩))) (.int .i64 qj.1) (fun w' hm => load1 Tryz.isAgg3 (Cel.same z1 hob2 (hm.get 0))) ?_
                          refine Goes.run [24, 25] [] trivial ?_
                          refine Goes.valA 26 (Instr.indexAt 160 (.slice (some ⟨b2, o2, none⟩) M c2) (.int .i64 ((j2 + 1 : Nat) : Int))) (.pointer (some ⟨b2, o2 + (j2 + 1) * 2, none⟩)) (fun w' _ => idxT b2 o2 M c2 (j2 + 1) (by omega) w') ?_
                          refine Goes.run [27] [] trivial ?_
                          refine Goes.valA 28 (Instr.loadAt 3 (.pointer (some ⟨b2, o2 + (j2 + 1) * 2, none⟩))) (.int .i64 q.1) (fun w' hm => load1 Tryz.isAgg3 (Cel.same y1 hob2 (hm.get 0))) ?_
                          refine Goes.run [29] [] trivial ?_
                          refine Goes.slot 87 (.bool false) (u := .bool (decide (qj.1 ≥ q.1))) (congrArg _ (h3)) ?_
                          refine Goes.run [30, 31, 32, 33, 34] [] trivial ?_
                          refine Goes.valA 35 (Instr.indexAt 160 (.slice (some ⟨b2, o2, none⟩) M c2) (.int .i64 ((j2 + 1 : Nat) : Int))) (.pointer (some ⟨b2, o2 + (j2 + 1) * 2, none⟩)) (fun w' _ => idxT b2 o2 M c2 (j2 + 1) (by omega) w') ?_
                          refine Goes.run [36] [] trivial ?_
                          refine Goes.valA 37 (Instr.loadAt 2 (.pointer (some ⟨b2, o2 + (j2 + 1) * 2 + 1, none⟩))) (.int .i64 q.2) (fun w' hm => load1 Tryz.isAgg2 (Cel.same y2 hob2 (hm.get 0))) ?_
                          refine Goes.run [38] [] trivial ?_
                          refine Goes.slot 96 (.bool true) (u := .bool (decide (q.2 < -1000000000000000))) (congrArg _ (h4)) ?_
                          refine Goes.run [39, 40, 41, 42, 43, 44, 45, 46, 47, 1] [(true, true)] ⟨rfl, trivial⟩ ?_
                          have hbad : (!decide (q.1 ≤ lstD f.2 (j2 + 1)) && dayP q.1 && numP q.2) = false := by
                            rw [Bool.and_eq_false_iff, Bool.and_eq_false_iff]
                            refine .inr ?_; unfold numP; have := of_decide_eq_true h4; rw [decide_eq_false (by omega), Bool.false_and]
                          exact Goes.ret [] (.bool false) fun w' hm hI => ⟨by rw [hR, hlen4, hst, hdrop, stOk, hbad]; simp, bel0 hI⟩
                        | false =>
                          cases h5 : decide (q.2 > 1000000000000000) with
                          | true =>
                            refine Goes.run [0, 1] [] trivial ?_
                            refine Goes.valA 2 (Instr.indexAt 160 (.slice (some ⟨b2, o2, none⟩) M c2) (.int .i64 ((j2 + 1 : Nat) : Int))) (.pointer (some ⟨b2, o2 + (j2 + 1) * 2, none⟩)) (fun w' _ => idxT b2 o2 M c2 (j2 + 1) (by omega) w') ?_
                            refine Goes.run [3] [] trivial ?_
                            refine Goes.valA 4 (Instr.loadAt 3 (.pointer (some ⟨b2, o2 + (j2 + 1) * 2, none⟩))) (.int .i64 q.1) (fun w' hm => load1 Tryz.isAgg3 (Cel.same y1 hob2 (hm.get 0))) ?_
                            refine Goes.run [5] [] trivial ?_
                            refine Goes.slot 63 (.bool false) (u := .bool (decide (q.1 < 0))) (congrArg _ (h1)) ?_
                            refine Goes.run [6, 7, 8] [] trivial ?_
                            refine Goes.valA 9 (Instr.indexAt 160 (.slice (some ⟨b2, o2, none⟩) M c2) (.int .i64 ((j2 + 1 : Nat) : Int))) (.pointer (some ⟨b2, o2 + (j2 + 1) * 2, none⟩)) (fun w' _ => idxT b2 o2 M c2 (j2 + 1) (by omega) w') ?_
                            refine Goes.run [10] [] trivial ?_
                            refine Goes.valA 11 (Instr.loadAt 3 (.pointer (some ⟨b2, o2 + (j2 + 1) * 2, none⟩))) (.int .i64 q.1) (fun w' hm => load1 Tryz.isAgg3 (Cel.same y1 hob2 (hm.get 0))) ?_
                            refine Goes.run [12] [] trivial ?_
                            refine Goes.slot 70 (.bool false) (u := .bool (decide (q.1 > 73048))) (congrArg _ (h2)) ?_
                            refine Goes.run [13, 14, 15, 16] [] trivial ?_
                            refine Goes.slot 74 (.bool true) (u := .bool (decide (((j2 + 1 : Nat) : Int) > 0))) (congrArg _ (decide_eq_true (by omega))) ?_
                            refine Goes.run [17, 18, 19, 20] [] trivial ?_
                            refine Goes.slot 78 (.int .i64 (j2 : Int)) (u := .int .i64 (IntKind.i64.wrap (((j2 + 1 : Nat) : Int) - 1))) (congrArg _ (by rw [IntWalk.i64_in _ ⟨by omega, by omega⟩]; omega)) ?_
                            refine Goes.valA 21 (Instr.indexAt 160 (.slice (some ⟨b2, o2, none⟩) M c2) (.int .i64 (j2 : Int))) (.pointer (some ⟨b2, o2 + j2 * 2, none⟩)) (fun w' _ => idxT b2 o2 M c2 j2 (by omega) w') ?_
                            refine Goes.run [22] [] trivial ?_
                            refine Goes.valA 23 (Instr.loadAt 3 (.pointer (some ⟨b2, o2 + j2 * 2, none⟩))) (.int .i64 qj.1) (fun w' hm => load1 Tryz.isAgg3 (Cel.same z1 hob2 (hm.get 0))) ?_
                            refine Goes.run [24, 25] [] trivial ?_
                            refine Goes.valA 26 (Instr.indexAt 160 (.slice (some ⟨b2, o2, none⟩) M c2) (.int .i64 ((j2 + 1 : Nat) : Int))) (.pointer (some ⟨b2, o2 + (j2 + 1) * 2, none⟩)) (fun w' _ => idxT b2 o2 M c2 (j2 + 1) (by omega) w') ?_
                            refine Goes.run [27] [] trivial ?_
                            refine Goes.valA 28 (Instr.loadAt 3 (.pointer (some ⟨b2, o2 + (j2 + 1) * 2, none⟩))) (.int .i64 q.1) (fun w' hm => load1 Tryz.isAgg3 (Cel.same y1 hob2 (hm.get 0))) ?_
                            refine Goes.run [29] [] trivial ?_
                            refine Goes.slot 87 (.bool false) (u := .bool (decide (qj.1 ≥ q.1))) (congrArg _ (h3)) ?_
                            refine Goes.run [30, 31, 32, 33, 34] [] trivial ?_
                            refine Goes.valA 35 (Instr.indexAt 160 (.slice (some ⟨b2, o2, none⟩) M c2) (.int .i64 ((j2 + 1 : Nat) : Int))) (.pointer (some ⟨b2, o2 + (j2 + 1) * 2, none⟩)) (fun w' _ => idxT b2 o2 M c2 (j2 + 1) (by omega) w') ?_
                            refine Goes.run [36] [] trivial ?_
                            refine Goes.valA 37 (Instr.loadAt 2 (.pointer (some ⟨b2, o2 + (j2 + 1) * 2 + 1, none⟩))) (.int .i64 q.2) (fun w' hm => load1 Tryz.isAgg2 (Cel.same y2 hob2 (hm.get 0))) ?_
                            refine Goes.run [38] [] trivial ?_
                            refine Goes.slot 96 (.bool false) (u := .bool (decide (q.2 < -1000000000000000))) (congrArg _ (h4)) ?_
                            refine Goes.run [39, 40, 41, 42] [] trivial ?_
                            refine Goes.valA 43 (Instr.indexAt 160 (.slice (some ⟨b2, o2, none⟩) M c2) (.int .i64 ((j2 + 1 : Nat) : Int))) (.pointer (some ⟨b2, o2 + (j2 + 1) * 2, none⟩)) (fun w' _ => idxT b2 o2 M c2 (j2 + 1) (by omega) w') ?_
                            refine Goes.run [44] [] trivial ?_
                            refine Goes.valA 45 (Instr.loadAt 2 (.pointer (some ⟨b2, o2 + (j2 + 1) * 2 + 1, none⟩))) (.int .i64 q.2) (fun w' hm => load1 Tryz.isAgg2 (Cel.same y2 hob2 (hm.get 0))) ?_
                            refine Goes.run [46] [] trivial ?_
                            refine Goes.slot 104 (.bool true) (u := .bool (decide (q.2 > 1000000000000000))) (congrArg _ (h5)) ?_
                            refine Goes.run [47, 1] [(true, true)] ⟨rfl, trivial⟩ ?_
                            have hbad : (!decide (q.1 ≤ lstD f.2 (j2 + 1)) && dayP q.1 && numP q.2) = false := by
                              rw [Bool.and_eq_false_iff, Bool.and_eq_false_iff]
                              refine .inr ?_; unfold numP; have := of_decide_eq_true h5; rw [Bool.and_eq_false_iff]; exact .inr (decide_eq_false (by omega))
                            exact Goes.ret [] (.bool false) fun w' hm hI => ⟨by rw [hR, hlen4, hst, hdrop, stOk, hbad]; simp, bel0 hI⟩
                          | false =>
                            refine Goes.run [0, 1] [] trivial ?_
                            refine Goes.valA 2 (Instr.indexAt 160 (.slice (some ⟨b2, o2, none⟩) M c2) (.int .i64 ((j2 + 1 : Nat) : Int))) (.pointer (some ⟨b2, o2 + (j2 + 1) * 2, none⟩)) (fun w' _ => idxT b2 o2 M c2 (j2 + 1) (by omega) w') ?_
                            refine Goes.run [3] [] trivial ?_
                            refine Goes.valA 4 (Instr.loadAt 3 (.pointer (some ⟨b2, o2 + (j2 + 1) * 2, none⟩))) (.int .i64 q.1) (fun w' hm => load1 Tryz.isAgg3 (Cel.same y1 hob2 (hm.get 0))) ?_
                            refine Goes.run [5] [] trivial ?_
                            refine Goes.slot 63 (.bool false) (u := .bool (decide (q.1 < 0))) (congrArg _ (h1)) ?_
                            refine Goes.run [6, 7, 8] [] trivial ?_
                            refine Goes.valA 9 (Instr.indexAt 160 (.slice (some ⟨b2, o2, none⟩) M c2) (.int .i64 ((j2 + 1 : Nat) : Int))) (.pointer (some ⟨b2, o2 + (j2 + 1) * 2, none⟩)) (fun w' _ => idxT b2 o2 M c2 (j2 + 1) (by omega) w') ?_
                            refine Goes.run [10] [] trivial ?_
                            refine Goes.valA 11 (Instr.loadAt 3 (.pointer (some ⟨b2, o2 + (j2 + 1) * 2, none⟩))) (.int .i64 q.1) (fun w' hm => load1 Tryz.isAgg3 (Cel.same y1 hob2 (hm.get 0))) ?_
                            refine Goes.run [12] [] trivial ?_
                            refine Goes.slot 70 (.bool false) (u := .bool (decide (q.1 > 73048))) (congrArg _ (h2)) ?_
                            refine Goes.run [13, 14, 15, 16] [] trivial ?_
                            refine Goes.slot 74 (.bool true) (u := .bool (decide (((j2 + 1 : Nat) : Int) > 0))) (congrArg _ (decide_eq_true (by omega))) ?_
                            refine Goes.run [17, 18, 19, 20] [] trivial ?_
                            refine Goes.slot 78 (.int .i64 (j2 : Int)) (u := .int .i64 (IntKind.i64.wrap (((j2 + 1 : Nat) : Int) - 1))) (congrArg _ (by rw [IntWalk.i64_in _ ⟨by omega, by omega⟩]; omega)) ?_
                            refine Goes.valA 21 (Instr.indexAt 160 (.slice (some ⟨b2, o2, none⟩) M c2) (.int .i64 (j2 : Int))) (.pointer (some ⟨b2, o2 + j2 * 2, none⟩)) (fun w' _ => idxT b2 o2 M c2 j2 (by omega) w') ?_
                            refine Goes.run [22] [] trivial ?_
                            refine Goes.valA 23 (Instr.loadAt 3 (.pointer (some ⟨b2, o2 + j2 * 2, none⟩))) (.int .i64 qj.1) (fun w' hm => load1 Tryz.isAgg3 (Cel.same z1 hob2 (hm.get 0))) ?_
                            refine Goes.run [24, 25] [] trivial ?_
                            refine Goes.valA 26 (Instr.indexAt 160 (.slice (some ⟨b2, o2, none⟩) M c2) (.int .i64 ((j2 + 1 : Nat) : Int))) (.pointer (some ⟨b2, o2 + (j2 + 1) * 2, none⟩)) (fun w' _ => idxT b2 o2 M c2 (j2 + 1) (by omega) w') ?_
                            refine Goes.run [27] [] trivial ?_
                            refine Goes.valA 28 (Instr.loadAt 3 (.pointer (some ⟨b2, o2 + (j2 + 1) * 2, none⟩))) (.int .i64 q.1) (fun w' hm => load1 Tryz.isAgg3 (Cel.same y1 hob2 (hm.get 0))) ?_
                            refine Goes.run [29] [] trivial ?_
                            refine Goes.slot 87 (.bool false) (u := .bool (decide (qj.1 ≥ q.1))) (congrArg _ (h3)) ?_
                            refine Goes.run [30, 31, 32, 33, 34] [] trivial ?_
                            refine Goes.valA 35 (Instr.indexAt 160 (.slice (some ⟨b2, o2, none⟩) M c2) (.int .i64 ((j2 + 1 : Nat) : Int))) (.pointer (some ⟨b2, o2 + (j2 + 1) * 2, none⟩)) (fun w' _ => idxT b2 o2 M c2 (j2 + 1) (by omega) w') ?_
                            refine Goes.run [36] [] trivial ?_
                            refine Goes.valA 37 (Instr.loadAt 2 (.pointer (some ⟨b2, o2 + (j2 + 1) * 2 + 1, none⟩))) (.int .i64 q.2) (fun w' hm => load1 Tryz.isAgg2 (Cel.same y2 hob2 (hm.get 0))) ?_
                            refine Goes.run [38] [] trivial ?_
                            refine Goes.slot 96 (.bool false) (u := .bool (decide (q.2 < -1000000000000000))) (congrArg _ (h4)) ?_
                            refine Goes.run [39, 40, 41, 42] [] trivial ?_
                            refine Goes.valA 43 (Instr.indexAt 160 (.slice (some ⟨b2, o2, none⟩) M c2) (.int .i64 ((j2 + 1 : Nat) : Int))) (.pointer (some ⟨b2, o2 + (j2 + 1) * 2, none⟩)) (fun w' _ => idxT b2 o2 M c2 (j2 + 1) (by omega) w') ?_
                            refine Goes.run [44] [] trivial ?_
                            refine Goes.valA 45 (Instr.loadAt 2 (.pointer (some ⟨b2, o2 + (j2 + 1) * 2 + 1, none⟩))) (.int .i64 q.2) (fun w' hm => load1 Tryz.isAgg2 (Cel.same y2 hob2 (hm.get 0))) ?_
                            refine Goes.run [46] [] trivial ?_
                            refine Goes.slot 104 (.bool false) (u := .bool (decide (q.2 > 1000000000000000))) (congrArg _ (h5)) ?_
                            refine Goes.run [47, 0] [(false, false)] ⟨rfl, trivial⟩ ?_
                            refine Goes.slot 6 (.int .i64 ((j2 + 1) + 1 : Nat)) (u := .int .i64 (IntKind.i64.wrap ((((j2 + 1) : Nat) : Int) + 1))) (congrArg _ (wrap_nat (by omega))) ?_
                            have hgood : (!decide (q.1 ≤ lstD f.2 (j2 + 1)) && dayP q.1 && numP q.2) = true := by
                              have e1 := of_decide_eq_false h1; have e2 := of_decide_eq_false h2; have e4 := of_decide_eq_false h4; have e5 := of_decide_eq_false h5
                              have a1 : decide (q.1 ≤ lstD f.2 (j2 + 1)) = false := decide_eq_false (by rw [hlast]; have := of_decide_eq_false h3; omega)
                              have a2 : dayP q.1 = true := by unfold dayP; rw [decide_eq_true (by omega), decide_eq_true (by omega)]; rfl
                              have a3 : numP q.2 = true := by unfold numP; rw [decide_eq_true (by omega), decide_eq_true (by omega)]; rfl
                              rw [a1, a2, a3]; rfl
                            exact back2 ((j2 + 1) + 1) _ ⟨by omega, by rw [hst, hdrop, stOk, hgood, Bool.true_and]; rw [show lstD f.2 ((j2 + 1) + 1) = q.1 by simp [lstD, hq]]⟩ (by omega) (by kernel_rfl) (by kernel_rfl) (by kernel_rfl)
end Go.Proofs.YtddbiiejilcbbaaGreatDoor
namespace Go.Proofs.YtddbiiejilcbbaaGreatDoor
open Go Go.RowKit

/-- What comes of a run: bad tells if it was too much. -/
def outP (right : Bool) (S : Ms) (bad : Bool) : R4 := bif right && !bad then ⟨S.holds, S.out, S.steps, 0⟩ else ⟨[], [], 0, 180⟩
def s0Ms : Ms := ⟨[], [], 0⟩
theorem s0_fit : s0Ms.Fit := ⟨by decide, by decide, by decide, by decide⟩
theorem s0_over : overM s0Ms = false := by decide
def rgt (k : Kd) (fs : Fs) (day : Int) : Bool := dayP day && rfP fs && rightR k
noncomputable def begP (k : Kd) (fs : Fs) (day : Int) : R4 := outP (rgt k fs day) (runP k fs day 65538 ⟨zeros, ((0 : Nat) : Int), 1000000⟩ s0Ms) (overM (runP k fs day 65538 ⟨zeros, ((0 : Nat) : Int), 1000000⟩ s0Ms))
theorem out_same {right : Bool} {S : Ms} {D : Ms × Bool} (h1 : D.2 = overM S) (h2 : D.2 = false → D.1 = S) : outP right D.1 D.2 = outP right S (overM S) := by
  unfold outP
  rw [← h1]
  cases hb : D.2 with
  | true => cases right <;> rfl
  | false => rw [h2 hb]
theorem dayP_in {day : Int} (h : dayP day = true) : 0 ≤ day ∧ day ≤ 73048 := by
  unfold dayP at h
  simp only [Bool.and_eq_true, decide_eq_true_eq] at h
  exact h
section
variable {w : World} {k : Kd} {fs : Fs} {fa aW aI : Option Addr} {fN fc nW cW nI cI : Nat} {rg day : Int}
theorem rn0_of (hM : CdM w aW nW cW aI nI cI k) (hrg : k.regs = rg) (hF : Fds w.heap.size w (.slice fa fN fc) fs) (hT : Tab w) (h : rgt k fs day = true) : Rn0 w k fs fa fN fc rg aW nW cW aI nI cI day := by
  unfold rgt at h
  simp only [Bool.and_eq_true] at h
  exact ⟨hM, hrg, h.2, hF, rf_right h.1.2, hT, dayP_in h.1.1⟩
set_option maxHeartbeats 4000000 in
set_option maxRecDepth 100000 in
seal rn rnN rnS Goes ans atEnd put0 put putM opened openedY putA0 putA oneSt st0 keep mkSt newSt in
theorem pbegin_any (hM : CdM w aW nW cW aI nI cI k) (hrg : k.regs = rg) (hwf : k.wf) (hF : Fds w.heap.size w (.slice fa fN fc) fs) (hl : ∀ f ∈ fs, f.1.length ≤ 9223372036854775807) (hU : TabU w) (hT : Tab w) : Calls Tryz.prog 13 #[cdV rg aW nW cW aI nI cI, .int .i64 day, (.slice fa fN fc)] w (BgQ day w (begP k fs day)) := by
  obtain ⟨S, hS⟩ : ∃ S, runP k fs day 65538 ⟨zeros, ((0 : Nat) : Int), 1000000⟩ s0Ms = S := ⟨_, rfl⟩
  unfold begP
  rw [hS]
  refine Goes.begin Tryz.func13 [] (fun _ => True) Holds.nil (by simp [Mem.ids]) (fun _ _ => trivial) ?_
  refine Goes.run [] [] trivial ?_
  refine Goes.new1 w.heap.size (fun w' h => h.1.size) fun gc hgc => ?_
  refine Goes.run [0] [] trivial ?_
  refine Goes.new1 w.heap.size (fun w' h => h.1.size) fun gm hgm => ?_
  refine Goes.run [1] [] trivial ?_
  have hmo : ∀ {w'}, Holds [(gc, cdO rg (.slice aW nW cW) (.slice aI nI cI)), (gm, vmO day (.slice fa fN fc) rg (.slice aW nW cW) (.slice aI nI cI) nl nl 0)] w' → w'.heap[gm]? = some (vmO day (.slice fa fN fc) rg (.slice aW nW cW) (.slice aI nI cI) nl nl 0) := fun hm => hm.get 1
  refine Goes.call0 30 #[.pointer (some ⟨gm, 0, none⟩)] (.bool (rgt k fs day)) (fun w' hm hI => vmright_any (show w'.heap[gm]? = some (vmO day (.slice fa fN fc) rg (.slice aW nW cW) (.slice aI nI cI) nl nl 0) from hm.get 1) (hF.at (bel0 hI)) hl (hU.below (bel0 hI)) (hM.below (bel0 hI)) hrg hwf) ?_
  cases hr : rgt k fs day with
  | false =>
    refine Goes.run [1] [(true, true)] ⟨rfl, trivial⟩ ?_
    exact Goes.ret [] (.tuple #[nl, nl, .int .i64 0, .int .i64 180]) fun w' hm hI => ⟨nl, nl, rfl, Hds.nil, Trs.nil, bel0 hI⟩
  | true =>
    have h0 := rn0_of hM hrg hF hT hr
    have hlen := (right_len h0.right).1
    refine Goes.run [0] [(false, false)] ⟨rfl, trivial⟩ ?_
    refine Goes.call 31 #[.pointer (some ⟨gm, 0, none⟩), .int .i64 ((0 : Nat) : Int), .int .i64 1000000] fun w1 hm1 hn1 hI1 => (run_all h0 hgm 65538 0 1000000 w1 nl nl s0Ms (bel0 hI1) Hds.nil Trs.nil (show w1.heap[gm]? = some (vmO day (.slice fa fN fc) rg (.slice aW nW cW) (.slice aI nI cI) nl nl s0Ms.steps) from hm1.get 1) (by omega) s0_fit (by decide)).mono fun e w2 ⟨lv, tv, he, hg2, hMc⟩ => ?_
    rw [hS] at hg2 hMc
    obtain ⟨aL, cL, rfl⟩ := own_form hMc.2.1
    obtain ⟨aT, cT, rfl⟩ := own_form hMc.2.2.1
    have hB1 := bel0 hI1
    refine ⟨_, _, [(gm, vmO day (.slice fa fN fc) rg (.slice aW nW cW) (.slice aI nI cI) (.slice aL S.holds.length cL) (.slice aT S.out.length cT) S.steps)], he, hold1v hg2, by simp [Mem.ids], hMc.stay ⟨_, _, _, hg2, by decide, by decide⟩ (fun x hx => .inl (by simpa [Mem.ids] using hx)), ?_⟩
    have fin : ∀ {w'}, McI w.heap.size gm day w1 nl nl (.slice aL S.holds.length cL) (.slice aT S.out.length cT) S.holds S.out w' → Below w.heap.size w w' := fun h => hB1.trans (mcB Hds.nil Trs.nil hgm hB1.size h)
    refine Goes.run [] [] trivial ?_
    cases hov : overM S with
    | true =>
      refine Goes.call0 32 #[.pointer (some ⟨gm, 0, none⟩)] (.tuple #[nl, nl, .int .i64 0, .int .i64 180]) (fun w' hm hI => by have := vdone_any (show w'.heap[gm]? = some (vmO day (.slice fa fN fc) rg (.slice aW nW cW) (.slice aI nI cI) (.slice aL S.holds.length cL) (.slice aT S.out.length cT) S.steps) from hm.get 0); rw [show (decide (S.steps > 65536) || decide ((S.holds.length : Int) > 250)) = true from hov] at this; exact this) ?_
      refine Goes.run [] [] trivial ?_
      exact Goes.ret [] (.tuple #[nl, nl, .int .i64 0, .int .i64 180]) fun w' hm hI => ⟨nl, nl, rfl, Hds.nil, Trs.nil, fin hI.now⟩
    | false =>
      refine Goes.call0 32 #[.pointer (some ⟨gm, 0, none⟩)] (.tuple #[.slice aL S.holds.length cL, .slice aT S.out.length cT, .int .i64 S.steps, .int .i64 0]) (fun w' hm hI => by have := vdone_any (show w'.heap[gm]? = some (vmO day (.slice fa fN fc) rg (.slice aW nW cW) (.slice aI nI cI) (.slice aL S.holds.length cL) (.slice aT S.out.length cT) S.steps) from hm.get 0); rw [show (decide (S.steps > 65536) || decide ((S.holds.length : Int) > 250)) = false from hov] at this; exact this) ?_
      refine Goes.run [] [] trivial ?_
      exact Goes.ret [] (.tuple #[.slice aL S.holds.length cL, .slice aT S.out.length cT, .int .i64 S.steps, .int .i64 0]) fun w' hm hI => ⟨_, _, rfl, hI.now.2.1, hI.now.2.2.1, fin hI.now⟩
set_option maxHeartbeats 4000000 in
set_option maxRecDepth 100000 in
seal rn rnN rnS Goes ans atEnd put0 put putM opened openedY putA0 putA oneSt st0 keep mkSt newSt in
theorem dright_any (hM : CdM w aW nW cW aI nI cI k) (hrg : k.regs = rg) (hF : Fds w.heap.size w (.slice fa fN fc) fs) (hl : ∀ f ∈ fs, f.1.length ≤ 9223372036854775807) : Calls Tryz.prog 33 #[cdV rg aW nW cW aI nI cI, .int .i64 day, (.slice fa fN fc)] w fun e w' => e = .returned (.bool (rgt k fs day)) ∧ Below w.heap.size w w' := by
  refine Goes.begin Tryz.func33 [] (fun _ => True) Holds.nil (by simp [Mem.ids]) (fun _ _ => trivial) ?_
  refine Goes.run [] [] trivial ?_
  refine Goes.new1 w.heap.size (fun w' h => h.1.size) fun gc hgc => ?_
  refine Goes.run [0] [] trivial ?_
  refine Goes.call0 20 #[cdV rg aW nW cW aI nI cI] (.bool (rightR k)) (fun w' hm hI => rright_any (hM.below (bel0 hI)) hrg) ?_
  refine Goes.run [] [] trivial ?_
  refine Goes.call0 68 #[(.slice fa fN fc)] (.bool (rfP fs)) (fun w' hm hI => rfeedsR_any (hF.at (bel0 hI)) hl) ?_
  unfold rgt dayP
  cases hA : rightR k with
  | false =>
    refine Goes.run [0, 0, 0] [(false, false), (false, false), (false, false)] ⟨rfl, rfl, rfl, trivial⟩ ?_
    exact Goes.ret [] (.bool false) fun w' hm hI => ⟨by simp, bel0 hI⟩
  | true =>
  cases hB : rfP fs with
  | false =>
    refine Goes.run [1, 0, 0] [(false, false), (false, false), (true, true)] ⟨rfl, rfl, rfl, trivial⟩ ?_
    exact Goes.ret [] (.bool false) fun w' hm hI => ⟨by simp, bel0 hI⟩
  | true =>
  cases hC : decide (day ≥ 0) with
  | false =>
    refine Goes.run [1, 1, 0] [(decide (day ≥ 0), false), (true, true), (true, true)] ⟨hC, rfl, rfl, trivial⟩ ?_
    exact Goes.ret [] (.bool false) fun w' hm hI => ⟨by simp, bel0 hI⟩
  | true =>
    refine Goes.run [1, 1, 1] [(decide (day ≥ 0), true), (true, true), (true, true)] ⟨hC, rfl, rfl, trivial⟩ ?_
    exact Goes.ret [] (.bool (decide (day ≤ 73048))) fun w' hm hI => ⟨by simp, bel0 hI⟩
set_option maxHeartbeats 4000000 in
set_option maxRecDepth 100000 in
seal rn rnN rnS Goes ans atEnd put0 put putM opened openedY putA0 putA oneSt st0 keep mkSt newSt in
theorem dtold_any {gm nL cL nT cT : Nat} {aL aT : Option Addr} {st : Int} {b : Bool} (hg : w.heap[gm]? = some (dmO day (.slice fa fN fc) (.slice aL nL cL) (.slice aT nT cT) st b)) : Calls Tryz.prog 34 #[.pointer (some ⟨gm, 0, none⟩)] w fun e w' => e = .returned (bif b then (.tuple #[nl, nl, .int .i64 0, .int .i64 180]) else .tuple #[.slice aL nL cL, .slice aT nT cT, .int .i64 st, .int .i64 0]) ∧ Below w.heap.size w w' := by
  refine Goes.begin Tryz.func34 [(gm, dmO day (.slice fa fN fc) (.slice aL nL cL) (.slice aT nT cT) st b)] (fun _ => True) (hold1v hg) (by simp [Mem.ids]) (fun _ _ => trivial) ?_
  cases b with
  | true =>
    refine Goes.run [0, 1] [(true, true)] ⟨rfl, trivial⟩ ?_
    exact Goes.ret [] (.tuple #[nl, nl, .int .i64 0, .int .i64 180]) fun w' hm hI => ⟨rfl, below_end (hold1v hg) hI.now.1 hm (by kernel_rfl)⟩
  | false =>
    refine Goes.run [0, 0] [(false, false)] ⟨rfl, trivial⟩ ?_
    refine Goes.open [0] ?_
    refine Goes.run [0, 1, 2, 3, 0, 4, 5, 6, 7, 0, 8, 9, 10, 11, 0, 12, 13, 14, 15] [] trivial ?_
    exact Goes.ret [] (.tuple #[.slice aL nL cL, .slice aT nT cT, .int .i64 st, .int .i64 0]) fun w' hm hI => ⟨rfl, below_end (hold1v hg) hI.now.1 hm (by kernel_rfl)⟩
set_option maxHeartbeats 4000000 in
set_option maxRecDepth 100000 in
seal rn rnN rnS Goes ans atEnd put0 put putM opened openedY putA0 putA oneSt st0 keep mkSt newSt in
theorem dbegin_any (hM : CdM w aW nW cW aI nI cI k) (hrg : k.regs = rg) (hF : Fds w.heap.size w (.slice fa fN fc) fs) (hl : ∀ f ∈ fs, f.1.length ≤ 9223372036854775807) (hT : Tab w) : Calls Tryz.prog 14 #[cdV rg aW nW cW aI nI cI, .int .i64 day, (.slice fa fN fc)] w (BgQ day w (begP k fs day)) := by
  obtain ⟨hs1, hs2⟩ := run_same k fs day 65538 ⟨zeros, ((0 : Nat) : Int), 1000000⟩ s0Ms s0_over
  unfold begP
  rw [← out_same hs1 hs2]
  clear hs1 hs2
  obtain ⟨D, hD⟩ : ∃ D, runD k fs day 65538 ⟨zeros, ((0 : Nat) : Int), 1000000⟩ s0Ms = D := ⟨_, rfl⟩
  rw [hD]
  obtain ⟨S, b⟩ := D
  show Calls _ _ _ w (BgQ day w (outP (rgt k fs day) S b))
  refine Goes.begin Tryz.func14 [] (fun _ => True) Holds.nil (by simp [Mem.ids]) (fun _ _ => trivial) ?_
  refine Goes.run [] [] trivial ?_
  refine Goes.new1 w.heap.size (fun w' h => h.1.size) fun gc hgc => ?_
  refine Goes.run [0] [] trivial ?_
  refine Goes.call0 33 #[cdV rg aW nW cW aI nI cI, .int .i64 day, (.slice fa fN fc)] (.bool (rgt k fs day)) (fun w' hm hI => dright_any (hM.below (bel0 hI)) hrg (hF.at (bel0 hI)) hl) ?_
  cases hr : rgt k fs day with
  | false =>
    refine Goes.run [1] [(true, true)] ⟨rfl, trivial⟩ ?_
    exact Goes.ret [] (.tuple #[nl, nl, .int .i64 0, .int .i64 180]) fun w' hm hI => ⟨nl, nl, rfl, Hds.nil, Trs.nil, bel0 hI⟩
  | true =>
    have h0 := rn0_of hM hrg hF hT hr
    have hlen := (right_len h0.right).1
    refine Goes.run [0] [(false, false)] ⟨rfl, trivial⟩ ?_
    refine Goes.new1 w.heap.size (fun w' h => h.1.size) fun gm hgm => ?_
    refine Goes.run [0] [] trivial ?_
    refine Goes.call 21 #[.pointer (some ⟨gm, 0, none⟩), cdV rg aW nW cW aI nI cI, .int .i64 ((0 : Nat) : Int), .int .i64 1000000] fun w1 hm1 hn1 hI1 => (der_all h0 hgm 65538 0 1000000 w1 nl nl s0Ms (bel0 hI1) Hds.nil Trs.nil (show w1.heap[gm]? = some (dmO day (.slice fa fN fc) nl nl s0Ms.steps false) from hm1.get 1) (by omega) s0_fit s0_over (by decide)).mono fun e w2 ⟨lv, tv, he, hg2, hMc⟩ => ?_
    rw [hD] at hg2 hMc
    replace hMc : McI w.heap.size gm day w1 nl nl lv tv S.holds S.out w2 := hMc
    obtain ⟨aL, cL, rfl⟩ := own_form hMc.2.1
    obtain ⟨aT, cT, rfl⟩ := own_form hMc.2.2.1
    have hB1 := bel0 hI1
    refine ⟨_, _, [(gm, dmO day (.slice fa fN fc) (.slice aL S.holds.length cL) (.slice aT S.out.length cT) S.steps b)], he, hold1v hg2, by simp [Mem.ids], hMc.stay ⟨_, _, _, hg2, by decide, by decide⟩ (fun x hx => .inl (by simpa [Mem.ids] using hx)), ?_⟩
    have fin : ∀ {w'}, McI w.heap.size gm day w1 nl nl (.slice aL S.holds.length cL) (.slice aT S.out.length cT) S.holds S.out w' → Below w.heap.size w w' := fun h => hB1.trans (mcB Hds.nil Trs.nil hgm hB1.size h)
    refine Goes.run [] [] trivial ?_
    cases b with
    | true =>
      refine Goes.call0 34 #[.pointer (some ⟨gm, 0, none⟩)] (.tuple #[nl, nl, .int .i64 0, .int .i64 180]) (fun w' hm hI => dtold_any (show w'.heap[gm]? = some (dmO day (.slice fa fN fc) (.slice aL S.holds.length cL) (.slice aT S.out.length cT) S.steps true) from hm.get 0)) ?_
      refine Goes.run [] [] trivial ?_
      exact Goes.ret [] (.tuple #[nl, nl, .int .i64 0, .int .i64 180]) fun w' hm hI => ⟨nl, nl, rfl, Hds.nil, Trs.nil, fin hI.now⟩
    | false =>
      refine Goes.call0 34 #[.pointer (some ⟨gm, 0, none⟩)] (.tuple #[.slice aL S.holds.length cL, .slice aT S.out.length cT, .int .i64 S.steps, .int .i64 0]) (fun w' hm hI => dtold_any (show w'.heap[gm]? = some (dmO day (.slice fa fN fc) (.slice aL S.holds.length cL) (.slice aT S.out.length cT) S.steps false) from hm.get 0)) ?_
      refine Goes.run [] [] trivial ?_
      exact Goes.ret [] (.tuple #[.slice aL S.holds.length cL, .slice aT S.out.length cT, .int .i64 S.steps, .int .i64 0]) fun w' hm hI => ⟨_, _, rfl, hI.now.2.1, hI.now.2.2.1, fin hI.now⟩
end
end Go.Proofs.YtddbiiejilcbbaaGreatDoor
