/- the text OFoW -/
import Derived.Test.YtekgfdbeinacjaaDoorOTwWC
import Derived.Test.YtekgfdbeinacjaaDoorOFoMC
namespace Go.Proofs.YtekgfdbeinacjaaDoor
open Go Go.RowKit

theorem conL_drop {l : List Co} {j : Nat} {x : Co} (hx : l[j]? = some x) : conL (l.drop j) = (conC x && conL (l.drop (j + 1))) := by rw [drop_any hx, conL]
theorem setL_drop {l : List Co} {j : Nat} {x : Co} (hx : l[j]? = some x) : setL (l.drop j) = (setC x && setL (l.drop (j + 1))) := by rw [drop_any hx, setL]
set_option maxRecDepth 100000 in
seal rn rnN rnS Goes ans atEnd put0 putM opened openedY putA0 putA oneSt st0 keep in
theorem constant_any (c : Co) : ∀ (v : Value) (w : World), Nc w.heap.size w v c → Calls Tryd.prog 8 #[v] w fun r w' => r = .returned (.bool (conC c)) ∧ Below w.heap.size w w' := by
  induction c using Co.ind with
  | h op k s kids ih =>
  intro v w hN
  obtain ⟨a, cc, rfl, -, hcap, hkids⟩ := hN.open
  obtain ⟨N, hL⟩ : ∃ N, kids.length = N := ⟨_, rfl⟩
  rw [hL] at hcap ⊢
  refine Goes.begin Tryd.func8 [] (fun _ => True) Holds.nil (by simp [Mem.ids]) (fun _ _ => trivial) ?_
  cases h4 : (op == 4) with
  | true =>
    refine Goes.run1 [0, 1, 1] [(true, true), (op == 4, true)] ⟨rfl, h4, trivial⟩ fun g => ?_
    exact Goes.ret [] (.bool false) fun w' hm hI => ⟨by rw [conC, h4]; rfl, bel0 hI⟩
  | false =>
  cases h5 : (op == 5) with
  | true =>
    refine Goes.run1 [0, 0, 0, 1] [(op == 5, true), (op == 4, false)] ⟨h5, h4, trivial⟩ fun g => ?_
    exact Goes.ret [] (.bool false) fun w' hm hI => ⟨by rw [conC, h4, h5]; rfl, bel0 hI⟩
  | false =>
  have e0 : conC (.mk op k s kids) = conL kids := by rw [conC, h4, h5]; rfl
  refine Goes.run1 [0, 0, 0, 0] [(op == 5, false), (op == 4, false)] ⟨h5, h4, trivial⟩ fun g => ?_
  refine Goes.loop0 (α := Nat) 28 (fun j => [(1, .pointer (some ⟨g, 0, none⟩)), (3, .int .i64 j)]) [(g, .cells #[.int .i64 op, .int .i64 k, strV s, .slice a N cc] 24 (0, 0))] (fun j => conL (kids.drop j) = conL kids ∧ j ≤ N) (fun j => N - j) 0 ⟨rfl, Nat.zero_le _⟩ ?_
  rintro j J ⟨hj, hj2⟩ back
  cases hlt : decide ((j : Int) < (N : Int)) with
  | false =>
    refine Goes.run [0, 0, 0] [(decide ((j : Int) < (N : Int)), false)] ⟨hlt, trivial⟩ ?_
    exact Goes.ret [] (.bool true) fun w' hm hI => ⟨by rw [e0, ← hj, List.drop_of_length_le (by have := of_decide_eq_false hlt; omega), conL], bel0 hI⟩
  | true =>
    have hjl : j < N := by have := of_decide_eq_true hlt; omega
    obtain ⟨x, hx⟩ : ∃ x, kids[j]? = some x := ⟨kids[j]'(by omega), by simp⟩
    obtain ⟨b, o, u, ha, hb, hcl, hNx⟩ := hkids j x hx
    refine Goes.run [0, 0, 1, 0] [(decide ((j : Int) < (N : Int)), true)] ⟨hlt, trivial⟩ ?_
    refine Goes.val (Instr.indexAt 22 (.slice a N cc) (.int .i64 j)) (.pointer (some ⟨b, o + j * 4, none⟩)) (fun w' _ _ => by rw [ha]; exact idxC b o N cc j hjl w') ?_
    refine Goes.val (Instr.loadAt 24 (.pointer (some ⟨b, o + j * 4, none⟩))) u (fun w' hm hI => loadC (hcl.below hb (bel0 hI))) ?_
    refine Goes.call0 8 #[u] (.bool (conC x)) (fun w' hm hI => ih x (List.mem_of_getElem? hx) u w' (hNx.at (bel0 hI))) ?_
    cases hcx : conC x with
    | false =>
      refine Goes.run [1] [(true, true)] ⟨rfl, trivial⟩ ?_
      exact Goes.ret [] (.bool false) fun w' hm hI => ⟨by rw [e0, ← hj, conL_drop hx, hcx]; rfl, bel0 hI⟩
    | true =>
      refine Goes.run [0] [(false, false)] ⟨rfl, trivial⟩ ?_
      refine Goes.slot 3 (.int .i64 (j + 1 : Nat)) (u := .int .i64 (IntKind.i64.wrap ((j : Int) + 1))) (congrArg _ (wrap_nat (by omega))) ?_
      exact back (j + 1) _ ⟨by rw [← hj, conL_drop hx, hcx]; rfl, by omega⟩ (by omega) (by kernel_rfl) (by kernel_rfl) (by kernel_rfl)
noncomputable def setK : List TI := (rn Tryd.prog [0, 0, 0] [0] (st0 Tryd.f9 #[cv 1 0 [] (.slice none 0 0)] [])).st.todo
set_option maxRecDepth 100000 in
seal rn rnN rnS Goes ans atEnd put0 putM opened openedY putA0 putA oneSt st0 keep setK in
theorem settled_any (c : Co) : ∀ (v : Value) (w : World), Nc w.heap.size w v c → Calls Tryd.prog 9 #[v] w fun r w' => r = .returned (.bool (setC c)) ∧ Below w.heap.size w w' := by
  induction c using Co.ind with
  | h op k s kids ih =>
  intro v w hN
  obtain ⟨a, cc, rfl, -, hcap, hkids⟩ := hN.open
  obtain ⟨N, hL⟩ : ∃ N, kids.length = N := ⟨_, rfl⟩
  rw [hL] at hcap ⊢
  refine Goes.begin Tryd.func9 [] (fun _ => True) Holds.nil (by simp [Mem.ids]) (fun _ _ => trivial) ?_
  have start : ∀ g, setC (.mk op k s kids) = setL kids → (∀ J, Goes Tryd.prog (bodyPost Tryd.prog Tryd.f9 fun r w' => r = .returned (.bool (setC (.mk op k s kids))) ∧ Below w.heap.size w w') (fun w' => Ch (Mem.ids []) w w' ∧ True) ⟨setK, fr 28 [(1, .pointer (some ⟨g, 0, none⟩)), (3, .int .i64 (0 : Nat))] J, [(g, .cells #[.int .i64 op, .int .i64 k, strV s, .slice a N cc] 24 (0, 0))]⟩) := by
    intro g e0 J0
    refine Goes.loop0 (α := Nat) 28 (fun j => [(1, .pointer (some ⟨g, 0, none⟩)), (3, .int .i64 j)]) [(g, .cells #[.int .i64 op, .int .i64 k, strV s, .slice a N cc] 24 (0, 0))] (fun j => setL (kids.drop j) = setL kids ∧ j ≤ N) (fun j => N - j) 0 ⟨rfl, Nat.zero_le _⟩ ?_
    rintro j J ⟨hj, hj2⟩ back
    cases hlt : decide ((j : Int) < (N : Int)) with
    | false =>
      refine Goes.run [0, 0, 0] [(decide ((j : Int) < (N : Int)), false)] ⟨hlt, trivial⟩ ?_
      exact Goes.ret [] (.bool true) fun w' hm hI => ⟨by rw [e0, ← hj, List.drop_of_length_le (by have := of_decide_eq_false hlt; omega), setL], bel0 hI⟩
    | true =>
      have hjl : j < N := by have := of_decide_eq_true hlt; omega
      obtain ⟨x, hx⟩ : ∃ x, kids[j]? = some x := ⟨kids[j]'(by omega), by simp⟩
      obtain ⟨b, o, u, ha, hb, hcl, hNx⟩ := hkids j x hx
      refine Goes.run [0, 0, 1, 0] [(decide ((j : Int) < (N : Int)), true)] ⟨hlt, trivial⟩ ?_
      refine Goes.val (Instr.indexAt 22 (.slice a N cc) (.int .i64 j)) (.pointer (some ⟨b, o + j * 4, none⟩)) (fun w' _ _ => by rw [ha]; exact idxC b o N cc j hjl w') ?_
      refine Goes.val (Instr.loadAt 24 (.pointer (some ⟨b, o + j * 4, none⟩))) u (fun w' hm hI => loadC (hcl.below hb (bel0 hI))) ?_
      refine Goes.call0 9 #[u] (.bool (setC x)) (fun w' hm hI => ih x (List.mem_of_getElem? hx) u w' (hNx.at (bel0 hI))) ?_
      cases hcx : setC x with
      | false =>
        refine Goes.run [1] [(true, true)] ⟨rfl, trivial⟩ ?_
        exact Goes.ret [] (.bool false) fun w' hm hI => ⟨by rw [e0, ← hj, setL_drop hx, hcx]; rfl, bel0 hI⟩
      | true =>
        refine Goes.run [0] [(false, false)] ⟨rfl, trivial⟩ ?_
        refine Goes.slot 3 (.int .i64 (j + 1 : Nat)) (u := .int .i64 (IntKind.i64.wrap ((j : Int) + 1))) (congrArg _ (wrap_nat (by omega))) ?_
        exact back (j + 1) _ ⟨by rw [← hj, setL_drop hx, hcx]; rfl, by omega⟩ (by omega) (by kernel_rfl) (by kernel_rfl) (by kernel_rfl)
  cases h6 : decide ((6 : Int) ≤ op) with
  | false =>
    refine Goes.run1 [0, 0, 0] [(false, false), (decide (op ≥ 6), false)] ⟨rfl, h6, trivial⟩ fun g => ?_
    have e0 : setC (.mk op k s kids) = setL kids := by rw [setC, h6]; rfl
    refine Goes.at (K := setK) (n := 28) (S := [(1, .pointer (some ⟨g, 0, none⟩)), (3, .int .i64 (0 : Nat))]) (m := [(g, .cells #[.int .i64 op, .int .i64 k, strV s, .slice a N cc] 24 (0, 0))]) (start g e0) ?_ ?_ ?_
    · kernel_rfl
    · kernel_rfl
    · kernel_rfl
  | true =>
  cases h23 : decide (op < (23 : Int)) with
  | true =>
    refine Goes.run1 [0, 1, 0, 1] [(decide (op < (23 : Int)), true), (decide (op ≥ 6), true)] ⟨h23, h6, trivial⟩ fun g => ?_
    exact Goes.ret [] (.bool false) fun w' hm hI => ⟨by rw [setC, h6, h23]; rfl, bel0 hI⟩
  | false =>
    refine Goes.run1 [0, 1, 0, 0] [(decide (op < (23 : Int)), false), (decide (op ≥ 6), true)] ⟨h23, h6, trivial⟩ fun g => ?_
    have e0 : setC (.mk op k s kids) = setL kids := by rw [setC, h6, h23]; rfl
    refine Goes.at (K := setK) (n := 28) (S := [(1, .pointer (some ⟨g, 0, none⟩)), (3, .int .i64 (0 : Nat))]) (m := [(g, .cells #[.int .i64 op, .int .i64 k, strV s, .slice a N cc] 24 (0, 0))]) (start g e0) ?_ ?_ ?_
    · kernel_rfl
    · kernel_rfl
    · kernel_rfl
set_option maxRecDepth 100000 in
seal rn rnN rnS Goes ans atEnd put0 putM opened openedY putA0 putA oneSt st0 keep put in
theorem folds_walk {c : Co} {v : Value} {w : World} (hT : Tab w) (hN : Nc w.heap.size w v c) : Calls Tryd.prog 4 #[v] w fun e w' => e = .returned (.bool true) ∧ Below w.heap.size w w' := by
  obtain ⟨op, k, s, a, N, cc, rfl⟩ := hN.cells
  have hA : ∀ x, x < w.heap.size → x < w.heap.size := fun _ h => h
  have hS0 : NcS (fun x => x < w.heap.size ∨ False) w (cv op k s (.slice a N cc)) c := hN.toS.mono fun x hx => .inl hx
  refine Goes.begin Tryd.func4 [] (fun _ => True) Holds.nil (by simp [Mem.ids]) (fun _ _ => trivial) ?_
  refine Goes.inv KI.begin ?_
  refine Goes.run1 [] [] trivial fun g2 => ?_
  refine Goes.call0 5 #[] (.bool true) (fun w' hm hI => shown16_any (hT.below hI.now.bel)) ?_
  refine Goes.run [0] [] trivial ?_
  refine Goes.call 6 #[cv op k s (.slice a N cc), .int .i64 7] fun w1 hm1 hn1 hI1 => (do_any (A := fun x => x < w.heap.size ∨ False) 7 (KI.lt hA hI1.now) (KI.nc hA (fun _ _ => rfl) hI1.now hS0) (hT.below hI1.now.bel)).mono fun e w2 ⟨he, hB12⟩ => ?_
  cases hd : doP c 7 with
  | none =>
    rw [hd] at he
    refine ⟨_, _, _, he, hm1.bel hB12, hn1, hI1.bel hB12, ?_⟩
    refine Goes.run1 [1, 1] [(true, true)] ⟨rfl, trivial⟩ fun g6 => ?_
    exact Goes.ret [] (.bool true) fun w' hm hI => ⟨rfl, hI.now.bel⟩
  | some t =>
    rw [hd] at he
    obtain ⟨v2, he, hN2⟩ := he
    obtain ⟨o2, k2, s2, a2, n2, c2, rfl⟩ := hN2.cells
    have hS1 := KI.lift hA (fun _ _ => rfl) hI1.now hB12 hS0
    have hT1 := since_lift hN2
    have hw2 := KI.old hA hI1.now hB12
    refine ⟨_, _, _, he, hm1.bel hB12, hn1, KI.call hI1 (holds_lt hm1) hB12, ?_⟩
    refine Goes.run1 [1, 0, 0] [(false, false)] ⟨rfl, trivial⟩ fun g6 => ?_
    refine Goes.call0 8 #[cv op k s (.slice a N cc)] (.bool (conC c)) (fun w7 hm hI => constant_any c _ w7 (KI.nc' hA hw2 hI.now hS1)) ?_
    cases hc : conC c with
    | false =>
      refine Goes.run [1, 1] [(true, true), (true, true)] ⟨rfl, rfl, trivial⟩ ?_
      exact Goes.ret [] (.bool true) fun w' hm hI => ⟨rfl, hI.now.bel⟩
    | true =>
      refine Goes.run [1, 0, 1] [(false, false), (true, true)] ⟨rfl, rfl, trivial⟩ ?_
      refine Goes.call0 9 #[cv o2 k2 s2 (.slice a2 n2 c2)] (.bool true) (fun w7 hm hI => by have := settled_any t _ w7 (KI.nc' hA hw2 hI.now hT1); rw [do_folds hd hc] at this; exact this) ?_
      refine Goes.run [] [] trivial ?_
      exact Goes.ret [] (.bool true) fun w' hm hI => ⟨rfl, hI.now.bel⟩
end Go.Proofs.YtekgfdbeinacjaaDoor
