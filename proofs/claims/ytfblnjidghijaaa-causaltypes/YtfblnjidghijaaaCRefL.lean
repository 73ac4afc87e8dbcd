/- The document's side of causal: how great a term is, what it looks at, its last day. -/
import Derived.Test.YtfblnjidghijaaaCBothM
import Derived.Test.YtfblnjidghijaaaCRefT
import Derived.Test.YtfblnjidghijaaaEFork
namespace Go.Proofs.Ytfblnjidghijaaa
open Go Go.RowKit

mutual
def lefF (m d : Int) : Co → Int
  | .mk _ _ _ kids => bif decide (d > 200) then -1 else lefL (m - 1) (d + 1) kids
def lefL (m d : Int) : List Co → Int
  | [] => m
  | c :: r => bif decide (m ≥ 0) then lefL (lefF m d c) d r else m
end
mutual
theorem lef_low : ∀ (c : Co) (m d : Int), 0 ≤ m → -1 ≤ lefF m d c ∧ lefF m d c ≤ m
  | .mk _ _ _ kids, m, d, h => by
    rw [lefF]
    cases decide (d > 200) with
    | true => exact ⟨by simp, by simp; omega⟩
    | false => have := lef_lowL kids (m - 1) (d + 1) (by omega); simp only [cond_false]; omega
theorem lef_lowL : ∀ (l : List Co) (m d : Int), -1 ≤ m → -1 ≤ lefL m d l ∧ lefL m d l ≤ m
  | [], m, d, h => by rw [lefL]; omega
  | c :: r, m, d, h => by
    rw [lefL]
    cases hm : decide (m ≥ 0) with
    | true =>
      have h1 := lef_low c m d (of_decide_eq_true hm)
      have h2 := lef_lowL r (lefF m d c) d h1.1
      simp only [cond_true]; omega
    | false => simp only [cond_false]; omega
end
theorem drop_at {kids : List Co} {i : Nat} {u : Co} (hu : kids[i]? = some u) : kids.drop i = u :: kids.drop (i + 1) := by
  obtain ⟨h1, h2⟩ := List.getElem?_eq_some_iff.1 hu
  rw [List.drop_eq_getElem_cons h1, h2]
set_option maxRecDepth 100000 in
seal rn rnN rnS Goes ans atEnd put0 putM opened putA0 putA oneSt st0 orT orG in
theorem left_any (c : Co) : ∀ (v : Value) (w : World) (m d : Int), 0 ≤ m → m ≤ 2000 → 1 ≤ d → d ≤ 201 → Nc w.heap.size w v c → Calls Try.prog 37 #[v, .int .i64 m, .int .i64 d] w fun e w' => e = .returned (.int .i64 (lefF m d c)) ∧ Below w.heap.size w w' := by
  induction c using Co.ind with
  | h op k t kids ih =>
    intro v w m d hm0 hm1 hd1 hd2 hN
    obtain ⟨a, cc, rfl, hfit, hcap, hkids⟩ := hN.open
    obtain ⟨N, hL⟩ : ∃ N, kids.length = N := ⟨_, rfl⟩
    rw [hL] at hcap ⊢
    have hw1 : IntKind.i64.wrap (m - 1) = m - 1 := IntWalk.i64_in _ ⟨by omega, by omega⟩
    refine Goes.begin Try.func37 [] (fun _ => True) Holds.nil (by simp [Mem.ids]) (fun _ _ => trivial) ?_
    cases h1 : decide (d > 200) with
    | true =>
      refine Goes.run1 [1] [(decide (d > 200), true)] ⟨h1, trivial⟩ fun g => ?_
      exact Goes.ret [] (.int .i64 (-1)) fun w' hm hI => ⟨by rw [lefF, h1] <;> rfl, bel0 hI⟩
    | false =>
      have hd : d ≤ 200 := by have := of_decide_eq_false h1; omega
      have hw : IntKind.i64.wrap (d + 1) = d + 1 := IntWalk.i64_in _ ⟨by omega, by omega⟩
      refine Goes.run1 [0] [(decide (d > 200), false)] ⟨h1, trivial⟩ fun g => ?_
      refine Goes.slot 1 (.int .i64 (m - 1)) (u := .int .i64 (IntKind.i64.wrap (m - 1))) (congrArg _ hw1) ?_
      have hW : lefF m d (.mk op k t kids) = lefL (m - 1) (d + 1) kids := by rw [lefF, h1] <;> rfl
      rw [hW]
      refine Goes.loop0 (α := Nat × Int) 33 (fun q => [(1, .int .i64 q.2), (2, .int .i64 d), (3, .pointer (some ⟨g, 0, none⟩)), (7, .int .i64 q.1)]) [(g, cO op k t (.slice a N cc))] (fun q => q.1 ≤ N ∧ lefL (m - 1) (d + 1) kids = lefL q.2 (d + 1) (kids.drop q.1) ∧ -1 ≤ q.2 ∧ q.2 ≤ 2000) (fun q => N - q.1) (0, m - 1) ⟨Nat.zero_le _, rfl, by simp; omega, by simp; omega⟩ ?_
      rintro ⟨i, x⟩ J ⟨hi, hrest, hx0, hx1⟩ back
      simp only at hi hrest hx0 hx1 back ⊢
      cases hlt : decide ((i : Int) < (N : Int)) with
      | false =>
        obtain rfl : i = N := by have := of_decide_eq_false hlt; omega
        refine Goes.run [0, 0, 0, 0] [(false, false), (decide ((i : Int) < (i : Int)), false)] ⟨rfl, hlt, trivial⟩ ?_
        exact Goes.ret [] (.int .i64 x) fun w' hm hI => ⟨by rw [hrest, List.drop_of_length_le (by omega), lefL], bel0 hI⟩
      | true =>
        have hil : i < N := by have := of_decide_eq_true hlt; omega
        obtain ⟨u, hu⟩ : ∃ u, kids[i]? = some u := ⟨kids[i]'(by omega), by simp⟩
        obtain ⟨b, o, y, rfl, hb, hcl, hy⟩ := hkids i u hu
        obtain ⟨op', k', t', a', N', c', rfl⟩ := hy.cells
        have hdrop := drop_at hu
        cases hx : decide (x ≥ 0) with
        | false =>
          refine Goes.run [0, 0, 1, 0] [(decide (x ≥ 0), false), (decide ((i : Int) < (N : Int)), true)] ⟨hx, hlt, trivial⟩ ?_
          exact Goes.ret [] (.int .i64 x) fun w' hm hI => ⟨by rw [hrest, hdrop, lefL, hx]; rfl, bel0 hI⟩
        | true =>
          have hx' := of_decide_eq_true hx
          have hlow := lef_low u x (d + 1) hx'
          refine Goes.run [0, 0, 1, 1, 0] [(decide (x ≥ 0), true), (decide ((i : Int) < (N : Int)), true)] ⟨hx, hlt, trivial⟩ ?_
          refine Goes.val (Instr.indexAt 22 (.slice (some ⟨b, o, none⟩) N cc) (.int .i64 i)) (.pointer (some ⟨b, o + i * 4, none⟩)) (fun w' _ _ => idxC b o N cc i hil w') ?_
          refine Goes.val (Instr.loadAt 24 (.pointer (some ⟨b, o + i * 4, none⟩))) (cv op' k' t' (.slice a' N' c')) (fun w' _ hI => loadC (hcl.below hb (bel0 hI))) ?_
          refine Goes.run [] [] trivial ?_
          refine Goes.slot 30 (.int .i64 (d + 1)) (u := .int .i64 (IntKind.i64.wrap (d + 1))) (congrArg _ hw) ?_
          refine Goes.call0 37 #[cv op' k' t' (.slice a' N' c'), .int .i64 x, .int .i64 (d + 1)] (.int .i64 (lefF x (d + 1) u)) (fun w' _ hI => ih u (List.mem_of_getElem? hu) _ w' x (d + 1) hx' hx1 (by omega) (by omega) (hy.at (bel0 hI))) ?_
          refine Goes.run [] [] trivial ?_
          refine Goes.slot 7 (.int .i64 (i + 1 : Nat)) (u := .int .i64 (IntKind.i64.wrap ((i : Int) + 1))) (congrArg _ (wrap_nat (by omega))) ?_
          exact back (i + 1, lefF x (d + 1) u) _ ⟨hil, by rw [hrest, hdrop, lefL, hx]; rfl, hlow.1, by simp only; omega⟩ (by simp only; omega) (by kernel_rfl) (by kernel_rfl) (by kernel_rfl)
def smaP (c : Co) : Bool := decide (lefF 2000 1 c ≥ 0)
set_option maxRecDepth 100000 in
seal rn rnN rnS Goes ans atEnd put0 putM opened putA0 putA oneSt st0 orT orG in
theorem small_any {c : Co} {v : Value} {w : World} (hN : Nc w.heap.size w v c) : Calls Try.prog 20 #[v] w fun e w' => e = .returned (.bool (smaP c)) ∧ Below w.heap.size w w' := by
  obtain ⟨op, k, t, a, N, cc, rfl⟩ := hN.cells
  refine Goes.begin Try.func20 [] (fun _ => True) Holds.nil (by simp [Mem.ids]) (fun _ _ => trivial) ?_
  refine Goes.run1 [0] [] trivial fun g => ?_
  refine Goes.call0 37 #[cv op k t (.slice a N cc), .int .i64 2000, .int .i64 1] (.int .i64 (lefF 2000 1 c)) (fun w' _ hI => left_any c _ w' 2000 1 (by omega) (by omega) (by omega) (by omega) (hN.at (bel0 hI))) ?_
  refine Goes.run [] [] trivial ?_
  exact Goes.ret [] (.bool (smaP c)) fun w' hm hI => ⟨rfl, bel0 hI⟩
theorem szL_drop {kids : List Co} {i : Nat} : szL (kids.drop i) ≤ szL kids := by
  induction kids generalizing i with
  | nil => simp
  | cons c r ih =>
    cases i with
    | zero => simp
    | succ i => have := ih (i := i); have := szC_pos c; simp only [List.drop_succ_cons]; rw [szL]; omega
set_option maxRecDepth 100000 in
seal rn rnN rnS Goes ans atEnd put0 putM opened putA0 putA oneSt st0 orT orG in
theorem rsize_any (c : Co) : ∀ (v : Value) (w : World), szC c ≤ 2000 → Nc w.heap.size w v c → Calls Try.prog 34 #[v] w fun e w' => e = .returned (.int .i64 (szC c)) ∧ Below w.heap.size w w' := by
  induction c using Co.ind with
  | h op k t kids ih =>
    intro v w hsz hN
    obtain ⟨a, cc, rfl, hfit, hcap, hkids⟩ := hN.open
    obtain ⟨N, hL⟩ : ∃ N, kids.length = N := ⟨_, rfl⟩
    rw [hL] at hcap ⊢
    rw [szC] at hsz ⊢
    refine Goes.begin Try.func34 [] (fun _ => True) Holds.nil (by simp [Mem.ids]) (fun _ _ => trivial) ?_
    refine Goes.run1 [] [] trivial fun g => ?_
    refine Goes.loop0 (α := Nat × Int) 21 (fun q => [(1, .pointer (some ⟨g, 0, none⟩)), (3, .int .i64 q.2), (4, .int .i64 q.1)]) [(g, cO op k t (.slice a N cc))] (fun q => q.1 ≤ N ∧ 1 + szL kids = q.2 + szL (kids.drop q.1) ∧ 1 ≤ q.2) (fun q => N - q.1) (0, 1) ⟨Nat.zero_le _, rfl, by simp⟩ ?_
    rintro ⟨i, x⟩ J ⟨hi, hrest, hx0⟩ back
    simp only at hi hrest hx0 back ⊢
    cases hlt : decide ((i : Int) < (N : Int)) with
    | false =>
      obtain rfl : i = N := by have := of_decide_eq_false hlt; omega
      refine Goes.run [0, 0, 0] [(decide ((i : Int) < (i : Int)), false)] ⟨hlt, trivial⟩ ?_
      exact Goes.ret [] (.int .i64 x) fun w' hm hI => ⟨by rw [hrest, List.drop_of_length_le (by omega), szL, Int.add_zero], bel0 hI⟩
    | true =>
      have hil : i < N := by have := of_decide_eq_true hlt; omega
      obtain ⟨u, hu⟩ : ∃ u, kids[i]? = some u := ⟨kids[i]'(by omega), by simp⟩
      obtain ⟨b, o, y, rfl, hb, hcl, hy⟩ := hkids i u hu
      obtain ⟨op', k', t', a', N', c', rfl⟩ := hy.cells
      have hdrop := drop_at hu
      have e1 : szL (kids.drop i) = szC u + szL (kids.drop (i + 1)) := by rw [hdrop, szL]
      have p1 := szC_pos u
      have p2 := szL_pos (kids.drop (i + 1))
      refine Goes.run [0, 0, 1, 0] [(decide ((i : Int) < (N : Int)), true)] ⟨hlt, trivial⟩ ?_
      refine Goes.val (Instr.indexAt 22 (.slice (some ⟨b, o, none⟩) N cc) (.int .i64 i)) (.pointer (some ⟨b, o + i * 4, none⟩)) (fun w' _ _ => idxC b o N cc i hil w') ?_
      refine Goes.val (Instr.loadAt 24 (.pointer (some ⟨b, o + i * 4, none⟩))) (cv op' k' t' (.slice a' N' c')) (fun w' _ hI => loadC (hcl.below hb (bel0 hI))) ?_
      refine Goes.call0 34 #[cv op' k' t' (.slice a' N' c')] (.int .i64 (szC u)) (fun w' _ hI => ih u (List.mem_of_getElem? hu) _ w' (by omega) (hy.at (bel0 hI))) ?_
      refine Goes.run [] [] trivial ?_
      refine Goes.slot 3 (.int .i64 (x + szC u)) (u := .int .i64 (IntKind.i64.wrap (x + szC u))) (congrArg _ (IntWalk.i64_in _ ⟨by omega, by omega⟩)) ?_
      refine Goes.slot 4 (.int .i64 (i + 1 : Nat)) (u := .int .i64 (IntKind.i64.wrap ((i : Int) + 1))) (congrArg _ (wrap_nat (by omega))) ?_
      exact back (i + 1, x + szC u) _ ⟨hil, by simp only; omega, by simp only; omega⟩ (by simp only; omega) (by kernel_rfl) (by kernel_rfl) (by kernel_rfl)
set_option maxRecDepth 100000 in
seal rn rnN rnS Goes ans atEnd put0 putM opened putA0 putA oneSt st0 orT orG in
theorem ahead_any (c : Co) : ∀ (v : Value) (w : World), Nc w.heap.size w v c → Calls Try.prog 25 #[v] w fun e w' => e = .returned (.bool (ahC c)) ∧ Below w.heap.size w w' := by
  induction c using Co.ind with
  | h op k t kids ih =>
    intro v w hN
    obtain ⟨a, cc, rfl, hfit, hcap, hkids⟩ := hN.open
    obtain ⟨N, hL⟩ : ∃ N, kids.length = N := ⟨_, rfl⟩
    rw [hL] at hcap ⊢
    refine Goes.begin Try.func25 [] (fun _ => True) Holds.nil (by simp [Mem.ids]) (fun _ _ => trivial) ?_
    refine Goes.run1 [] [] trivial fun g => ?_
    refine Goes.fork (op == 4) 13 32 [(1, .pointer (some ⟨g, 0, none⟩)), (12, .bool (lookP op))] [(1, .pointer (some ⟨g, 0, none⟩)), (12, .bool true)] [(1, .pointer (some ⟨g, 0, none⟩)), (12, .bool (op == 5))] [0, 1] [0, 0, 0] [(op == 4, true)] [(op == 4, false)] (fun h => ⟨by simp only [lookP, h, Bool.true_or], h, trivial⟩) (fun h => ⟨by simp only [lookP, h, Bool.false_or], h, trivial⟩) fun J1 => ?_
    cases hh : (lookP op && decide (k < 0)) with
    | true =>
      simp only [Bool.and_eq_true] at hh
      refine Goes.run [1, 0, 1] [(decide (k < 0), true), (lookP op, true)] ⟨hh.2, hh.1, trivial⟩ ?_
      exact Goes.ret [] (.bool true) fun w' hm hI => ⟨by rw [ahC, hh.1, hh.2]; rfl, bel0 hI⟩
    | false =>
      have hW : ahC (.mk op k t kids) = ahL kids := by rw [ahC, hh, Bool.false_or]
      rw [hW]
      refine Goes.fork (lookP op) 3 32 [(1, .pointer (some ⟨g, 0, none⟩))] [(1, .pointer (some ⟨g, 0, none⟩))] [(1, .pointer (some ⟨g, 0, none⟩))] [1, 0, 0] [0, 0] [(decide (k < 0), false), (lookP op, true)] [(false, false), (lookP op, false)] (fun h => ⟨rfl, by rw [h, Bool.true_and] at hh; exact hh, h, trivial⟩) (fun h => ⟨rfl, rfl, h, trivial⟩) fun J2 => ?_
      refine Goes.run [] [] trivial ?_
      refine Goes.loop0 (α := Nat) 32 (fun i => [(1, .pointer (some ⟨g, 0, none⟩)), (3, .int .i64 i)]) [(g, cO op k t (.slice a N cc))] (fun i => i ≤ N ∧ ahL kids = ahL (kids.drop i)) (fun i => N - i) 0 ⟨Nat.zero_le _, rfl⟩ ?_
      rintro i J ⟨hi, hrest⟩ back
      cases hlt : decide ((i : Int) < (N : Int)) with
      | false =>
        obtain rfl : i = N := by have := of_decide_eq_false hlt; omega
        refine Goes.run [0, 0, 0] [(decide ((i : Int) < (i : Int)), false)] ⟨hlt, trivial⟩ ?_
        exact Goes.ret [] (.bool false) fun w' hm hI => ⟨by rw [hrest, List.drop_of_length_le (by omega), ahL], bel0 hI⟩
      | true =>
        have hil : i < N := by have := of_decide_eq_true hlt; omega
        obtain ⟨u, hu⟩ : ∃ u, kids[i]? = some u := ⟨kids[i]'(by omega), by simp⟩
        obtain ⟨b, o, y, rfl, hb, hcl, hy⟩ := hkids i u hu
        obtain ⟨op', k', t', a', N', c', rfl⟩ := hy.cells
        have hdrop := drop_at hu
        refine Goes.run [0, 0, 1, 0] [(decide ((i : Int) < (N : Int)), true)] ⟨hlt, trivial⟩ ?_
        refine Goes.val (Instr.indexAt 22 (.slice (some ⟨b, o, none⟩) N cc) (.int .i64 i)) (.pointer (some ⟨b, o + i * 4, none⟩)) (fun w' _ _ => idxC b o N cc i hil w') ?_
        refine Goes.val (Instr.loadAt 24 (.pointer (some ⟨b, o + i * 4, none⟩))) (cv op' k' t' (.slice a' N' c')) (fun w' _ hI => loadC (hcl.below hb (bel0 hI))) ?_
        refine Goes.call0 25 #[cv op' k' t' (.slice a' N' c')] (.bool (ahC u)) (fun w' _ hI => ih u (List.mem_of_getElem? hu) _ w' (hy.at (bel0 hI))) ?_
        cases hd : ahC u with
        | true =>
          refine Goes.run [1] [(true, true)] ⟨rfl, trivial⟩ ?_
          exact Goes.ret [] (.bool true) fun w' hm hI => ⟨by rw [hrest, hdrop, ahL, hd]; rfl, bel0 hI⟩
        | false =>
          refine Goes.run [0] [(false, false)] ⟨rfl, trivial⟩ ?_
          refine Goes.slot 3 (.int .i64 (i + 1 : Nat)) (u := .int .i64 (IntKind.i64.wrap ((i : Int) + 1))) (congrArg _ (wrap_nat (by omega))) ?_
          exact back (i + 1) _ ⟨hil, by rw [hrest, hdrop, ahL, hd]; rfl⟩ (by omega) (by kernel_rfl) (by kernel_rfl) (by kernel_rfl)
mutual
def hrF : Co → Int
  | .mk op k _ kids => hrL (bif dateP op then k else 0) kids
def hrL (n : Int) : List Co → Int
  | [] => n
  | c :: r => hrL (if hrF c > n then hrF c else n) r
end
set_option maxRecDepth 100000 in
seal rn rnN rnS Goes ans atEnd put0 putM opened putA0 putA oneSt st0 orT orG in
theorem hor_any (c : Co) : ∀ (v : Value) (w : World), Nc w.heap.size w v c → Calls Try.prog 28 #[v] w fun e w' => e = .returned (.int .i64 (hrF c)) ∧ Below w.heap.size w w' := by
  induction c using Co.ind with
  | h op k t kids ih =>
    intro v w hN
    obtain ⟨a, cc, rfl, hfit, hcap, hkids⟩ := hN.open
    obtain ⟨N, hL⟩ : ∃ N, kids.length = N := ⟨_, rfl⟩
    rw [hL] at hcap ⊢
    refine Goes.begin Try.func28 [] (fun _ => True) Holds.nil (by simp [Mem.ids]) (fun _ _ => trivial) ?_
    refine Goes.run1 [] [] trivial fun g => ?_
    refine Goes.fork (op == 29) 13 36 [(1, .pointer (some ⟨g, 0, none⟩)), (3, .int .i64 0), (12, .bool (op == 29 || op == 30))] [(1, .pointer (some ⟨g, 0, none⟩)), (3, .int .i64 0), (12, .bool true)] [(1, .pointer (some ⟨g, 0, none⟩)), (3, .int .i64 0), (12, .bool (op == 30))] [0, 1] [0, 0, 0] [(op == 29, true)] [(op == 29, false)] (fun h => ⟨by simp only [h, Bool.true_or], h, trivial⟩) (fun h => ⟨by simp only [h, Bool.false_or], h, trivial⟩) fun J1 => ?_
    rw [hrF]
    refine Goes.meet 4 36 [(1, .pointer (some ⟨g, 0, none⟩)), (3, .int .i64 (bif dateP op then k else 0))] [1, 1, 0] (fun H => ?_) (fun J2 => ?_)
    · rcases Bool.eq_false_or_eq_true (op == 29 || op == 30) with h1 | h1
      · exact Goes.way H [1, 1, 0] [(1, .pointer (some ⟨g, 0, none⟩)), (3, .int .i64 k)] [(true, true), (op == 29 || op == 30, true)] (by simp only [dateP, h1, Bool.true_or, cond_true]) ⟨rfl, h1, trivial⟩
      · rcases Bool.eq_false_or_eq_true (op == 31) with h2 | h2
        · exact Goes.way H [0, 0, 1, 0] [(1, .pointer (some ⟨g, 0, none⟩)), (3, .int .i64 k)] [(op == 31, true), (op == 29 || op == 30, false)] (by simp only [dateP, h1, h2, Bool.false_or, cond_true]) ⟨h2, h1, trivial⟩
        · exact Goes.way H [0, 0, 0] [(1, .pointer (some ⟨g, 0, none⟩)), (3, .int .i64 0)] [(op == 31, false), (op == 29 || op == 30, false)] (by simp only [dateP, h1, h2, Bool.false_or, cond_false]) ⟨h2, h1, trivial⟩
    · refine Goes.run [] [] trivial ?_
      refine Goes.loop0 (α := Nat × Int) 36 (fun q => [(1, .pointer (some ⟨g, 0, none⟩)), (3, .int .i64 q.2), (4, .int .i64 q.1)]) [(g, cO op k t (.slice a N cc))] (fun q => q.1 ≤ N ∧ hrL (bif dateP op then k else 0) kids = hrL q.2 (kids.drop q.1)) (fun q => N - q.1) (0, bif dateP op then k else 0) ⟨Nat.zero_le _, rfl⟩ ?_
      rintro ⟨i, x⟩ J ⟨hi, hrest⟩ back
      simp only at hi hrest back ⊢
      cases hlt : decide ((i : Int) < (N : Int)) with
      | false =>
        obtain rfl : i = N := by have := of_decide_eq_false hlt; omega
        refine Goes.run [0, 0, 0] [(decide ((i : Int) < (i : Int)), false)] ⟨hlt, trivial⟩ ?_
        exact Goes.ret [] (.int .i64 x) fun w' hm hI => ⟨by rw [hrest, List.drop_of_length_le (by omega), hrL], bel0 hI⟩
      | true =>
        have hil : i < N := by have := of_decide_eq_true hlt; omega
        obtain ⟨u, hu⟩ : ∃ u, kids[i]? = some u := ⟨kids[i]'(by omega), by simp⟩
        obtain ⟨b, o, y, rfl, hb, hcl, hy⟩ := hkids i u hu
        obtain ⟨op', k', t', a', N', c', rfl⟩ := hy.cells
        have hdrop := drop_at hu
        refine Goes.run [0, 0, 1, 0] [(decide ((i : Int) < (N : Int)), true)] ⟨hlt, trivial⟩ ?_
        refine Goes.val (Instr.indexAt 22 (.slice (some ⟨b, o, none⟩) N cc) (.int .i64 i)) (.pointer (some ⟨b, o + i * 4, none⟩)) (fun w' _ _ => idxC b o N cc i hil w') ?_
        refine Goes.val (Instr.loadAt 24 (.pointer (some ⟨b, o + i * 4, none⟩))) (cv op' k' t' (.slice a' N' c')) (fun w' _ hI => loadC (hcl.below hb (bel0 hI))) ?_
        refine Goes.call0 28 #[cv op' k' t' (.slice a' N' c')] (.int .i64 (hrF u)) (fun w' _ hI => ih u (List.mem_of_getElem? hu) _ w' (hy.at (bel0 hI))) ?_
        refine Goes.run [0] [] trivial ?_
        refine Goes.slot 4 (.int .i64 (i + 1 : Nat)) (u := .int .i64 (IntKind.i64.wrap ((i : Int) + 1))) (congrArg _ (wrap_nat (by omega))) ?_
        exact back (i + 1, if hrF u > x then hrF u else x) _ ⟨hil, by rw [hrest, hdrop, hrL]⟩ (by simp only; omega) (by kernel_rfl) (by kernel_rfl) (by kernel_rfl)
end Go.Proofs.Ytfblnjidghijaaa
