/- texts put together: CIsOf CType CAsk CAsk2 CQ CKidsM CBothM CRefL CRefM CStr NCell ESto EAnyM ENew CNcs CFrame -/
import Derived.Test.YtebikhfjmpjpjaaGreatDoorAG2
import Derived.Laws.MakeOwn
import Derived.Sort.Walk0
import Derived.Test.YtebikhfjmpjpjaaGreatDoorRows
import Derived.Test.DevTool
import Derived.ProofKit
import Derived.LaidMore
import Derived.OpenShut
import Derived.ShutString
import Derived.ChangeMaps5
import Derived.Stop.Joined
import Derived.Stop.LaidErr
import Derived.Lib.LaidTab
import Derived.Deep.DeepHandedRow
import Derived.Deep.Slices
import Derived.Deep.Matrix
namespace Go.Proofs.YtebikhfjmpjpjaaGreatDoor
open Go Go.RowKit

/-- What the round's state is: the loop's record, and what the closure keeps. -/
def IsJ (n₀ l D g4 g5 gs gw : Nat) (fid : FuncId) (s : St) (b : Bool) (st : Int × List Int) (O : List Nat) (w : World) : Prop :=
  w.heap[l]? = some (.loop (recOf fid D s (bif b then .ready else .done) (bif b then none else some .ret))) ∧ w.heap[D]? = some (.deferred (some [])) ∧ w.heap[g4]? = some (.cells #[.bool false] 4 (0, 0)) ∧ w.heap[g5]? = some (.cells #[fitV gs gw] 194 (0, 0)) ∧
    ∃ O', FsJ n₀ gs gw st O' w ∧ O = l :: D :: g4 :: g5 :: O' ∧ O.Nodup ∧ n₀ ≤ l ∧ n₀ ≤ D ∧ n₀ ≤ g4 ∧ n₀ ≤ g5
theorem IsJ.stay {n₀ l D g4 g5 gs gw : Nat} {fid : FuncId} {s : St} {b : Bool} {st : Int × List Int} {O : List Nat} {w w' : World} (h : IsJ n₀ l D g4 g5 gs gw fid s b st O w) (hO : ∀ x ∈ O, w'.heap[x]? = w.heap[x]?) : IsJ n₀ l D g4 g5 gs gw fid s b st O w' := by
  obtain ⟨h1, h2, h3, h4, O', h5, rfl, h6⟩ := h
  exact ⟨(hO l (by simp)).trans h1, (hO D (by simp)).trans h2, (hO g4 (by simp)).trans h3, (hO g5 (by simp)).trans h4, O', h5.stay (fun x hx => hO x (by simp [hx])), rfl, h6⟩
theorem IsJ.low {n₀ l D g4 g5 gs gw : Nat} {fid : FuncId} {s : St} {b : Bool} {st : Int × List Int} {O : List Nat} {w : World} (h : IsJ n₀ l D g4 g5 gs gw fid s b st O w) : ∀ x ∈ O, n₀ ≤ x ∧ x < w.heap.size := by
  obtain ⟨h1, h2, h3, h4, O', h5, rfl, -, h6, h7, h8, h9⟩ := h
  intro x hx
  simp only [List.mem_cons] at hx
  rcases hx with rfl | rfl | rfl | rfl | hx
  · exact ⟨h6, lt_of_get h1⟩
  · exact ⟨h7, lt_of_get h2⟩
  · exact ⟨h8, lt_of_get h3⟩
  · exact ⟨h9, lt_of_get h4⟩
  · exact h5.low x hx
/-- The function's regions. -/
noncomputable def rI (i : Nat) : Array Oper := regAt (Tryz.f108.body.getD .skip) i
noncomputable def isA : Code := .seq (.region 3 (rI 3) false) (.region 4 (rI 4) false)
noncomputable def isB : Code := .block 1 (.seq (.region 5 (rI 5) false) (.cond (.tmp 18) (.seq (.region 6 (rI 6) false) .ret) .skip))
def isT (v : Value) (want : Int) (g2 g4 g5 gs gw gt : Nat) (x y : Value) : List Value := [v, .int .i64 want, .pointer (some ⟨g2, 0, none⟩), undef, .pointer (some ⟨g4, 0, none⟩), .pointer (some ⟨g5, 0, none⟩), undef, undef, .int .i64 want, fitV gs gw, v, termsV gt, x, y, undef, undef, undef, undef, undef]
theorem FsJ.more {n n' gs gw : Nat} {st : Int × List Int} {O : List Nat} {w : World} (h : FsJ n gs gw st O w) (hn : n' ≤ n) : FsJ n' gs gw st O w := by
  obtain ⟨gb, cap, cur, h0, h1, h2, h3⟩ := h
  exact ⟨gb, cap, cur, h0, h1, fun x hx => Nat.le_trans hn (h2 x hx), h3⟩
set_option maxRecDepth 100000 in
seal orT orG rI in
theorem isOf_round {n₀ l D g2 g4 g5 gs gw gt : Nat} {fid : FuncId} {s : St} {v0 : Value} {want : Int} (hT : s.tmps = isT v0 want g2 g4 g5 gs gw gt undef undef) (hps : rgPs s = #[12, 13]) (hA : rgAssign s = isA) (hB : rgBody s = isB) : Yl n₀ l fitF fitOk (IsJ n₀ l D g4 g5 gs gw fid s) where
  stay := fun b st O w w' h hO => h.stay hO
  low := fun b st O w h => h.low
  yield := by
    intro st O W d v c hok hJ hN hn
    cases c with
    | mk op k t kids =>
    obtain ⟨a, cc, rfl, hf, -, -⟩ := hN.open
    obtain ⟨sz, stk⟩ := st
    obtain ⟨want', rest, rfl⟩ : ∃ x y, stk = x :: y := by cases stk with | nil => exact absurd rfl hok.1 | cons x y => exact ⟨x, y, rfl⟩
    obtain ⟨h1, h2, h3, h4, O', h5, rfl, hnd, i1, i2, i3, i4⟩ := hJ
    simp only [cond_true] at h1
    have hlo := h5.low
    have hl1 := lt_of_get h1
    have hl4 := lt_of_get h3
    have hl5 := lt_of_get h4
    have hlD := lt_of_get h2
    simp only [List.nodup_cons, List.mem_cons, not_or] at hnd
    obtain ⟨⟨nD, n4, n5, nO⟩, ⟨m4, m5, mO⟩, ⟨k5, kO⟩, jO, ndO⟩ := hnd
    refine round_of (T := isT v0 want g2 g4 g5 gs gw gt (.int .i64 d) (cv op k t (.slice a kids.length cc))) h1 (by rw [hps]; rfl) (by rw [hps, hT]; kernel_rfl) ?_
    rw [hA]
    refine wpIn_seq (wpIn_region ?_)
    refine wi_runs (m := []) [(0, 0)] (rest := []) Holds.nil (by simp [Mem.ids]) fun w1 _ _ _ _ d1 => ?_
    have hw1 := d1 (by kernel_rfl)
    subst w1
    show (Code.region 4 (rI 4) false).wpIn _ _ _ _ _ _
    refine wpIn_region ?_
    rw [show List.range (rI 4).size = [0, 1] by kernel_rfl]
    refine wi_new 0 (rest := [1]) (m := []) Holds.nil (by simp [Mem.ids]) fun g7 w2 hg7 m2 n2 c2 _ => ?_
    refine wi_runs [(1, 0)] (rest := []) m2 n2 fun w3 m3 n3 c3 _ _ => ?_
    have e2 : (orG Tryz.prog (rI 4) 0 g7 (orT Tryz.prog (rI 3) [(0, 0)] (isT v0 want g2 g4 g5 gs gw gt (.int .i64 d) (cv op k t (.slice a kids.length cc))) []).T []).m.ids = [g7] := by kernel_rfl
    have q1 : Ch [] W w3 := c2.trans c3 (fun x hx => .inr (by rw [e2, List.mem_singleton] at hx; omega))
    have r7 : w3.heap[g7]? = some (cO op k t (.slice a kids.length cc)) := m3.get 0
    show ∃ w₂, _ ∧ _
    have hl3 : w3.heap[l]? = some (.loop (recOf fid D s .ready none)) := (q1.block l hl1 (by simp)).trans h1
    refine ⟨_, run_beginRound hl3 rfl, ?_⟩
    have hl3' := lt_of_get hl3
    have hs3 : W.heap.size ≤ w3.heap.size := q1.size
    have c4 := Ch.put w3 l (.loop { recOf fid D s .ready none with state := .busy })
    have l4 : (w3.putObj l (.loop { recOf fid D s .ready none with state := .busy })).heap[l]? = some (.loop { recOf fid D s .ready none with state := .busy }) := World.putObj_heap_same hl3'
    generalize w3.putObj l (.loop { recOf fid D s .ready none with state := .busy }) = w4 at c4 l4 ⊢
    have q4 : Ch [l] W w4 := (q1.mono (fun x hx => by cases hx)).trans c4 (fun x hx => .inl hx)
    have r7' : w4.heap[g7]? = some (cO op k t (.slice a kids.length cc)) := (c4.block g7 (lt_of_get r7) (by simp; omega)).trans r7
    have f5 : w4.heap[g5]? = some (.cells #[fitV gs gw] 194 (0, 0)) := (q4.block g5 hl5 (by simp; exact fun e => n5 e.symm)).trans h4
    have f4 : w4.heap[g4]? = some (.cells #[.bool false] 4 (0, 0)) := (q4.block g4 hl4 (by simp; exact fun e => n4 e.symm)).trans h3
    have fD : w4.heap[D]? = some (.deferred (some [])) := (q4.block D hlD (by simp; exact fun e => nD e.symm)).trans h2
    have f6 : FsJ n₀ gs gw (sz, want' :: rest) O' w4 := h5.stay (fun x hx => q4.block x (hlo x hx).2 (by simp; rintro rfl; exact nO hx))
    rw [hB]
    refine wpIn_block (wpIn_seq (wpIn_region ?_))
    rw [show List.range (rI 5).size = [0, 1, 2, 3, 4] by kernel_rfl]
    refine wi_runs (m := [(g5, .cells #[fitV gs gw] 194 (0, 0)), (g7, cO op k t (.slice a kids.length cc))]) [(0, 0), (1, 0), (2, 1)] (rest := [3, 4]) (fun j b o h => by match j, h with | 0, h => (cases h; exact f5) | 1, h => (cases h; exact r7')) (by simp [Mem.ids]; omega) fun w5 _ _ _ _ d5 => ?_
    obtain rfl := d5 (by kernel_rfl)
    refine wi_call (f := 177) (first := #[]) (captured := #[.pointer (some ⟨gs, 0, none⟩), .pointer (some ⟨gw, 0, none⟩)]) (args := #[.int .i64 d, cv op k t (.slice a kids.length cc)]) (d := some 17) (by kernel_rfl) (by kernel_rfl) ?_
    refine (fit_any f6 hok d op k t kids a cc hf.s (Nat.le_trans hn q4.size)).mono fun e w6 ⟨he, O2, j1, j2, j3⟩ => ⟨_, he, ?_⟩
    have hlo6 := f6.low
    have z4 : w6.heap[l]? = some (.loop { recOf fid D s .ready none with state := .busy }) := (j2.block l (lt_of_get l4) nO).trans l4
    have z5 : w6.heap[g4]? = some (.cells #[.bool false] 4 (0, 0)) := (j2.block g4 (lt_of_get f4) kO).trans f4
    have z6 : w6.heap[g5]? = some (.cells #[fitV gs gw] 194 (0, 0)) := (j2.block g5 (lt_of_get f5) jO).trans f5
    have z7 : w6.heap[D]? = some (.deferred (some [])) := (j2.block D (lt_of_get fD) mO).trans fD
    have hsz5 : W.heap.size ≤ w5.heap.size := q4.size
    have newO : ∀ y, y < W.heap.size → y ∉ O' → y ∉ O2 := fun y hy hO hx => by
      rcases j3 y hx with h | h
      · exact hO h
      · omega
    have q6 : Ch (l :: D :: g4 :: g5 :: O') W w6 := (q4.mono (fun x hx => by rw [List.mem_singleton] at hx; simp [hx])).trans j2 (fun x hx => .inl (by simp [hx]))
    have sub6 : Sub W (l :: D :: g4 :: g5 :: O') (l :: D :: g4 :: g5 :: O2) := by
      intro x hx
      simp only [List.mem_cons] at hx ⊢
      rcases hx with h | h | h | h | h
      · exact .inl (.inl h)
      · exact .inl (.inr (.inl h))
      · exact .inl (.inr (.inr (.inl h)))
      · exact .inl (.inr (.inr (.inr (.inl h))))
      · rcases j3 x h with h | h
        · exact .inl (.inr (.inr (.inr (.inr h))))
        · exact .inr (by omega)
    have hndO2 : O2.Nodup := by obtain ⟨_, _, _, rfl, h, _⟩ := j1; exact h
    have hnd2 : (l :: D :: g4 :: g5 :: O2).Nodup := by
      simp only [List.nodup_cons, List.mem_cons, not_or]
      exact ⟨⟨nD, n4, n5, newO l hl1 nO⟩, ⟨m4, m5, newO D hlD mO⟩, ⟨k5, newO g4 hl4 kO⟩, newO g5 hl5 jO, hndO2⟩
    have hlo2 := j1.low
    have fin : ∀ w8 : World, Ch [l, g4] w6 w8 → w8.heap[g4]? = some (.cells #[.bool false] 4 (0, 0)) → ∀ b, w8.heap[l]? = some (.loop (recOf fid D s (bif b then .ready else .done) (bif b then none else some .ret))) → IsJ n₀ l D g4 g5 gs gw fid s b (fitF (sz, want' :: rest) d (.mk op k t kids)).1 (l :: D :: g4 :: g5 :: O2) w8 ∧ Ch (l :: D :: g4 :: g5 :: O') W w8 := by
      intro w8 hc h4' b hl'
      refine ⟨⟨hl', (hc.block D (lt_of_get z7) (by simp; exact ⟨fun e => nD e.symm, m4⟩)).trans z7, h4', (hc.block g5 (lt_of_get z6) (by simp; exact ⟨fun e => n5 e.symm, fun e => k5 e.symm⟩)).trans z6, O2, j1.stay (fun x hx => hc.block x (hlo2 x hx).2 ?_), rfl, hnd2, i1, i2, i3, i4⟩, q6.trans hc (fun x hx => .inl ?_)⟩
      · simp only [List.mem_cons, List.not_mem_nil, or_false, not_or]
        exact ⟨fun e => newO l hl1 nO (e ▸ hx), fun e => newO g4 hl4 kO (e ▸ hx)⟩
      · simp only [List.mem_cons, List.not_mem_nil, or_false] at hx ⊢
        rcases hx with h | h
        · exact .inl h
        · exact .inr (.inr (.inl h))
    cases hfs : fitF (sz, want' :: rest) d (.mk op k t kids) with
    | mk st' b =>
    rw [hfs] at fin
    refine wi_runs (m := []) [(4, 0)] (rest := []) Holds.nil (by simp [Mem.ids]) fun w7 _ _ _ _ d7 => ?_
    obtain rfl := d7 (by kernel_rfl)
    show (Code.cond _ _ _).wpIn _ _ _ _ _ _
    cases b with
    | true =>
      refine wpIn_cond_false (by rw [evalL_eq]; kernel_rfl) (wpIn_skip ?_)
      show ∃ v w', _ ∧ _
      refine ⟨_, _, run_endRound none z4, rfl, l :: D :: g4 :: g5 :: O2, ?_⟩
      obtain ⟨y1, y2⟩ := fin (w7.putObj l (.loop { { recOf fid D s .ready none with state := .busy } with state := .ready, pending := none })) ((Ch.put _ _ _).mono (fun x hx => by rw [List.mem_singleton] at hx; simp [hx])) ((World.putObj_heap_other (fun e => n4 e.symm)).trans z5) true (World.putObj_heap_same (lt_of_get z4))
      exact ⟨y1, y2, sub6⟩
    | false =>
      refine wpIn_cond_true (by rw [evalL_eq]; kernel_rfl) (wpIn_seq (wpIn_region ?_))
      refine wi_runs (m := [(g4, .cells #[.bool false] 4 (0, 0))]) [(0, 0)] (rest := []) (fun j b o h => by match j, h with | 0, h => (cases h; exact z5)) (by simp [Mem.ids]) fun w8 m8 _ c8 _ _ => ?_
      show Code.ret.wpIn _ _ _ _ _ _
      refine wpIn_ret ?_
      have z8 : w8.heap[l]? = some (.loop { recOf fid D s .ready none with state := .busy }) := (c8.block l (lt_of_get z4) (by simp [Mem.ids]; exact n4)).trans z4
      have z9 : w8.heap[g4]? = some (.cells #[.bool false] 4 (0, 0)) := m8.get 0
      show ∃ v w', _ ∧ _
      refine ⟨_, _, run_endRound (some .ret) z8, rfl, l :: D :: g4 :: g5 :: O2, ?_⟩
      obtain ⟨y1, y2⟩ := fin (w8.putObj l (.loop { { recOf fid D s .ready none with state := .busy } with state := .done, pending := some .ret })) ((c8.mono (fun x hx => by simp [Mem.ids] at hx; simp [hx])).trans (Ch.put _ _ _) (fun x hx => .inl (by rw [List.mem_singleton] at hx; simp [hx]))) ((World.putObj_heap_other (fun e => n4 e.symm)).trans z9) false (World.putObj_heap_same (lt_of_get z8))
      exact ⟨y1, y2, sub6⟩
theorem FsJ.apart {L : List Nat} {A : World → Prop} {n gs gw : Nat} {st : Int × List Int} {O : List Nat} {w : World} (h : Stay L w (fun w' => A w' ∧ FsJ n gs gw st O w')) {g : Nat} (hg : g ∈ L) (hl : g < w.heap.size) : g ∉ O := by
  intro hO
  have hc : Ch L w { w with heap := w.heap.setIfInBounds g (.map #[] 0) } := ⟨rfl, rfl, rfl, by simp, fun i _ hx => by
    show (w.heap.setIfInBounds g _)[i]? = _
    exact Array.getElem?_setIfInBounds_ne (fun (h : g = i) => hx (h ▸ hg))⟩
  obtain ⟨gb, cap, cur, rfl, -, -, h1, h2, h3, -⟩ := (h _ hc).2
  have e : (w.heap.setIfInBounds g (.map #[] 0))[g]? = some (.map #[] 0) := Array.getElem?_setIfInBounds_self_of_lt hl
  simp only [List.mem_cons, List.not_mem_nil, or_false] at hO
  rcases hO with rfl | rfl | rfl
  · rw [show ({ w with heap := w.heap.setIfInBounds g (.map #[] 0) } : World).heap[g]? = some (.map #[] 0) from e] at h1; cases h1
  · rw [show ({ w with heap := w.heap.setIfInBounds g (.map #[] 0) } : World).heap[g]? = some (.map #[] 0) from e] at h2; cases h2
  · rw [show ({ w with heap := w.heap.setIfInBounds g (.map #[] 0) } : World).heap[g]? = some (.map #[] 0) from e] at h3; cases h3
def isOfP (want : Int) (c : Co) : Bool := (walkP fitF (0, [want]) 1 c).2
set_option maxRecDepth 100000 in
seal rn rnN rnS Goes ans atEnd put0 putM opened putA0 putA oneSt st0 orT orG in
theorem isOf_any (want : Int) {c : Co} {v : Value} {w : World} (hN : Nc w.heap.size w v c) (hsafe : safeP fitF fitOk (0, [want]) 1 c) : Calls Tryz.prog 108 #[v, .int .i64 want] w fun e w' => e = .returned (.bool (isOfP want c)) ∧ Below w.heap.size w w' := by
  obtain ⟨op, k, t, a, N, cc, rfl⟩ := hN.cells
  refine Goes.enterM Tryz.func108 [] (fun w' => Ch [] w w' ∧ True) Holds.nil (by simp [Mem.ids]) (fun w' hc => ⟨hc, trivial⟩) ?_
  refine Goes.runN2 bpM_noP 2000 [] [] trivial fun g2 g4 => ?_
  refine Goes.call 143 #[.int .i64 want] fun w1 hm1 hn1 hI1 => (fitting_any want w1).mono fun e w2 ⟨gs, gw, O, he, hJ, hB⟩ => ?_
  have f2 : w.heap.size ≤ g2 := fresh_of hI1 (g := g2) (ids_get (j := 0) (o := cO op k t (.slice a N cc)) (by kernel_rfl)) (by simp)
  have f4 : w.heap.size ≤ g4 := fresh_of hI1 (g := g4) (ids_get (j := 1) (o := .cells #[.bool false] 4 (0, 0)) (by kernel_rfl)) (by simp)
  have hne : [g2, g4].Nodup := Nodup.of_ids hn1
  have b2 : w2.heap[g2]? = some (cO op k t (.slice a N cc)) := (hB.block g2 (lt_of_get (hm1.get 0 (o := cO op k t (.slice a N cc))))).trans (hm1.get 0)
  have l4 : g4 < w1.heap.size := lt_of_get (hm1.get 1 (b := g4) (o := .cells #[.bool false] 4 (0, 0)))
  have l2 : g2 < w1.heap.size := lt_of_get (hm1.get 0 (o := cO op k t (.slice a N cc)))
  have b4 : w2.heap[g4]? = some (.cells #[.bool false] 4 (0, 0)) := (hB.block g4 l4).trans (hm1.get 1)
  have hO1 : ∀ x ∈ O, w1.heap.size ≤ x ∧ x < w2.heap.size := hJ.low
  refine ⟨_, fun w' => Ch [] w w' ∧ FsJ w1.heap.size gs gw (0, [want]) O w', [(g2, cO op k t (.slice a N cc)), (g4, .cells #[.bool false] 4 (0, 0))], he, fun j b o h => by match j, h with | 0, h => (cases h; exact b2) | 1, h => (cases h; exact b4), hne, fun w3 hc => ⟨?_, hJ.stay (fun x hx => hc.block x (hO1 x hx).2 (fun hm => by
    simp only [Mem.ids, List.map_cons, List.map_nil, List.mem_cons, List.not_mem_nil, or_false] at hm
    have := (hO1 x hx).1
    rcases hm with rfl | rfl <;> omega))⟩, ?_⟩
  · refine (hI1.now.1.trans (L' := []) ⟨hB.os, hB.tape, hB.output, hB.size, fun i hi _ => hB.block i hi⟩ (fun x hx => by cases hx)).trans hc (fun x hx => .inr ?_)
    simp only [Mem.ids, List.map_cons, List.map_nil, List.mem_cons, List.not_mem_nil, or_false] at hx
    rcases hx with rfl | rfl <;> assumption
  refine Goes.runN1 bpM_noP 2000 [2, 0] [] trivial fun g5 => ?_
  refine Goes.call 144 #[cv op k t (.slice a N cc)] fun w3 hm3 hn3 hI3 => (terms_any op k t a N cc w3).mono fun e w4 ⟨gt, he4, hgt, hgtn, hB4⟩ => ?_
  have x2 : w3.heap[g2]? = some (cO op k t (.slice a N cc)) := hm3.get 0
  have x4 : w3.heap[g4]? = some (.cells #[.bool false] 4 (0, 0)) := hm3.get 1
  have x5 : w3.heap[g5]? = some (.cells #[fitV gs gw] 194 (0, 0)) := hm3.get 2
  have f5 : w.heap.size ≤ g5 := fresh_of hI3 (g := g5) (ids_get (j := 2) (o := .cells #[fitV gs gw] 194 (0, 0)) (by kernel_rfl)) (by simp)
  have hids3 : [g2, g4, g5].Nodup := Nodup.of_ids hn3
  have hap : ∀ g ∈ [g2, g4, g5], g ∉ O := fun g hg => FsJ.apart hI3 (L := _) (by rw [show Mem.ids _ = [g2, g4, g5] by kernel_rfl]; exact hg) (by
    simp only [List.mem_cons, List.not_mem_nil, or_false] at hg
    rcases hg with rfl | rfl | rfl
    · exact lt_of_get x2
    · exact lt_of_get x4
    · exact lt_of_get x5)
  have y2 := (hB4.block g2 (lt_of_get x2)).trans x2
  have y4 := (hB4.block g4 (lt_of_get x4)).trans x4
  have y5 := (hB4.block g5 (lt_of_get x5)).trans x5
  have hJ4 : FsJ w1.heap.size gs gw (0, [want]) O w4 := hI3.now.2.stay (fun x hx => hB4.block x (hI3.now.2.low x hx).2)
  have hC4 : Ch [] w w4 := hI3.now.1.trans (L' := []) ⟨hB4.os, hB4.tape, hB4.output, hB4.size, fun i hi _ => hB4.block i hi⟩ (fun x hx => by cases hx)
  refine ⟨_, fun w' => Ch [] w w' ∧ FsJ w1.heap.size gs gw (0, [want]) O w' ∧ w'.heap[gt]? = some (cO op k t (.slice a N cc)), [(g2, cO op k t (.slice a N cc)), (g4, .cells #[.bool false] 4 (0, 0)), (g5, .cells #[fitV gs gw] 194 (0, 0))], he4, fun j b o h => by match j, h with | 0, h => (cases h; exact y2) | 1, h => (cases h; exact y4) | 2, h => (cases h; exact y5), hids3, fun w5 hc => ⟨hC4.trans hc (fun x hx => .inr ?_), hJ4.stay (fun x hx => hc.block x (hJ4.low x hx).2 (fun hm => hap x hm hx)), (hc.block gt (lt_of_get hgt) (fun hm => ?_)).trans hgt⟩, ?_⟩
  · simp only [Mem.ids, List.map_cons, List.map_nil, List.mem_cons, List.not_mem_nil, or_false] at hx
    rcases hx with rfl | rfl | rfl <;> assumption
  · have l2' := lt_of_get x2
    have l4' := lt_of_get x4
    have l5' := lt_of_get x5
    simp only [Mem.ids, List.map_cons, List.map_nil, List.mem_cons, List.not_mem_nil, or_false] at hm
    rcases hm with h | h | h <;> omega
  refine Goes.runN bpM_noP 2000 [] [] trivial ?_
  refine Goes.named (isT (cv op k t (.slice a N cc)) want g2 g4 g5 gs gw gt undef undef) [(g2, cO op k t (.slice a N cc)), (g4, .cells #[.bool false] 4 (0, 0)), (g5, .cells #[fitV gs gw] 194 (0, 0))] #[12, 13] isA isB [.blk 0, .code (.seq (.region 7 (rI 7) false) .ret)] fun s0 hT hm0 hps hA hBo hk hev hat => ?_
  refine Goes.range 181 #[.pointer (some ⟨gt, 0, none⟩)] (fun fid w5 hm5 hn5 hI5 W1 hL hD hBW => ?_) (hat.trans (by kernel_rfl)) (hev.trans (by kernel_rfl)) (by kernel_rfl)
  rw [hm0] at hm5 hn5 hI5
  obtain ⟨hC5, hJ5, hgt5⟩ := hI5.now
  have hw15 : w1.heap.size ≤ w5.heap.size := by have := hB.size; have := hI3.now.1.size; have h1 := hI5.now.2.1.low; have := hJ.low; obtain ⟨gb, _, _, rfl, _⟩ := hJ5; have := (h1 gs (by simp)).2; have := (h1 gs (by simp)).1; omega
  have u4 : w5.heap[g4]? = some (.cells #[.bool false] 4 (0, 0)) := hm5.get 1
  have u5 : w5.heap[g5]? = some (.cells #[fitV gs gw] 194 (0, 0)) := hm5.get 2
  have hlow5 := hJ5.low
  have hn1w : w.heap.size ≤ w1.heap.size := hI1.now.1.size
  have hd45 : ¬g4 = g5 := by simp only [List.nodup_cons, List.mem_cons, List.not_mem_nil, or_false, not_or] at hids3; exact hids3.2.1
  have v4 := lt_of_get u4
  have v5 := lt_of_get u5
  have hJW : IsJ w.heap.size (w5.heap.size + 1) w5.heap.size g4 g5 gs gw fid s0 true (0, [want]) ((w5.heap.size + 1) :: w5.heap.size :: g4 :: g5 :: O) W1 := by
    refine ⟨hL, hD, (hBW.block g4 v4).trans u4, (hBW.block g5 v5).trans u5, O, (hJ5.more hn1w).stay (fun x hx => hBW.block x (hlow5 x hx).2), rfl, ?_, by have := hC5.size; omega, hC5.size, f4, f5⟩
    have hndO : O.Nodup := by obtain ⟨_, _, _, rfl, h, _⟩ := hJ5; exact h
    simp only [List.nodup_cons, List.mem_cons, not_or]
    exact ⟨⟨by omega, by omega, by omega, fun h => by have := (hlow5 _ h).2; omega⟩, ⟨by omega, by omega, fun h => by have := (hlow5 _ h).2; omega⟩, ⟨hd45, hap g4 (by simp)⟩, hap g5 (by simp), hndO⟩
  have hBwW : Below w.heap.size w W1 := (hC5.low (fun x hx => by cases hx) (Nat.le_refl _)).trans (hBW.mono hC5.size)
  show Calls Tryz.prog 181 #[.func (.yield (w5.heap.size + 1)) #[] #[], .pointer (some ⟨gt, 0, none⟩)] W1 _
  refine (iter_any (isOf_round hT hps hA hBo) hsafe hJW (hN.later hBwW) hBwW.size ((hBW.block gt (lt_of_get hgt5)).trans hgt5)).mono fun e w6 ⟨he, O2, hJ2, hC6, hS6⟩ => ?_
  subst he
  have hB6 : Below w.heap.size w w6 := hBwW.trans (hC6.low (fun x hx => (hJW.low x hx).1) hBwW.size)
  cases hr : walkP fitF (0, [want]) 1 c with
  | mk st' b =>
  rw [hr] at hJ2
  have hv : isOfP want c = b := by unfold isOfP; rw [hr]
  rw [hv]
  obtain ⟨p1, p2, p3, p4, O3, p5, rfl, p6, p7, p8, p9, p10⟩ := hJ2
  simp only [List.nodup_cons, List.mem_cons, not_or] at p6
  have hl6 : w5.heap.size + 1 < w6.heap.size := lt_of_get p1
  cases b with
  | true =>
    simp only [cond_true] at p1
    refine ⟨none, _, run_endLoop p1 (by simp [recOf]), ?_⟩
    have hB7 : Below w.heap.size w (w6.putObj (w5.heap.size + 1) (.loop { recOf fid w5.heap.size s0 .ready none with state := .exhausted })) := hB6.trans ((Ch.put _ _ _).low (fun x hx => by rw [List.mem_singleton] at hx; have := hC5.size; omega) hB6.size)
    have z4 : (w6.putObj (w5.heap.size + 1) (.loop { recOf fid w5.heap.size s0 .ready none with state := .exhausted })).heap[g4]? = some (.cells #[.bool false] 4 (0, 0)) := (World.putObj_heap_other (fun e => p6.1.2.1 e.symm)).trans p3
    have zD : (w6.putObj (w5.heap.size + 1) (.loop { recOf fid w5.heap.size s0 .ready none with state := .exhausted })).heap[w5.heap.size]? = some (.deferred (some [])) := (World.putObj_heap_other (fun e => p6.1.1 e.symm)).trans p2
    generalize w6.putObj (w5.heap.size + 1) (.loop { recOf fid w5.heap.size s0 .ready none with state := .exhausted }) = w7 at hB7 z4 zD ⊢
    show QK _ _ s0.todo.tail _ _ _
    rw [hk, hT]
    show (Code.seq _ _).wp _ _ _ _
    refine (wpIn_wide (n := 0)).1 (wpIn_seq (wpIn_region ?_))
    refine wi_runs (r := none) (m := [(g4, .cells #[.bool false] 4 (0, 0))]) [(0, 0)] (rest := []) (fun j b o h => by match j, h with | 0, h => (cases h; exact z4)) (by simp [Mem.ids]) fun w8 m8 n8 c8 _ _ => ?_
    show Code.ret.wpIn Fence.wide _ _ _ _ _
    refine wpIn_ret ?_
    have q4 : w8.heap[g4]? = some (.cells #[.bool true] 4 (0, 0)) := m8.get 0
    refine leave_mark [0] (.bool true) [(g4, .cells #[.bool true] 4 (0, 0))] ((c8.block w5.heap.size (lt_of_get zD) (by simp [Mem.ids]; omega)).trans zD) (fun j b o h => by match j, h with | 0, h => (cases h; exact (World.putObj_heap_other (by omega)).trans q4)) (by simp [Mem.ids]) ⟨rfl, ?_⟩
    exact (hB7.trans (c8.low (fun x hx => by simp [Mem.ids] at hx; omega) hB7.size)).trans ((Ch.put _ _ _).low (fun x hx => by rw [List.mem_singleton] at hx; have := hC5.size; omega) (by have := hB7.size; have := c8.size; omega))
  | false =>
    simp only [cond_false] at p1
    refine ⟨some .ret, _, run_endLoop p1 (by simp [recOf]), ?_⟩
    have hB7 : Below w.heap.size w (w6.putObj (w5.heap.size + 1) (.loop { recOf fid w5.heap.size s0 .done (some .ret) with state := .exhausted })) := hB6.trans ((Ch.put _ _ _).low (fun x hx => by rw [List.mem_singleton] at hx; have := hC5.size; omega) hB6.size)
    have z4 : (w6.putObj (w5.heap.size + 1) (.loop { recOf fid w5.heap.size s0 .done (some .ret) with state := .exhausted })).heap[g4]? = some (.cells #[.bool false] 4 (0, 0)) := (World.putObj_heap_other (fun e => p6.1.2.1 e.symm)).trans p3
    have zD : (w6.putObj (w5.heap.size + 1) (.loop { recOf fid w5.heap.size s0 .done (some .ret) with state := .exhausted })).heap[w5.heap.size]? = some (.deferred (some [])) := (World.putObj_heap_other (fun e => p6.1.1 e.symm)).trans p2
    generalize w6.putObj (w5.heap.size + 1) (.loop { recOf fid w5.heap.size s0 .done (some .ret) with state := .exhausted }) = w7 at hB7 z4 zD ⊢
    show Code.ret.wpIn Fence.wide _ _ _ _ _
    refine wpIn_ret (qk_ret ?_)
    rw [hT]
    refine leave_mark [0] (.bool false) [(g4, .cells #[.bool false] 4 (0, 0))] zD (fun j b o h => by match j, h with | 0, h => (cases h; exact (World.putObj_heap_other (by omega)).trans z4)) (by simp [Mem.ids]) ⟨rfl, ?_⟩
    exact hB7.trans ((Ch.put _ _ _).low (fun x hx => by rw [List.mem_singleton] at hx; have := hC5.size; omega) hB7.size)
end Go.Proofs.YtebikhfjmpjpjaaGreatDoor
namespace Go.Proofs.YtebikhfjmpjpjaaGreatDoor
open Go Go.RowKit

def typP (c : Co) : Int × Bool := bif isOfP 0 c then (0, true) else bif isOfP 1 c then (1, true) else bif isOfP 2 c then (2, true) else bif isOfP 4 c then (4, true) else (0, false)
theorem isOf0 (want : Int) {c : Co} {v : Value} {w w' : World} (hN : Nc w.heap.size w v c) (hB : Below w.heap.size w w') : Calls Tryz.prog 108 #[v, .int .i64 want] w' fun e w'' => e = .returned (.bool (isOfP want c)) ∧ Below w'.heap.size w' w'' := isOf_any want (hN.at hB) (safe_fit want c)
set_option maxRecDepth 100000 in
seal rn rnN rnS Goes ans atEnd put0 putM opened putA0 oneSt st0 orT orG in
theorem type_any {c : Co} {v : Value} {w : World} (hN : Nc w.heap.size w v c) : Calls Tryz.prog 137 #[v] w fun e w' => e = .returned (.tuple #[.int .i64 (typP c).1, .bool (typP c).2]) ∧ Below w.heap.size w w' := by
  obtain ⟨op, k, t, a, N, cc, rfl⟩ := hN.cells
  refine Goes.begin Tryz.func137 [] (fun _ => True) Holds.nil (by simp [Mem.ids]) (fun _ _ => trivial) ?_
  refine Goes.run1 [0, 1, 0, 0] [(true, true)] ⟨rfl, trivial⟩ fun g => ?_
  refine Goes.call0 108 #[cv op k t (.slice a N cc), .int .i64 0] (.bool (isOfP 0 c)) (fun w' _ hI => isOf0 0 hN (bel0 hI)) ?_
  cases h0 : isOfP 0 c with
  | true =>
    refine Goes.run [1] [(true, true)] ⟨rfl, trivial⟩ ?_
    exact Goes.ret [] (.tuple #[.int .i64 0, .bool true]) fun w' hm hI => ⟨by unfold typP; rw [h0] <;> rfl, bel0 hI⟩
  | false =>
    refine Goes.run [0, 0, 1, 0, 0] [(true, true), (false, false)] ⟨rfl, rfl, trivial⟩ ?_
    refine Goes.call0 108 #[cv op k t (.slice a N cc), .int .i64 1] (.bool (isOfP 1 c)) (fun w' _ hI => isOf0 1 hN (bel0 hI)) ?_
    cases h1 : isOfP 1 c with
    | true =>
      refine Goes.run [1] [(true, true)] ⟨rfl, trivial⟩ ?_
      exact Goes.ret [] (.tuple #[.int .i64 1, .bool true]) fun w' hm hI => ⟨by unfold typP; rw [h0, h1] <;> rfl, bel0 hI⟩
    | false =>
      refine Goes.run [0, 0, 1, 0, 0] [(true, true), (false, false)] ⟨rfl, rfl, trivial⟩ ?_
      refine Goes.call0 108 #[cv op k t (.slice a N cc), .int .i64 2] (.bool (isOfP 2 c)) (fun w' _ hI => isOf0 2 hN (bel0 hI)) ?_
      cases h2 : isOfP 2 c with
      | true =>
        refine Goes.run [1] [(true, true)] ⟨rfl, trivial⟩ ?_
        exact Goes.ret [] (.tuple #[.int .i64 2, .bool true]) fun w' hm hI => ⟨by unfold typP; rw [h0, h1, h2] <;> rfl, bel0 hI⟩
      | false =>
        refine Goes.run [0, 0, 1, 0, 0] [(true, true), (false, false)] ⟨rfl, rfl, trivial⟩ ?_
        refine Goes.call0 108 #[cv op k t (.slice a N cc), .int .i64 4] (.bool (isOfP 4 c)) (fun w' _ hI => isOf0 4 hN (bel0 hI)) ?_
        cases h4 : isOfP 4 c with
        | true =>
          refine Goes.run [1] [(true, true)] ⟨rfl, trivial⟩ ?_
          exact Goes.ret [] (.tuple #[.int .i64 4, .bool true]) fun w' hm hI => ⟨by unfold typP; rw [h0, h1, h2, h4] <;> rfl, bel0 hI⟩
        | false =>
          refine Goes.run [0, 0, 0] [(false, false), (false, false)] ⟨rfl, rfl, trivial⟩ ?_
          exact Goes.ret [] (.tuple #[.int .i64 0, .bool false]) fun w' hm hI => ⟨by unfold typP; rw [h0, h1, h2, h4] <;> rfl, bel0 hI⟩
end Go.Proofs.YtebikhfjmpjpjaaGreatDoor
namespace Go.Proofs.YtebikhfjmpjpjaaGreatDoor
open Go Go.RowKit

/-- A question that keeps one number. -/
def Qn (n₀ : Nat) (qf : FuncId) (gq : Nat) (ty : TypeId) (f : Int → Co → Int) : Prop := ∀ (x : Int) (w : World) (v : Value) (c : Co), w.heap[gq]? = some (.cells #[.int .i64 x] ty (0, 0)) → Nc n₀ w v c → n₀ ≤ w.heap.size →
  Calls Tryz.prog qf #[v, .pointer (some ⟨gq, 0, none⟩)] w fun e w' => e = .returned (.tuple #[]) ∧ Ch [gq] w w' ∧ w'.heap[gq]? = some (.cells #[.int .i64 (f x c)] ty (0, 0))
def askF (f : Int → Co → Int) (x : Int) (_ : Int) (c : Co) : Int × Bool := (f x c, true)
def askP (f : Int → Co → Int) (x : Int) (c : Co) : Int := bif (typP c).2 then (walkP (askF f) x 1 c).1 else x
def askV (qf gq : Nat) : Value := .func (.func qf) #[] #[.pointer (some ⟨gq, 0, none⟩)]
def AkJ (n₀ l D g3 gq qf : Nat) (ty : TypeId) (fid : FuncId) (s : St) (b : Bool) (x : Int) (O : List Nat) (w : World) : Prop :=
  b = true ∧ w.heap[l]? = some (.loop (recOf fid D s .ready none)) ∧ w.heap[D]? = some (.deferred (some [])) ∧ w.heap[g3]? = some (.cells #[askV qf gq] 72 (0, 0)) ∧ w.heap[gq]? = some (.cells #[.int .i64 x] ty (0, 0)) ∧ O = [l, D, g3, gq] ∧ O.Nodup ∧ ∀ y ∈ O, n₀ ≤ y
theorem AkJ.stay {n₀ l D g3 gq qf : Nat} {ty : TypeId} {fid : FuncId} {s : St} {b : Bool} {x : Int} {O : List Nat} {w w' : World} (h : AkJ n₀ l D g3 gq qf ty fid s b x O w) (hO : ∀ y ∈ O, w'.heap[y]? = w.heap[y]?) : AkJ n₀ l D g3 gq qf ty fid s b x O w' := by
  obtain ⟨h0, h1, h2, h3, h4, rfl, h5⟩ := h
  exact ⟨h0, (hO l (by simp)).trans h1, (hO D (by simp)).trans h2, (hO g3 (by simp)).trans h3, (hO gq (by simp)).trans h4, rfl, h5⟩
theorem AkJ.low {n₀ l D g3 gq qf : Nat} {ty : TypeId} {fid : FuncId} {s : St} {b : Bool} {x : Int} {O : List Nat} {w : World} (h : AkJ n₀ l D g3 gq qf ty fid s b x O w) : ∀ y ∈ O, n₀ ≤ y ∧ y < w.heap.size := by
  obtain ⟨h0, h1, h2, h3, h4, rfl, h5, h6⟩ := h
  intro y hy
  refine ⟨h6 y hy, ?_⟩
  simp only [List.mem_cons, List.not_mem_nil, or_false] at hy
  rcases hy with rfl | rfl | rfl | rfl
  · exact lt_of_get h1
  · exact lt_of_get h2
  · exact lt_of_get h3
  · exact lt_of_get h4
noncomputable def rA (i : Nat) : Array Oper := regAt (Tryz.f109.body.getD .skip) i
noncomputable def akA : Code := .region 4 (rA 4) false
noncomputable def akB : Code := .block 1 (.region 5 (rA 5) false)
def akT (v : Value) (qf gq g2 g3 gt : Nat) (ty : Int) (x y : Value) : List Value := [v, askV qf gq, .pointer (some ⟨g2, 0, none⟩), .pointer (some ⟨g3, 0, none⟩), .int .i64 ty, .bool true, undef, undef, .tuple #[.int .i64 ty, .bool true], v, .tuple #[.int .i64 ty, .bool true], .int .i64 ty, .bool true, .bool true, .bool false, v, termsV gt, x, y, undef, undef, undef]
set_option maxRecDepth 100000 in
seal orT orG rA in
theorem ask_round {n₀ l D g2 g3 gq qf gt : Nat} {ty : TypeId} {fid : FuncId} {s : St} {v0 : Value} {tz : Int} {f : Int → Co → Int} (hq : Qn n₀ qf gq ty f) (hqf : okf Tryz.prog qf = true) (hT : s.tmps = akT v0 qf gq g2 g3 gt tz undef undef) (hps : rgPs s = #[17, 18]) (hA : rgAssign s = akA) (hB : rgBody s = akB) : Yl n₀ l (askF f) (fun _ => True) (AkJ n₀ l D g3 gq qf ty fid s) where
  stay := fun b st O w w' h hO => h.stay hO
  low := fun b st O w h => h.low
  yield := by
    intro x O W d v c _ hJ hN hn
    obtain ⟨op, k, t, a, N, cc, rfl⟩ := hN.cells
    have hlo := hJ.low
    obtain ⟨-, h1, h2, h3, h4, rfl, hnd, hge⟩ := hJ
    have hl1 := lt_of_get h1
    have hl3 := lt_of_get h3
    have hl4 := lt_of_get h4
    have hlD := lt_of_get h2
    have hnd0 := hnd
    simp only [List.nodup_cons, List.mem_cons, List.not_mem_nil, or_false, not_or] at hnd
    obtain ⟨⟨nD, n3, nq⟩, ⟨m3', mq⟩, kq, -⟩ := hnd
    refine round_of (T := akT v0 qf gq g2 g3 gt tz (.int .i64 d) (cv op k t (.slice a N cc))) h1 (by rw [hps]; rfl) (by rw [hps, hT]; kernel_rfl) ?_
    rw [hA]
    refine wpIn_region ?_
    rw [show List.range (rA 4).size = [0, 1] by kernel_rfl]
    refine wi_new 0 (rest := [1]) (m := []) Holds.nil (by simp [Mem.ids]) fun g7 w2 hg7 m2 n2 c2 _ => ?_
    refine wi_runs [(1, 0)] (rest := []) m2 n2 fun w3 m3 n3' c3 _ _ => ?_
    have e2 : (orG Tryz.prog (rA 4) 0 g7 (akT v0 qf gq g2 g3 gt tz (.int .i64 d) (cv op k t (.slice a N cc))) []).m.ids = [g7] := by kernel_rfl
    have q1 : Ch [] W w3 := c2.trans c3 (fun x hx => .inr (by rw [e2, List.mem_singleton] at hx; omega))
    have r7 : w3.heap[g7]? = some (cO op k t (.slice a N cc)) := m3.get 0
    show ∃ w₂, _ ∧ _
    have hl3w : w3.heap[l]? = some (.loop (recOf fid D s .ready none)) := (q1.block l hl1 (by simp)).trans h1
    refine ⟨_, run_beginRound hl3w rfl, ?_⟩
    have hl3' := lt_of_get hl3w
    have c4 := Ch.put w3 l (.loop { recOf fid D s .ready none with state := .busy })
    have l4 : (w3.putObj l (.loop { recOf fid D s .ready none with state := .busy })).heap[l]? = some (.loop { recOf fid D s .ready none with state := .busy }) := World.putObj_heap_same hl3'
    generalize w3.putObj l (.loop { recOf fid D s .ready none with state := .busy }) = w4 at c4 l4 ⊢
    have q4 : Ch [l] W w4 := (q1.mono (fun x hx => by cases hx)).trans c4 (fun x hx => .inl hx)
    have r7' : w4.heap[g7]? = some (cO op k t (.slice a N cc)) := (c4.block g7 (lt_of_get r7) (by simp; omega)).trans r7
    have f3 : w4.heap[g3]? = some (.cells #[askV qf gq] 72 (0, 0)) := (q4.block g3 hl3 (by simp; exact fun e => n3 e.symm)).trans h3
    have fq : w4.heap[gq]? = some (.cells #[.int .i64 x] ty (0, 0)) := (q4.block gq hl4 (by simp; exact fun e => nq e.symm)).trans h4
    have fD : w4.heap[D]? = some (.deferred (some [])) := (q4.block D hlD (by simp; exact fun e => nD e.symm)).trans h2
    have hn4 : n₀ ≤ w4.heap.size := Nat.le_trans hn q4.size
    have hN4 : Nc n₀ w4 (cv op k t (.slice a N cc)) c := hN.later (q4.low (fun y hy => by rw [List.mem_singleton] at hy; subst hy; exact hge _ (by simp)) hn)
    rw [hB]
    refine wpIn_block (wpIn_region ?_)
    rw [show List.range (rA 5).size = [0, 1, 2] by kernel_rfl]
    refine wi_runs (m := [(g3, .cells #[askV qf gq] 72 (0, 0)), (g7, cO op k t (.slice a N cc))]) [(0, 0), (1, 1)] (rest := [2]) (fun j b o h => by match j, h with | 0, h => (cases h; exact f3) | 1, h => (cases h; exact r7')) (by simp [Mem.ids]; omega) fun w5 _ _ _ _ d5 => ?_
    obtain rfl := d5 (by kernel_rfl)
    refine wi_call (f := qf) (first := #[]) (captured := #[.pointer (some ⟨gq, 0, none⟩)]) (args := #[cv op k t (.slice a N cc)]) (d := some 21) (by kernel_rfl) hqf ?_
    refine (hq x w5 _ c fq hN4 hn4).mono fun e w6 ⟨he, j2, j3⟩ => ⟨_, he, ?_⟩
    have z4 : w6.heap[l]? = some (.loop { recOf fid D s .ready none with state := .busy }) := (j2.block l (lt_of_get l4) (by simp; exact nq)).trans l4
    have z3 : w6.heap[g3]? = some (.cells #[askV qf gq] 72 (0, 0)) := (j2.block g3 (lt_of_get f3) (by simp; exact kq)).trans f3
    have z7 : w6.heap[D]? = some (.deferred (some [])) := (j2.block D (lt_of_get fD) (by simp; exact mq)).trans fD
    show ∃ v w', _ ∧ _
    refine ⟨_, _, run_endRound none z4, rfl, [l, D, g3, gq], ⟨rfl, World.putObj_heap_same (lt_of_get z4), (World.putObj_heap_other (fun e => nD e.symm)).trans z7, (World.putObj_heap_other (fun e => n3 e.symm)).trans z3, (World.putObj_heap_other (fun e => nq e.symm)).trans j3, rfl, hnd0, hge⟩, ?_, Sub.refl _ _⟩
    exact ((q4.mono (fun y hy => by rw [List.mem_singleton] at hy; simp [hy])).trans j2 (fun y hy => .inl (by rw [List.mem_singleton] at hy; simp [hy]))).trans (Ch.put _ _ _) (fun y hy => .inl (by rw [List.mem_singleton] at hy; simp [hy]))
end Go.Proofs.YtebikhfjmpjpjaaGreatDoor
namespace Go.Proofs.YtebikhfjmpjpjaaGreatDoor
open Go Go.RowKit

mutual
theorem safe_true {σ : Type} (f : σ → Int → Co → σ × Bool) (s : σ) (d : Int) : ∀ c : Co, safeP f (fun _ => True) s d c
  | .mk op k t kids => by
    unfold safeP
    refine ⟨trivial, ?_⟩
    split
    · trivial
    · exact safe_trueK f _ _ kids
theorem safe_trueK {σ : Type} (f : σ → Int → Co → σ × Bool) (s : σ) (d : Int) : ∀ l : List Co, safeK f (fun _ => True) s d l
  | [] => by unfold safeK; trivial
  | c :: r => by
    unfold safeK
    refine ⟨safe_true f s d c, ?_⟩
    split
    · trivial
    · exact safe_trueK f _ _ r
end
theorem Below.toCh {w w' : World} (h : Below w.heap.size w w') : Ch [] w w' := ⟨h.os, h.tape, h.output, h.size, fun i hi _ => h.block i hi⟩
set_option maxRecDepth 100000 in
seal rn rnN rnS Goes ans atEnd put0 putM opened putA0 putA oneSt st0 orT orG in
theorem ask_any {n₀ qf gq : Nat} {ty : TypeId} {f : Int → Co → Int} {x : Int} {c : Co} {v : Value} {w : World} (hq : Qn n₀ qf gq ty f) (hqf : okf Tryz.prog qf = true) (hx : w.heap[gq]? = some (.cells #[.int .i64 x] ty (0, 0))) (hge : n₀ ≤ gq) (hN : Nc n₀ w v c) (hn : n₀ ≤ w.heap.size) :
    Calls Tryz.prog 109 #[v, askV qf gq] w fun e w' => e = .returned (.tuple #[]) ∧ Ch [gq] w w' ∧ w'.heap[gq]? = some (.cells #[.int .i64 (askP f x c)] ty (0, 0)) := by
  obtain ⟨op, k, t, a, N, cc, rfl⟩ := hN.cells
  have hgq := lt_of_get hx
  refine Goes.enterM Tryz.func109 [] (fun w' => Ch [] w w' ∧ True) Holds.nil (by simp [Mem.ids]) (fun w' hc => ⟨hc, trivial⟩) ?_
  refine Goes.runN2 bpM_noP 2000 [0] [] trivial fun g2 g3 => ?_
  refine Goes.call0 137 #[cv op k t (.slice a N cc)] (.tuple #[.int .i64 (typP c).1, .bool (typP c).2]) (fun w' _ hI => type_any ((hN.later (hI.now.1.low (fun x hx => by cases hx) hn)).more (Nat.le_trans hn hI.now.1.size))) ?_
  cases hb : (typP c).2 with
  | false =>
    refine Goes.runN bpM_noP 2000 [1] [(true, true)] ⟨rfl, trivial⟩ ?_
    exact Goes.retM [] (.tuple #[]) fun w' hm hI => ⟨rfl, hI.now.1.mono (fun x hx => by cases hx), by unfold askP; rw [hb]; exact (hI.now.1.block gq hgq (by simp)).trans hx⟩
  | true =>
    refine Goes.runN bpM_noP 2000 [0, 0] [(false, false)] ⟨rfl, trivial⟩ ?_
    refine Goes.call 144 #[cv op k t (.slice a N cc)] fun w3 hm3 hn3 hI3 => (terms_any op k t a N cc w3).mono fun e w4 ⟨gt, he4, hgt, hgtn, hB4⟩ => ?_
    have x2 : w3.heap[g2]? = some (cO op k t (.slice a N cc)) := hm3.get 0
    have x3 : w3.heap[g3]? = some (.cells #[askV qf gq] 72 (0, 0)) := hm3.get 1
    have f2 : w.heap.size ≤ g2 := fresh_of hI3 (g := g2) (ids_get (j := 0) (o := cO op k t (.slice a N cc)) (by kernel_rfl)) (by simp)
    have f3 : w.heap.size ≤ g3 := fresh_of hI3 (g := g3) (ids_get (j := 1) (o := .cells #[askV qf gq] 72 (0, 0)) (by kernel_rfl)) (by simp)
    have hids3 : [g2, g3].Nodup := Nodup.of_ids hn3
    have l2' := lt_of_get x2
    have l3' := lt_of_get x3
    have y2 := (hB4.block g2 l2').trans x2
    have y3 := (hB4.block g3 l3').trans x3
    have hC4 : Ch [] w w4 := hI3.now.1.trans (Below.toCh hB4) (fun x hx => by cases hx)
    refine ⟨_, fun w' => Ch [] w w' ∧ w'.heap[gt]? = some (cO op k t (.slice a N cc)), [(g2, cO op k t (.slice a N cc)), (g3, .cells #[askV qf gq] 72 (0, 0))], he4, fun j b o h => by match j, h with | 0, h => (cases h; exact y2) | 1, h => (cases h; exact y3), hids3, fun w5 hc => ⟨hC4.trans hc (fun x hx => .inr ?_), (hc.block gt (lt_of_get hgt) (fun hm => ?_)).trans hgt⟩, ?_⟩
    · simp only [Mem.ids, List.map_cons, List.map_nil, List.mem_cons, List.not_mem_nil, or_false] at hx
      rcases hx with rfl | rfl <;> assumption
    · simp only [Mem.ids, List.map_cons, List.map_nil, List.mem_cons, List.not_mem_nil, or_false] at hm
      rcases hm with h | h <;> omega
    refine Goes.runN bpM_noP 2000 [] [] trivial ?_
    refine Goes.named (akT (cv op k t (.slice a N cc)) qf gq g2 g3 gt (typP c).1 undef undef) [(g2, cO op k t (.slice a N cc)), (g3, .cells #[askV qf gq] 72 (0, 0))] #[17, 18] akA akB [.blk 0] fun s0 hT hm0 hps hA hBo hk hev hat => ?_
    refine Goes.range 181 #[.pointer (some ⟨gt, 0, none⟩)] (fun fid w5 hm5 hn5 hI5 W1 hL hD hBW => ?_) (hat.trans (by kernel_rfl)) (hev.trans (by kernel_rfl)) (by kernel_rfl)
    rw [hm0] at hm5 hn5 hI5
    obtain ⟨hC5, hgt5⟩ := hI5.now
    have u3 : w5.heap[g3]? = some (.cells #[askV qf gq] 72 (0, 0)) := hm5.get 1
    have v3 := lt_of_get u3
    have uq : w5.heap[gq]? = some (.cells #[.int .i64 x] ty (0, 0)) := (hC5.block gq hgq (by simp)).trans hx
    have hs5 := hC5.size
    have hJW : AkJ n₀ (w5.heap.size + 1) w5.heap.size g3 gq qf ty fid s0 true x [w5.heap.size + 1, w5.heap.size, g3, gq] W1 := by
      refine ⟨rfl, hL, hD, (hBW.block g3 v3).trans u3, (hBW.block gq (lt_of_get uq)).trans uq, rfl, ?_, ?_⟩
      · simp only [List.nodup_cons, List.mem_cons, List.not_mem_nil, or_false, not_or]
        exact ⟨⟨by omega, by omega, by omega⟩, ⟨by omega, by omega⟩, by omega, by simp, by simp⟩
      · intro y hy
        simp only [List.mem_cons, List.not_mem_nil, or_false] at hy
        rcases hy with rfl | rfl | rfl | rfl <;> omega
    have hCW : Ch [] w W1 := hC5.trans (Below.toCh hBW) (fun x hx => by cases hx)
    have hBwW : Below n₀ w W1 := hCW.low (fun x hx => by cases hx) hn
    show Calls Tryz.prog 181 #[.func (.yield (w5.heap.size + 1)) #[] #[], .pointer (some ⟨gt, 0, none⟩)] W1 _
    refine (iter_any (ask_round hq hqf hT hps hA hBo) (safe_true _ _ _ _) hJW (hN.later hBwW) (Nat.le_trans hn hBwW.size) ((hBW.block gt (lt_of_get hgt5)).trans hgt5)).mono fun e w6 ⟨he, O2, hJ2, hC6, hS6⟩ => ?_
    subst he
    obtain ⟨p0, p1, p2, p3, p4, rfl, p6, p7⟩ := hJ2
    have hC6' : Ch [gq] w w6 := (hCW.mono (fun x hx => by cases hx)).trans hC6 (fun y hy => by
      simp only [List.mem_cons, List.not_mem_nil, or_false] at hy ⊢
      rcases hy with rfl | rfl | rfl | rfl
      · exact .inr (by omega)
      · exact .inr (by omega)
      · exact .inr f3
      · exact .inl rfl)
    refine ⟨none, _, run_endLoop p1 (by simp [recOf]), ?_⟩
    have hC7 : Ch [gq] w (w6.putObj (w5.heap.size + 1) (.loop { recOf fid w5.heap.size s0 .ready none with state := .exhausted })) := hC6'.trans (Ch.put _ _ _) (fun y hy => .inr (by rw [List.mem_singleton] at hy; omega))
    have zq : (w6.putObj (w5.heap.size + 1) (.loop { recOf fid w5.heap.size s0 .ready none with state := .exhausted })).heap[gq]? = some (.cells #[.int .i64 (walkP (askF f) x 1 c).1] ty (0, 0)) := (World.putObj_heap_other (by omega)).trans p4
    have zD : (w6.putObj (w5.heap.size + 1) (.loop { recOf fid w5.heap.size s0 .ready none with state := .exhausted })).heap[w5.heap.size]? = some (.deferred (some [])) := (World.putObj_heap_other (by omega)).trans p2
    generalize w6.putObj (w5.heap.size + 1) (.loop { recOf fid w5.heap.size s0 .ready none with state := .exhausted }) = w7 at hC7 zq zD ⊢
    show QK _ _ s0.todo.tail _ _ _
    rw [hk, hT]
    show LeavesInM _ _ _ _ _ _ _ _ _
    refine leave_mark [] (.tuple #[]) [] zD Holds.nil (by simp [Mem.ids]) ⟨rfl, hC7.trans (Ch.put _ _ _) (fun y hy => .inr (by rw [List.mem_singleton] at hy; omega)), ?_⟩
    unfold askP
    rw [hb]
    exact (World.putObj_heap_other (by omega)).trans zq
end Go.Proofs.YtebikhfjmpjpjaaGreatDoor
namespace Go.Proofs.YtebikhfjmpjpjaaGreatDoor
open Go Go.RowKit

def hzF (x : Int) : Co → Int
  | .mk op k _ _ => bif dateP op then (if k > x then k else x) else x
def ckF (x : Int) : Co → Int
  | .mk op k _ _ => bif lookP op then (bif decide (k < 0) then 141 else x) else x
set_option maxRecDepth 100000 in
seal rn rnN rnS Goes ans atEnd put0 putM opened putA0 oneSt st0 orT orG in
theorem ckQ (n₀ gq : Nat) : Qn n₀ 110 gq 31 ckF := by
  intro x w v c hx hN hn
  cases c with
  | mk op k t kids =>
  obtain ⟨a, cc, rfl, hf, -, -⟩ := hN.open
  refine Goes.begin Tryz.func110 [(gq, .cells #[.int .i64 x] 31 (0, 0))] (fun _ => True) (fun j b o h => by match j, h with | 0, h => (cases h; exact hx)) (by simp [Mem.ids]) (fun _ _ => trivial) ?_
  refine Goes.run1 [1] [] trivial fun g => ?_
  refine Goes.call0 111 #[cv op k t (.slice a kids.length cc)] (.bool (lookP op)) (fun w' _ _ => look_any op k t a kids.length cc w') ?_
  cases h : lookP op with
  | true =>
    cases h2 : decide (k < 0) with
    | true =>
      refine Goes.run [1, 1, 1, 0] [(decide (k < 0), true), (true, true)] ⟨h2, rfl, trivial⟩ ?_
      exact Goes.ret [] (.tuple #[]) fun w' hm hI => ⟨rfl, hI.now.1, (hm.get 0 (o := .cells #[.int .i64 141] 31 (0, 0))).trans (by simp only [ckF, h, h2, cond_true])⟩
    | false =>
      refine Goes.run [1, 1, 0] [(decide (k < 0), false), (true, true)] ⟨h2, rfl, trivial⟩ ?_
      exact Goes.ret [] (.tuple #[]) fun w' hm hI => ⟨rfl, hI.now.1, (hm.get 0 (o := .cells #[.int .i64 x] 31 (0, 0))).trans (by simp only [ckF, h, h2, cond_true, cond_false])⟩
  | false =>
    refine Goes.run [0, 0] [(false, false), (false, false)] ⟨rfl, rfl, trivial⟩ ?_
    exact Goes.ret [] (.tuple #[]) fun w' hm hI => ⟨rfl, hI.now.1, (hm.get 0 (o := .cells #[.int .i64 x] 31 (0, 0))).trans (by simp only [ckF, h, cond_false])⟩
def chkP (c : Co) : Int := bif isOfP 4 c then askP ckF 0 c else 140
set_option maxRecDepth 100000 in
seal rn rnN rnS Goes ans atEnd put0 putM opened putA0 oneSt st0 orT orG in
theorem check_any {c : Co} {v : Value} {w : World} (hN : Nc w.heap.size w v c) : Calls Tryz.prog 63 #[v] w fun e w' => e = .returned (.int .i64 (chkP c)) ∧ Below w.heap.size w w' := by
  obtain ⟨op, k, t, a, N, cc, rfl⟩ := hN.cells
  refine Goes.begin Tryz.func63 [] (fun _ => True) Holds.nil (by simp [Mem.ids]) (fun _ _ => trivial) ?_
  refine Goes.run1 [0] [] trivial fun g => ?_
  refine Goes.call0 108 #[cv op k t (.slice a N cc), .int .i64 4] (.bool (isOfP 4 c)) (fun w' _ hI => isOf0 4 hN (bel0 hI)) ?_
  cases h : isOfP 4 c with
  | false =>
    refine Goes.run [1] [(true, true)] ⟨rfl, trivial⟩ ?_
    exact Goes.ret [] (.int .i64 140) fun w' hm hI => ⟨by unfold chkP; rw [h] <;> rfl, bel0 hI⟩
  | true =>
    refine Goes.run1 [0, 1, 0] [(false, false)] ⟨rfl, trivial⟩ fun gq => ?_
    refine Goes.call2 1 gq 109 #[cv op k t (.slice a N cc), askV 110 gq] (.tuple #[]) (.cells #[.int .i64 (askP ckF 0 c)] 31 (0, 0)) (fun w' hm hI => ask_any (n₀ := w.heap.size) (ckQ _ gq) (by kernel_rfl) (hm.get 1) (fresh_of hI (g := gq) (ids_get (j := 1) (o := .cells #[.int .i64 0] 31 (0, 0)) (by kernel_rfl)) (by simp [Mem.ids])) (hN.later (bel0 hI)) (bel0 hI).size) ?_
    refine Goes.run [1] [] trivial ?_
    exact Goes.ret [] (.int .i64 (askP ckF 0 c)) fun w' hm hI => ⟨by unfold chkP; rw [h] <;> rfl, bel0 hI⟩
end Go.Proofs.YtebikhfjmpjpjaaGreatDoor
namespace Go.Proofs.YtebikhfjmpjpjaaGreatDoor
open Go

theorem isOfP_eq (want : Int) (c : Co) : isOfP want c = true ↔ (okT want 1 c = true ∧ szC c ≤ 2000) := by
  have h := (spec c want [] 0 1 (by omega) (by omega) (by omega) (by omega) (by simp)).2.1
  unfold isOfP
  rw [h]
  simp
mutual
theorem okT_up (want d : Int) : ∀ c : Co, okT want (d + 1) c = true → okT want d c = true
  | .mk op k t kids => by
    unfold okT
    cases kOf op want with
    | none => simp
    | some ks =>
      simp only [Bool.and_eq_true, decide_eq_true_eq]
      rintro ⟨⟨h1, h2⟩, h3⟩
      exact ⟨⟨h1, by omega⟩, okTs_up (d + 1) ks kids h3⟩
theorem okTs_up (d : Int) (ks : List Int) : ∀ l : List Co, okTs (d + 1) ks l = true → okTs d ks l = true
  | [] => by unfold okTs; simp
  | c :: r => by
    unfold okTs
    cases ks with
    | nil => simp
    | cons x xs =>
      simp only [Bool.and_eq_true]
      rintro ⟨h1, h2⟩
      exact ⟨okT_up x d c h1, okTs_up d xs r h2⟩
end
theorem ty_cond {b : Bool} {x y : Option (List Int)} (hx : ∀ l, x = some l → ∀ z ∈ l, tyOk z) (hy : ∀ l, y = some l → ∀ z ∈ l, tyOk z) : ∀ l, (bif b then x else y) = some l → ∀ z ∈ l, tyOk z := by
  cases b <;> assumption
theorem ty_some {l0 : List Int} (h : ∀ z ∈ l0, tyOk z) : ∀ l, some l0 = some l → ∀ z ∈ l, tyOk z := by rintro l ⟨⟩; exact h
theorem ty_none : ∀ l : List Int, none = some l → ∀ z ∈ l, tyOk z := by intro l h; cases h
theorem kOf_ty {op want : Int} (hw : tyOk want) : ∀ l, kOf op want = some l → ∀ z ∈ l, tyOk z := by
  unfold kOf kContract kNumber kTruth kDay
  unfold tyOk at hw
  repeat' first | exact ty_none | refine ty_cond ?_ ?_ | (refine ty_some ?_; intro z hz; simp only [List.mem_cons, List.not_mem_nil, or_false] at hz; done) | (refine ty_some ?_; intro z hz; simp only [List.mem_cons, List.not_mem_nil, or_false] at hz; unfold tyOk; omega)
theorem okTs_at {d : Int} : ∀ {l : List Co} {ks : List Int} {i : Nat} {c : Co}, okTs d ks l = true → l[i]? = some c → ∃ x, ks[i]? = some x ∧ okT x d c = true
  | [], ks, i, c, _, h => by simp at h
  | y :: r, ks, i, c, h, hc => by
    unfold okTs at h
    cases ks with
    | nil => simp at h
    | cons x xs =>
      simp only [Bool.and_eq_true] at h
      cases i with
      | zero => simp at hc; subst hc; exact ⟨x, rfl, h.1⟩
      | succ i => exact okTs_at (i := i) h.2 (by simpa using hc)
theorem szL_at : ∀ {l : List Co} {i : Nat} {c : Co}, l[i]? = some c → szC c ≤ szL l
  | [], i, c, h => by simp at h
  | y :: r, 0, c, h => by simp at h; subst h; unfold szL; have := szL_pos r; omega
  | y :: r, i + 1, c, h => by have := szL_at (i := i) (show r[i]? = some c by simpa using h); unfold szL; have := szC_pos y; omega
theorem typ_of {want : Int} (hw : tyOk want) {c : Co} (h : isOfP want c = true) : (typP c).2 = true := by
  unfold typP
  cases h0 : isOfP 0 c with
  | true => rfl
  | false =>
    cases h1 : isOfP 1 c with
    | true => rfl
    | false =>
      cases h2 : isOfP 2 c with
      | true => rfl
      | false =>
        cases h4 : isOfP 4 c with
        | true => rfl
        | false =>
          exfalso
          rcases hw with rfl | rfl | rfl | rfl
          · rw [h0] at h; cases h
          · rw [h1] at h; cases h
          · rw [h2] at h; cases h
          · rw [h4] at h; cases h
theorem typ_ex {c : Co} (h : (typP c).2 = true) : ∃ want, tyOk want ∧ isOfP want c = true := by
  unfold typP at h
  cases h0 : isOfP 0 c with
  | true => exact ⟨0, .inl rfl, h0⟩
  | false =>
    cases h1 : isOfP 1 c with
    | true => exact ⟨1, .inr (.inl rfl), h1⟩
    | false =>
      cases h2 : isOfP 2 c with
      | true => exact ⟨2, .inr (.inr (.inl rfl)), h2⟩
      | false =>
        cases h4 : isOfP 4 c with
        | true => exact ⟨4, .inr (.inr (.inr rfl)), h4⟩
        | false => rw [h0, h1, h2, h4] at h; cases h
mutual
def hzC : Co → Int
  | .mk op k _ kids => max (bif dateP op then k else 0) (hzL kids)
def hzL : List Co → Int
  | [] => 0
  | c :: r => max (hzC c) (hzL r)
end
mutual
theorem hz_walk (d x : Int) : ∀ c : Co, 0 ≤ x → walkP (askF hzF) x d c = (max x (hzC c), true)
  | .mk op k t kids, h0 => by
    unfold hzC
    unfold walkP askF hzF
    have hh := hzL_pos kids
    cases hd : dateP op with
    | true =>
      simp only [hd, cond_true]
      have := hz_walkK (IntKind.i64.wrap (d + 1)) (if k > x then k else x) kids (by split <;> omega)
      unfold askF hzF at this
      rw [this]
      congr 1
      split <;> omega
    | false =>
      simp only [hd, cond_false]
      have := hz_walkK (IntKind.i64.wrap (d + 1)) x kids h0
      unfold askF hzF at this
      rw [this]
      congr 1
      omega
theorem hz_walkK (d x : Int) : ∀ l : List Co, 0 ≤ x → walkK (askF hzF) x d l = (max x (hzL l), true)
  | [], h0 => by unfold walkK hzL; congr 1; omega
  | c :: r, h0 => by
    unfold hzL
    unfold walkK
    rw [hz_walk d x c h0]
    simp only
    rw [hz_walkK d _ r (by omega)]
    congr 1
    omega
theorem hzL_pos : ∀ l : List Co, 0 ≤ hzL l
  | [] => by unfold hzL; omega
  | c :: r => by unfold hzL; have := hzL_pos r; omega
end
theorem hzL_at : ∀ {l : List Co} {i : Nat} {c : Co}, l[i]? = some c → hzC c ≤ hzL l
  | [], i, c, h => by simp at h
  | y :: r, 0, c, h => by simp at h; subst h; unfold hzL; omega
  | y :: r, i + 1, c, h => by have := hzL_at (i := i) (show r[i]? = some c by simpa using h); unfold hzL; omega
end Go.Proofs.YtebikhfjmpjpjaaGreatDoor
namespace Go.Proofs.YtebikhfjmpjpjaaGreatDoor
open Go

mutual
def dpC : Co → Int
  | .mk _ _ _ kids => 1 + dpL kids
def dpL : List Co → Int
  | [] => 0
  | c :: r => max (dpC c) (dpL r)
end
theorem dpL_pos : ∀ l : List Co, 0 ≤ dpL l
  | [] => by unfold dpL; omega
  | c :: r => by unfold dpL; have := dpL_pos r; omega
mutual
theorem okT_dp (want d : Int) : ∀ c : Co, okT want (d + 1) c = true ↔ (okT want d c = true ∧ d + dpC c ≤ 200)
  | .mk op k t kids => by
    unfold okT dpC
    have hp := dpL_pos kids
    cases kOf op want with
    | none => simp
    | some ks =>
      simp only [Bool.and_eq_true, decide_eq_true_eq]
      constructor
      · rintro ⟨⟨h1, h2⟩, h3⟩
        have := (okTs_dp (d + 1) ks kids (by omega)).1 h3
        exact ⟨⟨⟨h1, by omega⟩, this.1⟩, by omega⟩
      · rintro ⟨⟨⟨h1, h2⟩, h3⟩, h4⟩
        exact ⟨⟨h1, by omega⟩, (okTs_dp (d + 1) ks kids (by omega)).2 ⟨h3, by omega⟩⟩
theorem okTs_dp (d : Int) (ks : List Int) : ∀ l : List Co, d ≤ 200 → (okTs (d + 1) ks l = true ↔ (okTs d ks l = true ∧ d + dpL l ≤ 200))
  | [], h => by unfold okTs dpL; simp; omega
  | c :: r, h => by
    unfold okTs dpL
    cases ks with
    | nil => simp
    | cons x xs =>
      simp only [Bool.and_eq_true]
      rw [okT_dp x d c, okTs_dp d xs r h]
      constructor
      · rintro ⟨⟨h1, h2⟩, h3, h4⟩; exact ⟨⟨h1, h3⟩, by omega⟩
      · rintro ⟨⟨h1, h2⟩, h3⟩; exact ⟨⟨h1, by omega⟩, h2, by omega⟩
end
mutual
/-- Does it look ahead? -/
def ahC : Co → Bool
  | .mk op k _ kids => (lookP op && decide (k < 0)) || ahL kids
def ahL : List Co → Bool
  | [] => false
  | c :: r => ahC c || ahL r
end
mutual
theorem ck_walk (d x : Int) : ∀ c : Co, walkP (askF ckF) x d c = (bif ahC c then 141 else x, true)
  | .mk op k t kids => by
    unfold ahC
    unfold walkP askF ckF
    cases h1 : lookP op with
    | true =>
      cases h2 : decide (k < 0) with
      | true =>
        have := ck_walkK (IntKind.i64.wrap (d + 1)) 141 kids
        unfold askF ckF at this
        simp only [h1, h2, cond_true, this, Bool.true_and, Bool.true_or]
        cases ahL kids <;> rfl
      | false =>
        have := ck_walkK (IntKind.i64.wrap (d + 1)) x kids
        unfold askF ckF at this
        simp only [h1, h2, cond_true, cond_false, this, Bool.true_and, Bool.false_or]
    | false =>
      have := ck_walkK (IntKind.i64.wrap (d + 1)) x kids
      unfold askF ckF at this
      simp only [h1, cond_false, this, Bool.false_and, Bool.false_or]
theorem ck_walkK (d x : Int) : ∀ l : List Co, walkK (askF ckF) x d l = (bif ahL l then 141 else x, true)
  | [] => by unfold walkK ahL; rfl
  | c :: r => by
    unfold ahL
    unfold walkK
    rw [ck_walk d x c]
    simp only
    rw [ck_walkK d _ r]
    cases ahC c <;> cases ahL r <;> rfl
end
theorem typ4 {c : Co} (h : isOfP 4 c = true) : (typP c).2 = true := typ_of (.inr (.inr (.inr rfl))) h
theorem chk_no {c : Co} (h : isOfP 4 c = false) : chkP c = 140 := by unfold chkP; rw [h]; rfl
theorem chk_yes {c : Co} (h : isOfP 4 c = true) : chkP c = bif ahC c then 141 else 0 := by
  unfold chkP askP
  rw [h, typ4 h, ck_walk 1 0 c]
  rfl
end Go.Proofs.YtebikhfjmpjpjaaGreatDoor
namespace Go.Proofs.YtebikhfjmpjpjaaGreatDoor
open Go Go.RowKit

mutual
def lefF (m d : Int) : Co → Int
  | .mk _ _ _ kids => bif decide (d > 200) then -1 else lefL (m - 1) (d + 1) kids
def lefL (m d : Int) : List Co → Int
  | [] => m
  | c :: r => bif decide (m ≥ 0) then lefL (lefF m d c) d r else m
end
mutual
theorem lef_low : ∀ (c : Co) (m d : Int), 0 ≤ m → -1 ≤ lefF m d c ∧ lefF m d c ≤ m
  | .mk _ _ _ kids, m, d, h => by
    rw [lefF]
    cases decide (d > 200) with
    | true => exact ⟨by simp, by simp; omega⟩
    | false => have := lef_lowL kids (m - 1) (d + 1) (by omega); simp only [cond_false]; omega
theorem lef_lowL : ∀ (l : List Co) (m d : Int), -1 ≤ m → -1 ≤ lefL m d l ∧ lefL m d l ≤ m
  | [], m, d, h => by rw [lefL]; omega
  | c :: r, m, d, h => by
    rw [lefL]
    cases hm : decide (m ≥ 0) with
    | true =>
      have h1 := lef_low c m d (of_decide_eq_true hm)
      have h2 := lef_lowL r (lefF m d c) d h1.1
      simp only [cond_true]; omega
    | false => simp only [cond_false]; omega
end
def smaP (c : Co) : Bool := decide (lefF 2000 1 c ≥ 0)
end Go.Proofs.YtebikhfjmpjpjaaGreatDoor
namespace Go.Proofs.YtebikhfjmpjpjaaGreatDoor
open Go Go.RowKit

def TP (c : Co) : Prop := ∀ d : Int, (∀ z, tyOk z → (okT z d c = true ↔ typF d c = (z, true))) ∧ ((typF d c).2 = true → tyOk (typF d c).1)
theorem tys_ok : ∀ (kids : List Co), (∀ c ∈ kids, TP c) → ∀ (d : Int) (l : List Int), (tysF d kids = some l ↔ l.length = kids.length ∧ (∀ z ∈ l, tyOk z) ∧ okTs d l kids = true)
  | [], _, d, l => by
    rw [tysF]
    unfold okTs
    constructor
    · rintro ⟨⟩; simp
    · rintro ⟨h, -⟩; rw [List.eq_nil_of_length_eq_zero h]
  | c :: r, ih, d, l => by
    obtain ⟨h1, h2⟩ := ih c (by simp) d
    have h3 := tys_ok r (fun c hc => ih c (by simp [hc])) d
    rw [tysF]
    cases hc : typF d c with
    | mk z b =>
    rw [hc] at h2
    cases b with
    | false =>
      simp only [cond_false]
      constructor
      · intro h; cases h
      · rintro ⟨e, ht, ho⟩
        cases l with
        | nil => cases e
        | cons x xs =>
          unfold okTs at ho
          simp only [Bool.and_eq_true] at ho
          have := (h1 x (ht x (by simp))).1 ho.1
          rw [hc] at this
          cases this
    | true =>
      simp only [cond_true]
      have hz := h2 rfl
      cases hr : tysF d r with
      | none =>
        constructor
        · intro h; cases h
        · rintro ⟨e, ht, ho⟩
          cases l with
          | nil => cases e
          | cons x xs =>
            unfold okTs at ho
            simp only [Bool.and_eq_true] at ho
            have := (h3 xs).2 ⟨by simpa using e, fun z hz => ht z (by simp [hz]), ho.2⟩
            rw [hr] at this
            cases this
      | some q =>
        have hq := (h3 q).1 hr
        constructor
        · intro h
          simp only [Option.map_some, Option.some.injEq] at h
          subst h
          refine ⟨by simp [hq.1], fun y hy => ?_, ?_⟩
          · rcases List.mem_cons.1 hy with e | e
            · rw [e]; exact hz
            · exact hq.2.1 y e
          · unfold okTs
            show (okT z d c && okTs d q r) = true
            rw [(h1 z hz).2 hc, hq.2.2]
            rfl
        · rintro ⟨e, ht, ho⟩
          cases l with
          | nil => cases e
          | cons x xs =>
            unfold okTs at ho
            simp only [Bool.and_eq_true] at ho
            have e1 := (h1 x (ht x (by simp))).1 ho.1
            rw [hc] at e1
            cases e1
            have e2 := (h3 xs).2 ⟨by simpa using e, fun z hz => ht z (by simp [hz]), ho.2⟩
            rw [hr] at e2
            cases e2
            rfl
theorem tp_all (c : Co) : TP c := by
  induction c using Co.ind with
  | h op k t kids ih =>
    intro d
    have hk := tys_ok kids ih (d + 1)
    refine ⟨fun z hz => ?_, fun h => ?_⟩
    · rw [typ_parts]
      constructor
      · intro ho
        unfold okT at ho
        cases hko : kOf op z with
        | none => rw [hko] at ho; cases ho
        | some ks =>
          rw [hko] at ho
          simp only [Bool.and_eq_true, beq_iff_eq, decide_eq_true_eq] at ho
          obtain ⟨⟨⟨h1, h2⟩, h3⟩, h4⟩ := ho
          have hl3 := kOf_len op z ks hko
          refine ⟨h2, h3, by omega, ks, (hk ks).2 ⟨by omega, kOf_ty hz ks hko, h4⟩, ?_⟩
          unfold endF
          cases h22 : (op == 22) with
          | true =>
            have e := eq_of_beq h22
            subst e
            rw [k22] at hko
            cases hz4 : (z == 4) with
            | true => rw [hz4] at hko; cases hko
            | false =>
              rw [hz4] at hko
              cases hko
              have : (z != 4) = true := by simp only [bne, hz4, Bool.not_false]
              simp only [cond_true, lastZ, ifF, beq_self_eq_true, Bool.true_and, this]
          | false =>
            rw [rk_op hz h22] at hko
            cases hr : rkP op with
            | none => rw [hr] at hko; cases hko
            | some q =>
              obtain ⟨ks', t'⟩ := q
              rw [hr] at hko
              simp only at hko
              cases ht' : (t' == z) with
              | false => rw [ht'] at hko; cases hko
              | true =>
                rw [ht'] at hko
                cases hko
                have := eq_of_beq ht'
                subst this
                simp
      · rintro ⟨h1, h2, h3, l, hl, he⟩
        obtain ⟨e1, e2, e3⟩ := (hk l).1 hl
        have fin : kOf op z = some l → okT z d (.mk op k t kids) = true := by
          intro hko
          unfold okT
          rw [hko]
          simp only [h1, e3, Bool.and_true, Bool.and_eq_true, beq_iff_eq, decide_eq_true_eq]
          exact ⟨by omega, h2⟩
        unfold endF at he
        cases h22 : (op == 22) with
        | true =>
          rw [h22, cond_true] at he
          simp only [Prod.mk.injEq] at he
          obtain ⟨y, rfl, hy⟩ := if_shape he.2
          have hyz : y = z := he.1
          subst hyz
          have e := eq_of_beq h22
          subst e
          refine fin ?_
          rw [k22]
          have : (y == 4) = false := by simpa using hy
          rw [this]
          rfl
        | false =>
          rw [h22, cond_false] at he
          refine fin ?_
          rw [rk_op hz h22]
          cases hr : rkP op with
          | none => rw [hr] at he; cases he
          | some q =>
            obtain ⟨ks', t'⟩ := q
            rw [hr] at he
            simp only at he
            cases hlen : ((ks'.length : Int) != (l.length : Int)) with
            | true => rw [hlen] at he; cases he
            | false =>
              rw [hlen, cond_false] at he
              cases hq : (ks' == l) with
              | false => rw [hq] at he; cases he
              | true =>
                rw [hq] at he
                cases he
                have := eq_of_beq hq
                subst this
                simp
    · cases hc : typF d (.mk op k t kids) with
      | mk z b =>
      rw [hc] at h
      have hb : b = true := h
      subst hb
      obtain ⟨-, -, -, l, hl, he⟩ := typ_parts.1 hc
      obtain ⟨e1, e2, e3⟩ := (hk l).1 hl
      unfold endF at he
      cases h22 : (op == 22) with
      | true =>
        rw [h22, cond_true] at he
        simp only [Prod.mk.injEq] at he
        obtain ⟨y, rfl, hy⟩ := if_shape he.2
        have hyz : y = z := he.1
        subst hyz
        exact e2 y (by simp)
      | false =>
        rw [h22, cond_false] at he
        cases hr : rkP op with
        | none => rw [hr] at he; cases he
        | some q =>
          obtain ⟨ks', t'⟩ := q
          rw [hr] at he
          simp only at he
          cases hlen : ((ks'.length : Int) != (l.length : Int)) with
          | true => rw [hlen] at he; cases he
          | false =>
            rw [hlen, cond_false] at he
            cases hq : (ks' == l) with
            | false => rw [hq] at he; cases he
            | true =>
              rw [hq] at he
              cases he
              exact rk_tyOk hr
def LP (c : Co) : Prop := ∀ (d m : Int), (typF d c).2 = true → 0 ≤ m → (szC c ≤ m → lefF m d c = m - szC c) ∧ (m < szC c → lefF m d c < 0)
theorem lef_row : ∀ (l : List Co), (∀ c ∈ l, LP c) → ∀ (d m : Int), (∀ c ∈ l, (typF d c).2 = true) → -1 ≤ m → (szL l ≤ m → lefL m d l = m - szL l) ∧ (m < szL l → lefL m d l < 0)
  | [], _, d, m, _, hm => by rw [lefL, szL]; omega
  | c :: r, ih, d, m, hk, hm => by
    have hp := szC_pos c
    have hq := szL_pos r
    rw [lefL, szL]
    cases hd : decide (m ≥ 0) with
    | false =>
      have := of_decide_eq_false hd
      simp only [cond_false]
      omega
    | true =>
      have hm0 := of_decide_eq_true hd
      obtain ⟨h1, h2⟩ := ih c (by simp) d m (hk c (by simp)) hm0
      have hlow := lef_low c m d hm0
      have h3 := lef_row r (fun c hc => ih c (by simp [hc])) d (lefF m d c) (fun c hc => hk c (by simp [hc])) hlow.1
      have h4 := lef_lowL r (lefF m d c) d hlow.1
      simp only [cond_true]
      by_cases hs : szC c ≤ m
      · rw [h1 hs] at h3 ⊢
        omega
      · have := h2 (by omega)
        omega
theorem lef_all (c : Co) : LP c := by
  induction c using Co.ind with
  | h op k t kids ih =>
    intro d m ht hm
    obtain ⟨-, hd, hk⟩ := typ_kids ht
    have h := lef_row kids ih (d + 1) (m - 1) hk (by omega)
    rw [lefF, szC, decide_eq_false (by omega), cond_false]
    omega
def rtyP (c : Co) : Int × Bool := bif smaP c then (bif (typF 1 c).2 then ((typF 1 c).1, true) else (0, false)) else (0, false)
theorem rty_eq (c : Co) : rtyP c = typP c := by
  obtain ⟨h1, h2⟩ := tp_all c 1
  have no : (∀ z, tyOk z → isOfP z c = false) → typP c = (0, false) := by
    intro h
    unfold typP
    rw [h 0 (.inl rfl), h 1 (.inr (.inl rfl)), h 2 (.inr (.inr (.inl rfl))), h 4 (.inr (.inr (.inr rfl)))]
    rfl
  cases hc : typF 1 c with
  | mk z b =>
  rw [hc] at h1 h2
  cases b with
  | false =>
    have : typP c = (0, false) := no fun x hx => by
      cases hi : isOfP x c with
      | false => rfl
      | true =>
        have := (h1 x hx).1 ((isOfP_eq x c).1 hi).1
        cases this
    rw [this]
    unfold rtyP
    rw [hc]
    cases smaP c <;> rfl
  | true =>
    have hz := h2 rfl
    have hl := lef_all c 1 2000 (by rw [hc]) (by omega)
    have hs : smaP c = decide (szC c ≤ 2000) := by
      unfold smaP
      by_cases h : szC c ≤ 2000
      · rw [hl.1 h, decide_eq_true h, decide_eq_true (by omega)]
      · rw [decide_eq_false h, decide_eq_false (by have := hl.2 (by omega); omega)]
    unfold rtyP
    rw [hs, hc]
    by_cases h : szC c ≤ 2000
    · have hi : ∀ x, tyOk x → isOfP x c = (x == z) := by
        intro x hx
        rw [Bool.eq_iff_iff, isOfP_eq, h1 x hx, beq_iff_eq]
        simp only [Prod.mk.injEq, and_true]
        exact ⟨fun h => h.1.symm, fun e => ⟨e.symm, h⟩⟩
      rw [decide_eq_true h]
      unfold typP
      rw [hi 0 (.inl rfl), hi 1 (.inr (.inl rfl)), hi 2 (.inr (.inr (.inl rfl))), hi 4 (.inr (.inr (.inr rfl)))]
      rcases hz with e | e | e | e <;> (have e' : z = _ := e; subst e'; rfl)
    · rw [decide_eq_false h]
      exact (no fun x hx => by
        cases hi : isOfP x c with
        | false => rfl
        | true => exact absurd ((isOfP_eq x c).1 hi).2 h).symm
theorem typ_right {c : Co} (h : (typP c).2 = true) : (typF 1 c).2 = true ∧ szC c ≤ 2000 := by
  obtain ⟨want, -, hi⟩ := typ_ex h
  refine ⟨?_, ((isOfP_eq want c).1 hi).2⟩
  rw [← rty_eq] at h
  unfold rtyP at h
  cases hs : smaP c with
  | false => rw [hs] at h; cases h
  | true =>
    rw [hs, cond_true] at h
    cases hc : (typF 1 c).2 with
    | true => rfl
    | false => rw [hc] at h; cases h
end Go.Proofs.YtebikhfjmpjpjaaGreatDoor
namespace Go.Proofs.YtebikhfjmpjpjaaGreatDoor
open Go Go.RowKit

section
variable {P : Program} {F : Exit → Act → World → Prop} {Inv : World → Prop} {s : St}
/-- What an append of cells that are known does. -/
theorem append_coreA {base : Nat} {t e ty : TypeId} {size bytes : Nat} {v : Value} {n : Nat} {xs : List Value} {a : Addr} {m c : Nat} {news : List Value} {w : World}
    (hown : w.ownsRow base e size v n xs) (hbase : base ≤ w.heap.size) (hl : news.length = m * size) (hnews : ∀ j u, news[j]? = some u → w.cell? (a.add j) = some u) (h1 : ∀ u ∈ news, u.oneCell' = true) (hm0 : v ≠ .slice none 0 0 ∨ 0 < m) (h63 : n + m ≤ maxLen) (hbytes : (n + m) * bytes ≤ 140737488355328)
    (hel : elOk P t e size bytes = true) : ∃ b c' w', (Builtin.append_ #[t, t] ty #[v, .slice (some a) m c]).run P w = .ok (.slice (some ⟨b, 0, none⟩) (n + m) c') w' ∧ w'.ownsRow base e size (.slice (some ⟨b, 0, none⟩) (n + m) c') (n + m) (xs ++ news) ∧ w.grownBy w' v.ownBlock ∧ ((Value.slice (some ⟨b, 0, none⟩) (n + m) c').ownBlock = v.ownBlock ∨ (Value.slice (some ⟨b, 0, none⟩) (n + m) c').ownBlock = some w.heap.size) := by
  unfold elOk at hel
  simp only [Bool.and_eq_true, decide_eq_true_eq] at hel
  obtain ⟨⟨hu, hi⟩, hsz⟩ := hel
  cases hu1 : P.underlying t with
  | none => rw [hu1] at hu; cases hu
  | some d =>
    rw [hu1] at hu
    obtain rfl : d = .slice e := by
      cases d <;> simp at hu
      rw [hu]
    cases hi1 : P.info? e with
    | none => rw [hi1] at hi; cases hi
    | some i =>
      rw [hi1] at hi
      simp only [Bool.and_eq_true, beq_iff_eq] at hi
      cases hz1 : i.zero with
      | none => rw [hz1] at hi; simp at hi
      | some z0 =>
        rw [hz1] at hi
        obtain ⟨v', w', hrun, hown', hgr, hnil, hob⟩ := run_append_own_at (P := P) (w := w) base t ty e i z0 size bytes hu1 hi1 hz1 hi.1.1 hi.1.2 (eq_of_beq hi.2) hsz v n xs hown a m c news hl hnews h1 h63 hbytes hbase
        obtain ⟨b, c', rfl⟩ : ∃ b c', v' = .slice (some ⟨b, 0, none⟩) (n + m) c' := by
          rcases hown'.2 with ⟨h0, -⟩ | ⟨g, cap, cur, e, -⟩
          · obtain ⟨h2, h3⟩ := hnil.1 h0
            rcases hm0 with h4 | h4
            · exact absurd h2 h4
            · omega
          · exact ⟨_, _, e⟩
        exact ⟨b, c', w', hrun, hown', hgr, hob⟩
end
end Go.Proofs.YtebikhfjmpjpjaaGreatDoor
namespace Go.Proofs.YtebikhfjmpjpjaaGreatDoor
open Go Go.RowKit

theorem cell_same {w w' : World} {b o : Nat} (h : w'.heap[b]? = w.heap[b]?) : w'.cell? ⟨b, o, none⟩ = w.cell? ⟨b, o, none⟩ := by
  unfold World.cell?
  rw [h]
theorem Cl4.same {w w' : World} {b o : Nat} {v : Value} (h : Cl4 w b o v) (e : w'.heap[b]? = w.heap[b]?) : Cl4 w' b o v := by
  obtain ⟨op, k, s, u, h1, h2, h3, h4, h5⟩ := h
  exact ⟨op, k, s, u, h1, (cell_same e).trans h2, (cell_same e).trans h3, (cell_same e).trans h4, (cell_same e).trans h5⟩
theorem blk_of {w : World} {b : Nat} (h : b < w.heap.size) : ∃ ob, w.heap[b]? = some ob := ⟨w.heap[b], by simp [h]⟩
end Go.Proofs.YtebikhfjmpjpjaaGreatDoor
namespace Go.Proofs.YtebikhfjmpjpjaaGreatDoor
open Go Go.RowKit

section
variable {P : Program} {F : Exit → Act → World → Prop} {Inv : World → Prop} {s : St}
def skS (I : Sem Unit) : Sem Next := do I; pure .skip
theorem skS_run {I : Sem Unit} {w w' : World} (h : I.run P w = .ok () w') : (skS I).run P w = .ok .skip w' := by
  unfold skS
  simp only [Sem.run_bind, h, Result.andThen_ok, Sem.run_pure]
/-- A store that is known otherwise. -/
theorem Goes.sto (I : Sem Unit)
 (hr : ∀ w, Holds s.mem w → s.mem.ids.Nodup → Stay s.mem.ids w Inv → ∃ w' Inv' m, I.run P w = .ok () w' ∧ Holds m w' ∧ m.ids.Nodup ∧ Stay m.ids w' Inv' ∧ Goes P F Inv' (put s undef m)) (ho : (nextOp s).map (fun q => execOp (evalL s.tmps) q.2.1) = some (skS I) := by kernel_rfl) (hw : wants s = true := by kernel_rfl) : Goes P F Inv s := by
  intro w hm hn hI
  cases hno : nextOp s with
  | none => rw [hno] at ho; cases ho
  | some q =>
    obtain ⟨ops, o', rest, res, k⟩ := q
    rw [hno] at ho
    have ho : execOp (evalL s.tmps) o' = skS I := by simpa using ho
    rw [nextOp_todo hno]
    show wpList P ops (QK P F k) (o' :: rest) ⟨s.tmps.toArray, []⟩ w
    refine wpList_step fun K hK => ?_
    rw [if_pos (wants_ok hno hw)]
    unfold Oper.wp
    obtain ⟨w', Inv', m, he, h1, h2, h3, h4⟩ := hr w hm hn hI
    have h5 := h4 w'
    unfold put at h5
    rw [hno] at h5
    rw [evalL_eq, ho, skS_run he, Oper.upon_skip]
    refine hK _ _ ?_
    rw [putL_eq]
    exact h5 h1 h2 h3
/-- What lies in the known blocks is spelt otherwise. -/
theorem Goes.objs (m : Mem) (h : ∀ w, Holds s.mem w → Holds m w) (G : Goes P F Inv ⟨s.todo, s.tmps, m⟩) (hi : s.mem.ids = m.ids := by kernel_rfl) : Goes P F Inv s := fun w hm hn hI => G w (h w hm) (hi ▸ hn) (hi ▸ hI)
end
end Go.Proofs.YtebikhfjmpjpjaaGreatDoor
namespace Go.Proofs.YtebikhfjmpjpjaaGreatDoor
open Go Go.RowKit

section
variable {P : Program} {F : Exit → Act → World → Prop} {Inv : World → Prop} {s : St}
/-- The operation i of a drawn region makes a block. -/
def newA (P : Program) (i g : Nat) (s : St) : Option St :=
  match anyOp i s with
  | some o =>
    match srun P (execOp (evalL s.tmps) o) [0] (some g) s.mem [] false with
    | some ⟨.value v, m, [], _⟩ => some (putA i s v m)
    | _ => none
  | none => none
def newSt (P : Program) (i g : Nat) (s : St) : St := (newA P i g s).getD s
theorem TookS.new1 (i n1 : Nat) (js : List Nat) (hn1 : ∀ w, Inv w → n1 ≤ w.heap.size) (h : ∀ g, n1 ≤ g → Goes P F Inv (newSt P i g s)) (h0 : ∀ g, (newA P i g s).map (fun st => sub js st.mem) = some (anyM s) := by intro g; kernel_rfl) (hw : anyWant i s = true := by kernel_rfl) : TookS P F Inv i s := by
  intro ops m0 n l k ht w h1 h2 h3 h4
  have hG := h w.heap.size (hn1 w h3.now)
  have hk := h0 w.heap.size
  unfold newSt at hG
  cases hq : newA P i w.heap.size s with
  | none => rw [hq] at hk; cases hk
  | some st =>
    rw [hq] at hG hk
    simp only [Option.getD_some] at hG
    simp only [Option.map_some, Option.some.injEq] at hk
    have hst := hq
    unfold newA at hq
    unfold anyWant at hw
    unfold anyM at hk
    rw [ht] at hw hk
    simp only at hw hk
    cases ho : ops[i]? with
    | none => rw [ho] at hw; simp at hw
    | some o =>
      have hoo : anyOp i s = some o := by unfold anyOp; rw [ht]; exact ho
      rw [ho] at hw
      simp only at hw
      rw [hoo] at hq
      simp only at hq
      unfold wpOp
      rw [ho]
      simp only [hw, if_true]
      unfold Oper.wp
      rw [evalL_eq]
      split at hq
      · rename_i v m d hs
        cases hq
        obtain ⟨w', D⟩ := srun_did P _ _ _ _ _ _ _ w hs (by simp) h1 h2 (by simp)
        have h9 := hG w'
        unfold putA at h9 hk
        rw [ht] at h9 hk
        simp only [ho] at h9 hk
        rw [D.run, Oper.upon_value, putL_eq]
        have hm' : Holds m0 w' := by rw [← hk]; exact sub_holds D.holds
        exact .inl ⟨hm', h9 D.holds D.nd (h3.ch D.ch D.new) hm'⟩
      · cases hq
/-- It is a call; other blocks are read besides. -/
theorem TookS.callM (i : Nat) (f : FuncId) (args : Array Value) (hr : ∀ w, Holds s.mem w → s.mem.ids.Nodup → Stay s.mem.ids w Inv → Holds (anyM s) w → Calls P f args w fun e w' => ∃ v Inv' m, e = .returned v ∧ Holds (anyM s) w' ∧ Holds m w' ∧ m.ids.Nodup ∧ Stay m.ids w' Inv' ∧ Goes P F Inv' (putA i s v m)) (hw : anyWant i s = true := by kernel_rfl) (ha : askA i s = some (f, args) := by kernel_rfl) (hf : okf P f = true := by kernel_rfl) : TookS P F Inv i s := by
  intro ops m0 n l k ht w h1 h2 h3 h4
  unfold anyWant at hw
  unfold askA anyOp at ha
  unfold anyM at hr
  rw [ht] at hw ha hr
  simp only at hw ha hr
  cases ho : ops[i]? with
  | none => rw [ho] at hw; simp at hw
  | some o =>
    rw [ho] at hw ha
    simp only at hw ha
    unfold wpOp
    rw [ho]
    simp only [hw, if_true]
    unfold Oper.wp
    rw [evalL_eq]
    have he : (execOp (evalL s.tmps) o).run P w = .ok (.enter f args) w := by
      split at ha
      · rename_i x xs ats hop
        split at ha
        · rename_i g first captured hv
          cases ha
          have e : execOp (evalL s.tmps) o = callFunc f (first ++ xs.map (evalL s.tmps) ++ captured) := by
            unfold execOp; rw [hop]; simp only [resolve, hv]; rfl
          rw [e, okf_run hf]
        · cases ha
      · cases ha
    rw [he, Oper.upon_enter]
    refine .inl ?_
    refine (hr w h1 h2 h3 h4).mono fun e w' ⟨v, Inv', m, he, h10, h5, h6, h7, h8⟩ => ?_
    subst he
    have h9 := h8 w'
    unfold putA at h9
    rw [ht] at h9
    simp only [ho] at h9
    show Holds m0 w' ∧ _
    rw [putL_eq]
    exact ⟨h10, h9 h5 h6 h7 h10⟩
theorem TookS.effM (i : Nat) (I : Sem Value) (hr : ∀ w, Holds s.mem w → s.mem.ids.Nodup → Stay s.mem.ids w Inv → Holds (anyM s) w → ∃ v w' Inv' m, I.run P w = .ok v w' ∧ Holds (anyM s) w' ∧ Holds m w' ∧ m.ids.Nodup ∧ Stay m.ids w' Inv' ∧ Goes P F Inv' (putA i s v m)) (hw : anyWant i s = true := by kernel_rfl) (ho' : (anyOp i s).map (execOp (evalL s.tmps)) = some (vS I) := by kernel_rfl) : TookS P F Inv i s := by
  intro ops m0 n l k ht w h1 h2 h3 h0
  unfold anyWant at hw
  unfold anyM at hr
  unfold anyOp at ho'
  rw [ht] at hw hr ho'
  simp only at hw hr ho'
  cases ho : ops[i]? with
  | none => rw [ho] at hw; simp at hw
  | some o =>
    rw [ho] at hw ho'
    simp only [Option.map_some, Option.some.injEq] at hw ho'
    obtain ⟨v, w', Inv', m, he, h10, h4, h5, h6, h7⟩ := hr w h1 h2 h3 h0
    have h9 := h7 w'
    unfold putA at h9
    rw [ht] at h9
    simp only [ho] at h9
    unfold wpOp
    rw [ho]
    simp only [hw, if_true]
    unfold Oper.wp
    rw [evalL_eq, ho', vS_run he, Oper.upon_value, putL_eq]
    exact .inl ⟨h10, h9 h4 h5 h6 h10⟩
end
end Go.Proofs.YtebikhfjmpjpjaaGreatDoor
namespace Go.Proofs.YtebikhfjmpjpjaaGreatDoor
open Go Go.RowKit

section
variable {P : Program} {F : Exit → Act → World → Prop} {Inv : World → Prop} {s : St}
def newO (P : Program) (i g : Nat) (s : St) : Option St :=
  match anyOp i s with
  | some o =>
    match srun P (execOp (evalL s.tmps) o) [0] (some g) s.mem [] false with
    | some ⟨.value v, m, [], _⟩ => some (putA i s v m)
    | _ => none
  | none => none
def newOS (P : Program) (i g : Nat) (s : St) : St := (newO P i g s).getD s
theorem TookS.newI (i : Nat) (h : ∀ g, Goes P F Inv (newOS P i g s)) (h0 : ∀ g, (newO P i g s).map (fun st => st.mem.take s.mem.length) = some s.mem := by intro g; kernel_rfl) (hw : anyWant i s = true := by kernel_rfl) : TookS P F Inv i s := by
  intro ops m0 n l k ht w h1 h2 h3 h4
  have hG := h w.heap.size
  have hk := h0 w.heap.size
  unfold newOS at hG
  cases hq : newO P i w.heap.size s with
  | none => rw [hq] at hk; cases hk
  | some st =>
    rw [hq] at hG hk
    simp only [Option.getD_some] at hG
    simp only [Option.map_some, Option.some.injEq] at hk
    unfold newO at hq
    unfold anyWant at hw
    rw [ht] at hw
    simp only at hw
    cases ho : ops[i]? with
    | none => rw [ho] at hw; simp at hw
    | some o =>
      have hoo : anyOp i s = some o := by unfold anyOp; rw [ht]; exact ho
      rw [ho] at hw
      simp only at hw
      rw [hoo] at hq
      simp only at hq
      unfold wpOp
      rw [ho]
      simp only [hw, if_true]
      unfold Oper.wp
      rw [evalL_eq]
      split at hq
      · rename_i v m d hs
        cases hq
        obtain ⟨w', D⟩ := srun_did P _ _ _ _ _ _ _ w hs (by simp) h1 h2 (by simp)
        have h9 := hG w'
        unfold putA at h9 hk
        rw [ht] at h9 hk
        simp only [ho] at h9 hk
        rw [D.run, Oper.upon_value, putL_eq]
        have hm' : Holds m0 w' := by
          intro j b ob hj
          have hb := h4.at hj
          by_cases hx : b ∈ s.mem.ids
          · obtain ⟨q, hq, e⟩ := List.mem_map.1 hx
            obtain ⟨j', hj'⟩ := List.getElem?_of_mem hq
            have hl : j' < s.mem.length := (List.getElem?_eq_some_iff.1 hj').1
            have e1 := h1.at (b := q.1) (o := q.2) hj'
            have e2 : m[j']? = some (q.1, q.2) := by rw [← hk, List.getElem?_take_of_lt hl] at hj'; exact hj'
            have e3 := D.holds.at e2
            have e : q.1 = b := e
            rw [e] at e1 e3
            rw [hb] at e1
            cases e1
            exact e3
          · rw [D.ch.block b (lt_of_get hb) hx]
            exact hb
        exact .inl ⟨hm', h9 D.holds D.nd (h3.ch D.ch D.new) hm'⟩
      · cases hq
end
end Go.Proofs.YtebikhfjmpjpjaaGreatDoor
namespace Go.Proofs.YtebikhfjmpjpjaaGreatDoor
open Go Go.RowKit

/-- The value v is the term c, all the way down, in blocks of the set A. -/
inductive NcS (A : Nat → Prop) (w : World) : Value → Co → Prop
  | mk (op k : Int) (s : List UInt8) (kids : List Co) (a : Option Addr) (c : Nat) (vs : Nat → Value) (hf : Fits op k s) (hl : kids.length ≤ c ∧ c ≤ 9223372036854775807)
      (hc : ∀ i, i < kids.length → ∃ b o, a = some ⟨b, o, none⟩ ∧ A b ∧ Cl4 w b (o + i * 4) (vs i)) (hk : ∀ i t, kids[i]? = some t → NcS A w (vs i) t) : NcS A w (cv op k s (.slice a kids.length c)) (.mk op k s kids)
theorem NcS.toN {A : Nat → Prop} {n : Nat} {w : World} {v : Value} {t : Co} (h : NcS A w v t) (hA : ∀ x, A x → x < n) : Nc n w v t := by
  induction h with
  | mk op k s kids a c vs hf hl hc hk ih =>
    refine .mk op k s kids a c vs hf hl (fun i hi => ?_) ih
    obtain ⟨b, o, e, hb, h⟩ := hc i hi
    exact ⟨b, o, e, hA b hb, h⟩
theorem NcS.mono {A A' : Nat → Prop} {w : World} {v : Value} {t : Co} (h : NcS A w v t) (hA : ∀ x, A x → A' x) : NcS A' w v t := by
  induction h with
  | mk op k s kids a c vs hf hl hc hk ih =>
    refine .mk op k s kids a c vs hf hl (fun i hi => ?_) ih
    obtain ⟨b, o, e, hb, h⟩ := hc i hi
    exact ⟨b, o, e, hA b hb, h⟩
theorem NcS.later {A : Nat → Prop} {w w' : World} {v : Value} {t : Co} (h : NcS A w v t) (hA : ∀ x, A x → w'.heap[x]? = w.heap[x]?) : NcS A w' v t := by
  induction h with
  | mk op k s kids a c vs hf hl hc hk ih =>
    refine .mk op k s kids a c vs hf hl (fun i hi => ?_) ih
    obtain ⟨b, o, e, hb, h⟩ := hc i hi
    exact ⟨b, o, e, hb, h.same (hA b hb)⟩
theorem NcS.open {A : Nat → Prop} {w : World} {v : Value} {op k : Int} {s : List UInt8} {kids : List Co} (h : NcS A w v (.mk op k s kids)) : ∃ a c, v = cv op k s (.slice a kids.length c) ∧ Fits op k s ∧ (kids.length ≤ c ∧ c ≤ 9223372036854775807) ∧ ∀ i t, kids[i]? = some t → ∃ b o u, a = some ⟨b, o, none⟩ ∧ A b ∧ Cl4 w b (o + i * 4) u ∧ NcS A w u t := by
  cases h with
  | mk _ _ _ _ a c vs hf hl hc hk =>
    refine ⟨a, c, rfl, hf, hl, fun i t ht => ?_⟩
    obtain ⟨b, o, e, hb, h⟩ := hc i (List.getElem?_eq_some_iff.1 ht).1
    exact ⟨b, o, vs i, e, hb, h, hk i t ht⟩
theorem NcS.rehead {A : Nat → Prop} {w : World} {op k op' k' : Int} {s s' : List UInt8} {kids : List Co} {u : Value} (h : NcS A w (cv op k s u) (.mk op k s kids)) (hf : Fits op' k' s') : NcS A w (cv op' k' s' u) (.mk op' k' s' kids) := by
  generalize hv : cv op k s u = v at h
  generalize hc : Co.mk op k s kids = c at h
  cases h with
  | mk _ _ _ _ a c vs _ hl hcl hk =>
    cases hc
    unfold cv at hv
    simp only [Value.agg.injEq, Array.mk.injEq, List.cons.injEq, and_true] at hv
    obtain ⟨-, -, -, rfl⟩ := hv
    exact .mk op' k' s' kids a c vs hf hl hcl hk
theorem NcS.leaf {A : Nat → Prop} {w : World} {op k : Int} (hf : Fits op k []) : NcS A w (cv op k [] (.slice none 0 0)) (.mk op k [] []) := .mk op k [] [] none 0 (fun _ => undef) hf ⟨by simp, by omega⟩ (fun i hi => by simp at hi) (fun i t ht => by simp at ht)
/-- A row that may be written. -/
def Unf (w : World) (b : Nat) : Prop := ∃ cs t, w.heap[b]? = some (.cells cs t (0, 0))
theorem Unf.lt {w : World} {b : Nat} (h : Unf w b) : b < w.heap.size := by
  obtain ⟨cs, t, h⟩ := h
  exact (Array.getElem?_eq_some_iff.1 h).1
theorem Unf.same {w w' : World} {b : Nat} (h : Unf w b) (e : w'.heap[b]? = w.heap[b]?) : Unf w' b := by
  obtain ⟨cs, t, h⟩ := h
  exact ⟨cs, t, e.trans h⟩
/-- A row that was made in between. -/
def New (w w' : World) (x : Nat) : Prop := (w.heap.size ≤ x ∧ x < w'.heap.size) ∧ Unf w' x
/-- What was made since. -/
def Since (A : Nat → Prop) (w w' : World) : Nat → Prop := fun x => A x ∨ New w w' x
theorem NcS.bel {A : Nat → Prop} {w w' : World} {v : Value} {t : Co} (h : NcS A w v t) (hA : ∀ x, A x → x < w.heap.size) (hB : Below w.heap.size w w') : NcS A w' v t := h.later fun x hx => hB.block x (hA x hx)
end Go.Proofs.YtebikhfjmpjpjaaGreatDoor
namespace Go.Proofs.YtebikhfjmpjpjaaGreatDoor
open Go Go.ChangeShapes Go.WideShapes Go.ChangeAt Go.WideMaps Go.WideElems Go.RowKit Go.ChangeMaps Go.Deep

theorem own : ownKnob Tryz.prog.godebug = none := by kernel_chk
theorem laidOut : laidOutB Tryz.prog = true := by kernel_chk
theorem spot_none {w : World} {ad : Addr} {v : Value} (h : w.cell? (ad.add 0) = some v) : ad.spot = none := by
  simpa [Addr.add] using World.cell?_spot h
end Go.Proofs.YtebikhfjmpjpjaaGreatDoor
