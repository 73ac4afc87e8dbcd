/- causal: is it a right core term of a type? -/
import Derived.Test.YtfblnjidghijaaaCTerms
import Derived.Test.YtfblnjidghijaaaERange
namespace Go.Proofs.Ytfblnjidghijaaa
open Go Go.RowKit

/-- What the round's state is: the loop's record, and what the closure keeps. -/
def IsJ (n₀ l D g4 g5 gs gw : Nat) (fid : FuncId) (s : St) (b : Bool) (st : Int × List Int) (O : List Nat) (w : World) : Prop :=
  w.heap[l]? = some (.loop (recOf fid D s (bif b then .ready else .done) (bif b then none else some .ret))) ∧ w.heap[D]? = some (.deferred (some [])) ∧ w.heap[g4]? = some (.cells #[.bool false] 4 (0, 0)) ∧ w.heap[g5]? = some (.cells #[fitV gs gw] 44 (0, 0)) ∧
    ∃ O', FsJ n₀ gs gw st O' w ∧ O = l :: D :: g4 :: g5 :: O' ∧ O.Nodup ∧ n₀ ≤ l ∧ n₀ ≤ D ∧ n₀ ≤ g4 ∧ n₀ ≤ g5
theorem IsJ.stay {n₀ l D g4 g5 gs gw : Nat} {fid : FuncId} {s : St} {b : Bool} {st : Int × List Int} {O : List Nat} {w w' : World} (h : IsJ n₀ l D g4 g5 gs gw fid s b st O w) (hO : ∀ x ∈ O, w'.heap[x]? = w.heap[x]?) : IsJ n₀ l D g4 g5 gs gw fid s b st O w' := by
  obtain ⟨h1, h2, h3, h4, O', h5, rfl, h6⟩ := h
  exact ⟨(hO l (by simp)).trans h1, (hO D (by simp)).trans h2, (hO g4 (by simp)).trans h3, (hO g5 (by simp)).trans h4, O', h5.stay (fun x hx => hO x (by simp [hx])), rfl, h6⟩
theorem IsJ.low {n₀ l D g4 g5 gs gw : Nat} {fid : FuncId} {s : St} {b : Bool} {st : Int × List Int} {O : List Nat} {w : World} (h : IsJ n₀ l D g4 g5 gs gw fid s b st O w) : ∀ x ∈ O, n₀ ≤ x ∧ x < w.heap.size := by
  obtain ⟨h1, h2, h3, h4, O', h5, rfl, -, h6, h7, h8, h9⟩ := h
  intro x hx
  simp only [List.mem_cons] at hx
  rcases hx with rfl | rfl | rfl | rfl | hx
  · exact ⟨h6, lt_of_get h1⟩
  · exact ⟨h7, lt_of_get h2⟩
  · exact ⟨h8, lt_of_get h3⟩
  · exact ⟨h9, lt_of_get h4⟩
  · exact h5.low x hx
/-- The function's regions. -/
noncomputable def rI (i : Nat) : Array Oper := regAt (Try.f19.body.getD .skip) i
noncomputable def isA : Code := .seq (.region 3 (rI 3) false) (.region 4 (rI 4) false)
noncomputable def isB : Code := .block 1 (.seq (.region 5 (rI 5) false) (.cond (.tmp 18) (.seq (.region 6 (rI 6) false) .ret) .skip))
def isT (v : Value) (want : Int) (g2 g4 g5 gs gw gt : Nat) (x y : Value) : List Value := [v, .int .i64 want, .pointer (some ⟨g2, 0, none⟩), undef, .pointer (some ⟨g4, 0, none⟩), .pointer (some ⟨g5, 0, none⟩), undef, undef, .int .i64 want, fitV gs gw, v, termsV gt, x, y, undef, undef, undef, undef, undef]
theorem FsJ.more {n n' gs gw : Nat} {st : Int × List Int} {O : List Nat} {w : World} (h : FsJ n gs gw st O w) (hn : n' ≤ n) : FsJ n' gs gw st O w := by
  obtain ⟨gb, cap, cur, h0, h1, h2, h3⟩ := h
  exact ⟨gb, cap, cur, h0, h1, fun x hx => Nat.le_trans hn (h2 x hx), h3⟩
set_option maxRecDepth 100000 in
seal orT orG rI in
theorem isOf_round {n₀ l D g2 g4 g5 gs gw gt : Nat} {fid : FuncId} {s : St} {v0 : Value} {want : Int} (hT : s.tmps = isT v0 want g2 g4 g5 gs gw gt undef undef) (hps : rgPs s = #[12, 13]) (hA : rgAssign s = isA) (hB : rgBody s = isB) : Yl n₀ l fitF fitOk (IsJ n₀ l D g4 g5 gs gw fid s) where
  stay := fun b st O w w' h hO => h.stay hO
  low := fun b st O w h => h.low
  yield := by
    intro st O W d v c hok hJ hN hn
    cases c with
    | mk op k t kids =>
    obtain ⟨a, cc, rfl, hf, -, -⟩ := hN.open
    obtain ⟨sz, stk⟩ := st
    obtain ⟨want', rest, rfl⟩ : ∃ x y, stk = x :: y := by cases stk with | nil => exact absurd rfl hok.1 | cons x y => exact ⟨x, y, rfl⟩
    obtain ⟨h1, h2, h3, h4, O', h5, rfl, hnd, i1, i2, i3, i4⟩ := hJ
    simp only [cond_true] at h1
    have hlo := h5.low
    have hl1 := lt_of_get h1
    have hl4 := lt_of_get h3
    have hl5 := lt_of_get h4
    have hlD := lt_of_get h2
    simp only [List.nodup_cons, List.mem_cons, not_or] at hnd
    obtain ⟨⟨nD, n4, n5, nO⟩, ⟨m4, m5, mO⟩, ⟨k5, kO⟩, jO, ndO⟩ := hnd
    refine round_of (T := isT v0 want g2 g4 g5 gs gw gt (.int .i64 d) (cv op k t (.slice a kids.length cc))) h1 (by rw [hps]; rfl) (by rw [hps, hT]; kernel_rfl) ?_
    rw [hA]
    refine wpIn_seq (wpIn_region ?_)
    refine wi_runs (m := []) [(0, 0)] (rest := []) Holds.nil (by simp [Mem.ids]) fun w1 _ _ _ _ d1 => ?_
    have hw1 := d1 (by kernel_rfl)
    subst w1
    show (Code.region 4 (rI 4) false).wpIn _ _ _ _ _ _
    refine wpIn_region ?_
    rw [show List.range (rI 4).size = [0, 1] by kernel_rfl]
    refine wi_new 0 (rest := [1]) (m := []) Holds.nil (by simp [Mem.ids]) fun g7 w2 hg7 m2 n2 c2 _ => ?_
    refine wi_runs [(1, 0)] (rest := []) m2 n2 fun w3 m3 n3 c3 _ _ => ?_
    have e2 : (orG Try.prog (rI 4) 0 g7 (orT Try.prog (rI 3) [(0, 0)] (isT v0 want g2 g4 g5 gs gw gt (.int .i64 d) (cv op k t (.slice a kids.length cc))) []).T []).m.ids = [g7] := by kernel_rfl
    have q1 : Ch [] W w3 := c2.trans c3 (fun x hx => .inr (by rw [e2, List.mem_singleton] at hx; omega))
    have r7 : w3.heap[g7]? = some (cO op k t (.slice a kids.length cc)) := m3.get 0
    show ∃ w₂, _ ∧ _
    have hl3 : w3.heap[l]? = some (.loop (recOf fid D s .ready none)) := (q1.block l hl1 (by simp)).trans h1
    refine ⟨_, run_beginRound hl3 rfl, ?_⟩
    have hl3' := lt_of_get hl3
    have hs3 : W.heap.size ≤ w3.heap.size := q1.size
    have c4 := Ch.put w3 l (.loop { recOf fid D s .ready none with state := .busy })
    have l4 : (w3.putObj l (.loop { recOf fid D s .ready none with state := .busy })).heap[l]? = some (.loop { recOf fid D s .ready none with state := .busy }) := World.putObj_heap_same hl3'
    generalize w3.putObj l (.loop { recOf fid D s .ready none with state := .busy }) = w4 at c4 l4 ⊢
    have q4 : Ch [l] W w4 := (q1.mono (fun x hx => by cases hx)).trans c4 (fun x hx => .inl hx)
    have r7' : w4.heap[g7]? = some (cO op k t (.slice a kids.length cc)) := (c4.block g7 (lt_of_get r7) (by simp; omega)).trans r7
    have f5 : w4.heap[g5]? = some (.cells #[fitV gs gw] 44 (0, 0)) := (q4.block g5 hl5 (by simp; exact fun e => n5 e.symm)).trans h4
    have f4 : w4.heap[g4]? = some (.cells #[.bool false] 4 (0, 0)) := (q4.block g4 hl4 (by simp; exact fun e => n4 e.symm)).trans h3
    have fD : w4.heap[D]? = some (.deferred (some [])) := (q4.block D hlD (by simp; exact fun e => nD e.symm)).trans h2
    have f6 : FsJ n₀ gs gw (sz, want' :: rest) O' w4 := h5.stay (fun x hx => q4.block x (hlo x hx).2 (by simp; rintro rfl; exact nO hx))
    rw [hB]
    refine wpIn_block (wpIn_seq (wpIn_region ?_))
    rw [show List.range (rI 5).size = [0, 1, 2, 3, 4] by kernel_rfl]
    refine wi_runs (m := [(g5, .cells #[fitV gs gw] 44 (0, 0)), (g7, cO op k t (.slice a kids.length cc))]) [(0, 0), (1, 0), (2, 1)] (rest := [3, 4]) (fun j b o h => by match j, h with | 0, h => (cases h; exact f5) | 1, h => (cases h; exact r7')) (by simp [Mem.ids]; omega) fun w5 _ _ _ _ d5 => ?_
    obtain rfl := d5 (by kernel_rfl)
    refine wi_call (f := 44) (first := #[]) (captured := #[.pointer (some ⟨gs, 0, none⟩), .pointer (some ⟨gw, 0, none⟩)]) (args := #[.int .i64 d, cv op k t (.slice a kids.length cc)]) (d := some 17) (by kernel_rfl) (by kernel_rfl) ?_
    refine (fit_any f6 hok d op k t kids a cc hf.s (Nat.le_trans hn q4.size)).mono fun e w6 ⟨he, O2, j1, j2, j3⟩ => ⟨_, he, ?_⟩
    have hlo6 := f6.low
    have z4 : w6.heap[l]? = some (.loop { recOf fid D s .ready none with state := .busy }) := (j2.block l (lt_of_get l4) nO).trans l4
    have z5 : w6.heap[g4]? = some (.cells #[.bool false] 4 (0, 0)) := (j2.block g4 (lt_of_get f4) kO).trans f4
    have z6 : w6.heap[g5]? = some (.cells #[fitV gs gw] 44 (0, 0)) := (j2.block g5 (lt_of_get f5) jO).trans f5
    have z7 : w6.heap[D]? = some (.deferred (some [])) := (j2.block D (lt_of_get fD) mO).trans fD
    have hsz5 : W.heap.size ≤ w5.heap.size := q4.size
    have newO : ∀ y, y < W.heap.size → y ∉ O' → y ∉ O2 := fun y hy hO hx => by
      rcases j3 y hx with h | h
      · exact hO h
      · omega
    have q6 : Ch (l :: D :: g4 :: g5 :: O') W w6 := (q4.mono (fun x hx => by rw [List.mem_singleton] at hx; simp [hx])).trans j2 (fun x hx => .inl (by simp [hx]))
    have sub6 : Sub W (l :: D :: g4 :: g5 :: O') (l :: D :: g4 :: g5 :: O2) := by
      intro x hx
      simp only [List.mem_cons] at hx ⊢
      rcases hx with h | h | h | h | h
      · exact .inl (.inl h)
      · exact .inl (.inr (.inl h))
      · exact .inl (.inr (.inr (.inl h)))
      · exact .inl (.inr (.inr (.inr (.inl h))))
      · rcases j3 x h with h | h
        · exact .inl (.inr (.inr (.inr (.inr h))))
        · exact .inr (by omega)
    have hndO2 : O2.Nodup := by obtain ⟨_, _, _, rfl, h, _⟩ := j1; exact h
    have hnd2 : (l :: D :: g4 :: g5 :: O2).Nodup := by
      simp only [List.nodup_cons, List.mem_cons, not_or]
      exact ⟨⟨nD, n4, n5, newO l hl1 nO⟩, ⟨m4, m5, newO D hlD mO⟩, ⟨k5, newO g4 hl4 kO⟩, newO g5 hl5 jO, hndO2⟩
    have hlo2 := j1.low
    have fin : ∀ w8 : World, Ch [l, g4] w6 w8 → w8.heap[g4]? = some (.cells #[.bool false] 4 (0, 0)) → ∀ b, w8.heap[l]? = some (.loop (recOf fid D s (bif b then .ready else .done) (bif b then none else some .ret))) → IsJ n₀ l D g4 g5 gs gw fid s b (fitF (sz, want' :: rest) d (.mk op k t kids)).1 (l :: D :: g4 :: g5 :: O2) w8 ∧ Ch (l :: D :: g4 :: g5 :: O') W w8 := by
      intro w8 hc h4' b hl'
      refine ⟨⟨hl', (hc.block D (lt_of_get z7) (by simp; exact ⟨fun e => nD e.symm, m4⟩)).trans z7, h4', (hc.block g5 (lt_of_get z6) (by simp; exact ⟨fun e => n5 e.symm, fun e => k5 e.symm⟩)).trans z6, O2, j1.stay (fun x hx => hc.block x (hlo2 x hx).2 ?_), rfl, hnd2, i1, i2, i3, i4⟩, q6.trans hc (fun x hx => .inl ?_)⟩
      · simp only [List.mem_cons, List.not_mem_nil, or_false, not_or]
        exact ⟨fun e => newO l hl1 nO (e ▸ hx), fun e => newO g4 hl4 kO (e ▸ hx)⟩
      · simp only [List.mem_cons, List.not_mem_nil, or_false] at hx ⊢
        rcases hx with h | h
        · exact .inl h
        · exact .inr (.inr (.inl h))
    cases hfs : fitF (sz, want' :: rest) d (.mk op k t kids) with
    | mk st' b =>
    rw [hfs] at fin
    refine wi_runs (m := []) [(4, 0)] (rest := []) Holds.nil (by simp [Mem.ids]) fun w7 _ _ _ _ d7 => ?_
    obtain rfl := d7 (by kernel_rfl)
    show (Code.cond _ _ _).wpIn _ _ _ _ _ _
    cases b with
    | true =>
      refine wpIn_cond_false (by rw [evalL_eq]; kernel_rfl) (wpIn_skip ?_)
      show ∃ v w', _ ∧ _
      refine ⟨_, _, run_endRound none z4, rfl, l :: D :: g4 :: g5 :: O2, ?_⟩
      obtain ⟨y1, y2⟩ := fin (w7.putObj l (.loop { { recOf fid D s .ready none with state := .busy } with state := .ready, pending := none })) ((Ch.put _ _ _).mono (fun x hx => by rw [List.mem_singleton] at hx; simp [hx])) ((World.putObj_heap_other (fun e => n4 e.symm)).trans z5) true (World.putObj_heap_same (lt_of_get z4))
      exact ⟨y1, y2, sub6⟩
    | false =>
      refine wpIn_cond_true (by rw [evalL_eq]; kernel_rfl) (wpIn_seq (wpIn_region ?_))
      refine wi_runs (m := [(g4, .cells #[.bool false] 4 (0, 0))]) [(0, 0)] (rest := []) (fun j b o h => by match j, h with | 0, h => (cases h; exact z5)) (by simp [Mem.ids]) fun w8 m8 _ c8 _ _ => ?_
      show Code.ret.wpIn _ _ _ _ _ _
      refine wpIn_ret ?_
      have z8 : w8.heap[l]? = some (.loop { recOf fid D s .ready none with state := .busy }) := (c8.block l (lt_of_get z4) (by simp [Mem.ids]; exact n4)).trans z4
      have z9 : w8.heap[g4]? = some (.cells #[.bool false] 4 (0, 0)) := m8.get 0
      show ∃ v w', _ ∧ _
      refine ⟨_, _, run_endRound (some .ret) z8, rfl, l :: D :: g4 :: g5 :: O2, ?_⟩
      obtain ⟨y1, y2⟩ := fin (w8.putObj l (.loop { { recOf fid D s .ready none with state := .busy } with state := .done, pending := some .ret })) ((c8.mono (fun x hx => by simp [Mem.ids] at hx; simp [hx])).trans (Ch.put _ _ _) (fun x hx => .inl (by rw [List.mem_singleton] at hx; simp [hx]))) ((World.putObj_heap_other (fun e => n4 e.symm)).trans z9) false (World.putObj_heap_same (lt_of_get z8))
      exact ⟨y1, y2, sub6⟩
theorem FsJ.apart {L : List Nat} {A : World → Prop} {n gs gw : Nat} {st : Int × List Int} {O : List Nat} {w : World} (h : Stay L w (fun w' => A w' ∧ FsJ n gs gw st O w')) {g : Nat} (hg : g ∈ L) (hl : g < w.heap.size) : g ∉ O := by
  intro hO
  have hc : Ch L w { w with heap := w.heap.setIfInBounds g (.map #[] 0) } := ⟨rfl, rfl, rfl, by simp, fun i _ hx => by
    show (w.heap.setIfInBounds g _)[i]? = _
    exact Array.getElem?_setIfInBounds_ne (fun (h : g = i) => hx (h ▸ hg))⟩
  obtain ⟨gb, cap, cur, rfl, -, -, h1, h2, h3, -⟩ := (h _ hc).2
  have e : (w.heap.setIfInBounds g (.map #[] 0))[g]? = some (.map #[] 0) := Array.getElem?_setIfInBounds_self_of_lt hl
  simp only [List.mem_cons, List.not_mem_nil, or_false] at hO
  rcases hO with rfl | rfl | rfl
  · rw [show ({ w with heap := w.heap.setIfInBounds g (.map #[] 0) } : World).heap[g]? = some (.map #[] 0) from e] at h1; cases h1
  · rw [show ({ w with heap := w.heap.setIfInBounds g (.map #[] 0) } : World).heap[g]? = some (.map #[] 0) from e] at h2; cases h2
  · rw [show ({ w with heap := w.heap.setIfInBounds g (.map #[] 0) } : World).heap[g]? = some (.map #[] 0) from e] at h3; cases h3
def isOfP (want : Int) (c : Co) : Bool := (walkP fitF (0, [want]) 1 c).2
set_option maxRecDepth 100000 in
seal rn rnN rnS Goes ans atEnd put0 putM opened putA0 putA oneSt st0 orT orG in
theorem isOf_any (want : Int) {c : Co} {v : Value} {w : World} (hN : Nc w.heap.size w v c) (hsafe : safeP fitF fitOk (0, [want]) 1 c) : Calls Try.prog 19 #[v, .int .i64 want] w fun e w' => e = .returned (.bool (isOfP want c)) ∧ Below w.heap.size w w' := by
  obtain ⟨op, k, t, a, N, cc, rfl⟩ := hN.cells
  refine Goes.enterM Try.func19 [] (fun w' => Ch [] w w' ∧ True) Holds.nil (by simp [Mem.ids]) (fun w' hc => ⟨hc, trivial⟩) ?_
  refine Goes.runN2 bpM_noP 2000 [] [] trivial fun g2 g4 => ?_
  refine Goes.call 35 #[.int .i64 want] fun w1 hm1 hn1 hI1 => (fitting_any want w1).mono fun e w2 ⟨gs, gw, O, he, hJ, hB⟩ => ?_
  have f2 : w.heap.size ≤ g2 := fresh_of hI1 (g := g2) (ids_get (j := 0) (o := cO op k t (.slice a N cc)) (by kernel_rfl)) (by simp)
  have f4 : w.heap.size ≤ g4 := fresh_of hI1 (g := g4) (ids_get (j := 1) (o := .cells #[.bool false] 4 (0, 0)) (by kernel_rfl)) (by simp)
  have hne : [g2, g4].Nodup := Nodup.of_ids hn1
  have b2 : w2.heap[g2]? = some (cO op k t (.slice a N cc)) := (hB.block g2 (lt_of_get (hm1.get 0 (o := cO op k t (.slice a N cc))))).trans (hm1.get 0)
  have l4 : g4 < w1.heap.size := lt_of_get (hm1.get 1 (b := g4) (o := .cells #[.bool false] 4 (0, 0)))
  have l2 : g2 < w1.heap.size := lt_of_get (hm1.get 0 (o := cO op k t (.slice a N cc)))
  have b4 : w2.heap[g4]? = some (.cells #[.bool false] 4 (0, 0)) := (hB.block g4 l4).trans (hm1.get 1)
  have hO1 : ∀ x ∈ O, w1.heap.size ≤ x ∧ x < w2.heap.size := hJ.low
  refine ⟨_, fun w' => Ch [] w w' ∧ FsJ w1.heap.size gs gw (0, [want]) O w', [(g2, cO op k t (.slice a N cc)), (g4, .cells #[.bool false] 4 (0, 0))], he, fun j b o h => by match j, h with | 0, h => (cases h; exact b2) | 1, h => (cases h; exact b4), hne, fun w3 hc => ⟨?_, hJ.stay (fun x hx => hc.block x (hO1 x hx).2 (fun hm => by
    simp only [Mem.ids, List.map_cons, List.map_nil, List.mem_cons, List.not_mem_nil, or_false] at hm
    have := (hO1 x hx).1
    rcases hm with rfl | rfl <;> omega))⟩, ?_⟩
  · refine (hI1.now.1.trans (L' := []) ⟨hB.os, hB.tape, hB.output, hB.size, fun i hi _ => hB.block i hi⟩ (fun x hx => by cases hx)).trans hc (fun x hx => .inr ?_)
    simp only [Mem.ids, List.map_cons, List.map_nil, List.mem_cons, List.not_mem_nil, or_false] at hx
    rcases hx with rfl | rfl <;> assumption
  refine Goes.runN1 bpM_noP 2000 [2, 0] [] trivial fun g5 => ?_
  refine Goes.call 36 #[cv op k t (.slice a N cc)] fun w3 hm3 hn3 hI3 => (terms_any op k t a N cc w3).mono fun e w4 ⟨gt, he4, hgt, hgtn, hB4⟩ => ?_
  have x2 : w3.heap[g2]? = some (cO op k t (.slice a N cc)) := hm3.get 0
  have x4 : w3.heap[g4]? = some (.cells #[.bool false] 4 (0, 0)) := hm3.get 1
  have x5 : w3.heap[g5]? = some (.cells #[fitV gs gw] 44 (0, 0)) := hm3.get 2
  have f5 : w.heap.size ≤ g5 := fresh_of hI3 (g := g5) (ids_get (j := 2) (o := .cells #[fitV gs gw] 44 (0, 0)) (by kernel_rfl)) (by simp)
  have hids3 : [g2, g4, g5].Nodup := Nodup.of_ids hn3
  have hap : ∀ g ∈ [g2, g4, g5], g ∉ O := fun g hg => FsJ.apart hI3 (L := _) (by rw [show Mem.ids _ = [g2, g4, g5] by kernel_rfl]; exact hg) (by
    simp only [List.mem_cons, List.not_mem_nil, or_false] at hg
    rcases hg with rfl | rfl | rfl
    · exact lt_of_get x2
    · exact lt_of_get x4
    · exact lt_of_get x5)
  have y2 := (hB4.block g2 (lt_of_get x2)).trans x2
  have y4 := (hB4.block g4 (lt_of_get x4)).trans x4
  have y5 := (hB4.block g5 (lt_of_get x5)).trans x5
  have hJ4 : FsJ w1.heap.size gs gw (0, [want]) O w4 := hI3.now.2.stay (fun x hx => hB4.block x (hI3.now.2.low x hx).2)
  have hC4 : Ch [] w w4 := hI3.now.1.trans (L' := []) ⟨hB4.os, hB4.tape, hB4.output, hB4.size, fun i hi _ => hB4.block i hi⟩ (fun x hx => by cases hx)
  refine ⟨_, fun w' => Ch [] w w' ∧ FsJ w1.heap.size gs gw (0, [want]) O w' ∧ w'.heap[gt]? = some (cO op k t (.slice a N cc)), [(g2, cO op k t (.slice a N cc)), (g4, .cells #[.bool false] 4 (0, 0)), (g5, .cells #[fitV gs gw] 44 (0, 0))], he4, fun j b o h => by match j, h with | 0, h => (cases h; exact y2) | 1, h => (cases h; exact y4) | 2, h => (cases h; exact y5), hids3, fun w5 hc => ⟨hC4.trans hc (fun x hx => .inr ?_), hJ4.stay (fun x hx => hc.block x (hJ4.low x hx).2 (fun hm => hap x hm hx)), (hc.block gt (lt_of_get hgt) (fun hm => ?_)).trans hgt⟩, ?_⟩
  · simp only [Mem.ids, List.map_cons, List.map_nil, List.mem_cons, List.not_mem_nil, or_false] at hx
    rcases hx with rfl | rfl | rfl <;> assumption
  · have l2' := lt_of_get x2
    have l4' := lt_of_get x4
    have l5' := lt_of_get x5
    simp only [Mem.ids, List.map_cons, List.map_nil, List.mem_cons, List.not_mem_nil, or_false] at hm
    rcases hm with h | h | h <;> omega
  refine Goes.runN bpM_noP 2000 [] [] trivial ?_
  refine Goes.named (isT (cv op k t (.slice a N cc)) want g2 g4 g5 gs gw gt undef undef) [(g2, cO op k t (.slice a N cc)), (g4, .cells #[.bool false] 4 (0, 0)), (g5, .cells #[fitV gs gw] 44 (0, 0))] #[12, 13] isA isB [.blk 0, .code (.seq (.region 7 (rI 7) false) .ret)] fun s0 hT hm0 hps hA hBo hk hev hat => ?_
  refine Goes.range 48 #[.pointer (some ⟨gt, 0, none⟩)] (fun fid w5 hm5 hn5 hI5 W1 hL hD hBW => ?_) (hat.trans (by kernel_rfl)) (hev.trans (by kernel_rfl)) (by kernel_rfl)
  rw [hm0] at hm5 hn5 hI5
  obtain ⟨hC5, hJ5, hgt5⟩ := hI5.now
  have hw15 : w1.heap.size ≤ w5.heap.size := by have := hB.size; have := hI3.now.1.size; have h1 := hI5.now.2.1.low; have := hJ.low; obtain ⟨gb, _, _, rfl, _⟩ := hJ5; have := (h1 gs (by simp)).2; have := (h1 gs (by simp)).1; omega
  have u4 : w5.heap[g4]? = some (.cells #[.bool false] 4 (0, 0)) := hm5.get 1
  have u5 : w5.heap[g5]? = some (.cells #[fitV gs gw] 44 (0, 0)) := hm5.get 2
  have hlow5 := hJ5.low
  have hn1w : w.heap.size ≤ w1.heap.size := hI1.now.1.size
  have hd45 : ¬g4 = g5 := by simp only [List.nodup_cons, List.mem_cons, List.not_mem_nil, or_false, not_or] at hids3; exact hids3.2.1
  have v4 := lt_of_get u4
  have v5 := lt_of_get u5
  have hJW : IsJ w.heap.size (w5.heap.size + 1) w5.heap.size g4 g5 gs gw fid s0 true (0, [want]) ((w5.heap.size + 1) :: w5.heap.size :: g4 :: g5 :: O) W1 := by
    refine ⟨hL, hD, (hBW.block g4 v4).trans u4, (hBW.block g5 v5).trans u5, O, (hJ5.more hn1w).stay (fun x hx => hBW.block x (hlow5 x hx).2), rfl, ?_, by have := hC5.size; omega, hC5.size, f4, f5⟩
    have hndO : O.Nodup := by obtain ⟨_, _, _, rfl, h, _⟩ := hJ5; exact h
    simp only [List.nodup_cons, List.mem_cons, not_or]
    exact ⟨⟨by omega, by omega, by omega, fun h => by have := (hlow5 _ h).2; omega⟩, ⟨by omega, by omega, fun h => by have := (hlow5 _ h).2; omega⟩, ⟨hd45, hap g4 (by simp)⟩, hap g5 (by simp), hndO⟩
  have hBwW : Below w.heap.size w W1 := (hC5.low (fun x hx => by cases hx) (Nat.le_refl _)).trans (hBW.mono hC5.size)
  show Calls Try.prog 48 #[.func (.yield (w5.heap.size + 1)) #[] #[], .pointer (some ⟨gt, 0, none⟩)] W1 _
  refine (iter_any (isOf_round hT hps hA hBo) hsafe hJW (hN.later hBwW) hBwW.size ((hBW.block gt (lt_of_get hgt5)).trans hgt5)).mono fun e w6 ⟨he, O2, hJ2, hC6, hS6⟩ => ?_
  subst he
  have hB6 : Below w.heap.size w w6 := hBwW.trans (hC6.low (fun x hx => (hJW.low x hx).1) hBwW.size)
  cases hr : walkP fitF (0, [want]) 1 c with
  | mk st' b =>
  rw [hr] at hJ2
  have hv : isOfP want c = b := by unfold isOfP; rw [hr]
  rw [hv]
  obtain ⟨p1, p2, p3, p4, O3, p5, rfl, p6, p7, p8, p9, p10⟩ := hJ2
  simp only [List.nodup_cons, List.mem_cons, not_or] at p6
  have hl6 : w5.heap.size + 1 < w6.heap.size := lt_of_get p1
  cases b with
  | true =>
    simp only [cond_true] at p1
    refine ⟨none, _, run_endLoop p1 (by simp [recOf]), ?_⟩
    have hB7 : Below w.heap.size w (w6.putObj (w5.heap.size + 1) (.loop { recOf fid w5.heap.size s0 .ready none with state := .exhausted })) := hB6.trans ((Ch.put _ _ _).low (fun x hx => by rw [List.mem_singleton] at hx; have := hC5.size; omega) hB6.size)
    have z4 : (w6.putObj (w5.heap.size + 1) (.loop { recOf fid w5.heap.size s0 .ready none with state := .exhausted })).heap[g4]? = some (.cells #[.bool false] 4 (0, 0)) := (World.putObj_heap_other (fun e => p6.1.2.1 e.symm)).trans p3
    have zD : (w6.putObj (w5.heap.size + 1) (.loop { recOf fid w5.heap.size s0 .ready none with state := .exhausted })).heap[w5.heap.size]? = some (.deferred (some [])) := (World.putObj_heap_other (fun e => p6.1.1 e.symm)).trans p2
    generalize w6.putObj (w5.heap.size + 1) (.loop { recOf fid w5.heap.size s0 .ready none with state := .exhausted }) = w7 at hB7 z4 zD ⊢
    show QK _ _ s0.todo.tail _ _ _
    rw [hk, hT]
    show (Code.seq _ _).wp _ _ _ _
    refine (wpIn_wide (n := 0)).1 (wpIn_seq (wpIn_region ?_))
    refine wi_runs (r := none) (m := [(g4, .cells #[.bool false] 4 (0, 0))]) [(0, 0)] (rest := []) (fun j b o h => by match j, h with | 0, h => (cases h; exact z4)) (by simp [Mem.ids]) fun w8 m8 n8 c8 _ _ => ?_
    show Code.ret.wpIn Fence.wide _ _ _ _ _
    refine wpIn_ret ?_
    have q4 : w8.heap[g4]? = some (.cells #[.bool true] 4 (0, 0)) := m8.get 0
    refine leave_mark [0] (.bool true) [(g4, .cells #[.bool true] 4 (0, 0))] ((c8.block w5.heap.size (lt_of_get zD) (by simp [Mem.ids]; omega)).trans zD) (fun j b o h => by match j, h with | 0, h => (cases h; exact (World.putObj_heap_other (by omega)).trans q4)) (by simp [Mem.ids]) ⟨rfl, ?_⟩
    exact (hB7.trans (c8.low (fun x hx => by simp [Mem.ids] at hx; omega) hB7.size)).trans ((Ch.put _ _ _).low (fun x hx => by rw [List.mem_singleton] at hx; have := hC5.size; omega) (by have := hB7.size; have := c8.size; omega))
  | false =>
    simp only [cond_false] at p1
    refine ⟨some .ret, _, run_endLoop p1 (by simp [recOf]), ?_⟩
    have hB7 : Below w.heap.size w (w6.putObj (w5.heap.size + 1) (.loop { recOf fid w5.heap.size s0 .done (some .ret) with state := .exhausted })) := hB6.trans ((Ch.put _ _ _).low (fun x hx => by rw [List.mem_singleton] at hx; have := hC5.size; omega) hB6.size)
    have z4 : (w6.putObj (w5.heap.size + 1) (.loop { recOf fid w5.heap.size s0 .done (some .ret) with state := .exhausted })).heap[g4]? = some (.cells #[.bool false] 4 (0, 0)) := (World.putObj_heap_other (fun e => p6.1.2.1 e.symm)).trans p3
    have zD : (w6.putObj (w5.heap.size + 1) (.loop { recOf fid w5.heap.size s0 .done (some .ret) with state := .exhausted })).heap[w5.heap.size]? = some (.deferred (some [])) := (World.putObj_heap_other (fun e => p6.1.1 e.symm)).trans p2
    generalize w6.putObj (w5.heap.size + 1) (.loop { recOf fid w5.heap.size s0 .done (some .ret) with state := .exhausted }) = w7 at hB7 z4 zD ⊢
    show Code.ret.wpIn Fence.wide _ _ _ _ _
    refine wpIn_ret (qk_ret ?_)
    rw [hT]
    refine leave_mark [0] (.bool false) [(g4, .cells #[.bool false] 4 (0, 0))] zD (fun j b o h => by match j, h with | 0, h => (cases h; exact (World.putObj_heap_other (by omega)).trans z4)) (by simp [Mem.ids]) ⟨rfl, ?_⟩
    exact hB7.trans ((Ch.put _ _ _).low (fun x hx => by rw [List.mem_singleton] at hx; have := hC5.size; omega) hB7.size)
end Go.Proofs.Ytfblnjidghijaaa
