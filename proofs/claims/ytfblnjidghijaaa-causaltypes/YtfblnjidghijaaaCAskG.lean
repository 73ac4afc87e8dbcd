/- causal: ask, for a question that keeps whatever it keeps. -/
import Derived.Test.YtfblnjidghijaaaCAsk2
namespace Go.Proofs.Ytfblnjidghijaaa
open Go Go.RowKit

/-- A question with a state of its own: K s O w: it lies in the blocks O. -/
structure Qg {σ : Type} (n₀ qf gq : Nat) (f : σ → Co → σ) (ok : σ → Prop) (K : σ → List Nat → World → Prop) : Prop where
  stay : ∀ s O w w', K s O w → (∀ x ∈ O, w'.heap[x]? = w.heap[x]?) → K s O w'
  low : ∀ s O w, K s O w → ∀ x ∈ O, n₀ ≤ x ∧ x < w.heap.size
  call : ∀ s O w v c, ok s → K s O w → Nc n₀ w v c → n₀ ≤ w.heap.size → Calls Try.prog qf #[v, .pointer (some ⟨gq, 0, none⟩)] w fun e w' => e = .returned (.tuple #[]) ∧ ∃ O', K (f s c) O' w' ∧ Ch O w w' ∧ Sub w O O'
def agF {σ : Type} (f : σ → Co → σ) (x : σ) (_ : Int) (c : Co) : σ × Bool := (f x c, true)
def agP {σ : Type} (f : σ → Co → σ) (x : σ) (c : Co) : σ := bif (typP c).2 then (walkP (agF f) x 1 c).1 else x
def AgJ {σ : Type} (K : σ → List Nat → World → Prop) (n₀ l D g3 gq qf : Nat) (fid : FuncId) (s : St) (b : Bool) (x : σ) (O : List Nat) (w : World) : Prop :=
  b = true ∧ w.heap[l]? = some (.loop (recOf fid D s .ready none)) ∧ w.heap[D]? = some (.deferred (some [])) ∧ w.heap[g3]? = some (.cells #[askV qf gq] 40 (0, 0)) ∧ ∃ O', K x O' w ∧ O = l :: D :: g3 :: O' ∧ l ∉ O' ∧ D ∉ O' ∧ g3 ∉ O' ∧ (l ≠ D ∧ l ≠ g3 ∧ D ≠ g3) ∧ n₀ ≤ l ∧ n₀ ≤ D ∧ n₀ ≤ g3
set_option maxRecDepth 100000 in
seal orT orG rA in
theorem askG_round {σ : Type} {K : σ → List Nat → World → Prop} {ok : σ → Prop} {n₀ l D g2 g3 gq qf gt : Nat} {fid : FuncId} {s : St} {v0 : Value} {tz : Int} {f : σ → Co → σ} (hq : Qg n₀ qf gq f ok K) (hqf : okf Try.prog qf = true) (hT : s.tmps = akT v0 qf gq g2 g3 gt tz undef undef) (hps : rgPs s = #[17, 18]) (hA : rgAssign s = akA) (hB : rgBody s = akB) : Yl n₀ l (agF f) ok (AgJ K n₀ l D g3 gq qf fid s) where
  stay := fun b st O w w' ⟨h0, h1, h2, h3, O', h4, h5, h6⟩ hO => by
    subst h5
    exact ⟨h0, (hO l (by simp)).trans h1, (hO D (by simp)).trans h2, (hO g3 (by simp)).trans h3, O', hq.stay _ _ _ _ h4 (fun x hx => hO x (by simp [hx])), rfl, h6⟩
  low := fun b st O w ⟨h0, h1, h2, h3, O', h4, h5, h6, h7, h8, h9, i1, i2, i3⟩ y hy => by
    subst h5
    simp only [List.mem_cons] at hy
    rcases hy with rfl | rfl | rfl | hy
    · exact ⟨i1, lt_of_get h1⟩
    · exact ⟨i2, lt_of_get h2⟩
    · exact ⟨i3, lt_of_get h3⟩
    · exact hq.low _ _ _ h4 y hy
  yield := by
    intro x O W d v c hok hJ hN hn
    obtain ⟨op, k, t, a, N, cc, rfl⟩ := hN.cells
    obtain ⟨-, h1, h2, h3, O', h4, rfl, lO, DO, gO, ⟨nD, n3, m3'⟩, i1, i2, i3⟩ := hJ
    have hl1 := lt_of_get h1
    have hl3 := lt_of_get h3
    have hlD := lt_of_get h2
    have hlo := hq.low _ _ _ h4
    refine round_of (T := akT v0 qf gq g2 g3 gt tz (.int .i64 d) (cv op k t (.slice a N cc))) h1 (by rw [hps]; rfl) (by rw [hps, hT]; kernel_rfl) ?_
    rw [hA]
    refine wpIn_region ?_
    rw [show List.range (rA 4).size = [0, 1] by kernel_rfl]
    refine wi_new 0 (rest := [1]) (m := []) Holds.nil (by simp [Mem.ids]) fun g7 w2 hg7 m2 n2 c2 _ => ?_
    refine wi_runs [(1, 0)] (rest := []) m2 n2 fun w3 m3 n3' c3 _ _ => ?_
    have e2 : (orG Try.prog (rA 4) 0 g7 (akT v0 qf gq g2 g3 gt tz (.int .i64 d) (cv op k t (.slice a N cc))) []).m.ids = [g7] := by kernel_rfl
    have q1 : Ch [] W w3 := c2.trans c3 (fun x hx => .inr (by rw [e2, List.mem_singleton] at hx; omega))
    have r7 : w3.heap[g7]? = some (cO op k t (.slice a N cc)) := m3.get 0
    show ∃ w₂, _ ∧ _
    have hl3w : w3.heap[l]? = some (.loop (recOf fid D s .ready none)) := (q1.block l hl1 (by simp)).trans h1
    refine ⟨_, run_beginRound hl3w rfl, ?_⟩
    have hl3' := lt_of_get hl3w
    have c4 := Ch.put w3 l (.loop { recOf fid D s .ready none with state := .busy })
    have l4 : (w3.putObj l (.loop { recOf fid D s .ready none with state := .busy })).heap[l]? = some (.loop { recOf fid D s .ready none with state := .busy }) := World.putObj_heap_same hl3'
    generalize w3.putObj l (.loop { recOf fid D s .ready none with state := .busy }) = w4 at c4 l4 ⊢
    have q4 : Ch [l] W w4 := (q1.mono (fun x hx => by cases hx)).trans c4 (fun x hx => .inl hx)
    have r7' : w4.heap[g7]? = some (cO op k t (.slice a N cc)) := (c4.block g7 (lt_of_get r7) (by simp; omega)).trans r7
    have f3 : w4.heap[g3]? = some (.cells #[askV qf gq] 40 (0, 0)) := (q4.block g3 hl3 (by simp; exact fun e => n3 e.symm)).trans h3
    have f4 : K x O' w4 := hq.stay _ _ _ _ h4 (fun y hy => q4.block y (hlo y hy).2 (by simp; rintro rfl; exact lO hy))
    have fD : w4.heap[D]? = some (.deferred (some [])) := (q4.block D hlD (by simp; exact fun e => nD e.symm)).trans h2
    have hn4 : n₀ ≤ w4.heap.size := Nat.le_trans hn q4.size
    have hN4 : Nc n₀ w4 (cv op k t (.slice a N cc)) c := hN.later (q4.low (fun y hy => by rw [List.mem_singleton] at hy; subst hy; exact i1) hn)
    rw [hB]
    refine wpIn_block (wpIn_region ?_)
    rw [show List.range (rA 5).size = [0, 1, 2] by kernel_rfl]
    refine wi_runs (m := [(g3, .cells #[askV qf gq] 40 (0, 0)), (g7, cO op k t (.slice a N cc))]) [(0, 0), (1, 1)] (rest := [2]) (fun j b o h => by match j, h with | 0, h => (cases h; exact f3) | 1, h => (cases h; exact r7')) (by simp [Mem.ids]; omega) fun w5 _ _ _ _ d5 => ?_
    obtain rfl := d5 (by kernel_rfl)
    refine wi_call (f := qf) (first := #[]) (captured := #[.pointer (some ⟨gq, 0, none⟩)]) (args := #[cv op k t (.slice a N cc)]) (d := some 21) (by kernel_rfl) hqf ?_
    refine (hq.call x O' w5 _ c hok f4 hN4 hn4).mono fun e w6 ⟨he, O2, j1, j2, j3⟩ => ⟨_, he, ?_⟩
    have z4 : w6.heap[l]? = some (.loop { recOf fid D s .ready none with state := .busy }) := (j2.block l (lt_of_get l4) lO).trans l4
    have z3 : w6.heap[g3]? = some (.cells #[askV qf gq] 40 (0, 0)) := (j2.block g3 (lt_of_get f3) gO).trans f3
    have z7 : w6.heap[D]? = some (.deferred (some [])) := (j2.block D (lt_of_get fD) DO).trans fD
    have lO2 : l ∉ O2 := fun h => by rcases j3 l h with e | e; exact lO e; have := lt_of_get l4; omega
    have DO2 : D ∉ O2 := fun h => by rcases j3 D h with e | e; exact DO e; have := lt_of_get fD; omega
    have gO2 : g3 ∉ O2 := fun h => by rcases j3 g3 h with e | e; exact gO e; have := lt_of_get f3; omega
    show ∃ v w', _ ∧ _
    refine ⟨_, _, run_endRound none z4, rfl, l :: D :: g3 :: O2, ⟨rfl, World.putObj_heap_same (lt_of_get z4), (World.putObj_heap_other (fun e => nD e.symm)).trans z7, (World.putObj_heap_other (fun e => n3 e.symm)).trans z3, O2, hq.stay _ _ _ _ j1 (fun y hy => World.putObj_heap_other (by rintro rfl; exact lO2 hy)), rfl, lO2, DO2, gO2, ⟨nD, n3, m3'⟩, i1, i2, i3⟩, ?_, ?_⟩
    · exact ((q4.mono (fun y hy => by rw [List.mem_singleton] at hy; simp [hy])).trans j2 (fun y hy => .inl (by simp [hy]))).trans (Ch.put _ _ _) (fun y hy => .inl (by rw [List.mem_singleton] at hy; simp [hy]))
    · intro y hy
      simp only [List.mem_cons] at hy ⊢
      rcases hy with rfl | rfl | rfl | hy
      · exact .inl (.inl rfl)
      · exact .inl (.inr (.inl rfl))
      · exact .inl (.inr (.inr (.inl rfl)))
      · rcases j3 y hy with e | e
        · exact .inl (.inr (.inr (.inr e)))
        · exact .inr (Nat.le_trans q4.size e)
set_option maxRecDepth 100000 in
seal rn rnN rnS Goes ans atEnd put0 putM opened putA0 putA oneSt st0 orT orG in
theorem askG_any {σ : Type} {K : σ → List Nat → World → Prop} {ok : σ → Prop} {n₀ qf gq : Nat} {f : σ → Co → σ} {x : σ} {c : Co} {v : Value} {w : World} {O : List Nat} (hq : Qg n₀ qf gq f ok K) (hqf : okf Try.prog qf = true) (hx : K x O w) (hN : Nc n₀ w v c) (hn : n₀ ≤ w.heap.size) (hsafe : (typP c).2 = true → safeP (agF f) ok x 1 c) :
    Calls Try.prog 22 #[v, askV qf gq] w fun e w' => e = .returned (.tuple #[]) ∧ ∃ O', K (agP f x c) O' w' ∧ Ch O w w' ∧ Sub w O O' := by
  obtain ⟨op, k, t, a, N, cc, rfl⟩ := hN.cells
  have hlow := hq.low _ _ _ hx
  refine Goes.enterM Try.func22 [] (fun w' => Ch [] w w' ∧ True) Holds.nil (by simp [Mem.ids]) (fun w' hc => ⟨hc, trivial⟩) ?_
  refine Goes.runN2 bpM_noP 2000 [0] [] trivial fun g2 g3 => ?_
  refine Goes.call0 7 #[cv op k t (.slice a N cc)] (.tuple #[.int .i64 (typP c).1, .bool (typP c).2]) (fun w' _ hI => type_any ((hN.later (hI.now.1.low (fun x hx => by cases hx) hn)).more (Nat.le_trans hn hI.now.1.size))) ?_
  cases hb : (typP c).2 with
  | false =>
    refine Goes.runN bpM_noP 2000 [1] [(true, true)] ⟨rfl, trivial⟩ ?_
    exact Goes.retM [] (.tuple #[]) fun w' hm hI => ⟨rfl, O, by unfold agP; rw [hb]; exact hq.stay _ _ _ _ hx (fun y hy => hI.now.1.block y (hlow y hy).2 (by simp)), hI.now.1.mono (fun x hx => by cases hx), Sub.refl _ _⟩
  | true =>
    refine Goes.runN bpM_noP 2000 [0, 0] [(false, false)] ⟨rfl, trivial⟩ ?_
    refine Goes.call 36 #[cv op k t (.slice a N cc)] fun w3 hm3 hn3 hI3 => (terms_any op k t a N cc w3).mono fun e w4 ⟨gt, he4, hgt, hgtn, hB4⟩ => ?_
    have x2 : w3.heap[g2]? = some (cO op k t (.slice a N cc)) := hm3.get 0
    have x3 : w3.heap[g3]? = some (.cells #[askV qf gq] 40 (0, 0)) := hm3.get 1
    have f2 : w.heap.size ≤ g2 := fresh_of hI3 (g := g2) (ids_get (j := 0) (o := cO op k t (.slice a N cc)) (by kernel_rfl)) (by simp)
    have f3 : w.heap.size ≤ g3 := fresh_of hI3 (g := g3) (ids_get (j := 1) (o := .cells #[askV qf gq] 40 (0, 0)) (by kernel_rfl)) (by simp)
    have hids3 : [g2, g3].Nodup := Nodup.of_ids hn3
    have l2' := lt_of_get x2
    have l3' := lt_of_get x3
    have y2 := (hB4.block g2 l2').trans x2
    have y3 := (hB4.block g3 l3').trans x3
    have hC4 : Ch [] w w4 := hI3.now.1.trans (Below.toCh hB4) (fun x hx => by cases hx)
    refine ⟨_, fun w' => Ch [] w w' ∧ w'.heap[gt]? = some (cO op k t (.slice a N cc)), [(g2, cO op k t (.slice a N cc)), (g3, .cells #[askV qf gq] 40 (0, 0))], he4, fun j b o h => by match j, h with | 0, h => (cases h; exact y2) | 1, h => (cases h; exact y3), hids3, fun w5 hc => ⟨hC4.trans hc (fun x hx => .inr ?_), (hc.block gt (lt_of_get hgt) (fun hm => ?_)).trans hgt⟩, ?_⟩
    · simp only [Mem.ids, List.map_cons, List.map_nil, List.mem_cons, List.not_mem_nil, or_false] at hx
      rcases hx with rfl | rfl <;> assumption
    · simp only [Mem.ids, List.map_cons, List.map_nil, List.mem_cons, List.not_mem_nil, or_false] at hm
      rcases hm with h | h <;> omega
    refine Goes.runN bpM_noP 2000 [] [] trivial ?_
    refine Goes.named (akT (cv op k t (.slice a N cc)) qf gq g2 g3 gt (typP c).1 undef undef) [(g2, cO op k t (.slice a N cc)), (g3, .cells #[askV qf gq] 40 (0, 0))] #[17, 18] akA akB [.blk 0] fun s0 hT hm0 hps hA hBo hk hev hat => ?_
    refine Goes.range 48 #[.pointer (some ⟨gt, 0, none⟩)] (fun fid w5 hm5 hn5 hI5 W1 hL hD hBW => ?_) (hat.trans (by kernel_rfl)) (hev.trans (by kernel_rfl)) (by kernel_rfl)
    rw [hm0] at hm5 hn5 hI5
    obtain ⟨hC5, hgt5⟩ := hI5.now
    have u3 : w5.heap[g3]? = some (.cells #[askV qf gq] 40 (0, 0)) := hm5.get 1
    have v3 := lt_of_get u3
    have hs5 := hC5.size
    have hlt5 : ∀ y ∈ O, y < w5.heap.size := fun y hy => Nat.lt_of_lt_of_le (hlow y hy).2 hs5
    have uK : K x O w5 := hq.stay _ _ _ _ hx (fun y hy => hC5.block y (hlow y hy).2 (by simp))
    have hJW : AgJ K n₀ (w5.heap.size + 1) w5.heap.size g3 gq qf fid s0 true x ((w5.heap.size + 1) :: w5.heap.size :: g3 :: O) W1 := by
      refine ⟨rfl, hL, hD, (hBW.block g3 v3).trans u3, O, hq.stay _ _ _ _ uK (fun y hy => hBW.block y (hlt5 y hy)), rfl, fun h => ?_, fun h => ?_, fun h => ?_, ⟨by omega, by omega, by omega⟩, by omega, by omega, by omega⟩
      · have := hlt5 _ h; omega
      · have := hlt5 _ h; omega
      · have := (hlow _ h).2; omega
    have hCW : Ch [] w W1 := hC5.trans (Below.toCh hBW) (fun x hx => by cases hx)
    have hBwW : Below n₀ w W1 := hCW.low (fun x hx => by cases hx) hn
    show Calls Try.prog 48 #[.func (.yield (w5.heap.size + 1)) #[] #[], .pointer (some ⟨gt, 0, none⟩)] W1 _
    refine (iter_any (askG_round hq hqf hT hps hA hBo) (hsafe hb) hJW (hN.later hBwW) (Nat.le_trans hn hBwW.size) ((hBW.block gt (lt_of_get hgt5)).trans hgt5)).mono fun e w6 ⟨he, O2, hJ2, hC6, hS6⟩ => ?_
    subst he
    obtain ⟨p0, p1, p2, p3, O3, p4, rfl, q1, q2, q3, ⟨r1, r2, r3⟩, -⟩ := hJ2
    have hC6' : Ch O w w6 := (hCW.mono (fun x hx => by cases hx)).trans hC6 (fun y hy => by
      simp only [List.mem_cons] at hy
      rcases hy with rfl | rfl | rfl | hy
      · exact .inr (by omega)
      · exact .inr (by omega)
      · exact .inr f3
      · exact .inl hy)
    have hS3 : Sub w O O3 := fun y hy => by
      rcases hS6 y (by simp [hy]) with e | e
      · simp only [List.mem_cons] at e
        rcases e with rfl | rfl | rfl | e
        · exact absurd hy q1
        · exact absurd hy q2
        · exact absurd hy q3
        · exact .inl e
      · exact .inr (Nat.le_trans hCW.size e)
    refine ⟨none, _, run_endLoop p1 (by simp [recOf]), ?_⟩
    have hC7 : Ch O w (w6.putObj (w5.heap.size + 1) (.loop { recOf fid w5.heap.size s0 .ready none with state := .exhausted })) := hC6'.trans (Ch.put _ _ _) (fun y hy => .inr (by rw [List.mem_singleton] at hy; omega))
    have zq : K (walkP (agF f) x 1 c).1 O3 (w6.putObj (w5.heap.size + 1) (.loop { recOf fid w5.heap.size s0 .ready none with state := .exhausted })) := hq.stay _ _ _ _ p4 (fun y hy => World.putObj_heap_other (by rintro rfl; exact q1 hy))
    have zD : (w6.putObj (w5.heap.size + 1) (.loop { recOf fid w5.heap.size s0 .ready none with state := .exhausted })).heap[w5.heap.size]? = some (.deferred (some [])) := (World.putObj_heap_other (by omega)).trans p2
    generalize w6.putObj (w5.heap.size + 1) (.loop { recOf fid w5.heap.size s0 .ready none with state := .exhausted }) = w7 at hC7 zq zD ⊢
    show QK _ _ s0.todo.tail _ _ _
    rw [hk, hT]
    show LeavesInM _ _ _ _ _ _ _ _ _
    refine leave_mark [] (.tuple #[]) [] zD Holds.nil (by simp [Mem.ids]) ⟨rfl, O3, ?_, hC7.trans (Ch.put _ _ _) (fun y hy => .inr (by rw [List.mem_singleton] at hy; omega)), hS3⟩
    unfold agP
    rw [hb]
    exact hq.stay _ _ _ _ zq (fun y hy => World.putObj_heap_other (by rintro rfl; exact q2 hy))
end Go.Proofs.Ytfblnjidghijaaa
