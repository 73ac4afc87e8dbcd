/- causal: ask, for whatever is asked of each term. -/
import Derived.Test.YtfblnjidghijaaaCType
namespace Go.Proofs.Ytfblnjidghijaaa
open Go Go.RowKit

/-- A question that keeps one number. -/
def Qn (n₀ : Nat) (qf : FuncId) (gq : Nat) (ty : TypeId) (f : Int → Co → Int) : Prop := ∀ (x : Int) (w : World) (v : Value) (c : Co), w.heap[gq]? = some (.cells #[.int .i64 x] ty (0, 0)) → Nc n₀ w v c → n₀ ≤ w.heap.size →
  Calls Try.prog qf #[v, .pointer (some ⟨gq, 0, none⟩)] w fun e w' => e = .returned (.tuple #[]) ∧ Ch [gq] w w' ∧ w'.heap[gq]? = some (.cells #[.int .i64 (f x c)] ty (0, 0))
def askF (f : Int → Co → Int) (x : Int) (_ : Int) (c : Co) : Int × Bool := (f x c, true)
def askP (f : Int → Co → Int) (x : Int) (c : Co) : Int := bif (typP c).2 then (walkP (askF f) x 1 c).1 else x
def askV (qf gq : Nat) : Value := .func (.func qf) #[] #[.pointer (some ⟨gq, 0, none⟩)]
def AkJ (n₀ l D g3 gq qf : Nat) (ty : TypeId) (fid : FuncId) (s : St) (b : Bool) (x : Int) (O : List Nat) (w : World) : Prop :=
  b = true ∧ w.heap[l]? = some (.loop (recOf fid D s .ready none)) ∧ w.heap[D]? = some (.deferred (some [])) ∧ w.heap[g3]? = some (.cells #[askV qf gq] 40 (0, 0)) ∧ w.heap[gq]? = some (.cells #[.int .i64 x] ty (0, 0)) ∧ O = [l, D, g3, gq] ∧ O.Nodup ∧ ∀ y ∈ O, n₀ ≤ y
theorem AkJ.stay {n₀ l D g3 gq qf : Nat} {ty : TypeId} {fid : FuncId} {s : St} {b : Bool} {x : Int} {O : List Nat} {w w' : World} (h : AkJ n₀ l D g3 gq qf ty fid s b x O w) (hO : ∀ y ∈ O, w'.heap[y]? = w.heap[y]?) : AkJ n₀ l D g3 gq qf ty fid s b x O w' := by
  obtain ⟨h0, h1, h2, h3, h4, rfl, h5⟩ := h
  exact ⟨h0, (hO l (by simp)).trans h1, (hO D (by simp)).trans h2, (hO g3 (by simp)).trans h3, (hO gq (by simp)).trans h4, rfl, h5⟩
theorem AkJ.low {n₀ l D g3 gq qf : Nat} {ty : TypeId} {fid : FuncId} {s : St} {b : Bool} {x : Int} {O : List Nat} {w : World} (h : AkJ n₀ l D g3 gq qf ty fid s b x O w) : ∀ y ∈ O, n₀ ≤ y ∧ y < w.heap.size := by
  obtain ⟨h0, h1, h2, h3, h4, rfl, h5, h6⟩ := h
  intro y hy
  refine ⟨h6 y hy, ?_⟩
  simp only [List.mem_cons, List.not_mem_nil, or_false] at hy
  rcases hy with rfl | rfl | rfl | rfl
  · exact lt_of_get h1
  · exact lt_of_get h2
  · exact lt_of_get h3
  · exact lt_of_get h4
noncomputable def rA (i : Nat) : Array Oper := regAt (Try.f22.body.getD .skip) i
noncomputable def akA : Code := .region 4 (rA 4) false
noncomputable def akB : Code := .block 1 (.region 5 (rA 5) false)
def akT (v : Value) (qf gq g2 g3 gt : Nat) (ty : Int) (x y : Value) : List Value := [v, askV qf gq, .pointer (some ⟨g2, 0, none⟩), .pointer (some ⟨g3, 0, none⟩), .int .i64 ty, .bool true, undef, undef, .tuple #[.int .i64 ty, .bool true], v, .tuple #[.int .i64 ty, .bool true], .int .i64 ty, .bool true, .bool true, .bool false, v, termsV gt, x, y, undef, undef, undef]
set_option maxRecDepth 100000 in
seal orT orG rA in
theorem ask_round {n₀ l D g2 g3 gq qf gt : Nat} {ty : TypeId} {fid : FuncId} {s : St} {v0 : Value} {tz : Int} {f : Int → Co → Int} (hq : Qn n₀ qf gq ty f) (hqf : okf Try.prog qf = true) (hT : s.tmps = akT v0 qf gq g2 g3 gt tz undef undef) (hps : rgPs s = #[17, 18]) (hA : rgAssign s = akA) (hB : rgBody s = akB) : Yl n₀ l (askF f) (fun _ => True) (AkJ n₀ l D g3 gq qf ty fid s) where
  stay := fun b st O w w' h hO => h.stay hO
  low := fun b st O w h => h.low
  yield := by
    intro x O W d v c _ hJ hN hn
    obtain ⟨op, k, t, a, N, cc, rfl⟩ := hN.cells
    have hlo := hJ.low
    obtain ⟨-, h1, h2, h3, h4, rfl, hnd, hge⟩ := hJ
    have hl1 := lt_of_get h1
    have hl3 := lt_of_get h3
    have hl4 := lt_of_get h4
    have hlD := lt_of_get h2
    have hnd0 := hnd
    simp only [List.nodup_cons, List.mem_cons, List.not_mem_nil, or_false, not_or] at hnd
    obtain ⟨⟨nD, n3, nq⟩, ⟨m3', mq⟩, kq, -⟩ := hnd
    refine round_of (T := akT v0 qf gq g2 g3 gt tz (.int .i64 d) (cv op k t (.slice a N cc))) h1 (by rw [hps]; rfl) (by rw [hps, hT]; kernel_rfl) ?_
    rw [hA]
    refine wpIn_region ?_
    rw [show List.range (rA 4).size = [0, 1] by kernel_rfl]
    refine wi_new 0 (rest := [1]) (m := []) Holds.nil (by simp [Mem.ids]) fun g7 w2 hg7 m2 n2 c2 _ => ?_
    refine wi_runs [(1, 0)] (rest := []) m2 n2 fun w3 m3 n3' c3 _ _ => ?_
    have e2 : (orG Try.prog (rA 4) 0 g7 (akT v0 qf gq g2 g3 gt tz (.int .i64 d) (cv op k t (.slice a N cc))) []).m.ids = [g7] := by kernel_rfl
    have q1 : Ch [] W w3 := c2.trans c3 (fun x hx => .inr (by rw [e2, List.mem_singleton] at hx; omega))
    have r7 : w3.heap[g7]? = some (cO op k t (.slice a N cc)) := m3.get 0
    show ∃ w₂, _ ∧ _
    have hl3w : w3.heap[l]? = some (.loop (recOf fid D s .ready none)) := (q1.block l hl1 (by simp)).trans h1
    refine ⟨_, run_beginRound hl3w rfl, ?_⟩
    have hl3' := lt_of_get hl3w
    have c4 := Ch.put w3 l (.loop { recOf fid D s .ready none with state := .busy })
    have l4 : (w3.putObj l (.loop { recOf fid D s .ready none with state := .busy })).heap[l]? = some (.loop { recOf fid D s .ready none with state := .busy }) := World.putObj_heap_same hl3'
    generalize w3.putObj l (.loop { recOf fid D s .ready none with state := .busy }) = w4 at c4 l4 ⊢
    have q4 : Ch [l] W w4 := (q1.mono (fun x hx => by cases hx)).trans c4 (fun x hx => .inl hx)
    have r7' : w4.heap[g7]? = some (cO op k t (.slice a N cc)) := (c4.block g7 (lt_of_get r7) (by simp; omega)).trans r7
    have f3 : w4.heap[g3]? = some (.cells #[askV qf gq] 40 (0, 0)) := (q4.block g3 hl3 (by simp; exact fun e => n3 e.symm)).trans h3
    have fq : w4.heap[gq]? = some (.cells #[.int .i64 x] ty (0, 0)) := (q4.block gq hl4 (by simp; exact fun e => nq e.symm)).trans h4
    have fD : w4.heap[D]? = some (.deferred (some [])) := (q4.block D hlD (by simp; exact fun e => nD e.symm)).trans h2
    have hn4 : n₀ ≤ w4.heap.size := Nat.le_trans hn q4.size
    have hN4 : Nc n₀ w4 (cv op k t (.slice a N cc)) c := hN.later (q4.low (fun y hy => by rw [List.mem_singleton] at hy; subst hy; exact hge _ (by simp)) hn)
    rw [hB]
    refine wpIn_block (wpIn_region ?_)
    rw [show List.range (rA 5).size = [0, 1, 2] by kernel_rfl]
    refine wi_runs (m := [(g3, .cells #[askV qf gq] 40 (0, 0)), (g7, cO op k t (.slice a N cc))]) [(0, 0), (1, 1)] (rest := [2]) (fun j b o h => by match j, h with | 0, h => (cases h; exact f3) | 1, h => (cases h; exact r7')) (by simp [Mem.ids]; omega) fun w5 _ _ _ _ d5 => ?_
    obtain rfl := d5 (by kernel_rfl)
    refine wi_call (f := qf) (first := #[]) (captured := #[.pointer (some ⟨gq, 0, none⟩)]) (args := #[cv op k t (.slice a N cc)]) (d := some 21) (by kernel_rfl) hqf ?_
    refine (hq x w5 _ c fq hN4 hn4).mono fun e w6 ⟨he, j2, j3⟩ => ⟨_, he, ?_⟩
    have z4 : w6.heap[l]? = some (.loop { recOf fid D s .ready none with state := .busy }) := (j2.block l (lt_of_get l4) (by simp; exact nq)).trans l4
    have z3 : w6.heap[g3]? = some (.cells #[askV qf gq] 40 (0, 0)) := (j2.block g3 (lt_of_get f3) (by simp; exact kq)).trans f3
    have z7 : w6.heap[D]? = some (.deferred (some [])) := (j2.block D (lt_of_get fD) (by simp; exact mq)).trans fD
    show ∃ v w', _ ∧ _
    refine ⟨_, _, run_endRound none z4, rfl, [l, D, g3, gq], ⟨rfl, World.putObj_heap_same (lt_of_get z4), (World.putObj_heap_other (fun e => nD e.symm)).trans z7, (World.putObj_heap_other (fun e => n3 e.symm)).trans z3, (World.putObj_heap_other (fun e => nq e.symm)).trans j3, rfl, hnd0, hge⟩, ?_, Sub.refl _ _⟩
    exact ((q4.mono (fun y hy => by rw [List.mem_singleton] at hy; simp [hy])).trans j2 (fun y hy => .inl (by rw [List.mem_singleton] at hy; simp [hy]))).trans (Ch.put _ _ _) (fun y hy => .inl (by rw [List.mem_singleton] at hy; simp [hy]))
end Go.Proofs.Ytfblnjidghijaaa
