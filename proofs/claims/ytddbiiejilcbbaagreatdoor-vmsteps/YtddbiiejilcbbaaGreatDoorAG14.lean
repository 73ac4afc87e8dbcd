/- texts put together: VTwo VFed VVal NtM VSrch NtM2 NtM3 VFrame -/
import Derived.Test.YtddbiiejilcbbaaGreatDoorAG13
import Derived.Test.YtddbiiejilcbbaaGreatDoorAG3
import Derived.Test.YtddbiiejilcbbaaGreatDoorAG2
import Derived.Test.YtddbiiejilcbbaaGreatDoorAG5
namespace Go.Proofs.YtddbiiejilcbbaaGreatDoor
open Go Go.RowKit

theorem belQ {w w' : World} {e : Ending} {v : Value} (h : e = .returned v ∧ w' = w) : e = .returned v ∧ Below w.heap.size w w' := ⟨h.1, h.2 ▸ Below.refl _ _⟩
/-- The date of a day. -/
noncomputable def ymdO (n : Nat) : Nat × Nat × Nat := Classical.epsilon fun q : Nat × Nat × Nat => Dt q.1 q.2.1 q.2.2 ∧ dn q.1 q.2.1 q.2.2 = n
theorem ymd_eq {y m d n : Nat} (h : Dt y m d) (hn : dn y m d = n) : ymdO n = (y, m, d) := by
  have hs : Dt (ymdO n).1 (ymdO n).2.1 (ymdO n).2.2 ∧ dn (ymdO n).1 (ymdO n).2.1 (ymdO n).2.2 = n := Classical.epsilon_spec (p := fun q : Nat × Nat × Nat => Dt q.1 q.2.1 q.2.2 ∧ dn q.1 q.2.1 q.2.2 = n) ⟨(y, m, d), h, hn⟩
  obtain ⟨h1, h2, h3⟩ := dn_inj hs.1 h (hs.2.trans hn.symm)
  exact Prod.ext h1 (Prod.ext h2 h3)
noncomputable def monI (day n : Int) : Int := ((monV (ymdO (clampD day)).1 (ymdO (clampD day)).2.1 (ymdO (clampD day)).2.2 n : Nat) : Int)
noncomputable def y30I (a b : Int) : Int := shareV (sd (ymdO (clampD b)).1 (ymdO (clampD b)).2.1 (ymdO (clampD b)).2.2 - sd (ymdO (clampD a)).1 (ymdO (clampD a)).2.1 (ymdO (clampD a)).2.2) 360
theorem rmonI_any (day n : Int) (w : World) : Calls Tryz.prog 97 #[.int .i64 day, .int .i64 n] w fun e w' => e = .returned (.int .i64 (monI day n)) ∧ Below w.heap.size w w' :=
  (rmonths_any day n w).mono fun e w' ⟨y, m, d, h1, h2, he, hB⟩ => ⟨by rw [he]; unfold monI; rw [ymd_eq h1 h2], hB⟩
theorem ry30I_any (a b : Int) (w : World) : Calls Tryz.prog 99 #[.int .i64 a, .int .i64 b] w fun e w' => e = .returned (.int .i64 (y30I a b)) ∧ Below w.heap.size w w' :=
  (ryears30_any a b w).mono fun e w' ⟨y, m, d, y', m', d', h1, h2, h3, h4, he, hB⟩ => ⟨by rw [he]; unfold y30I; rw [ymd_eq h1 h2, ymd_eq h3 h4], hB⟩
def trP (b : Bool) : Int := bif b then 1 else 0
set_option maxRecDepth 100000 in
seal rn rnS Goes ans atEnd put0 putM opened putA0 oneSt st0 in
theorem truth_any (b : Bool) (w : World) : Calls Tryz.prog 135 #[.bool b] w fun e w' => e = .returned (.int .i64 (trP b)) ∧ Below w.heap.size w w' := by
  refine Goes.begin Tryz.func135 [] (fun _ => True) Holds.nil (by simp [Mem.ids]) (fun _ _ => trivial) ?_
  cases b with
  | true =>
    refine Goes.run [1] [(true, true)] ⟨rfl, trivial⟩ ?_
    exact Goes.ret [] (.int .i64 1) fun w' hm hI => ⟨rfl, bel0 hI⟩
  | false =>
    refine Goes.run [0] [(false, false)] ⟨rfl, trivial⟩ ?_
    exact Goes.ret [] (.int .i64 0) fun w' hm hI => ⟨rfl, bel0 hI⟩
def whoI (b : Int) : Int := (clampI b).tdiv 1000000

noncomputable def twoP (op a b : Int) : Int :=
  bif op == 7 then clampI (clampI a + clampI b) else bif op == 8 then clampI (clampI a - clampI b) else bif op == 9 then mulI a b else bif op == 10 then divI a b else bif op == 11 || op == 17 then trP (decide (a < b)) else bif op == 12 then trP (decide (a ≤ b)) else bif op == 13 then trP (a == b) else bif op == 18 then ((plusV a (whoI b) : Nat) : Int) else bif op == 19 then monI a (whoI b) else bif op == 20 then shareV ((clampD b : Int) - (clampD a : Int)) 365 else y30I a b
set_option maxRecDepth 100000 in
seal rn rnS Goes ans atEnd put0 putM opened putA0 oneSt st0 in
theorem two_any (op a b : Int) (w : World) : Calls Tryz.prog 87 #[.int .i64 op, .int .i64 a, .int .i64 b] w fun e w' => e = .returned (.int .i64 (twoP op a b)) ∧ Below w.heap.size w w' := by
  refine Goes.begin Tryz.func87 [] (fun _ => True) Holds.nil (by simp [Mem.ids]) (fun _ _ => trivial) ?_
  cases h7 : (op == 7) with
  | true =>
    refine Goes.run [1] [(op == 7, true)] ⟨h7, trivial⟩ ?_
    refine Goes.call0 92 #[.int .i64 (a), .int .i64 (b)] (.int .i64 (clampI (clampI a + clampI b))) (fun w' _ _ => (radd_any a b w').mono fun _ _ h => belQ h) ?_
    refine Goes.run [] [] trivial ?_
    exact Goes.ret [] (.int .i64 (clampI (clampI a + clampI b))) fun w' hm hI => ⟨by unfold twoP; rw [h7] <;> rfl, bel0 hI⟩
  | false =>
  cases h8 : (op == 8) with
  | true =>
    refine Goes.run [0, 1] [(op == 8, true), (op == 7, false)] ⟨h8, h7, trivial⟩ ?_
    refine Goes.call0 93 #[.int .i64 (a), .int .i64 (b)] (.int .i64 (clampI (clampI a - clampI b))) (fun w' _ _ => (rsub_any a b w').mono fun _ _ h => belQ h) ?_
    refine Goes.run [] [] trivial ?_
    exact Goes.ret [] (.int .i64 (clampI (clampI a - clampI b))) fun w' hm hI => ⟨by unfold twoP; rw [h7, h8] <;> rfl, bel0 hI⟩
  | false =>
  cases h9 : (op == 9) with
  | true =>
    refine Goes.run [0, 0, 1] [(op == 9, true), (op == 8, false), (op == 7, false)] ⟨h9, h8, h7, trivial⟩ ?_
    refine Goes.call0 49 #[.int .i64 (a), .int .i64 (b)] (.int .i64 (mulI a b)) (fun w' _ _ => (rmul_any a b w').mono fun _ _ h => belQ h) ?_
    refine Goes.run [] [] trivial ?_
    exact Goes.ret [] (.int .i64 (mulI a b)) fun w' hm hI => ⟨by unfold twoP; rw [h7, h8, h9] <;> rfl, bel0 hI⟩
  | false =>
  cases h10 : (op == 10) with
  | true =>
    refine Goes.run [0, 0, 0, 1] [(op == 10, true), (op == 9, false), (op == 8, false), (op == 7, false)] ⟨h10, h9, h8, h7, trivial⟩ ?_
    refine Goes.call0 94 #[.int .i64 (a), .int .i64 (b)] (.int .i64 (divI a b)) (fun w' _ _ => (rdiv_any a b w').mono fun _ _ h => belQ h) ?_
    refine Goes.run [] [] trivial ?_
    exact Goes.ret [] (.int .i64 (divI a b)) fun w' hm hI => ⟨by unfold twoP; rw [h7, h8, h9, h10] <;> rfl, bel0 hI⟩
  | false =>
  cases h11 : (op == 11) with
  | true =>
    refine Goes.run [0, 0, 0, 0, 1, 1] [(op == 11, true), (op == 11, true), (op == 10, false), (op == 9, false), (op == 8, false), (op == 7, false)] ⟨h11, h11, h10, h9, h8, h7, trivial⟩ ?_
    refine Goes.call0 135 #[.bool (decide (a < b))] (.int .i64 (trP (decide (a < b)))) (fun w' _ _ => truth_any _ w') ?_
    refine Goes.run [] [] trivial ?_
    exact Goes.ret [] (.int .i64 (trP (decide (a < b)))) fun w' hm hI => ⟨by unfold twoP; rw [h7, h8, h9, h10, h11] <;> rfl, bel0 hI⟩
  | false =>
  cases h17 : (op == 17) with
  | true =>
    refine Goes.run [0, 0, 0, 0, 0, 1] [(op == 17, true), (op == 11, false), (op == 10, false), (op == 9, false), (op == 8, false), (op == 7, false)] ⟨h17, h11, h10, h9, h8, h7, trivial⟩ ?_
    refine Goes.call0 135 #[.bool (decide (a < b))] (.int .i64 (trP (decide (a < b)))) (fun w' _ _ => truth_any _ w') ?_
    refine Goes.run [] [] trivial ?_
    exact Goes.ret [] (.int .i64 (trP (decide (a < b)))) fun w' hm hI => ⟨by unfold twoP; rw [h7, h8, h9, h10, h11, h17] <;> rfl, bel0 hI⟩
  | false =>
  cases h12 : (op == 12) with
  | true =>
    refine Goes.run [0, 0, 0, 0, 0, 0, 1] [(op == 12, true), (op == 17, false), (op == 11, false), (op == 10, false), (op == 9, false), (op == 8, false), (op == 7, false)] ⟨h12, h17, h11, h10, h9, h8, h7, trivial⟩ ?_
    refine Goes.call0 135 #[.bool (decide (a ≤ b))] (.int .i64 (trP (decide (a ≤ b)))) (fun w' _ _ => truth_any _ w') ?_
    refine Goes.run [] [] trivial ?_
    exact Goes.ret [] (.int .i64 (trP (decide (a ≤ b)))) fun w' hm hI => ⟨by unfold twoP; rw [h7, h8, h9, h10, h11, h17, h12] <;> rfl, bel0 hI⟩
  | false =>
  cases h13 : (op == 13) with
  | true =>
    refine Goes.run [0, 0, 0, 0, 0, 0, 0, 1] [(op == 13, true), (op == 12, false), (op == 17, false), (op == 11, false), (op == 10, false), (op == 9, false), (op == 8, false), (op == 7, false)] ⟨h13, h12, h17, h11, h10, h9, h8, h7, trivial⟩ ?_
    refine Goes.call0 135 #[.bool (a == b)] (.int .i64 (trP (a == b))) (fun w' _ _ => truth_any _ w') ?_
    refine Goes.run [] [] trivial ?_
    exact Goes.ret [] (.int .i64 (trP (a == b))) fun w' hm hI => ⟨by unfold twoP; rw [h7, h8, h9, h10, h11, h17, h12, h13] <;> rfl, bel0 hI⟩
  | false =>
  cases h18 : (op == 18) with
  | true =>
    refine Goes.run [0, 0, 0, 0, 0, 0, 0, 0, 1] [(op == 18, true), (op == 13, false), (op == 12, false), (op == 17, false), (op == 11, false), (op == 10, false), (op == 9, false), (op == 8, false), (op == 7, false)] ⟨h18, h13, h12, h17, h11, h10, h9, h8, h7, trivial⟩ ?_
    refine Goes.call0 96 #[.int .i64 (b)] (.int .i64 (whoI b)) (fun w' _ _ => (rwhole_any b w').mono fun _ _ h => belQ h) ?_
    refine Goes.call0 95 #[.int .i64 (a), .int .i64 (whoI b)] (.int .i64 (((plusV a (whoI b) : Nat) : Int))) (fun w' _ _ => (rplus_any a (whoI b) w').mono fun _ _ h => belQ h) ?_
    refine Goes.run [] [] trivial ?_
    exact Goes.ret [] (.int .i64 (((plusV a (whoI b) : Nat) : Int))) fun w' hm hI => ⟨by unfold twoP; rw [h7, h8, h9, h10, h11, h17, h12, h13, h18] <;> rfl, bel0 hI⟩
  | false =>
  cases h19 : (op == 19) with
  | true =>
    refine Goes.run [0, 0, 0, 0, 0, 0, 0, 0, 0, 1] [(op == 19, true), (op == 18, false), (op == 13, false), (op == 12, false), (op == 17, false), (op == 11, false), (op == 10, false), (op == 9, false), (op == 8, false), (op == 7, false)] ⟨h19, h18, h13, h12, h17, h11, h10, h9, h8, h7, trivial⟩ ?_
    refine Goes.call0 96 #[.int .i64 (b)] (.int .i64 (whoI b)) (fun w' _ _ => (rwhole_any b w').mono fun _ _ h => belQ h) ?_
    refine Goes.call0 97 #[.int .i64 (a), .int .i64 (whoI b)] (.int .i64 (monI a (whoI b))) (fun w' _ _ => rmonI_any a (whoI b) w') ?_
    refine Goes.run [] [] trivial ?_
    exact Goes.ret [] (.int .i64 (monI a (whoI b))) fun w' hm hI => ⟨by unfold twoP; rw [h7, h8, h9, h10, h11, h17, h12, h13, h18, h19] <;> rfl, bel0 hI⟩
  | false =>
  cases h20 : (op == 20) with
  | true =>
    refine Goes.run [0, 0, 0, 0, 0, 0, 0, 0, 0, 0, 1] [(op == 20, true), (op == 19, false), (op == 18, false), (op == 13, false), (op == 12, false), (op == 17, false), (op == 11, false), (op == 10, false), (op == 9, false), (op == 8, false), (op == 7, false)] ⟨h20, h19, h18, h13, h12, h17, h11, h10, h9, h8, h7, trivial⟩ ?_
    refine Goes.call0 98 #[.int .i64 (a), .int .i64 (b)] (.int .i64 (shareV ((clampD b : Int) - (clampD a : Int)) 365)) (fun w' _ _ => (ryears_any a b w').mono fun _ _ h => belQ h) ?_
    refine Goes.run [] [] trivial ?_
    exact Goes.ret [] (.int .i64 (shareV ((clampD b : Int) - (clampD a : Int)) 365)) fun w' hm hI => ⟨by unfold twoP; rw [h7, h8, h9, h10, h11, h17, h12, h13, h18, h19, h20] <;> rfl, bel0 hI⟩
  | false =>
    refine Goes.run [0, 0, 0, 0, 0, 0, 0, 0, 0, 0, 0] [(op == 20, false), (op == 19, false), (op == 18, false), (op == 13, false), (op == 12, false), (op == 17, false), (op == 11, false), (op == 10, false), (op == 9, false), (op == 8, false), (op == 7, false)] ⟨h20, h19, h18, h13, h12, h17, h11, h10, h9, h8, h7, trivial⟩ ?_
    refine Goes.call0 99 #[.int .i64 (a), .int .i64 (b)] (.int .i64 (y30I a b)) (fun w' _ _ => ry30I_any a b w') ?_
    refine Goes.run [] [] trivial ?_
    exact Goes.ret [] (.int .i64 (y30I a b)) fun w' hm hI => ⟨by unfold twoP; rw [h7, h8, h9, h10, h11, h17, h12, h13, h18, h19, h20] <;> rfl, bel0 hI⟩
end Go.Proofs.YtddbiiejilcbbaaGreatDoor
namespace Go.Proofs.YtddbiiejilcbbaaGreatDoor
open Go Go.RowKit

/-- Stamps in memory, in blocks below n. -/
def Sts (n : Nat) (w : World) (v : Value) (l : List (Int × Int)) : Prop := ∃ a c, v = .slice a l.length c ∧ (l.length ≤ c ∧ c ≤ 9223372036854775807) ∧ ∀ i q, l[i]? = some q → ∃ b o, a = some ⟨b, o, none⟩ ∧ b < n ∧ w.cell? ⟨b, o + i * 2, none⟩ = some (.int .i64 q.1) ∧ w.cell? ⟨b, o + i * 2 + 1, none⟩ = some (.int .i64 q.2)
/-- Feeds in memory, in blocks below n. -/
def Fds (n : Nat) (w : World) (v : Value) (fs : List (List UInt8 × List (Int × Int))) : Prop := ∃ a c, v = .slice a fs.length c ∧ (fs.length ≤ c ∧ c ≤ 9223372036854775807) ∧ ∀ i f, fs[i]? = some f → ∃ b o u, a = some ⟨b, o, none⟩ ∧ b < n ∧ w.cell? ⟨b, o + i * 2, none⟩ = some (strV f.1) ∧ w.cell? ⟨b, o + i * 2 + 1, none⟩ = some u ∧ Sts n w u f.2
theorem Sts.later {n : Nat} {w w' : World} {v : Value} {l : List (Int × Int)} (h : Sts n w v l) (hB : Below n w w') : Sts n w' v l := by
  obtain ⟨a, c, h1, h2, h3⟩ := h
  refine ⟨a, c, h1, h2, fun i q hq => ?_⟩
  obtain ⟨b, o, e, hb, x1, x2⟩ := h3 i q hq
  exact ⟨b, o, e, hb, (hB.cell (p := ⟨b, o + i * 2, none⟩) hb).trans x1, (hB.cell (p := ⟨b, o + i * 2 + 1, none⟩) hb).trans x2⟩
theorem Sts.more {n n' : Nat} {w : World} {v : Value} {l : List (Int × Int)} (h : Sts n w v l) (hn : n ≤ n') : Sts n' w v l := by
  obtain ⟨a, c, h1, h2, h3⟩ := h
  refine ⟨a, c, h1, h2, fun i q hq => ?_⟩
  obtain ⟨b, o, e, hb, x⟩ := h3 i q hq
  exact ⟨b, o, e, by omega, x⟩
theorem Fds.later {n : Nat} {w w' : World} {v : Value} {fs : List (List UInt8 × List (Int × Int))} (h : Fds n w v fs) (hB : Below n w w') : Fds n w' v fs := by
  obtain ⟨a, c, h1, h2, h3⟩ := h
  refine ⟨a, c, h1, h2, fun i f hf => ?_⟩
  obtain ⟨b, o, u, e, hb, x1, x2, x3⟩ := h3 i f hf
  exact ⟨b, o, u, e, hb, (hB.cell (p := ⟨b, o + i * 2, none⟩) hb).trans x1, (hB.cell (p := ⟨b, o + i * 2 + 1, none⟩) hb).trans x2, x3.later hB⟩
theorem Fds.more {n n' : Nat} {w : World} {v : Value} {fs : List (List UInt8 × List (Int × Int))} (h : Fds n w v fs) (hn : n ≤ n') : Fds n' w v fs := by
  obtain ⟨a, c, h1, h2, h3⟩ := h
  refine ⟨a, c, h1, h2, fun i f hf => ?_⟩
  obtain ⟨b, o, u, e, hb, x1, x2, x3⟩ := h3 i f hf
  exact ⟨b, o, u, e, by omega, x1, x2, x3.more hn⟩
theorem Fds.at {w w' : World} {v : Value} {fs : List (List UInt8 × List (Int × Int))} (h : Fds w.heap.size w v fs) (hB : Below w.heap.size w w') : Fds w'.heap.size w' v fs := (h.later hB).more hB.size
/-- The last stamp of a day up to that one. -/
def stpP (day : Int) (r : Option Int) (l : List (Int × Int)) : Option Int := l.foldl (fun r q => bif decide (q.1 ≤ day) then some q.2 else r) r
def fedP (name : List UInt8) (day : Int) : List (List UInt8 × List (Int × Int)) → Option Int
  | [] => none
  | f :: r => bif decide (f.1 ≠ name) then fedP name day r else stpP day none f.2
/-- An answer that may not be known. -/
def oV (r : Option Int) : Value := .tuple #[.int .i64 (r.getD 0), .bool r.isSome]
theorem idxF (b o n cap k : Nat) (h : k < n) (w : World) : (Instr.indexAt 36 (.slice (some ⟨b, o, none⟩) n cap) (.int .i64 k)).run Tryz.prog w = .ok (.pointer (some ⟨b, o + k * 2, none⟩)) w := by go_simp
theorem idxT (b o n cap k : Nat) (h : k < n) (w : World) : (Instr.indexAt 160 (.slice (some ⟨b, o, none⟩) n cap) (.int .i64 k)).run Tryz.prog w = .ok (.pointer (some ⟨b, o + k * 2, none⟩)) w := by go_simp
theorem drop_any {α : Type} {l : List α} {i : Nat} {u : α} (hu : l[i]? = some u) : l.drop i = u :: l.drop (i + 1) := by
  obtain ⟨h1, h2⟩ := List.getElem?_eq_some_iff.1 hu
  rw [List.drop_eq_getElem_cons h1, h2]
set_option maxRecDepth 100000 in
seal rn rnS Goes ans atEnd put0 putM opened putA0 oneSt st0 in
theorem fed_any {fs : List (List UInt8 × List (Int × Int))} {v : Value} {w : World} (hF : Fds w.heap.size w v fs) (name : List UInt8) (day : Int) : Calls Tryz.prog 86 #[v, strV name, .int .i64 day] w fun e w' => e = .returned (oV (fedP name day fs)) ∧ Below w.heap.size w w' := by
  obtain ⟨a, c, rfl, hc, hfs⟩ := hF
  obtain ⟨N, hN⟩ : ∃ N, fs.length = N := ⟨_, rfl⟩
  rw [hN] at hc ⊢
  refine Goes.begin Tryz.func86 [] (fun _ => True) Holds.nil (by simp [Mem.ids]) (fun _ _ => trivial) ?_
  refine Goes.run [] [] trivial ?_
  refine Goes.loop0 (α := Nat) 51 (fun i => [(0, .slice a N c), (1, strV name), (2, .int .i64 day), (8, .int .i64 i)]) [] (fun i => i ≤ N ∧ fedP name day fs = fedP name day (fs.drop i)) (fun i => N - i) 0 ⟨Nat.zero_le _, rfl⟩ ?_
  rintro i J ⟨hi, hrest⟩ back
  cases hlt : decide ((i : Int) < (N : Int)) with
  | false =>
    refine Goes.run [0, 0] [(decide ((i : Int) < (N : Int)), false)] ⟨hlt, trivial⟩ ?_
    exact Goes.ret [] (.tuple #[.int .i64 0, .bool false]) fun w' hm hI => ⟨by rw [hrest, List.drop_of_length_le (by have := of_decide_eq_false hlt; omega)]; rfl, bel0 hI⟩
  | true =>
    have hil : i < N := by have := of_decide_eq_true hlt; omega
    obtain ⟨f, hf⟩ : ∃ f, fs[i]? = some f := ⟨fs[i]'(by omega), by simp⟩
    obtain ⟨b, o, u, rfl, hb, x1, x2, a2, c2, rfl, hc2, hst⟩ := hfs i f hf
    have hd := drop_any hf
    have ld : ∀ w', Below w.heap.size w w' → (Instr.loadAt 9 (.pointer (some ⟨b, o + i * 2, none⟩))).run Tryz.prog w' = .ok (strV f.1) w' := fun w' hB => load1 Tryz.isAgg9 ((hB.cell (p := ⟨b, o + i * 2, none⟩) hb).trans x1)
    refine Goes.run [0, 1] [(decide ((i : Int) < (N : Int)), true)] ⟨hlt, trivial⟩ ?_
    refine Goes.val (Instr.indexAt 36 (.slice (some ⟨b, o, none⟩) N c) (.int .i64 i)) (.pointer (some ⟨b, o + i * 2, none⟩)) (fun w' _ _ => idxF b o N c i hil w') ?_
    refine Goes.run [] [] trivial ?_
    refine Goes.val (Instr.loadAt 9 (.pointer (some ⟨b, o + i * 2, none⟩))) (strV f.1) (fun w' _ hI => ld w' (bel0 hI)) ?_
    refine Goes.upto 25 [] [] trivial ?_
    refine Goes.val (do eqGuard .neq 9 (.tmp 23) (.tmp 24) (strV f.1) (strV name); binOp .neq 9 (strV f.1) (strV name)) (.bool (decide (f.1 ≠ name))) (fun w' _ _ => neT _ _ f.1 name rfl w') ?_
    cases hne : decide (f.1 ≠ name) with
    | true =>
      refine Goes.run [1] [(true, true)] ⟨rfl, trivial⟩ ?_
      refine Goes.slot 8 (.int .i64 (i + 1 : Nat)) (u := .int .i64 (IntKind.i64.wrap ((i : Int) + 1))) (congrArg _ (wrap_nat (by omega))) ?_
      exact back (i + 1) _ ⟨hil, by rw [hrest, hd, fedP, hne]; rfl⟩ (by omega) (by kernel_rfl) (by kernel_rfl) (by kernel_rfl)
    | false =>
      obtain ⟨M, hM⟩ : ∃ M, f.2.length = M := ⟨_, rfl⟩
      have hR : fedP name day fs = stpP day none f.2 := by rw [hrest, hd, fedP, hne]; rfl
      rw [hR]
      rw [hM] at hc2 x2
      refine Goes.run [0] [(false, false)] ⟨rfl, trivial⟩ ?_
      refine Goes.val (Instr.indexAt 36 (.slice (some ⟨b, o, none⟩) N c) (.int .i64 i)) (.pointer (some ⟨b, o + i * 2, none⟩)) (fun w' _ _ => idxF b o N c i hil w') ?_
      refine Goes.run [] [] trivial ?_
      refine Goes.val (Instr.loadAt 160 (.pointer (some ⟨b, o + i * 2 + 1, none⟩))) (.slice a2 M c2) (fun w' _ hI => load1 Tryz.isAgg160 (((bel0 hI).cell (p := ⟨b, o + i * 2 + 1, none⟩) hb).trans x2)) ?_
      refine Goes.run [] [] trivial ?_
      refine Goes.loop0 (α := Nat × Option Int) 51 (fun q => [(2, .int .i64 day), (9, .slice a2 M c2), (10, .int .i64 (q.2.getD 0)), (11, .bool q.2.isSome), (12, .int .i64 q.1)]) [] (fun q => q.1 ≤ M ∧ stpP day none f.2 = stpP day q.2 (f.2.drop q.1)) (fun q => M - q.1) (0, none) ⟨Nat.zero_le _, rfl⟩ ?_
      rintro ⟨j, r⟩ J2 ⟨hj, hjr⟩ back2
      simp only at hj hjr back2 ⊢
      cases hjl : decide ((j : Int) < (M : Int)) with
      | false =>
        refine Goes.run [0, 0] [(decide ((j : Int) < (M : Int)), false)] ⟨hjl, trivial⟩ ?_
        exact Goes.ret [] (.tuple #[.int .i64 (r.getD 0), .bool r.isSome]) fun w' hm hI => ⟨by rw [hjr, List.drop_of_length_le (by have := of_decide_eq_false hjl; omega)]; rfl, bel0 hI⟩
      | true =>
        have hjl' : j < M := by have := of_decide_eq_true hjl; omega
        obtain ⟨q, hq⟩ : ∃ q, f.2[j]? = some q := ⟨f.2[j]'(by omega), by simp⟩
        obtain ⟨b2, o2, rfl, hb2, y1, y2⟩ := hst j q hq
        have hd2 := drop_any hq
        refine Goes.run [0, 1] [(decide ((j : Int) < (M : Int)), true)] ⟨hjl, trivial⟩ ?_
        refine Goes.val (Instr.indexAt 160 (.slice (some ⟨b2, o2, none⟩) M c2) (.int .i64 j)) (.pointer (some ⟨b2, o2 + j * 2, none⟩)) (fun w' _ _ => idxT b2 o2 M c2 j hjl' w') ?_
        refine Goes.run [] [] trivial ?_
        refine Goes.val (Instr.loadAt 3 (.pointer (some ⟨b2, o2 + j * 2, none⟩))) (.int .i64 q.1) (fun w' _ hI => load1 Tryz.isAgg3 (((bel0 hI).cell (p := ⟨b2, o2 + j * 2, none⟩) hb2).trans y1)) ?_
        cases hqd : decide (q.1 ≤ day) with
        | false =>
          refine Goes.run [0] [(decide (q.1 ≤ day), false)] ⟨hqd, trivial⟩ ?_
          refine Goes.slot 12 (.int .i64 (j + 1 : Nat)) (u := .int .i64 (IntKind.i64.wrap ((j : Int) + 1))) (congrArg _ (wrap_nat (by omega))) ?_
          exact back2 (j + 1, r) _ ⟨hjl', by rw [hjr, hd2]; simp only [stpP, List.foldl_cons, hqd, cond_false]⟩ (by simp only; omega) (by kernel_rfl) (by kernel_rfl) (by kernel_rfl)
        | true =>
          refine Goes.run [1] [(decide (q.1 ≤ day), true)] ⟨hqd, trivial⟩ ?_
          refine Goes.val (Instr.indexAt 160 (.slice (some ⟨b2, o2, none⟩) M c2) (.int .i64 j)) (.pointer (some ⟨b2, o2 + j * 2, none⟩)) (fun w' _ _ => idxT b2 o2 M c2 j hjl' w') ?_
          refine Goes.run [] [] trivial ?_
          refine Goes.val (Instr.loadAt 2 (.pointer (some ⟨b2, o2 + j * 2 + 1, none⟩))) (.int .i64 q.2) (fun w' _ hI => load1 Tryz.isAgg2 (((bel0 hI).cell (p := ⟨b2, o2 + j * 2 + 1, none⟩) hb2).trans y2)) ?_
          refine Goes.run [] [] trivial ?_
          refine Goes.slot 12 (.int .i64 (j + 1 : Nat)) (u := .int .i64 (IntKind.i64.wrap ((j : Int) + 1))) (congrArg _ (wrap_nat (by omega))) ?_
          exact back2 (j + 1, some q.2) _ ⟨hjl', by rw [hjr, hd2]; simp only [stpP, List.foldl_cons, hqd, cond_true]⟩ (by simp only; omega) (by kernel_rfl) (by kernel_rfl) (by kernel_rfl)
end Go.Proofs.YtddbiiejilcbbaaGreatDoor
namespace Go.Proofs.YtddbiiejilcbbaaGreatDoor
open Go Go.RowKit

noncomputable def valC (fs : List (List UInt8 × List (Int × Int))) (day op k : Int) (t : List UInt8) (vs : List (Option Int)) : Option Int :=
  bif op == 1 || op == 2 || op == 3 then some k else bif op == 4 then fedP t (IntKind.i64.wrap (day - k)) fs else bif op == 5 then some ((clampD (IntKind.i64.wrap (day - k)) : Nat) : Int) else
  match vs.getD 0 none with
  | none => none
  | some a =>
    bif op == 6 then some (- clampI a) else bif op == 14 then some (IntKind.i64.wrap (1 - a)) else bif op == 15 then (bif a == 0 then some 0 else vs.getD 1 none) else bif op == 16 then (bif a == 1 then some 1 else vs.getD 1 none) else bif op == 22 then (bif a == 1 then vs.getD 1 none else vs.getD 2 none) else
    match vs.getD 1 none with
    | none => none
    | some b => some (twoP op a b)
mutual
/-- The value of an observable; none: it is not known. -/
noncomputable def valP (fs : List (List UInt8 × List (Int × Int))) (day : Int) : Co → Option Int
  | .mk op k t kids => valC fs day op k t (valL fs day kids)
noncomputable def valL (fs : List (List UInt8 × List (Int × Int))) (day : Int) : List Co → List (Option Int)
  | [] => []
  | c :: r => valP fs day c :: valL fs day r
end
theorem val_get (fs : List (List UInt8 × List (Int × Int))) (day : Int) : ∀ {l : List Co} {i : Nat} {c : Co}, l[i]? = some c → (valL fs day l).getD i none = valP fs day c
  | [], i, c, h => by simp at h
  | y :: r, 0, c, h => by simp at h; subst h; rw [valL]; rfl
  | y :: r, i + 1, c, h => by rw [valL]; simp only [List.getD_cons_succ]; exact val_get fs day (by simpa using h)
def needP (op : Int) : Nat := bif op == 6 || op == 14 then 1 else bif op == 22 then 3 else 2
mutual
/-- Has it the kids that it asks? -/
def obP : Co → Bool
  | .mk op _ _ kids => (op == 1 || op == 2 || op == 3 || op == 4 || op == 5) || (decide (needP op ≤ kids.length) && obL kids)
def obL : List Co → Bool
  | [] => true
  | c :: r => obP c && obL r
end
theorem ob_mem : ∀ {l : List Co}, obL l = true → ∀ c ∈ l, obP c = true
  | [], _ => by simp
  | c :: r, h => by
    rw [obL, Bool.and_eq_true] at h
    intro x hx
    rcases List.mem_cons.1 hx with e | e
    · rw [e]; exact h.1
    · exact ob_mem h.2 x e
set_option maxRecDepth 100000 in
seal rn rnS Goes ans atEnd put0 putM opened putA0 oneSt st0 in
theorem val_any {fs : List (List UInt8 × List (Int × Int))} {fv : Value} (day : Int) (c : Co) : ∀ (v : Value) (w : World), obP c = true → Nc w.heap.size w v c → Fds w.heap.size w fv fs → Calls Tryz.prog 48 #[v, .int .i64 day, fv] w fun e w' => e = .returned (oV (valP fs day c)) ∧ Below w.heap.size w w' := by
  induction c using Co.ind with
  | h op k t kids ih =>
  intro v w hob hN hF
  obtain ⟨a, cc, rfl, hfit, hcap, hkids⟩ := hN.open
  obtain ⟨N, hL⟩ : ∃ N, kids.length = N := ⟨_, rfl⟩
  obtain ⟨fa, fc, rfl, -, -⟩ := id hF
  obtain ⟨FN, hFN⟩ : ∃ FN, fs.length = FN := ⟨_, rfl⟩
  rw [hFN] at hF ih ⊢
  rw [hL] at hcap ⊢
  rw [valP]
  refine Goes.begin Tryz.func48 [] (fun _ => True) Holds.nil (by simp [Mem.ids]) (fun _ _ => trivial) ?_
  cases h1 : (op == 1) with
  | true =>
    refine Goes.run1 [0, 1, 1, 0] [(op == 1, true), (op == 1, true)] ⟨h1, h1, trivial⟩ fun g => ?_
    exact Goes.ret [] (.tuple #[.int .i64 k, .bool true]) fun w' hm hI => ⟨by unfold valC; rw [h1] <;> rfl, bel0 hI⟩
  | false =>
  cases h2 : (op == 2) with
  | true =>
    refine Goes.run1 [0, 0, 1, 1, 0] [(op == 2, true), (op == 2, true), (op == 1, false)] ⟨h2, h2, h1, trivial⟩ fun g => ?_
    exact Goes.ret [] (.tuple #[.int .i64 k, .bool true]) fun w' hm hI => ⟨by unfold valC; rw [h1, h2] <;> rfl, bel0 hI⟩
  | false =>
  cases h3 : (op == 3) with
  | true =>
    refine Goes.run1 [0, 0, 0, 1, 0] [(op == 3, true), (op == 2, false), (op == 1, false)] ⟨h3, h2, h1, trivial⟩ fun g => ?_
    exact Goes.ret [] (.tuple #[.int .i64 k, .bool true]) fun w' hm hI => ⟨by unfold valC; rw [h1, h2, h3] <;> rfl, bel0 hI⟩
  | false =>
  cases h4 : (op == 4) with
  | true =>
    refine Goes.run1 [0, 0, 0, 0, 1, 0, 0] [(op == 4, true), (op == 3, false), (op == 2, false), (op == 1, false)] ⟨h4, h3, h2, h1, trivial⟩ fun g => ?_
    refine Goes.call0 86 #[.slice fa FN fc, strV t, .int .i64 (IntKind.i64.wrap (day - k))] (oV (fedP t (IntKind.i64.wrap (day - k)) fs)) (fun w' _ hI => fed_any (hF.at (bel0 hI)) t _) ?_
    refine Goes.run [] [] trivial ?_
    exact Goes.ret [] (oV (fedP t (IntKind.i64.wrap (day - k)) fs)) fun w' hm hI => ⟨by unfold valC; rw [h1, h2, h3, h4] <;> rfl, bel0 hI⟩
  | false =>
  cases h5 : (op == 5) with
  | true =>
    refine Goes.run1 [0, 0, 0, 0, 0, 1, 0] [(op == 5, true), (op == 4, false), (op == 3, false), (op == 2, false), (op == 1, false)] ⟨h5, h4, h3, h2, h1, trivial⟩ fun g => ?_
    refine Goes.call0 47 #[.int .i64 (IntKind.i64.wrap (day - k))] (.int .i64 ((clampD (IntKind.i64.wrap (day - k)) : Nat) : Int)) (fun w' _ _ => (rclamp_day _ w').mono fun _ _ h => belQ h) ?_
    refine Goes.run [] [] trivial ?_
    exact Goes.ret [] (.tuple #[.int .i64 ((clampD (IntKind.i64.wrap (day - k)) : Nat) : Int), .bool true]) fun w' hm hI => ⟨by unfold valC; rw [h1, h2, h3, h4, h5] <;> rfl, bel0 hI⟩
  | false =>
  have hneed : needP op ≤ N ∧ obL kids = true := by
    rw [obP, h1, h2, h3, h4, h5] at hob
    simp only [Bool.or_self, Bool.false_or, Bool.and_eq_true, decide_eq_true_eq] at hob
    rw [hL] at hob
    exact hob
  have kid : ∀ i, i < N → ∃ u b o op' k' t' a' N' c', kids[i]? = some u ∧ a = some ⟨b, o, none⟩ ∧ b < w.heap.size ∧ Cl4 w b (o + i * 4) (cv op' k' t' (.slice a' N' c')) ∧ Nc w.heap.size w (cv op' k' t' (.slice a' N' c')) u := by
    intro i hi
    obtain ⟨u, hu⟩ : ∃ u, kids[i]? = some u := ⟨kids[i]'(by omega), by simp⟩
    obtain ⟨b, o, y, rfl, hb, hcl, hy⟩ := hkids i u hu
    obtain ⟨op', k', t', a', N', c', rfl⟩ := hy.cells
    exact ⟨u, b, o, op', k', t', a', N', c', hu, rfl, hb, hcl, hy⟩
  have hn1 : 1 ≤ N := by
    have := hneed.1
    unfold needP at this
    cases hq : (op == 6 || op == 14) with
    | true => rw [hq] at this; exact this
    | false =>
      rw [hq] at this
      cases hq2 : (op == 22) with
      | true => rw [hq2] at this; simp at this; omega
      | false => rw [hq2] at this; simp at this; omega
  have rest : valC fs day op k t (valL fs day kids) = (match (valL fs day kids).getD 0 none with
    | none => none
    | some a =>
      bif op == 6 then some (- clampI a) else bif op == 14 then some (IntKind.i64.wrap (1 - a)) else bif op == 15 then (bif a == 0 then some 0 else (valL fs day kids).getD 1 none) else bif op == 16 then (bif a == 1 then some 1 else (valL fs day kids).getD 1 none) else bif op == 22 then (bif a == 1 then (valL fs day kids).getD 1 none else (valL fs day kids).getD 2 none) else
      match (valL fs day kids).getD 1 none with
      | none => none
      | some b => some (twoP op a b)) := by unfold valC; rw [h1, h2, h3, h4, h5] <;> rfl
  rw [rest]
  obtain ⟨u0, b, o, op0, k0, t0, a0, N0, c0, hu0, rfl, hb, hcl0, hy0⟩ := kid 0 (by omega)
  rw [val_get fs day hu0]
  refine Goes.run1 [0, 0, 0, 0, 0, 0, 0] [(op == 5, false), (op == 4, false), (op == 3, false), (op == 2, false), (op == 1, false)] ⟨h5, h4, h3, h2, h1, trivial⟩ fun g => ?_
  refine Goes.val (Instr.indexAt 50 (.slice (some ⟨b, o, none⟩) N cc) (.int .i64 (0 : Nat))) (.pointer (some ⟨b, o + 0 * 4, none⟩)) (fun w' _ _ => idxC b o N cc 0 (by omega) w') ?_
  refine Goes.val (Instr.loadAt 52 (.pointer (some ⟨b, o + 0 * 4, none⟩))) (cv op0 k0 t0 (.slice a0 N0 c0)) (fun w' _ hI => loadC (hcl0.below hb (bel0 hI))) ?_
  refine Goes.run [] [] trivial ?_
  refine Goes.call0 48 #[cv op0 k0 t0 (.slice a0 N0 c0), .int .i64 day, .slice fa FN fc] (oV (valP fs day u0)) (fun w' _ hI => ih u0 (List.mem_of_getElem? hu0) _ w' (ob_mem hneed.2 u0 (List.mem_of_getElem? hu0)) (hy0.at (bel0 hI)) (hF.at (bel0 hI))) ?_
  cases hv0 : valP fs day u0 with
  | none =>
    refine Goes.run [1] [(true, true)] ⟨rfl, trivial⟩ ?_
    exact Goes.ret [] (.tuple #[.int .i64 0, .bool false]) fun w' hm hI => ⟨rfl, bel0 hI⟩
  | some x =>
  cases h6 : (op == 6) with
  | true =>
    refine Goes.run [0, 0, 1] [(op == 6, true), (false, false)] ⟨h6, rfl, trivial⟩ ?_
    refine Goes.call0 50 #[.int .i64 x] (.int .i64 (- clampI x)) (fun w' _ _ => (rneg_any x w').mono fun _ _ h => belQ h) ?_
    refine Goes.run [] [] trivial ?_
    exact Goes.ret [] (.tuple #[.int .i64 (- clampI x), .bool true]) fun w' hm hI => ⟨rfl, bel0 hI⟩
  | false =>
  cases h14 : (op == 14) with
  | true =>
    refine Goes.run [0, 0, 0, 1] [(op == 14, true), (op == 6, false), (false, false)] ⟨h14, h6, rfl, trivial⟩ ?_
    exact Goes.ret [] (.tuple #[.int .i64 (IntKind.i64.wrap (1 - x)), .bool true]) fun w' hm hI => ⟨rfl, bel0 hI⟩
  | false =>
  cases h15 : (op == 15) with
  | true =>
    cases hx : (x == 0) with
    | true =>
      refine Goes.run [0, 0, 0, 0, 1, 1] [(x == 0, true), (op == 15, true), (op == 14, false), (op == 6, false), (false, false)] ⟨hx, h15, h14, h6, rfl, trivial⟩ ?_
      exact Goes.ret [] (.tuple #[.int .i64 0, .bool true]) fun w' hm hI => ⟨by show _ = Ending.returned (oV (bif x == 0 then some 0 else (valL fs day kids).getD 1 none)); rw [hx] <;> rfl, bel0 hI⟩
    | false =>
      have hn6 : 1 < N := by have := hneed.1; unfold needP at this; rw [show (op == 6 || op == 14) = false by rw [h6, h14]; rfl, show (op == 22) = false by have := eq_of_beq h15; subst this; rfl] at this; simp at this; omega
      obtain ⟨u1, b1, o1, op1, k1, t1, a1, N1, c1, hu1, e1, -, hcl1, hy1⟩ := kid 1 hn6
      cases e1
      rw [val_get fs day hu1]
      refine Goes.run [0, 0, 0, 0, 1, 0, 0] [(x == 0, false), (op == 15, true), (op == 14, false), (op == 6, false), (false, false)] ⟨hx, h15, h14, h6, rfl, trivial⟩ ?_
      refine Goes.val (Instr.indexAt 50 (.slice (some ⟨b, o, none⟩) N cc) (.int .i64 (1 : Nat))) (.pointer (some ⟨b, o + 1 * 4, none⟩)) (fun w' _ _ => idxC b o N cc 1 (by omega) w') ?_
      refine Goes.val (Instr.loadAt 52 (.pointer (some ⟨b, o + 1 * 4, none⟩))) (cv op1 k1 t1 (.slice a1 N1 c1)) (fun w' _ hI => loadC (hcl1.below hb (bel0 hI))) ?_
      refine Goes.run [] [] trivial ?_
      refine Goes.call0 48 #[cv op1 k1 t1 (.slice a1 N1 c1), .int .i64 day, .slice fa FN fc] (oV (valP fs day u1)) (fun w' _ hI => ih u1 (List.mem_of_getElem? hu1) _ w' (ob_mem hneed.2 u1 (List.mem_of_getElem? hu1)) (hy1.at (bel0 hI)) (hF.at (bel0 hI))) ?_
      refine Goes.run [] [] trivial ?_
      exact Goes.ret [] (oV (valP fs day u1)) fun w' hm hI => ⟨by show _ = Ending.returned (oV (bif x == 0 then some 0 else valP fs day u1)); rw [hx] <;> rfl, bel0 hI⟩
  | false =>
  cases h16 : (op == 16) with
  | true =>
    cases hx : (x == 1) with
    | true =>
      refine Goes.run [0, 0, 0, 0, 0, 1, 1] [(x == 1, true), (op == 16, true), (op == 15, false), (op == 14, false), (op == 6, false), (false, false)] ⟨hx, h16, h15, h14, h6, rfl, trivial⟩ ?_
      exact Goes.ret [] (.tuple #[.int .i64 1, .bool true]) fun w' hm hI => ⟨by show _ = Ending.returned (oV (bif x == 1 then some 1 else (valL fs day kids).getD 1 none)); rw [hx] <;> rfl, bel0 hI⟩
    | false =>
      have hn6 : 1 < N := by have := hneed.1; unfold needP at this; rw [show (op == 6 || op == 14) = false by rw [h6, h14]; rfl, show (op == 22) = false by have := eq_of_beq h16; subst this; rfl] at this; simp at this; omega
      obtain ⟨u1, b1, o1, op1, k1, t1, a1, N1, c1, hu1, e1, -, hcl1, hy1⟩ := kid 1 hn6
      cases e1
      rw [val_get fs day hu1]
      refine Goes.run [0, 0, 0, 0, 0, 1, 0, 0] [(x == 1, false), (op == 16, true), (op == 15, false), (op == 14, false), (op == 6, false), (false, false)] ⟨hx, h16, h15, h14, h6, rfl, trivial⟩ ?_
      refine Goes.val (Instr.indexAt 50 (.slice (some ⟨b, o, none⟩) N cc) (.int .i64 (1 : Nat))) (.pointer (some ⟨b, o + 1 * 4, none⟩)) (fun w' _ _ => idxC b o N cc 1 (by omega) w') ?_
      refine Goes.val (Instr.loadAt 52 (.pointer (some ⟨b, o + 1 * 4, none⟩))) (cv op1 k1 t1 (.slice a1 N1 c1)) (fun w' _ hI => loadC (hcl1.below hb (bel0 hI))) ?_
      refine Goes.run [] [] trivial ?_
      refine Goes.call0 48 #[cv op1 k1 t1 (.slice a1 N1 c1), .int .i64 day, .slice fa FN fc] (oV (valP fs day u1)) (fun w' _ hI => ih u1 (List.mem_of_getElem? hu1) _ w' (ob_mem hneed.2 u1 (List.mem_of_getElem? hu1)) (hy1.at (bel0 hI)) (hF.at (bel0 hI))) ?_
      refine Goes.run [] [] trivial ?_
      exact Goes.ret [] (oV (valP fs day u1)) fun w' hm hI => ⟨by show _ = Ending.returned (oV (bif x == 1 then some 1 else valP fs day u1)); rw [hx] <;> rfl, bel0 hI⟩
  | false =>
  cases h22 : (op == 22) with
  | true =>
    cases hx : (x == 1) with
    | true =>
      have hn6 : 1 < N := by have := hneed.1; unfold needP at this; rw [show (op == 6 || op == 14) = false by rw [h6, h14]; rfl, h22] at this; simp at this; omega
      obtain ⟨u1, b1, o1, op1, k1, t1, a1, N1, c1, hu1, e1, -, hcl1, hy1⟩ := kid 1 hn6
      cases e1
      rw [val_get fs day hu1]
      refine Goes.run [0, 0, 0, 0, 0, 0, 1, 1, 0] [(x == 1, true), (op == 22, true), (op == 16, false), (op == 15, false), (op == 14, false), (op == 6, false), (false, false)] ⟨hx, h22, h16, h15, h14, h6, rfl, trivial⟩ ?_
      refine Goes.val (Instr.indexAt 50 (.slice (some ⟨b, o, none⟩) N cc) (.int .i64 (1 : Nat))) (.pointer (some ⟨b, o + 1 * 4, none⟩)) (fun w' _ _ => idxC b o N cc 1 (by omega) w') ?_
      refine Goes.val (Instr.loadAt 52 (.pointer (some ⟨b, o + 1 * 4, none⟩))) (cv op1 k1 t1 (.slice a1 N1 c1)) (fun w' _ hI => loadC (hcl1.below hb (bel0 hI))) ?_
      refine Goes.run [] [] trivial ?_
      refine Goes.call0 48 #[cv op1 k1 t1 (.slice a1 N1 c1), .int .i64 day, .slice fa FN fc] (oV (valP fs day u1)) (fun w' _ hI => ih u1 (List.mem_of_getElem? hu1) _ w' (ob_mem hneed.2 u1 (List.mem_of_getElem? hu1)) (hy1.at (bel0 hI)) (hF.at (bel0 hI))) ?_
      refine Goes.run [] [] trivial ?_
      exact Goes.ret [] (oV (valP fs day u1)) fun w' hm hI => ⟨by show _ = Ending.returned (oV (bif x == 1 then _ else _)); rw [hx] <;> rfl, bel0 hI⟩
    | false =>
      have hn7 : 2 < N := by have := hneed.1; unfold needP at this; rw [show (op == 6 || op == 14) = false by rw [h6, h14]; rfl, h22] at this; simp at this; omega
      obtain ⟨u2, b2, o2, op2, k2, t2, a2, N2, c2, hu2, e2, -, hcl2, hy2⟩ := kid 2 hn7
      cases e2
      rw [val_get fs day hu2]
      refine Goes.run [0, 0, 0, 0, 0, 0, 1, 0, 0] [(x == 1, false), (op == 22, true), (op == 16, false), (op == 15, false), (op == 14, false), (op == 6, false), (false, false)] ⟨hx, h22, h16, h15, h14, h6, rfl, trivial⟩ ?_
      refine Goes.val (Instr.indexAt 50 (.slice (some ⟨b, o, none⟩) N cc) (.int .i64 (2 : Nat))) (.pointer (some ⟨b, o + 2 * 4, none⟩)) (fun w' _ _ => idxC b o N cc 2 (by omega) w') ?_
      refine Goes.val (Instr.loadAt 52 (.pointer (some ⟨b, o + 2 * 4, none⟩))) (cv op2 k2 t2 (.slice a2 N2 c2)) (fun w' _ hI => loadC (hcl2.below hb (bel0 hI))) ?_
      refine Goes.run [] [] trivial ?_
      refine Goes.call0 48 #[cv op2 k2 t2 (.slice a2 N2 c2), .int .i64 day, .slice fa FN fc] (oV (valP fs day u2)) (fun w' _ hI => ih u2 (List.mem_of_getElem? hu2) _ w' (ob_mem hneed.2 u2 (List.mem_of_getElem? hu2)) (hy2.at (bel0 hI)) (hF.at (bel0 hI))) ?_
      refine Goes.run [] [] trivial ?_
      exact Goes.ret [] (oV (valP fs day u2)) fun w' hm hI => ⟨by show _ = Ending.returned (oV (bif x == 1 then _ else _)); rw [hx] <;> rfl, bel0 hI⟩
  | false =>
  have hn6 : 1 < N := by have := hneed.1; unfold needP at this; rw [show (op == 6 || op == 14) = false by rw [h6, h14]; rfl, h22] at this; simp at this; omega
  obtain ⟨u1, b1, o1, op1, k1, t1, a1, N1, c1, hu1, e1, -, hcl1, hy1⟩ := kid 1 hn6
  cases e1
  rw [val_get fs day hu1]
  refine Goes.run [0, 0, 0, 0, 0, 0, 0, 0] [(op == 22, false), (op == 16, false), (op == 15, false), (op == 14, false), (op == 6, false), (false, false)] ⟨h22, h16, h15, h14, h6, rfl, trivial⟩ ?_
  refine Goes.val (Instr.indexAt 50 (.slice (some ⟨b, o, none⟩) N cc) (.int .i64 (1 : Nat))) (.pointer (some ⟨b, o + 1 * 4, none⟩)) (fun w' _ _ => idxC b o N cc 1 (by omega) w') ?_
  refine Goes.val (Instr.loadAt 52 (.pointer (some ⟨b, o + 1 * 4, none⟩))) (cv op1 k1 t1 (.slice a1 N1 c1)) (fun w' _ hI => loadC (hcl1.below hb (bel0 hI))) ?_
  refine Goes.run [] [] trivial ?_
  refine Goes.call0 48 #[cv op1 k1 t1 (.slice a1 N1 c1), .int .i64 day, .slice fa FN fc] (oV (valP fs day u1)) (fun w' _ hI => ih u1 (List.mem_of_getElem? hu1) _ w' (ob_mem hneed.2 u1 (List.mem_of_getElem? hu1)) (hy1.at (bel0 hI)) (hF.at (bel0 hI))) ?_
  cases hv1 : valP fs day u1 with
  | none =>
    refine Goes.run [1] [(true, true)] ⟨rfl, trivial⟩ ?_
    exact Goes.ret [] (.tuple #[.int .i64 0, .bool false]) fun w' hm hI => ⟨rfl, bel0 hI⟩
  | some y =>
    refine Goes.run [0, 0] [(false, false)] ⟨rfl, trivial⟩ ?_
    refine Goes.call0 87 #[.int .i64 op, .int .i64 x, .int .i64 y] (.int .i64 (twoP op x y)) (fun w' _ _ => two_any op x y w') ?_
    refine Goes.run [] [] trivial ?_
    exact Goes.ret [] (.tuple #[.int .i64 (twoP op x y), .bool true]) fun w' hm hI => ⟨rfl, bel0 hI⟩
end Go.Proofs.YtddbiiejilcbbaaGreatDoor
namespace Go.Proofs.YtddbiiejilcbbaaGreatDoor
open Go

abbrev Fs := List (List UInt8 × List (Int × Int))
/-- What waits (places and factors), what is transferred (currencies and amounts). -/
abbrev R2 := List (Int × Int) × List (List UInt8 × Int)
def r0 : R2 := ([], [])
def R2.cat (a b : R2) : R2 := (a.1 ++ b.1, a.2 ++ b.2)
def wt (p f : Int) : R2 := ([(p, f)], [])
def brA (br : List (Int → R2)) (i : Nat) (f : Int) : R2 := (br.getD i fun _ => r0) f
noncomputable def acqC (day op k : Int) (t : List UInt8) (vs : List (Option Int)) (br : List (Int → R2)) (p f : Int) : R2 :=
  bif op == 24 then (bif f == 0 then r0 else ([], [(t, f)]))
  else bif op == 25 then brA br 0 (- clampI f)
  else bif op == 27 then R2.cat (brA br 0 f) (brA br 1 f)
  else bif op == 26 then (match vs.getD 0 none with | some n => brA br 1 (mulI f n) | none => wt p f)
  else bif op == 28 then (match vs.getD 0 none with | some b => brA br (2 - b).toNat f | none => wt p f)
  else bif op == 29 then (bif decide (k ≤ day) then brA br 0 f else wt p f)
  else bif op == 30 then (bif decide (k < day) then r0 else match vs.getD 0 none with | some b => (bif b == 1 then brA br 1 f else wt p f) | none => wt p f)
  else bif op == 31 then (bif decide (k < day) then brA br 1 f else wt p f)
  else r0
mutual
noncomputable def acq (fs : Fs) (day : Int) : Co → Int → Int → R2
  | .mk op k t kids, p, f => acqC day op k t (valL fs day kids) (acqL fs day kids (p + 1)) p f
noncomputable def acqL (fs : Fs) (day : Int) : List Co → Int → List (Int → R2)
  | [], _ => []
  | c :: r, p => (fun f => acq fs day c p f) :: acqL fs day r (p + szC c)
end
mutual
/-- The term at a place. -/
def termP : Co → Int → Option Co
  | .mk op k t kids, q => bif q == 0 then some (.mk op k t kids) else termL kids 1 q
def termL : List Co → Int → Int → Option Co
  | [], _, _ => none
  | c :: r, s, q => bif decide (s ≤ q) && decide (q < s + szC c) then termP c (q - s) else termL r (s + szC c) q
end
end Go.Proofs.YtddbiiejilcbbaaGreatDoor
namespace Go.Proofs.YtddbiiejilcbbaaGreatDoor
open Go

theorem tw_iff {α : Type} {R : α → α → Prop} {p : α → Bool} (hp : ∀ x y, R x y → p y = true → p x = true) : ∀ {l : List α}, l.Pairwise R → ∀ (i : Nat) (u : α), l[i]? = some u → (p u = true ↔ i < (l.takeWhile p).length)
  | [], _, i, u, h => by simp at h
  | x :: r, hl, i, u, h => by
    rw [List.pairwise_cons] at hl
    cases hx : p x with
    | true =>
      rw [List.takeWhile_cons_of_pos hx]
      cases i with
      | zero => simp at h; subst h; simp [hx]
      | succ i =>
        have := tw_iff hp hl.2 i u (by simpa using h)
        rw [this]; simp
    | false =>
      rw [List.takeWhile_cons_of_neg (by simp [hx])]
      cases i with
      | zero => simp at h; subst h; simp [hx]
      | succ i =>
        have hu : u ∈ r := List.mem_of_getElem? (by simpa using h : r[i]? = some u)
        constructor
        · intro hpu
          have := hp x u (hl.1 u hu) hpu
          rw [hx] at this; cases this
        · intro h'; simp at h'
theorem tw_le {α : Type} (p : α → Bool) : ∀ l : List α, (l.takeWhile p).length ≤ l.length
  | [] => by simp
  | x :: r => by
    have := tw_le p r
    cases hx : p x with
    | true => rw [List.takeWhile_cons_of_pos hx]; simpa using this
    | false => rw [List.takeWhile_cons_of_neg (by simp [hx])]; simp
/-- Names that rise. -/
def RiseN (fs : Fs) : Prop := fs.Pairwise fun x y => x.1 < y.1
/-- Days that rise. -/
def RiseD (l : List (Int × Int)) : Prop := l.Pairwise fun x y => x.1 < y.1
/-- How many feeds stand ahead of a name; how many stamps up to a day. -/
def posN (name : List UInt8) (fs : Fs) : Nat := (fs.takeWhile fun f => decide (f.1 < name)).length
def posD (day : Int) (l : List (Int × Int)) : Nat := (l.takeWhile fun q => decide (q.1 < day)).length
theorem posN_iff {name : List UInt8} {fs : Fs} (h : RiseN fs) (i : Nat) (f : List UInt8 × List (Int × Int)) (hf : fs[i]? = some f) : decide (f.1 < name) = true ↔ i < posN name fs :=
  tw_iff (p := fun f : List UInt8 × List (Int × Int) => decide (f.1 < name)) (fun _ _ hxy hy => decide_eq_true (List.lt_trans hxy (of_decide_eq_true hy))) h i f hf
theorem posD_iff {day : Int} {l : List (Int × Int)} (h : RiseD l) (i : Nat) (q : Int × Int) (hq : l[i]? = some q) : decide (q.1 < day) = true ↔ i < posD day l :=
  tw_iff (p := fun q : Int × Int => decide (q.1 < day)) (fun _ _ hxy hy => decide_eq_true (Int.lt_trans hxy (of_decide_eq_true hy))) h i q hq
theorem posN_le (name : List UInt8) (fs : Fs) : posN name fs ≤ fs.length := tw_le _ fs
theorem posD_le (day : Int) (l : List (Int × Int)) : posD day l ≤ l.length := tw_le _ l
theorem fed_none {name : List UInt8} {day : Int} : ∀ {fs : Fs}, (∀ f ∈ fs, f.1 ≠ name) → fedP name day fs = none
  | [], _ => rfl
  | f :: r, h => by
    rw [fedP, decide_eq_true (h f (by simp))]
    exact fed_none (fs := r) (fun g hg => h g (by simp [hg]))
/-- A feed is found where it stands. -/
theorem fed_at {name : List UInt8} {day : Int} : ∀ {fs : Fs}, RiseN fs → fedP name day fs = match fs[posN name fs]? with | some f => bif decide (f.1 = name) then stpP day none f.2 else none | none => none
  | [], _ => rfl
  | x :: r, h => by
    have h2 := h
    unfold RiseN at h2
    rw [List.pairwise_cons] at h2
    have ih := fed_at (name := name) (day := day) (fs := r) h2.2
    cases hx : decide (x.1 < name) with
    | true =>
      have e : posN name (x :: r) = posN name r + 1 := by unfold posN; rw [List.takeWhile_cons_of_pos (p := fun f : List UInt8 × List (Int × Int) => decide (f.1 < name)) hx]; rfl
      have hne : x.1 ≠ name := fun e => by have := of_decide_eq_true hx; rw [e] at this; exact List.lt_irrefl _ this
      rw [e, fedP, decide_eq_true hne, cond_true, ih]
      simp
    | false =>
      have e : posN name (x :: r) = 0 := by unfold posN; rw [List.takeWhile_cons_of_neg (p := fun f : List UInt8 × List (Int × Int) => decide (f.1 < name)) (by simpa using hx)]; rfl
      rw [e]
      simp only [List.getElem?_cons_zero]
      cases hn : decide (x.1 = name) with
      | true => rw [fedP, decide_eq_false (by simpa using of_decide_eq_true hn)]; rfl
      | false =>
        have hne := of_decide_eq_false hn
        rw [fedP, decide_eq_true hne, cond_true, cond_false]
        refine fed_none fun f hf e => ?_
        have hlt := h2.1 f hf
        rw [e] at hlt
        exact absurd hlt (of_decide_eq_false hx)
theorem stp_none {day : Int} {r : Option Int} : ∀ {l : List (Int × Int)}, (∀ q ∈ l, ¬ q.1 ≤ day) → stpP day r l = r
  | [], _ => rfl
  | q :: l, h => by
    unfold stpP
    rw [List.foldl_cons, decide_eq_false (h q (by simp)), cond_false]
    exact stp_none (l := l) (fun g hg => h g (by simp [hg]))
/-- The last stamp up to a day, by how many there are. -/
theorem stp_at {day : Int} : ∀ {l : List (Int × Int)} {r : Option Int}, RiseD l → stpP day r l = bif posD (day + 1) l == 0 then r else (l[posD (day + 1) l - 1]?).map (·.2)
  | [], r, _ => rfl
  | q :: l, r, h => by
    have h2 := h
    unfold RiseD at h2
    rw [List.pairwise_cons] at h2
    have ih := stp_at (day := day) (l := l) (r := some q.2) h2.2
    cases hq : decide (q.1 < day + 1) with
    | true =>
      have e : posD (day + 1) (q :: l) = posD (day + 1) l + 1 := by unfold posD; rw [List.takeWhile_cons_of_pos (p := fun q : Int × Int => decide (q.1 < day + 1)) hq]; rfl
      have hle : q.1 ≤ day := by have := of_decide_eq_true hq; omega
      have e2 : stpP day r (q :: l) = stpP day (some q.2) l := by unfold stpP; rw [List.foldl_cons, decide_eq_true hle, cond_true]
      rw [e2, ih, e]
      cases posD (day + 1) l with
      | zero => rfl
      | succ m => simp
    | false =>
      have e : posD (day + 1) (q :: l) = 0 := by unfold posD; rw [List.takeWhile_cons_of_neg (p := fun q : Int × Int => decide (q.1 < day + 1)) (by simpa using hq)]; rfl
      rw [e]
      refine stp_none fun x hx => ?_
      rcases List.mem_cons.1 hx with rfl | hx
      · have := of_decide_eq_false hq; omega
      · have := of_decide_eq_false hq; have := h2.1 x hx; omega
end Go.Proofs.YtddbiiejilcbbaaGreatDoor
namespace Go.Proofs.YtddbiiejilcbbaaGreatDoor
open Go

/-- What a step does with one that waits. -/
noncomputable def stepX (fs : Fs) (day : Int) (lab : List UInt8) (which : Int) : Co → Int → Int → R2
  | .mk op k s kids, p, f => bif (op == 31 && decide (lab ≠ []) && decide (s = lab)) && decide (day ≤ k) then brA (acqL fs day kids (p + 1)) (which - 1).toNat f else acq fs day (.mk op k s kids) p f
noncomputable def stepP (fs : Fs) (day : Int) (lab : List UInt8) (which : Int) (c : Co) : List (Int × Int) → R2
  | [] => r0
  | x :: r => R2.cat (match termP c x.1 with | some t => stepX fs day lab which t x.1 x.2 | none => r0) (stepP fs day lab which c r)
def inM (f : Int) : Prop := -1000000000000000 ≤ f ∧ f ≤ 1000000000000000
end Go.Proofs.YtddbiiejilcbbaaGreatDoor
namespace Go.Proofs.YtddbiiejilcbbaaGreatDoor
open Go

end Go.Proofs.YtddbiiejilcbbaaGreatDoor
namespace Go.Proofs.YtddbiiejilcbbaaGreatDoor
open Go Go.ChangeShapes Go.WideShapes Go.ChangeAt Go.WideMaps Go.WideElems Go.RowKit Go.ChangeMaps Go.Deep

def i64P (z : Int) : Prop := -9223372036854775808 ≤ z ∧ z ≤ 9223372036854775807
theorem list2 {α : Type} : ∀ {l : List α}, l.length = 2 → ∃ a b, l = [a, b]
  | [a, b], _ => ⟨a, b, rfl⟩
set_option maxRecDepth 100000 in
theorem stamp_trod {H : Type} {enc : TypeId × Value → H} {W : World} {fuel : Nat} {cs : List Value} {x : DataW H × List MemPlace} (hf : DataW.trod enc Tryz.prog W 0 (fun _ => true) true fuel 164 cs = some x) : ∃ d n, cs = [.int .i64 d, .int .i64 n] ∧ i64P d ∧ i64P n := by
  have hc2 : Tryz.prog.cellsOf 164 = 2 := by kernel_rfl
  have hci : Tryz.prog.cellsOf 3 = 1 := by kernel_rfl
  have hcl : Tryz.prog.cellsOf 2 = 1 := by kernel_rfl
  obtain ⟨ys, m, hm, hxy, hcl', hxl, hfd⟩ := DataW.trod_struct Tryz.underlying164 hf
  obtain ⟨y0, y1, rfl⟩ := list2 (show ys.length = 2 from hxl)
  rw [hc2] at hcl'
  obtain ⟨v0, v1, rfl⟩ := list2 hcl'
  have g0 := hfd 0 _ rfl
  have g1 := hfd 1 _ rfl
  simp [hci, hcl] at g0 g1
  obtain ⟨d, e0, _, w0⟩ := DataW.trod_int Tryz.underlying3 g0
  obtain ⟨n, e1, _, w1⟩ := DataW.trod_int Tryz.underlying2 g1
  simp only [List.cons.injEq, and_true] at e0 e1
  subst e0 e1
  exact ⟨d, n, rfl, bounds_i64 w0, bounds_i64 w1⟩
set_option maxRecDepth 100000 in
theorem stamps_trod {H : Type} {enc : TypeId × Value → H} {W : World} {fuel : Nat} {v : Value} {x : DataW H × List MemPlace} (hf : DataW.trod enc Tryz.prog W 0 (fun _ => true) true fuel 160 [v] = some x) : ∃ l, Sts W.heap.size W v l ∧ ∀ q ∈ l, i64P q.1 ∧ i64P q.2 := by
  have hc2 : Tryz.prog.cellsOf 164 = 2 := by kernel_rfl
  rcases DataW.trod_slice Tryz.underlying160 hf with ⟨e3, _⟩ | ⟨ad, len, cap, elems, rest, q, hq, e3, _, _, hlc, hcm, hel, hea, _, _⟩
  · simp only [List.cons.injEq, and_true] at e3
    subst e3
    exact ⟨[], ⟨none, 0, rfl, ⟨Nat.le_refl _, by omega⟩, by simp⟩, by simp⟩
  · simp only [List.cons.injEq, and_true] at e3
    subst e3
    rw [hc2] at hea
    have each : ∀ i, i < len → ∃ z : Int × Int, W.cell? (ad.add (i * 2)) = some (.int .i64 z.1) ∧ W.cell? (ad.add (i * 2 + 1)) = some (.int .i64 z.2) ∧ i64P z.1 ∧ i64P z.2 := by
      intro i hi
      have h1 := hea i hi
      rw [List.getElem?_eq_getElem (by omega)] at h1
      obtain ⟨cs2, h2, h3⟩ := Option.bind_eq_some_iff.1 h1
      obtain ⟨_, hlen2, hcell⟩ := World.cells?_some h2
      obtain ⟨d, n, rfl, b1, b2⟩ := stamp_trod h3
      have c0 := hcell 0 (by omega)
      have c1 := hcell 1 (by omega)
      rw [add_add] at c0 c1
      exact ⟨(d, n), by simpa using c0, by simpa using c1, b1, b2⟩
    obtain ⟨f, hq'⟩ := choose_lt each
    have hkl : ((List.range len).map f).length = len := by simp
    have hkg : ∀ i t, ((List.range len).map f)[i]? = some t → i < len ∧ f i = t := by
      intro i t h
      have hi : i < len := by have := (List.getElem?_eq_some_iff.1 h).1; simpa using this
      exact ⟨hi, by simpa [hi] using h⟩
    refine ⟨(List.range len).map f, ⟨some ad, cap, by rw [hkl], ⟨by rw [hkl]; exact hlc, hcm⟩, fun i t h => ?_⟩, fun t ht => ?_⟩
    · obtain ⟨hi, rfl⟩ := hkg i t h
      obtain ⟨c0, c1, _⟩ := hq' i hi
      obtain ⟨z0, _⟩ := hq' 0 (by omega)
      rw [Nat.zero_mul] at z0
      obtain ⟨b, off, sp⟩ := ad
      obtain rfl : sp = none := spot_none z0
      rw [Addr.add_lit] at c0 c1
      exact ⟨b, off, rfl, World.block_lt_of_cell? W _ c0, c0, by rw [Nat.add_assoc]; exact c1⟩
    · obtain ⟨i, hi, rfl⟩ := List.mem_map.1 ht
      exact (hq' i (List.mem_range.1 hi)).2.2
set_option maxRecDepth 100000 in
theorem feed_trod {H : Type} {enc : TypeId × Value → H} {W : World} {fuel : Nat} {cs : List Value} {x : DataW H × List MemPlace} (hf : DataW.trod enc Tryz.prog W 0 (fun _ => true) true fuel 162 cs = some x) : ∃ nm u l, cs = [strV nm, u] ∧ nm.length ≤ 9223372036854775807 ∧ Sts W.heap.size W u l ∧ ∀ q ∈ l, i64P q.1 ∧ i64P q.2 := by
  have hc2 : Tryz.prog.cellsOf 162 = 2 := by kernel_rfl
  have hcs : Tryz.prog.cellsOf 9 = 1 := by kernel_rfl
  have hcn : Tryz.prog.cellsOf 160 = 1 := by kernel_rfl
  obtain ⟨ys, m, hm, hxy, hcl', hxl, hfd⟩ := DataW.trod_struct Tryz.underlying162 hf
  obtain ⟨y0, y1, rfl⟩ := list2 (show ys.length = 2 from hxl)
  rw [hc2] at hcl'
  obtain ⟨v0, v1, rfl⟩ := list2 hcl'
  have g0 := hfd 0 _ rfl
  have g1 := hfd 1 _ rfl
  simp [hcs, hcn] at g0 g1
  obtain ⟨s, e0, _, w0⟩ := DataW.trod_string Tryz.underlying9 g0
  simp only [List.cons.injEq, and_true] at e0
  subst e0
  obtain ⟨l, h1, h2⟩ := stamps_trod g1
  exact ⟨s.data.toList, v1, l, by unfold strV; simp, by simpa [maxLen] using w0, h1, h2⟩
set_option maxRecDepth 100000 in
/-- Feeds that are handed in. -/
theorem feeds_arg {H : Type} {enc : TypeId × Value → H} {W : World} {v : Value} {d : DataW H} {p : List MemPlace} (h0 : DataW.Trod enc Tryz.prog W 0 (fun _ => true) true 36 v d p) (hv : v.cells.toList = [v]) : ∃ fs, Fds W.heap.size W v fs ∧ ∀ f ∈ fs, f.1.length ≤ 9223372036854775807 ∧ ∀ q ∈ f.2, i64P q.1 ∧ i64P q.2 := by
  obtain ⟨fuel, hf⟩ := h0
  rw [hv] at hf
  have hc2 : Tryz.prog.cellsOf 162 = 2 := by kernel_rfl
  rcases DataW.trod_slice Tryz.underlying36 hf with ⟨e3, _⟩ | ⟨ad, len, cap, elems, rest, q, hq, e3, _, _, hlc, hcm, hel, hea, _, _⟩
  · simp only [List.cons.injEq, and_true] at e3
    subst e3
    exact ⟨[], ⟨none, 0, rfl, ⟨Nat.le_refl _, by omega⟩, by simp⟩, by simp⟩
  · simp only [List.cons.injEq, and_true] at e3
    subst e3
    rw [hc2] at hea
    have each : ∀ i, i < len → ∃ z : List UInt8 × List (Int × Int), W.cell? (ad.add (i * 2)) = some (strV z.1) ∧ (∃ u, W.cell? (ad.add (i * 2 + 1)) = some u ∧ Sts W.heap.size W u z.2) ∧ z.1.length ≤ 9223372036854775807 ∧ ∀ q ∈ z.2, i64P q.1 ∧ i64P q.2 := by
      intro i hi
      have h1 := hea i hi
      rw [List.getElem?_eq_getElem (by omega)] at h1
      obtain ⟨cs2, h2, h3⟩ := Option.bind_eq_some_iff.1 h1
      obtain ⟨_, hlen2, hcell⟩ := World.cells?_some h2
      obtain ⟨nm, u, l, rfl, b1, b2, b3⟩ := feed_trod h3
      have c0 := hcell 0 (by omega)
      have c1 := hcell 1 (by omega)
      rw [add_add] at c0 c1
      exact ⟨(nm, l), by simpa using c0, ⟨u, by simpa using c1, b2⟩, b1, b3⟩
    obtain ⟨f, hq'⟩ := choose_lt each
    have hkl : ((List.range len).map f).length = len := by simp
    have hkg : ∀ i t, ((List.range len).map f)[i]? = some t → i < len ∧ f i = t := by
      intro i t h
      have hi : i < len := by have := (List.getElem?_eq_some_iff.1 h).1; simpa using this
      exact ⟨hi, by simpa [hi] using h⟩
    refine ⟨(List.range len).map f, ⟨some ad, cap, by rw [hkl], ⟨by rw [hkl]; exact hlc, hcm⟩, fun i t h => ?_⟩, fun t ht => ?_⟩
    · obtain ⟨hi, rfl⟩ := hkg i t h
      obtain ⟨c0, ⟨u, c1, hu⟩, _⟩ := hq' i hi
      obtain ⟨z0, _⟩ := hq' 0 (by omega)
      rw [Nat.zero_mul] at z0
      obtain ⟨b, off, sp⟩ := ad
      obtain rfl : sp = none := spot_none z0
      rw [Addr.add_lit] at c0 c1
      exact ⟨b, off, u, rfl, World.block_lt_of_cell? W _ c0, c0, by rw [Nat.add_assoc]; exact c1, hu⟩
    · obtain ⟨i, hi, rfl⟩ := List.mem_map.1 ht
      exact (hq' i (List.mem_range.1 hi)).2.2
end Go.Proofs.YtddbiiejilcbbaaGreatDoor
