/- texts put together: VTwo VFed VVal NtM NtM2 NtM3 VSrch NFrameT -/
import Derived.Test.YtjoplckpefoinaaGreatDoorAG11
import Derived.Test.YtjoplckpefoinaaGreatDoorAG2
import Derived.Test.YtjoplckpefoinaaGreatDoorAG3
import Derived.Test.YtjoplckpefoinaaGreatDoorAG5
import Derived.Test.YtjoplckpefoinaaGreatDoorTie
import Derived.Lib.LaidTab
namespace Go.Proofs.YtjoplckpefoinaaGreatDoor
open Go Go.RowKit

theorem belQ {w w' : World} {e : Ending} {v : Value} (h : e = .returned v ∧ w' = w) : e = .returned v ∧ Below w.heap.size w w' := ⟨h.1, h.2 ▸ Below.refl _ _⟩
/-- The date of a day. -/
noncomputable def ymdO (n : Nat) : Nat × Nat × Nat := Classical.epsilon fun q : Nat × Nat × Nat => Dt q.1 q.2.1 q.2.2 ∧ dn q.1 q.2.1 q.2.2 = n
theorem ymd_eq {y m d n : Nat} (h : Dt y m d) (hn : dn y m d = n) : ymdO n = (y, m, d) := by
  have hs : Dt (ymdO n).1 (ymdO n).2.1 (ymdO n).2.2 ∧ dn (ymdO n).1 (ymdO n).2.1 (ymdO n).2.2 = n := Classical.epsilon_spec (p := fun q : Nat × Nat × Nat => Dt q.1 q.2.1 q.2.2 ∧ dn q.1 q.2.1 q.2.2 = n) ⟨(y, m, d), h, hn⟩
  obtain ⟨h1, h2, h3⟩ := dn_inj hs.1 h (hs.2.trans hn.symm)
  exact Prod.ext h1 (Prod.ext h2 h3)
noncomputable def monI (day n : Int) : Int := ((monV (ymdO (clampD day)).1 (ymdO (clampD day)).2.1 (ymdO (clampD day)).2.2 n : Nat) : Int)
noncomputable def y30I (a b : Int) : Int := shareV (sd (ymdO (clampD b)).1 (ymdO (clampD b)).2.1 (ymdO (clampD b)).2.2 - sd (ymdO (clampD a)).1 (ymdO (clampD a)).2.1 (ymdO (clampD a)).2.2) 360
theorem rmonI_any (day n : Int) (w : World) : Calls Tryz.prog 121 #[.int .i64 day, .int .i64 n] w fun e w' => e = .returned (.int .i64 (monI day n)) ∧ Below w.heap.size w w' :=
  (rmonths_any day n w).mono fun e w' ⟨y, m, d, h1, h2, he, hB⟩ => ⟨by rw [he]; unfold monI; rw [ymd_eq h1 h2], hB⟩
theorem ry30I_any (a b : Int) (w : World) : Calls Tryz.prog 123 #[.int .i64 a, .int .i64 b] w fun e w' => e = .returned (.int .i64 (y30I a b)) ∧ Below w.heap.size w w' :=
  (ryears30_any a b w).mono fun e w' ⟨y, m, d, y', m', d', h1, h2, h3, h4, he, hB⟩ => ⟨by rw [he]; unfold y30I; rw [ymd_eq h1 h2, ymd_eq h3 h4], hB⟩
def trP (b : Bool) : Int := bif b then 1 else 0
set_option maxRecDepth 100000 in
seal rn rnS Goes ans atEnd put0 putM opened putA0 oneSt st0 in
theorem truth_any (b : Bool) (w : World) : Calls Tryz.prog 118 #[.bool b] w fun e w' => e = .returned (.int .i64 (trP b)) ∧ Below w.heap.size w w' := by
  refine Goes.begin Tryz.func118 [] (fun _ => True) Holds.nil (by simp [Mem.ids]) (fun _ _ => trivial) ?_
  cases b with
  | true =>
    refine Goes.run [1] [(true, true)] ⟨rfl, trivial⟩ ?_
    exact Goes.ret [] (.int .i64 1) fun w' hm hI => ⟨rfl, bel0 hI⟩
  | false =>
    refine Goes.run [0] [(false, false)] ⟨rfl, trivial⟩ ?_
    exact Goes.ret [] (.int .i64 0) fun w' hm hI => ⟨rfl, bel0 hI⟩
def whoI (b : Int) : Int := (clampI b).tdiv 1000000

noncomputable def twoP (op a b : Int) : Int :=
  bif op == 7 then clampI (clampI a + clampI b) else bif op == 8 then clampI (clampI a - clampI b) else bif op == 9 then mulI a b else bif op == 10 then divI a b else bif op == 11 || op == 17 then trP (decide (a < b)) else bif op == 12 then trP (decide (a ≤ b)) else bif op == 13 then trP (a == b) else bif op == 18 then ((plusV a (whoI b) : Nat) : Int) else bif op == 19 then monI a (whoI b) else bif op == 20 then shareV ((clampD b : Int) - (clampD a : Int)) 365 else y30I a b
set_option maxRecDepth 100000 in
seal rn rnS Goes ans atEnd put0 putM opened putA0 oneSt st0 in
theorem two_any (op a b : Int) (w : World) : Calls Tryz.prog 101 #[.int .i64 op, .int .i64 a, .int .i64 b] w fun e w' => e = .returned (.int .i64 (twoP op a b)) ∧ Below w.heap.size w w' := by
  refine Goes.begin Tryz.func101 [] (fun _ => True) Holds.nil (by simp [Mem.ids]) (fun _ _ => trivial) ?_
  cases h7 : (op == 7) with
  | true =>
    refine Goes.run [1] [(op == 7, true)] ⟨h7, trivial⟩ ?_
    refine Goes.call0 114 #[.int .i64 (a), .int .i64 (b)] (.int .i64 (clampI (clampI a + clampI b))) (fun w' _ _ => (radd_any a b w').mono fun _ _ h => belQ h) ?_
    refine Goes.run [] [] trivial ?_
    exact Goes.ret [] (.int .i64 (clampI (clampI a + clampI b))) fun w' hm hI => ⟨by unfold twoP; rw [h7] <;> rfl, bel0 hI⟩
  | false =>
  cases h8 : (op == 8) with
  | true =>
    refine Goes.run [0, 1] [(op == 8, true), (op == 7, false)] ⟨h8, h7, trivial⟩ ?_
    refine Goes.call0 115 #[.int .i64 (a), .int .i64 (b)] (.int .i64 (clampI (clampI a - clampI b))) (fun w' _ _ => (rsub_any a b w').mono fun _ _ h => belQ h) ?_
    refine Goes.run [] [] trivial ?_
    exact Goes.ret [] (.int .i64 (clampI (clampI a - clampI b))) fun w' hm hI => ⟨by unfold twoP; rw [h7, h8] <;> rfl, bel0 hI⟩
  | false =>
  cases h9 : (op == 9) with
  | true =>
    refine Goes.run [0, 0, 1] [(op == 9, true), (op == 8, false), (op == 7, false)] ⟨h9, h8, h7, trivial⟩ ?_
    refine Goes.call0 116 #[.int .i64 (a), .int .i64 (b)] (.int .i64 (mulI a b)) (fun w' _ _ => (rmul_any a b w').mono fun _ _ h => belQ h) ?_
    refine Goes.run [] [] trivial ?_
    exact Goes.ret [] (.int .i64 (mulI a b)) fun w' hm hI => ⟨by unfold twoP; rw [h7, h8, h9] <;> rfl, bel0 hI⟩
  | false =>
  cases h10 : (op == 10) with
  | true =>
    refine Goes.run [0, 0, 0, 1] [(op == 10, true), (op == 9, false), (op == 8, false), (op == 7, false)] ⟨h10, h9, h8, h7, trivial⟩ ?_
    refine Goes.call0 117 #[.int .i64 (a), .int .i64 (b)] (.int .i64 (divI a b)) (fun w' _ _ => (rdiv_any a b w').mono fun _ _ h => belQ h) ?_
    refine Goes.run [] [] trivial ?_
    exact Goes.ret [] (.int .i64 (divI a b)) fun w' hm hI => ⟨by unfold twoP; rw [h7, h8, h9, h10] <;> rfl, bel0 hI⟩
  | false =>
  cases h11 : (op == 11) with
  | true =>
    refine Goes.run [0, 0, 0, 0, 1, 1] [(op == 11, true), (op == 11, true), (op == 10, false), (op == 9, false), (op == 8, false), (op == 7, false)] ⟨h11, h11, h10, h9, h8, h7, trivial⟩ ?_
    refine Goes.call0 118 #[.bool (decide (a < b))] (.int .i64 (trP (decide (a < b)))) (fun w' _ _ => truth_any _ w') ?_
    refine Goes.run [] [] trivial ?_
    exact Goes.ret [] (.int .i64 (trP (decide (a < b)))) fun w' hm hI => ⟨by unfold twoP; rw [h7, h8, h9, h10, h11] <;> rfl, bel0 hI⟩
  | false =>
  cases h17 : (op == 17) with
  | true =>
    refine Goes.run [0, 0, 0, 0, 0, 1] [(op == 17, true), (op == 11, false), (op == 10, false), (op == 9, false), (op == 8, false), (op == 7, false)] ⟨h17, h11, h10, h9, h8, h7, trivial⟩ ?_
    refine Goes.call0 118 #[.bool (decide (a < b))] (.int .i64 (trP (decide (a < b)))) (fun w' _ _ => truth_any _ w') ?_
    refine Goes.run [] [] trivial ?_
    exact Goes.ret [] (.int .i64 (trP (decide (a < b)))) fun w' hm hI => ⟨by unfold twoP; rw [h7, h8, h9, h10, h11, h17] <;> rfl, bel0 hI⟩
  | false =>
  cases h12 : (op == 12) with
  | true =>
    refine Goes.run [0, 0, 0, 0, 0, 0, 1] [(op == 12, true), (op == 17, false), (op == 11, false), (op == 10, false), (op == 9, false), (op == 8, false), (op == 7, false)] ⟨h12, h17, h11, h10, h9, h8, h7, trivial⟩ ?_
    refine Goes.call0 118 #[.bool (decide (a ≤ b))] (.int .i64 (trP (decide (a ≤ b)))) (fun w' _ _ => truth_any _ w') ?_
    refine Goes.run [] [] trivial ?_
    exact Goes.ret [] (.int .i64 (trP (decide (a ≤ b)))) fun w' hm hI => ⟨by unfold twoP; rw [h7, h8, h9, h10, h11, h17, h12] <;> rfl, bel0 hI⟩
  | false =>
  cases h13 : (op == 13) with
  | true =>
    refine Goes.run [0, 0, 0, 0, 0, 0, 0, 1] [(op == 13, true), (op == 12, false), (op == 17, false), (op == 11, false), (op == 10, false), (op == 9, false), (op == 8, false), (op == 7, false)] ⟨h13, h12, h17, h11, h10, h9, h8, h7, trivial⟩ ?_
    refine Goes.call0 118 #[.bool (a == b)] (.int .i64 (trP (a == b))) (fun w' _ _ => truth_any _ w') ?_
    refine Goes.run [] [] trivial ?_
    exact Goes.ret [] (.int .i64 (trP (a == b))) fun w' hm hI => ⟨by unfold twoP; rw [h7, h8, h9, h10, h11, h17, h12, h13] <;> rfl, bel0 hI⟩
  | false =>
  cases h18 : (op == 18) with
  | true =>
    refine Goes.run [0, 0, 0, 0, 0, 0, 0, 0, 1] [(op == 18, true), (op == 13, false), (op == 12, false), (op == 17, false), (op == 11, false), (op == 10, false), (op == 9, false), (op == 8, false), (op == 7, false)] ⟨h18, h13, h12, h17, h11, h10, h9, h8, h7, trivial⟩ ?_
    refine Goes.call0 120 #[.int .i64 (b)] (.int .i64 (whoI b)) (fun w' _ _ => (rwhole_any b w').mono fun _ _ h => belQ h) ?_
    refine Goes.call0 119 #[.int .i64 (a), .int .i64 (whoI b)] (.int .i64 (((plusV a (whoI b) : Nat) : Int))) (fun w' _ _ => (rplus_any a (whoI b) w').mono fun _ _ h => belQ h) ?_
    refine Goes.run [] [] trivial ?_
    exact Goes.ret [] (.int .i64 (((plusV a (whoI b) : Nat) : Int))) fun w' hm hI => ⟨by unfold twoP; rw [h7, h8, h9, h10, h11, h17, h12, h13, h18] <;> rfl, bel0 hI⟩
  | false =>
  cases h19 : (op == 19) with
  | true =>
    refine Goes.run [0, 0, 0, 0, 0, 0, 0, 0, 0, 1] [(op == 19, true), (op == 18, false), (op == 13, false), (op == 12, false), (op == 17, false), (op == 11, false), (op == 10, false), (op == 9, false), (op == 8, false), (op == 7, false)] ⟨h19, h18, h13, h12, h17, h11, h10, h9, h8, h7, trivial⟩ ?_
    refine Goes.call0 120 #[.int .i64 (b)] (.int .i64 (whoI b)) (fun w' _ _ => (rwhole_any b w').mono fun _ _ h => belQ h) ?_
    refine Goes.call0 121 #[.int .i64 (a), .int .i64 (whoI b)] (.int .i64 (monI a (whoI b))) (fun w' _ _ => rmonI_any a (whoI b) w') ?_
    refine Goes.run [] [] trivial ?_
    exact Goes.ret [] (.int .i64 (monI a (whoI b))) fun w' hm hI => ⟨by unfold twoP; rw [h7, h8, h9, h10, h11, h17, h12, h13, h18, h19] <;> rfl, bel0 hI⟩
  | false =>
  cases h20 : (op == 20) with
  | true =>
    refine Goes.run [0, 0, 0, 0, 0, 0, 0, 0, 0, 0, 1] [(op == 20, true), (op == 19, false), (op == 18, false), (op == 13, false), (op == 12, false), (op == 17, false), (op == 11, false), (op == 10, false), (op == 9, false), (op == 8, false), (op == 7, false)] ⟨h20, h19, h18, h13, h12, h17, h11, h10, h9, h8, h7, trivial⟩ ?_
    refine Goes.call0 122 #[.int .i64 (a), .int .i64 (b)] (.int .i64 (shareV ((clampD b : Int) - (clampD a : Int)) 365)) (fun w' _ _ => (ryears_any a b w').mono fun _ _ h => belQ h) ?_
    refine Goes.run [] [] trivial ?_
    exact Goes.ret [] (.int .i64 (shareV ((clampD b : Int) - (clampD a : Int)) 365)) fun w' hm hI => ⟨by unfold twoP; rw [h7, h8, h9, h10, h11, h17, h12, h13, h18, h19, h20] <;> rfl, bel0 hI⟩
  | false =>
    refine Goes.run [0, 0, 0, 0, 0, 0, 0, 0, 0, 0, 0] [(op == 20, false), (op == 19, false), (op == 18, false), (op == 13, false), (op == 12, false), (op == 17, false), (op == 11, false), (op == 10, false), (op == 9, false), (op == 8, false), (op == 7, false)] ⟨h20, h19, h18, h13, h12, h17, h11, h10, h9, h8, h7, trivial⟩ ?_
    refine Goes.call0 123 #[.int .i64 (a), .int .i64 (b)] (.int .i64 (y30I a b)) (fun w' _ _ => ry30I_any a b w') ?_
    refine Goes.run [] [] trivial ?_
    exact Goes.ret [] (.int .i64 (y30I a b)) fun w' hm hI => ⟨by unfold twoP; rw [h7, h8, h9, h10, h11, h17, h12, h13, h18, h19, h20] <;> rfl, bel0 hI⟩
end Go.Proofs.YtjoplckpefoinaaGreatDoor
namespace Go.Proofs.YtjoplckpefoinaaGreatDoor
open Go Go.RowKit

/-- Stamps in memory, in blocks below n. -/
def Sts (n : Nat) (w : World) (v : Value) (l : List (Int × Int)) : Prop := ∃ a c, v = .slice a l.length c ∧ (l.length ≤ c ∧ c ≤ 9223372036854775807) ∧ ∀ i q, l[i]? = some q → ∃ b o, a = some ⟨b, o, none⟩ ∧ b < n ∧ w.cell? ⟨b, o + i * 2, none⟩ = some (.int .i64 q.1) ∧ w.cell? ⟨b, o + i * 2 + 1, none⟩ = some (.int .i64 q.2)
/-- Feeds in memory, in blocks below n. -/
def Fds (n : Nat) (w : World) (v : Value) (fs : List (List UInt8 × List (Int × Int))) : Prop := ∃ a c, v = .slice a fs.length c ∧ (fs.length ≤ c ∧ c ≤ 9223372036854775807) ∧ ∀ i f, fs[i]? = some f → ∃ b o u, a = some ⟨b, o, none⟩ ∧ b < n ∧ w.cell? ⟨b, o + i * 2, none⟩ = some (strV f.1) ∧ w.cell? ⟨b, o + i * 2 + 1, none⟩ = some u ∧ Sts n w u f.2
theorem Sts.later {n : Nat} {w w' : World} {v : Value} {l : List (Int × Int)} (h : Sts n w v l) (hB : Below n w w') : Sts n w' v l := by
  obtain ⟨a, c, h1, h2, h3⟩ := h
  refine ⟨a, c, h1, h2, fun i q hq => ?_⟩
  obtain ⟨b, o, e, hb, x1, x2⟩ := h3 i q hq
  exact ⟨b, o, e, hb, (hB.cell (p := ⟨b, o + i * 2, none⟩) hb).trans x1, (hB.cell (p := ⟨b, o + i * 2 + 1, none⟩) hb).trans x2⟩
theorem Sts.more {n n' : Nat} {w : World} {v : Value} {l : List (Int × Int)} (h : Sts n w v l) (hn : n ≤ n') : Sts n' w v l := by
  obtain ⟨a, c, h1, h2, h3⟩ := h
  refine ⟨a, c, h1, h2, fun i q hq => ?_⟩
  obtain ⟨b, o, e, hb, x⟩ := h3 i q hq
  exact ⟨b, o, e, by omega, x⟩
theorem Fds.later {n : Nat} {w w' : World} {v : Value} {fs : List (List UInt8 × List (Int × Int))} (h : Fds n w v fs) (hB : Below n w w') : Fds n w' v fs := by
  obtain ⟨a, c, h1, h2, h3⟩ := h
  refine ⟨a, c, h1, h2, fun i f hf => ?_⟩
  obtain ⟨b, o, u, e, hb, x1, x2, x3⟩ := h3 i f hf
  exact ⟨b, o, u, e, hb, (hB.cell (p := ⟨b, o + i * 2, none⟩) hb).trans x1, (hB.cell (p := ⟨b, o + i * 2 + 1, none⟩) hb).trans x2, x3.later hB⟩
theorem Fds.more {n n' : Nat} {w : World} {v : Value} {fs : List (List UInt8 × List (Int × Int))} (h : Fds n w v fs) (hn : n ≤ n') : Fds n' w v fs := by
  obtain ⟨a, c, h1, h2, h3⟩ := h
  refine ⟨a, c, h1, h2, fun i f hf => ?_⟩
  obtain ⟨b, o, u, e, hb, x1, x2, x3⟩ := h3 i f hf
  exact ⟨b, o, u, e, by omega, x1, x2, x3.more hn⟩
theorem Fds.at {w w' : World} {v : Value} {fs : List (List UInt8 × List (Int × Int))} (h : Fds w.heap.size w v fs) (hB : Below w.heap.size w w') : Fds w'.heap.size w' v fs := (h.later hB).more hB.size
/-- The last stamp of a day up to that one. -/
def stpP (day : Int) (r : Option Int) (l : List (Int × Int)) : Option Int := l.foldl (fun r q => bif decide (q.1 ≤ day) then some q.2 else r) r
def fedP (name : List UInt8) (day : Int) : List (List UInt8 × List (Int × Int)) → Option Int
  | [] => none
  | f :: r => bif decide (f.1 ≠ name) then fedP name day r else stpP day none f.2
/-- An answer that may not be known. -/
def oV (r : Option Int) : Value := .tuple #[.int .i64 (r.getD 0), .bool r.isSome]
theorem idxF (b o n cap k : Nat) (h : k < n) (w : World) : (Instr.indexAt 95 (.slice (some ⟨b, o, none⟩) n cap) (.int .i64 k)).run Tryz.prog w = .ok (.pointer (some ⟨b, o + k * 2, none⟩)) w := by go_simp
theorem idxT (b o n cap k : Nat) (h : k < n) (w : World) : (Instr.indexAt 108 (.slice (some ⟨b, o, none⟩) n cap) (.int .i64 k)).run Tryz.prog w = .ok (.pointer (some ⟨b, o + k * 2, none⟩)) w := by go_simp
theorem drop_any {α : Type} {l : List α} {i : Nat} {u : α} (hu : l[i]? = some u) : l.drop i = u :: l.drop (i + 1) := by
  obtain ⟨h1, h2⟩ := List.getElem?_eq_some_iff.1 hu
  rw [List.drop_eq_getElem_cons h1, h2]
set_option maxRecDepth 100000 in
seal rn rnS Goes ans atEnd put0 putM opened putA0 oneSt st0 in
theorem fed_any {fs : List (List UInt8 × List (Int × Int))} {v : Value} {w : World} (hF : Fds w.heap.size w v fs) (name : List UInt8) (day : Int) : Calls Tryz.prog 98 #[v, strV name, .int .i64 day] w fun e w' => e = .returned (oV (fedP name day fs)) ∧ Below w.heap.size w w' := by
  obtain ⟨a, c, rfl, hc, hfs⟩ := hF
  obtain ⟨N, hN⟩ : ∃ N, fs.length = N := ⟨_, rfl⟩
  rw [hN] at hc ⊢
  refine Goes.begin Tryz.func98 [] (fun _ => True) Holds.nil (by simp [Mem.ids]) (fun _ _ => trivial) ?_
  refine Goes.run [] [] trivial ?_
  refine Goes.loop0 (α := Nat) 51 (fun i => [(0, .slice a N c), (1, strV name), (2, .int .i64 day), (8, .int .i64 i)]) [] (fun i => i ≤ N ∧ fedP name day fs = fedP name day (fs.drop i)) (fun i => N - i) 0 ⟨Nat.zero_le _, rfl⟩ ?_
  rintro i J ⟨hi, hrest⟩ back
  cases hlt : decide ((i : Int) < (N : Int)) with
  | false =>
    refine Goes.run [0, 0] [(decide ((i : Int) < (N : Int)), false)] ⟨hlt, trivial⟩ ?_
    exact Goes.ret [] (.tuple #[.int .i64 0, .bool false]) fun w' hm hI => ⟨by rw [hrest, List.drop_of_length_le (by have := of_decide_eq_false hlt; omega)]; rfl, bel0 hI⟩
  | true =>
    have hil : i < N := by have := of_decide_eq_true hlt; omega
    obtain ⟨f, hf⟩ : ∃ f, fs[i]? = some f := ⟨fs[i]'(by omega), by simp⟩
    obtain ⟨b, o, u, rfl, hb, x1, x2, a2, c2, rfl, hc2, hst⟩ := hfs i f hf
    have hd := drop_any hf
    have ld : ∀ w', Below w.heap.size w w' → (Instr.loadAt 9 (.pointer (some ⟨b, o + i * 2, none⟩))).run Tryz.prog w' = .ok (strV f.1) w' := fun w' hB => load1 Tryz.isAgg9 ((hB.cell (p := ⟨b, o + i * 2, none⟩) hb).trans x1)
    refine Goes.run [0, 1] [(decide ((i : Int) < (N : Int)), true)] ⟨hlt, trivial⟩ ?_
    refine Goes.val (Instr.indexAt 95 (.slice (some ⟨b, o, none⟩) N c) (.int .i64 i)) (.pointer (some ⟨b, o + i * 2, none⟩)) (fun w' _ _ => idxF b o N c i hil w') ?_
    refine Goes.run [] [] trivial ?_
    refine Goes.val (Instr.loadAt 9 (.pointer (some ⟨b, o + i * 2, none⟩))) (strV f.1) (fun w' _ hI => ld w' (bel0 hI)) ?_
    refine Goes.upto 25 [] [] trivial ?_
    refine Goes.val (do eqGuard .neq 9 (.tmp 23) (.tmp 24) (strV f.1) (strV name); binOp .neq 9 (strV f.1) (strV name)) (.bool (decide (f.1 ≠ name))) (fun w' _ _ => neT _ _ f.1 name rfl w') ?_
    cases hne : decide (f.1 ≠ name) with
    | true =>
      refine Goes.run [1] [(true, true)] ⟨rfl, trivial⟩ ?_
      refine Goes.slot 8 (.int .i64 (i + 1 : Nat)) (u := .int .i64 (IntKind.i64.wrap ((i : Int) + 1))) (congrArg _ (wrap_nat (by omega))) ?_
      exact back (i + 1) _ ⟨hil, by rw [hrest, hd, fedP, hne]; rfl⟩ (by omega) (by kernel_rfl) (by kernel_rfl) (by kernel_rfl)
    | false =>
      obtain ⟨M, hM⟩ : ∃ M, f.2.length = M := ⟨_, rfl⟩
      have hR : fedP name day fs = stpP day none f.2 := by rw [hrest, hd, fedP, hne]; rfl
      rw [hR]
      rw [hM] at hc2 x2
      refine Goes.run [0] [(false, false)] ⟨rfl, trivial⟩ ?_
      refine Goes.val (Instr.indexAt 95 (.slice (some ⟨b, o, none⟩) N c) (.int .i64 i)) (.pointer (some ⟨b, o + i * 2, none⟩)) (fun w' _ _ => idxF b o N c i hil w') ?_
      refine Goes.run [] [] trivial ?_
      refine Goes.val (Instr.loadAt 108 (.pointer (some ⟨b, o + i * 2 + 1, none⟩))) (.slice a2 M c2) (fun w' _ hI => load1 Tryz.isAgg108 (((bel0 hI).cell (p := ⟨b, o + i * 2 + 1, none⟩) hb).trans x2)) ?_
      refine Goes.run [] [] trivial ?_
      refine Goes.loop0 (α := Nat × Option Int) 51 (fun q => [(2, .int .i64 day), (9, .slice a2 M c2), (10, .int .i64 (q.2.getD 0)), (11, .bool q.2.isSome), (12, .int .i64 q.1)]) [] (fun q => q.1 ≤ M ∧ stpP day none f.2 = stpP day q.2 (f.2.drop q.1)) (fun q => M - q.1) (0, none) ⟨Nat.zero_le _, rfl⟩ ?_
      rintro ⟨j, r⟩ J2 ⟨hj, hjr⟩ back2
      simp only at hj hjr back2 ⊢
      cases hjl : decide ((j : Int) < (M : Int)) with
      | false =>
        refine Goes.run [0, 0] [(decide ((j : Int) < (M : Int)), false)] ⟨hjl, trivial⟩ ?_
        exact Goes.ret [] (.tuple #[.int .i64 (r.getD 0), .bool r.isSome]) fun w' hm hI => ⟨by rw [hjr, List.drop_of_length_le (by have := of_decide_eq_false hjl; omega)]; rfl, bel0 hI⟩
      | true =>
        have hjl' : j < M := by have := of_decide_eq_true hjl; omega
        obtain ⟨q, hq⟩ : ∃ q, f.2[j]? = some q := ⟨f.2[j]'(by omega), by simp⟩
        obtain ⟨b2, o2, rfl, hb2, y1, y2⟩ := hst j q hq
        have hd2 := drop_any hq
        refine Goes.run [0, 1] [(decide ((j : Int) < (M : Int)), true)] ⟨hjl, trivial⟩ ?_
        refine Goes.val (Instr.indexAt 108 (.slice (some ⟨b2, o2, none⟩) M c2) (.int .i64 j)) (.pointer (some ⟨b2, o2 + j * 2, none⟩)) (fun w' _ _ => idxT b2 o2 M c2 j hjl' w') ?_
        refine Goes.run [] [] trivial ?_
        refine Goes.val (Instr.loadAt 3 (.pointer (some ⟨b2, o2 + j * 2, none⟩))) (.int .i64 q.1) (fun w' _ hI => load1 Tryz.isAgg3 (((bel0 hI).cell (p := ⟨b2, o2 + j * 2, none⟩) hb2).trans y1)) ?_
        cases hqd : decide (q.1 ≤ day) with
        | false =>
          refine Goes.run [0] [(decide (q.1 ≤ day), false)] ⟨hqd, trivial⟩ ?_
          refine Goes.slot 12 (.int .i64 (j + 1 : Nat)) (u := .int .i64 (IntKind.i64.wrap ((j : Int) + 1))) (congrArg _ (wrap_nat (by omega))) ?_
          exact back2 (j + 1, r) _ ⟨hjl', by rw [hjr, hd2]; simp only [stpP, List.foldl_cons, hqd, cond_false]⟩ (by simp only; omega) (by kernel_rfl) (by kernel_rfl) (by kernel_rfl)
        | true =>
          refine Goes.run [1] [(decide (q.1 ≤ day), true)] ⟨hqd, trivial⟩ ?_
          refine Goes.val (Instr.indexAt 108 (.slice (some ⟨b2, o2, none⟩) M c2) (.int .i64 j)) (.pointer (some ⟨b2, o2 + j * 2, none⟩)) (fun w' _ _ => idxT b2 o2 M c2 j hjl' w') ?_
          refine Goes.run [] [] trivial ?_
          refine Goes.val (Instr.loadAt 2 (.pointer (some ⟨b2, o2 + j * 2 + 1, none⟩))) (.int .i64 q.2) (fun w' _ hI => load1 Tryz.isAgg2 (((bel0 hI).cell (p := ⟨b2, o2 + j * 2 + 1, none⟩) hb2).trans y2)) ?_
          refine Goes.run [] [] trivial ?_
          refine Goes.slot 12 (.int .i64 (j + 1 : Nat)) (u := .int .i64 (IntKind.i64.wrap ((j : Int) + 1))) (congrArg _ (wrap_nat (by omega))) ?_
          exact back2 (j + 1, some q.2) _ ⟨hjl', by rw [hjr, hd2]; simp only [stpP, List.foldl_cons, hqd, cond_true]⟩ (by simp only; omega) (by kernel_rfl) (by kernel_rfl) (by kernel_rfl)
end Go.Proofs.YtjoplckpefoinaaGreatDoor
namespace Go.Proofs.YtjoplckpefoinaaGreatDoor
open Go Go.RowKit

noncomputable def valC (fs : List (List UInt8 × List (Int × Int))) (day op k : Int) (t : List UInt8) (vs : List (Option Int)) : Option Int :=
  bif op == 1 || op == 2 || op == 3 then some k else bif op == 4 then fedP t (IntKind.i64.wrap (day - k)) fs else bif op == 5 then some ((clampD (IntKind.i64.wrap (day - k)) : Nat) : Int) else
  match vs.getD 0 none with
  | none => none
  | some a =>
    bif op == 6 then some (- clampI a) else bif op == 14 then some (IntKind.i64.wrap (1 - a)) else bif op == 15 then (bif a == 0 then some 0 else vs.getD 1 none) else bif op == 16 then (bif a == 1 then some 1 else vs.getD 1 none) else bif op == 22 then (bif a == 1 then vs.getD 1 none else vs.getD 2 none) else
    match vs.getD 1 none with
    | none => none
    | some b => some (twoP op a b)
mutual
/-- The value of an observable; none: it is not known. -/
noncomputable def valP (fs : List (List UInt8 × List (Int × Int))) (day : Int) : Co → Option Int
  | .mk op k t kids => valC fs day op k t (valL fs day kids)
noncomputable def valL (fs : List (List UInt8 × List (Int × Int))) (day : Int) : List Co → List (Option Int)
  | [] => []
  | c :: r => valP fs day c :: valL fs day r
end
theorem val_get (fs : List (List UInt8 × List (Int × Int))) (day : Int) : ∀ {l : List Co} {i : Nat} {c : Co}, l[i]? = some c → (valL fs day l).getD i none = valP fs day c
  | [], i, c, h => by simp at h
  | y :: r, 0, c, h => by simp at h; subst h; rw [valL]; rfl
  | y :: r, i + 1, c, h => by rw [valL]; simp only [List.getD_cons_succ]; exact val_get fs day (by simpa using h)
def needP (op : Int) : Nat := bif op == 6 || op == 14 then 1 else bif op == 22 then 3 else 2
mutual
/-- Has it the kids that it asks? -/
def obP : Co → Bool
  | .mk op _ _ kids => (op == 1 || op == 2 || op == 3 || op == 4 || op == 5) || (decide (needP op ≤ kids.length) && obL kids)
def obL : List Co → Bool
  | [] => true
  | c :: r => obP c && obL r
end
theorem ob_mem : ∀ {l : List Co}, obL l = true → ∀ c ∈ l, obP c = true
  | [], _ => by simp
  | c :: r, h => by
    rw [obL, Bool.and_eq_true] at h
    intro x hx
    rcases List.mem_cons.1 hx with e | e
    · rw [e]; exact h.1
    · exact ob_mem h.2 x e
set_option maxRecDepth 100000 in
seal rn rnS Goes ans atEnd put0 putM opened putA0 oneSt st0 in
theorem val_any {fs : List (List UInt8 × List (Int × Int))} {fv : Value} (day : Int) (c : Co) : ∀ (v : Value) (w : World), obP c = true → Nc w.heap.size w v c → Fds w.heap.size w fv fs → Calls Tryz.prog 77 #[v, .int .i64 day, fv] w fun e w' => e = .returned (oV (valP fs day c)) ∧ Below w.heap.size w w' := by
  induction c using Co.ind with
  | h op k t kids ih =>
  intro v w hob hN hF
  obtain ⟨a, cc, rfl, hfit, hcap, hkids⟩ := hN.open
  obtain ⟨N, hL⟩ : ∃ N, kids.length = N := ⟨_, rfl⟩
  obtain ⟨fa, fc, rfl, -, -⟩ := id hF
  obtain ⟨FN, hFN⟩ : ∃ FN, fs.length = FN := ⟨_, rfl⟩
  rw [hFN] at hF ih ⊢
  rw [hL] at hcap ⊢
  rw [valP]
  refine Goes.begin Tryz.func77 [] (fun _ => True) Holds.nil (by simp [Mem.ids]) (fun _ _ => trivial) ?_
  cases h1 : (op == 1) with
  | true =>
    refine Goes.run1 [0, 1, 1, 0] [(op == 1, true), (op == 1, true)] ⟨h1, h1, trivial⟩ fun g => ?_
    exact Goes.ret [] (.tuple #[.int .i64 k, .bool true]) fun w' hm hI => ⟨by unfold valC; rw [h1] <;> rfl, bel0 hI⟩
  | false =>
  cases h2 : (op == 2) with
  | true =>
    refine Goes.run1 [0, 0, 1, 1, 0] [(op == 2, true), (op == 2, true), (op == 1, false)] ⟨h2, h2, h1, trivial⟩ fun g => ?_
    exact Goes.ret [] (.tuple #[.int .i64 k, .bool true]) fun w' hm hI => ⟨by unfold valC; rw [h1, h2] <;> rfl, bel0 hI⟩
  | false =>
  cases h3 : (op == 3) with
  | true =>
    refine Goes.run1 [0, 0, 0, 1, 0] [(op == 3, true), (op == 2, false), (op == 1, false)] ⟨h3, h2, h1, trivial⟩ fun g => ?_
    exact Goes.ret [] (.tuple #[.int .i64 k, .bool true]) fun w' hm hI => ⟨by unfold valC; rw [h1, h2, h3] <;> rfl, bel0 hI⟩
  | false =>
  cases h4 : (op == 4) with
  | true =>
    refine Goes.run1 [0, 0, 0, 0, 1, 0, 0] [(op == 4, true), (op == 3, false), (op == 2, false), (op == 1, false)] ⟨h4, h3, h2, h1, trivial⟩ fun g => ?_
    refine Goes.call0 98 #[.slice fa FN fc, strV t, .int .i64 (IntKind.i64.wrap (day - k))] (oV (fedP t (IntKind.i64.wrap (day - k)) fs)) (fun w' _ hI => fed_any (hF.at (bel0 hI)) t _) ?_
    refine Goes.run [] [] trivial ?_
    exact Goes.ret [] (oV (fedP t (IntKind.i64.wrap (day - k)) fs)) fun w' hm hI => ⟨by unfold valC; rw [h1, h2, h3, h4] <;> rfl, bel0 hI⟩
  | false =>
  cases h5 : (op == 5) with
  | true =>
    refine Goes.run1 [0, 0, 0, 0, 0, 1, 0] [(op == 5, true), (op == 4, false), (op == 3, false), (op == 2, false), (op == 1, false)] ⟨h5, h4, h3, h2, h1, trivial⟩ fun g => ?_
    refine Goes.call0 99 #[.int .i64 (IntKind.i64.wrap (day - k))] (.int .i64 ((clampD (IntKind.i64.wrap (day - k)) : Nat) : Int)) (fun w' _ _ => (rclamp_day _ w').mono fun _ _ h => belQ h) ?_
    refine Goes.run [] [] trivial ?_
    exact Goes.ret [] (.tuple #[.int .i64 ((clampD (IntKind.i64.wrap (day - k)) : Nat) : Int), .bool true]) fun w' hm hI => ⟨by unfold valC; rw [h1, h2, h3, h4, h5] <;> rfl, bel0 hI⟩
  | false =>
  have hneed : needP op ≤ N ∧ obL kids = true := by
    rw [obP, h1, h2, h3, h4, h5] at hob
    simp only [Bool.or_self, Bool.false_or, Bool.and_eq_true, decide_eq_true_eq] at hob
    rw [hL] at hob
    exact hob
  have kid : ∀ i, i < N → ∃ u b o op' k' t' a' N' c', kids[i]? = some u ∧ a = some ⟨b, o, none⟩ ∧ b < w.heap.size ∧ Cl4 w b (o + i * 4) (cv op' k' t' (.slice a' N' c')) ∧ Nc w.heap.size w (cv op' k' t' (.slice a' N' c')) u := by
    intro i hi
    obtain ⟨u, hu⟩ : ∃ u, kids[i]? = some u := ⟨kids[i]'(by omega), by simp⟩
    obtain ⟨b, o, y, rfl, hb, hcl, hy⟩ := hkids i u hu
    obtain ⟨op', k', t', a', N', c', rfl⟩ := hy.cells
    exact ⟨u, b, o, op', k', t', a', N', c', hu, rfl, hb, hcl, hy⟩
  have hn1 : 1 ≤ N := by
    have := hneed.1
    unfold needP at this
    cases hq : (op == 6 || op == 14) with
    | true => rw [hq] at this; exact this
    | false =>
      rw [hq] at this
      cases hq2 : (op == 22) with
      | true => rw [hq2] at this; simp at this; omega
      | false => rw [hq2] at this; simp at this; omega
  have rest : valC fs day op k t (valL fs day kids) = (match (valL fs day kids).getD 0 none with
    | none => none
    | some a =>
      bif op == 6 then some (- clampI a) else bif op == 14 then some (IntKind.i64.wrap (1 - a)) else bif op == 15 then (bif a == 0 then some 0 else (valL fs day kids).getD 1 none) else bif op == 16 then (bif a == 1 then some 1 else (valL fs day kids).getD 1 none) else bif op == 22 then (bif a == 1 then (valL fs day kids).getD 1 none else (valL fs day kids).getD 2 none) else
      match (valL fs day kids).getD 1 none with
      | none => none
      | some b => some (twoP op a b)) := by unfold valC; rw [h1, h2, h3, h4, h5] <;> rfl
  rw [rest]
  obtain ⟨u0, b, o, op0, k0, t0, a0, N0, c0, hu0, rfl, hb, hcl0, hy0⟩ := kid 0 (by omega)
  rw [val_get fs day hu0]
  refine Goes.run1 [0, 0, 0, 0, 0, 0, 0] [(op == 5, false), (op == 4, false), (op == 3, false), (op == 2, false), (op == 1, false)] ⟨h5, h4, h3, h2, h1, trivial⟩ fun g => ?_
  refine Goes.val (Instr.indexAt 22 (.slice (some ⟨b, o, none⟩) N cc) (.int .i64 (0 : Nat))) (.pointer (some ⟨b, o + 0 * 4, none⟩)) (fun w' _ _ => idxC b o N cc 0 (by omega) w') ?_
  refine Goes.val (Instr.loadAt 24 (.pointer (some ⟨b, o + 0 * 4, none⟩))) (cv op0 k0 t0 (.slice a0 N0 c0)) (fun w' _ hI => loadC (hcl0.below hb (bel0 hI))) ?_
  refine Goes.run [] [] trivial ?_
  refine Goes.call0 77 #[cv op0 k0 t0 (.slice a0 N0 c0), .int .i64 day, .slice fa FN fc] (oV (valP fs day u0)) (fun w' _ hI => ih u0 (List.mem_of_getElem? hu0) _ w' (ob_mem hneed.2 u0 (List.mem_of_getElem? hu0)) (hy0.at (bel0 hI)) (hF.at (bel0 hI))) ?_
  cases hv0 : valP fs day u0 with
  | none =>
    refine Goes.run [1] [(true, true)] ⟨rfl, trivial⟩ ?_
    exact Goes.ret [] (.tuple #[.int .i64 0, .bool false]) fun w' hm hI => ⟨rfl, bel0 hI⟩
  | some x =>
  cases h6 : (op == 6) with
  | true =>
    refine Goes.run [0, 0, 1] [(op == 6, true), (false, false)] ⟨h6, rfl, trivial⟩ ?_
    refine Goes.call0 100 #[.int .i64 x] (.int .i64 (- clampI x)) (fun w' _ _ => (rneg_any x w').mono fun _ _ h => belQ h) ?_
    refine Goes.run [] [] trivial ?_
    exact Goes.ret [] (.tuple #[.int .i64 (- clampI x), .bool true]) fun w' hm hI => ⟨rfl, bel0 hI⟩
  | false =>
  cases h14 : (op == 14) with
  | true =>
    refine Goes.run [0, 0, 0, 1] [(op == 14, true), (op == 6, false), (false, false)] ⟨h14, h6, rfl, trivial⟩ ?_
    exact Goes.ret [] (.tuple #[.int .i64 (IntKind.i64.wrap (1 - x)), .bool true]) fun w' hm hI => ⟨rfl, bel0 hI⟩
  | false =>
  cases h15 : (op == 15) with
  | true =>
    cases hx : (x == 0) with
    | true =>
      refine Goes.run [0, 0, 0, 0, 1, 1] [(x == 0, true), (op == 15, true), (op == 14, false), (op == 6, false), (false, false)] ⟨hx, h15, h14, h6, rfl, trivial⟩ ?_
      exact Goes.ret [] (.tuple #[.int .i64 0, .bool true]) fun w' hm hI => ⟨by show _ = Ending.returned (oV (bif x == 0 then some 0 else (valL fs day kids).getD 1 none)); rw [hx] <;> rfl, bel0 hI⟩
    | false =>
      have hn6 : 1 < N := by have := hneed.1; unfold needP at this; rw [show (op == 6 || op == 14) = false by rw [h6, h14]; rfl, show (op == 22) = false by have := eq_of_beq h15; subst this; rfl] at this; simp at this; omega
      obtain ⟨u1, b1, o1, op1, k1, t1, a1, N1, c1, hu1, e1, -, hcl1, hy1⟩ := kid 1 hn6
      cases e1
      rw [val_get fs day hu1]
      refine Goes.run [0, 0, 0, 0, 1, 0, 0] [(x == 0, false), (op == 15, true), (op == 14, false), (op == 6, false), (false, false)] ⟨hx, h15, h14, h6, rfl, trivial⟩ ?_
      refine Goes.val (Instr.indexAt 22 (.slice (some ⟨b, o, none⟩) N cc) (.int .i64 (1 : Nat))) (.pointer (some ⟨b, o + 1 * 4, none⟩)) (fun w' _ _ => idxC b o N cc 1 (by omega) w') ?_
      refine Goes.val (Instr.loadAt 24 (.pointer (some ⟨b, o + 1 * 4, none⟩))) (cv op1 k1 t1 (.slice a1 N1 c1)) (fun w' _ hI => loadC (hcl1.below hb (bel0 hI))) ?_
      refine Goes.run [] [] trivial ?_
      refine Goes.call0 77 #[cv op1 k1 t1 (.slice a1 N1 c1), .int .i64 day, .slice fa FN fc] (oV (valP fs day u1)) (fun w' _ hI => ih u1 (List.mem_of_getElem? hu1) _ w' (ob_mem hneed.2 u1 (List.mem_of_getElem? hu1)) (hy1.at (bel0 hI)) (hF.at (bel0 hI))) ?_
      refine Goes.run [] [] trivial ?_
      exact Goes.ret [] (oV (valP fs day u1)) fun w' hm hI => ⟨by show _ = Ending.returned (oV (bif x == 0 then some 0 else valP fs day u1)); rw [hx] <;> rfl, bel0 hI⟩
  | false =>
  cases h16 : (op == 16) with
  | true =>
    cases hx : (x == 1) with
    | true =>
      refine Goes.run [0, 0, 0, 0, 0, 1, 1] [(x == 1, true), (op == 16, true), (op == 15, false), (op == 14, false), (op == 6, false), (false, false)] ⟨hx, h16, h15, h14, h6, rfl, trivial⟩ ?_
      exact Goes.ret [] (.tuple #[.int .i64 1, .bool true]) fun w' hm hI => ⟨by show _ = Ending.returned (oV (bif x == 1 then some 1 else (valL fs day kids).getD 1 none)); rw [hx] <;> rfl, bel0 hI⟩
    | false =>
      have hn6 : 1 < N := by have := hneed.1; unfold needP at this; rw [show (op == 6 || op == 14) = false by rw [h6, h14]; rfl, show (op == 22) = false by have := eq_of_beq h16; subst this; rfl] at this; simp at this; omega
      obtain ⟨u1, b1, o1, op1, k1, t1, a1, N1, c1, hu1, e1, -, hcl1, hy1⟩ := kid 1 hn6
      cases e1
      rw [val_get fs day hu1]
      refine Goes.run [0, 0, 0, 0, 0, 1, 0, 0] [(x == 1, false), (op == 16, true), (op == 15, false), (op == 14, false), (op == 6, false), (false, false)] ⟨hx, h16, h15, h14, h6, rfl, trivial⟩ ?_
      refine Goes.val (Instr.indexAt 22 (.slice (some ⟨b, o, none⟩) N cc) (.int .i64 (1 : Nat))) (.pointer (some ⟨b, o + 1 * 4, none⟩)) (fun w' _ _ => idxC b o N cc 1 (by omega) w') ?_
      refine Goes.val (Instr.loadAt 24 (.pointer (some ⟨b, o + 1 * 4, none⟩))) (cv op1 k1 t1 (.slice a1 N1 c1)) (fun w' _ hI => loadC (hcl1.below hb (bel0 hI))) ?_
      refine Goes.run [] [] trivial ?_
      refine Goes.call0 77 #[cv op1 k1 t1 (.slice a1 N1 c1), .int .i64 day, .slice fa FN fc] (oV (valP fs day u1)) (fun w' _ hI => ih u1 (List.mem_of_getElem? hu1) _ w' (ob_mem hneed.2 u1 (List.mem_of_getElem? hu1)) (hy1.at (bel0 hI)) (hF.at (bel0 hI))) ?_
      refine Goes.run [] [] trivial ?_
      exact Goes.ret [] (oV (valP fs day u1)) fun w' hm hI => ⟨by show _ = Ending.returned (oV (bif x == 1 then some 1 else valP fs day u1)); rw [hx] <;> rfl, bel0 hI⟩
  | false =>
  cases h22 : (op == 22) with
  | true =>
    cases hx : (x == 1) with
    | true =>
      have hn6 : 1 < N := by have := hneed.1; unfold needP at this; rw [show (op == 6 || op == 14) = false by rw [h6, h14]; rfl, h22] at this; simp at this; omega
      obtain ⟨u1, b1, o1, op1, k1, t1, a1, N1, c1, hu1, e1, -, hcl1, hy1⟩ := kid 1 hn6
      cases e1
      rw [val_get fs day hu1]
      refine Goes.run [0, 0, 0, 0, 0, 0, 1, 1, 0] [(x == 1, true), (op == 22, true), (op == 16, false), (op == 15, false), (op == 14, false), (op == 6, false), (false, false)] ⟨hx, h22, h16, h15, h14, h6, rfl, trivial⟩ ?_
      refine Goes.val (Instr.indexAt 22 (.slice (some ⟨b, o, none⟩) N cc) (.int .i64 (1 : Nat))) (.pointer (some ⟨b, o + 1 * 4, none⟩)) (fun w' _ _ => idxC b o N cc 1 (by omega) w') ?_
      refine Goes.val (Instr.loadAt 24 (.pointer (some ⟨b, o + 1 * 4, none⟩))) (cv op1 k1 t1 (.slice a1 N1 c1)) (fun w' _ hI => loadC (hcl1.below hb (bel0 hI))) ?_
      refine Goes.run [] [] trivial ?_
      refine Goes.call0 77 #[cv op1 k1 t1 (.slice a1 N1 c1), .int .i64 day, .slice fa FN fc] (oV (valP fs day u1)) (fun w' _ hI => ih u1 (List.mem_of_getElem? hu1) _ w' (ob_mem hneed.2 u1 (List.mem_of_getElem? hu1)) (hy1.at (bel0 hI)) (hF.at (bel0 hI))) ?_
      refine Goes.run [] [] trivial ?_
      exact Goes.ret [] (oV (valP fs day u1)) fun w' hm hI => ⟨by show _ = Ending.returned (oV (bif x == 1 then _ else _)); rw [hx] <;> rfl, bel0 hI⟩
    | false =>
      have hn7 : 2 < N := by have := hneed.1; unfold needP at this; rw [show (op == 6 || op == 14) = false by rw [h6, h14]; rfl, h22] at this; simp at this; omega
      obtain ⟨u2, b2, o2, op2, k2, t2, a2, N2, c2, hu2, e2, -, hcl2, hy2⟩ := kid 2 hn7
      cases e2
      rw [val_get fs day hu2]
      refine Goes.run [0, 0, 0, 0, 0, 0, 1, 0, 0] [(x == 1, false), (op == 22, true), (op == 16, false), (op == 15, false), (op == 14, false), (op == 6, false), (false, false)] ⟨hx, h22, h16, h15, h14, h6, rfl, trivial⟩ ?_
      refine Goes.val (Instr.indexAt 22 (.slice (some ⟨b, o, none⟩) N cc) (.int .i64 (2 : Nat))) (.pointer (some ⟨b, o + 2 * 4, none⟩)) (fun w' _ _ => idxC b o N cc 2 (by omega) w') ?_
      refine Goes.val (Instr.loadAt 24 (.pointer (some ⟨b, o + 2 * 4, none⟩))) (cv op2 k2 t2 (.slice a2 N2 c2)) (fun w' _ hI => loadC (hcl2.below hb (bel0 hI))) ?_
      refine Goes.run [] [] trivial ?_
      refine Goes.call0 77 #[cv op2 k2 t2 (.slice a2 N2 c2), .int .i64 day, .slice fa FN fc] (oV (valP fs day u2)) (fun w' _ hI => ih u2 (List.mem_of_getElem? hu2) _ w' (ob_mem hneed.2 u2 (List.mem_of_getElem? hu2)) (hy2.at (bel0 hI)) (hF.at (bel0 hI))) ?_
      refine Goes.run [] [] trivial ?_
      exact Goes.ret [] (oV (valP fs day u2)) fun w' hm hI => ⟨by show _ = Ending.returned (oV (bif x == 1 then _ else _)); rw [hx] <;> rfl, bel0 hI⟩
  | false =>
  have hn6 : 1 < N := by have := hneed.1; unfold needP at this; rw [show (op == 6 || op == 14) = false by rw [h6, h14]; rfl, h22] at this; simp at this; omega
  obtain ⟨u1, b1, o1, op1, k1, t1, a1, N1, c1, hu1, e1, -, hcl1, hy1⟩ := kid 1 hn6
  cases e1
  rw [val_get fs day hu1]
  refine Goes.run [0, 0, 0, 0, 0, 0, 0, 0] [(op == 22, false), (op == 16, false), (op == 15, false), (op == 14, false), (op == 6, false), (false, false)] ⟨h22, h16, h15, h14, h6, rfl, trivial⟩ ?_
  refine Goes.val (Instr.indexAt 22 (.slice (some ⟨b, o, none⟩) N cc) (.int .i64 (1 : Nat))) (.pointer (some ⟨b, o + 1 * 4, none⟩)) (fun w' _ _ => idxC b o N cc 1 (by omega) w') ?_
  refine Goes.val (Instr.loadAt 24 (.pointer (some ⟨b, o + 1 * 4, none⟩))) (cv op1 k1 t1 (.slice a1 N1 c1)) (fun w' _ hI => loadC (hcl1.below hb (bel0 hI))) ?_
  refine Goes.run [] [] trivial ?_
  refine Goes.call0 77 #[cv op1 k1 t1 (.slice a1 N1 c1), .int .i64 day, .slice fa FN fc] (oV (valP fs day u1)) (fun w' _ hI => ih u1 (List.mem_of_getElem? hu1) _ w' (ob_mem hneed.2 u1 (List.mem_of_getElem? hu1)) (hy1.at (bel0 hI)) (hF.at (bel0 hI))) ?_
  cases hv1 : valP fs day u1 with
  | none =>
    refine Goes.run [1] [(true, true)] ⟨rfl, trivial⟩ ?_
    exact Goes.ret [] (.tuple #[.int .i64 0, .bool false]) fun w' hm hI => ⟨rfl, bel0 hI⟩
  | some y =>
    refine Goes.run [0, 0] [(false, false)] ⟨rfl, trivial⟩ ?_
    refine Goes.call0 101 #[.int .i64 op, .int .i64 x, .int .i64 y] (.int .i64 (twoP op x y)) (fun w' _ _ => two_any op x y w') ?_
    refine Goes.run [] [] trivial ?_
    exact Goes.ret [] (.tuple #[.int .i64 (twoP op x y), .bool true]) fun w' hm hI => ⟨rfl, bel0 hI⟩
end Go.Proofs.YtjoplckpefoinaaGreatDoor
namespace Go.Proofs.YtjoplckpefoinaaGreatDoor
open Go

abbrev Fs := List (List UInt8 × List (Int × Int))
/-- What waits (places and factors), what is transferred (currencies and amounts). -/
abbrev R2 := List (Int × Int) × List (List UInt8 × Int)
def r0 : R2 := ([], [])
def R2.cat (a b : R2) : R2 := (a.1 ++ b.1, a.2 ++ b.2)
def wt (p f : Int) : R2 := ([(p, f)], [])
def brA (br : List (Int → R2)) (i : Nat) (f : Int) : R2 := (br.getD i fun _ => r0) f
noncomputable def acqC (day op k : Int) (t : List UInt8) (vs : List (Option Int)) (br : List (Int → R2)) (p f : Int) : R2 :=
  bif op == 24 then (bif f == 0 then r0 else ([], [(t, f)]))
  else bif op == 25 then brA br 0 (- clampI f)
  else bif op == 27 then R2.cat (brA br 0 f) (brA br 1 f)
  else bif op == 26 then (match vs.getD 0 none with | some n => brA br 1 (mulI f n) | none => wt p f)
  else bif op == 28 then (match vs.getD 0 none with | some b => brA br (2 - b).toNat f | none => wt p f)
  else bif op == 29 then (bif decide (k ≤ day) then brA br 0 f else wt p f)
  else bif op == 30 then (bif decide (k < day) then r0 else match vs.getD 0 none with | some b => (bif b == 1 then brA br 1 f else wt p f) | none => wt p f)
  else bif op == 31 then (bif decide (k < day) then brA br 1 f else wt p f)
  else r0
mutual
noncomputable def acq (fs : Fs) (day : Int) : Co → Int → Int → R2
  | .mk op k t kids, p, f => acqC day op k t (valL fs day kids) (acqL fs day kids (p + 1)) p f
noncomputable def acqL (fs : Fs) (day : Int) : List Co → Int → List (Int → R2)
  | [], _ => []
  | c :: r, p => (fun f => acq fs day c p f) :: acqL fs day r (p + szC c)
end
mutual
/-- The term at a place. -/
def termP : Co → Int → Option Co
  | .mk op k t kids, q => bif q == 0 then some (.mk op k t kids) else termL kids 1 q
def termL : List Co → Int → Int → Option Co
  | [], _, _ => none
  | c :: r, s, q => bif decide (s ≤ q) && decide (q < s + szC c) then termP c (q - s) else termL r (s + szC c) q
end
theorem szL_cut : ∀ {l : List Co} {i : Nat} {c : Co}, l[i]? = some c → szL (l.take i) + szC c ≤ szL l ∧ 0 ≤ szL (l.take i)
  | [], i, c, h => by simp at h
  | y :: r, 0, c, h => by simp at h; subst h; have := szL_pos r; simp only [List.take_zero, szL]; omega
  | y :: r, i + 1, c, h => by
    have := szL_cut (i := i) (show r[i]? = some c by simpa using h)
    have := szC_pos y
    simp only [List.take_succ_cons, szL]
    omega
theorem term_zero (c : Co) : termP c 0 = some c := by
  cases c with
  | mk op k t kids => rw [termP]; rfl
theorem term_get : ∀ {l : List Co} {i : Nat} {c : Co} {d : Int} (s : Int), l[i]? = some c → 0 ≤ d → d < szC c → termL l s (s + szL (l.take i) + d) = termP c d
  | [], i, c, d, s, h, _, _ => by simp at h
  | y :: r, 0, c, d, s, h, h0, h1 => by
    simp at h
    subst h
    rw [termL]
    simp only [List.take_zero, szL]
    rw [decide_eq_true (by omega), decide_eq_true (by omega)]
    simp only [Bool.and_self, cond_true]
    congr 1
    omega
  | y :: r, i + 1, c, d, s, h, h0, h1 => by
    have hr : r[i]? = some c := by simpa using h
    have hc := szL_cut hr
    have ih := term_get (l := r) (i := i) (c := c) (d := d) (s + szC y) hr h0 h1
    rw [termL]
    simp only [List.take_succ_cons, szL]
    have e : decide (s + (szC y + szL (r.take i)) + d < s + szC y) = false := decide_eq_false (by omega)
    rw [e, Bool.and_false, cond_false, ← ih]
    congr 1
    omega
theorem term_kid {op k : Int} {t : List UInt8} {kids : List Co} {i : Nat} {c : Co} {d : Int} (h : kids[i]? = some c) (h0 : 0 ≤ d) (h1 : d < szC c) : termP (.mk op k t kids) (1 + szL (kids.take i) + d) = termP c d := by
  have hc := szL_cut h
  rw [termP, show (1 + szL (kids.take i) + d == 0) = false by rw [beq_eq_false_iff_ne]; omega, cond_false, term_get 1 h h0 h1]
end Go.Proofs.YtjoplckpefoinaaGreatDoor
namespace Go.Proofs.YtjoplckpefoinaaGreatDoor
open Go

/-- What a step does with one that waits. -/
noncomputable def stepX (fs : Fs) (day : Int) (lab : List UInt8) (which : Int) : Co → Int → Int → R2
  | .mk op k s kids, p, f => bif (op == 31 && decide (lab ≠ []) && decide (s = lab)) && decide (day ≤ k) then brA (acqL fs day kids (p + 1)) (which - 1).toNat f else acq fs day (.mk op k s kids) p f
noncomputable def stepP (fs : Fs) (day : Int) (lab : List UInt8) (which : Int) (c : Co) : List (Int × Int) → R2
  | [] => r0
  | x :: r => R2.cat (match termP c x.1 with | some t => stepX fs day lab which t x.1 x.2 | none => r0) (stepP fs day lab which c r)
def inM (f : Int) : Prop := -1000000000000000 ≤ f ∧ f ≤ 1000000000000000
theorem inM_neg (f : Int) : inM (- clampI f) := by have := clampI_le f; have := clampI_ge f; unfold inM; omega
theorem inM_mul (a b : Int) : inM (mulI a b) := ⟨ratI_ge _ _ _, ratI_le _ _ _⟩
end Go.Proofs.YtjoplckpefoinaaGreatDoor
namespace Go.Proofs.YtjoplckpefoinaaGreatDoor
open Go

end Go.Proofs.YtjoplckpefoinaaGreatDoor
namespace Go.Proofs.YtjoplckpefoinaaGreatDoor
open Go

end Go.Proofs.YtjoplckpefoinaaGreatDoor
namespace Go.Proofs.YtjoplckpefoinaaGreatDoor
open Go Go.ChangeShapes Go.WideShapes Go.ChangeAt Go.WideMaps Go.WideElems Go.RowKit Go.ChangeMaps Go.Deep

/-- The rows' list of tables. -/
def laid1 : List (String × DataW Unit) := [("usance/date.monthDays", Rows.laid_usance_date_monthDays)]
theorem laid_met (os : Os) (args : Array Value) : laidMetH Tryz.prog laid1 ((World.doorLaid Tryz.prog 24 os).forCall (fun _ _ => 0) ⟨#[], args, []⟩).memory :=
  laidMetH_of_parts3 (fuel := 8) (laidMet_of_run' 8 (by kernel_rfl) (by kernel_rfl)) (by kernel_rfl) (by kernel_rfl)
def monthTab : List Int := [31, 28, 31, 30, 31, 30, 31, 31, 30, 31, 30, 31]
theorem month_datum : (Rows.laid_usance_date_monthDays : DataW Unit) = Lib.tabData .i64 monthTab := by kernel_rfl
theorem tab_of_laid {W : World} (h : laidMetH Tryz.prog laid1 W) : Tab W := by
  rw [MakeChecks.laidMetH_plain _ _ _ (by kernel_rfl)] at h
  unfold laid1 at h
  rw [month_datum] at h
  have ht := Lib.tabIs_of_head (g := 0) (t := 105) (e := 3) (n := 12) (by kernel_rfl) (by kernel_rfl) Tryz.underlying105 Tryz.underlying3 (by kernel_rfl) (by kernel_rfl) h
  intro k hk
  have hc := Lib.TabIs.cell ht (g := 0) (by kernel_rfl) k hk
  rw [hc]
  match k, hk with
  | 0, _ | 1, _ | 2, _ | 3, _ | 4, _ | 5, _ | 6, _ | 7, _ | 8, _ | 9, _ | 10, _ | 11, _ => rfl
end Go.Proofs.YtjoplckpefoinaaGreatDoor
