/- texts put together: VTwo VFed VVal NtM NtM2 NtM3 VSrch DSumsMath NtV -/
import Derived.Test.YthnojedlndblbaaGreatDoorNGeDRefB
import Derived.Test.YthnojedlndblbaaGreatDoorNGb
import Derived.Test.YthnojedlndblbaaGreatDoorNGc
import Derived.Test.YthnojedlndblbaaGreatDoorNGeDYears
import Derived.Test.YthnojedlndblbaaGreatDoorNGe
import Derived.Test.YthnojedlndblbaaGreatDoorNGd
namespace Go.Proofs.YthnojedlndblbaaGreatDoor
open Go Go.RowKit

theorem belQ {w w' : World} {e : Ending} {v : Value} (h : e = .returned v ∧ w' = w) : e = .returned v ∧ Below w.heap.size w w' := ⟨h.1, h.2 ▸ Below.refl _ _⟩
/-- The date of a day. -/
noncomputable def ymdO (n : Nat) : Nat × Nat × Nat := Classical.epsilon fun q : Nat × Nat × Nat => Dt q.1 q.2.1 q.2.2 ∧ dn q.1 q.2.1 q.2.2 = n
theorem ymd_eq {y m d n : Nat} (h : Dt y m d) (hn : dn y m d = n) : ymdO n = (y, m, d) := by
  have hs : Dt (ymdO n).1 (ymdO n).2.1 (ymdO n).2.2 ∧ dn (ymdO n).1 (ymdO n).2.1 (ymdO n).2.2 = n := Classical.epsilon_spec (p := fun q : Nat × Nat × Nat => Dt q.1 q.2.1 q.2.2 ∧ dn q.1 q.2.1 q.2.2 = n) ⟨(y, m, d), h, hn⟩
  obtain ⟨h1, h2, h3⟩ := dn_inj hs.1 h (hs.2.trans hn.symm)
  exact Prod.ext h1 (Prod.ext h2 h3)
noncomputable def monI (day n : Int) : Int := ((monV (ymdO (clampD day)).1 (ymdO (clampD day)).2.1 (ymdO (clampD day)).2.2 n : Nat) : Int)
noncomputable def y30I (a b : Int) : Int := shareV (sd (ymdO (clampD b)).1 (ymdO (clampD b)).2.1 (ymdO (clampD b)).2.2 - sd (ymdO (clampD a)).1 (ymdO (clampD a)).2.1 (ymdO (clampD a)).2.2) 360
def trP (b : Bool) : Int := bif b then 1 else 0
def whoI (b : Int) : Int := (clampI b).tdiv 1000000

noncomputable def twoP (op a b : Int) : Int :=
  bif op == 7 then clampI (clampI a + clampI b) else bif op == 8 then clampI (clampI a - clampI b) else bif op == 9 then mulI a b else bif op == 10 then divI a b else bif op == 11 || op == 17 then trP (decide (a < b)) else bif op == 12 then trP (decide (a ≤ b)) else bif op == 13 then trP (a == b) else bif op == 18 then ((plusV a (whoI b) : Nat) : Int) else bif op == 19 then monI a (whoI b) else bif op == 20 then shareV ((clampD b : Int) - (clampD a : Int)) 365 else y30I a b
end Go.Proofs.YthnojedlndblbaaGreatDoor
namespace Go.Proofs.YthnojedlndblbaaGreatDoor
open Go Go.RowKit

/-- Stamps in memory, in blocks below n. -/
def Sts (n : Nat) (w : World) (v : Value) (l : List (Int × Int)) : Prop := ∃ a c, v = .slice a l.length c ∧ (l.length ≤ c ∧ c ≤ 9223372036854775807) ∧ ∀ i q, l[i]? = some q → ∃ b o, a = some ⟨b, o, none⟩ ∧ b < n ∧ w.cell? ⟨b, o + i * 2, none⟩ = some (.int .i64 q.1) ∧ w.cell? ⟨b, o + i * 2 + 1, none⟩ = some (.int .i64 q.2)
/-- Feeds in memory, in blocks below n. -/
def Fds (n : Nat) (w : World) (v : Value) (fs : List (List UInt8 × List (Int × Int))) : Prop := ∃ a c, v = .slice a fs.length c ∧ (fs.length ≤ c ∧ c ≤ 9223372036854775807) ∧ ∀ i f, fs[i]? = some f → ∃ b o u, a = some ⟨b, o, none⟩ ∧ b < n ∧ w.cell? ⟨b, o + i * 2, none⟩ = some (strV f.1) ∧ w.cell? ⟨b, o + i * 2 + 1, none⟩ = some u ∧ Sts n w u f.2
theorem Sts.later {n : Nat} {w w' : World} {v : Value} {l : List (Int × Int)} (h : Sts n w v l) (hB : Below n w w') : Sts n w' v l := by
  obtain ⟨a, c, h1, h2, h3⟩ := h
  refine ⟨a, c, h1, h2, fun i q hq => ?_⟩
  obtain ⟨b, o, e, hb, x1, x2⟩ := h3 i q hq
  exact ⟨b, o, e, hb, (hB.cell (p := ⟨b, o + i * 2, none⟩) hb).trans x1, (hB.cell (p := ⟨b, o + i * 2 + 1, none⟩) hb).trans x2⟩
theorem Sts.more {n n' : Nat} {w : World} {v : Value} {l : List (Int × Int)} (h : Sts n w v l) (hn : n ≤ n') : Sts n' w v l := by
  obtain ⟨a, c, h1, h2, h3⟩ := h
  refine ⟨a, c, h1, h2, fun i q hq => ?_⟩
  obtain ⟨b, o, e, hb, x⟩ := h3 i q hq
  exact ⟨b, o, e, by omega, x⟩
theorem Fds.later {n : Nat} {w w' : World} {v : Value} {fs : List (List UInt8 × List (Int × Int))} (h : Fds n w v fs) (hB : Below n w w') : Fds n w' v fs := by
  obtain ⟨a, c, h1, h2, h3⟩ := h
  refine ⟨a, c, h1, h2, fun i f hf => ?_⟩
  obtain ⟨b, o, u, e, hb, x1, x2, x3⟩ := h3 i f hf
  exact ⟨b, o, u, e, hb, (hB.cell (p := ⟨b, o + i * 2, none⟩) hb).trans x1, (hB.cell (p := ⟨b, o + i * 2 + 1, none⟩) hb).trans x2, x3.later hB⟩
theorem Fds.more {n n' : Nat} {w : World} {v : Value} {fs : List (List UInt8 × List (Int × Int))} (h : Fds n w v fs) (hn : n ≤ n') : Fds n' w v fs := by
  obtain ⟨a, c, h1, h2, h3⟩ := h
  refine ⟨a, c, h1, h2, fun i f hf => ?_⟩
  obtain ⟨b, o, u, e, hb, x1, x2, x3⟩ := h3 i f hf
  exact ⟨b, o, u, e, by omega, x1, x2, x3.more hn⟩
theorem Fds.at {w w' : World} {v : Value} {fs : List (List UInt8 × List (Int × Int))} (h : Fds w.heap.size w v fs) (hB : Below w.heap.size w w') : Fds w'.heap.size w' v fs := (h.later hB).more hB.size
/-- The last stamp of a day up to that one. -/
def stpP (day : Int) (r : Option Int) (l : List (Int × Int)) : Option Int := l.foldl (fun r q => bif decide (q.1 ≤ day) then some q.2 else r) r
def fedP (name : List UInt8) (day : Int) : List (List UInt8 × List (Int × Int)) → Option Int
  | [] => none
  | f :: r => bif decide (f.1 ≠ name) then fedP name day r else stpP day none f.2
/-- An answer that may not be known. -/
def oV (r : Option Int) : Value := .tuple #[.int .i64 (r.getD 0), .bool r.isSome]
theorem idxF (b o n cap k : Nat) (h : k < n) (w : World) : (Instr.indexAt 25 (.slice (some ⟨b, o, none⟩) n cap) (.int .i64 k)).run Tryz.prog w = .ok (.pointer (some ⟨b, o + k * 2, none⟩)) w := by go_simp
theorem idxT (b o n cap k : Nat) (h : k < n) (w : World) : (Instr.indexAt 77 (.slice (some ⟨b, o, none⟩) n cap) (.int .i64 k)).run Tryz.prog w = .ok (.pointer (some ⟨b, o + k * 2, none⟩)) w := by go_simp
theorem drop_any {α : Type} {l : List α} {i : Nat} {u : α} (hu : l[i]? = some u) : l.drop i = u :: l.drop (i + 1) := by
  obtain ⟨h1, h2⟩ := List.getElem?_eq_some_iff.1 hu
  rw [List.drop_eq_getElem_cons h1, h2]
end Go.Proofs.YthnojedlndblbaaGreatDoor
namespace Go.Proofs.YthnojedlndblbaaGreatDoor
open Go Go.RowKit

noncomputable def valC (fs : List (List UInt8 × List (Int × Int))) (day op k : Int) (t : List UInt8) (vs : List (Option Int)) : Option Int :=
  bif op == 1 || op == 2 || op == 3 then some k else bif op == 4 then fedP t (IntKind.i64.wrap (day - k)) fs else bif op == 5 then some ((clampD (IntKind.i64.wrap (day - k)) : Nat) : Int) else
  match vs.getD 0 none with
  | none => none
  | some a =>
    bif op == 6 then some (- clampI a) else bif op == 14 then some (IntKind.i64.wrap (1 - a)) else bif op == 15 then (bif a == 0 then some 0 else vs.getD 1 none) else bif op == 16 then (bif a == 1 then some 1 else vs.getD 1 none) else bif op == 22 then (bif a == 1 then vs.getD 1 none else vs.getD 2 none) else
    match vs.getD 1 none with
    | none => none
    | some b => some (twoP op a b)
mutual
/-- The value of an observable; none: it is not known. -/
noncomputable def valP (fs : List (List UInt8 × List (Int × Int))) (day : Int) : Co → Option Int
  | .mk op k t kids => valC fs day op k t (valL fs day kids)
noncomputable def valL (fs : List (List UInt8 × List (Int × Int))) (day : Int) : List Co → List (Option Int)
  | [] => []
  | c :: r => valP fs day c :: valL fs day r
end
theorem val_get (fs : List (List UInt8 × List (Int × Int))) (day : Int) : ∀ {l : List Co} {i : Nat} {c : Co}, l[i]? = some c → (valL fs day l).getD i none = valP fs day c
  | [], i, c, h => by simp at h
  | y :: r, 0, c, h => by simp at h; subst h; rw [valL]; rfl
  | y :: r, i + 1, c, h => by rw [valL]; simp only [List.getD_cons_succ]; exact val_get fs day (by simpa using h)
def needP (op : Int) : Nat := bif op == 6 || op == 14 then 1 else bif op == 22 then 3 else 2
mutual
/-- Has it the kids that it asks? -/
def obP : Co → Bool
  | .mk op _ _ kids => (op == 1 || op == 2 || op == 3 || op == 4 || op == 5) || (decide (needP op ≤ kids.length) && obL kids)
def obL : List Co → Bool
  | [] => true
  | c :: r => obP c && obL r
end
end Go.Proofs.YthnojedlndblbaaGreatDoor
namespace Go.Proofs.YthnojedlndblbaaGreatDoor
open Go

abbrev Fs := List (List UInt8 × List (Int × Int))
/-- What waits (places and factors), what is transferred (currencies and amounts). -/
abbrev R2 := List (Int × Int) × List (List UInt8 × Int)
def r0 : R2 := ([], [])
def R2.cat (a b : R2) : R2 := (a.1 ++ b.1, a.2 ++ b.2)
def wt (p f : Int) : R2 := ([(p, f)], [])
def brA (br : List (Int → R2)) (i : Nat) (f : Int) : R2 := (br.getD i fun _ => r0) f
noncomputable def acqC (day op k : Int) (t : List UInt8) (vs : List (Option Int)) (br : List (Int → R2)) (p f : Int) : R2 :=
  bif op == 24 then (bif f == 0 then r0 else ([], [(t, f)]))
  else bif op == 25 then brA br 0 (- clampI f)
  else bif op == 27 then R2.cat (brA br 0 f) (brA br 1 f)
  else bif op == 26 then (match vs.getD 0 none with | some n => brA br 1 (mulI f n) | none => wt p f)
  else bif op == 28 then (match vs.getD 0 none with | some b => brA br (2 - b).toNat f | none => wt p f)
  else bif op == 29 then (bif decide (k ≤ day) then brA br 0 f else wt p f)
  else bif op == 30 then (bif decide (k < day) then r0 else match vs.getD 0 none with | some b => (bif b == 1 then brA br 1 f else wt p f) | none => wt p f)
  else bif op == 31 then (bif decide (k < day) then brA br 1 f else wt p f)
  else r0
mutual
noncomputable def acq (fs : Fs) (day : Int) : Co → Int → Int → R2
  | .mk op k t kids, p, f => acqC day op k t (valL fs day kids) (acqL fs day kids (p + 1)) p f
noncomputable def acqL (fs : Fs) (day : Int) : List Co → Int → List (Int → R2)
  | [], _ => []
  | c :: r, p => (fun f => acq fs day c p f) :: acqL fs day r (p + szC c)
end
mutual
/-- The term at a place. -/
def termP : Co → Int → Option Co
  | .mk op k t kids, q => bif q == 0 then some (.mk op k t kids) else termL kids 1 q
def termL : List Co → Int → Int → Option Co
  | [], _, _ => none
  | c :: r, s, q => bif decide (s ≤ q) && decide (q < s + szC c) then termP c (q - s) else termL r (s + szC c) q
end
def isW : Co → Bool
  | .mk op _ _ _ => op == 26 || op == 28 || op == 29 || op == 30 || op == 31
/-- How a contract may be acquired. -/
theorem acqC_ind {Q : R2 → Prop} {day op k : Int} {t : List UInt8} {vs : List (Option Int)} {br : List (Int → R2)} {p f : Int} (h0 : Q r0) (hpay : op = 24 → f ≠ 0 → Q ([], [(t, f)])) (hwt : acqC day op k t vs br p f = wt p f → (op = 26 ∨ op = 28 ∨ op = 29 ∨ op = 30 ∨ op = 31) → Q (wt p f))
    (hbr : ∀ i g, (g = f ∨ g = - clampI f ∨ ∃ n, g = mulI f n) → Q (brA br i g)) (hcat : Q (R2.cat (brA br 0 f) (brA br 1 f))) : Q (acqC day op k t vs br p f) := by
  unfold acqC at hwt ⊢
  by_cases e24 : op = 24
  · subst e24
    simp only [beq_self_eq_true, cond_true]
    by_cases hf : f = 0
    · rw [show (f == 0) = true by simpa using hf]; exact h0
    · rw [show (f == 0) = false by simpa using hf]; exact hpay rfl hf
  rw [show (op == 24) = false by simpa using e24] at hwt ⊢
  by_cases e25 : op = 25
  · subst e25; simp only [beq_self_eq_true, cond_true, cond_false]; exact hbr 0 _ (.inr (.inl rfl))
  rw [show (op == 25) = false by simpa using e25] at hwt ⊢
  by_cases e27 : op = 27
  · subst e27; simp only [beq_self_eq_true, cond_true, cond_false]; exact hcat
  rw [show (op == 27) = false by simpa using e27] at hwt ⊢
  by_cases e26 : op = 26
  · subst e26
    simp only [beq_self_eq_true, cond_true, cond_false] at hwt ⊢
    cases hv : vs.getD 0 none with
    | none => rw [hv] at hwt; exact hwt rfl (by simp)
    | some n => exact hbr 1 _ (.inr (.inr ⟨n, rfl⟩))
  rw [show (op == 26) = false by simpa using e26] at hwt ⊢
  by_cases e28 : op = 28
  · subst e28
    simp only [beq_self_eq_true, cond_true, cond_false] at hwt ⊢
    cases hv : vs.getD 0 none with
    | none => rw [hv] at hwt; exact hwt rfl (by simp)
    | some n => exact hbr _ _ (.inl rfl)
  rw [show (op == 28) = false by simpa using e28] at hwt ⊢
  by_cases e29 : op = 29
  · subst e29
    simp only [beq_self_eq_true, cond_true, cond_false] at hwt ⊢
    cases hd : decide (k ≤ day) with
    | true => exact hbr _ _ (.inl rfl)
    | false => rw [hd] at hwt; exact hwt rfl (by simp)
  rw [show (op == 29) = false by simpa using e29] at hwt ⊢
  by_cases e30 : op = 30
  · subst e30
    simp only [beq_self_eq_true, cond_true, cond_false] at hwt ⊢
    cases hd : decide (k < day) with
    | true => exact h0
    | false =>
      rw [hd] at hwt
      simp only [cond_false] at hwt ⊢
      cases hv : vs.getD 0 none with
      | none => rw [hv] at hwt; exact hwt rfl (by simp)
      | some b =>
        rw [hv] at hwt
        simp only at hwt ⊢
        cases hb : (b == 1) with
        | true => exact hbr _ _ (.inl rfl)
        | false => rw [hb] at hwt; exact hwt rfl (by simp)
  rw [show (op == 30) = false by simpa using e30] at hwt ⊢
  by_cases e31 : op = 31
  · subst e31
    simp only [beq_self_eq_true, cond_true, cond_false] at hwt ⊢
    cases hd : decide (k < day) with
    | true => exact hbr _ _ (.inl rfl)
    | false => rw [hd] at hwt; exact hwt rfl (by simp)
  rw [show (op == 31) = false by simpa using e31]
  exact h0
theorem szL_cut : ∀ {l : List Co} {i : Nat} {c : Co}, l[i]? = some c → szL (l.take i) + szC c ≤ szL l ∧ 0 ≤ szL (l.take i)
  | [], i, c, h => by simp at h
  | y :: r, 0, c, h => by simp at h; subst h; have := szL_pos r; simp only [List.take_zero, szL]; omega
  | y :: r, i + 1, c, h => by
    have := szL_cut (i := i) (show r[i]? = some c by simpa using h)
    have := szC_pos y
    simp only [List.take_succ_cons, szL]
    omega
theorem acq_get (fs : Fs) (day : Int) : ∀ {l : List Co} {i : Nat} {c : Co} (p f : Int), l[i]? = some c → brA (acqL fs day l p) i f = acq fs day c (p + szL (l.take i)) f
  | [], i, c, p, f, h => by simp at h
  | y :: r, 0, c, p, f, h => by
    simp at h
    subst h
    rw [acqL]
    simp [brA, szL]
  | y :: r, i + 1, c, p, f, h => by
    have := acq_get fs day (l := r) (i := i) (c := c) (p + szC y) f (by simpa using h)
    rw [acqL]
    simp only [brA, List.getD_cons_succ] at this ⊢
    rw [this, List.take_succ_cons, szL, Int.add_assoc]
theorem acq_none (fs : Fs) (day : Int) : ∀ {l : List Co} {i : Nat} (p f : Int), l[i]? = none → brA (acqL fs day l p) i f = r0
  | [], i, p, f, _ => by rw [acqL]; simp [brA]
  | y :: r, 0, p, f, h => by simp at h
  | y :: r, i + 1, p, f, h => by
    have := acq_none fs day (l := r) (i := i) (p + szC y) f (by simpa using h)
    rw [acqL]
    simp only [brA, List.getD_cons_succ] at this ⊢
    exact this
theorem term_zero (c : Co) : termP c 0 = some c := by
  cases c with
  | mk op k t kids => rw [termP]; rfl
theorem term_get : ∀ {l : List Co} {i : Nat} {c : Co} {d : Int} (s : Int), l[i]? = some c → 0 ≤ d → d < szC c → termL l s (s + szL (l.take i) + d) = termP c d
  | [], i, c, d, s, h, _, _ => by simp at h
  | y :: r, 0, c, d, s, h, h0, h1 => by
    simp at h
    subst h
    rw [termL]
    simp only [List.take_zero, szL]
    rw [decide_eq_true (by omega), decide_eq_true (by omega)]
    simp only [Bool.and_self, cond_true]
    congr 1
    omega
  | y :: r, i + 1, c, d, s, h, h0, h1 => by
    have hr : r[i]? = some c := by simpa using h
    have hc := szL_cut hr
    have ih := term_get (l := r) (i := i) (c := c) (d := d) (s + szC y) hr h0 h1
    rw [termL]
    simp only [List.take_succ_cons, szL]
    have e : decide (s + (szC y + szL (r.take i)) + d < s + szC y) = false := decide_eq_false (by omega)
    rw [e, Bool.and_false, cond_false, ← ih]
    congr 1
    omega
theorem term_kid {op k : Int} {t : List UInt8} {kids : List Co} {i : Nat} {c : Co} {d : Int} (h : kids[i]? = some c) (h0 : 0 ≤ d) (h1 : d < szC c) : termP (.mk op k t kids) (1 + szL (kids.take i) + d) = termP c d := by
  have hc := szL_cut h
  rw [termP, show (1 + szL (kids.take i) + d == 0) = false by rw [beq_eq_false_iff_ne]; omega, cond_false, term_get 1 h h0 h1]
/-- Where a term's terms stand. -/
theorem term_in : ∀ (c : Co) (q : Int) (t : Co), termP c q = some t → 0 ≤ q ∧ q + szC t ≤ szC c ∧ ∀ d, 0 ≤ d → d < szC t → termP c (q + d) = termP t d := by
  intro c
  induction c using Co.ind with
  | h op k s kids ih =>
    intro q t h
    rw [termP] at h
    cases hq : (q == 0) with
    | true =>
      rw [hq] at h
      cases h
      have := eq_of_beq hq
      subst this
      exact ⟨by omega, by omega, fun d _ _ => by rw [Int.zero_add]⟩
    | false =>
      rw [hq, cond_false] at h
      have row : ∀ (l : List Co) (s0 : Int) (pre : List Co), kids = pre ++ l → s0 = 1 + szL pre → termL l s0 q = some t → ∃ i c, kids[i]? = some c ∧ termP c (q - (1 + szL (kids.take i))) = some t ∧ 1 + szL (kids.take i) ≤ q ∧ q < 1 + szL (kids.take i) + szC c := by
        intro l
        induction l with
        | nil => intro s0 pre _ _ h; rw [termL] at h; cases h
        | cons y r ihr =>
          intro s0 pre hk hs h
          rw [termL] at h
          cases hb : (decide (s0 ≤ q) && decide (q < s0 + szC y)) with
          | true =>
            rw [hb, cond_true] at h
            simp only [Bool.and_eq_true, decide_eq_true_eq] at hb
            have ht : kids.take pre.length = pre := by rw [hk]; simp
            refine ⟨pre.length, y, by rw [hk]; simp, ?_, ?_, ?_⟩ <;> rw [ht, ← hs]
            · exact h
            · exact hb.1
            · exact hb.2
          | false =>
            rw [hb, cond_false] at h
            have hpre : szL (pre ++ [y]) = szL pre + szC y := by
              have app : ∀ a : List Co, szL (a ++ [y]) = szL a + szC y := by
                intro a
                induction a with
                | nil => simp [szL]
                | cons z zs ihz => simp only [List.cons_append, szL, ihz]; omega
              exact app pre
            exact ihr (s0 + szC y) (pre ++ [y]) (by rw [hk]; simp) (by rw [hpre]; omega) h
      obtain ⟨i, c, hc, htc, hlo, hhi⟩ := row kids 1 [] rfl (by simp [szL]) h
      obtain ⟨a1, a2, a3⟩ := ih c (List.mem_of_getElem? hc) _ _ htc
      have hcut := szL_cut hc
      refine ⟨by omega, by rw [szC]; omega, fun d h0 h1 => ?_⟩
      have := term_kid (op := op) (k := k) (t := s) hc (d := q - (1 + szL (kids.take i)) + d) (by omega) (by omega)
      rw [a3 d h0 h1] at this
      rw [← this]
      congr 1
      omega
end Go.Proofs.YthnojedlndblbaaGreatDoor
namespace Go.Proofs.YthnojedlndblbaaGreatDoor
open Go

/-- What a step does with one that waits. -/
noncomputable def stepX (fs : Fs) (day : Int) (lab : List UInt8) (which : Int) : Co → Int → Int → R2
  | .mk op k s kids, p, f => bif (op == 31 && decide (lab ≠ []) && decide (s = lab)) && decide (day ≤ k) then brA (acqL fs day kids (p + 1)) (which - 1).toNat f else acq fs day (.mk op k s kids) p f
noncomputable def stepP (fs : Fs) (day : Int) (lab : List UInt8) (which : Int) (c : Co) : List (Int × Int) → R2
  | [] => r0
  | x :: r => R2.cat (match termP c x.1 with | some t => stepX fs day lab which t x.1 x.2 | none => r0) (stepP fs day lab which c r)
def inM (f : Int) : Prop := -1000000000000000 ≤ f ∧ f ≤ 1000000000000000
theorem inM_neg (f : Int) : inM (- clampI f) := by have := clampI_le f; have := clampI_ge f; unfold inM; omega
theorem inM_mul (a b : Int) : inM (mulI a b) := ⟨ratI_ge _ _ _, ratI_le _ _ _⟩
end Go.Proofs.YthnojedlndblbaaGreatDoor
namespace Go.Proofs.YthnojedlndblbaaGreatDoor
open Go

mutual
/-- Each of its terms is so. -/
def allN (P : Co → Bool) : Co → Bool
  | .mk op k t kids => P (.mk op k t kids) && allK P kids
def allK (P : Co → Bool) : List Co → Bool
  | [] => true
  | c :: r => allN P c && allK P r
end
theorem allK_mem {P : Co → Bool} : ∀ {l : List Co}, allK P l = true → ∀ c ∈ l, allN P c = true
  | [], _ => by simp
  | c :: r, h => by
    rw [allK, Bool.and_eq_true] at h
    intro x hx
    rcases List.mem_cons.1 hx with e | e
    · rw [e]; exact h.1
    · exact allK_mem h.2 x e
theorem allN_self {P : Co → Bool} {c : Co} (h : allN P c = true) : P c = true := by
  cases c with
  | mk op k t kids => rw [allN, Bool.and_eq_true] at h; exact h.1
theorem allN_kids {P : Co → Bool} {op k : Int} {t : List UInt8} {kids : List Co} (h : allN P (.mk op k t kids) = true) : ∀ c ∈ kids, allN P c = true := by
  rw [allN, Bool.and_eq_true] at h
  exact allK_mem h.2
theorem termL_mem : ∀ {l : List Co} {s q : Int} {t : Co}, termL l s q = some t → ∃ c ∈ l, ∃ d, termP c d = some t
  | [], s, q, t, h => by rw [termL] at h; cases h
  | c :: r, s, q, t, h => by
    rw [termL] at h
    cases hb : (decide (s ≤ q) && decide (q < s + szC c)) with
    | true => rw [hb, cond_true] at h; exact ⟨c, by simp, _, h⟩
    | false =>
      rw [hb, cond_false] at h
      obtain ⟨c', hc, d, hd⟩ := termL_mem h
      exact ⟨c', by simp [hc], d, hd⟩
theorem allN_term {P : Co → Bool} (c : Co) : ∀ {q : Int} {t : Co}, allN P c = true → termP c q = some t → allN P t = true := by
  induction c using Co.ind with
  | h op k s kids ih =>
    intro q t h ht
    rw [termP] at ht
    cases hq : (q == 0) with
    | true => rw [hq] at ht; cases ht; exact h
    | false =>
      rw [hq, cond_false] at ht
      obtain ⟨c', hc, d, hd⟩ := termL_mem ht
      exact ih c' hc (allN_kids h c' hc) hd
/-- What feeds have told up to a day. -/
def toldP (day : Int) (fs : Fs) : Fs := fs.map fun f => (f.1, f.2.filter fun q => decide (q.1 ≤ day))
theorem stp_told {d day : Int} (hd : d ≤ day) : ∀ (l : List (Int × Int)) (r : Option Int), stpP d r (l.filter fun q => decide (q.1 ≤ day)) = stpP d r l
  | [], r => rfl
  | q :: l, r => by
    have ih := stp_told hd l
    unfold stpP at ih ⊢
    rw [List.foldl_cons]
    by_cases hq : q.1 ≤ day
    · rw [List.filter_cons, if_pos (by simpa using hq), List.foldl_cons, ih]
    · rw [List.filter_cons, if_neg (by simpa using hq), ih, decide_eq_false (show ¬ q.1 ≤ d by omega)]
      rfl
theorem fed_told {name : List UInt8} {d day : Int} (hd : d ≤ day) : ∀ fs : Fs, fedP name d (toldP day fs) = fedP name d fs
  | [] => rfl
  | f :: r => by
    have ih := fed_told (name := name) hd r
    unfold toldP at ih ⊢
    rw [List.map_cons, fedP, fedP, ih, stp_told hd]
/-- It looks at no day to come. -/
def noAh : Co → Bool
  | .mk op k _ _ => bif op == 4 then decide (0 ≤ k) && decide (k ≤ 3660) else true
theorem val_told {fs : Fs} {day : Int} (h0 : 0 ≤ day) (h1 : day ≤ 73048) (c : Co) : allN noAh c = true → valP (toldP day fs) day c = valP fs day c := by
  induction c using Co.ind with
  | h op k t kids ih =>
    intro h
    have hs := allN_self h
    have hk := allN_kids h
    have hL : ∀ l : List Co, (∀ c ∈ l, c ∈ kids) → valL (toldP day fs) day l = valL fs day l := by
      intro l
      induction l with
      | nil => intro _; rw [valL, valL]
      | cons c r ihr => intro hm; rw [valL, valL, ihr (fun x hx => hm x (by simp [hx])), ih c (hm c (by simp)) (hk c (hm c (by simp)))]
    rw [valP, valP, hL kids (fun _ h => h)]
    unfold valC
    cases op == 1 || op == 2 || op == 3 with
    | true => rfl
    | false =>
    cases h4 : (op == 4) with
    | false => rfl
    | true =>
      simp only [noAh, h4, cond_true, Bool.and_eq_true, decide_eq_true_eq] at hs
      have hw : IntKind.i64.wrap (day - k) = day - k := IntWalk.i64_in _ ⟨by omega, by omega⟩
      simp only [cond_false, cond_true]
      rw [hw]
      exact fed_told (by omega) fs
theorem valL_told {fs : Fs} {day : Int} (h0 : 0 ≤ day) (h1 : day ≤ 73048) : ∀ l : List Co, (∀ c ∈ l, allN noAh c = true) → valL (toldP day fs) day l = valL fs day l
  | [], _ => by rw [valL, valL]
  | c :: r, h => by rw [valL, valL, val_told h0 h1 c (h c (by simp)), valL_told h0 h1 r (fun x hx => h x (by simp [hx]))]
theorem acq_told {fs : Fs} {day : Int} (h0 : 0 ≤ day) (h1 : day ≤ 73048) (c : Co) : allN noAh c = true → ∀ p f, acq (toldP day fs) day c p f = acq fs day c p f := by
  induction c using Co.ind with
  | h op k t kids ih =>
    intro h p f
    have hk := allN_kids h
    have hL : ∀ l : List Co, (∀ c ∈ l, c ∈ kids) → ∀ q, acqL (toldP day fs) day l q = acqL fs day l q := by
      intro l
      induction l with
      | nil => intro _ q; rw [acqL, acqL]
      | cons c r ihr =>
        intro hm q
        rw [acqL, acqL, ihr (fun x hx => hm x (by simp [hx]))]
        congr 1
        funext g
        exact ih c (hm c (by simp)) (hk c (hm c (by simp))) q g
    rw [acq, acq, valL_told h0 h1 kids hk, hL kids (fun _ h => h)]
theorem acqL_told {fs : Fs} {day : Int} (h0 : 0 ≤ day) (h1 : day ≤ 73048) : ∀ l : List Co, (∀ c ∈ l, allN noAh c = true) → ∀ q, acqL (toldP day fs) day l q = acqL fs day l q
  | [], _, q => by rw [acqL, acqL]
  | c :: r, h, q => by
    rw [acqL, acqL, acqL_told h0 h1 r (fun x hx => h x (by simp [hx]))]
    congr 1
    funext g
    exact acq_told h0 h1 c (h c (by simp)) q g
/-- Stamps of days behind the day make no difference. -/
theorem step_told {fs : Fs} {day : Int} (h0 : 0 ≤ day) (h1 : day ≤ 73048) (lab : List UInt8) (which : Int) {c : Co} (h : allN noAh c = true) : ∀ l : List (Int × Int), stepP (toldP day fs) day lab which c l = stepP fs day lab which c l
  | [] => rfl
  | x :: r => by
    rw [stepP, stepP, step_told h0 h1 lab which h r]
    cases ht : termP c x.1 with
    | none => rfl
    | some t =>
      have hn := allN_term c h ht
      congr 1
      simp only
      cases t with
      | mk op k s kids => rw [stepX, stepX, acqL_told h0 h1 kids (allN_kids hn), acq_told h0 h1 _ hn]
end Go.Proofs.YthnojedlndblbaaGreatDoor
namespace Go.Proofs.YthnojedlndblbaaGreatDoor
open Go

theorem tw_iff {α : Type} {R : α → α → Prop} {p : α → Bool} (hp : ∀ x y, R x y → p y = true → p x = true) : ∀ {l : List α}, l.Pairwise R → ∀ (i : Nat) (u : α), l[i]? = some u → (p u = true ↔ i < (l.takeWhile p).length)
  | [], _, i, u, h => by simp at h
  | x :: r, hl, i, u, h => by
    rw [List.pairwise_cons] at hl
    cases hx : p x with
    | true =>
      rw [List.takeWhile_cons_of_pos hx]
      cases i with
      | zero => simp at h; subst h; simp [hx]
      | succ i =>
        have := tw_iff hp hl.2 i u (by simpa using h)
        rw [this]; simp
    | false =>
      rw [List.takeWhile_cons_of_neg (by simp [hx])]
      cases i with
      | zero => simp at h; subst h; simp [hx]
      | succ i =>
        have hu : u ∈ r := List.mem_of_getElem? (by simpa using h : r[i]? = some u)
        constructor
        · intro hpu
          have := hp x u (hl.1 u hu) hpu
          rw [hx] at this; cases this
        · intro h'; simp at h'
theorem tw_le {α : Type} (p : α → Bool) : ∀ l : List α, (l.takeWhile p).length ≤ l.length
  | [] => by simp
  | x :: r => by
    have := tw_le p r
    cases hx : p x with
    | true => rw [List.takeWhile_cons_of_pos hx]; simpa using this
    | false => rw [List.takeWhile_cons_of_neg (by simp [hx])]; simp
/-- Names that rise. -/
def RiseN (fs : Fs) : Prop := fs.Pairwise fun x y => x.1 < y.1
/-- Days that rise. -/
def RiseD (l : List (Int × Int)) : Prop := l.Pairwise fun x y => x.1 < y.1
/-- How many feeds stand ahead of a name; how many stamps up to a day. -/
def posN (name : List UInt8) (fs : Fs) : Nat := (fs.takeWhile fun f => decide (f.1 < name)).length
def posD (day : Int) (l : List (Int × Int)) : Nat := (l.takeWhile fun q => decide (q.1 < day)).length
theorem posN_iff {name : List UInt8} {fs : Fs} (h : RiseN fs) (i : Nat) (f : List UInt8 × List (Int × Int)) (hf : fs[i]? = some f) : decide (f.1 < name) = true ↔ i < posN name fs :=
  tw_iff (p := fun f : List UInt8 × List (Int × Int) => decide (f.1 < name)) (fun _ _ hxy hy => decide_eq_true (List.lt_trans hxy (of_decide_eq_true hy))) h i f hf
theorem posD_iff {day : Int} {l : List (Int × Int)} (h : RiseD l) (i : Nat) (q : Int × Int) (hq : l[i]? = some q) : decide (q.1 < day) = true ↔ i < posD day l :=
  tw_iff (p := fun q : Int × Int => decide (q.1 < day)) (fun _ _ hxy hy => decide_eq_true (Int.lt_trans hxy (of_decide_eq_true hy))) h i q hq
theorem posN_le (name : List UInt8) (fs : Fs) : posN name fs ≤ fs.length := tw_le _ fs
theorem posD_le (day : Int) (l : List (Int × Int)) : posD day l ≤ l.length := tw_le _ l
theorem fed_none {name : List UInt8} {day : Int} : ∀ {fs : Fs}, (∀ f ∈ fs, f.1 ≠ name) → fedP name day fs = none
  | [], _ => rfl
  | f :: r, h => by
    rw [fedP, decide_eq_true (h f (by simp))]
    exact fed_none (fs := r) (fun g hg => h g (by simp [hg]))
/-- A feed is found where it stands. -/
theorem fed_at {name : List UInt8} {day : Int} : ∀ {fs : Fs}, RiseN fs → fedP name day fs = match fs[posN name fs]? with | some f => bif decide (f.1 = name) then stpP day none f.2 else none | none => none
  | [], _ => rfl
  | x :: r, h => by
    have h2 := h
    unfold RiseN at h2
    rw [List.pairwise_cons] at h2
    have ih := fed_at (name := name) (day := day) (fs := r) h2.2
    cases hx : decide (x.1 < name) with
    | true =>
      have e : posN name (x :: r) = posN name r + 1 := by unfold posN; rw [List.takeWhile_cons_of_pos (p := fun f : List UInt8 × List (Int × Int) => decide (f.1 < name)) hx]; rfl
      have hne : x.1 ≠ name := fun e => by have := of_decide_eq_true hx; rw [e] at this; exact List.lt_irrefl _ this
      rw [e, fedP, decide_eq_true hne, cond_true, ih]
      simp
    | false =>
      have e : posN name (x :: r) = 0 := by unfold posN; rw [List.takeWhile_cons_of_neg (p := fun f : List UInt8 × List (Int × Int) => decide (f.1 < name)) (by simpa using hx)]; rfl
      rw [e]
      simp only [List.getElem?_cons_zero]
      cases hn : decide (x.1 = name) with
      | true => rw [fedP, decide_eq_false (by simpa using of_decide_eq_true hn)]; rfl
      | false =>
        have hne := of_decide_eq_false hn
        rw [fedP, decide_eq_true hne, cond_true, cond_false]
        refine fed_none fun f hf e => ?_
        have hlt := h2.1 f hf
        rw [e] at hlt
        exact absurd hlt (of_decide_eq_false hx)
theorem stp_none {day : Int} {r : Option Int} : ∀ {l : List (Int × Int)}, (∀ q ∈ l, ¬ q.1 ≤ day) → stpP day r l = r
  | [], _ => rfl
  | q :: l, h => by
    unfold stpP
    rw [List.foldl_cons, decide_eq_false (h q (by simp)), cond_false]
    exact stp_none (l := l) (fun g hg => h g (by simp [hg]))
/-- The last stamp up to a day, by how many there are. -/
theorem stp_at {day : Int} : ∀ {l : List (Int × Int)} {r : Option Int}, RiseD l → stpP day r l = bif posD (day + 1) l == 0 then r else (l[posD (day + 1) l - 1]?).map (·.2)
  | [], r, _ => rfl
  | q :: l, r, h => by
    have h2 := h
    unfold RiseD at h2
    rw [List.pairwise_cons] at h2
    have ih := stp_at (day := day) (l := l) (r := some q.2) h2.2
    cases hq : decide (q.1 < day + 1) with
    | true =>
      have e : posD (day + 1) (q :: l) = posD (day + 1) l + 1 := by unfold posD; rw [List.takeWhile_cons_of_pos (p := fun q : Int × Int => decide (q.1 < day + 1)) hq]; rfl
      have hle : q.1 ≤ day := by have := of_decide_eq_true hq; omega
      have e2 : stpP day r (q :: l) = stpP day (some q.2) l := by unfold stpP; rw [List.foldl_cons, decide_eq_true hle, cond_true]
      rw [e2, ih, e]
      cases posD (day + 1) l with
      | zero => rfl
      | succ m => simp
    | false =>
      have e : posD (day + 1) (q :: l) = 0 := by unfold posD; rw [List.takeWhile_cons_of_neg (p := fun q : Int × Int => decide (q.1 < day + 1)) (by simpa using hq)]; rfl
      rw [e]
      refine stp_none fun x hx => ?_
      rcases List.mem_cons.1 hx with rfl | hx
      · have := of_decide_eq_false hq; omega
      · have := of_decide_eq_false hq; have := h2.1 x hx; omega
end Go.Proofs.YthnojedlndblbaaGreatDoor
namespace Go.Proofs.YthnojedlndblbaaGreatDoor
open Go Go.RowKit

theorem monV_le (y m d : Nat) (n : Int) (h : Dt y m d) : monV y m d n ≤ 73048 := by
  obtain ⟨h1, h2, h3, h4⟩ := h
  unfold monV
  split
  · omega
  · split
    · omega
    · have hM : (monK y m n).toNat % 12 < 12 := by omega
      have hg := ml_ge (1900 + (monK y m n).toNat / 12) hM
      exact dn_le ⟨by omega, hM, by omega, by omega⟩
end Go.Proofs.YthnojedlndblbaaGreatDoor
namespace Go.Proofs.YthnojedlndblbaaGreatDoor
open Go Go.RowKit

theorem day_date : ∀ n : Nat, n ≤ 73048 → ∃ y m d, Dt y m d ∧ dn y m d = n
  | 0, _ => ⟨0, 0, 1, ⟨by omega, by omega, by omega, by decide⟩, by decide⟩
  | n + 1, h => by
    obtain ⟨y, m, d, hD, hn⟩ := day_date n (by omega)
    obtain ⟨h1, h2, h3, h4⟩ := id hD
    by_cases hd : d + 1 ≤ ml (1900 + y) m
    · exact ⟨y, m, d + 1, ⟨h1, h2, by omega, hd⟩, by unfold dn at hn ⊢; omega⟩
    · by_cases hm : m + 1 < 12
      · have hg := ml_ge (1900 + y) hm
        refine ⟨y, m + 1, 1, ⟨h1, hm, by omega, by omega⟩, ?_⟩
        unfold dn at hn ⊢
        rw [md_step]
        omega
      · have hm11 : m = 11 := by omega
        subst hm11
        have h12 := md_twelve (1900 + y)
        rw [md_step] at h12
        by_cases hy : y + 1 < 200
        · refine ⟨y + 1, 0, 1, ⟨hy, by omega, by omega, by have := ml_ge (1900 + (y + 1)) (m := 0) (by omega); omega⟩, ?_⟩
          unfold dn at hn ⊢
          rw [yd_step]
          have : md (1900 + (y + 1)) 0 = 0 := rfl
          omega
        · have hy199 : y = 199 := by omega
          subst hy199
          have := yd_step 199
          rw [yd_all] at this
          unfold dn at hn
          omega
theorem ymd_spec {n : Nat} (h : n ≤ 73048) : Dt (ymdO n).1 (ymdO n).2.1 (ymdO n).2.2 ∧ dn (ymdO n).1 (ymdO n).2.1 (ymdO n).2.2 = n := by
  obtain ⟨y, m, d, h1, h2⟩ := day_date n h
  rw [ymd_eq h1 h2]
  exact ⟨h1, h2⟩
/-- A value of a type. -/
def kd (z v : Int) : Prop := (z = 0 → inM v) ∧ (z = 1 → v = 0 ∨ v = 1) ∧ (z = 2 → 0 ≤ v ∧ v ≤ 73048)
theorem kd0 {v : Int} (h : inM v) : kd 0 v := ⟨fun _ => h, by omega, by omega⟩
theorem kd1 {v : Int} (h : v = 0 ∨ v = 1) : kd 1 v := ⟨by omega, fun _ => h, by omega⟩
theorem kd2 {v : Int} (h : 0 ≤ v ∧ v ≤ 73048) : kd 2 v := ⟨by omega, by omega, fun _ => h⟩
theorem tys_at : ∀ {kids : List Co} {d : Int} {l : List Int}, tysF d kids = some l → l.length = kids.length ∧ ∀ (i : Nat) (c : Co), kids[i]? = some c → ∃ x, l[i]? = some x ∧ typF d c = (x, true)
  | [], d, l, h => by rw [tysF] at h; cases h; simp
  | c :: r, d, l, h => by
    rw [tysF] at h
    cases hc : typF d c with
    | mk z b =>
    rw [hc] at h
    cases b with
    | false => cases h
    | true =>
      cases hr : tysF d r with
      | none => rw [hr] at h; cases h
      | some q =>
        rw [hr] at h
        simp only [cond_true, Option.map_some, Option.some.injEq] at h
        subst h
        obtain ⟨h1, h2⟩ := tys_at hr
        refine ⟨by simp [h1], fun i c' hi => ?_⟩
        cases i with
        | zero => simp at hi; subst hi; exact ⟨z, rfl, hc⟩
        | succ i => simpa using h2 i c' (by simpa using hi)
theorem rk_ob : ∀ n : Fin 32, (match rkP ((n : Nat) : Int) with | some (ks, z) => z == 4 || (((n : Nat) ≤ 5 || needP ((n : Nat) : Int) ≤ ks.length) && ks.all fun x => x != 4) | none => true) = true := by decide
theorem op_small {op z : Int} {ks : List Int} (h : rkP op = some (ks, z)) : 0 ≤ op ∧ op ≤ 31 := by
  by_cases ho : op < 0 ∨ 31 < op
  · rw [(rk_out ho).1] at h; cases h
  · omega
theorem end_shape {op z : Int} {l : List Int} (h : endF op l = (z, true)) : (op = 22 ∧ z ≠ 4 ∧ l = [1, z, z]) ∨ rkP op = some (l, z) := by
  unfold endF at h
  cases h22 : (op == 22) with
  | true =>
    rw [h22, cond_true] at h
    simp only [Prod.mk.injEq] at h
    obtain ⟨y, rfl, hy⟩ := if_shape h.2
    have e : y = z := h.1
    subst e
    exact .inl ⟨eq_of_beq h22, hy, rfl⟩
  | false =>
    rw [h22, cond_false] at h
    cases hr : rkP op with
    | none => rw [hr] at h; cases h
    | some q =>
      obtain ⟨ks, t⟩ := q
      rw [hr] at h
      simp only at h
      cases hlen : ((ks.length : Int) != (l.length : Int)) with
      | true => rw [hlen] at h; cases h
      | false =>
        rw [hlen, cond_false] at h
        cases hq : (ks == l) with
        | false => rw [hq] at h; cases h
        | true =>
          rw [hq] at h
          cases h
          have := eq_of_beq hq
          subst this
          exact .inr rfl
theorem obL_of : ∀ {l : List Co}, (∀ c ∈ l, obP c = true) → obL l = true
  | [], _ => rfl
  | c :: r, h => by rw [obL, h c (by simp), obL_of (fun x hx => h x (by simp [hx]))]; rfl
theorem ob_right (c : Co) : ∀ d z, typF d c = (z, true) → z ≠ 4 → obP c = true := by
  induction c using Co.ind with
  | h op k t kids ih =>
    intro d z ht hz
    obtain ⟨-, -, -, l, hl, he⟩ := typ_parts.1 ht
    obtain ⟨hlen, hat⟩ := tys_at hl
    have kidsOb : (∀ x ∈ l, x ≠ 4) → obL kids = true := fun hx => obL_of fun c hc => by
      obtain ⟨i, hi⟩ := List.getElem?_of_mem hc
      obtain ⟨x, h1, h2⟩ := hat i c hi
      exact ih c hc _ _ h2 (hx x (List.mem_of_getElem? h1))
    rw [obP]
    rcases end_shape he with ⟨rfl, h4, rfl⟩ | hr
    · have h3 : kids.length = 3 := by simpa using hlen.symm
      rw [kidsOb (by simp; omega), decide_eq_true (by rw [h3]; decide)]
      rfl
    · obtain ⟨o0, o1⟩ := op_small hr
      have hn : ((op.toNat : Nat) : Int) = op := by omega
      have := rk_ob ⟨op.toNat, by omega⟩
      simp only [hn, hr, Bool.or_eq_true, Bool.and_eq_true, beq_iff_eq, decide_eq_true_eq, List.all_eq_true, bne_iff_ne] at this
      rcases this with h | ⟨h1, h2⟩
      · exact absurd h hz
      · have hob := kidsOb h2
        rcases h1 with h5 | h5
        · have : op = 0 ∨ (op == 1 || op == 2 || op == 3 || op == 4 || op == 5) = true := by
            by_cases e : op = 0
            · exact .inl e
            · refine .inr ?_
              simp only [Bool.or_eq_true, beq_iff_eq]
              omega
          rcases this with e | e
          · subst e; cases hr
          · rw [e]; rfl
        · rw [hob, decide_eq_true (by omega)]
          simp
/-- What right feeds tell is within limits. -/
def RF (fs : Fs) : Prop := ∀ f ∈ fs, ∀ q ∈ f.2, inM q.2
theorem stp_in {day : Int} : ∀ {l : List (Int × Int)} {r : Option Int} {v : Int}, (∀ q ∈ l, inM q.2) → (∀ x, r = some x → inM x) → stpP day r l = some v → inM v
  | [], r, v, _, hr, h => hr v h
  | q :: l, r, v, hl, hr, h => by
    unfold stpP at h
    rw [List.foldl_cons] at h
    refine stp_in (l := l) (fun x hx => hl x (by simp [hx])) ?_ h
    intro x hx
    cases hd : decide (q.1 ≤ day) with
    | true => rw [hd] at hx; cases hx; exact hl q (by simp)
    | false => rw [hd] at hx; exact hr x hx
theorem fed_in {name : List UInt8} {day v : Int} : ∀ {fs : Fs}, RF fs → fedP name day fs = some v → inM v
  | [], _, h => by cases h
  | f :: r, hf, h => by
    rw [fedP] at h
    cases hd : decide (f.1 ≠ name) with
    | true => rw [hd] at h; exact fed_in (fs := r) (fun g hg => hf g (by simp [hg])) h
    | false => rw [hd] at h; exact stp_in (hf f (by simp)) (by simp) h
theorem inM_clamp (a : Int) : inM (clampI a) := ⟨clampI_ge a, clampI_le a⟩
theorem inM_div (a b : Int) : inM (divI a b) := by
  unfold divI
  split
  · exact ⟨by omega, by omega⟩
  · exact ⟨ratI_ge _ _ _, ratI_le _ _ _⟩
theorem trP_01 (b : Bool) : trP b = 0 ∨ trP b = 1 := by cases b <;> simp [trP]
theorem rk_two : ∀ n : Fin 32, (match rkP ((n : Nat) : Int) with | some (_, z) => ((n : Nat) ≤ 6) || (n : Nat) == 14 || (n : Nat) == 15 || (n : Nat) == 16 || z == 4 || (bif (n : Nat) ≤ 10 || (n : Nat) == 20 || (n : Nat) == 21 then z == 0 else bif (n : Nat) == 18 || (n : Nat) == 19 then z == 2 else z == 1) | none => true) = true := by decide
/-- What two come to is of its kind. -/
theorem two_kd {op z : Int} {ks : List Int} (h : rkP op = some (ks, z)) (hz : z ≠ 4) (h6 : 6 < op) (h14 : op ≠ 14) (h15 : op ≠ 15) (h16 : op ≠ 16) (a b : Int) : kd z (twoP op a b) := by
  obtain ⟨o0, o1⟩ := op_small h
  have hn : ((op.toNat : Nat) : Int) = op := by omega
  have hr := rk_two ⟨op.toNat, by omega⟩
  simp only [hn, h] at hr
  have e6 : (decide (op.toNat ≤ 6)) = false := decide_eq_false (by omega)
  have e14 : (op.toNat == 14) = false := by rw [beq_eq_false_iff_ne]; omega
  have e15 : (op.toNat == 15) = false := by rw [beq_eq_false_iff_ne]; omega
  have e16 : (op.toNat == 16) = false := by rw [beq_eq_false_iff_ne]; omega
  have ez : (z == 4) = false := by rw [beq_eq_false_iff_ne]; exact hz
  rw [e6, e14, e15, e16, ez] at hr
  simp only [Bool.or_self, Bool.false_or] at hr
  have hne : ∀ c : Int, op ≠ c → (op == c) = false := fun c hc => by rw [beq_eq_false_iff_ne]; exact hc
  by_cases c1 : op.toNat ≤ 10 ∨ op.toNat = 20 ∨ op.toNat = 21
  · have e : (decide (op.toNat ≤ 10) || op.toNat == 20 || op.toNat == 21) = true := by
      simp only [Bool.or_eq_true, decide_eq_true_eq, beq_iff_eq]; omega
    rw [e, cond_true] at hr
    have hz0 := eq_of_beq hr
    subst hz0
    have : op = 7 ∨ op = 8 ∨ op = 9 ∨ op = 10 ∨ op = 20 ∨ op = 21 := by omega
    rcases this with rfl | rfl | rfl | rfl | rfl | rfl
    · exact kd0 (inM_clamp _)
    · exact kd0 (inM_clamp _)
    · exact kd0 (inM_mul _ _)
    · exact kd0 (inM_div _ _)
    · exact kd0 (show inM (shareV ((clampD b : Int) - (clampD a : Int)) 365) from inM_div _ _)
    · exact kd0 (show inM (y30I a b) from by unfold y30I shareV; exact inM_div _ _)
  · have e : (decide (op.toNat ≤ 10) || op.toNat == 20 || op.toNat == 21) = false := by
      simp only [Bool.or_eq_false_iff, decide_eq_false_iff_not, beq_eq_false_iff_ne]; omega
    rw [e, cond_false] at hr
    by_cases c2 : op.toNat = 18 ∨ op.toNat = 19
    · have e2 : (op.toNat == 18 || op.toNat == 19) = true := by simp only [Bool.or_eq_true, beq_iff_eq]; omega
      rw [e2, cond_true] at hr
      have hz0 := eq_of_beq hr
      subst hz0
      have : op = 18 ∨ op = 19 := by omega
      rcases this with rfl | rfl
      · refine kd2 ?_
        show 0 ≤ ((plusV a (whoI b) : Nat) : Int) ∧ ((plusV a (whoI b) : Nat) : Int) ≤ 73048
        have : plusV a (whoI b) ≤ 73048 := clampD_le _
        omega
      · refine kd2 ?_
        show 0 ≤ monI a (whoI b) ∧ monI a (whoI b) ≤ 73048
        unfold monI
        have := monV_le _ _ _ (whoI b) (ymd_spec (clampD_le a)).1
        omega
    · have e2 : (op.toNat == 18 || op.toNat == 19) = false := by simp only [Bool.or_eq_false_iff, beq_eq_false_iff_ne]; omega
      rw [e2, cond_false] at hr
      have hz0 := eq_of_beq hr
      subst hz0
      have : op = 11 ∨ op = 12 ∨ op = 13 ∨ op = 17 ∨ (op ≠ 11 ∧ op ≠ 12 ∧ op ≠ 13 ∧ op ≠ 17) := by omega
      rcases this with rfl | rfl | rfl | rfl | hx
      · exact kd1 (trP_01 _)
      · exact kd1 (trP_01 _)
      · exact kd1 (trP_01 _)
      · exact kd1 (trP_01 _)
      · exfalso
        have : op = 22 ∨ op = 23 ∨ op = 24 ∨ op = 25 ∨ op = 26 ∨ op = 27 ∨ op = 28 ∨ op = 29 ∨ op = 30 ∨ op = 31 := by omega
        rcases this with rfl | rfl | rfl | rfl | rfl | rfl | rfl | rfl | rfl | rfl <;> simp [rkP] at h
theorem rk_leaf : rkP 1 = some ([], 0) ∧ rkP 2 = some ([], 1) ∧ rkP 3 = some ([], 2) ∧ rkP 4 = some ([], 0) ∧ rkP 5 = some ([], 2) ∧ rkP 6 = some ([0], 0) ∧ rkP 14 = some ([1], 1) ∧ rkP 15 = some ([1, 1], 1) ∧ rkP 16 = some ([1, 1], 1) := by decide
theorem val_opt {fs : Fs} {day : Int} {kids : List Co} {i : Nat} {v : Int} (h : (valL fs day kids).getD i none = some v) : ∃ c, kids[i]? = some c ∧ valP fs day c = some v := by
  have len : ∀ l : List Co, (valL fs day l).length = l.length := by
    intro l
    induction l with
    | nil => rw [valL]; rfl
    | cons c r ih => rw [valL]; simp [ih]
  cases hc : kids[i]? with
  | none =>
    have hl : kids.length ≤ i := by simpa using hc
    rw [List.getD_eq_getElem?_getD, List.getElem?_eq_none (by rw [len]; exact hl)] at h
    cases h
  | some c => exact ⟨c, rfl, by rw [← val_get fs day hc]; exact h⟩
/-- An observable's value is of its kind. -/
theorem val_kd {fs : Fs} {day : Int} (hF : RF fs) (c : Co) : ∀ d z v, typF d c = (z, true) → z ≠ 4 → valP fs day c = some v → kd z v := by
  induction c using Co.ind with
  | h op k t kids ih =>
    intro d z v ht hz hv
    obtain ⟨hown, -, -, l, hl, he⟩ := typ_parts.1 ht
    obtain ⟨hlen, hat⟩ := tys_at hl
    obtain ⟨r1, r2, r3, r4, r5, r6, r14, r15, r16⟩ := rk_leaf
    have kid : ∀ (i : Nat) (x w : Int), l[i]? = some x → x ≠ 4 → (valL fs day kids).getD i none = some w → kd x w := by
      intro i x w hx hx4 hw
      obtain ⟨c, hc, hcv⟩ := val_opt hw
      obtain ⟨x', hx', htc⟩ := hat i c hc
      rw [hx] at hx'
      cases hx'
      exact ih c (List.mem_of_getElem? hc) _ _ _ htc hx4 hcv
    rw [valP] at hv
    unfold valC at hv
    unfold ownC ownN at hown
    rcases end_shape he with ⟨rfl, h4, rfl⟩ | hr
    · simp only [show ((22 : Int) == 1 || (22 : Int) == 2 || (22 : Int) == 3) = false by decide, show ((22 : Int) == 4) = false by decide, show ((22 : Int) == 5) = false by decide, show ((22 : Int) == 6) = false by decide, show ((22 : Int) == 14) = false by decide, show ((22 : Int) == 15) = false by decide, show ((22 : Int) == 16) = false by decide, show ((22 : Int) == 22) = true by decide, cond_false, cond_true] at hv
      cases h0 : (valL fs day kids).getD 0 none with
      | none => rw [h0] at hv; cases hv
      | some a =>
        rw [h0] at hv
        simp only at hv
        cases ha : (a == 1) with
        | true => rw [ha, cond_true] at hv; exact kid 1 z v rfl h4 hv
        | false => rw [ha, cond_false] at hv; exact kid 2 z v rfl h4 hv
    · by_cases e1 : op = 1
      · subst e1
        rw [r1] at hr; cases hr; cases hv
        simp [inW] at hown
        exact kd0 ⟨by omega, by omega⟩
      by_cases e2 : op = 2
      · subst e2
        rw [r2] at hr; cases hr; cases hv
        simp [inW] at hown
        exact kd1 (by omega)
      by_cases e3 : op = 3
      · subst e3
        rw [r3] at hr; cases hr; cases hv
        simp [inW] at hown
        exact kd2 (by omega)
      have hn : ∀ c : Int, op ≠ c → (op == c) = false := fun c hc => by rw [beq_eq_false_iff_ne]; exact hc
      simp only [hn 1 e1, hn 2 e2, hn 3 e3, Bool.or_self, cond_false] at hv
      by_cases e4 : op = 4
      · subst e4
        rw [r4] at hr; cases hr
        exact kd0 (fed_in hF hv)
      by_cases e5 : op = 5
      · subst e5
        rw [r5] at hr; cases hr
        simp only [hn 4 e4, beq_self_eq_true, cond_false, cond_true, Option.some.injEq] at hv
        have := clampD_le (IntKind.i64.wrap (day - k))
        exact kd2 (by omega)
      simp only [hn 4 e4, hn 5 e5, cond_false] at hv
      cases h0 : (valL fs day kids).getD 0 none with
      | none => rw [h0] at hv; cases hv
      | some a =>
      rw [h0] at hv
      simp only at hv
      by_cases e6 : op = 6
      · subst e6
        rw [r6] at hr; cases hr; cases hv
        exact kd0 (inM_neg a)
      by_cases e14 : op = 14
      · subst e14
        rw [r14] at hr; cases hr
        simp only [hn 6 e6, beq_self_eq_true, cond_false, cond_true, Option.some.injEq] at hv
        have ha := (kid 0 1 a rfl (by omega) h0).2.1 rfl
        have hw : IntKind.i64.wrap (1 - a) = 1 - a := IntWalk.i64_in _ ⟨by omega, by omega⟩
        rw [hw] at hv
        exact kd1 (by omega)
      simp only [hn 6 e6, hn 14 e14, cond_false] at hv
      by_cases e15 : op = 15
      · subst e15
        rw [r15] at hr; cases hr
        simp only [beq_self_eq_true, cond_true] at hv
        cases ha : (a == 0) with
        | true => rw [ha] at hv; cases hv; exact kd1 (.inl rfl)
        | false => rw [ha] at hv; exact kid 1 1 v rfl (by omega) hv
      by_cases e16 : op = 16
      · subst e16
        rw [r16] at hr; cases hr
        simp only [hn 15 e15, beq_self_eq_true, cond_false, cond_true] at hv
        cases ha : (a == 1) with
        | true => rw [ha] at hv; cases hv; exact kd1 (.inr rfl)
        | false => rw [ha] at hv; exact kid 1 1 v rfl (by omega) hv
      have e22 : op ≠ 22 := by rintro rfl; simp [rkP] at hr
      simp only [hn 15 e15, hn 16 e16, hn 22 e22, cond_false] at hv
      cases h1 : (valL fs day kids).getD 1 none with
      | none => rw [h1] at hv; cases hv
      | some b =>
        rw [h1] at hv
        cases hv
        have hsm := op_small hr
        have e0 : op ≠ 0 := by rintro rfl; simp [rkP] at hr
        exact two_kd hr hz (by omega) e14 e15 e16 a b
end Go.Proofs.YthnojedlndblbaaGreatDoor
