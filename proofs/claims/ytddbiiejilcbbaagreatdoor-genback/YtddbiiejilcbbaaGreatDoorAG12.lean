/- texts put together: VTwo VFed VVal NtM VSrch NtM2 NtM3 -/
import Derived.Test.YtddbiiejilcbbaaGreatDoorAG11
import Derived.Test.YtddbiiejilcbbaaGreatDoorAG2
namespace Go.Proofs.YtddbiiejilcbbaaGreatDoor
open Go Go.RowKit

theorem belQ {w w' : World} {e : Ending} {v : Value} (h : e = .returned v ∧ w' = w) : e = .returned v ∧ Below w.heap.size w w' := ⟨h.1, h.2 ▸ Below.refl _ _⟩
/-- The date of a day. -/
noncomputable def ymdO (n : Nat) : Nat × Nat × Nat := Classical.epsilon fun q : Nat × Nat × Nat => Dt q.1 q.2.1 q.2.2 ∧ dn q.1 q.2.1 q.2.2 = n
theorem ymd_eq {y m d n : Nat} (h : Dt y m d) (hn : dn y m d = n) : ymdO n = (y, m, d) := by
  have hs : Dt (ymdO n).1 (ymdO n).2.1 (ymdO n).2.2 ∧ dn (ymdO n).1 (ymdO n).2.1 (ymdO n).2.2 = n := Classical.epsilon_spec (p := fun q : Nat × Nat × Nat => Dt q.1 q.2.1 q.2.2 ∧ dn q.1 q.2.1 q.2.2 = n) ⟨(y, m, d), h, hn⟩
  obtain ⟨h1, h2, h3⟩ := dn_inj hs.1 h (hs.2.trans hn.symm)
  exact Prod.ext h1 (Prod.ext h2 h3)
noncomputable def monI (day n : Int) : Int := ((monV (ymdO (clampD day)).1 (ymdO (clampD day)).2.1 (ymdO (clampD day)).2.2 n : Nat) : Int)
noncomputable def y30I (a b : Int) : Int := shareV (sd (ymdO (clampD b)).1 (ymdO (clampD b)).2.1 (ymdO (clampD b)).2.2 - sd (ymdO (clampD a)).1 (ymdO (clampD a)).2.1 (ymdO (clampD a)).2.2) 360
def trP (b : Bool) : Int := bif b then 1 else 0
def whoI (b : Int) : Int := (clampI b).tdiv 1000000

noncomputable def twoP (op a b : Int) : Int :=
  bif op == 7 then clampI (clampI a + clampI b) else bif op == 8 then clampI (clampI a - clampI b) else bif op == 9 then mulI a b else bif op == 10 then divI a b else bif op == 11 || op == 17 then trP (decide (a < b)) else bif op == 12 then trP (decide (a ≤ b)) else bif op == 13 then trP (a == b) else bif op == 18 then ((plusV a (whoI b) : Nat) : Int) else bif op == 19 then monI a (whoI b) else bif op == 20 then shareV ((clampD b : Int) - (clampD a : Int)) 365 else y30I a b
end Go.Proofs.YtddbiiejilcbbaaGreatDoor
namespace Go.Proofs.YtddbiiejilcbbaaGreatDoor
open Go Go.RowKit

/-- The last stamp of a day up to that one. -/
def stpP (day : Int) (r : Option Int) (l : List (Int × Int)) : Option Int := l.foldl (fun r q => bif decide (q.1 ≤ day) then some q.2 else r) r
def fedP (name : List UInt8) (day : Int) : List (List UInt8 × List (Int × Int)) → Option Int
  | [] => none
  | f :: r => bif decide (f.1 ≠ name) then fedP name day r else stpP day none f.2
theorem drop_any {α : Type} {l : List α} {i : Nat} {u : α} (hu : l[i]? = some u) : l.drop i = u :: l.drop (i + 1) := by
  obtain ⟨h1, h2⟩ := List.getElem?_eq_some_iff.1 hu
  rw [List.drop_eq_getElem_cons h1, h2]
end Go.Proofs.YtddbiiejilcbbaaGreatDoor
namespace Go.Proofs.YtddbiiejilcbbaaGreatDoor
open Go Go.RowKit

noncomputable def valC (fs : List (List UInt8 × List (Int × Int))) (day op k : Int) (t : List UInt8) (vs : List (Option Int)) : Option Int :=
  bif op == 1 || op == 2 || op == 3 then some k else bif op == 4 then fedP t (IntKind.i64.wrap (day - k)) fs else bif op == 5 then some ((clampD (IntKind.i64.wrap (day - k)) : Nat) : Int) else
  match vs.getD 0 none with
  | none => none
  | some a =>
    bif op == 6 then some (- clampI a) else bif op == 14 then some (IntKind.i64.wrap (1 - a)) else bif op == 15 then (bif a == 0 then some 0 else vs.getD 1 none) else bif op == 16 then (bif a == 1 then some 1 else vs.getD 1 none) else bif op == 22 then (bif a == 1 then vs.getD 1 none else vs.getD 2 none) else
    match vs.getD 1 none with
    | none => none
    | some b => some (twoP op a b)
mutual
/-- The value of an observable; none: it is not known. -/
noncomputable def valP (fs : List (List UInt8 × List (Int × Int))) (day : Int) : Co → Option Int
  | .mk op k t kids => valC fs day op k t (valL fs day kids)
noncomputable def valL (fs : List (List UInt8 × List (Int × Int))) (day : Int) : List Co → List (Option Int)
  | [] => []
  | c :: r => valP fs day c :: valL fs day r
end
theorem val_get (fs : List (List UInt8 × List (Int × Int))) (day : Int) : ∀ {l : List Co} {i : Nat} {c : Co}, l[i]? = some c → (valL fs day l).getD i none = valP fs day c
  | [], i, c, h => by simp at h
  | y :: r, 0, c, h => by simp at h; subst h; rw [valL]; rfl
  | y :: r, i + 1, c, h => by rw [valL]; simp only [List.getD_cons_succ]; exact val_get fs day (by simpa using h)
def needP (op : Int) : Nat := bif op == 6 || op == 14 then 1 else bif op == 22 then 3 else 2
mutual
/-- Has it the kids that it asks? -/
def obP : Co → Bool
  | .mk op _ _ kids => (op == 1 || op == 2 || op == 3 || op == 4 || op == 5) || (decide (needP op ≤ kids.length) && obL kids)
def obL : List Co → Bool
  | [] => true
  | c :: r => obP c && obL r
end
end Go.Proofs.YtddbiiejilcbbaaGreatDoor
namespace Go.Proofs.YtddbiiejilcbbaaGreatDoor
open Go

abbrev Fs := List (List UInt8 × List (Int × Int))
/-- What waits (places and factors), what is transferred (currencies and amounts). -/
abbrev R2 := List (Int × Int) × List (List UInt8 × Int)
def r0 : R2 := ([], [])
def R2.cat (a b : R2) : R2 := (a.1 ++ b.1, a.2 ++ b.2)
def wt (p f : Int) : R2 := ([(p, f)], [])
def brA (br : List (Int → R2)) (i : Nat) (f : Int) : R2 := (br.getD i fun _ => r0) f
noncomputable def acqC (day op k : Int) (t : List UInt8) (vs : List (Option Int)) (br : List (Int → R2)) (p f : Int) : R2 :=
  bif op == 24 then (bif f == 0 then r0 else ([], [(t, f)]))
  else bif op == 25 then brA br 0 (- clampI f)
  else bif op == 27 then R2.cat (brA br 0 f) (brA br 1 f)
  else bif op == 26 then (match vs.getD 0 none with | some n => brA br 1 (mulI f n) | none => wt p f)
  else bif op == 28 then (match vs.getD 0 none with | some b => brA br (2 - b).toNat f | none => wt p f)
  else bif op == 29 then (bif decide (k ≤ day) then brA br 0 f else wt p f)
  else bif op == 30 then (bif decide (k < day) then r0 else match vs.getD 0 none with | some b => (bif b == 1 then brA br 1 f else wt p f) | none => wt p f)
  else bif op == 31 then (bif decide (k < day) then brA br 1 f else wt p f)
  else r0
mutual
noncomputable def acq (fs : Fs) (day : Int) : Co → Int → Int → R2
  | .mk op k t kids, p, f => acqC day op k t (valL fs day kids) (acqL fs day kids (p + 1)) p f
noncomputable def acqL (fs : Fs) (day : Int) : List Co → Int → List (Int → R2)
  | [], _ => []
  | c :: r, p => (fun f => acq fs day c p f) :: acqL fs day r (p + szC c)
end
mutual
/-- The term at a place. -/
def termP : Co → Int → Option Co
  | .mk op k t kids, q => bif q == 0 then some (.mk op k t kids) else termL kids 1 q
def termL : List Co → Int → Int → Option Co
  | [], _, _ => none
  | c :: r, s, q => bif decide (s ≤ q) && decide (q < s + szC c) then termP c (q - s) else termL r (s + szC c) q
end
theorem szL_cut : ∀ {l : List Co} {i : Nat} {c : Co}, l[i]? = some c → szL (l.take i) + szC c ≤ szL l ∧ 0 ≤ szL (l.take i)
  | [], i, c, h => by simp at h
  | y :: r, 0, c, h => by simp at h; subst h; have := szL_pos r; simp only [List.take_zero, szL]; omega
  | y :: r, i + 1, c, h => by
    have := szL_cut (i := i) (show r[i]? = some c by simpa using h)
    have := szC_pos y
    simp only [List.take_succ_cons, szL]
    omega
theorem term_zero (c : Co) : termP c 0 = some c := by
  cases c with
  | mk op k t kids => rw [termP]; rfl
theorem term_get : ∀ {l : List Co} {i : Nat} {c : Co} {d : Int} (s : Int), l[i]? = some c → 0 ≤ d → d < szC c → termL l s (s + szL (l.take i) + d) = termP c d
  | [], i, c, d, s, h, _, _ => by simp at h
  | y :: r, 0, c, d, s, h, h0, h1 => by
    simp at h
    subst h
    rw [termL]
    simp only [List.take_zero, szL]
    rw [decide_eq_true (by omega), decide_eq_true (by omega)]
    simp only [Bool.and_self, cond_true]
    congr 1
    omega
  | y :: r, i + 1, c, d, s, h, h0, h1 => by
    have hr : r[i]? = some c := by simpa using h
    have hc := szL_cut hr
    have ih := term_get (l := r) (i := i) (c := c) (d := d) (s + szC y) hr h0 h1
    rw [termL]
    simp only [List.take_succ_cons, szL]
    have e : decide (s + (szC y + szL (r.take i)) + d < s + szC y) = false := decide_eq_false (by omega)
    rw [e, Bool.and_false, cond_false, ← ih]
    congr 1
    omega
theorem term_kid {op k : Int} {t : List UInt8} {kids : List Co} {i : Nat} {c : Co} {d : Int} (h : kids[i]? = some c) (h0 : 0 ≤ d) (h1 : d < szC c) : termP (.mk op k t kids) (1 + szL (kids.take i) + d) = termP c d := by
  have hc := szL_cut h
  rw [termP, show (1 + szL (kids.take i) + d == 0) = false by rw [beq_eq_false_iff_ne]; omega, cond_false, term_get 1 h h0 h1]
end Go.Proofs.YtddbiiejilcbbaaGreatDoor
namespace Go.Proofs.YtddbiiejilcbbaaGreatDoor
open Go

end Go.Proofs.YtddbiiejilcbbaaGreatDoor
namespace Go.Proofs.YtddbiiejilcbbaaGreatDoor
open Go

/-- What a step does with one that waits. -/
noncomputable def stepX (fs : Fs) (day : Int) (lab : List UInt8) (which : Int) : Co → Int → Int → R2
  | .mk op k s kids, p, f => bif (op == 31 && decide (lab ≠ []) && decide (s = lab)) && decide (day ≤ k) then brA (acqL fs day kids (p + 1)) (which - 1).toNat f else acq fs day (.mk op k s kids) p f
noncomputable def stepP (fs : Fs) (day : Int) (lab : List UInt8) (which : Int) (c : Co) : List (Int × Int) → R2
  | [] => r0
  | x :: r => R2.cat (match termP c x.1 with | some t => stepX fs day lab which t x.1 x.2 | none => r0) (stepP fs day lab which c r)
def inM (f : Int) : Prop := -1000000000000000 ≤ f ∧ f ≤ 1000000000000000
theorem inM_neg (f : Int) : inM (- clampI f) := by have := clampI_le f; have := clampI_ge f; unfold inM; omega
theorem inM_mul (a b : Int) : inM (mulI a b) := ⟨ratI_ge _ _ _, ratI_le _ _ _⟩
end Go.Proofs.YtddbiiejilcbbaaGreatDoor
namespace Go.Proofs.YtddbiiejilcbbaaGreatDoor
open Go

end Go.Proofs.YtddbiiejilcbbaaGreatDoor
