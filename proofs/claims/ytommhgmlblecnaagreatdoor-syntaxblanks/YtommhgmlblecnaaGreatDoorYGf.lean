/- texts put together: YSim YMod YModA YModB YModC YWhole YLaw YKid YShown7 -/
import Derived.Test.YtommhgmlblecnaaGreatDoorYGc
import Derived.Test.YtommhgmlblecnaaGreatDoorYGb
import Derived.Test.YtommhgmlblecnaaGreatDoorYGe
namespace Go.Proofs.YtommhgmlblecnaaGreatDoor
open Go Go.RowKit

/-- A fault that is there stays. -/
def Kpt (s t : RS) : Prop := s.wh ≠ 0 → t.wh = s.wh ∧ t.p = s.p
theorem Kpt.refl (s : RS) : Kpt s s := fun _ => ⟨rfl, rfl⟩
theorem Kpt.trans {a b c : RS} (h : Kpt a b) (k : Kpt b c) : Kpt a c := fun hw => by
  have h1 := h hw
  have h2 := k (by rw [h1.1]; exact hw)
  exact ⟨h2.1.trans h1.1, h2.2.trans h1.2⟩
theorem Kpt.zero {a b : RS} (h : Kpt a b) (hb : b.wh = 0) : a.wh = 0 := by
  by_cases h0 : a.wh = 0
  · exact h0
  · have := (h h0).1
    rw [hb] at this
    exact this.symm
theorem Kpt.bad {a b : RS} (h : Kpt a b) (ha : a.wh = 75) : b.wh = 75 := (h (by rw [ha]; decide)).1.trans ha
section
variable (ts : List Tk)
theorem kp_fail (e a : Int) (s : RS) : Kpt s (rFail ts e a s) := fun h => by
  have : (s.wh == 0) = false := by simpa using h
  simp [rFail, this]
theorem fail_wh {e a : Int} {s : RS} (he : e ≠ 0) : (rFail ts e a s).wh ≠ 0 := by
  unfold rFail
  cases h : s.wh == 0 with
  | true => exact he
  | false => simpa using h
theorem kp_next (s : RS) : Kpt s (rNext s) := fun _ => ⟨rfl, rfl⟩
theorem kp_take (s : RS) : Kpt s (rTake ts s) := by unfold rTake; cases (tkAt ts s).k != 0 <;> exact fun _ => ⟨rfl, rfl⟩
theorem kp_want (x : List UInt8) (s : RS) : Kpt s (rWant ts x s) := by
  unfold rWant
  cases (tkAt ts s).is [x] with
  | false => exact kp_fail ts _ _ s
  | true => exact kp_next s
theorem kp_kind (k : Int) (s : RS) : Kpt s (rKind ts k s) := by
  unfold rKind
  cases (tkAt ts s).k != k with
  | false => exact kp_take ts s
  | true => exact (kp_take ts s).trans (kp_fail ts _ _ _)
theorem kp_beg (s : RS) : Kpt s (rBeg ts s) := by
  unfold rBeg
  cases (tkAt ts s).begins with
  | false => exact kp_fail ts _ _ s
  | true => exact Kpt.refl s
theorem kp_nest (n : Nat) (p : Int) (s : RS) : Kpt s (nestS ts n p s) := by
  unfold nestS
  cases decide (300 < n) with
  | true => exact kp_fail ts _ _ s
  | false => exact Kpt.refl s
theorem kp_made (d p : Int) (s : RS) : Kpt s (madeS ts d p s) := by
  unfold madeS
  cases decide (100 < d) with
  | true => exact kp_fail ts _ _ s
  | false => exact Kpt.refl s
/-- A reader keeps a fault. -/
def KpF (op : RS → TD × RS) : Prop := ∀ s, Kpt s (op s).2
variable {op : RS → TD × RS} {ex : RS → TD × RS}
theorem kp_bin (h : KpF op) (l : TD) (s : RS) : Kpt s (binP ts op l s).2 := ((kp_take ts s).trans (h _)).trans (kp_made ts _ _ _)
theorem kp_chR (h : KpF op) (ws : List (List UInt8)) : ∀ (k : Nat) (l : TD) (s : RS), Kpt s (chR ts op ws k l s).2
  | 0, _, s => Kpt.refl s
  | k + 1, l, s => by
    unfold chR
    cases (tkAt ts s).is ws with
    | false => exact Kpt.refl s
    | true => exact (kp_bin ts h l s).trans (kp_chR h ws k _ _)
theorem kp_chain (h : KpF op) (ws : List (List UInt8)) : KpF (chainP ts op ws) := fun s => (h s).trans (kp_chR ts h ws _ _ _)
theorem kp_bw {op : Nat → RS → TD × RS} (h : ∀ n, KpF (op n)) (x : List UInt8) : ∀ f n, KpF (bwP ts op x f n)
  | 0, n => h n
  | f + 1, n => fun s => by
    unfold bwP
    cases (tkAt ts s).is [x] with
    | false => exact h n s
    | true => exact (((kp_next s).trans (kp_nest ts _ _ _)).trans (kp_bw h x f (n + 1) _)).trans (kp_made ts _ _ _)
def argS (l : List TD) (s : RS) : RS := bif l.length == 8 then rFail ts 76 (tkAt ts s).a (rBeg ts s) else rBeg ts s
theorem argR_eq (ex : RS → TD × RS) (k : Nat) (l : List TD) (s : RS) : argR ts ex (k + 1) l s = bif (tkAt ts (ex (argS ts l s)).2).is [[44]] then argR ts ex k (l ++ [(ex (argS ts l s)).1]) (rNext (ex (argS ts l s)).2) else (l ++ [(ex (argS ts l s)).1], (ex (argS ts l s)).2) := rfl
theorem kp_argS (l : List TD) (s : RS) : Kpt s (argS ts l s) := by
  unfold argS
  cases l.length == 8 with
  | true => exact (kp_beg ts s).trans (kp_fail ts _ _ _)
  | false => exact kp_beg ts s
theorem kp_argR (h : KpF ex) : ∀ (k : Nat) (l : List TD) (s : RS), Kpt s (argR ts ex k l s).2
  | 0, _, s => Kpt.refl s
  | k + 1, l, s => by
    rw [argR_eq]
    have h1 := (kp_argS ts l s).trans (h _)
    cases (tkAt ts (ex (argS ts l s)).2).is [[44]] with
    | false => exact h1
    | true => exact (h1.trans (kp_next _)).trans (kp_argR h k _ _)
theorem kp_args (h : KpF ex) (s : RS) : Kpt s (argsP ts ex s).2 := (kp_argR ts h _ _ _).trans (kp_want ts _ _)
theorem kp_use (h : KpF ex) (t : Tk) : KpF (useP ts ex t) := fun s => by
  unfold useP
  cases (tkAt ts s).is [[40]] with
  | false => exact kp_made ts _ _ _
  | true => exact ((kp_next s).trans (kp_args ts h _)).trans (kp_made ts _ _ _)
theorem kp_closed (h : KpF ex) : KpF (closedP ts ex) := fun s => (h s).trans (kp_want ts _ _)
theorem kp_three (h : KpF ex) (x y : List UInt8) (s : RS) : Kpt s (three ts ex x y s).2 := ((((h s).trans (kp_want ts _ _)).trans (h _)).trans (kp_want ts _ _)).trans (h _)
theorem kp_pick (h : KpF ex) (t : Tk) : KpF (pickP ts ex t) := fun s => ((((kp_kind ts 7 s).trans (kp_want ts _ _)).trans (kp_three ts h _ _ _)).trans (kp_want ts _ _)).trans (kp_made ts _ _ _)
theorem kp_if (h : KpF ex) (t : Tk) : KpF (ifP ts ex t) := fun s => (kp_three ts h _ _ s).trans (kp_made ts _ _ _)
theorem kp_ite {c : Bool} {s : RS} {p q : TD × RS} (h1 : Kpt s p.2) (h2 : Kpt s q.2) : Kpt s (bif c then p else q).2 := by cases c; exact h2; exact h1
theorem kp_atom (h : KpF ex) : KpF (atomP ts ex) := fun s => by
  have h1 := kp_take ts s
  have hm : ∀ k x n p ks s', Kpt s s' → Kpt s (mkT ts k x n p ks s').2 := fun k x n p ks s' h => h.trans (kp_made ts _ _ _)
  unfold atomP
  exact kp_ite (hm _ _ _ _ _ _ h1) (kp_ite (hm _ _ _ _ _ _ h1) (kp_ite (hm _ _ _ _ _ _ h1) (kp_ite (h1.trans (kp_use ts h _ _)) (kp_ite (hm _ _ _ _ _ _ h1) (kp_ite (hm _ _ _ _ _ _ h1) (kp_ite (hm _ _ _ _ _ _ (h1.trans (kp_kind ts _ _))) (kp_ite (h1.trans (kp_pick ts h _ _)) (kp_ite (h1.trans (kp_closed ts h _)) (h1.trans (kp_fail ts _ _ _))))))))))
variable {en : Nat → RS → TD × RS}
theorem kp_unary (h : ∀ n, KpF (en n)) (n : Nat) : KpF (unaryP ts en n) := kp_bw ts (fun _ => kp_atom ts (h _)) _ _ _
theorem kp_prod (h : ∀ n, KpF (en n)) (n : Nat) : KpF (prodP ts en n) := kp_chain ts (kp_unary ts h n) _
theorem kp_sum (h : ∀ n, KpF (en n)) (n : Nat) : KpF (sumP ts en n) := kp_chain ts (kp_prod ts h n) _
theorem kp_rel (h : ∀ n, KpF (en n)) (n : Nat) : KpF (relP ts en n) := fun s => kp_ite ((kp_sum ts h n s).trans (kp_bin ts (kp_sum ts h n) _ _)) (kp_sum ts h n s)
theorem kp_not (h : ∀ n, KpF (en n)) (n : Nat) : KpF (notP ts en n) := kp_bw ts (kp_rel ts h) _ _ _
theorem kp_and (h : ∀ n, KpF (en n)) (n : Nat) : KpF (andP ts en n) := kp_chain ts (kp_not ts h n) _
theorem kp_or (h : ∀ n, KpF (en n)) (n : Nat) : KpF (orP ts en n) := kp_chain ts (kp_and ts h n) _
theorem kp_begS (n : Nat) (s : RS) : Kpt s (begS ts n s) := (kp_beg ts s).trans (kp_nest ts _ _ _)
theorem kp_expr : ∀ f n, KpF (exprP ts f n)
  | 0, _ => fun s => Kpt.refl s
  | f + 1, n => fun s => kp_ite (((kp_begS ts n s).trans (kp_next _)).trans (kp_if ts (kp_expr f _) _ _)) ((kp_begS ts n s).trans (kp_or ts (kp_expr f) _ _))
end
/-- Two rows, alike one by one. -/
inductive All2 {α : Type} (R : α → α → Prop) : List α → List α → Prop
  | nil : All2 R [] []
  | cons {a b : α} {l m : List α} : R a b → All2 R l m → All2 R (a :: l) (b :: m)
theorem All2.len {α : Type} {R : α → α → Prop} {l m : List α} (h : All2 R l m) : l.length = m.length := by induction h with
  | nil => rfl
  | cons _ _ ih => simp [ih]
theorem All2.snoc {α : Type} {R : α → α → Prop} {l m : List α} {a b : α} (h : All2 R l m) (hab : R a b) : All2 R (l ++ [a]) (m ++ [b]) := by induction h with
  | nil => exact .cons hab .nil
  | cons h1 _ ih => exact .cons h1 ih
/-- What may stand behind an expression. -/
def Stop (t : Tk) : Prop := t.k = 0 ∨ t.k = 1 ∧ (t.tx = [59] ∨ t.tx = [41] ∨ t.tx = [108, 101, 116])
structure TkE (PE : Int → Int → Prop) (t t' : Tk) : Prop where
  k : t.k = t'.k
  tx : t.tx = t'.tx
  n : t.n = t'.n
  a : PE t.a t'.a
/-- Two rows of tokens that are alike from 0 and from d on, up to the end of the first one. -/
structure Alike (PE : Int → Int → Prop) (ts ts' : List Tk) (d : Nat) : Prop where
  tok : ∀ i, i + 1 < ts.length → TkE PE (ts.getD i tk0) (ts'.getD (i + d) tk0)
  last : (ts.getD (ts.length - 1) tk0).k = 0
  pos : 0 < ts.length
  len : ts.length + d ≤ ts'.length
  stop : Stop (ts'.getD (ts.length - 1 + d) tk0)
structure Mt (ts : List Tk) (d : Nat) (s s' : RS) : Prop where
  w : s.wh = 0
  w' : s'.wh = 0
  i : s'.i = s.i + d
  lt : s.i < ts.length
structure DE (TE : Tr → Tr → Prop) (a b : TD) : Prop where
  d : a.d = b.d
  t : TE a.t b.t
def nostop (ws : List (List UInt8)) : Bool := !(ws.contains [59]) && !(ws.contains [41]) && !(ws.contains [108, 101, 116])
section
variable {PE : Int → Int → Prop} {TE : Tr → Tr → Prop} (hTE : ∀ k x n ks ks' p p', All2 TE ks ks' → PE p p' → TE (.mk k x n ks p) (.mk k x n ks' p')) {ts ts' : List Tk} {d : Nat} (H : Alike PE ts ts' d) {X : Prop}
theorem TkE.is {t t' : Tk} (h : TkE PE t t') (ws : List (List UInt8)) : t.is ws = t'.is ws := by unfold Tk.is; rw [h.k, h.tx]
theorem TkE.begins {t t' : Tk} (h : TkE PE t t') : t.begins = t'.begins := by unfold Tk.begins; rw [h.k, h.is]
include H in
theorem at_last {s s' : RS} (h : Mt ts d s s') : (s.i + 1 < ts.length ∧ TkE PE (tkAt ts s) (tkAt ts' s')) ∨ (s.i + 1 = ts.length ∧ (tkAt ts s).k = 0 ∧ Stop (tkAt ts' s')) := by
  have h1 := h.lt
  rcases Nat.lt_or_ge (s.i + 1) ts.length with h2 | h2
  · refine .inl ⟨h2, ?_⟩
    have := H.tok s.i h2
    unfold tkAt
    rw [h.i]
    exact this
  · have e : s.i = ts.length - 1 := by omega
    refine .inr ⟨by omega, ?_, ?_⟩
    · unfold tkAt
      rw [e]
      exact H.last
    · unfold tkAt
      rw [h.i, e]
      exact H.stop
theorem is_end {t : Tk} (h : t.k = 0) (ws : List (List UInt8)) : t.is ws = false := by unfold Tk.is; rw [h]; rfl
theorem is_stop {t : Tk} (h : Stop t) {ws : List (List UInt8)} (hn : nostop ws = true) : t.is ws = false := by
  rcases h with h | ⟨-, h⟩
  · exact is_end h ws
  · unfold nostop at hn
    simp only [Bool.and_eq_true, Bool.not_eq_true', List.contains_eq_mem, decide_eq_false_iff_not] at hn
    unfold Tk.is
    rw [Bool.and_eq_false_iff]
    refine .inr (List.any_eq_false.2 fun x hx => ?_)
    simp only [decide_eq_true_eq]
    intro e
    rw [e] at h
    rcases h with h | h | h <;> rw [h] at hx
    · exact hn.1.1 hx
    · exact hn.1.2 hx
    · exact hn.2 hx
include H in
theorem is_alike {s s' : RS} (h : Mt ts d s s') {ws : List (List UInt8)} (hn : nostop ws = true) : (tkAt ts s).is ws = (tkAt ts' s').is ws := by
  rcases at_last H h with ⟨-, h1⟩ | ⟨-, h1, h2⟩
  · exact h1.is ws
  · rw [is_end h1, is_stop h2 hn]
include H in
theorem is_true {s s' : RS} (h : Mt ts d s s') {ws : List (List UInt8)} (hw : (tkAt ts s).is ws = true) : s.i + 1 < ts.length ∧ TkE PE (tkAt ts s) (tkAt ts' s') := by
  rcases at_last H h with h1 | ⟨-, h1, -⟩
  · exact h1
  · rw [is_end h1] at hw; cases hw
theorem Mt.next {s s' : RS} (h : Mt ts d s s') (hl : s.i + 1 < ts.length) : Mt ts d (rNext s) (rNext s') := ⟨h.w, h.w', by simp only [rNext, h.i]; omega, hl⟩
include H in
theorem sim_want {s s' : RS} (h : Mt ts d s s') (x : List UInt8) (hz : (rWant ts x s).wh = 0) : Mt ts d (rWant ts x s) (rWant ts' x s') ∧ s.i + 1 = (rWant ts x s).i := by
  unfold rWant at hz ⊢
  cases hw : (tkAt ts s).is [x] with
  | false => rw [hw] at hz; exact absurd hz (fail_wh ts (by decide))
  | true =>
    obtain ⟨h1, h2⟩ := is_true H h hw
    rw [← h2.is, hw]
    exact ⟨h.next h1, rfl⟩
include H in
theorem sim_kind {s s' : RS} (h : Mt ts d s s') {k : Int} (hk : k ≠ 0) (hz : (rKind ts k s).wh = 0) : Mt ts d (rKind ts k s) (rKind ts' k s') ∧ s.i + 1 = (rKind ts k s).i ∧ TkE PE (tkAt ts s) (tkAt ts' s') ∧ (tkAt ts s).k = k := by
  unfold rKind at hz ⊢
  cases hw : (tkAt ts s).k != k with
  | true => rw [hw] at hz; exact absurd hz (fail_wh ts (by decide))
  | false =>
    have e : (tkAt ts s).k = k := by simpa using hw
    rcases at_last H h with ⟨h1, h2⟩ | ⟨-, h1, -⟩
    · rw [← h2.k, hw]
      have e1 : ((tkAt ts s).k != 0) = true := by rw [e]; simpa using hk
      have e2 : ((tkAt ts' s').k != 0) = true := by rw [← h2.k]; exact e1
      simp only [cond_false, rTake, e1, e2, cond_true]
      exact ⟨h.next h1, rfl, h2, e⟩
    · rw [h1] at e; exact absurd e.symm hk
theorem dmax_alike : ∀ {ks ks' : List TD}, All2 (DE TE) ks ks' → dep1 ks = dep1 ks' := by
  intro ks ks' h
  have : ks.map (·.d) = ks'.map (·.d) := by
    induction h with
    | nil => rfl
    | cons h1 _ ih => simp only [List.map_cons, ih, h1.d]
  unfold dep1 dmaxT
  rw [this]
theorem trees_alike : ∀ {ks ks' : List TD}, All2 (DE TE) ks ks' → All2 TE (ks.map (·.t)) (ks'.map (·.t)) := by
  intro ks ks' h
  induction h with
  | nil => exact .nil
  | cons h1 _ ih => exact .cons h1.t ih
include hTE in
theorem sim_made {s s' : RS} (h : Mt ts d s s') {k : Int} {x x' : List UInt8} {n n' : Int} {p p' : Int} {ks ks' : List TD} (hk : All2 (DE TE) ks ks') (hx : x = x') (hn : n = n') (hp : PE p p') (hz : (mkT ts k x n p ks s).2.wh = 0) : Mt ts d (mkT ts k x n p ks s).2 (mkT ts' k x' n' p' ks' s').2 ∧ (mkT ts k x n p ks s).2 = s ∧ DE TE (mkT ts k x n p ks s).1 (mkT ts' k x' n' p' ks' s').1 := by
  subst hx
  subst hn
  unfold mkT at hz ⊢
  simp only at hz ⊢
  rw [← dmax_alike hk]
  unfold madeS at hz ⊢
  cases hd : decide (100 < dep1 ks) with
  | true => rw [hd] at hz; exact absurd hz (fail_wh ts (by decide))
  | false => exact ⟨h, rfl, rfl, hTE _ _ _ _ _ _ _ (trees_alike hk) hp⟩
variable (X) in
/-- Two readers that read alike. -/
structure Sim (TE : Tr → Tr → Prop) (ts : List Tk) (d : Nat) (op op' : RS → TD × RS) : Prop where
  kp : KpF op
  kp' : KpF op'
  go : ∀ s s', Mt ts d s s' → (op s).2.wh = 0 → (X ∧ (op' s').2.wh = 75) ∨ (Mt ts d (op s).2 (op' s').2 ∧ s.i ≤ (op s).2.i ∧ DE TE (op s).1 (op' s').1)
include hTE H in
theorem sim_bin {op op' : RS → TD × RS} (h : Sim X TE ts d op op') {s s' : RS} (hM : Mt ts d s s') {ws : List (List UInt8)} (hw : (tkAt ts s).is ws = true) {l l' : TD} (hl : DE TE l l') (hz : (binP ts op l s).2.wh = 0) :
    (X ∧ (binP ts' op' l' s').2.wh = 75) ∨ (Mt ts d (binP ts op l s).2 (binP ts' op' l' s').2 ∧ s.i + 1 ≤ (binP ts op l s).2.i ∧ DE TE (binP ts op l s).1 (binP ts' op' l' s').1) := by
  obtain ⟨h1, h2⟩ := is_true H hM hw
  have hk : (tkAt ts s).k = 1 := by
    unfold Tk.is at hw
    rw [Bool.and_eq_true] at hw
    simpa using hw.1
  have e1 : rTake ts s = rNext s := by unfold rTake; rw [hk]; rfl
  have e2 : rTake ts' s' = rNext s' := by unfold rTake; rw [← h2.k, hk]; rfl
  unfold binP at hz ⊢
  rw [e1] at hz ⊢
  rw [e2]
  have hz1 := (kp_made ts _ _ _).zero hz
  rcases h.go _ _ (hM.next h1) hz1 with ⟨hX, h3⟩ | ⟨h3, h4, h5⟩
  · exact .inl ⟨hX, (kp_made ts' _ _ _).bad h3⟩
  · obtain ⟨h6, h7, h8⟩ := sim_made hTE h3 (k := 13) (x := (tkAt ts s).tx) (n := 0) (.cons hl (.cons h5 .nil)) h2.tx rfl h2.a hz
    refine .inr ⟨h6, ?_, h8⟩
    rw [h7]
    exact h4
include hTE H in
theorem sim_chR {op op' : RS → TD × RS} (h : Sim X TE ts d op op') {ws : List (List UInt8)} (hn : nostop ws = true) : ∀ (k k' : Nat) (l l' : TD) (s s' : RS), Mt ts d s s' → DE TE l l' → ts.length ≤ k + s.i → ts'.length ≤ k' + s'.i → (chR ts op ws k l s).2.wh = 0 →
    (X ∧ (chR ts' op' ws k' l' s').2.wh = 75) ∨ (Mt ts d (chR ts op ws k l s).2 (chR ts' op' ws k' l' s').2 ∧ s.i ≤ (chR ts op ws k l s).2.i ∧ DE TE (chR ts op ws k l s).1 (chR ts' op' ws k' l' s').1)
  | 0, _, _, _, s, _, hM, _, hk, _, _ => by have := hM.lt; omega
  | k + 1, 0, _, _, s, s', hM, _, _, hk', _ => by have := hM.lt; have := hM.i; have := H.len; omega
  | k + 1, k' + 1, l, l', s, s', hM, hl, hk, hk', hz => by
    unfold chR at hz ⊢
    rw [← is_alike H hM hn]
    cases hw : (tkAt ts s).is ws with
    | false => exact .inr ⟨hM, Nat.le_refl _, hl⟩
    | true =>
      rw [hw] at hz
      simp only [cond_true] at hz ⊢
      rcases sim_bin hTE H h hM hw hl ((kp_chR ts h.kp ws k _ _).zero hz) with ⟨hX, h3⟩ | ⟨h3, h4, h5⟩
      · exact .inl ⟨hX, (kp_chR ts' h.kp' ws k' _ _).bad h3⟩
      · have h6 := h3.i
        have h7 := hM.i
        rcases sim_chR h hn k k' _ _ _ _ h3 h5 (by omega) (by omega) hz with h8 | ⟨h8, h9, h10⟩
        · exact .inl h8
        · exact .inr ⟨h8, by omega, h10⟩
include hTE H in
theorem sim_chain {op op' : RS → TD × RS} (h : Sim X TE ts d op op') {ws : List (List UInt8)} (hn : nostop ws = true) : Sim X TE ts d (chainP ts op ws) (chainP ts' op' ws) := by
  refine ⟨kp_chain ts h.kp ws, kp_chain ts' h.kp' ws, fun s s' hM hz => ?_⟩
  rcases h.go s s' hM ((kp_chR ts h.kp ws _ _ _).zero hz) with ⟨hX, h3⟩ | ⟨h3, h4, h5⟩
  · exact .inl ⟨hX, (kp_chR ts' h.kp' ws _ _ _).bad h3⟩
  · rcases sim_chR hTE H h hn ts.length ts'.length _ _ _ _ h3 h5 (by omega) (by omega) hz with h8 | ⟨h8, h9, h10⟩
    · exact .inl h8
    · exact .inr ⟨h8, Nat.le_trans h4 h9, h10⟩
variable (X) in
/-- The same, with nests. -/
def SimN (TE : Tr → Tr → Prop) (ts : List Tk) (d lo lo' : Nat) (op op' : Nat → RS → TD × RS) : Prop := ∀ m m', lo ≤ m → lo' ≤ m' → m ≤ 300 → m' ≤ 300 → m ≤ m' → (m' = m ∨ X) → Sim X TE ts d (op m) (op' m')
theorem nest_ok {ts : List Tk} {m : Nat} {p : Int} {s : RS} (hz : (nestS ts m p s).wh = 0) : m ≤ 300 ∧ nestS ts m p s = s := by
  unfold nestS at hz ⊢
  cases h : decide (300 < m) with
  | true => rw [h] at hz; exact absurd hz (fail_wh ts (by decide))
  | false => exact ⟨by have := of_decide_eq_false h; omega, rfl⟩
theorem nest_bad {ts : List Tk} {m : Nat} {p : Int} {s : RS} (hm : 300 < m) (hs : s.wh = 0) : (nestS ts m p s).wh = 75 := by
  unfold nestS rFail
  rw [decide_eq_true hm, hs]
  rfl
theorem nest_good {ts : List Tk} {m : Nat} {p : Int} {s : RS} (hm : m ≤ 300) : nestS ts m p s = s := by
  unfold nestS
  rw [decide_eq_false (by omega)]
  rfl
include hTE H in
theorem sim_bw {op op' : Nat → RS → TD × RS} (hk : ∀ n, KpF (op n)) (hk' : ∀ n, KpF (op' n)) {lo lo' : Nat} (h : SimN X TE ts d lo lo' op op') {x : List UInt8} (hn : nostop [x] = true) : ∀ (f f' m m' : Nat), lo ≤ m → lo' ≤ m' → 301 ≤ f + m → 301 ≤ f' + m' → m ≤ 300 → m' ≤ 300 → m ≤ m' → (m' = m ∨ X) → Sim X TE ts d (bwP ts op x f m) (bwP ts' op' x f' m')
  | 0, _, m, m', _, _, h1, _, h3, _, _, _ => by omega
  | f + 1, 0, m, m', _, _, _, h2, _, h4, _, _ => by omega
  | f + 1, f' + 1, m, m', l1, l2, h1, h2, h3, h4, h5, h6 => by
    refine ⟨kp_bw ts hk x _ _, kp_bw ts' hk' x _ _, fun s s' hM hz => ?_⟩
    unfold bwP at hz ⊢
    rw [← is_alike H hM hn]
    cases hw : (tkAt ts s).is [x] with
    | false =>
      rw [hw] at hz
      exact (h m m' l1 l2 h3 h4 h5 h6).go s s' hM hz
    | true =>
      rw [hw] at hz
      simp only [cond_true] at hz ⊢
      obtain ⟨g1, g2⟩ := is_true H hM hw
      have hz1 := (kp_made ts _ _ _).zero hz
      obtain ⟨n1, n2⟩ := nest_ok ((kp_bw ts hk x _ _ _).zero hz1)
      rw [n2] at hz hz1 ⊢
      rcases Nat.lt_or_ge 300 (m' + 1) with hb | hb
      · have hX : X := by
          rcases h6 with h6 | h6
          · omega
          · exact h6
        exact .inl ⟨hX, (kp_made ts' _ _ _).bad ((kp_bw ts' hk' x _ _ _).bad (nest_bad hb hM.w'))⟩
      · rw [nest_good hb]
        rcases (sim_bw hk hk' h hn f f' (m + 1) (m' + 1) (by omega) (by omega) (by omega) (by omega) n1 hb (by omega) (by rcases h6 with h6 | h6; exact .inl (by omega); exact .inr h6)).go _ _ (hM.next g1) hz1 with ⟨hX, h7⟩ | ⟨h7, h8, h9⟩
        · exact .inl ⟨hX, (kp_made ts' _ _ _).bad h7⟩
        · obtain ⟨h10, h11, h12⟩ := sim_made hTE h7 (k := 12) (x := (tkAt ts s).tx) (n := 0) (.cons h9 .nil) g2.tx rfl g2.a hz
          refine .inr ⟨h10, ?_, h12⟩
          rw [h11]
          have : (rNext s).i = s.i + 1 := rfl
          omega
include H in
theorem beg_ok {s s' : RS} (hM : Mt ts d s s') (hz : (rBeg ts s).wh = 0) : rBeg ts s = s ∧ rBeg ts' s' = s' ∧ s.i + 1 < ts.length ∧ TkE PE (tkAt ts s) (tkAt ts' s') := by
  unfold rBeg at hz ⊢
  cases hb : (tkAt ts s).begins with
  | false => rw [hb] at hz; exact absurd hz (fail_wh ts (by decide))
  | true =>
    rcases at_last H hM with ⟨h1, h2⟩ | ⟨-, h1, -⟩
    · rw [← h2.begins, hb]
      exact ⟨rfl, rfl, h1, h2⟩
    · unfold Tk.begins at hb
      rw [h1] at hb
      cases hb
include H in
theorem sim_argR {ex ex' : RS → TD × RS} (h : Sim X TE ts d ex ex') : ∀ (k k' : Nat) (l l' : List TD) (s s' : RS), Mt ts d s s' → All2 (DE TE) l l' → ts.length ≤ k + s.i → ts'.length ≤ k' + s'.i → (argR ts ex k l s).2.wh = 0 →
    (X ∧ (argR ts' ex' k' l' s').2.wh = 75) ∨ (Mt ts d (argR ts ex k l s).2 (argR ts' ex' k' l' s').2 ∧ s.i ≤ (argR ts ex k l s).2.i ∧ All2 (DE TE) (argR ts ex k l s).1 (argR ts' ex' k' l' s').1)
  | 0, _, _, _, s, _, hM, _, hk, _, _ => by have := hM.lt; omega
  | k + 1, 0, _, _, s, s', hM, _, _, hk', _ => by have := hM.lt; have := hM.i; have := H.len; omega
  | k + 1, k' + 1, l, l', s, s', hM, hl, hk, hk', hz => by
    rw [argR_eq] at hz ⊢
    rw [argR_eq]
    have hz1 : (ex (argS ts l s)).2.wh = 0 := by
      cases hw : (tkAt ts (ex (argS ts l s)).2).is [[44]] with
      | false => rw [hw] at hz; exact hz
      | true => rw [hw] at hz; exact ((kp_next _).trans (kp_argR ts h.kp k _ _)).zero hz
    have hz2 := (h.kp _).zero hz1
    have e1 : argS ts l s = s ∧ argS ts' l' s' = s' := by
      unfold argS at hz2 ⊢
      rw [← hl.len]
      cases h8 : l.length == 8 with
      | true => rw [h8] at hz2; exact absurd hz2 (fail_wh ts (by decide))
      | false =>
        rw [h8] at hz2
        obtain ⟨e1, e2, -⟩ := beg_ok H hM hz2
        exact ⟨e1, e2⟩
    rw [e1.1] at hz hz1 ⊢
    rw [e1.2]
    rcases h.go s s' hM hz1 with ⟨hX, h3⟩ | ⟨h3, h4, h5⟩
    · refine .inl ⟨hX, ?_⟩
      cases (tkAt ts' (ex' s').2).is [[44]] with
      | false => exact h3
      | true => exact ((kp_next _).trans (kp_argR ts' h.kp' k' _ _)).bad h3
    · rw [← is_alike H h3 (ws := [[44]]) (by decide)]
      cases hw : (tkAt ts (ex s).2).is [[44]] with
      | false => exact .inr ⟨h3, h4, hl.snoc h5⟩
      | true =>
        rw [hw] at hz
        simp only [cond_true] at hz ⊢
        obtain ⟨g1, -⟩ := is_true H h3 hw
        have h6 := h3.i
        have h7 := hM.i
        have e3 : (rNext (ex s).2).i = (ex s).2.i + 1 := rfl
        have e4 : (rNext (ex' s').2).i = (ex' s').2.i + 1 := rfl
        rcases sim_argR h k k' _ _ _ _ (h3.next g1) (hl.snoc h5) (by omega) (by omega) hz with h8 | ⟨h8, h9, h10⟩
        · exact .inl h8
        · exact .inr ⟨h8, by omega, h10⟩
include hTE H in
theorem sim_use {ex ex' : RS → TD × RS} (h : Sim X TE ts d ex ex') {t t' : Tk} (ht : TkE PE t t') : Sim X TE ts d (useP ts ex t) (useP ts' ex' t') := by
  refine ⟨kp_use ts h.kp t, kp_use ts' h.kp' t', fun s s' hM hz => ?_⟩
  unfold useP at hz ⊢
  rw [← is_alike H hM (ws := [[40]]) (by decide)]
  cases hw : (tkAt ts s).is [[40]] with
  | false =>
    rw [hw] at hz
    obtain ⟨h1, h2, h3⟩ := sim_made hTE hM (k := 10) (x := t.tx) (n := 0) .nil ht.tx rfl ht.a hz
    exact .inr ⟨h1, by simp only [cond_false]; rw [h2]; exact Nat.le_refl _, h3⟩
  | true =>
    rw [hw] at hz
    simp only [cond_true] at hz ⊢
    obtain ⟨g1, -⟩ := is_true H hM hw
    have hz1 := (kp_made ts _ _ _).zero hz
    unfold argsP at hz hz1 ⊢
    have hz2 := (kp_want ts _ _).zero hz1
    have e3 : (rNext s).i = s.i + 1 := rfl
    have e4 : (rNext s').i = s'.i + 1 := rfl
    rcases sim_argR H h (ts.length + 1) (ts'.length + 1) [] [] _ _ (hM.next g1) .nil (by omega) (by omega) hz2 with ⟨hX, h3⟩ | ⟨h3, h4, h5⟩
    · exact .inl ⟨hX, (kp_made ts' _ _ _).bad ((kp_want ts' _ _).bad h3)⟩
    · obtain ⟨h6, h7⟩ := sim_want H h3 [41] hz1
      obtain ⟨h8, h9, h10⟩ := sim_made hTE h6 (k := 11) (x := t.tx) (n := 0) h5 ht.tx rfl ht.a hz
      refine .inr ⟨h8, ?_, h10⟩
      rw [h9]
      omega
include H in
theorem sim_closed {ex ex' : RS → TD × RS} (h : Sim X TE ts d ex ex') : Sim X TE ts d (closedP ts ex) (closedP ts' ex') := by
  refine ⟨kp_closed ts h.kp, kp_closed ts' h.kp', fun s s' hM hz => ?_⟩
  unfold closedP at hz ⊢
  have hz1 := (kp_want ts _ _).zero hz
  rcases h.go s s' hM hz1 with ⟨hX, h3⟩ | ⟨h3, h4, h5⟩
  · exact .inl ⟨hX, (kp_want ts' _ _).bad h3⟩
  · obtain ⟨h6, h7⟩ := sim_want H h3 [41] hz
    exact .inr ⟨h6, by simp only; omega, h5⟩
include H in
theorem sim_three {ex ex' : RS → TD × RS} (h : Sim X TE ts d ex ex') (x y : List UInt8) {s s' : RS} (hM : Mt ts d s s') (hz : (three ts ex x y s).2.wh = 0) :
    (X ∧ (three ts' ex' x y s').2.wh = 75) ∨ (Mt ts d (three ts ex x y s).2 (three ts' ex' x y s').2 ∧ s.i ≤ (three ts ex x y s).2.i ∧ All2 (DE TE) (three ts ex x y s).1 (three ts' ex' x y s').1) := by
  unfold three at hz ⊢
  simp only at hz ⊢
  have z4 := (h.kp _).zero hz
  have z3 := (kp_want ts _ _).zero z4
  have z2 := (h.kp _).zero z3
  have z1 := (kp_want ts _ _).zero z2
  rcases h.go s s' hM z1 with ⟨hX, h1⟩ | ⟨h1, h2, h3⟩
  · exact .inl ⟨hX, ((((kp_want ts' _ _).trans (h.kp' _)).trans (kp_want ts' _ _)).trans (h.kp' _)).bad h1⟩
  · obtain ⟨h4, h5⟩ := sim_want H h1 x z2
    rcases h.go _ _ h4 z3 with ⟨hX, h6⟩ | ⟨h6, h7, h8⟩
    · exact .inl ⟨hX, ((kp_want ts' _ _).trans (h.kp' _)).bad h6⟩
    · obtain ⟨h9, h10⟩ := sim_want H h6 y z4
      rcases h.go _ _ h9 hz with h11 | ⟨h11, h12, h13⟩
      · exact .inl h11
      · exact .inr ⟨h11, by omega, .cons h3 (.cons h8 (.cons h13 .nil))⟩
include hTE H in
theorem sim_pick {ex ex' : RS → TD × RS} (h : Sim X TE ts d ex ex') {t t' : Tk} (ht : TkE PE t t') : Sim X TE ts d (pickP ts ex t) (pickP ts' ex' t') := by
  refine ⟨kp_pick ts h.kp t, kp_pick ts' h.kp' t', fun s s' hM hz => ?_⟩
  unfold pickP at hz ⊢
  simp only at hz ⊢
  have z4 := (kp_made ts _ _ _).zero hz
  have z3 := (kp_want ts _ _).zero z4
  have z2 := (kp_three ts h.kp _ _ _).zero z3
  have z1 := (kp_want ts _ _).zero z2
  obtain ⟨h1, h2, h3, -⟩ := sim_kind H hM (by decide) z1
  obtain ⟨h4, h5⟩ := sim_want H h1 [40] z2
  rcases sim_three H h [44] [44] h4 z3 with ⟨hX, h6⟩ | ⟨h6, h7, h8⟩
  · exact .inl ⟨hX, (kp_made ts' _ _ _).bad ((kp_want ts' _ _).bad h6)⟩
  · obtain ⟨h9, h10⟩ := sim_want H h6 [41] z4
    obtain ⟨h11, h12, h13⟩ := sim_made hTE h9 (k := 15) (x := (tkAt ts s).tx) (n := 0) h8 h3.tx rfl ht.a hz
    refine .inr ⟨h11, ?_, h13⟩
    rw [h12]
    omega
include hTE H in
theorem sim_if {ex ex' : RS → TD × RS} (h : Sim X TE ts d ex ex') {t t' : Tk} (ht : TkE PE t t') : Sim X TE ts d (ifP ts ex t) (ifP ts' ex' t') := by
  refine ⟨kp_if ts h.kp t, kp_if ts' h.kp' t', fun s s' hM hz => ?_⟩
  unfold ifP at hz ⊢
  simp only at hz ⊢
  have z1 := (kp_made ts _ _ _).zero hz
  rcases sim_three H h wThen wElse hM z1 with ⟨hX, h6⟩ | ⟨h6, h7, h8⟩
  · exact .inl ⟨hX, (kp_made ts' _ _ _).bad h6⟩
  · obtain ⟨h11, h12, h13⟩ := sim_made hTE h6 (k := 14) (x := []) (n := 0) h8 rfl rfl ht.a hz
    refine .inr ⟨h11, ?_, h13⟩
    rw [h12]
    exact h7
include hTE H in
theorem sim_atom {ex ex' : RS → TD × RS} (h : Sim X TE ts d ex ex') : Sim X TE ts d (atomP ts ex) (atomP ts' ex') := by
  refine ⟨kp_atom ts h.kp, kp_atom ts' h.kp', fun s s' hM hz => ?_⟩
  rcases at_last H hM with ⟨h1, ht⟩ | ⟨-, h1, -⟩
  · unfold atomP at hz ⊢
    simp only at hz ⊢
    cases hk0 : (tkAt ts s).k != 0 with
    | false =>
      exfalso
      have e : (tkAt ts s).k = 0 := by simpa using hk0
      rw [e] at hz
      simp only [is_end e, cond_false] at hz
      exact fail_wh ts (by decide) hz
    | true =>
    have e1 : rTake ts s = rNext s := by unfold rTake; rw [hk0]; rfl
    have e2 : rTake ts' s' = rNext s' := by unfold rTake; rw [← ht.k, hk0]; rfl
    have hM1 := hM.next h1
    have e3 : (rNext s).i = s.i + 1 := rfl
    rw [e1] at hz ⊢
    rw [e2]
    simp only [← ht.k, ← ht.is] at hz ⊢
    have leaf : ∀ {k : Int} {x x' : List UInt8} {n n' : Int} (hx : x = x') (hn : n = n') (hz : (mkT ts k x n (tkAt ts s).a [] (rNext s)).2.wh = 0), (X ∧ (mkT ts' k x' n' (tkAt ts' s').a [] (rNext s')).2.wh = 75) ∨ (Mt ts d (mkT ts k x n (tkAt ts s).a [] (rNext s)).2 (mkT ts' k x' n' (tkAt ts' s').a [] (rNext s')).2 ∧ s.i ≤ (mkT ts k x n (tkAt ts s).a [] (rNext s)).2.i ∧ DE TE (mkT ts k x n (tkAt ts s).a [] (rNext s)).1 (mkT ts' k x' n' (tkAt ts' s').a [] (rNext s')).1) := by
      intro k x x' n n' hx hn hz
      obtain ⟨h2, h3, h4⟩ := sim_made hTE hM1 (k := k) .nil hx hn ht.a hz
      exact .inr ⟨h2, by rw [h3]; omega, h4⟩
    have sub : ∀ {op op' : RS → TD × RS}, Sim X TE ts d op op' → (op (rNext s)).2.wh = 0 → (X ∧ (op' (rNext s')).2.wh = 75) ∨ (Mt ts d (op (rNext s)).2 (op' (rNext s')).2 ∧ s.i ≤ (op (rNext s)).2.i ∧ DE TE (op (rNext s)).1 (op' (rNext s')).1) := by
      intro op op' hs hz
      rcases hs.go _ _ hM1 hz with h2 | ⟨h2, h3, h4⟩
      · exact .inl h2
      · exact .inr ⟨h2, by omega, h4⟩
    cases c6 : (tkAt ts s).k == 6 with
    | true => rw [c6] at hz; exact leaf rfl ht.n hz
    | false =>
    cases c5 : (tkAt ts s).k == 5 with
    | true => rw [c6, c5] at hz; exact leaf rfl ht.n hz
    | false =>
    cases c4 : (tkAt ts s).k == 4 with
    | true => rw [c6, c5, c4] at hz; exact leaf ht.tx rfl hz
    | false =>
    cases c2 : ((tkAt ts s).k == 2 || (tkAt ts s).k == 3) with
    | true => rw [c6, c5, c4, c2] at hz; exact sub (sim_use hTE H h ht) hz
    | false =>
    cases cT : (tkAt ts s).is [wTrue] with
    | true => rw [c6, c5, c4, c2, cT] at hz; exact leaf rfl rfl hz
    | false =>
    cases cF : (tkAt ts s).is [wFalse] with
    | true => rw [c6, c5, c4, c2, cT, cF] at hz; exact leaf rfl rfl hz
    | false =>
    cases cE : (tkAt ts s).is [wFeed] with
    | true =>
      rw [c6, c5, c4, c2, cT, cF, cE] at hz
      simp only [cond_true, cond_false] at hz ⊢
      obtain ⟨h2, h3, h4, -⟩ := sim_kind H hM1 (by decide) ((kp_made ts _ _ _).zero hz)
      obtain ⟨h5, h6, h7⟩ := sim_made hTE h2 (k := 9) (x := (tkAt ts (rNext s)).tx) (n := 0) .nil h4.tx rfl ht.a hz
      exact .inr ⟨h5, by rw [h6]; omega, h7⟩
    | false =>
    cases cP : (tkAt ts s).is [wPick] with
    | true => rw [c6, c5, c4, c2, cT, cF, cE, cP] at hz; exact sub (sim_pick hTE H h ht) hz
    | false =>
    cases cO : (tkAt ts s).is [[40]] with
    | true => rw [c6, c5, c4, c2, cT, cF, cE, cP, cO] at hz; exact sub (sim_closed H h) hz
    | false =>
      rw [c6, c5, c4, c2, cT, cF, cE, cP, cO] at hz
      exact absurd hz (fail_wh ts (by decide))
  · exfalso
    unfold atomP at hz
    simp only at hz
    rw [h1] at hz
    simp only [is_end h1, cond_false] at hz
    exact fail_wh ts (by decide) hz
variable (X) in
def SimE (TE : Tr → Tr → Prop) (ts : List Tk) (d lo lo' : Nat) (en en' : Nat → RS → TD × RS) : Prop := (∀ n, KpF (en n)) ∧ (∀ n, KpF (en' n)) ∧ ∀ m m', lo ≤ m → lo' ≤ m' → m ≤ 300 → m' ≤ 300 → m ≤ m' → (m' = m ∨ X) → Sim X TE ts d (en (m + 1)) (en' (m' + 1))
variable {en en' : Nat → RS → TD × RS} {lo lo' : Nat}
include hTE H in
theorem sim_unary (h : SimE X TE ts d lo lo' en en') : SimN X TE ts d lo lo' (unaryP ts en) (unaryP ts' en') := fun m m' l1 l2 h1 h2 h3 h4 =>
  sim_bw hTE H (fun _ => kp_atom ts (h.1 _)) (fun _ => kp_atom ts' (h.2.1 _)) (fun n n' l1 l2 h1 h2 h3 h4 => sim_atom hTE H (h.2.2 n n' l1 l2 h1 h2 h3 h4)) (by decide) 400 400 m m' l1 l2 (by omega) (by omega) h1 h2 h3 h4
include hTE H in
theorem sim_sum (h : SimE X TE ts d lo lo' en en') : SimN X TE ts d lo lo' (sumP ts en) (sumP ts' en') := fun m m' l1 l2 h1 h2 h3 h4 =>
  sim_chain hTE H (sim_chain hTE H (sim_unary hTE H h m m' l1 l2 h1 h2 h3 h4) (by decide)) (by decide)
include hTE H in
theorem sim_rel (h : SimE X TE ts d lo lo' en en') : SimN X TE ts d lo lo' (relP ts en) (relP ts' en') := by
  intro m m' l1 l2 h1 h2 h3 h4
  have hs := sim_sum hTE H h m m' l1 l2 h1 h2 h3 h4
  refine ⟨kp_rel ts h.1 m, kp_rel ts' h.2.1 m', fun s s' hM hz => ?_⟩
  unfold relP at hz ⊢
  have z1 : (sumP ts en m s).2.wh = 0 := by
    cases hw : (tkAt ts (sumP ts en m s).2).is [[60], [60, 61], [61]] with
    | false => rw [hw] at hz; exact hz
    | true => rw [hw] at hz; exact (kp_bin ts hs.kp _ _).zero hz
  rcases hs.go s s' hM z1 with ⟨hX, h5⟩ | ⟨h5, h6, h7⟩
  · refine .inl ⟨hX, ?_⟩
    cases (tkAt ts' (sumP ts' en' m' s').2).is [[60], [60, 61], [61]] with
    | false => exact h5
    | true => exact (kp_bin ts' hs.kp' _ _).bad h5
  · rw [← is_alike H h5 (ws := [[60], [60, 61], [61]]) (by decide)]
    cases hw : (tkAt ts (sumP ts en m s).2).is [[60], [60, 61], [61]] with
    | false => exact .inr ⟨h5, h6, h7⟩
    | true =>
      rw [hw] at hz
      rcases sim_bin hTE H hs h5 hw h7 hz with h8 | ⟨h8, h9, h10⟩
      · exact .inl h8
      · exact .inr ⟨h8, by simp only [cond_true]; omega, h10⟩
include hTE H in
theorem sim_or (h : SimE X TE ts d lo lo' en en') : SimN X TE ts d lo lo' (orP ts en) (orP ts' en') := fun m m' l1 l2 h1 h2 h3 h4 =>
  sim_chain hTE H (sim_chain hTE H (sim_bw hTE H (kp_rel ts h.1) (kp_rel ts' h.2.1) (sim_rel hTE H h) (by decide) 400 400 m m' l1 l2 (by omega) (by omega) h1 h2 h3 h4) (by decide)) (by decide)
include hTE H in
theorem sim_expr : ∀ (f f' m m' : Nat), 302 ≤ f + m → 302 ≤ f' + m' → m ≤ 301 → m' ≤ 301 → m ≤ m' → (m' = m ∨ X) → Sim X TE ts d (exprP ts f m) (exprP ts' f' m')
  | 0, _, m, m', h1, _, h3, _, _, _ => by omega
  | f + 1, 0, m, m', _, h2, _, h4, _, _ => by omega
  | f + 1, f' + 1, m, m', h1, h2, h3, h4, h5, h6 => by
    refine ⟨kp_expr ts _ _, kp_expr ts' _ _, fun s s' hM hz => ?_⟩
    have hE : ∀ n n', m ≤ n → m' ≤ n' → n ≤ 300 → n' ≤ 300 → n ≤ n' → (n' = n ∨ X) → Sim X TE ts d (exprP ts f (n + 1)) (exprP ts' f' (n' + 1)) := fun n n' g1 g2 g3 g4 g5 g6 => sim_expr f f' (n + 1) (n' + 1) (by omega) (by omega) (by omega) (by omega) (by omega) (by rcases g6 with g6 | g6; exact .inl (by omega); exact .inr g6)
    unfold exprP at hz ⊢
    have z1 : (begS ts m s).wh = 0 := by
      cases hw : (tkAt ts (begS ts m s)).is [wIf] with
      | false => rw [hw] at hz; exact (kp_or ts (kp_expr ts f) _ _).zero hz
      | true => rw [hw] at hz; exact ((kp_next _).trans (kp_if ts (kp_expr ts f _) _ _)).zero hz
    obtain ⟨n1, n2⟩ := nest_ok z1
    obtain ⟨b1, b2, b3, b4⟩ := beg_ok H hM (by unfold begS at z1; rw [n2] at z1; exact z1)
    have e1 : begS ts m s = s := by unfold begS; rw [n2, b1]
    rw [e1] at hz ⊢
    rcases Nat.lt_or_ge 300 m' with hb | hb
    · have hX : X := by
        rcases h6 with h6 | h6
        · omega
        · exact h6
      have h7 : (begS ts' m' s').wh = 75 := by unfold begS; rw [b2]; exact nest_bad hb hM.w'
      refine .inl ⟨hX, ?_⟩
      cases (tkAt ts' (begS ts' m' s')).is [wIf] with
      | false => exact (kp_or ts' (kp_expr ts' f') _ _).bad h7
      | true => exact ((kp_next _).trans (kp_if ts' (kp_expr ts' f' _) _ _)).bad h7
    · have e2 : begS ts' m' s' = s' := by unfold begS; rw [nest_good hb, b2]
      rw [e2, ← b4.is]
      cases hw : (tkAt ts s).is [wIf] with
      | true =>
        rw [hw] at hz
        have e3 : (rNext s).i = s.i + 1 := rfl
        rcases (sim_if hTE H (hE m m' (Nat.le_refl _) (Nat.le_refl _) n1 hb h5 h6) b4).go _ _ (hM.next b3) hz with h8 | ⟨h8, h9, h10⟩
        · exact .inl h8
        · exact .inr ⟨h8, by simp only [cond_true]; omega, h10⟩
      | false =>
        rw [hw] at hz
        exact (sim_or hTE H (lo := m) (lo' := m') ⟨kp_expr ts f, kp_expr ts' f', hE⟩ m m' (Nat.le_refl _) (Nat.le_refl _) n1 hb h5 h6).go s s' hM hz
end
end Go.Proofs.YtommhgmlblecnaaGreatDoor
namespace Go.Proofs.YtommhgmlblecnaaGreatDoor
open Go Go.RowKit

section
variable (ts : List Tk)
end
section
variable (ts : List Tk)
end
section
variable {PE : Int → Int → Prop} {TE : Tr → Tr → Prop} (hTE : ∀ k x n ks ks' p p', All2 TE ks ks' → PE p p' → TE (.mk k x n ks p) (.mk k x n ks' p')) {ts ts' : List Tk} {d : Nat} (H : Alike PE ts ts' d)
end
/-- An operand alone, behind which none of the signs comes. -/
def lone (t : Tk) : Prop := t.is [[42], [47]] = false ∧ t.is [[43], [45]] = false ∧ t.is [[60], [60, 61], [61]] = false ∧ t.is [wAnd] = false ∧ t.is [wOr] = false
theorem chain_lone {ts : List Tk} {op : RS → TD × RS} {ws : List (List UInt8)} {s : RS} (h : (tkAt ts (op s).2).is ws = false) : chainP ts op ws s = op s := by
  unfold chainP
  cases ts.length with
  | zero => rfl
  | succ n => unfold chR; rw [h]; rfl
theorem prod_lone {ts : List Tk} {en : Nat → RS → TD × RS} {m : Nat} {s : RS} (h1 : (tkAt ts s).is [[45]] = false) (h : (tkAt ts (atomP ts (en (m + 1)) s).2).is [[42], [47]] = false) : prodP ts en m s = atomP ts (en (m + 1)) s := by
  have e1 : unaryP ts en m s = atomP ts (en (m + 1)) s := by unfold unaryP bwP; rw [h1]; rfl
  unfold prodP
  rw [chain_lone (by rw [e1]; exact h), e1]
theorem or_sum {ts : List Tk} {en : Nat → RS → TD × RS} {m : Nat} {s : RS} (h2 : (tkAt ts s).is [wNot] = false) (h : (tkAt ts (sumP ts en m s).2).is [[60], [60, 61], [61]] = false ∧ (tkAt ts (sumP ts en m s).2).is [wAnd] = false ∧ (tkAt ts (sumP ts en m s).2).is [wOr] = false) : orP ts en m s = sumP ts en m s := by
  obtain ⟨c, dd, e⟩ := h
  have e4 : relP ts en m s = sumP ts en m s := by unfold relP; rw [c]; rfl
  have e5 : notP ts en m s = sumP ts en m s := by unfold notP bwP; rw [h2]; exact e4
  have e6 : andP ts en m s = sumP ts en m s := by unfold andP; rw [chain_lone (by rw [e5]; exact dd), e5]
  unfold orP
  rw [chain_lone (by rw [e6]; exact e), e6]
theorem or_lone {ts : List Tk} {en : Nat → RS → TD × RS} {m : Nat} {s : RS} (h1 : (tkAt ts s).is [[45]] = false) (h2 : (tkAt ts s).is [wNot] = false) (h : lone (tkAt ts (atomP ts (en (m + 1)) s).2)) : orP ts en m s = atomP ts (en (m + 1)) s := by
  obtain ⟨a, b, c, dd, e⟩ := h
  have e2 := prod_lone (en := en) (m := m) h1 a
  have e3 : sumP ts en m s = atomP ts (en (m + 1)) s := by unfold sumP; rw [chain_lone (by rw [e2]; exact b), e2]
  rw [or_sum h2 (by rw [e3]; exact ⟨c, dd, e⟩), e3]
theorem begS_good {ts : List Tk} {m : Nat} {s : RS} (hm : m ≤ 300) (h : (tkAt ts s).begins = true) : begS ts m s = s := by
  unfold begS rBeg
  rw [nest_good hm, h]
  rfl
theorem expr_or {ts : List Tk} {f m : Nat} {s : RS} (hm : m ≤ 300) (h : (tkAt ts s).begins = true) (hi : (tkAt ts s).is [wIf] = false) : exprP ts (f + 1) m s = orP ts (exprP ts f) m s := by
  unfold exprP
  rw [begS_good hm h, hi]
  rfl
theorem lone_stop {t : Tk} (h : Stop t) : lone t := ⟨is_stop h (by decide), is_stop h (by decide), is_stop h (by decide), is_stop h (by decide), is_stop h (by decide)⟩
end Go.Proofs.YtommhgmlblecnaaGreatDoor
namespace Go.Proofs.YtommhgmlblecnaaGreatDoor
open Go Go.RowKit

section
variable {ts : List Tk} (hE : Toks ts)
include hE
end
/-- A node without kids. -/
theorem nd_leaf {w : World} (k : Int) (x : List UInt8) (n p : Int) : Nd w (nv k x n (.slice none 0 0) p) (.mk k x n [] p) := .mk k x n [] p none 0 (fun _ => undef) (by decide) (fun i hi => by simp at hi) (fun i t ht => by simp at ht)
/-- What a call that reads a row leaves. -/
def ResN (L : List Nat) (w : World) (q0 b c : Nat) (ts : List Tk) (r : Tr × RS) (e : Ending) (w' : World) : Prop := ∃ u : T6, e = .returned u.nd ∧ u.d = 0 ∧ Ch [q0] w w' ∧ w'.heap[q0]? = some (rdS b c ts r.2) ∧ Stay L w' (fun w => Nd w u.nd r.1)
section
variable {P : Program} {F : Exit → Act → World → Prop} {Inv : World → Prop} {st : St} {q0 b c : Nat} {ts : List Tk}
end
section
variable {q0 b c : Nat} {ts : List Tk} (hE : Toks ts) {s : RS} {w : World} {L : List Nat}
include hE
end
end Go.Proofs.YtommhgmlblecnaaGreatDoor
namespace Go.Proofs.YtommhgmlblecnaaGreatDoor
open Go Go.RowKit

section
variable {q0 b c : Nat} {ts : List Tk} (hE : Toks ts) {s : RS} {w : World} {L : List Nat}
include hE
theorem outerN (h : At w q0 b c ts s) (hi : s.i < ts.length) (hq : q0 ∈ L) (hL : ∀ x ∈ L, x < w.heap.size) : Calls Tryz.prog 25 #[.pointer (some ⟨q0, 0, none⟩)] w (ResN L w q0 b c ts ((exprP ts 301 1 s).1.t, (exprP ts 301 1 s).2)) :=
  (outer_any hE h hi hq hL).mono fun _ _ ⟨u, h1, h2, h3, h4⟩ => ⟨{ u with d := 0 }, h1, rfl, h2, h3, h4⟩
/-- A row that is read by a call. -/
def NRow (q0 b c : Nat) (ts : List Tk) (f : FuncId) (row : RS → Tr × RS) : Prop := ∀ (w : World) (s : RS) (L : List Nat), At w q0 b c ts s → s.i < ts.length → q0 ∈ L → (∀ x ∈ L, x < w.heap.size) → Calls Tryz.prog f #[.pointer (some ⟨q0, 0, none⟩)] w (ResN L w q0 b c ts (row s))
end
end Go.Proofs.YtommhgmlblecnaaGreatDoor
namespace Go.Proofs.YtommhgmlblecnaaGreatDoor
open Go Go.RowKit

section
variable {F : Exit → Act → World → Prop} {Inv : World → Prop} {st : St}
end
section
variable {q0 b c : Nat} {ts : List Tk} (hE : Toks ts) {s : RS} {w : World} {L : List Nat}
include hE
end
section
variable {q0 b c : Nat} {ts : List Tk} (hE : Toks ts) {s : RS} {w : World} {L : List Nat}
include hE
end
end Go.Proofs.YtommhgmlblecnaaGreatDoor
namespace Go.Proofs.YtommhgmlblecnaaGreatDoor
open Go Go.RowKit

theorem prt_toks {l : List UInt8} (h : (prt l).2.1 = 0) : Toks (prt l).1 := by
  obtain ⟨body, e, -, hl⟩ := prt_shape h
  rw [e]
  refine ⟨by simp, ?_, by simp; omega⟩
  simp [List.getD, endK]
/-- A row from the beginning of a text, and nothing more: the tree, the place, what is wrong. -/
def whR (row : List Tk → RS → Tr × RS) (ts : List Tk) : Tr × Int × Int :=
  bif (rKind ts 0 (row ts ⟨0, 0, 0⟩).2).wh != 0 then (.mk 0 [] 0 [] 0, (rKind ts 0 (row ts ⟨0, 0, 0⟩).2).p, (rKind ts 0 (row ts ⟨0, 0, 0⟩).2).wh) else ((row ts ⟨0, 0, 0⟩).1, 0, 0)
def whP (row : List Tk → RS → Tr × RS) (l : List UInt8) : Tr × Int × Int := bif (prt l).2.1 != 0 then (.mk 0 [] 0 [] 0, (prt l).2.2, (prt l).2.1) else whR row (prt l).1
def xprP (ts : List Tk) (s : RS) : Tr × RS := ((exprP ts 301 1 s).1.t, (exprP ts 301 1 s).2)
set_option maxRecDepth 100000 in
set_option maxHeartbeats 2000000 in
seal rn Goes ans atEnd put0 putM opened putA0 oneSt st0 keep putA prt in
theorem whole_any (l : List UInt8) (w : World) (ht : Tab w) {L : List Nat} (hL : ∀ x ∈ L, x < w.heap.size) {f : FuncId} (hf : okf Tryz.prog f = true) {row : List Tk → RS → Tr × RS} (hr : ∀ (q0 b c : Nat) (ts : List Tk), Toks ts → NRow q0 b c ts f (row ts)) (hg : ∀ ts, Toks ts → ∀ s, s.i < ts.length → Mv ts s (row ts s).2) :
    Calls Tryz.prog 24 #[strV l, .func (.func f) #[] #[]] w fun e w' => ∃ u : T6, e = .returned (.tuple #[u.nd, .int .i64 (whP row l).2.1, .int .i64 (whP row l).2.2]) ∧ Below w.heap.size w w' ∧ Stay L w' (fun w => Nd w u.nd (whP row l).1) := by
  refine Goes.begin Tryz.func24 [] Tab (fun j b o h => by cases h) (by simp [Mem.ids]) ht.stay ?_
  refine Goes.run1 [] [] trivial fun g1 => ?_
  refine Goes.callG [g1] 40 #[strV l] fun w1 hm1 hI1 => (parted_any l w1 hI1.now.2 (L := [g1] ++ L) (fun x hx => (List.mem_append.1 hx).elim (hm1 x) (hI1.now.1.lt hL x))).mono fun e w2 ⟨hB, v, e1, hv⟩ => ?_
  rcases hv with ⟨h0, rfl⟩ | ⟨h0, b, c, rfl, hS⟩
  · refine ⟨_, fun _ => True, e1, hB, fun _ _ => trivial, ?_⟩
    obtain ⟨W, hW⟩ : ∃ W, (prt l).2.1 = W := ⟨_, rfl⟩
    obtain ⟨A, hA⟩ : ∃ A, (prt l).2.2 = A := ⟨_, rfl⟩
    have hz : whP row l = (.mk 0 [] 0 [] 0, A, W) := by
      unfold whP
      rw [hW, hA]
      have : (W != 0) = true := by rw [← hW]; simpa using h0
      rw [this]
      rfl
    rw [hz, hW, hA]
    have hw0 : (W != 0) = true := by rw [← hW]; simpa using h0
    refine Goes.run1 [1, 1, 1] [(W != 0, true)] ⟨hw0, trivial⟩ fun g2 => ?_
    refine Goes.open [1] ?_
    refine Goes.run [0, 1, 2, 0, 3, 4, 0] [] trivial ?_
    refine Goes.oneA 5 0 [1] ?_
    refine Goes.run [6, 7] [] trivial ?_
    exact Goes.ret [0] (.tuple #[nv 0 [] 0 (.slice none 0 0) 0, .int .i64 A, .int .i64 W]) fun w' hm hI => ⟨⟨0, [], 0, none, 0, 0, 0, 0⟩, rfl, ch_below hI.now.1.1, fun _ _ => nd_leaf _ _ _ _⟩
  · have hE := prt_toks h0
    obtain ⟨ts, hts⟩ : ∃ ts, (prt l).1 = ts := ⟨_, rfl⟩
    rw [hts] at hE hS e1
    have hz : whP row l = whR row ts := by
      unfold whP
      rw [h0, hts]
      rfl
    rw [hz]
    obtain ⟨r, hrr⟩ : ∃ r, row ts ⟨0, 0, 0⟩ = r := ⟨_, rfl⟩
    obtain ⟨s2, hs2⟩ : ∃ s2, rKind ts 0 r.2 = s2 := ⟨_, rfl⟩
    have hi0 : (⟨0, 0, 0⟩ : RS).i < ts.length := hE.pos
    have h1 := hg ts hE ⟨0, 0, 0⟩ hi0
    rw [hrr] at h1
    refine ⟨_, fun w' => Stay L w' (fun w => Tks w b c ts), e1, hB, hS.split, ?_⟩
    obtain ⟨A, hA⟩ : ∃ A, (prt l).2.2 = A := ⟨_, rfl⟩
    rw [h0, hA]
    have hlt : ∀ w', Ch [] w w' → ∀ x ∈ L, x < w'.heap.size := fun w' hc x hx => Nat.lt_of_lt_of_le (hL x hx) hc.size
    have hI2 : ∀ ids w', Stay ids w' (fun w2 => ((Ch [] w w2 ∧ Tab w2) ∧ Stay L w2 (fun w => Tks w b c ts))) → Stay (ids ++ L) w' (fun w => Tks w b c ts) := fun ids w' h => (h.mono fun _ h => h.2).join
    refine Goes.run2 [1, 1, 0] [((0 : Int) != 0, false)] ⟨by decide, trivial⟩ fun g2 g3 => ?_
    refine Goes.call1 2 g3 f #[.pointer (some ⟨g3, 0, none⟩)] (hf := hf) fun w3 hm _ hI => (hr g3 b c ts hE w3 ⟨0, 0, 0⟩ (_ ++ L) ⟨hm.get 2 (o := rdS b c ts ⟨0, 0, 0⟩), (hI2 _ _ hI).now⟩ hi0 (List.mem_append_left _ (ids_get (j := 2) (o := rdS b c ts ⟨0, 0, 0⟩) (by kernel_rfl))) (fun x hx => (List.mem_append.1 hx).elim (ids_lt hm x) (hlt w3 hI.now.1.1 x))).mono fun _ w4 ⟨u, q1, q2, q3, q4, q5⟩ => ⟨u.nd, _, fun w => Stay L w (fun w => Nd w u.nd r.1), q1, q3, q4, by rw [hrr] at q5; exact q5.split, ?_⟩
    rw [hrr]
    refine Goes.run1 [3] [] trivial fun g4 => ?_
    refine Goes.call2 2 g3 41 #[.pointer (some ⟨g3, 0, none⟩), .int .i64 0] (tkAt ts r.2).v (rdS b c ts s2) (fun w' hm hI => hs2 ▸ kind_any ⟨hm.get 2, hI.now.1.2.now⟩ hE h1.lt 0) ?_
    have hz2 : whR row ts = bif s2.wh != 0 then (.mk 0 [] 0 [] 0, s2.p, s2.wh) else (r.1, 0, 0) := by unfold whR; rw [hrr, hs2]
    rw [hz2]
    cases hw0 : (s2.wh != 0) with
    | true =>
      refine Goes.run [2, 1] [(s2.wh != 0, true)] ⟨hw0, trivial⟩ ?_
      refine Goes.open [2] ?_
      refine Goes.run [0, 1, 2, 3, 4, 5, 0, 6, 7, 8, 9, 10, 0] [] trivial ?_
      refine Goes.oneA 11 0 [2] ?_
      refine Goes.run [12, 13] [] trivial ?_
      exact Goes.ret [0] (.tuple #[nv 0 [] 0 (.slice none 0 0) 0, .int .i64 s2.p, .int .i64 s2.wh]) fun w' hm hI => ⟨⟨0, [], 0, none, 0, 0, 0, 0⟩, rfl, ch_below hI.now.1.1.1, fun _ _ => nd_leaf _ _ _ _⟩
    | false =>
      refine Goes.run [2, 0, 3, 0] [(s2.wh != 0, false)] ⟨hw0, trivial⟩ ?_
      exact Goes.ret [0] (.tuple #[u.nd, .int .i64 0, .int .i64 0]) fun w' hm hI => ⟨u, rfl, ch_below hI.now.1.1.1, hI.now.2⟩
end Go.Proofs.YtommhgmlblecnaaGreatDoor
namespace Go.Proofs.YtommhgmlblecnaaGreatDoor
open Go Go.RowKit

set_option maxRecDepth 100000 in
set_option maxHeartbeats 1000000 in
seal rn Goes ans atEnd put0 putM opened putA0 oneSt st0 keep putA prt whP in
theorem xexpr_any (l : List UInt8) (w : World) (ht : Tab w) {L : List Nat} (hL : ∀ x ∈ L, x < w.heap.size) : Calls Tryz.prog 10 #[strV l] w fun e w' => ∃ u : T6, e = .returned (.tuple #[u.nd, .int .i64 (whP xprP l).2.1, .int .i64 (whP xprP l).2.2]) ∧ Below w.heap.size w w' ∧ Stay L w' (fun w => Nd w u.nd (whP xprP l).1) := by
  obtain ⟨Z, hZ⟩ : ∃ Z, whP xprP l = Z := ⟨_, rfl⟩
  rw [hZ]
  refine Goes.begin Tryz.func10 [] Tab (fun j b o h => by cases h) (by simp [Mem.ids]) ht.stay ?_
  refine Goes.run1 [] [] trivial fun g1 => ?_
  refine Goes.callG [g1] 24 #[strV l, .func (.func 25) #[] #[]] fun w1 hm1 hI1 => (whole_any l w1 hI1.now.2 (L := [g1] ++ L) (fun x hx => (List.mem_append.1 hx).elim (hm1 x) (hI1.now.1.lt hL x)) (by kernel_rfl) (row := xprP) (fun _ _ _ _ hE _ _ _ h hi hq hL => outerN hE h hi hq hL) (fun _ hE s hi => good_expr hE 301 1 s hi)).mono fun _ w2 ⟨u, e1, hB, hS⟩ => ⟨_, fun w => Stay L w (fun w => Nd w u.nd Z.1), e1, hB, by rw [hZ] at hS; exact hS.split, ?_⟩
  rw [hZ]
  refine Goes.run [0] [] trivial ?_
  exact Goes.ret [0] (.tuple #[u.nd, .int .i64 Z.2.1, .int .i64 Z.2.2]) fun w' hm hI => ⟨u, rfl, ch_below hI.now.1.1, hI.now.2⟩
end Go.Proofs.YtommhgmlblecnaaGreatDoor
namespace Go.Proofs.YtommhgmlblecnaaGreatDoor
open Go Go.RowKit

section
variable {P : Program} {F : Exit → Act → World → Prop} {Inv : World → Prop} {s : St}
/-- What follows from what is known, in the world as it is. -/
theorem Goes.know (h : ∀ w, Holds s.mem w → Stay s.mem.ids w Inv → ∃ Inv', Stay s.mem.ids w Inv' ∧ Goes P F Inv' s) : Goes P F Inv s := fun w hm hn hI => by
  obtain ⟨Inv', h1, h2⟩ := h w hm hI
  exact h2 w hm hn h1
end
section
variable {P : Program} {F : Exit → Act → World → Prop} {Inv : World → Prop} {s : St}
end
theorem addS7 {l m : List UInt8} (hl : l.length + m.length ≤ 9223372036854775807) (w : World) : (binOp .add 9 (strV l) (strV m)).run Tryz.prog w = .ok (strV (l ++ m)) w := by
  unfold strV
  go_simp
  rw [if_neg (by omega)]
  exact congrArg (fun x => Result.ok (Value.string x) w) (by apply ByteArray.ext; simp)
theorem strV_inj {a b : List UInt8} (h : strV a = strV b) : a = b := by
  unfold strV at h
  simp only [Value.string.injEq, ByteArray.mk.injEq] at h
  exact List.toArray_inj h
theorem nv_inj {k k' : Int} {x x' : List UInt8} {n n' : Int} {v v' : Value} {p p' : Int} (h : nv k x n v p = nv k' x' n' v' p') : k = k' ∧ x = x' ∧ n = n' ∧ v = v' ∧ p = p' := by
  unfold nv at h
  simp only [Value.agg.injEq, Array.mk.injEq, List.cons.injEq, Value.int.injEq, true_and, and_true] at h
  exact ⟨h.1, strV_inj h.2.1, h.2.2.1, h.2.2.2.1, h.2.2.2.2⟩
/-- A node's value, opened. -/
theorem Nd.t6 {w : World} {u : T6} {k : Int} {x : List UInt8} {n : Int} {ks : List Tr} {p : Int} (h : Nd w u.nd (.mk k x n ks p)) : ∃ a c d, u = ⟨k, x, n, a, ks.length, c, p, d⟩ := by
  obtain ⟨a, c, e, -, -⟩ := h.open
  obtain ⟨k', x', n', a', N', c', p', d'⟩ := u
  obtain ⟨rfl, rfl, rfl, h4, rfl⟩ := nv_inj e
  simp only [Value.slice.injEq] at h4
  obtain ⟨rfl, rfl, rfl⟩ := h4
  exact ⟨_, _, _, rfl⟩
theorem Nd.any {w : World} {v : Value} {t : Tr} (h : Nd w v t) : ∃ u : T6, v = u.nd := by
  obtain ⟨k, x, n, ks, p⟩ := t
  obtain ⟨a, c, e, -, -⟩ := h.open
  exact ⟨⟨k, x, n, a, ks.length, c, p, 0⟩, e⟩
theorem Cl.inj {w : World} {b o : Nat} {v v' : Value} (h : Cl w b o v) (h' : Cl w b o v') : v = v' := by
  obtain ⟨k, x, n, s, p, rfl, a0, a1, a2, a3, a4⟩ := h
  obtain ⟨k', x', n', s', p', rfl, b0, b1, b2, b3, b4⟩ := h'
  rw [a0] at b0
  rw [a1] at b1
  rw [a2] at b2
  rw [a3] at b3
  rw [a4] at b4
  have e1 := strV_inj (Option.some.inj b1)
  simp only [Option.some.injEq, Value.int.injEq, true_and] at b0 b2 b3 b4
  rw [b0, e1, b2, b3, b4]
theorem Cl.lt {w : World} {b o : Nat} {v : Value} (h : Cl w b o v) : b < w.heap.size := by
  obtain ⟨k, x, n, s, p, rfl, a0, -⟩ := h
  exact World.block_lt_of_cell? w _ a0
theorem Cl.same {w w' : World} {b o : Nat} {v : Value} (h : Cl w b o v) (e : w'.heap[b]? = w.heap[b]?) : Cl w' b o v := by
  obtain ⟨k, x, n, s, p, rfl, a0, a1, a2, a3, a4⟩ := h
  have key : ∀ o, w'.cell? ⟨b, o, none⟩ = w.cell? ⟨b, o, none⟩ := fun o => by unfold World.cell?; rw [e]
  exact ⟨k, x, n, s, p, rfl, (key _).trans a0, (key _).trans a1, (key _).trans a2, (key _).trans a3, (key _).trans a4⟩
/-- A kid of a tree that stays: where it lies, and its value. -/
theorem Stay.kid {L : List Nat} {w : World} {u : T6} {k : Int} {x : List UInt8} {n : Int} {ks : List Tr} {p : Int} (h : Stay L w (fun w => Nd w u.nd (.mk k x n ks p))) {i : Nat} {t : Tr} (hi : ks[i]? = some t) : ∃ b o v ob, u.a = some ⟨b, o, none⟩ ∧ Stay L w (fun w => Cl w b (o + i * 5) (T6.nd v) ∧ Nd w (T6.nd v) t ∧ w.heap[b]? = some ob) := by
  have hopen : ∀ w', Nd w' u.nd (.mk k x n ks p) → ∃ b o v, u.a = some ⟨b, o, none⟩ ∧ Cl w' b (o + i * 5) v ∧ Nd w' v t := by
    intro w' hn
    obtain ⟨a, c, e, -, hk⟩ := hn.open
    obtain ⟨-, -, -, h4, -⟩ := nv_inj (show nv u.k u.x u.n (.slice u.a u.N u.c) u.p = _ from e)
    simp only [Value.slice.injEq] at h4
    obtain ⟨b, o, v, e1, h1, h2⟩ := hk i t hi
    exact ⟨b, o, v, h4.1.trans e1, h1, h2⟩
  obtain ⟨b, o, v, ha, hc, hn⟩ := hopen w h.now
  have hb : b ∉ L := by
    intro hL
    have h0 := hc.lt
    have hch : Ch L w { w with heap := w.heap.setIfInBounds b (.map #[] 0) } := ⟨rfl, rfl, rfl, by simp, fun i _ hx => by
      show (w.heap.setIfInBounds b _)[i]? = _
      exact Array.getElem?_setIfInBounds_ne (fun (h : b = i) => hx (h ▸ hL))⟩
    obtain ⟨b', o', v', ha', hc', -⟩ := hopen _ (h _ hch)
    rw [ha] at ha'
    cases ha'
    obtain ⟨k, x, n, s, p, rfl, a0, -⟩ := hc'
    unfold World.cell? at a0
    have : (w.heap.setIfInBounds b (.map #[] 0))[b]? = some (.map #[] 0) := Array.getElem?_setIfInBounds_self_of_lt h0
    rw [show ({ w with heap := w.heap.setIfInBounds b (.map #[] 0) } : World).heap[b]? = some (.map #[] 0) from this] at a0
    simp at a0
  obtain ⟨v, rfl⟩ := hn.any
  obtain ⟨ob, hob⟩ : ∃ ob, w.heap[b]? = some ob := ⟨w.heap[b]'hc.lt, Array.getElem?_eq_getElem hc.lt⟩
  refine ⟨b, o, v, ob, ha, fun w' hch => ?_⟩
  have h1 := hc.same (hch.block b hc.lt hb)
  refine ⟨h1, ?_, (hch.block b hc.lt hb).trans hob⟩
  obtain ⟨b', o', v', ha', hc', hn'⟩ := hopen w' (h w' hch)
  rw [ha] at ha'
  cases ha'
  rw [h1.inj hc']
  exact hn'
theorem cl_k {w : World} {b o : Nat} {v : T6} (h : Cl w b o v.nd) (ty : TypeId) (ha : ∀ w, (isAgg ty).run Tryz.prog w = .ok false w) : (Instr.loadAt ty (.pointer (some ⟨b, o, none⟩))).run Tryz.prog w = .ok (.int .i64 v.k) w := by
  obtain ⟨k, x, n, s, p, e, a0, -⟩ := h
  obtain ⟨e1, -⟩ := nv_inj (show nv v.k v.x v.n (.slice v.a v.N v.c) v.p = _ from e)
  rw [e1]
  exact load1 ha a0
theorem cl_n {w : World} {b o : Nat} {v : T6} (h : Cl w b o v.nd) (ty : TypeId) (ha : ∀ w, (isAgg ty).run Tryz.prog w = .ok false w) : (Instr.loadAt ty (.pointer (some ⟨b, o + 2, none⟩))).run Tryz.prog w = .ok (.int .i64 v.n) w := by
  obtain ⟨k, x, n, s, p, e, -, -, a0, -⟩ := h
  obtain ⟨-, -, e1, -⟩ := nv_inj (show nv v.k v.x v.n (.slice v.a v.N v.c) v.p = _ from e)
  rw [e1]
  exact load1 ha a0
end Go.Proofs.YtommhgmlblecnaaGreatDoor
namespace Go.Proofs.YtommhgmlblecnaaGreatDoor
open Go Go.RowKit

def shT7 : Tr := .mk 13 [45] 0 [.mk 13 [45] 0 [.mk 10 [97] 0 [] 0, .mk 10 [98] 0 [] 4] 2, .mk 5 [] 1500000 [] 8] 6
theorem shown_tree : whP xprP [97, 32, 45, 32, 98, 32, 45, 32, 49, 46, 53] = (shT7, 0, 0) := by kernel_rfl
set_option maxRecDepth 100000 in
set_option maxHeartbeats 2000000 in
seal rn Goes ans atEnd put0 putM opened putA0 oneSt st0 keep putA prt whP in
theorem shown7_any (w : World) (ht : Tab w) : Calls Tryz.prog 9 #[] w fun e w' => e = .returned (.bool true) ∧ Below w.heap.size w w' := by
  refine Goes.begin Tryz.func9 [] Tab (fun j b o h => by cases h) (by simp [Mem.ids]) ht.stay ?_
  refine Goes.run [] [] trivial ?_
  refine Goes.callG [] 10 #[strV [97, 32, 45, 32, 98, 32, 45, 32, 49, 46, 53]] fun w1 hm1 hI1 => (xexpr_any _ w1 hI1.now.2 (L := []) (fun x hx => by simp at hx)).mono fun _ w2 ⟨u, e1, hB, hS⟩ => ⟨_, fun w => Nd w u.nd shT7, e1, hB, by rw [shown_tree] at hS; exact hS, ?_⟩
  rw [shown_tree]
  refine Goes.know fun w3 hm hI => ?_
  obtain ⟨b, o, v0, _, ha, h0⟩ := Stay.kid (hI.mono fun _ h => h.2) (i := 0) rfl
  obtain ⟨b', o', v1, _, ha', h1⟩ := Stay.kid (hI.mono fun _ h => h.2) (i := 1) rfl
  rw [ha] at ha'
  cases ha'
  obtain ⟨a, c, d, rfl⟩ := hI.now.2.t6
  obtain rfl : a = some ⟨b, o, none⟩ := ha
  obtain ⟨a0, c0, d0, rfl⟩ := h0.now.2.1.t6
  obtain ⟨a1, c1, d1, rfl⟩ := h1.now.2.1.t6
  refine ⟨_, (hI.mono fun _ h => h.1.1).and (h0.and h1), ?_⟩
  refine Goes.run1 [0, 1, 0, 1, 0, 1, 0] [(true, true), (true, true), (true, true)] ⟨rfl, rfl, rfl, trivial⟩ fun g1 => ?_
  refine Goes.val (Instr.indexAt 23 (.slice (some ⟨b, o, none⟩) 2 c) (.int .i64 (0 : Nat))) (.pointer (some ⟨b, o + 0 * 5, none⟩)) (fun w' _ _ => idx24 b o 2 c 0 (by decide) w') ?_
  refine Goes.run [] [] trivial ?_
  refine Goes.val (Instr.loadAt 3 (.pointer (some ⟨b, o + 0 * 5, none⟩))) (.int .i64 13) (fun w' _ hI => cl_k hI.now.2.1.1 3 Tryz.isAgg3) ?_
  refine Goes.run [1, 0] [(true, true)] ⟨rfl, trivial⟩ ?_
  refine Goes.val (Instr.indexAt 23 (.slice (some ⟨b, o, none⟩) 2 c) (.int .i64 (1 : Nat))) (.pointer (some ⟨b, o + 1 * 5, none⟩)) (fun w' _ _ => idx24 b o 2 c 1 (by decide) w') ?_
  refine Goes.run [] [] trivial ?_
  refine Goes.val (Instr.loadAt 2 (.pointer (some ⟨b, o + 1 * 5 + 2, none⟩))) (.int .i64 1500000) (fun w' _ hI => cl_n hI.now.2.2.1 2 Tryz.isAgg2) ?_
  refine Goes.run [] [] trivial ?_
  exact Goes.ret [] (.bool true) fun w' hm hI => ⟨rfl, ch_below hI.now.1⟩
end Go.Proofs.YtommhgmlblecnaaGreatDoor
