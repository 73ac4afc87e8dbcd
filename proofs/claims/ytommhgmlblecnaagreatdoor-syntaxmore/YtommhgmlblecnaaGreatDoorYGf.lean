/- texts put together: YSim YMod YModA YModB YModC YWhole YLaw YKid YShown7 -/
import Derived.Test.YtommhgmlblecnaaGreatDoorYGc
import Derived.Test.YtommhgmlblecnaaGreatDoorYGb
import Derived.Test.YtommhgmlblecnaaGreatDoorYGe
namespace Go.Proofs.YtommhgmlblecnaaGreatDoor
open Go Go.RowKit

/-- A fault that is there stays. -/
def Kpt (s t : RS) : Prop := s.wh ≠ 0 → t.wh = s.wh ∧ t.p = s.p
theorem Kpt.refl (s : RS) : Kpt s s := fun _ => ⟨rfl, rfl⟩
theorem Kpt.trans {a b c : RS} (h : Kpt a b) (k : Kpt b c) : Kpt a c := fun hw => by
  have h1 := h hw
  have h2 := k (by rw [h1.1]; exact hw)
  exact ⟨h2.1.trans h1.1, h2.2.trans h1.2⟩
theorem Kpt.zero {a b : RS} (h : Kpt a b) (hb : b.wh = 0) : a.wh = 0 := by
  by_cases h0 : a.wh = 0
  · exact h0
  · have := (h h0).1
    rw [hb] at this
    exact this.symm
theorem Kpt.bad {a b : RS} (h : Kpt a b) (ha : a.wh = 75) : b.wh = 75 := (h (by rw [ha]; decide)).1.trans ha
section
variable (ts : List Tk)
theorem kp_fail (e a : Int) (s : RS) : Kpt s (rFail ts e a s) := fun h => by
  have : (s.wh == 0) = false := by simpa using h
  simp [rFail, this]
theorem fail_wh {e a : Int} {s : RS} (he : e ≠ 0) : (rFail ts e a s).wh ≠ 0 := by
  unfold rFail
  cases h : s.wh == 0 with
  | true => exact he
  | false => simpa using h
theorem kp_next (s : RS) : Kpt s (rNext s) := fun _ => ⟨rfl, rfl⟩
theorem kp_take (s : RS) : Kpt s (rTake ts s) := by unfold rTake; cases (tkAt ts s).k != 0 <;> exact fun _ => ⟨rfl, rfl⟩
theorem kp_want (x : List UInt8) (s : RS) : Kpt s (rWant ts x s) := by
  unfold rWant
  cases (tkAt ts s).is [x] with
  | false => exact kp_fail ts _ _ s
  | true => exact kp_next s
theorem kp_kind (k : Int) (s : RS) : Kpt s (rKind ts k s) := by
  unfold rKind
  cases (tkAt ts s).k != k with
  | false => exact kp_take ts s
  | true => exact (kp_take ts s).trans (kp_fail ts _ _ _)
theorem kp_beg (s : RS) : Kpt s (rBeg ts s) := by
  unfold rBeg
  cases (tkAt ts s).begins with
  | false => exact kp_fail ts _ _ s
  | true => exact Kpt.refl s
theorem kp_nest (n : Nat) (p : Int) (s : RS) : Kpt s (nestS ts n p s) := by
  unfold nestS
  cases decide (300 < n) with
  | true => exact kp_fail ts _ _ s
  | false => exact Kpt.refl s
theorem kp_made (d p : Int) (s : RS) : Kpt s (madeS ts d p s) := by
  unfold madeS
  cases decide (100 < d) with
  | true => exact kp_fail ts _ _ s
  | false => exact Kpt.refl s
/-- A reader keeps a fault. -/
def KpF (op : RS → TD × RS) : Prop := ∀ s, Kpt s (op s).2
variable {op : RS → TD × RS} {ex : RS → TD × RS}
theorem kp_bin (h : KpF op) (l : TD) (s : RS) : Kpt s (binP ts op l s).2 := ((kp_take ts s).trans (h _)).trans (kp_made ts _ _ _)
theorem kp_chR (h : KpF op) (ws : List (List UInt8)) : ∀ (k : Nat) (l : TD) (s : RS), Kpt s (chR ts op ws k l s).2
  | 0, _, s => Kpt.refl s
  | k + 1, l, s => by
    unfold chR
    cases (tkAt ts s).is ws with
    | false => exact Kpt.refl s
    | true => exact (kp_bin ts h l s).trans (kp_chR h ws k _ _)
theorem kp_chain (h : KpF op) (ws : List (List UInt8)) : KpF (chainP ts op ws) := fun s => (h s).trans (kp_chR ts h ws _ _ _)
theorem kp_bw {op : Nat → RS → TD × RS} (h : ∀ n, KpF (op n)) (x : List UInt8) : ∀ f n, KpF (bwP ts op x f n)
  | 0, n => h n
  | f + 1, n => fun s => by
    unfold bwP
    cases (tkAt ts s).is [x] with
    | false => exact h n s
    | true => exact (((kp_next s).trans (kp_nest ts _ _ _)).trans (kp_bw h x f (n + 1) _)).trans (kp_made ts _ _ _)
def argS (l : List TD) (s : RS) : RS := bif l.length == 8 then rFail ts 76 (tkAt ts s).a (rBeg ts s) else rBeg ts s
theorem argR_eq (ex : RS → TD × RS) (k : Nat) (l : List TD) (s : RS) : argR ts ex (k + 1) l s = bif (tkAt ts (ex (argS ts l s)).2).is [[44]] then argR ts ex k (l ++ [(ex (argS ts l s)).1]) (rNext (ex (argS ts l s)).2) else (l ++ [(ex (argS ts l s)).1], (ex (argS ts l s)).2) := rfl
theorem kp_argS (l : List TD) (s : RS) : Kpt s (argS ts l s) := by
  unfold argS
  cases l.length == 8 with
  | true => exact (kp_beg ts s).trans (kp_fail ts _ _ _)
  | false => exact kp_beg ts s
theorem kp_argR (h : KpF ex) : ∀ (k : Nat) (l : List TD) (s : RS), Kpt s (argR ts ex k l s).2
  | 0, _, s => Kpt.refl s
  | k + 1, l, s => by
    rw [argR_eq]
    have h1 := (kp_argS ts l s).trans (h _)
    cases (tkAt ts (ex (argS ts l s)).2).is [[44]] with
    | false => exact h1
    | true => exact (h1.trans (kp_next _)).trans (kp_argR h k _ _)
theorem kp_args (h : KpF ex) (s : RS) : Kpt s (argsP ts ex s).2 := (kp_argR ts h _ _ _).trans (kp_want ts _ _)
theorem kp_use (h : KpF ex) (t : Tk) : KpF (useP ts ex t) := fun s => by
  unfold useP
  cases (tkAt ts s).is [[40]] with
  | false => exact kp_made ts _ _ _
  | true => exact ((kp_next s).trans (kp_args ts h _)).trans (kp_made ts _ _ _)
theorem kp_closed (h : KpF ex) : KpF (closedP ts ex) := fun s => (h s).trans (kp_want ts _ _)
theorem kp_three (h : KpF ex) (x y : List UInt8) (s : RS) : Kpt s (three ts ex x y s).2 := ((((h s).trans (kp_want ts _ _)).trans (h _)).trans (kp_want ts _ _)).trans (h _)
theorem kp_pick (h : KpF ex) (t : Tk) : KpF (pickP ts ex t) := fun s => ((((kp_kind ts 7 s).trans (kp_want ts _ _)).trans (kp_three ts h _ _ _)).trans (kp_want ts _ _)).trans (kp_made ts _ _ _)
theorem kp_if (h : KpF ex) (t : Tk) : KpF (ifP ts ex t) := fun s => (kp_three ts h _ _ s).trans (kp_made ts _ _ _)
theorem kp_ite {c : Bool} {s : RS} {p q : TD × RS} (h1 : Kpt s p.2) (h2 : Kpt s q.2) : Kpt s (bif c then p else q).2 := by cases c; exact h2; exact h1
theorem kp_atom (h : KpF ex) : KpF (atomP ts ex) := fun s => by
  have h1 := kp_take ts s
  have hm : ∀ k x n p ks s', Kpt s s' → Kpt s (mkT ts k x n p ks s').2 := fun k x n p ks s' h => h.trans (kp_made ts _ _ _)
  unfold atomP
  exact kp_ite (hm _ _ _ _ _ _ h1) (kp_ite (hm _ _ _ _ _ _ h1) (kp_ite (hm _ _ _ _ _ _ h1) (kp_ite (h1.trans (kp_use ts h _ _)) (kp_ite (hm _ _ _ _ _ _ h1) (kp_ite (hm _ _ _ _ _ _ h1) (kp_ite (hm _ _ _ _ _ _ (h1.trans (kp_kind ts _ _))) (kp_ite (h1.trans (kp_pick ts h _ _)) (kp_ite (h1.trans (kp_closed ts h _)) (h1.trans (kp_fail ts _ _ _))))))))))
variable {en : Nat → RS → TD × RS}
theorem kp_unary (h : ∀ n, KpF (en n)) (n : Nat) : KpF (unaryP ts en n) := kp_bw ts (fun _ => kp_atom ts (h _)) _ _ _
theorem kp_prod (h : ∀ n, KpF (en n)) (n : Nat) : KpF (prodP ts en n) := kp_chain ts (kp_unary ts h n) _
theorem kp_sum (h : ∀ n, KpF (en n)) (n : Nat) : KpF (sumP ts en n) := kp_chain ts (kp_prod ts h n) _
theorem kp_rel (h : ∀ n, KpF (en n)) (n : Nat) : KpF (relP ts en n) := fun s => kp_ite ((kp_sum ts h n s).trans (kp_bin ts (kp_sum ts h n) _ _)) (kp_sum ts h n s)
theorem kp_not (h : ∀ n, KpF (en n)) (n : Nat) : KpF (notP ts en n) := kp_bw ts (kp_rel ts h) _ _ _
theorem kp_and (h : ∀ n, KpF (en n)) (n : Nat) : KpF (andP ts en n) := kp_chain ts (kp_not ts h n) _
theorem kp_or (h : ∀ n, KpF (en n)) (n : Nat) : KpF (orP ts en n) := kp_chain ts (kp_and ts h n) _
theorem kp_begS (n : Nat) (s : RS) : Kpt s (begS ts n s) := (kp_beg ts s).trans (kp_nest ts _ _ _)
theorem kp_expr : ∀ f n, KpF (exprP ts f n)
  | 0, _ => fun s => Kpt.refl s
  | f + 1, n => fun s => kp_ite (((kp_begS ts n s).trans (kp_next _)).trans (kp_if ts (kp_expr f _) _ _)) ((kp_begS ts n s).trans (kp_or ts (kp_expr f) _ _))
end
/-- Two rows, alike one by one. -/
inductive All2 {α : Type} (R : α → α → Prop) : List α → List α → Prop
  | nil : All2 R [] []
  | cons {a b : α} {l m : List α} : R a b → All2 R l m → All2 R (a :: l) (b :: m)
theorem All2.len {α : Type} {R : α → α → Prop} {l m : List α} (h : All2 R l m) : l.length = m.length := by induction h with
  | nil => rfl
  | cons _ _ ih => simp [ih]
theorem All2.snoc {α : Type} {R : α → α → Prop} {l m : List α} {a b : α} (h : All2 R l m) (hab : R a b) : All2 R (l ++ [a]) (m ++ [b]) := by induction h with
  | nil => exact .cons hab .nil
  | cons h1 _ ih => exact .cons h1 ih
/-- What may stand behind an expression. -/
def Stop (t : Tk) : Prop := t.k = 0 ∨ t.k = 1 ∧ (t.tx = [59] ∨ t.tx = [41] ∨ t.tx = [108, 101, 116])
structure TkE (PE : Int → Int → Prop) (t t' : Tk) : Prop where
  k : t.k = t'.k
  tx : t.tx = t'.tx
  n : t.n = t'.n
  a : PE t.a t'.a
/-- Two rows of tokens that are alike from 0 and from d on, up to the end of the first one. -/
structure Alike (PE : Int → Int → Prop) (ts ts' : List Tk) (d : Nat) : Prop where
  tok : ∀ i, i + 1 < ts.length → TkE PE (ts.getD i tk0) (ts'.getD (i + d) tk0)
  last : (ts.getD (ts.length - 1) tk0).k = 0
  pos : 0 < ts.length
  len : ts.length + d ≤ ts'.length
  stop : Stop (ts'.getD (ts.length - 1 + d) tk0)
structure Mt (ts : List Tk) (d : Nat) (s s' : RS) : Prop where
  w : s.wh = 0
  w' : s'.wh = 0
  i : s'.i = s.i + d
  lt : s.i < ts.length
structure DE (TE : Tr → Tr → Prop) (a b : TD) : Prop where
  d : a.d = b.d
  t : TE a.t b.t
def nostop (ws : List (List UInt8)) : Bool := !(ws.contains [59]) && !(ws.contains [41]) && !(ws.contains [108, 101, 116])
section
variable {PE : Int → Int → Prop} {TE : Tr → Tr → Prop} (hTE : ∀ k x n ks ks' p p', All2 TE ks ks' → PE p p' → TE (.mk k x n ks p) (.mk k x n ks' p')) {ts ts' : List Tk} {d : Nat} (H : Alike PE ts ts' d) {X : Prop}
theorem TkE.is {t t' : Tk} (h : TkE PE t t') (ws : List (List UInt8)) : t.is ws = t'.is ws := by unfold Tk.is; rw [h.k, h.tx]
theorem TkE.begins {t t' : Tk} (h : TkE PE t t') : t.begins = t'.begins := by unfold Tk.begins; rw [h.k, h.is]
include H in
theorem at_last {s s' : RS} (h : Mt ts d s s') : (s.i + 1 < ts.length ∧ TkE PE (tkAt ts s) (tkAt ts' s')) ∨ (s.i + 1 = ts.length ∧ (tkAt ts s).k = 0 ∧ Stop (tkAt ts' s')) := by
  have h1 := h.lt
  rcases Nat.lt_or_ge (s.i + 1) ts.length with h2 | h2
  · refine .inl ⟨h2, ?_⟩
    have := H.tok s.i h2
    unfold tkAt
    rw [h.i]
    exact this
  · have e : s.i = ts.length - 1 := by omega
    refine .inr ⟨by omega, ?_, ?_⟩
    · unfold tkAt
      rw [e]
      exact H.last
    · unfold tkAt
      rw [h.i, e]
      exact H.stop
theorem is_end {t : Tk} (h : t.k = 0) (ws : List (List UInt8)) : t.is ws = false := by unfold Tk.is; rw [h]; rfl
theorem is_stop {t : Tk} (h : Stop t) {ws : List (List UInt8)} (hn : nostop ws = true) : t.is ws = false := by
  rcases h with h | ⟨-, h⟩
  · exact is_end h ws
  · unfold nostop at hn
    simp only [Bool.and_eq_true, Bool.not_eq_true', List.contains_eq_mem, decide_eq_false_iff_not] at hn
    unfold Tk.is
    rw [Bool.and_eq_false_iff]
    refine .inr (List.any_eq_false.2 fun x hx => ?_)
    simp only [decide_eq_true_eq]
    intro e
    rw [e] at h
    rcases h with h | h | h <;> rw [h] at hx
    · exact hn.1.1 hx
    · exact hn.1.2 hx
    · exact hn.2 hx
include H in
theorem is_alike {s s' : RS} (h : Mt ts d s s') {ws : List (List UInt8)} (hn : nostop ws = true) : (tkAt ts s).is ws = (tkAt ts' s').is ws := by
  rcases at_last H h with ⟨-, h1⟩ | ⟨-, h1, h2⟩
  · exact h1.is ws
  · rw [is_end h1, is_stop h2 hn]
include H in
theorem is_true {s s' : RS} (h : Mt ts d s s') {ws : List (List UInt8)} (hw : (tkAt ts s).is ws = true) : s.i + 1 < ts.length ∧ TkE PE (tkAt ts s) (tkAt ts' s') := by
  rcases at_last H h with h1 | ⟨-, h1, -⟩
  · exact h1
  · rw [is_end h1] at hw; cases hw
theorem Mt.next {s s' : RS} (h : Mt ts d s s') (hl : s.i + 1 < ts.length) : Mt ts d (rNext s) (rNext s') := ⟨h.w, h.w', by simp only [rNext, h.i]; omega, hl⟩
include H in
theorem sim_want {s s' : RS} (h : Mt ts d s s') (x : List UInt8) (hz : (rWant ts x s).wh = 0) : Mt ts d (rWant ts x s) (rWant ts' x s') ∧ s.i + 1 = (rWant ts x s).i := by
  unfold rWant at hz ⊢
  cases hw : (tkAt ts s).is [x] with
  | false => rw [hw] at hz; exact absurd hz (fail_wh ts (by decide))
  | true =>
    obtain ⟨h1, h2⟩ := is_true H h hw
    rw [← h2.is, hw]
    exact ⟨h.next h1, rfl⟩
include H in
theorem sim_kind {s s' : RS} (h : Mt ts d s s') {k : Int} (hk : k ≠ 0) (hz : (rKind ts k s).wh = 0) : Mt ts d (rKind ts k s) (rKind ts' k s') ∧ s.i + 1 = (rKind ts k s).i ∧ TkE PE (tkAt ts s) (tkAt ts' s') ∧ (tkAt ts s).k = k := by
  unfold rKind at hz ⊢
  cases hw : (tkAt ts s).k != k with
  | true => rw [hw] at hz; exact absurd hz (fail_wh ts (by decide))
  | false =>
    have e : (tkAt ts s).k = k := by simpa using hw
    rcases at_last H h with ⟨h1, h2⟩ | ⟨-, h1, -⟩
    · rw [← h2.k, hw]
      have e1 : ((tkAt ts s).k != 0) = true := by rw [e]; simpa using hk
      have e2 : ((tkAt ts' s').k != 0) = true := by rw [← h2.k]; exact e1
      simp only [cond_false, rTake, e1, e2, cond_true]
      exact ⟨h.next h1, rfl, h2, e⟩
    · rw [h1] at e; exact absurd e.symm hk
theorem dmax_alike : ∀ {ks ks' : List TD}, All2 (DE TE) ks ks' → dep1 ks = dep1 ks' := by
  intro ks ks' h
  have : ks.map (·.d) = ks'.map (·.d) := by
    induction h with
    | nil => rfl
    | cons h1 _ ih => simp only [List.map_cons, ih, h1.d]
  unfold dep1 dmaxT
  rw [this]
theorem trees_alike : ∀ {ks ks' : List TD}, All2 (DE TE) ks ks' → All2 TE (ks.map (·.t)) (ks'.map (·.t)) := by
  intro ks ks' h
  induction h with
  | nil => exact .nil
  | cons h1 _ ih => exact .cons h1.t ih
include hTE in
theorem sim_made {s s' : RS} (h : Mt ts d s s') {k : Int} {x x' : List UInt8} {n n' : Int} {p p' : Int} {ks ks' : List TD} (hk : All2 (DE TE) ks ks') (hx : x = x') (hn : n = n') (hp : PE p p') (hz : (mkT ts k x n p ks s).2.wh = 0) : Mt ts d (mkT ts k x n p ks s).2 (mkT ts' k x' n' p' ks' s').2 ∧ (mkT ts k x n p ks s).2 = s ∧ DE TE (mkT ts k x n p ks s).1 (mkT ts' k x' n' p' ks' s').1 := by
  subst hx
  subst hn
  unfold mkT at hz ⊢
  simp only at hz ⊢
  rw [← dmax_alike hk]
  unfold madeS at hz ⊢
  cases hd : decide (100 < dep1 ks) with
  | true => rw [hd] at hz; exact absurd hz (fail_wh ts (by decide))
  | false => exact ⟨h, rfl, rfl, hTE _ _ _ _ _ _ _ (trees_alike hk) hp⟩
variable (X) in
/-- Two readers that read alike. -/
structure Sim (TE : Tr → Tr → Prop) (ts : List Tk) (d : Nat) (op op' : RS → TD × RS) : Prop where
  kp : KpF op
  kp' : KpF op'
  go : ∀ s s', Mt ts d s s' → (op s).2.wh = 0 → (X ∧ (op' s').2.wh = 75) ∨ (Mt ts d (op s).2 (op' s').2 ∧ s.i ≤ (op s).2.i ∧ DE TE (op s).1 (op' s').1)
include hTE H in
theorem sim_bin {op op' : RS → TD × RS} (h : Sim X TE ts d op op') {s s' : RS} (hM : Mt ts d s s') {ws : List (List UInt8)} (hw : (tkAt ts s).is ws = true) {l l' : TD} (hl : DE TE l l') (hz : (binP ts op l s).2.wh = 0) :
    (X ∧ (binP ts' op' l' s').2.wh = 75) ∨ (Mt ts d (binP ts op l s).2 (binP ts' op' l' s').2 ∧ s.i + 1 ≤ (binP ts op l s).2.i ∧ DE TE (binP ts op l s).1 (binP ts' op' l' s').1) := by
  obtain ⟨h1, h2⟩ := is_true H hM hw
  have hk : (tkAt ts s).k = 1 := by
    unfold Tk.is at hw
    rw [Bool.and_eq_true] at hw
    simpa using hw.1
  have e1 : rTake ts s = rNext s := by unfold rTake; rw [hk]; rfl
  have e2 : rTake ts' s' = rNext s' := by unfold rTake; rw [← h2.k, hk]; rfl
  unfold binP at hz ⊢
  rw [e1] at hz ⊢
  rw [e2]
  have hz1 := (kp_made ts _ _ _).zero hz
  rcases h.go _ _ (hM.next h1) hz1 with ⟨hX, h3⟩ | ⟨h3, h4, h5⟩
  · exact .inl ⟨hX, (kp_made ts' _ _ _).bad h3⟩
  · obtain ⟨h6, h7, h8⟩ := sim_made hTE h3 (k := 13) (x := (tkAt ts s).tx) (n := 0) (.cons hl (.cons h5 .nil)) h2.tx rfl h2.a hz
    refine .inr ⟨h6, ?_, h8⟩
    rw [h7]
    exact h4
include hTE H in
theorem sim_chR {op op' : RS → TD × RS} (h : Sim X TE ts d op op') {ws : List (List UInt8)} (hn : nostop ws = true) : ∀ (k k' : Nat) (l l' : TD) (s s' : RS), Mt ts d s s' → DE TE l l' → ts.length ≤ k + s.i → ts'.length ≤ k' + s'.i → (chR ts op ws k l s).2.wh = 0 →
    (X ∧ (chR ts' op' ws k' l' s').2.wh = 75) ∨ (Mt ts d (chR ts op ws k l s).2 (chR ts' op' ws k' l' s').2 ∧ s.i ≤ (chR ts op ws k l s).2.i ∧ DE TE (chR ts op ws k l s).1 (chR ts' op' ws k' l' s').1)
  | 0, _, _, _, s, _, hM, _, hk, _, _ => by have := hM.lt; omega
  | k + 1, 0, _, _, s, s', hM, _, _, hk', _ => by have := hM.lt; have := hM.i; have := H.len; omega
  | k + 1, k' + 1, l, l', s, s', hM, hl, hk, hk', hz => by
    unfold chR at hz ⊢
    rw [← is_alike H hM hn]
    cases hw : (tkAt ts s).is ws with
    | false => exact .inr ⟨hM, Nat.le_refl _, hl⟩
    | true =>
      rw [hw] at hz
      simp only [cond_true] at hz ⊢
      rcases sim_bin hTE H h hM hw hl ((kp_chR ts h.kp ws k _ _).zero hz) with ⟨hX, h3⟩ | ⟨h3, h4, h5⟩
      · exact .inl ⟨hX, (kp_chR ts' h.kp' ws k' _ _).bad h3⟩
      · have h6 := h3.i
        have h7 := hM.i
        rcases sim_chR h hn k k' _ _ _ _ h3 h5 (by omega) (by omega) hz with h8 | ⟨h8, h9, h10⟩
        · exact .inl h8
        · exact .inr ⟨h8, by omega, h10⟩
include hTE H in
theorem sim_chain {op op' : RS → TD × RS} (h : Sim X TE ts d op op') {ws : List (List UInt8)} (hn : nostop ws = true) : Sim X TE ts d (chainP ts op ws) (chainP ts' op' ws) := by
  refine ⟨kp_chain ts h.kp ws, kp_chain ts' h.kp' ws, fun s s' hM hz => ?_⟩
  rcases h.go s s' hM ((kp_chR ts h.kp ws _ _ _).zero hz) with ⟨hX, h3⟩ | ⟨h3, h4, h5⟩
  · exact .inl ⟨hX, (kp_chR ts' h.kp' ws _ _ _).bad h3⟩
  · rcases sim_chR hTE H h hn ts.length ts'.length _ _ _ _ h3 h5 (by omega) (by omega) hz with h8 | ⟨h8, h9, h10⟩
    · exact .inl h8
    · exact .inr ⟨h8, Nat.le_trans h4 h9, h10⟩
variable (X) in
/-- The same, with nests. -/
def SimN (TE : Tr → Tr → Prop) (ts : List Tk) (d lo lo' : Nat) (op op' : Nat → RS → TD × RS) : Prop := ∀ m m', lo ≤ m → lo' ≤ m' → m ≤ 300 → m' ≤ 300 → m ≤ m' → (m' = m ∨ X) → Sim X TE ts d (op m) (op' m')
theorem nest_ok {ts : List Tk} {m : Nat} {p : Int} {s : RS} (hz : (nestS ts m p s).wh = 0) : m ≤ 300 ∧ nestS ts m p s = s := by
  unfold nestS at hz ⊢
  cases h : decide (300 < m) with
  | true => rw [h] at hz; exact absurd hz (fail_wh ts (by decide))
  | false => exact ⟨by have := of_decide_eq_false h; omega, rfl⟩
theorem nest_bad {ts : List Tk} {m : Nat} {p : Int} {s : RS} (hm : 300 < m) (hs : s.wh = 0) : (nestS ts m p s).wh = 75 := by
  unfold nestS rFail
  rw [decide_eq_true hm, hs]
  rfl
theorem nest_good {ts : List Tk} {m : Nat} {p : Int} {s : RS} (hm : m ≤ 300) : nestS ts m p s = s := by
  unfold nestS
  rw [decide_eq_false (by omega)]
  rfl
include hTE H in
theorem sim_bw {op op' : Nat → RS → TD × RS} (hk : ∀ n, KpF (op n)) (hk' : ∀ n, KpF (op' n)) {lo lo' : Nat} (h : SimN X TE ts d lo lo' op op') {x : List UInt8} (hn : nostop [x] = true) : ∀ (f f' m m' : Nat), lo ≤ m → lo' ≤ m' → 301 ≤ f + m → 301 ≤ f' + m' → m ≤ 300 → m' ≤ 300 → m ≤ m' → (m' = m ∨ X) → Sim X TE ts d (bwP ts op x f m) (bwP ts' op' x f' m')
  | 0, _, m, m', _, _, h1, _, h3, _, _, _ => by omega
  | f + 1, 0, m, m', _, _, _, h2, _, h4, _, _ => by omega
  | f + 1, f' + 1, m, m', l1, l2, h1, h2, h3, h4, h5, h6 => by
    refine ⟨kp_bw ts hk x _ _, kp_bw ts' hk' x _ _, fun s s' hM hz => ?_⟩
    unfold bwP at hz ⊢
    rw [← is_alike H hM hn]
    cases hw : (tkAt ts s).is [x] with
    | false =>
      rw [hw] at hz
      exact (h m m' l1 l2 h3 h4 h5 h6).go s s' hM hz
    | true =>
      rw [hw] at hz
      simp only [cond_true] at hz ⊢
      obtain ⟨g1, g2⟩ := is_true H hM hw
      have hz1 := (kp_made ts _ _ _).zero hz
      obtain ⟨n1, n2⟩ := nest_ok ((kp_bw ts hk x _ _ _).zero hz1)
      rw [n2] at hz hz1 ⊢
      rcases Nat.lt_or_ge 300 (m' + 1) with hb | hb
      · have hX : X := by
          rcases h6 with h6 | h6
          · omega
          · exact h6
        exact .inl ⟨hX, (kp_made ts' _ _ _).bad ((kp_bw ts' hk' x _ _ _).bad (nest_bad hb hM.w'))⟩
      · rw [nest_good hb]
        rcases (sim_bw hk hk' h hn f f' (m + 1) (m' + 1) (by omega) (by omega) (by omega) (by omega) n1 hb (by omega) (by rcases h6 with h6 | h6; exact .inl (by omega); exact .inr h6)).go _ _ (hM.next g1) hz1 with ⟨hX, h7⟩ | ⟨h7, h8, h9⟩
        · exact .inl ⟨hX, (kp_made ts' _ _ _).bad h7⟩
        · obtain ⟨h10, h11, h12⟩ := sim_made hTE h7 (k := 12) (x := (tkAt ts s).tx) (n := 0) (.cons h9 .nil) g2.tx rfl g2.a hz
          refine .inr ⟨h10, ?_, h12⟩
          rw [h11]
          have : (rNext s).i = s.i + 1 := rfl
          omega
include H in
theorem beg_ok {s s' : RS} (hM : Mt ts d s s') (hz : (rBeg ts s).wh = 0) : rBeg ts s = s ∧ rBeg ts' s' = s' ∧ s.i + 1 < ts.length ∧ TkE PE (tkAt ts s) (tkAt ts' s') := by
  unfold rBeg at hz ⊢
  cases hb : (tkAt ts s).begins with
  | false => rw [hb] at hz; exact absurd hz (fail_wh ts (by decide))
  | true =>
    rcases at_last H hM with ⟨h1, h2⟩ | ⟨-, h1, -⟩
    · rw [← h2.begins, hb]
      exact ⟨rfl, rfl, h1, h2⟩
    · unfold Tk.begins at hb
      rw [h1] at hb
      cases hb
include H in
theorem sim_argR {ex ex' : RS → TD × RS} (h : Sim X TE ts d ex ex') : ∀ (k k' : Nat) (l l' : List TD) (s s' : RS), Mt ts d s s' → All2 (DE TE) l l' → ts.length ≤ k + s.i → ts'.length ≤ k' + s'.i → (argR ts ex k l s).2.wh = 0 →
    (X ∧ (argR ts' ex' k' l' s').2.wh = 75) ∨ (Mt ts d (argR ts ex k l s).2 (argR ts' ex' k' l' s').2 ∧ s.i ≤ (argR ts ex k l s).2.i ∧ All2 (DE TE) (argR ts ex k l s).1 (argR ts' ex' k' l' s').1)
  | 0, _, _, _, s, _, hM, _, hk, _, _ => by have := hM.lt; omega
  | k + 1, 0, _, _, s, s', hM, _, _, hk', _ => by have := hM.lt; have := hM.i; have := H.len; omega
  | k + 1, k' + 1, l, l', s, s', hM, hl, hk, hk', hz => by
    rw [argR_eq] at hz ⊢
    rw [argR_eq]
    have hz1 : (ex (argS ts l s)).2.wh = 0 := by
      cases hw : (tkAt ts (ex (argS ts l s)).2).is [[44]] with
      | false => rw [hw] at hz; exact hz
      | true => rw [hw] at hz; exact ((kp_next _).trans (kp_argR ts h.kp k _ _)).zero hz
    have hz2 := (h.kp _).zero hz1
    have e1 : argS ts l s = s ∧ argS ts' l' s' = s' := by
      unfold argS at hz2 ⊢
      rw [← hl.len]
      cases h8 : l.length == 8 with
      | true => rw [h8] at hz2; exact absurd hz2 (fail_wh ts (by decide))
      | false =>
        rw [h8] at hz2
        obtain ⟨e1, e2, -⟩ := beg_ok H hM hz2
        exact ⟨e1, e2⟩
    rw [e1.1] at hz hz1 ⊢
    rw [e1.2]
    rcases h.go s s' hM hz1 with ⟨hX, h3⟩ | ⟨h3, h4, h5⟩
    · refine .inl ⟨hX, ?_⟩
      cases (tkAt ts' (ex' s').2).is [[44]] with
      | false => exact h3
      | true => exact ((kp_next _).trans (kp_argR ts' h.kp' k' _ _)).bad h3
    · rw [← is_alike H h3 (ws := [[44]]) (by decide)]
      cases hw : (tkAt ts (ex s).2).is [[44]] with
      | false => exact .inr ⟨h3, h4, hl.snoc h5⟩
      | true =>
        rw [hw] at hz
        simp only [cond_true] at hz ⊢
        obtain ⟨g1, -⟩ := is_true H h3 hw
        have h6 := h3.i
        have h7 := hM.i
        have e3 : (rNext (ex s).2).i = (ex s).2.i + 1 := rfl
        have e4 : (rNext (ex' s').2).i = (ex' s').2.i + 1 := rfl
        rcases sim_argR h k k' _ _ _ _ (h3.next g1) (hl.snoc h5) (by omega) (by omega) hz with h8 | ⟨h8, h9, h10⟩
        · exact .inl h8
        · exact .inr ⟨h8, by omega, h10⟩
include hTE H in
theorem sim_use {ex ex' : RS → TD × RS} (h : Sim X TE ts d ex ex') {t t' : Tk} (ht : TkE PE t t') : Sim X TE ts d (useP ts ex t) (useP ts' ex' t') := by
  refine ⟨kp_use ts h.kp t, kp_use ts' h.kp' t', fun s s' hM hz => ?_⟩
  unfold useP at hz ⊢
  rw [← is_alike H hM (ws := [[40]]) (by decide)]
  cases hw : (tkAt ts s).is [[40]] with
  | false =>
    rw [hw] at hz
    obtain ⟨h1, h2, h3⟩ := sim_made hTE hM (k := 10) (x := t.tx) (n := 0) .nil ht.tx rfl ht.a hz
    exact .inr ⟨h1, by simp only [cond_false]; rw [h2]; exact Nat.le_refl _, h3⟩
  | true =>
    rw [hw] at hz
    simp only [cond_true] at hz ⊢
    obtain ⟨g1, -⟩ := is_true H hM hw
    have hz1 := (kp_made ts _ _ _).zero hz
    unfold argsP at hz hz1 ⊢
    have hz2 := (kp_want ts _ _).zero hz1
    have e3 : (rNext s).i = s.i + 1 := rfl
    have e4 : (rNext s').i = s'.i + 1 := rfl
    rcases sim_argR H h (ts.length + 1) (ts'.length + 1) [] [] _ _ (hM.next g1) .nil (by omega) (by omega) hz2 with ⟨hX, h3⟩ | ⟨h3, h4, h5⟩
    · exact .inl ⟨hX, (kp_made ts' _ _ _).bad ((kp_want ts' _ _).bad h3)⟩
    · obtain ⟨h6, h7⟩ := sim_want H h3 [41] hz1
      obtain ⟨h8, h9, h10⟩ := sim_made hTE h6 (k := 11) (x := t.tx) (n := 0) h5 ht.tx rfl ht.a hz
      refine .inr ⟨h8, ?_, h10⟩
      rw [h9]
      omega
include H in
theorem sim_closed {ex ex' : RS → TD × RS} (h : Sim X TE ts d ex ex') : Sim X TE ts d (closedP ts ex) (closedP ts' ex') := by
  refine ⟨kp_closed ts h.kp, kp_closed ts' h.kp', fun s s' hM hz => ?_⟩
  unfold closedP at hz ⊢
  have hz1 := (kp_want ts _ _).zero hz
  rcases h.go s s' hM hz1 with ⟨hX, h3⟩ | ⟨h3, h4, h5⟩
  · exact .inl ⟨hX, (kp_want ts' _ _).bad h3⟩
  · obtain ⟨h6, h7⟩ := sim_want H h3 [41] hz
    exact .inr ⟨h6, by simp only; omega, h5⟩
include H in
theorem sim_three {ex ex' : RS → TD × RS} (h : Sim X TE ts d ex ex') (x y : List UInt8) {s s' : RS} (hM : Mt ts d s s') (hz : (three ts ex x y s).2.wh = 0) :
    (X ∧ (three ts' ex' x y s').2.wh = 75) ∨ (Mt ts d (three ts ex x y s).2 (three ts' ex' x y s').2 ∧ s.i ≤ (three ts ex x y s).2.i ∧ All2 (DE TE) (three ts ex x y s).1 (three ts' ex' x y s').1) := by
  unfold three at hz ⊢
  simp only at hz ⊢
  have z4 := (h.kp _).zero hz
  have z3 := (kp_want ts _ _).zero z4
  have z2 := (h.kp _).zero z3
  have z1 := (kp_want ts _ _).zero z2
  rcases h.go s s' hM z1 with ⟨hX, h1⟩ | ⟨h1, h2, h3⟩
  · exact .inl ⟨hX, ((((kp_want ts' _ _).trans (h.kp' _)).trans (kp_want ts' _ _)).trans (h.kp' _)).bad h1⟩
  · obtain ⟨h4, h5⟩ := sim_want H h1 x z2
    rcases h.go _ _ h4 z3 with ⟨hX, h6⟩ | ⟨h6, h7, h8⟩
    · exact .inl ⟨hX, ((kp_want ts' _ _).trans (h.kp' _)).bad h6⟩
    · obtain ⟨h9, h10⟩ := sim_want H h6 y z4
      rcases h.go _ _ h9 hz with h11 | ⟨h11, h12, h13⟩
      · exact .inl h11
      · exact .inr ⟨h11, by omega, .cons h3 (.cons h8 (.cons h13 .nil))⟩
include hTE H in
theorem sim_pick {ex ex' : RS → TD × RS} (h : Sim X TE ts d ex ex') {t t' : Tk} (ht : TkE PE t t') : Sim X TE ts d (pickP ts ex t) (pickP ts' ex' t') := by
  refine ⟨kp_pick ts h.kp t, kp_pick ts' h.kp' t', fun s s' hM hz => ?_⟩
  unfold pickP at hz ⊢
  simp only at hz ⊢
  have z4 := (kp_made ts _ _ _).zero hz
  have z3 := (kp_want ts _ _).zero z4
  have z2 := (kp_three ts h.kp _ _ _).zero z3
  have z1 := (kp_want ts _ _).zero z2
  obtain ⟨h1, h2, h3, -⟩ := sim_kind H hM (by decide) z1
  obtain ⟨h4, h5⟩ := sim_want H h1 [40] z2
  rcases sim_three H h [44] [44] h4 z3 with ⟨hX, h6⟩ | ⟨h6, h7, h8⟩
  · exact .inl ⟨hX, (kp_made ts' _ _ _).bad ((kp_want ts' _ _).bad h6)⟩
  · obtain ⟨h9, h10⟩ := sim_want H h6 [41] z4
    obtain ⟨h11, h12, h13⟩ := sim_made hTE h9 (k := 15) (x := (tkAt ts s).tx) (n := 0) h8 h3.tx rfl ht.a hz
    refine .inr ⟨h11, ?_, h13⟩
    rw [h12]
    omega
include hTE H in
theorem sim_if {ex ex' : RS → TD × RS} (h : Sim X TE ts d ex ex') {t t' : Tk} (ht : TkE PE t t') : Sim X TE ts d (ifP ts ex t) (ifP ts' ex' t') := by
  refine ⟨kp_if ts h.kp t, kp_if ts' h.kp' t', fun s s' hM hz => ?_⟩
  unfold ifP at hz ⊢
  simp only at hz ⊢
  have z1 := (kp_made ts _ _ _).zero hz
  rcases sim_three H h wThen wElse hM z1 with ⟨hX, h6⟩ | ⟨h6, h7, h8⟩
  · exact .inl ⟨hX, (kp_made ts' _ _ _).bad h6⟩
  · obtain ⟨h11, h12, h13⟩ := sim_made hTE h6 (k := 14) (x := []) (n := 0) h8 rfl rfl ht.a hz
    refine .inr ⟨h11, ?_, h13⟩
    rw [h12]
    exact h7
include hTE H in
theorem sim_atom {ex ex' : RS → TD × RS} (h : Sim X TE ts d ex ex') : Sim X TE ts d (atomP ts ex) (atomP ts' ex') := by
  refine ⟨kp_atom ts h.kp, kp_atom ts' h.kp', fun s s' hM hz => ?_⟩
  rcases at_last H hM with ⟨h1, ht⟩ | ⟨-, h1, -⟩
  · unfold atomP at hz ⊢
    simp only at hz ⊢
    cases hk0 : (tkAt ts s).k != 0 with
    | false =>
      exfalso
      have e : (tkAt ts s).k = 0 := by simpa using hk0
      rw [e] at hz
      simp only [is_end e, cond_false] at hz
      exact fail_wh ts (by decide) hz
    | true =>
    have e1 : rTake ts s = rNext s := by unfold rTake; rw [hk0]; rfl
    have e2 : rTake ts' s' = rNext s' := by unfold rTake; rw [← ht.k, hk0]; rfl
    have hM1 := hM.next h1
    have e3 : (rNext s).i = s.i + 1 := rfl
    rw [e1] at hz ⊢
    rw [e2]
    simp only [← ht.k, ← ht.is] at hz ⊢
    have leaf : ∀ {k : Int} {x x' : List UInt8} {n n' : Int} (hx : x = x') (hn : n = n') (hz : (mkT ts k x n (tkAt ts s).a [] (rNext s)).2.wh = 0), (X ∧ (mkT ts' k x' n' (tkAt ts' s').a [] (rNext s')).2.wh = 75) ∨ (Mt ts d (mkT ts k x n (tkAt ts s).a [] (rNext s)).2 (mkT ts' k x' n' (tkAt ts' s').a [] (rNext s')).2 ∧ s.i ≤ (mkT ts k x n (tkAt ts s).a [] (rNext s)).2.i ∧ DE TE (mkT ts k x n (tkAt ts s).a [] (rNext s)).1 (mkT ts' k x' n' (tkAt ts' s').a [] (rNext s')).1) := by
      intro k x x' n n' hx hn hz
      obtain ⟨h2, h3, h4⟩ := sim_made hTE hM1 (k := k) .nil hx hn ht.a hz
      exact .inr ⟨h2, by rw [h3]; omega, h4⟩
    have sub : ∀ {op op' : RS → TD × RS}, Sim X TE ts d op op' → (op (rNext s)).2.wh = 0 → (X ∧ (op' (rNext s')).2.wh = 75) ∨ (Mt ts d (op (rNext s)).2 (op' (rNext s')).2 ∧ s.i ≤ (op (rNext s)).2.i ∧ DE TE (op (rNext s)).1 (op' (rNext s')).1) := by
      intro op op' hs hz
      rcases hs.go _ _ hM1 hz with h2 | ⟨h2, h3, h4⟩
      · exact .inl h2
      · exact .inr ⟨h2, by omega, h4⟩
    cases c6 : (tkAt ts s).k == 6 with
    | true => rw [c6] at hz; exact leaf rfl ht.n hz
    | false =>
    cases c5 : (tkAt ts s).k == 5 with
    | true => rw [c6, c5] at hz; exact leaf rfl ht.n hz
    | false =>
    cases c4 : (tkAt ts s).k == 4 with
    | true => rw [c6, c5, c4] at hz; exact leaf ht.tx rfl hz
    | false =>
    cases c2 : ((tkAt ts s).k == 2 || (tkAt ts s).k == 3) with
    | true => rw [c6, c5, c4, c2] at hz; exact sub (sim_use hTE H h ht) hz
    | false =>
    cases cT : (tkAt ts s).is [wTrue] with
    | true => rw [c6, c5, c4, c2, cT] at hz; exact leaf rfl rfl hz
    | false =>
    cases cF : (tkAt ts s).is [wFalse] with
    | true => rw [c6, c5, c4, c2, cT, cF] at hz; exact leaf rfl rfl hz
    | false =>
    cases cE : (tkAt ts s).is [wFeed] with
    | true =>
      rw [c6, c5, c4, c2, cT, cF, cE] at hz
      simp only [cond_true, cond_false] at hz ⊢
      obtain ⟨h2, h3, h4, -⟩ := sim_kind H hM1 (by decide) ((kp_made ts _ _ _).zero hz)
      obtain ⟨h5, h6, h7⟩ := sim_made hTE h2 (k := 9) (x := (tkAt ts (rNext s)).tx) (n := 0) .nil h4.tx rfl ht.a hz
      exact .inr ⟨h5, by rw [h6]; omega, h7⟩
    | false =>
    cases cP : (tkAt ts s).is [wPick] with
    | true => rw [c6, c5, c4, c2, cT, cF, cE, cP] at hz; exact sub (sim_pick hTE H h ht) hz
    | false =>
    cases cO : (tkAt ts s).is [[40]] with
    | true => rw [c6, c5, c4, c2, cT, cF, cE, cP, cO] at hz; exact sub (sim_closed H h) hz
    | false =>
      rw [c6, c5, c4, c2, cT, cF, cE, cP, cO] at hz
      exact absurd hz (fail_wh ts (by decide))
  · exfalso
    unfold atomP at hz
    simp only at hz
    rw [h1] at hz
    simp only [is_end h1, cond_false] at hz
    exact fail_wh ts (by decide) hz
variable (X) in
def SimE (TE : Tr → Tr → Prop) (ts : List Tk) (d lo lo' : Nat) (en en' : Nat → RS → TD × RS) : Prop := (∀ n, KpF (en n)) ∧ (∀ n, KpF (en' n)) ∧ ∀ m m', lo ≤ m → lo' ≤ m' → m ≤ 300 → m' ≤ 300 → m ≤ m' → (m' = m ∨ X) → Sim X TE ts d (en (m + 1)) (en' (m' + 1))
variable {en en' : Nat → RS → TD × RS} {lo lo' : Nat}
include hTE H in
theorem sim_unary (h : SimE X TE ts d lo lo' en en') : SimN X TE ts d lo lo' (unaryP ts en) (unaryP ts' en') := fun m m' l1 l2 h1 h2 h3 h4 =>
  sim_bw hTE H (fun _ => kp_atom ts (h.1 _)) (fun _ => kp_atom ts' (h.2.1 _)) (fun n n' l1 l2 h1 h2 h3 h4 => sim_atom hTE H (h.2.2 n n' l1 l2 h1 h2 h3 h4)) (by decide) 400 400 m m' l1 l2 (by omega) (by omega) h1 h2 h3 h4
include hTE H in
theorem sim_sum (h : SimE X TE ts d lo lo' en en') : SimN X TE ts d lo lo' (sumP ts en) (sumP ts' en') := fun m m' l1 l2 h1 h2 h3 h4 =>
  sim_chain hTE H (sim_chain hTE H (sim_unary hTE H h m m' l1 l2 h1 h2 h3 h4) (by decide)) (by decide)
include hTE H in
theorem sim_rel (h : SimE X TE ts d lo lo' en en') : SimN X TE ts d lo lo' (relP ts en) (relP ts' en') := by
  intro m m' l1 l2 h1 h2 h3 h4
  have hs := sim_sum hTE H h m m' l1 l2 h1 h2 h3 h4
  refine ⟨kp_rel ts h.1 m, kp_rel ts' h.2.1 m', fun s s' hM hz => ?_⟩
  unfold relP at hz ⊢
  have z1 : (sumP ts en m s).2.wh = 0 := by
    cases hw : (tkAt ts (sumP ts en m s).2).is [[60], [60, 61], [61]] with
    | false => rw [hw] at hz; exact hz
    | true => rw [hw] at hz; exact (kp_bin ts hs.kp _ _).zero hz
  rcases hs.go s s' hM z1 with ⟨hX, h5⟩ | ⟨h5, h6, h7⟩
  · refine .inl ⟨hX, ?_⟩
    cases (tkAt ts' (sumP ts' en' m' s').2).is [[60], [60, 61], [61]] with
    | false => exact h5
    | true => exact (kp_bin ts' hs.kp' _ _).bad h5
  · rw [← is_alike H h5 (ws := [[60], [60, 61], [61]]) (by decide)]
    cases hw : (tkAt ts (sumP ts en m s).2).is [[60], [60, 61], [61]] with
    | false => exact .inr ⟨h5, h6, h7⟩
    | true =>
      rw [hw] at hz
      rcases sim_bin hTE H hs h5 hw h7 hz with h8 | ⟨h8, h9, h10⟩
      · exact .inl h8
      · exact .inr ⟨h8, by simp only [cond_true]; omega, h10⟩
include hTE H in
theorem sim_or (h : SimE X TE ts d lo lo' en en') : SimN X TE ts d lo lo' (orP ts en) (orP ts' en') := fun m m' l1 l2 h1 h2 h3 h4 =>
  sim_chain hTE H (sim_chain hTE H (sim_bw hTE H (kp_rel ts h.1) (kp_rel ts' h.2.1) (sim_rel hTE H h) (by decide) 400 400 m m' l1 l2 (by omega) (by omega) h1 h2 h3 h4) (by decide)) (by decide)
include hTE H in
theorem sim_expr : ∀ (f f' m m' : Nat), 302 ≤ f + m → 302 ≤ f' + m' → m ≤ 301 → m' ≤ 301 → m ≤ m' → (m' = m ∨ X) → Sim X TE ts d (exprP ts f m) (exprP ts' f' m')
  | 0, _, m, m', h1, _, h3, _, _, _ => by omega
  | f + 1, 0, m, m', _, h2, _, h4, _, _ => by omega
  | f + 1, f' + 1, m, m', h1, h2, h3, h4, h5, h6 => by
    refine ⟨kp_expr ts _ _, kp_expr ts' _ _, fun s s' hM hz => ?_⟩
    have hE : ∀ n n', m ≤ n → m' ≤ n' → n ≤ 300 → n' ≤ 300 → n ≤ n' → (n' = n ∨ X) → Sim X TE ts d (exprP ts f (n + 1)) (exprP ts' f' (n' + 1)) := fun n n' g1 g2 g3 g4 g5 g6 => sim_expr f f' (n + 1) (n' + 1) (by omega) (by omega) (by omega) (by omega) (by omega) (by rcases g6 with g6 | g6; exact .inl (by omega); exact .inr g6)
    unfold exprP at hz ⊢
    have z1 : (begS ts m s).wh = 0 := by
      cases hw : (tkAt ts (begS ts m s)).is [wIf] with
      | false => rw [hw] at hz; exact (kp_or ts (kp_expr ts f) _ _).zero hz
      | true => rw [hw] at hz; exact ((kp_next _).trans (kp_if ts (kp_expr ts f _) _ _)).zero hz
    obtain ⟨n1, n2⟩ := nest_ok z1
    obtain ⟨b1, b2, b3, b4⟩ := beg_ok H hM (by unfold begS at z1; rw [n2] at z1; exact z1)
    have e1 : begS ts m s = s := by unfold begS; rw [n2, b1]
    rw [e1] at hz ⊢
    rcases Nat.lt_or_ge 300 m' with hb | hb
    · have hX : X := by
        rcases h6 with h6 | h6
        · omega
        · exact h6
      have h7 : (begS ts' m' s').wh = 75 := by unfold begS; rw [b2]; exact nest_bad hb hM.w'
      refine .inl ⟨hX, ?_⟩
      cases (tkAt ts' (begS ts' m' s')).is [wIf] with
      | false => exact (kp_or ts' (kp_expr ts' f') _ _).bad h7
      | true => exact ((kp_next _).trans (kp_if ts' (kp_expr ts' f' _) _ _)).bad h7
    · have e2 : begS ts' m' s' = s' := by unfold begS; rw [nest_good hb, b2]
      rw [e2, ← b4.is]
      cases hw : (tkAt ts s).is [wIf] with
      | true =>
        rw [hw] at hz
        have e3 : (rNext s).i = s.i + 1 := rfl
        rcases (sim_if hTE H (hE m m' (Nat.le_refl _) (Nat.le_refl _) n1 hb h5 h6) b4).go _ _ (hM.next b3) hz with h8 | ⟨h8, h9, h10⟩
        · exact .inl h8
        · exact .inr ⟨h8, by simp only [cond_true]; omega, h10⟩
      | false =>
        rw [hw] at hz
        exact (sim_or hTE H (lo := m) (lo' := m') ⟨kp_expr ts f, kp_expr ts' f', hE⟩ m m' (Nat.le_refl _) (Nat.le_refl _) n1 hb h5 h6).go s s' hM hz
end
end Go.Proofs.YtommhgmlblecnaaGreatDoor
namespace Go.Proofs.YtommhgmlblecnaaGreatDoor
open Go Go.RowKit

section
variable (ts : List Tk)
def wModule : List UInt8 := [109, 111, 100, 117, 108, 101]
def wImport : List UInt8 := [105, 109, 112, 111, 114, 116]
def wLet : List UInt8 := [108, 101, 116]
/-- Rows, one behind the other, that begin with a word. -/
def rowsP (x : List UInt8) (most : Nat) (row : RS → Tr × RS) : Nat → List Tr → RS → List Tr × RS
  | 0, l, s => (l, s)
  | k + 1, l, s => bif (tkAt ts s).is [x] then (bif l.length == most then ([], rFail ts 76 (tkAt ts s).a s) else rowsP x most row k (l ++ [(row s).1]) (row s).2) else (l, s)
def impP (s : RS) : Tr × RS :=
  let s1 := rWant ts wImport s
  (.mk 2 (tkAt ts s1).tx 0 [] (tkAt ts s1).a, rWant ts [59] (rKind ts 2 s1))
def parS (l : List Tr) (s : RS) : RS := bif l.length == 8 then rFail ts 76 (tkAt ts s).a (rKind ts 2 s) else rKind ts 2 s
def parR : Nat → List Tr → RS → List Tr × RS
  | 0, l, s => (l, s)
  | k + 1, l, s => bif (tkAt ts (parS ts l s)).is [[44]] then parR k (l ++ [.mk 4 (tkAt ts s).tx 0 [] (tkAt ts s).a]) (rNext (parS ts l s)) else (l ++ [.mk 4 (tkAt ts s).tx 0 [] (tkAt ts s).a], parS ts l s)
def parP (s : RS) : List Tr × RS := ((parR ts (ts.length + 1) [] s).1, rWant ts [41] (parR ts (ts.length + 1) [] s).2)
/-- A Let behind its name. -/
def letB (s : RS) : List Tr × RS := bif (tkAt ts s).is [[40]] then parP ts (rNext s) else ([], s)
def letP (s : RS) : Tr × RS :=
  let s1 := rWant ts wLet s
  let r := letB ts (rKind ts 2 s1)
  let e := exprP ts 301 1 (rWant ts [61] r.2)
  (.mk 3 (tkAt ts s1).tx 0 (r.1 ++ [e.1.t]) (tkAt ts s1).a, rWant ts [59] e.2)
def modP (s : RS) : Tr × RS :=
  let s1 := rWant ts wModule s
  let s3 := rWant ts [59] (rKind ts 2 s1)
  let a := rowsP ts wImport 100 (impP ts) (ts.length + 1) [] s3
  let b := rowsP ts wLet 200 (letP ts) (ts.length + 1) [] a.2
  (.mk 1 (tkAt ts s1).tx 0 (a.1 ++ b.1) (tkAt ts s).a, b.2)
end
section
variable (ts : List Tk)
theorem kp_rows {x : List UInt8} {most : Nat} {row : RS → Tr × RS} (h : ∀ s, Kpt s (row s).2) : ∀ (k : Nat) (l : List Tr) (s : RS), Kpt s (rowsP ts x most row k l s).2
  | 0, _, s => Kpt.refl s
  | k + 1, l, s => by
    unfold rowsP
    cases (tkAt ts s).is [x] with
    | false => exact Kpt.refl s
    | true =>
      cases l.length == most with
      | true => exact kp_fail ts _ _ s
      | false => exact (h s).trans (kp_rows h k _ _)
theorem kp_imp (s : RS) : Kpt s (impP ts s).2 := ((kp_want ts _ _).trans (kp_kind ts _ _)).trans (kp_want ts _ _)
theorem kp_parS (l : List Tr) (s : RS) : Kpt s (parS ts l s) := by
  unfold parS
  cases l.length == 8 with
  | true => exact (kp_kind ts _ _).trans (kp_fail ts _ _ _)
  | false => exact kp_kind ts _ _
theorem kp_parR : ∀ (k : Nat) (l : List Tr) (s : RS), Kpt s (parR ts k l s).2
  | 0, _, s => Kpt.refl s
  | k + 1, l, s => by
    unfold parR
    cases (tkAt ts (parS ts l s)).is [[44]] with
    | false => exact kp_parS ts l s
    | true => exact ((kp_parS ts l s).trans (kp_next _)).trans (kp_parR k _ _)
theorem kp_letB (s : RS) : Kpt s (letB ts s).2 := by
  unfold letB
  cases (tkAt ts s).is [[40]] with
  | false => exact Kpt.refl s
  | true => exact ((kp_next s).trans (kp_parR ts _ _ _)).trans (kp_want ts _ _)
theorem kp_let (s : RS) : Kpt s (letP ts s).2 := (((((kp_want ts _ _).trans (kp_kind ts _ _)).trans (kp_letB ts _)).trans (kp_want ts _ _)).trans (kp_expr ts _ _ _)).trans (kp_want ts _ _)
end
section
variable {PE : Int → Int → Prop} {TE : Tr → Tr → Prop} (hTE : ∀ k x n ks ks' p p', All2 TE ks ks' → PE p p' → TE (.mk k x n ks p) (.mk k x n ks' p')) {ts ts' : List Tk} {d : Nat} (H : Alike PE ts ts' d)
include hTE H in
theorem sim_imp {s s' : RS} (hM : Mt ts d s s') (hz : (impP ts s).2.wh = 0) : Mt ts d (impP ts s).2 (impP ts' s').2 ∧ s.i + 1 ≤ (impP ts s).2.i ∧ TE (impP ts s).1 (impP ts' s').1 := by
  unfold impP at hz ⊢
  simp only at hz ⊢
  have z2 := (kp_want ts _ _).zero hz
  have z1 := (kp_kind ts _ _).zero z2
  obtain ⟨h1, h2⟩ := sim_want H hM _ z1
  obtain ⟨h3, h4, h5, -⟩ := sim_kind H h1 (by decide) z2
  obtain ⟨h6, h7⟩ := sim_want H h3 _ hz
  refine ⟨h6, by omega, ?_⟩
  rw [h5.tx]
  exact hTE _ _ _ _ _ _ _ .nil h5.a
include hTE H in
theorem sim_parR : ∀ (k k' : Nat) (l l' : List Tr) (s s' : RS), Mt ts d s s' → All2 TE l l' → ts.length ≤ k + s.i → ts'.length ≤ k' + s'.i → (parR ts k l s).2.wh = 0 → Mt ts d (parR ts k l s).2 (parR ts' k' l' s').2 ∧ s.i ≤ (parR ts k l s).2.i ∧ All2 TE (parR ts k l s).1 (parR ts' k' l' s').1
  | 0, _, _, _, s, _, hM, _, hk, _, _ => by have := hM.lt; omega
  | k + 1, 0, _, _, s, s', hM, _, _, hk', _ => by have := hM.lt; have := hM.i; have := H.len; omega
  | k + 1, k' + 1, l, l', s, s', hM, hl, hk, hk', hz => by
    unfold parR at hz ⊢
    have z1 : (parS ts l s).wh = 0 := by
      cases hw : (tkAt ts (parS ts l s)).is [[44]] with
      | false => rw [hw] at hz; exact hz
      | true => rw [hw] at hz; exact ((kp_next _).trans (kp_parR ts k _ _)).zero hz
    have key : Mt ts d (parS ts l s) (parS ts' l' s') ∧ s.i + 1 = (parS ts l s).i ∧ TkE PE (tkAt ts s) (tkAt ts' s') := by
      unfold parS at z1 ⊢
      rw [← hl.len]
      cases h8 : l.length == 8 with
      | true => rw [h8] at z1; exact absurd z1 (fail_wh ts (by decide))
      | false =>
        rw [h8] at z1
        obtain ⟨h1, h2, h3, -⟩ := sim_kind H hM (by decide) z1
        exact ⟨h1, h2, h3⟩
    obtain ⟨h1, h2, h3⟩ := key
    have ht : TE (.mk 4 (tkAt ts s).tx 0 [] (tkAt ts s).a) (.mk 4 (tkAt ts' s').tx 0 [] (tkAt ts' s').a) := by rw [h3.tx]; exact hTE _ _ _ _ _ _ _ .nil h3.a
    rw [← is_alike H h1 (ws := [[44]]) (by decide)]
    cases hw : (tkAt ts (parS ts l s)).is [[44]] with
    | false => exact ⟨h1, by simp only [cond_false]; omega, hl.snoc ht⟩
    | true =>
      rw [hw] at hz
      simp only [cond_true] at hz ⊢
      obtain ⟨g1, -⟩ := is_true H h1 hw
      have h6 := h1.i
      have h7 := hM.i
      have e3 : (rNext (parS ts l s)).i = (parS ts l s).i + 1 := rfl
      have e4 : (rNext (parS ts' l' s')).i = (parS ts' l' s').i + 1 := rfl
      obtain ⟨h8, h9, h10⟩ := sim_parR k k' _ _ _ _ (h1.next g1) (hl.snoc ht) (by omega) (by omega) hz
      exact ⟨h8, by omega, h10⟩
include hTE H in
theorem sim_letB {s s' : RS} (hM : Mt ts d s s') (hz : (letB ts s).2.wh = 0) : Mt ts d (letB ts s).2 (letB ts' s').2 ∧ s.i ≤ (letB ts s).2.i ∧ All2 TE (letB ts s).1 (letB ts' s').1 := by
  unfold letB at hz ⊢
  rw [← is_alike H hM (ws := [[40]]) (by decide)]
  cases hw : (tkAt ts s).is [[40]] with
  | false => exact ⟨hM, Nat.le_refl _, .nil⟩
  | true =>
    rw [hw] at hz
    simp only [cond_true, parP] at hz ⊢
    obtain ⟨g1, -⟩ := is_true H hM hw
    have e3 : (rNext s).i = s.i + 1 := rfl
    have e4 : (rNext s').i = s'.i + 1 := rfl
    obtain ⟨h1, h2, h3⟩ := sim_parR hTE H (ts.length + 1) (ts'.length + 1) [] [] _ _ (hM.next g1) .nil (by omega) (by omega) ((kp_want ts _ _).zero hz)
    obtain ⟨h4, h5⟩ := sim_want H h1 _ hz
    exact ⟨h4, by omega, h3⟩
include hTE H in
theorem sim_let {s s' : RS} (hM : Mt ts d s s') (hz : (letP ts s).2.wh = 0) : Mt ts d (letP ts s).2 (letP ts' s').2 ∧ s.i + 1 ≤ (letP ts s).2.i ∧ TE (letP ts s).1 (letP ts' s').1 := by
  unfold letP at hz ⊢
  simp only at hz ⊢
  have z5 := (kp_want ts _ _).zero hz
  have z4 := (kp_expr ts _ _ _).zero z5
  have z3 := (kp_want ts _ _).zero z4
  have z2 := (kp_letB ts _).zero z3
  have z1 := (kp_kind ts _ _).zero z2
  obtain ⟨h1, h2⟩ := sim_want H hM _ z1
  obtain ⟨h3, h4, h5, -⟩ := sim_kind H h1 (by decide) z2
  obtain ⟨h6, h7, h8⟩ := sim_letB hTE H h3 z3
  obtain ⟨h9, h10⟩ := sim_want H h6 _ z4
  rcases (sim_expr (X := False) hTE H 301 301 1 1 (by decide) (by decide) (by decide) (by decide) (by decide) (.inl rfl)).go _ _ h9 z5 with ⟨h, -⟩ | ⟨h11, h12, h13⟩
  · exact h.elim
  · obtain ⟨h14, h15⟩ := sim_want H h11 _ hz
    refine ⟨h14, by omega, ?_⟩
    rw [h5.tx]
    exact hTE _ _ _ _ _ _ _ (h8.snoc h13.t) h5.a
include H in
theorem sim_rows {x : List UInt8} {most : Nat} {row row' : RS → Tr × RS} (hk : ∀ s, Kpt s (row s).2) (hr : ∀ s s', Mt ts d s s' → (row s).2.wh = 0 → Mt ts d (row s).2 (row' s').2 ∧ s.i + 1 ≤ (row s).2.i ∧ TE (row s).1 (row' s').1) : ∀ (k k' : Nat) (l l' : List Tr) (s s' : RS), Mt ts d s s' → All2 TE l l' → ts.length ≤ k + s.i → ts'.length ≤ k' + s'.i → (rowsP ts x most row k l s).2.wh = 0 →
    ∃ k2 l2 s2, rowsP ts' x most row' k' l' s' = rowsP ts' x most row' k2 l2 s2 ∧ Mt ts d (rowsP ts x most row k l s).2 s2 ∧ s.i ≤ (rowsP ts x most row k l s).2.i ∧ All2 TE (rowsP ts x most row k l s).1 l2 ∧ ts'.length ≤ k2 + s2.i ∧ (tkAt ts (rowsP ts x most row k l s).2).is [x] = false
  | 0, _, _, _, s, _, hM, _, h1, _, _ => by have := hM.lt; omega
  | k + 1, 0, _, _, s, s', hM, _, _, h2, _ => by have := hM.lt; have := hM.i; have := H.len; omega
  | k + 1, k' + 1, l, l', s, s', hM, hl, h1, h2, hz => by
    cases hw : (tkAt ts s).is [x] with
    | false =>
      have e : rowsP ts x most row (k + 1) l s = (l, s) := by unfold rowsP; rw [hw]; rfl
      rw [e]
      exact ⟨k' + 1, l', s', rfl, hM, Nat.le_refl _, hl, h2, hw⟩
    | true =>
      obtain ⟨g1, g2⟩ := is_true H hM hw
      have hw' : (tkAt ts' s').is [x] = true := by rw [← g2.is]; exact hw
      cases h8 : l.length == most with
      | true =>
        unfold rowsP at hz
        rw [hw, h8] at hz
        exact absurd hz (fail_wh ts (by decide))
      | false =>
        have e : rowsP ts x most row (k + 1) l s = rowsP ts x most row k (l ++ [(row s).1]) (row s).2 := by conv => lhs; unfold rowsP; rw [hw, h8]
                                                                                                            rfl
        have e' : rowsP ts' x most row' (k' + 1) l' s' = rowsP ts' x most row' k' (l' ++ [(row' s').1]) (row' s').2 := by
          conv => lhs; unfold rowsP; rw [hw', ← hl.len, h8]
          rfl
        rw [e] at hz ⊢
        rw [e']
        obtain ⟨r1, r2, r3⟩ := hr s s' hM ((kp_rows ts hk k _ _).zero hz)
        have h6 := r1.i
        have h7 := hM.i
        obtain ⟨k2, l2, s2, q1, q2, q3, q4, q5, q6⟩ := sim_rows hk hr k k' _ _ _ _ r1 (hl.snoc r3) (by omega) (by omega) hz
        exact ⟨k2, l2, s2, q1, q2, by omega, q4, q5, q6⟩
theorem rows_stop {ts : List Tk} {x : List UInt8} {most : Nat} {row : RS → Tr × RS} {k : Nat} {l : List Tr} {s : RS} (h : (tkAt ts s).is [x] = false) : rowsP ts x most row k l s = (l, s) := by
  cases k with
  | zero => rfl
  | succ k => unfold rowsP; rw [h]; rfl
end
/-- An operand alone, behind which none of the signs comes. -/
def lone (t : Tk) : Prop := t.is [[42], [47]] = false ∧ t.is [[43], [45]] = false ∧ t.is [[60], [60, 61], [61]] = false ∧ t.is [wAnd] = false ∧ t.is [wOr] = false
theorem chain_lone {ts : List Tk} {op : RS → TD × RS} {ws : List (List UInt8)} {s : RS} (h : (tkAt ts (op s).2).is ws = false) : chainP ts op ws s = op s := by
  unfold chainP
  cases ts.length with
  | zero => rfl
  | succ n => unfold chR; rw [h]; rfl
theorem prod_lone {ts : List Tk} {en : Nat → RS → TD × RS} {m : Nat} {s : RS} (h1 : (tkAt ts s).is [[45]] = false) (h : (tkAt ts (atomP ts (en (m + 1)) s).2).is [[42], [47]] = false) : prodP ts en m s = atomP ts (en (m + 1)) s := by
  have e1 : unaryP ts en m s = atomP ts (en (m + 1)) s := by unfold unaryP bwP; rw [h1]; rfl
  unfold prodP
  rw [chain_lone (by rw [e1]; exact h), e1]
theorem or_sum {ts : List Tk} {en : Nat → RS → TD × RS} {m : Nat} {s : RS} (h2 : (tkAt ts s).is [wNot] = false) (h : (tkAt ts (sumP ts en m s).2).is [[60], [60, 61], [61]] = false ∧ (tkAt ts (sumP ts en m s).2).is [wAnd] = false ∧ (tkAt ts (sumP ts en m s).2).is [wOr] = false) : orP ts en m s = sumP ts en m s := by
  obtain ⟨c, dd, e⟩ := h
  have e4 : relP ts en m s = sumP ts en m s := by unfold relP; rw [c]; rfl
  have e5 : notP ts en m s = sumP ts en m s := by unfold notP bwP; rw [h2]; exact e4
  have e6 : andP ts en m s = sumP ts en m s := by unfold andP; rw [chain_lone (by rw [e5]; exact dd), e5]
  unfold orP
  rw [chain_lone (by rw [e6]; exact e), e6]
theorem or_lone {ts : List Tk} {en : Nat → RS → TD × RS} {m : Nat} {s : RS} (h1 : (tkAt ts s).is [[45]] = false) (h2 : (tkAt ts s).is [wNot] = false) (h : lone (tkAt ts (atomP ts (en (m + 1)) s).2)) : orP ts en m s = atomP ts (en (m + 1)) s := by
  obtain ⟨a, b, c, dd, e⟩ := h
  have e2 := prod_lone (en := en) (m := m) h1 a
  have e3 : sumP ts en m s = atomP ts (en (m + 1)) s := by unfold sumP; rw [chain_lone (by rw [e2]; exact b), e2]
  rw [or_sum h2 (by rw [e3]; exact ⟨c, dd, e⟩), e3]
theorem begS_good {ts : List Tk} {m : Nat} {s : RS} (hm : m ≤ 300) (h : (tkAt ts s).begins = true) : begS ts m s = s := by
  unfold begS rBeg
  rw [nest_good hm, h]
  rfl
theorem expr_or {ts : List Tk} {f m : Nat} {s : RS} (hm : m ≤ 300) (h : (tkAt ts s).begins = true) (hi : (tkAt ts s).is [wIf] = false) : exprP ts (f + 1) m s = orP ts (exprP ts f) m s := by
  unfold exprP
  rw [begS_good hm h, hi]
  rfl
theorem lone_stop {t : Tk} (h : Stop t) : lone t := ⟨is_stop h (by decide), is_stop h (by decide), is_stop h (by decide), is_stop h (by decide), is_stop h (by decide)⟩
end Go.Proofs.YtommhgmlblecnaaGreatDoor
namespace Go.Proofs.YtommhgmlblecnaaGreatDoor
open Go Go.RowKit

section
variable {ts : List Tk} (hE : Toks ts)
include hE
theorem mv_imp {s : RS} (hi : s.i < ts.length) : Mv ts s (impP ts s).2 := by
  have h1 := mv_want hE hi wImport
  have h2 := mv_kind hE h1.lt 2
  exact (h1.trans h2).trans (mv_want hE h2.lt [59])
theorem mv_parS (l : List Tr) {s : RS} (hi : s.i < ts.length) : Mv ts s (parS ts l s) := by
  have h1 := mv_kind hE hi 2
  unfold parS
  cases l.length == 8 with
  | true => exact h1.trans (mv_fail hE h1.lt _ _)
  | false => exact h1
theorem mv_parR : ∀ (k : Nat) (l : List Tr) (s : RS), s.i < ts.length → Mv ts s (parR ts k l s).2
  | 0, _, s, hi => Mv.refl hi
  | k + 1, l, s, hi => by
    have h1 := mv_parS hE l hi
    unfold parR
    cases hw : (tkAt ts (parS ts l s)).is [[44]] with
    | false => exact h1
    | true =>
      have h2 := mv_is hE h1.lt hw
      exact (h1.trans h2).trans (mv_parR k _ _ h2.lt)
theorem mv_letB {s : RS} (hi : s.i < ts.length) : Mv ts s (letB ts s).2 := by
  unfold letB
  cases hw : (tkAt ts s).is [[40]] with
  | false => exact Mv.refl hi
  | true =>
    have h2 := mv_is hE hi hw
    have h3 := mv_parR hE (ts.length + 1) [] _ h2.lt
    exact (h2.trans h3).trans (mv_want hE h3.lt [41])
theorem mv_let {s : RS} (hi : s.i < ts.length) : Mv ts s (letP ts s).2 := by
  have h1 := mv_want hE hi wLet
  have h2 := mv_kind hE h1.lt 2
  have h3 := mv_letB hE h2.lt
  have h4 := mv_want hE h3.lt [61]
  have h5 := good_expr hE 301 1 _ h4.lt
  exact ((((h1.trans h2).trans h3).trans h4).trans h5).trans (mv_want hE h5.lt [59])
theorem mv_rows {x : List UInt8} {most : Nat} {row : RS → Tr × RS} (hr : ∀ s, s.i < ts.length → Mv ts s (row s).2) : ∀ (k : Nat) (l : List Tr) (s : RS), s.i < ts.length → Mv ts s (rowsP ts x most row k l s).2
  | 0, _, s, hi => Mv.refl hi
  | k + 1, l, s, hi => by
    unfold rowsP
    cases (tkAt ts s).is [x] with
    | false => exact Mv.refl hi
    | true =>
      cases l.length == most with
      | true => exact mv_fail hE hi _ _
      | false => exact (hr s hi).trans (mv_rows hr k _ _ (hr s hi).lt)
theorem mv_mod {s : RS} (hi : s.i < ts.length) : Mv ts s (modP ts s).2 := by
  have h1 := mv_want hE hi wModule
  have h2 := mv_kind hE h1.lt 2
  have h3 := mv_want hE h2.lt [59]
  have h4 := mv_rows hE (x := wImport) (most := 100) (fun s hi => mv_imp hE (s := s) hi) (ts.length + 1) [] _ h3.lt
  exact (((h1.trans h2).trans h3).trans h4).trans (mv_rows hE (fun s hi => mv_let hE (s := s) hi) (ts.length + 1) [] _ h4.lt)
end
/-- A node without kids. -/
theorem nd_leaf {w : World} (k : Int) (x : List UInt8) (n p : Int) : Nd w (nv k x n (.slice none 0 0) p) (.mk k x n [] p) := .mk k x n [] p none 0 (fun _ => undef) (by decide) (fun i hi => by simp at hi) (fun i t ht => by simp at ht)
/-- What a call that reads a row leaves. -/
def ResN (L : List Nat) (w : World) (q0 b c : Nat) (ts : List Tk) (r : Tr × RS) (e : Ending) (w' : World) : Prop := ∃ u : T6, e = .returned u.nd ∧ u.d = 0 ∧ Ch [q0] w w' ∧ w'.heap[q0]? = some (rdS b c ts r.2) ∧ Stay L w' (fun w => Nd w u.nd r.1)
section
variable {P : Program} {F : Exit → Act → World → Prop} {Inv : World → Prop} {st : St} {q0 b c : Nat} {ts : List Tk}
/-- A call that reads a row. -/
theorem Goes.callN (L : List Nat) (f : FuncId) (args : Array Value) (r : Tr × RS)
    (hr : ∀ w, Holds st.mem w → Stay st.mem.ids w Inv → (∀ x ∈ st.mem.ids ++ L, x < w.heap.size) → Calls P f args w (ResN (st.mem.ids ++ L) w q0 b c ts r)) (hL : ∀ w, Inv w → ∀ x ∈ L, x < w.heap.size)
    (h : ∀ u : T6, u.d = 0 → Goes P F (fun w => Inv w ∧ Stay L w (fun w => Nd w u.nd r.1)) (putM st u.nd 0 q0 (rdS b c ts r.2))) (ha : ask st = some (f, args) := by kernel_rfl) (hw : wants st = true := by kernel_rfl) (hf : okf P f = true := by kernel_rfl) (hj : (st.mem[0]?).map (·.1) = some q0 := by kernel_rfl) : Goes P F Inv st :=
  Goes.call1 0 q0 f args (fun w hm _ hI => (hr w hm hI (fun x hx => (List.mem_append.1 hx).elim (ids_lt hm x) (hL w hI.now x))).mono fun _ _ ⟨u, h1, h2, h3, h4, h5⟩ => ⟨u.nd, _, _, h1, h3, h4, h5.split, h u h2⟩) ha hw hf hj
end
def tdz (t : Tr) : TD := ⟨t, 0⟩
section
variable {q0 b c : Nat} {ts : List Tk} (hE : Toks ts) {s : RS} {w : World} {L : List Nat}
include hE
set_option maxRecDepth 100000 in
set_option maxHeartbeats 1000000 in
seal rn Goes ans atEnd put0 putM opened putA0 oneSt st0 keep in
theorem import_any (h : At w q0 b c ts s) (hi : s.i < ts.length) : Calls Tryz.prog 46 #[.pointer (some ⟨q0, 0, none⟩)] w (ResN L w q0 b c ts (impP ts s)) := by
  obtain ⟨s1, hs1⟩ : ∃ s1, rWant ts wImport s = s1 := ⟨_, rfl⟩
  obtain ⟨t, ht⟩ : ∃ t, tkAt ts s1 = t := ⟨_, rfl⟩
  have h1 := mv_want hE hi wImport
  rw [hs1] at h1
  have h2 := mv_kind hE h1.lt 2
  unfold impP
  simp only
  rw [hs1, ht]
  refine Goes.begin Tryz.func46 [(q0, rdS b c ts s)] (fun w => Tks w b c ts) (Holds.one h.rd) (by simp [Mem.ids]) h.stay ?_
  refine Goes.run1 [] [] trivial fun g1 => ?_
  refine Goes.call2 0 q0 44 #[.pointer (some ⟨q0, 0, none⟩), strV wImport] (.tuple #[]) (rdS b c ts s1) (fun w' hm hI => hs1 ▸ want_any ⟨hm.get 0, hI.now.2⟩ hE hi wImport) ?_
  refine Goes.run [] [] trivial ?_
  refine Goes.call2 0 q0 41 #[.pointer (some ⟨q0, 0, none⟩), .int .i64 2] (tkAt ts s1).v (rdS b c ts (rKind ts 2 s1)) (fun w' hm hI => kind_any ⟨hm.get 0, hI.now.2⟩ hE h1.lt 2) ?_
  rw [ht]
  refine Goes.run1 [2] [] trivial fun g2 => ?_
  refine Goes.call2 0 q0 44 #[.pointer (some ⟨q0, 0, none⟩), strV [59]] (.tuple #[]) (rdS b c ts (rWant ts [59] (rKind ts 2 s1))) (fun w' hm hI => want_any ⟨hm.get 0, hI.now.2⟩ hE h2.lt [59]) ?_
  refine Goes.run [2, 2, 1] [] trivial ?_
  exact Goes.ret [1] (nv 2 t.tx 0 (.slice none 0 0) t.a) fun w' hm hI => ⟨⟨2, t.tx, 0, none, 0, 0, t.a, 0⟩, rfl, rfl, hI.now.1, hm.get 0, fun _ _ => nd_leaf _ _ _ _⟩
/-- What is known at the head of the parameters' loop. -/
structure PLp where
  k : Nat
  l : List Tr
  s : RS
  us : List T6
  a : Option Addr
  c : Nat
  N : Nat
  m : Bool
set_option maxRecDepth 100000 in
set_option maxHeartbeats 1000000 in
seal rn Goes ans atEnd put0 putM opened putA0 oneSt st0 keep in
theorem params_any (h : At w q0 b c ts s) (hi : s.i < ts.length) (hL : ∀ x ∈ L, x < w.heap.size) :
    Calls Tryz.prog 77 #[.pointer (some ⟨q0, 0, none⟩)] w fun e w' => ∃ a cc us, e = .returned (.slice a us.length cc) ∧ Ch [q0] w w' ∧ w'.heap[q0]? = some (rdS b c ts (parP ts s).2) ∧ us.length ≤ 9 ∧ Stay L w' (fun w' => RowT 25 5 T6.ns w.heap.size L (.slice a us.length cc) us ((parP ts s).1.map tdz) w') := by
  obtain ⟨Z, hZ⟩ : ∃ Z, parR ts (ts.length + 1) [] s = Z := ⟨_, rfl⟩
  have hZ2 : parP ts s = (Z.1, rWant ts [41] Z.2) := by unfold parP; rw [hZ]
  rw [hZ2]
  refine Goes.begin Tryz.func77 [(q0, rdS b c ts s)] (fun w => Tks w b c ts) (Holds.one h.rd) (by simp [Mem.ids]) h.stay ?_
  refine Goes.run [] [] trivial ?_
  refine Goes.loop (α := PLp) 29 (fun q => [(0, .pointer (some ⟨q0, 0, none⟩)), (3, .slice q.a q.N q.c), (4, .bool q.m)])
    (fun q => [(q0, rdS b c ts q.s)])
    (fun q w' => (Ch [q0] w w' ∧ Tks w' b c ts) ∧ RowT 25 5 T6.ns w.heap.size L (.slice q.a q.N q.c) q.us (q.l.map tdz) w')
    (fun q => ((bif q.m then parR ts q.k q.l q.s else (q.l, q.s)) = Z ∧ Mv ts s q.s ∧ (q.m = true → ts.length + 1 ≤ q.k + q.s.i ∧ q.l.length ≤ 8)) ∧ q.us.length ≤ 9 ∧ q.us.length = q.l.length ∧ q.N = q.us.length) (fun q => bif q.m then ts.length - q.s.i + 1 else 0) ⟨ts.length + 1, [], s, [], none, 0, 0, true⟩ ⟨⟨hZ, Mv.refl hi, fun _ => ⟨Nat.le_add_right _ _, Nat.zero_le _⟩⟩, Nat.zero_le _, rfl, rfl⟩ (fun w' h => ⟨h, RowT.nil⟩) ?_
  rintro ⟨k, l, s2, us, a, cc, N, more⟩ J ⟨⟨hch, hmv, hk⟩, hus, hlen, hN⟩ back
  simp only at hch hmv hk hus hlen hN back ⊢
  subst hN
  cases more with
  | false =>
    refine Goes.run [0, 0] [(false, false)] ⟨rfl, trivial⟩ ?_
    refine Goes.call2 0 q0 44 #[.pointer (some ⟨q0, 0, none⟩), strV [41]] (.tuple #[]) (rdS b c ts (rWant ts [41] s2)) (fun w' hm hI => want_any ⟨hm.get 0, hI.now.1.2⟩ hE hmv.lt [41]) ?_
    refine Goes.run [] [] trivial ?_
    refine Goes.ret [] (.slice a us.length cc) fun w' hm hI => ⟨a, cc, us, rfl, hI.now.1.1, ?_, hus, fun w2 hc2 => ?_⟩
    · rw [← hch]; exact hm.get 0
    · rw [← hch]
      refine ⟨own_ch hI.now.2.1 hc2 hL, hI.now.2.2.1, fun i u t h1 h2 w3 hc3 => ?_⟩
      exact hI.now.2.2.2 i u t h1 h2 w3 ((hc2.mono (fun x hx => List.mem_append_right _ hx)).trans hc3 (fun x hx => .inl hx))
  | true =>
    obtain ⟨hk, hl8⟩ := hk rfl
    obtain ⟨k', rfl⟩ : ∃ k', k = k' + 1 := ⟨k - 1, by have := hmv.lt; omega⟩
    obtain ⟨t, ht⟩ : ∃ t, tkAt ts s2 = t := ⟨_, rfl⟩
    have h1 := mv_kind hE hmv.lt 2
    have hA := mv_parS hE l hmv.lt
    obtain ⟨s3, hs3⟩ : ∃ s3, parS ts l s2 = s3 := ⟨_, rfl⟩
    rw [hs3] at hA
    have hch' : (bif (tkAt ts s3).is [[44]] then parR ts k' (l ++ [.mk 4 t.tx 0 [] t.a]) (rNext s3) else (l ++ [.mk 4 t.tx 0 [] t.a], s3)) = Z := by
      rw [← hch]
      simp only [cond_true]
      conv => rhs; unfold parR
      rw [hs3, ht]
    have hend : l.length = 8 → (tkAt ts s3).k = 0 := fun e => by
      rw [← hs3]
      unfold parS
      rw [e]
      exact hE.last
    unfold parS at hs3
    rw [ht] at hs3
    refine Goes.run [0, 1] [(true, true)] ⟨rfl, trivial⟩ ?_
    refine Goes.call2 0 q0 41 #[.pointer (some ⟨q0, 0, none⟩), .int .i64 2] (tkAt ts s2).v (rdS b c ts (rKind ts 2 s2)) (fun w' hm hI => kind_any ⟨hm.get 0, hI.now.1.2⟩ hE hmv.lt 2) ?_
    rw [ht]
    have hmap : (l ++ [Tr.mk 4 t.tx 0 [] t.a]).map tdz = l.map tdz ++ [tdz (.mk 4 t.tx 0 [] t.a)] := by simp
    cases h8 : ((us.length : Int) == 8) with
    | true =>
      have e8 : l.length = 8 := by have : (us.length : Int) = 8 := by simpa using h8
                                   omega
      have es3 : s3 = rFail ts 76 t.a (rKind ts 2 s2) := by rw [← hs3, e8]; rfl
      refine Goes.run1 [1, 1, 1] [((us.length : Int) == 8, true)] ⟨h8, trivial⟩ fun g1 => ?_
      refine Goes.call2 0 q0 71 #[.pointer (some ⟨q0, 0, none⟩), .int .i64 76, .int .i64 t.a] (.tuple #[]) (rdS b c ts s3) (fun w' hm hI => es3 ▸ fail_any ⟨hm.get 0, hI.now.1.2⟩ hE 76 t.a) ?_
      refine Goes.run1 [1, 1] [] trivial fun g2 => ?_
      refine Goes.appT (I0 := fun w' => Ch [q0] w w' ∧ Tks w' b c ts) w.heap.size 23 25 23 5 64 T6.ns L (.slice a us.length cc) us (l.map tdz) ⟨4, t.tx, 0, none, 0, 0, t.a, 0⟩ (tdz (.mk 4 t.tx 0 [] t.a)) 2 g2 25 (0, 0) (fun w' hI => ⟨hI, fun _ _ => nd_leaf _ _ _ _, hI.1.1.size⟩) rfl (base_stay h) rfl (ns_one _) (by omega) (by decide) fun a' c' => ?_
      refine Goes.run [] [] trivial ?_
      refine Goes.call2 0 q0 73 #[.pointer (some ⟨q0, 0, none⟩), strV [44]] (.bool ((tkAt ts s3).is [[44]])) (rdS b c ts (rTakes ts [44] s3)) (fun w' hm hI => takes_any ⟨hm.get 0, hI.now.1.2⟩ hE hA.lt [44]) ?_
      have his : (tkAt ts s3).is [[44]] = false := by
        cases his : (tkAt ts s3).is [[44]] with
        | false => rfl
        | true => have := hend e8; rw [is_kind his] at this; cases this
      have et : rTakes ts [44] s3 = s3 := by simp [rTakes, his]
      rw [his] at hch' ⊢
      rw [et]
      refine Goes.run [] [] trivial ?_
      refine Goes.keep 1 ?_
      have hp : ((bif false then parR ts 0 (l ++ [.mk 4 t.tx 0 [] t.a]) s3 else (l ++ [.mk 4 t.tx 0 [] t.a], s3)) = Z ∧ Mv ts s s3 ∧ (false = true → ts.length + 1 ≤ 0 + s3.i ∧ (l ++ [Tr.mk 4 t.tx 0 [] t.a]).length ≤ 8)) ∧ (us ++ [(⟨4, t.tx, 0, none, 0, 0, t.a, 0⟩ : T6)]).length ≤ 9 ∧ (us ++ [(⟨4, t.tx, 0, none, 0, 0, t.a, 0⟩ : T6)]).length = (l ++ [Tr.mk 4 t.tx 0 [] t.a]).length ∧ us.length + 1 = (us ++ [(⟨4, t.tx, 0, none, 0, 0, t.a, 0⟩ : T6)]).length := ⟨⟨hch', hmv.trans hA, fun h => by cases h⟩, by simp; omega, by simp [hlen], by simp⟩
      exact Goes.inv (fun w' h => by simp only [hmap]; exact h) (back ⟨0, l ++ [.mk 4 t.tx 0 [] t.a], s3, us ++ [⟨4, t.tx, 0, none, 0, 0, t.a, 0⟩], a', c', us.length + 1, false⟩ _ hp (Nat.succ_pos _) (by kernel_rfl) (by kernel_rfl) (by kernel_rfl))
    | false =>
      have e8 : l.length ≠ 8 := fun e => by
        have : (us.length : Int) = 8 := by omega
        rw [this] at h8
        cases h8
      have es3 : s3 = rKind ts 2 s2 := by rw [← hs3]; have : (l.length == 8) = false := by simpa using e8
                                          rw [this]; rfl
      rw [← es3]
      refine Goes.run2 [1, 0, 1, 1] [((us.length : Int) == 8, false)] ⟨h8, trivial⟩ fun g1 g2 => ?_
      refine Goes.appT (I0 := fun w' => Ch [q0] w w' ∧ Tks w' b c ts) w.heap.size 23 25 23 5 64 T6.ns L (.slice a us.length cc) us (l.map tdz) ⟨4, t.tx, 0, none, 0, 0, t.a, 0⟩ (tdz (.mk 4 t.tx 0 [] t.a)) 2 g2 25 (0, 0) (fun w' hI => ⟨hI, fun _ _ => nd_leaf _ _ _ _, hI.1.1.size⟩) rfl (base_stay h) rfl (ns_one _) (by omega) (by decide) fun a' c' => ?_
      refine Goes.run [] [] trivial ?_
      refine Goes.call2 0 q0 73 #[.pointer (some ⟨q0, 0, none⟩), strV [44]] (.bool ((tkAt ts s3).is [[44]])) (rdS b c ts (rTakes ts [44] s3)) (fun w' hm hI => takes_any ⟨hm.get 0, hI.now.1.2⟩ hE hA.lt [44]) ?_
      cases his : (tkAt ts s3).is [[44]] with
      | false =>
        have et : rTakes ts [44] s3 = s3 := by simp [rTakes, his]
        rw [his] at hch'
        rw [et]
        refine Goes.run [] [] trivial ?_
        refine Goes.keep 1 ?_
        have hp : ((bif false then parR ts 0 (l ++ [.mk 4 t.tx 0 [] t.a]) s3 else (l ++ [.mk 4 t.tx 0 [] t.a], s3)) = Z ∧ Mv ts s s3 ∧ (false = true → ts.length + 1 ≤ 0 + s3.i ∧ (l ++ [Tr.mk 4 t.tx 0 [] t.a]).length ≤ 8)) ∧ (us ++ [(⟨4, t.tx, 0, none, 0, 0, t.a, 0⟩ : T6)]).length ≤ 9 ∧ (us ++ [(⟨4, t.tx, 0, none, 0, 0, t.a, 0⟩ : T6)]).length = (l ++ [Tr.mk 4 t.tx 0 [] t.a]).length ∧ us.length + 1 = (us ++ [(⟨4, t.tx, 0, none, 0, 0, t.a, 0⟩ : T6)]).length := ⟨⟨hch', hmv.trans hA, fun h => by cases h⟩, by simp; omega, by simp [hlen], by simp⟩
        exact Goes.inv (fun w' h => by simp only [hmap]; exact h) (back ⟨0, l ++ [.mk 4 t.tx 0 [] t.a], s3, us ++ [⟨4, t.tx, 0, none, 0, 0, t.a, 0⟩], a', c', us.length + 1, false⟩ _ hp (Nat.succ_pos _) (by kernel_rfl) (by kernel_rfl) (by kernel_rfl))
      | true =>
        have et : rTakes ts [44] s3 = rNext s3 := by simp [rTakes, his]
        have hC := hA.trans (mv_is hE hA.lt his)
        have hadv : s2.i + 1 ≤ (rNext s3).i := Nat.succ_le_succ hA.le
        rw [his] at hch'
        rw [et]
        refine Goes.run [] [] trivial ?_
        refine Goes.keep 1 ?_
        have hp : ((bif true then parR ts k' (l ++ [.mk 4 t.tx 0 [] t.a]) (rNext s3) else (l ++ [.mk 4 t.tx 0 [] t.a], rNext s3)) = Z ∧ Mv ts s (rNext s3) ∧ (true = true → ts.length + 1 ≤ k' + (rNext s3).i ∧ (l ++ [Tr.mk 4 t.tx 0 [] t.a]).length ≤ 8)) ∧ (us ++ [(⟨4, t.tx, 0, none, 0, 0, t.a, 0⟩ : T6)]).length ≤ 9 ∧ (us ++ [(⟨4, t.tx, 0, none, 0, 0, t.a, 0⟩ : T6)]).length = (l ++ [Tr.mk 4 t.tx 0 [] t.a]).length ∧ us.length + 1 = (us ++ [(⟨4, t.tx, 0, none, 0, 0, t.a, 0⟩ : T6)]).length := ⟨⟨hch', hmv.trans hC, fun _ => ⟨by omega, by simp; omega⟩⟩, by simp; omega, by simp [hlen], by simp⟩
        have hlt : ts.length - (rNext s3).i + 1 < ts.length - s2.i + 1 := by have := hmv.lt; omega
        exact Goes.inv (fun w' h => by simp only [hmap]; exact h) (back ⟨k', l ++ [.mk 4 t.tx 0 [] t.a], rNext s3, us ++ [⟨4, t.tx, 0, none, 0, 0, t.a, 0⟩], a', c', us.length + 1, true⟩ _ hp hlt (by kernel_rfl) (by kernel_rfl) (by kernel_rfl))
end
end Go.Proofs.YtommhgmlblecnaaGreatDoor
namespace Go.Proofs.YtommhgmlblecnaaGreatDoor
open Go Go.RowKit

theorem own_base {w : World} {base base' e size : Nat} {v : Value} {n : Nat} {xs : List Value} (h : w.ownsRow base e size v n xs) (hb : base' ≤ base) : w.ownsRow base' e size v n xs := by
  refine ⟨h.1, ?_⟩
  rcases h.2 with h0 | ⟨g, cap, cur, e1, e2, e3⟩
  · exact .inl h0
  · exact .inr ⟨g, cap, cur, e1, Nat.le_trans hb e2, e3⟩
/-- Nodes in a row of one's own are a tree's kids, also later. -/
theorem nd_rowT {w w2 : World} {base : Nat} {L : List Nat} {a : Option Addr} {c : Nat} {us : List T6} {ts : List Tr} (h : RowT 25 5 T6.ns base L (.slice a us.length c) us (ts.map tdz) w) (hc : Ch L w w2) (hL : ∀ x ∈ L, x < base) (k : Int) (x : List UInt8) (n p : Int) : Nd w2 (nv k x n (.slice a us.length c) p) (.mk k x n ts p) := by
  have hlen : us.length = ts.length := by have := congrArg List.length h.2.1; simpa using this
  refine nd_row (own_ch h.1 hc hL) hlen (fun i u t h1 h2 => ?_) k x n p
  have h3 : (ts.map tdz)[i]? = some (tdz t) := by rw [List.getElem?_map, h2]; rfl
  exact h.2.2 i u (tdz t) h1 h3 w2 (hc.mono (fun x hx => List.mem_append_right _ hx))
section
variable {q0 b c : Nat} {ts : List Tk} (hE : Toks ts) {s : RS} {w : World} {L : List Nat}
include hE
theorem outerN (h : At w q0 b c ts s) (hi : s.i < ts.length) (hq : q0 ∈ L) (hL : ∀ x ∈ L, x < w.heap.size) : Calls Tryz.prog 25 #[.pointer (some ⟨q0, 0, none⟩)] w (ResN L w q0 b c ts ((exprP ts 301 1 s).1.t, (exprP ts 301 1 s).2)) :=
  (outer_any hE h hi hq hL).mono fun _ _ ⟨u, h1, h2, h3, h4⟩ => ⟨{ u with d := 0 }, h1, rfl, h2, h3, h4⟩
set_option maxRecDepth 100000 in
set_option maxHeartbeats 1000000 in
seal rn Goes ans atEnd put0 putM opened putA0 oneSt st0 keep in
theorem let_any (h : At w q0 b c ts s) (hi : s.i < ts.length) (hq : q0 ∈ L) (hL : ∀ x ∈ L, x < w.heap.size) : Calls Tryz.prog 47 #[.pointer (some ⟨q0, 0, none⟩)] w (ResN L w q0 b c ts (letP ts s)) := by
  obtain ⟨s1, hs1⟩ : ∃ s1, rWant ts wLet s = s1 := ⟨_, rfl⟩
  obtain ⟨t, ht⟩ : ∃ t, tkAt ts s1 = t := ⟨_, rfl⟩
  obtain ⟨s2, hs2⟩ : ∃ s2, rKind ts 2 s1 = s2 := ⟨_, rfl⟩
  obtain ⟨r, hr⟩ : ∃ r, letB ts s2 = r := ⟨_, rfl⟩
  obtain ⟨s4, hs4⟩ : ∃ s4, rWant ts [61] r.2 = s4 := ⟨_, rfl⟩
  obtain ⟨e, he⟩ : ∃ e, exprP ts 301 1 s4 = e := ⟨_, rfl⟩
  have h1 := mv_want hE hi wLet
  rw [hs1] at h1
  have h2 := mv_kind hE h1.lt 2
  rw [hs2] at h2
  have h3 := mv_letB hE h2.lt
  rw [hr] at h3
  have h4 := mv_want hE h3.lt [61]
  rw [hs4] at h4
  have h5 := good_expr hE 301 1 _ h4.lt
  rw [he] at h5
  have hZ : letP ts s = (.mk 3 t.tx 0 (r.1 ++ [e.1.t]) t.a, rWant ts [59] e.2) := by
    unfold letP
    simp only
    rw [hs1, ht, hs2, hr, hs4, he]
  rw [hZ]
  clear hZ
  refine Goes.begin Tryz.func47 [(q0, rdS b c ts s)] (fun w => Tks w b c ts) (Holds.one h.rd) (by simp [Mem.ids]) h.stay ?_
  refine Goes.run1 [] [] trivial fun g1 => ?_
  refine Goes.call2 0 q0 44 #[.pointer (some ⟨q0, 0, none⟩), strV wLet] (.tuple #[]) (rdS b c ts s1) (fun w' hm hI => hs1 ▸ want_any ⟨hm.get 0, hI.now.2⟩ hE hi wLet) ?_
  refine Goes.run [] [] trivial ?_
  refine Goes.call2 0 q0 41 #[.pointer (some ⟨q0, 0, none⟩), .int .i64 2] (tkAt ts s1).v (rdS b c ts s2) (fun w' hm hI => hs2 ▸ kind_any ⟨hm.get 0, hI.now.2⟩ hE h1.lt 2) ?_
  rw [ht]
  refine Goes.run1 [2] [] trivial fun g2 => ?_
  refine Goes.call2 0 q0 73 #[.pointer (some ⟨q0, 0, none⟩), strV [40]] (.bool ((tkAt ts s2).is [[40]])) (rdS b c ts (rTakes ts [40] s2)) (fun w' hm hI => takes_any ⟨hm.get 0, hI.now.2⟩ hE h2.lt [40]) ?_
  have hmap : (r.1 ++ [e.1.t]).map tdz = r.1.map tdz ++ [tdz e.1.t] := by simp
  cases his : (tkAt ts s2).is [[40]] with
  | false =>
    have er : r = ([], s2) := by rw [← hr]; unfold letB; rw [his]; rfl
    have et : rTakes ts [40] s2 = s2 := by simp [rTakes, his]
    rw [et]
    refine Goes.run [0] [(false, false)] ⟨rfl, trivial⟩ ?_
    refine Goes.call2 0 q0 44 #[.pointer (some ⟨q0, 0, none⟩), strV [61]] (.tuple #[]) (rdS b c ts s4) (fun w' hm hI => by rw [← hs4, er]; exact want_any ⟨hm.get 0, hI.now.2⟩ hE h2.lt [61]) ?_
    refine Goes.run [] [] trivial ?_
    refine Goes.callN L 25 #[.pointer (some ⟨q0, 0, none⟩)] (e.1.t, e.2) (fun w' hm hI hlt => he ▸ outerN hE ⟨hm.get 0, hI.now.2⟩ h4.lt (List.mem_append_right _ hq) hlt) (fun w' hI => hI.1.lt hL) fun u hu => ?_
    refine Goes.run1 [] [] trivial fun g3 => ?_
    refine Goes.appT (I0 := fun w' => Ch [q0] w w' ∧ Tks w' b c ts) w.heap.size 23 25 23 5 64 T6.ns L (.slice none 0 0) [] [] u (tdz e.1.t) 3 g3 25 (0, 0) (fun w' hI => ⟨⟨hI.1, RowT.nil⟩, hI.2, hI.1.1.size⟩) hu (base_stay h) rfl (ns_one _) (by decide) (by decide) fun a' c' => ?_
    refine Goes.run [] [] trivial ?_
    refine Goes.call2 0 q0 44 #[.pointer (some ⟨q0, 0, none⟩), strV [59]] (.tuple #[]) (rdS b c ts (rWant ts [59] e.2)) (fun w' hm hI => want_any ⟨hm.get 0, hI.now.1.2⟩ hE h5.lt [59]) ?_
    refine Goes.run [2, 2, 1] [] trivial ?_
    refine Goes.ret [1] (nv 3 t.tx 0 (.slice a' 1 c') t.a) fun w' hm hI => ⟨⟨3, t.tx, 0, a', 1, c', t.a, 0⟩, rfl, rfl, hI.now.1.1, hm.get 0, fun w2 hc2 => ?_⟩
    rw [er]
    exact nd_rowT (us := [u]) (ts := [e.1.t]) hI.now.2 hc2 hL 3 t.tx 0 t.a
  | true =>
    have er : r = parP ts (rNext s2) := by rw [← hr]; unfold letB; rw [his]; rfl
    have et : rTakes ts [40] s2 = rNext s2 := by simp [rTakes, his]
    have h2' := mv_is hE h2.lt his
    rw [et]
    refine Goes.run [1] [(true, true)] ⟨rfl, trivial⟩ ?_
    refine Goes.call1 0 q0 77 #[.pointer (some ⟨q0, 0, none⟩)] fun w1 hm _ hI => (params_any hE (L := _ ++ L) ⟨hm.get 0, hI.now.2⟩ h2'.lt (fun x hx => (List.mem_append.1 hx).elim (ids_lt hm x) (hI.now.1.lt hL x))).mono fun _ w2 ⟨a, cc, us, e1, e2, e3, e4, e5⟩ => ⟨.slice a us.length cc, _, fun w' => RowT 25 5 T6.ns w.heap.size L (.slice a us.length cc) us (r.1.map tdz) w', e1, e2, e3, fun w3 hc3 => ?_, ?_⟩
    · have h6 := e5 w3 (hc3.mono (fun x hx => List.mem_append_left _ hx))
      rw [er]
      refine ⟨own_base h6.1 hI.now.1.size, h6.2.1, fun i u t h7 h8 => (h6.2.2 i u t h7 h8).less (fun x hx => ?_)⟩
      rcases List.mem_append.1 hx with hx | hx
      · exact List.mem_append_left _ hx
      · exact List.mem_append_right _ (List.mem_append_right _ hx)
    rw [← er]
    refine Goes.run [] [] trivial ?_
    refine Goes.call2 0 q0 44 #[.pointer (some ⟨q0, 0, none⟩), strV [61]] (.tuple #[]) (rdS b c ts s4) (fun w' hm hI => by rw [← hs4]; exact want_any ⟨hm.get 0, hI.now.1.2⟩ hE h3.lt [61]) ?_
    refine Goes.run [] [] trivial ?_
    refine Goes.callN ((Value.slice a us.length cc).ownBlock.toList ++ L) 25 #[.pointer (some ⟨q0, 0, none⟩)] (e.1.t, e.2) (fun w' hm hI hlt => he ▸ outerN hE ⟨hm.get 0, hI.now.1.2⟩ h4.lt (List.mem_append_right _ (List.mem_append_right _ hq)) hlt) (fun w' hI => hI.2.lt (hI.1.1.lt hL)) fun u hu => ?_
    refine Goes.run1 [] [] trivial fun g3 => ?_
    refine Goes.appT (I0 := fun w' => Ch [q0] w w' ∧ Tks w' b c ts) w.heap.size 23 25 23 5 64 T6.ns L (.slice a us.length cc) us (r.1.map tdz) u (tdz e.1.t) 3 g3 25 (0, 0) (fun w' hI => ⟨hI.1, hI.2, hI.1.1.1.size⟩) hu (base_stay h) rfl (ns_one _) (by omega) (by decide) fun a' c' => ?_
    refine Goes.run [] [] trivial ?_
    refine Goes.call2 0 q0 44 #[.pointer (some ⟨q0, 0, none⟩), strV [59]] (.tuple #[]) (rdS b c ts (rWant ts [59] e.2)) (fun w' hm hI => want_any ⟨hm.get 0, hI.now.1.2⟩ hE h5.lt [59]) ?_
    refine Goes.run [2, 2, 1] [] trivial ?_
    refine Goes.ret [1] (nv 3 t.tx 0 (.slice a' (us.length + 1) c') t.a) fun w' hm hI => ⟨⟨3, t.tx, 0, a', us.length + 1, c', t.a, 0⟩, rfl, rfl, hI.now.1.1, hm.get 0, fun w2 hc2 => ?_⟩
    have h9 := hI.now.2
    rw [← hmap, show us.length + 1 = (us ++ [u]).length by simp] at h9
    have h10 := nd_rowT h9 hc2 hL 3 t.tx 0 t.a
    rw [show (us ++ [u]).length = us.length + 1 by simp] at h10
    exact h10
/-- A row that is read by a call. -/
def NRow (q0 b c : Nat) (ts : List Tk) (f : FuncId) (row : RS → Tr × RS) : Prop := ∀ (w : World) (s : RS) (L : List Nat), At w q0 b c ts s → s.i < ts.length → q0 ∈ L → (∀ x ∈ L, x < w.heap.size) → Calls Tryz.prog f #[.pointer (some ⟨q0, 0, none⟩)] w (ResN L w q0 b c ts (row s))
/-- What is known at the head of a loop of rows. -/
structure RL where
  k : Nat
  l : List Tr
  s : RS
  us : List T6
  a : Option Addr
  c : Nat
  N : Nat
set_option maxRecDepth 100000 in
set_option maxHeartbeats 1000000 in
seal rn Goes ans atEnd put0 putM opened putA0 oneSt st0 keep in
theorem rows_any (h : At w q0 b c ts s) (hi : s.i < ts.length) (hq : q0 ∈ L) (hL : ∀ x ∈ L, x < w.heap.size) {x : List UInt8} {most : Nat} (hmost : most ≤ 1000) {f : FuncId} (hf : okf Tryz.prog f = true) {row : RS → Tr × RS} (hr : NRow q0 b c ts f row) (hg : ∀ s, s.i < ts.length → Mv ts s (row s).2) (hadv : ∀ s, s.i < ts.length → (tkAt ts s).is [x] = true → s.i + 1 ≤ (row s).2.i) :
    Calls Tryz.prog 45 #[.pointer (some ⟨q0, 0, none⟩), strV x, .int .i64 most, .func (.func f) #[.pointer (some ⟨q0, 0, none⟩)] #[]] w fun e w' => ∃ a cc us, e = .returned (.slice a us.length cc) ∧ Ch [q0] w w' ∧ w'.heap[q0]? = some (rdS b c ts (rowsP ts x most row (ts.length + 1) [] s).2) ∧ us.length ≤ 1000 ∧ Stay L w' (fun w' => RowT 25 5 T6.ns w.heap.size L (.slice a us.length cc) us ((rowsP ts x most row (ts.length + 1) [] s).1.map tdz) w') := by
  obtain ⟨Z, hZ⟩ : ∃ Z, rowsP ts x most row (ts.length + 1) [] s = Z := ⟨_, rfl⟩
  rw [hZ]
  refine Goes.begin Tryz.func45 [(q0, rdS b c ts s)] (fun w => Tks w b c ts) (Holds.one h.rd) (by simp [Mem.ids]) h.stay ?_
  refine Goes.run [] [] trivial ?_
  refine Goes.loop (α := RL) 30 (fun q => [(0, .pointer (some ⟨q0, 0, none⟩)), (1, strV x), (2, .int .i64 most), (3, .func (.func f) #[.pointer (some ⟨q0, 0, none⟩)] #[]), (9, .slice q.a q.N q.c)])
    (fun q => [(q0, rdS b c ts q.s)])
    (fun q w' => (Ch [q0] w w' ∧ Tks w' b c ts) ∧ RowT 25 5 T6.ns w.heap.size L (.slice q.a q.N q.c) q.us (q.l.map tdz) w')
    (fun q => (rowsP ts x most row q.k q.l q.s = Z ∧ Mv ts s q.s ∧ ts.length + 1 ≤ q.k + q.s.i) ∧ q.us.length ≤ most ∧ q.us.length = q.l.length ∧ q.N = q.us.length) (fun q => ts.length - q.s.i) ⟨ts.length + 1, [], s, [], none, 0, 0⟩ ⟨⟨hZ, Mv.refl hi, Nat.le_add_right _ _⟩, Nat.zero_le _, rfl, rfl⟩ (fun w' h => ⟨h, RowT.nil⟩) ?_
  rintro ⟨k, l, s2, us, a, cc, N⟩ J ⟨⟨hch, hmv, hk⟩, hus, hlen, hN⟩ back
  simp only at hch hmv hk hus hlen hN back ⊢
  subst hN
  obtain ⟨k', rfl⟩ : ∃ k', k = k' + 1 := ⟨k - 1, by have := hmv.lt; omega⟩
  obtain ⟨t, ht⟩ : ∃ t, tkAt ts s2 = t := ⟨_, rfl⟩
  unfold rowsP at hch
  rw [ht] at hch
  refine Goes.run [0] [] trivial ?_
  refine Goes.call0 43 #[.pointer (some ⟨q0, 0, none⟩)] (tkAt ts s2).v (fun w' hm hI => At.now ⟨hm.get 0, hI.now.1.2⟩ hmv.lt) ?_
  rw [ht]
  refine Goes.run1 [] [] trivial fun g1 => ?_
  refine Goes.call0 76 #[t.v, .slice (some ⟨g1, 0, none⟩) [x].length 1] (.bool (t.is [x])) (fun w' hm _ => is_any t (z := (0, 0)) (hm.get 1) (by simp)) ?_
  cases his : t.is [x] with
  | false =>
    rw [his] at hch
    simp only [cond_false] at hch
    refine Goes.run [0] [(false, false)] ⟨rfl, trivial⟩ ?_
    refine Goes.ret [] (.slice a us.length cc) fun w' hm hI => ⟨a, cc, us, rfl, hI.now.1.1, ?_, by omega, fun w2 hc2 => ?_⟩
    · rw [← hch]; exact hm.get 0
    · rw [← hch]
      refine ⟨own_ch hI.now.2.1 hc2 hL, hI.now.2.2.1, fun i u t h1 h2 w3 hc3 => ?_⟩
      exact hI.now.2.2.2 i u t h1 h2 w3 ((hc2.mono (fun x hx => List.mem_append_right _ hx)).trans hc3 (fun x hx => .inl hx))
  | true =>
    rw [his] at hch
    simp only [cond_true] at hch
    cases hmm : ((us.length : Int) == (most : Int)) with
    | true =>
      have e8 : (l.length == most) = true := by
        have : (us.length : Int) = (most : Int) := by simpa using hmm
        rw [beq_iff_eq]; omega
      rw [e8] at hch
      simp only [cond_true] at hch
      refine Goes.run [1, 1] [((us.length : Int) == (most : Int), true), (true, true)] ⟨hmm, rfl, trivial⟩ ?_
      refine Goes.call0 43 #[.pointer (some ⟨q0, 0, none⟩)] (tkAt ts s2).v (fun w' hm hI => At.now ⟨hm.get 0, hI.now.1.2⟩ hmv.lt) ?_
      rw [ht]
      refine Goes.run [] [] trivial ?_
      refine Goes.call2 0 q0 71 #[.pointer (some ⟨q0, 0, none⟩), .int .i64 76, .int .i64 t.a] (.tuple #[]) (rdS b c ts (rFail ts 76 t.a s2)) (fun w' hm hI => fail_any ⟨hm.get 0, hI.now.1.2⟩ hE 76 t.a) ?_
      refine Goes.run [] [] trivial ?_
      refine Goes.ret [] (.slice none 0 0) fun w' hm hI => ⟨none, 0, [], rfl, hI.now.1.1, ?_, by simp, fun w2 hc2 => ?_⟩
      · rw [← hch]; exact hm.get 0
      · rw [← hch]; exact RowT.nil
    | false =>
      have e8 : (l.length == most) = false := by
        have : ¬ (us.length : Int) = (most : Int) := by simpa using hmm
        rw [beq_eq_false_iff_ne]; omega
      have hlt : us.length < most := by
        have : ¬ (us.length : Int) = (most : Int) := by simpa using hmm
        omega
      rw [e8] at hch
      simp only [cond_false] at hch
      obtain ⟨r, hrr⟩ : ∃ r, row s2 = r := ⟨_, rfl⟩
      have hB := hg s2 hmv.lt
      have hA := hadv s2 hmv.lt (by rw [ht]; exact his)
      rw [hrr] at hB hA hch
      refine Goes.run [1, 0] [((us.length : Int) == (most : Int), false), (true, true)] ⟨hmm, rfl, trivial⟩ ?_
      refine Goes.callN ((Value.slice a us.length cc).ownBlock.toList ++ L) f #[.pointer (some ⟨q0, 0, none⟩)] r (fun w' hm hI hlt => hrr ▸ hr w' s2 _ ⟨hm.get 0, hI.now.1.2⟩ hmv.lt (List.mem_append_right _ (List.mem_append_right _ hq)) hlt) (fun w' hI => hI.2.lt (hI.1.1.lt hL)) (fun u hu => ?_) (hf := hf)
      refine Goes.run1 [] [] trivial fun g2 => ?_
      refine Goes.appT (I0 := fun w' => Ch [q0] w w' ∧ Tks w' b c ts) w.heap.size 23 25 23 5 64 T6.ns L (.slice a us.length cc) us (l.map tdz) u (tdz r.1) 2 g2 25 (0, 0) (fun w' hI => ⟨hI.1, hI.2, hI.1.1.1.size⟩) hu (base_stay h) rfl (ns_one _) (by omega) (by decide) fun a' c' => ?_
      refine Goes.run [] [] trivial ?_
      refine Goes.keep 1 ?_
      have hmap : (l ++ [r.1]).map tdz = l.map tdz ++ [tdz r.1] := by simp
      have hp : (rowsP ts x most row k' (l ++ [r.1]) r.2 = Z ∧ Mv ts s r.2 ∧ ts.length + 1 ≤ k' + r.2.i) ∧ (us ++ [u]).length ≤ most ∧ (us ++ [u]).length = (l ++ [r.1]).length ∧ us.length + 1 = (us ++ [u]).length := ⟨⟨hch, hmv.trans hB, by omega⟩, by simp; omega, by simp [hlen], by simp⟩
      have hdec : ts.length - r.2.i < ts.length - s2.i := by have := hmv.lt; omega
      exact Goes.inv (fun w' h => by simp only [hmap]; exact h) (back ⟨k', l ++ [r.1], r.2, us ++ [u], a', c', us.length + 1⟩ _ hp hdec (by kernel_rfl) (by kernel_rfl) (by kernel_rfl))
end
end Go.Proofs.YtommhgmlblecnaaGreatDoor
namespace Go.Proofs.YtommhgmlblecnaaGreatDoor
open Go Go.RowKit

theorem app_nil (a : Option Addr) (n c : Nat) (hc : n ≤ c) (w : World) : (Builtin.append_ #[23, 23] 23 #[.slice a n c, .slice none 0 0]).run Tryz.prog w = .ok (.slice a n c) w := by
  cases a with
  | none => go_simp
  | some a => go_simp
/-- A row behind another: what append does. -/
theorem append_two {base : Nat} {v1 v2 : Value} {n m : Nat} {xs ys : List Value} {w : World} (h1 : w.ownsRow base 25 5 v1 n xs) (h2 : w.ownsRow base 25 5 v2 m ys) (hbase : base ≤ w.heap.size) (hone : ∀ u ∈ ys, u.oneCell' = true) (h63 : n + m ≤ 1000000) :
    ∃ a c' w', (Builtin.append_ #[23, 23] 23 #[v1, v2]).run Tryz.prog w = .ok (.slice a (n + m) c') w' ∧ w'.ownsRow base 25 5 (.slice a (n + m) c') (n + m) (xs ++ ys) ∧ w.grownBy w' v1.ownBlock ∧ ((Value.slice a (n + m) c').ownBlock = v1.ownBlock ∨ (Value.slice a (n + m) c').ownBlock = some w.heap.size) := by
  rcases h2.2 with ⟨rfl, rfl⟩ | ⟨g, cap, cur, rfl, hg0, hg, hn, hcap, hsz, htk⟩
  · have hy : ys = [] := List.eq_nil_of_length_eq_zero (by rw [h2.1])
    subst hy
    rw [List.append_nil, Nat.add_zero]
    obtain ⟨a, c, rfl, hc⟩ : ∃ a c, v1 = .slice a n c ∧ n ≤ c := by
      rcases h1.2 with ⟨rfl, rfl⟩ | ⟨g, cap, cur, rfl, -, -, hn, -⟩
      · exact ⟨none, 0, rfl, Nat.le_refl _⟩
      · exact ⟨_, cap, rfl, hn⟩
    exact ⟨a, c, w, app_nil a n c hc w, h1, ⟨rfl, rfl, rfl, Nat.le_refl _, fun _ _ _ => rfl⟩, .inl rfl⟩
  · have hel : elOk Tryz.prog 23 25 5 64 = true := by kernel_rfl
    unfold elOk at hel
    simp only [Bool.and_eq_true, decide_eq_true_eq] at hel
    obtain ⟨⟨hu, hi⟩, hsz5⟩ := hel
    cases hu1 : Tryz.prog.underlying 23 with
    | none => rw [hu1] at hu; cases hu
    | some d =>
      rw [hu1] at hu
      obtain rfl : d = .slice 25 := by
        cases d <;> simp at hu
        rw [hu]
      cases hi1 : Tryz.prog.info? 25 with
      | none => rw [hi1] at hi; cases hi
      | some i =>
        rw [hi1] at hi
        simp only [Bool.and_eq_true, beq_iff_eq] at hi
        cases hz1 : i.zero with
        | none => rw [hz1] at hi; simp at hi
        | some z0 =>
          rw [hz1] at hi
          obtain ⟨v', w', hrun, hown', hgr, hnil, hob⟩ := run_append_own_at (P := Tryz.prog) (w := w) base 23 23 25 i z0 5 64 hu1 hi1 hz1 hi.1.1 hi.1.2 (eq_of_beq hi.2) hsz5 v1 n xs h1 ⟨g, 0, none⟩ m cap ys h2.1 (fun k u hu => by
            have e1 : (⟨g, 0, none⟩ : Addr).add k = ⟨g, k, none⟩ := by unfold Addr.add; split <;> simp_all
            rw [e1]
            unfold World.cell?
            rw [hg]
            have hk := (List.getElem?_eq_some_iff.1 hu).1
            rw [← htk, List.getElem?_take_of_lt (by rw [h2.1] at hk; exact hk)] at hu
            simpa using hu) hone (by unfold maxLen; omega) (by omega) hbase
          rcases Nat.eq_zero_or_pos (n + m) with h0 | h0
          · rcases hown'.2 with ⟨rfl, -⟩ | ⟨g', cap', cur', rfl, -⟩
            · exact ⟨none, 0, w', by rw [h0]; exact hrun, by rw [h0] at hown' ⊢; exact hown', hgr, by rw [h0]; exact hob⟩
            · exact ⟨_, _, w', hrun, hown', hgr, hob⟩
          · rcases hown'.2 with ⟨-, h3⟩ | ⟨g', cap', cur', rfl, -⟩
            · omega
            · exact ⟨_, _, w', hrun, hown', hgr, hob⟩
section
variable {F : Exit → Act → World → Prop} {Inv : World → Prop} {st : St}
/-- A row of trees behind another, in a region that draws its order. -/
theorem TookS.rows {I0 : World → Prop} (i base : Nat) (L : List Nat) (v1 v2 : Value) (us1 us2 : List T6) (l1 l2 : List TD)
    (hI : ∀ w, Inv w → I0 w ∧ RowT 25 5 T6.ns base L v1 us1 l1 w ∧ RowT 25 5 T6.ns base (v1.ownBlock.toList ++ L) v2 us2 l2 w ∧ base ≤ w.heap.size) (hst : ∀ w w', I0 w → Below base w w' → I0 w') (h63 : us1.length + us2.length ≤ 1000000)
    (h : ∀ a c', Goes Tryz.prog F (fun w => I0 w ∧ RowT 25 5 T6.ns base L (.slice a (us1 ++ us2).length c') (us1 ++ us2) (l1 ++ l2) w) (putA0 i st (.slice a (us1 ++ us2).length c')))
    (h0 : anyM st = [] := by kernel_rfl) (hw : anyWant i st = true := by kernel_rfl) (ho' : (anyOp i st).map (execOp (evalL st.tmps)) = some (vS (Builtin.append_ #[23, 23] 23 #[v1, v2])) := by kernel_rfl) : TookS Tryz.prog F Inv i st := by
  refine TookS.eff i (Builtin.append_ #[23, 23] 23 #[v1, v2]) (fun w hm hn hS => ?_) h0 hw ho'
  have hnow := hI w hS.now
  have hone : ∀ u ∈ us2.flatMap T6.ns, u.oneCell' = true := by
    intro u hu
    obtain ⟨x, -, hx⟩ := List.mem_flatMap.1 hu
    exact ns_one x u hx
  obtain ⟨a, c', w', hrun, hown', hgr, hob⟩ := append_two hnow.2.1.1 hnow.2.2.1.1 hnow.2.2.2 hone h63
  obtain ⟨h3, h4⟩ := append_stay hm (hS.mono fun w h => ⟨(hI w h).1, (hI w h).2.1.1⟩) hst hown' hgr hob
  have hlen : (us1 ++ us2).length = us1.length + us2.length := by simp
  rw [hlen] at h
  refine ⟨_, w', _, st.mem, hrun, h3, hn, fun w2 hc2 => ?_, h a c'⟩
  obtain ⟨h5, h6⟩ := h4 w2 hc2
  refine ⟨h5, by rw [hlen, List.flatMap_append]; exact h6, ?_⟩
  have key : ∀ Q : World → Prop, Stay st.mem.ids w (fun w => Stay (v1.ownBlock.toList ++ L) w Q) → Stay ((Value.slice a (us1.length + us2.length) c').ownBlock.toList ++ L) w2 Q := by
    intro Q hQ w3 hc3
    refine hQ.join w3 ⟨hc3.os.trans (hc2.os.trans hgr.os), hc3.tape.trans (hc2.tape.trans hgr.tape), hc3.output.trans (hc2.output.trans hgr.output), Nat.le_trans hgr.size (Nat.le_trans hc2.size hc3.size), fun k hk hx => ?_⟩
    simp only [List.mem_append, not_or] at hx
    have hk' := Nat.lt_of_lt_of_le hk hgr.size
    rw [hc3.block k (Nat.lt_of_lt_of_le hk' hc2.size) ?_, hc2.block k hk' hx.1, hgr.block k hk ?_]
    · intro e
      exact hx.2.1 (by rw [← e]; simp)
    · simp only [List.mem_append, not_or]
      refine ⟨fun hm' => ?_, hx.2.2⟩
      rcases hob with e | e
      · rw [e] at hm'; exact hx.2.1 hm'
      · rw [e] at hm'
        simp at hm'
        omega
  have hl1 : us1.length = l1.length := by have := congrArg List.length hnow.2.1.2.1; simpa using this
  refine ⟨by rw [List.map_append, List.map_append, hnow.2.1.2.1, hnow.2.2.1.2.1], fun i u t h7 h8 => ?_⟩
  rcases Nat.lt_or_ge i us1.length with hi | hi
  · rw [List.getElem?_append_left hi] at h7
    rw [List.getElem?_append_left (by omega)] at h8
    exact key _ (hS.mono fun w h => (hI w h).2.1.2.2 i u t h7 h8)
  · rw [List.getElem?_append_right hi] at h7
    rw [List.getElem?_append_right (by omega), ← hl1] at h8
    exact key _ (hS.mono fun w h => ((hI w h).2.2.1.2.2 _ u t h7 h8).less (fun x hx => List.mem_append_right _ hx))
end
section
variable {q0 b c : Nat} {ts : List Tk} (hE : Toks ts) {s : RS} {w : World} {L : List Nat}
include hE
omit hE in
theorem want_next {x : List UInt8} {s : RS} (hw : (tkAt ts s).is [x] = true) : s.i + 1 ≤ (rWant ts x s).i := by
  unfold rWant
  rw [hw]
  exact Nat.le_refl _
theorem imp_adv (s : RS) (hi : s.i < ts.length) (hw : (tkAt ts s).is [wImport] = true) : s.i + 1 ≤ (impP ts s).2.i := by
  have h1 := mv_want hE hi wImport
  have h2 := mv_kind hE h1.lt 2
  exact Nat.le_trans (want_next hw) (h2.trans (mv_want hE h2.lt [59])).le
theorem let_adv (s : RS) (hi : s.i < ts.length) (hw : (tkAt ts s).is [wLet] = true) : s.i + 1 ≤ (letP ts s).2.i := by
  have h1 := mv_want hE hi wLet
  have h2 := mv_kind hE h1.lt 2
  have h3 := mv_letB hE h2.lt
  have h4 := mv_want hE h3.lt [61]
  have h5 := good_expr hE 301 1 _ h4.lt
  exact Nat.le_trans (want_next hw) ((((h2.trans h3).trans h4).trans h5).trans (mv_want hE h5.lt [59])).le
theorem imp_row : NRow q0 b c ts 46 (impP ts) := fun _ _ _ h hi _ _ => import_any hE h hi
theorem let_row : NRow q0 b c ts 47 (letP ts) := fun _ _ _ h hi hq hL => let_any hE h hi hq hL
end
/-- A row is read as the program reads it from a reader's beginning. -/
theorem modP_eq (ts : List Tk) (s : RS) : modP ts s = (.mk 1 (tkAt ts (rWant ts wModule s)).tx 0 ((rowsP ts wImport 100 (impP ts) (ts.length + 1) [] (rWant ts [59] (rKind ts 2 (rWant ts wModule s)))).1 ++ (rowsP ts wLet 200 (letP ts) (ts.length + 1) [] (rowsP ts wImport 100 (impP ts) (ts.length + 1) [] (rWant ts [59] (rKind ts 2 (rWant ts wModule s)))).2).1) (tkAt ts s).a, (rowsP ts wLet 200 (letP ts) (ts.length + 1) [] (rowsP ts wImport 100 (impP ts) (ts.length + 1) [] (rWant ts [59] (rKind ts 2 (rWant ts wModule s)))).2).2) := rfl
section
variable {q0 b c : Nat} {ts : List Tk} (hE : Toks ts) {s : RS} {w : World} {L : List Nat}
include hE
set_option maxRecDepth 100000 in
set_option maxHeartbeats 1000000 in
seal rn Goes ans atEnd put0 putM opened putA0 oneSt st0 keep putA in
theorem module_any (h : At w q0 b c ts s) (hi : s.i < ts.length) (hq : q0 ∈ L) (hL : ∀ x ∈ L, x < w.heap.size) : Calls Tryz.prog 26 #[.pointer (some ⟨q0, 0, none⟩)] w (ResN L w q0 b c ts (modP ts s)) := by
  obtain ⟨t0, ht0⟩ : ∃ t0, tkAt ts s = t0 := ⟨_, rfl⟩
  obtain ⟨s1, hs1⟩ : ∃ s1, rWant ts wModule s = s1 := ⟨_, rfl⟩
  obtain ⟨t, ht⟩ : ∃ t, tkAt ts s1 = t := ⟨_, rfl⟩
  obtain ⟨s2, hs2⟩ : ∃ s2, rKind ts 2 s1 = s2 := ⟨_, rfl⟩
  obtain ⟨s3, hs3⟩ : ∃ s3, rWant ts [59] s2 = s3 := ⟨_, rfl⟩
  obtain ⟨ra, hra⟩ : ∃ ra, rowsP ts wImport 100 (impP ts) (ts.length + 1) [] s3 = ra := ⟨_, rfl⟩
  obtain ⟨rb, hrb⟩ : ∃ rb, rowsP ts wLet 200 (letP ts) (ts.length + 1) [] ra.2 = rb := ⟨_, rfl⟩
  have h1 := mv_want hE hi wModule
  rw [hs1] at h1
  have h2 := mv_kind hE h1.lt 2
  rw [hs2] at h2
  have h3 := mv_want hE h2.lt [59]
  rw [hs3] at h3
  have h4 := mv_rows hE (x := wImport) (most := 100) (fun s hi => mv_imp hE (s := s) hi) (ts.length + 1) [] _ h3.lt
  rw [hra] at h4
  rw [modP_eq, ht0, hs1, ht, hs2, hs3, hra, hrb]
  refine Goes.begin Tryz.func26 [(q0, rdS b c ts s)] (fun w => Tks w b c ts) (Holds.one h.rd) (by simp [Mem.ids]) h.stay ?_
  refine Goes.run1 [] [] trivial fun g1 => ?_
  refine Goes.call0 43 #[.pointer (some ⟨q0, 0, none⟩)] (tkAt ts s).v (fun w' hm hI => At.now ⟨hm.get 0, hI.now.2⟩ hi) ?_
  rw [ht0]
  refine Goes.run1 [2] [] trivial fun g2 => ?_
  refine Goes.call2 0 q0 44 #[.pointer (some ⟨q0, 0, none⟩), strV wModule] (.tuple #[]) (rdS b c ts s1) (fun w' hm hI => hs1 ▸ want_any ⟨hm.get 0, hI.now.2⟩ hE hi wModule) ?_
  refine Goes.run [] [] trivial ?_
  refine Goes.call2 0 q0 41 #[.pointer (some ⟨q0, 0, none⟩), .int .i64 2] (tkAt ts s1).v (rdS b c ts s2) (fun w' hm hI => hs2 ▸ kind_any ⟨hm.get 0, hI.now.2⟩ hE h1.lt 2) ?_
  rw [ht]
  refine Goes.run [2] [] trivial ?_
  refine Goes.call2 0 q0 44 #[.pointer (some ⟨q0, 0, none⟩), strV [59]] (.tuple #[]) (rdS b c ts s3) (fun w' hm hI => hs3 ▸ want_any ⟨hm.get 0, hI.now.2⟩ hE h2.lt [59]) ?_
  refine Goes.run [] [] trivial ?_
  refine Goes.call1 0 q0 45 #[.pointer (some ⟨q0, 0, none⟩), strV wImport, .int .i64 (100 : Nat), .func (.func 46) #[.pointer (some ⟨q0, 0, none⟩)] #[]] fun w1 hm _ hI => (rows_any hE (L := _ ++ L) ⟨hm.get 0, hI.now.2⟩ h3.lt (List.mem_append_right _ hq) (fun x hx => (List.mem_append.1 hx).elim (ids_lt hm x) (hI.now.1.lt hL x)) (by decide) (by kernel_rfl) (imp_row hE) (fun s hi => mv_imp hE hi) (imp_adv hE)).mono fun _ w2 ⟨a, cc, us, e1, e2, e3, e4, e5⟩ => ⟨.slice a us.length cc, _, fun w' => RowT 25 5 T6.ns w.heap.size L (.slice a us.length cc) us (ra.1.map tdz) w', e1, e2, e3, fun w3 hc3 => ?_, ?_⟩
  · have h6 := e5 w3 (hc3.mono (fun x hx => List.mem_append_left _ hx))
    rw [hra] at h6
    refine ⟨own_base h6.1 hI.now.1.size, h6.2.1, fun i u t h7 h8 => (h6.2.2 i u t h7 h8).less (fun x hx => ?_)⟩
    rcases List.mem_append.1 hx with hx | hx
    · exact List.mem_append_left _ hx
    · exact List.mem_append_right _ (List.mem_append_right _ hx)
  rw [hra]
  refine Goes.run [2] [] trivial ?_
  refine Goes.open [] ?_
  refine Goes.run [0, 2, 3, 4] [] trivial ?_
  refine Goes.two 1 5 (TookS.run 1 2 ?_) ?_
  · refine Goes.lone1 5 (TookS.call1 5 0 q0 45 #[.pointer (some ⟨q0, 0, none⟩), strV wLet, .int .i64 (200 : Nat), .func (.func 47) #[.pointer (some ⟨q0, 0, none⟩)] #[]] fun w1 hm _ hI => (rows_any hE (L := _ ++ ((Value.slice a us.length cc).ownBlock.toList ++ L)) ⟨hm.get 0, hI.now.1.2⟩ h4.lt (List.mem_append_right _ (List.mem_append_right _ hq)) (fun x hx => (List.mem_append.1 hx).elim (ids_lt hm x) (hI.now.2.lt (hI.now.1.1.lt hL) x)) (by decide) (by kernel_rfl) (let_row hE) (fun s hi => mv_let hE hi) (let_adv hE)).mono fun _ w2 ⟨a2, cc2, us2, e1, e2, e3, e4b, e5⟩ => ⟨.slice a2 us2.length cc2, _, fun w' => RowT 25 5 T6.ns w.heap.size ((Value.slice a us.length cc).ownBlock.toList ++ L) (.slice a2 us2.length cc2) us2 (rb.1.map tdz) w', e1, e2, e3, fun w3 hc3 => ?_, ?_⟩)
    · have h6 := e5 w3 (hc3.mono (fun x hx => List.mem_append_left _ hx))
      rw [hrb] at h6
      refine ⟨own_base h6.1 hI.now.1.1.size, h6.2.1, fun i u t h7 h8 => (h6.2.2 i u t h7 h8).less (fun x hx => ?_)⟩
      rcases List.mem_append.1 hx with hx | hx
      · exact List.mem_append_left _ hx
      · exact List.mem_append_right _ (List.mem_append_right _ hx)
    rw [hrb]
    refine Goes.lone1 6 (TookS.rows (I0 := fun w' => Ch [q0] w w' ∧ Tks w' b c ts) 6 w.heap.size L (.slice a us.length cc) (.slice a2 us2.length cc2) us us2 (ra.1.map tdz) (rb.1.map tdz) (fun w' hI => ⟨hI.1.1, hI.1.2, hI.2, hI.1.1.1.size⟩) (base_stay h) (by omega) fun a3 c3 => ?_)
    refine Goes.run [7] [] trivial ?_
    refine Goes.lone1 8 (TookS.run 8 2 ?_)
    refine Goes.run [2, 1] [] trivial ?_
    refine Goes.ret [1] (nv 1 t.tx 0 (.slice a3 (us ++ us2).length c3) t0.a) fun w' hm hI => ⟨⟨1, t.tx, 0, a3, (us ++ us2).length, c3, t0.a, 0⟩, rfl, rfl, hI.now.1.1, hm.get 0, fun w2 hc2 => ?_⟩
    have h9 := hI.now.2
    rw [← List.map_append] at h9
    exact nd_rowT h9 hc2 hL 1 t.tx 0 t0.a
  · refine TookS.call1 5 0 q0 45 #[.pointer (some ⟨q0, 0, none⟩), strV wLet, .int .i64 (200 : Nat), .func (.func 47) #[.pointer (some ⟨q0, 0, none⟩)] #[]] fun w1 hm _ hI => (rows_any hE (L := _ ++ ((Value.slice a us.length cc).ownBlock.toList ++ L)) ⟨hm.get 0, hI.now.1.2⟩ h4.lt (List.mem_append_right _ (List.mem_append_right _ hq)) (fun x hx => (List.mem_append.1 hx).elim (ids_lt hm x) (hI.now.2.lt (hI.now.1.1.lt hL) x)) (by decide) (by kernel_rfl) (let_row hE) (fun s hi => mv_let hE hi) (let_adv hE)).mono fun _ w2 ⟨a2, cc2, us2, e1, e2, e3, e4b, e5⟩ => ⟨.slice a2 us2.length cc2, _, fun w' => RowT 25 5 T6.ns w.heap.size ((Value.slice a us.length cc).ownBlock.toList ++ L) (.slice a2 us2.length cc2) us2 (rb.1.map tdz) w', e1, e2, e3, fun w3 hc3 => ?_, ?_⟩
    · have h6 := e5 w3 (hc3.mono (fun x hx => List.mem_append_left _ hx))
      rw [hrb] at h6
      refine ⟨own_base h6.1 hI.now.1.1.size, h6.2.1, fun i u t h7 h8 => (h6.2.2 i u t h7 h8).less (fun x hx => ?_)⟩
      rcases List.mem_append.1 hx with hx | hx
      · exact List.mem_append_left _ hx
      · exact List.mem_append_right _ (List.mem_append_right _ hx)
    rw [hrb]
    refine Goes.lone1 1 (TookS.run 1 2 ?_)
    refine Goes.lone1 6 (TookS.rows (I0 := fun w' => Ch [q0] w w' ∧ Tks w' b c ts) 6 w.heap.size L (.slice a us.length cc) (.slice a2 us2.length cc2) us us2 (ra.1.map tdz) (rb.1.map tdz) (fun w' hI => ⟨hI.1.1, hI.1.2, hI.2, hI.1.1.1.size⟩) (base_stay h) (by omega) fun a3 c3 => ?_)
    refine Goes.run [7] [] trivial ?_
    refine Goes.lone1 8 (TookS.run 8 2 ?_)
    refine Goes.run [2, 1] [] trivial ?_
    refine Goes.ret [1] (nv 1 t.tx 0 (.slice a3 (us ++ us2).length c3) t0.a) fun w' hm hI => ⟨⟨1, t.tx, 0, a3, (us ++ us2).length, c3, t0.a, 0⟩, rfl, rfl, hI.now.1.1, hm.get 0, fun w2 hc2 => ?_⟩
    have h9 := hI.now.2
    rw [← List.map_append] at h9
    exact nd_rowT h9 hc2 hL 1 t.tx 0 t0.a
end
end Go.Proofs.YtommhgmlblecnaaGreatDoor
namespace Go.Proofs.YtommhgmlblecnaaGreatDoor
open Go Go.RowKit

theorem prt_toks {l : List UInt8} (h : (prt l).2.1 = 0) : Toks (prt l).1 := by
  obtain ⟨body, e, -, hl⟩ := prt_shape h
  rw [e]
  refine ⟨by simp, ?_, by simp; omega⟩
  simp [List.getD, endK]
/-- A row from the beginning of a text, and nothing more: the tree, the place, what is wrong. -/
def whR (row : List Tk → RS → Tr × RS) (ts : List Tk) : Tr × Int × Int :=
  bif (rKind ts 0 (row ts ⟨0, 0, 0⟩).2).wh != 0 then (.mk 0 [] 0 [] 0, (rKind ts 0 (row ts ⟨0, 0, 0⟩).2).p, (rKind ts 0 (row ts ⟨0, 0, 0⟩).2).wh) else ((row ts ⟨0, 0, 0⟩).1, 0, 0)
def whP (row : List Tk → RS → Tr × RS) (l : List UInt8) : Tr × Int × Int := bif (prt l).2.1 != 0 then (.mk 0 [] 0 [] 0, (prt l).2.2, (prt l).2.1) else whR row (prt l).1
def xprP (ts : List Tk) (s : RS) : Tr × RS := ((exprP ts 301 1 s).1.t, (exprP ts 301 1 s).2)
set_option maxRecDepth 100000 in
set_option maxHeartbeats 2000000 in
seal rn Goes ans atEnd put0 putM opened putA0 oneSt st0 keep putA prt in
theorem whole_any (l : List UInt8) (w : World) (ht : Tab w) {L : List Nat} (hL : ∀ x ∈ L, x < w.heap.size) {f : FuncId} (hf : okf Tryz.prog f = true) {row : List Tk → RS → Tr × RS} (hr : ∀ (q0 b c : Nat) (ts : List Tk), Toks ts → NRow q0 b c ts f (row ts)) (hg : ∀ ts, Toks ts → ∀ s, s.i < ts.length → Mv ts s (row ts s).2) :
    Calls Tryz.prog 24 #[strV l, .func (.func f) #[] #[]] w fun e w' => ∃ u : T6, e = .returned (.tuple #[u.nd, .int .i64 (whP row l).2.1, .int .i64 (whP row l).2.2]) ∧ Below w.heap.size w w' ∧ Stay L w' (fun w => Nd w u.nd (whP row l).1) := by
  refine Goes.begin Tryz.func24 [] Tab (fun j b o h => by cases h) (by simp [Mem.ids]) ht.stay ?_
  refine Goes.run1 [] [] trivial fun g1 => ?_
  refine Goes.callG [g1] 40 #[strV l] fun w1 hm1 hI1 => (parted_any l w1 hI1.now.2 (L := [g1] ++ L) (fun x hx => (List.mem_append.1 hx).elim (hm1 x) (hI1.now.1.lt hL x))).mono fun e w2 ⟨hB, v, e1, hv⟩ => ?_
  rcases hv with ⟨h0, rfl⟩ | ⟨h0, b, c, rfl, hS⟩
  · refine ⟨_, fun _ => True, e1, hB, fun _ _ => trivial, ?_⟩
    obtain ⟨W, hW⟩ : ∃ W, (prt l).2.1 = W := ⟨_, rfl⟩
    obtain ⟨A, hA⟩ : ∃ A, (prt l).2.2 = A := ⟨_, rfl⟩
    have hz : whP row l = (.mk 0 [] 0 [] 0, A, W) := by
      unfold whP
      rw [hW, hA]
      have : (W != 0) = true := by rw [← hW]; simpa using h0
      rw [this]
      rfl
    rw [hz, hW, hA]
    have hw0 : (W != 0) = true := by rw [← hW]; simpa using h0
    refine Goes.run1 [1, 1, 1] [(W != 0, true)] ⟨hw0, trivial⟩ fun g2 => ?_
    refine Goes.open [1] ?_
    refine Goes.run [0, 1, 2, 0, 3, 4, 0] [] trivial ?_
    refine Goes.oneA 5 0 [1] ?_
    refine Goes.run [6, 7] [] trivial ?_
    exact Goes.ret [0] (.tuple #[nv 0 [] 0 (.slice none 0 0) 0, .int .i64 A, .int .i64 W]) fun w' hm hI => ⟨⟨0, [], 0, none, 0, 0, 0, 0⟩, rfl, ch_below hI.now.1.1, fun _ _ => nd_leaf _ _ _ _⟩
  · have hE := prt_toks h0
    obtain ⟨ts, hts⟩ : ∃ ts, (prt l).1 = ts := ⟨_, rfl⟩
    rw [hts] at hE hS e1
    have hz : whP row l = whR row ts := by
      unfold whP
      rw [h0, hts]
      rfl
    rw [hz]
    obtain ⟨r, hrr⟩ : ∃ r, row ts ⟨0, 0, 0⟩ = r := ⟨_, rfl⟩
    obtain ⟨s2, hs2⟩ : ∃ s2, rKind ts 0 r.2 = s2 := ⟨_, rfl⟩
    have hi0 : (⟨0, 0, 0⟩ : RS).i < ts.length := hE.pos
    have h1 := hg ts hE ⟨0, 0, 0⟩ hi0
    rw [hrr] at h1
    refine ⟨_, fun w' => Stay L w' (fun w => Tks w b c ts), e1, hB, hS.split, ?_⟩
    obtain ⟨A, hA⟩ : ∃ A, (prt l).2.2 = A := ⟨_, rfl⟩
    rw [h0, hA]
    have hlt : ∀ w', Ch [] w w' → ∀ x ∈ L, x < w'.heap.size := fun w' hc x hx => Nat.lt_of_lt_of_le (hL x hx) hc.size
    have hI2 : ∀ ids w', Stay ids w' (fun w2 => ((Ch [] w w2 ∧ Tab w2) ∧ Stay L w2 (fun w => Tks w b c ts))) → Stay (ids ++ L) w' (fun w => Tks w b c ts) := fun ids w' h => (h.mono fun _ h => h.2).join
    refine Goes.run2 [1, 1, 0] [((0 : Int) != 0, false)] ⟨by decide, trivial⟩ fun g2 g3 => ?_
    refine Goes.call1 2 g3 f #[.pointer (some ⟨g3, 0, none⟩)] (hf := hf) fun w3 hm _ hI => (hr g3 b c ts hE w3 ⟨0, 0, 0⟩ (_ ++ L) ⟨hm.get 2 (o := rdS b c ts ⟨0, 0, 0⟩), (hI2 _ _ hI).now⟩ hi0 (List.mem_append_left _ (ids_get (j := 2) (o := rdS b c ts ⟨0, 0, 0⟩) (by kernel_rfl))) (fun x hx => (List.mem_append.1 hx).elim (ids_lt hm x) (hlt w3 hI.now.1.1 x))).mono fun _ w4 ⟨u, q1, q2, q3, q4, q5⟩ => ⟨u.nd, _, fun w => Stay L w (fun w => Nd w u.nd r.1), q1, q3, q4, by rw [hrr] at q5; exact q5.split, ?_⟩
    rw [hrr]
    refine Goes.run1 [3] [] trivial fun g4 => ?_
    refine Goes.call2 2 g3 41 #[.pointer (some ⟨g3, 0, none⟩), .int .i64 0] (tkAt ts r.2).v (rdS b c ts s2) (fun w' hm hI => hs2 ▸ kind_any ⟨hm.get 2, hI.now.1.2.now⟩ hE h1.lt 0) ?_
    have hz2 : whR row ts = bif s2.wh != 0 then (.mk 0 [] 0 [] 0, s2.p, s2.wh) else (r.1, 0, 0) := by unfold whR; rw [hrr, hs2]
    rw [hz2]
    cases hw0 : (s2.wh != 0) with
    | true =>
      refine Goes.run [2, 1] [(s2.wh != 0, true)] ⟨hw0, trivial⟩ ?_
      refine Goes.open [2] ?_
      refine Goes.run [0, 1, 2, 3, 4, 5, 0, 6, 7, 8, 9, 10, 0] [] trivial ?_
      refine Goes.oneA 11 0 [2] ?_
      refine Goes.run [12, 13] [] trivial ?_
      exact Goes.ret [0] (.tuple #[nv 0 [] 0 (.slice none 0 0) 0, .int .i64 s2.p, .int .i64 s2.wh]) fun w' hm hI => ⟨⟨0, [], 0, none, 0, 0, 0, 0⟩, rfl, ch_below hI.now.1.1.1, fun _ _ => nd_leaf _ _ _ _⟩
    | false =>
      refine Goes.run [2, 0, 3, 0] [(s2.wh != 0, false)] ⟨hw0, trivial⟩ ?_
      exact Goes.ret [0] (.tuple #[u.nd, .int .i64 0, .int .i64 0]) fun w' hm hI => ⟨u, rfl, ch_below hI.now.1.1.1, hI.now.2⟩
end Go.Proofs.YtommhgmlblecnaaGreatDoor
namespace Go.Proofs.YtommhgmlblecnaaGreatDoor
open Go Go.RowKit

set_option maxRecDepth 100000 in
set_option maxHeartbeats 1000000 in
seal rn Goes ans atEnd put0 putM opened putA0 oneSt st0 keep putA prt whP in
theorem xexpr_any (l : List UInt8) (w : World) (ht : Tab w) {L : List Nat} (hL : ∀ x ∈ L, x < w.heap.size) : Calls Tryz.prog 10 #[strV l] w fun e w' => ∃ u : T6, e = .returned (.tuple #[u.nd, .int .i64 (whP xprP l).2.1, .int .i64 (whP xprP l).2.2]) ∧ Below w.heap.size w w' ∧ Stay L w' (fun w => Nd w u.nd (whP xprP l).1) := by
  obtain ⟨Z, hZ⟩ : ∃ Z, whP xprP l = Z := ⟨_, rfl⟩
  rw [hZ]
  refine Goes.begin Tryz.func10 [] Tab (fun j b o h => by cases h) (by simp [Mem.ids]) ht.stay ?_
  refine Goes.run1 [] [] trivial fun g1 => ?_
  refine Goes.callG [g1] 24 #[strV l, .func (.func 25) #[] #[]] fun w1 hm1 hI1 => (whole_any l w1 hI1.now.2 (L := [g1] ++ L) (fun x hx => (List.mem_append.1 hx).elim (hm1 x) (hI1.now.1.lt hL x)) (by kernel_rfl) (row := xprP) (fun _ _ _ _ hE _ _ _ h hi hq hL => outerN hE h hi hq hL) (fun _ hE s hi => good_expr hE 301 1 s hi)).mono fun _ w2 ⟨u, e1, hB, hS⟩ => ⟨_, fun w => Stay L w (fun w => Nd w u.nd Z.1), e1, hB, by rw [hZ] at hS; exact hS.split, ?_⟩
  rw [hZ]
  refine Goes.run [0] [] trivial ?_
  exact Goes.ret [0] (.tuple #[u.nd, .int .i64 Z.2.1, .int .i64 Z.2.2]) fun w' hm hI => ⟨u, rfl, ch_below hI.now.1.1, hI.now.2⟩
set_option maxRecDepth 100000 in
set_option maxHeartbeats 1000000 in
seal rn Goes ans atEnd put0 putM opened putA0 oneSt st0 keep putA prt whP in
theorem xmod_any (l : List UInt8) (w : World) (ht : Tab w) {L : List Nat} (hL : ∀ x ∈ L, x < w.heap.size) : Calls Tryz.prog 11 #[strV l] w fun e w' => ∃ u : T6, e = .returned (.tuple #[u.nd, .int .i64 (whP modP l).2.1, .int .i64 (whP modP l).2.2]) ∧ Below w.heap.size w w' ∧ Stay L w' (fun w => Nd w u.nd (whP modP l).1) := by
  obtain ⟨Z, hZ⟩ : ∃ Z, whP modP l = Z := ⟨_, rfl⟩
  rw [hZ]
  refine Goes.begin Tryz.func11 [] Tab (fun j b o h => by cases h) (by simp [Mem.ids]) ht.stay ?_
  refine Goes.run1 [] [] trivial fun g1 => ?_
  refine Goes.callG [g1] 24 #[strV l, .func (.func 26) #[] #[]] fun w1 hm1 hI1 => (whole_any l w1 hI1.now.2 (L := [g1] ++ L) (fun x hx => (List.mem_append.1 hx).elim (hm1 x) (hI1.now.1.lt hL x)) (by kernel_rfl) (row := modP) (fun _ _ _ _ hE _ _ _ h hi hq hL => module_any hE h hi hq hL) (fun _ hE s hi => mv_mod hE hi)).mono fun _ w2 ⟨u, e1, hB, hS⟩ => ⟨_, fun w => Stay L w (fun w => Nd w u.nd Z.1), e1, hB, by rw [hZ] at hS; exact hS.split, ?_⟩
  rw [hZ]
  refine Goes.run [0] [] trivial ?_
  exact Goes.ret [0] (.tuple #[u.nd, .int .i64 Z.2.1, .int .i64 Z.2.2]) fun w' hm hI => ⟨u, rfl, ch_below hI.now.1.1, hI.now.2⟩
end Go.Proofs.YtommhgmlblecnaaGreatDoor
namespace Go.Proofs.YtommhgmlblecnaaGreatDoor
open Go Go.RowKit

section
variable {P : Program} {F : Exit → Act → World → Prop} {Inv : World → Prop} {s : St}
/-- What follows from what is known, in the world as it is. -/
theorem Goes.know (h : ∀ w, Holds s.mem w → Stay s.mem.ids w Inv → ∃ Inv', Stay s.mem.ids w Inv' ∧ Goes P F Inv' s) : Goes P F Inv s := fun w hm hn hI => by
  obtain ⟨Inv', h1, h2⟩ := h w hm hI
  exact h2 w hm hn h1
end
section
variable {P : Program} {F : Exit → Act → World → Prop} {Inv : World → Prop} {s : St}
/-- A region that draws its order is opened; it reads other blocks, too. -/
def openedX (js : List Nat) (ex : Mem) (s : St) : St :=
  match s.todo with
  | .code (.region _ ops true) :: k => { s with todo := .any ops (sub js s.mem ++ ex) ops.size (Array.replicate ops.size false) :: k }
  | _ => s
theorem Holds.app {m m' : Mem} {w : World} (h : Holds m w) (h' : Holds m' w) : Holds (m ++ m') w := by
  intro j b o hj
  rcases List.mem_append.1 (List.mem_of_getElem? hj) with hx | hx
  · obtain ⟨i, hi⟩ := List.getElem?_of_mem hx
    exact h i b o hi
  · obtain ⟨i, hi⟩ := List.getElem?_of_mem hx
    exact h' i b o hi
theorem Goes.openX (js : List Nat) (ex : Mem) (hex : ∀ w, Inv w → Holds ex w) (h : Goes P F Inv (openedX js ex s)) (hm : P.follows .mixedOrders = true := by kernel_rfl) : Goes P F Inv s := by
  unfold openedX at h
  split at h
  · rename_i id ops k ht
    intro w h1 h2 h3
    rw [ht]
    exact qk_any hm ((sub_holds h1).app (hex w h3.now)) (h { w with drawn := w.drawn + 1 } h1 h2 (h3.ch ⟨rfl, rfl, rfl, Nat.le_refl _, fun _ _ _ => rfl⟩ (fun x hx => .inl hx)))
  · exact h
end
theorem addS7 {l m : List UInt8} (hl : l.length + m.length ≤ 9223372036854775807) (w : World) : (binOp .add 9 (strV l) (strV m)).run Tryz.prog w = .ok (strV (l ++ m)) w := by
  unfold strV
  go_simp
  rw [if_neg (by omega)]
  exact congrArg (fun x => Result.ok (Value.string x) w) (by apply ByteArray.ext; simp)
theorem strV_inj {a b : List UInt8} (h : strV a = strV b) : a = b := by
  unfold strV at h
  simp only [Value.string.injEq, ByteArray.mk.injEq] at h
  exact List.toArray_inj h
theorem nv_inj {k k' : Int} {x x' : List UInt8} {n n' : Int} {v v' : Value} {p p' : Int} (h : nv k x n v p = nv k' x' n' v' p') : k = k' ∧ x = x' ∧ n = n' ∧ v = v' ∧ p = p' := by
  unfold nv at h
  simp only [Value.agg.injEq, Array.mk.injEq, List.cons.injEq, Value.int.injEq, true_and, and_true] at h
  exact ⟨h.1, strV_inj h.2.1, h.2.2.1, h.2.2.2.1, h.2.2.2.2⟩
/-- A node's value, opened. -/
theorem Nd.t6 {w : World} {u : T6} {k : Int} {x : List UInt8} {n : Int} {ks : List Tr} {p : Int} (h : Nd w u.nd (.mk k x n ks p)) : ∃ a c d, u = ⟨k, x, n, a, ks.length, c, p, d⟩ := by
  obtain ⟨a, c, e, -, -⟩ := h.open
  obtain ⟨k', x', n', a', N', c', p', d'⟩ := u
  obtain ⟨rfl, rfl, rfl, h4, rfl⟩ := nv_inj e
  simp only [Value.slice.injEq] at h4
  obtain ⟨rfl, rfl, rfl⟩ := h4
  exact ⟨_, _, _, rfl⟩
theorem Nd.any {w : World} {v : Value} {t : Tr} (h : Nd w v t) : ∃ u : T6, v = u.nd := by
  obtain ⟨k, x, n, ks, p⟩ := t
  obtain ⟨a, c, e, -, -⟩ := h.open
  exact ⟨⟨k, x, n, a, ks.length, c, p, 0⟩, e⟩
theorem Cl.inj {w : World} {b o : Nat} {v v' : Value} (h : Cl w b o v) (h' : Cl w b o v') : v = v' := by
  obtain ⟨k, x, n, s, p, rfl, a0, a1, a2, a3, a4⟩ := h
  obtain ⟨k', x', n', s', p', rfl, b0, b1, b2, b3, b4⟩ := h'
  rw [a0] at b0
  rw [a1] at b1
  rw [a2] at b2
  rw [a3] at b3
  rw [a4] at b4
  have e1 := strV_inj (Option.some.inj b1)
  simp only [Option.some.injEq, Value.int.injEq, true_and] at b0 b2 b3 b4
  rw [b0, e1, b2, b3, b4]
theorem Cl.lt {w : World} {b o : Nat} {v : Value} (h : Cl w b o v) : b < w.heap.size := by
  obtain ⟨k, x, n, s, p, rfl, a0, -⟩ := h
  exact World.block_lt_of_cell? w _ a0
theorem Cl.same {w w' : World} {b o : Nat} {v : Value} (h : Cl w b o v) (e : w'.heap[b]? = w.heap[b]?) : Cl w' b o v := by
  obtain ⟨k, x, n, s, p, rfl, a0, a1, a2, a3, a4⟩ := h
  have key : ∀ o, w'.cell? ⟨b, o, none⟩ = w.cell? ⟨b, o, none⟩ := fun o => by unfold World.cell?; rw [e]
  exact ⟨k, x, n, s, p, rfl, (key _).trans a0, (key _).trans a1, (key _).trans a2, (key _).trans a3, (key _).trans a4⟩
/-- A kid of a tree that stays: where it lies, and its value. -/
theorem Stay.kid {L : List Nat} {w : World} {u : T6} {k : Int} {x : List UInt8} {n : Int} {ks : List Tr} {p : Int} (h : Stay L w (fun w => Nd w u.nd (.mk k x n ks p))) {i : Nat} {t : Tr} (hi : ks[i]? = some t) : ∃ b o v ob, u.a = some ⟨b, o, none⟩ ∧ Stay L w (fun w => Cl w b (o + i * 5) (T6.nd v) ∧ Nd w (T6.nd v) t ∧ w.heap[b]? = some ob) := by
  have hopen : ∀ w', Nd w' u.nd (.mk k x n ks p) → ∃ b o v, u.a = some ⟨b, o, none⟩ ∧ Cl w' b (o + i * 5) v ∧ Nd w' v t := by
    intro w' hn
    obtain ⟨a, c, e, -, hk⟩ := hn.open
    obtain ⟨-, -, -, h4, -⟩ := nv_inj (show nv u.k u.x u.n (.slice u.a u.N u.c) u.p = _ from e)
    simp only [Value.slice.injEq] at h4
    obtain ⟨b, o, v, e1, h1, h2⟩ := hk i t hi
    exact ⟨b, o, v, h4.1.trans e1, h1, h2⟩
  obtain ⟨b, o, v, ha, hc, hn⟩ := hopen w h.now
  have hb : b ∉ L := by
    intro hL
    have h0 := hc.lt
    have hch : Ch L w { w with heap := w.heap.setIfInBounds b (.map #[] 0) } := ⟨rfl, rfl, rfl, by simp, fun i _ hx => by
      show (w.heap.setIfInBounds b _)[i]? = _
      exact Array.getElem?_setIfInBounds_ne (fun (h : b = i) => hx (h ▸ hL))⟩
    obtain ⟨b', o', v', ha', hc', -⟩ := hopen _ (h _ hch)
    rw [ha] at ha'
    cases ha'
    obtain ⟨k, x, n, s, p, rfl, a0, -⟩ := hc'
    unfold World.cell? at a0
    have : (w.heap.setIfInBounds b (.map #[] 0))[b]? = some (.map #[] 0) := Array.getElem?_setIfInBounds_self_of_lt h0
    rw [show ({ w with heap := w.heap.setIfInBounds b (.map #[] 0) } : World).heap[b]? = some (.map #[] 0) from this] at a0
    simp at a0
  obtain ⟨v, rfl⟩ := hn.any
  obtain ⟨ob, hob⟩ : ∃ ob, w.heap[b]? = some ob := ⟨w.heap[b]'hc.lt, Array.getElem?_eq_getElem hc.lt⟩
  refine ⟨b, o, v, ob, ha, fun w' hch => ?_⟩
  have h1 := hc.same (hch.block b hc.lt hb)
  refine ⟨h1, ?_, (hch.block b hc.lt hb).trans hob⟩
  obtain ⟨b', o', v', ha', hc', hn'⟩ := hopen w' (h w' hch)
  rw [ha] at ha'
  cases ha'
  rw [h1.inj hc']
  exact hn'
theorem cl_k {w : World} {b o : Nat} {v : T6} (h : Cl w b o v.nd) (ty : TypeId) (ha : ∀ w, (isAgg ty).run Tryz.prog w = .ok false w) : (Instr.loadAt ty (.pointer (some ⟨b, o, none⟩))).run Tryz.prog w = .ok (.int .i64 v.k) w := by
  obtain ⟨k, x, n, s, p, e, a0, -⟩ := h
  obtain ⟨e1, -⟩ := nv_inj (show nv v.k v.x v.n (.slice v.a v.N v.c) v.p = _ from e)
  rw [e1]
  exact load1 ha a0
theorem cl_n {w : World} {b o : Nat} {v : T6} (h : Cl w b o v.nd) (ty : TypeId) (ha : ∀ w, (isAgg ty).run Tryz.prog w = .ok false w) : (Instr.loadAt ty (.pointer (some ⟨b, o + 2, none⟩))).run Tryz.prog w = .ok (.int .i64 v.n) w := by
  obtain ⟨k, x, n, s, p, e, -, -, a0, -⟩ := h
  obtain ⟨-, -, e1, -⟩ := nv_inj (show nv v.k v.x v.n (.slice v.a v.N v.c) v.p = _ from e)
  rw [e1]
  exact load1 ha a0
end Go.Proofs.YtommhgmlblecnaaGreatDoor
namespace Go.Proofs.YtommhgmlblecnaaGreatDoor
open Go Go.RowKit

def shT7 : Tr := .mk 13 [45] 0 [.mk 13 [45] 0 [.mk 10 [97] 0 [] 0, .mk 10 [98] 0 [] 4] 2, .mk 5 [] 1500000 [] 8] 6
theorem shown_tree : whP xprP [97, 32, 45, 32, 98, 32, 45, 32, 49, 46, 53] = (shT7, 0, 0) := by kernel_rfl
set_option maxRecDepth 100000 in
set_option maxHeartbeats 2000000 in
seal rn Goes ans atEnd put0 putM opened putA0 oneSt st0 keep putA prt whP in
theorem shown7_any (w : World) (ht : Tab w) : Calls Tryz.prog 9 #[] w fun e w' => e = .returned (.bool true) ∧ Below w.heap.size w w' := by
  refine Goes.begin Tryz.func9 [] Tab (fun j b o h => by cases h) (by simp [Mem.ids]) ht.stay ?_
  refine Goes.run [] [] trivial ?_
  refine Goes.callG [] 10 #[strV [97, 32, 45, 32, 98, 32, 45, 32, 49, 46, 53]] fun w1 hm1 hI1 => (xexpr_any _ w1 hI1.now.2 (L := []) (fun x hx => by simp at hx)).mono fun _ w2 ⟨u, e1, hB, hS⟩ => ⟨_, fun w => Nd w u.nd shT7, e1, hB, by rw [shown_tree] at hS; exact hS, ?_⟩
  rw [shown_tree]
  refine Goes.know fun w3 hm hI => ?_
  obtain ⟨b, o, v0, _, ha, h0⟩ := Stay.kid (hI.mono fun _ h => h.2) (i := 0) rfl
  obtain ⟨b', o', v1, _, ha', h1⟩ := Stay.kid (hI.mono fun _ h => h.2) (i := 1) rfl
  rw [ha] at ha'
  cases ha'
  obtain ⟨a, c, d, rfl⟩ := hI.now.2.t6
  obtain rfl : a = some ⟨b, o, none⟩ := ha
  obtain ⟨a0, c0, d0, rfl⟩ := h0.now.2.1.t6
  obtain ⟨a1, c1, d1, rfl⟩ := h1.now.2.1.t6
  refine ⟨_, (hI.mono fun _ h => h.1.1).and (h0.and h1), ?_⟩
  refine Goes.run1 [0, 1, 0, 1, 0, 1, 0] [(true, true), (true, true), (true, true)] ⟨rfl, rfl, rfl, trivial⟩ fun g1 => ?_
  refine Goes.val (Instr.indexAt 23 (.slice (some ⟨b, o, none⟩) 2 c) (.int .i64 (0 : Nat))) (.pointer (some ⟨b, o + 0 * 5, none⟩)) (fun w' _ _ => idx24 b o 2 c 0 (by decide) w') ?_
  refine Goes.run [] [] trivial ?_
  refine Goes.val (Instr.loadAt 3 (.pointer (some ⟨b, o + 0 * 5, none⟩))) (.int .i64 13) (fun w' _ hI => cl_k hI.now.2.1.1 3 Tryz.isAgg3) ?_
  refine Goes.run [1, 0] [(true, true)] ⟨rfl, trivial⟩ ?_
  refine Goes.val (Instr.indexAt 23 (.slice (some ⟨b, o, none⟩) 2 c) (.int .i64 (1 : Nat))) (.pointer (some ⟨b, o + 1 * 5, none⟩)) (fun w' _ _ => idx24 b o 2 c 1 (by decide) w') ?_
  refine Goes.run [] [] trivial ?_
  refine Goes.val (Instr.loadAt 2 (.pointer (some ⟨b, o + 1 * 5 + 2, none⟩))) (.int .i64 1500000) (fun w' _ hI => cl_n hI.now.2.2.1 2 Tryz.isAgg2) ?_
  refine Goes.run [] [] trivial ?_
  exact Goes.ret [] (.bool true) fun w' hm hI => ⟨rfl, ch_below hI.now.1⟩
end Go.Proofs.YtommhgmlblecnaaGreatDoor
