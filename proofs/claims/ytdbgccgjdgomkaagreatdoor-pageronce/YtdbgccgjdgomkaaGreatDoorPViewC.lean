/- A pager as the document sees it: what its pages have, and had; what each call leaves. -/
import Derived.Test.YtdbgccgjdgomkaaGreatDoorPComC
namespace Go.Proofs.YtdbgccgjdgomkaaGreatDoor
open Go Go.RowKit

abbrev Pgs := List (Option (List UInt8))
/-- Which pages are taken; how many are free. -/
def tk (c : Pgs) : List Bool := c.map Option.isSome
def nf (c : Pgs) : Nat := lef (tk c)
theorem tk_len (c : Pgs) : (tk c).length = c.length := by simp [tk]
theorem tk_set (c : Pgs) (q : Nat) (x : Option (List UInt8)) : tk (c.set q x) = (tk c).set q x.isSome := by simp [tk, List.map_set]
theorem tk_get (c : Pgs) (q : Nat) : (tk c)[q]? = c[q]?.map Option.isSome := by simp [tk]
theorem nf_le (c : Pgs) : nf c ≤ c.length := by have := lef_le (tk c); rw [tk_len] at this; exact this
theorem nf_take (c : Pgs) (q : Nat) (x : List UInt8) (h : c[q]? = some none) : nf (c.set q (some x)) + 1 = nf c := by
  unfold nf
  rw [tk_set]
  exact lef_set_true _ q (by rw [tk_get, h]; rfl)
theorem nf_give (c : Pgs) (q : Nat) (x : List UInt8) (h : c[q]? = some (some x)) : nf (c.set q none) = nf c + 1 := by
  unfold nf
  rw [tk_set]
  exact lef_set_false _ q (by rw [tk_get, h]; rfl)
theorem set_self {α : Type} (l : List α) (i : Nat) (a : α) (h : l[i]? = some a) : l.set i a = l := by
  refine List.ext_getElem? fun k => ?_
  rw [List.getElem?_set]
  by_cases e : i = k
  · subst e
    rw [if_pos rfl, if_pos (List.getElem?_eq_some_iff.1 h).1, h]
  · rw [if_neg e]
theorem tk_write (c : Pgs) (q : Nat) (x y : List UInt8) (h : c[q]? = some (some x)) : tk (c.set q (some y)) = tk c := by
  rw [tk_set]
  exact set_self _ _ _ (by rw [tk_get, h]; rfl)
theorem get_or (c : Pgs) (q : Nat) (h : q < c.length) : c[q]? = some none ∨ ∃ x, c[q]? = some (some x) := by
  rw [List.getElem?_eq_getElem h]
  cases c[q] with
  | none => exact .inl rfl
  | some x => exact .inr ⟨x, rfl⟩
/-- The least free page, if there is one. -/
theorem first_free : ∀ c : Pgs, nf c = 0 ∧ (∀ q : Nat, c[q]? ≠ some none) ∨ 0 < nf c ∧ ∃ q : Nat, c[q]? = some none ∧ ∀ i : Nat, i < q → c[i]? ≠ some none
  | [] => .inl ⟨rfl, fun q => by simp⟩
  | none :: r => .inr ⟨by unfold nf tk lef; simp, 0, rfl, fun i hi => by omega⟩
  | some x :: r => by
    have e : nf (some x :: r) = nf r := by unfold nf tk lef; simp
    rw [e]
    rcases first_free r with ⟨h1, h2⟩ | ⟨h1, q, h2, h3⟩
    · refine .inl ⟨h1, fun q => ?_⟩
      cases q with
      | zero => simp
      | succ q => exact h2 q
    · refine .inr ⟨h1, q + 1, h2, fun i hi => ?_⟩
      cases i with
      | zero => simp
      | succ i => exact h3 i (by omega)
/-- A root is none, or a page that is taken. -/
def rooted (c : Pgs) (r : Int) : Prop := r = -1 ∨ ∃ q : Nat, r = (q : Int) ∧ ∃ x, c[q]? = some (some x)
theorem rooted.set {c : Pgs} {r : Int} (h : rooted c r) (q : Nat) (x : Option (List UInt8)) (hq : (q : Int) ≠ r ∨ x ≠ none) : rooted (c.set q x) r := by
  rcases h with h | ⟨i, hi, y, hy⟩
  · exact .inl h
  · refine .inr ⟨i, hi, ?_⟩
    rw [List.getElem?_set]
    by_cases e : q = i
    · subst e
      rw [if_pos rfl, if_pos (List.getElem?_eq_some_iff.1 hy).1]
      rcases hq with h | h
      · exact absurd hi.symm h
      · cases x with
        | none => exact absurd rfl h
        | some x => exact ⟨x, rfl⟩
    · rw [if_neg e]; exact ⟨y, hy⟩
theorem rooted.lt {c : Pgs} {r : Int} (h : rooted c r) : -1 ≤ r ∧ r < c.length := by
  rcases h with h | ⟨q, hq, x, hx⟩
  · omega
  · have := (List.getElem?_eq_some_iff.1 hx).1; omega
/-- All blocks of cells but a disk's, its sectors', a journal's and a pager's are as they were. -/
structure Kq (w w' : World) : Prop where
  size : w.heap.size ≤ w'.heap.size
  block : ∀ (g : Nat) (c : Array Value) (t : TypeId) (z : Nat × Nat), w.heap[g]? = some (.cells c t z) → t ≠ 102 → t ≠ 120 → t ≠ 140 → t ≠ 90 → w'.heap[g]? = some (.cells c t z)
theorem Kq.refl (w : World) : Kq w w := ⟨Nat.le_refl _, fun _ _ _ _ h _ _ _ _ => h⟩
theorem Kq.of_kp {w w' : World} (h : Kp w w') : Kq w w' := ⟨h.size, fun g c t z hg h1 h2 h3 _ => h.block g c t z hg h1 h2 h3⟩
theorem Kq.of_below {w w' : World} (h : Below w.heap.size w w') : Kq w w' := Kq.of_kp (Kp.of_below h)
theorem Kq.trans {a b c : World} (h : Kq a b) (k : Kq b c) : Kq a c := ⟨Nat.le_trans h.size k.size, fun g d t z hg h1 h2 h3 h4 => k.block g d t z (h.block g d t z hg h1 h2 h3 h4) h1 h2 h3 h4⟩
theorem Kq.owns {w w' : World} (h : Kq w w') {t : TypeId} {B n : Nat} {v : Value} {xs : List Value} (ho : w.ownsRow B t 1 v n xs) (h1 : t ≠ 102) (h2 : t ≠ 120) (h3 : t ≠ 140) (h4 : t ≠ 90) : w'.ownsRow B t 1 v n xs := by
  refine ⟨ho.1, ?_⟩
  rcases ho.2 with h5 | ⟨g, cap, cur, rfl, hb, hg, r2⟩
  · exact .inl h5
  · exact .inr ⟨g, cap, cur, rfl, hb, h.block g _ _ _ hg h1 h2 h3 h4, r2⟩
theorem Kq.ats {w w' : World} (h : Kq w w') {B : Nat} {v : Value} {zs : List Int} (ha : Ats w B v zs) : Ats w' B v zs := h.owns ha (by decide) (by decide) (by decide) (by decide)
theorem Kq.of_p {w w' : World} {p j : Nat} {l : List Bool} {kl kr : Int} {bg : Bool} {lf rt : Int} {um bm : Option Nat} {off : Int} (h : Pg w p j l kl kr bg lf rt um bm off) (hF : Fr [p] w w') : Kq w w' :=
  ⟨hF.size, fun g c t z hg _ _ _ h4 => hF.at hg (fun hm => by
    obtain rfl : g = p := by simpa using hm
    have h2 := h.2
    rw [hg] at h2
    injection h2 with h2
    injection h2 with _ e
    exact h4 e)⟩
/-- A pager over a journal at rest: cur as the change has its pages, was as they were; the roots. -/
structure PV (B : Nat) (w : World) (p j d : Nat) (X : List Nat) (s : DS) (sq cnt : Nat) (bl : List (List UInt8)) (cur was : Pgs) (rt wr : Int) (bg : Bool) (um bm : Option Nat) (u : Int → Option Bool) (g : Int → Option (List UInt8)) : Prop where
  pm : PM w p j (tk was) (nf was) wr bg (nf cur) rt um bm 0 u g
  js : Js B w j d X s sq cnt bl
  len : cur.length = was.length
  us : ovl (tk was) u = tk cur
  gs : ∀ (i : Nat) (c : List UInt8), g i = some c → cur[i]? = some (some c)
  gn : ∀ (i : Nat) (c : List UInt8), g i = none → cur[i]? = some (some c) → was[i]? = some (some c)
  wb : ∀ (i : Nat) (c : List UInt8), was[i]? = some (some c) → cat bl (2 + i * 8) 8 = c
  hd : cat bl 0 2 = hdOf (tk was) (wr + 1).toNat
  rw' : rooted was wr
  rc : rooted cur rt
  idle : bg = false → cur = was ∧ rt = wr
  nb : (bl.length - 2) / 8 = was.length
  lo : B ≤ p
  mlo : ∀ m, um = some m ∨ bm = some m → B ≤ m
  ap : ∀ m, um = some m ∨ bm = some m → m ∉ j :: X
  tb : 0 < B
  Bw : B ≤ w.heap.size
/-- .. whatever lies in memory. -/
def Pv (B : Nat) (w : World) (p j d : Nat) (s : DS) (sq : Nat) (bl : List (List UInt8)) (cur was : Pgs) (rt wr : Int) : Prop := ∃ X cnt bg um bm u g, PV B w p j d X s sq cnt bl cur was rt wr bg um bm u g
section
variable {B : Nat} {w : World} {p j d : Nat} {X : List Nat} {s : DS} {sq cnt : Nat} {bl : List (List UInt8)} {cur was : Pgs} {rt wr : Int} {bg : Bool} {um bm : Option Nat} {u : Int → Option Bool} {g : Int → Option (List UInt8)} (h : PV B w p j d X s sq cnt bl cur was rt wr bg um bm u g)
include h
theorem PV.usf (i : Nat) (x : Option (List UInt8)) (hi : cur[i]? = some x) : Go.Proofs.YtdbgccgjdgomkaaGreatDoor.usf (tk was) u i = x.isSome ∧ i < (tk was).length := by
  have hil := (List.getElem?_eq_some_iff.1 hi).1
  have h1 : i < (tk was).length := by rw [tk_len, ← h.len]; exact hil
  have h2 := ovl_get (tk was) u i h1
  rw [h.us, tk_get, hi] at h2
  exact ⟨(Option.some.inj h2).symm, h1⟩
theorem PV.tknOf (k : Int) : tkn (tk was) u k = (decide (0 ≤ k) && (cur[k.toNat]?.getD none).isSome) := by
  unfold tkn
  by_cases h0 : 0 ≤ k
  · by_cases h1 : k < ((tk was).length : Int)
    · have hk : k.toNat < cur.length := by rw [h.len, ← tk_len was]; omega
      have h2 := h.usf k.toNat _ (List.getElem?_eq_getElem hk)
      rw [decide_eq_true h0, decide_eq_true h1, h2.1, List.getElem?_eq_getElem hk]
      simp
    · have hk : cur.length ≤ k.toNat := by rw [h.len, ← tk_len was]; omega
      rw [decide_eq_true h0, decide_eq_false h1, List.getElem?_eq_none hk]
      simp
  · rw [decide_eq_false h0]; simp
theorem PV.le : was.length ≤ 1023 := by have := h.pm.pg.1; rw [tk_len] at this; exact this
theorem PV.c896 (i : Nat) (c : List UInt8) (hi : cur[i]? = some (some c)) : c.length = 896 := by
  cases hg : g (i : Int) with
  | some c' =>
    have := h.gs i c' hg
    rw [hi] at this
    cases this
    exact h.pm.gl _ _ hg
  | none =>
    have h1 := h.gn i c hg hi
    rw [← h.wb i c h1]
    have hn := h.nb
    have hil := (List.getElem?_eq_some_iff.1 h1).1
    exact cat_len bl h.js.jr.sett.con.lens _ 8 (by omega)
theorem PV.below {w' : World} (hB : Below w.heap.size w w') : PV B w' p j d X s sq cnt bl cur was rt wr bg um bm u g :=
  { h with pm := h.pm.below hB, js := h.js.below hB, Bw := Nat.le_trans h.Bw hB.size }
/-- What a call leaves that touches the pager and its tables alone. -/
theorem PV.step {w' : World} (hF : Fr (p :: (um.toList ++ bm.toList)) w w') {um' bm' : Option Nat} (h1 : ∀ m, um' = some m → um = some m ∨ w.heap.size ≤ m) (h2 : ∀ m, bm' = some m → bm = some m ∨ w.heap.size ≤ m) {cur' : Pgs} {rt' : Int} {u' : Int → Option Bool} {g' : Int → Option (List UInt8)}
    (hp : PM w' p j (tk was) (nf was) wr true (nf cur') rt' um' bm' 0 u' g') (hl : cur'.length = was.length) (hus : ovl (tk was) u' = tk cur') (hgs : ∀ (i : Nat) (c : List UInt8), g' i = some c → cur'[i]? = some (some c)) (hgn : ∀ (i : Nat) (c : List UInt8), g' i = none → cur'[i]? = some (some c) → was[i]? = some (some c)) (hrc : rooted cur' rt') :
    PV B w' p j d X s sq cnt bl cur' was rt' wr true um' bm' u' g' ∧ Below B w w' ∧ Kq w w' := by
  obtain ⟨ku, hu⟩ := h.pm.mu
  obtain ⟨kb, hb⟩ := h.pm.mb
  have hBB : Below B w w' := hF.below h.Bw (fun x hx => by
    simp only [List.mem_cons, List.mem_append, Option.mem_toList] at hx
    rcases hx with rfl | hx | hx
    · exact h.lo
    · exact h.mlo x (.inl hx)
    · exact h.mlo x (.inr hx))
  have hnp : p ∉ j :: X := h.js.not h.pm.pg.2 (by decide) (by decide) (by decide)
  have hJ : Js B w' j d X s sq cnt bl := h.js.fr hF (fun k hk hm => by
    simp only [List.mem_cons, List.mem_append, Option.mem_toList] at hm
    rcases hm with rfl | hm | hm
    · exact hnp hk
    · exact h.ap k (.inl hm) hk
    · exact h.ap k (.inr hm) hk) (h.js.jr.tab.belowB hBB h.tb)
  have hlt := h.js.lt
  refine ⟨{ pm := hp, js := hJ, len := hl, us := hus, gs := hgs, gn := hgn, wb := h.wb, hd := h.hd, rw' := h.rw', rc := hrc, idle := fun e => (by cases e), nb := h.nb, lo := h.lo, mlo := fun m hm => ?_, ap := fun m hm => ?_, tb := h.tb, Bw := Nat.le_trans h.Bw hF.size }, hBB, ⟨hF.size, fun a c t z hg _ _ _ h4 => hF.at hg (fun hm => ?_)⟩⟩
  · rcases hm with hm | hm
    · rcases h1 m hm with e | e
      · exact h.mlo m (.inl e)
      · exact Nat.le_trans h.Bw e
    · rcases h2 m hm with e | e
      · exact h.mlo m (.inr e)
      · exact Nat.le_trans h.Bw e
  · rcases hm with hm | hm
    · rcases h1 m hm with e | e
      · exact h.ap m (.inl e)
      · exact fun hx => by have := hlt m hx; omega
    · rcases h2 m hm with e | e
      · exact h.ap m (.inr e)
      · exact fun hx => by have := hlt m hx; omega
  · simp only [List.mem_cons, List.mem_append, Option.mem_toList] at hm
    rcases hm with rfl | hm | hm
    · have h5 := h.pm.pg.2
      rw [hg] at h5
      injection h5 with h5
      injection h5 with _ e
      exact h4 e
    · exact hu.cells hm hg
    · exact hb.cells hm hg
end
/-- What is left behind a call. -/
def Aft (B : Nat) (w w' : World) (p j d : Nat) (s : DS) (sq : Nat) (bl : List (List UInt8)) (cur was : Pgs) (rt wr : Int) : Prop := Pv B w' p j d s sq bl cur was rt wr ∧ Below B w w' ∧ Kq w w'
theorem Aft.mk' {B : Nat} {w w' : World} {p j d : Nat} {X : List Nat} {s : DS} {sq cnt : Nat} {bl : List (List UInt8)} {cur was : Pgs} {rt wr : Int} {bg : Bool} {um bm : Option Nat} {u : Int → Option Bool} {g : Int → Option (List UInt8)} (h : PV B w' p j d X s sq cnt bl cur was rt wr bg um bm u g ∧ Below B w w' ∧ Kq w w') : Aft B w w' p j d s sq bl cur was rt wr := ⟨⟨_, _, _, _, _, _, _, h.1⟩, h.2⟩
section
variable {B : Nat} {w : World} {p j d : Nat} {s : DS} {sq : Nat} {bl : List (List UInt8)} {cur was : Pgs} {rt wr : Int} (h : Pv B w p j d s sq bl cur was rt wr)
include h
theorem Pv.left : Calls Tryz.prog 26 #[.pointer (some ⟨p, 0, none⟩)] w fun e w' => e = .returned (.int .i64 (nf cur)) ∧ w' = w := by
  obtain ⟨X, cnt, bg, um, bm, u, g, h⟩ := h
  exact left_any h.pm.pg
theorem Pv.root : Calls Tryz.prog 35 #[.pointer (some ⟨p, 0, none⟩)] w fun e w' => e = .returned (.int .i64 rt) ∧ w' = w := by
  obtain ⟨X, cnt, bg, um, bm, u, g, h⟩ := h
  exact root_any h.pm.pg
theorem Pv.pages : Calls Tryz.prog 29 #[.pointer (some ⟨p, 0, none⟩)] w fun e w' => e = .returned (.int .i64 cur.length) ∧ w' = w := by
  obtain ⟨X, cnt, bg, um, bm, u, g, h⟩ := h
  have h1 := pages_any h.pm.pg
  rw [tk_len, ← h.len] at h1
  exact h1
theorem Pv.below {w' : World} (hB : Below w.heap.size w w') : Pv B w' p j d s sq bl cur was rt wr := by
  obtain ⟨X, cnt, bg, um, bm, u, g, h⟩ := h
  exact ⟨X, cnt, bg, um, bm, u, g, h.below hB⟩
theorem Pv.le : cur.length ≤ 1023 := by
  obtain ⟨X, cnt, bg, um, bm, u, g, h⟩ := h
  rw [h.len]; exact h.le
theorem Pv.rl : rooted cur rt := by
  obtain ⟨X, cnt, bg, um, bm, u, g, h⟩ := h
  exact h.rc
theorem Pv.c896 (i : Nat) (c : List UInt8) (hi : cur[i]? = some (some c)) : c.length = 896 := by
  obtain ⟨X, cnt, bg, um, bm, u, g, h⟩ := h
  exact h.c896 i c hi
theorem Pv.allocFull (hf : ∀ q : Nat, cur[q]? ≠ some none) : Calls Tryz.prog 22 #[.pointer (some ⟨p, 0, none⟩)] w fun e w' => e = .returned (.tuple #[.int .i64 0, .int .i64 80]) ∧ w' = w := by
  obtain ⟨X, cnt, bg, um, bm, u, g, h⟩ := h
  refine alloc_full h.pm (fun k hk => ?_)
  rw [tk_len, ← h.len] at hk
  rcases get_or cur k hk with e | ⟨x, e⟩
  · exact absurd e (hf k)
  · exact (h.usf k _ e).1
theorem Pv.alloc (q : Nat) (hq : cur[q]? = some none) (hb : ∀ i : Nat, i < q → cur[i]? ≠ some none) : Calls Tryz.prog 22 #[.pointer (some ⟨p, 0, none⟩)] w fun e w' => e = .returned (.tuple #[.int .i64 q, .int .i64 0]) ∧ Aft B w w' p j d s sq bl (cur.set q (some z896)) was rt wr := by
  obtain ⟨X, cnt, bg, um, bm, u, g, h⟩ := h
  have hql := (List.getElem?_eq_some_iff.1 hq).1
  have hn := nf_take cur q z896 hq
  have hle := nf_le cur
  have hw := h.le
  have hl := h.len
  have hu := h.usf q _ hq
  refine (alloc_at h.pm q hu.2 hu.1 (fun k hk => ?_) (by omega) (by omega)).mono ?_
  · rcases get_or cur k (by omega) with e | ⟨x, e⟩
    · exact absurd e (hb k hk)
    · exact (h.usf k _ e).1
  · rintro e w' ⟨rfl, um', bm', hp, h1, h2, hF⟩
    have e1 : ((nf cur : Int) - 1) = ((nf (cur.set q (some z896)) : Nat) : Int) := by omega
    rw [e1] at hp
    refine ⟨rfl, Aft.mk' (h.step hF h1 h2 hp (by simp [hl]) (by rw [ovl_upd _ _ _ _ hu.2, h.us, tk_set]; rfl) (fun i c hi => ?_) (fun i c hi hc => ?_) (h.rc.set q _ (.inr (by simp))))⟩
    · by_cases e : i = q
      · subst e
        rw [updF_same] at hi; cases hi
        simp [hql]
      · rw [updF_ne _ _ (by omega)] at hi
        rw [List.getElem?_set_ne (by omega)]; exact h.gs i c hi
    · by_cases e : i = q
      · subst e
        rw [updF_same] at hi; cases hi
      · rw [updF_ne _ _ (by omega)] at hi
        rw [List.getElem?_set_ne (by omega)] at hc; exact h.gn i c hi hc
theorem Pv.freeNone (k : Int) (hk : k < 0 ∨ cur[k.toNat]?.getD none = none) : Calls Tryz.prog 27 #[.pointer (some ⟨p, 0, none⟩), .int .i64 k] w fun e w' => e = .returned (.int .i64 81) ∧ w' = w := by
  obtain ⟨X, cnt, bg, um, bm, u, g, h⟩ := h
  refine free_none h.pm k ?_
  rw [h.tknOf]
  rcases hk with hk | hk
  · rw [decide_eq_false (by omega)]; rfl
  · rw [hk]; simp
theorem Pv.freeRoot (q : Nat) (x : List UInt8) (hq : cur[q]? = some (some x)) (hr : (q : Int) = rt) : Calls Tryz.prog 27 #[.pointer (some ⟨p, 0, none⟩), .int .i64 q] w fun e w' => e = .returned (.int .i64 2) ∧ w' = w := by
  obtain ⟨X, cnt, bg, um, bm, u, g, h⟩ := h
  refine free_root h.pm (q : Int) ?_ hr
  rw [h.tknOf]
  simp [hq]
theorem Pv.free (q : Nat) (x : List UInt8) (hq : cur[q]? = some (some x)) (hr : (q : Int) ≠ rt) : Calls Tryz.prog 27 #[.pointer (some ⟨p, 0, none⟩), .int .i64 q] w fun e w' => e = .returned (.int .i64 0) ∧ Aft B w w' p j d s sq bl (cur.set q none) was rt wr := by
  obtain ⟨X, cnt, bg, um, bm, u, g, h⟩ := h
  have hql := (List.getElem?_eq_some_iff.1 hq).1
  have hn := nf_give cur q x hq
  have hle := nf_le cur
  have hw := h.le
  have hl := h.len
  have hu := h.usf q _ hq
  refine (free_ok h.pm q hu.2 hu.1 hr (by omega) (by omega)).mono ?_
  rintro e w' ⟨rfl, um', bm', hp, h1, h2, hF⟩
  have e1 : ((nf cur : Int) + 1) = ((nf (cur.set q none) : Nat) : Int) := by omega
  rw [e1] at hp
  refine ⟨rfl, Aft.mk' (h.step hF h1 h2 hp (by simp [hl]) (by rw [ovl_upd _ _ _ _ hu.2, h.us, tk_set]; rfl) (fun i c hi => ?_) (fun i c hi hc => ?_) (h.rc.set q _ (.inl hr)))⟩
  · by_cases e : i = q
    · subst e
      rw [updF_same] at hi; cases hi
    · rw [updF_ne _ _ (by omega)] at hi
      rw [List.getElem?_set_ne (by omega)]; exact h.gs i c hi
  · by_cases e : i = q
    · subst e
      simp [hql] at hc
    · rw [updF_ne _ _ (by omega)] at hi
      rw [List.getElem?_set_ne (by omega)] at hc; exact h.gn i c hi hc
theorem Pv.write (q : Nat) (x : List UInt8) (hq : cur[q]? = some (some x)) (gs o cap : Nat) (c : List UInt8) (hc : c.length = 896) (hrd : Rd w gs o c) {cs : Array Value} {t : TypeId} {z : Nat × Nat} (hgs : w.heap[gs]? = some (.cells cs t z)) (hne : t ≠ 90) :
    Calls Tryz.prog 36 #[.pointer (some ⟨p, 0, none⟩), .int .i64 q, .slice (some ⟨gs, o, none⟩) 896 cap] w fun e w' => e = .returned (.int .i64 0) ∧ Aft B w w' p j d s sq bl (cur.set q (some c)) was rt wr := by
  obtain ⟨X, cnt, bg, um, bm, u, g, h⟩ := h
  have hql := (List.getElem?_eq_some_iff.1 hq).1
  have hl := h.len
  have hu := h.usf q _ hq
  have ht := tk_write cur q x c hq
  refine (pwrite_ok h.pm q hu.2 hu.1 gs o cap c hc hrd hgs hne).mono ?_
  rintro e w' ⟨rfl, um', bm', hp, h1, h2, hF⟩
  have e1 : nf (cur.set q (some c)) = nf cur := by unfold nf; rw [ht]
  rw [← e1] at hp
  refine ⟨rfl, Aft.mk' (h.step hF h1 h2 hp (by simp [hl]) (by rw [ht]; exact h.us) (fun i c hi => ?_) (fun i c hi hc => ?_) (h.rc.set q _ (.inr (by simp))))⟩
  · by_cases e : i = q
    · subst e
      rw [updF_same] at hi; cases hi
      simp [hql]
    · rw [updF_ne _ _ (by omega)] at hi
      rw [List.getElem?_set_ne (by omega)]; exact h.gs i c hi
  · by_cases e : i = q
    · subst e
      rw [updF_same] at hi; cases hi
    · rw [updF_ne _ _ (by omega)] at hi
      rw [List.getElem?_set_ne (by omega)] at hc; exact h.gn i c hi hc
theorem Pv.setRoot (q : Nat) (x : List UInt8) (hq : cur[q]? = some (some x)) : Calls Tryz.prog 38 #[.pointer (some ⟨p, 0, none⟩), .int .i64 q] w fun e w' => e = .returned (.int .i64 0) ∧ Aft B w w' p j d s sq bl cur was q wr := by
  obtain ⟨X, cnt, bg, um, bm, u, g, h⟩ := h
  refine (setRoot_ok h.pm (q : Int) (by rw [h.tknOf]; simp [hq])).mono ?_
  rintro e w' ⟨rfl, hp, hF⟩
  obtain ⟨a, b, c⟩ := h.step (hF.mono (fun x hx => .inl (by simp at hx ⊢; exact .inl hx))) (fun _ h => .inl h) (fun _ h => .inl h) hp h.len h.us h.gs h.gn (.inr ⟨q, rfl, x, hq⟩)
  exact ⟨rfl, ⟨_, _, _, _, _, _, _, a⟩, b, c⟩
theorem Pv.setRootNo : Calls Tryz.prog 38 #[.pointer (some ⟨p, 0, none⟩), .int .i64 (-1)] w fun e w' => e = .returned (.int .i64 0) ∧ Aft B w w' p j d s sq bl cur was (-1) wr := by
  obtain ⟨X, cnt, bg, um, bm, u, g, h⟩ := h
  refine (setRoot_no h.pm).mono ?_
  rintro e w' ⟨rfl, hp, hF⟩
  obtain ⟨a, b, c⟩ := h.step (hF.mono (fun x hx => .inl (by simp at hx ⊢; exact .inl hx))) (fun _ h => .inl h) (fun _ h => .inl h) hp h.len h.us h.gs h.gn (.inl rfl)
  exact ⟨rfl, ⟨_, _, _, _, _, _, _, a⟩, b, c⟩
theorem Pv.readNone (k : Int) (hk : k < 0 ∨ cur[k.toNat]?.getD none = none) : Calls Tryz.prog 23 #[.pointer (some ⟨p, 0, none⟩), .int .i64 k] w fun e w' => e = .returned (.tuple #[.slice none 0 0, .int .i64 81]) ∧ w' = w := by
  obtain ⟨X, cnt, bg, um, bm, u, g, h⟩ := h
  refine pread_none h.pm k ?_
  rw [h.tknOf]
  rcases hk with hk | hk
  · rw [decide_eq_false (by omega)]; rfl
  · rw [hk]; simp
/-- Read of a page that is taken: bytes of its own, in one row of them. -/
theorem Pv.read (q : Nat) (c : List UInt8) (hq : cur[q]? = some (some c)) : Calls Tryz.prog 23 #[.pointer (some ⟨p, 0, none⟩), .int .i64 q] w fun e w' => ∃ b cap cs t, w.heap.size ≤ b ∧ 896 ≤ cap ∧ e = .returned (.tuple #[.slice (some ⟨b, 0, none⟩) 896 cap, .int .i64 0]) ∧ w'.heap[b]? = some (.cells cs t (0, 0)) ∧ (t = 109 ∨ t = 5) ∧ Rd w' b 0 c ∧ Below w.heap.size w w' := by
  obtain ⟨X, cnt, bg, um, bm, u, g, h⟩ := h
  have hu := h.usf q _ hq
  have hql := (List.getElem?_eq_some_iff.1 hq).1
  cases hg : g (q : Int) with
  | some c' =>
    have hc' := h.gs q c' hg
    rw [hq] at hc'
    cases hc'
    refine (pread_map h.pm q hu.2 hu.1 c hg).mono ?_
    rintro e w' ⟨b, hb, rfl, hR, hB⟩
    exact ⟨b, 896, _, _, hb, Nat.le_refl _, rfl, hR, .inl rfl, hR.rd, hB⟩
  | none =>
    have hw := h.gn q c hg hq
    have hn := h.nb
    have hil := (List.getElem?_eq_some_iff.1 hw).1
    refine (pread_blk h.pm h.js.jr q hu.2 hu.1 hg (by omega)).mono ?_
    rintro e w' ⟨v, rfl, ho, hB⟩
    have hcl := h.c896 q c hq
    rw [h.wb q c hw] at ho
    rcases ho.2 with ⟨_, h0⟩ | ⟨b, cap, cs, rfl, hb, hgb, h1, h2, h3, h4⟩
    · exact absurd h0 (by decide)
    · refine ⟨b, cap, cs, _, hb, h1, rfl, hgb, .inr rfl, fun k hk => ?_, hB⟩
      have hcc := ho.cells (g := b) rfl k _ (cells8_get c k hk)
      rwa [Addr.add_lit] at hcc
theorem Pv.abort : Calls Tryz.prog 28 #[.pointer (some ⟨p, 0, none⟩)] w fun e w' => e = .returned (.tuple #[]) ∧ Aft B w w' p j d s sq bl was was wr wr := by
  obtain ⟨X, cnt, bg, um, bm, u, g, h⟩ := h
  refine (abort_any h.pm.pg).mono ?_
  rintro e w' ⟨rfl, hP, hF⟩
  have hBB : Below B w w' := hF.below h.Bw (by simpa using h.lo)
  have hnp : p ∉ j :: X := h.js.not h.pm.pg.2 (by decide) (by decide) (by decide)
  have hJ : Js B w' j d X s sq cnt bl := h.js.fr hF (fun k hk hm => by
    obtain rfl : k = p := by simpa using hm
    exact hnp hk) (h.js.jr.tab.belowB hBB h.tb)
  refine ⟨rfl, ⟨X, cnt, false, none, none, fun _ => none, fun _ => none, { pm := hP.bare, js := hJ, len := rfl, us := ovl_none _, gs := fun i c hi => (by cases hi), gn := fun i c _ hc => hc, wb := h.wb, hd := h.hd, rw' := h.rw', rc := h.rw', idle := fun _ => ⟨rfl, rfl⟩, nb := h.nb, lo := h.lo, mlo := fun m hm => (by rcases hm with hm | hm <;> cases hm), ap := fun m hm => (by rcases hm with hm | hm <;> cases hm), tb := h.tb, Bw := Nat.le_trans h.Bw hF.size }⟩, hBB, Kq.of_p h.pm.pg hF⟩
end
end Go.Proofs.YtdbgccgjdgomkaaGreatDoor
