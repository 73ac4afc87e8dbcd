/- the text PBoth -/
import Derived.Test.YtcmgclkbhhdnaaaGreatDoorPRefIC
import Derived.Test.YtcmgclkbhhdnaaaGreatDoorPGuardC
namespace Go.Proofs.YtcmgclkbhhdnaaaGreatDoor
open Go Go.RowKit
variable {Z : Nat → Prop}

/-- These blocks lie from B on, and are cells of no kind that a pager has. -/
def Fx (B : Nat) (w : World) (X : List Nat) : Prop := ∀ x ∈ X, B ≤ x ∧ ∃ c t z, w.heap[x]? = some (.cells c t z) ∧ t ≠ 102 ∧ t ≠ 120 ∧ t ≠ 140 ∧ t ≠ 90
theorem Fx.nil (B : Nat) (w : World) : Fx B w [] := fun x hx => by cases hx
theorem Fx.one {B : Nat} {w : World} {g : Nat} {c : Array Value} {t : TypeId} {z : Nat × Nat} (hB : B ≤ g) (h : w.heap[g]? = some (.cells c t z)) (h1 : t ≠ 102) (h2 : t ≠ 120) (h3 : t ≠ 140) (h4 : t ≠ 90) : Fx B w [g] := fun x hx => by
  obtain rfl : x = g := by simpa using hx
  exact ⟨hB, c, t, z, h, h1, h2, h3, h4⟩
theorem Fx.two {B : Nat} {w : World} {g r : Nat} (h : Fx B w [g]) (k : Fx B w [r]) : Fx B w [g, r] := fun x hx => by
  rcases List.mem_cons.1 hx with e | e
  · exact h x (by simp [e])
  · exact k x e
theorem Pv.Bw {B : Nat} {w : World} {p j d : Nat} {s : DS} {sq : Nat} {bl : List (List UInt8)} {cur was : Pgs} {rt wr : Int} (h : Pv B w p j d s sq bl cur was rt wr) : B ≤ w.heap.size := by
  obtain ⟨X, cnt, bg, um, bm, u, g, h⟩ := h
  exact h.Bw
theorem Pv.len {B : Nat} {w : World} {p j d : Nat} {s : DS} {sq : Nat} {bl : List (List UInt8)} {cur was : Pgs} {rt wr : Int} (h : Pv B w p j d s sq bl cur was rt wr) : was.length = cur.length := by
  obtain ⟨X, cnt, bg, um, bm, u, g, h⟩ := h
  exact h.len.symm
theorem Pv.fr {B : Nat} {w w' : World} {p j d : Nat} {s : DS} {sq : Nat} {bl : List (List UInt8)} {cur was : Pgs} {rt wr : Int} (h : Pv B w p j d s sq bl cur was rt wr) {X : List Nat} (hF : Fr X w w') (hX : Fx B w X) : Pv B w' p j d s sq bl cur was rt wr ∧ Below B w w' := by
  obtain ⟨Y, cnt, bg, um, bm, u, g, h⟩ := h
  have hB : Below B w w' := hF.below h.Bw (fun x hx => (hX x hx).1)
  obtain ⟨ku, hu⟩ := h.pm.mu
  obtain ⟨kb, hb⟩ := h.pm.mb
  refine ⟨⟨Y, cnt, bg, um, bm, u, g, { h with pm := ⟨⟨h.pm.pg.1, hF.at h.pm.pg.2 (fun hm => ?_)⟩, ⟨ku, hu.fr hF (fun b e hm => ?_)⟩, ⟨kb, hb.fr hF (fun b e hm => ?_)⟩, h.pm.ne, h.pm.gl, h.pm.kd, h.pm.kb⟩, js := h.js.fr hF (fun k hk hm => ?_) (h.js.jr.tab.belowB hB h.tb), Bw := Nat.le_trans h.Bw hB.size }⟩, hB⟩
  · obtain ⟨_, c, t, z, h1, _, _, _, h5⟩ := hX _ hm
    have h2 := h.pm.pg.2
    rw [h1] at h2
    injection h2 with h2
    injection h2 with _ e
    exact h5 e
  · obtain ⟨_, c, t, z, h1, _⟩ := hX _ hm
    exact hu.cells e h1
  · obtain ⟨_, c, t, z, h1, _⟩ := hX _ hm
    exact hb.cells e h1
  · obtain ⟨_, c, t, z, h1, h2, h3, h4, _⟩ := hX _ hm
    exact h.js.not h1 h2 h3 h4 hk
theorem Rp.keep {w w' : World} {B r : Nat} {cur was : Pgs} {rt wr : Int} {ch : Bool} (h : Rp Z w B r cur was rt wr ch) (hk : ∀ (g : Nat) (c : Array Value) (t : TypeId), w.heap[g]? = some (.cells c t (0, 0)) → t = 95 ∨ t = 148 ∨ t = 9 → w'.heap[g]? = some (.cells c t (0, 0))) : Rp Z w' B r cur was rt wr ch := by
  obtain ⟨hB, vp, vw, al, be, hr, hp, hw, hs, hs2, hne⟩ := h
  have hro : ∀ {v : Value} {n : Nat} {xs : List Value}, w.ownsRow B 148 1 v n xs → w'.ownsRow B 148 1 v n xs := fun ho => by
    refine ⟨ho.1, ?_⟩
    rcases ho.2 with h5 | ⟨g, cap, cur, rfl, hb, hg, r2⟩
    · exact .inl h5
    · exact .inr ⟨g, cap, cur, rfl, hb, hk g _ _ hg (.inr (.inl rfl)), r2⟩
  have hsp : ∀ {al : List (Option Nat)} {c : Pgs}, Sp w al c → Sp w' al c := fun h => ⟨h.1, fun i => ⟨(h.2 i).1, fun a ha => by
    obtain ⟨b, hb, hh⟩ := (h.2 i).2 a ha
    exact ⟨b, hb, hk a _ _ hh (.inr (.inr rfl))⟩⟩⟩
  exact ⟨hB, vp, vw, al, be, hk r _ _ hr (.inl rfl), hro hp, hro hw, hsp hs, hsp hs2, hne⟩
theorem Rp.kq {w w' : World} {B r : Nat} {cur was : Pgs} {rt wr : Int} {ch : Bool} (h : Rp Z w B r cur was rt wr ch) (hk : Kq w w') : Rp Z w' B r cur was rt wr ch :=
  h.keep (fun g c t hg ht => hk.block g c t _ hg (by rcases ht with rfl | rfl | rfl <;> decide) (by rcases ht with rfl | rfl | rfl <;> decide) (by rcases ht with rfl | rfl | rfl <;> decide) (by rcases ht with rfl | rfl | rfl <;> decide))
theorem Rp.at {w : World} {B r : Nat} {cur was : Pgs} {rt wr : Int} {ch : Bool} (h : Rp Z w B r cur was rt wr ch) : B ≤ r ∧ ∃ c, w.heap[r]? = some (.cells c 95 (0, 0)) := by
  obtain ⟨hB, vp, vw, al, be, hr, _⟩ := h
  exact ⟨hB.1, _, hr⟩
theorem Rp.nz {w : World} {B r : Nat} {cur was : Pgs} {rt wr : Int} {ch : Bool} (h : Rp Z w B r cur was rt wr ch) : ¬ Z r := h.1.2
theorem Rp.fx {w : World} {B r : Nat} {cur was : Pgs} {rt wr : Int} {ch : Bool} (h : Rp Z w B r cur was rt wr ch) : Fx B w [r] := by
  obtain ⟨hB, c, hc⟩ := h.at
  exact Fx.one hB hc (by decide) (by decide) (by decide) (by decide)
/-- All blocks of cells but a disk's, its sectors', a journal's, a pager's and a reference's are as they were; of a reference's those that are in Z. -/
structure Kr (Z : Nat → Prop) (w w' : World) : Prop where
  size : w.heap.size ≤ w'.heap.size
  block : ∀ (g : Nat) (c : Array Value) (t : TypeId) (z : Nat × Nat), w.heap[g]? = some (.cells c t z) → t ≠ 102 → t ≠ 120 → t ≠ 140 → t ≠ 90 → (t ≠ 95 ∧ t ≠ 148) ∨ Z g → w'.heap[g]? = some (.cells c t z)
theorem Kr.of_kq {w w' : World} (h : Kq w w') : Kr Z w w' := ⟨h.size, fun g c t z hg h1 h2 h3 h4 _ => h.block g c t z hg h1 h2 h3 h4⟩
theorem Kr.refl (w : World) : Kr Z w w := Kr.of_kq (Kq.refl w)
theorem Kr.of_below {w w' : World} (h : Below w.heap.size w w') : Kr Z w w' := Kr.of_kq (Kq.of_below h)
theorem Kr.trans {a b c : World} (h : Kr Z a b) (k : Kr Z b c) : Kr Z a c := ⟨Nat.le_trans h.size k.size, fun g d t z hg h1 h2 h3 h4 h5 => k.block g d t z (h.block g d t z hg h1 h2 h3 h4 h5) h1 h2 h3 h4 h5⟩
/-- What the reference's calls touch: itself, and a row of pointers. -/
def Fy (Z : Nat → Prop) (w : World) (X : List Nat) : Prop := ∀ x ∈ X, ¬ Z x ∧ ∃ c t z, w.heap[x]? = some (.cells c t z) ∧ (t = 95 ∨ t = 148)
theorem Kr.of_fy {w w' : World} {X : List Nat} (hF : Fr X w w') (hX : Fy Z w X) : Kr Z w w' := ⟨hF.size, fun g c t z hg _ _ _ _ h5 => hF.at hg (fun hm => by
  obtain ⟨hz, c', t', z', h1, h2⟩ := hX g hm
  rw [hg] at h1
  injection h1 with h1
  injection h1 with _ e
  subst e
  rcases h5 with h5 | h5
  · rcases h2 with h2 | h2
    · exact h5.1 h2
    · exact h5.2 h2
  · exact hz h5)⟩
/-- What was made later may be laid anew. -/
theorem Kr.later {w w1 w2 : World} {X : List Nat} (h : Kr Z w w1) (hF : Fr X w1 w2) (hX : ∀ x ∈ X, w.heap.size ≤ x) : Kr Z w w2 := ⟨Nat.le_trans h.size hF.size, fun g c t z hg h1 h2 h3 h4 h5 => hF.at (h.block g c t z hg h1 h2 h3 h4 h5) (fun hm => by
  have := hX g hm
  have := heap_lt hg
  omega)⟩
/-- What a call of the reference leaves. -/
def Raf (Z : Nat → Prop) (w w' : World) (B r : Nat) (cur was : Pgs) (rt wr : Int) : Prop := (∃ ch, Rp Z w' B r cur was rt wr ch) ∧ ∃ X, Fr X w w' ∧ Fx B w X ∧ Fy Z w X
theorem Raf.same {w : World} {B r : Nat} {cur was : Pgs} {rt wr : Int} {ch : Bool} (h : Rp Z w B r cur was rt wr ch) : Raf Z w w B r cur was rt wr := ⟨⟨ch, h⟩, [], Fr.refl _ _, Fx.nil _ _, fun x hx => by cases hx⟩
theorem Raf.one {w w' : World} {B r : Nat} {cur was cur' was' : Pgs} {rt wr rt' wr' : Int} {ch ch' : Bool} (h : Rp Z w B r cur was rt wr ch) (h' : Rp Z w' B r cur' was' rt' wr' ch') (hF : Fr [r] w w') : Raf Z w w' B r cur' was' rt' wr' := ⟨⟨ch', h'⟩, [r], hF, h.fx, fun x hx => by
  obtain rfl : x = r := by simpa using hx
  obtain ⟨_, c, hc⟩ := h.at
  exact ⟨h.nz, c, _, _, hc, .inl rfl⟩⟩
theorem Raf.two {w w' : World} {B r g : Nat} {cur was cur' was' : Pgs} {rt wr rt' wr' : Int} {ch ch' : Bool} (h : Rp Z w B r cur was rt wr ch) (h' : Rp Z w' B r cur' was' rt' wr' ch') (hB : B ≤ g ∧ ¬ Z g) (hg : ∃ cs, w.heap[g]? = some (.cells cs 148 (0, 0))) (hF : Fr [g, r] w w') : Raf Z w w' B r cur' was' rt' wr' := by
  obtain ⟨cs, hg⟩ := hg
  refine ⟨⟨ch', h'⟩, [g, r], hF, (Fx.one hB.1 hg (by decide) (by decide) (by decide) (by decide)).two h.fx, fun x hx => ?_⟩
  rcases List.mem_cons.1 hx with rfl | hx
  · exact ⟨hB.2, cs, _, _, hg, .inr rfl⟩
  · obtain rfl : x = r := by simpa using hx
    obtain ⟨_, c, hc⟩ := h.at
    exact ⟨h.nz, c, _, _, hc, .inl rfl⟩
/-- Both. (What lies committed may be other: wa, wo.) -/
def Bo (Z : Nat → Prop) (B : Nat) (w : World) (p j d r : Nat) (s : DS) (sq : Nat) (bl : List (List UInt8)) (cur was : Pgs) (rt wr : Int) (wa : Pgs) (wo : Int) : Prop := Pv B w p j d s sq bl cur was rt wr ∧ ∃ ch, Rp Z w B r cur wa rt wo ch
theorem Bo.below {B : Nat} {w w' : World} {p j d r : Nat} {s : DS} {sq : Nat} {bl : List (List UInt8)} {cur was wa : Pgs} {rt wr wo : Int} (h : Bo Z B w p j d r s sq bl cur was rt wr wa wo) (hB : Below w.heap.size w w') : Bo Z B w' p j d r s sq bl cur was rt wr wa wo := by
  obtain ⟨h1, ch, h2⟩ := h
  exact ⟨h1.below hB, ch, h2.below hB⟩
/-- What a call on both leaves. -/
def Bft (Z : Nat → Prop) (B : Nat) (w w' : World) (p j d r : Nat) (s : DS) (sq : Nat) (bl : List (List UInt8)) (cur was : Pgs) (rt wr : Int) (wa : Pgs) (wo : Int) : Prop := Bo Z B w' p j d r s sq bl cur was rt wr wa wo ∧ Below B w w' ∧ Kr Z w w'
theorem Aft.same {B : Nat} {w : World} {p j d : Nat} {s : DS} {sq : Nat} {bl : List (List UInt8)} {cur was : Pgs} {rt wr : Int} (h : Pv B w p j d s sq bl cur was rt wr) : Aft B w w p j d s sq bl cur was rt wr := ⟨h, Below.refl _ _, Kq.refl _⟩
theorem Aft.join {B : Nat} {w w1 w2 : World} {p j d r : Nat} {s : DS} {sq : Nat} {bl : List (List UInt8)} {cur was wa : Pgs} {rt wr wo : Int} (h : Aft B w w1 p j d s sq bl cur was rt wr) (k : Raf Z w1 w2 B r cur wa rt wo) : Bft Z B w w2 p j d r s sq bl cur was rt wr wa wo := by
  obtain ⟨hP, hB, hK⟩ := h
  obtain ⟨hR, X, hF, hX, hY⟩ := k
  obtain ⟨hP2, hB2⟩ := hP.fr hF hX
  exact ⟨⟨hP2, hR⟩, hB.trans hB2, (Kr.of_kq hK).trans (Kr.of_fy hF hY)⟩
theorem tkD {cur : Pgs} {k : Int} (h : (decide (0 ≤ k) && (cur[k.toNat]?.getD none).isSome) = true) : ∃ (q : Nat) (x : List UInt8), k = (q : Int) ∧ cur[q]? = some (some x) := by
  rw [Bool.and_eq_true, decide_eq_true_iff] at h
  refine ⟨k.toNat, ?_⟩
  cases hc : cur[k.toNat]? with
  | none => rw [hc] at h; simp at h
  | some y =>
    cases y with
    | none => rw [hc] at h; simp at h
    | some x => exact ⟨x, by omega, rfl⟩
theorem tkN {cur : Pgs} {k : Int} (h : (decide (0 ≤ k) && (cur[k.toNat]?.getD none).isSome) = false) : k < 0 ∨ cur[k.toNat]?.getD none = none := by
  by_cases h0 : k < 0
  · exact .inl h0
  · rw [decide_eq_true (by omega), Bool.true_and] at h
    exact .inr (by simpa using h)
section
variable {B : Nat} {w : World} {p j d r : Nat} {s : DS} {sq : Nat} {bl : List (List UInt8)} {cur was wa : Pgs} {rt wr wo : Int} (h : Bo Z B w p j d r s sq bl cur was rt wr wa wo)
include h
theorem Bo.alloc : ∃ (k e : Int) (cur' : Pgs), cur'.length = cur.length ∧ Calls Tryz.prog 22 #[.pointer (some ⟨p, 0, none⟩)] w fun en w1 => en = .returned (.tuple #[.int .i64 k, .int .i64 e]) ∧
    Calls Tryz.prog 44 #[.pointer (some ⟨r, 0, none⟩)] w1 fun en w2 => en = .returned (.tuple #[.int .i64 k, .int .i64 e]) ∧ Bft Z B w w2 p j d r s sq bl cur' was rt wr wa wo := by
  obtain ⟨hP, ch, hR⟩ := h
  rcases first_free cur with ⟨_, hf⟩ | ⟨_, q, hq, hb⟩
  · refine ⟨0, 80, cur, rfl, (hP.allocFull hf).mono ?_⟩
    rintro en w1 ⟨rfl, rfl⟩
    refine ⟨rfl, (ralloc_full hR hP.le hf).mono ?_⟩
    rintro en w2 ⟨rfl, rfl⟩
    exact ⟨rfl, (Aft.same hP).join (Raf.same hR)⟩
  · refine ⟨q, 0, cur.set q (some z896), List.length_set .., (hP.alloc q hq hb).mono ?_⟩
    rintro en w1 ⟨rfl, hA⟩
    have hR1 := hR.kq hA.2.2
    refine ⟨rfl, (ralloc_at hR1 hP.le q hq hb).mono ?_⟩
    rintro en w2 ⟨rfl, hR2, g, hg, hcs, hF⟩
    exact ⟨rfl, hA.join (Raf.two hR1 hR2 hg hcs hF)⟩
theorem Bo.free (k : Int) : ∃ (e : Int) (cur' : Pgs), cur'.length = cur.length ∧ Calls Tryz.prog 27 #[.pointer (some ⟨p, 0, none⟩), .int .i64 k] w fun en w1 => en = .returned (.int .i64 e) ∧
    Calls Tryz.prog 45 #[.pointer (some ⟨r, 0, none⟩), .int .i64 k] w1 fun en w2 => en = .returned (.int .i64 e) ∧ Bft Z B w w2 p j d r s sq bl cur' was rt wr wa wo := by
  obtain ⟨hP, ch, hR⟩ := h
  cases ht : (decide (0 ≤ k) && (cur[k.toNat]?.getD none).isSome) with
  | false =>
    refine ⟨81, cur, rfl, (hP.freeNone k (tkN ht)).mono ?_⟩
    rintro en w1 ⟨rfl, rfl⟩
    refine ⟨rfl, (rfree_none hR k ht).mono ?_⟩
    rintro en w2 ⟨rfl, rfl⟩
    exact ⟨rfl, (Aft.same hP).join (Raf.same hR)⟩
  | true =>
    obtain ⟨q, x, rfl, hq⟩ := tkD ht
    by_cases hr : (q : Int) = rt
    · refine ⟨2, cur, rfl, (hP.freeRoot q x hq hr).mono ?_⟩
      rintro en w1 ⟨rfl, rfl⟩
      refine ⟨rfl, (rfree_root hR q ht hr).mono ?_⟩
      rintro en w2 ⟨rfl, rfl⟩
      exact ⟨rfl, (Aft.same hP).join (Raf.same hR)⟩
    · refine ⟨0, cur.set q none, List.length_set .., (hP.free q x hq hr).mono ?_⟩
      rintro en w1 ⟨rfl, hA⟩
      have hR1 := hR.kq hA.2.2
      refine ⟨rfl, (rfree_ok hR1 q x hq hr).mono ?_⟩
      rintro en w2 ⟨rfl, hR2, g, hg, hcs, hF⟩
      exact ⟨rfl, hA.join (Raf.two hR1 hR2 hg hcs hF)⟩
theorem Bo.setRoot (k : Int) : ∃ (e rt' : Int), Calls Tryz.prog 38 #[.pointer (some ⟨p, 0, none⟩), .int .i64 k] w fun en w1 => en = .returned (.int .i64 e) ∧
    Calls Tryz.prog 48 #[.pointer (some ⟨r, 0, none⟩), .int .i64 k] w1 fun en w2 => en = .returned (.int .i64 e) ∧ Bft Z B w w2 p j d r s sq bl cur was rt' wr wa wo := by
  obtain ⟨hP, ch, hR⟩ := h
  cases ht : (decide (0 ≤ k) && (cur[k.toNat]?.getD none).isSome) with
  | false =>
    by_cases h1 : k = -1
    · subst h1
      refine ⟨0, -1, hP.setRootNo.mono ?_⟩
      rintro en w1 ⟨rfl, hA⟩
      have hR1 := hR.kq hA.2.2
      refine ⟨rfl, (rsetRoot_any hR1 (-1) (.inl rfl)).mono ?_⟩
      rintro en w2 ⟨rfl, hR2, hF⟩
      exact ⟨rfl, hA.join (Raf.one hR1 hR2 hF)⟩
    · have hc : Calls Tryz.prog 38 #[.pointer (some ⟨p, 0, none⟩), .int .i64 k] w fun e w' => e = .returned (.int .i64 81) ∧ w' = w := by
        obtain ⟨X, cnt, bg, um, bm, u, g, h⟩ := hP
        exact setRoot_none h.pm k (by rw [h.tknOf]; exact ht) h1
      refine ⟨81, rt, hc.mono ?_⟩
      rintro en w1 ⟨rfl, rfl⟩
      refine ⟨rfl, (rsetRoot_none hR k ht h1).mono ?_⟩
      rintro en w2 ⟨rfl, rfl⟩
      exact ⟨rfl, (Aft.same hP).join (Raf.same hR)⟩
  | true =>
    obtain ⟨q, x, rfl, hq⟩ := tkD ht
    refine ⟨0, q, (hP.setRoot q x hq).mono ?_⟩
    rintro en w1 ⟨rfl, hA⟩
    have hR1 := hR.kq hA.2.2
    refine ⟨rfl, (rsetRoot_any hR1 q (.inr ht)).mono ?_⟩
    rintro en w2 ⟨rfl, hR2, hF⟩
    exact ⟨rfl, hA.join (Raf.one hR1 hR2 hF)⟩
/-- Write, of bytes in memory of their own; the reference's comes later, and of other memory. -/
theorem Bo.write (k : Int) (g n : Nat) (l : List UInt8) (hl : l.length = n) (hg : Rw w g 5 l) : ∃ (e : Int) (cur' : Pgs), cur'.length = cur.length ∧ Calls Tryz.prog 36 #[.pointer (some ⟨p, 0, none⟩), .int .i64 k, .slice (some ⟨g, 0, none⟩) n n] w fun en w1 => en = .returned (.int .i64 e) ∧ Aft B w w1 p j d s sq bl cur' was rt wr ∧ (∃ ch, Rp Z w1 B r cur wa rt wo ch) ∧
    ∀ {w2 : World} {g2 : Nat}, (∃ ch, Rp Z w2 B r cur wa rt wo ch) → Rw w2 g2 5 l → Calls Tryz.prog 47 #[.pointer (some ⟨r, 0, none⟩), .int .i64 k, .slice (some ⟨g2, 0, none⟩) n n] w2 fun en w3 => en = .returned (.int .i64 e) ∧ Raf Z w2 w3 B r cur' wa rt wo := by
  obtain ⟨hP, ch, hR⟩ := h
  cases ht : (decide (0 ≤ k) && (cur[k.toNat]?.getD none).isSome) with
  | false =>
    have hc : Calls Tryz.prog 36 #[.pointer (some ⟨p, 0, none⟩), .int .i64 k, .slice (some ⟨g, 0, none⟩) n n] w fun e w' => e = .returned (.int .i64 81) ∧ w' = w := by
      obtain ⟨X, cnt, bg, um, bm, u, g, h⟩ := hP
      exact pwrite_none h.pm k (by rw [h.tknOf]; exact ht) _
    refine ⟨81, cur, rfl, hc.mono ?_⟩
    rintro en w1 ⟨rfl, rfl⟩
    refine ⟨rfl, Aft.same hP, ⟨ch, hR⟩, fun {w2 g2} ⟨ch2, hR2⟩ _ => (rwrite_none hR2 k ht _).mono ?_⟩
    rintro en w3 ⟨rfl, rfl⟩
    exact ⟨rfl, Raf.same hR2⟩
  | true =>
    by_cases hn : n = 896
    · subst hn
      obtain ⟨q, x, rfl, hq⟩ := tkD ht
      refine ⟨0, cur.set q (some l), List.length_set .., (hP.write q x hq g 0 896 l hl hg.rd hg (by decide)).mono ?_⟩
      rintro en w1 ⟨rfl, hA⟩
      refine ⟨rfl, hA, ⟨ch, hR.kq hA.2.2⟩, fun {w2 g2} ⟨ch2, hR2⟩ h2 => (rwrite_ok hR2 q x hq (some ⟨g2, 0, none⟩) 896 l (hl ▸ Sl.mk h2.rd (Nat.le_of_eq rfl))).mono ?_⟩
      rintro en w3 ⟨rfl, hR3, g3, hg3, hcs, hF⟩
      exact ⟨rfl, Raf.two hR2 hR3 hg3 hcs hF⟩
    · have hc : Calls Tryz.prog 36 #[.pointer (some ⟨p, 0, none⟩), .int .i64 k, .slice (some ⟨g, 0, none⟩) n n] w fun e w' => e = .returned (.int .i64 2) ∧ w' = w := by
        obtain ⟨X, cnt, bg, um, bm, u, g, h⟩ := hP
        exact pwrite_len h.pm k (by rw [h.tknOf]; exact ht) _ n n hn
      refine ⟨2, cur, rfl, hc.mono ?_⟩
      rintro en w1 ⟨rfl, rfl⟩
      refine ⟨rfl, Aft.same hP, ⟨ch, hR⟩, fun {w2 g2} ⟨ch2, hR2⟩ _ => (rwrite_len hR2 k ht _ n n hn).mono ?_⟩
      rintro en w3 ⟨rfl, rfl⟩
      exact ⟨rfl, Raf.same hR2⟩
theorem Bo.commit (hcut : s.cut = -1) (hsq : sq + 1 ≤ 1000000000) (ho : s.ops + ((2 * nbOf s.n + 4 : Nat) : Int) ≤ 1048576) (h1 : 1 ≤ cur.length) (hZ : ∀ g, Z g → g < w.heap.size) : Calls Tryz.prog 20 #[.pointer (some ⟨p, 0, none⟩)] w fun en w1 => en = .returned (.int .i64 0) ∧
    Calls Tryz.prog 21 #[.pointer (some ⟨r, 0, none⟩)] w1 fun en w2 => en = .returned (.tuple #[]) ∧ ∃ s' sq' bl', Bft Z B w w2 p j d r s' sq' bl' cur cur rt rt cur rt ∧ s'.n = s.n ∧ s.ops ≤ s'.ops ∧ s'.ops ≤ s.ops + ((2 * nbOf s.n + 4 : Nat) : Int) ∧ sq' ≤ sq + 1 ∧ s'.cut = -1 := by
  obtain ⟨hP, ch, hR⟩ := h
  refine (hP.commit hcut hsq ho).mono ?_
  rintro en w1 ⟨rfl, s', sq', bl', hA, hr⟩
  have hR1 := hR.kq hA.2.2
  refine ⟨rfl, (rcommit_any hR1 h1 hP.le (fun g hg => Nat.lt_of_lt_of_le (hZ g hg) hA.2.2.size)).mono ?_⟩
  rintro en w2 ⟨rfl, hR2, hF⟩
  exact ⟨rfl, s', sq', bl', hA.join (Raf.one hR1 hR2 hF), hr⟩
theorem Bo.abort (h1 : 1 ≤ cur.length) (hw : wa = was) (hwo : wo = wr) (hZ : ∀ g, Z g → g < w.heap.size) : Calls Tryz.prog 28 #[.pointer (some ⟨p, 0, none⟩)] w fun en w1 => en = .returned (.tuple #[]) ∧
    Calls Tryz.prog 14 #[.pointer (some ⟨r, 0, none⟩)] w1 fun en w2 => en = .returned (.tuple #[]) ∧ Bft Z B w w2 p j d r s sq bl was was wr wr was wr := by
  subst hw
  subst hwo
  obtain ⟨hP, ch, hR⟩ := h
  refine hP.abort.mono ?_
  rintro en w1 ⟨rfl, hA⟩
  have hR1 := hR.kq hA.2.2
  refine ⟨rfl, (rabort_any hR1 (by rw [hP.len]; exact h1) (by rw [hP.len]; exact hP.le) (fun g hg => Nat.lt_of_lt_of_le (hZ g hg) hA.2.2.size)).mono ?_⟩
  rintro en w2 ⟨rfl, hR2, hF⟩
  exact ⟨rfl, hA.join (Raf.one hR1 hR2 hF)⟩
end
/-- Read of any page, of a pager: bytes of its own, or nothing; as the pages say. -/
def pgB (c : Pgs) (k : Int) : List UInt8 := if (decide (0 ≤ k) && (c[k.toNat]?.getD none).isSome) = true then (c[k.toNat]?.getD none).getD [] else []
def pgE (c : Pgs) (k : Int) : Int := if (decide (0 ≤ k) && (c[k.toNat]?.getD none).isSome) = true then 0 else 81
/-- What Read answers. -/
def Red (w w' : World) (l : List UInt8) (v : Value) : Prop := Below w.heap.size w w' ∧ (v = .slice none 0 0 ∧ l = [] ∨ ∃ b cap cs t, w.heap.size ≤ b ∧ l.length ≤ cap ∧ v = .slice (some ⟨b, 0, none⟩) l.length cap ∧ w'.heap[b]? = some (.cells cs t (0, 0)) ∧ (t = 109 ∨ t = 5) ∧ Rd w' b 0 l)
theorem Pv.readAny {B : Nat} {w : World} {p j d : Nat} {s : DS} {sq : Nat} {bl : List (List UInt8)} {cur was : Pgs} {rt wr : Int} (h : Pv B w p j d s sq bl cur was rt wr) (k : Int) : Calls Tryz.prog 23 #[.pointer (some ⟨p, 0, none⟩), .int .i64 k] w fun e w' => ∃ v, e = .returned (.tuple #[v, .int .i64 (pgE cur k)]) ∧ Red w w' (pgB cur k) v := by
  unfold pgB pgE
  cases ht : (decide (0 ≤ k) && (cur[k.toNat]?.getD none).isSome) with
  | false =>
    refine (h.readNone k (tkN ht)).mono ?_
    rintro e w' ⟨rfl, rfl⟩
    exact ⟨_, rfl, Below.refl _ _, .inl ⟨rfl, rfl⟩⟩
  | true =>
    obtain ⟨q, x, rfl, hq⟩ := tkD ht
    refine (h.read q x hq).mono ?_
    rintro e w' ⟨b, cap, cs, t, hb, hc, rfl, hh, ht, hR, hB⟩
    have e1 : (cur[((q : Int)).toNat]?.getD none).getD [] = x := by simp [hq]
    have hx := h.c896 q x hq
    rw [if_pos rfl, if_pos rfl, e1]
    exact ⟨_, rfl, hB, .inr ⟨b, cap, cs, t, hb, by omega, by rw [hx], hh, ht, hR⟩⟩
theorem rread_any {w : World} {B r : Nat} {cur was : Pgs} {rt wr : Int} {ch : Bool} (h : Rp Z w B r cur was rt wr ch) (k : Int) : Calls Tryz.prog 46 #[.pointer (some ⟨r, 0, none⟩), .int .i64 k] w fun e w' => e = .returned (.tuple #[strV (pgB cur k), .int .i64 (pgE cur k)]) ∧ w' = w := by
  unfold pgB pgE
  cases ht : (decide (0 ≤ k) && (cur[k.toNat]?.getD none).isSome) with
  | false => exact rread_none h k ht
  | true =>
    obtain ⟨q, x, rfl, hq⟩ := tkD ht
    have e1 : (cur[((q : Int)).toNat]?.getD none).getD [] = x := by simp [hq]
    rw [if_pos rfl, if_pos rfl, e1]
    exact rread_some h q x hq
theorem Red.sl {w w' : World} {l : List UInt8} {v : Value} (h : Red w w' l v) : Sl w' v l := by
  rcases h.2 with ⟨rfl, rfl⟩ | ⟨b, cap, cs, t, _, hc, rfl, _, _, hR⟩
  · exact Sl.nil _
  · exact Sl.mk hR hc
theorem of_any (kd pg : Int) (v : UInt8) (w : World) :
    Calls Tryz.prog 37 #[.agg #[.int .i64 kd, .int .i64 pg, cb v]] w fun e w' => ∃ g, w.heap.size ≤ g ∧ e = .returned (.slice (some ⟨g, 0, none⟩) (ofN pg v) (ofN pg v)) ∧ Rw w' g 5 (ofL v (ofN pg v) (ofN pg v)) ∧ Below w.heap.size w w' := by
  by_cases h : pg = 77
  · subst h; exact of_77 kd v w
  · exact of_page kd pg v h w
end Go.Proofs.YtcmgclkbhhdnaaaGreatDoor
