/- the text PGivesM -/
import Derived.Test.YtcmgclkbhhdnaaaGreatDoorPBothC
namespace Go.Proofs.YtcmgclkbhhdnaaaGreatDoor
open Go Go.RowKit

/-- A pager with nothing committed that matters, and a map that is not its own. -/
def Pm (B : Nat) (w : World) (p j d : Nat) (s : DS) (sq : Nat) (bl : List (List UInt8)) (cur was : Pgs) (rt wr : Int) (m : Nat) (ks : List Int) (f : Int → Option Value) : Prop :=
  (∃ X cnt bg um bm u g, PV B w p j d X s sq cnt bl cur was rt wr bg um bm u g ∧ um ≠ some m ∧ bm ≠ some m ∧ m ∉ j :: X) ∧ Mk w m ks f ∧ B ≤ m
section
variable {B : Nat} {w : World} {p j d : Nat} {s : DS} {sq : Nat} {bl : List (List UInt8)} {cur was : Pgs} {rt wr : Int} {m : Nat} {ks : List Int} {f : Int → Option Value} (h : Pm B w p j d s sq bl cur was rt wr m ks f)
include h
theorem Pm.pv : Pv B w p j d s sq bl cur was rt wr := by
  obtain ⟨⟨X, cnt, bg, um, bm, u, g, h, _⟩, _⟩ := h
  exact ⟨X, cnt, bg, um, bm, u, g, h⟩
theorem Pm.below {w' : World} (hB : Below w.heap.size w w') : Pm B w' p j d s sq bl cur was rt wr m ks f := by
  obtain ⟨⟨X, cnt, bg, um, bm, u, g, h1, h2⟩, h3, h4⟩ := h
  exact ⟨⟨X, cnt, bg, um, bm, u, g, h1.below hB, h2⟩, h3.below hB h3.lt, h4⟩
/-- What a call leaves that touches the pager and its tables alone. -/
theorem Pm.step {X : List Nat} {cnt : Nat} {bg : Bool} {um bm : Option Nat} {u : Int → Option Bool} {g : Int → Option (List UInt8)} (hP : PV B w p j d X s sq cnt bl cur was rt wr bg um bm u g) (hum : um ≠ some m) (hbm : bm ≠ some m) (hX : m ∉ j :: X) {w' : World} (hF : Fr (p :: (um.toList ++ bm.toList)) w w') {um' bm' : Option Nat} (h1 : ∀ m, um' = some m → um = some m ∨ w.heap.size ≤ m) (h2 : ∀ m, bm' = some m → bm = some m ∨ w.heap.size ≤ m) {cur' : Pgs} {rt' : Int} {u' : Int → Option Bool} {g' : Int → Option (List UInt8)}
    (h' : PV B w' p j d X s sq cnt bl cur' was rt' wr true um' bm' u' g' ∧ Below B w w' ∧ Kq w w') : Pm B w' p j d s sq bl cur' was rt' wr m ks f ∧ Below B w w' := by
  obtain ⟨_, hM, hB⟩ := h
  have hlt := hM.lt
  refine ⟨⟨⟨X, cnt, true, um', bm', u', g', h'.1, fun e => ?_, fun e => ?_, hX⟩, hM.fr hF (fun hm => ?_), hB⟩, h'.2.1⟩
  · rcases h1 m e with h | h
    · exact hum h
    · omega
  · rcases h2 m e with h | h
    · exact hbm h
    · omega
  · simp only [List.mem_cons, List.mem_append, Option.mem_toList] at hm
    rcases hm with rfl | hm | hm
    · obtain ⟨es, cl, hh, _⟩ := hM
      have := hP.pm.pg.2
      rw [hh] at this
      cases this
    · exact hum hm
    · exact hbm hm
theorem Pm.free (q : Nat) (x : List UInt8) (hq : cur[q]? = some (some x)) (hr : (q : Int) ≠ rt) : Calls Tryz.prog 27 #[.pointer (some ⟨p, 0, none⟩), .int .i64 q] w fun e w' => e = .returned (.int .i64 0) ∧ Pm B w' p j d s sq bl (cur.set q none) was rt wr m ks f ∧ Below B w w' := by
  have h0 := h
  obtain ⟨⟨X, cnt, bg, um, bm, u, g, h, hum, hbm, hX⟩, _⟩ := h
  have hql := (List.getElem?_eq_some_iff.1 hq).1
  have hn := nf_give cur q x hq
  have hle := nf_le cur
  have hw := h.le
  have hl := h.len
  have hu := h.usf q _ hq
  refine (free_ok h.pm q hu.2 hu.1 hr (by omega) (by omega)).mono ?_
  rintro e w' ⟨rfl, um', bm', hp, h1, h2, hF⟩
  have e1 : ((nf cur : Int) + 1) = ((nf (cur.set q none) : Nat) : Int) := by omega
  rw [e1] at hp
  refine ⟨rfl, h0.step h hum hbm hX hF h1 h2 (h.step hF h1 h2 hp (by simp [hl]) (by rw [ovl_upd _ _ _ _ hu.2, h.us, tk_set]; rfl) (fun i c hi => ?_) (fun i c hi hc => ?_) (h.rc.set q _ (.inl hr)))⟩
  · by_cases e : i = q
    · subst e
      rw [updF_same] at hi; cases hi
    · rw [updF_ne _ _ (by omega)] at hi
      rw [List.getElem?_set_ne (by omega)]; exact h.gs i c hi
  · by_cases e : i = q
    · subst e
      simp [hql] at hc
    · rw [updF_ne _ _ (by omega)] at hi
      rw [List.getElem?_set_ne (by omega)] at hc; exact h.gn i c hi hc
theorem Pm.alloc (q : Nat) (hq : cur[q]? = some none) (hb : ∀ i : Nat, i < q → cur[i]? ≠ some none) : Calls Tryz.prog 22 #[.pointer (some ⟨p, 0, none⟩)] w fun e w' => e = .returned (.tuple #[.int .i64 q, .int .i64 0]) ∧ Pm B w' p j d s sq bl (cur.set q (some z896)) was rt wr m ks f ∧ Below B w w' := by
  have h0 := h
  obtain ⟨⟨X, cnt, bg, um, bm, u, g, h, hum, hbm, hX⟩, _⟩ := h
  have hql := (List.getElem?_eq_some_iff.1 hq).1
  have hn := nf_take cur q z896 hq
  have hle := nf_le cur
  have hw := h.le
  have hl := h.len
  have hu := h.usf q _ hq
  refine (alloc_at h.pm q hu.2 hu.1 (fun k hk => ?_) (by omega) (by omega)).mono ?_
  · rcases get_or cur k (by omega) with e | ⟨x, e⟩
    · exact absurd e (hb k hk)
    · exact (h.usf k _ e).1
  · rintro e w' ⟨rfl, um', bm', hp, h1, h2, hF⟩
    have e1 : ((nf cur : Int) - 1) = ((nf (cur.set q (some z896)) : Nat) : Int) := by omega
    rw [e1] at hp
    refine ⟨rfl, h0.step h hum hbm hX hF h1 h2 (h.step hF h1 h2 hp (by simp [hl]) (by rw [ovl_upd _ _ _ _ hu.2, h.us, tk_set]; rfl) (fun i c hi => ?_) (fun i c hi hc => ?_) (h.rc.set q _ (.inr (by simp))))⟩
    · by_cases e : i = q
      · subst e
        rw [updF_same] at hi; cases hi
        simp [hql]
      · rw [updF_ne _ _ (by omega)] at hi
        rw [List.getElem?_set_ne (by omega)]; exact h.gs i c hi
    · by_cases e : i = q
      · subst e
        rw [updF_same] at hi; cases hi
      · rw [updF_ne _ _ (by omega)] at hi
        rw [List.getElem?_set_ne (by omega)] at hc; exact h.gn i c hi hc
/-- One key more in the law's map. -/
theorem Pm.put (k : Int) : ∃ w', (Instr.mapUpdate 67 (.map (some m)) (.int .i64 k) (.bool true)).run Tryz.prog w = .ok () w' ∧ Pm B w' p j d s sq bl cur was rt wr m (kput ks k) (upd f k (some (.bool true))) ∧ Below B w w' := by
  obtain ⟨⟨X, cnt, bg, um, bm, u, g, h, hum, hbm, hX⟩, hM, hB⟩ := h
  obtain ⟨w', hr, hM', hF⟩ := hM.put Tryz.underlying67 k (.bool true)
  have hBB : Below B w w' := hF.below h.Bw (by simpa using hB)
  obtain ⟨ku, hu⟩ := h.pm.mu
  obtain ⟨kb, hb⟩ := h.pm.mb
  refine ⟨w', hr, ⟨⟨X, cnt, bg, um, bm, u, g, { h with pm := ⟨⟨h.pm.pg.1, hF.at h.pm.pg.2 (fun hm => ?_)⟩, ⟨ku, hu.fr hF (fun b e hm => ?_)⟩, ⟨kb, hb.fr hF (fun b e hm => ?_)⟩, h.pm.ne, h.pm.gl, h.pm.kd, h.pm.kb⟩, js := h.js.fr hF (fun k hk hm => ?_) (h.js.jr.tab.belowB hBB h.tb), Bw := Nat.le_trans h.Bw hBB.size }, hum, hbm, hX⟩, hM', hB⟩, hBB⟩
  · obtain rfl : p = m := by simpa using hm
    obtain ⟨es, cl, hh, _⟩ := hM
    have := h.pm.pg.2
    rw [hh] at this
    cases this
  · obtain rfl : b = m := by simpa using hm
    exact hum e
  · obtain rfl : b = m := by simpa using hm
    exact hbm e
  · obtain rfl : k = m := by simpa using hm
    exact hX hk
end
/-- The law's map is made. -/
theorem Pv.mapped {B : Nat} {w : World} {p j d : Nat} {s : DS} {sq : Nat} {bl : List (List UInt8)} {cur was : Pgs} {rt wr : Int} (h : Pv B w p j d s sq bl cur was rt wr) : Pm B (w.alloc (.map #[] 0)) p j d s sq bl cur was rt wr w.heap.size [] (fun _ => none) := by
  obtain ⟨X, cnt, bg, um, bm, u, g, h⟩ := h
  have hB : Below w.heap.size w (w.alloc (.map #[] 0)) := (Below.refl _ _).alloc (Nat.le_refl _) _
  obtain ⟨ku, hu⟩ := h.pm.mu
  obtain ⟨kb, hb⟩ := h.pm.mb
  refine ⟨⟨X, cnt, bg, um, bm, u, g, h.below hB, fun e => ?_, fun e => ?_, fun hm => ?_⟩, Mk.new w, h.Bw⟩
  · have := hu.lt e; omega
  · have := hb.lt e; omega
  · have := h.js.lt _ hm; omega
/-- The first i are laid. -/
def laidP (v : UInt8) (L i : Nat) : Pgs := (List.range L).map fun q => if q < i then some (ofL (v + UInt8.ofNat q) 896 896) else none
theorem laidP_len (v : UInt8) (L i : Nat) : (laidP v L i).length = L := by simp [laidP]
theorem laidP_get (v : UInt8) (L i q : Nat) (h : q < L) : (laidP v L i)[q]? = some (if q < i then some (ofL (v + UInt8.ofNat q) 896 896) else none) := by simp [laidP, h]
theorem laidP_zero (v : UInt8) (L : Nat) : laidP v L 0 = List.replicate L none := by
  refine List.ext_getElem? fun k => ?_
  by_cases hk : k < L
  · rw [laidP_get v L 0 k hk, List.getElem?_replicate, if_pos hk, if_neg (by omega)]
  · rw [List.getElem?_eq_none (by rw [laidP_len]; omega), List.getElem?_eq_none (by rw [List.length_replicate]; omega)]
theorem laidP_next (v : UInt8) (L i : Nat) (h : i < L) (x : List UInt8) : (((laidP v L i).set i (some x)).set i (some (ofL (v + UInt8.ofNat i) 896 896))) = laidP v L (i + 1) := by
  refine List.ext_getElem? fun k => ?_
  rw [List.set_set, List.getElem?_set, laidP_len]
  by_cases hk : k < L
  · rw [laidP_get v L (i + 1) k hk]
    by_cases e : i = k
    · subst e
      rw [if_pos rfl, if_pos h, if_pos (by omega)]
    · rw [if_neg e, laidP_get v L i k hk]
      by_cases h2 : k < i
      · rw [if_pos h2, if_pos (by omega)]
      · rw [if_neg h2, if_neg (by omega)]
  · rw [if_neg (by omega), List.getElem?_eq_none (by rw [laidP_len]; omega), List.getElem?_eq_none (by rw [laidP_len]; omega)]
/-- While pages are given back: those among ks are free, all others full; as many are free. -/
structure Gi (v : UInt8) (L : Nat) (ks : List Int) (f : Int → Option Value) (cur : Pgs) : Prop where
  len : cur.length = L
  at_ : ∀ q : Nat, q < L → cur[q]? = some (if f q = none then some (ofL (v + UInt8.ofNat q) 896 896) else none)
  fb : ∀ k, f k = none ∨ f k = some (.bool true)
  mem : ∀ k, k ∈ ks ↔ f k ≠ none
  nf : nf cur = ks.length
theorem nf_full (c : Pgs) (h : ∀ q : Nat, c[q]? ≠ some none) : nf c = 0 := by
  rcases first_free c with ⟨h1, _⟩ | ⟨_, q, hq, _⟩
  · exact h1
  · exact absurd hq (h q)
theorem Gi.begin (v : UInt8) (L : Nat) : Gi v L [] (fun _ => none) (laidP v L L) := by
  have ha : ∀ q : Nat, q < L → (laidP v L L)[q]? = some (some (ofL (v + UInt8.ofNat q) 896 896)) := fun q hq => by rw [laidP_get v L L q hq, if_pos hq]
  refine ⟨laidP_len v L L, fun q hq => by rw [ha q hq, if_pos rfl], fun k => .inl rfl, fun k => by simp, ?_⟩
  refine nf_full _ (fun q e => ?_)
  have hq := (List.getElem?_eq_some_iff.1 e).1
  rw [laidP_len] at hq
  rw [ha q hq] at e
  cases e
theorem Gi.free {v : UInt8} {L : Nat} {ks : List Int} {f : Int → Option Value} {cur : Pgs} (h : Gi v L ks f cur) {q : Nat} (hq : q < L) (hf : f q = none) : Gi v L (kput ks q) (upd f q (some (.bool true))) (cur.set q none) := by
  have hc := h.at_ q hq
  rw [if_pos hf] at hc
  have hnm : (q : Int) ∉ ks := fun hm => (h.mem q).1 hm hf
  have hk : kput ks q = ks ++ [(q : Int)] := by unfold kput; rw [if_neg hnm]
  refine ⟨by rw [List.length_set]; exact h.len, fun i hi => ?_, fun k => ?_, fun k => ?_, ?_⟩
  · rw [List.getElem?_set, h.len]
    by_cases e : q = i
    · subst e
      rw [if_pos rfl, if_pos hq, upd_same, if_neg (by simp)]
    · rw [if_neg e, h.at_ i hi, upd_ne _ _ (by omega)]
  · by_cases e : k = q
    · subst e; exact .inr (upd_same _ _ _)
    · rw [upd_ne _ _ e]; exact h.fb k
  · rw [hk]
    by_cases e : k = q
    · subst e; rw [upd_same]; simp
    · rw [upd_ne _ _ e, ← h.mem k]; simp [e]
  · rw [nf_give cur q _ hc, h.nf, hk, List.length_append]; rfl
theorem Gi.again {v : UInt8} {L : Nat} {ks : List Int} {f : Int → Option Value} {cur : Pgs} (h : Gi v L ks f cur) {q : Nat} (hf : f q = some (.bool true)) : Gi v L (kput ks q) (upd f q (some (.bool true))) cur := by
  have hm : (q : Int) ∈ ks := (h.mem q).2 (by rw [hf]; simp)
  have hk : kput ks q = ks := by unfold kput; rw [if_pos hm]
  have hu : upd f q (some (.bool true)) = f := by
    funext k
    by_cases e : k = q
    · subst e; rw [upd_same, hf]
    · rw [upd_ne _ _ e]
  rw [hk, hu]
  exact h
/-- While they are given again: those ahead of i have noughts. -/
structure Ga (v : UInt8) (L : Nat) (f : Int → Option Value) (i : Nat) (cur : Pgs) : Prop where
  len : cur.length = L
  at_ : ∀ q : Nat, q < L → cur[q]? = some (if f q = none then some (ofL (v + UInt8.ofNat q) 896 896) else if q < i then some z896 else none)
theorem Gi.turn {v : UInt8} {L : Nat} {ks : List Int} {f : Int → Option Value} {cur : Pgs} (h : Gi v L ks f cur) : Ga v L f 0 cur := ⟨h.len, fun q hq => by rw [h.at_ q hq, if_neg (show ¬ q < 0 by omega)]⟩
theorem Ga.keep {v : UInt8} {L : Nat} {f : Int → Option Value} {i : Nat} {cur : Pgs} (h : Ga v L f i cur) (hf : f i = none) : Ga v L f (i + 1) cur := ⟨h.len, fun q hq => by
  rw [h.at_ q hq]
  by_cases e : q = i
  · subst e; rw [if_pos hf, if_pos hf]
  · by_cases h2 : q < i
    · rw [if_pos h2, if_pos (show q < i + 1 by omega)]
    · rw [if_neg h2, if_neg (show ¬ q < i + 1 by omega)]⟩
theorem Ga.next {v : UInt8} {L : Nat} {f : Int → Option Value} {i : Nat} {cur : Pgs} (h : Ga v L f i cur) (hi : i < L) (hf : f i ≠ none) : Ga v L f (i + 1) (cur.set i (some z896)) := ⟨by rw [List.length_set]; exact h.len, fun q hq => by
  rw [List.getElem?_set, h.len]
  by_cases e : i = q
  · subst e; rw [if_pos rfl, if_pos hi, if_neg hf, if_pos (show i < i + 1 by omega)]
  · rw [if_neg e, h.at_ q hq]
    by_cases h2 : q < i
    · rw [if_pos h2, if_pos (show q < i + 1 by omega)]
    · rw [if_neg h2, if_neg (show ¬ q < i + 1 by omega)]⟩
theorem Ga.first {v : UInt8} {L : Nat} {f : Int → Option Value} {i : Nat} {cur : Pgs} (h : Ga v L f i cur) (hi : i < L) (hf : f i ≠ none) : cur[i]? = some none ∧ ∀ q : Nat, q < i → cur[q]? ≠ some none := by
  refine ⟨by rw [h.at_ i hi, if_neg hf, if_neg (by omega)], fun q hq e => ?_⟩
  rw [h.at_ q (by omega), if_pos hq] at e
  split at e <;> cases e
theorem Ga.ends {v : UInt8} {L : Nat} {f : Int → Option Value} {cur : Pgs} (h : Ga v L f L cur) : Go.Proofs.YtcmgclkbhhdnaaaGreatDoor.nf cur = 0 := nf_full _ (fun q e => by
  have hq := (List.getElem?_eq_some_iff.1 e).1
  rw [h.len] at hq
  rw [h.at_ q hq, if_pos hq] at e
  split at e <;> cases e)
end Go.Proofs.YtcmgclkbhhdnaaaGreatDoor
