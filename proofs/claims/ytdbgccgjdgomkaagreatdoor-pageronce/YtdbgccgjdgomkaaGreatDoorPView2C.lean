/- A pager as the document sees it: Commit, Open. -/
import Derived.Test.YtdbgccgjdgomkaaGreatDoorPViewC
namespace Go.Proofs.YtdbgccgjdgomkaaGreatDoor
open Go Go.RowKit

theorem cat_parts (bl : List (List UInt8)) (f : Nat) (c : List UInt8) : ∀ n, (∀ x, x < n → bl[f + x]? = some (hp c x)) → cat bl f n = c.take (n * 112)
  | 0, _ => by simp [cat]
  | n + 1, h => by
    rw [cat_succ bl f n _ (h n (by omega)), cat_parts bl f c n (fun x hx => h x (by omega))]
    unfold hp
    rw [show (n + 1) * 112 = n * 112 + 112 by omega, List.take_add]
theorem cat_same (bl bl' : List (List UInt8)) (f n : Nat) (h : ∀ x, x < n → bl'[f + x]? = bl[f + x]?) : cat bl' f n = cat bl f n := by
  unfold cat
  congr 1
  refine List.ext_getElem? fun k => ?_
  rw [List.getElem?_take, List.getElem?_take, List.getElem?_drop, List.getElem?_drop]
  by_cases hk : k < n
  · rw [if_pos hk, if_pos hk, h k hk]
  · rw [if_neg hk, if_neg hk]
theorem mem_seqZ (f : Int) (n : Nat) (z : Int) : z ∈ seqZ f n ↔ ∃ x : Nat, x < n ∧ z = f + (x : Int) := by
  unfold seqZ
  simp only [List.mem_map, List.mem_range]
  constructor
  · rintro ⟨x, hx, rfl⟩; exact ⟨x, hx, rfl⟩
  · rintro ⟨x, hx, rfl⟩; exact ⟨x, hx, rfl⟩
theorem nd_seqZ (f : Int) : ∀ n, (seqZ f n).Nodup
  | 0 => by simp [seqZ]
  | n + 1 => by
    rw [seqZ_succ]
    refine List.nodup_append.2 ⟨nd_seqZ f n, by simp, fun a ha b hb => ?_⟩
    obtain ⟨x, hx, rfl⟩ := (mem_seqZ f n a).1 ha
    have : b = f + (n : Int) := by simpa using hb
    omega
theorem mem_pz (ks : List Int) (z : Int) : z ∈ pz ks ↔ ∃ k ∈ ks, ∃ x : Nat, x < 8 ∧ z = 2 + k * 8 + (x : Int) := by
  unfold pz
  rw [List.mem_flatMap]
  constructor
  · rintro ⟨k, hk, hz⟩; exact ⟨k, hk, (mem_seqZ _ _ _).1 hz⟩
  · rintro ⟨k, hk, hz⟩; exact ⟨k, hk, (mem_seqZ _ _ _).2 hz⟩
theorem nd_pz : ∀ ks : List Int, ks.Nodup → (pz ks).Nodup
  | [], _ => List.nodup_nil
  | k :: r, h => by
    have e : pz (k :: r) = seqZ (2 + k * 8) 8 ++ pz r := by simp [pz]
    rw [e]
    have h' := List.nodup_cons.1 h
    refine List.nodup_append.2 ⟨nd_seqZ _ _, nd_pz r h'.2, fun a ha b hb => ?_⟩
    obtain ⟨x, hx, rfl⟩ := (mem_seqZ _ _ a).1 ha
    obtain ⟨k', hk', y, hy, rfl⟩ := (mem_pz r b).1 hb
    intro e2
    have : k = k' := by omega
    subst this
    exact h'.1 hk'
theorem wsOf_app (a b : List Int) (c d : List (List UInt8)) (h : a.length = c.length) : wsOf (a ++ b) (c ++ d) = wsOf a c ++ wsOf b d := by
  unfold wsOf
  rw [List.zip_append h, List.map_append]
theorem wsOf_pz (g : Int → Option (List UInt8)) : ∀ (ks : List Int), (∀ k ∈ ks, 0 ≤ k) → ∀ (y : Nat × List UInt8), y ∈ wsOf (pz ks) (pp g ks) ↔ ∃ k ∈ ks, ∃ x : Nat, x < 8 ∧ y = (2 + k.toNat * 8 + x, hp (cget g k) x)
  | [], _, y => by simp [wsOf, pz]
  | k :: r, h0, y => by
    have e : pz (k :: r) = seqZ (2 + k * 8) 8 ++ pz r := by simp [pz]
    have e2 : pp g (k :: r) = (List.range 8).map (hp (cget g k)) ++ pp g r := by simp [pp]
    rw [e, e2, wsOf_app _ _ _ _ (by rw [seqZ_len, List.length_map, List.length_range]), List.mem_append, wsOf_pz g r (fun k hk => h0 k (by simp [hk])) y]
    have hk0 := h0 k (by simp)
    have e3 : wsOf (seqZ (2 + k * 8) 8) ((List.range 8).map (hp (cget g k))) = (List.range 8).map fun x => (2 + k.toNat * 8 + x, hp (cget g k) x) := by
      unfold wsOf seqZ
      rw [List.zip_map', List.map_map]
      refine List.map_congr_left fun x _ => ?_
      show ((2 + k * 8 + (x : Int)).toNat, hp (cget g k) x) = _
      congr 1
      omega
    rw [e3, List.mem_map]
    constructor
    · rintro (⟨x, hx, rfl⟩ | ⟨k', hk', h⟩)
      · exact ⟨k, by simp, x, List.mem_range.1 hx, rfl⟩
      · exact ⟨k', by simp [hk'], h⟩
    · rintro ⟨k', hk', x, hx, rfl⟩
      rcases List.mem_cons.1 hk' with rfl | hk'
      · exact .inl ⟨x, List.mem_range.2 hx, rfl⟩
      · exact .inr ⟨k', hk', x, hx, rfl⟩
theorem hp_len {c : List UInt8} {x n : Nat} (h : c.length = n * 112) (hx : x < n) : (hp c x).length = 112 := by
  unfold hp
  rw [List.length_take, List.length_drop, h]
  have : x * 112 + 112 ≤ n * 112 := by omega
  omega
/-- What is written fits, and what the blocks have then. -/
theorem commit_math {bl : List (List UInt8)} {g : Int → Option (List UInt8)} {ks : List Int} {hd : List UInt8} {n : Nat} (hdl : hd.length = 224) (hn : (bl.length - 2) / 8 = n) (hb2 : 2 ≤ bl.length) (hnd : ks.Nodup) (hks : ∀ k, k ∈ ks ↔ g k ≠ none) (hkb : ∀ k ∈ ks, 0 ≤ k ∧ k < (n : Int)) (hgl : ∀ k c, g k = some c → c.length = 896) :
    Fit bl.length ([0, 1] ++ pz ks) ([hp hd 0, hp hd 1] ++ pp g ks) ∧ cat (layAll bl (wsOf ([0, 1] ++ pz ks) ([hp hd 0, hp hd 1] ++ pp g ks))) 0 2 = hd ∧
      (∀ i : Nat, i < n → ∀ c, g (i : Int) = some c → cat (layAll bl (wsOf ([0, 1] ++ pz ks) ([hp hd 0, hp hd 1] ++ pp g ks))) (2 + i * 8) 8 = c) ∧
      (∀ i : Nat, i < n → g (i : Int) = none → cat (layAll bl (wsOf ([0, 1] ++ pz ks) ([hp hd 0, hp hd 1] ++ pp g ks))) (2 + i * 8) 8 = cat bl (2 + i * 8) 8) := by
  have hfit : Fit bl.length ([0, 1] ++ pz ks) ([hp hd 0, hp hd 1] ++ pp g ks) := by
    refine ⟨?_, ?_, fun z hz => ?_, fun l hm => ?_⟩
    · rw [List.length_append, List.length_append, pz_len, pp_len]; rfl
    · refine List.nodup_append.2 ⟨by decide, nd_pz ks hnd, fun a ha b hb => ?_⟩
      obtain ⟨k, hk, x, hx, rfl⟩ := (mem_pz ks b).1 hb
      have := hkb k hk
      simp only [List.mem_cons, List.not_mem_nil, or_false] at ha
      rcases ha with rfl | rfl <;> omega
    · unfold hasB
      rw [Bool.and_eq_true, decide_eq_true_eq, decide_eq_true_eq]
      rcases List.mem_append.1 hz with hz | hz
      · simp only [List.mem_cons, List.not_mem_nil, or_false] at hz
        rcases hz with rfl | rfl <;> omega
      · obtain ⟨k, hk, x, hx, rfl⟩ := (mem_pz ks z).1 hz
        have := hkb k hk
        omega
    · rcases List.mem_append.1 hm with hm | hm
      · simp only [List.mem_cons, List.not_mem_nil, or_false] at hm
        rcases hm with rfl | rfl
        · exact hp_len (n := 2) hdl (by decide)
        · exact hp_len (n := 2) hdl (by decide)
      · unfold pp at hm
        obtain ⟨k, hk, hm⟩ := List.mem_flatMap.1 hm
        obtain ⟨x, hx, rfl⟩ := List.mem_map.1 hm
        exact hp_len (n := 8) (cget_len hgl k) (List.mem_range.1 hx)
  have hL : ∀ y, y ∈ wsOf ([0, 1] ++ pz ks) ([hp hd 0, hp hd 1] ++ pp g ks) ↔ (y = (0, hp hd 0) ∨ y = (1, hp hd 1)) ∨ ∃ k ∈ ks, ∃ x : Nat, x < 8 ∧ y = (2 + k.toNat * 8 + x, hp (cget g k) x) := fun y => by
    rw [wsOf_app _ _ _ _ rfl, List.mem_append, wsOf_pz g ks (fun k hk => (hkb k hk).1) y]
    simp [wsOf]
  have hnk : ((wsOf ([0, 1] ++ pz ks) ([hp hd 0, hp hd 1] ++ pp g ks)).map (·.1)).Nodup := by
    have e : (wsOf ([0, 1] ++ pz ks) ([hp hd 0, hp hd 1] ++ pp g ks)).map (·.1) = ([0, 1] ++ pz ks).map Int.toNat := by
      unfold wsOf
      rw [List.map_map]
      have : ((fun x : Nat × List UInt8 => x.1) ∘ fun x : Int × List UInt8 => (x.1.toNat, x.2)) = Int.toNat ∘ Prod.fst := rfl
      rw [this, ← List.map_map, List.map_fst_zip (by rw [hfit.1]; exact Nat.le_refl _)]
    rw [e]
    have hp0 : ∀ z ∈ [0, 1] ++ pz ks, 0 ≤ z := fun z hz => (hfit.at hz).1
    have hnd2 := hfit.2.1
    generalize [0, 1] ++ pz ks = zs at *
    exact List.pairwise_map.2 (hnd2.imp_of_mem (fun {a b} ha hb hab e => hab (by have := hp0 a ha; have := hp0 b hb; omega)))
  generalize hLL : wsOf ([0, 1] ++ pz ks) ([hp hd 0, hp hd 1] ++ pp g ks) = L at *
  have hin : ∀ y, y ∈ L → y.1 < bl.length → (layAll bl L)[y.1]? = some y.2 := fun y hy hl => layAll_in L bl y hnk hy hl
  refine ⟨hfit, ?_, fun i hi c hc => ?_, fun i hi hc => ?_⟩
  · rw [cat_parts _ 0 hd 2 (fun x hx => ?_), List.take_of_length_le (by omega)]
    have hx2 : x = 0 ∨ x = 1 := by omega
    rw [Nat.zero_add]
    rcases hx2 with rfl | rfl
    · exact hin (0, hp hd 0) ((hL _).2 (.inl (.inl rfl))) (by show 0 < bl.length; omega)
    · exact hin (1, hp hd 1) ((hL _).2 (.inl (.inr rfl))) (by show 1 < bl.length; omega)
  · have hcl := hgl _ c hc
    have hcg : cget g (i : Int) = c := by unfold cget; rw [hc]; rfl
    rw [cat_parts _ (2 + i * 8) c 8 (fun x hx => ?_), List.take_of_length_le (by omega)]
    have := hin (2 + i * 8 + x, hp c x) ((hL _).2 (.inr ⟨(i : Int), (hks _).2 (by rw [hc]; simp), x, hx, by rw [hcg]; rfl⟩)) (by show 2 + i * 8 + x < bl.length; omega)
    exact this
  · refine cat_same bl _ _ _ (fun x hx => ?_)
    rcases layAll_mem (2 + i * 8 + x) L bl with h | ⟨l, hl, _⟩
    · exact h
    · rcases (hL _).1 hl with (h | h) | ⟨k, hk, y, hy, h⟩
      · injection h with h; omega
      · injection h with h; omega
      · injection h with h
        have := hkb k hk
        have : k = (i : Int) := by omega
        subst this
        exact absurd hc ((hks _).1 hk)
theorem Pv.commit {B : Nat} {w : World} {p j d : Nat} {s : DS} {sq : Nat} {bl : List (List UInt8)} {cur was : Pgs} {rt wr : Int} (h : Pv B w p j d s sq bl cur was rt wr) (hsq : sq + 1 ≤ 1000000000) (ho : s.ops + ((2 * nbOf s.n + 4 : Nat) : Int) ≤ 1048576) :
    Calls Tryz.prog 20 #[.pointer (some ⟨p, 0, none⟩)] w fun e w' => e = .returned (.int .i64 0) ∧ ∃ s' sq' bl', Aft B w w' p j d s' sq' bl' cur cur rt rt ∧ s'.n = s.n ∧ s.ops ≤ s'.ops ∧ s'.ops ≤ s.ops + ((2 * nbOf s.n + 4 : Nat) : Int) ∧ sq' ≤ sq + 1 := by
  obtain ⟨X, cnt, bg, um, bm, u, g, h⟩ := h
  cases hbg : bg with
  | false =>
    subst hbg
    obtain ⟨rfl, rfl⟩ := h.idle rfl
    refine (pcommit_idle h.pm.pg).mono ?_
    rintro e w' ⟨rfl, rfl⟩
    exact ⟨rfl, s, sq, bl, ⟨⟨_, _, _, _, _, _, _, h⟩, Below.refl _ _, Kq.refl _⟩, rfl, Int.le_refl _, by omega, by omega⟩
  | true =>
    subst hbg
    obtain ⟨kb, hb⟩ := h.pm.mb
    have hks : ∀ k, k ∈ sorted kb ↔ g k ≠ none := fun k => by rw [mem_sorted, hb.mem]; exact gV_none g k
    have hnd : (sorted kb).Nodup := by unfold sorted; exact (List.mergeSort_perm kb _).nodup_iff.2 hb.nd
    have hbl : bl.length = nbOf s.n := h.js.jr.sett.con.len
    have hb2 : 2 ≤ bl.length := by have := h.js.jr.sett.n32; rw [hbl]; unfold nbOf; omega
    have hkl : ∀ k ∈ sorted kb, 0 ≤ k ∧ k < (was.length : Int) := fun k hk => by
      have := h.pm.kb k ((hks k).1 hk)
      rw [tk_len] at this; exact this
    have hrl := h.rc.lt
    have hle := h.le
    have hlen := h.len
    obtain ⟨r, hr⟩ : ∃ r : Nat, rt + 1 = (r : Int) := ⟨(rt + 1).toNat, by omega⟩
    obtain ⟨hfit, hc1, hc2, hc3⟩ := commit_math (hdOf_len (ovl (tk was) u) r) h.nb hb2 hnd hks hkl h.pm.gl
    generalize hZ : [0, 1] ++ pz (sorted kb) = Z at *
    generalize hP : [hp (hdOf (ovl (tk was) u) r) 0, hp (hdOf (ovl (tk was) u) r) 1] ++ pp g (sorted kb) = P at *
    have hz0 : Z ≠ [] := by rw [← hZ]; simp
    have hre : refE bl Z P = 0 := if_pos hfit
    have hrw : refW sq bl Z P = (sq + 1, layAll bl (wsOf Z P)) := if_pos ⟨hfit, hz0⟩
    refine (pcommit_any h.pm hb hr (by omega) (fun w6 => Below B w w6 ∧ Kq w w6 ∧ Pg w6 p j (tk was) (nf was) wr true (nf cur) rt um bm 0 ∧ ∃ s' X' cnt', Js B w6 j d X' s' (sq + 1) cnt' (layAll bl (wsOf Z P)) ∧ s'.n = s.n ∧ s.ops ≤ s'.ops ∧ s'.ops ≤ s.ops + ((2 * nbOf s.n + 4 : Nat) : Int)) (fun _ => False) (fun w5 va vb hB5 ha hbz => ?_)).mono ?_
    · rw [hZ] at ha
      rw [hP] at hbz
      have hJ5 := h.js.below hB5
      have hlz := hfit.len
      have hn8 := h.js.jr.nb
      refine (hJ5.wr (Nat.le_trans h.Bw hB5.size) hsq ha hbz (by omega) ho).mono ?_
      rintro e w6 ⟨rfl, s', X', cnt', hJ6, h1, h2, h3, _, _, _, hB6, hK6⟩
      rw [hrw] at hJ6
      refine ⟨hK6, .inl ⟨by rw [hre], (hB5.mono h.Bw).trans hB6, (Kq.of_below hB5).trans (Kq.of_kp hK6), hK6.pg (h.pm.pg.below hB5 h.pm.pg.lt), s', X', cnt', hJ6, h1, h2, by omega⟩⟩
    · rintro e w' ⟨w6, hF, hr2⟩
      rcases hr2 with ⟨rfl, ⟨hB6, hK6, hP6, s', X', cnt', hJ6, h1, h2, h3⟩, hP'⟩ | ⟨_, hf, _⟩
      · rw [h.us] at hP'
        have hBs : B ≤ w6.heap.size := Nat.le_trans h.Bw hB6.size
        have hB' : Below B w6 w' := hF.below hBs (by simpa using h.lo)
        have hBB := hB6.trans hB'
        have hJ' : Js B w' j d X' s' (sq + 1) cnt' (layAll bl (wsOf Z P)) := hJ6.fr hF (fun k hk hm => by
          obtain rfl : k = p := by simpa using hm
          exact hJ6.not hP6.2 (by decide) (by decide) (by decide) hk) (hJ6.jr.tab.belowB hB' h.tb)
        have hr3 : (rt + 1).toNat = r := by omega
        refine ⟨rfl, s', sq + 1, layAll bl (wsOf Z P), ⟨⟨X', cnt', false, none, none, fun _ => none, fun _ => none, { pm := hP'.bare, js := hJ', len := rfl, us := ovl_none _, gs := fun i c hi => (by cases hi), gn := fun i c _ hc => hc, wb := fun i c hi => ?_, hd := by rw [hc1, h.us, hr3], rw' := h.rc, rc := h.rc, idle := fun _ => ⟨rfl, rfl⟩, nb := by rw [layAll_len, h.nb, h.len], lo := h.lo, mlo := fun m hm => (by rcases hm with hm | hm <;> cases hm), ap := fun m hm => (by rcases hm with hm | hm <;> cases hm), tb := h.tb, Bw := Nat.le_trans hBs hF.size }⟩, hBB, hK6.trans (Kq.of_p hP6 hF)⟩, h1, h2, h3, Nat.le_refl _⟩
        have hil := (List.getElem?_eq_some_iff.1 hi).1
        cases hg : g (i : Int) with
        | some c' =>
          have h5 := h.gs i c' hg
          rw [hi] at h5
          cases h5
          exact hc2 i (by omega) c hg
        | none =>
          rw [hc3 i (by omega) hg]
          exact h.wb i c (h.gn i c hg hi)
      · exact hf.elim
/-- Open, where a head lies. -/
theorem open_head {B : Nat} {w : World} {j d : Nat} {X : List Nat} {s : DS} {sq cnt : Nat} {bl : List (List UInt8)} (hJ : Js B w j d X s sq cnt bl) {was : Pgs} {wr : Int} (hd : cat bl 0 2 = hdOf (tk was) (wr + 1).toNat) (hnb : (bl.length - 2) / 8 = was.length) (hr : rooted was wr) (hwb : ∀ (i : Nat) (c : List UInt8), was[i]? = some (some c) → cat bl (2 + i * 8) 8 = c) (htb : 0 < B) (hBw : B ≤ w.heap.size) :
    Calls Tryz.prog 13 #[.pointer (some ⟨j, 0, none⟩)] w fun e w' => ∃ p, w.heap.size ≤ p ∧ e = .returned (.tuple #[.pointer (some ⟨p, 0, none⟩), .int .i64 0]) ∧ Pv B w' p j d s sq bl was was wr wr ∧ Below w.heap.size w w' := by
  have hbl : bl.length = nbOf s.n := hJ.jr.sett.con.len
  have hnb8 := hJ.jr.nb
  have hrl := hr.lt
  refine (popen_ok hJ.jr (n := was.length) (l := tk was) (r := (wr + 1).toNat) (by rw [← hbl]; exact hnb) (tk_len was) hd (by omega) ?_).mono ?_
  · rcases hr with rfl | ⟨q, rfl, x, hx⟩
    · exact .inl rfl
    · exact .inr ⟨q, by omega, by rw [tk_get, hx]; rfl⟩
  · rintro e w' ⟨p, hp, rfl, hP, hB⟩
    have e1 : (((wr + 1).toNat : Nat) : Int) - 1 = wr := by omega
    rw [e1] at hP
    refine ⟨p, hp, rfl, ⟨X, cnt, false, none, none, fun _ => none, fun _ => none, { pm := Pg.bare hP, js := hJ.below hB, len := rfl, us := ovl_none _, gs := fun i c hi => (by cases hi), gn := fun i c _ hc => hc, wb := hwb, hd := hd, rw' := hr, rc := hr, idle := fun _ => ⟨rfl, rfl⟩, nb := hnb, lo := Nat.le_trans hBw hp, mlo := fun m hm => (by rcases hm with hm | hm <;> cases hm), ap := fun m hm => (by rcases hm with hm | hm <;> cases hm), tb := htb, Bw := Nat.le_trans hBw hB.size }⟩, hB⟩
theorem Pv.open {B : Nat} {w : World} {p j d : Nat} {s : DS} {sq : Nat} {bl : List (List UInt8)} {cur was : Pgs} {rt wr : Int} (h : Pv B w p j d s sq bl cur was rt wr) :
    Calls Tryz.prog 13 #[.pointer (some ⟨j, 0, none⟩)] w fun e w' => ∃ p, w.heap.size ≤ p ∧ e = .returned (.tuple #[.pointer (some ⟨p, 0, none⟩), .int .i64 0]) ∧ Pv B w' p j d s sq bl was was wr wr ∧ Below w.heap.size w w' := by
  obtain ⟨X, cnt, bg, um, bm, u, g, h⟩ := h
  exact open_head h.js h.hd h.nb h.rw' h.wb h.tb h.Bw
end Go.Proofs.YtdbgccgjdgomkaaGreatDoor
