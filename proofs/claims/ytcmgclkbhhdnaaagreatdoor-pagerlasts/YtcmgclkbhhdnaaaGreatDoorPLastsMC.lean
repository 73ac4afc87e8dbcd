/- the text PLastsM -/
import Derived.Test.YtcmgclkbhhdnaaaGreatDoorPScrC
namespace Go.Proofs.YtcmgclkbhhdnaaaGreatDoor
open Go Go.RowKit
variable {Z : Nat → Prop}

/-- A pager of these pages and of this root lies there. -/
def Lies (bl : List (List UInt8)) (c : Pgs) (r : Int) : Prop := cat bl 0 2 = hdOf (tk c) (r + 1).toNat ∧ (bl.length - 2) / 8 = c.length ∧ rooted c r ∧ ∀ (i : Nat) (x : List UInt8), c[i]? = some (some x) → cat bl (2 + i * 8) 8 = x
/-- What a disk has behind any crash: a pager of the one or of the other pages. -/
def Endd (B : Nat) (w : World) (d n Q : Nat) (was : Pgs) (wr : Int) (cur : Pgs) (rt : Int) : Prop := ∃ X s, Disk w d X s ∧ Tab w ∧ s.n = n ∧ (∀ k ∈ X, B ≤ k) ∧ ∀ zs, ∃ sq cnt bl, sq ≤ Q ∧ Con (crashed s.kept s.loose zs) (nbOf n) sq cnt bl ∧ (Lies bl was wr ∨ Lies bl cur rt)
theorem Endd.below {B : Nat} {w w' : World} {d n Q : Nat} {was cur : Pgs} {wr rt : Int} (h : Endd B w d n Q was wr cur rt) (hB : Below w.heap.size w w') : Endd B w' d n Q was wr cur rt := by
  obtain ⟨X, s, h1, h2, h3⟩ := h
  exact ⟨X, s, h1.below hB, h2.below hB, h3⟩
/-- .. also where the reference is laid anew. -/
theorem Endd.fr {B : Nat} {w w' : World} {d n Q : Nat} {was cur : Pgs} {wr rt : Int} (h : Endd B w d n Q was wr cur rt) {g : Nat} {c : Array Value} {t : TypeId} {z : Nat × Nat} (hF : Fr [g] w w') (hg : w.heap[g]? = some (.cells c t z)) (h1 : t ≠ 102) (h2 : t ≠ 120) (hB : Below B w w') (htb : 0 < B) : Endd B w' d n Q was wr cur rt := by
  obtain ⟨X, s, hD, hT, h3⟩ := h
  exact ⟨X, s, hD.fr hF (fun k hk hm => by
    obtain rfl : k = g := by simpa using hm
    exact hD.other hg h1 h2 hk), hT.belowB hB htb, h3⟩
theorem Pv.lies {B : Nat} {w : World} {p j d : Nat} {s : DS} {sq : Nat} {bl : List (List UInt8)} {cur was : Pgs} {rt wr : Int} (h : Pv B w p j d s sq bl cur was rt wr) : Lies bl was wr := by
  obtain ⟨X, cnt, bg, um, bm, u, g, h⟩ := h
  exact ⟨h.hd, h.nb, h.rw', h.wb⟩
theorem Pv.tb {B : Nat} {w : World} {p j d : Nat} {s : DS} {sq : Nat} {bl : List (List UInt8)} {cur was : Pgs} {rt wr : Int} (h : Pv B w p j d s sq bl cur was rt wr) : 0 < B := by
  obtain ⟨X, cnt, bg, um, bm, u, g, h⟩ := h
  exact h.tb
/-- At rest what lies committed is there behind any crash. -/
theorem Pv.endd {B : Nat} {w : World} {p j d : Nat} {s : DS} {sq : Nat} {bl : List (List UInt8)} {cur was : Pgs} {rt wr : Int} (h : Pv B w p j d s sq bl cur was rt wr) (c : Pgs) (r : Int) : Endd B w d s.n sq was wr c r := by
  have hl := h.lies
  obtain ⟨X, cnt, bg, um, bm, u, g, h⟩ := h
  refine ⟨X, s, h.js.jr.disk, h.js.jr.tab, rfl, h.js.lo, fun zs => ⟨sq, cnt, bl, Nat.le_refl _, ?_, .inl hl⟩⟩
  rw [h.js.jr.sett.loose, crashed_none, h.js.jr.sett.same]
  exact h.js.jr.sett.con
/-- Commit, while the power may go. -/
theorem Pv.commitC {B : Nat} {w : World} {p j d : Nat} {s : DS} {sq : Nat} {bl : List (List UInt8)} {cur was : Pgs} {rt wr : Int} (h : Pv B w p j d s sq bl cur was rt wr) (hsq : sq + 1 ≤ 1000000000) (ho : s.ops + ((2 * nbOf s.n + 4 : Nat) : Int) ≤ 1048576) :
    Calls Tryz.prog 20 #[.pointer (some ⟨p, 0, none⟩)] w fun e w' => Below B w w' ∧ Kq w w' ∧ ((e = .returned (.int .i64 0) ∧ ∃ s' sq' bl', Pv B w' p j d s' sq' bl' cur cur rt rt ∧ s'.n = s.n ∧ s'.ops ≤ s.ops + ((2 * nbOf s.n + 4 : Nat) : Int) ∧ sq' ≤ sq + 1) ∨
      (e = .returned (.int .i64 43) ∧ Endd B w' d s.n (sq + 1) was wr cur rt ∧ ∃ l kl kr bg lf rt um bm, Pg w' p j l kl kr bg lf rt um bm 43)) := by
  have hlies := h.lies
  obtain ⟨X, cnt, bg, um, bm, u, g, h⟩ := h
  cases hbg : bg with
  | false =>
    subst hbg
    obtain ⟨rfl, rfl⟩ := h.idle rfl
    refine (pcommit_idle h.pm.pg).mono ?_
    rintro e w' ⟨rfl, rfl⟩
    exact ⟨Below.refl _ _, Kq.refl _, .inl ⟨rfl, s, sq, bl, ⟨_, _, _, _, _, _, _, h⟩, rfl, by omega, by omega⟩⟩
  | true =>
    subst hbg
    obtain ⟨kb, hb⟩ := h.pm.mb
    have hks : ∀ k, k ∈ sorted kb ↔ g k ≠ none := fun k => by rw [mem_sorted, hb.mem]; exact gV_none g k
    have hnd : (sorted kb).Nodup := by unfold sorted; exact (List.mergeSort_perm kb _).nodup_iff.2 hb.nd
    have hbl : bl.length = nbOf s.n := h.js.jr.sett.con.len
    have hb2 : 2 ≤ bl.length := by have := h.js.jr.sett.n32; rw [hbl]; unfold nbOf; omega
    have hkl : ∀ k ∈ sorted kb, 0 ≤ k ∧ k < (was.length : Int) := fun k hk => by
      have := h.pm.kb k ((hks k).1 hk)
      rw [tk_len] at this; exact this
    have hrl := h.rc.lt
    have hle := h.le
    have hlen := h.len
    obtain ⟨r, hr⟩ : ∃ r : Nat, rt + 1 = (r : Int) := ⟨(rt + 1).toNat, by omega⟩
    have hr3 : (rt + 1).toNat = r := by omega
    obtain ⟨hfit, hc1, hc2, hc3⟩ := commit_math (hdOf_len (ovl (tk was) u) r) h.nb hb2 hnd hks hkl h.pm.gl
    generalize hZ : [0, 1] ++ pz (sorted kb) = Z at *
    generalize hP : [hp (hdOf (ovl (tk was) u) r) 0, hp (hdOf (ovl (tk was) u) r) 1] ++ pp g (sorted kb) = P at *
    have hz0 : Z ≠ [] := by rw [← hZ]; simp
    have hre : refE bl Z P = 0 := if_pos hfit
    have hrw : refW sq bl Z P = (sq + 1, layAll bl (wsOf Z P)) := if_pos ⟨hfit, hz0⟩
    have hwb2 : ∀ (i : Nat) (c : List UInt8), cur[i]? = some (some c) → cat (layAll bl (wsOf Z P)) (2 + i * 8) 8 = c := fun i c hi => by
      have hil := (List.getElem?_eq_some_iff.1 hi).1
      cases hg : g (i : Int) with
      | some c' =>
        have h5 := h.gs i c' hg
        rw [hi] at h5
        cases h5
        exact hc2 i (by omega) c hg
      | none =>
        rw [hc3 i (by omega) hg]
        exact h.wb i c (h.gn i c hg hi)
    have hhd2 : cat (layAll bl (wsOf Z P)) 0 2 = hdOf (tk cur) (rt + 1).toNat := by rw [hc1, h.us, hr3]
    have hnb2 : ((layAll bl (wsOf Z P)).length - 2) / 8 = cur.length := by rw [layAll_len, h.nb, h.len]
    refine (pcommit_any h.pm hb hr (by omega) (fun w6 => Below B w w6 ∧ Kq w w6 ∧ Pg w6 p j (tk was) (nf was) wr true (nf cur) rt um bm 0 ∧ ∃ s' X' cnt', Jc B w6 j d X' s' (sq + 1) cnt' (layAll bl (wsOf Z P)) ∧ s'.n = s.n ∧ s'.ops ≤ s.ops + ((2 * nbOf s.n + 4 : Nat) : Int)) (fun w6 => Below B w w6 ∧ Kq w w6 ∧ Pg w6 p j (tk was) (nf was) wr true (nf cur) rt um bm 0 ∧ ∃ s' X' cnt2, Gone B w6 j d X' s' s.n sq cnt bl (sq + 1) cnt2 (layAll bl (wsOf Z P))) (fun w5 va vb hB5 ha hbz => ?_)).mono ?_
    · rw [hZ] at ha
      rw [hP] at hbz
      have hJ5 := h.js.below hB5
      have hlz := hfit.len
      have hn8 := h.js.jr.nb
      refine (hJ5.wr (Nat.le_trans h.Bw hB5.size) hsq ha hbz (by omega) ho).mono ?_
      rintro e w6 ⟨hB6, hK6, hor⟩
      have hBB := (hB5.mono h.Bw).trans hB6
      have hKK := (Kq.of_below hB5).trans (Kq.of_kp hK6)
      have hPg := hK6.pg (h.pm.pg.below hB5 h.pm.pg.lt)
      rw [hrw, hre] at hor
      rcases hor with ⟨rfl, s', X', cnt', hJ6, h1, _, h3⟩ | ⟨rfl, _, s', X', cnt2, hG⟩
      · exact ⟨hK6, .inl ⟨rfl, hBB, hKK, hPg, s', X', cnt', hJ6, h1, by omega⟩⟩
      · exact ⟨hK6, .inr ⟨rfl, hBB, hKK, hPg, s', X', cnt2, hG⟩⟩
    · rintro e w' ⟨w6, hF, hr2⟩
      rcases hr2 with ⟨rfl, ⟨hB6, hK6, hP6, s', X', cnt', hJ6, h1, h3⟩, hP'⟩ | ⟨rfl, ⟨hB6, hK6, hP6, s', X', cnt2, hG⟩, hP'⟩
      · rw [h.us] at hP'
        have hBs : B ≤ w6.heap.size := Nat.le_trans h.Bw hB6.size
        have hB' : Below B w6 w' := hF.below hBs (by simpa using h.lo)
        have hJ' : Jc B w' j d X' s' (sq + 1) cnt' (layAll bl (wsOf Z P)) := hJ6.fr hF (fun k hk hm => by
          obtain rfl : k = p := by simpa using hm
          exact hJ6.not hP6.2 (by decide) (by decide) (by decide) hk) (hJ6.jr.tab.belowB hB' h.tb)
        refine ⟨hB6.trans hB', hK6.trans (Kq.of_p hP6 hF), .inl ⟨rfl, s', sq + 1, layAll bl (wsOf Z P), ⟨X', cnt', false, none, none, fun _ => none, fun _ => none, { pm := hP'.bare, js := hJ', len := rfl, us := ovl_none _, gs := fun i c hi => (by cases hi), gn := fun i c _ hc => hc, wb := hwb2, hd := hhd2, rw' := h.rc, rc := h.rc, idle := fun _ => ⟨rfl, rfl⟩, nb := hnb2, lo := h.lo, mlo := fun m hm => (by rcases hm with hm | hm <;> cases hm), ap := fun m hm => (by rcases hm with hm | hm <;> cases hm), tb := h.tb, Bw := Nat.le_trans hBs hF.size }⟩, h1, h3, Nat.le_refl _⟩⟩
      · have hBs : B ≤ w6.heap.size := Nat.le_trans h.Bw hB6.size
        have hB' : Below B w6 w' := hF.below hBs (by simpa using h.lo)
        refine ⟨hB6.trans hB', hK6.trans (Kq.of_p hP6 hF), .inr ⟨rfl, ⟨X', s', hG.disk.fr hF (fun k hk hm => ?_), hG.tab.belowB hB' h.tb, hG.sn, hG.lo, fun zs => ?_⟩, _, _, _, _, _, _, _, _, hP'⟩⟩
        · obtain rfl : k = p := by simpa using hm
          exact hG.disk.other hP6.2 (by decide) (by decide) hk
        · rcases hG.con zs with hc | hc
          · exact ⟨sq, cnt, bl, by omega, hc, .inl hlies⟩
          · exact ⟨sq + 1, cnt2, _, Nat.le_refl _, hc, .inr ⟨hhd2, hnb2, h.rc, hwb2⟩⟩
/-- The power will go at an operation. -/
theorem Pv.cutAt {B : Nat} {w : World} {p j d : Nat} {s : DS} {sq : Nat} {bl : List (List UInt8)} {cur was : Pgs} {rt wr : Int} (h : Pv B w p j d s sq bl cur was rt wr) (x : Int) : Calls Tryz.prog 17 #[.pointer (some ⟨d, 0, none⟩), .int .i64 x] w fun e w' => e = .returned (.tuple #[]) ∧ Pv B w' p j d { s with cut := x, gone := false } sq bl cur was rt wr ∧ Below B w w' ∧ Kq w w' := by
  obtain ⟨X, cnt, bg, um, bm, u, g, h⟩ := h
  refine (cutAt_d h.js.jr.disk x).mono ?_
  rintro e w' ⟨rfl, hD, hF⟩
  have hB : Below B w w' := hF.below h.Bw h.js.lo
  obtain ⟨ku, hu⟩ := h.pm.mu
  obtain ⟨kb, hb⟩ := h.pm.mb
  have hst := h.js.jr.sett
  have hK : Kq w w' := ⟨hF.size, fun a c t z hg h1 h2 _ _ => hF.at hg (h.js.jr.disk.other hg h1 h2)⟩
  refine ⟨rfl, ⟨X, cnt, bg, um, bm, u, g, { h with pm := ⟨⟨h.pm.pg.1, hF.at h.pm.pg.2 (h.js.jr.disk.other h.pm.pg.2 (by decide) (by decide))⟩, ⟨ku, hu.fr hF (fun b e hm => ?_)⟩, ⟨kb, hb.fr hF (fun b e hm => ?_)⟩, h.pm.ne, h.pm.gl, h.pm.kd, h.pm.kb⟩, js := ⟨⟨hF.at h.js.jr.jn (h.js.jr.disk.jother h.js.jr.jn), hD, h.js.jr.tab.belowB hB h.tb, ⟨hst.n32, rfl, hst.loose, hst.same, hst.len, hst.con, hst.laid⟩⟩, h.js.lo, h.js.jlo⟩, Bw := Nat.le_trans h.Bw hB.size }⟩, hB, hK⟩
  · exact h.ap b (.inl e) (List.mem_cons_of_mem _ hm)
  · exact h.ap b (.inr e) (List.mem_cons_of_mem _ hm)
theorem Pv.ops {B : Nat} {w : World} {p j d : Nat} {s : DS} {sq : Nat} {bl : List (List UInt8)} {cur was : Pgs} {rt wr : Int} (h : Pv B w p j d s sq bl cur was rt wr) : Calls Tryz.prog 18 #[.pointer (some ⟨d, 0, none⟩)] w (fun e w' => e = .returned (.int .i64 s.ops) ∧ w' = w) ∧ 0 ≤ s.ops := by
  obtain ⟨X, cnt, bg, um, bm, u, g, h⟩ := h
  exact ⟨ops_d h.js.jr.disk, h.js.jr.disk.ok.o0⟩
/-- Behind a crash: the journal is opened, and the pager, with the one or the other pages. -/
theorem Endd.again {B : Nat} {w : World} {d n Q : Nat} {was cur : Pgs} {wr rt : Int} (h : Endd B w d n Q was wr cur rt) (hn0 : 32 ≤ n) (hnb : nbOf n ≤ 170) (hBw : B ≤ w.heap.size) (htb : 0 < B) {a : Option Addr} {len cp : Nat} {zs : List Int} (hI : Ints w.heap.size w a len zs) (hreach : len * 8 ≤ 140737488351232) :
    Calls Tryz.prog 24 #[.pointer (some ⟨d, 0, none⟩), .slice a len cp] w fun e w1 => ∃ d2, e = .returned (.pointer (some ⟨d2, 0, none⟩)) ∧
      Calls Tryz.prog 25 #[.pointer (some ⟨d2, 0, none⟩)] w1 fun e w2 => ∃ j2, e = .returned (.tuple #[.pointer (some ⟨j2, 0, none⟩), .int .i64 0]) ∧
        Calls Tryz.prog 13 #[.pointer (some ⟨j2, 0, none⟩)] w2 fun e w3 => ∃ p2, e = .returned (.tuple #[.pointer (some ⟨p2, 0, none⟩), .int .i64 0]) ∧ (∃ s sq bl c r', Pv B w3 p2 j2 d2 s sq bl c c r' r' ∧ s.n = n ∧ s.ops ≤ ((nbOf n + 1 : Nat) : Int) ∧ sq ≤ Q ∧ (c = was ∧ r' = wr ∨ c = cur ∧ r' = rt)) ∧ Below w.heap.size w w3 := by
  obtain ⟨X, s, hD, hT, hsn, hX, hcon⟩ := h
  obtain ⟨sq, cnt, bl, hsq, hc, hor⟩ := hcon zs
  refine (crash_d (cp := cp) hD hI hreach).mono ?_
  rintro e w1 ⟨d2, X1, rfl, hD1, hX1, hB1⟩
  have htl := tab_lt hT
  have hnn : (s.cr zs).n = n := hsn
  refine ⟨d2, rfl, (open_rest (sq := sq) (cnt := cnt) (bl := bl) hD1 (hT.below hB1) rfl (by rw [hnn]; exact hn0) rfl rfl rfl (by rw [hnn]; exact hc) (by rw [hnn]; show (0 : Int) + _ ≤ _; omega) (fun hm => by have := hX1 _ hm; omega)).mono ?_⟩
  rintro e w2 ⟨j2, s2, X2, hj2, rfl, hJ2, h21, _, _, h24, hX2, hF2⟩
  have hB2 : Below w.heap.size w w2 := hB1.trans (hF2.below hB1.size hX1)
  have hlo : ∀ k ∈ X2, B ≤ k := fun k hk => by
    rcases hX2 k hk with h | h
    · exact Nat.le_trans hBw (hX1 k h)
    · exact Nat.le_trans (Nat.le_trans hBw hB1.size) h
  have hJc : Jc B w2 j2 d2 X2 s2 sq cnt bl := ⟨hJ2, hlo, Nat.le_trans (Nat.le_trans hBw hB1.size) hj2⟩
  have hops : s2.ops ≤ ((nbOf n + 1 : Nat) : Int) := by
    rw [hnn] at h24
    have : (s.cr zs).ops = 0 := rfl
    omega
  have hfin : ∀ (c : Pgs) (r' : Int), Lies bl c r' → Calls Tryz.prog 13 #[.pointer (some ⟨j2, 0, none⟩)] w2 fun e w3 => ∃ p2, w2.heap.size ≤ p2 ∧ e = .returned (.tuple #[.pointer (some ⟨p2, 0, none⟩), .int .i64 0]) ∧ Pv B w3 p2 j2 d2 s2 sq bl c c r' r' ∧ Below w2.heap.size w2 w3 := fun c r' hl => open_head hJc hl.1 hl.2.1 hl.2.2.1 hl.2.2.2 htb (Nat.le_trans hBw hB2.size)
  rcases hor with hl | hl
  · refine ⟨j2, rfl, (hfin was wr hl).mono ?_⟩
    rintro e w3 ⟨p2, _, rfl, hP, hB3⟩
    exact ⟨p2, rfl, ⟨s2, sq, bl, was, wr, hP, h21.trans hnn, hops, hsq, .inl ⟨rfl, rfl⟩⟩, hB2.trans (hB3.mono hB2.size)⟩
  · refine ⟨j2, rfl, (hfin cur rt hl).mono ?_⟩
    rintro e w3 ⟨p2, _, rfl, hP, hB3⟩
    exact ⟨p2, rfl, ⟨s2, sq, bl, cur, rt, hP, h21.trans hnn, hops, hsq, .inr ⟨rfl, rfl⟩⟩, hB2.trans (hB3.mono hB2.size)⟩
/-- Which blocks a reference has; whoever keeps them keeps it. -/
theorem Rp.own {w : World} {B r : Nat} {cur was : Pgs} {rt wr : Int} {ch : Bool} (h : Rp Z w B r cur was rt wr ch) : ∃ Y : Nat → Prop, (∀ g, Y g → B ≤ g ∧ g < w.heap.size) ∧ ∀ w', Kr Y w w' → Rp Z w' B r cur was rt wr ch := by
  obtain ⟨hB, vp, vw, al, be, hr, hp, hw, hs, hs2, hne⟩ := h
  refine ⟨fun g => g = r ∨ vp.ownBlock = some g ∨ vw.ownBlock = some g, fun g hg => ?_, fun w' hk => ?_⟩
  · rcases hg with rfl | hg | hg
    · exact ⟨hB.1, heap_lt hr⟩
    · exact hp.lt g hg
    · exact hw.lt g hg
  · have hro : ∀ {v : Value} {n : Nat} {xs : List Value}, (∀ g, v.ownBlock = some g → g = r ∨ vp.ownBlock = some g ∨ vw.ownBlock = some g) → w.ownsRow B 148 1 v n xs → w'.ownsRow B 148 1 v n xs := fun hv ho => by
      refine ⟨ho.1, ?_⟩
      rcases ho.2 with h5 | ⟨g, cap, cur, rfl, hb, hg, r2⟩
      · exact .inl h5
      · exact .inr ⟨g, cap, cur, rfl, hb, hk.block g _ _ _ hg (by decide) (by decide) (by decide) (by decide) (.inr (hv g rfl)), r2⟩
    have hsp : ∀ {al : List (Option Nat)} {c : Pgs}, Sp w al c → Sp w' al c := fun h => ⟨h.1, fun i => ⟨(h.2 i).1, fun a ha => by
      obtain ⟨b, hb, hh⟩ := (h.2 i).2 a ha
      exact ⟨b, hb, hk.block a _ _ _ hh (by decide) (by decide) (by decide) (by decide) (.inl ⟨by decide, by decide⟩)⟩⟩⟩
    exact ⟨hB, vp, vw, al, be, hk.block r _ _ _ hr (by decide) (by decide) (by decide) (by decide) (.inr (.inl rfl)), hro (fun g hg => .inr (.inl hg)) hp, hro (fun g hg => .inr (.inr hg)) hw, hsp hs, hsp hs2, hne⟩
/-- What must not be touched is chosen anew: it lies above all that the reference has. -/
theorem Rp.reZ {w : World} {B r : Nat} {cur was : Pgs} {rt wr : Int} {ch : Bool} (h : Rp Z w B r cur was rt wr ch) {Y : Nat → Prop} (hY : ∀ g, Y g → w.heap.size ≤ g) : Rp Y w B r cur was rt wr ch := by
  obtain ⟨hB, vp, vw, al, be, hr, hp, hw, hs, hs2, hne⟩ := h
  refine ⟨⟨hB.1, fun hy => ?_⟩, vp, vw, al, be, hr, hp, hw, hs, hs2, hne.1, fun g hg hy => ?_⟩
  · have := hY r hy
    have := heap_lt hr
    omega
  · have h1 := hY g hy
    rcases hg with hg | hg
    · have := (hp.lt g hg).2; omega
    · have := (hw.lt g hg).2; omega
theorem Rp.base {w : World} {B B' r : Nat} {cur was : Pgs} {rt wr : Int} {ch : Bool} (h : Rp Z w B r cur was rt wr ch) (hB : B' ≤ B) : Rp Z w B' r cur was rt wr ch := by
  obtain ⟨h1, vp, vw, al, be, h2, h3, h4, h5⟩ := h
  exact ⟨⟨Nat.le_trans hB h1.1, h1.2⟩, vp, vw, al, be, h2, owns_mono h3 hB, owns_mono h4 hB, h5⟩
/-- Another reference keeps, where one is laid anew. -/
theorem Rp.other {w w' : World} {B r t : Nat} {cur was : Pgs} {rt wr : Int} {ch : Bool} (h : Rp Z w B t cur was rt wr ch) (hF : Fr [r] w w') (hr : ∃ c, w.heap[r]? = some (.cells c 95 (0, 0))) (hne : t ≠ r) : Rp Z w' B t cur was rt wr ch := by
  obtain ⟨c0, hr⟩ := hr
  have hx : ∀ (u : TypeId), u ≠ 95 → ∀ g c, w.heap[g]? = some (.cells c u (0, 0)) → g ∉ [r] := fun u hu g c hg hm => by
    obtain rfl : g = r := by simpa using hm
    rw [hr] at hg
    injection hg with hg
    injection hg with _ e
    exact hu e.symm
  obtain ⟨hB, vp, vw, al, be, ht, hp, hw, hs, hs2, hz⟩ := h
  exact ⟨hB, vp, vw, al, be, hF.at ht (by simp; exact hne), owns_fr hp hF (hx _ (by decide)), owns_fr hw hF (hx _ (by decide)), hs.fr hF (hx _ (by decide)), hs2.fr hF (hx _ (by decide)), hz⟩
end Go.Proofs.YtcmgclkbhhdnaaaGreatDoor
