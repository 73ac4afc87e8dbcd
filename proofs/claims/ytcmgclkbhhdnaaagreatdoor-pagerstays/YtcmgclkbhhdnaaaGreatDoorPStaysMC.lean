/- the text PStaysM -/
import Derived.Test.YtcmgclkbhhdnaaaGreatDoorPScrC
namespace Go.Proofs.YtcmgclkbhhdnaaaGreatDoor
open Go Go.RowKit

theorem infoS : (Tryz.prog.info? 9).map (fun i => (i.zero, i.size, i.bytes)) = some (some (.string ByteArray.empty), 1, 16) := by kernel_rfl
theorem infoE : (Tryz.prog.info? 33).map (fun i => (i.zero, i.size, i.bytes)) = some (some (.int .i64 0), 1, 8) := by kernel_rfl
theorem bsS (w : World) (l : List UInt8) : (Instr.buildSlice 62 1 #[(0, strV l)]).run Tryz.prog w = .ok (.slice (some ⟨w.heap.size, 0, none⟩) 1 1) (w.alloc (.cells #[strV l] 9)) := by unfold strV; go_simp
theorem bsE (w : World) (e : Int) : (Instr.buildSlice 63 1 #[(0, .int .i64 e)]).run Tryz.prog w = .ok (.slice (some ⟨w.heap.size, 0, none⟩) 1 1) (w.alloc (.cells #[.int .i64 e] 33)) := by go_simp
theorem idxS (b n cap k : Nat) (h : k < n) (w : World) : (Instr.indexAt 62 (.slice (some ⟨b, 0, none⟩) n cap) (.int .i64 k)).run Tryz.prog w = .ok (.pointer (some ⟨b, k, none⟩)) w := by go_simp
theorem idxE (b n cap k : Nat) (h : k < n) (w : World) : (Instr.indexAt 63 (.slice (some ⟨b, 0, none⟩) n cap) (.int .i64 k)).run Tryz.prog w = .ok (.pointer (some ⟨b, k, none⟩)) w := by go_simp
/-- The first k pages' bytes, as texts; what Read answered. -/
def Tx (w : World) (B : Nat) (v : Value) (k : Nat) (C : Pgs) : Prop := w.ownsRow B 9 1 v k ((List.range k).map fun q => strV (pgB C (q : Nat)))
def Ex (w : World) (B : Nat) (v : Value) (k : Nat) (C : Pgs) : Prop := w.ownsRow B 33 1 v k ((List.range k).map fun q => .int .i64 (pgE C (q : Nat)))
theorem more_row {t ts : TypeId} {z : Value} {by_ : Nat} (hu : Tryz.prog.underlying ts = some (.slice t)) (hi : (Tryz.prog.info? t).map (fun i => (i.zero, i.size, i.bytes)) = some (some z, 1, by_)) (hzc : z.cells.size = 1) (hby : by_ ≤ 24) {w : World} {B : Nat} {v : Value} {k : Nat} {f : Nat → Value} (h : w.ownsRow B t 1 v k ((List.range k).map f)) (hx : (f k).oneCell' = true) (hk : k ≤ 100000) (hB : B ≤ w.heap.size) (ty : TypeId) :
    ∃ v' w', (Builtin.append_ #[ts, ts] ty #[v, .slice (some ⟨w.heap.size, 0, none⟩) 1 1]).run Tryz.prog (w.alloc (.cells #[f k] t)) = .ok v' w' ∧ w'.ownsRow B t 1 v' (k + 1) ((List.range (k + 1)).map f) ∧ Below B w w' ∧ Oth t w w' := by
  have hl : ((List.range k).map f).length = k := by simp
  have h' : w.ownsRow B t 1 v ((List.range k).map f).length ((List.range k).map f) := by rw [hl]; exact h
  obtain ⟨v', w', h1, h2, h3, h4⟩ := more_one hu hi hzc hby h' (f k) hx (by rw [hl]; omega) hB ty
  refine ⟨v', w', h1, ?_, h3, h4⟩
  rw [List.range_succ, List.map_append]
  rw [List.length_append, hl] at h2
  exact h2
theorem Kr.owns {w w' : World} (h : Kr w w') {t : TypeId} {B n : Nat} {v : Value} {xs : List Value} (ho : w.ownsRow B t 1 v n xs) (h1 : t ≠ 102) (h2 : t ≠ 120) (h3 : t ≠ 140) (h4 : t ≠ 90) (h5 : t ≠ 95) (h6 : t ≠ 148) : w'.ownsRow B t 1 v n xs := by
  refine ⟨ho.1, ?_⟩
  rcases ho.2 with h7 | ⟨g, cap, cur, rfl, hb, hg, r2⟩
  · exact .inl h7
  · exact .inr ⟨g, cap, cur, rfl, hb, h.block g _ _ _ hg h1 h2 h3 h4 h5 h6, r2⟩
theorem Tx.kr {w w' : World} {B : Nat} {v : Value} {k : Nat} {C : Pgs} (h : Tx w B v k C) (hk : Kr w w') : Tx w' B v k C := hk.owns h (by decide) (by decide) (by decide) (by decide) (by decide) (by decide)
theorem Ex.kr {w w' : World} {B : Nat} {v : Value} {k : Nat} {C : Pgs} (h : Ex w B v k C) (hk : Kr w w') : Ex w' B v k C := hk.owns h (by decide) (by decide) (by decide) (by decide) (by decide) (by decide)
theorem Tx.at {w : World} {B : Nat} {v : Value} {k : Nat} {C : Pgs} (h : Tx w B v k C) (hk : 1 ≤ k) : ∃ g c, v = .slice (some ⟨g, 0, none⟩) k c ∧ ∀ q, q < k → w.cell? ⟨g, q, none⟩ = some (strV (pgB C (q : Nat))) := by
  obtain ⟨a, c, rfl⟩ := owns_shape h
  have hx : ∀ q, q < k → ((List.range k).map fun q => strV (pgB C (q : Nat)))[q]? = some (strV (pgB C (q : Nat))) := fun q hq => by simp [hq]
  obtain ⟨g, rfl, _⟩ := owns_at h (hx 0 (by omega))
  refine ⟨g, c, rfl, fun q hq => ?_⟩
  obtain ⟨g', e, hc, _⟩ := owns_at h (hx q hq)
  cases e
  exact hc
theorem Ex.at {w : World} {B : Nat} {v : Value} {k : Nat} {C : Pgs} (h : Ex w B v k C) (hk : 1 ≤ k) : ∃ g c, v = .slice (some ⟨g, 0, none⟩) k c ∧ ∀ q, q < k → w.cell? ⟨g, q, none⟩ = some (.int .i64 (pgE C (q : Nat))) := by
  obtain ⟨a, c, rfl⟩ := owns_shape h
  have hx : ∀ q, q < k → ((List.range k).map fun q => Value.int .i64 (pgE C (q : Nat)))[q]? = some (.int .i64 (pgE C (q : Nat))) := fun q hq => by simp [hq]
  obtain ⟨g, rfl, _⟩ := owns_at h (hx 0 (by omega))
  refine ⟨g, c, rfl, fun q hq => ?_⟩
  obtain ⟨g', e, hc, _⟩ := owns_at h (hx q hq)
  cases e
  exact hc
/-- Behind the Commit: what lies committed is C, and R0 its root. -/
def Sc (W : World) (B L : Nat) (C : Pgs) (R0 : Int) (p j d r : Nat) (w : World) : Prop := ∃ s sq bl wa wo, Bo B w p j d r s sq bl C C R0 R0 wa wo ∧ C.length = L ∧ Below B W w
theorem Pl.commit {W : World} {B n L i p j d r : Nat} {w : World} (h : Pl W B n L i p j d r w) (hn : nbOf n ≤ 170) (hi : i ≤ 1000) : Calls Tryz.prog 20 #[.pointer (some ⟨p, 0, none⟩)] w fun e w' => e = .returned (.int .i64 0) ∧ ∃ C R0, Sc W B L C R0 p j d r w' := by
  obtain ⟨s, sq, bl, cur, was, rt, ww, hBo, hsn, hcut, hops, hsq, hcl, hBw⟩ := h
  obtain ⟨hP, ch, hR⟩ := hBo
  refine (hP.commit hcut (by omega) (by rw [hsn]; omega)).mono ?_
  rintro e w1 ⟨rfl, s', sq', bl', hA, _⟩
  exact ⟨rfl, cur, rt, s', sq', bl', was, ww, ⟨hA.1, ch, hR.kq hA.2.2⟩, hcl, hBw.trans hA.2.1⟩
/-- While calls are made that no Commit is among. -/
def Sr (W : World) (B L : Nat) (C : Pgs) (R0 : Int) (p j d r : Nat) (vt ve : Value) (w : World) : Prop := (∃ s sq bl cur rt wa wo, Bo B w p j d r s sq bl cur C rt R0 wa wo ∧ cur.length = L) ∧ Tx w B vt L C ∧ Ex w B ve L C ∧ Below B W w
theorem Sr.does {W : World} {B L : Nat} {C : Pgs} {R0 : Int} {p j d r : Nat} {vt ve : Value} {w w1 : World} (h : Sr W B L C R0 p j d r vt ve w) (hB : Below w.heap.size w w1) (hL : 1 ≤ L) (k : Nat) (hk : k < 7) (pg : Int) (v : UInt8) :
    Calls Tryz.prog 15 #[.pointer (some ⟨p, 0, none⟩), .pointer (some ⟨r, 0, none⟩), .agg #[.int .i64 k, .int .i64 pg, cb v]] w1 fun e w' => e = .returned (.bool true) ∧ Sr W B L C R0 p j d r vt ve w' := by
  obtain ⟨⟨s, sq, bl, cur, rt, wa, wo, hBo, hcl⟩, hT, hE, hBw⟩ := h
  have hpk : pk (k : Int) 10 = k := pk_id (by omega)
  refine (does_any (hBo.below hB) k pg v (by omega) (by omega) (by omega) (fun h => by rw [hpk] at h; omega) (fun h => by rw [hpk] at h; omega)).mono ?_
  rintro e w' ⟨rfl, s', sq', bl', cur', was', rt', ww', wa', wo', hF, h1, h2, h3, h4, h5, h6, h7, _⟩
  rw [hpk] at h7
  obtain ⟨rfl, rfl, rfl, rfl, rfl, rfl, rfl⟩ := h7 (by omega) (by omega)
  have hK := (Kr.of_below hB).trans hF.2.2
  exact ⟨rfl, ⟨_, _, _, cur', rt', _, _, hF.1, h1.trans hcl⟩, hT.kr hK, hE.kr hK, (hBw.trans (hB.mono hBo.1.Bw)).trans hF.2.1⟩
/-- A pager keeps, where blocks are laid anew that are not its own, nor its journal's. -/
theorem Pv.frq {B : Nat} {w w' : World} {p j d : Nat} {s : DS} {sq : Nat} {bl : List (List UInt8)} {cur was : Pgs} {rt wr : Int} (h : Pv B w p j d s sq bl cur was rt wr) {g : Nat} {c : Array Value} {t : TypeId} {z : Nat × Nat} (hF : Fr [g] w w') (hB : B ≤ g) (hp : g ≠ p) (hg : w.heap[g]? = some (.cells c t z)) (h1 : t ≠ 102) (h2 : t ≠ 120) (h3 : t ≠ 140) : Pv B w' p j d s sq bl cur was rt wr := by
  obtain ⟨Y, cnt, bg, um, bm, u, gg, h⟩ := h
  have hBB : Below B w w' := hF.below h.Bw (by simpa using hB)
  obtain ⟨ku, hu⟩ := h.pm.mu
  obtain ⟨kb, hb⟩ := h.pm.mb
  refine ⟨Y, cnt, bg, um, bm, u, gg, { h with pm := ⟨⟨h.pm.pg.1, hF.at h.pm.pg.2 (by simp; exact fun e => hp e.symm)⟩, ⟨ku, hu.fr hF (fun b e hm => ?_)⟩, ⟨kb, hb.fr hF (fun b e hm => ?_)⟩, h.pm.ne, h.pm.gl, h.pm.kd, h.pm.kb⟩, js := h.js.fr hF (fun k hk hm => ?_) (h.js.jr.tab.belowB hBB h.tb), Bw := Nat.le_trans h.Bw hBB.size }⟩
  · obtain rfl : b = g := by simpa using hm
    exact hu.cells e hg
  · obtain rfl : b = g := by simpa using hm
    exact hb.cells e hg
  · obtain rfl : k = g := by simpa using hm
    exact h.js.not hg h1 h2 h3 hk
theorem Pv.at {B : Nat} {w : World} {p j d : Nat} {s : DS} {sq : Nat} {bl : List (List UInt8)} {cur was : Pgs} {rt wr : Int} (h : Pv B w p j d s sq bl cur was rt wr) : B ≤ p ∧ p < w.heap.size ∧ ∃ c, w.heap[p]? = some (.cells c 90 (0, 0)) := by
  obtain ⟨Y, cnt, bg, um, bm, u, gg, h⟩ := h
  exact ⟨h.lo, heap_lt h.pm.pg.2, _, h.pm.pg.2⟩
theorem Pv.abortF {B : Nat} {w : World} {p j d : Nat} {s : DS} {sq : Nat} {bl : List (List UInt8)} {cur was : Pgs} {rt wr : Int} (h : Pv B w p j d s sq bl cur was rt wr) : Calls Tryz.prog 28 #[.pointer (some ⟨p, 0, none⟩)] w fun e w' => (e = .returned (.tuple #[]) ∧ Aft B w w' p j d s sq bl was was wr wr) ∧ Fr [p] w w' := by
  obtain ⟨X, cnt, bg, um, bm, u, g, h⟩ := h
  refine (abort_any h.pm.pg).mono ?_
  rintro e w' ⟨rfl, hP, hF⟩
  have hBB : Below B w w' := hF.below h.Bw (by simpa using h.lo)
  have hnp : p ∉ j :: X := h.js.not h.pm.pg.2 (by decide) (by decide) (by decide)
  have hJ : Jc B w' j d X s sq cnt bl := h.js.fr hF (fun k hk hm => by
    obtain rfl : k = p := by simpa using hm
    exact hnp hk) (h.js.jr.tab.belowB hBB h.tb)
  refine ⟨⟨rfl, ⟨X, cnt, false, none, none, fun _ => none, fun _ => none, { pm := hP.bare, js := hJ, len := rfl, us := ovl_none _, gs := fun i c hi => (by cases hi), gn := fun i c _ hc => hc, wb := h.wb, hd := h.hd, rw' := h.rw', rc := h.rw', idle := fun _ => ⟨rfl, rfl⟩, nb := h.nb, lo := h.lo, mlo := fun m hm => (by rcases hm with hm | hm <;> cases hm), ap := fun m hm => (by rcases hm with hm | hm <;> cases hm), tb := h.tb, Bw := Nat.le_trans h.Bw hF.size }⟩, hBB, Kq.of_p h.pm.pg hF⟩, hF⟩
/-- Two pagers, at rest both. -/
def Sq (W : World) (B L : Nat) (C : Pgs) (R0 : Int) (p q : Nat) (vt ve : Value) (w : World) : Prop := (∃ j d s sq bl, Pv B w p j d s sq bl C C R0 R0) ∧ (∃ j d s sq bl, Pv B w q j d s sq bl C C R0 R0) ∧ Tx w B vt L C ∧ Ex w B ve L C ∧ C.length = L ∧ Below B W w
theorem Sq.below {W : World} {B L : Nat} {C : Pgs} {R0 : Int} {p q : Nat} {vt ve : Value} {w w' : World} (h : Sq W B L C R0 p q vt ve w) (hB : Below w.heap.size w w') : Sq W B L C R0 p q vt ve w' := by
  obtain ⟨⟨j, d, s, sq, bl, h1⟩, ⟨j2, d2, s2, sq2, bl2, h2⟩, h3, h4, h5, h6⟩ := h
  exact ⟨⟨j, d, s, sq, bl, h1.below hB⟩, ⟨j2, d2, s2, sq2, bl2, h2.below hB⟩, h3.kr (Kr.of_below hB), h4.kr (Kr.of_below hB), h5, h6.trans (hB.mono h1.Bw)⟩
theorem Sr.open {W : World} {B L : Nat} {C : Pgs} {R0 : Int} {p j d r : Nat} {vt ve : Value} {w : World} (h : Sr W B L C R0 p j d r vt ve w) : Calls Tryz.prog 13 #[.pointer (some ⟨j, 0, none⟩)] w fun e w1 => ∃ q, e = .returned (.tuple #[.pointer (some ⟨q, 0, none⟩), .int .i64 0]) ∧
    Calls Tryz.prog 28 #[.pointer (some ⟨p, 0, none⟩)] w1 fun e w2 => e = .returned (.tuple #[]) ∧ Sq W B L C R0 p q vt ve w2 := by
  obtain ⟨⟨s, sq, bl, cur, rt, wa, wo, hBo, hcl⟩, hT, hE, hBw⟩ := h
  refine hBo.1.open.mono ?_
  rintro e w1 ⟨q, hq, rfl, hQ, hB1⟩
  have hP1 := hBo.1.below hB1
  have hBB := hBo.1.Bw
  refine ⟨q, rfl, hP1.abortF.mono ?_⟩
  rintro e w2 ⟨⟨rfl, hA⟩, hF⟩
  obtain ⟨hpB, hpl, c, hc⟩ := hP1.at
  have hpl0 := hBo.1.at.2.1
  have hK : Kr w w2 := (Kr.of_below hB1).trans (Kr.of_kq hA.2.2)
  exact ⟨rfl, ⟨j, d, s, sq, bl, hA.1⟩, ⟨j, d, s, sq, bl, hQ.frq hF hpB (by omega) hc (by decide) (by decide) (by decide)⟩, hT.kr hK, hE.kr hK, hBo.1.len.trans hcl, (hBw.trans (hB1.mono hBB)).trans hA.2.1⟩
/-- While the pages are read. -/
def S2 (B L : Nat) (C : Pgs) (k : Nat) (vt ve : Value) (w2 wv : World) : Prop := Below B w2 wv ∧ Tx wv B vt k C ∧ Ex wv B ve k C ∧ k ≤ L
end Go.Proofs.YtcmgclkbhhdnaaaGreatDoor
