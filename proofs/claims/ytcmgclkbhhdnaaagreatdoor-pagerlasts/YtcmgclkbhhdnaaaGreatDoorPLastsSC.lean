/- the text PLastsS -/
import Derived.Test.YtcmgclkbhhdnaaaGreatDoorPLastsMC
namespace Go.Proofs.YtcmgclkbhhdnaaaGreatDoor
open Go Go.RowKit

abbrev Nz : Nat → Prop := fun _ => False
theorem Rp.noZ {Z : Nat → Prop} {w : World} {B r : Nat} {cur was : Pgs} {rt wr : Int} {ch : Bool} (h : Rp Z w B r cur was rt wr ch) : Rp Nz w B r cur was rt wr ch := h.reZ (fun _ h => h.elim)
/-- Ahead of a life. -/
def Lt (W : World) (B n L i d p r : Nat) (w : World) : Prop := ∃ j s sq bl C R, Bo Nz B w p j d r s sq bl C C R R C R ∧ s.n = n ∧ s.ops ≤ 700 ∧ sq ≤ 1 + 100 * i ∧ C.length = L ∧ Below B W w
theorem Lt.begun {W w1 w2 : World} {B n : Nat} {e : Ending} (h : Bgn w1 n e w2) (hn : 32 ≤ n ∧ n ≤ 331) (hB1 : Below B W w1) (hB : B ≤ w1.heap.size) (ht : 0 < B) : ∃ d j p r, e = .returned (.tuple #[.pointer (some ⟨d, 0, none⟩), .pointer (some ⟨j, 0, none⟩), .pointer (some ⟨p, 0, none⟩), .pointer (some ⟨r, 0, none⟩)]) ∧ Lt W B n (pgOf n) 0 d p r w2 := by
  obtain ⟨d, j, p, r, s, bl, he, hP, hsn, hcut, hso, hR, hB2⟩ := h
  have hnb := pgOf_le hn.1 hn.2
  exact ⟨d, j, p, r, he, j, s, 1, bl, _, -1, ⟨hP.mono hB ht, false, hR.base hB⟩, hsn, by omega, by omega, List.length_replicate .., hB1.trans (hB2.mono hB)⟩
/-- Within a life: Y is what must not be touched (the clone's); w0 the world in which it was made. -/
def Lk (W w0 : World) (Y : Nat → Prop) (B n L i k d p r : Nat) (w : World) : Prop := ∃ j s sq bl cur was rt ww, Bo Y B w p j d r s sq bl cur was rt ww was ww ∧ s.n = n ∧ s.ops ≤ 1400 + 400 * (k : Int) ∧ sq ≤ 1 + 100 * i + k ∧ cur.length = L ∧ Below B W w ∧ Kr Y w0 w ∧ ∀ g, Y g → g < w.heap.size
/-- The clone: whoever keeps what it has keeps it. -/
def Th (w0 : World) (Y : Nat → Prop) (B L t r : Nat) : Prop := t ≠ r ∧ ∃ C R ch, C.length = L ∧ ∀ w', Kr Y w0 w' → Rp Nz w' B t C C R R ch
/-- How many operations there were; the power will go; the reference is cloned. -/
theorem Lt.ops {W : World} {B n L i d p r : Nat} {w : World} (h : Lt W B n L i d p r w) : ∃ o : Int, 0 ≤ o ∧ o ≤ 700 ∧ Calls Tryz.prog 18 #[.pointer (some ⟨d, 0, none⟩)] w fun e w' => e = .returned (.int .i64 o) ∧ w' = w := by
  obtain ⟨j, s, sq, bl, C, R, hBo, hsn, hso, hsq, hcl, hBw⟩ := h
  exact ⟨s.ops, hBo.1.ops.2, hso, hBo.1.ops.1⟩
theorem Lt.below {W : World} {B n L i d p r : Nat} {w w' : World} (h : Lt W B n L i d p r w) (hB : Below w.heap.size w w') : Lt W B n L i d p r w' := by
  obtain ⟨j, s, sq, bl, C, R, hBo, hsn, hso, hsq, hcl, hBw⟩ := h
  exact ⟨j, s, sq, bl, C, R, hBo.below hB, hsn, hso, hsq, hcl, hBw.trans (hB.mono hBo.1.Bw)⟩
theorem Lt.belowW {W : World} {B n L i d p r : Nat} {w : World} (h : Lt W B n L i d p r w) : Below B W w := by
  obtain ⟨j, s, sq, bl, C, R, hBo, hsn, hso, hsq, hcl, hBw⟩ := h
  exact hBw
theorem Lt.cut {W : World} {B n L i d p r : Nat} {w : World} (h : Lt W B n L i d p r w) (hL : 1 ≤ L) (x : Int) : Calls Tryz.prog 17 #[.pointer (some ⟨d, 0, none⟩), .int .i64 x] w fun e w1 => e = .returned (.tuple #[]) ∧ Below B w w1 ∧
    Calls Tryz.prog 19 #[.pointer (some ⟨r, 0, none⟩)] w1 fun e w2 => ∃ t Y, e = .returned (.pointer (some ⟨t, 0, none⟩)) ∧ Th w2 Y B L t r ∧ Lk W w2 Y B n L i 0 d p r w2 := by
  obtain ⟨j, s, sq, bl, C, R, ⟨hP, ch, hR⟩, hsn, hso, hsq, hcl, hBw⟩ := h
  have hle := hP.le
  refine (hP.cutAt x).mono ?_
  rintro e w1 ⟨rfl, hP1, hB1, hK1⟩
  have hR1 := hR.kq hK1
  refine ⟨rfl, hB1, (rclone_all hR1 (by omega) (by omega) (by omega) (by omega)).mono ?_⟩
  rintro e w2 ⟨t, ht, rfl, hT2, hB2⟩
  have hBB : B ≤ w1.heap.size := hP1.Bw
  obtain ⟨Y, hY, hkeep⟩ := (hT2.base hBB).own
  obtain ⟨Y2, hY2, hkeep2⟩ := hT2.own
  have hrl : r < w1.heap.size := by obtain ⟨_, c, hc⟩ := hR1.at; exact heap_lt hc
  refine ⟨t, Y2, rfl, ⟨by omega, C, R, ch, hcl, fun w' hk => (hkeep2 w' hk).base hBB⟩, j, _, sq, bl, C, C, R, R, ⟨hP1.below hB2, ch, ((hR1.reZ (fun g hg => (hY2 g hg).1)).below hB2)⟩, hsn, ?_, by omega, hcl, (hBw.trans hB1).trans (hB2.mono hBB), Kr.refl _, fun g hg => (hY2 g hg).2⟩
  show s.ops ≤ _
  omega
/-- A call of a script that is no Commit. -/
theorem Lk.does {W w0 : World} {Y : Nat → Prop} {B n L i k d p r : Nat} {w w1 : World} (h : Lk W w0 Y B n L i k d p r w) (hB : Below w.heap.size w w1) (hL : 1 ≤ L) (kd : Nat) (hk : kd < 10) (h7 : kd ≠ 7) (h8 : kd ≠ 8) (pg : Int) (v : UInt8) :
    Calls Tryz.prog 15 #[.pointer (some ⟨p, 0, none⟩), .pointer (some ⟨r, 0, none⟩), .agg #[.int .i64 kd, .int .i64 pg, cb v]] w1 fun e w' => e = .returned (.bool true) ∧ Lk W w0 Y B n L i (k + 1) d p r w' := by
  obtain ⟨j, s, sq, bl, cur, was, rt, ww, hBo, hsn, hso, hsq, hcl, hBw, hK, hY⟩ := h
  have hpk : pk (kd : Int) 10 = kd := pk_id hk
  refine (does_any (hBo.below hB) kd pg v (by omega) (by omega) (by omega) (fun h => by rw [hpk] at h; omega) (fun _ => ⟨rfl, rfl⟩) (fun g hg => Nat.lt_of_lt_of_le (hY g hg) hB.size)).mono ?_
  rintro e w' ⟨rfl, s', sq', bl', cur', was', rt', ww', wa', wo', hF, h1, h2, h3, h4, h5, h6, h9, h10⟩
  rw [hpk] at h9
  obtain ⟨rfl, rfl, rfl, rfl, rfl, _, _⟩ := h9 h7 h8
  obtain ⟨rfl, rfl⟩ := h10 rfl rfl
  have hK2 := (Kr.of_below hB).trans hF.2.2
  exact ⟨rfl, j, _, _, _, cur', _, rt', _, hF.1, hsn, by omega, by omega, h1.trans hcl, (hBw.trans (hB.mono hBo.1.Bw)).trans hF.2.1, hK.trans hK2, fun g hg => Nat.lt_of_lt_of_le (hY g hg) hK2.size⟩
/-- Behind the calls of a life: what the disk has behind any crash is what the one reference has committed, or the other. -/
def Le (W : World) (B n L i d r t : Nat) (w : World) : Prop := ∃ was wr tw tr, Endd B w d n (1 + 100 * (i + 1)) was wr tw tr ∧ (∃ c r' ch, c.length = L ∧ Rp Nz w B r c was r' wr ch) ∧ (∃ c r' ch, c.length = L ∧ Rp Nz w B t c tw r' tr ch) ∧ was.length = L ∧ tw.length = L ∧ t ≠ r ∧ B ≤ w.heap.size ∧ 0 < B ∧ L ≤ 1023 ∧ Below B W w
theorem Lk.leave {W w0 : World} {Y : Nat → Prop} {B n L i k d p r t : Nat} {w : World} (h : Lk W w0 Y B n L i k d p r w) (ht : Th w0 Y B L t r) (hk : k ≤ 60) : Le W B n L i d r t w := by
  obtain ⟨j, s, sq, bl, cur, was, rt, ww, ⟨hP, ch, hR⟩, hsn, hso, hsq, hcl, hBw, hK, hY⟩ := h
  obtain ⟨hne, C, R, ch2, hC, hT⟩ := ht
  have hE := hP.endd C R
  rw [hsn] at hE
  have hle := hP.le
  refine ⟨was, ww, C, R, ?_, ⟨cur, rt, ch, hcl, hR.noZ⟩, ⟨C, R, ch2, hC, hT w hK⟩, hP.len.trans hcl, hC, hne, hP.Bw, hP.tb, by omega, hBw⟩
  obtain ⟨X, s2, h1, h2, h3, h4, h5⟩ := hE
  refine ⟨X, s2, h1, h2, h3, h4, fun zs => ?_⟩
  obtain ⟨q, c, b, h6, h7⟩ := h5 zs
  exact ⟨q, c, b, by omega, h7⟩
/-- A Commit: it is done, or the power went. -/
theorem Lk.commit {W w0 : World} {Y : Nat → Prop} {B n L i k d p r : Nat} {w w1 : World} (h : Lk W w0 Y B n L i k d p r w) (hB : Below w.heap.size w w1) (hL : 1 ≤ L) (hn : nbOf n ≤ 170) (hk : k < 60) (hi : i ≤ 5) : Calls Tryz.prog 20 #[.pointer (some ⟨p, 0, none⟩)] w1 fun e w2 =>
    (e = .returned (.int .i64 0) ∧ Calls Tryz.prog 21 #[.pointer (some ⟨r, 0, none⟩)] w2 fun e w3 => e = .returned (.tuple #[]) ∧ Lk W w0 Y B n L i (k + 1) d p r w3) ∨
    (e = .returned (.int .i64 43) ∧ Calls Tryz.prog 19 #[.pointer (some ⟨r, 0, none⟩)] w2 fun e w3 => ∃ t, e = .returned (.pointer (some ⟨t, 0, none⟩)) ∧
      Calls Tryz.prog 21 #[.pointer (some ⟨t, 0, none⟩)] w3 fun e w4 => e = .returned (.tuple #[]) ∧ Calls Tryz.prog 22 #[.pointer (some ⟨p, 0, none⟩)] w4 (fun e w' => e = .returned (.tuple #[.int .i64 0, .int .i64 43]) ∧ w' = w4) ∧ Calls Tryz.prog 23 #[.pointer (some ⟨p, 0, none⟩), .int .i64 0] w4 (fun e w' => e = .returned (.tuple #[.slice none 0 0, .int .i64 43]) ∧ w' = w4) ∧ Le W B n L i d r t w4) := by
  obtain ⟨j, s, sq, bl, cur, was, rt, ww, hBo, hsn, hso, hsq, hcl, hBw, hK, hY⟩ := h
  have hBw1 : Below B W w1 := hBw.trans (hB.mono hBo.1.Bw)
  obtain ⟨hP, ch, hR⟩ := hBo.below hB
  have hle := hP.le
  have hwl := hP.len
  have htb := hP.tb
  refine (hP.commitC (by omega) (by rw [hsn]; omega)).mono ?_
  rintro e w2 ⟨hB2, hK2, hor⟩
  have hR2 := hR.kq hK2
  have hY2 : ∀ g, Y g → g < w2.heap.size := fun g hg => Nat.lt_of_lt_of_le (Nat.lt_of_lt_of_le (hY g hg) hB.size) hK2.size
  rcases hor with ⟨rfl, s', sq', bl', hP2, h1, h2, h3⟩ | ⟨rfl, hE, l, kl, kr, bg, lf, rt', um, bm, hPg⟩
  · refine .inl ⟨rfl, (rcommit_any hR2 (by omega) (by omega) hY2).mono ?_⟩
    rintro e w3 ⟨rfl, hR3, hF⟩
    obtain ⟨hP3, hB3⟩ := hP2.fr hF hR2.fx
    have hK3 : Kr Y w w3 := ((Kr.of_below hB).trans (Kr.of_kq hK2)).trans (Kr.of_fy hF (fun x hx => by
      obtain rfl : x = r := by simpa using hx
      obtain ⟨_, c, hc⟩ := hR2.at
      exact ⟨hR2.nz, c, _, _, hc, .inl rfl⟩))
    exact ⟨rfl, j, s', sq', bl', cur, cur, rt, rt, ⟨hP3, _, hR3⟩, h1.trans hsn, by rw [hsn] at h2; omega, by omega, hcl, (hBw1.trans hB2).trans hB3, hK.trans hK3, fun g hg => Nat.lt_of_lt_of_le (hY g hg) hK3.size⟩
  · have hBs : B ≤ w2.heap.size := Nat.le_trans hP.Bw hB2.size
    refine .inr ⟨rfl, (rclone_all hR2 (by omega) (by omega) (by omega) (by omega)).mono ?_⟩
    rintro e w3 ⟨t, ht, rfl, hT3, hB3⟩
    have hrl : r < w2.heap.size := by obtain ⟨_, c, hc⟩ := hR2.at; exact heap_lt hc
    have hT3' := hT3.base hBs
    refine ⟨t, rfl, (rcommit_any hT3' (by omega) (by omega) (fun _ h => h.elim)).mono ?_⟩
    rintro e w4 ⟨rfl, hT4, hF⟩
    obtain ⟨_, ct, hct⟩ := hT3'.at
    have hB4 : Below B w3 w4 := hF.below (Nat.le_trans hBs hB3.size) (by simpa using hT3'.at.1)
    have hPg3 := hPg.below hB3 hPg.lt
    have hpt : p ≠ t := fun e => by
      have h5 := hPg3.2
      rw [e, hct] at h5
      injection h5 with h5
      injection h5 with _ e2
      exact absurd e2 (by decide)
    have hPg4 : Pg w4 p j l kl kr bg lf rt' um bm 43 := ⟨hPg3.1, hF.at hPg3.2 (by simp; exact hpt)⟩
    have hE4 : Endd B w4 d n (1 + 100 * (i + 1)) was ww cur rt := by
      rw [hsn] at hE
      have h5 := (hE.below hB3).fr hF hct (by decide) (by decide) hB4 htb
      obtain ⟨X, s2, g1, g2, g3, g4, g5⟩ := h5
      refine ⟨X, s2, g1, g2, g3, g4, fun zs => ?_⟩
      obtain ⟨q, c, b, g6, g7⟩ := g5 zs
      exact ⟨q, c, b, by omega, g7⟩
    exact ⟨rfl, alloc_off hPg4, pread_off hPg4 0, was, ww, cur, rt, hE4, ⟨cur, rt, ch, hcl, ((hR2.below hB3).other hF ⟨ct, hct⟩ (by omega)).noZ⟩, ⟨cur, rt, _, hcl, hT4⟩, hwl.trans hcl, hcl, by omega, Nat.le_trans (Nat.le_trans hBs hB3.size) hF.size, htb, by omega, ((hBw1.trans hB2).trans (hB3.mono hBs)).trans hB4⟩
/-- Behind both Aborts. -/
def Lf (W : World) (B n L i d r t : Nat) (w : World) : Prop := ∃ was wr tw tr, Endd B w d n (1 + 100 * (i + 1)) was wr tw tr ∧ (∃ ch, Rp Nz w B r was was wr wr ch) ∧ (∃ ch, Rp Nz w B t tw tw tr tr ch) ∧ was.length = L ∧ tw.length = L ∧ B ≤ w.heap.size ∧ 0 < B ∧ Below B W w
theorem Le.abort {W : World} {B n L i d r t : Nat} {w : World} (h : Le W B n L i d r t w) (hL : 1 ≤ L) : Calls Tryz.prog 14 #[.pointer (some ⟨r, 0, none⟩)] w fun e w1 => e = .returned (.tuple #[]) ∧
    Calls Tryz.prog 14 #[.pointer (some ⟨t, 0, none⟩)] w1 fun e w2 => e = .returned (.tuple #[]) ∧ Lf W B n L i d r t w2 := by
  obtain ⟨was, wr, tw, tr, hE, ⟨c1, r1, ch1, hc1, hR⟩, ⟨c2, r2, ch2, hc2, hT⟩, hwl, htl, hne, hBw, htb, hL2, hW⟩ := h
  refine (rabort_any hR (by omega) (by omega) (fun _ h => h.elim)).mono ?_
  rintro e w1 ⟨rfl, hR1, hF1⟩
  obtain ⟨hBr, cr, hcr⟩ := hR.at
  have hB1 : Below B w w1 := hF1.below hBw (by simpa using hBr)
  have hT1 := hT.other hF1 ⟨cr, hcr⟩ hne
  refine ⟨rfl, (rabort_any hT1 (by omega) (by omega) (fun _ h => h.elim)).mono ?_⟩
  rintro e w2 ⟨rfl, hT2, hF2⟩
  obtain ⟨hBt, ct, hct⟩ := hT1.at
  have hBw1 := Nat.le_trans hBw hB1.size
  have hB2 : Below B w1 w2 := hF2.below hBw1 (by simpa using hBt)
  exact ⟨rfl, was, wr, tw, tr, (hE.fr hF1 hcr (by decide) (by decide) hB1 htb).fr hF2 hct (by decide) (by decide) hB2 htb, ⟨_, hR1.other hF2 ⟨ct, hct⟩ (fun e => hne e.symm)⟩, ⟨_, hT2⟩, hwl, htl, Nat.le_trans hBw1 hB2.size, htb, (hW.trans hB1).trans hB2⟩
/-- The crash, and what is opened behind it. -/
def Lg (W : World) (B n L i d p r t : Nat) (w : World) : Prop := ∃ was wr tw tr j s sq bl c r', Pv B w p j d s sq bl c c r' r' ∧ s.n = n ∧ s.ops ≤ 700 ∧ sq ≤ 1 + 100 * (i + 1) ∧ (c = was ∧ r' = wr ∨ c = tw ∧ r' = tr) ∧ (∃ ch, Rp Nz w B r was was wr wr ch) ∧ (∃ ch, Rp Nz w B t tw tw tr tr ch) ∧ was.length = L ∧ tw.length = L ∧ Below B W w
theorem Lf.again {W : World} {B n L i d r t : Nat} {w : World} (h : Lf W B n L i d r t w) (hn0 : 32 ≤ n) (hnb : nbOf n ≤ 170) {a : Option Addr} {len cp : Nat} {zs : List Int} (hI : Ints w.heap.size w a len zs) (hreach : len * 8 ≤ 140737488351232) :
    Calls Tryz.prog 24 #[.pointer (some ⟨d, 0, none⟩), .slice a len cp] w fun e w1 => ∃ d2, e = .returned (.pointer (some ⟨d2, 0, none⟩)) ∧
      Calls Tryz.prog 25 #[.pointer (some ⟨d2, 0, none⟩)] w1 fun e w2 => ∃ j2, e = .returned (.tuple #[.pointer (some ⟨j2, 0, none⟩), .int .i64 0]) ∧
        Calls Tryz.prog 13 #[.pointer (some ⟨j2, 0, none⟩)] w2 fun e w3 => ∃ p2, e = .returned (.tuple #[.pointer (some ⟨p2, 0, none⟩), .int .i64 0]) ∧ Lg W B n L i d2 p2 r t w3 := by
  obtain ⟨was, wr, tw, tr, hE, ⟨ch1, hR⟩, ⟨ch2, hT⟩, hwl, htl, hBw, htb, hW⟩ := h
  refine (hE.again hn0 hnb hBw htb (cp := cp) hI hreach).mono ?_
  rintro e w1 ⟨d2, rfl, h1⟩
  refine ⟨d2, rfl, h1.mono ?_⟩
  rintro e w2 ⟨j2, rfl, h2⟩
  refine ⟨j2, rfl, h2.mono ?_⟩
  rintro e w3 ⟨p2, rfl, ⟨s, sq, bl, c, r', hP, g1, g2, g3, g4⟩, hB3⟩
  exact ⟨p2, rfl, was, wr, tw, tr, j2, s, sq, bl, c, r', hP, g1, by omega, g3, g4, ⟨ch1, hR.below hB3⟩, ⟨ch2, hT.below hB3⟩, hwl, htl, hW.trans (hB3.mono hBw)⟩
theorem Lg.has {W : World} {B n L i d p r t : Nat} {w : World} (h : Lg W B n L i d p r t w) : Calls Tryz.prog 16 #[.pointer (some ⟨p, 0, none⟩), .pointer (some ⟨r, 0, none⟩)] w fun e w1 =>
    (e = .returned (.bool true) ∧ Lt W B n L (i + 1) d p r w1) ∨ (e = .returned (.bool false) ∧ Calls Tryz.prog 16 #[.pointer (some ⟨p, 0, none⟩), .pointer (some ⟨t, 0, none⟩)] w1 fun e w2 => e = .returned (.bool true) ∧ Lt W B n L (i + 1) d p t w2) := by
  obtain ⟨was, wr, tw, tr, j, s, sq, bl, c, r', hP, g1, g2, g3, g4, ⟨ch1, hR⟩, ⟨ch2, hT⟩, hwl, htl, hW⟩ := h
  have hcl : c.length = L := by rcases g4 with ⟨rfl, _⟩ | ⟨rfl, _⟩ <;> assumption
  refine (lhas_any hP hR (by omega)).mono ?_
  rintro e w1 ⟨rfl, hB1⟩
  have hW1 := hW.trans (hB1.mono hP.Bw)
  by_cases hs : c = was ∧ r' = wr
  · obtain ⟨rfl, rfl⟩ := hs
    refine .inl ⟨by rw [decide_eq_true ⟨rfl, rfl⟩], j, s, sq, bl, c, r', ⟨hP.below hB1, ch1, hR.below hB1⟩, g1, g2, g3, hcl, hW1⟩
  · obtain ⟨rfl, rfl⟩ := g4.resolve_left hs
    refine .inr ⟨by rw [decide_eq_false hs], ?_⟩
    have hh := lhas_any (hP.below hB1) (hT.below hB1) rfl
    rw [decide_eq_true ⟨rfl, rfl⟩] at hh
    refine hh.mono ?_
    rintro e w2 ⟨rfl, hB2⟩
    exact ⟨rfl, j, s, sq, bl, c, r', ⟨(hP.below hB1).below hB2, ch2, (hT.below hB1).below hB2⟩, g1, g2, g3, hcl, hW1.trans (hB2.mono (hP.below hB1).Bw)⟩
end Go.Proofs.YtcmgclkbhhdnaaaGreatDoor
