/- texts put together: NBeg NBeg2 NStep0 NStep NLaw -/
import Derived.Test.YthnojedlndblbaaGreatDoorNGi
namespace Go.Proofs.YthnojedlndblbaaGreatDoor
open Go Go.RowKit

set_option maxRecDepth 100000 in
seal rn rnN rnS Goes ans atEnd put0 put putM opened openedY putA0 putA oneSt st0 keep mkSt newSt in
theorem spots_any {n0 : Nat} {c : Co} {u : Value} {w : World} (hN : Nc n0 w u c) (hn : n0 ≤ w.heap.size) (hsz : szC c ≤ 2000) : Calls Tryz.prog 28 #[u] w fun e w' => ∃ b cap A, e = .returned (.slice (some ⟨b, 0, none⟩) A.length cap) ∧ SpW n0 w' (.slice (some ⟨b, 0, none⟩) A.length cap) A ∧ SpC n0 w' 0 c A ∧ Below w.heap.size w w' := by
  obtain ⟨op, k, t, a, N, cc, rfl⟩ := hN.cells
  refine Goes.begin Tryz.func28 [] (fun _ => True) Holds.nil (by simp [Mem.ids]) (fun _ _ => trivial) ?_
  refine Goes.run1 [0] [] trivial fun g => ?_
  refine Goes.call 55 #[.slice none 0 0, cv op k t (.slice a N cc)] fun w1 hm1 hn1 hI1 => ?_
  have hB1 : Below w.heap.size w w1 := bel0 hI1
  refine (lay_any c n0 n0 [] (.slice none 0 0) _ w1 (hN.later (hB1.mono hn)) (Nat.le_refl _) (Nat.le_trans hn hB1.size) ⟨w1.ownsRow_nil _ _ _, by simp, List.Pairwise.nil⟩ (by simpa using hsz)).mono fun e w2 ⟨b, cap, A, he, hI2, hA⟩ => ?_
  simp only [List.length_nil, Nat.zero_add, List.nil_append] at he hI2 hA
  have hB2 : Below w.heap.size w w2 := hB1.trans ((hI2.1.toB (by simp [Value.ownBlock])).mono hB1.size)
  refine ⟨_, fun w' => (SpW n0 w' (.slice (some ⟨b, 0, none⟩) A.length cap) A ∧ SpC n0 w' 0 c A) ∧ Below w.heap.size w w', [], he, Holds.nil, by simp [Mem.ids], fun w3 hc => ?_, ?_⟩
  · have hB3 : Below w2.heap.size w2 w3 := hc.toB (by simp [Mem.ids])
    exact ⟨⟨hI2.2.1.ch hc (by simp [Mem.ids]), hA.later (hB3.mono (Nat.le_trans hn hB2.size))⟩, hB2.trans (hB3.mono hB2.size)⟩
  · refine Goes.run [] [] trivial ?_
    exact Goes.ret [] (.slice (some ⟨b, 0, none⟩) A.length cap) fun w' hm hI => ⟨b, cap, A, rfl, hI.now.1.1, hI.now.1.2, hI.now.2⟩
theorem typ_full {c : Co} (h : (typP c).2 = true) : typF 1 c = ((typP c).1, true) := by
  have h1 := (typ_right h).1
  have h2 := rty_eq c
  unfold rtyP at h2
  cases hs : smaP c with
  | false => rw [hs] at h2; rw [← h2] at h; cases h
  | true =>
    rw [hs, cond_true, h1, cond_true] at h2
    rw [← h2, ← h1]
/-- What Value answers. -/
noncomputable def valR (fs : Fs) (day : Int) (c : Co) : Option Int × Int := bif (typP c).2 && !((typP c).1 == 4) && (dayP day && rfP fs) then (valP fs day c, 0) else (none, 150)
/-- What Begin answers. -/
noncomputable def begR (fs : Fs) (day : Int) (c : Co) : R2 × Int := bif chkP c == 0 && (dayP day && rfP fs) then (acq fs day c 0 1000000, 0) else (r0, 150)
/-- Lives and transfers are answered. -/
def LTQ (day : Int) (w : World) (r : R2 × Int) (e : Ending) (w' : World) : Prop := ∃ lv tv, e = .returned (.tuple #[lv, tv, .int .i64 r.2]) ∧ Lvs w.heap.size w' lv r.1.1 ∧ Trs w.heap.size day w' tv r.1.2 ∧ Below w.heap.size w w'
theorem chk_typ {c : Co} (h : (chkP c == 0) = true) : typF 1 c = (4, true) ∧ szC c ≤ 2000 ∧ ahC c = false := by
  have h := eq_of_beq h
  rw [chk_eq] at h
  cases hb : (typP c).2 with
  | false => rw [hb] at h; cases h
  | true =>
    cases h4 : ((typP c).1 != 4) with
    | true => rw [hb, h4] at h; cases h
    | false =>
      rw [hb, h4] at h
      have e4 : (typP c).1 = 4 := by simpa using h4
      refine ⟨by rw [typ_full hb, e4], (typ_right hb).2, ?_⟩
      cases ha : ahC c with
      | false => rfl
      | true => rw [ha] at h; cases h
end Go.Proofs.YthnojedlndblbaaGreatDoor
namespace Go.Proofs.YthnojedlndblbaaGreatDoor
open Go Go.RowKit

theorem nd_of {m m' : Mem} (h : m.ids.Nodup) (e : m.ids = m'.ids) : m'.ids.Nodup := e ▸ h
/-- A contract laid out. -/
def BgI (w : World) (sv : Value) (c : Co) (A : List (Sp × Value)) (w' : World) : Prop := Ch (Mem.ids []) w w' ∧ (SpW w.heap.size w' sv A ∧ SpC w.heap.size w' 0 c A)
theorem BgI.stay {w w' : World} {sv : Value} {c : Co} {A : List (Sp × Value)} {L : List Nat} (h : BgI w sv c A w') (hL : ∀ g ∈ L, w.heap.size ≤ g ∧ ∃ c e z, w'.heap[g]? = some (.cells c e z) ∧ e ≠ 99 ∧ e ≠ 3) : Stay L w' (BgI w sv c A) :=
  fun _ hc => ⟨h.1.trans hc fun x hx => .inr (hL x hx).1, h.2.1.ch hc fun g hg => (hL g hg).2, h.2.2.later (ch_below hc (fun x hx => (hL x hx).1) h.1.size)⟩
theorem bg_cx {w w' : World} {sv fv : Value} {c : Co} {A : List (Sp × Value)} {fs : Fs} (h : BgI w sv c A w') (hT : Tab w) (hF : Fds w.heap.size w fv fs) (htl : 1 < w.heap.size) : Cx w.heap.size w.heap.size fs fv sv c A w' := by
  have hB : Below w.heap.size w w' := h.1.toB (by simp [Mem.ids])
  exact ⟨hT.below hB, hF.later hB, h.2.1, h.2.2, hB.size, htl⟩
/-- Rows that are answered. -/
def RtI (w : World) (day : Int) (lv tv : Value) (ls : List (Int × Int)) (ts : List (List UInt8 × Int)) (w' : World) : Prop := Below w.heap.size w w' ∧ (Lvs w.heap.size w' lv ls ∧ Trs w.heap.size day w' tv ts)
theorem RtI.stay {w w' : World} {day : Int} {lv tv : Value} {ls : List (Int × Int)} {ts : List (List UInt8 × Int)} {L : List Nat} (h : RtI w day lv tv ls ts w') (hL : ∀ g ∈ L, w.heap.size ≤ g ∧ ∃ c e z, w'.heap[g]? = some (.cells c e z) ∧ e ≠ 70 ∧ e ≠ 50) : Stay L w' (RtI w day lv tv ls ts) := by
  intro w2 hc
  refine ⟨⟨hc.os.trans h.1.os, hc.tape.trans h.1.tape, hc.output.trans h.1.output, Nat.le_trans h.1.size hc.size, fun i hi => (hc.block i (Nat.lt_of_lt_of_le hi h.1.size) (fun hm => by have := (hL i hm).1; omega)).trans (h.1.block i hi)⟩, own_ch h.2.1 hc fun b hb hm => ?_, own_ch h.2.2 hc fun b hb hm => ?_⟩
  · obtain ⟨-, c, e, z, hx, h1, -⟩ := hL b hm
    exact own_not h.2.1 hx (fun e => h1 e.symm) hb
  · obtain ⟨-, c, e, z, hx, -, h2⟩ := hL b hm
    exact own_not h.2.2 hx (fun e => h2 e.symm) hb
theorem aq_rows {w w1 w2 : World} {g : Nat} {day : Int} {lv tv : Value} {ls : List (Int × Int)} {ts : List (List UInt8 × Int)} (hB : Below w.heap.size w w1) (hg : w.heap.size ≤ g) (h : AcI w.heap.size g day w1 (.slice none 0 0) (.slice none 0 0) lv tv ls ts w2) : RtI w day lv tv ls ts w2 := by
  refine ⟨hB.trans (ch_below h.1 (fun x hx => ?_) hB.size), h.2.1, h.2.2.1⟩
  simp [Oo, Value.ownBlock] at hx
  omega
set_option maxRecDepth 100000 in
seal rn rnN rnS Goes ans atEnd put0 put putM opened openedY putA0 putA oneSt st0 keep mkSt newSt in
theorem begin_any {fs : Fs} {fv u : Value} {c : Co} {w : World} (day : Int) (hT : Tab w) (htl : 1 < w.heap.size) (hN : Nc w.heap.size w u c) (hF : Fds w.heap.size w fv fs) (hl : ∀ f ∈ fs, f.1.length ≤ 9223372036854775807) : Calls Tryz.prog 12 #[u, .int .i64 day, fv] w (LTQ day w (begR fs day c)) := by
  obtain ⟨op, k, t, a, N, cc, rfl⟩ := hN.cells
  obtain ⟨aF, NF, cF, rfl⟩ : ∃ aF NF cF, fv = .slice aF NF cF := by obtain ⟨x, y, e, -⟩ := hF; exact ⟨x, _, y, e⟩
  obtain ⟨E, hE⟩ : ∃ E, chkP c = E := ⟨_, rfl⟩
  have hV : begR fs day c = bif E == 0 && (dayP day && rfP fs) then (acq fs day c 0 1000000, 0) else (r0, 150) := by unfold begR; rw [hE]
  have bad : ∀ w', Below w.heap.size w w' → (E == 0 && (dayP day && rfP fs)) = false → LTQ day w (begR fs day c) (.returned (.tuple #[.slice none 0 0, .slice none 0 0, .int .i64 150])) w' := fun w' hB h => ⟨.slice none 0 0, .slice none 0 0, by rw [hV, h]; rfl, by rw [hV, h]; exact Lvs.nil, by rw [hV, h]; exact Trs.nil, hB⟩
  refine Goes.begin Tryz.func12 [] (fun _ => True) Holds.nil (by simp [Mem.ids]) (fun _ _ => trivial) ?_
  refine Goes.run2 [1, 0] [] trivial fun g3 g9 => ?_
  refine Goes.call0 27 #[cv op k t (.slice a N cc)] (.int .i64 E) (fun w' _ hI => by have := check_any (hN.at (bel0 hI)); rwa [hE] at this) ?_
  cases h0 : (E == 0) with
  | false =>
    refine Goes.run [1, 1] [(true, true), (E != 0, true)] ⟨rfl, by rw [bne, h0]; rfl, trivial⟩ ?_
    exact Goes.ret [] (.tuple #[.slice none 0 0, .slice none 0 0, .int .i64 150]) fun w' hm hI => bad w' (bel0 hI) (by rw [h0]; rfl)
  | true =>
    refine Goes.run [0, 1] [(E != 0, false)] ⟨by rw [bne, h0]; rfl, trivial⟩ ?_
    refine Goes.call0 22 #[dwV day (.slice aF NF cF)] (.bool (dayP day && rfP fs)) (fun w' _ hI => pright_any day (hF.at (bel0 hI)) hl) ?_
    cases hR : (dayP day && rfP fs) with
    | false =>
      refine Goes.run [1] [(true, true)] ⟨rfl, trivial⟩ ?_
      exact Goes.ret [] (.tuple #[.slice none 0 0, .slice none 0 0, .int .i64 150]) fun w' hm hI => bad w' (bel0 hI) (by rw [h0, hR]; rfl)
    | true =>
      have hV2 : begR fs day c = (acq fs day c 0 1000000, 0) := by rw [hV, h0, hR]; rfl
      simp only [Bool.and_eq_true] at hR
      obtain ⟨htyp, hszc, -⟩ := chk_typ (c := c) (by rw [hE]; exact h0)
      rw [hV2]
      refine Goes.run [0] [(false, false)] ⟨rfl, trivial⟩ ?_
      refine Goes.open [0, 1] ?_
      refine Goes.run [0, 1, 1, 0] [] trivial ?_
      refine Goes.two 2 4 (TookS.callM 2 28 #[cv op k t (.slice a N cc)] fun w1 hm1 hn1 hI1 h01 => ?_) (TookS.new1 4 w.heap.size [0, 1] (fun w' h => h.1.size) fun g10 f2x => ?_)
      · -- the spots first
        have hB1a : Below w.heap.size w w1 := bel0 hI1
        have x0 : w1.heap[g3]? = some (cO op k t (.slice a N cc)) := hm1.get 0
        have f0 : w.heap.size ≤ g3 := fresh_of hI1 (g := g3) (ids_get (j := 0) (o := cO op k t (.slice a N cc)) (by kernel_rfl)) (by simp [Mem.ids])
        have x1 : w1.heap[g9]? = some (dwO day (.slice aF NF cF)) := hm1.get 1
        have f1 : w.heap.size ≤ g9 := fresh_of hI1 (g := g9) (ids_get (j := 1) (o := dwO day (.slice aF NF cF)) (by kernel_rfl)) (by simp [Mem.ids])
        refine (spots_any (n0 := w.heap.size) (hN.later hB1a) hB1a.size hszc).mono fun e w2 ⟨b, cap, A, he, hS2, hA2, hB2⟩ => ?_
        obtain ⟨NS, hNS⟩ : ∃ NS, A.length = NS := ⟨_, rfl⟩
        rw [hNS] at he hS2
        have z0 : w2.heap[g3]? = some (cO op k t (.slice a N cc)) := (hB2.block g3 (lt_of_get x0)).trans x0
        have z1 : w2.heap[g9]? = some (dwO day (.slice aF NF cF)) := (hB2.block g9 (lt_of_get x1)).trans x1
        have hI2 : BgI w (.slice (some ⟨b, 0, none⟩) NS cap) c A w2 := ⟨hI1.now.1.trans ⟨hB2.os, hB2.tape, hB2.output, hB2.size, fun i hi _ => hB2.block i hi⟩ (L' := Mem.ids []) (by simp [Mem.ids]), hS2, hA2⟩
        refine ⟨_, BgI w (.slice (some ⟨b, 0, none⟩) NS cap) c A, [(g3, cO op k t (.slice a N cc)), (g9, dwO day (.slice aF NF cF))], he, h01.bel hB2, holds_in (by simp only [List.forall_mem_cons, List.not_mem_nil, false_implies, implies_true, and_true]; exact ⟨z0, z1⟩), nd_of hn1 (by kernel_rfl), hI2.stay (by simp only [Mem.ids, List.map_cons, List.map_nil, List.forall_mem_cons, List.not_mem_nil, false_implies, implies_true, and_true]; exact ⟨⟨f0, _, _, _, z0, by decide, by decide⟩, ⟨f1, _, _, _, z1, by decide, by decide⟩⟩), ?_⟩
        refine Goes.run [3] [] trivial ?_
        refine Goes.lone1 4 (TookS.new1 4 w.heap.size [0, 1] (fun w' h => h.1.size) fun g10 f2 => ?_)
        refine Goes.oneA 5 2 [0, 1] ?_
        refine Goes.run [] [] trivial ?_
        refine Goes.call 29 #[.pointer (some ⟨g10, 0, none⟩), .int .i64 ((0 : Nat) : Int), .int .i64 1000000] fun w3 hm3 hn3 hI3 => ?_
        have hI3' := hI3.now
        have hB3 : Below w.heap.size w w3 := hI3'.1.toB (by simp [Mem.ids])
        refine (acquire_any (n0 := w.heap.size) (base := w.heap.size) (rf_right hR.2) hR.1 f2 hNS c 1 0 1000000 (.slice none 0 0) (.slice none 0 0) [] [] w3 htyp (term_zero c) (bg_cx hI3' hT hF htl) Lvs.nil Trs.nil (hm3.get 2) (by simpa using (by omega : szC c ≤ 10000000))).mono fun e w4 ⟨lv, tv, he4, hg2, hA4⟩ => ?_
        simp only [List.nil_append] at hA4
        have hRt := aq_rows hB3 f2 hA4
        refine ⟨_, RtI w day lv tv (acq fs day c 0 1000000).1 (acq fs day c 0 1000000).2, [(g10, dO day (.slice aF NF cF) (.slice (some ⟨b, 0, none⟩) NS cap) lv tv)], he4, holds1 hg2, by simp [Mem.ids], hRt.stay (fun y hy => by simp [Mem.ids] at hy; subst hy; exact ⟨f2, _, _, _, hg2, by decide, by decide⟩), ?_⟩
        refine Goes.run [] [] trivial ?_
        refine Goes.open [0] ?_
        refine Goes.run [0, 1, 0, 2, 3, 0, 4, 5, 6] [] trivial ?_
        exact Goes.ret [] (.tuple #[lv, tv, .int .i64 0]) fun w' hm hI => ⟨lv, tv, rfl, hI.now.2.1, hI.now.2.2, hI.now.1⟩
      · refine Goes.lone1 2 (TookS.callM 2 28 #[cv op k t (.slice a N cc)] fun w1 hm1 hn1 hI1 h01 => ?_)
        have hB1a : Below w.heap.size w w1 := bel0 hI1
        have x0 : w1.heap[g3]? = some (cO op k t (.slice a N cc)) := hm1.get 0
        have f0 : w.heap.size ≤ g3 := fresh_of hI1 (g := g3) (ids_get (j := 0) (o := cO op k t (.slice a N cc)) (by kernel_rfl)) (by simp [Mem.ids])
        have x1 : w1.heap[g9]? = some (dwO day (.slice aF NF cF)) := hm1.get 1
        have f1 : w.heap.size ≤ g9 := fresh_of hI1 (g := g9) (ids_get (j := 1) (o := dwO day (.slice aF NF cF)) (by kernel_rfl)) (by simp [Mem.ids])
        have x2 : w1.heap[g10]? = some (dO 0 (.slice none 0 0) (.slice none 0 0) (.slice none 0 0) (.slice none 0 0)) := hm1.get 2
        have f2 : w.heap.size ≤ g10 := fresh_of hI1 (g := g10) (ids_get (j := 2) (o := dO 0 (.slice none 0 0) (.slice none 0 0) (.slice none 0 0) (.slice none 0 0)) (by kernel_rfl)) (by simp [Mem.ids])
        refine (spots_any (n0 := w.heap.size) (hN.later hB1a) hB1a.size hszc).mono fun e w2 ⟨b, cap, A, he, hS2, hA2, hB2⟩ => ?_
        obtain ⟨NS, hNS⟩ : ∃ NS, A.length = NS := ⟨_, rfl⟩
        rw [hNS] at he hS2
        have z0 : w2.heap[g3]? = some (cO op k t (.slice a N cc)) := (hB2.block g3 (lt_of_get x0)).trans x0
        have z1 : w2.heap[g9]? = some (dwO day (.slice aF NF cF)) := (hB2.block g9 (lt_of_get x1)).trans x1
        have z2 : w2.heap[g10]? = some (dO 0 (.slice none 0 0) (.slice none 0 0) (.slice none 0 0) (.slice none 0 0)) := (hB2.block g10 (lt_of_get x2)).trans x2
        have hI2 : BgI w (.slice (some ⟨b, 0, none⟩) NS cap) c A w2 := ⟨hI1.now.1.trans ⟨hB2.os, hB2.tape, hB2.output, hB2.size, fun i hi _ => hB2.block i hi⟩ (L' := Mem.ids []) (by simp [Mem.ids]), hS2, hA2⟩
        refine ⟨_, BgI w (.slice (some ⟨b, 0, none⟩) NS cap) c A, [(g3, cO op k t (.slice a N cc)), (g9, dwO day (.slice aF NF cF)), (g10, dO 0 (.slice none 0 0) (.slice none 0 0) (.slice none 0 0) (.slice none 0 0))], he, h01.bel hB2, holds_in (by simp only [List.forall_mem_cons, List.not_mem_nil, false_implies, implies_true, and_true]; exact ⟨z0, z1, z2⟩), nd_of hn1 (by kernel_rfl), hI2.stay (by simp only [Mem.ids, List.map_cons, List.map_nil, List.forall_mem_cons, List.not_mem_nil, false_implies, implies_true, and_true]; exact ⟨⟨f0, _, _, _, z0, by decide, by decide⟩, ⟨f1, _, _, _, z1, by decide, by decide⟩, ⟨f2, _, _, _, z2, by decide, by decide⟩⟩), ?_⟩
        refine Goes.run [3] [] trivial ?_
        refine Goes.oneA 5 2 [0, 1] ?_
        refine Goes.run [] [] trivial ?_
        refine Goes.call 29 #[.pointer (some ⟨g10, 0, none⟩), .int .i64 ((0 : Nat) : Int), .int .i64 1000000] fun w3 hm3 hn3 hI3 => ?_
        have hI3' := hI3.now
        have hB3 : Below w.heap.size w w3 := hI3'.1.toB (by simp [Mem.ids])
        refine (acquire_any (n0 := w.heap.size) (base := w.heap.size) (rf_right hR.2) hR.1 f2 hNS c 1 0 1000000 (.slice none 0 0) (.slice none 0 0) [] [] w3 htyp (term_zero c) (bg_cx hI3' hT hF htl) Lvs.nil Trs.nil (hm3.get 2) (by simpa using (by omega : szC c ≤ 10000000))).mono fun e w4 ⟨lv, tv, he4, hg2, hA4⟩ => ?_
        simp only [List.nil_append] at hA4
        have hRt := aq_rows hB3 f2 hA4
        refine ⟨_, RtI w day lv tv (acq fs day c 0 1000000).1 (acq fs day c 0 1000000).2, [(g10, dO day (.slice aF NF cF) (.slice (some ⟨b, 0, none⟩) NS cap) lv tv)], he4, holds1 hg2, by simp [Mem.ids], hRt.stay (fun y hy => by simp [Mem.ids] at hy; subst hy; exact ⟨f2, _, _, _, hg2, by decide, by decide⟩), ?_⟩
        refine Goes.run [] [] trivial ?_
        refine Goes.open [0] ?_
        refine Goes.run [0, 1, 0, 2, 3, 0, 4, 5, 6] [] trivial ?_
        exact Goes.ret [] (.tuple #[lv, tv, .int .i64 0]) fun w' hm hI => ⟨lv, tv, rfl, hI.now.2.1, hI.now.2.2, hI.now.1⟩
end Go.Proofs.YthnojedlndblbaaGreatDoor
namespace Go.Proofs.YthnojedlndblbaaGreatDoor
open Go Go.RowKit

def opAt (c : Co) (q : Int) : Bool := match termP c q with | some t => isW t | none => false
/-- Lives behind a place. -/
def rlF (c : Co) (last : Int) : List (Int × Int) → Bool
  | [] => true
  | x :: r => (!decide (x.1 ≤ last) && !decide (x.1 ≥ szC c) && opAt c x.1 && numP x.2) && rlF c x.1 r
def rlP (c : Co) (l : List (Int × Int)) : Bool := rlF c (-1) l
mutual
theorem term_ex : ∀ (c : Co) (q : Int), 0 ≤ q → q < szC c → ∃ t, termP c q = some t
  | .mk op k s kids, q, h0, h1 => by
    rw [termP]
    cases hq : (q == 0) with
    | true => exact ⟨_, rfl⟩
    | false =>
      rw [szC] at h1
      have : q ≠ 0 := fun e => by rw [e] at hq; cases hq
      exact termL_ex kids 1 q (by omega) (by omega)
theorem termL_ex : ∀ (l : List Co) (s q : Int), s ≤ q → q < s + szL l → ∃ t, termL l s q = some t
  | [], s, q, h0, h1 => by rw [szL] at h1; omega
  | c :: r, s, q, h0, h1 => by
    rw [szL] at h1
    rw [termL]
    by_cases h : q < s + szC c
    · rw [decide_eq_true h0, decide_eq_true h]
      exact term_ex c (q - s) (by omega) (by omega)
    · rw [decide_eq_false h, Bool.and_false]
      exact termL_ex r (s + szC c) q (by omega) (by omega)
end
theorem sizeLv : (Tryz.prog.info? 70).map (·.size) = some 2 := by kernel_rfl
theorem loadLv {w : World} {b o : Nat} {x y : Value} (h0 : w.cell? ⟨b, o, none⟩ = some x) (h1 : w.cell? ⟨b, o + 1, none⟩ = some y) : (Instr.loadAt 70 (.pointer (some ⟨b, o, none⟩))).run Tryz.prog w = .ok (.agg #[x, y]) w := loadAgg Tryz.isAgg70 sizeLv [x, y] rfl (cells2 h0 h1)
theorem idxLv (b o n cap k : Nat) (h : k < n) (w : World) : (Instr.indexAt 31 (.slice (some ⟨b, o, none⟩) n cap) (.int .i64 k)).run Tryz.prog w = .ok (.pointer (some ⟨b, o + k * 2, none⟩)) w := by go_simp
/-- The spot of a place, as it is loaded. -/
theorem spot_at {n0 base N b cap p : Nat} {w : World} {c : Co} {A : List (Sp × Value)} {t : Co} (hS : SpW base w (.slice (some ⟨b, 0, none⟩) N cap) A) (hA : SpC n0 w 0 c A) (hN : A.length = N) (hp : termP c p = some t) : ∃ op k s kids ak ck ap np cp, t = .mk op k s kids ∧ p < N ∧ np = kids.length ∧ IzR base w (.slice ap np cp) (placesP ((p : Int) + 1) kids) ∧ ∀ w', SpW base w' (.slice (some ⟨b, 0, none⟩) N cap) A → (Instr.loadAt 99 (.pointer (some ⟨b, p * 5, none⟩))).run Tryz.prog w' = .ok (spV op k s (.slice ak kids.length ck) (.slice ap np cp)) w' := by
  obtain ⟨X1, x, X2, hX, hX1, hx⟩ := hA.at hp
  cases t with
  | mk op k s kids =>
  obtain ⟨hx1, hx2, hx3, hx4, hNc⟩ := hx
  rw [Int.zero_add] at hx4
  have hX1p : X1.length = p := by omega
  have hpv := hS.kid x (by rw [hX]; simp)
  rw [hx4] at hpv
  obtain ⟨ak, ck, hkv, -, -, -⟩ := hNc.open
  have hkv2 : x.1.kv = .slice ak kids.length ck := by unfold cv at hkv; injection hkv with e; simpa using e
  obtain ⟨ap, cp, hpf⟩ := own_form hpv
  rw [places_len] at hpf
  rw [hpf] at hpv
  refine ⟨op, k, s, kids, ak, ck, ap, kids.length, cp, rfl, by rw [← hN, hX, List.length_append, List.length_cons]; omega, rfl, hpv, fun w' hS' => ?_⟩
  rw [hX] at hS'
  have h2 := loadSp hS' (by rw [← hX]; exact hN)
  rwa [hX1p, hx1, hx2, hx3, hkv2, hpf] at h2
set_option maxRecDepth 100000 in
seal rn rnN rnS Goes ans atEnd put0 put putM opened openedY putA0 putA oneSt st0 keep mkSt newSt in
theorem plives_any {n0 base NS bS cS : Nat} {c : Co} {A : List (Sp × Value)} {l : List (Int × Int)} {v : Value} {w : World} (hL : Sts w.heap.size w v l) (hS : SpW base w (.slice (some ⟨bS, 0, none⟩) NS cS) A) (hA : SpC n0 w 0 c A) (hAl : A.length = NS) : Calls Tryz.prog 33 #[v, .slice (some ⟨bS, 0, none⟩) NS cS] w fun e w' => e = .returned (.bool (rlP c l)) ∧ Below w.heap.size w w' := by
  obtain ⟨a, cc, rfl, hc, hst⟩ := hL
  obtain ⟨N, hN⟩ : ∃ N, l.length = N := ⟨_, rfl⟩
  rw [hN] at hc ⊢
  have hlenA : (NS : Int) = szC c := by rw [← hAl]; exact hA.len
  unfold rlP
  refine Goes.begin Tryz.func33 [] (fun _ => True) Holds.nil (by simp [Mem.ids]) (fun _ _ => trivial) ?_
  refine Goes.run [] [] trivial ?_
  refine Goes.loop0 (α := Nat × Int) 43 (fun q => [(1, .slice (some ⟨bS, 0, none⟩) NS cS), (5, .int .i64 q.2), (8, .slice a N cc), (9, .int .i64 N), (10, .int .i64 q.1)]) [] (fun q => q.1 ≤ N ∧ -1 ≤ q.2 ∧ rlF c (-1) l = rlF c q.2 (l.drop q.1)) (fun q => N - q.1) (0, -1) ⟨Nat.zero_le _, by simp, rfl⟩ ?_
  rintro ⟨i, last⟩ J ⟨hi, hlast, hrest⟩ back
  simp only at hi hlast hrest back ⊢
  cases hlt : decide ((i : Int) < (N : Int)) with
  | false =>
    refine Goes.run [0, 0] [(decide ((i : Int) < (N : Int)), false)] ⟨hlt, trivial⟩ ?_
    exact Goes.ret [] (.bool true) fun w' hm hI => ⟨by rw [hrest, List.drop_of_length_le (by have := of_decide_eq_false hlt; omega)]; rfl, bel0 hI⟩
  | true =>
    have hil : i < N := by have := of_decide_eq_true hlt; omega
    obtain ⟨q, hq⟩ : ∃ q, l[i]? = some q := ⟨l[i]'(by omega), by simp⟩
    obtain ⟨b, o, rfl, hb, x1, x2⟩ := hst i q hq
    have hd := drop_any hq
    have hR : rlF c (-1) l = ((!decide (q.1 ≤ last) && !decide (q.1 ≥ szC c) && opAt c q.1 && numP q.2) && rlF c q.1 (l.drop (i + 1))) := by rw [hrest, hd, rlF]
    obtain ⟨at', fa⟩ := q
    simp only at x1 x2 hR
    refine Goes.run [0, 1] [(decide ((i : Int) < (N : Int)), true)] ⟨hlt, trivial⟩ ?_
    refine Goes.val (Instr.indexAt 31 (.slice (some ⟨b, o, none⟩) N cc) (.int .i64 i)) (.pointer (some ⟨b, o + i * 2, none⟩)) (fun w' _ _ => idxLv b o N cc i hil w') ?_
    refine Goes.val (Instr.loadAt 70 (.pointer (some ⟨b, o + i * 2, none⟩))) (.agg #[.int .i64 at', .int .i64 fa]) (fun w' _ hI => loadLv (((bel0 hI).cell (p := ⟨b, o + i * 2, none⟩) hb).trans x1) (((bel0 hI).cell (p := ⟨b, o + i * 2 + 1, none⟩) hb).trans x2)) ?_
    cases h1 : decide (at' ≤ last) with
    | true =>
      refine Goes.run1 [0, 0, 1, 1, 1, 1] [(true, true), (true, true), (true, true), (decide (at' ≤ last), true)] ⟨rfl, rfl, rfl, h1, trivial⟩ fun g => ?_
      exact Goes.ret [] (.bool false) fun w' hm hI => ⟨by rw [hR, h1]; rfl, bel0 hI⟩
    | false =>
      have hat0 : 0 ≤ at' := by have := of_decide_eq_false h1; omega
      obtain ⟨p, rfl⟩ : ∃ p : Nat, at' = p := ⟨at'.toNat, by omega⟩
      rw [← hlenA] at hR
      cases h2 : decide ((p : Int) ≥ (NS : Int)) with
      | true =>
        refine Goes.run1 [0, 0, 0, 0, 1, 1, 1] [(true, true), (true, true), (decide ((p : Int) ≥ (NS : Int)), true), (decide ((p : Int) ≤ last), false)] ⟨rfl, rfl, h2, h1, trivial⟩ fun g => ?_
        exact Goes.ret [] (.bool false) fun w' hm hI => ⟨by rw [hR, h1, h2]; rfl, bel0 hI⟩
      | false =>
        have hpN : p < NS := by have := of_decide_eq_false h2; omega
        obtain ⟨t, ht⟩ := term_ex c p (by omega) (by omega)
        obtain ⟨op, k, s, kids, ak, ck, ap, np, cp, rfl, -, -, -, hload⟩ := spot_at hS hA hAl ht
        have hop : opAt c p = mwP op := by unfold opAt; rw [ht]; rfl
        rw [hop] at hR
        refine Goes.run1 [0, 0, 0, 0, 0, 0] [(decide ((p : Int) ≥ (NS : Int)), false), (decide ((p : Int) ≤ last), false)] ⟨h2, h1, trivial⟩ fun g => ?_
        refine Goes.val (Instr.indexAt 60 (.slice (some ⟨bS, 0, none⟩) NS cS) (.int .i64 p)) (.pointer (some ⟨bS, p * 5, none⟩)) (fun w' _ _ => idxSp bS NS cS p hpN w') ?_
        refine Goes.val (Instr.loadAt 99 (.pointer (some ⟨bS, p * 5, none⟩))) (spV op k s (.slice ak kids.length ck) (.slice ap np cp)) (fun w' _ hI => hload w' (hS.ch (L := []) hI.now.1 (by simp))) ?_
        refine Goes.call0 58 #[spV op k s (.slice ak kids.length ck) (.slice ap np cp)] (.bool (mwP op)) (fun w' _ _ => maywait_any op k s ak kids.length ck ap np cp w') ?_
        cases h3 : mwP op with
        | false =>
          refine Goes.run [1, 1] [(true, true), (true, true)] ⟨rfl, rfl, trivial⟩ ?_
          exact Goes.ret [] (.bool false) fun w' hm hI => ⟨by rw [hR, h1, h2, h3]; rfl, bel0 hI⟩
        | true =>
          refine Goes.run [0, 0] [(false, false)] ⟨rfl, trivial⟩ ?_
          refine Goes.call0 64 #[.int .i64 fa] (.bool (numP fa)) (fun w' _ _ => pnum_any fa w') ?_
          cases h4 : numP fa with
          | false =>
            refine Goes.run [1] [(true, true)] ⟨rfl, trivial⟩ ?_
            exact Goes.ret [] (.bool false) fun w' hm hI => ⟨by rw [hR, h1, h2, h3, h4]; rfl, bel0 hI⟩
          | true =>
            refine Goes.run [0, 0] [(false, false)] ⟨rfl, trivial⟩ ?_
            refine Goes.slot 10 (.int .i64 (i + 1 : Nat)) (u := .int .i64 (IntKind.i64.wrap ((i : Int) + 1))) (congrArg _ (wrap_nat (by omega))) ?_
            refine Goes.keep 0 ?_
            exact back (i + 1, (p : Int)) _ ⟨hil, by simp only; omega, by rw [hR, h1, h2, h3, h4]; rfl⟩ (by simp only; omega) (by kernel_rfl) (by kernel_rfl) (by kernel_rfl)
/-- What is acquired where a term waits. -/
def pkI (day : Int) (lab : List UInt8) (which : Int) (p : Int) : Co → Int
  | .mk op k s kids => bif (op == 31 && decide (s = lab)) && !decide (day > k) then p + 1 + szL (kids.take (which - 1).toNat) else p
set_option maxRecDepth 100000 in
seal rn rnN rnS Goes ans atEnd put0 put putM opened openedY putA0 putA oneSt st0 keep mkSt newSt in
theorem picked_any {n0 base g NS bS cS : Nat} {day : Int} {aF : Option Addr} {NF cF : Nat} {lv tv : Value} {c : Co} {A : List (Sp × Value)} {w : World} (hg : w.heap[g]? = some (dO day (.slice aF NF cF) (.slice (some ⟨bS, 0, none⟩) NS cS) lv tv)) (hS : SpW base w (.slice (some ⟨bS, 0, none⟩) NS cS) A) (hA : SpC n0 w 0 c A) (hAl : A.length = NS) {p : Nat} {t : Co} (hp : termP c p = some t) {d : Int} (ht : typF d t = (4, true)) (lab : List UInt8) (which : Int) (hw : rcP lab which = true) : Calls Tryz.prog 34 #[.pointer (some ⟨g, 0, none⟩), .int .i64 p, chV lab which] w fun e w' => e = .returned (.int .i64 (pkI day lab which p t)) ∧ Below w.heap.size w w' := by
  obtain ⟨op, k, s, kids, ak, ck, ap, np, cp, rfl, hpN, hnp, hpv, hload⟩ := spot_at hS hA hAl hp
  have hm0 : Holds [(g, dO day (.slice aF NF cF) (.slice (some ⟨bS, 0, none⟩) NS cS) lv tv)] w := holds1 hg
  have hSL : ∀ {w' : World}, Ch (Mem.ids [(g, dO day (.slice aF NF cF) (.slice (some ⟨bS, 0, none⟩) NS cS) lv tv)]) w w' → SpW base w' (.slice (some ⟨bS, 0, none⟩) NS cS) A := fun hc => hS.ch hc fun x hx => by simp [Mem.ids] at hx; subst hx; exact ⟨_, _, _, hg, by decide, by decide⟩
  refine Goes.begin Tryz.func34 [(g, dO day (.slice aF NF cF) (.slice (some ⟨bS, 0, none⟩) NS cS) lv tv)] (fun _ => True) hm0 (by simp [Mem.ids]) (fun _ _ => trivial) ?_
  refine Goes.run1 [0] [] trivial fun g5 => ?_
  refine Goes.val (Instr.indexAt 60 (.slice (some ⟨bS, 0, none⟩) NS cS) (.int .i64 p)) (.pointer (some ⟨bS, p * 5, none⟩)) (fun w' _ _ => idxSp bS NS cS p hpN w') ?_
  refine Goes.val (Instr.loadAt 99 (.pointer (some ⟨bS, p * 5, none⟩))) (spV op k s (.slice ak kids.length ck) (.slice ap np cp)) (fun w' _ hI => hload w' (hSL hI.now.1)) ?_
  refine Goes.run1 [2] [] trivial fun g7 => ?_
  refine Goes.open [0, 1, 2] ?_
  refine Goes.run [0, 1, 2, 2, 3] [] trivial ?_
  cases h31 : (op == 31) with
  | false =>
    refine Goes.slot 18 (.bool false) (u := .bool (op == 31)) (congrArg _ h31) ?_
    refine Goes.run [4, 5, 6, 7, 8, 9, 10, 11, 12, 13, 14, 15, 16, 17, 18, 19, 20, 21, 22, 0] [(false, false)] ⟨rfl, trivial⟩ ?_
    exact Goes.ret [] (.int .i64 p) fun w' hm hI => ⟨by rw [pkI, h31]; rfl, below_end (m := [(g, dO day (.slice aF NF cF) (.slice (some ⟨bS, 0, none⟩) NS cS) lv tv)]) hm0 hI.now.1 hm (by kernel_rfl)⟩
  | true =>
    obtain rfl : op = 31 := eq_of_beq h31
    refine Goes.run [4, 5, 6, 7, 2, 8, 9, 1] [] trivial ?_
    refine Goes.valA 10 (do eqGuard .eql 9 (.tmp 22) (.tmp 24) (strV s) (strV lab); binOp .eql 9 (strV s) (strV lab)) (.bool (decide (s = lab))) (fun w' _ => eqT _ _ s lab rfl w') ?_
    cases hs : decide (s = lab) with
    | false =>
      refine Goes.run [11, 12, 13, 14, 15, 16, 17, 18, 19, 20, 21, 22, 0] [(false, false)] ⟨rfl, trivial⟩ ?_
      exact Goes.ret [] (.int .i64 p) fun w' hm hI => ⟨by rw [pkI, hs]; rfl, below_end (m := [(g, dO day (.slice aF NF cF) (.slice (some ⟨bS, 0, none⟩) NS cS) lv tv)]) hm0 hI.now.1 hm (by kernel_rfl)⟩
    | true =>
      refine Goes.run [11, 12, 13, 14, 15, 16, 0, 17, 18, 19, 2] [] trivial ?_
      refine Goes.callA0 20 65 #[dwV day (.slice aF NF cF), .int .i64 k] (.bool (decide (day > k))) (fun w' _ _ => ppast_any aF NF cF day k w') ?_
      cases hd : decide (day > k) with
      | true =>
        refine Goes.run [21, 22, 0] [(false, false)] ⟨rfl, trivial⟩ ?_
        exact Goes.ret [] (.int .i64 p) fun w' hm hI => ⟨by rw [pkI, hs, hd]; rfl, below_end (m := [(g, dO day (.slice aF NF cF) (.slice (some ⟨bS, 0, none⟩) NS cS) lv tv)]) hm0 hI.now.1 hm (by kernel_rfl)⟩
      | false =>
        have hsn : lab ≠ [] := by
          obtain ⟨hown, -⟩ := typ_parts.1 ht
          rw [← fld_own] at hown
          have hn : namP s = true := by simp [fldP] at hown; exact hown.1
          have := of_decide_eq_true hs
          rintro rfl
          rw [this] at hn
          cases hn
        have hw12 : which = 1 ∨ which = 2 := by
          unfold rcP at hw
          simp [hsn] at hw
          exact hw.2
        have hkd : ∃ c0 c1, kids = [c0, c1] := by
          rcases con_cases ht with ⟨h, -⟩ | ⟨h, -⟩ | ⟨h, -⟩ | ⟨h, -⟩ | ⟨h, -⟩ | ⟨h, -⟩ | ⟨h, -⟩ | ⟨h, -⟩ | ⟨-, c0, c1, h, -⟩ <;> first | (cases h; done) | exact ⟨c0, c1, h⟩
        obtain ⟨c0, c1, rfl⟩ := hkd
        obtain ⟨kb, cur, cap, hpe, hkb, hcur⟩ := hpv.open (by simp [placesP])
        rw [places_len] at hpe
        cases hpe
        have hkbL : ∀ {w' : World}, Ch (Mem.ids [(g, dO day (.slice aF NF cF) (.slice (some ⟨bS, 0, none⟩) NS cS) lv tv)]) w w' → w'.heap[kb]? = some (.cells cur 3 (0, 0)) := fun hc => (hc.block kb (lt_of_get hkb) (fun hm => by
          simp [Mem.ids] at hm
          subst hm
          rw [hkb] at hg
          cases hg)).trans hkb
        have hpos := szL_pos
        rcases hw12 with rfl | rfl
        · have hc := hcur 0 _ (places_get (c := c0) rfl)
          refine Goes.run [21, 22, 1, 2, 1, 0] [(true, true)] ⟨rfl, trivial⟩ ?_
          refine Goes.val (Instr.loadAt 3 (.pointer (some ⟨kb, 0, none⟩))) (.int .i64 ((p : Int) + 1 + szL ([c0, c1].take 0))) (fun w' _ hI => load1 Tryz.isAgg3 (cell_obj (hkbL hI.now.1) hc)) ?_
          refine Goes.run [] [] trivial ?_
          exact Goes.ret [] (.int .i64 ((p : Int) + 1 + szL ([c0, c1].take 0))) fun w' hm hI => ⟨by rw [pkI, hs, hd]; rfl, below_end (m := [(g, dO day (.slice aF NF cF) (.slice (some ⟨bS, 0, none⟩) NS cS) lv tv)]) hm0 hI.now.1 hm (by kernel_rfl)⟩
        · have hc := hcur 1 _ (places_get (c := c1) rfl)
          refine Goes.run [21, 22, 1, 2, 1, 0] [(true, true)] ⟨rfl, trivial⟩ ?_
          refine Goes.val (Instr.loadAt 3 (.pointer (some ⟨kb, 1, none⟩))) (.int .i64 ((p : Int) + 1 + szL ([c0, c1].take 1))) (fun w' _ hI => load1 Tryz.isAgg3 (cell_obj (hkbL hI.now.1) hc)) ?_
          refine Goes.run [] [] trivial ?_
          exact Goes.ret [] (.int .i64 ((p : Int) + 1 + szL ([c0, c1].take 1))) fun w' hm hI => ⟨by rw [pkI, hs, hd]; rfl, below_end (m := [(g, dO day (.slice aF NF cF) (.slice (some ⟨bS, 0, none⟩) NS cS) lv tv)]) hm0 hI.now.1 hm (by kernel_rfl)⟩
end Go.Proofs.YthnojedlndblbaaGreatDoor
namespace Go.Proofs.YthnojedlndblbaaGreatDoor
open Go Go.RowKit

/-- Go on from a world that is known, with other known blocks. -/
theorem Goes.rebase {P : Program} {F : Exit → Act → World → Prop} {Inv : World → Prop} {s : St} (h : ∀ w1, Holds s.mem w1 → s.mem.ids.Nodup → Stay s.mem.ids w1 Inv → ∃ Inv' m', Holds m' w1 ∧ m'.ids.Nodup ∧ Stay m'.ids w1 Inv' ∧ Goes P F Inv' ⟨s.todo, s.tmps, m'⟩) : Goes P F Inv s := fun w hm hn hI => by
  obtain ⟨Inv', m', h1, h2, h3, h4⟩ := h w hm hn hI
  exact h4 w h1 h2 h3
/-- What Step answers. -/
noncomputable def steR (fs : Fs) (day : Int) (lab : List UInt8) (which : Int) (c : Co) (l : List (Int × Int)) : R2 × Int := bif (chkP c == 0 && (dayP day && rfP fs) && rcP lab which) && rlP c l then (stepP fs day lab which c l, 0) else (r0, 150)
theorem rl_facts {c : Co} : ∀ {l : List (Int × Int)} {last : Int}, -1 ≤ last → rlF c last l = true → ((l.length : Int) ≤ max 0 (szC c - 1 - last)) ∧ ∀ x ∈ l, 0 ≤ x.1 ∧ ∃ t, termP c x.1 = some t ∧ isW t = true
  | [], last, _, _ => ⟨by simp; omega, by simp⟩
  | x :: r, last, h0, h => by
    rw [rlF] at h
    simp only [Bool.and_eq_true, Bool.not_eq_true', decide_eq_false_iff_not] at h
    obtain ⟨⟨⟨⟨h1, h2⟩, h3⟩, -⟩, h4⟩ := h
    obtain ⟨g1, g2⟩ := rl_facts (by omega) h4
    refine ⟨by rw [List.length_cons]; omega, fun y hy => ?_⟩
    rcases List.mem_cons.1 hy with rfl | hy
    · refine ⟨by omega, ?_⟩
      unfold opAt at h3
      cases ht : termP c y.1 with
      | none => rw [ht] at h3; cases h3
      | some t => rw [ht] at h3; exact ⟨t, rfl, h3⟩
    · exact g2 y hy
/-- A term of a right contract where something may wait is a contract. -/
theorem typ_term (c : Co) : ∀ {d : Int} {q : Int} {t : Co}, (typF d c).2 = true → termP c q = some t → ∃ d', (typF d' t).2 = true := by
  induction c using Co.ind with
  | h op k s kids ih =>
    intro d q t h ht
    rw [termP] at ht
    cases hq : (q == 0) with
    | true => rw [hq, cond_true] at ht; cases ht; exact ⟨d, h⟩
    | false =>
      rw [hq, cond_false] at ht
      obtain ⟨u, hu, e, he⟩ := termL_mem ht
      exact ih u hu ((typ_kids h).2.2 u hu) he
theorem w_con {d : Int} {t : Co} (h : (typF d t).2 = true) (hw : isW t = true) : typF d t = (4, true) := by
  cases t with
  | mk op k s kids =>
  have hz : typF d (.mk op k s kids) = ((typF d (.mk op k s kids)).1, true) := by rw [← h]
  obtain ⟨-, -, -, l, hl, he⟩ := typ_parts.1 hz
  unfold isW at hw
  simp only [Bool.or_eq_true, beq_iff_eq] at hw
  rcases end_shape he with ⟨rfl, -, -⟩ | hr
  · omega
  · by_cases h4 : (typF d (.mk op k s kids)).1 = 4
    · rw [hz, h4]
    · rcases rk_cases hr h4 with ⟨h, -⟩ | ⟨h, -⟩ | ⟨h, -⟩ | ⟨h, -⟩ | ⟨h7, -⟩
      · omega
      · omega
      · omega
      · omega
      · exfalso
        obtain ⟨o0, o1⟩ := op_small hr
        have key : ∀ n : Fin 32, (match rkP ((n : Nat) : Int) with | some (_, z) => z == 4 || !((n : Nat) == 26 || (n : Nat) == 28 || (n : Nat) == 29 || (n : Nat) == 30 || (n : Nat) == 31) | none => true) = true := by decide
        have hn : ((op.toNat : Nat) : Int) = op := by omega
        have hs := key ⟨op.toNat, by omega⟩
        simp only [hn, hr, Bool.or_eq_true, beq_iff_eq, Bool.not_eq_true', Bool.or_eq_false_iff, beq_eq_false_iff_ne] at hs
        rcases hs with hs | hs
        · exact h4 hs
        · omega
/-- A step of one that waits. -/
noncomputable def stx (fs : Fs) (day : Int) (lab : List UInt8) (which : Int) (c : Co) (x : Int × Int) : R2 := match termP c x.1 with | some t => stepX fs day lab which t x.1 x.2 | none => r0
theorem step_cons {fs : Fs} {day : Int} {lab : List UInt8} {which : Int} {c : Co} (x : Int × Int) (r : List (Int × Int)) : stepP fs day lab which c (x :: r) = R2.cat (stx fs day lab which c x) (stepP fs day lab which c r) := rfl
theorem step_len {fs : Fs} {day : Int} {lab : List UInt8} {which : Int} {c : Co} : ∀ l : List (Int × Int), (((stepP fs day lab which c l).1.length + (stepP fs day lab which c l).2.length : Nat) : Int) ≤ szC c * l.length
  | [] => by simp [stepP, r0]
  | x :: r => by
    have ih := step_len (fs := fs) (day := day) (lab := lab) (which := which) (c := c) r
    have hp := szC_pos c
    have key : (((stx fs day lab which c x).1.length + (stx fs day lab which c x).2.length : Nat) : Int) ≤ szC c := by
      unfold stx
      cases ht : termP c x.1 with
      | none => simp [r0]; omega
      | some t =>
        simp only
        have h1 := (term_in c x.1 t ht).2.1
        have h0 := (term_in c x.1 t ht).1
        cases t with
        | mk op k s kids =>
        rw [stepX]
        cases hb : ((op == 31 && decide (lab ≠ []) && decide (s = lab)) && decide (day ≤ k)) with
        | true =>
          rw [cond_true]
          cases hc : kids[(which - 1).toNat]? with
          | none => rw [acq_none fs day (x.1 + 1) x.2 hc]; simp [r0]; omega
          | some u =>
            rw [acq_get fs day (x.1 + 1) x.2 hc]
            have := acq_len fs day u (x.1 + 1 + szL (kids.take (which - 1).toNat)) x.2
            have := szL_cut hc
            rw [szC] at h1
            omega
        | false =>
          rw [cond_false]
          have := acq_len fs day (.mk op k s kids) x.1 x.2
          omega
    have e : szC c * (((x :: r).length : Nat) : Int) = szC c * (r.length : Int) + szC c := by rw [List.length_cons, Int.natCast_add, Int.mul_add]; simp
    rw [e, step_cons]
    have e1 : (R2.cat (stx fs day lab which c x) (stepP fs day lab which c r)).1.length = (stx fs day lab which c x).1.length + (stepP fs day lab which c r).1.length := by simp [R2.cat]
    have e2 : (R2.cat (stx fs day lab which c x) (stepP fs day lab which c r)).2.length = (stx fs day lab which c x).2.length + (stepP fs day lab which c r).2.length := by simp [R2.cat]
    rw [e1, e2]
    omega
theorem cat_nil (a : R2) : R2.cat a r0 = a := by simp [R2.cat, r0]
theorem nil_cat (a : R2) : R2.cat r0 a = a := by simp [R2.cat, r0]
theorem cat_assoc (a b d : R2) : R2.cat (R2.cat a b) d = R2.cat a (R2.cat b d) := by simp [R2.cat]
theorem step_snoc {fs : Fs} {day : Int} {lab : List UInt8} {which : Int} {c : Co} (x : Int × Int) : ∀ l : List (Int × Int), stepP fs day lab which c (l ++ [x]) = R2.cat (stepP fs day lab which c l) (stx fs day lab which c x)
  | [] => by
    show stepP fs day lab which c [x] = _
    rw [step_cons, show stepP fs day lab which c [] = r0 from rfl, cat_nil, nil_cat]
  | y :: r => by
    show stepP fs day lab which c (y :: (r ++ [x])) = _
    rw [step_cons, step_cons, step_snoc x r, cat_assoc]
/-- A call in a drawn region, the last one. -/
theorem Goes.callAm {P : Program} {F : Exit → Act → World → Prop} {Inv : World → Prop} {s : St} (i : Nat) (f : FuncId) (args : Array Value)
 (hr : ∀ w, Holds s.mem w → s.mem.ids.Nodup → Stay s.mem.ids w Inv → Holds (anyM s) w → Calls P f args w fun e w' => ∃ v Inv' m, e = .returned v ∧ Holds (anyM s) w' ∧ Holds m w' ∧ m.ids.Nodup ∧ Stay m.ids w' Inv' ∧ Goes P F Inv' (putA i s v m)) (ha : askA i s = some (f, args) := by kernel_rfl) (hw : anyLone i s = true := by kernel_rfl) (hf : okf P f = true := by kernel_rfl) : Goes P F Inv s :=
  Goes.callA i f args (fun ops m0 n l k ht w h1 h2 h3 h4 => by
    have e : anyM s = m0 := by unfold anyM; rw [ht]
    have := hr w h1 h2 h3 (by rw [e]; exact h4)
    rw [e] at this
    exact this) ha hw hf
/-- A step of one that waits is acquiring what is picked. -/
theorem stepX_pk {fs : Fs} {day : Int} {lab : List UInt8} {which : Int} {c t : Co} {p : Nat} {d f : Int} (hp : termP c p = some t) (ht : typF d t = (4, true)) (hw : rcP lab which = true) : ∃ (q : Nat) (u : Co) (d' : Int), (q : Int) = pkI day lab which p t ∧ termP c q = some u ∧ typF d' u = (4, true) ∧ stepX fs day lab which t p f = acq fs day u q f ∧ szC u ≤ szC t := by
  cases t with
  | mk op k s kids =>
  have hdk : (!decide (day > k)) = decide (day ≤ k) := by
    by_cases h : day > k
    · rw [decide_eq_true h, decide_eq_false (by omega)]; rfl
    · rw [decide_eq_false h, decide_eq_true (by omega)]; rfl
  cases hb : ((op == 31 && decide (s = lab)) && decide (day ≤ k)) with
  | false =>
    refine ⟨p, _, d, by rw [pkI, hdk, hb, cond_false], hp, ht, ?_, Int.le_refl _⟩
    have : ((op == 31 && decide (lab ≠ []) && decide (s = lab)) && decide (day ≤ k)) = false := by
      cases h1 : (op == 31) <;> cases h2 : decide (s = lab) <;> cases h3 : decide (day ≤ k) <;> simp [h1, h2, h3] at hb ⊢
    rw [stepX, this, cond_false]
  | true =>
    simp only [Bool.and_eq_true, beq_iff_eq] at hb
    obtain ⟨⟨rfl, hs⟩, hd⟩ := hb
    have hsn : lab ≠ [] := by
      obtain ⟨hown, -⟩ := typ_parts.1 ht
      rw [← fld_own] at hown
      have hn : namP s = true := by simp [fldP] at hown; exact hown.1
      have := of_decide_eq_true hs
      rintro rfl
      rw [this] at hn
      cases hn
    have hw12 : which = 1 ∨ which = 2 := by
      unfold rcP at hw
      simp [hsn] at hw
      exact hw.2
    obtain ⟨c0, c1, rfl, h0, h1⟩ : ∃ c0 c1, kids = [c0, c1] ∧ typF (d + 1) c0 = (4, true) ∧ typF (d + 1) c1 = (4, true) := by
      rcases con_cases ht with ⟨h, -⟩ | ⟨h, -⟩ | ⟨h, -⟩ | ⟨h, -⟩ | ⟨h, -⟩ | ⟨h, -⟩ | ⟨h, -⟩ | ⟨h, -⟩ | ⟨-, c0, c1, h, h0, h1⟩ <;> first | (cases h; done) | exact ⟨c0, c1, h, h0, h1⟩
    have hx : stepX fs day lab which (.mk 31 k s [c0, c1]) p f = brA (acqL fs day [c0, c1] ((p : Int) + 1)) (which - 1).toNat f := by
      rw [stepX, hs, hd, decide_eq_true hsn]; rfl
    have hpk : pkI day lab which p (.mk 31 k s [c0, c1]) = (p : Int) + 1 + szL ([c0, c1].take (which - 1).toNat) := by rw [pkI, hdk, hs, hd]; rfl
    rw [hx, hpk]
    have hpos := szL_pos
    rcases hw12 with rfl | rfl
    · have := hpos ([c0, c1].take 0)
      refine ⟨((p : Int) + 1 + szL ([c0, c1].take 0)).toNat, c0, d + 1, by show _ = (p : Int) + 1 + szL ([c0, c1].take 0); omega, ?_, h0, ?_, by simp only [szC, szL]; have := szC_pos c1; omega⟩
      · have e : (((p : Int) + 1 + szL ([c0, c1].take 0)).toNat : Int) = (p : Int) + 1 + szL ([c0, c1].take 0) := by omega
        rw [e]; exact kid_term hp rfl
      · have e : (((p : Int) + 1 + szL ([c0, c1].take 0)).toNat : Int) = (p : Int) + 1 + szL ([c0, c1].take 0) := by omega
        rw [e]; exact acq_get fs day ((p : Int) + 1) f (i := 0) (c := c0) rfl
    · have := hpos ([c0, c1].take 1)
      refine ⟨((p : Int) + 1 + szL ([c0, c1].take 1)).toNat, c1, d + 1, by show _ = (p : Int) + 1 + szL ([c0, c1].take 1); omega, ?_, h1, ?_, by simp only [szC, szL]; have := szC_pos c0; omega⟩
      · have e : (((p : Int) + 1 + szL ([c0, c1].take 1)).toNat : Int) = (p : Int) + 1 + szL ([c0, c1].take 1) := by omega
        rw [e]; exact kid_term hp rfl
      · have e : (((p : Int) + 1 + szL ([c0, c1].take 1)).toNat : Int) = (p : Int) + 1 + szL ([c0, c1].take 1) := by omega
        rw [e]; exact acq_get fs day ((p : Int) + 1) f (i := 1) (c := c1) rfl
theorem holds_of {m m1 : Mem} {w : World} (e : m1 = m) (h : Holds m w) : Holds m1 w := e ▸ h
theorem Sts.at' {w w' : World} {v : Value} {l : List (Int × Int)} (h : Sts w.heap.size w v l) (hB : Below w.heap.size w w') : Sts w'.heap.size w' v l := (h.later hB).more hB.size
set_option maxRecDepth 100000 in
seal rn rnN rnS Goes ans atEnd put0 put putM opened openedY putA0 putA oneSt st0 keep mkSt newSt in
theorem step_any {fs : Fs} {fv u vl : Value} {c : Co} {l : List (Int × Int)} {w : World} (day : Int) (lab : List UInt8) (which : Int) (hT : Tab w) (htl : 1 < w.heap.size) (hN : Nc w.heap.size w u c) (hLv : Sts w.heap.size w vl l) (hF : Fds w.heap.size w fv fs) (hl : ∀ f ∈ fs, f.1.length ≤ 9223372036854775807) (hlab : lab.length ≤ 9223372036854775807) : Calls Tryz.prog 16 #[u, vl, .int .i64 day, fv, chV lab which] w (LTQ day w (steR fs day lab which c l)) := by
  obtain ⟨op, k, t, a, N, cc, rfl⟩ := hN.cells
  obtain ⟨aF, NF, cF, rfl⟩ : ∃ aF NF cF, fv = .slice aF NF cF := by obtain ⟨x, y, e, -⟩ := hF; exact ⟨x, _, y, e⟩
  have hLv0 := hLv
  obtain ⟨aL, cL, rfl, hcL, hst⟩ := hLv0
  obtain ⟨NL, hNL⟩ : ∃ NL, l.length = NL := ⟨_, rfl⟩
  rw [hNL] at hcL hLv ⊢
  obtain ⟨E, hE⟩ : ∃ E, chkP c = E := ⟨_, rfl⟩
  have hV : steR fs day lab which c l = bif (E == 0 && (dayP day && rfP fs) && rcP lab which) && rlP c l then (stepP fs day lab which c l, 0) else (r0, 150) := by unfold steR; rw [hE]
  have bad : ∀ w', Below w.heap.size w w' → ((E == 0 && (dayP day && rfP fs) && rcP lab which) && rlP c l) = false → LTQ day w (steR fs day lab which c l) (.returned (.tuple #[.slice none 0 0, .slice none 0 0, .int .i64 150])) w' := fun w' hB h => ⟨.slice none 0 0, .slice none 0 0, by rw [hV, h]; rfl, by rw [hV, h]; exact Lvs.nil, by rw [hV, h]; exact Trs.nil, hB⟩
  refine Goes.begin Tryz.func16 [] (fun _ => True) Holds.nil (by simp [Mem.ids]) (fun _ _ => trivial) ?_
  refine Goes.run3 [2, 0] [] trivial fun g5 g9 g13 => ?_
  refine Goes.call0 27 #[cv op k t (.slice a N cc)] (.int .i64 E) (fun w' _ hI => by have := check_any (hN.at (bel0 hI)); rwa [hE] at this) ?_
  cases h0 : (E == 0) with
  | false =>
    refine Goes.run [1, 1, 1] [(true, true), (true, true), (E != 0, true)] ⟨rfl, rfl, by rw [bne, h0]; rfl, trivial⟩ ?_
    exact Goes.ret [] (.tuple #[.slice none 0 0, .slice none 0 0, .int .i64 150]) fun w' hm hI => bad w' (bel0 hI) (by rw [h0]; rfl)
  | true =>
    refine Goes.run [0, 2] [(E != 0, false)] ⟨by rw [bne, h0]; rfl, trivial⟩ ?_
    refine Goes.call0 22 #[dwV day (.slice aF NF cF)] (.bool (dayP day && rfP fs)) (fun w' _ hI => pright_any day (hF.at (bel0 hI)) hl) ?_
    cases hRR : (dayP day && rfP fs) with
    | false =>
      refine Goes.run [1, 1] [(true, true), (true, true)] ⟨rfl, rfl, trivial⟩ ?_
      exact Goes.ret [] (.tuple #[.slice none 0 0, .slice none 0 0, .int .i64 150]) fun w' hm hI => bad w' (bel0 hI) (by rw [h0, hRR]; rfl)
    | true =>
      refine Goes.run [0, 1] [(false, false)] ⟨rfl, trivial⟩ ?_
      refine Goes.call0 32 #[chV lab which] (.bool (rcP lab which)) (fun w' _ _ => pchoice_any lab which w' hlab) ?_
      cases hC : rcP lab which with
      | false =>
        refine Goes.run [1] [(true, true)] ⟨rfl, trivial⟩ ?_
        exact Goes.ret [] (.tuple #[.slice none 0 0, .slice none 0 0, .int .i64 150]) fun w' hm hI => bad w' (bel0 hI) (by rw [h0, hRR, hC]; rfl)
      | true =>
        have hR := hRR
        simp only [Bool.and_eq_true] at hR
        obtain ⟨htyp, hszc, -⟩ := chk_typ (c := c) (by rw [hE]; exact h0)
        refine Goes.run [0] [(false, false)] ⟨rfl, trivial⟩ ?_
        refine Goes.open [0, 2] ?_
        refine Goes.run [0, 1, 1, 0] [] trivial ?_
        refine Goes.two 2 4 (TookS.callM 2 28 #[cv op k t (.slice a N cc)] fun w1 hm1 hn1 hI1 h01 => ?_) (TookS.new1 4 w.heap.size [0, 2] (fun w' h => h.1.size) fun g14 f3x => ?_)
        · -- the spots first
          have hB1a : Below w.heap.size w w1 := bel0 hI1
          have x0 : w1.heap[g5]? = some (cO op k t (.slice a N cc)) := hm1.get 0
          have f0 : w.heap.size ≤ g5 := fresh_of hI1 (g := g5) (ids_get (j := 0) (o := cO op k t (.slice a N cc)) (by kernel_rfl)) (by simp [Mem.ids])
          have x1 : w1.heap[g9]? = some (chO lab which) := hm1.get 1
          have f1 : w.heap.size ≤ g9 := fresh_of hI1 (g := g9) (ids_get (j := 1) (o := chO lab which) (by kernel_rfl)) (by simp [Mem.ids])
          have x2 : w1.heap[g13]? = some (dwO day (.slice aF NF cF)) := hm1.get 2
          have f2 : w.heap.size ≤ g13 := fresh_of hI1 (g := g13) (ids_get (j := 2) (o := dwO day (.slice aF NF cF)) (by kernel_rfl)) (by simp [Mem.ids])
          refine (spots_any (n0 := w.heap.size) (hN.later hB1a) hB1a.size hszc).mono fun e w2 ⟨b, cap, A, he, hS2, hA2, hB2⟩ => ?_
          obtain ⟨NS, hNS⟩ : ∃ NS, A.length = NS := ⟨_, rfl⟩
          rw [hNS] at he hS2
          have z0 : w2.heap[g5]? = some (cO op k t (.slice a N cc)) := (hB2.block g5 (lt_of_get x0)).trans x0
          have z1 : w2.heap[g9]? = some (chO lab which) := (hB2.block g9 (lt_of_get x1)).trans x1
          have z2 : w2.heap[g13]? = some (dwO day (.slice aF NF cF)) := (hB2.block g13 (lt_of_get x2)).trans x2
          have hI2 : BgI w (.slice (some ⟨b, 0, none⟩) NS cap) c A w2 := ⟨hI1.now.1.trans ⟨hB2.os, hB2.tape, hB2.output, hB2.size, fun i hi _ => hB2.block i hi⟩ (L' := Mem.ids []) (by simp [Mem.ids]), hS2, hA2⟩
          refine ⟨_, BgI w (.slice (some ⟨b, 0, none⟩) NS cap) c A, [(g5, cO op k t (.slice a N cc)), (g9, chO lab which), (g13, dwO day (.slice aF NF cF))], he, h01.bel hB2, holds_in (by simp only [List.forall_mem_cons, List.not_mem_nil, false_implies, implies_true, and_true]; exact ⟨z0, z1, z2⟩), nd_of hn1 (by kernel_rfl), hI2.stay (by simp only [Mem.ids, List.map_cons, List.map_nil, List.forall_mem_cons, List.not_mem_nil, false_implies, implies_true, and_true]; exact ⟨⟨f0, _, _, _, z0, by decide, by decide⟩, ⟨f1, _, _, _, z1, by decide, by decide⟩, ⟨f2, _, _, _, z2, by decide, by decide⟩⟩), ?_⟩
          refine Goes.run [3] [] trivial ?_
          refine Goes.lone1 4 (TookS.new1 4 w.heap.size [0, 2] (fun w' h => h.1.size) fun g14 f3 => ?_)
          refine Goes.oneA 5 3 [0, 2] ?_
          refine Goes.run [3] [] trivial ?_
          refine Goes.call0 33 #[.slice aL NL cL, .slice (some ⟨b, 0, none⟩) NS cap] (.bool (rlP c l)) (fun w' _ hI => plives_any (hLv.at' (hI.now.1.toB (by simp [Mem.ids]))) hI.now.2.1 hI.now.2.2 hNS) ?_
          cases hrl : rlP c l with
          | false =>
            refine Goes.run [1] [(true, true)] ⟨rfl, trivial⟩ ?_
            exact Goes.ret [] (.tuple #[.slice none 0 0, .slice none 0 0, .int .i64 150]) fun w' hm hI => bad w' (hI.now.1.toB (by simp [Mem.ids])) (by rw [hrl, Bool.and_false])
          | true =>
            have hV2 : steR fs day lab which c l = (stepP fs day lab which c l, 0) := by rw [hV, h0, hRR, hC, hrl]; rfl
            rw [hV2]
            obtain ⟨hll, hlx⟩ := rl_facts (by omega) hrl
            refine Goes.run [0] [(false, false)] ⟨rfl, trivial⟩ ?_
            refine Goes.rebase fun w3 hm3 hn3 hI3 => ?_
            have hI3' := hI3.now
            have hB3 : Below w.heap.size w w3 := hI3'.1.toB (by simp [Mem.ids])
            have hC3 := bg_cx hI3' hT hF htl
            have y9 : w3.heap[g9]? = some (chO lab which) := hm3.get 1
            have y14 : w3.heap[g14]? = some (dO day (.slice aF NF cF) (.slice (some ⟨b, 0, none⟩) NS cap) (.slice none 0 0) (.slice none 0 0)) := hm3.get 3
            refine ⟨AcI w.heap.size g14 day w3 (.slice none 0 0) (.slice none 0 0) (.slice none 0 0) (.slice none 0 0) [] [], [(g14, dO day (.slice aF NF cF) (.slice (some ⟨b, 0, none⟩) NS cap) (.slice none 0 0) (.slice none 0 0))], holds1 y14, by simp [Mem.ids], (AcI.refl Lvs.nil Trs.nil).stay ⟨_, _, _, y14, by decide, by decide⟩ (fun x hx => .inl (by simpa [Mem.ids] using hx)), ?_⟩
            have hTy : ∀ x ∈ Oo g14 (.slice none 0 0) (.slice none 0 0), Ty4 w3 x := oo_ty (n0 := w.heap.size) (day := day) (ls := []) (ts := []) Lvs.nil Trs.nil (dO_ty y14)
            have hLo : ∀ x ∈ Oo g14 (.slice none 0 0) (.slice none 0 0), w.heap.size ≤ x := oo_low (n0 := w.heap.size) (w := w3) (day := day) (ls := []) (ts := []) Lvs.nil Trs.nil f3
            refine Goes.loop (α := Nat × Value × Value) 60 (fun q => [(9, .pointer (some ⟨g9, 0, none⟩)), (14, .pointer (some ⟨g14, 0, none⟩)), (42, .slice aL NL cL), (43, .int .i64 NL), (44, .int .i64 q.1)]) (fun q => [(g14, dO day (.slice aF NF cF) (.slice (some ⟨b, 0, none⟩) NS cap) q.2.1 q.2.2)]) (fun q => AcI w.heap.size g14 day w3 (.slice none 0 0) (.slice none 0 0) q.2.1 q.2.2 (stepP fs day lab which c (l.take q.1)).1 (stepP fs day lab which c (l.take q.1)).2) (fun q => q.1 ≤ NL) (fun q => NL - q.1) (0, .slice none 0 0, .slice none 0 0) (Nat.zero_le _) (fun w' h => by simpa [stepP, r0] using h) ?_
            rintro ⟨i, lv, tv⟩ J hi back
            simp only at hi back ⊢
            cases hlt : decide ((i : Int) < (NL : Int)) with
            | false =>
              obtain rfl : i = NL := by have := of_decide_eq_false hlt; omega
              refine Goes.run [0, 0] [(decide ((i : Int) < (i : Int)), false)] ⟨hlt, trivial⟩ ?_
              refine Goes.open [0] ?_
              refine Goes.run [0, 1, 0, 2, 3, 0, 4, 5, 6] [] trivial ?_
              refine Goes.ret [] (.tuple #[lv, tv, .int .i64 0]) fun w' hm hI => ?_
              have hA := hI.now
              rw [List.take_of_length_le (by omega)] at hA
              have hRt := aq_rows hB3 f3 hA
              exact ⟨lv, tv, rfl, hRt.2.1, hRt.2.2, hRt.1⟩
            | true =>
              have hil : i < NL := by have := of_decide_eq_true hlt; omega
              obtain ⟨q, hq⟩ : ∃ q, l[i]? = some q := ⟨l[i]'(by omega), by simp⟩
              obtain ⟨hq0, tt, htt, hwt⟩ := hlx q (List.mem_of_getElem? hq)
              obtain ⟨dt, hdt⟩ := typ_term c (by rw [htyp]) htt
              have htt4 := w_con hdt hwt
              obtain ⟨bL, oL, he9, hbL, x1, x2⟩ := hst i q hq
              cases he9
              obtain ⟨at', fa⟩ := q
              simp only at hq0 htt x1 x2
              obtain ⟨p, rfl⟩ : ∃ p : Nat, at' = p := ⟨at'.toNat, by omega⟩
              obtain ⟨qq, uu, d', hqq, huu, hd', hsx, hszu⟩ := stepX_pk (fs := fs) (day := day) (f := fa) htt htt4 hC
              have hsn := step_snoc (fs := fs) (day := day) (lab := lab) (which := which) (c := c) ((p : Int), fa) (l.take i)
              have hstx : stx fs day lab which c ((p : Int), fa) = acq fs day uu qq fa := by unfold stx; simp only [htt]; exact hsx
              rw [hstx, ← take_more hq] at hsn
              have hlen := step_len (fs := fs) (day := day) (lab := lab) (which := which) (c := c) (l.take i)
              have hszt := (term_in c p tt htt).2.1
              refine Goes.run [0, 1] [(decide ((i : Int) < (NL : Int)), true)] ⟨hlt, trivial⟩ ?_
              refine Goes.val (Instr.indexAt 31 (.slice (some ⟨bL, oL, none⟩) NL cL) (.int .i64 i)) (.pointer (some ⟨bL, oL + i * 2, none⟩)) (fun w' _ _ => idxLv bL oL NL cL i hil w') ?_
              refine Goes.val (Instr.loadAt 70 (.pointer (some ⟨bL, oL + i * 2, none⟩))) (.agg #[.int .i64 (p : Int), .int .i64 fa]) (fun w' _ hI => by
                have hB4 : Below w.heap.size w w' := hB3.trans (ch_below hI.now.1 hLo hB3.size)
                exact loadLv ((hB4.cell (p := ⟨bL, oL + i * 2, none⟩) hbL).trans x1) ((hB4.cell (p := ⟨bL, oL + i * 2 + 1, none⟩) hbL).trans x2)) ?_
              refine Goes.new1 w3.heap.size (fun w' h => h.1.size) fun g16 f16 => ?_
              refine Goes.run [1] [] trivial ?_
              refine Goes.openY [1] [(g9, chO lab which)] (fun w' hI => holds1 (ch_other hI.1 hTy y9 (by decide))) ?_
              refine Goes.run [0, 1, 0, 2, 1, 4, 5, 0] [] trivial ?_
              refine Goes.callA0 3 34 #[.pointer (some ⟨g14, 0, none⟩), .int .i64 (p : Int), chV lab which] (.int .i64 (qq : Int)) (fun w' hm hI => by
                have hC4 := hC3.ch hI.now.1 hTy hLo
                have y0 : w'.heap[g14]? = some (dO day (.slice aF NF cF) (.slice (some ⟨b, 0, none⟩) NS cap) lv tv) := hm.get 0
                have := picked_any y0 hC4.spw hC4.spc hNS htt htt4 lab which hC
                rwa [← hqq] at this) ?_
              refine Goes.callAm 6 29 #[.pointer (some ⟨g14, 0, none⟩), .int .i64 (qq : Int), .int .i64 fa] fun w4 hm4 hn4 hI4 h04 => ?_
              have hI4' := hI4.now
              have y14' : w4.heap[g14]? = some (dO day (.slice aF NF cF) (.slice (some ⟨b, 0, none⟩) NS cap) lv tv) := hm4.get 0
              have y16 : w4.heap[g16]? = some (.cells #[.int .i64 (p : Int), .int .i64 fa] 70 (0, 0)) := hm4.get 1
              have hC4 := hC3.ch hI4'.1 hTy hLo
              have hTy4 := oo_ty hI4'.2.1 hI4'.2.2.1 (dO_ty y14')
              have n16 : g16 ∉ Oo g14 lv tv := fun hm => by
                rcases List.mem_cons.1 hm with h | h
                · rw [h, y14'] at y16; cases y16
                · rcases List.mem_append.1 h with h | h
                  · exact row_apart (hI4.mono fun _ h => h.2.1) (own_mem.2 h) (ids_get (j := 1) (o := .cells #[.int .i64 (p : Int), .int .i64 fa] 70 (0, 0)) (by kernel_rfl))
                  · exact row_apart (hI4.mono fun _ h => h.2.2.1) (own_mem.2 h) (ids_get (j := 1) (o := .cells #[.int .i64 (p : Int), .int .i64 fa] 70 (0, 0)) (by kernel_rfl))
              have hbnd : ((((stepP fs day lab which c (l.take i)).1.length + (stepP fs day lab which c (l.take i)).2.length : Nat) : Int)) + szC uu ≤ 10000000 := by
                have h1 : (((l.take i).length : Nat) : Int) ≤ 2000 := by rw [List.length_take]; omega
                have h2 : szC c * (((l.take i).length : Nat) : Int) ≤ 2000 * 2000 := Int.mul_le_mul hszc h1 (by omega) (by omega)
                omega
              refine (acquire_any (n0 := w.heap.size) (base := w.heap.size) (rf_right hR.2) hR.1 f3 hNS uu d' qq fa lv tv _ _ w4 hd' huu hC4 hI4'.2.1 hI4'.2.2.1 y14' hbnd).mono fun e w5 ⟨lv5, tv5, he5, hg5, hA5⟩ => ?_
              have hA6 := hI4'.trans hA5
              refine ⟨_, AcI w.heap.size g14 day w3 (.slice none 0 0) (.slice none 0 0) lv5 tv5 (stepP fs day lab which c (l.take (i + 1))).1 (stepP fs day lab which c (l.take (i + 1))).2, [(g14, dO day (.slice aF NF cF) (.slice (some ⟨b, 0, none⟩) NS cap) lv5 tv5)], he5, holds_of (m := [(g16, .cells #[.int .i64 (p : Int), .int .i64 fa] 70 (0, 0)), (g9, chO lab which)]) (by kernel_rfl) (holds_in (by simp only [List.forall_mem_cons, List.not_mem_nil, false_implies, implies_true, and_true]; exact ⟨(hA5.1.block g16 (lt_of_get y16) n16).trans y16, ch_other hA5.1 hTy4 (ch_other hI4'.1 hTy y9 (by decide)) (by decide)⟩)), holds1 hg5, by simp [Mem.ids], (by rw [hsn]; exact hA6.stay ⟨_, _, _, hg5, by decide, by decide⟩ (fun x hx => .inl (by simpa [Mem.ids] using hx))), ?_⟩
              refine Goes.run [] [] trivial ?_
              refine Goes.slot 44 (.int .i64 (i + 1 : Nat)) (u := .int .i64 (IntKind.i64.wrap ((i : Int) + 1))) (congrArg _ (wrap_nat (by omega))) ?_
              exact back (i + 1, lv5, tv5) _ hil (by simp only; omega) (by kernel_rfl) (by kernel_rfl) (by kernel_rfl)
        · refine Goes.lone1 2 (TookS.callM 2 28 #[cv op k t (.slice a N cc)] fun w1 hm1 hn1 hI1 h01 => ?_)
          have hB1a : Below w.heap.size w w1 := bel0 hI1
          have x0 : w1.heap[g5]? = some (cO op k t (.slice a N cc)) := hm1.get 0
          have f0 : w.heap.size ≤ g5 := fresh_of hI1 (g := g5) (ids_get (j := 0) (o := cO op k t (.slice a N cc)) (by kernel_rfl)) (by simp [Mem.ids])
          have x1 : w1.heap[g9]? = some (chO lab which) := hm1.get 1
          have f1 : w.heap.size ≤ g9 := fresh_of hI1 (g := g9) (ids_get (j := 1) (o := chO lab which) (by kernel_rfl)) (by simp [Mem.ids])
          have x2 : w1.heap[g13]? = some (dwO day (.slice aF NF cF)) := hm1.get 2
          have f2 : w.heap.size ≤ g13 := fresh_of hI1 (g := g13) (ids_get (j := 2) (o := dwO day (.slice aF NF cF)) (by kernel_rfl)) (by simp [Mem.ids])
          have x3 : w1.heap[g14]? = some (dO 0 (.slice none 0 0) (.slice none 0 0) (.slice none 0 0) (.slice none 0 0)) := hm1.get 3
          have f3 : w.heap.size ≤ g14 := fresh_of hI1 (g := g14) (ids_get (j := 3) (o := dO 0 (.slice none 0 0) (.slice none 0 0) (.slice none 0 0) (.slice none 0 0)) (by kernel_rfl)) (by simp [Mem.ids])
          refine (spots_any (n0 := w.heap.size) (hN.later hB1a) hB1a.size hszc).mono fun e w2 ⟨b, cap, A, he, hS2, hA2, hB2⟩ => ?_
          obtain ⟨NS, hNS⟩ : ∃ NS, A.length = NS := ⟨_, rfl⟩
          rw [hNS] at he hS2
          have z0 : w2.heap[g5]? = some (cO op k t (.slice a N cc)) := (hB2.block g5 (lt_of_get x0)).trans x0
          have z1 : w2.heap[g9]? = some (chO lab which) := (hB2.block g9 (lt_of_get x1)).trans x1
          have z2 : w2.heap[g13]? = some (dwO day (.slice aF NF cF)) := (hB2.block g13 (lt_of_get x2)).trans x2
          have z3 : w2.heap[g14]? = some (dO 0 (.slice none 0 0) (.slice none 0 0) (.slice none 0 0) (.slice none 0 0)) := (hB2.block g14 (lt_of_get x3)).trans x3
          have hI2 : BgI w (.slice (some ⟨b, 0, none⟩) NS cap) c A w2 := ⟨hI1.now.1.trans ⟨hB2.os, hB2.tape, hB2.output, hB2.size, fun i hi _ => hB2.block i hi⟩ (L' := Mem.ids []) (by simp [Mem.ids]), hS2, hA2⟩
          refine ⟨_, BgI w (.slice (some ⟨b, 0, none⟩) NS cap) c A, [(g5, cO op k t (.slice a N cc)), (g9, chO lab which), (g13, dwO day (.slice aF NF cF)), (g14, dO 0 (.slice none 0 0) (.slice none 0 0) (.slice none 0 0) (.slice none 0 0))], he, h01.bel hB2, holds_in (by simp only [List.forall_mem_cons, List.not_mem_nil, false_implies, implies_true, and_true]; exact ⟨z0, z1, z2, z3⟩), nd_of hn1 (by kernel_rfl), hI2.stay (by simp only [Mem.ids, List.map_cons, List.map_nil, List.forall_mem_cons, List.not_mem_nil, false_implies, implies_true, and_true]; exact ⟨⟨f0, _, _, _, z0, by decide, by decide⟩, ⟨f1, _, _, _, z1, by decide, by decide⟩, ⟨f2, _, _, _, z2, by decide, by decide⟩, ⟨f3, _, _, _, z3, by decide, by decide⟩⟩), ?_⟩
          refine Goes.run [3] [] trivial ?_
          refine Goes.oneA 5 3 [0, 2] ?_
          refine Goes.run [3] [] trivial ?_
          refine Goes.call0 33 #[.slice aL NL cL, .slice (some ⟨b, 0, none⟩) NS cap] (.bool (rlP c l)) (fun w' _ hI => plives_any (hLv.at' (hI.now.1.toB (by simp [Mem.ids]))) hI.now.2.1 hI.now.2.2 hNS) ?_
          cases hrl : rlP c l with
          | false =>
            refine Goes.run [1] [(true, true)] ⟨rfl, trivial⟩ ?_
            exact Goes.ret [] (.tuple #[.slice none 0 0, .slice none 0 0, .int .i64 150]) fun w' hm hI => bad w' (hI.now.1.toB (by simp [Mem.ids])) (by rw [hrl, Bool.and_false])
          | true =>
            have hV2 : steR fs day lab which c l = (stepP fs day lab which c l, 0) := by rw [hV, h0, hRR, hC, hrl]; rfl
            rw [hV2]
            obtain ⟨hll, hlx⟩ := rl_facts (by omega) hrl
            refine Goes.run [0] [(false, false)] ⟨rfl, trivial⟩ ?_
            refine Goes.rebase fun w3 hm3 hn3 hI3 => ?_
            have hI3' := hI3.now
            have hB3 : Below w.heap.size w w3 := hI3'.1.toB (by simp [Mem.ids])
            have hC3 := bg_cx hI3' hT hF htl
            have y9 : w3.heap[g9]? = some (chO lab which) := hm3.get 1
            have y14 : w3.heap[g14]? = some (dO day (.slice aF NF cF) (.slice (some ⟨b, 0, none⟩) NS cap) (.slice none 0 0) (.slice none 0 0)) := hm3.get 3
            refine ⟨AcI w.heap.size g14 day w3 (.slice none 0 0) (.slice none 0 0) (.slice none 0 0) (.slice none 0 0) [] [], [(g14, dO day (.slice aF NF cF) (.slice (some ⟨b, 0, none⟩) NS cap) (.slice none 0 0) (.slice none 0 0))], holds1 y14, by simp [Mem.ids], (AcI.refl Lvs.nil Trs.nil).stay ⟨_, _, _, y14, by decide, by decide⟩ (fun x hx => .inl (by simpa [Mem.ids] using hx)), ?_⟩
            have hTy : ∀ x ∈ Oo g14 (.slice none 0 0) (.slice none 0 0), Ty4 w3 x := oo_ty (n0 := w.heap.size) (day := day) (ls := []) (ts := []) Lvs.nil Trs.nil (dO_ty y14)
            have hLo : ∀ x ∈ Oo g14 (.slice none 0 0) (.slice none 0 0), w.heap.size ≤ x := oo_low (n0 := w.heap.size) (w := w3) (day := day) (ls := []) (ts := []) Lvs.nil Trs.nil f3
            refine Goes.loop (α := Nat × Value × Value) 60 (fun q => [(9, .pointer (some ⟨g9, 0, none⟩)), (14, .pointer (some ⟨g14, 0, none⟩)), (42, .slice aL NL cL), (43, .int .i64 NL), (44, .int .i64 q.1)]) (fun q => [(g14, dO day (.slice aF NF cF) (.slice (some ⟨b, 0, none⟩) NS cap) q.2.1 q.2.2)]) (fun q => AcI w.heap.size g14 day w3 (.slice none 0 0) (.slice none 0 0) q.2.1 q.2.2 (stepP fs day lab which c (l.take q.1)).1 (stepP fs day lab which c (l.take q.1)).2) (fun q => q.1 ≤ NL) (fun q => NL - q.1) (0, .slice none 0 0, .slice none 0 0) (Nat.zero_le _) (fun w' h => by simpa [stepP, r0] using h) ?_
            rintro ⟨i, lv, tv⟩ J hi back
            simp only at hi back ⊢
            cases hlt : decide ((i : Int) < (NL : Int)) with
            | false =>
              obtain rfl : i = NL := by have := of_decide_eq_false hlt; omega
              refine Goes.run [0, 0] [(decide ((i : Int) < (i : Int)), false)] ⟨hlt, trivial⟩ ?_
              refine Goes.open [0] ?_
              refine Goes.run [0, 1, 0, 2, 3, 0, 4, 5, 6] [] trivial ?_
              refine Goes.ret [] (.tuple #[lv, tv, .int .i64 0]) fun w' hm hI => ?_
              have hA := hI.now
              rw [List.take_of_length_le (by omega)] at hA
              have hRt := aq_rows hB3 f3 hA
              exact ⟨lv, tv, rfl, hRt.2.1, hRt.2.2, hRt.1⟩
            | true =>
              have hil : i < NL := by have := of_decide_eq_true hlt; omega
              obtain ⟨q, hq⟩ : ∃ q, l[i]? = some q := ⟨l[i]'(by omega), by simp⟩
              obtain ⟨hq0, tt, htt, hwt⟩ := hlx q (List.mem_of_getElem? hq)
              obtain ⟨dt, hdt⟩ := typ_term c (by rw [htyp]) htt
              have htt4 := w_con hdt hwt
              obtain ⟨bL, oL, he9, hbL, x1, x2⟩ := hst i q hq
              cases he9
              obtain ⟨at', fa⟩ := q
              simp only at hq0 htt x1 x2
              obtain ⟨p, rfl⟩ : ∃ p : Nat, at' = p := ⟨at'.toNat, by omega⟩
              obtain ⟨qq, uu, d', hqq, huu, hd', hsx, hszu⟩ := stepX_pk (fs := fs) (day := day) (f := fa) htt htt4 hC
              have hsn := step_snoc (fs := fs) (day := day) (lab := lab) (which := which) (c := c) ((p : Int), fa) (l.take i)
              have hstx : stx fs day lab which c ((p : Int), fa) = acq fs day uu qq fa := by unfold stx; simp only [htt]; exact hsx
              rw [hstx, ← take_more hq] at hsn
              have hlen := step_len (fs := fs) (day := day) (lab := lab) (which := which) (c := c) (l.take i)
              have hszt := (term_in c p tt htt).2.1
              refine Goes.run [0, 1] [(decide ((i : Int) < (NL : Int)), true)] ⟨hlt, trivial⟩ ?_
              refine Goes.val (Instr.indexAt 31 (.slice (some ⟨bL, oL, none⟩) NL cL) (.int .i64 i)) (.pointer (some ⟨bL, oL + i * 2, none⟩)) (fun w' _ _ => idxLv bL oL NL cL i hil w') ?_
              refine Goes.val (Instr.loadAt 70 (.pointer (some ⟨bL, oL + i * 2, none⟩))) (.agg #[.int .i64 (p : Int), .int .i64 fa]) (fun w' _ hI => by
                have hB4 : Below w.heap.size w w' := hB3.trans (ch_below hI.now.1 hLo hB3.size)
                exact loadLv ((hB4.cell (p := ⟨bL, oL + i * 2, none⟩) hbL).trans x1) ((hB4.cell (p := ⟨bL, oL + i * 2 + 1, none⟩) hbL).trans x2)) ?_
              refine Goes.new1 w3.heap.size (fun w' h => h.1.size) fun g16 f16 => ?_
              refine Goes.run [1] [] trivial ?_
              refine Goes.openY [1] [(g9, chO lab which)] (fun w' hI => holds1 (ch_other hI.1 hTy y9 (by decide))) ?_
              refine Goes.run [0, 1, 0, 2, 1, 4, 5, 0] [] trivial ?_
              refine Goes.callA0 3 34 #[.pointer (some ⟨g14, 0, none⟩), .int .i64 (p : Int), chV lab which] (.int .i64 (qq : Int)) (fun w' hm hI => by
                have hC4 := hC3.ch hI.now.1 hTy hLo
                have y0 : w'.heap[g14]? = some (dO day (.slice aF NF cF) (.slice (some ⟨b, 0, none⟩) NS cap) lv tv) := hm.get 0
                have := picked_any y0 hC4.spw hC4.spc hNS htt htt4 lab which hC
                rwa [← hqq] at this) ?_
              refine Goes.callAm 6 29 #[.pointer (some ⟨g14, 0, none⟩), .int .i64 (qq : Int), .int .i64 fa] fun w4 hm4 hn4 hI4 h04 => ?_
              have hI4' := hI4.now
              have y14' : w4.heap[g14]? = some (dO day (.slice aF NF cF) (.slice (some ⟨b, 0, none⟩) NS cap) lv tv) := hm4.get 0
              have y16 : w4.heap[g16]? = some (.cells #[.int .i64 (p : Int), .int .i64 fa] 70 (0, 0)) := hm4.get 1
              have hC4 := hC3.ch hI4'.1 hTy hLo
              have hTy4 := oo_ty hI4'.2.1 hI4'.2.2.1 (dO_ty y14')
              have n16 : g16 ∉ Oo g14 lv tv := fun hm => by
                rcases List.mem_cons.1 hm with h | h
                · rw [h, y14'] at y16; cases y16
                · rcases List.mem_append.1 h with h | h
                  · exact row_apart (hI4.mono fun _ h => h.2.1) (own_mem.2 h) (ids_get (j := 1) (o := .cells #[.int .i64 (p : Int), .int .i64 fa] 70 (0, 0)) (by kernel_rfl))
                  · exact row_apart (hI4.mono fun _ h => h.2.2.1) (own_mem.2 h) (ids_get (j := 1) (o := .cells #[.int .i64 (p : Int), .int .i64 fa] 70 (0, 0)) (by kernel_rfl))
              have hbnd : ((((stepP fs day lab which c (l.take i)).1.length + (stepP fs day lab which c (l.take i)).2.length : Nat) : Int)) + szC uu ≤ 10000000 := by
                have h1 : (((l.take i).length : Nat) : Int) ≤ 2000 := by rw [List.length_take]; omega
                have h2 : szC c * (((l.take i).length : Nat) : Int) ≤ 2000 * 2000 := Int.mul_le_mul hszc h1 (by omega) (by omega)
                omega
              refine (acquire_any (n0 := w.heap.size) (base := w.heap.size) (rf_right hR.2) hR.1 f3 hNS uu d' qq fa lv tv _ _ w4 hd' huu hC4 hI4'.2.1 hI4'.2.2.1 y14' hbnd).mono fun e w5 ⟨lv5, tv5, he5, hg5, hA5⟩ => ?_
              have hA6 := hI4'.trans hA5
              refine ⟨_, AcI w.heap.size g14 day w3 (.slice none 0 0) (.slice none 0 0) lv5 tv5 (stepP fs day lab which c (l.take (i + 1))).1 (stepP fs day lab which c (l.take (i + 1))).2, [(g14, dO day (.slice aF NF cF) (.slice (some ⟨b, 0, none⟩) NS cap) lv5 tv5)], he5, holds_of (m := [(g16, .cells #[.int .i64 (p : Int), .int .i64 fa] 70 (0, 0)), (g9, chO lab which)]) (by kernel_rfl) (holds_in (by simp only [List.forall_mem_cons, List.not_mem_nil, false_implies, implies_true, and_true]; exact ⟨(hA5.1.block g16 (lt_of_get y16) n16).trans y16, ch_other hA5.1 hTy4 (ch_other hI4'.1 hTy y9 (by decide)) (by decide)⟩)), holds1 hg5, by simp [Mem.ids], (by rw [hsn]; exact hA6.stay ⟨_, _, _, hg5, by decide, by decide⟩ (fun x hx => .inl (by simpa [Mem.ids] using hx))), ?_⟩
              refine Goes.run [] [] trivial ?_
              refine Goes.slot 44 (.int .i64 (i + 1 : Nat)) (u := .int .i64 (IntKind.i64.wrap ((i : Int) + 1))) (congrArg _ (wrap_nat (by omega))) ?_
              exact back (i + 1, lv5, tv5) _ hil (by simp only; omega) (by kernel_rfl) (by kernel_rfl) (by kernel_rfl)
end Go.Proofs.YthnojedlndblbaaGreatDoor
namespace Go.Proofs.YthnojedlndblbaaGreatDoor
open Go Go.RowKit

theorem own_more {w : World} {b b1 e1 s1 n1 : Nat} {v1 : Value} {x1 : List Value} (h : w.ownsRow b1 e1 s1 v1 n1 x1) (hb : b ≤ b1) : w.ownsRow b e1 s1 v1 n1 x1 := by
  refine ⟨h.1, ?_⟩
  rcases h.2 with hn | ⟨g, cap, cur, e, h0, rest⟩
  · exact .inl hn
  · exact .inr ⟨g, cap, cur, e, by omega, rest⟩
theorem lvC_at : ∀ {l : List (Int × Int)} {i : Nat} {q : Int × Int}, l[i]? = some q → (lvC l)[i * 2]? = some (.int .i64 q.1) ∧ (lvC l)[i * 2 + 1]? = some (.int .i64 q.2)
  | [], i, q, h => by simp at h
  | x :: r, 0, q, h => by simp at h; subst h; exact ⟨rfl, rfl⟩
  | x :: r, i + 1, q, h => by
    obtain ⟨h1, h2⟩ := lvC_at (l := r) (i := i) (q := q) (by simpa using h)
    have e : lvC (x :: r) = [.int .i64 x.1, .int .i64 x.2] ++ lvC r := by unfold lvC; simp
    rw [e]
    constructor
    · rw [List.getElem?_append_right (by simp; omega)]; simpa [show (i + 1) * 2 - 2 = i * 2 by omega] using h1
    · rw [List.getElem?_append_right (by simp; omega)]; simpa [show (i + 1) * 2 + 1 - 2 = i * 2 + 1 by omega] using h2
theorem trC_at {day : Int} : ∀ {l : List (List UInt8 × Int)} {i : Nat} {q : List UInt8 × Int}, l[i]? = some q → ∀ j u, [Value.int .i64 day, strV q.1, .int .i64 q.2][j]? = some u → (trC day l)[i * 3 + j]? = some u
  | [], i, q, h => by simp at h
  | x :: r, 0, q, h => by
    simp at h; subst h
    intro j u hu
    have e : trC day (x :: r) = [.int .i64 day, strV x.1, .int .i64 x.2] ++ trC day r := by unfold trC; simp
    rw [e, Nat.zero_mul, Nat.zero_add, List.getElem?_append_left (by have := (List.getElem?_eq_some_iff.1 hu).1; simpa using this)]
    exact hu
  | x :: r, i + 1, q, h => by
    intro j u hu
    have h1 := trC_at (day := day) (l := r) (i := i) (q := q) (by simpa using h) j u hu
    have e : trC day (x :: r) = [.int .i64 day, strV x.1, .int .i64 x.2] ++ trC day r := by unfold trC; simp
    rw [e, List.getElem?_append_right (by simp; omega)]
    simpa [show (i + 1) * 3 + j - 3 = i * 3 + j by omega] using h1
/-- A row, opened. -/
theorem own_open {w : World} {b1 e1 s1 n1 : Nat} {v1 : Value} {x1 : List Value} (h : w.ownsRow b1 e1 s1 v1 n1 x1) (h0 : n1 ≠ 0) : ∃ g cap cur, v1 = .slice (some ⟨g, 0, none⟩) n1 cap ∧ w.heap[g]? = some (.cells cur e1 (0, 0)) ∧ n1 ≤ cap ∧ cap ≤ maxLen ∧ ∀ (i : Nat) (u : Value), x1[i]? = some u → cur[i]? = some u := by
  rcases h.2 with ⟨-, hn⟩ | ⟨g, cap, cur, e, -, hg, h1, h2, -, ht⟩
  · exact absurd hn h0
  · refine ⟨g, cap, cur, e, hg, h1, h2, fun i u hu => ?_⟩
    rw [← ht, List.getElem?_take] at hu
    split at hu
    · simpa using hu
    · cases hu
theorem Lvs.sts {base : Nat} {w : World} {v : Value} {l : List (Int × Int)} (h : Lvs base w v l) : Sts w.heap.size w v l := by
  by_cases h0 : l.length = 0
  · obtain ⟨a, cap, e⟩ := own_form h
    have hl := List.eq_nil_of_length_eq_zero h0
    subst hl
    rcases h.2 with ⟨e2, -⟩ | ⟨g, cap', cur, e2, -, -, h1, h2, -⟩
    · exact ⟨none, 0, e2, ⟨by simp, by omega⟩, fun i q hq => by simp at hq⟩
    · exact ⟨_, cap', e2, ⟨h1, by unfold maxLen at h2; omega⟩, fun i q hq => by simp at hq⟩
  · obtain ⟨g, cap, cur, e, hg, h1, h2, hc⟩ := own_open h h0
    refine ⟨some ⟨g, 0, none⟩, cap, e, ⟨h1, by unfold maxLen at h2; omega⟩, fun i q hq => ⟨g, 0, rfl, lt_of_get hg, ?_, ?_⟩⟩
    · rw [Nat.zero_add]; exact cell_obj hg (hc _ _ (lvC_at hq).1)
    · rw [Nat.zero_add]; exact cell_obj hg (hc _ _ (lvC_at hq).2)
section
variable {P : Program} {F : Exit → Act → World → Prop} {Inv : World → Prop} {s : St}
/-- Begin or Step is called. -/
theorem Goes.callLT (f : FuncId) (args : Array Value) (day : Int) (r : R2 × Int) (n0 : Nat) (hr : ∀ w1, Holds s.mem w1 → Stay s.mem.ids w1 Inv → Calls P f args w1 (LTQ day w1 r)) (hsz : ∀ w', Inv w' → n0 ≤ w'.heap.size)
    (h : ∀ aL cL aT cT, Goes P F (fun w' => Inv w' ∧ (Lvs n0 w' (.slice aL r.1.1.length cL) r.1.1 ∧ Trs n0 day w' (.slice aT r.1.2.length cT) r.1.2)) (put0 s (.tuple #[.slice aL r.1.1.length cL, .slice aT r.1.2.length cT, .int .i64 r.2])))
    (ha : ask s = some (f, args) := by kernel_rfl) (hw : wants s = true := by kernel_rfl) (hf : okf P f = true := by kernel_rfl) : Goes P F Inv s :=
  Goes.call f args (fun w1 hm hn hI => (hr w1 hm hI).mono fun e w2 ⟨lv, tv, he, hl, ht, hB⟩ => by
    obtain ⟨aL, cL, rfl⟩ := own_form hl
    obtain ⟨aT, cT, rfl⟩ := own_form ht
    have hn1 := hsz w1 hI.now
    have key : ∀ {b1 e1 s1 n1 : Nat} {v1 : Value} {x1 : List Value}, w2.ownsRow w1.heap.size e1 s1 v1 n1 x1 → ∀ b, v1.ownBlock = some b → b ∉ s.mem.ids := fun hr b hb hmem => by
      have h1 := (hr.lt b hb).1
      obtain ⟨q, hq, rfl⟩ := List.mem_map.1 hmem
      have := lt_of_get (in_holds hm q hq)
      omega
    exact ⟨_, _, s.mem, he, hm.bel hB, hn, fun w3 hc => ⟨hI.bel hB w3 hc, own_more (own_ch hl hc (key (b1 := 0) hl)) hn1, own_more (own_ch ht hc (key (b1 := 0) ht)) hn1⟩, h aL cL aT cT⟩) ha hw hf
end
theorem idxTr (b n cap k : Nat) (h : k < n) (w : World) : (Instr.indexAt 32 (.slice (some ⟨b, 0, none⟩) n cap) (.int .i64 k)).run Tryz.prog w = .ok (.pointer (some ⟨b, k * 3, none⟩)) w := by go_simp
theorem idxLv0 (b n cap k : Nat) (h : k < n) (w : World) : (Instr.indexAt 31 (.slice (some ⟨b, 0, none⟩) n cap) (.int .i64 k)).run Tryz.prog w = .ok (.pointer (some ⟨b, k * 2, none⟩)) w := by go_simp
theorem sizeTr : (Tryz.prog.info? 50).map (·.size) = some 3 := by kernel_rfl
theorem loadTr {w : World} {g : Nat} {cur : Array Value} {day : Int} {ts : List (List UInt8 × Int)} {i : Nat} {q : List UInt8 × Int} (hg : w.heap[g]? = some (.cells cur 50 (0, 0))) (hc : ∀ (i : Nat) (u : Value), (trC day ts)[i]? = some u → cur[i]? = some u) (hq : ts[i]? = some q) : (Instr.loadAt 50 (.pointer (some ⟨g, i * 3, none⟩))).run Tryz.prog w = .ok (.agg #[.int .i64 day, strV q.1, .int .i64 q.2]) w :=
  loadAgg Tryz.isAgg50 sizeTr [.int .i64 day, strV q.1, .int .i64 q.2] rfl fun j u hu => cell_obj hg (hc _ _ (trC_at hq j u hu))
theorem loadLvR {w : World} {g : Nat} {cur : Array Value} {ls : List (Int × Int)} {i : Nat} {q : Int × Int} (hg : w.heap[g]? = some (.cells cur 70 (0, 0))) (hc : ∀ (i : Nat) (u : Value), (lvC ls)[i]? = some u → cur[i]? = some u) (hq : ls[i]? = some q) : (Instr.loadAt 70 (.pointer (some ⟨g, i * 2, none⟩))).run Tryz.prog w = .ok (.agg #[.int .i64 q.1, .int .i64 q.2]) w :=
  loadLv (cell_obj hg (hc _ _ (lvC_at hq).1)) (cell_obj hg (hc _ _ (lvC_at hq).2))
theorem hex2 {w w' : World} {b b' : Nat} {ob ob' : Obj} (hb : w.heap[b]? = some ob) (hb' : w.heap[b']? = some ob') (h : Ch (Mem.ids []) w w') : Holds [(b, ob), (b', ob')] w' := holds_in (by simp only [List.forall_mem_cons, List.not_mem_nil, false_implies, implies_true, and_true]; exact ⟨(h.block b (lt_of_get hb) (by simp [Mem.ids])).trans hb, (h.block b' (lt_of_get hb') (by simp [Mem.ids])).trans hb'⟩)
set_option maxRecDepth 100000 in
seal rn rnN rnS Goes ans atEnd put0 put putM opened openedY putA0 putA oneSt st0 keep mkSt newSt in
theorem samelives_any {base base' : Nat} {l : List (Int × Int)} {v v' : Value} {w : World} (h : Lvs base w v l) (h' : Lvs base' w v' l) (hl : l.length ≤ 1000000000) : Calls Tryz.prog 14 #[v, v'] w fun e w' => e = .returned (.bool true) ∧ Below w.heap.size w w' := by
  obtain ⟨a, c, rfl⟩ := own_form h
  obtain ⟨a', c', rfl⟩ := own_form h'
  obtain ⟨N, hN⟩ : ∃ N, l.length = N := ⟨_, rfl⟩
  rw [hN] at hl h h' ⊢
  refine Goes.begin Tryz.func14 [] (fun _ => True) Holds.nil (by simp [Mem.ids]) (fun _ _ => trivial) ?_
  refine Goes.run [0] [((N : Int) != (N : Int), false)] ⟨by simp, trivial⟩ ?_
  refine Goes.loop0 (α := Nat) 26 (fun i => [(0, .slice a N c), (1, .slice a' N c'), (5, .int .i64 i)]) [] (fun i => i ≤ N) (fun i => N - i) 0 (Nat.zero_le _) ?_
  rintro i J hi back
  cases hlt : decide ((i : Int) < (N : Int)) with
  | false =>
    refine Goes.run [0, 0] [(decide ((i : Int) < (N : Int)), false)] ⟨hlt, trivial⟩ ?_
    exact Goes.ret [] (.bool true) fun w' hm hI => ⟨rfl, bel0 hI⟩
  | true =>
    have hil : i < N := by have := of_decide_eq_true hlt; omega
    obtain ⟨q, hq⟩ : ∃ q, l[i]? = some q := ⟨l[i]'(by omega), by simp⟩
    obtain ⟨g, cap, cur, he, hg, -, -, hc⟩ := own_open h (by omega)
    obtain ⟨g', cap', cur', he', hg', -, -, hc'⟩ := own_open h' (by omega)
    rw [hN] at he he'
    cases he
    cases he'
    refine Goes.run [0, 1] [(decide ((i : Int) < (N : Int)), true)] ⟨hlt, trivial⟩ ?_
    refine Goes.openY [] [(g, .cells cur 70 (0, 0)), (g', .cells cur' 70 (0, 0))] (fun w' hI => hex2 hg hg' hI.1) ?_
    refine Goes.run [0, 1] [] trivial ?_
    refine Goes.valA 2 (Instr.indexAt 31 (.slice (some ⟨g, 0, none⟩) N c) (.int .i64 i)) (.pointer (some ⟨g, i * 2, none⟩)) (fun w' _ => idxLv0 g N c i hil w') ?_
    refine Goes.valA 3 (Instr.loadAt 70 (.pointer (some ⟨g, i * 2, none⟩))) (.agg #[.int .i64 q.1, .int .i64 q.2]) (fun w' hm => loadLvR (cur := cur) (hm.get 0) hc hq) ?_
    refine Goes.run [4, 5] [] trivial ?_
    refine Goes.valA 6 (Instr.indexAt 31 (.slice (some ⟨g', 0, none⟩) N c') (.int .i64 i)) (.pointer (some ⟨g', i * 2, none⟩)) (fun w' _ => idxLv0 g' N c' i hil w') ?_
    refine Goes.valA 7 (Instr.loadAt 70 (.pointer (some ⟨g', i * 2, none⟩))) (.agg #[.int .i64 q.1, .int .i64 q.2]) (fun w' hm => loadLvR (cur := cur') (hm.get 1) hc' hq) ?_
    refine Goes.valA 8 (do eqGuard .neq 70 (.tmp 20) (.tmp 24) (.agg #[.int .i64 q.1, .int .i64 q.2]) (.agg #[.int .i64 q.1, .int .i64 q.2]); binOp .neq 70 (.agg #[.int .i64 q.1, .int .i64 q.2]) (.agg #[.int .i64 q.1, .int .i64 q.2])) (.bool false) (fun w' _ => by have := neq_agg (t := 70) (.tmp 20) (.tmp 24) (by kernel_rfl) (eqLv q.1 q.2 q.1 q.2 w'); simpa using this) ?_
    refine Goes.run [0] [(false, false)] ⟨rfl, trivial⟩ ?_
    refine Goes.slot 5 (.int .i64 (i + 1 : Nat)) (u := .int .i64 (IntKind.i64.wrap ((i : Int) + 1))) (congrArg _ (wrap_nat (by omega))) ?_
    exact back (i + 1) _ hil (by omega) (by kernel_rfl) (by kernel_rfl) (by kernel_rfl)
set_option maxRecDepth 100000 in
seal rn rnN rnS Goes ans atEnd put0 put putM opened openedY putA0 putA oneSt st0 keep mkSt newSt in
theorem sametrans_any {base base' : Nat} {l : List (List UInt8 × Int)} {v v' : Value} {w : World} {day : Int} (h : Trs base day w v l) (h' : Trs base' day w v' l) (hl : l.length ≤ 1000000000) : Calls Tryz.prog 15 #[v, v'] w fun e w' => e = .returned (.bool true) ∧ Below w.heap.size w w' := by
  obtain ⟨a, c, rfl⟩ := own_form h
  obtain ⟨a', c', rfl⟩ := own_form h'
  obtain ⟨N, hN⟩ : ∃ N, l.length = N := ⟨_, rfl⟩
  rw [hN] at hl h h' ⊢
  refine Goes.begin Tryz.func15 [] (fun _ => True) Holds.nil (by simp [Mem.ids]) (fun _ _ => trivial) ?_
  refine Goes.run [0] [((N : Int) != (N : Int), false)] ⟨by simp, trivial⟩ ?_
  refine Goes.loop0 (α := Nat) 26 (fun i => [(0, .slice a N c), (1, .slice a' N c'), (5, .int .i64 i)]) [] (fun i => i ≤ N) (fun i => N - i) 0 (Nat.zero_le _) ?_
  rintro i J hi back
  cases hlt : decide ((i : Int) < (N : Int)) with
  | false =>
    refine Goes.run [0, 0] [(decide ((i : Int) < (N : Int)), false)] ⟨hlt, trivial⟩ ?_
    exact Goes.ret [] (.bool true) fun w' hm hI => ⟨rfl, bel0 hI⟩
  | true =>
    have hil : i < N := by have := of_decide_eq_true hlt; omega
    obtain ⟨q, hq⟩ : ∃ q, l[i]? = some q := ⟨l[i]'(by omega), by simp⟩
    obtain ⟨g, cap, cur, he, hg, -, -, hc⟩ := own_open h (by omega)
    obtain ⟨g', cap', cur', he', hg', -, -, hc'⟩ := own_open h' (by omega)
    rw [hN] at he he'
    cases he
    cases he'
    refine Goes.run [0, 1] [(decide ((i : Int) < (N : Int)), true)] ⟨hlt, trivial⟩ ?_
    refine Goes.openY [] [(g, .cells cur 50 (0, 0)), (g', .cells cur' 50 (0, 0))] (fun w' hI => hex2 hg hg' hI.1) ?_
    refine Goes.run [0, 1] [] trivial ?_
    refine Goes.valA 2 (Instr.indexAt 32 (.slice (some ⟨g, 0, none⟩) N c) (.int .i64 i)) (.pointer (some ⟨g, i * 3, none⟩)) (fun w' _ => idxTr g N c i hil w') ?_
    refine Goes.valA 3 (Instr.loadAt 50 (.pointer (some ⟨g, i * 3, none⟩))) (.agg #[.int .i64 day, strV q.1, .int .i64 q.2]) (fun w' hm => loadTr (cur := cur) (hm.get 0) hc hq) ?_
    refine Goes.run [4, 5] [] trivial ?_
    refine Goes.valA 6 (Instr.indexAt 32 (.slice (some ⟨g', 0, none⟩) N c') (.int .i64 i)) (.pointer (some ⟨g', i * 3, none⟩)) (fun w' _ => idxTr g' N c' i hil w') ?_
    refine Goes.valA 7 (Instr.loadAt 50 (.pointer (some ⟨g', i * 3, none⟩))) (.agg #[.int .i64 day, strV q.1, .int .i64 q.2]) (fun w' hm => loadTr (cur := cur') (hm.get 1) hc' hq) ?_
    refine Goes.valA 8 (do eqGuard .neq 50 (.tmp 20) (.tmp 24) (.agg #[.int .i64 day, strV q.1, .int .i64 q.2]) (.agg #[.int .i64 day, strV q.1, .int .i64 q.2]); binOp .neq 50 (.agg #[.int .i64 day, strV q.1, .int .i64 q.2]) (.agg #[.int .i64 day, strV q.1, .int .i64 q.2])) (.bool false) (fun w' _ => by have := neq_agg (t := 50) (.tmp 20) (.tmp 24) (by kernel_rfl) (eqTr day q.1 q.2 day q.1 q.2 w'); simpa using this) ?_
    refine Goes.run [0] [(false, false)] ⟨rfl, trivial⟩ ?_
    refine Goes.slot 5 (.int .i64 (i + 1 : Nat)) (u := .int .i64 (IntKind.i64.wrap ((i : Int) + 1))) (congrArg _ (wrap_nat (by omega))) ?_
    exact back (i + 1) _ hil (by omega) (by kernel_rfl) (by kernel_rfl) (by kernel_rfl)
/-- The contract that every law shows first. -/
def EURd : List UInt8 := [69, 85, 82]
def sh0 : Co := .mk 29 10 [] [.mk 24 0 EURd []]
theorem sh0_chk : (chkP sh0 == 0) = true := by kernel_rfl
theorem sh0_beg : begR [] 5 sh0 = ((([(0, 1000000)], []) : R2), 0) := by
  unfold begR
  rw [sh0_chk]
  rfl
theorem sh0_ste : steR [] 10 [] 0 sh0 [(0, 1000000)] = ((([], [(EURd, 1000000)]) : R2), 0) := by
  unfold steR
  rw [sh0_chk]
  rfl
theorem sh0_nc {w : World} {gk : Nat} (hg : w.heap[gk]? = some (cO 24 0 EURd (.slice none 0 0))) : Nc w.heap.size w (cv 29 10 [] (.slice (some ⟨gk, 0, none⟩) 1 1)) sh0 := by
  refine Nc.mk 29 10 [] [.mk 24 0 EURd []] (some ⟨gk, 0, none⟩) 1 (fun _ => cv 24 0 EURd (.slice none 0 0)) ⟨by omega, by omega, by simp⟩ ⟨by simp, by omega⟩ (fun i hi => ?_) (fun i t h => ?_)
  · refine ⟨gk, 0, rfl, lt_of_get hg, ?_⟩
    match i, hi with
    | 0, _ => exact ⟨24, 0, EURd, _, rfl, cell_obj hg rfl, cell_obj hg rfl, cell_obj hg rfl, cell_obj hg rfl⟩
  · match i, h with
    | 0, h => cases h; exact leafC ⟨by omega, by omega, by simp [EURd]⟩
theorem Fds.nil0 {n : Nat} {w : World} : Fds n w (.slice none 0 0) [] := ⟨none, 0, rfl, ⟨by simp, by omega⟩, fun i f h => by simp at h⟩
set_option maxRecDepth 100000 in
seal rn rnN rnS Goes ans atEnd put0 put putM opened openedY putA0 putA oneSt st0 keep mkSt newSt in
theorem shownd_any (w : World) (hT : Tab w) (htl : 1 < w.heap.size) : Calls Tryz.prog 9 #[] w fun e w' => e = .returned (.bool true) ∧ Below w.heap.size w w' := by
  refine Goes.begin Tryz.func9 [] (fun _ => True) Holds.nil (by simp [Mem.ids]) (fun _ _ => trivial) ?_
  refine Goes.run2 [1, 1] [] trivial fun gk g1 => ?_
  refine Goes.callLT 12 #[cv 29 10 [] (.slice (some ⟨gk, 0, none⟩) 1 1), .int .i64 5, .slice none 0 0] 5 ((([(0, 1000000)], []) : R2), 0) w.heap.size (fun w1 hm hI => by have := begin_any (fs := []) 5 (hT.below (bel0 hI)) (Nat.lt_of_lt_of_le htl (bel0 hI).size) (sh0_nc (gk := gk) (hm.get 0)) Fds.nil0 (by simp); rwa [sh0_beg] at this) (fun w' h => h.1.size) fun aL cL aT cT => ?_
  refine Goes.run [1] [] trivial ?_
  refine Goes.callLT 16 #[cv 29 10 [] (.slice (some ⟨gk, 0, none⟩) 1 1), .slice aL 1 cL, .int .i64 10, .slice none 0 0, chV [] 0] 10 ((([], [(EURd, 1000000)]) : R2), 0) w.heap.size (fun w1 hm hI => by have := step_any (fs := []) 10 [] 0 (hT.below (bel0 (hI.mono fun _ h => h.1))) (Nat.lt_of_lt_of_le htl (bel0 (hI.mono fun _ h => h.1)).size) (sh0_nc (gk := gk) (hm.get 0)) (Lvs.sts hI.now.2.1) Fds.nil0 (by simp) (by simp); rwa [sh0_ste] at this) (fun w' h => h.1.1.size) fun aM cM aU cU => ?_
  refine Goes.run [1, 1, 1, 1, 1, 1] [(true, true), (true, true), (true, true), (true, true), (true, true), (true, true)] ⟨rfl, rfl, rfl, rfl, rfl, rfl, trivial⟩ ?_
  refine Goes.pure (Q := ∃ gU, aU = some ⟨gU, 0, none⟩) (fun w' hI => by obtain ⟨g, cap, cur, he, -⟩ := own_open hI.2.2 (by simp); cases he; exact ⟨g, rfl⟩) fun ⟨gU, hgU⟩ => ?_
  subst hgU
  refine Goes.val (Instr.indexAt 32 (.slice (some ⟨gU, 0, none⟩) 1 cU) (.int .i64 ((0 : Nat) : Int))) (.pointer (some ⟨gU, 0 * 3, none⟩)) (fun w' _ _ => idxTr gU 1 cU 0 (by omega) w') ?_
  refine Goes.val (Instr.loadAt 50 (.pointer (some ⟨gU, 0 * 3, none⟩))) (.agg #[.int .i64 10, strV EURd, .int .i64 1000000]) (fun w' _ hI => by
    obtain ⟨g, cap, cur, he, hg, -, -, hc⟩ := own_open hI.now.2.2 (by simp)
    cases he
    exact loadTr (ts := [(EURd, 1000000)]) (i := 0) hg hc rfl) ?_
  refine Goes.upto 56 [] [] trivial ?_
  refine Goes.val (do eqGuard .eql 50 (.tmp 54) (.tmp 55) (.agg #[.int .i64 10, strV EURd, .int .i64 1000000]) (.agg #[.int .i64 10, strV EURd, .int .i64 1000000]); binOp .eql 50 (.agg #[.int .i64 10, strV EURd, .int .i64 1000000]) (.agg #[.int .i64 10, strV EURd, .int .i64 1000000])) (.bool true) (fun w' _ _ => by have := eql_agg (t := 50) (.tmp 54) (.tmp 55) (by kernel_rfl) (eqTr 10 EURd 1000000 10 EURd 1000000 w'); simpa using this) ?_
  refine Goes.run [] [] trivial ?_
  exact Goes.ret [] (.bool true) fun w' hm hI => ⟨rfl, bel0 (hI.mono fun _ h => h.1.1)⟩
end Go.Proofs.YthnojedlndblbaaGreatDoor
