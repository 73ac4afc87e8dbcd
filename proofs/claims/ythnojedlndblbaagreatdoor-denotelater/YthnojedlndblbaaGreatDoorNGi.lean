/- texts put together: NAcq NAcq2 -/
import Derived.Test.YthnojedlndblbaaGreatDoorNGh
namespace Go.Proofs.YthnojedlndblbaaGreatDoor
open Go Go.RowKit

def mwP (op : Int) : Bool := op == 26 || op == 28 || op == 29 || op == 30 || op == 31

set_option maxRecDepth 100000 in
seal rn rnN rnS Goes ans atEnd put0 put putM opened openedY putA0 putA oneSt st0 keep mkSt newSt in
theorem maywait_any (op k : Int) (s : List UInt8) (ak : Option Addr) (nk ck : Nat) (ap : Option Addr) (np cp : Nat) (w : World) : Calls Tryz.prog 58 #[spV op k s (.slice ak nk ck) (.slice ap np cp)] w fun e w' => e = .returned (.bool (mwP op)) ∧ Below w.heap.size w w' := by
  refine Goes.begin Tryz.func58 [] (fun _ => True) Holds.nil (by simp [Mem.ids]) (fun _ _ => trivial) ?_
  cases h26 : (op == 26) with
  | true =>
    refine Goes.run1 [0, 1, 1] [(op == 26, true), (op == 26, true)] ⟨h26, h26, trivial⟩ fun g => ?_
    exact Goes.ret [] (.bool true) fun w' hm hI => ⟨by unfold mwP; rw [h26]; rfl, bel0 hI⟩
  | false =>
  cases h28 : (op == 28) with
  | true =>
    refine Goes.run1 [0, 0, 1, 1] [(op == 28, true), (op == 28, true), (op == 26, false)] ⟨h28, h28, h26, trivial⟩ fun g => ?_
    exact Goes.ret [] (.bool true) fun w' hm hI => ⟨by unfold mwP; rw [h26, h28]; rfl, bel0 hI⟩
  | false =>
  cases h29 : (op == 29) with
  | true =>
    refine Goes.run1 [0, 0, 0, 1, 1] [(op == 29, true), (op == 29, true), (op == 28, false), (op == 26, false)] ⟨h29, h29, h28, h26, trivial⟩ fun g => ?_
    exact Goes.ret [] (.bool true) fun w' hm hI => ⟨by unfold mwP; rw [h26, h28, h29]; rfl, bel0 hI⟩
  | false =>
  cases h30 : (op == 30) with
  | true =>
    refine Goes.run1 [0, 0, 0, 0, 1, 1] [(op == 30, true), (op == 30, true), (op == 29, false), (op == 28, false), (op == 26, false)] ⟨h30, h30, h29, h28, h26, trivial⟩ fun g => ?_
    exact Goes.ret [] (.bool true) fun w' hm hI => ⟨by unfold mwP; rw [h26, h28, h29, h30]; rfl, bel0 hI⟩
  | false =>
  cases h31 : (op == 31) with
  | true =>
    refine Goes.run1 [0, 0, 0, 0, 0, 1] [(op == 31, true), (op == 30, false), (op == 29, false), (op == 28, false), (op == 26, false)] ⟨h31, h30, h29, h28, h26, trivial⟩ fun g => ?_
    exact Goes.ret [] (.bool true) fun w' hm hI => ⟨by unfold mwP; rw [h26, h28, h29, h30, h31]; rfl, bel0 hI⟩
  | false =>
    refine Goes.run1 [0, 0, 0, 0, 0, 0] [(op == 31, false), (op == 30, false), (op == 29, false), (op == 28, false), (op == 26, false)] ⟨h31, h30, h29, h28, h26, trivial⟩ fun g => ?_
    exact Goes.ret [] (.bool false) fun w' hm hI => ⟨by unfold mwP; rw [h26, h28, h29, h30, h31]; rfl, bel0 hI⟩
/-- Acquiring a term, by its place. -/
def AOk (n0 base g : Nat) (fs : Fs) (day : Int) (fv sv : Value) (c : Co) (A : List (Sp × Value)) (t : Co) : Prop := ∀ (d : Int) (p : Nat) (f : Int) (lv tv : Value) (ls : List (Int × Int)) (ts : List (List UInt8 × Int)) (w : World), typF d t = (4, true) → termP c p = some t → Cx n0 base fs fv sv c A w → Lvs n0 w lv ls → Trs n0 day w tv ts → w.heap[g]? = some (dO day fv sv lv tv) → ((ls.length + ts.length : Nat) : Int) + szC t ≤ 10000000 → Calls Tryz.prog 29 #[.pointer (some ⟨g, 0, none⟩), .int .i64 p, .int .i64 f] w (AQ n0 g day fv sv w lv tv (.tuple #[]) (ls ++ (acq fs day t p f).1) (ts ++ (acq fs day t p f).2))
/-- What a term that may wait does: whether it went on. -/
def GQ (n0 g : Nat) (day : Int) (fv sv : Value) (w : World) (lv tv : Value) (fs : Fs) (t : Co) (p : Int) (f : Int) (ls : List (Int × Int)) (ts : List (List UInt8 × Int)) (e : Ending) (w' : World) : Prop := ∃ B r, AQ n0 g day fv sv w lv tv (.bool B) (ls ++ r.1) (ts ++ r.2) e w' ∧ acq fs day t p f = (bif B then r else wt p f) ∧ (B = false → r = r0)
theorem hexA {n0 g : Nat} {day : Int} {w w' : World} {lv tv lv1 tv1 : Value} {ls ls1 : List (Int × Int)} {ts ts1 : List (List UInt8 × Int)} (hl : Lvs n0 w lv ls) (ht : Trs n0 day w tv ts) (hg0 : n0 ≤ g) (hn : n0 ≤ w.heap.size) (h : AcI n0 g day w lv tv lv1 tv1 ls1 ts1 w') : Below n0 w w' := ch_below h.1 (oo_low hl ht hg0) hn
theorem holds1 {w : World} {b : Nat} {ob : Obj} (h : w.heap[b]? = some ob) : Holds [(b, ob)] w := fun j c o hj => by match j, hj with | 0, hj => (cases hj; exact h)
section
variable {n0 base g : Nat} {fs : Fs} {day : Int} {aF : Option Addr} {NF cF : Nat} {sv : Value} {c : Co} {A : List (Sp × Value)}
set_option maxRecDepth 100000 in
seal rn rnN rnS Goes ans atEnd put0 put putM opened openedY putA0 putA oneSt st0 keep mkSt newSt in
theorem scale_any (hR : RFd fs) (hday : dayP day = true) (hg0 : n0 ≤ g) {d k : Int} {s : List UInt8} {c0 c1 : Co} {ak : Option Addr} {ck : Nat} {pv : Value} {p : Nat} {lv tv : Value} {ls : List (Int × Int)} {ts : List (List UInt8 × Int)} {w : World} (ht0 : typF (d + 1) c0 = (0, true)) (ht1 : typF (d + 1) c1 = (4, true)) (ih1 : AOk n0 base g fs day (.slice aF NF cF) sv c A c1) (hC : Cx n0 base fs (.slice aF NF cF) sv c A w) (hl : Lvs n0 w lv ls) (ht : Trs n0 day w tv ts) (hg : w.heap[g]? = some (dO day (.slice aF NF cF) sv lv tv)) (hN : Nc n0 w (cv 26 k s (.slice ak 2 ck)) (.mk 26 k s [c0, c1])) (hpv : IzR base w pv (placesP ((p : Int) + 1) [c0, c1])) (hp : termP c p = some (.mk 26 k s [c0, c1])) (hsz : ((ls.length + ts.length : Nat) : Int) + szC (.mk 26 k s [c0, c1]) ≤ 10000000) (f : Int) : Calls Tryz.prog 95 #[.pointer (some ⟨g, 0, none⟩), spV 26 k s (.slice ak 2 ck) pv, .int .i64 f] w (GQ n0 g day (.slice aF NF cF) sv w lv tv fs (.mk 26 k s [c0, c1]) p f ls ts) := by
  have hm0 : Holds [(g, dO day (.slice aF NF cF) sv lv tv)] w := holds1 hg
  have hpos : ∀ l : List Co, 0 ≤ szL l := szL_pos
  obtain ⟨ak', ck', he, hfit, hcap, hkids⟩ := hN.open
  cases he
  obtain ⟨bk, ok, y0, rfl, hbk, hcl0, hy0⟩ := hkids 0 c0 rfl
  obtain ⟨p0, k0, t0, a0, N0, c0', rfl⟩ := hy0.cells
  obtain ⟨ob, hob⟩ := blk_of (w := w) (b := bk) (Nat.lt_of_lt_of_le hbk hC.low)
  obtain ⟨kb, cur, cap, rfl, hkb, hcur⟩ := hpv.open (by simp [placesP])
  have hpl : (placesP ((p : Int) + 1) [c0, c1]).length = 2 := places_len _ _
  rw [hpl]
  refine Goes.enter Tryz.func95 [(g, dO day (.slice aF NF cF) sv lv tv)] (AcI n0 g day w lv tv lv tv ls ts) hm0 (by simp [Mem.ids]) ((AcI.refl hl ht).stay ⟨_, _, _, hg, by decide, by decide⟩ (fun x hx => .inl (by simpa [Mem.ids] using hx))) ?_
  refine Goes.run [] [] trivial ?_
  refine Goes.new1 w.heap.size (fun w' h => h.1.size) fun g4 hg4 => ?_
  have hloc : Loc w [(g4, spO 26 k s (.slice (some ⟨bk, ok, none⟩) 2 ck) (.slice (some ⟨kb, 0, none⟩) 2 cap))] := fun q hq => by rw [List.mem_singleton] at hq; subst hq; exact ⟨hg4, _, _, _, rfl, by decide⟩
  obtain ⟨q1, hq1⟩ : ∃ q : Nat, (q : Int) = (p : Int) + 1 + szL ([c0, c1].take 1) := ⟨((p : Int) + 1 + szL ([c0, c1].take 1)).toNat, by have := hpos ([c0, c1].take 1); omega⟩
  have hT1 : termP c q1 = some c1 := by rw [hq1]; exact kid_term hp rfl
  have hcq1 : cur[1]? = some (.int .i64 (q1 : Int)) := by rw [hq1]; exact hcur 1 _ (places_get (c := c1) rfl)
  have hacq : acq fs day (.mk 26 k s [c0, c1]) p f = match valP fs day c0 with | some n => acq fs day c1 q1 (mulI f n) | none => wt p f := by
    rw [acq, valL]
    show (match valP fs day c0 with | some n => brA (acqL fs day [c0, c1] ((p : Int) + 1)) 1 (mulI f n) | none => wt p f) = _
    cases valP fs day c0 with
    | none => rfl
    | some n => simp only; rw [acq_get fs day ((p : Int) + 1) (mulI f n) (i := 1) (c := c1) rfl, hq1]
  refine Goes.run [] [] trivial ?_
  refine Goes.openY [0, 1] [(bk, ob)] (fun w' hI => holds1 (((hexA hl ht hg0 hC.low hI).block bk hbk).trans hob)) ?_
  refine Goes.run [0, 1, 2, 3, 0, 4, 5, 6, 1, 7, 0] [] trivial ?_
  refine Goes.valA 8 (Instr.loadAt 24 (.pointer (some ⟨bk, ok + 0 * 4, none⟩))) (cv p0 k0 t0 (.slice a0 N0 c0')) (fun w' hm => loadC (hcl0.same ((hm.get 2).trans hob.symm))) ?_
  refine Goes.callA0 9 23 #[dwV day (.slice aF NF cF), cv p0 k0 t0 (.slice a0 N0 c0')] (oV (valP fs day c0)) (fun w' _ hI => value_any hR hday c0 _ _ _ w' ht0 (by omega) (hC.ch hI.now.1 (oo_ty hl ht (dO_ty hg)) (oo_low hl ht hg0)).tab ((hy0.later (hexA hl ht hg0 hC.low hI.now)).more (hC.ch hI.now.1 (oo_ty hl ht (dO_ty hg)) (oo_low hl ht hg0)).low) ((hC.ch hI.now.1 (oo_ty hl ht (dO_ty hg)) (oo_low hl ht hg0)).fds.more (hC.ch hI.now.1 (oo_ty hl ht (dO_ty hg)) (oo_low hl ht hg0)).low)) ?_
  cases hv : valP fs day c0 with
  | none =>
    rw [hv] at hacq
    refine Goes.run [10, 11, 12, 13, 14, 0] [(false, false)] ⟨rfl, trivial⟩ ?_
    exact Goes.ret [] (.bool false) fun w' hm hI => ⟨false, r0, ⟨lv, tv, rfl, hm.get 0, by simpa [r0] using hI.now⟩, hacq, fun _ => rfl⟩
  | some n =>
    rw [hv] at hacq
    simp only at hacq
    refine Goes.run [10, 11, 12, 13, 14, 1] [(true, true)] ⟨rfl, trivial⟩ ?_
    refine Goes.openY [1] [(kb, .cells cur 3 (0, 0))] (fun w' hI => holds1 (ch_other hI.1 (oo_ty hl ht (dO_ty hg)) hkb (by decide))) ?_
    refine Goes.run [0, 1, 2, 0, 3, 0, 5, 6] [] trivial ?_
    refine Goes.valA 4 (Instr.loadAt 3 (.pointer (some ⟨kb, 1, none⟩))) (.int .i64 (q1 : Int)) (fun w' hm => load1 Tryz.isAgg3 (cell_obj (t := 3) (z := (0, 0)) (hm.get 1) hcq1)) ?_
    refine Goes.callA0 7 115 #[.int .i64 f, .int .i64 n] (.int .i64 (mulI f n)) (fun w' _ _ => (mul_any f n w').mono fun _ _ h => belD h) ?_
    refine Goes.callAQA 8 29 #[.pointer (some ⟨g, 0, none⟩), .int .i64 q1, .int .i64 (mulI f n)] (.tuple #[]) (ls ++ (acq fs day c1 q1 (mulI f n)).1) (ts ++ (acq fs day c1 q1 (mulI f n)).2) [(g4, spO 26 k s (.slice (some ⟨bk, ok, none⟩) 2 ck) (.slice (some ⟨kb, 0, none⟩) 2 cap))] hloc [(g4, spO 26 k s (.slice (some ⟨bk, ok, none⟩) 2 ck) (.slice (some ⟨kb, 0, none⟩) 2 cap)), (kb, .cells cur 3 (0, 0))] (fun q hq => by rcases List.mem_cons.1 hq with rfl | hq; exact ⟨_, _, _, rfl, by decide⟩; rw [List.mem_singleton] at hq; subst hq; exact ⟨_, _, _, rfl, by decide⟩) (fun w1 hm1 hI1 => ih1 _ q1 (mulI f n) lv tv ls ts w1 ht1 hT1 (hC.ch hI1.1 (oo_ty hl ht (dO_ty hg)) (oo_low hl ht hg0)) hI1.2.1 hI1.2.2.1 (hm1.get 0) (by have e := hsz; simp only [szC, szL] at e; have := szC_pos c0; have := szC_pos c1; omega)) fun lv2 tv2 => ?_
    refine Goes.run [] [] trivial ?_
    exact Goes.ret [] (.bool true) fun w' hm hI => ⟨true, acq fs day c1 q1 (mulI f n), ⟨lv2, tv2, rfl, hm.get 0, hI.now⟩, hacq, fun h => by cases h⟩
set_option maxRecDepth 100000 in
seal rn rnN rnS Goes ans atEnd put0 put putM opened openedY putA0 putA oneSt st0 keep mkSt newSt in
theorem branch_any (hR : RFd fs) (hday : dayP day = true) (hg0 : n0 ≤ g) {d k : Int} {s : List UInt8} {c0 c1 c2 : Co} {ak : Option Addr} {ck : Nat} {pv : Value} {p : Nat} {lv tv : Value} {ls : List (Int × Int)} {ts : List (List UInt8 × Int)} {w : World} (ht0 : typF (d + 1) c0 = (1, true)) (ht1 : typF (d + 1) c1 = (4, true)) (ih1 : AOk n0 base g fs day (.slice aF NF cF) sv c A c1) (ht2 : typF (d + 1) c2 = (4, true)) (ih2 : AOk n0 base g fs day (.slice aF NF cF) sv c A c2) (hC : Cx n0 base fs (.slice aF NF cF) sv c A w) (hl : Lvs n0 w lv ls) (ht : Trs n0 day w tv ts) (hg : w.heap[g]? = some (dO day (.slice aF NF cF) sv lv tv)) (hN : Nc n0 w (cv 28 k s (.slice ak 3 ck)) (.mk 28 k s [c0, c1, c2])) (hpv : IzR base w pv (placesP ((p : Int) + 1) [c0, c1, c2])) (hp : termP c p = some (.mk 28 k s [c0, c1, c2])) (hsz : ((ls.length + ts.length : Nat) : Int) + szC (.mk 28 k s [c0, c1, c2]) ≤ 10000000) (f : Int) : Calls Tryz.prog 96 #[.pointer (some ⟨g, 0, none⟩), spV 28 k s (.slice ak 3 ck) pv, .int .i64 f] w (GQ n0 g day (.slice aF NF cF) sv w lv tv fs (.mk 28 k s [c0, c1, c2]) p f ls ts) := by
  have hm0 : Holds [(g, dO day (.slice aF NF cF) sv lv tv)] w := holds1 hg
  have hpos : ∀ l : List Co, 0 ≤ szL l := szL_pos
  obtain ⟨ak', ck', he, hfit, hcap, hkids⟩ := hN.open
  cases he
  obtain ⟨bk, ok, y0, rfl, hbk, hcl0, hy0⟩ := hkids 0 c0 rfl
  obtain ⟨p0, k0, t0, a0, N0, c0', rfl⟩ := hy0.cells
  obtain ⟨ob, hob⟩ := blk_of (w := w) (b := bk) (Nat.lt_of_lt_of_le hbk hC.low)
  obtain ⟨kb, cur, cap, rfl, hkb, hcur⟩ := hpv.open (by simp [placesP])
  have hpl : (placesP ((p : Int) + 1) [c0, c1, c2]).length = 3 := places_len _ _
  rw [hpl]
  refine Goes.enter Tryz.func96 [(g, dO day (.slice aF NF cF) sv lv tv)] (AcI n0 g day w lv tv lv tv ls ts) hm0 (by simp [Mem.ids]) ((AcI.refl hl ht).stay ⟨_, _, _, hg, by decide, by decide⟩ (fun x hx => .inl (by simpa [Mem.ids] using hx))) ?_
  refine Goes.run [] [] trivial ?_
  refine Goes.new1 w.heap.size (fun w' h => h.1.size) fun g4 hg4 => ?_
  have hloc : Loc w [(g4, spO 28 k s (.slice (some ⟨bk, ok, none⟩) 3 ck) (.slice (some ⟨kb, 0, none⟩) 3 cap))] := fun q hq => by rw [List.mem_singleton] at hq; subst hq; exact ⟨hg4, _, _, _, rfl, by decide⟩
  obtain ⟨q1, hq1⟩ : ∃ q : Nat, (q : Int) = (p : Int) + 1 + szL ([c0, c1, c2].take 1) := ⟨((p : Int) + 1 + szL ([c0, c1, c2].take 1)).toNat, by have := hpos ([c0, c1, c2].take 1); omega⟩
  have hT1 : termP c q1 = some c1 := by rw [hq1]; exact kid_term hp rfl
  have hcq1 : cur[1]? = some (.int .i64 (q1 : Int)) := by rw [hq1]; exact hcur 1 _ (places_get (c := c1) rfl)
  obtain ⟨q2, hq2⟩ : ∃ q : Nat, (q : Int) = (p : Int) + 1 + szL ([c0, c1, c2].take 2) := ⟨((p : Int) + 1 + szL ([c0, c1, c2].take 2)).toNat, by have := hpos ([c0, c1, c2].take 2); omega⟩
  have hT2 : termP c q2 = some c2 := by rw [hq2]; exact kid_term hp rfl
  have hcq2 : cur[2]? = some (.int .i64 (q2 : Int)) := by rw [hq2]; exact hcur 2 _ (places_get (c := c2) rfl)
  have hacq : acq fs day (.mk 28 k s [c0, c1, c2]) p f = match valP fs day c0 with | some n => brA (acqL fs day [c0, c1, c2] ((p : Int) + 1)) (2 - n).toNat f | none => wt p f := by
    rw [acq, valL]
    rfl
  refine Goes.run [] [] trivial ?_
  refine Goes.openY [0, 1] [(bk, ob)] (fun w' hI => holds1 (((hexA hl ht hg0 hC.low hI).block bk hbk).trans hob)) ?_
  refine Goes.run [0, 1, 2, 3, 0, 4, 5, 6, 1, 7, 0] [] trivial ?_
  refine Goes.valA 8 (Instr.loadAt 24 (.pointer (some ⟨bk, ok + 0 * 4, none⟩))) (cv p0 k0 t0 (.slice a0 N0 c0')) (fun w' hm => loadC (hcl0.same ((hm.get 2).trans hob.symm))) ?_
  refine Goes.callA0 9 23 #[dwV day (.slice aF NF cF), cv p0 k0 t0 (.slice a0 N0 c0')] (oV (valP fs day c0)) (fun w' _ hI => value_any hR hday c0 _ _ _ w' ht0 (by omega) (hC.ch hI.now.1 (oo_ty hl ht (dO_ty hg)) (oo_low hl ht hg0)).tab ((hy0.later (hexA hl ht hg0 hC.low hI.now)).more (hC.ch hI.now.1 (oo_ty hl ht (dO_ty hg)) (oo_low hl ht hg0)).low) ((hC.ch hI.now.1 (oo_ty hl ht (dO_ty hg)) (oo_low hl ht hg0)).fds.more (hC.ch hI.now.1 (oo_ty hl ht (dO_ty hg)) (oo_low hl ht hg0)).low)) ?_
  cases hv : valP fs day c0 with
  | none =>
    rw [hv] at hacq
    refine Goes.run [10, 11, 12, 13, 14, 0, 0, 0] [(false, false), (false, false), (false, false)] ⟨rfl, rfl, rfl, trivial⟩ ?_
    exact Goes.ret [] (.bool false) fun w' hm hI => ⟨false, r0, ⟨lv, tv, rfl, hm.get 0, by simpa [r0] using hI.now⟩, hacq, fun _ => rfl⟩
  | some n =>
    rw [hv] at hacq
    simp only at hacq
    have hn01 := (val_kd hR.rf c0 _ _ _ ht0 (by omega) hv).2.1 rfl
    cases hn1 : (n == 1) with
    | true =>
      obtain rfl : n = 1 := by exact eq_of_beq hn1
      have hacq2 : acq fs day (.mk 28 k s [c0, c1, c2]) p f = acq fs day c1 q1 f := by rw [hacq, hq1]; exact acq_get fs day ((p : Int) + 1) f (i := 1) (c := c1) rfl
      refine Goes.run [10, 11, 12, 13, 14, 1, 1, 1, 0] [(true, true), (true, true)] ⟨rfl, rfl, trivial⟩ ?_
      refine Goes.val (Instr.loadAt 3 (.pointer (some ⟨kb, 1, none⟩))) (.int .i64 (q1 : Int)) (fun w' _ hI => load1 Tryz.isAgg3 (cell_obj (ch_other hI.now.1 (oo_ty hl ht (dO_ty hg)) hkb (by decide)) hcq1)) ?_
      refine Goes.run [] [] trivial ?_
      refine Goes.callAQ 29 #[.pointer (some ⟨g, 0, none⟩), .int .i64 q1, .int .i64 (f)] (.tuple #[]) (ls ++ (acq fs day c1 q1 (f)).1) (ts ++ (acq fs day c1 q1 (f)).2) [(g4, spO 28 k s (.slice (some ⟨bk, ok, none⟩) 3 ck) (.slice (some ⟨kb, 0, none⟩) 3 cap))] hloc (fun w1 hm1 hI1 => ih1 _ q1 (f) lv tv ls ts w1 ht1 hT1 (hC.ch hI1.1 (oo_ty hl ht (dO_ty hg)) (oo_low hl ht hg0)) hI1.2.1 hI1.2.2.1 (hm1.get 0) (by have e := hsz; simp only [szC, szL] at e; have := szC_pos c0; have := szC_pos c1; have := szC_pos c2; omega)) fun lv2 tv2 => ?_
      refine Goes.run [] [] trivial ?_
      exact Goes.ret [] (.bool true) fun w' hm hI => ⟨true, acq fs day c1 q1 f, ⟨lv2, tv2, rfl, hm.get 0, hI.now⟩, hacq2, fun h => by cases h⟩
    | false =>
      obtain rfl : n = 0 := by rcases hn01 with h | h; exact h; rw [h] at hn1; cases hn1
      have hacq2 : acq fs day (.mk 28 k s [c0, c1, c2]) p f = acq fs day c2 q2 f := by rw [hacq, hq2]; exact acq_get fs day ((p : Int) + 1) f (i := 2) (c := c2) rfl
      refine Goes.run [10, 11, 12, 13, 14, 1, 0, 1, 1, 0] [(true, true), (false, false), (true, true)] ⟨rfl, rfl, rfl, trivial⟩ ?_
      refine Goes.val (Instr.loadAt 3 (.pointer (some ⟨kb, 2, none⟩))) (.int .i64 (q2 : Int)) (fun w' _ hI => load1 Tryz.isAgg3 (cell_obj (ch_other hI.now.1 (oo_ty hl ht (dO_ty hg)) hkb (by decide)) hcq2)) ?_
      refine Goes.run [] [] trivial ?_
      refine Goes.callAQ 29 #[.pointer (some ⟨g, 0, none⟩), .int .i64 q2, .int .i64 (f)] (.tuple #[]) (ls ++ (acq fs day c2 q2 (f)).1) (ts ++ (acq fs day c2 q2 (f)).2) [(g4, spO 28 k s (.slice (some ⟨bk, ok, none⟩) 3 ck) (.slice (some ⟨kb, 0, none⟩) 3 cap))] hloc (fun w1 hm1 hI1 => ih2 _ q2 (f) lv tv ls ts w1 ht2 hT2 (hC.ch hI1.1 (oo_ty hl ht (dO_ty hg)) (oo_low hl ht hg0)) hI1.2.1 hI1.2.2.1 (hm1.get 0) (by have e := hsz; simp only [szC, szL] at e; have := szC_pos c0; have := szC_pos c1; have := szC_pos c2; omega)) fun lv2 tv2 => ?_
      refine Goes.run [] [] trivial ?_
      exact Goes.ret [] (.bool true) fun w' hm hI => ⟨true, acq fs day c2 q2 f, ⟨lv2, tv2, rfl, hm.get 0, hI.now⟩, hacq2, fun h => by cases h⟩
set_option maxRecDepth 100000 in
seal rn rnN rnS Goes ans atEnd put0 put putM opened openedY putA0 putA oneSt st0 keep mkSt newSt in
theorem reach_any (_hR : RFd fs) (_hday : dayP day = true) (hg0 : n0 ≤ g) {d k : Int} {s : List UInt8} {c0 : Co} {ak : Option Addr} {ck : Nat} {pv : Value} {p : Nat} {lv tv : Value} {ls : List (Int × Int)} {ts : List (List UInt8 × Int)} {w : World} (ht0 : typF (d + 1) c0 = (4, true)) (ih0 : AOk n0 base g fs day (.slice aF NF cF) sv c A c0) (hC : Cx n0 base fs (.slice aF NF cF) sv c A w) (hl : Lvs n0 w lv ls) (ht : Trs n0 day w tv ts) (hg : w.heap[g]? = some (dO day (.slice aF NF cF) sv lv tv)) (_hN : Nc n0 w (cv 29 k s (.slice ak 1 ck)) (.mk 29 k s [c0])) (hpv : IzR base w pv (placesP ((p : Int) + 1) [c0])) (hp : termP c p = some (.mk 29 k s [c0])) (hsz : ((ls.length + ts.length : Nat) : Int) + szC (.mk 29 k s [c0]) ≤ 10000000) (f : Int) : Calls Tryz.prog 97 #[.pointer (some ⟨g, 0, none⟩), spV 29 k s (.slice ak 1 ck) pv, .int .i64 f] w (GQ n0 g day (.slice aF NF cF) sv w lv tv fs (.mk 29 k s [c0]) p f ls ts) := by
  have hm0 : Holds [(g, dO day (.slice aF NF cF) sv lv tv)] w := holds1 hg
  have hpos : ∀ l : List Co, 0 ≤ szL l := szL_pos
  obtain ⟨kb, cur, cap, rfl, hkb, hcur⟩ := hpv.open (by simp [placesP])
  have hpl : (placesP ((p : Int) + 1) [c0]).length = 1 := places_len _ _
  rw [hpl]
  refine Goes.enter Tryz.func97 [(g, dO day (.slice aF NF cF) sv lv tv)] (AcI n0 g day w lv tv lv tv ls ts) hm0 (by simp [Mem.ids]) ((AcI.refl hl ht).stay ⟨_, _, _, hg, by decide, by decide⟩ (fun x hx => .inl (by simpa [Mem.ids] using hx))) ?_
  refine Goes.run [] [] trivial ?_
  refine Goes.new1 w.heap.size (fun w' h => h.1.size) fun g4 hg4 => ?_
  have hloc : Loc w [(g4, spO 29 k s (.slice ak 1 ck) (.slice (some ⟨kb, 0, none⟩) 1 cap))] := fun q hq => by rw [List.mem_singleton] at hq; subst hq; exact ⟨hg4, _, _, _, rfl, by decide⟩
  obtain ⟨q0, hq0⟩ : ∃ q : Nat, (q : Int) = (p : Int) + 1 + szL ([c0].take 0) := ⟨((p : Int) + 1 + szL ([c0].take 0)).toNat, by have := hpos ([c0].take 0); omega⟩
  have hT0 : termP c q0 = some c0 := by rw [hq0]; exact kid_term hp rfl
  have hcq0 : cur[0]? = some (.int .i64 (q0 : Int)) := by rw [hq0]; exact hcur 0 _ (places_get (c := c0) rfl)
  have hacq : acq fs day (.mk 29 k s [c0]) p f = bif decide (k ≤ day) then brA (acqL fs day [c0] ((p : Int) + 1)) 0 f else wt p f := by rw [acq]; rfl
  refine Goes.run [] [] trivial ?_
  refine Goes.open [0, 1] ?_
  refine Goes.run [0, 1, 2, 3, 0, 4, 5, 6, 1] [] trivial ?_
  refine Goes.callA0 7 126 #[dwV day (.slice aF NF cF), .int .i64 k] (.bool (decide (day < k))) (fun w' _ _ => pahead_any aF NF cF day k w') ?_
  cases hd : decide (day < k) with
  | true =>
    have hk : decide (k ≤ day) = false := decide_eq_false (by have := of_decide_eq_true hd; omega)
    rw [hk, cond_false] at hacq
    refine Goes.run [1] [(true, true)] ⟨rfl, trivial⟩ ?_
    exact Goes.ret [] (.bool false) fun w' hm hI => ⟨false, r0, ⟨lv, tv, rfl, hm.get 0, by simpa [r0] using hI.now⟩, hacq, fun _ => rfl⟩
  | false =>
    have hk : decide (k ≤ day) = true := decide_eq_true (by have := of_decide_eq_false hd; omega)
    rw [hk, cond_true, acq_get fs day ((p : Int) + 1) f (i := 0) (c := c0) rfl, ← hq0] at hacq
    refine Goes.run [0, 1, 0] [(false, false)] ⟨rfl, trivial⟩ ?_
    refine Goes.val (Instr.loadAt 3 (.pointer (some ⟨kb, 0, none⟩))) (.int .i64 (q0 : Int)) (fun w' _ hI => load1 Tryz.isAgg3 (cell_obj (ch_other hI.now.1 (oo_ty hl ht (dO_ty hg)) hkb (by decide)) hcq0)) ?_
    refine Goes.run [] [] trivial ?_
    refine Goes.callAQ 29 #[.pointer (some ⟨g, 0, none⟩), .int .i64 q0, .int .i64 (f)] (.tuple #[]) (ls ++ (acq fs day c0 q0 (f)).1) (ts ++ (acq fs day c0 q0 (f)).2) [(g4, spO 29 k s (.slice ak 1 ck) (.slice (some ⟨kb, 0, none⟩) 1 cap))] hloc (fun w1 hm1 hI1 => ih0 _ q0 (f) lv tv ls ts w1 ht0 hT0 (hC.ch hI1.1 (oo_ty hl ht (dO_ty hg)) (oo_low hl ht hg0)) hI1.2.1 hI1.2.2.1 (hm1.get 0) (by have e := hsz; simp only [szC, szL] at e; have := szC_pos c0; omega)) fun lv2 tv2 => ?_
    refine Goes.run [] [] trivial ?_
    exact Goes.ret [] (.bool true) fun w' hm hI => ⟨true, acq fs day c0 q0 f, ⟨lv2, tv2, rfl, hm.get 0, hI.now⟩, hacq, fun h => by cases h⟩
set_option maxRecDepth 100000 in
seal rn rnN rnS Goes ans atEnd put0 put putM opened openedY putA0 putA oneSt st0 keep mkSt newSt in
theorem lapse_any (_hR : RFd fs) (_hday : dayP day = true) (hg0 : n0 ≤ g) {d k : Int} {s : List UInt8} {c0 c1 : Co} {ak : Option Addr} {ck : Nat} {pv : Value} {p : Nat} {lv tv : Value} {ls : List (Int × Int)} {ts : List (List UInt8 × Int)} {w : World} (_ht0 : typF (d + 1) c0 = (4, true)) (_ih0 : AOk n0 base g fs day (.slice aF NF cF) sv c A c0) (ht1 : typF (d + 1) c1 = (4, true)) (ih1 : AOk n0 base g fs day (.slice aF NF cF) sv c A c1) (hC : Cx n0 base fs (.slice aF NF cF) sv c A w) (hl : Lvs n0 w lv ls) (ht : Trs n0 day w tv ts) (hg : w.heap[g]? = some (dO day (.slice aF NF cF) sv lv tv)) (_hN : Nc n0 w (cv 31 k s (.slice ak 2 ck)) (.mk 31 k s [c0, c1])) (hpv : IzR base w pv (placesP ((p : Int) + 1) [c0, c1])) (hp : termP c p = some (.mk 31 k s [c0, c1])) (hsz : ((ls.length + ts.length : Nat) : Int) + szC (.mk 31 k s [c0, c1]) ≤ 10000000) (f : Int) : Calls Tryz.prog 99 #[.pointer (some ⟨g, 0, none⟩), spV 31 k s (.slice ak 2 ck) pv, .int .i64 f] w (GQ n0 g day (.slice aF NF cF) sv w lv tv fs (.mk 31 k s [c0, c1]) p f ls ts) := by
  have hm0 : Holds [(g, dO day (.slice aF NF cF) sv lv tv)] w := holds1 hg
  have hpos : ∀ l : List Co, 0 ≤ szL l := szL_pos
  obtain ⟨kb, cur, cap, rfl, hkb, hcur⟩ := hpv.open (by simp [placesP])
  have hpl : (placesP ((p : Int) + 1) [c0, c1]).length = 2 := places_len _ _
  rw [hpl]
  refine Goes.enter Tryz.func99 [(g, dO day (.slice aF NF cF) sv lv tv)] (AcI n0 g day w lv tv lv tv ls ts) hm0 (by simp [Mem.ids]) ((AcI.refl hl ht).stay ⟨_, _, _, hg, by decide, by decide⟩ (fun x hx => .inl (by simpa [Mem.ids] using hx))) ?_
  refine Goes.run [] [] trivial ?_
  refine Goes.new1 w.heap.size (fun w' h => h.1.size) fun g4 hg4 => ?_
  have hloc : Loc w [(g4, spO 31 k s (.slice ak 2 ck) (.slice (some ⟨kb, 0, none⟩) 2 cap))] := fun q hq => by rw [List.mem_singleton] at hq; subst hq; exact ⟨hg4, _, _, _, rfl, by decide⟩
  obtain ⟨q1, hq1⟩ : ∃ q : Nat, (q : Int) = (p : Int) + 1 + szL ([c0, c1].take 1) := ⟨((p : Int) + 1 + szL ([c0, c1].take 1)).toNat, by have := hpos ([c0, c1].take 1); omega⟩
  have hT1 : termP c q1 = some c1 := by rw [hq1]; exact kid_term hp rfl
  have hcq1 : cur[1]? = some (.int .i64 (q1 : Int)) := by rw [hq1]; exact hcur 1 _ (places_get (c := c1) rfl)
  have hacq : acq fs day (.mk 31 k s [c0, c1]) p f = bif decide (k < day) then brA (acqL fs day [c0, c1] ((p : Int) + 1)) 1 f else wt p f := by rw [acq]; rfl
  refine Goes.run [] [] trivial ?_
  refine Goes.open [0, 1] ?_
  refine Goes.run [0, 1, 2, 3, 0, 4, 5, 6, 1] [] trivial ?_
  refine Goes.callA0 7 65 #[dwV day (.slice aF NF cF), .int .i64 k] (.bool (decide (day > k))) (fun w' _ _ => ppast_any aF NF cF day k w') ?_
  cases hd : decide (day > k) with
  | false =>
    have hk : decide (k < day) = false := hd
    rw [hk, cond_false] at hacq
    refine Goes.run [8, 1] [(true, true)] ⟨rfl, trivial⟩ ?_
    exact Goes.ret [] (.bool false) fun w' hm hI => ⟨false, r0, ⟨lv, tv, rfl, hm.get 0, by simpa [r0] using hI.now⟩, hacq, fun _ => rfl⟩
  | true =>
    have hk : decide (k < day) = true := hd
    rw [hk, cond_true, acq_get fs day ((p : Int) + 1) f (i := 1) (c := c1) rfl, ← hq1] at hacq
    refine Goes.run [8, 0, 1, 0] [(false, false)] ⟨rfl, trivial⟩ ?_
    refine Goes.val (Instr.loadAt 3 (.pointer (some ⟨kb, 1, none⟩))) (.int .i64 (q1 : Int)) (fun w' _ hI => load1 Tryz.isAgg3 (cell_obj (ch_other hI.now.1 (oo_ty hl ht (dO_ty hg)) hkb (by decide)) hcq1)) ?_
    refine Goes.run [] [] trivial ?_
    refine Goes.callAQ 29 #[.pointer (some ⟨g, 0, none⟩), .int .i64 q1, .int .i64 (f)] (.tuple #[]) (ls ++ (acq fs day c1 q1 (f)).1) (ts ++ (acq fs day c1 q1 (f)).2) [(g4, spO 31 k s (.slice ak 2 ck) (.slice (some ⟨kb, 0, none⟩) 2 cap))] hloc (fun w1 hm1 hI1 => ih1 _ q1 (f) lv tv ls ts w1 ht1 hT1 (hC.ch hI1.1 (oo_ty hl ht (dO_ty hg)) (oo_low hl ht hg0)) hI1.2.1 hI1.2.2.1 (hm1.get 0) (by have e := hsz; simp only [szC, szL] at e; have := szC_pos c0; have := szC_pos c1; omega)) fun lv2 tv2 => ?_
    refine Goes.run [] [] trivial ?_
    exact Goes.ret [] (.bool true) fun w' hm hI => ⟨true, acq fs day c1 q1 f, ⟨lv2, tv2, rfl, hm.get 0, hI.now⟩, hacq, fun h => by cases h⟩
set_option maxRecDepth 100000 in
seal rn rnN rnS Goes ans atEnd put0 put putM opened openedY putA0 putA oneSt st0 keep mkSt newSt in
theorem watch_any (hR : RFd fs) (hday : dayP day = true) (hg0 : n0 ≤ g) {d k : Int} {s : List UInt8} {c0 c1 : Co} {ak : Option Addr} {ck : Nat} {pv : Value} {p : Nat} {lv tv : Value} {ls : List (Int × Int)} {ts : List (List UInt8 × Int)} {w : World} (ht0 : typF (d + 1) c0 = (1, true)) (ht1 : typF (d + 1) c1 = (4, true)) (ih1 : AOk n0 base g fs day (.slice aF NF cF) sv c A c1) (hC : Cx n0 base fs (.slice aF NF cF) sv c A w) (hl : Lvs n0 w lv ls) (ht : Trs n0 day w tv ts) (hg : w.heap[g]? = some (dO day (.slice aF NF cF) sv lv tv)) (hN : Nc n0 w (cv 30 k s (.slice ak 2 ck)) (.mk 30 k s [c0, c1])) (hpv : IzR base w pv (placesP ((p : Int) + 1) [c0, c1])) (hp : termP c p = some (.mk 30 k s [c0, c1])) (hsz : ((ls.length + ts.length : Nat) : Int) + szC (.mk 30 k s [c0, c1]) ≤ 10000000) (f : Int) : Calls Tryz.prog 98 #[.pointer (some ⟨g, 0, none⟩), spV 30 k s (.slice ak 2 ck) pv, .int .i64 f] w (GQ n0 g day (.slice aF NF cF) sv w lv tv fs (.mk 30 k s [c0, c1]) p f ls ts) := by
  have hm0 : Holds [(g, dO day (.slice aF NF cF) sv lv tv)] w := holds1 hg
  have hpos : ∀ l : List Co, 0 ≤ szL l := szL_pos
  obtain ⟨ak', ck', he, hfit, hcap, hkids⟩ := hN.open
  cases he
  obtain ⟨bk, ok, y0, rfl, hbk, hcl0, hy0⟩ := hkids 0 c0 rfl
  obtain ⟨p0, k0, t0, a0, N0, c0', rfl⟩ := hy0.cells
  obtain ⟨ob, hob⟩ := blk_of (w := w) (b := bk) (Nat.lt_of_lt_of_le hbk hC.low)
  obtain ⟨kb, cur, cap, rfl, hkb, hcur⟩ := hpv.open (by simp [placesP])
  have hpl : (placesP ((p : Int) + 1) [c0, c1]).length = 2 := places_len _ _
  rw [hpl]
  refine Goes.enter Tryz.func98 [(g, dO day (.slice aF NF cF) sv lv tv)] (AcI n0 g day w lv tv lv tv ls ts) hm0 (by simp [Mem.ids]) ((AcI.refl hl ht).stay ⟨_, _, _, hg, by decide, by decide⟩ (fun x hx => .inl (by simpa [Mem.ids] using hx))) ?_
  refine Goes.run [] [] trivial ?_
  refine Goes.new1 w.heap.size (fun w' h => h.1.size) fun g4 hg4 => ?_
  have hloc : Loc w [(g4, spO 30 k s (.slice (some ⟨bk, ok, none⟩) 2 ck) (.slice (some ⟨kb, 0, none⟩) 2 cap))] := fun q hq => by rw [List.mem_singleton] at hq; subst hq; exact ⟨hg4, _, _, _, rfl, by decide⟩
  obtain ⟨q1, hq1⟩ : ∃ q : Nat, (q : Int) = (p : Int) + 1 + szL ([c0, c1].take 1) := ⟨((p : Int) + 1 + szL ([c0, c1].take 1)).toNat, by have := hpos ([c0, c1].take 1); omega⟩
  have hT1 : termP c q1 = some c1 := by rw [hq1]; exact kid_term hp rfl
  have hcq1 : cur[1]? = some (.int .i64 (q1 : Int)) := by rw [hq1]; exact hcur 1 _ (places_get (c := c1) rfl)
  have hacq : acq fs day (.mk 30 k s [c0, c1]) p f = bif decide (k < day) then r0 else match valP fs day c0 with | some b => (bif b == 1 then brA (acqL fs day [c0, c1] ((p : Int) + 1)) 1 f else wt p f) | none => wt p f := by rw [acq, valL]; rfl
  refine Goes.run [] [] trivial ?_
  refine Goes.open [0, 1] ?_
  refine Goes.run [0, 1, 2, 3, 0, 4, 5, 6, 1] [] trivial ?_
  refine Goes.callA0 7 65 #[dwV day (.slice aF NF cF), .int .i64 k] (.bool (decide (day > k))) (fun w' _ _ => ppast_any aF NF cF day k w') ?_
  cases hd : decide (day > k) with
  | true =>
    have hk : decide (k < day) = true := hd
    rw [hk, cond_true] at hacq
    refine Goes.run [1] [(true, true)] ⟨rfl, trivial⟩ ?_
    exact Goes.ret [] (.bool true) fun w' hm hI => ⟨true, r0, ⟨lv, tv, rfl, hm.get 0, by simpa [r0] using hI.now⟩, hacq, fun _ => rfl⟩
  | false =>
    have hk : decide (k < day) = false := hd
    rw [hk, cond_false] at hacq
    refine Goes.run [0] [(false, false)] ⟨rfl, trivial⟩ ?_
    refine Goes.openY [0, 1] [(bk, ob)] (fun w' hI => holds1 (((hexA hl ht hg0 hC.low hI).block bk hbk).trans hob)) ?_
    refine Goes.run [0, 1, 2, 3, 0, 4, 5, 6, 1, 7, 0] [] trivial ?_
    refine Goes.valA 8 (Instr.loadAt 24 (.pointer (some ⟨bk, ok + 0 * 4, none⟩))) (cv p0 k0 t0 (.slice a0 N0 c0')) (fun w' hm => loadC (hcl0.same ((hm.get 2).trans hob.symm))) ?_
    refine Goes.callA0 9 23 #[dwV day (.slice aF NF cF), cv p0 k0 t0 (.slice a0 N0 c0')] (oV (valP fs day c0)) (fun w' _ hI => value_any hR hday c0 _ _ _ w' ht0 (by omega) (hC.ch hI.now.1 (oo_ty hl ht (dO_ty hg)) (oo_low hl ht hg0)).tab ((hy0.later (hexA hl ht hg0 hC.low hI.now)).more (hC.ch hI.now.1 (oo_ty hl ht (dO_ty hg)) (oo_low hl ht hg0)).low) ((hC.ch hI.now.1 (oo_ty hl ht (dO_ty hg)) (oo_low hl ht hg0)).fds.more (hC.ch hI.now.1 (oo_ty hl ht (dO_ty hg)) (oo_low hl ht hg0)).low)) ?_
    cases hv : valP fs day c0 with
    | none =>
      rw [hv] at hacq
      refine Goes.run [10, 11, 12, 13, 14, 1, 1] [(true, true), (true, true)] ⟨rfl, rfl, trivial⟩ ?_
      exact Goes.ret [] (.bool false) fun w' hm hI => ⟨false, r0, ⟨lv, tv, rfl, hm.get 0, by simpa [r0] using hI.now⟩, hacq, fun _ => rfl⟩
    | some n =>
      rw [hv] at hacq
      simp only at hacq
      have hn01 := (val_kd hR.rf c0 _ _ _ ht0 (by omega) hv).2.1 rfl
      rcases hn01 with rfl | rfl
      · refine Goes.run [10, 11, 12, 13, 14, 0, 1] [(true, true), (false, false)] ⟨rfl, rfl, trivial⟩ ?_
        exact Goes.ret [] (.bool false) fun w' hm hI => ⟨false, r0, ⟨lv, tv, rfl, hm.get 0, by simpa [r0] using hI.now⟩, hacq, fun _ => rfl⟩
      · rw [show ((1 : Int) == 1) = true from rfl, cond_true, acq_get fs day ((p : Int) + 1) f (i := 1) (c := c1) rfl, ← hq1] at hacq
        refine Goes.run [10, 11, 12, 13, 14, 0, 0, 1, 0] [(false, false), (false, false)] ⟨rfl, rfl, trivial⟩ ?_
        refine Goes.val (Instr.loadAt 3 (.pointer (some ⟨kb, 1, none⟩))) (.int .i64 (q1 : Int)) (fun w' _ hI => load1 Tryz.isAgg3 (cell_obj (ch_other hI.now.1 (oo_ty hl ht (dO_ty hg)) hkb (by decide)) hcq1)) ?_
        refine Goes.run [] [] trivial ?_
        refine Goes.callAQ 29 #[.pointer (some ⟨g, 0, none⟩), .int .i64 q1, .int .i64 (f)] (.tuple #[]) (ls ++ (acq fs day c1 q1 (f)).1) (ts ++ (acq fs day c1 q1 (f)).2) [(g4, spO 30 k s (.slice (some ⟨bk, ok, none⟩) 2 ck) (.slice (some ⟨kb, 0, none⟩) 2 cap))] hloc (fun w1 hm1 hI1 => ih1 _ q1 (f) lv tv ls ts w1 ht1 hT1 (hC.ch hI1.1 (oo_ty hl ht (dO_ty hg)) (oo_low hl ht hg0)) hI1.2.1 hI1.2.2.1 (hm1.get 0) (by have e := hsz; simp only [szC, szL] at e; have := szC_pos c0; have := szC_pos c1; omega)) fun lv2 tv2 => ?_
        refine Goes.run [] [] trivial ?_
        exact Goes.ret [] (.bool true) fun w' hm hI => ⟨true, acq fs day c1 q1 f, ⟨lv2, tv2, rfl, hm.get 0, hI.now⟩, hacq, fun h => by cases h⟩
end
end Go.Proofs.YthnojedlndblbaaGreatDoor
namespace Go.Proofs.YthnojedlndblbaaGreatDoor
open Go Go.RowKit

section
variable {P : Program} {F : Exit → Act → World → Prop} {s : St} {n0 g : Nat} {day : Int} {fv sv lv tv lv1 tv1 : Value} {ls1 : List (Int × Int)} {ts1 : List (List UInt8 × Int)} {w : World} {fs : Fs}
/-- What may wait is called. -/
theorem Goes.callGQ (f : FuncId) (args : Array Value) (t : Co) (p f0 : Int) (loc : Mem) (hloc : Loc w loc)
    (hr : ∀ w1, Holds s.mem w1 → AcI n0 g day w lv tv lv1 tv1 ls1 ts1 w1 → Calls P f args w1 (GQ n0 g day fv sv w1 lv1 tv1 fs t p f0 ls1 ts1))
    (h : ∀ B r lv2 tv2, acq fs day t p f0 = (bif B then r else wt p f0) → (B = false → r = r0) → Goes P F (AcI n0 g day w lv tv lv2 tv2 (ls1 ++ r.1) (ts1 ++ r.2)) (put s (.bool B) ((g, dO day fv sv lv2 tv2) :: loc)))
    (hmem : s.mem = (g, dO day fv sv lv1 tv1) :: loc := by kernel_rfl) (ha : ask s = some (f, args) := by kernel_rfl) (hw : wants s = true := by kernel_rfl) (hf : okf P f = true := by kernel_rfl) : Goes P F (AcI n0 g day w lv tv lv1 tv1 ls1 ts1) s :=
  Goes.call f args (fun w1 hm hn hI => (hr w1 hm hI.now).mono fun e w2 ⟨B, r, ⟨lv2, tv2, he, hg2, hA⟩, hB1, hB2⟩ => by
    obtain ⟨h1, h2, -⟩ := aq_next hloc hmem hm hI.now hg2 hA
    exact ⟨.bool B, _, _, he, h1, by rw [hmem] at hn; exact hn, h2, h B r lv2 tv2 hB1 hB2⟩) ha hw hf
end
def con9 (op : Nat) (l : List Int) (z : Int) : Bool := z != 4 || (op == 23 && l == []) || (op == 24 && l == []) || (op == 25 && l == [4]) || (op == 26 && l == [0, 4]) || (op == 27 && l == [4, 4]) || (op == 28 && l == [1, 4, 4]) || (op == 29 && l == [4]) || (op == 30 && l == [1, 4]) || (op == 31 && l == [4, 4])
theorem rk_con9 : ∀ n : Fin 32, (match rkP ((n : Nat) : Int) with | some (l, z) => con9 n l z | none => true) = true := by decide
/-- How a contract may stand. -/
theorem con_cases {d op k : Int} {s : List UInt8} {kids : List Co} (h : typF d (.mk op k s kids) = (4, true)) :
    (op = 23 ∧ kids = []) ∨ (op = 24 ∧ kids = []) ∨ (op = 25 ∧ ∃ c0, kids = [c0] ∧ typF (d + 1) c0 = (4, true)) ∨ (op = 26 ∧ ∃ c0 c1, kids = [c0, c1] ∧ typF (d + 1) c0 = (0, true) ∧ typF (d + 1) c1 = (4, true)) ∨ (op = 27 ∧ ∃ c0 c1, kids = [c0, c1] ∧ typF (d + 1) c0 = (4, true) ∧ typF (d + 1) c1 = (4, true)) ∨ (op = 28 ∧ ∃ c0 c1 c2, kids = [c0, c1, c2] ∧ typF (d + 1) c0 = (1, true) ∧ typF (d + 1) c1 = (4, true) ∧ typF (d + 1) c2 = (4, true)) ∨ (op = 29 ∧ ∃ c0, kids = [c0] ∧ typF (d + 1) c0 = (4, true)) ∨ (op = 30 ∧ ∃ c0 c1, kids = [c0, c1] ∧ typF (d + 1) c0 = (1, true) ∧ typF (d + 1) c1 = (4, true)) ∨ (op = 31 ∧ ∃ c0 c1, kids = [c0, c1] ∧ typF (d + 1) c0 = (4, true) ∧ typF (d + 1) c1 = (4, true)) := by
  obtain ⟨-, -, -, l, hl, he⟩ := typ_parts.1 h
  obtain ⟨hlen, hat⟩ := tys_at hl
  have kid : ∀ (i : Nat) (u : Co) (x : Int), kids[i]? = some u → l[i]? = some x → typF (d + 1) u = (x, true) := fun i u x hu hx => by
    obtain ⟨x', h1, h2⟩ := hat i u hu
    rw [hx] at h1
    cases h1
    exact h2
  rcases end_shape he with ⟨-, h4, -⟩ | hr
  · exact absurd rfl h4
  · obtain ⟨o0, o1⟩ := op_small hr
    have hn : ((op.toNat : Nat) : Int) = op := by omega
    have hs := rk_con9 ⟨op.toNat, by omega⟩
    simp only [hn, hr] at hs
    unfold con9 at hs
    simp only [Bool.or_eq_true, Bool.and_eq_true, beq_iff_eq, bne_iff_ne] at hs
    have k0 : l = [] → kids = [] := fun e => List.eq_nil_of_length_eq_zero (by rw [← hlen, e]; rfl)
    have k1 : ∀ x, l = [x] → ∃ c0, kids = [c0] ∧ typF (d + 1) c0 = (x, true) := fun x e => by
      subst e
      match kids, hlen, kid with
      | [c0], _, kid => exact ⟨c0, rfl, kid 0 c0 x rfl rfl⟩
    have k2 : ∀ x y, l = [x, y] → ∃ c0 c1, kids = [c0, c1] ∧ typF (d + 1) c0 = (x, true) ∧ typF (d + 1) c1 = (y, true) := fun x y e => by
      subst e
      match kids, hlen, kid with
      | [c0, c1], _, kid => exact ⟨c0, c1, rfl, kid 0 c0 x rfl rfl, kid 1 c1 y rfl rfl⟩
    have k3 : ∀ x y z, l = [x, y, z] → ∃ c0 c1 c2, kids = [c0, c1, c2] ∧ typF (d + 1) c0 = (x, true) ∧ typF (d + 1) c1 = (y, true) ∧ typF (d + 1) c2 = (z, true) := fun x y z e => by
      subst e
      match kids, hlen, kid with
      | [c0, c1, c2], _, kid => exact ⟨c0, c1, c2, rfl, kid 0 c0 x rfl rfl, kid 1 c1 y rfl rfl, kid 2 c2 z rfl rfl⟩
    rcases hs with ((((((((h | ⟨h, e⟩) | ⟨h, e⟩) | ⟨h, e⟩) | ⟨h, e⟩) | ⟨h, e⟩) | ⟨h, e⟩) | ⟨h, e⟩) | ⟨h, e⟩) | ⟨h, e⟩
    · exact absurd rfl h
    · exact .inl ⟨by omega, k0 e⟩
    · exact .inr (.inl ⟨by omega, k0 e⟩)
    · exact .inr (.inr (.inl ⟨by omega, k1 _ e⟩))
    · exact .inr (.inr (.inr (.inl ⟨by omega, k2 _ _ e⟩)))
    · exact .inr (.inr (.inr (.inr (.inl ⟨by omega, k2 _ _ e⟩))))
    · exact .inr (.inr (.inr (.inr (.inr (.inl ⟨by omega, k3 _ _ _ e⟩)))))
    · exact .inr (.inr (.inr (.inr (.inr (.inr (.inl ⟨by omega, k1 _ e⟩))))))
    · exact .inr (.inr (.inr (.inr (.inr (.inr (.inr (.inl ⟨by omega, k2 _ _ e⟩)))))))
    · exact .inr (.inr (.inr (.inr (.inr (.inr (.inr (.inr ⟨by omega, k2 _ _ e⟩)))))))
section
variable {n0 base g : Nat} {fs : Fs} {day : Int} {aF : Option Addr} {NF cF : Nat} {sv : Value} {c : Co} {A : List (Sp × Value)}

set_option maxRecDepth 100000 in
seal rn rnN rnS Goes ans atEnd put0 put putM opened openedY putA0 putA oneSt st0 keep mkSt newSt in
theorem goeson_any (hR : RFd fs) (hday : dayP day = true) (hg0 : n0 ≤ g) {d op k : Int} {s : List UInt8} {kids : List Co} {ak : Option Addr} {nk ck : Nat} {ap : Option Addr} {np cp : Nat} {p : Nat} {lv tv : Value} {ls : List (Int × Int)} {ts : List (List UInt8 × Int)} {w : World} (hnk : nk = kids.length) (htyp : typF d (.mk op k s kids) = (4, true)) (hmw : mwP op = true) (ihs : ∀ u ∈ kids, AOk n0 base g fs day (.slice aF NF cF) sv c A u) (hC : Cx n0 base fs (.slice aF NF cF) sv c A w) (hl : Lvs n0 w lv ls) (ht : Trs n0 day w tv ts) (hg : w.heap[g]? = some (dO day (.slice aF NF cF) sv lv tv)) (hN : Nc n0 w (cv op k s (.slice ak nk ck)) (.mk op k s kids)) (hpv : IzR base w (.slice ap np cp) (placesP ((p : Int) + 1) kids)) (hp : termP c p = some (.mk op k s kids)) (hsz : ((ls.length + ts.length : Nat) : Int) + szC (.mk op k s kids) ≤ 10000000) (f : Int) : Calls Tryz.prog 59 #[.pointer (some ⟨g, 0, none⟩), spV op k s (.slice ak nk ck) (.slice ap np cp), .int .i64 f] w (GQ n0 g day (.slice aF NF cF) sv w lv tv fs (.mk op k s kids) p f ls ts) := by
  have hm0 : Holds [(g, dO day (.slice aF NF cF) sv lv tv)] w := holds1 hg
  refine Goes.enter Tryz.func59 [(g, dO day (.slice aF NF cF) sv lv tv)] (AcI n0 g day w lv tv lv tv ls ts) hm0 (by simp [Mem.ids]) ((AcI.refl hl ht).stay ⟨_, _, _, hg, by decide, by decide⟩ (fun x hx => .inl (by simpa [Mem.ids] using hx))) ?_
  refine Goes.run [] [] trivial ?_
  refine Goes.new1 w.heap.size (fun w' h => h.1.size) fun g4 hg4 => ?_
  rcases con_cases htyp with ⟨rfl, -⟩ | ⟨rfl, -⟩ | ⟨rfl, -⟩ | ⟨rfl, c0, c1, rfl, ht0, ht1⟩ | ⟨rfl, -⟩ | ⟨rfl, c0, c1, c2, rfl, ht0, ht1, ht2⟩ | ⟨rfl, c0, rfl, ht0⟩ | ⟨rfl, c0, c1, rfl, ht0, ht1⟩ | ⟨rfl, c0, c1, rfl, ht0, ht1⟩
  · cases hmw
  · cases hmw
  · cases hmw
  · obtain rfl : nk = 2 := hnk
    have hloc : Loc w [(g4, spO 26 k s (.slice ak 2 ck) (.slice ap np cp))] := fun q hq => by rw [List.mem_singleton] at hq; subst hq; exact ⟨hg4, _, _, _, rfl, by decide⟩
    refine Goes.run [1, 1, 1] [(true, true)] ⟨rfl, trivial⟩ ?_
    refine Goes.callGQ 95 #[.pointer (some ⟨g, 0, none⟩), spV 26 k s (.slice ak 2 ck) (.slice ap np cp), .int .i64 f] (.mk 26 k s [c0, c1]) p f [(g4, spO 26 k s (.slice ak 2 ck) (.slice ap np cp))] hloc (fun w1 hm1 hI1 => scale_any hR hday hg0 ht0 ht1 (ihs c1 (by simp)) (hC.ch hI1.1 (oo_ty hl ht (dO_ty hg)) (oo_low hl ht hg0)) hI1.2.1 hI1.2.2.1 (hm1.get 0) (hN.later (hexA hl ht hg0 hC.low hI1)) (own_ch hpv hI1.1 fun b hb hm => by obtain ⟨c', e, z, hx, h4⟩ := oo_ty hl ht (dO_ty hg) b hm; exact own_not hpv hx (by rintro rfl; cases h4) hb) hp hsz f) fun B r lv2 tv2 hB1 hB2 => ?_
    refine Goes.run [] [] trivial ?_
    exact Goes.ret [] (.bool B) fun w' hm hI => ⟨B, r, ⟨lv2, tv2, rfl, hm.get 0, hI.now⟩, hB1, hB2⟩
  · cases hmw
  · obtain rfl : nk = 3 := hnk
    have hloc : Loc w [(g4, spO 28 k s (.slice ak 3 ck) (.slice ap np cp))] := fun q hq => by rw [List.mem_singleton] at hq; subst hq; exact ⟨hg4, _, _, _, rfl, by decide⟩
    refine Goes.run [1, 0, 1, 1] [(true, true), (false, false)] ⟨rfl, rfl, trivial⟩ ?_
    refine Goes.callGQ 96 #[.pointer (some ⟨g, 0, none⟩), spV 28 k s (.slice ak 3 ck) (.slice ap np cp), .int .i64 f] (.mk 28 k s [c0, c1, c2]) p f [(g4, spO 28 k s (.slice ak 3 ck) (.slice ap np cp))] hloc (fun w1 hm1 hI1 => branch_any hR hday hg0 ht0 ht1 (ihs c1 (by simp)) ht2 (ihs c2 (by simp)) (hC.ch hI1.1 (oo_ty hl ht (dO_ty hg)) (oo_low hl ht hg0)) hI1.2.1 hI1.2.2.1 (hm1.get 0) (hN.later (hexA hl ht hg0 hC.low hI1)) (own_ch hpv hI1.1 fun b hb hm => by obtain ⟨c', e, z, hx, h4⟩ := oo_ty hl ht (dO_ty hg) b hm; exact own_not hpv hx (by rintro rfl; cases h4) hb) hp hsz f) fun B r lv2 tv2 hB1 hB2 => ?_
    refine Goes.run [] [] trivial ?_
    exact Goes.ret [] (.bool B) fun w' hm hI => ⟨B, r, ⟨lv2, tv2, rfl, hm.get 0, hI.now⟩, hB1, hB2⟩
  · obtain rfl : nk = 1 := hnk
    have hloc : Loc w [(g4, spO 29 k s (.slice ak 1 ck) (.slice ap np cp))] := fun q hq => by rw [List.mem_singleton] at hq; subst hq; exact ⟨hg4, _, _, _, rfl, by decide⟩
    refine Goes.run [1, 0, 0, 1, 1] [(true, true), (false, false), (false, false)] ⟨rfl, rfl, rfl, trivial⟩ ?_
    refine Goes.callGQ 97 #[.pointer (some ⟨g, 0, none⟩), spV 29 k s (.slice ak 1 ck) (.slice ap np cp), .int .i64 f] (.mk 29 k s [c0]) p f [(g4, spO 29 k s (.slice ak 1 ck) (.slice ap np cp))] hloc (fun w1 hm1 hI1 => reach_any hR hday hg0 ht0 (ihs c0 (by simp)) (hC.ch hI1.1 (oo_ty hl ht (dO_ty hg)) (oo_low hl ht hg0)) hI1.2.1 hI1.2.2.1 (hm1.get 0) (hN.later (hexA hl ht hg0 hC.low hI1)) (own_ch hpv hI1.1 fun b hb hm => by obtain ⟨c', e, z, hx, h4⟩ := oo_ty hl ht (dO_ty hg) b hm; exact own_not hpv hx (by rintro rfl; cases h4) hb) hp hsz f) fun B r lv2 tv2 hB1 hB2 => ?_
    refine Goes.run [] [] trivial ?_
    exact Goes.ret [] (.bool B) fun w' hm hI => ⟨B, r, ⟨lv2, tv2, rfl, hm.get 0, hI.now⟩, hB1, hB2⟩
  · obtain rfl : nk = 2 := hnk
    have hloc : Loc w [(g4, spO 30 k s (.slice ak 2 ck) (.slice ap np cp))] := fun q hq => by rw [List.mem_singleton] at hq; subst hq; exact ⟨hg4, _, _, _, rfl, by decide⟩
    refine Goes.run [1, 0, 0, 0, 1, 1] [(true, true), (false, false), (false, false), (false, false)] ⟨rfl, rfl, rfl, rfl, trivial⟩ ?_
    refine Goes.callGQ 98 #[.pointer (some ⟨g, 0, none⟩), spV 30 k s (.slice ak 2 ck) (.slice ap np cp), .int .i64 f] (.mk 30 k s [c0, c1]) p f [(g4, spO 30 k s (.slice ak 2 ck) (.slice ap np cp))] hloc (fun w1 hm1 hI1 => watch_any hR hday hg0 ht0 ht1 (ihs c1 (by simp)) (hC.ch hI1.1 (oo_ty hl ht (dO_ty hg)) (oo_low hl ht hg0)) hI1.2.1 hI1.2.2.1 (hm1.get 0) (hN.later (hexA hl ht hg0 hC.low hI1)) (own_ch hpv hI1.1 fun b hb hm => by obtain ⟨c', e, z, hx, h4⟩ := oo_ty hl ht (dO_ty hg) b hm; exact own_not hpv hx (by rintro rfl; cases h4) hb) hp hsz f) fun B r lv2 tv2 hB1 hB2 => ?_
    refine Goes.run [] [] trivial ?_
    exact Goes.ret [] (.bool B) fun w' hm hI => ⟨B, r, ⟨lv2, tv2, rfl, hm.get 0, hI.now⟩, hB1, hB2⟩
  · obtain rfl : nk = 2 := hnk
    have hloc : Loc w [(g4, spO 31 k s (.slice ak 2 ck) (.slice ap np cp))] := fun q hq => by rw [List.mem_singleton] at hq; subst hq; exact ⟨hg4, _, _, _, rfl, by decide⟩
    refine Goes.run [1, 0, 0, 0, 0, 1] [(false, false), (false, false), (false, false), (false, false)] ⟨rfl, rfl, rfl, rfl, trivial⟩ ?_
    refine Goes.callGQ 99 #[.pointer (some ⟨g, 0, none⟩), spV 31 k s (.slice ak 2 ck) (.slice ap np cp), .int .i64 f] (.mk 31 k s [c0, c1]) p f [(g4, spO 31 k s (.slice ak 2 ck) (.slice ap np cp))] hloc (fun w1 hm1 hI1 => lapse_any hR hday hg0 ht0 (ihs c0 (by simp)) ht1 (ihs c1 (by simp)) (hC.ch hI1.1 (oo_ty hl ht (dO_ty hg)) (oo_low hl ht hg0)) hI1.2.1 hI1.2.2.1 (hm1.get 0) (hN.later (hexA hl ht hg0 hC.low hI1)) (own_ch hpv hI1.1 fun b hb hm => by obtain ⟨c', e, z, hx, h4⟩ := oo_ty hl ht (dO_ty hg) b hm; exact own_not hpv hx (by rintro rfl; cases h4) hb) hp hsz f) fun B r lv2 tv2 hB1 hB2 => ?_
    refine Goes.run [] [] trivial ?_
    exact Goes.ret [] (.bool B) fun w' hm hI => ⟨B, r, ⟨lv2, tv2, rfl, hm.get 0, hI.now⟩, hB1, hB2⟩
set_option maxRecDepth 100000 in
seal rn rnN rnS Goes ans atEnd put0 put putM opened openedY putA0 putA oneSt st0 keep mkSt newSt in
theorem acquire_any {bS NS cS : Nat} (hR : RFd fs) (hday : dayP day = true) (hg0 : n0 ≤ g) (hAl : A.length = NS) (t : Co) : AOk n0 base g fs day (.slice aF NF cF) (.slice (some ⟨bS, 0, none⟩) NS cS) c A t := by
  induction t using Co.ind with
  | h op k s kids ihs =>
    intro d p f lv tv ls ts w htyp hp hC hl ht hg hsz
    obtain ⟨X1, x, X2, hA, hX1, hx1, hx2, hx3, hx4, hN⟩ := hC.spc.at hp
    rw [Int.zero_add] at hx4
    have hX1p : X1.length = p := by omega
    have hxm : x ∈ A := by rw [hA]; simp
    have hpv := hC.spw.kid x hxm
    rw [hx4] at hpv
    obtain ⟨ak, ck, hkv, hfit, -, -⟩ := hN.open
    have hkv2 : x.1.kv = .slice ak kids.length ck := by unfold cv at hkv; injection hkv with e; simpa using e
    rw [hkv2] at hN
    obtain ⟨nk, hnk⟩ : ∃ nk, kids.length = nk := ⟨_, rfl⟩
    rw [hnk] at hkv2 hN
    obtain ⟨ap, cp, hpf⟩ := own_form hpv
    obtain ⟨np, hnp⟩ : ∃ np, (placesP ((p : Int) + 1) kids).length = np := ⟨_, rfl⟩
    rw [hnp] at hpf
    rw [hpf] at hpv
    have hpN : p < NS := by rw [← hAl, hA, List.length_append, List.length_cons]; omega
    have hpos : ∀ l : List Co, 0 ≤ szL l := szL_pos
    have hm0 : Holds [(g, dO day (.slice aF NF cF) (.slice (some ⟨bS, 0, none⟩) NS cS) lv tv)] w := holds1 hg
    refine Goes.enter Tryz.func29 [(g, dO day (.slice aF NF cF) (.slice (some ⟨bS, 0, none⟩) NS cS) lv tv)] (AcI n0 g day w lv tv lv tv ls ts) hm0 (by simp [Mem.ids]) ((AcI.refl hl ht).stay ⟨_, _, _, hg, by decide, by decide⟩ (fun x hx => .inl (by simpa [Mem.ids] using hx))) ?_
    refine Goes.run [0] [] trivial ?_
    refine Goes.val (Instr.indexAt 60 (.slice (some ⟨bS, 0, none⟩) NS cS) (.int .i64 p)) (.pointer (some ⟨bS, p * 5, none⟩)) (fun w' _ _ => idxSp bS NS cS p hpN w') ?_
    refine Goes.val (Instr.loadAt 99 (.pointer (some ⟨bS, p * 5, none⟩))) (spV op k s (.slice ak nk ck) (.slice ap np cp)) (fun w' _ hI => by
      have h1 := (hC.ch hI.now.1 (oo_ty hl ht (dO_ty hg)) (oo_low hl ht hg0)).spw
      rw [hA] at h1
      have h2 := loadSp h1 (by rw [← hA]; exact hAl)
      rwa [hX1p, hx1, hx2, hx3, hkv2, hpf] at h2) ?_
    refine Goes.new1 w.heap.size (fun w' h => h.1.size) fun g6 hg6 => ?_
    have hloc : Loc w [(g6, spO op k s (.slice ak nk ck) (.slice ap np cp))] := fun q hq => by rw [List.mem_singleton] at hq; subst hq; exact ⟨hg6, _, _, _, rfl, by decide⟩
    rcases con_cases htyp with ⟨rfl, rfl⟩ | ⟨rfl, rfl⟩ | ⟨rfl, c0, rfl, ht0⟩ | ⟨rfl, hk⟩ | ⟨rfl, c0, c1, rfl, ht0, ht1⟩ | ⟨rfl, hk⟩ | ⟨rfl, hk⟩ | ⟨rfl, hk⟩ | ⟨rfl, hk⟩
    · -- zero
      have hacq : acq fs day (.mk 23 k s []) p f = r0 := by rw [acq]; rfl
      refine Goes.run [1, 1, 0, 0, 0, 1] [(false, false), (false, false), (false, false)] ⟨rfl, rfl, rfl, trivial⟩ ?_
      refine Goes.call0 58 #[spV 23 k s (.slice ak nk ck) (.slice ap np cp)] (.bool false) (fun w' _ _ => maywait_any 23 k s ak nk ck ap np cp w') ?_
      refine Goes.run [0, 0] [(false, false), (false, false)] ⟨rfl, rfl, trivial⟩ ?_
      exact Goes.ret [] (.tuple #[]) fun w' hm hI => ⟨lv, tv, rfl, hm.get 0, by rw [hacq]; simpa [r0] using hI.now⟩
    · -- one
      have hacq : acq fs day (.mk 24 k s []) p f = bif f == 0 then r0 else ([], [(s, f)]) := by rw [acq]; rfl
      refine Goes.run [1, 1, 1, 1] [(true, true)] ⟨rfl, trivial⟩ ?_
      refine Goes.callAQ (fv := .slice aF NF cF) (sv := .slice (some ⟨bS, 0, none⟩) NS cS) 56 #[.pointer (some ⟨g, 0, none⟩), strV s, .int .i64 f] (.tuple #[]) ls (ts ++ bif f == 0 then [] else [(s, f)]) [(g6, spO 24 k s (.slice ak nk ck) (.slice ap np cp))] hloc (fun w1 hm1 hI1 => pay_any hI1.2.1 hI1.2.2.1 (hm1.get 0) (Nat.le_trans hC.low hI1.1.size) s f (by simp only [szC, szL] at hsz; omega)) fun lv2 tv2 => ?_
      refine Goes.run [1] [] trivial ?_
      refine Goes.call0 58 #[spV 24 k s (.slice ak nk ck) (.slice ap np cp)] (.bool false) (fun w' _ _ => maywait_any 24 k s ak nk ck ap np cp w') ?_
      refine Goes.run [0, 0] [(false, false), (false, false)] ⟨rfl, rfl, trivial⟩ ?_
      exact Goes.ret [] (.tuple #[]) fun w' hm hI => ⟨lv2, tv2, rfl, hm.get 0, by rw [hacq]; have := hI.now; cases hf : (f == 0) <;> rw [hf] at this <;> simpa [r0] using this⟩
    · -- give
      obtain ⟨kb, cur, cap, hpe, hkb, hcur⟩ := hpv.open (by simp [placesP])
      rw [places_len] at hpe
      cases hpe
      obtain ⟨q0, hq0⟩ : ∃ q : Nat, (q : Int) = (p : Int) + 1 + szL ([c0].take 0) := ⟨((p : Int) + 1 + szL ([c0].take 0)).toNat, by have := hpos ([c0].take 0); omega⟩
      have hT0 : termP c q0 = some c0 := by rw [hq0]; exact kid_term hp rfl
      have hcq0 : cur[0]? = some (.int .i64 (q0 : Int)) := by rw [hq0]; exact hcur 0 _ (places_get (c := c0) rfl)
      have hacq : acq fs day (.mk 25 k s [c0]) p f = acq fs day c0 q0 (- clampI f) := by rw [acq, hq0]; show brA (acqL fs day [c0] ((p : Int) + 1)) 0 (- clampI f) = _; exact acq_get fs day ((p : Int) + 1) (- clampI f) (i := 0) (c := c0) rfl
      refine Goes.run [1, 1, 0, 1] [(true, true), (false, false)] ⟨rfl, rfl, trivial⟩ ?_
      refine Goes.openY [1] [(kb, .cells cur 3 (0, 0))] (fun w' hI => holds1 (ch_other hI.1 (oo_ty hl ht (dO_ty hg)) hkb (by decide))) ?_
      refine Goes.run [0, 1, 2, 0, 3, 0, 5] [] trivial ?_
      refine Goes.valA 4 (Instr.loadAt 3 (.pointer (some ⟨kb, 0, none⟩))) (.int .i64 (q0 : Int)) (fun w' hm => load1 Tryz.isAgg3 (cell_obj (t := 3) (z := (0, 0)) (hm.get 1) hcq0)) ?_
      refine Goes.callA0 6 57 #[.int .i64 f] (.int .i64 (- clampI f)) (fun w' _ _ => (neg_any f w').mono fun _ _ h => belQ h) ?_
      refine Goes.callAQA 7 29 #[.pointer (some ⟨g, 0, none⟩), .int .i64 q0, .int .i64 (- clampI f)] (.tuple #[]) (ls ++ (acq fs day c0 q0 (- clampI f)).1) (ts ++ (acq fs day c0 q0 (- clampI f)).2) [(g6, spO 25 k s (.slice ak nk ck) (.slice (some ⟨kb, 0, none⟩) 1 cp))] hloc [(g6, spO 25 k s (.slice ak nk ck) (.slice (some ⟨kb, 0, none⟩) 1 cp)), (kb, .cells cur 3 (0, 0))] (fun q hq => by rcases List.mem_cons.1 hq with rfl | hq; exact ⟨_, _, _, rfl, by decide⟩; rw [List.mem_singleton] at hq; subst hq; exact ⟨_, _, _, rfl, by decide⟩) (fun w1 hm1 hI1 => ihs c0 (by simp) _ q0 (- clampI f) lv tv ls ts w1 ht0 hT0 (hC.ch hI1.1 (oo_ty hl ht (dO_ty hg)) (oo_low hl ht hg0)) hI1.2.1 hI1.2.2.1 (hm1.get 0) (by have e := hsz; simp only [szC, szL] at e; have := szC_pos c0; omega)) fun lv2 tv2 => ?_
      refine Goes.run [1] [] trivial ?_
      refine Goes.call0 58 #[spV 25 k s (.slice ak nk ck) (.slice (some ⟨kb, 0, none⟩) 1 cp)] (.bool false) (fun w' _ _ => maywait_any 25 k s ak nk ck (some ⟨kb, 0, none⟩) 1 cp w') ?_
      refine Goes.run [0, 0] [(false, false), (false, false)] ⟨rfl, rfl, trivial⟩ ?_
      exact Goes.ret [] (.tuple #[]) fun w' hm hI => ⟨lv2, tv2, rfl, hm.get 0, by rw [hacq]; exact hI.now⟩
    · -- 26
      refine Goes.run [1, 1, 0, 0, 0, 1] [(false, false), (false, false), (false, false)] ⟨rfl, rfl, rfl, trivial⟩ ?_
      refine Goes.call0 58 #[spV 26 k s (.slice ak nk ck) (.slice ap np cp)] (.bool true) (fun w' _ _ => maywait_any 26 k s ak nk ck ap np cp w') ?_
      refine Goes.run [1, 1] [(true, true)] ⟨rfl, trivial⟩ ?_
      refine Goes.callGQ 59 #[.pointer (some ⟨g, 0, none⟩), spV 26 k s (.slice ak nk ck) (.slice ap np cp), .int .i64 f] (.mk 26 k s kids) p f [(g6, spO 26 k s (.slice ak nk ck) (.slice ap np cp))] hloc (fun w1 hm1 hI1 => goeson_any hR hday hg0 hnk.symm htyp rfl (fun u hu => ihs u hu) (hC.ch hI1.1 (oo_ty hl ht (dO_ty hg)) (oo_low hl ht hg0)) hI1.2.1 hI1.2.2.1 (hm1.get 0) (hN.later (hexA hl ht hg0 hC.low hI1)) (own_ch hpv hI1.1 fun b hb hm => by obtain ⟨c', e, z, hx, h4⟩ := oo_ty hl ht (dO_ty hg) b hm; exact own_not hpv hx (by rintro rfl; cases h4) hb) hp hsz f) fun B r lv2 tv2 hB1 hB2 => ?_
      cases B with
      | true =>
        refine Goes.run [0] [(false, false)] ⟨rfl, trivial⟩ ?_
        exact Goes.ret [] (.tuple #[]) fun w' hm hI => ⟨lv2, tv2, rfl, hm.get 0, by rw [hB1]; exact hI.now⟩
      | false =>
        obtain rfl := hB2 rfl
        refine Goes.run1 [1, 0] [(true, true)] ⟨rfl, trivial⟩ fun gb => ?_
        refine Goes.eff (Builtin.append_ #[31, 31] 31 #[lv2, .slice (some ⟨gb, 0, none⟩) 1 1]) fun w1 hm1 hn1 hI1 => ?_
        have z1 : w1.heap[gb]? = some (.cells #[.int .i64 (p : Int), .int .i64 f] 70 (0, 0)) := hm1.get 2
        have hI1' := hI1.now
        simp only [r0, List.append_nil] at hI1'
        obtain ⟨b, c', w2, hr, hI2, hk2⟩ := hI1'.live (Nat.le_trans hC.low hI1'.1.size) ((p : Int), f) z1 (by have := szC_pos (.mk 26 k s kids); omega) (ty := 31) (c := 1)
        have z2 : w2.heap[g]? = some (dO day (.slice aF NF cF) (.slice (some ⟨bS, 0, none⟩) NS cS) lv2 tv2) := hk2 g _ _ _ (hm1.get 0) (by decide)
        refine ⟨_, w2, _, [(g, dO day (.slice aF NF cF) (.slice (some ⟨bS, 0, none⟩) NS cS) lv2 tv2)], hr, holds1 z2, by simp [Mem.ids], hI2.stay ⟨_, _, _, z2, by decide, by decide⟩ (fun x hx => .inl (by simpa [Mem.ids] using hx)), ?_⟩
        refine Goes.run [0] [] trivial ?_
        exact Goes.ret [] (.tuple #[]) fun w' hm hI => ⟨_, tv2, rfl, hm.get 0, by rw [hB1]; have := hI.now; simpa [wt] using this⟩
    · -- both
      obtain ⟨kb, cur, cap, hpe, hkb, hcur⟩ := hpv.open (by simp [placesP])
      rw [places_len] at hpe
      cases hpe
      obtain ⟨q0, hq0⟩ : ∃ q : Nat, (q : Int) = (p : Int) + 1 + szL ([c0, c1].take 0) := ⟨((p : Int) + 1 + szL ([c0, c1].take 0)).toNat, by have := hpos ([c0, c1].take 0); omega⟩
      have hT0 : termP c q0 = some c0 := by rw [hq0]; exact kid_term hp rfl
      have hcq0 : cur[0]? = some (.int .i64 (q0 : Int)) := by rw [hq0]; exact hcur 0 _ (places_get (c := c0) rfl)
      obtain ⟨q1, hq1⟩ : ∃ q : Nat, (q : Int) = (p : Int) + 1 + szL ([c0, c1].take 1) := ⟨((p : Int) + 1 + szL ([c0, c1].take 1)).toNat, by have := hpos ([c0, c1].take 1); omega⟩
      have hT1 : termP c q1 = some c1 := by rw [hq1]; exact kid_term hp rfl
      have hcq1 : cur[1]? = some (.int .i64 (q1 : Int)) := by rw [hq1]; exact hcur 1 _ (places_get (c := c1) rfl)
      have hacq : acq fs day (.mk 27 k s [c0, c1]) p f = R2.cat (acq fs day c0 q0 f) (acq fs day c1 q1 f) := by
        rw [acq, hq0, hq1]
        show R2.cat (brA _ 0 f) (brA _ 1 f) = _
        rw [acq_get fs day ((p : Int) + 1) f (i := 0) (c := c0) rfl, acq_get fs day ((p : Int) + 1) f (i := 1) (c := c1) rfl]
      have hlen0 := acq_len fs day c0 q0 f
      refine Goes.run [1, 1, 0, 0, 1, 1, 0] [(true, true), (false, false), (false, false)] ⟨rfl, rfl, rfl, trivial⟩ ?_
      refine Goes.val (Instr.loadAt 3 (.pointer (some ⟨kb, 0, none⟩))) (.int .i64 (q0 : Int)) (fun w' _ hI => load1 Tryz.isAgg3 (cell_obj (ch_other hI.now.1 (oo_ty hl ht (dO_ty hg)) hkb (by decide)) hcq0)) ?_
      refine Goes.run [] [] trivial ?_
      refine Goes.callAQ 29 #[.pointer (some ⟨g, 0, none⟩), .int .i64 q0, .int .i64 f] (.tuple #[]) (ls ++ (acq fs day c0 q0 f).1) (ts ++ (acq fs day c0 q0 f).2) [(g6, spO 27 k s (.slice ak nk ck) (.slice (some ⟨kb, 0, none⟩) 2 cp))] hloc (fun w1 hm1 hI1 => ihs c0 (by simp) _ q0 f lv tv ls ts w1 ht0 hT0 (hC.ch hI1.1 (oo_ty hl ht (dO_ty hg)) (oo_low hl ht hg0)) hI1.2.1 hI1.2.2.1 (hm1.get 0) (by have e := hsz; simp only [szC, szL] at e; have := szC_pos c0; have := szC_pos c1; omega)) fun lv2 tv2 => ?_
      refine Goes.run [1, 0] [] trivial ?_
      refine Goes.val (Instr.loadAt 3 (.pointer (some ⟨kb, 1, none⟩))) (.int .i64 (q1 : Int)) (fun w' _ hI => load1 Tryz.isAgg3 (cell_obj (ch_other hI.now.1 (oo_ty hl ht (dO_ty hg)) hkb (by decide)) hcq1)) ?_
      refine Goes.run [] [] trivial ?_
      refine Goes.callAQ 29 #[.pointer (some ⟨g, 0, none⟩), .int .i64 q1, .int .i64 f] (.tuple #[]) ((ls ++ (acq fs day c0 q0 f).1) ++ (acq fs day c1 q1 f).1) ((ts ++ (acq fs day c0 q0 f).2) ++ (acq fs day c1 q1 f).2) [(g6, spO 27 k s (.slice ak nk ck) (.slice (some ⟨kb, 0, none⟩) 2 cp))] hloc (fun w1 hm1 hI1 => ihs c1 (by simp) _ q1 f lv2 tv2 _ _ w1 ht1 hT1 (hC.ch hI1.1 (oo_ty hl ht (dO_ty hg)) (oo_low hl ht hg0)) hI1.2.1 hI1.2.2.1 (hm1.get 0) (by have e := hsz; simp only [szC, szL] at e; rw [List.length_append, List.length_append]; have := szC_pos c1; omega)) fun lv3 tv3 => ?_
      refine Goes.run [1] [] trivial ?_
      refine Goes.call0 58 #[spV 27 k s (.slice ak nk ck) (.slice (some ⟨kb, 0, none⟩) 2 cp)] (.bool false) (fun w' _ _ => maywait_any 27 k s ak nk ck (some ⟨kb, 0, none⟩) 2 cp w') ?_
      refine Goes.run [0, 0] [(false, false), (false, false)] ⟨rfl, rfl, trivial⟩ ?_
      exact Goes.ret [] (.tuple #[]) fun w' hm hI => ⟨lv3, tv3, rfl, hm.get 0, by rw [hacq]; have := hI.now; simpa [R2.cat] using this⟩
    · -- 28
      refine Goes.run [1, 1, 0, 0, 0, 1] [(false, false), (false, false), (false, false)] ⟨rfl, rfl, rfl, trivial⟩ ?_
      refine Goes.call0 58 #[spV 28 k s (.slice ak nk ck) (.slice ap np cp)] (.bool true) (fun w' _ _ => maywait_any 28 k s ak nk ck ap np cp w') ?_
      refine Goes.run [1, 1] [(true, true)] ⟨rfl, trivial⟩ ?_
      refine Goes.callGQ 59 #[.pointer (some ⟨g, 0, none⟩), spV 28 k s (.slice ak nk ck) (.slice ap np cp), .int .i64 f] (.mk 28 k s kids) p f [(g6, spO 28 k s (.slice ak nk ck) (.slice ap np cp))] hloc (fun w1 hm1 hI1 => goeson_any hR hday hg0 hnk.symm htyp rfl (fun u hu => ihs u hu) (hC.ch hI1.1 (oo_ty hl ht (dO_ty hg)) (oo_low hl ht hg0)) hI1.2.1 hI1.2.2.1 (hm1.get 0) (hN.later (hexA hl ht hg0 hC.low hI1)) (own_ch hpv hI1.1 fun b hb hm => by obtain ⟨c', e, z, hx, h4⟩ := oo_ty hl ht (dO_ty hg) b hm; exact own_not hpv hx (by rintro rfl; cases h4) hb) hp hsz f) fun B r lv2 tv2 hB1 hB2 => ?_
      cases B with
      | true =>
        refine Goes.run [0] [(false, false)] ⟨rfl, trivial⟩ ?_
        exact Goes.ret [] (.tuple #[]) fun w' hm hI => ⟨lv2, tv2, rfl, hm.get 0, by rw [hB1]; exact hI.now⟩
      | false =>
        obtain rfl := hB2 rfl
        refine Goes.run1 [1, 0] [(true, true)] ⟨rfl, trivial⟩ fun gb => ?_
        refine Goes.eff (Builtin.append_ #[31, 31] 31 #[lv2, .slice (some ⟨gb, 0, none⟩) 1 1]) fun w1 hm1 hn1 hI1 => ?_
        have z1 : w1.heap[gb]? = some (.cells #[.int .i64 (p : Int), .int .i64 f] 70 (0, 0)) := hm1.get 2
        have hI1' := hI1.now
        simp only [r0, List.append_nil] at hI1'
        obtain ⟨b, c', w2, hr, hI2, hk2⟩ := hI1'.live (Nat.le_trans hC.low hI1'.1.size) ((p : Int), f) z1 (by have := szC_pos (.mk 28 k s kids); omega) (ty := 31) (c := 1)
        have z2 : w2.heap[g]? = some (dO day (.slice aF NF cF) (.slice (some ⟨bS, 0, none⟩) NS cS) lv2 tv2) := hk2 g _ _ _ (hm1.get 0) (by decide)
        refine ⟨_, w2, _, [(g, dO day (.slice aF NF cF) (.slice (some ⟨bS, 0, none⟩) NS cS) lv2 tv2)], hr, holds1 z2, by simp [Mem.ids], hI2.stay ⟨_, _, _, z2, by decide, by decide⟩ (fun x hx => .inl (by simpa [Mem.ids] using hx)), ?_⟩
        refine Goes.run [0] [] trivial ?_
        exact Goes.ret [] (.tuple #[]) fun w' hm hI => ⟨_, tv2, rfl, hm.get 0, by rw [hB1]; have := hI.now; simpa [wt] using this⟩
    · -- 29
      refine Goes.run [1, 1, 0, 0, 0, 1] [(false, false), (false, false), (false, false)] ⟨rfl, rfl, rfl, trivial⟩ ?_
      refine Goes.call0 58 #[spV 29 k s (.slice ak nk ck) (.slice ap np cp)] (.bool true) (fun w' _ _ => maywait_any 29 k s ak nk ck ap np cp w') ?_
      refine Goes.run [1, 1] [(true, true)] ⟨rfl, trivial⟩ ?_
      refine Goes.callGQ 59 #[.pointer (some ⟨g, 0, none⟩), spV 29 k s (.slice ak nk ck) (.slice ap np cp), .int .i64 f] (.mk 29 k s kids) p f [(g6, spO 29 k s (.slice ak nk ck) (.slice ap np cp))] hloc (fun w1 hm1 hI1 => goeson_any hR hday hg0 hnk.symm htyp rfl (fun u hu => ihs u hu) (hC.ch hI1.1 (oo_ty hl ht (dO_ty hg)) (oo_low hl ht hg0)) hI1.2.1 hI1.2.2.1 (hm1.get 0) (hN.later (hexA hl ht hg0 hC.low hI1)) (own_ch hpv hI1.1 fun b hb hm => by obtain ⟨c', e, z, hx, h4⟩ := oo_ty hl ht (dO_ty hg) b hm; exact own_not hpv hx (by rintro rfl; cases h4) hb) hp hsz f) fun B r lv2 tv2 hB1 hB2 => ?_
      cases B with
      | true =>
        refine Goes.run [0] [(false, false)] ⟨rfl, trivial⟩ ?_
        exact Goes.ret [] (.tuple #[]) fun w' hm hI => ⟨lv2, tv2, rfl, hm.get 0, by rw [hB1]; exact hI.now⟩
      | false =>
        obtain rfl := hB2 rfl
        refine Goes.run1 [1, 0] [(true, true)] ⟨rfl, trivial⟩ fun gb => ?_
        refine Goes.eff (Builtin.append_ #[31, 31] 31 #[lv2, .slice (some ⟨gb, 0, none⟩) 1 1]) fun w1 hm1 hn1 hI1 => ?_
        have z1 : w1.heap[gb]? = some (.cells #[.int .i64 (p : Int), .int .i64 f] 70 (0, 0)) := hm1.get 2
        have hI1' := hI1.now
        simp only [r0, List.append_nil] at hI1'
        obtain ⟨b, c', w2, hr, hI2, hk2⟩ := hI1'.live (Nat.le_trans hC.low hI1'.1.size) ((p : Int), f) z1 (by have := szC_pos (.mk 29 k s kids); omega) (ty := 31) (c := 1)
        have z2 : w2.heap[g]? = some (dO day (.slice aF NF cF) (.slice (some ⟨bS, 0, none⟩) NS cS) lv2 tv2) := hk2 g _ _ _ (hm1.get 0) (by decide)
        refine ⟨_, w2, _, [(g, dO day (.slice aF NF cF) (.slice (some ⟨bS, 0, none⟩) NS cS) lv2 tv2)], hr, holds1 z2, by simp [Mem.ids], hI2.stay ⟨_, _, _, z2, by decide, by decide⟩ (fun x hx => .inl (by simpa [Mem.ids] using hx)), ?_⟩
        refine Goes.run [0] [] trivial ?_
        exact Goes.ret [] (.tuple #[]) fun w' hm hI => ⟨_, tv2, rfl, hm.get 0, by rw [hB1]; have := hI.now; simpa [wt] using this⟩
    · -- 30
      refine Goes.run [1, 1, 0, 0, 0, 1] [(false, false), (false, false), (false, false)] ⟨rfl, rfl, rfl, trivial⟩ ?_
      refine Goes.call0 58 #[spV 30 k s (.slice ak nk ck) (.slice ap np cp)] (.bool true) (fun w' _ _ => maywait_any 30 k s ak nk ck ap np cp w') ?_
      refine Goes.run [1, 1] [(true, true)] ⟨rfl, trivial⟩ ?_
      refine Goes.callGQ 59 #[.pointer (some ⟨g, 0, none⟩), spV 30 k s (.slice ak nk ck) (.slice ap np cp), .int .i64 f] (.mk 30 k s kids) p f [(g6, spO 30 k s (.slice ak nk ck) (.slice ap np cp))] hloc (fun w1 hm1 hI1 => goeson_any hR hday hg0 hnk.symm htyp rfl (fun u hu => ihs u hu) (hC.ch hI1.1 (oo_ty hl ht (dO_ty hg)) (oo_low hl ht hg0)) hI1.2.1 hI1.2.2.1 (hm1.get 0) (hN.later (hexA hl ht hg0 hC.low hI1)) (own_ch hpv hI1.1 fun b hb hm => by obtain ⟨c', e, z, hx, h4⟩ := oo_ty hl ht (dO_ty hg) b hm; exact own_not hpv hx (by rintro rfl; cases h4) hb) hp hsz f) fun B r lv2 tv2 hB1 hB2 => ?_
      cases B with
      | true =>
        refine Goes.run [0] [(false, false)] ⟨rfl, trivial⟩ ?_
        exact Goes.ret [] (.tuple #[]) fun w' hm hI => ⟨lv2, tv2, rfl, hm.get 0, by rw [hB1]; exact hI.now⟩
      | false =>
        obtain rfl := hB2 rfl
        refine Goes.run1 [1, 0] [(true, true)] ⟨rfl, trivial⟩ fun gb => ?_
        refine Goes.eff (Builtin.append_ #[31, 31] 31 #[lv2, .slice (some ⟨gb, 0, none⟩) 1 1]) fun w1 hm1 hn1 hI1 => ?_
        have z1 : w1.heap[gb]? = some (.cells #[.int .i64 (p : Int), .int .i64 f] 70 (0, 0)) := hm1.get 2
        have hI1' := hI1.now
        simp only [r0, List.append_nil] at hI1'
        obtain ⟨b, c', w2, hr, hI2, hk2⟩ := hI1'.live (Nat.le_trans hC.low hI1'.1.size) ((p : Int), f) z1 (by have := szC_pos (.mk 30 k s kids); omega) (ty := 31) (c := 1)
        have z2 : w2.heap[g]? = some (dO day (.slice aF NF cF) (.slice (some ⟨bS, 0, none⟩) NS cS) lv2 tv2) := hk2 g _ _ _ (hm1.get 0) (by decide)
        refine ⟨_, w2, _, [(g, dO day (.slice aF NF cF) (.slice (some ⟨bS, 0, none⟩) NS cS) lv2 tv2)], hr, holds1 z2, by simp [Mem.ids], hI2.stay ⟨_, _, _, z2, by decide, by decide⟩ (fun x hx => .inl (by simpa [Mem.ids] using hx)), ?_⟩
        refine Goes.run [0] [] trivial ?_
        exact Goes.ret [] (.tuple #[]) fun w' hm hI => ⟨_, tv2, rfl, hm.get 0, by rw [hB1]; have := hI.now; simpa [wt] using this⟩
    · -- 31
      refine Goes.run [1, 1, 0, 0, 0, 1] [(false, false), (false, false), (false, false)] ⟨rfl, rfl, rfl, trivial⟩ ?_
      refine Goes.call0 58 #[spV 31 k s (.slice ak nk ck) (.slice ap np cp)] (.bool true) (fun w' _ _ => maywait_any 31 k s ak nk ck ap np cp w') ?_
      refine Goes.run [1, 1] [(true, true)] ⟨rfl, trivial⟩ ?_
      refine Goes.callGQ 59 #[.pointer (some ⟨g, 0, none⟩), spV 31 k s (.slice ak nk ck) (.slice ap np cp), .int .i64 f] (.mk 31 k s kids) p f [(g6, spO 31 k s (.slice ak nk ck) (.slice ap np cp))] hloc (fun w1 hm1 hI1 => goeson_any hR hday hg0 hnk.symm htyp rfl (fun u hu => ihs u hu) (hC.ch hI1.1 (oo_ty hl ht (dO_ty hg)) (oo_low hl ht hg0)) hI1.2.1 hI1.2.2.1 (hm1.get 0) (hN.later (hexA hl ht hg0 hC.low hI1)) (own_ch hpv hI1.1 fun b hb hm => by obtain ⟨c', e, z, hx, h4⟩ := oo_ty hl ht (dO_ty hg) b hm; exact own_not hpv hx (by rintro rfl; cases h4) hb) hp hsz f) fun B r lv2 tv2 hB1 hB2 => ?_
      cases B with
      | true =>
        refine Goes.run [0] [(false, false)] ⟨rfl, trivial⟩ ?_
        exact Goes.ret [] (.tuple #[]) fun w' hm hI => ⟨lv2, tv2, rfl, hm.get 0, by rw [hB1]; exact hI.now⟩
      | false =>
        obtain rfl := hB2 rfl
        refine Goes.run1 [1, 0] [(true, true)] ⟨rfl, trivial⟩ fun gb => ?_
        refine Goes.eff (Builtin.append_ #[31, 31] 31 #[lv2, .slice (some ⟨gb, 0, none⟩) 1 1]) fun w1 hm1 hn1 hI1 => ?_
        have z1 : w1.heap[gb]? = some (.cells #[.int .i64 (p : Int), .int .i64 f] 70 (0, 0)) := hm1.get 2
        have hI1' := hI1.now
        simp only [r0, List.append_nil] at hI1'
        obtain ⟨b, c', w2, hr, hI2, hk2⟩ := hI1'.live (Nat.le_trans hC.low hI1'.1.size) ((p : Int), f) z1 (by have := szC_pos (.mk 31 k s kids); omega) (ty := 31) (c := 1)
        have z2 : w2.heap[g]? = some (dO day (.slice aF NF cF) (.slice (some ⟨bS, 0, none⟩) NS cS) lv2 tv2) := hk2 g _ _ _ (hm1.get 0) (by decide)
        refine ⟨_, w2, _, [(g, dO day (.slice aF NF cF) (.slice (some ⟨bS, 0, none⟩) NS cS) lv2 tv2)], hr, holds1 z2, by simp [Mem.ids], hI2.stay ⟨_, _, _, z2, by decide, by decide⟩ (fun x hx => .inl (by simpa [Mem.ids] using hx)), ?_⟩
        refine Goes.run [0] [] trivial ?_
        exact Goes.ret [] (.tuple #[]) fun w' hm hI => ⟨_, tv2, rfl, hm.get 0, by rw [hB1]; have := hI.now; simpa [wt] using this⟩
end
end Go.Proofs.YthnojedlndblbaaGreatDoor
