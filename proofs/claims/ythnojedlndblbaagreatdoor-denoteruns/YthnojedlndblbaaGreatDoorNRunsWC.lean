/- the text NRunsW -/
import Derived.Test.YthnojedlndblbaaGreatDoorNStepsWC
import Derived.Test.YthnojedlndblbaaGreatDoorNGl
namespace Go.Proofs.YthnojedlndblbaaGreatDoor
open Go Go.RowKit

theorem sizeEv : (Tryz.prog.info? 43).map (·.size) = some 4 := by kernel_rfl
theorem idxEv (b o n cap k : Nat) (h : k < n) (w : World) : (Instr.indexAt 41 (.slice (some ⟨b, o, none⟩) n cap) (.int .i64 k)).run Tryz.prog w = .ok (.pointer (some ⟨b, o + k * 4, none⟩)) w := by go_simp
theorem loadEv {w : World} {b o : Nat} {x y z u : Value} (h0 : w.cell? ⟨b, o, none⟩ = some x) (h1 : w.cell? ⟨b, o + 1, none⟩ = some y) (h2 : w.cell? ⟨b, o + 2, none⟩ = some z) (h3 : w.cell? ⟨b, o + 3, none⟩ = some u) : (Instr.loadAt 43 (.pointer (some ⟨b, o, none⟩))).run Tryz.prog w = .ok (.agg #[x, y, z, u]) w :=
  loadAgg Tryz.isAgg43 sizeEv [x, y, z, u] rfl fun j v hv => by
    match j, hv with
    | 0, hv => cases hv; exact h0
    | 1, hv => cases hv; exact h1
    | 2, hv => cases hv; exact h2
    | 3, hv => cases hv; exact h3
structure RS where
  i : Nat
  l : List (Int × Int)
  a1 : Option Addr
  c1 : Nat
  a2 : Option Addr
  c2 : Nat
set_option maxRecDepth 100000 in
set_option maxHeartbeats 8000000 in
seal rn rnN rnS Goes ans atEnd put0 put putM opened openedY putA0 putA oneSt st0 keep mkSt newSt in
theorem runs_walk {es : List Ev} {ev u : Value} {c : Co} {w : World} (day : Int) (hT : Tab w) (htl : 1 < w.heap.size) (hN : Nc w.heap.size w u c) (hE : Evs w.heap.size w ev es) (hl : ∀ e ∈ es, EvOk e) : Calls Tryz.prog 6 #[u, .int .i64 day, ev] w fun e w' => e = .returned (.bool true) ∧ Below w.heap.size w w' := by
  obtain ⟨op, k, t, a, N, cc, rfl⟩ := hN.cells
  obtain ⟨aE, cE, rfl, hcE, hev⟩ := hE
  obtain ⟨NE, hNE⟩ : ∃ NE, es.length = NE := ⟨_, rfl⟩
  rw [hNE] at hcE ⊢
  obtain ⟨hl1, hl2⟩ := beg_len (fs := []) (day := day) (c := c)
  refine Goes.begin Tryz.func6 [] (fun _ => True) Holds.nil (by simp [Mem.ids]) (fun _ _ => trivial) ?_
  refine Goes.run1 [] [] trivial fun g3 => ?_
  refine Goes.call0 9 #[] (.bool true) (fun w' _ hI => shownd_any w' (hT.below (bel0 hI)) (Nat.lt_of_lt_of_le htl (bel0 hI).size)) ?_
  refine Goes.run [0] [] trivial ?_
  obtain ⟨l0, t0, e0, hr⟩ : ∃ l t0 e0, begR [] day c = ((l, t0), e0) := ⟨_, _, _, rfl⟩
  rw [hr] at hl1 hl2
  refine Goes.callLT 12 #[cv op k t (.slice a N cc), .int .i64 day, .slice none 0 0] day ((l0, t0), e0) w.heap.size (fun w1 hm hI => by have := begin_any (fs := []) day (hT.below (bel0 hI)) (Nat.lt_of_lt_of_le htl (bel0 hI).size) (hN.at (bel0 hI)) Fds.nil0 (by simp); rwa [hr] at this) (fun w' h => h.1.size) fun aL cL aT cT => ?_
  refine Goes.run [0] [] trivial ?_
  refine Goes.callLT 13 #[cv op k t (.slice a N cc), .int .i64 day, .slice none 0 0] day ((l0, t0), e0) w.heap.size (fun w1 hm hI => by have hB := bel0 (hI.mono fun _ h => h.1); have := rbegin_any (fs := []) day (hN.at hB) Fds.nil0 (by simp); rwa [hr] at this) (fun w' h => h.1.1.size) fun aM cM aU cU => ?_
  refine Goes.run [] [] trivial ?_
  refine Goes.call0 14 #[.slice aL l0.length cL, .slice aM l0.length cM] (.bool true) (fun w' _ hI => samelives_any hI.now.1.2.1 hI.now.2.1 hl1) ?_
  refine Goes.run [1] [(true, true)] ⟨rfl, trivial⟩ ?_
  refine Goes.call0 15 #[.slice aT t0.length cT, .slice aU t0.length cU] (.bool true) (fun w' _ hI => sametrans_any hI.now.1.2.2 hI.now.2.2 hl2) ?_
  have he0 : e0 = 0 ∨ e0 = 150 := by
    rcases beg_cases [] day c with ⟨h1, -⟩ | ⟨h1, -⟩
    · rw [h1] at hr; exact .inl (congrArg Prod.snd hr).symm
    · rw [h1] at hr; exact .inr (congrArg Prod.snd hr).symm
  rcases he0.symm with rfl | rfl
  · refine Goes.run [0, 0, 1, 1, 1] [(true, true), (true, true), (true, true), (false, false), (false, false)] ⟨rfl, rfl, rfl, rfl, rfl, trivial⟩ ?_
    exact Goes.ret [] (.bool true) fun w' hm hI => ⟨rfl, bel0 (hI.mono fun _ h => h.1.1)⟩
  refine Goes.run [0, 0, 0] [(false, false), (false, false), (false, false)] ⟨rfl, rfl, rfl, trivial⟩ ?_
  refine Goes.loop (α := RS) 127 (fun q => [(2, .slice aE NE cE), (3, .pointer (some ⟨g3, 0, none⟩)), (7, .bool true), (8, .slice q.a1 q.l.length q.c1), (11, .slice q.a2 q.l.length q.c2), (15, .int .i64 q.i)]) (fun _ => [(g3, cO op k t (.slice a N cc))]) (fun q w' => (Ch (Mem.ids []) w w' ∧ True) ∧ (Lvs w.heap.size w' (.slice q.a1 q.l.length q.c1) q.l ∧ Lvs w.heap.size w' (.slice q.a2 q.l.length q.c2) q.l)) (fun q => q.i ≤ NE) (fun q => NE - q.i) ⟨0, l0, aL, cL, aM, cM⟩ (Nat.zero_le _) (fun w' h => ⟨h.1.1, h.1.2.1, h.2.1⟩) ?_
  rintro ⟨i, l, a1, c1, a2, c2⟩ J hi back
  simp only at hi back ⊢
  cases hlt : decide ((i : Int) < (NE : Int)) with
  | false =>
    refine Goes.run [0, 0, 0] [(false, false), (decide ((i : Int) < (NE : Int)), false)] ⟨rfl, hlt, trivial⟩ ?_
    exact Goes.ret [] (.bool true) fun w' hm hI => ⟨rfl, bel0 (hI.mono fun _ h => h.1)⟩
  | true =>
  cases hl3 : decide ((i : Int) < 100) with
  | false =>
    refine Goes.run [0, 1, 0] [(decide ((i : Int) < 100), false), (decide ((i : Int) < (NE : Int)), true)] ⟨hl3, hlt, trivial⟩ ?_
    exact Goes.ret [] (.bool true) fun w' hm hI => ⟨rfl, bel0 (hI.mono fun _ h => h.1)⟩
  | true =>
  have hil : i < NE := by have := of_decide_eq_true hlt; omega
  obtain ⟨e, he⟩ : ∃ e, es[i]? = some e := ⟨es[i]'(by omega), by simp⟩
  obtain ⟨be, oe, ue, rfl, hbe, x1, x2, hFe, x3, x4⟩ := hev i e he
  obtain ⟨aF, NF, cF, rfl⟩ : ∃ aF NF cF, ue = .slice aF NF cF := by obtain ⟨x, y, e, -⟩ := hFe; exact ⟨x, _, y, e⟩
  obtain ⟨ok1, ok2⟩ := hl e (List.mem_of_getElem? he)
  refine Goes.run [0, 1, 1] [(decide ((i : Int) < 100), true), (decide ((i : Int) < (NE : Int)), true)] ⟨hl3, hlt, trivial⟩ ?_
  refine Goes.val (Instr.indexAt 41 (.slice (some ⟨be, oe, none⟩) NE cE) (.int .i64 i)) (.pointer (some ⟨be, oe + i * 4, none⟩)) (fun w' _ _ => idxEv be oe NE cE i hil w') ?_
  refine Goes.val (Instr.loadAt 43 (.pointer (some ⟨be, oe + i * 4, none⟩))) (.agg #[.int .i64 e.day, .slice aF NF cF, strV e.lab, .int .i64 e.k]) (fun w' _ hI => by
    have hB := bel0 (hI.mono fun _ h => h.1)
    exact loadEv ((hB.cell (p := ⟨be, oe + i * 4, none⟩) hbe).trans x1) ((hB.cell (p := ⟨be, oe + i * 4 + 1, none⟩) hbe).trans x2) ((hB.cell (p := ⟨be, oe + i * 4 + 2, none⟩) hbe).trans x3) ((hB.cell (p := ⟨be, oe + i * 4 + 3, none⟩) hbe).trans x4)) ?_
  refine Goes.run1 [1, 0, 1, 1, 1] [] trivial fun g16 => ?_
  obtain ⟨m, t1, e1, hr1⟩ : ∃ m t0 e0, steR e.fs e.day e.lab e.k c l = ((m, t0), e0) := ⟨_, _, _, rfl⟩
  obtain ⟨hm1, hm2⟩ := ste_len (fs := e.fs) (day := e.day) (lab := e.lab) (which := e.k) (c := c) (l := l)
  rw [hr1] at hm1 hm2
  refine Goes.callLT 16 #[cv op k t (.slice a N cc), .slice a1 l.length c1, .int .i64 e.day, .slice aF NF cF, chV e.lab e.k] e.day ((m, t1), e1) w.heap.size (fun w1 hm hI => by have hB := bel0 (hI.mono fun _ h => h.1); have := step_any e.day e.lab e.k (hT.below hB) (Nat.lt_of_lt_of_le htl hB.size) (hN.at hB) (Lvs.sts hI.now.2.1) (hFe.at hB) ok1 ok2; rwa [hr1] at this) (fun w' h => h.1.1.size) fun a3 c3 b3 d3 => ?_
  refine Goes.run [0, 1, 1, 1] [] trivial ?_
  refine Goes.callLT 17 #[cv op k t (.slice a N cc), .slice a2 l.length c2, .int .i64 e.day, .slice aF NF cF, chV e.lab e.k] e.day ((m, t1), e1) w.heap.size (fun w1 hm hI => by have hB := bel0 (hI.mono fun _ h => h.1.1); have := rstep_any e.day e.lab e.k (hN.at hB) (Lvs.sts hI.now.1.2.2) (hFe.at hB) ok1 ok2; rwa [hr1] at this) (fun w' h => h.1.1.1.size) fun a4 c4 b4 d4 => ?_
  refine Goes.run [] [] trivial ?_
  refine Goes.call0 14 #[.slice a3 m.length c3, .slice a4 m.length c4] (.bool true) (fun w' _ hI => samelives_any hI.now.1.2.1 hI.now.2.1 hm1) ?_
  refine Goes.run [1] [(true, true)] ⟨rfl, trivial⟩ ?_
  refine Goes.call0 15 #[.slice b3 t1.length d3, .slice b4 t1.length d4] (.bool true) (fun w' _ hI => sametrans_any hI.now.1.2.2 hI.now.2.2 hm2) ?_
  have he1 : e1 = 0 ∨ e1 = 150 := by
    rcases ste_cases e.fs e.day e.lab e.k c l with ⟨h1, -⟩ | ⟨h1, -⟩
    · rw [h1] at hr1; exact .inl (congrArg Prod.snd hr1).symm
    · rw [h1] at hr1; exact .inr (congrArg Prod.snd hr1).symm
  rcases he1 with rfl | rfl
  · refine Goes.run [0, 0, 1] [(true, true), (false, false), (false, false)] ⟨rfl, rfl, rfl, trivial⟩ ?_
    refine Goes.slot 15 (.int .i64 (i + 1 : Nat)) (u := .int .i64 (IntKind.i64.wrap ((i : Int) + 1))) (congrArg _ (wrap_nat (by omega))) ?_
    refine Goes.keep 1 ?_
    refine Goes.inv (Inv' := fun w' => (Ch (Mem.ids []) w w' ∧ True) ∧ (Lvs w.heap.size w' (.slice a3 m.length c3) m ∧ Lvs w.heap.size w' (.slice a4 m.length c4) m)) (fun w' h => ⟨h.1.1.1, h.1.2.1, h.2.1⟩) ?_
    exact back ⟨i + 1, m, a3, c3, a4, c4⟩ _ hil (by simp only; omega) (by kernel_rfl) (by kernel_rfl) (by kernel_rfl)
  · refine Goes.run [0, 0, 0] [(false, false), (false, false), (false, false)] ⟨rfl, rfl, rfl, trivial⟩ ?_
    refine Goes.slot 15 (.int .i64 (i + 1 : Nat)) (u := .int .i64 (IntKind.i64.wrap ((i : Int) + 1))) (congrArg _ (wrap_nat (by omega))) ?_
    refine Goes.keep 1 ?_
    refine Goes.inv (Inv' := fun w' => (Ch (Mem.ids []) w w' ∧ True) ∧ (Lvs w.heap.size w' (.slice a1 l.length c1) l ∧ Lvs w.heap.size w' (.slice a2 l.length c2) l)) (fun w' h => ⟨h.1.1.1, h.1.1.2⟩) ?_
    exact back ⟨i + 1, l, a1, c1, a2, c2⟩ _ hil (by simp only; omega) (by kernel_rfl) (by kernel_rfl) (by kernel_rfl)
end Go.Proofs.YthnojedlndblbaaGreatDoor
