/- the text OMeW -/
import Derived.Test.YtekgfdbeinacjaaGreatDoorOTwWC
import Derived.Test.YtekgfdbeinacjaaGreatDoorOMeXC
import Derived.Test.YtekgfdbeinacjaaGreatDoorOMeFC
import Derived.Test.YtekgfdbeinacjaaGreatDoorAG16
namespace Go.Proofs.YtekgfdbeinacjaaGreatDoor
open Go Go.RowKit

theorem sizeEv : (Tryz.prog.info? 42).map (·.size) = some 4 := by kernel_rfl
theorem idxEv (b o n cap k : Nat) (h : k < n) (w : World) : (Instr.indexAt 31 (.slice (some ⟨b, o, none⟩) n cap) (.int .i64 k)).run Tryz.prog w = .ok (.pointer (some ⟨b, o + k * 4, none⟩)) w := by go_simp
theorem loadEv {w : World} {b o : Nat} {x y z u : Value} (h0 : w.cell? ⟨b, o, none⟩ = some x) (h1 : w.cell? ⟨b, o + 1, none⟩ = some y) (h2 : w.cell? ⟨b, o + 2, none⟩ = some z) (h3 : w.cell? ⟨b, o + 3, none⟩ = some u) : (Instr.loadAt 42 (.pointer (some ⟨b, o, none⟩))).run Tryz.prog w = .ok (.agg #[x, y, z, u]) w :=
  loadAgg Tryz.isAgg42 sizeEv [x, y, z, u] rfl fun j v hv => by
    match j, hv with
    | 0, hv => cases hv; exact h0
    | 1, hv => cases hv; exact h1
    | 2, hv => cases hv; exact h2
    | 3, hv => cases hv; exact h3
structure MS where
  i : Nat
  l : List (Int × Int)
  m : List (Int × Int)
  a1 : Option Addr
  c1 : Nat
  a2 : Option Addr
  c2 : Nat
set_option maxRecDepth 100000 in
set_option maxHeartbeats 8000000 in
seal rn rnN rnS Goes ans atEnd put0 putM opened openedY putA0 putA oneSt st0 keep put mkSt newSt in
theorem means_walk {es : List Ev} {ev v : Value} {c : Co} {w : World} (n day : Int) (hT : Tab w) (hN : Nc w.heap.size w v c) (hE : Evs w.heap.size w ev es) (hl : ∀ e ∈ es, EvOk e) : Calls Tryz.prog 4 #[v, .int .i64 n, .int .i64 day, ev] w fun e w' => e = .returned (.bool true) ∧ Below w.heap.size w w' := by
  obtain ⟨op, k, s, a, N, cc, rfl⟩ := hN.cells
  obtain ⟨aE, cE, rfl, hcE, hev⟩ := hE
  obtain ⟨NE, hNE⟩ : ∃ NE, es.length = NE := ⟨_, rfl⟩
  rw [hNE] at hcE ⊢
  have hA : ∀ x, x < w.heap.size → x < w.heap.size := fun _ h => h
  have hS0 : NcS (fun x => x < w.heap.size ∨ False) w (cv op k s (.slice a N cc)) c := hN.toS.mono fun x hx => .inl hx
  refine Goes.begin Tryz.func4 [] (fun _ => True) Holds.nil (by simp [Mem.ids]) (fun _ _ => trivial) ?_
  refine Goes.inv KI.begin ?_
  refine Goes.run1 [] [] trivial fun g4 => ?_
  refine Goes.call0 6 #[] (.bool true) (fun w' hm hI => shown16_any (hT.below hI.now.bel)) ?_
  refine Goes.run [0] [] trivial ?_
  refine Goes.call 7 #[cv op k s (.slice a N cc), .int .i64 n] fun w1 hm1 hn1 hI1 => (do_any (A := fun x => x < w.heap.size ∨ False) n (KI.lt hA hI1.now) (KI.nc hA (fun _ _ => rfl) hI1.now hS0) (hT.below hI1.now.bel)).mono fun e w2 ⟨he, hB12⟩ => ?_
  have hS1 := KI.lift hA (fun _ _ => rfl) hI1.now hB12 hS0
  have hw2 := KI.old hA hI1.now hB12
  cases hd : doP c n with
  | none =>
    rw [hd] at he
    refine ⟨_, _, _, he, hm1.bel hB12, hn1, hI1.bel hB12, ?_⟩
    refine Goes.run1 [1, 1] [(true, true)] ⟨rfl, trivial⟩ fun g6 => ?_
    exact Goes.ret [] (.bool true) fun w' hm hI => ⟨rfl, hI.now.bel⟩
  | some t =>
    rw [hd] at he
    obtain ⟨v2, he, hN2⟩ := he
    obtain ⟨o2, k2, s2, a2, n2, c2, rfl⟩ := hN2.cells
    have hT1 := since_lift hN2
    refine ⟨_, _, _, he, hm1.bel hB12, hn1, KI.call hI1 (holds_lt hm1) hB12, ?_⟩
    obtain ⟨l0, m0, t0, e0, hr, hr', he0, hk0⟩ := beg_pair hd day
    obtain ⟨hl1, hl2⟩ := beg_len (fs := []) (day := day) (c := c)
    rw [hr] at hl1 hl2
    refine Goes.run1 [1, 0, 0] [(false, false)] ⟨rfl, trivial⟩ fun g10 => ?_
    refine Goes.callLT 10 #[cv op k s (.slice a N cc), .int .i64 day, .slice none 0 0] day ((l0, t0), e0) w.heap.size (fun w3 hm hI => by have := rbegin_any (fs := []) day (KI.nc' hA hw2 hI.now hS1) Fds.nil0 (by simp); rwa [hr] at this) (fun w' h => h.ch.size) fun aL cL aT cT => ?_
    refine Goes.run [1] [] trivial ?_
    refine Goes.callLT 10 #[cv o2 k2 s2 (.slice a2 n2 c2), .int .i64 day, .slice none 0 0] day ((m0, t0), e0) w.heap.size (fun w3 hm hI => by have := rbegin_any (fs := []) day (KI.nc' hA hw2 hI.now.1 hT1) Fds.nil0 (by simp); rwa [hr'] at this) (fun w' h => h.1.ch.size) fun aM cM aU cU => ?_
    refine Goes.run [] [] trivial ?_
    refine Goes.call0 11 #[.slice aT t0.length cT, .slice aU t0.length cU] (.bool true) (fun w' _ hI => sametrans_any hI.now.1.2.2 hI.now.2.2 hl2) ?_
    refine Goes.run [1] [(true, true)] ⟨rfl, trivial⟩ ?_
    refine Goes.call0 12 #[.slice aL l0.length cL, .slice aM m0.length cM] (.bool true) (fun w' _ hI => factors_any hk0.len hk0.fac hI.now.1.2.1 hI.now.2.1 hl1) ?_
    refine Goes.run [0, 0] [(false, false), ((e0 != e0), false)] ⟨rfl, by simp, trivial⟩ ?_
    refine Goes.loop (α := MS) 131 (fun q => [(3, .slice aE NE cE), (4, .pointer (some ⟨g4, 0, none⟩)), (9, .bool true), (10, .pointer (some ⟨g10, 0, none⟩)), (12, .slice q.a1 q.l.length q.c1), (14, .int .i64 e0), (15, .slice q.a2 q.m.length q.c2), (19, .int .i64 q.i)]) (fun _ => [(g4, cO op k s (.slice a N cc)), (g10, cO o2 k2 s2 (.slice a2 n2 c2))]) (fun q w' => KI w (fun x => False ∨ (w1.heap.size ≤ x ∧ x < w2.heap.size)) w2 nilV 0 [] w' ∧ (Lvs w.heap.size w' (.slice q.a1 q.l.length q.c1) q.l ∧ Lvs w.heap.size w' (.slice q.a2 q.m.length q.c2) q.m)) (fun q => q.i ≤ NE ∧ Lk c t q.l q.m) (fun q => NE - q.i) ⟨0, l0, m0, aL, cL, aM, cM⟩ ⟨Nat.zero_le _, hk0⟩ (fun w' h => ⟨h.1.1, h.1.2.1, h.2.1⟩) ?_
    rintro ⟨i, l, m, a1, c1, a3, c3⟩ J ⟨hi, hk⟩ back
    simp only at hi hk back ⊢
    cases hlt : decide ((i : Int) < (NE : Int)) with
    | false =>
      refine Goes.run [0, 0, 0, 0] [(false, false), (false, false), (decide ((i : Int) < (NE : Int)), false)] ⟨rfl, rfl, hlt, trivial⟩ ?_
      exact Goes.ret [] (.bool true) fun w' hm hI => ⟨rfl, hI.now.1.bel⟩
    | true =>
    cases hl3 : decide ((i : Int) < 60) with
    | false =>
      refine Goes.run [0, 1, 0, 0] [(false, false), (decide ((i : Int) < 60), false), (decide ((i : Int) < (NE : Int)), true)] ⟨rfl, hl3, hlt, trivial⟩ ?_
      exact Goes.ret [] (.bool true) fun w' hm hI => ⟨rfl, hI.now.1.bel⟩
    | true =>
    rcases he0.symm with rfl | rfl
    · refine Goes.run [0, 1, 1, 0] [(false, false), (decide ((i : Int) < 60), true), (decide ((i : Int) < (NE : Int)), true)] ⟨rfl, hl3, hlt, trivial⟩ ?_
      exact Goes.ret [] (.bool true) fun w' hm hI => ⟨rfl, hI.now.1.bel⟩
    have hil : i < NE := by have := of_decide_eq_true hlt; omega
    obtain ⟨e, he⟩ : ∃ e, es[i]? = some e := ⟨es[i]'(by omega), by simp⟩
    obtain ⟨be, oe, ue, rfl, hbe, x1, x2, hFe, x3, x4⟩ := hev i e he
    obtain ⟨aF, NF, cF, rfl⟩ : ∃ aF NF cF, ue = .slice aF NF cF := by obtain ⟨x, y, e, -⟩ := hFe; exact ⟨x, _, y, e⟩
    obtain ⟨ok1, ok2⟩ := hl e (List.mem_of_getElem? he)
    refine Goes.run [0, 1, 1, 1] [(true, true), (decide ((i : Int) < 60), true), (decide ((i : Int) < (NE : Int)), true)] ⟨rfl, hl3, hlt, trivial⟩ ?_
    refine Goes.val (Instr.indexAt 31 (.slice (some ⟨be, oe, none⟩) NE cE) (.int .i64 i)) (.pointer (some ⟨be, oe + i * 4, none⟩)) (fun w' _ _ => idxEv be oe NE cE i hil w') ?_
    refine Goes.val (Instr.loadAt 42 (.pointer (some ⟨be, oe + i * 4, none⟩))) (.agg #[.int .i64 e.day, .slice aF NF cF, strV e.lab, .int .i64 e.k]) (fun w' _ hI => by
      have hB := hI.now.1.bel
      exact loadEv ((hB.cell (p := ⟨be, oe + i * 4, none⟩) hbe).trans x1) ((hB.cell (p := ⟨be, oe + i * 4 + 1, none⟩) hbe).trans x2) ((hB.cell (p := ⟨be, oe + i * 4 + 2, none⟩) hbe).trans x3) ((hB.cell (p := ⟨be, oe + i * 4 + 3, none⟩) hbe).trans x4)) ?_
    obtain ⟨l', m', t1, e1, hs, hs', he1, hk', hlm, hfac⟩ := ste_pair hd hk e.fs e.day e.lab e.k
    obtain ⟨hm1', hm2'⟩ := ste_len (fs := e.fs) (day := e.day) (lab := e.lab) (which := e.k) (c := c) (l := l)
    rw [hs] at hm1' hm2'
    refine Goes.run1 [2, 0, 2, 2, 2] [] trivial fun g20 => ?_
    refine Goes.callLT 13 #[cv op k s (.slice a N cc), .slice a1 l.length c1, .int .i64 e.day, .slice aF NF cF, chV e.lab e.k] e.day ((l', t1), e1) w.heap.size (fun w5 hm hI => by have hB := hI.now.1.bel; have := rstep_any e.day e.lab e.k (KI.nc' hA hw2 hI.now.1 hS1) (Lvs.sts hI.now.2.1) (hFe.at hB) ok1 ok2; rwa [hs] at this) (fun w' h => h.1.ch.size) fun a5 c5 b5 d5 => ?_
    refine Goes.run [1, 2, 2, 2] [] trivial ?_
    refine Goes.callLT 13 #[cv o2 k2 s2 (.slice a2 n2 c2), .slice a3 m.length c3, .int .i64 e.day, .slice aF NF cF, chV e.lab e.k] e.day ((m', t1), e1) w.heap.size (fun w5 hm hI => by have hB := hI.now.1.1.bel; have := rstep_any e.day e.lab e.k (KI.nc' hA hw2 hI.now.1.1 hT1) (Lvs.sts hI.now.1.2.2) (hFe.at hB) ok1 ok2; rwa [hs'] at this) (fun w' h => h.1.1.ch.size) fun a6 c6 b6 d6 => ?_
    refine Goes.run [] [] trivial ?_
    refine Goes.call0 11 #[.slice b5 t1.length d5, .slice b6 t1.length d6] (.bool true) (fun w' _ hI => sametrans_any hI.now.1.2.2 hI.now.2.2 hm2') ?_
    refine Goes.run [1] [(true, true)] ⟨rfl, trivial⟩ ?_
    refine Goes.call0 12 #[.slice a5 l'.length c5, .slice a6 m'.length c6] (.bool true) (fun w' _ hI => factors_any hlm hfac hI.now.1.2.1 hI.now.2.1 hm1') ?_
    rcases he1 with rfl | rfl
    · refine Goes.run [0, 0, 1] [(true, true), (false, false), (false, false)] ⟨rfl, rfl, rfl, trivial⟩ ?_
      refine Goes.slot 19 (.int .i64 (i + 1 : Nat)) (u := .int .i64 (IntKind.i64.wrap ((i : Int) + 1))) (congrArg _ (wrap_nat (by omega))) ?_
      refine Goes.keep 2 ?_
      refine Goes.inv (Inv' := fun w' => KI w (fun x => False ∨ (w1.heap.size ≤ x ∧ x < w2.heap.size)) w2 nilV 0 [] w' ∧ (Lvs w.heap.size w' (.slice a5 l'.length c5) l' ∧ Lvs w.heap.size w' (.slice a6 m'.length c6) m')) (fun w' h => ⟨h.1.1.1, h.1.2.1, h.2.1⟩) ?_
      exact back ⟨i + 1, l', m', a5, c5, a6, c6⟩ _ ⟨hil, hk' rfl⟩ (by simp only; omega) (by kernel_rfl) (by kernel_rfl) (by kernel_rfl)
    · refine Goes.run [0, 0, 0] [(false, false), (false, false), (false, false)] ⟨rfl, rfl, rfl, trivial⟩ ?_
      refine Goes.slot 19 (.int .i64 (i + 1 : Nat)) (u := .int .i64 (IntKind.i64.wrap ((i : Int) + 1))) (congrArg _ (wrap_nat (by omega))) ?_
      refine Goes.keep 2 ?_
      refine Goes.inv (Inv' := fun w' => KI w (fun x => False ∨ (w1.heap.size ≤ x ∧ x < w2.heap.size)) w2 nilV 0 [] w' ∧ (Lvs w.heap.size w' (.slice a1 l.length c1) l ∧ Lvs w.heap.size w' (.slice a3 m.length c3) m)) (fun w' h => ⟨h.1.1.1, h.1.1.2⟩) ?_
      exact back ⟨i + 1, l, m, a1, c1, a3, c3⟩ _ ⟨hil, hk⟩ (by simp only; omega) (by kernel_rfl) (by kernel_rfl) (by kernel_rfl)
end Go.Proofs.YtekgfdbeinacjaaGreatDoor
