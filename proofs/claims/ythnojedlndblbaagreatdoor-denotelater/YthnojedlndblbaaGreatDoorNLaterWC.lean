/- the text NLaterW -/
import Derived.Test.YthnojedlndblbaaGreatDoorNTdC
import Derived.Test.DevTool
import Derived.Test.YthnojedlndblbaaGreatDoorNStepsWC
import Derived.Test.YthnojedlndblbaaGreatDoorNGn
namespace Go.Proofs.YthnojedlndblbaaGreatDoor
open Go Go.RowKit

section
variable {P : Program} {F : Exit → Act → World → Prop} {Inv : World → Prop} {s : St}
/-- Begin or Step is called in a drawn region. -/
theorem Goes.callLTA (i : Nat) (f : FuncId) (args : Array Value) (day : Int) (r : R2 × Int) (n0 : Nat) (hr : ∀ w1, Holds s.mem w1 → Stay s.mem.ids w1 Inv → Calls P f args w1 (LTQ day w1 r)) (hsz : ∀ w', Inv w' → n0 ≤ w'.heap.size)
    (h : ∀ aL cL aT cT, Goes P F (fun w' => Inv w' ∧ (Lvs n0 w' (.slice aL r.1.1.length cL) r.1.1 ∧ Trs n0 day w' (.slice aT r.1.2.length cT) r.1.2)) (putA i s (.tuple #[.slice aL r.1.1.length cL, .slice aT r.1.2.length cT, .int .i64 r.2]) s.mem))
    (ha : askA i s = some (f, args) := by kernel_chk) (hw : anyLone i s = true := by kernel_chk) (hf : okf P f = true := by kernel_chk) : Goes P F Inv s :=
  Goes.callA i f args (fun ops m0 n l k ht w1 hm hn hI h0 => (hr w1 hm hI).mono fun e w2 ⟨lv, tv, he, hl, ht, hB⟩ => by
    obtain ⟨aL, cL, rfl⟩ := own_form hl
    obtain ⟨aT, cT, rfl⟩ := own_form ht
    have hn1 := hsz w1 hI.now
    have key : ∀ {b1 e1 s1 n1 : Nat} {v1 : Value} {x1 : List Value}, w2.ownsRow w1.heap.size e1 s1 v1 n1 x1 → ∀ b, v1.ownBlock = some b → b ∉ s.mem.ids := fun hr b hb hmem => by
      have h1 := (hr.lt b hb).1
      obtain ⟨q, hq, rfl⟩ := List.mem_map.1 hmem
      have := lt_of_get (in_holds hm q hq)
      omega
    exact ⟨_, _, s.mem, he, h0.bel hB, hm.bel hB, hn, fun w3 hc => ⟨hI.bel hB w3 hc, own_more (own_ch hl hc (key (b1 := 0) hl)) hn1, own_more (own_ch ht hc (key (b1 := 0) ht)) hn1⟩, h aL cL aT cT⟩) ha hw hf
/-- A function that answers feeds in new rows is called in a drawn region. -/
theorem Goes.callFdA (i : Nat) (f : FuncId) (args : Array Value) (fs' : Fs) (hr : ∀ w1, Holds s.mem w1 → Stay s.mem.ids w1 Inv → Calls P f args w1 fun e w' => ∃ v X, e = .returned v ∧ FdW w1.heap.size w' v X ∧ X.map (fun x : Fx × Value => x.1) = fs' ∧ Below w1.heap.size w1 w')
    (h : ∀ a c, Goes P F (fun w' => Inv w' ∧ Fds w'.heap.size w' (.slice a fs'.length c) fs') (putA i s (.slice a fs'.length c) s.mem))
    (ha : askA i s = some (f, args) := by kernel_chk) (hw : anyLone i s = true := by kernel_chk) (hf : okf P f = true := by kernel_chk) : Goes P F Inv s :=
  Goes.callA i f args (fun ops m0 n l k ht w1 hm hn hI h0 => (hr w1 hm hI).mono fun e w2 ⟨v, X, he, hX, hX2, hB⟩ => by
    obtain ⟨a, c, rfl⟩ := own_form hX.row
    have hlen : X.length = fs'.length := by rw [← hX2, List.length_map]
    rw [hlen] at he hX
    have key : ∀ {b1 e1 s1 n1 : Nat} {v1 : Value} {x1 : List Value}, w2.ownsRow w1.heap.size e1 s1 v1 n1 x1 → ∀ b, v1.ownBlock = some b → b ∉ s.mem.ids := fun hr b hb hmem => by
      have h1 := (hr.lt b hb).1
      obtain ⟨q, hq, rfl⟩ := List.mem_map.1 hmem
      have := lt_of_get (in_holds hm q hq)
      omega
    exact ⟨_, _, s.mem, he, h0.bel hB, hm.bel hB, hn, fun w3 hc => ⟨hI.bel hB w3 hc, by
      have h3 : FdW w1.heap.size w3 (.slice a fs'.length c) X := ⟨own_ch hX.row hc (key (b1 := 0) hX.row), fun x hx => own_ch (hX.kid x hx) hc (key (b1 := 0) (hX.kid x hx))⟩
      have h4 := h3.fds
      rwa [hX2] at h4⟩, h a c⟩) ha hw hf
end
theorem told_nam {fs : Fs} {day : Int} (hl : ∀ f ∈ fs, f.1.length ≤ 9223372036854775807) : ∀ f ∈ toldP day fs, f.1.length ≤ 9223372036854775807 := fun f hf => by
  unfold toldP at hf
  obtain ⟨g, hg, rfl⟩ := List.mem_map.1 hf
  exact hl g hg
set_option maxRecDepth 100000 in
set_option maxHeartbeats 8000000 in
seal rn rnN rnS Goes ans atEnd put0 put putM opened openedY putA0 putA oneSt st0 keep mkSt newSt in
theorem later_walk {fs : Fs} {fv u vl : Value} {c : Co} {l : List (Int × Int)} {w : World} (day : Int) (lab : List UInt8) (which : Int) (hT : Tab w) (htl : 1 < w.heap.size) (hN : Nc w.heap.size w u c) (hLv : Sts w.heap.size w vl l) (hF : Fds w.heap.size w fv fs) (hl : ∀ f ∈ fs, f.1.length ≤ 9223372036854775807) (hlab : lab.length ≤ 9223372036854775807) (hL : fs.length * 40 ≤ 140737488351232) (hLs : ∀ f ∈ fs, f.2.length * 16 ≤ 140737488351232) : Calls Tryz.prog 8 #[u, vl, .int .i64 day, fv, chV lab which] w fun e w' => e = .returned (.bool true) ∧ Below w.heap.size w w' := by
  obtain ⟨op, k, t, a, N, cc, rfl⟩ := hN.cells
  obtain ⟨aF, NF, cF, rfl⟩ : ∃ aF NF cF, fv = .slice aF NF cF := by obtain ⟨x, y, e, -⟩ := hF; exact ⟨x, _, y, e⟩
  obtain ⟨aV, NV, cV, rfl⟩ : ∃ aF NF cF, vl = .slice aF NF cF := by obtain ⟨x, y, e, -⟩ := hLv; exact ⟨x, _, y, e⟩
  have hl' := told_nam (day := day) hl
  obtain ⟨gs, hgs⟩ : ∃ gs, toldP day fs = gs := ⟨_, rfl⟩
  obtain ⟨l1, t1, e1, h1⟩ : ∃ l t e, begR fs day c = ((l, t), e) := ⟨_, _, _, rfl⟩
  obtain ⟨l2, t2, e2, h2⟩ : ∃ l t e, begR gs day c = ((l, t), e) := ⟨_, _, _, rfl⟩
  rw [hgs] at hl'
  refine Goes.begin Tryz.func8 [] (fun _ => True) Holds.nil (by simp [Mem.ids]) (fun _ _ => trivial) ?_
  refine Goes.run2 [] [] trivial fun g5 g9 => ?_
  refine Goes.call0 9 #[] (.bool true) (fun w' _ hI => shownd_any w' (hT.below (bel0 hI)) (Nat.lt_of_lt_of_le htl (bel0 hI).size)) ?_
  refine Goes.run [0] [] trivial ?_
  refine Goes.callLT 12 #[cv op k t (.slice a N cc), .int .i64 day, .slice aF NF cF] day ((l1, t1), e1) w.heap.size (fun w1 hm hI => by have hB := bel0 hI; have := begin_any (c := c) day (hT.below hB) (Nat.lt_of_lt_of_le htl hB.size) (hN.at hB) (hF.at hB) hl; rwa [h1] at this) (fun w' h => h.1.size) fun a1 c1 b1 d1 => ?_
  refine Goes.run [] [] trivial ?_
  refine Goes.open [0] ?_
  refine Goes.run [0, 0, 1, 2, 3] [] trivial ?_
  refine Goes.callFdA 4 19 #[.slice aF NF cF, .int .i64 day] gs (fun w1 hm hI => by have := toldL_any day (hF.at (bel0 (hI.mono fun _ h => h.1))) hL hLs; rwa [hgs] at this) fun aG cG => ?_
  refine Goes.callLTA 5 12 #[cv op k t (.slice a N cc), .int .i64 day, .slice aG gs.length cG] day ((l2, t2), e2) w.heap.size (fun w1 hm hI => by have hB := bel0 (hI.mono fun _ h => h.1.1); have := begin_any (c := c) day (hT.below hB) (Nat.lt_of_lt_of_le htl hB.size) (hN.at hB) hI.now.2 hl'; rwa [h2] at this) (fun w' h => h.1.1.1.size) fun a2 c2 b2 d2 => ?_
  refine Goes.run [6, 7, 8, 9, 10, 11, 12] [] trivial ?_
  refine Goes.call0 20 #[.slice aF NF cF] (.bool (rfP fs)) (fun w' _ hI => rfeedsR_any (hF.at (bel0 (hI.mono fun _ h => h.1.1.1))) hl) ?_
  cases hR : rfP fs with
  | false =>
    have h1b : begR fs day c = (r0, 150) := by unfold begR; rw [hR]; simp
    rw [h1] at h1b
    obtain rfl : e1 = 150 := congrArg (fun r : R2 × Int => r.2) h1b
    refine Goes.run [1, 1] [(true, true), (true, true)] ⟨rfl, rfl, trivial⟩ ?_
    exact Goes.ret [] (.bool true) fun w' hm hI => ⟨rfl, bel0 (hI.mono fun _ h => h.1.1.1)⟩
  | true =>
    have h3 : begR gs day c = begR fs day c := by rw [← hgs]; exact beg_told hR
    rw [h1, h2] at h3
    obtain rfl : l2 = l1 := congrArg (fun r : R2 × Int => r.1.1) h3
    obtain rfl : t2 = t1 := congrArg (fun r : R2 × Int => r.1.2) h3
    obtain rfl : e2 = e1 := congrArg (fun r : R2 × Int => r.2) h3
    obtain ⟨n1, n2⟩ := beg_len (fs := fs) (day := day) (c := c)
    rw [h1] at n1 n2
    obtain ⟨x, v, e3, h4⟩ : ∃ x v e, steR fs day lab which c l = ((x, v), e) := ⟨_, _, _, rfl⟩
    obtain ⟨n3, n4⟩ := ste_len (fs := fs) (day := day) (lab := lab) (which := which) (c := c) (l := l)
    rw [h4] at n3 n4
    have h5 : steR gs day lab which c l = ((x, v), e3) := by rw [← hgs, ste_told hR]; exact h4
    refine Goes.run [0, 0, 1] [(false, false)] ⟨rfl, trivial⟩ ?_
    refine Goes.callLT 16 #[cv op k t (.slice a N cc), .slice aV NV cV, .int .i64 day, .slice aF NF cF, chV lab which] day ((x, v), e3) w.heap.size (fun w1 hm hI => by have hB := bel0 (hI.mono fun _ h => h.1.1.1); have := step_any day lab which (hT.below hB) (Nat.lt_of_lt_of_le htl hB.size) (hN.at hB) (hLv.at' hB) (hF.at hB) hl hlab; rwa [h4] at this) (fun w' h => h.1.1.1.1.size) fun a3 c3 b3 d3 => ?_
    refine Goes.run [] [] trivial ?_
    refine Goes.open [0, 1] ?_
    refine Goes.run [0, 0, 1, 2, 3, 4, 6, 1] [] trivial ?_
    refine Goes.callFdA 5 19 #[.slice aF NF cF, .int .i64 day] gs (fun w1 hm hI => by have := toldL_any day (hF.at (bel0 (hI.mono fun _ h => h.1.1.1.1))) hL hLs; rwa [hgs] at this) fun aH cH => ?_
    refine Goes.callLTA 7 16 #[cv op k t (.slice a N cc), .slice aV NV cV, .int .i64 day, .slice aH gs.length cH, chV lab which] day ((x, v), e3) w.heap.size (fun w1 hm hI => by have hB := bel0 (hI.mono fun _ h => h.1.1.1.1.1); have := step_any day lab which (hT.below hB) (Nat.lt_of_lt_of_le htl hB.size) (hN.at hB) (hLv.at' hB) hI.now.2 hl' hlab; rwa [h5] at this) (fun w' h => h.1.1.1.1.1.1.size) fun a4 c4 b4 d4 => ?_
    refine Goes.run [8, 9, 10, 11, 12, 13, 14] [] trivial ?_
    refine Goes.upto 80 [1] [(true, true)] ⟨rfl, trivial⟩ ?_
    refine Goes.slot 79 (.bool true) (u := .bool (e2 == e2)) (congrArg _ (beq_self_eq_true e2)) ?_
    refine Goes.run [1] [(true, true)] ⟨rfl, trivial⟩ ?_
    refine Goes.call0 14 #[.slice a1 l2.length c1, .slice a2 l2.length c2] (.bool true) (fun w' _ hI => samelives_any hI.now.1.1.1.1.1.2.1 hI.now.1.1.1.2.1 n1) ?_
    refine Goes.run [1] [(true, true)] ⟨rfl, trivial⟩ ?_
    refine Goes.call0 15 #[.slice b1 t2.length d1, .slice b2 t2.length d2] (.bool true) (fun w' _ hI => sametrans_any hI.now.1.1.1.1.1.2.2 hI.now.1.1.1.2.2 n2) ?_
    refine Goes.upto 95 [1] [(true, true)] ⟨rfl, trivial⟩ ?_
    refine Goes.slot 94 (.bool true) (u := .bool (e3 == e3)) (congrArg _ (beq_self_eq_true e3)) ?_
    refine Goes.run [1] [(true, true)] ⟨rfl, trivial⟩ ?_
    refine Goes.call0 14 #[.slice a3 x.length c3, .slice a4 x.length c4] (.bool true) (fun w' _ hI => samelives_any hI.now.1.1.2.1 hI.now.2.1 n3) ?_
    refine Goes.run [1] [(true, true)] ⟨rfl, trivial⟩ ?_
    refine Goes.call0 15 #[.slice b3 v.length d3, .slice b4 v.length d4] (.bool true) (fun w' _ hI => sametrans_any hI.now.1.1.2.2 hI.now.2.2 n4) ?_
    refine Goes.run [] [] trivial ?_
    exact Goes.ret [] (.bool true) fun w' hm hI => ⟨rfl, bel0 (hI.mono fun _ h => h.1.1.1.1.1.1)⟩
end Go.Proofs.YthnojedlndblbaaGreatDoor
