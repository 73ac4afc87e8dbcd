/- the text NStepsW -/
import Derived.Test.YthnojedlndblbaaGreatDoorNGo
namespace Go.Proofs.YthnojedlndblbaaGreatDoor
open Go Go.RowKit

theorem ste_len {fs : Fs} {day : Int} {lab : List UInt8} {which : Int} {c : Co} {l : List (Int × Int)} : (steR fs day lab which c l).1.1.length ≤ 1000000000 ∧ (steR fs day lab which c l).1.2.length ≤ 1000000000 := by
  rcases ste_cases fs day lab which c l with ⟨h1, h2, h3⟩ | ⟨h1, -⟩
  · have hc := (chk_typ (c := c) (by simp only [Bool.and_eq_true] at h2; exact h2.1)).2.1
    obtain ⟨hll, -⟩ := rl_facts (by omega) h3
    have := step_len (fs := fs) (day := day) (lab := lab) (which := which) (c := c) l
    have h4 : szC c * ((l.length : Nat) : Int) ≤ 2000 * 2000 := Int.mul_le_mul hc (by omega) (by omega) (by omega)
    rw [h1]
    constructor <;> (simp only; omega)
  · rw [h1]; simp [r0]
set_option maxRecDepth 100000 in
seal rn rnN rnS Goes ans atEnd put0 put putM opened openedY putA0 putA oneSt st0 keep mkSt newSt in
theorem steps_walk {fs : Fs} {fv u vl : Value} {c : Co} {l : List (Int × Int)} {w : World} (day : Int) (lab : List UInt8) (which : Int) (hT : Tab w) (htl : 1 < w.heap.size) (hN : Nc w.heap.size w u c) (hLv : Sts w.heap.size w vl l) (hF : Fds w.heap.size w fv fs) (hl : ∀ f ∈ fs, f.1.length ≤ 9223372036854775807) (hlab : lab.length ≤ 9223372036854775807) : Calls Tryz.prog 5 #[u, vl, .int .i64 day, fv, chV lab which] w fun e w' => e = .returned (.bool true) ∧ Below w.heap.size w w' := by
  obtain ⟨op, k, t, a, N, cc, rfl⟩ := hN.cells
  obtain ⟨aF, NF, cF, rfl⟩ : ∃ aF NF cF, fv = .slice aF NF cF := by obtain ⟨x, y, e, -⟩ := hF; exact ⟨x, _, y, e⟩
  obtain ⟨aV, NV, cV, rfl⟩ : ∃ aF NF cF, vl = .slice aF NF cF := by obtain ⟨x, y, e, -⟩ := hLv; exact ⟨x, _, y, e⟩
  obtain ⟨m, t0, e0, hr⟩ : ∃ m t0 e0, steR fs day lab which c l = ((m, t0), e0) := ⟨_, _, _, rfl⟩
  obtain ⟨hl1, hl2⟩ := ste_len (fs := fs) (day := day) (lab := lab) (which := which) (c := c) (l := l)
  rw [hr] at hl1 hl2
  refine Goes.begin Tryz.func5 [] (fun _ => True) Holds.nil (by simp [Mem.ids]) (fun _ _ => trivial) ?_
  refine Goes.run2 [] [] trivial fun g5 g9 => ?_
  refine Goes.call0 9 #[] (.bool true) (fun w' _ hI => shownd_any w' (hT.below (bel0 hI)) (Nat.lt_of_lt_of_le htl (bel0 hI).size)) ?_
  refine Goes.run [0, 1] [] trivial ?_
  refine Goes.callLT 16 #[cv op k t (.slice a N cc), .slice aV NV cV, .int .i64 day, .slice aF NF cF, chV lab which] day ((m, t0), e0) w.heap.size (fun w1 hm hI => by have hB := bel0 hI; have := step_any day lab which (hT.below hB) (Nat.lt_of_lt_of_le htl hB.size) (hN.at hB) (hLv.at' hB) (hF.at hB) hl hlab; rwa [hr] at this) (fun w' h => h.1.size) fun aL cL aT cT => ?_
  refine Goes.run [0, 1] [] trivial ?_
  refine Goes.callLT 17 #[cv op k t (.slice a N cc), .slice aV NV cV, .int .i64 day, .slice aF NF cF, chV lab which] day ((m, t0), e0) w.heap.size (fun w1 hm hI => by have hB := bel0 (hI.mono fun _ h => h.1); have := rstep_any day lab which (hN.at hB) (hLv.at' hB) (hF.at hB) hl hlab; rwa [hr] at this) (fun w' h => h.1.1.size) fun aM cM aU cU => ?_
  refine Goes.run [1] [(true, true)] ⟨rfl, trivial⟩ ?_
  refine Goes.call0 14 #[.slice aL m.length cL, .slice aM m.length cM] (.bool true) (fun w' _ hI => samelives_any hI.now.1.2.1 hI.now.2.1 hl1) ?_
  refine Goes.run [1] [(true, true)] ⟨rfl, trivial⟩ ?_
  refine Goes.call0 15 #[.slice aT t0.length cT, .slice aU t0.length cU] (.bool true) (fun w' _ hI => sametrans_any hI.now.1.2.2 hI.now.2.2 hl2) ?_
  refine Goes.upto 54 [1] [(true, true)] ⟨rfl, trivial⟩ ?_
  refine Goes.slot 53 (.bool true) (u := .bool (e0 == e0)) (congrArg _ (beq_self_eq_true e0)) ?_
  refine Goes.run [] [] trivial ?_
  exact Goes.ret [] (.bool true) fun w' hm hI => ⟨rfl, bel0 (hI.mono fun _ h => h.1.1)⟩
end Go.Proofs.YthnojedlndblbaaGreatDoor
