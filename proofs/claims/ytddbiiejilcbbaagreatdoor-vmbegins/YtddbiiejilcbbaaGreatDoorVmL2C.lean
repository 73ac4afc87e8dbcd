/- the text VmL2 -/
import Derived.Test.YtddbiiejilcbbaaGreatDoorAG24
namespace Go.Proofs.YtddbiiejilcbbaaGreatDoor
open Go Go.RowKit

def EURv : List UInt8 := [69, 85, 82]
def k18 : Kd := ⟨0, [], [⟨27, 0, 0, 0, 0, EURv, 0⟩, ⟨30, 0, 0, 0, 0, [], 0⟩]⟩
theorem shown_run : runP k18 [] 3 65538 ⟨zeros, ((0 : Nat) : Int), 1000000⟩ s0Ms = ⟨[], [(EURv, 1000000)], 2⟩ := by
  rw [show (65538 : Nat) = 65537 + 1 from rfl, runP_at (i := 0) (x := ⟨27, 0, 0, 0, 0, EURv, 0⟩) s0_over rfl rfl]
  show runP k18 [] 3 65537 ⟨zeros, ((1 : Nat) : Int), 1000000⟩ ⟨[], [(EURv, 1000000)], 1⟩ = _
  rw [show (65537 : Nat) = 65536 + 1 from rfl, runP_at (i := 1) (x := ⟨30, 0, 0, 0, 0, [], 0⟩) (by decide) rfl rfl]
  rfl
theorem shown_rgt : rgt k18 [] 3 = true := by kernel_rfl
theorem shown_beg : begP k18 [] 3 = ⟨[], [(EURv, 1000000)], 2, 0⟩ := by
  unfold begP
  rw [shown_run, shown_rgt]
  rfl
theorem cdm18 {w : World} {g : Nat} (h : w.heap[g]? = some (.cells (iC ⟨27, 0, 0, 0, 0, EURv, 0⟩ ++ iC ⟨30, 0, 0, 0, 0, [], 0⟩).toArray 72 (0, 0))) : CdM w none 0 0 (some ⟨g, 0, none⟩) 2 2 k18 := by
  refine ⟨rfl, rfl, by omega, by omega, fun i x hx => by simp [k18] at hx, fun i x hx => ?_⟩
  match i, hx with
  | 0, hx =>
    cases hx
    refine ⟨by decide, g, 0, rfl, lt_of_get h, fun j u hj => ?_⟩
    unfold World.cell?
    rw [h]
    match j, hj with
    | 0, hj | 1, hj | 2, hj | 3, hj | 4, hj | 5, hj | 6, hj => cases hj; rfl
  | 1, hx =>
    cases hx
    refine ⟨by decide, g, 0, rfl, lt_of_get h, fun j u hj => ?_⟩
    unfold World.cell?
    rw [h]
    match j, hj with
    | 0, hj | 1, hj | 2, hj | 3, hj | 4, hj | 5, hj | 6, hj => cases hj; rfl
theorem fds_nil18 {n : Nat} {w : World} : Fds n w (.slice none 0 0) [] := ⟨none, 0, rfl, ⟨by simp, by omega⟩, fun i f h => by simp at h⟩
set_option maxHeartbeats 4000000 in
set_option maxRecDepth 100000 in
seal rn rnN rnS Goes ans atEnd put0 put putM opened openedY putA0 putA oneSt st0 keep mkSt newSt in
theorem shown18_any {w : World} (hT : Tab w) (hU : TabU w) : Calls Tryz.prog 12 #[] w fun e w' => e = .returned (.bool true) ∧ Below w.heap.size w w' := by
  refine Goes.begin Tryz.func12 [] (fun _ => True) Holds.nil (by simp [Mem.ids]) (fun _ _ => trivial) ?_
  refine Goes.run2 [1, 1] [] trivial fun gI g1 => ?_
  refine Goes.callBg 13 #[cdV 0 none 0 0 (some ⟨gI, 0, none⟩) 2 2, .int .i64 3, .slice none 0 0] 3 ⟨[], [(EURv, 1000000)], 2, 0⟩ w.heap.size (fun w1 hm hI => by have := pbegin_any (k := k18) (fs := []) (day := 3) (cdm18 (show w1.heap[gI]? = some (.cells (iC ⟨27, 0, 0, 0, 0, EURv, 0⟩ ++ iC ⟨30, 0, 0, 0, 0, [], 0⟩).toArray 72 (0, 0)) from hm.get 0)) rfl (fun x hx => by simp [k18] at hx; rcases hx with rfl | rfl <;> exact ⟨by decide, by decide⟩) fds_nil18 (by simp) (hU.below (bel0 hI)) (hT.below (bel0 hI)); rwa [shown_beg] at this) (fun w' h => h.1.size) fun aL cL aT cT => ?_
  refine Goes.run [1, 1, 1] [(true, true), (true, true), (true, true)] ⟨rfl, rfl, rfl, trivial⟩ ?_
  refine Goes.pure (Q := ∃ gU, aT = some ⟨gU, 0, none⟩) (fun w' hI => by obtain ⟨g, cap, cur, he, -⟩ := own_open hI.2.2 (by simp); cases he; exact ⟨g, rfl⟩) fun ⟨gU, hgU⟩ => ?_
  subst hgU
  refine Goes.val (Instr.indexAt 38 (.slice (some ⟨gU, 0, none⟩) 1 cT) (.int .i64 ((0 : Nat) : Int))) (.pointer (some ⟨gU, 0 * 3, none⟩)) (fun w' _ _ => idxTr gU 1 cT 0 (by omega) w') ?_
  refine Goes.val (Instr.loadAt 59 (.pointer (some ⟨gU, 0 * 3, none⟩))) (.agg #[.int .i64 3, strV EURv, .int .i64 1000000]) (fun w' _ hI => by
    obtain ⟨g, cap, cur, he, hg, -, -, hc⟩ := own_open hI.now.2.2 (by simp)
    cases he
    exact loadTr (ts := [(EURv, 1000000)]) (i := 0) hg hc rfl) ?_
  refine Goes.upto 34 [] [] trivial ?_
  refine Goes.val (do eqGuard .eql 59 (.tmp 32) (.tmp 33) (.agg #[.int .i64 3, strV EURv, .int .i64 1000000]) (.agg #[.int .i64 3, strV EURv, .int .i64 1000000]); binOp .eql 59 (.agg #[.int .i64 3, strV EURv, .int .i64 1000000]) (.agg #[.int .i64 3, strV EURv, .int .i64 1000000])) (.bool true) (fun w' _ _ => by have := eql_agg (t := 59) (.tmp 32) (.tmp 33) (by kernel_rfl) (eqTr 3 EURv 1000000 3 EURv 1000000 w'); simpa using this) ?_
  refine Goes.run [1] [(true, true)] ⟨rfl, trivial⟩ ?_
  exact Goes.ret [] (.bool true) fun w' hm hI => ⟨rfl, bel0 (hI.mono fun _ h => h.1)⟩
theorem beg_small (k : Kd) (fs : Fs) (day : Int) : (begP k fs day).holds.length ≤ 1000000000 ∧ (begP k fs day).out.length ≤ 1000000000 := by
  have h := runP_fit k fs day 65538 ⟨zeros, ((0 : Nat) : Int), 1000000⟩ s0Ms s0_fit
  unfold begP
  obtain ⟨S, hS⟩ : ∃ S, runP k fs day 65538 ⟨zeros, ((0 : Nat) : Int), 1000000⟩ s0Ms = S := ⟨_, rfl⟩
  rw [hS] at h ⊢
  have h1 := h.holds
  have h2 := h.out
  have h3 := h.hi
  unfold outP
  cases rgt k fs day && !overM S with
  | true => exact ⟨by show S.holds.length ≤ _; omega, by show S.out.length ≤ _; omega⟩
  | false => exact ⟨by show ([] : List (Int × Int)).length ≤ _; simp, by show ([] : List (List UInt8 × Int)).length ≤ _; simp⟩
section
variable {w : World} {k : Kd} {fs : Fs} {fa aW aI : Option Addr} {fN fc nW cW nI cI : Nat} {rg day : Int}
set_option maxHeartbeats 4000000 in
set_option maxRecDepth 100000 in
seal rn rnN rnS Goes ans atEnd put0 put putM opened openedY putA0 putA oneSt st0 keep mkSt newSt in
theorem vbegins_walk (hT : Tab w) (hU : TabU w) (hM : CdM w aW nW cW aI nI cI k) (hrg : k.regs = rg) (hwf : k.wf) (hF : Fds w.heap.size w (.slice fa fN fc) fs) (hl : ∀ f ∈ fs, f.1.length ≤ 9223372036854775807) : Calls Tryz.prog 5 #[cdV rg aW nW cW aI nI cI, .int .i64 day, .slice fa fN fc] w fun e w' => e = .returned (.bool true) ∧ Below w.heap.size w w' := by
  obtain ⟨sm1, sm2⟩ := beg_small k fs day
  obtain ⟨R, hR⟩ : ∃ R, begP k fs day = R := ⟨_, rfl⟩
  rw [hR] at sm1 sm2
  refine Goes.begin Tryz.func5 [] (fun _ => True) Holds.nil (by simp [Mem.ids]) (fun _ _ => trivial) ?_
  refine Goes.run [] [] trivial ?_
  refine Goes.new1 w.heap.size (fun w' h => h.1.size) fun g3 hg3 => ?_
  refine Goes.run [] [] trivial ?_
  refine Goes.call0 12 #[] (.bool true) (fun w' hm hI => shown18_any (hT.below (bel0 hI)) (hU.below (bel0 hI))) ?_
  refine Goes.run [0] [] trivial ?_
  refine Goes.callBg 13 #[cdV rg aW nW cW aI nI cI, .int .i64 day, .slice fa fN fc] day R w.heap.size (fun w1 hm hI => by have hb := bel0 hI; have := pbegin_any (day := day) (hM.below hb) hrg hwf (hF.at hb) hl (hU.below hb) (hT.below hb); rwa [hR] at this) (fun w' h => h.1.size) fun aL cL aT cT => ?_
  refine Goes.run [0] [] trivial ?_
  refine Goes.callBg 14 #[cdV rg aW nW cW aI nI cI, .int .i64 day, .slice fa fN fc] day R w.heap.size (fun w1 hm hI => by have hb := bel0 (hI.mono fun _ h => h.1); have := dbegin_any (day := day) (hM.below hb) hrg (hF.at hb) hl (hT.below hb); rwa [hR] at this) (fun w' h => h.1.1.size) fun aM cM aU cU => ?_
  refine Goes.run [1] [(true, true)] ⟨rfl, trivial⟩ ?_
  refine Goes.call0 15 #[.slice aL R.holds.length cL, .slice aM R.holds.length cM] (.bool true) (fun w' hm hI => sameholds_any hI.now.1.2.1 hI.now.2.1 sm1) ?_
  refine Goes.run [1] [(true, true)] ⟨rfl, trivial⟩ ?_
  refine Goes.call0 16 #[.slice aT R.out.length cT, .slice aU R.out.length cU] (.bool true) (fun w' hm hI => sametrans_any hI.now.1.2.2 hI.now.2.2 sm2) ?_
  refine Goes.run [1, 1] [(R.steps == R.steps, true), (true, true)] ⟨by simp, rfl, trivial⟩ ?_
  exact Goes.ret [] (.bool (R.err == R.err)) fun w' hm hI => ⟨by simp, bel0 (hI.mono fun _ h => h.1.1)⟩
end
end Go.Proofs.YtddbiiejilcbbaaGreatDoor
