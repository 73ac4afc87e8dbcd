/- CausalBoth walked. -/
import Derived.Test.YtfblnjidghijaaaCDeep
import Derived.Test.YtfblnjidghijaaaEKid
namespace Go.Proofs.Ytfblnjidghijaaa
open Go Go.RowKit

def oK (op k : Int) (t : List UInt8) (v : Value) (op' k' : Int) (t' : List UInt8) (v' : Value) : Obj := .cells #[.int .i64 op, .int .i64 k, strV t, v, .int .i64 op', .int .i64 k', strV t', v'] 24 (0, 0)
theorem both_nc {w : World} {gk : Nat} {op k op' k' : Int} {t t' : List UInt8} {v v' : Value} {a b : Co} (hg : w.heap[gk]? = some (oK op k t v op' k' t' v')) (ha : Nc w.heap.size w (cv op k t v) a) (hb : Nc w.heap.size w (cv op' k' t' v') b) : Nc w.heap.size w (cv 27 0 [] (.slice (some ⟨gk, 0, none⟩) 2 2)) (bothC a b) := by
  have hl := lt_of_get hg
  have ca : ∀ j, w.cell? ⟨gk, j, none⟩ = (#[Value.int .i64 op, .int .i64 k, strV t, v, .int .i64 op', .int .i64 k', strV t', v'] : Array Value)[j]? := fun j => by unfold World.cell?; rw [hg]; simp [oK]
  refine Nc.mk 27 0 [] [a, b] (some ⟨gk, 0, none⟩) 2 (fun i => match i with | 0 => cv op k t v | _ => cv op' k' t' v') ⟨by omega, by omega, by simp⟩ ⟨by simp, by omega⟩ (fun i hi => ?_) (fun i t h => ?_)
  · refine ⟨gk, 0, rfl, hl, ?_⟩
    match i, hi with
    | 0, _ => exact ⟨op, k, t, v, rfl, ca 0, ca 1, ca 2, ca 3⟩
    | 1, _ => exact ⟨op', k', t', v', rfl, ca 4, ca 5, ca 6, ca 7⟩
  · match i, h with
    | 0, h => cases h; exact ha
    | 1, h => cases h; exact hb
set_option maxRecDepth 100000 in
seal rn rnN rnS Goes ans atEnd put0 putM opened openedY putA0 putA oneSt st0 orT orG in
theorem both_walk {a b : Co} {va vb : Value} {w : World} (hNa : Nc w.heap.size w va a) (hNb : Nc w.heap.size w vb b) : Calls Try.prog 5 #[va, vb] w fun e w' => e = .returned (.bool true) ∧ Below w.heap.size w w' := by
  obtain ⟨op, k, t, aa, N, cc, rfl⟩ := hNa.cells
  obtain ⟨op', k', t', aa', N', cc', rfl⟩ := hNb.cells
  obtain ⟨E, hE⟩ : ∃ E, chkP a = E := ⟨_, rfl⟩
  obtain ⟨F, hF⟩ : ∃ F, chkP b = F := ⟨_, rfl⟩
  obtain ⟨G, hG⟩ : ∃ G, chkP (bothC a b) = G := ⟨_, rfl⟩
  refine Goes.begin Try.func5 [] (fun _ => True) Holds.nil (by simp [Mem.ids]) (fun _ _ => trivial) ?_
  refine Goes.run2 [] [] trivial fun g2 g3 => ?_
  refine Goes.call0 6 #[] (.bool true) (fun w' _ _ => shown_any w') ?_
  refine Goes.run [0] [] trivial ?_
  refine Goes.call0 9 #[cv op k t (.slice aa N cc)] (.int .i64 E) (fun w' _ hI => by have := check_any (hNa.at (bel0 hI)); rwa [hE] at this) ?_
  refine Goes.run [1] [] trivial ?_
  refine Goes.call0 9 #[cv op' k' t' (.slice aa' N' cc')] (.int .i64 F) (fun w' _ hI => by have := check_any (hNb.at (bel0 hI)); rwa [hF] at this) ?_
  refine Goes.run2 [0, 1, 3, 3] [] trivial fun gk g8 => ?_
  have hNc : ∀ w' : World, w'.heap[gk]? = some (oK op k t (.slice aa N cc) op' k' t' (.slice aa' N' cc')) → Below w.heap.size w w' → Nc w'.heap.size w' (cv 27 0 [] (.slice (some ⟨gk, 0, none⟩) 2 2)) (bothC a b) := fun w' h hB => both_nc h (hNa.at hB) (hNb.at hB)
  refine Goes.call0 9 #[cv 27 0 [] (.slice (some ⟨gk, 0, none⟩) 2 2)] (.int .i64 G) (fun w' hm hI => by have := check_any (hNc w' (hm.get 2) (bel0 hI)); rwa [hG] at this) ?_
  cases ha : isOfP 4 a with
  | false =>
    obtain rfl : (140 : Int) = E := (chk_no ha).symm.trans hE
    have hc : isOfP 4 (bothC a b) = false := by
      cases h : isOfP 4 (bothC a b) with
      | false => rfl
      | true => rw [(both_parts h).1] at ha; cases ha
    obtain rfl : (140 : Int) = G := (chk_no hc).symm.trans hG
    refine Goes.run [1, 1, 1] [(true, true), (true, true), (true, true)] ⟨rfl, rfl, rfl, trivial⟩ ?_
    exact Goes.ret [] (.bool true) fun w' hm hI => ⟨rfl, bel0 hI⟩
  | true =>
    have hE2 : E = bif ahC a then 141 else 0 := hE.symm.trans (chk_yes ha)
    have hE1 : (E == 140) = false := by rw [hE2]; cases ahC a <;> rfl
    cases hb : isOfP 4 b with
    | false =>
      obtain rfl : (140 : Int) = F := (chk_no hb).symm.trans hF
      have hc : isOfP 4 (bothC a b) = false := by
        cases h : isOfP 4 (bothC a b) with
        | false => rfl
        | true => rw [(both_parts h).2] at hb; cases hb
      obtain rfl : (140 : Int) = G := (chk_no hc).symm.trans hG
      refine Goes.run [0, 1, 1] [(true, true), (true, true), (E == 140, false)] ⟨rfl, rfl, hE1, trivial⟩ ?_
      exact Goes.ret [] (.bool true) fun w' hm hI => ⟨rfl, bel0 hI⟩
    | true =>
      have hF2 : F = bif ahC b then 141 else 0 := hF.symm.trans (chk_yes hb)
      have hF1 : (F == 140) = false := by rw [hF2]; cases ahC b <;> rfl
      obtain ⟨SA, hSA⟩ : ∃ A, askP szF 0 a = A := ⟨_, rfl⟩
      obtain ⟨SB, hSB⟩ : ∃ A, askP szF 0 b = A := ⟨_, rfl⟩
      have zA : szC a = SA := (sz_eq (typ4 ha)).symm.trans hSA
      have zB : szC b = SB := (sz_eq (typ4 hb)).symm.trans hSB
      have bA : 1 ≤ SA ∧ SA ≤ 2000 := by rw [← zA]; exact ⟨szC_pos a, ((isOfP_eq 4 a).1 ha).2⟩
      have bB : 1 ≤ SB ∧ SB ≤ 2000 := by rw [← zB]; exact ⟨szC_pos b, ((isOfP_eq 4 b).1 hb).2⟩
      cases hc : isOfP 4 (bothC a b) with
      | false =>
        obtain rfl : (140 : Int) = G := (chk_no hc).symm.trans hG
        have hgr := both_great ha hb hc
        rw [zA, zB] at hgr
        refine Goes.run [0, 0, 1] [(true, true), (F == 140, false), (E == 140, false)] ⟨rfl, hF1, hE1, trivial⟩ ?_
        refine Goes.open [0, 1] ?_
        refine Goes.run [0, 1, 2, 0, 4, 1] [] trivial ?_
        refine Goes.callA0 3 16 #[cv op k t (.slice aa N cc)] (.int .i64 SA) (fun w' _ hI => by have := size_any (hNa.at (bel0 hI)); rwa [hSA] at this) ?_
        refine Goes.callA0 5 16 #[cv op' k' t' (.slice aa' N' cc')] (.int .i64 SB) (fun w' _ hI => by have := size_any (hNb.at (bel0 hI)); rwa [hSB] at this) ?_
        refine Goes.run [6] [] trivial ?_
        refine Goes.slot 40 (.int .i64 (SA + SB)) (u := .int .i64 (IntKind.i64.wrap (SA + SB))) (congrArg _ (IntWalk.i64_in _ ⟨by omega, by omega⟩)) ?_
        refine Goes.run [7] [] trivial ?_
        refine Goes.slot 41 (.int .i64 (SA + SB + 1)) (u := .int .i64 (IntKind.i64.wrap (SA + SB + 1))) (congrArg _ (IntWalk.i64_in _ ⟨by omega, by omega⟩)) ?_
        refine Goes.run [8] [] trivial ?_
        cases hbig : decide (SA + SB + 1 > 2000) with
        | true =>
          refine Goes.slot 42 (.bool true) (u := .bool (decide (SA + SB + 1 > 2000))) (by rw [hbig]) ?_
          refine Goes.run [9, 10, 11, 12, 13, 14, 15, 16, 17, 18] [] trivial ?_
          exact Goes.ret [] (.bool true) fun w' hm hI => ⟨rfl, bel0 hI⟩
        | false =>
          have hbig' := of_decide_eq_false hbig
          refine Goes.slot 42 (.bool false) (u := .bool (decide (SA + SB + 1 > 2000))) (by rw [hbig]) ?_
          refine Goes.run [9, 10, 0] [] trivial ?_
          cases hda : deepP 200 a with
          | true =>
            refine Goes.callA0 11 18 #[cv op k t (.slice aa N cc), .int .i64 200] (.bool true) (fun w' _ hI => by have := deep_any a _ w' 200 (by omega) (by omega) (hNa.at (bel0 hI)); rwa [hda] at this) ?_
            refine Goes.run [12, 13, 14, 15, 16, 17, 18] [] trivial ?_
            exact Goes.ret [] (.bool true) fun w' hm hI => ⟨rfl, bel0 hI⟩
          | false =>
            have hdb : deepP 200 b = true := by
              rcases hgr with h | h | h
              · omega
              · rw [hda] at h; cases h
              · exact h
            refine Goes.callA0 11 18 #[cv op k t (.slice aa N cc), .int .i64 200] (.bool false) (fun w' _ hI => by have := deep_any a _ w' 200 (by omega) (by omega) (hNa.at (bel0 hI)); rwa [hda] at this) ?_
            refine Goes.run [12, 13, 14, 1] [] trivial ?_
            refine Goes.callA0 15 18 #[cv op' k' t' (.slice aa' N' cc'), .int .i64 200] (.bool true) (fun w' _ hI => by have := deep_any b _ w' 200 (by omega) (by omega) (hNb.at (bel0 hI)); rwa [hdb] at this) ?_
            refine Goes.run [16, 17, 18] [] trivial ?_
            exact Goes.ret [] (.bool true) fun w' hm hI => ⟨rfl, bel0 hI⟩
      | true =>
        have hG2 : G = bif (ahC a || ahC b) then 141 else 0 := by rw [← both_ah]; exact hG.symm.trans (chk_yes hc)
        have hG1 : (G == 140) = false := by rw [hG2]; cases (ahC a || ahC b) <;> rfl
        obtain ⟨HA, hHA⟩ : ∃ A, askP hzF 0 a = A := ⟨_, rfl⟩
        obtain ⟨HB, hHB⟩ : ∃ A, askP hzF 0 b = A := ⟨_, rfl⟩
        obtain ⟨HC, hHC⟩ : ∃ A, askP hzF 0 (bothC a b) = A := ⟨_, rfl⟩
        obtain ⟨SC, hSC⟩ : ∃ A, askP szF 0 (bothC a b) = A := ⟨_, rfl⟩
        have eH : HC = max HA HB := by rw [← hHA, ← hHB, ← hHC]; exact both_hz hc
        have eS : SC = 1 + SA + SB := by rw [← hSA, ← hSB, ← hSC]; exact both_sz hc
        refine Goes.run [0, 0, 0] [(G == 140, false), (F == 140, false), (E == 140, false)] ⟨hG1, hF1, hE1, trivial⟩ ?_
        subst hE2 hF2 hG2
        cases hx : ahC a <;> cases hy : ahC b
        all_goals
          refine Goes.open [0, 1, 3] ?_
          refine Goes.run [0, 1, 2, 3, 4, 5, 6, 7, 8, 9, 10, 11, 12, 13, 2, 15, 0, 17, 1] [] trivial ?_
          refine Goes.callA0 14 11 #[cv 27 0 [] (.slice (some ⟨gk, 0, none⟩) 2 2)] (.int .i64 HC) (fun w' hm hI => by have := horizon_any (hNc w' (hm.get 2) (bel0 hI)); rwa [hHC] at this) ?_
          refine Goes.callA0 16 11 #[cv op k t (.slice aa N cc)] (.int .i64 HA) (fun w' _ hI => by have := horizon_any (hNa.at (bel0 hI)); rwa [hHA] at this) ?_
          refine Goes.callA0 18 11 #[cv op' k' t' (.slice aa' N' cc')] (.int .i64 HB) (fun w' _ hI => by have := horizon_any (hNb.at (bel0 hI)); rwa [hHB] at this) ?_
          refine Goes.run [19, 0] [] trivial ?_
          refine Goes.slot 71 (.int .i64 HC) (u := .int .i64 (if HB > HA then HB else HA)) (congrArg _ (by rw [eH]; split <;> omega)) ?_
          refine Goes.run [20] [] trivial ?_
          refine Goes.slot 72 (.bool true) (u := .bool (HC == HC)) (by rw [beq_self_eq_true]) ?_
          refine Goes.run [21, 22, 23, 2, 25, 0, 28, 1] [] trivial ?_
          refine Goes.callA0 24 16 #[cv 27 0 [] (.slice (some ⟨gk, 0, none⟩) 2 2)] (.int .i64 SC) (fun w' hm hI => by have := size_any (hNc w' (hm.get 2) (bel0 hI)); rwa [hSC] at this) ?_
          refine Goes.callA0 26 16 #[cv op k t (.slice aa N cc)] (.int .i64 SA) (fun w' _ hI => by have := size_any (hNa.at (bel0 hI)); rwa [hSA] at this) ?_
          refine Goes.run [27] [] trivial ?_
          refine Goes.slot 79 (.int .i64 (1 + SA)) (u := .int .i64 (IntKind.i64.wrap (1 + SA))) (congrArg _ (IntWalk.i64_in _ ⟨by omega, by omega⟩)) ?_
          refine Goes.callA0 29 16 #[cv op' k' t' (.slice aa' N' cc')] (.int .i64 SB) (fun w' _ hI => by have := size_any (hNb.at (bel0 hI)); rwa [hSB] at this) ?_
          refine Goes.run [30] [] trivial ?_
          refine Goes.slot 82 (.int .i64 SC) (u := .int .i64 (IntKind.i64.wrap (1 + SA + SB))) (congrArg _ (by rw [eS]; exact IntWalk.i64_in _ ⟨by omega, by omega⟩)) ?_
          refine Goes.run [31] [] trivial ?_
          refine Goes.slot 83 (.bool true) (u := .bool (SC == SC)) (by rw [beq_self_eq_true]) ?_
          refine Goes.run [32, 33] [] trivial ?_
          exact Goes.ret [] (.bool true) fun w' hm hI => ⟨rfl, bel0 hI⟩
end Go.Proofs.Ytfblnjidghijaaa
