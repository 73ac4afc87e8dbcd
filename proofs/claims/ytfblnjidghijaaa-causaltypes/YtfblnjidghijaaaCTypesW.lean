/- CausalTypes, walked. -/
import Derived.Test.YtfblnjidghijaaaCRefG
import Derived.Test.YtfblnjidghijaaaCFeedW
import Derived.Test.YtfblnjidghijaaaCShown
namespace Go.Proofs.Ytfblnjidghijaaa
open Go Go.RowKit

theorem Rws.two {base : Nat} {w w0 : World} {v u : Value} {l m : List (List UInt8)} {L : List Nat} (hB : Below w0.heap.size w0 w) (h : Rws base w v l) (h' : Rws base w u m) (hL : ∀ x ∈ L, w0.heap.size ≤ x) (ha : ∀ b, v.ownBlock = some b → b ∉ L) (ha' : ∀ b, u.ownBlock = some b → b ∉ L) : Stay L w (fun w' => Below w0.heap.size w0 w' ∧ Rws base w' v l ∧ Rws base w' u m) :=
  fun w2 hc => ⟨(h.stay hB hL ha w2 hc).1, (h.stay hB hL ha w2 hc).2, (h'.stay hB hL ha' w2 hc).2⟩
set_option maxRecDepth 100000 in
seal rn rnN rnS Goes ans atEnd put0 putM opened putA0 putA oneSt st0 orT orG keep in
theorem types_walk {c : Co} {v : Value} {w : World} (hN : Nc w.heap.size w v c) : Calls Try.prog 3 #[v] w fun e w' => e = .returned (.bool true) ∧ Below w.heap.size w w' := by
  obtain ⟨op, k, t, a, N, cc, rfl⟩ := hN.cells
  obtain ⟨T, hT⟩ : ∃ T, (typP c).1 = T := ⟨_, rfl⟩
  obtain ⟨B, hB⟩ : ∃ B, (typP c).2 = B := ⟨_, rfl⟩
  obtain ⟨E, hE⟩ : ∃ E, chkP c = E := ⟨_, rfl⟩
  obtain ⟨H, hH⟩ : ∃ H, askP hzF 0 c = H := ⟨_, rfl⟩
  obtain ⟨Z, hZ⟩ : ∃ Z, askP szF 0 c = Z := ⟨_, rfl⟩
  obtain ⟨L, hL⟩ : ∃ L, feedsP c = L := ⟨_, rfl⟩
  have hLl : L.length ≤ 2000 := by rw [← hL]; exact (feeds_len c).2
  refine Goes.begin Try.func3 [] (fun _ => True) Holds.nil (by simp [Mem.ids]) (fun _ _ => trivial) ?_
  refine Goes.run1 [] [] trivial fun g => ?_
  refine Goes.call0 6 #[] (.bool true) (fun w' _ _ => shown_any w') ?_
  refine Goes.run [0] [] trivial ?_
  refine Goes.call0 7 #[cv op k t (.slice a N cc)] (.tuple #[.int .i64 T, .bool B]) (fun w' _ hI => by have := type_any (hN.at (bel0 hI)); rwa [hT, hB] at this) ?_
  refine Goes.run [0] [] trivial ?_
  refine Goes.call0 8 #[cv op k t (.slice a N cc)] (.tuple #[.int .i64 T, .bool B]) (fun w' _ hI => by have := rtype_any (hN.at (bel0 hI)); rwa [hT, hB] at this) ?_
  refine Goes.run [] [] trivial ?_
  refine Goes.open [0] ?_
  refine Goes.run [0, 1, 2, 3, 4] [] trivial ?_
  refine Goes.slot 23 (.bool true) (u := .bool (T == T)) (congrArg _ (beq_self_eq_true T)) ?_
  refine Goes.run [5, 6, 7, 8, 9] [] trivial ?_
  refine Goes.slot 28 (.bool true) (u := .bool (B == B)) (congrArg _ (beq_self_eq_true B)) ?_
  refine Goes.run [10, 11, 12, 0, 14, 0] [] trivial ?_
  refine Goes.callA0 13 9 #[cv op k t (.slice a N cc)] (.int .i64 E) (fun w' _ hI => by have := check_any (hN.at (bel0 hI)); rwa [hE] at this) ?_
  refine Goes.callA0 15 10 #[cv op k t (.slice a N cc)] (.int .i64 E) (fun w' _ hI => by have := rcheck_any (hN.at (bel0 hI)); rwa [hE] at this) ?_
  refine Goes.run [16] [] trivial ?_
  refine Goes.slot 35 (.bool true) (u := .bool (E == E)) (congrArg _ (beq_self_eq_true E)) ?_
  refine Goes.run [17, 18, 19, 0, 21, 0] [] trivial ?_
  refine Goes.callA0 20 11 #[cv op k t (.slice a N cc)] (.int .i64 H) (fun w' _ hI => by have := horizon_any (hN.at (bel0 hI)); rwa [hH] at this) ?_
  refine Goes.callA0 22 12 #[cv op k t (.slice a N cc)] (.int .i64 H) (fun w' _ hI => by have := rhorizon_any (hN.at (bel0 hI)); rwa [hH] at this) ?_
  refine Goes.run [23] [] trivial ?_
  refine Goes.slot 42 (.bool true) (u := .bool (H == H)) (congrArg _ (beq_self_eq_true H)) ?_
  refine Goes.run [24, 25, 26, 0, 28, 0] [] trivial ?_
  refine Goes.knowQ (Q := w.heap.size ≤ g) (fun w' _ _ hI => fresh_of hI (g := g) (ids_get (j := 0) (o := cO op k t (.slice a N cc)) (by kernel_rfl)) (by simp [Mem.ids])) fun hg => ?_
  refine Goes.callA 27 14 #[cv op k t (.slice a N cc)] fun _ m0 _ _ _ _ w1 hm1 hn1 hI1 h01 => (feedsW_any (hN.at (bel0 hI1))).mono fun e w2 ⟨v1, he, hR, hBl⟩ => ?_
  have x1 : w1.heap[g]? = some (cO op k t (.slice a N cc)) := hm1.get 0
  have x2 := (hBl.block g (lt_of_get x1)).trans x1
  have hB1 : Below w.heap.size w w1 := bel0 hI1
  rw [hL] at hR
  have hR' := hR.more hB1.size
  refine ⟨v1, fun w' => Below w.heap.size w w' ∧ Rws w.heap.size w' v1 L, [(g, cO op k t (.slice a N cc))], he, h01.bel hBl, fun j b o h => by match j, h with | 0, h => (cases h; exact x2), by simp [Mem.ids], hR'.stay (hB1.trans (hBl.mono hB1.size)) (by simp [Mem.ids]; exact hg) (hR'.apart x2), ?_⟩
  refine Goes.callA 29 15 #[cv op k t (.slice a N cc)] fun _ m0 _ _ _ _ w3 hm3 hn3 hI3 h03 => (rfeeds_any (hN.at hI3.now.1)).mono fun e w4 ⟨v2, he4, hR4, hB4⟩ => ?_
  have x3 : w3.heap[g]? = some (cO op k t (.slice a N cc)) := hm3.get 0
  have x4 := (hB4.block g (lt_of_get x3)).trans x3
  have hR4' : Rws w.heap.size w4 v2 L := by
    rw [← hL]
    exact hR4.more hI3.now.1.size
  have hR3 := hI3.now.2.below hB4 (Nat.le_refl _)
  refine ⟨v2, fun w' => Below w.heap.size w w' ∧ Rws w.heap.size w' v1 L ∧ Rws w.heap.size w' v2 L, [(g, cO op k t (.slice a N cc))], he4, h03.bel hB4, fun j b o h => by match j, h with | 0, h => (cases h; exact x4), by simp [Mem.ids], Rws.two (hI3.now.1.trans (hB4.mono hI3.now.1.size)) hR3 hR4' (by simp [Mem.ids]; exact hg) (hR3.apart x4) (hR4'.apart x4), ?_⟩
  refine Goes.callA0 30 13 #[v1, v2] (.bool true) (fun w' _ hI => by have := names_any hI.now.2.1 hI.now.2.2 (by omega); rwa [decide_eq_true rfl] at this) ?_
  refine Goes.run [31, 32, 33, 0, 35, 0] [] trivial ?_
  refine Goes.callA0 34 16 #[cv op k t (.slice a N cc)] (.int .i64 Z) (fun w' _ hI => by have := size_any (hN.at hI.now.1); rwa [hZ] at this) ?_
  refine Goes.callA0 36 17 #[cv op k t (.slice a N cc)] (.int .i64 Z) (fun w' _ hI => by have := rsizeT_any (hN.at hI.now.1); rwa [hZ] at this) ?_
  refine Goes.run [37] [] trivial ?_
  refine Goes.slot 56 (.bool true) (u := .bool (Z == Z)) (congrArg _ (beq_self_eq_true Z)) ?_
  refine Goes.run [38, 39] [] trivial ?_
  exact Goes.ret [] (.bool true) fun w' hm hI => ⟨rfl, hI.now.1⟩
end Go.Proofs.Ytfblnjidghijaaa
