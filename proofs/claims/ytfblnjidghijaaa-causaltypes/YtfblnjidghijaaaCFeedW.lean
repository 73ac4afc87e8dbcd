/- causal: Feeds, the whole. -/
import Derived.Test.YtfblnjidghijaaaCFeedM
namespace Go.Proofs.Ytfblnjidghijaaa
open Go Go.RowKit

/-- What Feeds answers. -/
def feedsP (c : Co) : List (List UInt8) := bif (typP c).2 then fdF [] c else []
theorem feeds_eq (c : Co) : Lib.compact ((agP feF [] c).mergeSort fun x y => decide (x ≤ y)) = feedsP c := by
  rw [feed_same]
  unfold agP feedsP
  cases (typP c).2 with
  | false => rfl
  | true => simp only [cond_true]; rw [fe_walk, List.nil_append, ← fd_fold]
theorem feeds_len (c : Co) : (agP feF [] c).length ≤ 2000 ∧ (feedsP c).length ≤ 2000 := by
  unfold agP feedsP
  cases h : (typP c).2 with
  | false => simp
  | true =>
    have h1 := (typ_right h).2
    have h2 := fds_len c
    have h3 := fdF_len c []
    simp only [cond_true]
    rw [fe_walk, List.nil_append]
    simp only [List.length_nil] at h3
    exact ⟨by show (fds c).length ≤ 2000; omega, by omega⟩
set_option maxRecDepth 100000 in
seal rn rnN rnS Goes ans atEnd put0 putM opened putA0 putA oneSt st0 orT orG keep in
theorem feedsW_any {c : Co} {v : Value} {w : World} (hN : Nc w.heap.size w v c) : Calls Try.prog 14 #[v] w fun e w' => ∃ v', e = .returned v' ∧ Rws w.heap.size w' v' (feedsP c) ∧ Below w.heap.size w w' := by
  obtain ⟨op, k, t, a, N, cc, rfl⟩ := hN.cells
  obtain ⟨hl1, hl2⟩ := feeds_len c
  refine Goes.begin Try.func14 [] (fun _ => True) Holds.nil (by simp [Mem.ids]) (fun _ _ => trivial) ?_
  refine Goes.run2 [0] [] trivial fun g gq => ?_
  refine Goes.call 22 #[cv op k t (.slice a N cc), askV 29 gq] fun w1 hm1 hn1 hI1 => ?_
  have y1 : w1.heap[gq]? = some (.cells #[.slice none 0 0] 32 (0, 0)) := hm1.get 1
  have y0 : w1.heap[g]? = some (cO op k t (.slice a N cc)) := hm1.get 0
  have hids : [g, gq].Nodup := Nodup.of_ids hn1
  have hgg : g ≠ gq := by simpa using hids
  have fg : w.heap.size ≤ g := fresh_of hI1 (g := g) (ids_get (j := 0) (o := cO op k t (.slice a N cc)) (by kernel_rfl)) (by simp [Mem.ids])
  have fq : w.heap.size ≤ gq := fresh_of hI1 (g := gq) (ids_get (j := 1) (o := .cells #[.slice none 0 0] 32 (0, 0)) (by kernel_rfl)) (by simp [Mem.ids])
  have hB1 : Below w.heap.size w w1 := bel0 hI1
  refine (askG_any (feQ w.heap.size gq) (by kernel_rfl) (x := []) (O := [gq]) ⟨.slice none 0 0, y1, Rws.nil, rfl, fq⟩ (hN.later hB1) hB1.size (fun hr => fe_safe 1 c [] (by have := (typ_right hr).2; simp; omega))).mono fun e w2 ⟨he, O2, ⟨v2, z1, hR2, _, _⟩, hC2, _⟩ => ?_
  have z0 := (hC2.block g (lt_of_get y0) (by simpa using hgg)).trans y0
  have hB2 : Below w.heap.size w w2 := ⟨hC2.os.trans hB1.os, hC2.tape.trans hB1.tape, hC2.output.trans hB1.output, Nat.le_trans hB1.size hC2.size, fun i hi => (hC2.block i (Nat.lt_of_lt_of_le hi hB1.size) (by simp; omega)).trans (hB1.block i hi)⟩
  have key : ∀ {w3 : World} {vq vx : Value} {l : List (List UInt8)} (P : Prop), Below w.heap.size w w3 → Rws w.heap.size w3 vx l → w3.heap[g]? = some (cO op k t (.slice a N cc)) → w3.heap[gq]? = some (.cells #[vq] 32 (0, 0)) → Stay (Mem.ids [(g, cO op k t (.slice a N cc)), (gq, .cells #[vq] 32 (0, 0))]) w3 (fun w' => Below w.heap.size w w' ∧ Rws w.heap.size w' vx l) := by
    intro w3 vq vx l _ hB hR q0 q1
    refine hR.stay hB (by simp [Mem.ids]; exact ⟨fg, fq⟩) (fun b hb hx => ?_)
    simp only [Mem.ids, List.map_cons, List.map_nil, List.mem_cons, List.not_mem_nil, or_false] at hx
    rcases hx with rfl | rfl
    · exact hR.apart q0 b hb (by simp)
    · exact hR.off q1 hb
  have grown : ∀ {w3 w4 : World} {vx : Value} {l : List (List UInt8)}, Below w.heap.size w w3 → Rws w.heap.size w3 vx l → Ch vx.ownBlock.toList w3 w4 → Below w.heap.size w w4 := by
    intro w3 w4 vx l hB hR hC
    exact ⟨hC.os.trans hB.os, hC.tape.trans hB.tape, hC.output.trans hB.output, Nat.le_trans hB.size hC.size, fun i hi => (hC.block i (Nat.lt_of_lt_of_le hi hB.size) (fun hx => by rw [Option.mem_toList] at hx; have := (hR.low hx).1; omega)).trans (hB.block i hi)⟩
  refine ⟨_, fun w' => Below w.heap.size w w' ∧ Rws w.heap.size w' v2 (agP feF [] c), [(g, cO op k t (.slice a N cc)), (gq, .cells #[v2] 32 (0, 0))], he, fun j b o h => by match j, h with | 0, h => (cases h; exact z0) | 1, h => (cases h; exact z1), by simpa [Mem.ids] using hgg, key True hB2 hR2 z0 z1, ?_⟩
  refine Goes.run [1] [] trivial ?_
  refine Goes.call 30 #[v2] fun w3 hm3 hn3 hI3 => (sort_any hI3.now.2 (by omega)).mono fun e w4 ⟨he4, hC4, hR4⟩ => ?_
  have a0 : w3.heap[g]? = some (cO op k t (.slice a N cc)) := hm3.get 0
  have a1 : w3.heap[gq]? = some (.cells #[v2] 32 (0, 0)) := hm3.get 1
  have b0 := (hC4.block g (lt_of_get a0) (fun hx => by rw [Option.mem_toList] at hx; exact hI3.now.2.apart a0 g hx (by simp))).trans a0
  have b1 := (hC4.block gq (lt_of_get a1) (fun hx => by rw [Option.mem_toList] at hx; exact hI3.now.2.off a1 hx)).trans a1
  refine ⟨_, fun w' => Below w.heap.size w w' ∧ Rws w.heap.size w' v2 ((agP feF [] c).mergeSort fun x y => decide (x ≤ y)), [(g, cO op k t (.slice a N cc)), (gq, .cells #[v2] 32 (0, 0))], he4, fun j b o h => by match j, h with | 0, h => (cases h; exact b0) | 1, h => (cases h; exact b1), by simpa [Mem.ids] using hgg, key True (grown hI3.now.1 hI3.now.2 hC4) hR4 b0 b1, ?_⟩
  refine Goes.run [1] [] trivial ?_
  refine Goes.call 31 #[v2] fun w5 hm5 hn5 hI5 => (compact_any hI5.now.2 (by rw [List.length_mergeSort]; omega)).mono fun e w6 ⟨v6, he6, hob, hC6, hR6⟩ => ?_
  rw [feeds_eq] at hR6
  refine ⟨v6, fun w' => Below w.heap.size w w' ∧ Rws w.heap.size w' v6 (feedsP c), [], he6, Holds.nil, by simp [Mem.ids], hR6.stay (grown hI5.now.1 hI5.now.2 hC6) (by simp [Mem.ids]) (by simp [Mem.ids]), ?_⟩
  refine Goes.run [] [] trivial ?_
  exact Goes.ret [] v6 fun w' hm hI => ⟨_, rfl, hI.now.2, hI.now.1⟩
end Go.Proofs.Ytfblnjidghijaaa
