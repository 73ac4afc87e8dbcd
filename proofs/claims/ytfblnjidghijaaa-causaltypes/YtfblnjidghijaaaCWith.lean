/- The document's side of causal: names, with one more. -/
import Derived.Test.YtfblnjidghijaaaCStr
import Derived.Test.YtfblnjidghijaaaEKid
import Derived.Test.YtfblnjidghijaaaEStop
namespace Go.Proofs.Ytfblnjidghijaaa
open Go Go.RowKit

def wpos (l : List (List UInt8)) (s : List UInt8) : Nat := (l.takeWhile fun x => decide (x < s)).length
def withF (l : List (List UInt8)) (s : List UInt8) : List (List UInt8) := bif decide (l[wpos l s]? = some s) then l else l.take (wpos l s) ++ s :: l.drop (wpos l s)
theorem wpos_le (l : List (List UInt8)) (s : List UInt8) : wpos l s ≤ l.length := by
  unfold wpos
  exact (List.takeWhile_sublist _).length_le
theorem add0 (b k : Nat) : (⟨b, 0, none⟩ : Addr).add k = ⟨b, k, none⟩ := by unfold Addr.add; split <;> simp_all
theorem addN (b n k : Nat) : (⟨b, n, none⟩ : Addr).add k = ⟨b, n + k, none⟩ := by unfold Addr.add; split <;> simp_all
theorem ocS (l : List (List UInt8)) : ∀ u ∈ l.map strV, u.oneCell' = true := by
  intro u hu
  obtain ⟨x, -, rfl⟩ := List.mem_map.1 hu
  rfl
theorem ch_low {L : List Nat} {w w' w'' : World} (h : Ch L w w') (hB : Below w.heap.size w' w'') : Ch L w w'' :=
  ⟨hB.os.trans h.os, hB.tape.trans h.tape, hB.output.trans h.output, Nat.le_trans h.size hB.size, fun i hi hx => (hB.block i hi).trans (h.block i hi hx)⟩
theorem newsS {w : World} {b n : Nat} {l l' : List (List UInt8)} {r : List Value} (hb : w.heap[b]? = some (sO l r)) (h : ∀ j x, l'[j]? = some x → l[n + j]? = some x) : ∀ j u, (l'.map strV)[j]? = some u → w.cell? ((⟨b, n, none⟩ : Addr).add j) = some u := by
  intro j u hu
  rw [List.getElem?_map] at hu
  cases hx : l'[j]? with
  | none => rw [hx] at hu; cases hu
  | some x =>
    rw [hx] at hu
    cases hu
    rw [addN]
    exact cellS hb (h j x hx)
set_option maxRecDepth 100000 in
seal rn rnS Goes ans atEnd put0 putM opened putA0 putA oneSt st0 keep in
theorem with_nil (s : List UInt8) (w : World) : Calls Try.prog 43 #[.slice none 0 0, strV s] w fun e w' => ∃ v, e = .returned v ∧ Rws w.heap.size w' v [s] ∧ Below w.heap.size w w' := by
  refine Goes.begin Try.func43 [] (fun _ => True) Holds.nil (by simp [Mem.ids]) (fun _ _ => trivial) ?_
  refine Goes.run [0, 0, 0, 0, 0] [(false, false), (false, false), (false, false), (false, false)] ⟨rfl, rfl, rfl, rfl, trivial⟩ ?_
  refine Goes.open [] ?_
  refine Goes.run [0, 1, 2, 4, 5] [] trivial ?_
  refine Goes.valA 6 (Instr.sliceAt 32 (.slice none 0 0) none (some (.int .i64 0)) none) (.slice none 0 0) (fun w' _ => (nilS w').1) ?_
  refine Goes.lone1 3 (TookS.eff 3 (Instr.makeSlice 32 (.int .i64 0) (.int .i64 ((1 : Nat) : Int))) fun w1 hm1 hn1 hI1 => ?_)
  obtain ⟨w2, g, hr, hS, hB, hg, hgl⟩ := makeS0 w1 1 (by omega)
  have hB1 : Below w.heap.size w w1 := bel0 hI1
  refine ⟨_, w2, fun w' => Below w.heap.size w w' ∧ Rws w.heap.size w' (.slice (some ⟨g, 0, none⟩) 0 1) [], [], hr, Holds.nil, by simp [Mem.ids], ?_, ?_⟩
  · intro w3 hc
    have hb3 : Below w2.heap.size w2 w3 := hc.toB (fun x hx => by cases hx)
    exact ⟨(hB1.trans (hB.mono hB1.size)).trans (hb3.mono (Nat.le_trans hB1.size hB.size)), (hS.below hb3 (Nat.le_refl _)).more hB1.size⟩
  refine Goes.lone1 7 (TookS.eff 7 (Builtin.append_ #[32, 32] 32 #[.slice (some ⟨g, 0, none⟩) 0 1, .slice none 0 0]) fun w3 hm3 hn3 hI3 => ?_)
  refine ⟨_, w3, _, [], appNilS g 0 1 32 (by omega) w3, Holds.nil, by simp [Mem.ids], hI3.less (by simp [Mem.ids]), ?_⟩
  refine Goes.run1 [8] [] trivial fun gb => ?_
  refine Goes.appendA (I0 := Below w.heap.size w) w.heap.size 32 9 32 1 16 (.slice (some ⟨g, 0, none⟩) 0 1) 0 [] ⟨gb, 0, none⟩ 1 1 ([s].map strV) (fun w' h => ⟨h.1, h.2, h.1.size⟩) (fun w' w'' h h' => h.trans h') rfl (fun w' hm => newsS (l := [s]) (r := []) (hm.get 0) (fun j x hx => by rw [Nat.zero_add]; exact hx)) (ocS _) (.inr (by decide)) (by unfold maxLen; omega) (by omega) fun rb rc => ?_
  refine Goes.pure (Q := 1 ≤ rc) (fun w' h => by rcases h.2.2 with ⟨e, -⟩ | ⟨g, cap, cur, e, -, -, h3, -⟩; cases e; cases e; exact h3) fun hrc => ?_
  refine Goes.keep 0 ?_
  refine Goes.run [] [] trivial ?_
  refine Goes.val (Instr.sliceAt 32 (.slice none 0 0) (some (.int .i64 0)) none none) (.slice none 0 0) (fun w' _ _ => (nilS w').2) ?_
  refine Goes.val (Builtin.append_ #[32, 32] 32 #[.slice (some ⟨rb, 0, none⟩) 1 rc, .slice none 0 0]) (.slice (some ⟨rb, 0, none⟩) 1 rc) (fun w' _ _ => appNilS rb 1 rc 32 hrc w') ?_
  refine Goes.run [] [] trivial ?_
  exact Goes.ret [] (.slice (some ⟨rb, 0, none⟩) 1 rc) fun w' hm hI => ⟨_, rfl, hI.now.2, hI.now.1⟩
theorem wpos_at {l : List (List UInt8)} {s x : List UInt8} {j : Nat} (hx : l[j]? = some x) (hj : wpos l s = j + wpos (l.drop j) s) : (x < s → wpos l s = (j + 1) + wpos (l.drop (j + 1)) s) ∧ (¬ x < s → wpos l s = j) := by
  have hd : l.drop j = x :: l.drop (j + 1) := by
    obtain ⟨h1, h2⟩ := List.getElem?_eq_some_iff.1 hx
    rw [List.drop_eq_getElem_cons h1, h2]
  rw [hj, hd]
  unfold wpos
  refine ⟨fun h => ?_, fun h => ?_⟩
  · simp [h]; omega
  · simp [h]
/-- A place that is reached. -/
theorem Goes.at {P : Program} {F : Exit → Act → World → Prop} {Inv : World → Prop} {s : St} {K : List TI} {n : Nat} {S : List (Nat × Value)} {m : Mem} (h : ∀ J, Goes P F Inv ⟨K, fr n S J, m⟩) (h1 : s.todo = K := by kernel_rfl) (h2 : s.tmps = fr n S (jk s) := by kernel_rfl) (h3 : s.mem = m := by kernel_rfl) : Goes P F Inv s := by
  have := h (jk s)
  rw [← h1, ← h2, ← h3] at this
  exact this
noncomputable def wK1 : List TI := (rnS Try.prog 21 [0, 0, 0] [] (st0 Try.f43 #[.slice none 0 0, strV []] [])).st.todo
noncomputable def wK2 : List TI := (rn Try.prog [0, 0, 0, 0, 0] [] (st0 Try.f43 #[.slice none 0 0, strV []] [])).st.todo
def WQ (l : List (List UInt8)) (b N cap : Nat) (s : List UInt8) (w : World) (e : Ending) (w' : World) : Prop := ∃ v, e = .returned v ∧ (v = .slice (some ⟨b, 0, none⟩) N cap ∧ withF l s = l ∨ Rws w.heap.size w' v (withF l s)) ∧ Below w.heap.size w w'
def wS (b N cap : Nat) (s : List UInt8) (j : Nat) : List (Nat × Value) := [(0, .slice (some ⟨b, 0, none⟩) N cap), (1, strV s), (5, .int .i64 j)]
set_option maxRecDepth 100000 in
seal rn rnS Goes ans atEnd put0 putM opened putA0 putA oneSt st0 keep in
theorem with_tail {l : List (List UInt8)} {b N cap j : Nat} {r : List Value} {s : List UInt8} {w : World} (hb : w.heap[b]? = some (sO l r)) (hN : l.length = N) (hcap : N ≤ cap) (hl : N ≤ 1000000) (hj : wpos l s = j) (hne : l[j]? ≠ some s) (J : Nat → Value) : Goes Try.prog (bodyPost Try.prog Try.f43 (WQ l b N cap s w)) (fun w' => Ch (Mem.ids [(b, sO l r)]) w w' ∧ True) ⟨wK2, fr 51 (wS b N cap s j) J, [(b, sO l r)]⟩ := by
  have hHb : Holds [(b, sO l r)] w := fun j b o h => by match j, h with | 0, h => (cases h; exact hb)
  have hbl := lt_of_get hb
  have hjN : j ≤ N := by rw [← hj, ← hN]; exact wpos_le l s
  have hW : withF l s = l.take j ++ s :: l.drop j := by unfold withF; rw [hj, decide_eq_false hne]; rfl
  have hw1 : IntKind.i64.wrap ((N : Int) + 1) = ((N + 1 : Nat) : Int) := wrap_nat (by omega)
  refine Goes.open [] ?_
  refine Goes.run [0, 1, 2, 4, 5] [] trivial ?_
  refine Goes.slot 36 (.int .i64 ((N + 1 : Nat) : Int)) (u := .int .i64 (IntKind.i64.wrap ((N : Int) + 1))) (congrArg _ hw1) ?_
  refine Goes.valA 6 (Instr.sliceAt 32 (.slice (some ⟨b, 0, none⟩) N cap) none (some (.int .i64 j)) none) (.slice (some ⟨b, 0, none⟩) j cap) (fun w' _ => cutS b N cap j hjN hcap w') ?_
  refine Goes.lone1 3 (TookS.eff 3 (Instr.makeSlice 32 (.int .i64 0) (.int .i64 ((N + 1 : Nat) : Int))) fun w1 hm1 hn1 hI1 => ?_)
  obtain ⟨w2, g, hr, hS, hB, hg, hgl⟩ := makeS0 w1 (N + 1) (by omega)
  have hC1 : Ch (Mem.ids [(b, sO l r)]) w w1 := hI1.now.1
  have x1 : w1.heap[b]? = some (sO l r) := hm1.get 0
  refine ⟨_, w2, fun w' => Ch (Mem.ids [(b, sO l r)]) w w' ∧ Rws w.heap.size w' (.slice (some ⟨g, 0, none⟩) 0 (N + 1)) [], [(b, sO l r)], hr, fun i b' o h => by match i, h with | 0, h => (cases h; exact (hB.block b (lt_of_get x1)).trans x1), by simp [Mem.ids], ?_, ?_⟩
  · intro w3 hc
    refine ⟨(ch_low hC1 (hB.mono hC1.size)).trans hc (fun x hx => .inl hx), ⟨by simp, ?_⟩⟩
    rcases hS.2 with ⟨e, -⟩ | ⟨g', cp, cur, e, h2, h3, h4⟩
    · cases e
    · cases e
      refine .inr ⟨g, N + 1, cur, rfl, Nat.le_trans hC1.size h2, (hc.block g hgl (fun hx => ?_)).trans h3, h4⟩
      have := hC1.size
      simp only [Mem.ids, List.map_cons, List.map_nil, List.mem_singleton] at hx
      omega
  refine Goes.lone1 7 (TookS.eff 7 (Builtin.append_ #[32, 32] 32 #[.slice (some ⟨g, 0, none⟩) 0 (N + 1), .slice (some ⟨b, 0, none⟩) j cap]) fun w3 hm3 hn3 hI3 => ?_)
  have htl : (l.take j).length = j := by rw [List.length_take]; omega
  obtain ⟨hC3, hS3⟩ := hI3.now
  obtain ⟨rb, rc, w4, hrun, hown', hgr, hob⟩ := append_coreA (P := Try.prog) (t := 32) (ty := 32) (bytes := 16) (c := cap) (a := ⟨b, 0, none⟩) (m := j) (news := (l.take j).map strV) hS3 hC3.size (by simp; omega) (newsS (l := l) (r := r) (hm3.get 0) (fun i x hx => by rw [Nat.zero_add]; rw [List.getElem?_take] at hx; split at hx; exact hx; cases hx)) (ocS _) (.inl (by simp)) (by unfold maxLen; simp only [List.length_nil]; omega) (by simp only [List.length_nil]; omega) (by kernel_rfl)
  obtain ⟨h4, h5⟩ := append_stay hm3 hI3 (fun w' w'' h hB => ch_low h hB) hown' hgr hob
  refine ⟨_, w4, _, _, hrun, h4, hn3, h5, ?_⟩
  refine Goes.slot 41 (.slice (some ⟨rb, 0, none⟩) j rc) (u := .slice (some ⟨rb, 0, none⟩) (([] : List (List UInt8)).length + j) rc) (by simp) ?_
  refine Goes.inv (Inv' := fun w' => Ch (Mem.ids [(b, sO l r)]) w w' ∧ w'.ownsRow w.heap.size 9 1 (.slice (some ⟨rb, 0, none⟩) j rc) j ((l.take j).map strV)) (fun w' h => ⟨h.1, by simpa using h.2⟩) ?_
  refine Goes.run1 [8] [] trivial fun gb => ?_
  refine Goes.appendA (I0 := Ch (Mem.ids [(b, sO l r)]) w) w.heap.size 32 9 32 1 16 (.slice (some ⟨rb, 0, none⟩) j rc) j ((l.take j).map strV) ⟨gb, 0, none⟩ 1 1 ([s].map strV) (fun w' h => ⟨h.1, h.2, h.1.size⟩) (fun w' w'' h h' => ch_low h h') rfl (fun w' hm => newsS (l := [s]) (r := []) (hm.get 1) (fun j x hx => by rw [Nat.zero_add]; exact hx)) (ocS _) (.inr (by decide)) (by unfold maxLen; omega) (by omega) fun rb2 rc2 => ?_
  refine Goes.keep 1 ?_
  refine Goes.run [] [] trivial ?_
  refine Goes.val (Instr.sliceAt 32 (.slice (some ⟨b, 0, none⟩) N cap) (some (.int .i64 j)) none none) (.slice (if cap = j then some ⟨b, 0, none⟩ else some ⟨b, j, none⟩) (N - j) (cap - j)) (fun w' _ _ => restS b N cap j hjN hcap w') ?_
  obtain ⟨o, ho, hoj⟩ : ∃ o, (if cap = j then some ⟨b, 0, none⟩ else some ⟨b, j, none⟩ : Option Addr) = some ⟨b, o, none⟩ ∧ (o = j ∨ N - j = 0) := by
    by_cases h : cap = j
    · exact ⟨0, by rw [if_pos h], .inr (by omega)⟩
    · exact ⟨j, by rw [if_neg h], .inl rfl⟩
  refine Goes.slot 49 (.slice (some ⟨b, o, none⟩) (N - j) (cap - j)) (u := .slice (if cap = j then some ⟨b, 0, none⟩ else some ⟨b, j, none⟩) (N - j) (cap - j)) (by rw [ho]) ?_
  refine Goes.appendA (I0 := Ch (Mem.ids [(b, sO l r)]) w) w.heap.size 32 9 32 1 16 (.slice (some ⟨rb2, 0, none⟩) (j + 1) rc2) (j + 1) ((l.take j).map strV ++ [s].map strV) ⟨b, o, none⟩ (N - j) (cap - j) ((l.drop j).map strV) (fun w' h => ⟨h.1, h.2, h.1.size⟩) (fun w' w'' h h' => ch_low h h') (by simp; omega) (fun w' hm => newsS (l := l) (r := r) (hm.get 0) (fun i x hx => by
    rcases hoj with e | e
    · rw [e]; rw [List.getElem?_drop] at hx; exact hx
    · rw [List.drop_of_length_le (by omega)] at hx; simp at hx)) (ocS _) (.inl (by simp)) (by unfold maxLen; omega) (by omega) fun rb3 rc3 => ?_
  refine Goes.run [] [] trivial ?_
  refine Goes.ret [] (.slice (some ⟨rb3, 0, none⟩) (j + 1 + (N - j)) rc3) fun w' hm hI => ⟨_, rfl, .inr ?_, ?_⟩
  · have h := hI.now.2
    rw [hW]
    unfold Rws
    have e1 : (l.take j ++ s :: l.drop j).length = j + 1 + (N - j) := by simp; omega
    have e2 : (l.take j ++ s :: l.drop j).map strV = (l.take j).map strV ++ [s].map strV ++ (l.drop j).map strV := by simp
    rw [e1, e2]
    exact h
  · exact below_end (m := [(b, sO l r)]) hHb hI.now.1 hm (by kernel_rfl)
end Go.Proofs.Ytfblnjidghijaaa
