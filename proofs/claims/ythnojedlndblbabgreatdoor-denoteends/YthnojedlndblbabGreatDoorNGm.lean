/- texts put together: NPure NPure2 CWith CWith2 CRefG CFeedR NPure3 NFw NEndsA -/
import Derived.Test.YthnojedlndblbabGreatDoorNGj
import Derived.Test.YthnojedlndblbabGreatDoorNGd
import Derived.Test.YthnojedlndblbabGreatDoorNGb
import Derived.Test.YthnojedlndblbabGreatDoorNGl
namespace Go.Proofs.YthnojedlndblbabGreatDoor
open Go Go.RowKit

theorem num_in {n : Int} : numP n = true ↔ inM n := by unfold numP inM; simp
theorem rl_good {c : Co} : ∀ {l : List (Int × Int)} {last : Int}, l.Pairwise (fun x y => x.1 < y.1) → (∀ x ∈ l, last < x.1 ∧ x.1 < szC c ∧ opAt c x.1 = true ∧ inM x.2) → rlF c last l = true
  | [], _, _, _ => rfl
  | x :: r, last, hp, h => by
    rw [List.pairwise_cons] at hp
    obtain ⟨h1, h2, h3, h4⟩ := h x (by simp)
    rw [rlF, decide_eq_false (by omega), decide_eq_false (by omega), h3, num_in.2 h4, rl_good hp.2 fun y hy => ⟨hp.1 y hy, (h y (by simp [hy])).2⟩]
    rfl
theorem gd_rl {c : Co} {l : List (Int × Int)} (h : Gd c l) (hf : ∀ x ∈ l, inM x.2) : rlP c l = true := by
  obtain ⟨h1, h2⟩ := h.rise
  refine rl_good h1 fun x hx => ?_
  obtain ⟨t, ht, hw⟩ := h.each x hx
  have h3 := (term_in c _ t ht).2.1
  have h4 := szC_pos t
  refine ⟨by have := h2 x hx; omega, by omega, ?_, hf x hx⟩
  unfold opAt
  rw [ht]
  exact hw
theorem inM_one : inM 1000000 := by unfold inM; omega
theorem rc_none : rcP [] 0 = true := by
  unfold rcP
  simp
theorem beg_cases (fs : Fs) (day : Int) (c : Co) : (begR fs day c = (acq fs day c 0 1000000, 0) ∧ (chkP c == 0 && (dayP day && rfP fs)) = true) ∨ (begR fs day c = (r0, 150) ∧ (chkP c == 0 && (dayP day && rfP fs)) = false) := by
  unfold begR
  cases (chkP c == 0 && (dayP day && rfP fs)) with
  | true => exact .inl ⟨rfl, rfl⟩
  | false => exact .inr ⟨rfl, rfl⟩
theorem ste_cases (fs : Fs) (day : Int) (lab : List UInt8) (which : Int) (c : Co) (l : List (Int × Int)) : (steR fs day lab which c l = (stepP fs day lab which c l, 0) ∧ (chkP c == 0 && (dayP day && rfP fs)) = true ∧ rlP c l = true) ∨ (steR fs day lab which c l = (r0, 150) ∧ ((chkP c == 0 && (dayP day && rfP fs) && rcP lab which) && rlP c l) = false) := by
  unfold steR
  cases h : ((chkP c == 0 && (dayP day && rfP fs) && rcP lab which) && rlP c l) with
  | true =>
    simp only [Bool.and_eq_true] at h
    exact .inl ⟨rfl, by simp only [Bool.and_eq_true]; exact h.1.1, h.2⟩
  | false => exact .inr ⟨rfl, rfl⟩
end Go.Proofs.YthnojedlndblbabGreatDoor
namespace Go.Proofs.YthnojedlndblbabGreatDoor
open Go Go.RowKit

theorem st_less {a b : Int} (h : b ≤ a) : ∀ {l : List (Int × Int)}, stOk a l = true → stOk b l = true
  | [], _ => rfl
  | q :: r, h1 => by
    rw [stOk] at h1 ⊢
    simp only [Bool.and_eq_true, Bool.not_eq_true', decide_eq_false_iff_not] at h1 ⊢
    exact ⟨⟨⟨by omega, h1.1.1.2⟩, h1.1.2⟩, h1.2⟩
mutual
/-- A right term that does not look ahead. -/
theorem no_ahead : ∀ (c : Co) (d : Int), (typF d c).2 = true → ahC c = false → allN noAh c = true
  | .mk op k t kids, d, h, ha => by
    obtain ⟨ho, -, hk⟩ := typ_kids h
    rw [ahC, Bool.or_eq_false_iff] at ha
    rw [allN, no_aheadL kids (d + 1) hk ha.2, Bool.and_true, noAh]
    cases h4 : (op == 4) with
    | false => rfl
    | true =>
      have := eq_of_beq h4
      subst this
      have hn : ownN 4 k = true := by unfold ownC at ho; simp only [Bool.and_eq_true] at ho; exact ho.1
      have hi : inW k (-3660) 3660 = true := hn
      unfold inW at hi
      have hk0 : decide (k < 0) = false := ha.1
      simp only [Bool.and_eq_true, decide_eq_true_eq, decide_eq_false_iff_not] at hi hk0
      simp only [cond_true, Bool.and_eq_true, decide_eq_true_eq]
      omega
theorem no_aheadL : ∀ (l : List Co) (d : Int), (∀ c ∈ l, (typF d c).2 = true) → ahL l = false → allK noAh l = true
  | [], _, _, _ => rfl
  | c :: r, d, h, ha => by
    rw [ahL, Bool.or_eq_false_iff] at ha
    rw [allK, no_ahead c d (h c (by simp)) ha.1, no_aheadL r d (fun x hx => h x (by simp [hx])) ha.2]
    rfl
end
theorem chk_noah {c : Co} (h : (chkP c == 0) = true) : allN noAh c = true := by
  obtain ⟨h1, -, h3⟩ := chk_typ h
  exact no_ahead c 1 (by rw [h1]) h3
theorem chk_iff {c : Co} : chkP c = 0 ↔ (isOfP 4 c = true ∧ ahC c = false) := by
  cases h : isOfP 4 c with
  | false => rw [chk_no h]; simp
  | true =>
    rw [chk_yes h]
    cases ahC c <;> simp
end Go.Proofs.YthnojedlndblbabGreatDoor
namespace Go.Proofs.YthnojedlndblbabGreatDoor
open Go Go.RowKit

def wpos (l : List (List UInt8)) (s : List UInt8) : Nat := (l.takeWhile fun x => decide (x < s)).length
def withF (l : List (List UInt8)) (s : List UInt8) : List (List UInt8) := bif decide (l[wpos l s]? = some s) then l else l.take (wpos l s) ++ s :: l.drop (wpos l s)
theorem wpos_le (l : List (List UInt8)) (s : List UInt8) : wpos l s ≤ l.length := by
  unfold wpos
  exact (List.takeWhile_sublist _).length_le
theorem addN (b n k : Nat) : (⟨b, n, none⟩ : Addr).add k = ⟨b, n + k, none⟩ := by unfold Addr.add; split <;> simp_all
theorem ocS (l : List (List UInt8)) : ∀ u ∈ l.map strV, u.oneCell' = true := by
  intro u hu
  obtain ⟨x, -, rfl⟩ := List.mem_map.1 hu
  rfl
theorem ch_low {L : List Nat} {w w' w'' : World} (h : Ch L w w') (hB : Below w.heap.size w' w'') : Ch L w w'' :=
  ⟨hB.os.trans h.os, hB.tape.trans h.tape, hB.output.trans h.output, Nat.le_trans h.size hB.size, fun i hi hx => (hB.block i hi).trans (h.block i hi hx)⟩
theorem newsS {w : World} {b n : Nat} {l l' : List (List UInt8)} {r : List Value} (hb : w.heap[b]? = some (sO l r)) (h : ∀ j x, l'[j]? = some x → l[n + j]? = some x) : ∀ j u, (l'.map strV)[j]? = some u → w.cell? ((⟨b, n, none⟩ : Addr).add j) = some u := by
  intro j u hu
  rw [List.getElem?_map] at hu
  cases hx : l'[j]? with
  | none => rw [hx] at hu; cases hu
  | some x =>
    rw [hx] at hu
    cases hu
    rw [addN]
    exact cellS hb (h j x hx)
set_option maxRecDepth 100000 in
seal rn rnS Goes ans atEnd put0 putM opened putA0 putA oneSt st0 keep in
theorem with_nil (s : List UInt8) (w : World) : Calls Tryz.prog 43 #[.slice none 0 0, strV s] w fun e w' => ∃ v, e = .returned v ∧ Rws w.heap.size w' v [s] ∧ Below w.heap.size w w' := by
  refine Goes.begin Tryz.func43 [] (fun _ => True) Holds.nil (by simp [Mem.ids]) (fun _ _ => trivial) ?_
  refine Goes.run [0, 0, 0, 0, 0] [(false, false), (false, false), (false, false), (false, false)] ⟨rfl, rfl, rfl, rfl, trivial⟩ ?_
  refine Goes.open [] ?_
  refine Goes.run [0, 1, 2, 4, 5] [] trivial ?_
  refine Goes.valA 6 (Instr.sliceAt 47 (.slice none 0 0) none (some (.int .i64 0)) none) (.slice none 0 0) (fun w' _ => (nilS w').1) ?_
  refine Goes.lone1 3 (TookS.eff 3 (Instr.makeSlice 47 (.int .i64 0) (.int .i64 ((1 : Nat) : Int))) fun w1 hm1 hn1 hI1 => ?_)
  obtain ⟨w2, g, hr, hS, hB, hg, hgl⟩ := makeS0 w1 1 (by omega)
  have hB1 : Below w.heap.size w w1 := bel0 hI1
  refine ⟨_, w2, fun w' => Below w.heap.size w w' ∧ Rws w.heap.size w' (.slice (some ⟨g, 0, none⟩) 0 1) [], [], hr, Holds.nil, by simp [Mem.ids], ?_, ?_⟩
  · intro w3 hc
    have hb3 : Below w2.heap.size w2 w3 := hc.toB (fun x hx => by cases hx)
    exact ⟨(hB1.trans (hB.mono hB1.size)).trans (hb3.mono (Nat.le_trans hB1.size hB.size)), (hS.below hb3 (Nat.le_refl _)).more hB1.size⟩
  refine Goes.lone1 7 (TookS.eff 7 (Builtin.append_ #[47, 47] 47 #[.slice (some ⟨g, 0, none⟩) 0 1, .slice none 0 0]) fun w3 hm3 hn3 hI3 => ?_)
  refine ⟨_, w3, _, [], appNilS g 0 1 47 (by omega) w3, Holds.nil, by simp [Mem.ids], hI3.less (by simp [Mem.ids]), ?_⟩
  refine Goes.run1 [8] [] trivial fun gb => ?_
  refine Goes.appendA (I0 := Below w.heap.size w) w.heap.size 47 9 47 1 16 (.slice (some ⟨g, 0, none⟩) 0 1) 0 [] ⟨gb, 0, none⟩ 1 1 ([s].map strV) (fun w' h => ⟨h.1, h.2, h.1.size⟩) (fun w' w'' h h' => h.trans h') rfl (fun w' hm => newsS (l := [s]) (r := []) (hm.get 0) (fun j x hx => by rw [Nat.zero_add]; exact hx)) (ocS _) (.inr (by decide)) (by unfold maxLen; omega) (by omega) fun rb rc => ?_
  refine Goes.pure (Q := 1 ≤ rc) (fun w' h => by rcases h.2.2 with ⟨e, -⟩ | ⟨g, cap, cur, e, -, -, h3, -⟩; cases e; cases e; exact h3) fun hrc => ?_
  refine Goes.keep 0 ?_
  refine Goes.run [] [] trivial ?_
  refine Goes.val (Instr.sliceAt 47 (.slice none 0 0) (some (.int .i64 0)) none none) (.slice none 0 0) (fun w' _ _ => (nilS w').2) ?_
  refine Goes.val (Builtin.append_ #[47, 47] 47 #[.slice (some ⟨rb, 0, none⟩) 1 rc, .slice none 0 0]) (.slice (some ⟨rb, 0, none⟩) 1 rc) (fun w' _ _ => appNilS rb 1 rc 47 hrc w') ?_
  refine Goes.run [] [] trivial ?_
  exact Goes.ret [] (.slice (some ⟨rb, 0, none⟩) 1 rc) fun w' hm hI => ⟨_, rfl, hI.now.2, hI.now.1⟩
theorem wpos_at {l : List (List UInt8)} {s x : List UInt8} {j : Nat} (hx : l[j]? = some x) (hj : wpos l s = j + wpos (l.drop j) s) : (x < s → wpos l s = (j + 1) + wpos (l.drop (j + 1)) s) ∧ (¬ x < s → wpos l s = j) := by
  have hd : l.drop j = x :: l.drop (j + 1) := by
    obtain ⟨h1, h2⟩ := List.getElem?_eq_some_iff.1 hx
    rw [List.drop_eq_getElem_cons h1, h2]
  rw [hj, hd]
  unfold wpos
  refine ⟨fun h => ?_, fun h => ?_⟩
  · simp [h]; omega
  · simp [h]
noncomputable def wK1 : List TI := (rnS Tryz.prog 21 [0, 0, 0] [] (st0 Tryz.f43 #[.slice none 0 0, strV []] [])).st.todo
noncomputable def wK2 : List TI := (rn Tryz.prog [0, 0, 0, 0, 0] [] (st0 Tryz.f43 #[.slice none 0 0, strV []] [])).st.todo
def WQ (l : List (List UInt8)) (b N cap : Nat) (s : List UInt8) (w : World) (e : Ending) (w' : World) : Prop := ∃ v, e = .returned v ∧ (v = .slice (some ⟨b, 0, none⟩) N cap ∧ withF l s = l ∨ Rws w.heap.size w' v (withF l s)) ∧ Below w.heap.size w w'
def wS (b N cap : Nat) (s : List UInt8) (j : Nat) : List (Nat × Value) := [(0, .slice (some ⟨b, 0, none⟩) N cap), (1, strV s), (5, .int .i64 j)]
set_option maxRecDepth 100000 in
seal rn rnS Goes ans atEnd put0 putM opened putA0 putA oneSt st0 keep in
theorem with_tail {l : List (List UInt8)} {b N cap j : Nat} {r : List Value} {s : List UInt8} {w : World} (hb : w.heap[b]? = some (sO l r)) (hN : l.length = N) (hcap : N ≤ cap) (hl : N ≤ 1000000) (hj : wpos l s = j) (hne : l[j]? ≠ some s) (J : Nat → Value) : Goes Tryz.prog (bodyPost Tryz.prog Tryz.f43 (WQ l b N cap s w)) (fun w' => Ch (Mem.ids [(b, sO l r)]) w w' ∧ True) ⟨wK2, fr 51 (wS b N cap s j) J, [(b, sO l r)]⟩ := by
  have hHb : Holds [(b, sO l r)] w := fun j b o h => by match j, h with | 0, h => (cases h; exact hb)
  have hbl := lt_of_get hb
  have hjN : j ≤ N := by rw [← hj, ← hN]; exact wpos_le l s
  have hW : withF l s = l.take j ++ s :: l.drop j := by unfold withF; rw [hj, decide_eq_false hne]; rfl
  have hw1 : IntKind.i64.wrap ((N : Int) + 1) = ((N + 1 : Nat) : Int) := wrap_nat (by omega)
  refine Goes.open [] ?_
  refine Goes.run [0, 1, 2, 4, 5] [] trivial ?_
  refine Goes.slot 36 (.int .i64 ((N + 1 : Nat) : Int)) (u := .int .i64 (IntKind.i64.wrap ((N : Int) + 1))) (congrArg _ hw1) ?_
  refine Goes.valA 6 (Instr.sliceAt 47 (.slice (some ⟨b, 0, none⟩) N cap) none (some (.int .i64 j)) none) (.slice (some ⟨b, 0, none⟩) j cap) (fun w' _ => cutS b N cap j hjN hcap w') ?_
  refine Goes.lone1 3 (TookS.eff 3 (Instr.makeSlice 47 (.int .i64 0) (.int .i64 ((N + 1 : Nat) : Int))) fun w1 hm1 hn1 hI1 => ?_)
  obtain ⟨w2, g, hr, hS, hB, hg, hgl⟩ := makeS0 w1 (N + 1) (by omega)
  have hC1 : Ch (Mem.ids [(b, sO l r)]) w w1 := hI1.now.1
  have x1 : w1.heap[b]? = some (sO l r) := hm1.get 0
  refine ⟨_, w2, fun w' => Ch (Mem.ids [(b, sO l r)]) w w' ∧ Rws w.heap.size w' (.slice (some ⟨g, 0, none⟩) 0 (N + 1)) [], [(b, sO l r)], hr, fun i b' o h => by match i, h with | 0, h => (cases h; exact (hB.block b (lt_of_get x1)).trans x1), by simp [Mem.ids], ?_, ?_⟩
  · intro w3 hc
    refine ⟨(ch_low hC1 (hB.mono hC1.size)).trans hc (fun x hx => .inl hx), ⟨by simp, ?_⟩⟩
    rcases hS.2 with ⟨e, -⟩ | ⟨g', cp, cur, e, h2, h3, h4⟩
    · cases e
    · cases e
      refine .inr ⟨g, N + 1, cur, rfl, Nat.le_trans hC1.size h2, (hc.block g hgl (fun hx => ?_)).trans h3, h4⟩
      have := hC1.size
      simp only [Mem.ids, List.map_cons, List.map_nil, List.mem_singleton] at hx
      omega
  refine Goes.lone1 7 (TookS.eff 7 (Builtin.append_ #[47, 47] 47 #[.slice (some ⟨g, 0, none⟩) 0 (N + 1), .slice (some ⟨b, 0, none⟩) j cap]) fun w3 hm3 hn3 hI3 => ?_)
  have htl : (l.take j).length = j := by rw [List.length_take]; omega
  obtain ⟨hC3, hS3⟩ := hI3.now
  obtain ⟨rb, rc, w4, hrun, hown', hgr, hob⟩ := append_coreA (P := Tryz.prog) (t := 47) (ty := 47) (bytes := 16) (c := cap) (a := ⟨b, 0, none⟩) (m := j) (news := (l.take j).map strV) hS3 hC3.size (by simp; omega) (newsS (l := l) (r := r) (hm3.get 0) (fun i x hx => by rw [Nat.zero_add]; rw [List.getElem?_take] at hx; split at hx; exact hx; cases hx)) (ocS _) (.inl (by simp)) (by unfold maxLen; simp only [List.length_nil]; omega) (by simp only [List.length_nil]; omega) (by kernel_rfl)
  obtain ⟨h4, h5⟩ := append_stay hm3 hI3 (fun w' w'' h hB => ch_low h hB) hown' hgr hob
  refine ⟨_, w4, _, _, hrun, h4, hn3, h5, ?_⟩
  refine Goes.slot 41 (.slice (some ⟨rb, 0, none⟩) j rc) (u := .slice (some ⟨rb, 0, none⟩) (([] : List (List UInt8)).length + j) rc) (by simp) ?_
  refine Goes.inv (Inv' := fun w' => Ch (Mem.ids [(b, sO l r)]) w w' ∧ w'.ownsRow w.heap.size 9 1 (.slice (some ⟨rb, 0, none⟩) j rc) j ((l.take j).map strV)) (fun w' h => ⟨h.1, by simpa using h.2⟩) ?_
  refine Goes.run1 [8] [] trivial fun gb => ?_
  refine Goes.appendA (I0 := Ch (Mem.ids [(b, sO l r)]) w) w.heap.size 47 9 47 1 16 (.slice (some ⟨rb, 0, none⟩) j rc) j ((l.take j).map strV) ⟨gb, 0, none⟩ 1 1 ([s].map strV) (fun w' h => ⟨h.1, h.2, h.1.size⟩) (fun w' w'' h h' => ch_low h h') rfl (fun w' hm => newsS (l := [s]) (r := []) (hm.get 1) (fun j x hx => by rw [Nat.zero_add]; exact hx)) (ocS _) (.inr (by decide)) (by unfold maxLen; omega) (by omega) fun rb2 rc2 => ?_
  refine Goes.keep 1 ?_
  refine Goes.run [] [] trivial ?_
  refine Goes.val (Instr.sliceAt 47 (.slice (some ⟨b, 0, none⟩) N cap) (some (.int .i64 j)) none none) (.slice (if cap = j then some ⟨b, 0, none⟩ else some ⟨b, j, none⟩) (N - j) (cap - j)) (fun w' _ _ => restS b N cap j hjN hcap w') ?_
  obtain ⟨o, ho, hoj⟩ : ∃ o, (if cap = j then some ⟨b, 0, none⟩ else some ⟨b, j, none⟩ : Option Addr) = some ⟨b, o, none⟩ ∧ (o = j ∨ N - j = 0) := by
    by_cases h : cap = j
    · exact ⟨0, by rw [if_pos h], .inr (by omega)⟩
    · exact ⟨j, by rw [if_neg h], .inl rfl⟩
  refine Goes.slot 49 (.slice (some ⟨b, o, none⟩) (N - j) (cap - j)) (u := .slice (if cap = j then some ⟨b, 0, none⟩ else some ⟨b, j, none⟩) (N - j) (cap - j)) (by rw [ho]) ?_
  refine Goes.appendA (I0 := Ch (Mem.ids [(b, sO l r)]) w) w.heap.size 47 9 47 1 16 (.slice (some ⟨rb2, 0, none⟩) (j + 1) rc2) (j + 1) ((l.take j).map strV ++ [s].map strV) ⟨b, o, none⟩ (N - j) (cap - j) ((l.drop j).map strV) (fun w' h => ⟨h.1, h.2, h.1.size⟩) (fun w' w'' h h' => ch_low h h') (by simp; omega) (fun w' hm => newsS (l := l) (r := r) (hm.get 0) (fun i x hx => by
    rcases hoj with e | e
    · rw [e]; rw [List.getElem?_drop] at hx; exact hx
    · rw [List.drop_of_length_le (by omega)] at hx; simp at hx)) (ocS _) (.inl (by simp)) (by unfold maxLen; omega) (by omega) fun rb3 rc3 => ?_
  refine Goes.run [] [] trivial ?_
  refine Goes.ret [] (.slice (some ⟨rb3, 0, none⟩) (j + 1 + (N - j)) rc3) fun w' hm hI => ⟨_, rfl, .inr ?_, ?_⟩
  · have h := hI.now.2
    rw [hW]
    unfold Rws
    have e1 : (l.take j ++ s :: l.drop j).length = j + 1 + (N - j) := by simp; omega
    have e2 : (l.take j ++ s :: l.drop j).map strV = (l.take j).map strV ++ [s].map strV ++ (l.drop j).map strV := by simp
    rw [e1, e2]
    exact h
  · exact below_end (m := [(b, sO l r)]) hHb hI.now.1 hm (by kernel_rfl)
end Go.Proofs.YthnojedlndblbabGreatDoor
namespace Go.Proofs.YthnojedlndblbabGreatDoor
open Go Go.RowKit

set_option maxRecDepth 100000 in
seal rn rnS Goes ans atEnd put0 putM opened putA0 putA oneSt st0 keep in
theorem with_mid {l : List (List UInt8)} {b N cap j : Nat} {r : List Value} {s : List UInt8} {w : World} (hb : w.heap[b]? = some (sO l r)) (hN : l.length = N) (hcap : N ≤ cap) (hl : N ≤ 1000000) (hj : wpos l s = j) (J : Nat → Value) : Goes Tryz.prog (bodyPost Tryz.prog Tryz.f43 (WQ l b N cap s w)) (fun w' => Ch (Mem.ids [(b, sO l r)]) w w' ∧ True) ⟨wK1, fr 51 (wS b N cap s j) J, [(b, sO l r)]⟩ := by
  have hHb : Holds [(b, sO l r)] w := fun j b o h => by match j, h with | 0, h => (cases h; exact hb)
  have hjN : j ≤ N := by rw [← hj, ← hN]; exact wpos_le l s
  cases hlt : decide ((j : Int) < (N : Int)) with
  | false =>
    refine Goes.run [0, 0] [(false, false), (decide ((j : Int) < (N : Int)), false)] ⟨rfl, hlt, trivial⟩ ?_
    exact Goes.at (with_tail hb hN hcap hl hj (by rw [List.getElem?_eq_none (by have := of_decide_eq_false hlt; omega)]; simp))
  | true =>
    have hjl : j < N := by have := of_decide_eq_true hlt; omega
    obtain ⟨x, hx⟩ : ∃ x, l[j]? = some x := ⟨l[j]'(by omega), by simp⟩
    refine Goes.run [1] [(decide ((j : Int) < (N : Int)), true)] ⟨hlt, trivial⟩ ?_
    refine Goes.val (Instr.indexAt 47 (.slice (some ⟨b, 0, none⟩) N cap) (.int .i64 j)) (.pointer (some ⟨b, j, none⟩)) (fun w' _ _ => idxS b N cap j hjl w') ?_
    refine Goes.val (Instr.loadAt 9 (.pointer (some ⟨b, j, none⟩))) (strV x) (fun w' hm _ => loadS (r := r) (hm.get 0) hx) ?_
    refine Goes.upto 31 [] [] trivial ?_
    refine Goes.val (do eqGuard .eql 9 (.tmp 29) (.tmp 30) (strV x) (strV s); binOp .eql 9 (strV x) (strV s)) (.bool (decide (x = s))) (fun w' _ _ => eqT _ _ x s rfl w') ?_
    cases he : decide (x = s) with
    | true =>
      have he' := of_decide_eq_true he
      refine Goes.run [1] [(true, true)] ⟨rfl, trivial⟩ ?_
      exact Goes.ret [] (.slice (some ⟨b, 0, none⟩) N cap) fun w' hm hI => ⟨_, rfl, .inl ⟨rfl, by unfold withF; rw [hj, hx, he', decide_eq_true rfl]; rfl⟩, below_end (m := [(b, sO l r)]) hHb hI.now.1 hm (by kernel_rfl)⟩
    | false =>
      have he' := of_decide_eq_false he
      refine Goes.run [0] [(false, false)] ⟨rfl, trivial⟩ ?_
      exact Goes.at (with_tail hb hN hcap hl hj (by rw [hx]; simpa using he'))
set_option maxRecDepth 100000 in
seal rn rnS Goes ans atEnd put0 putM opened putA0 putA oneSt st0 keep in
theorem with_some {l : List (List UInt8)} {b N cap : Nat} {r : List Value} {s : List UInt8} {w : World} (hb : w.heap[b]? = some (sO l r)) (hN : l.length = N) (hcap : N ≤ cap) (hl : N ≤ 1000000) : Calls Tryz.prog 43 #[.slice (some ⟨b, 0, none⟩) N cap, strV s] w (WQ l b N cap s w) := by
  have hHb : Holds [(b, sO l r)] w := fun j b o h => by match j, h with | 0, h => (cases h; exact hb)
  refine Goes.begin Tryz.func43 [(b, sO l r)] (fun _ => True) hHb (by simp [Mem.ids]) (fun _ _ => trivial) ?_
  refine Goes.run [] [] trivial ?_
  refine Goes.loop0 (α := Nat) 51 (wS b N cap s) [(b, sO l r)] (fun j => j ≤ N ∧ wpos l s = j + wpos (l.drop j) s) (fun j => N - j) 0 ⟨Nat.zero_le _, by simp⟩ ?_
  rintro j J ⟨hj, hjw⟩ back
  cases hlt : decide ((j : Int) < (N : Int)) with
  | false =>
    refine Goes.upto 21 [0, 0, 0] [(false, false), (decide ((j : Int) < (N : Int)), false)] ⟨rfl, hlt, trivial⟩ ?_
    exact Goes.at (with_mid hb hN hcap hl (by rw [hjw, List.drop_of_length_le (by have := of_decide_eq_false hlt; omega)]))
  | true =>
    have hjl : j < N := by have := of_decide_eq_true hlt; omega
    obtain ⟨x, hx⟩ : ∃ x, l[j]? = some x := ⟨l[j]'(by omega), by simp⟩
    obtain ⟨h1, h2⟩ := wpos_at hx hjw
    refine Goes.run [0, 1] [(decide ((j : Int) < (N : Int)), true)] ⟨hlt, trivial⟩ ?_
    refine Goes.val (Instr.indexAt 47 (.slice (some ⟨b, 0, none⟩) N cap) (.int .i64 j)) (.pointer (some ⟨b, j, none⟩)) (fun w' _ _ => idxS b N cap j hjl w') ?_
    refine Goes.val (Instr.loadAt 9 (.pointer (some ⟨b, j, none⟩))) (strV x) (fun w' hm _ => loadS (r := r) (hm.get 0) hx) ?_
    refine Goes.upto 17 [] [] trivial ?_
    refine Goes.val (binOp .lss 9 (strV x) (strV s)) (.bool (decide (x < s))) (fun w' _ _ => lssT x s w') ?_
    cases he : decide (x < s) with
    | false =>
      refine Goes.upto 21 [0] [(false, false)] ⟨rfl, trivial⟩ ?_
      exact Goes.at (with_mid hb hN hcap hl (h2 (of_decide_eq_false he)))
    | true =>
      refine Goes.run [1] [(true, true)] ⟨rfl, trivial⟩ ?_
      refine Goes.slot 5 (.int .i64 (j + 1 : Nat)) (u := .int .i64 (IntKind.i64.wrap ((j : Int) + 1))) (congrArg _ (wrap_nat (by omega))) ?_
      exact back (j + 1) _ ⟨hjl, h1 (of_decide_eq_true he)⟩ (by omega) (by kernel_rfl) (by kernel_rfl) (by kernel_rfl)
theorem with_any {base : Nat} {l : List (List UInt8)} {v : Value} {w : World} (h : Rws base w v l) (hb : base ≤ w.heap.size) (hl : l.length ≤ 1000000) (s : List UInt8) : Calls Tryz.prog 43 #[v, strV s] w fun e w' => ∃ v', e = .returned v' ∧ Rws base w' v' (withF l s) ∧ Below w.heap.size w w' := by
  rcases h.form with ⟨rfl, rfl⟩ | ⟨b, cap, r, rfl, h1, h2, h3, h4⟩
  · refine (with_nil s w).mono fun e w' ⟨v, he, hR, hB⟩ => ⟨v, he, ?_, hB⟩
    have : withF [] s = [s] := by simp [withF, wpos]
    rw [this]
    exact hR.more hb
  · refine (with_some h2 rfl h3 hl).mono fun e w' ⟨v, he, hR, hB⟩ => ⟨v, he, ?_, hB⟩
    rcases hR with ⟨rfl, e⟩ | hR
    · rw [e]; exact h.below hB (Nat.le_refl _)
    · exact hR.more hb
theorem withF_len (l : List (List UInt8)) (s : List UInt8) : (withF l s).length ≤ l.length + 1 := by
  unfold withF
  have := wpos_le l s
  cases decide (l[wpos l s]? = some s) with
  | true => simp
  | false => simp only [cond_false, List.length_append, List.length_take, List.length_cons, List.length_drop]; omega
mutual
/-- Those of a term, put in. -/
def fdF (l : List (List UInt8)) : Co → List (List UInt8)
  | .mk op _ t kids => fdK (bif op == 4 then withF l t else l) kids
def fdK (l : List (List UInt8)) : List Co → List (List UInt8)
  | [] => l
  | c :: r => fdK (fdF l c) r
end
mutual
theorem fdF_len : ∀ (c : Co) (l : List (List UInt8)), ((fdF l c).length : Int) ≤ l.length + szC c
  | .mk op k t kids, l => by
    rw [fdF, szC]
    have h1 := fdK_len kids (bif op == 4 then withF l t else l)
    have h2 := withF_len l t
    cases h : (op == 4) with
    | true => rw [h] at h1; simp only [cond_true] at h1 ⊢; omega
    | false => rw [h] at h1; simp only [cond_false] at h1 ⊢; omega
theorem fdK_len : ∀ (r : List Co) (l : List (List UInt8)), ((fdK l r).length : Int) ≤ l.length + szL r
  | [], l => by rw [fdK, szL]; omega
  | c :: r, l => by
    rw [fdK, szL]
    have h1 := fdF_len c l
    have h2 := fdK_len r (fdF l c)
    omega
end
theorem Rws.stay {base : Nat} {w w0 : World} {v : Value} {l : List (List UInt8)} {L : List Nat} (h : Rws base w v l) (hB : Below w0.heap.size w0 w) (hL : ∀ x ∈ L, w0.heap.size ≤ x) (ha : ∀ b, v.ownBlock = some b → b ∉ L) : Stay L w (fun w' => Below w0.heap.size w0 w' ∧ Rws base w' v l) := by
  intro w2 hc
  refine ⟨⟨hc.os.trans hB.os, hc.tape.trans hB.tape, hc.output.trans hB.output, Nat.le_trans hB.size hc.size, fun i hi => (hc.block i (Nat.lt_of_lt_of_le hi hB.size) (fun hm => by have := hL i hm; omega)).trans (hB.block i hi)⟩, h.1, ?_⟩
  rcases h.2 with h | ⟨b, cap, cur, h1, h0, hcur, h2⟩
  · exact .inl h
  · exact .inr ⟨b, cap, cur, h1, h0, (hc.block b (lt_of_get hcur) (ha b (by rw [h1]; rfl))).trans hcur, h2⟩
theorem Rws.apart {base g : Nat} {w : World} {v : Value} {l : List (List UInt8)} {op k : Int} {t : List UInt8} {x : Value} (h : Rws base w v l) (hg : w.heap[g]? = some (cO op k t x)) : ∀ b, v.ownBlock = some b → b ∉ [g] := by
  intro b hb hx
  rw [List.mem_singleton] at hx
  subst hx
  rcases h.2 with ⟨h1, -⟩ | ⟨b', cap, cur, h1, h0, hcur, h2⟩
  · rw [h1] at hb; cases hb
  · rw [h1] at hb
    cases hb
    rw [hcur] at hg
    simp [cO] at hg
noncomputable def fK : List TI := (rnS Tryz.prog 5 [0, 0] [0] (st0 Tryz.f25 #[.slice none 0 0, cv 0 0 [] (.slice none 0 0)] [])).st.todo
set_option maxRecDepth 100000 in
seal rn rnN rnS Goes ans atEnd put0 putM opened putA0 putA oneSt st0 orT orG keep in
theorem feeds_any (c : Co) : ∀ (base : Nat) (l : List (List UInt8)) (v u : Value) (w : World), Rws base w v l → base ≤ w.heap.size → (l.length : Int) + szC c ≤ 1000000 → Nc w.heap.size w u c → Calls Tryz.prog 25 #[v, u] w fun e w' => ∃ v', e = .returned v' ∧ Rws base w' v' (fdF l c) ∧ Below w.heap.size w w' := by
  induction c using Co.ind with
  | h op k t kids ih =>
    intro base l v u w hR hbase hsz hN
    obtain ⟨a, cc, rfl, hfit, hcap, hkids⟩ := hN.open
    obtain ⟨N, hL⟩ : ∃ N, kids.length = N := ⟨_, rfl⟩
    rw [hL] at hcap ⊢
    rw [szC] at hsz
    rw [fdF]
    have hposL := szL_pos kids
    have loop : ∀ (g : Nat) (l1 : List (List UInt8)) (v1 : Value), w.heap.size ≤ g → (l1.length : Int) + szL kids ≤ 1000000 → ∀ J, Goes Tryz.prog (bodyPost Tryz.prog Tryz.f25 fun e w' => ∃ v', e = .returned v' ∧ Rws base w' v' (fdK l1 kids) ∧ Below w.heap.size w w') (fun w' => Below w.heap.size w w' ∧ Rws base w' v1 l1) ⟨fK, fr 28 [(0, v1), (3, .pointer (some ⟨g, 0, none⟩))] J, [(g, cO op k t (.slice a N cc))]⟩ := by
      intro g l1 v1 hg hsz1 J0
      refine Goes.run [] [] trivial ?_
      refine Goes.loop (α := Nat × List (List UInt8) × Value) 28 (fun q => [(0, q.2.2), (3, .pointer (some ⟨g, 0, none⟩)), (5, .int .i64 q.1)]) (fun _ => [(g, cO op k t (.slice a N cc))]) (fun q w' => Below w.heap.size w w' ∧ Rws base w' q.2.2 q.2.1) (fun q => q.1 ≤ N ∧ fdK l1 kids = fdK q.2.1 (kids.drop q.1) ∧ (q.2.1.length : Int) + szL (kids.drop q.1) ≤ 1000000) (fun q => N - q.1) (0, l1, v1) ⟨Nat.zero_le _, rfl, hsz1⟩ (fun w' h => h) ?_
      rintro ⟨i, l2, v2⟩ J ⟨hi, hrest, hs2⟩ back
      simp only at hi hrest hs2 back ⊢
      cases hlt : decide ((i : Int) < (N : Int)) with
      | false =>
        obtain rfl : i = N := by have := of_decide_eq_false hlt; omega
        refine Goes.run [0, 0, 0] [(decide ((i : Int) < (i : Int)), false)] ⟨hlt, trivial⟩ ?_
        exact Goes.ret [] v2 fun w' hm hI => ⟨_, rfl, by rw [hrest, List.drop_of_length_le (by omega), fdK]; exact hI.now.2, hI.now.1⟩
      | true =>
        have hil : i < N := by have := of_decide_eq_true hlt; omega
        obtain ⟨x, hu⟩ : ∃ x, kids[i]? = some x := ⟨kids[i]'(by omega), by simp⟩
        obtain ⟨b, o, y, rfl, hb, hcl, hy⟩ := hkids i x hu
        obtain ⟨op', k', t', a', N', c', rfl⟩ := hy.cells
        have hdrop := drop_at hu
        have e1 : szL (kids.drop i) = szC x + szL (kids.drop (i + 1)) := by rw [hdrop, szL]
        have p1 := szC_pos x
        have p2 := szL_pos (kids.drop (i + 1))
        have hlen := fdF_len x l2
        refine Goes.run [0, 0, 1, 0] [(decide ((i : Int) < (N : Int)), true)] ⟨hlt, trivial⟩ ?_
        refine Goes.val (Instr.indexAt 22 (.slice (some ⟨b, o, none⟩) N cc) (.int .i64 i)) (.pointer (some ⟨b, o + i * 4, none⟩)) (fun w' _ _ => idxC b o N cc i hil w') ?_
        refine Goes.val (Instr.loadAt 24 (.pointer (some ⟨b, o + i * 4, none⟩))) (cv op' k' t' (.slice a' N' c')) (fun w' _ hI => loadC (hcl.below hb hI.now.1)) ?_
        refine Goes.call 25 #[v2, cv op' k' t' (.slice a' N' c')] fun w1 hm1 hn1 hI1 => (ih x (List.mem_of_getElem? hu) base l2 v2 _ w1 hI1.now.2 (Nat.le_trans hbase hI1.now.1.size) (by omega) (hy.at hI1.now.1)).mono fun e w2 ⟨v', he, hR', hB⟩ => ?_
        have x1 : w1.heap[g]? = some (cO op k t (.slice (some ⟨b, o, none⟩) N cc)) := hm1.get 0
        have x2 := (hB.block g (lt_of_get x1)).trans x1
        refine ⟨v', fun w' => Below w.heap.size w w' ∧ Rws base w' v' (fdF l2 x), [(g, cO op k t (.slice (some ⟨b, o, none⟩) N cc))], he, fun i b' o h => by match i, h with | 0, h => (cases h; exact x2), by simp [Mem.ids], hR'.stay (hI1.now.1.trans (hB.mono hI1.now.1.size)) (by simp [Mem.ids]; exact hg) (hR'.apart x2), ?_⟩
        refine Goes.run [] [] trivial ?_
        refine Goes.slot 5 (.int .i64 (i + 1 : Nat)) (u := .int .i64 (IntKind.i64.wrap ((i : Int) + 1))) (congrArg _ (wrap_nat (by omega))) ?_
        exact back (i + 1, fdF l2 x, v') _ ⟨hil, by rw [hrest, hdrop, fdK], by simp only; omega⟩ (by simp only; omega) (by kernel_rfl) (by kernel_rfl) (by kernel_rfl)
    refine Goes.begin Tryz.func25 [] (fun w' => Rws base w' v l) Holds.nil (by simp [Mem.ids]) (fun w' hc => hR.below (hc.toB (fun x hx => by cases hx)) (Nat.le_refl _)) ?_
    cases h4 : (op == 4) with
    | false =>
      refine Goes.upto1 5 [0, 0] [(op == 4, false)] ⟨h4, trivial⟩ fun g => ?_
      refine Goes.knowQ (Q := w.heap.size ≤ g) (fun w' _ _ hI => fresh_of hI (g := g) (ids_get (j := 0) (o := cO op k t (.slice a N cc)) (by kernel_rfl)) (by simp [Mem.ids])) fun hg => ?_
      exact (Goes.at (loop g l v hg (by omega))).inv fun w' h => ⟨h.1.toB (fun x hx => by cases hx), h.2⟩
    | true =>
      have hwl := withF_len l t
      refine Goes.run1 [0, 1, 0] [(op == 4, true)] ⟨h4, trivial⟩ fun g => ?_
      refine Goes.call 43 #[v, strV t] fun w1 hm1 hn1 hI1 => (with_any hI1.now.2 (Nat.le_trans hbase hI1.now.1.size) (by omega) t).mono fun e w2 ⟨v', he, hR', hB⟩ => ?_
      have hg : w.heap.size ≤ g := fresh_of hI1 (g := g) (ids_get (j := 0) (o := cO op k t (.slice a N cc)) (by kernel_rfl)) (by simp [Mem.ids])
      have x1 : w1.heap[g]? = some (cO op k t (.slice a N cc)) := hm1.get 0
      have x2 := (hB.block g (lt_of_get x1)).trans x1
      have hB1 : Below w.heap.size w w1 := hI1.now.1.toB (fun x hx => by cases hx)
      refine ⟨v', fun w' => Below w.heap.size w w' ∧ Rws base w' v' (withF l t), [(g, cO op k t (.slice a N cc))], he, fun i b' o h => by match i, h with | 0, h => (cases h; exact x2), by simp [Mem.ids], hR'.stay (hB1.trans (hB.mono hB1.size)) (by simp [Mem.ids]; exact hg) (hR'.apart x2), ?_⟩
      refine Goes.upto 5 [] [] trivial ?_
      exact Goes.at (loop g (withF l t) v' hg (by omega))
end Go.Proofs.YthnojedlndblbabGreatDoor
namespace Go.Proofs.YthnojedlndblbabGreatDoor
open Go Go.RowKit

set_option maxRecDepth 100000 in
seal rn rnN rnS Goes ans atEnd put0 putM opened putA0 putA oneSt st0 orT orG in
theorem rtype_any {c : Co} {v : Value} {w : World} (hN : Nc w.heap.size w v c) : Calls Tryz.prog 20 #[v] w fun e w' => e = .returned (.tuple #[.int .i64 (typP c).1, .bool (typP c).2]) ∧ Below w.heap.size w w' := by
  obtain ⟨op, k, t, a, N, cc, rfl⟩ := hN.cells
  rw [← rty_eq]
  refine Goes.begin Tryz.func20 [] (fun _ => True) Holds.nil (by simp [Mem.ids]) (fun _ _ => trivial) ?_
  refine Goes.run1 [0] [] trivial fun g => ?_
  refine Goes.call0 38 #[cv op k t (.slice a N cc)] (.bool (smaP c)) (fun w' _ hI => smallC_any (hN.at (bel0 hI))) ?_
  cases hs : smaP c with
  | false =>
    refine Goes.run [1] [(true, true)] ⟨rfl, trivial⟩ ?_
    exact Goes.ret [] (.tuple #[.int .i64 0, .bool false]) fun w' hm hI => ⟨by unfold rtyP; rw [hs] <;> rfl, bel0 hI⟩
  | true =>
    refine Goes.run [0, 0] [(false, false)] ⟨rfl, trivial⟩ ?_
    refine Goes.call0 39 #[cv op k t (.slice a N cc), .int .i64 1] (.tuple #[.int .i64 (typF 1 c).1, .bool (typF 1 c).2]) (fun w' _ hI => typed_any c _ w' 1 (by omega) (by omega) (hN.at (bel0 hI))) ?_
    cases ht : (typF 1 c).2 with
    | false =>
      refine Goes.run [1] [(true, true)] ⟨rfl, trivial⟩ ?_
      exact Goes.ret [] (.tuple #[.int .i64 0, .bool false]) fun w' hm hI => ⟨by unfold rtyP; rw [hs, ht] <;> rfl, bel0 hI⟩
    | true =>
      refine Goes.run [0] [(false, false)] ⟨rfl, trivial⟩ ?_
      exact Goes.ret [] (.tuple #[.int .i64 (typF 1 c).1, .bool true]) fun w' hm hI => ⟨by unfold rtyP; rw [hs, ht] <;> rfl, bel0 hI⟩
theorem hz_pos : ∀ c : Co, 0 ≤ hzC c
  | .mk op k t kids => by rw [hzC]; have := hzL_pos kids; omega
set_option maxRecDepth 100000 in
seal rn rnN rnS Goes ans atEnd put0 putM opened putA0 putA oneSt st0 orT orG in
theorem rhorizon_any {c : Co} {v : Value} {w : World} (hN : Nc w.heap.size w v c) : Calls Tryz.prog 12 #[v] w fun e w' => e = .returned (.int .i64 (askP hzF 0 c)) ∧ Below w.heap.size w w' := by
  obtain ⟨op, k, t, a, N, cc, rfl⟩ := hN.cells
  refine Goes.begin Tryz.func12 [] (fun _ => True) Holds.nil (by simp [Mem.ids]) (fun _ _ => trivial) ?_
  refine Goes.run1 [0] [] trivial fun g => ?_
  refine Goes.call0 20 #[cv op k t (.slice a N cc)] (.tuple #[.int .i64 (typP c).1, .bool (typP c).2]) (fun w' _ hI => rtype_any (hN.at (bel0 hI))) ?_
  cases hb : (typP c).2 with
  | false =>
    refine Goes.run [1] [(true, true)] ⟨rfl, trivial⟩ ?_
    exact Goes.ret [] (.int .i64 0) fun w' hm hI => ⟨by unfold askP; rw [hb]; rfl, bel0 hI⟩
  | true =>
    refine Goes.run [0, 0] [(false, false)] ⟨rfl, trivial⟩ ?_
    refine Goes.call0 21 #[cv op k t (.slice a N cc)] (.int .i64 (hrF c)) (fun w' _ hI => hor_any c _ w' (hN.at (bel0 hI))) ?_
    refine Goes.run [] [] trivial ?_
    exact Goes.ret [] (.int .i64 (hrF c)) fun w' hm hI => ⟨by rw [hz_eq hb, hr_all c 1 (typ_right hb).1]; have := hz_pos c; congr 2; omega, bel0 hI⟩
set_option maxRecDepth 100000 in
seal rn rnN rnS Goes ans atEnd put0 putM opened putA0 putA oneSt st0 orT orG in
theorem rfeeds_any {c : Co} {v : Value} {w : World} (hN : Nc w.heap.size w v c) : Calls Tryz.prog 14 #[v] w fun e w' => ∃ v', e = .returned v' ∧ Rws w.heap.size w' v' (bif (typP c).2 then fdF [] c else []) ∧ Below w.heap.size w w' := by
  obtain ⟨op, k, t, a, N, cc, rfl⟩ := hN.cells
  refine Goes.begin Tryz.func14 [] (fun _ => True) Holds.nil (by simp [Mem.ids]) (fun _ _ => trivial) ?_
  refine Goes.run1 [0] [] trivial fun g => ?_
  refine Goes.call0 20 #[cv op k t (.slice a N cc)] (.tuple #[.int .i64 (typP c).1, .bool (typP c).2]) (fun w' _ hI => rtype_any (hN.at (bel0 hI))) ?_
  cases hb : (typP c).2 with
  | false =>
    refine Goes.run [1] [(true, true)] ⟨rfl, trivial⟩ ?_
    exact Goes.ret [] (.slice none 0 0) fun w' hm hI => ⟨_, rfl, Rws.nil, bel0 hI⟩
  | true =>
    have hsz := (typ_right hb).2
    refine Goes.run [0, 0] [(false, false)] ⟨rfl, trivial⟩ ?_
    refine Goes.call 25 #[.slice none 0 0, cv op k t (.slice a N cc)] fun w1 hm1 hn1 hI1 => (feeds_any c w.heap.size [] (.slice none 0 0) _ w1 Rws.nil hI1.now.1.size (by simp; omega) (hN.at (bel0 hI1))).mono fun e w2 ⟨v', he, hR, hB⟩ => ?_
    have hB1 : Below w.heap.size w w1 := bel0 hI1
    refine ⟨v', fun w' => Below w.heap.size w w' ∧ Rws w.heap.size w' v' (fdF [] c), [], he, Holds.nil, by simp [Mem.ids], hR.stay (hB1.trans (hB.mono hB1.size)) (by simp [Mem.ids]) (by simp [Mem.ids]), ?_⟩
    refine Goes.run [] [] trivial ?_
    exact Goes.ret [] v' fun w' hm hI => ⟨_, rfl, hI.now.2, hI.now.1⟩
end Go.Proofs.YthnojedlndblbabGreatDoor
namespace Go.Proofs.YthnojedlndblbabGreatDoor
open Go Go.RowKit

mutual
/-- The feeds of a term, as they stand. -/
def fds : Co → List (List UInt8)
  | .mk op _ t kids => (bif op == 4 then [t] else []) ++ fdsL kids
def fdsL : List Co → List (List UInt8)
  | [] => []
  | c :: r => fds c ++ fdsL r
end
mutual
theorem fd_fold : ∀ (c : Co) (l : List (List UInt8)), fdF l c = (fds c).foldl withF l
  | .mk op k t kids, l => by
    rw [fdF, fds, List.foldl_append, fd_foldK kids]
    cases op == 4 <;> rfl
theorem fd_foldK : ∀ (r : List Co) (l : List (List UInt8)), fdK l r = (fdsL r).foldl withF l
  | [], l => by rw [fdK, fdsL]; rfl
  | c :: r, l => by rw [fdK, fdsL, List.foldl_append, fd_fold c, fd_foldK r]
end
abbrev Ris (l : List (List UInt8)) : Prop := l.Pairwise (· < ·)
theorem wpos_split : ∀ {l : List (List UInt8)} {s : List UInt8}, Ris l → (∀ x ∈ l.take (wpos l s), x < s) ∧ (∀ x ∈ l.drop (wpos l s), ¬ x < s)
  | [], s, _ => by simp
  | y :: r, s, h => by
    rw [Ris, List.pairwise_cons] at h
    unfold wpos
    by_cases hy : y < s
    · have ih := wpos_split (s := s) h.2
      unfold wpos at ih
      rw [List.takeWhile_cons, if_pos (by simpa using hy)]
      simp only [List.length_cons, List.take_succ_cons, List.drop_succ_cons, List.mem_cons]
      exact ⟨fun x hx => by rcases hx with e | e; rw [e]; exact hy; exact ih.1 x e, ih.2⟩
    · rw [List.takeWhile_cons, if_neg (by simpa using hy)]
      simp only [List.length_nil, List.take_zero, List.drop_zero, List.not_mem_nil, false_imp_iff, implies_true, List.mem_cons, true_and]
      intro x hx
      rcases hx with e | e
      · rw [e]; exact hy
      · exact fun hxs => hy (List.lt_trans (h.1 x e) hxs)
theorem with_ris {l : List (List UInt8)} {s : List UInt8} (h : Ris l) : Ris (withF l s) ∧ ∀ x, x ∈ withF l s ↔ x = s ∨ x ∈ l := by
  obtain ⟨h1, h2⟩ := wpos_split (s := s) h
  have hmem : ∀ x, x ∈ l ↔ x ∈ l.take (wpos l s) ∨ x ∈ l.drop (wpos l s) := fun x => by rw [← List.mem_append, List.take_append_drop]
  unfold withF
  by_cases he : l[wpos l s]? = some s
  · rw [decide_eq_true he, cond_true]
    have hs : s ∈ l := List.mem_of_getElem? he
    exact ⟨h, fun x => ⟨fun hx => .inr hx, fun hx => by rcases hx with e | e; rw [e]; exact hs; exact e⟩⟩
  · rw [decide_eq_false he, cond_false]
    have hsplit : Ris (l.take (wpos l s) ++ l.drop (wpos l s)) := by rw [List.take_append_drop]; exact h
    rw [Ris, List.pairwise_append] at hsplit
    have hgt : ∀ x ∈ l.drop (wpos l s), s < x := by
      intro x hx
      have hn := h2 x hx
      by_cases hxs : s < x
      · exact hxs
      · have hxe : x = s := by
          have a1 : x ≤ s := List.not_lt.1 hxs
          have a2 : s ≤ x := List.not_lt.1 hn
          exact List.le_antisymm a1 a2
        subst hxe
        exfalso
        cases hd : l.drop (wpos l x) with
        | nil => rw [hd] at hx; simp at hx
        | cons y r =>
          have hy : l[wpos l x]? = some y := by
            have : (l.drop (wpos l x))[0]? = some y := by rw [hd]; rfl
            rw [List.getElem?_drop, Nat.add_zero] at this
            exact this
          have hyn := h2 y (by rw [hd]; simp)
          rw [hd] at hx
          rcases List.mem_cons.1 hx with e | e
          · subst e; exact he hy
          · have := hsplit.2.1
            rw [hd, List.pairwise_cons] at this
            exact hyn (this.1 x e)
    refine ⟨?_, fun x => ?_⟩
    · rw [Ris, List.pairwise_append, List.pairwise_cons]
      refine ⟨hsplit.1, ⟨hgt, hsplit.2.1⟩, fun a ha b hb => ?_⟩
      rcases List.mem_cons.1 hb with e | e
      · rw [e]; exact h1 a ha
      · exact hsplit.2.2 a ha b e
    · rw [List.mem_append, List.mem_cons, hmem]
      constructor
      · rintro (h | h | h)
        · exact .inr (.inl h)
        · exact .inl h
        · exact .inr (.inr h)
      · rintro (h | h | h)
        · exact .inr (.inl h)
        · exact .inl h
        · exact .inr (.inr h)
theorem fold_ris : ∀ (zs l : List (List UInt8)), Ris l → Ris (zs.foldl withF l) ∧ ∀ x, x ∈ zs.foldl withF l ↔ x ∈ l ∨ x ∈ zs
  | [], l, h => ⟨h, fun x => by simp⟩
  | z :: r, l, h => by
    obtain ⟨h1, h2⟩ := with_ris (s := z) h
    obtain ⟨h3, h4⟩ := fold_ris r (withF l z) h1
    refine ⟨h3, fun x => ?_⟩
    rw [List.foldl_cons, h4, h2, List.mem_cons]
    constructor
    · rintro ((h | h) | h)
      · exact .inr (.inl h)
      · exact .inl h
      · exact .inr (.inr h)
    · rintro (h | h | h)
      · exact .inl (.inr h)
      · exact .inl (.inl h)
      · exact .inr h
end Go.Proofs.YthnojedlndblbabGreatDoor
namespace Go.Proofs.YthnojedlndblbabGreatDoor
open Go Go.RowKit

mutual
/-- Does it look back? -/
def lbC : Co → Bool
  | .mk op k _ kids => (op == 4 && decide (k > 0)) || lbL kids
def lbL : List Co → Bool
  | [] => false
  | c :: r => lbC c || lbL r
end
/-- Feeds by these names, each told on the first day. -/
def fsF (i : Nat) : List (List UInt8) → Fs
  | [] => []
  | nm :: r => (nm, [(0, (i : Int) * 500000)]) :: fsF (i + 1) r
theorem fsF_len : ∀ (i : Nat) (l : List (List UInt8)), (fsF i l).length = l.length
  | _, [] => rfl
  | i, _ :: r => by rw [fsF, List.length_cons, List.length_cons, fsF_len (i + 1) r]
theorem fsF_snoc : ∀ (i : Nat) (l : List (List UInt8)) (nm : List UInt8), fsF i (l ++ [nm]) = fsF i l ++ [(nm, [(0, ((i + l.length : Nat) : Int) * 500000)])]
  | i, [], nm => by simp [fsF]
  | i, x :: r, nm => by
    rw [List.cons_append, fsF, fsF_snoc (i + 1) r nm, fsF, List.cons_append, List.length_cons, show i + 1 + r.length = i + (r.length + 1) by omega]
theorem fsF_ok : ∀ {l : List (List UInt8)} {i : Nat} {last : List UInt8}, (∀ x ∈ l, namP x = true) → (last :: l).Pairwise (· < ·) → i + l.length ≤ 64 → fdOk last (fsF i l) = true
  | [], _, _, _, _, _ => rfl
  | nm :: r, i, last, hn, hp, hl => by
    rw [List.pairwise_cons] at hp
    rw [List.length_cons] at hl
    have h1 := hp.1 nm (by simp)
    rw [fsF, fdOk, fsF_ok (fun x hx => hn x (by simp [hx])) hp.2 (by omega), hn nm (by simp), decide_eq_true h1]
    have : stmP [(0, (i : Int) * 500000)] = true := by
      unfold stmP
      rw [stOk, stOk]
      simp [dayP, numP]
      omega
    rw [this]
    rfl
theorem fed_all : ∀ {l : List (List UInt8)} {t : List UInt8} {i : Nat} {d : Int}, t ∈ l → 0 ≤ d → (fedP t d (fsF i l)).isSome = true
  | [], _, _, _, h, _ => by simp at h
  | nm :: r, t, i, d, h, hd => by
    rw [fsF, fedP]
    by_cases e : nm = t
    · subst e
      simp only [ne_eq, not_true_eq_false, decide_false, cond_false]
      unfold stpP
      simp [hd]
    · have e2 : decide (nm ≠ t) = true := by simpa using e
      have hm : t ∈ r := by
        rcases List.mem_cons.1 h with rfl | h
        · exact absurd rfl e
        · exact h
      simp only [e2, cond_true]
      exact fed_all hm hd
mutual
theorem fds_nam : ∀ (c : Co) (d : Int), (typF d c).2 = true → ∀ x ∈ fds c, namP x = true
  | .mk op k t kids, d, h, x, hx => by
    obtain ⟨ho, -, hk⟩ := typ_kids h
    rw [fds] at hx
    rcases List.mem_append.1 hx with hx | hx
    · cases h4 : (op == 4) with
      | false => rw [h4] at hx; simp at hx
      | true =>
        rw [h4] at hx
        simp only [cond_true, List.mem_singleton] at hx
        subst hx
        have := eq_of_beq h4
        subst this
        unfold ownC at ho
        simp only [Bool.and_eq_true] at ho
        exact ho.2
    · exact fds_namL kids (d + 1) hk x hx
theorem fds_namL : ∀ (l : List Co) (d : Int), (∀ c ∈ l, (typF d c).2 = true) → ∀ x ∈ fdsL l, namP x = true
  | [], _, _, x, hx => by rw [fdsL] at hx; simp at hx
  | c :: r, d, h, x, hx => by
    rw [fdsL] at hx
    rcases List.mem_append.1 hx with hx | hx
    · exact fds_nam c d (h c (by simp)) x hx
    · exact fds_namL r d (fun y hy => h y (by simp [hy])) x hx
end
mutual
/-- Its feeds are known. -/
theorem kn_all : ∀ (c : Co) {l : List (List UInt8)} {last : Int}, 0 ≤ last → last ≤ 73048 → allN noAh c = true → lbC c = false → (∀ x ∈ fds c, x ∈ l) → allN (knP (fsF 0 l) last) c = true
  | .mk op k t kids, l, last, h0, h1, hn, hb, hm => by
    have hs := allN_self hn
    rw [allN, Bool.and_eq_true] at hn
    rw [lbC, Bool.or_eq_false_iff] at hb
    rw [fds] at hm
    rw [allN, kn_allL kids h0 h1 hn.2 hb.2 (fun x hx => hm x (by simp [hx])), Bool.and_true, knP]
    cases h4 : (op == 4) with
    | false => rfl
    | true =>
      rw [noAh, h4] at hs
      rw [h4] at hb
      simp only [cond_true, Bool.and_eq_true, decide_eq_true_eq, Bool.true_and, decide_eq_false_iff_not] at hs hb
      have hk : k = 0 := by omega
      subst hk
      rw [cond_true, IntWalk.i64_in _ ⟨by omega, by omega⟩]
      exact fed_all (hm t (by simp [h4])) (by omega)
theorem kn_allL : ∀ (r : List Co) {l : List (List UInt8)} {last : Int}, 0 ≤ last → last ≤ 73048 → allK noAh r = true → lbL r = false → (∀ x ∈ fdsL r, x ∈ l) → allK (knP (fsF 0 l) last) r = true
  | [], _, _, _, _, _, _, _ => rfl
  | c :: r, l, last, h0, h1, hn, hb, hm => by
    rw [allK, Bool.and_eq_true] at hn
    rw [lbL, Bool.or_eq_false_iff] at hb
    rw [fdsL] at hm
    rw [allK, kn_all c h0 h1 hn.1 hb.1 (fun x hx => hm x (by simp [hx])), kn_allL r h0 h1 hn.2 hb.2 (fun x hx => hm x (by simp [hx]))]
    rfl
end
theorem kid_ob {d op k : Int} {t : List UInt8} {kids : List Co} (h : (typF d (.mk op k t kids)).2 = true) (ho : (op == 26 || op == 28) = true) : ∃ c0 r, kids = c0 :: r ∧ obP c0 = true := by
  have hz := w_con h (by unfold isW; simp only [Bool.or_eq_true, beq_iff_eq] at ho ⊢; omega)
  simp only [Bool.or_eq_true, beq_iff_eq] at ho
  rcases con_cases hz with ⟨rfl, -⟩ | ⟨rfl, -⟩ | ⟨rfl, -⟩ | ⟨rfl, c0, c1, rfl, ht0, ht1⟩ | ⟨rfl, -⟩ | ⟨rfl, c0, c1, c2, rfl, ht0, ht1, ht2⟩ | ⟨rfl, -⟩ | ⟨rfl, -⟩ | ⟨rfl, -⟩
  · omega
  · omega
  · omega
  · exact ⟨c0, [c1], rfl, ob_right c0 _ _ ht0 (by decide)⟩
  · omega
  · exact ⟨c0, [c1, c2], rfl, ob_right c0 _ _ ht0 (by decide)⟩
  · omega
  · omega
  · omega
theorem en_node {fs : Fs} {last op k : Int} {t : List UInt8} {kids : List Co} (h1 : (op == 29 || op == 30 || op == 31) = true → k < last) (h2 : (op == 26 || op == 28) = true → ∃ c0 r, kids = c0 :: r ∧ obP c0 = true ∧ allN (knP fs last) c0 = true) : enP fs last (.mk op k t kids) = true := by
  unfold enP
  rw [Bool.and_eq_true]
  constructor
  · cases hd : (op == 29 || op == 30 || op == 31) with
    | false => rfl
    | true => exact decide_eq_true (h1 hd)
  · cases ho : (op == 26 || op == 28) with
    | false => rfl
    | true =>
      obtain ⟨c0, r, rfl, a, b⟩ := h2 ho
      simp only [cond_true, a, b, Bool.and_self]
mutual
theorem en_all : ∀ (c : Co) (d : Int) {l : List (List UInt8)} {last : Int}, (typF d c).2 = true → 0 ≤ last → last ≤ 73048 → hzC c < last → allN noAh c = true → lbC c = false → (∀ x ∈ fds c, x ∈ l) → allN (enP (fsF 0 l) last) c = true
  | .mk op k t kids, d, l, last, h, h0, h1, hh, hn, hb, hm => by
    obtain ⟨-, -, hk⟩ := typ_kids h
    rw [allN, Bool.and_eq_true] at hn
    rw [lbC, Bool.or_eq_false_iff] at hb
    rw [fds] at hm
    rw [hzC] at hh
    rw [allN, en_allL kids (d + 1) hk h0 h1 (by omega) hn.2 hb.2 (fun x hx => hm x (by simp [hx])), Bool.and_true]
    refine en_node (fun hd => ?_) (fun ho => ?_)
    · have : dateP op = true := hd
      rw [this, cond_true] at hh
      omega
    · obtain ⟨c0, r, rfl, hob⟩ := kid_ob h ho
      rw [allK, Bool.and_eq_true] at hn
      rw [lbL, Bool.or_eq_false_iff] at hb
      rw [fdsL] at hm
      exact ⟨c0, r, rfl, hob, kn_all c0 h0 h1 hn.2.1 hb.2.1 (fun x hx => hm x (by simp [hx]))⟩
theorem en_allL : ∀ (r : List Co) (d : Int) {l : List (List UInt8)} {last : Int}, (∀ c ∈ r, (typF d c).2 = true) → 0 ≤ last → last ≤ 73048 → hzL r < last ∨ r = [] → allK noAh r = true → lbL r = false → (∀ x ∈ fdsL r, x ∈ l) → allK (enP (fsF 0 l) last) r = true
  | [], _, _, _, _, _, _, _, _, _, _ => rfl
  | c :: r, d, l, last, h, h0, h1, hh, hn, hb, hm => by
    rw [allK, Bool.and_eq_true] at hn
    rw [lbL, Bool.or_eq_false_iff] at hb
    rw [fdsL] at hm
    have hh' : hzL (c :: r) < last := by rcases hh with h | h; exact h; cases h
    rw [hzL] at hh'
    rw [allK, en_all c d (h c (by simp)) h0 h1 (by omega) hn.1 hb.1 (fun x hx => hm x (by simp [hx])), en_allL r d (fun x hx => h x (by simp [hx])) h0 h1 (.inl (by omega)) hn.2 hb.2 (fun x hx => hm x (by simp [hx]))]
    rfl
end
/-- The names of a term's feeds. -/
def nmsP (c : Co) : List (List UInt8) := fdF [] c
theorem nms_mem (c : Co) : Ris (nmsP c) ∧ ∀ x, x ∈ nmsP c ↔ x ∈ fds c := by
  unfold nmsP
  rw [fd_fold]
  obtain ⟨h1, h2⟩ := fold_ris (fds c) [] List.Pairwise.nil
  exact ⟨h1, fun x => by rw [h2]; simp⟩
theorem rf_fs {c : Co} (h : (chkP c == 0) = true) (hl : (nmsP c).length ≤ 64) : rfP (fsF 0 (nmsP c)) = true := by
  obtain ⟨h1, h2⟩ := nms_mem c
  obtain ⟨ht, -, -⟩ := chk_typ h
  have hn : ∀ x ∈ nmsP c, namP x = true := fun x hx => fds_nam c 1 (by rw [ht]) x ((h2 x).1 hx)
  unfold rfP
  rw [fsF_len, decide_eq_true hl, Bool.true_and]
  refine fsF_ok hn (List.pairwise_cons.2 ⟨fun x hx => ?_, h1⟩) (by omega)
  cases x with
  | nil => exact absurd (hn [] hx) (by decide)
  | cons a r => exact List.nil_lt_cons _ _
theorem rf_not {c : Co} (hl : 64 < (nmsP c).length) : rfP (fsF 0 (nmsP c)) = false := by
  unfold rfP
  rw [fsF_len, decide_eq_false (by omega), Bool.false_and]
/-- It ends. -/
theorem ste_ends {c : Co} {l : List (Int × Int)} {last : Int} (h : (chkP c == 0) = true) (hg : Gd c l) (hf : ∀ x ∈ l, inM x.2) (hb : lbC c = false) (h0 : 0 ≤ last) (h1 : last ≤ 73048) (hh : max 0 (hzC c) < last) : (64 < (nmsP c).length → steR (fsF 0 (nmsP c)) last [] 0 c l = (r0, 150)) ∧ ((nmsP c).length ≤ 64 → ∃ t, steR (fsF 0 (nmsP c)) last [] 0 c l = (([], t), 0)) := by
  constructor
  · intro hl
    unfold steR
    rw [rf_not hl]
    simp
  · intro hl
    obtain ⟨ht, -, -⟩ := chk_typ h
    have he := en_all c 1 (l := nmsP c) (by rw [ht]) h0 h1 (by omega) (chk_noah h) hb (fun x hx => ((nms_mem c).2 x).2 hx)
    have hs := step_ends (fs := fsF 0 (nmsP c)) (day := last) 0 he l
    have hd : dayP last = true := by unfold dayP; rw [decide_eq_true h0, decide_eq_true h1]; rfl
    refine ⟨(stepP (fsF 0 (nmsP c)) last [] 0 c l).2, ?_⟩
    unfold steR
    rw [h, hd, rf_fs h hl, rc_none, gd_rl hg hf]
    show (stepP _ _ _ _ _ _, (0 : Int)) = _
    rw [← hs]
end Go.Proofs.YthnojedlndblbabGreatDoor
namespace Go.Proofs.YthnojedlndblbabGreatDoor
open Go Go.RowKit

def StR (base : Nat) (w : World) (v : Value) (l : List (Int × Int)) : Prop := w.ownsRow base 50 2 v l.length (lvC l)
theorem StR.sts {base : Nat} {w : World} {v : Value} {l : List (Int × Int)} (h : StR base w v l) : Sts w.heap.size w v l := by
  by_cases h0 : l.length = 0
  · obtain ⟨a, cap, e⟩ := own_form h
    have hl := List.eq_nil_of_length_eq_zero h0
    subst hl
    rcases h.2 with ⟨e2, -⟩ | ⟨g, cap', cur, e2, -, -, h1, h2, -⟩
    · exact ⟨none, 0, e2, ⟨by simp, by omega⟩, fun i q hq => by simp at hq⟩
    · exact ⟨_, cap', e2, ⟨h1, by unfold maxLen at h2; omega⟩, fun i q hq => by simp at hq⟩
  · obtain ⟨g, cap, cur, e, hg, h1, h2, hc⟩ := own_open h h0
    refine ⟨some ⟨g, 0, none⟩, cap, e, ⟨h1, by unfold maxLen at h2; omega⟩, fun i q hq => ⟨g, 0, rfl, lt_of_get hg, ?_, ?_⟩⟩
    · rw [Nat.zero_add]; exact cell_obj hg (hc _ _ (lvC_at hq).1)
    · rw [Nat.zero_add]; exact cell_obj hg (hc _ _ (lvC_at hq).2)
abbrev Fx := List UInt8 × List (Int × Int)
def fdC (X : List (Fx × Value)) : List Value := X.flatMap fun x => [strV x.1.1, x.2]
theorem fdC_at : ∀ {X : List (Fx × Value)} {i : Nat} {q : Fx × Value}, X[i]? = some q → (fdC X)[i * 2]? = some (strV q.1.1) ∧ (fdC X)[i * 2 + 1]? = some q.2
  | [], i, q, h => by simp at h
  | x :: r, 0, q, h => by simp at h; subst h; exact ⟨rfl, rfl⟩
  | x :: r, i + 1, q, h => by
    have := fdC_at (X := r) (i := i) (by simpa using h)
    unfold fdC at this ⊢
    rw [List.flatMap_cons, show (i + 1) * 2 = i * 2 + 2 by omega]
    simpa using this
/-- Feeds in a row of one's own, their stamps too. -/
structure FdW (base : Nat) (w : World) (v : Value) (X : List (Fx × Value)) : Prop where
  row : w.ownsRow base 53 2 v X.length (fdC X)
  kid : ∀ x ∈ X, StR base w x.2 x.1.2
theorem FdW.nil {base : Nat} {w : World} : FdW base w (.slice none 0 0) [] := ⟨w.ownsRow_nil _ _ _, by simp⟩
theorem FdW.fds {base : Nat} {w : World} {v : Value} {X : List (Fx × Value)} (h : FdW base w v X) : Fds w.heap.size w v (X.map (·.1)) := by
  by_cases h0 : X.length = 0
  · have hl := List.eq_nil_of_length_eq_zero h0
    subst hl
    rcases h.row.2 with ⟨e2, -⟩ | ⟨g, cap', cur, e2, -, -, h1, h2, -⟩
    · exact ⟨none, 0, e2, ⟨by simp, by omega⟩, fun i q hq => by simp at hq⟩
    · exact ⟨_, cap', e2, ⟨h1, by unfold maxLen at h2; omega⟩, fun i q hq => by simp at hq⟩
  · obtain ⟨g, cap, cur, e, hg, h1, h2, hc⟩ := own_open h.row h0
    refine ⟨some ⟨g, 0, none⟩, cap, by rw [List.length_map]; exact e, ⟨by rw [List.length_map]; exact h1, by unfold maxLen at h2; omega⟩, fun i f hf => ?_⟩
    rw [List.getElem?_map] at hf
    obtain ⟨q, hq, rfl⟩ := Option.map_eq_some_iff.1 hf
    obtain ⟨c0, c1⟩ := fdC_at hq
    refine ⟨g, 0, q.2, rfl, lt_of_get hg, ?_, ?_, (h.kid q (List.mem_of_getElem? hq)).sts⟩
    · rw [Nat.zero_add]; exact cell_obj hg (hc _ _ c0)
    · rw [Nat.zero_add]; exact cell_obj hg (hc _ _ c1)
theorem FdW.add {base : Nat} {w : World} {v : Value} {X : List (Fx × Value)} (h : FdW base w v X) (hb : base ≤ w.heap.size) (x : Fx) {u : Value} (hu : StR base w u x.2) {bj c : Nat} {et ty : TypeId} {z : Nat × Nat} (hj : w.heap[bj]? = some (.cells #[strV x.1, u] et z)) (hl : X.length + 1 ≤ 100000000) :
    ∃ b c' w', (Builtin.append_ #[25, 25] ty #[v, .slice (some ⟨bj, 0, none⟩) 1 c]).run Tryz.prog w = .ok (.slice (some ⟨b, 0, none⟩) (X.length + 1) c') w' ∧ FdW base w' (.slice (some ⟨b, 0, none⟩) (X.length + 1) c') (X ++ [(x, u)]) ∧ w.grownBy w' v.ownBlock ∧ (v.ownBlock = some b ∨ b = w.heap.size) := by
  obtain ⟨a, cu, rfl⟩ := own_form hu
  obtain ⟨b, c', w', hr, hrow, hgr, hob⟩ := append_coreA (P := Tryz.prog) (t := 25) (e := 53) (ty := ty) (size := 2) (bytes := 40) (a := ⟨bj, 0, none⟩) (m := 1) (c := c) (news := [strV x.1, .slice a x.2.length cu]) h.row hb (by simp) (cell_row hj) (by simp [Value.oneCell', strV]) (.inr (by omega)) (by unfold maxLen; omega) (by omega) (by kernel_rfl)
  refine ⟨b, c', w', hr, ⟨?_, fun y hy => ?_⟩, hgr, ?_⟩
  · rw [show fdC (X ++ [(x, Value.slice a x.2.length cu)]) = fdC X ++ [strV x.1, .slice a x.2.length cu] by unfold fdC; simp, List.length_append, List.length_singleton]
    exact hrow
  · rcases List.mem_append.1 hy with hy | hy
    · exact own_kept (h.kid y hy) hgr fun b hb => own_ne (h.kid y hy) h.row (by decide) hb
    · rw [List.mem_singleton] at hy
      subst hy
      exact own_kept hu hgr fun b hb => own_ne hu h.row (by decide) hb
  · rcases hob with h | h
    · exact .inl h.symm
    · refine .inr ?_
      simp [Value.ownBlock] at h
      exact h
end Go.Proofs.YthnojedlndblbabGreatDoor
namespace Go.Proofs.YthnojedlndblbabGreatDoor
open Go Go.RowKit

set_option maxRecDepth 100000 in
set_option maxHeartbeats 8000000 in
seal rn rnN rnS Goes ans atEnd put0 put putM opened openedY putA0 putA oneSt st0 keep mkSt newSt in
theorem lback_any (c : Co) : ∀ (v : Value) (w : World), Nc w.heap.size w v c → Calls Tryz.prog 11 #[v] w fun e w' => e = .returned (.bool (lbC c)) ∧ Below w.heap.size w w' := by
  induction c using Co.ind with
  | h op k t kids ih =>
    intro v w hN
    obtain ⟨a, cc, rfl, hfit, hcap, hkids⟩ := hN.open
    obtain ⟨N, hL⟩ : ∃ N, kids.length = N := ⟨_, rfl⟩
    rw [hL] at hcap ⊢
    refine Goes.begin Tryz.func11 [] (fun _ => True) Holds.nil (by simp [Mem.ids]) (fun _ _ => trivial) ?_
    refine Goes.run1 [] [] trivial fun g => ?_
    cases hh : (op == 4 && decide (k > 0)) with
    | true =>
      simp only [Bool.and_eq_true] at hh
      refine Goes.run [0, 1, 0, 1] [(decide (k > 0), true), (op == 4, true)] ⟨hh.2, hh.1, trivial⟩ ?_
      exact Goes.ret [] (.bool true) fun w' hm hI => ⟨by rw [lbC, hh.1, hh.2]; rfl, bel0 hI⟩
    | false =>
      have hW : lbC (.mk op k t kids) = lbL kids := by rw [lbC, hh, Bool.false_or]
      rw [hW]
      refine Goes.fork (op == 4) 3 27 [(1, .pointer (some ⟨g, 0, none⟩))] [(1, .pointer (some ⟨g, 0, none⟩))] [(1, .pointer (some ⟨g, 0, none⟩))] [0, 1, 0, 0] [0, 0, 0] [(decide (k > 0), false), (op == 4, true)] [(false, false), (op == 4, false)] (fun h => ⟨rfl, by rw [h, Bool.true_and] at hh; exact hh, h, trivial⟩) (fun h => ⟨rfl, rfl, h, trivial⟩) fun J2 => ?_
      refine Goes.run [] [] trivial ?_
      refine Goes.loop0 (α := Nat) 27 (fun i => [(1, .pointer (some ⟨g, 0, none⟩)), (3, .int .i64 i)]) [(g, cO op k t (.slice a N cc))] (fun i => i ≤ N ∧ lbL kids = lbL (kids.drop i)) (fun i => N - i) 0 ⟨Nat.zero_le _, rfl⟩ ?_
      rintro i J ⟨hi, hrest⟩ back
      cases hlt : decide ((i : Int) < (N : Int)) with
      | false =>
        obtain rfl : i = N := by have := of_decide_eq_false hlt; omega
        refine Goes.run [0, 0, 0] [(decide ((i : Int) < (i : Int)), false)] ⟨hlt, trivial⟩ ?_
        exact Goes.ret [] (.bool false) fun w' hm hI => ⟨by rw [hrest, List.drop_of_length_le (by omega), lbL], bel0 hI⟩
      | true =>
        have hil : i < N := by have := of_decide_eq_true hlt; omega
        obtain ⟨u, hu⟩ : ∃ u, kids[i]? = some u := ⟨kids[i]'(by omega), by simp⟩
        obtain ⟨b, o, y, rfl, hb, hcl, hy⟩ := hkids i u hu
        obtain ⟨op', k', t', a', N', c', rfl⟩ := hy.cells
        have hdrop := drop_at hu
        refine Goes.run [0, 0, 1, 0] [(decide ((i : Int) < (N : Int)), true)] ⟨hlt, trivial⟩ ?_
        refine Goes.val (Instr.indexAt 22 (.slice (some ⟨b, o, none⟩) N cc) (.int .i64 i)) (.pointer (some ⟨b, o + i * 4, none⟩)) (fun w' _ _ => idxC b o N cc i hil w') ?_
        refine Goes.val (Instr.loadAt 24 (.pointer (some ⟨b, o + i * 4, none⟩))) (cv op' k' t' (.slice a' N' c')) (fun w' _ hI => loadC (hcl.below hb (bel0 hI))) ?_
        refine Goes.call0 11 #[cv op' k' t' (.slice a' N' c')] (.bool (lbC u)) (fun w' _ hI => ih u (List.mem_of_getElem? hu) _ w' (hy.at (bel0 hI))) ?_
        cases hd : lbC u with
        | true =>
          refine Goes.run [1] [(true, true)] ⟨rfl, trivial⟩ ?_
          exact Goes.ret [] (.bool true) fun w' hm hI => ⟨by rw [hrest, hdrop, lbL, hd]; rfl, bel0 hI⟩
        | false =>
          refine Goes.run [0] [(false, false)] ⟨rfl, trivial⟩ ?_
          refine Goes.slot 3 (.int .i64 (i + 1 : Nat)) (u := .int .i64 (IntKind.i64.wrap ((i : Int) + 1))) (congrArg _ (wrap_nat (by omega))) ?_
          exact back (i + 1) _ ⟨hil, by rw [hrest, hdrop, lbL, hd]; rfl⟩ (by omega) (by kernel_rfl) (by kernel_rfl) (by kernel_rfl)
end Go.Proofs.YthnojedlndblbabGreatDoor
