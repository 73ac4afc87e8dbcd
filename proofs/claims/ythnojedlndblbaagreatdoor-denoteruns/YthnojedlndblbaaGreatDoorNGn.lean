/- texts put together: NTerm NRl NRbeg -/
import Derived.Test.YthnojedlndblbaaGreatDoorNGm
import Derived.Test.YthnojedlndblbaaGreatDoorNGd
import Derived.Test.YthnojedlndblbaaGreatDoorNGk
namespace Go.Proofs.YthnojedlndblbaaGreatDoor
open Go Go.RowKit

def TmR (n0 : Nat) (w : World) (t : Option Co) (e : Ending) (w' : World) : Prop := ∃ v, e = .returned (.tuple #[v, .bool t.isSome]) ∧ (∀ x, t = some x → Nc n0 w v x) ∧ (t = none → v = cv 0 0 [] (.slice none 0 0)) ∧ Below w.heap.size w w'
theorem Cl4.back {n : Nat} {w w' : World} {b o : Nat} {v : Value} (h : Cl4 w' b o v) (hb : b < n) (hB : Below n w w') : Cl4 w b o v := by
  obtain ⟨op, k, s, u, e, h0, h1, h2, h3⟩ := h
  exact ⟨op, k, s, u, e, (hB.cell (p := ⟨b, o, none⟩) hb).symm.trans h0, (hB.cell (p := ⟨b, o + 1, none⟩) hb).symm.trans h1, (hB.cell (p := ⟨b, o + 2, none⟩) hb).symm.trans h2, (hB.cell (p := ⟨b, o + 3, none⟩) hb).symm.trans h3⟩
theorem Nc.back {n : Nat} {w w' : World} {v : Value} {t : Co} (h : Nc n w' v t) (hB : Below n w w') : Nc n w v t := by
  induction h with
  | mk op k s kids a c vs hf hl hc hk ih =>
    refine .mk op k s kids a c vs hf hl (fun i hi => ?_) (fun i t ht => ih i t ht)
    obtain ⟨b, o, e, hb, h⟩ := hc i hi
    exact ⟨b, o, e, hb, h.back hb hB⟩
theorem TmR.form {n0 : Nat} {w w' : World} {t : Option Co} {e : Ending} (h : TmR n0 w t e w') : ∃ op k s a n c, e = .returned (.tuple #[cv op k s (.slice a n c), .bool t.isSome]) ∧ (∀ x, t = some x → Nc n0 w (cv op k s (.slice a n c)) x) ∧ (t = none → cv op k s (.slice a n c) = cv 0 0 [] (.slice none 0 0)) ∧ Below w.heap.size w w' := by
  obtain ⟨v, he, h1, h2, h3⟩ := h
  cases t with
  | none =>
    obtain rfl := h2 rfl
    exact ⟨0, 0, [], none, 0, 0, he, h1, fun _ => rfl, h3⟩
  | some x =>
    obtain ⟨op, k, s, a, n, c, rfl⟩ := (h1 x rfl).cells
    exact ⟨op, k, s, a, n, c, he, h1, fun h => (by cases h), h3⟩
set_option maxRecDepth 100000 in
seal rn rnN rnS Goes ans atEnd put0 put putM opened openedY putA0 putA oneSt st0 keep mkSt newSt in
theorem rterm_any (c : Co) : ∀ (n0 : Nat) (q : Int) (v : Value) (w : World), szC c ≤ 2000 → n0 ≤ w.heap.size → Nc n0 w v c → Calls Tryz.prog 36 #[v, .int .i64 q] w (TmR n0 w (termP c q)) := by
  induction c using Co.ind with
  | h op k s kids ih =>
    intro n0 q v w hsz hn hN
    have hN0 := hN
    obtain ⟨a, cc, rfl, hfit, hcap, hkids⟩ := hN.open
    obtain ⟨N, hL⟩ : ∃ N, kids.length = N := ⟨_, rfl⟩
    rw [hL] at hcap hN0 ⊢
    have hpos := szL_pos kids
    rw [szC] at hsz
    refine Goes.begin Tryz.func36 [] (fun _ => True) Holds.nil (by simp [Mem.ids]) (fun _ _ => trivial) ?_
    cases hq : (q == 0) with
    | true =>
      refine Goes.run2 [1, 0, 1] [(q == 0, true)] ⟨hq, trivial⟩ fun g2 g4 => ?_
      exact Goes.ret [1] (.tuple #[cv op k s (.slice a N cc), .bool true]) fun w' hm hI => ⟨_, by rw [termP, hq]; rfl, fun x hx => (by rw [termP, hq] at hx; cases hx; exact hN0), fun h => (by rw [termP, hq] at h; cases h), bel0 hI⟩
    | false =>
      have hT : termP (.mk op k s kids) q = termL kids 1 q := by rw [termP, hq]; rfl
      rw [hT]
      refine Goes.run2 [0] [(q == 0, false)] ⟨hq, trivial⟩ fun g2 g4 => ?_
      refine Goes.loop0 (α := Nat) 50 (fun m => [(1, .int .i64 q), (2, .pointer (some ⟨g2, 0, none⟩)), (4, .pointer (some ⟨g4, 0, none⟩)), (6, .int .i64 (1 + szL (kids.take m))), (7, .int .i64 (m : Int))]) [(g2, cO op k s (.slice a N cc)), (g4, cO 0 0 [] (.slice none 0 0))] (fun m => m ≤ N ∧ termL (kids.drop m) (1 + szL (kids.take m)) q = termL kids 1 q) (fun m => N - m) 0 ⟨Nat.zero_le _, by simp [szL]⟩ ?_ (by rw [List.take_zero, szL, Int.add_zero]; kernel_rfl)
      rintro m J ⟨hm, hst⟩ back
      cases hlt : decide ((m : Int) < (N : Int)) with
      | false =>
        have hd : kids.drop m = [] := List.drop_eq_nil_of_le (by have := of_decide_eq_false hlt; omega)
        rw [hd, termL] at hst
        refine Goes.run [0, 0, 0, 1] [(decide ((m : Int) < (N : Int)), false)] ⟨hlt, trivial⟩ ?_
        exact Goes.ret [1] (.tuple #[cv 0 0 [] (.slice none 0 0), .bool false]) fun w' hm hI => ⟨_, by rw [← hst]; rfl, fun x hx => (by rw [← hst] at hx; cases hx), fun _ => rfl, bel0 hI⟩
      | true =>
        have hmi : m < N := by have := of_decide_eq_true hlt; omega
        obtain ⟨x, hx⟩ : ∃ x, kids[m]? = some x := ⟨kids[m]'(by omega), by simp⟩
        obtain ⟨b, o, y, rfl, hb, hcl, hy⟩ := hkids m x hx
        obtain ⟨op', k', t', a', N', c', rfl⟩ := hy.cells
        have hcx := szL_cut hx
        have htk := take_more hx
        have hpx := szC_pos x
        rw [drop_at hx, termL] at hst
        refine Goes.run [0, 0, 1, 0] [(decide ((m : Int) < (N : Int)), true)] ⟨hlt, trivial⟩ ?_
        refine Goes.val (Instr.indexAt 22 (.slice (some ⟨b, o, none⟩) N cc) (.int .i64 m)) (.pointer (some ⟨b, o + m * 4, none⟩)) (fun w' _ _ => idxC b o N cc m (by omega) w') ?_
        refine Goes.val (Instr.loadAt 24 (.pointer (some ⟨b, o + m * 4, none⟩))) (cv op' k' t' (.slice a' N' c')) (fun w' _ hI => loadC (hcl.below hb ((bel0 hI).mono hn))) ?_
        refine Goes.call0 66 #[cv op' k' t' (.slice a' N' c')] (.int .i64 (szC x)) (fun w' _ hI => rsizeC_any x _ w' (by omega) ((hy.later ((bel0 hI).mono hn)).more (Nat.le_trans hn (bel0 hI).size))) ?_
        have hpl := szL_pos (kids.take m)
        have next : (decide (1 + szL (kids.take m) ≤ q) && decide (q < 1 + szL (kids.take m) + szC x)) = false → termL (kids.drop (m + 1)) (1 + szL (kids.take (m + 1))) q = termL kids 1 q := fun hb => by
          rw [hb, cond_false] at hst
          rw [← hst, htk, szL_snoc]
          congr 1
          omega
        cases h1 : decide (1 + szL (kids.take m) ≤ q) with
        | false =>
          refine Goes.upto 28 [] [] trivial ?_
          refine Goes.slot 27 (.bool false) (u := .bool (decide (q ≥ 1 + szL (kids.take m)))) (congrArg _ h1) ?_
          refine Goes.run [0, 0] [(false, false), (false, false)] ⟨rfl, rfl, trivial⟩ ?_
          refine Goes.slot 6 (.int .i64 (1 + szL (kids.take (m + 1)))) (u := .int .i64 (IntKind.i64.wrap (1 + szL (kids.take m) + szC x))) (congrArg _ (by rw [IntWalk.i64_in _ ⟨by omega, by omega⟩, htk, szL_snoc]; omega)) ?_
          refine Goes.slot 7 (.int .i64 (m + 1 : Nat)) (u := .int .i64 (IntKind.i64.wrap ((m : Int) + 1))) (congrArg _ (wrap_nat (by omega))) ?_
          exact back (m + 1) _ ⟨by omega, next (by rw [h1]; rfl)⟩ (by omega) (by kernel_rfl) (by kernel_rfl) (by kernel_rfl)
        | true =>
          refine Goes.upto 28 [] [] trivial ?_
          refine Goes.slot 27 (.bool true) (u := .bool (decide (q ≥ 1 + szL (kids.take m)))) (congrArg _ h1) ?_
          refine Goes.upto 33 [1] [(true, true)] ⟨rfl, trivial⟩ ?_
          refine Goes.slot 32 (.int .i64 (1 + szL (kids.take m) + szC x)) (u := .int .i64 (IntKind.i64.wrap (1 + szL (kids.take m) + szC x))) (congrArg _ (IntWalk.i64_in _ ⟨by omega, by omega⟩)) ?_
          cases h2 : decide (q < 1 + szL (kids.take m) + szC x) with
          | false =>
            refine Goes.upto 34 [] [] trivial ?_
            refine Goes.slot 33 (.bool false) (u := .bool (decide (q < 1 + szL (kids.take m) + szC x))) (congrArg _ h2) ?_
            refine Goes.run [0] [(false, false)] ⟨rfl, trivial⟩ ?_
            refine Goes.slot 6 (.int .i64 (1 + szL (kids.take (m + 1)))) (u := .int .i64 (IntKind.i64.wrap (1 + szL (kids.take m) + szC x))) (congrArg _ (by rw [IntWalk.i64_in _ ⟨by omega, by omega⟩, htk, szL_snoc]; omega)) ?_
            refine Goes.slot 7 (.int .i64 (m + 1 : Nat)) (u := .int .i64 (IntKind.i64.wrap ((m : Int) + 1))) (congrArg _ (wrap_nat (by omega))) ?_
            exact back (m + 1) _ ⟨by omega, next (by rw [h2, Bool.and_false])⟩ (by omega) (by kernel_rfl) (by kernel_rfl) (by kernel_rfl)
          | true =>
            have e1 := of_decide_eq_true h1
            have e2 := of_decide_eq_true h2
            rw [h1, h2] at hst
            simp only [Bool.and_self, cond_true] at hst
            refine Goes.upto 34 [] [] trivial ?_
            refine Goes.slot 33 (.bool true) (u := .bool (decide (q < 1 + szL (kids.take m) + szC x))) (congrArg _ h2) ?_
            refine Goes.run [1, 0] [(true, true)] ⟨rfl, trivial⟩ ?_
            refine Goes.val (Instr.indexAt 22 (.slice (some ⟨b, o, none⟩) N cc) (.int .i64 m)) (.pointer (some ⟨b, o + m * 4, none⟩)) (fun w' _ _ => idxC b o N cc m (by omega) w') ?_
            refine Goes.val (Instr.loadAt 24 (.pointer (some ⟨b, o + m * 4, none⟩))) (cv op' k' t' (.slice a' N' c')) (fun w' _ hI => loadC (hcl.below hb ((bel0 hI).mono hn))) ?_
            refine Goes.upto 43 [] [] trivial ?_
            refine Goes.slot 42 (.int .i64 (q - (1 + szL (kids.take m)))) (u := .int .i64 (IntKind.i64.wrap (q - (1 + szL (kids.take m))))) (congrArg _ (IntWalk.i64_in _ ⟨by omega, by omega⟩)) ?_
            refine Goes.call 36 #[cv op' k' t' (.slice a' N' c'), .int .i64 (q - (1 + szL (kids.take m)))] fun w1 hm1 hn1 hI1 => ?_
            have hB1 := bel0 hI1
            refine (ih x (List.mem_of_getElem? hx) n0 _ _ w1 (by omega) (Nat.le_trans hn hB1.size) (hy.later (hB1.mono hn))).mono fun e w2 hR => ?_
            obtain ⟨op2, k2, s2, a2, n2, c2, he, g1, g2', hB2⟩ := hR.form
            rw [hst] at he g1 g2'
            refine ⟨_, fun w' => Ch (Mem.ids []) w w' ∧ True, _, he, hm1.bel hB2, hn1, hI1.bel hB2, ?_⟩
            refine Goes.run [1] [] trivial ?_
            exact Goes.ret [1] (.tuple #[cv op2 k2 s2 (.slice a2 n2 c2), .bool (termL kids 1 q).isSome]) fun w' hm hI => ⟨_, rfl, fun y hy => Nc.back (g1 y hy) (hB1.mono hn), g2', bel0 hI⟩
end Go.Proofs.YthnojedlndblbaaGreatDoor
namespace Go.Proofs.YthnojedlndblbaaGreatDoor
open Go Go.RowKit

theorem term_out {c : Co} {q : Int} (h : q < 0) : termP c q = none := by
  cases ht : termP c q with
  | none => rfl
  | some t => have := (term_in c q t ht).1; omega
theorem opAt_in {c : Co} {q : Int} (h : opAt c q = true) : 0 ≤ q ∧ q < szC c := by
  unfold opAt at h
  cases ht : termP c q with
  | none => rw [ht] at h; cases h
  | some t =>
    obtain ⟨h1, h2, -⟩ := term_in c q t ht
    have := szC_pos t
    omega
theorem rl_good1 {c : Co} {x : Int × Int} {last : Int} (h1 : last < x.1) (h2 : opAt c x.1 = true) (h3 : ¬ x.2 < -1000000000000000) (h4 : ¬ x.2 > 1000000000000000) : (!decide (x.1 ≤ last) && !decide (x.1 ≥ szC c) && opAt c x.1 && numP x.2) = true := by
  obtain ⟨h5, h6⟩ := opAt_in h2
  rw [decide_eq_false (by omega), decide_eq_false (by omega), h2, num_in.2 (by unfold inM; omega)]
  rfl
theorem rl_bad1 {c : Co} {x : Int × Int} {last : Int} (h : x.1 ≤ last ∨ opAt c x.1 = false ∨ x.2 < -1000000000000000 ∨ x.2 > 1000000000000000) : (!decide (x.1 ≤ last) && !decide (x.1 ≥ szC c) && opAt c x.1 && numP x.2) = false := by
  rcases h with h | h | h | h
  · rw [decide_eq_true h]; rfl
  · rw [h]; simp
  · have : numP x.2 = false := by unfold numP; rw [decide_eq_false (by omega)]; rfl
    rw [this, Bool.and_false]
  · have : numP x.2 = false := by unfold numP; rw [Bool.and_eq_false_iff]; exact .inr (decide_eq_false (by omega))
    rw [this, Bool.and_false]
theorem sts_blk {n : Nat} {w : World} {a : Option Addr} {M c : Nat} {l : List (Int × Int)} (hn : n ≤ w.heap.size) (h : Sts n w (.slice a M c) l) (h0 : 0 < l.length) : ∃ b o ob, a = some ⟨b, o, none⟩ ∧ b < n ∧ w.heap[b]? = some ob := by
  obtain ⟨a', c', e, -, hx⟩ := h
  cases e
  obtain ⟨b, o, e, hb, -, -⟩ := hx 0 (l[0]'h0) (by simp)
  obtain ⟨ob, hob⟩ := blk_of (w := w) (b := b) (by omega)
  exact ⟨b, o, ob, e, hb, hob⟩
theorem bel1 {s : St} {b : Nat} {ob : Obj} {w w' : World} {Q : World → Prop} (hob : w.heap[b]? = some ob) (hm : Holds s.mem w') (hI : Stay s.mem.ids w' (fun w2 => Ch (Mem.ids [(b, ob)]) w w2 ∧ Q w2)) (e : s.mem.take 1 = [(b, ob)] := by kernel_rfl) : Below w.heap.size w w' := below_end (holds1 hob) hI.now.1 hm e
set_option maxRecDepth 100000 in
set_option maxHeartbeats 8000000 in
seal rn rnN rnS Goes ans atEnd put0 put putM opened openedY putA0 putA oneSt st0 keep mkSt newSt in
theorem rlives_any {c : Co} {l : List (Int × Int)} {u v : Value} {w : World} (hsz : szC c ≤ 2000) (hN : Nc w.heap.size w u c) (hL : Sts w.heap.size w v l) : Calls Tryz.prog 18 #[u, v] w fun e w' => e = .returned (.bool (rlP c l)) ∧ Below w.heap.size w w' := by
  obtain ⟨op, k, t, aC, NC, cc, rfl⟩ := hN.cells
  have hL0 := hL
  obtain ⟨a, cL, rfl, hcap, hlv⟩ := hL
  obtain ⟨M, hM⟩ : ∃ M, l.length = M := ⟨_, rfl⟩
  rw [hM] at hcap hL0 ⊢
  rcases Nat.eq_zero_or_pos M with h0 | h0
  · have hl := List.eq_nil_of_length_eq_zero (hM.trans h0)
    subst h0 hl
    refine Goes.begin Tryz.func18 [] (fun _ => True) Holds.nil (by simp [Mem.ids]) (fun _ _ => trivial) ?_
    refine Goes.run1 [0, 0] [(false, false)] ⟨rfl, trivial⟩ fun g2 => ?_
    exact Goes.ret [] (.bool true) fun w' hm hI => ⟨rfl, bel0 hI⟩
  obtain ⟨b, o, ob, rfl, hb, hob⟩ := sts_blk (Nat.le_refl _) hL0 (by omega)
  refine Goes.begin Tryz.func18 [(b, ob)] (fun _ => True) (holds1 hob) (by simp [Mem.ids]) (fun _ _ => trivial) ?_
  refine Goes.run1 [] [] trivial fun g2 => ?_
  refine Goes.loop0 (α := Nat) 96 (fun i => [(1, .slice (some ⟨b, o, none⟩) M cL), (2, .pointer (some ⟨g2, 0, none⟩)), (5, .int .i64 (i : Int))]) [(b, ob), (g2, cO op k t (.slice aC NC cc))] (fun i => i ≤ M ∧ rlP c l = rlF c (lstD l i) (l.drop i)) (fun i => M - i) 0 ⟨Nat.zero_le _, rfl⟩ ?_ (by kernel_rfl)
  rintro i J ⟨hi, hst⟩ back
  cases hlt : decide ((i : Int) < (M : Int)) with
  | false =>
    have hd : l.drop i = [] := List.drop_eq_nil_of_le (by have := of_decide_eq_false hlt; omega)
    rw [hd, rlF] at hst
    refine Goes.run [0, 0] [(decide ((i : Int) < (M : Int)), false)] ⟨hlt, trivial⟩ ?_
    exact Goes.ret [] (.bool true) fun w' hm hI => ⟨by rw [hst], bel1 hob hm hI⟩
  | true =>
    have hil : i < M := by have := of_decide_eq_true hlt; omega
    obtain ⟨x, hx⟩ : ∃ x, l[i]? = some x := ⟨l[i]'(by omega), by simp⟩
    have hdrop : l.drop i = x :: l.drop (i + 1) := (List.drop_eq_getElem_cons (by omega)).trans (by rw [List.getElem?_eq_getElem (by omega)] at hx; cases hx; rfl)
    obtain ⟨b', o', e', -, x1, x2⟩ := hlv i x hx
    cases e'
    refine Goes.run [0, 1] [(decide ((i : Int) < (M : Int)), true)] ⟨hlt, trivial⟩ ?_
    refine Goes.open [0, 1] ?_
    refine Goes.run [0, 1, 1, 2] [] trivial ?_
    refine Goes.valA 3 (Instr.indexAt 31 (.slice (some ⟨b, o, none⟩) M cL) (.int .i64 i)) (.pointer (some ⟨b, o + i * 2, none⟩)) (fun w' _ => idxLv b o M cL i (by omega) w') ?_
    refine Goes.run [4] [] trivial ?_
    refine Goes.valA 5 (Instr.loadAt 3 (.pointer (some ⟨b, o + i * 2, none⟩))) (.int .i64 x.1) (fun w' hm => load1 Tryz.isAgg3 (Cel.same x1 hob (hm.get 0))) ?_
    refine Goes.two 6 10 (TookS.callM 6 36 #[cv op k t (.slice aC NC cc), .int .i64 x.1] fun w1 hm1 hn1 hI1 h01 => ?_) (TookS.new1 10 0 [0, 1] (fun w' h => Nat.zero_le _) fun g6 f6 => ?_)
    · have hB1 : Below w.heap.size w w1 := bel1 hob hm1 hI1
      refine (rterm_any c w.heap.size x.1 _ w1 hsz hB1.size (hN.later hB1)).mono fun e w2 hR => ?_
      obtain ⟨o6, k6, s6, a6, n6, c6, he, hv1, hv2, hB2⟩ := hR.form
      refine ⟨_, fun w' => Ch (Mem.ids [(b, ob)]) w w' ∧ True, _, he, h01.bel hB2, hm1.bel hB2, hn1, hI1.bel hB2, ?_⟩
      refine Goes.run [7, 8, 9] [] trivial ?_
      refine Goes.lone1 10 (TookS.new1 10 0 [0, 1] (fun w' h => Nat.zero_le _) fun g6 f6 => ?_)
      refine Goes.oneA 11 2 [0, 1] ?_
      refine Goes.run [12] [] trivial ?_
      refine Goes.fork (o6 == 26) 33 96 [(1, .slice (some ⟨b, o, none⟩) M cL), (2, .pointer (some ⟨g2, 0, none⟩)), (5, .int .i64 (i : Int)), (6, .pointer (some ⟨g6, 0, none⟩)), (7, .bool (termP c x.1).isSome), (32, .bool ((o6 == 26) || o6 == 28))] [(1, .slice (some ⟨b, o, none⟩) M cL), (2, .pointer (some ⟨g2, 0, none⟩)), (5, .int .i64 (i : Int)), (6, .pointer (some ⟨g6, 0, none⟩)), (7, .bool (termP c x.1).isSome), (32, .bool true)] [(1, .slice (some ⟨b, o, none⟩) M cL), (2, .pointer (some ⟨g2, 0, none⟩)), (5, .int .i64 (i : Int)), (6, .pointer (some ⟨g6, 0, none⟩)), (7, .bool (termP c x.1).isSome), (32, .bool (o6 == 28))] [2, 1] [2, 0, 2] [((o6 == 26), true)] [((o6 == 26), false)] (fun h => ⟨by simp only [h, Bool.true_or], h, trivial⟩) (fun h => ⟨by simp only [h, Bool.false_or], h, trivial⟩) fun J1 => ?_
      refine Goes.fork ((o6 == 26) || o6 == 28) 38 96 [(1, .slice (some ⟨b, o, none⟩) M cL), (2, .pointer (some ⟨g2, 0, none⟩)), (5, .int .i64 (i : Int)), (6, .pointer (some ⟨g6, 0, none⟩)), (7, .bool (termP c x.1).isSome), (37, .bool (((o6 == 26) || o6 == 28) || o6 == 29))] [(1, .slice (some ⟨b, o, none⟩) M cL), (2, .pointer (some ⟨g2, 0, none⟩)), (5, .int .i64 (i : Int)), (6, .pointer (some ⟨g6, 0, none⟩)), (7, .bool (termP c x.1).isSome), (37, .bool true)] [(1, .slice (some ⟨b, o, none⟩) M cL), (2, .pointer (some ⟨g2, 0, none⟩)), (5, .int .i64 (i : Int)), (6, .pointer (some ⟨g6, 0, none⟩)), (7, .bool (termP c x.1).isSome), (37, .bool (o6 == 29))] [1] [0, 2] [(((o6 == 26) || o6 == 28), true)] [(((o6 == 26) || o6 == 28), false)] (fun h => ⟨by simp only [h, Bool.true_or], h, trivial⟩) (fun h => ⟨by simp only [h, Bool.false_or], h, trivial⟩) fun J2 => ?_
      refine Goes.fork (((o6 == 26) || o6 == 28) || o6 == 29) 43 96 [(1, .slice (some ⟨b, o, none⟩) M cL), (2, .pointer (some ⟨g2, 0, none⟩)), (5, .int .i64 (i : Int)), (6, .pointer (some ⟨g6, 0, none⟩)), (7, .bool (termP c x.1).isSome), (42, .bool ((((o6 == 26) || o6 == 28) || o6 == 29) || o6 == 30))] [(1, .slice (some ⟨b, o, none⟩) M cL), (2, .pointer (some ⟨g2, 0, none⟩)), (5, .int .i64 (i : Int)), (6, .pointer (some ⟨g6, 0, none⟩)), (7, .bool (termP c x.1).isSome), (42, .bool true)] [(1, .slice (some ⟨b, o, none⟩) M cL), (2, .pointer (some ⟨g2, 0, none⟩)), (5, .int .i64 (i : Int)), (6, .pointer (some ⟨g6, 0, none⟩)), (7, .bool (termP c x.1).isSome), (42, .bool (o6 == 30))] [1] [0, 2] [((((o6 == 26) || o6 == 28) || o6 == 29), true)] [((((o6 == 26) || o6 == 28) || o6 == 29), false)] (fun h => ⟨by simp only [h, Bool.true_or], h, trivial⟩) (fun h => ⟨by simp only [h, Bool.false_or], h, trivial⟩) fun J3 => ?_
      refine Goes.fork ((((o6 == 26) || o6 == 28) || o6 == 29) || o6 == 30) 8 96 [(1, .slice (some ⟨b, o, none⟩) M cL), (2, .pointer (some ⟨g2, 0, none⟩)), (5, .int .i64 (i : Int)), (6, .pointer (some ⟨g6, 0, none⟩)), (7, .bool (termP c x.1).isSome), (47, .bool (((((o6 == 26) || o6 == 28) || o6 == 29) || o6 == 30) || o6 == 31))] [(1, .slice (some ⟨b, o, none⟩) M cL), (2, .pointer (some ⟨g2, 0, none⟩)), (5, .int .i64 (i : Int)), (6, .pointer (some ⟨g6, 0, none⟩)), (7, .bool (termP c x.1).isSome), (47, .bool true)] [(1, .slice (some ⟨b, o, none⟩) M cL), (2, .pointer (some ⟨g2, 0, none⟩)), (5, .int .i64 (i : Int)), (6, .pointer (some ⟨g6, 0, none⟩)), (7, .bool (termP c x.1).isSome), (47, .bool (o6 == 31))] [1] [0, 2] [(((((o6 == 26) || o6 == 28) || o6 == 29) || o6 == 30), true)] [(((((o6 == 26) || o6 == 28) || o6 == 29) || o6 == 30), false)] (fun h => ⟨by simp only [h, Bool.true_or], h, trivial⟩) (fun h => ⟨by simp only [h, Bool.false_or], h, trivial⟩) fun J4 => ?_
      refine Goes.run [] [] trivial ?_
      obtain ⟨W, hW⟩ : ∃ W, (((((o6 == 26) || o6 == 28) || o6 == 29) || o6 == 30) || o6 == 31) = W := ⟨_, rfl⟩
      have hop : opAt c x.1 = ((termP c x.1).isSome && W) := by
        unfold opAt
        cases hT : termP c x.1 with
        | none => rfl
        | some t6 =>
          cases t6 with
          | mk o7 k7 s7 kids7 =>
            obtain ⟨a7, c7, e7, -⟩ := (hv1 _ hT).open
            unfold cv at e7
            simp only [Value.agg.injEq, Array.mk.injEq, List.cons.injEq, Value.int.injEq, true_and] at e7
            obtain ⟨rfl, -⟩ := e7
            rw [← hW]
            simp only [Option.isSome_some, Bool.true_and]
            rfl
      refine Goes.slot 8 (.bool W) (u := .bool (((((o6 == 26) || o6 == 28) || o6 == 29) || o6 == 30) || o6 == 31)) (congrArg _ hW) ?_
      cases hk : (termP c x.1).isSome with
      | false =>
        have hop : opAt c x.1 = false := by rw [hop, hk]; rfl
        cases i with
        | zero =>
          refine Goes.open [0] ?_
          cases hb1 : decide (x.1 < 0) with
          | true =>
            refine Goes.run [0, 1] [] trivial ?_
            refine Goes.valA 2 (Instr.indexAt 31 (.slice (some ⟨b, o, none⟩) M cL) (.int .i64 ((0 : Nat) : Int))) (.pointer (some ⟨b, o + 0 * 2, none⟩)) (fun w' _ => idxLv b o M cL 0 (by omega) w') ?_
            refine Goes.run [3] [] trivial ?_
            refine Goes.valA 4 (Instr.loadAt 3 (.pointer (some ⟨b, o + 0 * 2, none⟩))) (.int .i64 x.1) (fun w' hm => load1 Tryz.isAgg3 (Cel.same x1 hob (hm.get 0))) ?_
            refine Goes.run [5] [] trivial ?_
            refine Goes.slot 53 (.bool true) (u := .bool (decide (x.1 < 0))) (congrArg _ (hb1)) ?_
            refine Goes.run [6, 7, 8, 9, 10, 11, 12, 13, 14, 15, 16, 17, 18, 19, 20, 21, 22, 23, 24, 25, 26, 27, 28, 29, 30, 31, 32, 33, 34, 35, 36, 37, 38, 39, 40, 41, 42, 43, 44, 45, 46, 47, 1] [(true, true)] ⟨rfl, trivial⟩ ?_
            exact Goes.ret [] (.bool false) fun w' hm hI => ⟨by rw [hst, hdrop, rlF, rl_bad1 (.inl (by show x.1 ≤ -1; have := of_decide_eq_true hb1; omega))]; rfl, bel1 hob hm hI⟩
          | false =>
            refine Goes.run [0, 1] [] trivial ?_
            refine Goes.valA 2 (Instr.indexAt 31 (.slice (some ⟨b, o, none⟩) M cL) (.int .i64 ((0 : Nat) : Int))) (.pointer (some ⟨b, o + 0 * 2, none⟩)) (fun w' _ => idxLv b o M cL 0 (by omega) w') ?_
            refine Goes.run [3] [] trivial ?_
            refine Goes.valA 4 (Instr.loadAt 3 (.pointer (some ⟨b, o + 0 * 2, none⟩))) (.int .i64 x.1) (fun w' hm => load1 Tryz.isAgg3 (Cel.same x1 hob (hm.get 0))) ?_
            refine Goes.run [5] [] trivial ?_
            refine Goes.slot 53 (.bool false) (u := .bool (decide (x.1 < 0))) (congrArg _ (hb1)) ?_
            refine Goes.run [6, 7, 8] [] trivial ?_
            refine Goes.slot 56 (.bool false) (u := .bool (decide (((0 : Nat) : Int) > 0))) (congrArg _ (rfl)) ?_
            refine Goes.run [9, 10, 11, 12, 13, 14, 15, 16, 17, 18, 19, 20, 21, 22, 23, 24, 25, 26, 27, 28, 29, 30, 31, 32, 33, 34, 35, 36, 37, 38, 39, 40, 41, 42, 43, 44, 45, 46, 47, 1] [(true, true)] ⟨rfl, trivial⟩ ?_
            exact Goes.ret [] (.bool false) fun w' hm hI => ⟨by rw [hst, hdrop, rlF, rl_bad1 (.inr (.inl hop))]; rfl, bel1 hob hm hI⟩
        | succ j =>
          obtain ⟨y, hy⟩ : ∃ y, l[j]? = some y := ⟨l[j]'(by omega), by simp⟩
          obtain ⟨b'', o'', e'', -, y1, -⟩ := hlv j y hy
          cases e''
          have hlast : lstD l (j + 1) = y.1 := by simp [lstD, hy]
          refine Goes.open [0] ?_
          cases hb1 : decide (x.1 < 0) with
          | true =>
            refine Goes.run [0, 1] [] trivial ?_
            refine Goes.valA 2 (Instr.indexAt 31 (.slice (some ⟨b, o, none⟩) M cL) (.int .i64 ((j + 1 : Nat) : Int))) (.pointer (some ⟨b, o + (j + 1) * 2, none⟩)) (fun w' _ => idxLv b o M cL (j + 1) (by omega) w') ?_
            refine Goes.run [3] [] trivial ?_
            refine Goes.valA 4 (Instr.loadAt 3 (.pointer (some ⟨b, o + (j + 1) * 2, none⟩))) (.int .i64 x.1) (fun w' hm => load1 Tryz.isAgg3 (Cel.same x1 hob (hm.get 0))) ?_
            refine Goes.run [5] [] trivial ?_
            refine Goes.slot 53 (.bool true) (u := .bool (decide (x.1 < 0))) (congrArg _ (hb1)) ?_
            refine Goes.run [6, 7, 8, 9, 10, 11, 12, 13, 14, 15, 16, 17, 18, 19, 20, 21, 22, 23, 24, 25, 26, 27, 28, 29, 30, 31, 32, 33, 34, 35, 36, 37, 38, 39, 40, 41, 42, 43, 44, 45, 46, 47, 1] [(true, true)] ⟨rfl, trivial⟩ ?_
            exact Goes.ret [] (.bool false) fun w' hm hI => ⟨by rw [hst, hdrop, rlF, rl_bad1 (.inr (.inl (by unfold opAt; rw [term_out (of_decide_eq_true hb1)])))]; rfl, bel1 hob hm hI⟩
          | false =>
            cases hb3 : decide (y.1 ≥ x.1) with
            | true =>
              refine Goes.run [0, 1] [] trivial ?_
              refine Goes.valA 2 (Instr.indexAt 31 (.slice (some ⟨b, o, none⟩) M cL) (.int .i64 ((j + 1 : Nat) : Int))) (.pointer (some ⟨b, o + (j + 1) * 2, none⟩)) (fun w' _ => idxLv b o M cL (j + 1) (by omega) w') ?_
              refine Goes.run [3] [] trivial ?_
              refine Goes.valA 4 (Instr.loadAt 3 (.pointer (some ⟨b, o + (j + 1) * 2, none⟩))) (.int .i64 x.1) (fun w' hm => load1 Tryz.isAgg3 (Cel.same x1 hob (hm.get 0))) ?_
              refine Goes.run [5] [] trivial ?_
              refine Goes.slot 53 (.bool false) (u := .bool (decide (x.1 < 0))) (congrArg _ (hb1)) ?_
              refine Goes.run [6, 7, 8] [] trivial ?_
              refine Goes.slot 56 (.bool true) (u := .bool (decide (((j + 1 : Nat) : Int) > 0))) (congrArg _ (decide_eq_true (by omega))) ?_
              refine Goes.run [9, 10, 11, 12] [] trivial ?_
              refine Goes.slot 60 (.int .i64 (j : Int)) (u := .int .i64 (IntKind.i64.wrap (((j + 1 : Nat) : Int) - 1))) (congrArg _ (by rw [IntWalk.i64_in _ ⟨by omega, by omega⟩]; omega)) ?_
              refine Goes.valA 13 (Instr.indexAt 31 (.slice (some ⟨b, o, none⟩) M cL) (.int .i64 (j : Int))) (.pointer (some ⟨b, o + j * 2, none⟩)) (fun w' _ => idxLv b o M cL j (by omega) w') ?_
              refine Goes.run [14] [] trivial ?_
              refine Goes.valA 15 (Instr.loadAt 3 (.pointer (some ⟨b, o + j * 2, none⟩))) (.int .i64 y.1) (fun w' hm => load1 Tryz.isAgg3 (Cel.same y1 hob (hm.get 0))) ?_
              refine Goes.run [16, 17] [] trivial ?_
              refine Goes.valA 18 (Instr.indexAt 31 (.slice (some ⟨b, o, none⟩) M cL) (.int .i64 ((j + 1 : Nat) : Int))) (.pointer (some ⟨b, o + (j + 1) * 2, none⟩)) (fun w' _ => idxLv b o M cL (j + 1) (by omega) w') ?_
              refine Goes.run [19] [] trivial ?_
              refine Goes.valA 20 (Instr.loadAt 3 (.pointer (some ⟨b, o + (j + 1) * 2, none⟩))) (.int .i64 x.1) (fun w' hm => load1 Tryz.isAgg3 (Cel.same x1 hob (hm.get 0))) ?_
              refine Goes.run [21] [] trivial ?_
              refine Goes.slot 69 (.bool true) (u := .bool (decide (y.1 ≥ x.1))) (congrArg _ (hb3)) ?_
              refine Goes.run [22, 23, 24, 25, 26, 27, 28, 29, 30, 31, 32, 33, 34, 35, 36, 37, 38, 39, 40, 41, 42, 43, 44, 45, 46, 47, 1] [(true, true)] ⟨rfl, trivial⟩ ?_
              exact Goes.ret [] (.bool false) fun w' hm hI => ⟨by rw [hst, hdrop, rlF, rl_bad1 (.inl (by rw [hlast]; have := of_decide_eq_true hb3; omega))]; rfl, bel1 hob hm hI⟩
            | false =>
              refine Goes.run [0, 1] [] trivial ?_
              refine Goes.valA 2 (Instr.indexAt 31 (.slice (some ⟨b, o, none⟩) M cL) (.int .i64 ((j + 1 : Nat) : Int))) (.pointer (some ⟨b, o + (j + 1) * 2, none⟩)) (fun w' _ => idxLv b o M cL (j + 1) (by omega) w') ?_
              refine Goes.run [3] [] trivial ?_
              refine Goes.valA 4 (Instr.loadAt 3 (.pointer (some ⟨b, o + (j + 1) * 2, none⟩))) (.int .i64 x.1) (fun w' hm => load1 Tryz.isAgg3 (Cel.same x1 hob (hm.get 0))) ?_
              refine Goes.run [5] [] trivial ?_
              refine Goes.slot 53 (.bool false) (u := .bool (decide (x.1 < 0))) (congrArg _ (hb1)) ?_
              refine Goes.run [6, 7, 8] [] trivial ?_
              refine Goes.slot 56 (.bool true) (u := .bool (decide (((j + 1 : Nat) : Int) > 0))) (congrArg _ (decide_eq_true (by omega))) ?_
              refine Goes.run [9, 10, 11, 12] [] trivial ?_
              refine Goes.slot 60 (.int .i64 (j : Int)) (u := .int .i64 (IntKind.i64.wrap (((j + 1 : Nat) : Int) - 1))) (congrArg _ (by rw [IntWalk.i64_in _ ⟨by omega, by omega⟩]; omega)) ?_
              refine Goes.valA 13 (Instr.indexAt 31 (.slice (some ⟨b, o, none⟩) M cL) (.int .i64 (j : Int))) (.pointer (some ⟨b, o + j * 2, none⟩)) (fun w' _ => idxLv b o M cL j (by omega) w') ?_
              refine Goes.run [14] [] trivial ?_
              refine Goes.valA 15 (Instr.loadAt 3 (.pointer (some ⟨b, o + j * 2, none⟩))) (.int .i64 y.1) (fun w' hm => load1 Tryz.isAgg3 (Cel.same y1 hob (hm.get 0))) ?_
              refine Goes.run [16, 17] [] trivial ?_
              refine Goes.valA 18 (Instr.indexAt 31 (.slice (some ⟨b, o, none⟩) M cL) (.int .i64 ((j + 1 : Nat) : Int))) (.pointer (some ⟨b, o + (j + 1) * 2, none⟩)) (fun w' _ => idxLv b o M cL (j + 1) (by omega) w') ?_
              refine Goes.run [19] [] trivial ?_
              refine Goes.valA 20 (Instr.loadAt 3 (.pointer (some ⟨b, o + (j + 1) * 2, none⟩))) (.int .i64 x.1) (fun w' hm => load1 Tryz.isAgg3 (Cel.same x1 hob (hm.get 0))) ?_
              refine Goes.run [21] [] trivial ?_
              refine Goes.slot 69 (.bool false) (u := .bool (decide (y.1 ≥ x.1))) (congrArg _ (hb3)) ?_
              refine Goes.run [22, 23, 24, 25, 26, 27, 28, 29, 30, 31, 32, 33, 34, 35, 36, 37, 38, 39, 40, 41, 42, 43, 44, 45, 46, 47, 1] [(true, true)] ⟨rfl, trivial⟩ ?_
              exact Goes.ret [] (.bool false) fun w' hm hI => ⟨by rw [hst, hdrop, rlF, rl_bad1 (.inr (.inl hop))]; rfl, bel1 hob hm hI⟩
      | true =>
        cases W with
        | false =>
          have hop : opAt c x.1 = false := by rw [hop, hk]; rfl
          cases i with
          | zero =>
            refine Goes.open [0] ?_
            cases hb1 : decide (x.1 < 0) with
            | true =>
              refine Goes.run [0, 1] [] trivial ?_
              refine Goes.valA 2 (Instr.indexAt 31 (.slice (some ⟨b, o, none⟩) M cL) (.int .i64 ((0 : Nat) : Int))) (.pointer (some ⟨b, o + 0 * 2, none⟩)) (fun w' _ => idxLv b o M cL 0 (by omega) w') ?_
              refine Goes.run [3] [] trivial ?_
              refine Goes.valA 4 (Instr.loadAt 3 (.pointer (some ⟨b, o + 0 * 2, none⟩))) (.int .i64 x.1) (fun w' hm => load1 Tryz.isAgg3 (Cel.same x1 hob (hm.get 0))) ?_
              refine Goes.run [5] [] trivial ?_
              refine Goes.slot 53 (.bool true) (u := .bool (decide (x.1 < 0))) (congrArg _ (hb1)) ?_
              refine Goes.run [6, 7, 8, 9, 10, 11, 12, 13, 14, 15, 16, 17, 18, 19, 20, 21, 22, 23, 24, 25, 26, 27, 28, 29, 30, 31, 32, 33, 34, 35, 36, 37, 38, 39, 40, 41, 42, 43, 44, 45, 46, 47, 1] [(true, true)] ⟨rfl, trivial⟩ ?_
              exact Goes.ret [] (.bool false) fun w' hm hI => ⟨by rw [hst, hdrop, rlF, rl_bad1 (.inl (by show x.1 ≤ -1; have := of_decide_eq_true hb1; omega))]; rfl, bel1 hob hm hI⟩
            | false =>
              refine Goes.run [0, 1] [] trivial ?_
              refine Goes.valA 2 (Instr.indexAt 31 (.slice (some ⟨b, o, none⟩) M cL) (.int .i64 ((0 : Nat) : Int))) (.pointer (some ⟨b, o + 0 * 2, none⟩)) (fun w' _ => idxLv b o M cL 0 (by omega) w') ?_
              refine Goes.run [3] [] trivial ?_
              refine Goes.valA 4 (Instr.loadAt 3 (.pointer (some ⟨b, o + 0 * 2, none⟩))) (.int .i64 x.1) (fun w' hm => load1 Tryz.isAgg3 (Cel.same x1 hob (hm.get 0))) ?_
              refine Goes.run [5] [] trivial ?_
              refine Goes.slot 53 (.bool false) (u := .bool (decide (x.1 < 0))) (congrArg _ (hb1)) ?_
              refine Goes.run [6, 7, 8] [] trivial ?_
              refine Goes.slot 56 (.bool false) (u := .bool (decide (((0 : Nat) : Int) > 0))) (congrArg _ (rfl)) ?_
              refine Goes.run [9, 10, 11, 12, 13, 14, 15, 16, 17, 18, 19, 20, 21, 22, 23, 24, 25, 26, 27, 28, 29, 30, 31, 32, 33, 34, 35, 36, 37, 38, 39, 40, 41, 42, 43, 44, 45, 46, 47, 1] [(true, true)] ⟨rfl, trivial⟩ ?_
              exact Goes.ret [] (.bool false) fun w' hm hI => ⟨by rw [hst, hdrop, rlF, rl_bad1 (.inr (.inl hop))]; rfl, bel1 hob hm hI⟩
          | succ j =>
            obtain ⟨y, hy⟩ : ∃ y, l[j]? = some y := ⟨l[j]'(by omega), by simp⟩
            obtain ⟨b'', o'', e'', -, y1, -⟩ := hlv j y hy
            cases e''
            have hlast : lstD l (j + 1) = y.1 := by simp [lstD, hy]
            refine Goes.open [0] ?_
            cases hb1 : decide (x.1 < 0) with
            | true =>
              refine Goes.run [0, 1] [] trivial ?_
              refine Goes.valA 2 (Instr.indexAt 31 (.slice (some ⟨b, o, none⟩) M cL) (.int .i64 ((j + 1 : Nat) : Int))) (.pointer (some ⟨b, o + (j + 1) * 2, none⟩)) (fun w' _ => idxLv b o M cL (j + 1) (by omega) w') ?_
              refine Goes.run [3] [] trivial ?_
              refine Goes.valA 4 (Instr.loadAt 3 (.pointer (some ⟨b, o + (j + 1) * 2, none⟩))) (.int .i64 x.1) (fun w' hm => load1 Tryz.isAgg3 (Cel.same x1 hob (hm.get 0))) ?_
              refine Goes.run [5] [] trivial ?_
              refine Goes.slot 53 (.bool true) (u := .bool (decide (x.1 < 0))) (congrArg _ (hb1)) ?_
              refine Goes.run [6, 7, 8, 9, 10, 11, 12, 13, 14, 15, 16, 17, 18, 19, 20, 21, 22, 23, 24, 25, 26, 27, 28, 29, 30, 31, 32, 33, 34, 35, 36, 37, 38, 39, 40, 41, 42, 43, 44, 45, 46, 47, 1] [(true, true)] ⟨rfl, trivial⟩ ?_
              exact Goes.ret [] (.bool false) fun w' hm hI => ⟨by rw [hst, hdrop, rlF, rl_bad1 (.inr (.inl (by unfold opAt; rw [term_out (of_decide_eq_true hb1)])))]; rfl, bel1 hob hm hI⟩
            | false =>
              cases hb3 : decide (y.1 ≥ x.1) with
              | true =>
                refine Goes.run [0, 1] [] trivial ?_
                refine Goes.valA 2 (Instr.indexAt 31 (.slice (some ⟨b, o, none⟩) M cL) (.int .i64 ((j + 1 : Nat) : Int))) (.pointer (some ⟨b, o + (j + 1) * 2, none⟩)) (fun w' _ => idxLv b o M cL (j + 1) (by omega) w') ?_
                refine Goes.run [3] [] trivial ?_
                refine Goes.valA 4 (Instr.loadAt 3 (.pointer (some ⟨b, o + (j + 1) * 2, none⟩))) (.int .i64 x.1) (fun w' hm => load1 Tryz.isAgg3 (Cel.same x1 hob (hm.get 0))) ?_
                refine Goes.run [5] [] trivial ?_
                refine Goes.slot 53 (.bool false) (u := .bool (decide (x.1 < 0))) (congrArg _ (hb1)) ?_
                refine Goes.run [6, 7, 8] [] trivial ?_
                refine Goes.slot 56 (.bool true) (u := .bool (decide (((j + 1 : Nat) : Int) > 0))) (congrArg _ (decide_eq_true (by omega))) ?_
                refine Goes.run [9, 10, 11, 12] [] trivial ?_
                refine Goes.slot 60 (.int .i64 (j : Int)) (u := .int .i64 (IntKind.i64.wrap (((j + 1 : Nat) : Int) - 1))) (congrArg _ (by rw [IntWalk.i64_in _ ⟨by omega, by omega⟩]; omega)) ?_
                refine Goes.valA 13 (Instr.indexAt 31 (.slice (some ⟨b, o, none⟩) M cL) (.int .i64 (j : Int))) (.pointer (some ⟨b, o + j * 2, none⟩)) (fun w' _ => idxLv b o M cL j (by omega) w') ?_
                refine Goes.run [14] [] trivial ?_
                refine Goes.valA 15 (Instr.loadAt 3 (.pointer (some ⟨b, o + j * 2, none⟩))) (.int .i64 y.1) (fun w' hm => load1 Tryz.isAgg3 (Cel.same y1 hob (hm.get 0))) ?_
                refine Goes.run [16, 17] [] trivial ?_
                refine Goes.valA 18 (Instr.indexAt 31 (.slice (some ⟨b, o, none⟩) M cL) (.int .i64 ((j + 1 : Nat) : Int))) (.pointer (some ⟨b, o + (j + 1) * 2, none⟩)) (fun w' _ => idxLv b o M cL (j + 1) (by omega) w') ?_
                refine Goes.run [19] [] trivial ?_
                refine Goes.valA 20 (Instr.loadAt 3 (.pointer (some ⟨b, o + (j + 1) * 2, none⟩))) (.int .i64 x.1) (fun w' hm => load1 Tryz.isAgg3 (Cel.same x1 hob (hm.get 0))) ?_
                refine Goes.run [21] [] trivial ?_
                refine Goes.slot 69 (.bool true) (u := .bool (decide (y.1 ≥ x.1))) (congrArg _ (hb3)) ?_
                refine Goes.run [22, 23, 24, 25, 26, 27, 28, 29, 30, 31, 32, 33, 34, 35, 36, 37, 38, 39, 40, 41, 42, 43, 44, 45, 46, 47, 1] [(true, true)] ⟨rfl, trivial⟩ ?_
                exact Goes.ret [] (.bool false) fun w' hm hI => ⟨by rw [hst, hdrop, rlF, rl_bad1 (.inl (by rw [hlast]; have := of_decide_eq_true hb3; omega))]; rfl, bel1 hob hm hI⟩
              | false =>
                refine Goes.run [0, 1] [] trivial ?_
                refine Goes.valA 2 (Instr.indexAt 31 (.slice (some ⟨b, o, none⟩) M cL) (.int .i64 ((j + 1 : Nat) : Int))) (.pointer (some ⟨b, o + (j + 1) * 2, none⟩)) (fun w' _ => idxLv b o M cL (j + 1) (by omega) w') ?_
                refine Goes.run [3] [] trivial ?_
                refine Goes.valA 4 (Instr.loadAt 3 (.pointer (some ⟨b, o + (j + 1) * 2, none⟩))) (.int .i64 x.1) (fun w' hm => load1 Tryz.isAgg3 (Cel.same x1 hob (hm.get 0))) ?_
                refine Goes.run [5] [] trivial ?_
                refine Goes.slot 53 (.bool false) (u := .bool (decide (x.1 < 0))) (congrArg _ (hb1)) ?_
                refine Goes.run [6, 7, 8] [] trivial ?_
                refine Goes.slot 56 (.bool true) (u := .bool (decide (((j + 1 : Nat) : Int) > 0))) (congrArg _ (decide_eq_true (by omega))) ?_
                refine Goes.run [9, 10, 11, 12] [] trivial ?_
                refine Goes.slot 60 (.int .i64 (j : Int)) (u := .int .i64 (IntKind.i64.wrap (((j + 1 : Nat) : Int) - 1))) (congrArg _ (by rw [IntWalk.i64_in _ ⟨by omega, by omega⟩]; omega)) ?_
                refine Goes.valA 13 (Instr.indexAt 31 (.slice (some ⟨b, o, none⟩) M cL) (.int .i64 (j : Int))) (.pointer (some ⟨b, o + j * 2, none⟩)) (fun w' _ => idxLv b o M cL j (by omega) w') ?_
                refine Goes.run [14] [] trivial ?_
                refine Goes.valA 15 (Instr.loadAt 3 (.pointer (some ⟨b, o + j * 2, none⟩))) (.int .i64 y.1) (fun w' hm => load1 Tryz.isAgg3 (Cel.same y1 hob (hm.get 0))) ?_
                refine Goes.run [16, 17] [] trivial ?_
                refine Goes.valA 18 (Instr.indexAt 31 (.slice (some ⟨b, o, none⟩) M cL) (.int .i64 ((j + 1 : Nat) : Int))) (.pointer (some ⟨b, o + (j + 1) * 2, none⟩)) (fun w' _ => idxLv b o M cL (j + 1) (by omega) w') ?_
                refine Goes.run [19] [] trivial ?_
                refine Goes.valA 20 (Instr.loadAt 3 (.pointer (some ⟨b, o + (j + 1) * 2, none⟩))) (.int .i64 x.1) (fun w' hm => load1 Tryz.isAgg3 (Cel.same x1 hob (hm.get 0))) ?_
                refine Goes.run [21] [] trivial ?_
                refine Goes.slot 69 (.bool false) (u := .bool (decide (y.1 ≥ x.1))) (congrArg _ (hb3)) ?_
                refine Goes.run [22, 23, 24, 25, 26, 27, 28, 29, 30, 31, 32, 33, 34, 35, 36, 37, 38, 39, 40, 41, 42, 43, 44, 45, 46, 47, 1] [(true, true)] ⟨rfl, trivial⟩ ?_
                exact Goes.ret [] (.bool false) fun w' hm hI => ⟨by rw [hst, hdrop, rlF, rl_bad1 (.inr (.inl hop))]; rfl, bel1 hob hm hI⟩
        | true =>
          have hop : opAt c x.1 = true := by rw [hop, hk]; rfl
          cases i with
          | zero =>
            refine Goes.open [0] ?_
            cases hb1 : decide (x.1 < 0) with
            | true =>
              refine Goes.run [0, 1] [] trivial ?_
              refine Goes.valA 2 (Instr.indexAt 31 (.slice (some ⟨b, o, none⟩) M cL) (.int .i64 ((0 : Nat) : Int))) (.pointer (some ⟨b, o + 0 * 2, none⟩)) (fun w' _ => idxLv b o M cL 0 (by omega) w') ?_
              refine Goes.run [3] [] trivial ?_
              refine Goes.valA 4 (Instr.loadAt 3 (.pointer (some ⟨b, o + 0 * 2, none⟩))) (.int .i64 x.1) (fun w' hm => load1 Tryz.isAgg3 (Cel.same x1 hob (hm.get 0))) ?_
              refine Goes.run [5] [] trivial ?_
              refine Goes.slot 53 (.bool true) (u := .bool (decide (x.1 < 0))) (congrArg _ (hb1)) ?_
              refine Goes.run [6, 7, 8, 9, 10, 11, 12, 13, 14, 15, 16, 17, 18, 19, 20, 21, 22, 23, 24, 25, 26, 27, 28, 29, 30, 31, 32, 33, 34, 35, 36, 37, 38, 39, 40, 41, 42, 43, 44, 45, 46, 47, 1] [(true, true)] ⟨rfl, trivial⟩ ?_
              exact Goes.ret [] (.bool false) fun w' hm hI => ⟨by rw [hst, hdrop, rlF, rl_bad1 (.inl (by show x.1 ≤ -1; have := of_decide_eq_true hb1; omega))]; rfl, bel1 hob hm hI⟩
            | false =>
              cases hb4 : decide (x.2 < -1000000000000000) with
              | true =>
                refine Goes.run [0, 1] [] trivial ?_
                refine Goes.valA 2 (Instr.indexAt 31 (.slice (some ⟨b, o, none⟩) M cL) (.int .i64 ((0 : Nat) : Int))) (.pointer (some ⟨b, o + 0 * 2, none⟩)) (fun w' _ => idxLv b o M cL 0 (by omega) w') ?_
                refine Goes.run [3] [] trivial ?_
                refine Goes.valA 4 (Instr.loadAt 3 (.pointer (some ⟨b, o + 0 * 2, none⟩))) (.int .i64 x.1) (fun w' hm => load1 Tryz.isAgg3 (Cel.same x1 hob (hm.get 0))) ?_
                refine Goes.run [5] [] trivial ?_
                refine Goes.slot 53 (.bool false) (u := .bool (decide (x.1 < 0))) (congrArg _ (hb1)) ?_
                refine Goes.run [6, 7, 8] [] trivial ?_
                refine Goes.slot 56 (.bool false) (u := .bool (decide (((0 : Nat) : Int) > 0))) (congrArg _ (rfl)) ?_
                refine Goes.run [9, 10, 11, 12, 13, 14, 15, 16, 17, 18, 19, 20, 21, 22, 23, 24, 25, 26, 27, 28, 29, 30, 31, 32, 33, 34] [] trivial ?_
                refine Goes.valA 35 (Instr.indexAt 31 (.slice (some ⟨b, o, none⟩) M cL) (.int .i64 ((0 : Nat) : Int))) (.pointer (some ⟨b, o + 0 * 2, none⟩)) (fun w' _ => idxLv b o M cL 0 (by omega) w') ?_
                refine Goes.run [36] [] trivial ?_
                refine Goes.valA 37 (Instr.loadAt 2 (.pointer (some ⟨b, o + 0 * 2 + 1, none⟩))) (.int .i64 x.2) (fun w' hm => load1 Tryz.isAgg2 (Cel.same x2 hob (hm.get 0))) ?_
                refine Goes.run [38] [] trivial ?_
                refine Goes.slot 86 (.bool true) (u := .bool (decide (x.2 < -1000000000000000))) (congrArg _ (hb4)) ?_
                refine Goes.run [39, 40, 41, 42, 43, 44, 45, 46, 47, 1] [(true, true)] ⟨rfl, trivial⟩ ?_
                exact Goes.ret [] (.bool false) fun w' hm hI => ⟨by rw [hst, hdrop, rlF, rl_bad1 (.inr (.inr (.inl (of_decide_eq_true hb4))))]; rfl, bel1 hob hm hI⟩
              | false =>
                cases hb5 : decide (x.2 > 1000000000000000) with
                | true =>
                  refine Goes.run [0, 1] [] trivial ?_
                  refine Goes.valA 2 (Instr.indexAt 31 (.slice (some ⟨b, o, none⟩) M cL) (.int .i64 ((0 : Nat) : Int))) (.pointer (some ⟨b, o + 0 * 2, none⟩)) (fun w' _ => idxLv b o M cL 0 (by omega) w') ?_
                  refine Goes.run [3] [] trivial ?_
                  refine Goes.valA 4 (Instr.loadAt 3 (.pointer (some ⟨b, o + 0 * 2, none⟩))) (.int .i64 x.1) (fun w' hm => load1 Tryz.isAgg3 (Cel.same x1 hob (hm.get 0))) ?_
                  refine Goes.run [5] [] trivial ?_
                  refine Goes.slot 53 (.bool false) (u := .bool (decide (x.1 < 0))) (congrArg _ (hb1)) ?_
                  refine Goes.run [6, 7, 8] [] trivial ?_
                  refine Goes.slot 56 (.bool false) (u := .bool (decide (((0 : Nat) : Int) > 0))) (congrArg _ (rfl)) ?_
                  refine Goes.run [9, 10, 11, 12, 13, 14, 15, 16, 17, 18, 19, 20, 21, 22, 23, 24, 25, 26, 27, 28, 29, 30, 31, 32, 33, 34] [] trivial ?_
                  refine Goes.valA 35 (Instr.indexAt 31 (.slice (some ⟨b, o, none⟩) M cL) (.int .i64 ((0 : Nat) : Int))) (.pointer (some ⟨b, o + 0 * 2, none⟩)) (fun w' _ => idxLv b o M cL 0 (by omega) w') ?_
                  refine Goes.run [36] [] trivial ?_
                  refine Goes.valA 37 (Instr.loadAt 2 (.pointer (some ⟨b, o + 0 * 2 + 1, none⟩))) (.int .i64 x.2) (fun w' hm => load1 Tryz.isAgg2 (Cel.same x2 hob (hm.get 0))) ?_
                  refine Goes.run [38] [] trivial ?_
                  refine Goes.slot 86 (.bool false) (u := .bool (decide (x.2 < -1000000000000000))) (congrArg _ (hb4)) ?_
                  refine Goes.run [39, 40, 41, 42] [] trivial ?_
                  refine Goes.valA 43 (Instr.indexAt 31 (.slice (some ⟨b, o, none⟩) M cL) (.int .i64 ((0 : Nat) : Int))) (.pointer (some ⟨b, o + 0 * 2, none⟩)) (fun w' _ => idxLv b o M cL 0 (by omega) w') ?_
                  refine Goes.run [44] [] trivial ?_
                  refine Goes.valA 45 (Instr.loadAt 2 (.pointer (some ⟨b, o + 0 * 2 + 1, none⟩))) (.int .i64 x.2) (fun w' hm => load1 Tryz.isAgg2 (Cel.same x2 hob (hm.get 0))) ?_
                  refine Goes.run [46] [] trivial ?_
                  refine Goes.slot 94 (.bool true) (u := .bool (decide (x.2 > 1000000000000000))) (congrArg _ (hb5)) ?_
                  refine Goes.run [47, 1] [(true, true)] ⟨rfl, trivial⟩ ?_
                  exact Goes.ret [] (.bool false) fun w' hm hI => ⟨by rw [hst, hdrop, rlF, rl_bad1 (.inr (.inr (.inr (of_decide_eq_true hb5))))]; rfl, bel1 hob hm hI⟩
                | false =>
                  refine Goes.run [0, 1] [] trivial ?_
                  refine Goes.valA 2 (Instr.indexAt 31 (.slice (some ⟨b, o, none⟩) M cL) (.int .i64 ((0 : Nat) : Int))) (.pointer (some ⟨b, o + 0 * 2, none⟩)) (fun w' _ => idxLv b o M cL 0 (by omega) w') ?_
                  refine Goes.run [3] [] trivial ?_
                  refine Goes.valA 4 (Instr.loadAt 3 (.pointer (some ⟨b, o + 0 * 2, none⟩))) (.int .i64 x.1) (fun w' hm => load1 Tryz.isAgg3 (Cel.same x1 hob (hm.get 0))) ?_
                  refine Goes.run [5] [] trivial ?_
                  refine Goes.slot 53 (.bool false) (u := .bool (decide (x.1 < 0))) (congrArg _ (hb1)) ?_
                  refine Goes.run [6, 7, 8] [] trivial ?_
                  refine Goes.slot 56 (.bool false) (u := .bool (decide (((0 : Nat) : Int) > 0))) (congrArg _ (rfl)) ?_
                  refine Goes.run [9, 10, 11, 12, 13, 14, 15, 16, 17, 18, 19, 20, 21, 22, 23, 24, 25, 26, 27, 28, 29, 30, 31, 32, 33, 34] [] trivial ?_
                  refine Goes.valA 35 (Instr.indexAt 31 (.slice (some ⟨b, o, none⟩) M cL) (.int .i64 ((0 : Nat) : Int))) (.pointer (some ⟨b, o + 0 * 2, none⟩)) (fun w' _ => idxLv b o M cL 0 (by omega) w') ?_
                  refine Goes.run [36] [] trivial ?_
                  refine Goes.valA 37 (Instr.loadAt 2 (.pointer (some ⟨b, o + 0 * 2 + 1, none⟩))) (.int .i64 x.2) (fun w' hm => load1 Tryz.isAgg2 (Cel.same x2 hob (hm.get 0))) ?_
                  refine Goes.run [38] [] trivial ?_
                  refine Goes.slot 86 (.bool false) (u := .bool (decide (x.2 < -1000000000000000))) (congrArg _ (hb4)) ?_
                  refine Goes.run [39, 40, 41, 42] [] trivial ?_
                  refine Goes.valA 43 (Instr.indexAt 31 (.slice (some ⟨b, o, none⟩) M cL) (.int .i64 ((0 : Nat) : Int))) (.pointer (some ⟨b, o + 0 * 2, none⟩)) (fun w' _ => idxLv b o M cL 0 (by omega) w') ?_
                  refine Goes.run [44] [] trivial ?_
                  refine Goes.valA 45 (Instr.loadAt 2 (.pointer (some ⟨b, o + 0 * 2 + 1, none⟩))) (.int .i64 x.2) (fun w' hm => load1 Tryz.isAgg2 (Cel.same x2 hob (hm.get 0))) ?_
                  refine Goes.run [46] [] trivial ?_
                  refine Goes.slot 94 (.bool false) (u := .bool (decide (x.2 > 1000000000000000))) (congrArg _ (hb5)) ?_
                  refine Goes.run [47, 0] [(false, false)] ⟨rfl, trivial⟩ ?_
                  refine Goes.slot 5 (.int .i64 (0 + 1 : Nat)) (u := .int .i64 (IntKind.i64.wrap (((0 : Nat) : Int) + 1))) (congrArg _ (wrap_nat (by omega))) ?_
                  have hgood := rl_good1 (c := c) (x := x) (last := lstD l 0) (by show (-1 : Int) < x.1; have := of_decide_eq_false hb1; omega) hop (of_decide_eq_false hb4) (of_decide_eq_false hb5)
                  refine Goes.keep 2 ?_
                  exact back (0 + 1) _ ⟨by omega, by rw [hst, hdrop, rlF, hgood, Bool.true_and]; rw [show lstD l (0 + 1) = x.1 by simp [lstD, hx]]⟩ (by omega) (by kernel_rfl) (by kernel_rfl) (by kernel_rfl)
          | succ j =>
            obtain ⟨y, hy⟩ : ∃ y, l[j]? = some y := ⟨l[j]'(by omega), by simp⟩
            obtain ⟨b'', o'', e'', -, y1, -⟩ := hlv j y hy
            cases e''
            have hlast : lstD l (j + 1) = y.1 := by simp [lstD, hy]
            refine Goes.open [0] ?_
            cases hb1 : decide (x.1 < 0) with
            | true =>
              refine Goes.run [0, 1] [] trivial ?_
              refine Goes.valA 2 (Instr.indexAt 31 (.slice (some ⟨b, o, none⟩) M cL) (.int .i64 ((j + 1 : Nat) : Int))) (.pointer (some ⟨b, o + (j + 1) * 2, none⟩)) (fun w' _ => idxLv b o M cL (j + 1) (by omega) w') ?_
              refine Goes.run [3] [] trivial ?_
              refine Goes.valA 4 (Instr.loadAt 3 (.pointer (some ⟨b, o + (j + 1) * 2, none⟩))) (.int .i64 x.1) (fun w' hm => load1 Tryz.isAgg3 (Cel.same x1 hob (hm.get 0))) ?_
              refine Goes.run [5] [] trivial ?_
              refine Goes.slot 53 (.bool true) (u := .bool (decide (x.1 < 0))) (congrArg _ (hb1)) ?_
              refine Goes.run [6, 7, 8, 9, 10, 11, 12, 13, 14, 15, 16, 17, 18, 19, 20, 21, 22, 23, 24, 25, 26, 27, 28, 29, 30, 31, 32, 33, 34, 35, 36, 37, 38, 39, 40, 41, 42, 43, 44, 45, 46, 47, 1] [(true, true)] ⟨rfl, trivial⟩ ?_
              exact Goes.ret [] (.bool false) fun w' hm hI => ⟨by rw [hst, hdrop, rlF, rl_bad1 (.inr (.inl (by unfold opAt; rw [term_out (of_decide_eq_true hb1)])))]; rfl, bel1 hob hm hI⟩
            | false =>
              cases hb3 : decide (y.1 ≥ x.1) with
              | true =>
                refine Goes.run [0, 1] [] trivial ?_
                refine Goes.valA 2 (Instr.indexAt 31 (.slice (some ⟨b, o, none⟩) M cL) (.int .i64 ((j + 1 : Nat) : Int))) (.pointer (some ⟨b, o + (j + 1) * 2, none⟩)) (fun w' _ => idxLv b o M cL (j + 1) (by omega) w') ?_
                refine Goes.run [3] [] trivial ?_
                refine Goes.valA 4 (Instr.loadAt 3 (.pointer (some ⟨b, o + (j + 1) * 2, none⟩))) (.int .i64 x.1) (fun w' hm => load1 Tryz.isAgg3 (Cel.same x1 hob (hm.get 0))) ?_
                refine Goes.run [5] [] trivial ?_
                refine Goes.slot 53 (.bool false) (u := .bool (decide (x.1 < 0))) (congrArg _ (hb1)) ?_
                refine Goes.run [6, 7, 8] [] trivial ?_
                refine Goes.slot 56 (.bool true) (u := .bool (decide (((j + 1 : Nat) : Int) > 0))) (congrArg _ (decide_eq_true (by omega))) ?_
                refine Goes.run [9, 10, 11, 12] [] trivial ?_
                refine Goes.slot 60 (.int .i64 (j : Int)) (u := .int .i64 (IntKind.i64.wrap (((j + 1 : Nat) : Int) - 1))) (congrArg _ (by rw [IntWalk.i64_in _ ⟨by omega, by omega⟩]; omega)) ?_
                refine Goes.valA 13 (Instr.indexAt 31 (.slice (some ⟨b, o, none⟩) M cL) (.int .i64 (j : Int))) (.pointer (some ⟨b, o + j * 2, none⟩)) (fun w' _ => idxLv b o M cL j (by omega) w') ?_
                refine Goes.run [14] [] trivial ?_
                refine Goes.valA 15 (Instr.loadAt 3 (.pointer (some ⟨b, o + j * 2, none⟩))) (.int .i64 y.1) (fun w' hm => load1 Tryz.isAgg3 (Cel.same y1 hob (hm.get 0))) ?_
                refine Goes.run [16, 17] [] trivial ?_
                refine Goes.valA 18 (Instr.indexAt 31 (.slice (some ⟨b, o, none⟩) M cL) (.int .i64 ((j + 1 : Nat) : Int))) (.pointer (some ⟨b, o + (j + 1) * 2, none⟩)) (fun w' _ => idxLv b o M cL (j + 1) (by omega) w') ?_
                refine Goes.run [19] [] trivial ?_
                refine Goes.valA 20 (Instr.loadAt 3 (.pointer (some ⟨b, o + (j + 1) * 2, none⟩))) (.int .i64 x.1) (fun w' hm => load1 Tryz.isAgg3 (Cel.same x1 hob (hm.get 0))) ?_
                refine Goes.run [21] [] trivial ?_
                refine Goes.slot 69 (.bool true) (u := .bool (decide (y.1 ≥ x.1))) (congrArg _ (hb3)) ?_
                refine Goes.run [22, 23, 24, 25, 26, 27, 28, 29, 30, 31, 32, 33, 34, 35, 36, 37, 38, 39, 40, 41, 42, 43, 44, 45, 46, 47, 1] [(true, true)] ⟨rfl, trivial⟩ ?_
                exact Goes.ret [] (.bool false) fun w' hm hI => ⟨by rw [hst, hdrop, rlF, rl_bad1 (.inl (by rw [hlast]; have := of_decide_eq_true hb3; omega))]; rfl, bel1 hob hm hI⟩
              | false =>
                cases hb4 : decide (x.2 < -1000000000000000) with
                | true =>
                  refine Goes.run [0, 1] [] trivial ?_
                  refine Goes.valA 2 (Instr.indexAt 31 (.slice (some ⟨b, o, none⟩) M cL) (.int .i64 ((j + 1 : Nat) : Int))) (.pointer (some ⟨b, o + (j + 1) * 2, none⟩)) (fun w' _ => idxLv b o M cL (j + 1) (by omega) w') ?_
                  refine Goes.run [3] [] trivial ?_
                  refine Goes.valA 4 (Instr.loadAt 3 (.pointer (some ⟨b, o + (j + 1) * 2, none⟩))) (.int .i64 x.1) (fun w' hm => load1 Tryz.isAgg3 (Cel.same x1 hob (hm.get 0))) ?_
                  refine Goes.run [5] [] trivial ?_
                  refine Goes.slot 53 (.bool false) (u := .bool (decide (x.1 < 0))) (congrArg _ (hb1)) ?_
                  refine Goes.run [6, 7, 8] [] trivial ?_
                  refine Goes.slot 56 (.bool true) (u := .bool (decide (((j + 1 : Nat) : Int) > 0))) (congrArg _ (decide_eq_true (by omega))) ?_
                  refine Goes.run [9, 10, 11, 12] [] trivial ?_
                  refine Goes.slot 60 (.int .i64 (j : Int)) (u := .int .i64 (IntKind.i64.wrap (((j + 1 : Nat) : Int) - 1))) (congrArg _ (by rw [IntWalk.i64_in _ ⟨by omega, by omega⟩]; omega)) ?_
                  refine Goes.valA 13 (Instr.indexAt 31 (.slice (some ⟨b, o, none⟩) M cL) (.int .i64 (j : Int))) (.pointer (some ⟨b, o + j * 2, none⟩)) (fun w' _ => idxLv b o M cL j (by omega) w') ?_
                  refine Goes.run [14] [] trivial ?_
                  refine Goes.valA 15 (Instr.loadAt 3 (.pointer (some ⟨b, o + j * 2, none⟩))) (.int .i64 y.1) (fun w' hm => load1 Tryz.isAgg3 (Cel.same y1 hob (hm.get 0))) ?_
                  refine Goes.run [16, 17] [] trivial ?_
                  refine Goes.valA 18 (Instr.indexAt 31 (.slice (some ⟨b, o, none⟩) M cL) (.int .i64 ((j + 1 : Nat) : Int))) (.pointer (some ⟨b, o + (j + 1) * 2, none⟩)) (fun w' _ => idxLv b o M cL (j + 1) (by omega) w') ?_
                  refine Goes.run [19] [] trivial ?_
                  refine Goes.valA 20 (Instr.loadAt 3 (.pointer (some ⟨b, o + (j + 1) * 2, none⟩))) (.int .i64 x.1) (fun w' hm => load1 Tryz.isAgg3 (Cel.same x1 hob (hm.get 0))) ?_
                  refine Goes.run [21] [] trivial ?_
                  refine Goes.slot 69 (.bool false) (u := .bool (decide (y.1 ≥ x.1))) (congrArg _ (hb3)) ?_
                  refine Goes.run [22, 23, 24, 25, 26, 27, 28, 29, 30, 31, 32, 33, 34] [] trivial ?_
                  refine Goes.valA 35 (Instr.indexAt 31 (.slice (some ⟨b, o, none⟩) M cL) (.int .i64 ((j + 1 : Nat) : Int))) (.pointer (some ⟨b, o + (j + 1) * 2, none⟩)) (fun w' _ => idxLv b o M cL (j + 1) (by omega) w') ?_
                  refine Goes.run [36] [] trivial ?_
                  refine Goes.valA 37 (Instr.loadAt 2 (.pointer (some ⟨b, o + (j + 1) * 2 + 1, none⟩))) (.int .i64 x.2) (fun w' hm => load1 Tryz.isAgg2 (Cel.same x2 hob (hm.get 0))) ?_
                  refine Goes.run [38] [] trivial ?_
                  refine Goes.slot 86 (.bool true) (u := .bool (decide (x.2 < -1000000000000000))) (congrArg _ (hb4)) ?_
                  refine Goes.run [39, 40, 41, 42, 43, 44, 45, 46, 47, 1] [(true, true)] ⟨rfl, trivial⟩ ?_
                  exact Goes.ret [] (.bool false) fun w' hm hI => ⟨by rw [hst, hdrop, rlF, rl_bad1 (.inr (.inr (.inl (of_decide_eq_true hb4))))]; rfl, bel1 hob hm hI⟩
                | false =>
                  cases hb5 : decide (x.2 > 1000000000000000) with
                  | true =>
                    refine Goes.run [0, 1] [] trivial ?_
                    refine Goes.valA 2 (Instr.indexAt 31 (.slice (some ⟨b, o, none⟩) M cL) (.int .i64 ((j + 1 : Nat) : Int))) (.pointer (some ⟨b, o + (j + 1) * 2, none⟩)) (fun w' _ => idxLv b o M cL (j + 1) (by omega) w') ?_
                    refine Goes.run [3] [] trivial ?_
                    refine Goes.valA 4 (Instr.loadAt 3 (.pointer (some ⟨b, o + (j + 1) * 2, none⟩))) (.int .i64 x.1) (fun w' hm => load1 Tryz.isAgg3 (Cel.same x1 hob (hm.get 0))) ?_
                    refine Goes.run [5] [] trivial ?_
                    refine Goes.slot 53 (.bool false) (u := .bool (decide (x.1 < 0))) (congrArg _ (hb1)) ?_
                    refine Goes.run [6, 7, 8] [] trivial ?_
                    refine Goes.slot 56 (.bool true) (u := .bool (decide (((j + 1 : Nat) : Int) > 0))) (congrArg _ (decide_eq_true (by omega))) ?_
                    refine Goes.run [9, 10, 11, 12] [] trivial ?_
                    refine Goes.slot 60 (.int .i64 (j : Int)) (u := .int .i64 (IntKind.i64.wrap (((j + 1 : Nat) : Int) - 1))) (congrArg _ (by rw [IntWalk.i64_in _ ⟨by omega, by omega⟩]; omega)) ?_
                    refine Goes.valA 13 (Instr.indexAt 31 (.slice (some ⟨b, o, none⟩) M cL) (.int .i64 (j : Int))) (.pointer (some ⟨b, o + j * 2, none⟩)) (fun w' _ => idxLv b o M cL j (by omega) w') ?_
                    refine Goes.run [14] [] trivial ?_
                    refine Goes.valA 15 (Instr.loadAt 3 (.pointer (some ⟨b, o + j * 2, none⟩))) (.int .i64 y.1) (fun w' hm => load1 Tryz.isAgg3 (Cel.same y1 hob (hm.get 0))) ?_
                    refine Goes.run [16, 17] [] trivial ?_
                    refine Goes.valA 18 (Instr.indexAt 31 (.slice (some ⟨b, o, none⟩) M cL) (.int .i64 ((j + 1 : Nat) : Int))) (.pointer (some ⟨b, o + (j + 1) * 2, none⟩)) (fun w' _ => idxLv b o M cL (j + 1) (by omega) w') ?_
                    refine Goes.run [19] [] trivial ?_
                    refine Goes.valA 20 (Instr.loadAt 3 (.pointer (some ⟨b, o + (j + 1) * 2, none⟩))) (.int .i64 x.1) (fun w' hm => load1 Tryz.isAgg3 (Cel.same x1 hob (hm.get 0))) ?_
                    refine Goes.run [21] [] trivial ?_
                    refine Goes.slot 69 (.bool false) (u := .bool (decide (y.1 ≥ x.1))) (congrArg _ (hb3)) ?_
                    refine Goes.run [22, 23, 24, 25, 26, 27, 28, 29, 30, 31, 32, 33, 34] [] trivial ?_
                    refine Goes.valA 35 (Instr.indexAt 31 (.slice (some ⟨b, o, none⟩) M cL) (.int .i64 ((j + 1 : Nat) : Int))) (.pointer (some ⟨b, o + (j + 1) * 2, none⟩)) (fun w' _ => idxLv b o M cL (j + 1) (by omega) w') ?_
                    refine Goes.run [36] [] trivial ?_
                    refine Goes.valA 37 (Instr.loadAt 2 (.pointer (some ⟨b, o + (j + 1) * 2 + 1, none⟩))) (.int .i64 x.2) (fun w' hm => load1 Tryz.isAgg2 (Cel.same x2 hob (hm.get 0))) ?_
                    refine Goes.run [38] [] trivial ?_
                    refine Goes.slot 86 (.bool false) (u := .bool (decide (x.2 < -1000000000000000))) (congrArg _ (hb4)) ?_
                    refine Goes.run [39, 40, 41, 42] [] trivial ?_
                    refine Goes.valA 43 (Instr.indexAt 31 (.slice (some ⟨b, o, none⟩) M cL) (.int .i64 ((j + 1 : Nat) : Int))) (.pointer (some ⟨b, o + (j + 1) * 2, none⟩)) (fun w' _ => idxLv b o M cL (j + 1) (by omega) w') ?_
                    refine Goes.run [44] [] trivial ?_
                    refine Goes.valA 45 (Instr.loadAt 2 (.pointer (some ⟨b, o + (j + 1) * 2 + 1, none⟩))) (.int .i64 x.2) (fun w' hm => load1 Tryz.isAgg2 (Cel.same x2 hob (hm.get 0))) ?_
                    refine Goes.run [46] [] trivial ?_
                    refine Goes.slot 94 (.bool true) (u := .bool (decide (x.2 > 1000000000000000))) (congrArg _ (hb5)) ?_
                    refine Goes.run [47, 1] [(true, true)] ⟨rfl, trivial⟩ ?_
                    exact Goes.ret [] (.bool false) fun w' hm hI => ⟨by rw [hst, hdrop, rlF, rl_bad1 (.inr (.inr (.inr (of_decide_eq_true hb5))))]; rfl, bel1 hob hm hI⟩
                  | false =>
                    refine Goes.run [0, 1] [] trivial ?_
                    refine Goes.valA 2 (Instr.indexAt 31 (.slice (some ⟨b, o, none⟩) M cL) (.int .i64 ((j + 1 : Nat) : Int))) (.pointer (some ⟨b, o + (j + 1) * 2, none⟩)) (fun w' _ => idxLv b o M cL (j + 1) (by omega) w') ?_
                    refine Goes.run [3] [] trivial ?_
                    refine Goes.valA 4 (Instr.loadAt 3 (.pointer (some ⟨b, o + (j + 1) * 2, none⟩))) (.int .i64 x.1) (fun w' hm => load1 Tryz.isAgg3 (Cel.same x1 hob (hm.get 0))) ?_
                    refine Goes.run [5] [] trivial ?_
                    refine Goes.slot 53 (.bool false) (u := .bool (decide (x.1 < 0))) (congrArg _ (hb1)) ?_
                    refine Goes.run [6, 7, 8] [] trivial ?_
                    refine Goes.slot 56 (.bool true) (u := .bool (decide (((j + 1 : Nat) : Int) > 0))) (congrArg _ (decide_eq_true (by omega))) ?_
                    refine Goes.run [9, 10, 11, 12] [] trivial ?_
                    refine Goes.slot 60 (.int .i64 (j : Int)) (u := .int .i64 (IntKind.i64.wrap (((j + 1 : Nat) : Int) - 1))) (congrArg _ (by rw [IntWalk.i64_in _ ⟨by omega, by omega⟩]; omega)) ?_
                    refine Goes.valA 13 (Instr.indexAt 31 (.slice (some ⟨b, o, none⟩) M cL) (.int .i64 (j : Int))) (.pointer (some ⟨b, o + j * 2, none⟩)) (fun w' _ => idxLv b o M cL j (by omega) w') ?_
                    refine Goes.run [14] [] trivial ?_
                    refine Goes.valA 15 (Instr.loadAt 3 (.pointer (some ⟨b, o + j * 2, none⟩))) (.int .i64 y.1) (fun w' hm => load1 Tryz.isAgg3 (Cel.same y1 hob (hm.get 0))) ?_
                    refine Goes.run [16, 17] [] trivial ?_
                    refine Goes.valA 18 (Instr.indexAt 31 (.slice (some ⟨b, o, none⟩) M cL) (.int .i64 ((j + 1 : Nat) : Int))) (.pointer (some ⟨b, o + (j + 1) * 2, none⟩)) (fun w' _ => idxLv b o M cL (j + 1) (by omega) w') ?_
                    refine Goes.run [19] [] trivial ?_
                    refine Goes.valA 20 (Instr.loadAt 3 (.pointer (some ⟨b, o + (j + 1) * 2, none⟩))) (.int .i64 x.1) (fun w' hm => load1 Tryz.isAgg3 (Cel.same x1 hob (hm.get 0))) ?_
                    refine Goes.run [21] [] trivial ?_
                    refine Goes.slot 69 (.bool false) (u := .bool (decide (y.1 ≥ x.1))) (congrArg _ (hb3)) ?_
                    refine Goes.run [22, 23, 24, 25, 26, 27, 28, 29, 30, 31, 32, 33, 34] [] trivial ?_
                    refine Goes.valA 35 (Instr.indexAt 31 (.slice (some ⟨b, o, none⟩) M cL) (.int .i64 ((j + 1 : Nat) : Int))) (.pointer (some ⟨b, o + (j + 1) * 2, none⟩)) (fun w' _ => idxLv b o M cL (j + 1) (by omega) w') ?_
                    refine Goes.run [36] [] trivial ?_
                    refine Goes.valA 37 (Instr.loadAt 2 (.pointer (some ⟨b, o + (j + 1) * 2 + 1, none⟩))) (.int .i64 x.2) (fun w' hm => load1 Tryz.isAgg2 (Cel.same x2 hob (hm.get 0))) ?_
                    refine Goes.run [38] [] trivial ?_
                    refine Goes.slot 86 (.bool false) (u := .bool (decide (x.2 < -1000000000000000))) (congrArg _ (hb4)) ?_
                    refine Goes.run [39, 40, 41, 42] [] trivial ?_
                    refine Goes.valA 43 (Instr.indexAt 31 (.slice (some ⟨b, o, none⟩) M cL) (.int .i64 ((j + 1 : Nat) : Int))) (.pointer (some ⟨b, o + (j + 1) * 2, none⟩)) (fun w' _ => idxLv b o M cL (j + 1) (by omega) w') ?_
                    refine Goes.run [44] [] trivial ?_
                    refine Goes.valA 45 (Instr.loadAt 2 (.pointer (some ⟨b, o + (j + 1) * 2 + 1, none⟩))) (.int .i64 x.2) (fun w' hm => load1 Tryz.isAgg2 (Cel.same x2 hob (hm.get 0))) ?_
                    refine Goes.run [46] [] trivial ?_
                    refine Goes.slot 94 (.bool false) (u := .bool (decide (x.2 > 1000000000000000))) (congrArg _ (hb5)) ?_
                    refine Goes.run [47, 0] [(false, false)] ⟨rfl, trivial⟩ ?_
                    refine Goes.slot 5 (.int .i64 ((j + 1) + 1 : Nat)) (u := .int .i64 (IntKind.i64.wrap ((((j + 1) : Nat) : Int) + 1))) (congrArg _ (wrap_nat (by omega))) ?_
                    have hgood := rl_good1 (c := c) (x := x) (last := lstD l (j + 1)) (by rw [hlast]; have := of_decide_eq_false hb3; omega) hop (of_decide_eq_false hb4) (of_decide_eq_false hb5)
                    refine Goes.keep 2 ?_
                    exact back ((j + 1) + 1) _ ⟨by omega, by rw [hst, hdrop, rlF, hgood, Bool.true_and]; rw [show lstD l ((j + 1) + 1) = x.1 by simp [lstD, hx]]⟩ (by omega) (by kernel_rfl) (by kernel_rfl) (by kernel_rfl)
    · refine Goes.lone1 6 (TookS.callM 6 36 #[cv op k t (.slice aC NC cc), .int .i64 x.1] fun w1 hm1 hn1 hI1 h01 => ?_)
      have hB1 : Below w.heap.size w w1 := bel1 hob hm1 hI1
      refine (rterm_any c w.heap.size x.1 _ w1 hsz hB1.size (hN.later hB1)).mono fun e w2 hR => ?_
      obtain ⟨o6, k6, s6, a6, n6, c6, he, hv1, hv2, hB2⟩ := hR.form
      refine ⟨_, fun w' => Ch (Mem.ids [(b, ob)]) w w' ∧ True, _, he, h01.bel hB2, hm1.bel hB2, hn1, hI1.bel hB2, ?_⟩
      refine Goes.run [7, 8, 9] [] trivial ?_
      refine Goes.oneA 11 2 [0, 1] ?_
      refine Goes.run [12] [] trivial ?_
      refine Goes.fork (o6 == 26) 33 96 [(1, .slice (some ⟨b, o, none⟩) M cL), (2, .pointer (some ⟨g2, 0, none⟩)), (5, .int .i64 (i : Int)), (6, .pointer (some ⟨g6, 0, none⟩)), (7, .bool (termP c x.1).isSome), (32, .bool ((o6 == 26) || o6 == 28))] [(1, .slice (some ⟨b, o, none⟩) M cL), (2, .pointer (some ⟨g2, 0, none⟩)), (5, .int .i64 (i : Int)), (6, .pointer (some ⟨g6, 0, none⟩)), (7, .bool (termP c x.1).isSome), (32, .bool true)] [(1, .slice (some ⟨b, o, none⟩) M cL), (2, .pointer (some ⟨g2, 0, none⟩)), (5, .int .i64 (i : Int)), (6, .pointer (some ⟨g6, 0, none⟩)), (7, .bool (termP c x.1).isSome), (32, .bool (o6 == 28))] [2, 1] [2, 0, 2] [((o6 == 26), true)] [((o6 == 26), false)] (fun h => ⟨by simp only [h, Bool.true_or], h, trivial⟩) (fun h => ⟨by simp only [h, Bool.false_or], h, trivial⟩) fun J1 => ?_
      refine Goes.fork ((o6 == 26) || o6 == 28) 38 96 [(1, .slice (some ⟨b, o, none⟩) M cL), (2, .pointer (some ⟨g2, 0, none⟩)), (5, .int .i64 (i : Int)), (6, .pointer (some ⟨g6, 0, none⟩)), (7, .bool (termP c x.1).isSome), (37, .bool (((o6 == 26) || o6 == 28) || o6 == 29))] [(1, .slice (some ⟨b, o, none⟩) M cL), (2, .pointer (some ⟨g2, 0, none⟩)), (5, .int .i64 (i : Int)), (6, .pointer (some ⟨g6, 0, none⟩)), (7, .bool (termP c x.1).isSome), (37, .bool true)] [(1, .slice (some ⟨b, o, none⟩) M cL), (2, .pointer (some ⟨g2, 0, none⟩)), (5, .int .i64 (i : Int)), (6, .pointer (some ⟨g6, 0, none⟩)), (7, .bool (termP c x.1).isSome), (37, .bool (o6 == 29))] [1] [0, 2] [(((o6 == 26) || o6 == 28), true)] [(((o6 == 26) || o6 == 28), false)] (fun h => ⟨by simp only [h, Bool.true_or], h, trivial⟩) (fun h => ⟨by simp only [h, Bool.false_or], h, trivial⟩) fun J2 => ?_
      refine Goes.fork (((o6 == 26) || o6 == 28) || o6 == 29) 43 96 [(1, .slice (some ⟨b, o, none⟩) M cL), (2, .pointer (some ⟨g2, 0, none⟩)), (5, .int .i64 (i : Int)), (6, .pointer (some ⟨g6, 0, none⟩)), (7, .bool (termP c x.1).isSome), (42, .bool ((((o6 == 26) || o6 == 28) || o6 == 29) || o6 == 30))] [(1, .slice (some ⟨b, o, none⟩) M cL), (2, .pointer (some ⟨g2, 0, none⟩)), (5, .int .i64 (i : Int)), (6, .pointer (some ⟨g6, 0, none⟩)), (7, .bool (termP c x.1).isSome), (42, .bool true)] [(1, .slice (some ⟨b, o, none⟩) M cL), (2, .pointer (some ⟨g2, 0, none⟩)), (5, .int .i64 (i : Int)), (6, .pointer (some ⟨g6, 0, none⟩)), (7, .bool (termP c x.1).isSome), (42, .bool (o6 == 30))] [1] [0, 2] [((((o6 == 26) || o6 == 28) || o6 == 29), true)] [((((o6 == 26) || o6 == 28) || o6 == 29), false)] (fun h => ⟨by simp only [h, Bool.true_or], h, trivial⟩) (fun h => ⟨by simp only [h, Bool.false_or], h, trivial⟩) fun J3 => ?_
      refine Goes.fork ((((o6 == 26) || o6 == 28) || o6 == 29) || o6 == 30) 8 96 [(1, .slice (some ⟨b, o, none⟩) M cL), (2, .pointer (some ⟨g2, 0, none⟩)), (5, .int .i64 (i : Int)), (6, .pointer (some ⟨g6, 0, none⟩)), (7, .bool (termP c x.1).isSome), (47, .bool (((((o6 == 26) || o6 == 28) || o6 == 29) || o6 == 30) || o6 == 31))] [(1, .slice (some ⟨b, o, none⟩) M cL), (2, .pointer (some ⟨g2, 0, none⟩)), (5, .int .i64 (i : Int)), (6, .pointer (some ⟨g6, 0, none⟩)), (7, .bool (termP c x.1).isSome), (47, .bool true)] [(1, .slice (some ⟨b, o, none⟩) M cL), (2, .pointer (some ⟨g2, 0, none⟩)), (5, .int .i64 (i : Int)), (6, .pointer (some ⟨g6, 0, none⟩)), (7, .bool (termP c x.1).isSome), (47, .bool (o6 == 31))] [1] [0, 2] [(((((o6 == 26) || o6 == 28) || o6 == 29) || o6 == 30), true)] [(((((o6 == 26) || o6 == 28) || o6 == 29) || o6 == 30), false)] (fun h => ⟨by simp only [h, Bool.true_or], h, trivial⟩) (fun h => ⟨by simp only [h, Bool.false_or], h, trivial⟩) fun J4 => ?_
      refine Goes.run [] [] trivial ?_
      obtain ⟨W, hW⟩ : ∃ W, (((((o6 == 26) || o6 == 28) || o6 == 29) || o6 == 30) || o6 == 31) = W := ⟨_, rfl⟩
      have hop : opAt c x.1 = ((termP c x.1).isSome && W) := by
        unfold opAt
        cases hT : termP c x.1 with
        | none => rfl
        | some t6 =>
          cases t6 with
          | mk o7 k7 s7 kids7 =>
            obtain ⟨a7, c7, e7, -⟩ := (hv1 _ hT).open
            unfold cv at e7
            simp only [Value.agg.injEq, Array.mk.injEq, List.cons.injEq, Value.int.injEq, true_and] at e7
            obtain ⟨rfl, -⟩ := e7
            rw [← hW]
            simp only [Option.isSome_some, Bool.true_and]
            rfl
      refine Goes.slot 8 (.bool W) (u := .bool (((((o6 == 26) || o6 == 28) || o6 == 29) || o6 == 30) || o6 == 31)) (congrArg _ hW) ?_
      cases hk : (termP c x.1).isSome with
      | false =>
        have hop : opAt c x.1 = false := by rw [hop, hk]; rfl
        cases i with
        | zero =>
          refine Goes.open [0] ?_
          cases hb1 : decide (x.1 < 0) with
          | true =>
            refine Goes.run [0, 1] [] trivial ?_
            refine Goes.valA 2 (Instr.indexAt 31 (.slice (some ⟨b, o, none⟩) M cL) (.int .i64 ((0 : Nat) : Int))) (.pointer (some ⟨b, o + 0 * 2, none⟩)) (fun w' _ => idxLv b o M cL 0 (by omega) w') ?_
            refine Goes.run [3] [] trivial ?_
            refine Goes.valA 4 (Instr.loadAt 3 (.pointer (some ⟨b, o + 0 * 2, none⟩))) (.int .i64 x.1) (fun w' hm => load1 Tryz.isAgg3 (Cel.same x1 hob (hm.get 0))) ?_
            refine Goes.run [5] [] trivial ?_
            refine Goes.slot 53 (.bool true) (u := .bool (decide (x.1 < 0))) (congrArg _ (hb1)) ?_
            refine Goes.run [6, 7, 8, 9, 10, 11, 12, 13, 14, 15, 16, 17, 18, 19, 20, 21, 22, 23, 24, 25, 26, 27, 28, 29, 30, 31, 32, 33, 34, 35, 36, 37, 38, 39, 40, 41, 42, 43, 44, 45, 46, 47, 1] [(true, true)] ⟨rfl, trivial⟩ ?_
            exact Goes.ret [] (.bool false) fun w' hm hI => ⟨by rw [hst, hdrop, rlF, rl_bad1 (.inl (by show x.1 ≤ -1; have := of_decide_eq_true hb1; omega))]; rfl, bel1 hob hm hI⟩
          | false =>
            refine Goes.run [0, 1] [] trivial ?_
            refine Goes.valA 2 (Instr.indexAt 31 (.slice (some ⟨b, o, none⟩) M cL) (.int .i64 ((0 : Nat) : Int))) (.pointer (some ⟨b, o + 0 * 2, none⟩)) (fun w' _ => idxLv b o M cL 0 (by omega) w') ?_
            refine Goes.run [3] [] trivial ?_
            refine Goes.valA 4 (Instr.loadAt 3 (.pointer (some ⟨b, o + 0 * 2, none⟩))) (.int .i64 x.1) (fun w' hm => load1 Tryz.isAgg3 (Cel.same x1 hob (hm.get 0))) ?_
            refine Goes.run [5] [] trivial ?_
            refine Goes.slot 53 (.bool false) (u := .bool (decide (x.1 < 0))) (congrArg _ (hb1)) ?_
            refine Goes.run [6, 7, 8] [] trivial ?_
            refine Goes.slot 56 (.bool false) (u := .bool (decide (((0 : Nat) : Int) > 0))) (congrArg _ (rfl)) ?_
            refine Goes.run [9, 10, 11, 12, 13, 14, 15, 16, 17, 18, 19, 20, 21, 22, 23, 24, 25, 26, 27, 28, 29, 30, 31, 32, 33, 34, 35, 36, 37, 38, 39, 40, 41, 42, 43, 44, 45, 46, 47, 1] [(true, true)] ⟨rfl, trivial⟩ ?_
            exact Goes.ret [] (.bool false) fun w' hm hI => ⟨by rw [hst, hdrop, rlF, rl_bad1 (.inr (.inl hop))]; rfl, bel1 hob hm hI⟩
        | succ j =>
          obtain ⟨y, hy⟩ : ∃ y, l[j]? = some y := ⟨l[j]'(by omega), by simp⟩
          obtain ⟨b'', o'', e'', -, y1, -⟩ := hlv j y hy
          cases e''
          have hlast : lstD l (j + 1) = y.1 := by simp [lstD, hy]
          refine Goes.open [0] ?_
          cases hb1 : decide (x.1 < 0) with
          | true =>
            refine Goes.run [0, 1] [] trivial ?_
            refine Goes.valA 2 (Instr.indexAt 31 (.slice (some ⟨b, o, none⟩) M cL) (.int .i64 ((j + 1 : Nat) : Int))) (.pointer (some ⟨b, o + (j + 1) * 2, none⟩)) (fun w' _ => idxLv b o M cL (j + 1) (by omega) w') ?_
            refine Goes.run [3] [] trivial ?_
            refine Goes.valA 4 (Instr.loadAt 3 (.pointer (some ⟨b, o + (j + 1) * 2, none⟩))) (.int .i64 x.1) (fun w' hm => load1 Tryz.isAgg3 (Cel.same x1 hob (hm.get 0))) ?_
            refine Goes.run [5] [] trivial ?_
            refine Goes.slot 53 (.bool true) (u := .bool (decide (x.1 < 0))) (congrArg _ (hb1)) ?_
            refine Goes.run [6, 7, 8, 9, 10, 11, 12, 13, 14, 15, 16, 17, 18, 19, 20, 21, 22, 23, 24, 25, 26, 27, 28, 29, 30, 31, 32, 33, 34, 35, 36, 37, 38, 39, 40, 41, 42, 43, 44, 45, 46, 47, 1] [(true, true)] ⟨rfl, trivial⟩ ?_
            exact Goes.ret [] (.bool false) fun w' hm hI => ⟨by rw [hst, hdrop, rlF, rl_bad1 (.inr (.inl (by unfold opAt; rw [term_out (of_decide_eq_true hb1)])))]; rfl, bel1 hob hm hI⟩
          | false =>
            cases hb3 : decide (y.1 ≥ x.1) with
            | true =>
              refine Goes.run [0, 1] [] trivial ?_
              refine Goes.valA 2 (Instr.indexAt 31 (.slice (some ⟨b, o, none⟩) M cL) (.int .i64 ((j + 1 : Nat) : Int))) (.pointer (some ⟨b, o + (j + 1) * 2, none⟩)) (fun w' _ => idxLv b o M cL (j + 1) (by omega) w') ?_
              refine Goes.run [3] [] trivial ?_
              refine Goes.valA 4 (Instr.loadAt 3 (.pointer (some ⟨b, o + (j + 1) * 2, none⟩))) (.int .i64 x.1) (fun w' hm => load1 Tryz.isAgg3 (Cel.same x1 hob (hm.get 0))) ?_
              refine Goes.run [5] [] trivial ?_
              refine Goes.slot 53 (.bool false) (u := .bool (decide (x.1 < 0))) (congrArg _ (hb1)) ?_
              refine Goes.run [6, 7, 8] [] trivial ?_
              refine Goes.slot 56 (.bool true) (u := .bool (decide (((j + 1 : Nat) : Int) > 0))) (congrArg _ (decide_eq_true (by omega))) ?_
              refine Goes.run [9, 10, 11, 12] [] trivial ?_
              refine Goes.slot 60 (.int .i64 (j : Int)) (u := .int .i64 (IntKind.i64.wrap (((j + 1 : Nat) : Int) - 1))) (congrArg _ (by rw [IntWalk.i64_in _ ⟨by omega, by omega⟩]; omega)) ?_
              refine Goes.valA 13 (Instr.indexAt 31 (.slice (some ⟨b, o, none⟩) M cL) (.int .i64 (j : Int))) (.pointer (some ⟨b, o + j * 2, none⟩)) (fun w' _ => idxLv b o M cL j (by omega) w') ?_
              refine Goes.run [14] [] trivial ?_
              refine Goes.valA 15 (Instr.loadAt 3 (.pointer (some ⟨b, o + j * 2, none⟩))) (.int .i64 y.1) (fun w' hm => load1 Tryz.isAgg3 (Cel.same y1 hob (hm.get 0))) ?_
              refine Goes.run [16, 17] [] trivial ?_
              refine Goes.valA 18 (Instr.indexAt 31 (.slice (some ⟨b, o, none⟩) M cL) (.int .i64 ((j + 1 : Nat) : Int))) (.pointer (some ⟨b, o + (j + 1) * 2, none⟩)) (fun w' _ => idxLv b o M cL (j + 1) (by omega) w') ?_
              refine Goes.run [19] [] trivial ?_
              refine Goes.valA 20 (Instr.loadAt 3 (.pointer (some ⟨b, o + (j + 1) * 2, none⟩))) (.int .i64 x.1) (fun w' hm => load1 Tryz.isAgg3 (Cel.same x1 hob (hm.get 0))) ?_
              refine Goes.run [21] [] trivial ?_
              refine Goes.slot 69 (.bool true) (u := .bool (decide (y.1 ≥ x.1))) (congrArg _ (hb3)) ?_
              refine Goes.run [22, 23, 24, 25, 26, 27, 28, 29, 30, 31, 32, 33, 34, 35, 36, 37, 38, 39, 40, 41, 42, 43, 44, 45, 46, 47, 1] [(true, true)] ⟨rfl, trivial⟩ ?_
              exact Goes.ret [] (.bool false) fun w' hm hI => ⟨by rw [hst, hdrop, rlF, rl_bad1 (.inl (by rw [hlast]; have := of_decide_eq_true hb3; omega))]; rfl, bel1 hob hm hI⟩
            | false =>
              refine Goes.run [0, 1] [] trivial ?_
              refine Goes.valA 2 (Instr.indexAt 31 (.slice (some ⟨b, o, none⟩) M cL) (.int .i64 ((j + 1 : Nat) : Int))) (.pointer (some ⟨b, o + (j + 1) * 2, none⟩)) (fun w' _ => idxLv b o M cL (j + 1) (by omega) w') ?_
              refine Goes.run [3] [] trivial ?_
              refine Goes.valA 4 (Instr.loadAt 3 (.pointer (some ⟨b, o + (j + 1) * 2, none⟩))) (.int .i64 x.1) (fun w' hm => load1 Tryz.isAgg3 (Cel.same x1 hob (hm.get 0))) ?_
              refine Goes.run [5] [] trivial ?_
              refine Goes.slot 53 (.bool false) (u := .bool (decide (x.1 < 0))) (congrArg _ (hb1)) ?_
              refine Goes.run [6, 7, 8] [] trivial ?_
              refine Goes.slot 56 (.bool true) (u := .bool (decide (((j + 1 : Nat) : Int) > 0))) (congrArg _ (decide_eq_true (by omega))) ?_
              refine Goes.run [9, 10, 11, 12] [] trivial ?_
              refine Goes.slot 60 (.int .i64 (j : Int)) (u := .int .i64 (IntKind.i64.wrap (((j + 1 : Nat) : Int) - 1))) (congrArg _ (by rw [IntWalk.i64_in _ ⟨by omega, by omega⟩]; omega)) ?_
              refine Goes.valA 13 (Instr.indexAt 31 (.slice (some ⟨b, o, none⟩) M cL) (.int .i64 (j : Int))) (.pointer (some ⟨b, o + j * 2, none⟩)) (fun w' _ => idxLv b o M cL j (by omega) w') ?_
              refine Goes.run [14] [] trivial ?_
              refine Goes.valA 15 (Instr.loadAt 3 (.pointer (some ⟨b, o + j * 2, none⟩))) (.int .i64 y.1) (fun w' hm => load1 Tryz.isAgg3 (Cel.same y1 hob (hm.get 0))) ?_
              refine Goes.run [16, 17] [] trivial ?_
              refine Goes.valA 18 (Instr.indexAt 31 (.slice (some ⟨b, o, none⟩) M cL) (.int .i64 ((j + 1 : Nat) : Int))) (.pointer (some ⟨b, o + (j + 1) * 2, none⟩)) (fun w' _ => idxLv b o M cL (j + 1) (by omega) w') ?_
              refine Goes.run [19] [] trivial ?_
              refine Goes.valA 20 (Instr.loadAt 3 (.pointer (some ⟨b, o + (j + 1) * 2, none⟩))) (.int .i64 x.1) (fun w' hm => load1 Tryz.isAgg3 (Cel.same x1 hob (hm.get 0))) ?_
              refine Goes.run [21] [] trivial ?_
              refine Goes.slot 69 (.bool false) (u := .bool (decide (y.1 ≥ x.1))) (congrArg _ (hb3)) ?_
              refine Goes.run [22, 23, 24, 25, 26, 27, 28, 29, 30, 31, 32, 33, 34, 35, 36, 37, 38, 39, 40, 41, 42, 43, 44, 45, 46, 47, 1] [(true, true)] ⟨rfl, trivial⟩ ?_
              exact Goes.ret [] (.bool false) fun w' hm hI => ⟨by rw [hst, hdrop, rlF, rl_bad1 (.inr (.inl hop))]; rfl, bel1 hob hm hI⟩
      | true =>
        cases W with
        | false =>
          have hop : opAt c x.1 = false := by rw [hop, hk]; rfl
          cases i with
          | zero =>
            refine Goes.open [0] ?_
            cases hb1 : decide (x.1 < 0) with
            | true =>
              refine Goes.run [0, 1] [] trivial ?_
              refine Goes.valA 2 (Instr.indexAt 31 (.slice (some ⟨b, o, none⟩) M cL) (.int .i64 ((0 : Nat) : Int))) (.pointer (some ⟨b, o + 0 * 2, none⟩)) (fun w' _ => idxLv b o M cL 0 (by omega) w') ?_
              refine Goes.run [3] [] trivial ?_
              refine Goes.valA 4 (Instr.loadAt 3 (.pointer (some ⟨b, o + 0 * 2, none⟩))) (.int .i64 x.1) (fun w' hm => load1 Tryz.isAgg3 (Cel.same x1 hob (hm.get 0))) ?_
              refine Goes.run [5] [] trivial ?_
              refine Goes.slot 53 (.bool true) (u := .bool (decide (x.1 < 0))) (congrArg _ (hb1)) ?_
              refine Goes.run [6, 7, 8, 9, 10, 11, 12, 13, 14, 15, 16, 17, 18, 19, 20, 21, 22, 23, 24, 25, 26, 27, 28, 29, 30, 31, 32, 33, 34, 35, 36, 37, 38, 39, 40, 41, 42, 43, 44, 45, 46, 47, 1] [(true, true)] ⟨rfl, trivial⟩ ?_
              exact Goes.ret [] (.bool false) fun w' hm hI => ⟨by rw [hst, hdrop, rlF, rl_bad1 (.inl (by show x.1 ≤ -1; have := of_decide_eq_true hb1; omega))]; rfl, bel1 hob hm hI⟩
            | false =>
              refine Goes.run [0, 1] [] trivial ?_
              refine Goes.valA 2 (Instr.indexAt 31 (.slice (some ⟨b, o, none⟩) M cL) (.int .i64 ((0 : Nat) : Int))) (.pointer (some ⟨b, o + 0 * 2, none⟩)) (fun w' _ => idxLv b o M cL 0 (by omega) w') ?_
              refine Goes.run [3] [] trivial ?_
              refine Goes.valA 4 (Instr.loadAt 3 (.pointer (some ⟨b, o + 0 * 2, none⟩))) (.int .i64 x.1) (fun w' hm => load1 Tryz.isAgg3 (Cel.same x1 hob (hm.get 0))) ?_
              refine Goes.run [5] [] trivial ?_
              refine Goes.slot 53 (.bool false) (u := .bool (decide (x.1 < 0))) (congrArg _ (hb1)) ?_
              refine Goes.run [6, 7, 8] [] trivial ?_
              refine Goes.slot 56 (.bool false) (u := .bool (decide (((0 : Nat) : Int) > 0))) (congrArg _ (rfl)) ?_
              refine Goes.run [9, 10, 11, 12, 13, 14, 15, 16, 17, 18, 19, 20, 21, 22, 23, 24, 25, 26, 27, 28, 29, 30, 31, 32, 33, 34, 35, 36, 37, 38, 39, 40, 41, 42, 43, 44, 45, 46, 47, 1] [(true, true)] ⟨rfl, trivial⟩ ?_
              exact Goes.ret [] (.bool false) fun w' hm hI => ⟨by rw [hst, hdrop, rlF, rl_bad1 (.inr (.inl hop))]; rfl, bel1 hob hm hI⟩
          | succ j =>
            obtain ⟨y, hy⟩ : ∃ y, l[j]? = some y := ⟨l[j]'(by omega), by simp⟩
            obtain ⟨b'', o'', e'', -, y1, -⟩ := hlv j y hy
            cases e''
            have hlast : lstD l (j + 1) = y.1 := by simp [lstD, hy]
            refine Goes.open [0] ?_
            cases hb1 : decide (x.1 < 0) with
            | true =>
              refine Goes.run [0, 1] [] trivial ?_
              refine Goes.valA 2 (Instr.indexAt 31 (.slice (some ⟨b, o, none⟩) M cL) (.int .i64 ((j + 1 : Nat) : Int))) (.pointer (some ⟨b, o + (j + 1) * 2, none⟩)) (fun w' _ => idxLv b o M cL (j + 1) (by omega) w') ?_
              refine Goes.run [3] [] trivial ?_
              refine Goes.valA 4 (Instr.loadAt 3 (.pointer (some ⟨b, o + (j + 1) * 2, none⟩))) (.int .i64 x.1) (fun w' hm => load1 Tryz.isAgg3 (Cel.same x1 hob (hm.get 0))) ?_
              refine Goes.run [5] [] trivial ?_
              refine Goes.slot 53 (.bool true) (u := .bool (decide (x.1 < 0))) (congrArg _ (hb1)) ?_
              refine Goes.run [6, 7, 8, 9, 10, 11, 12, 13, 14, 15, 16, 17, 18, 19, 20, 21, 22, 23, 24, 25, 26, 27, 28, 29, 30, 31, 32, 33, 34, 35, 36, 37, 38, 39, 40, 41, 42, 43, 44, 45, 46, 47, 1] [(true, true)] ⟨rfl, trivial⟩ ?_
              exact Goes.ret [] (.bool false) fun w' hm hI => ⟨by rw [hst, hdrop, rlF, rl_bad1 (.inr (.inl (by unfold opAt; rw [term_out (of_decide_eq_true hb1)])))]; rfl, bel1 hob hm hI⟩
            | false =>
              cases hb3 : decide (y.1 ≥ x.1) with
              | true =>
                refine Goes.run [0, 1] [] trivial ?_
                refine Goes.valA 2 (Instr.indexAt 31 (.slice (some ⟨b, o, none⟩) M cL) (.int .i64 ((j + 1 : Nat) : Int))) (.pointer (some ⟨b, o + (j + 1) * 2, none⟩)) (fun w' _ => idxLv b o M cL (j + 1) (by omega) w') ?_
                refine Goes.run [3] [] trivial ?_
                refine Goes.valA 4 (Instr.loadAt 3 (.pointer (some ⟨b, o + (j + 1) * 2, none⟩))) (.int .i64 x.1) (fun w' hm => load1 Tryz.isAgg3 (Cel.same x1 hob (hm.get 0))) ?_
                refine Goes.run [5] [] trivial ?_
                refine Goes.slot 53 (.bool false) (u := .bool (decide (x.1 < 0))) (congrArg _ (hb1)) ?_
                refine Goes.run [6, 7, 8] [] trivial ?_
                refine Goes.slot 56 (.bool true) (u := .bool (decide (((j + 1 : Nat) : Int) > 0))) (congrArg _ (decide_eq_true (by omega))) ?_
                refine Goes.run [9, 10, 11, 12] [] trivial ?_
                refine Goes.slot 60 (.int .i64 (j : Int)) (u := .int .i64 (IntKind.i64.wrap (((j + 1 : Nat) : Int) - 1))) (congrArg _ (by rw [IntWalk.i64_in _ ⟨by omega, by omega⟩]; omega)) ?_
                refine Goes.valA 13 (Instr.indexAt 31 (.slice (some ⟨b, o, none⟩) M cL) (.int .i64 (j : Int))) (.pointer (some ⟨b, o + j * 2, none⟩)) (fun w' _ => idxLv b o M cL j (by omega) w') ?_
                refine Goes.run [14] [] trivial ?_
                refine Goes.valA 15 (Instr.loadAt 3 (.pointer (some ⟨b, o + j * 2, none⟩))) (.int .i64 y.1) (fun w' hm => load1 Tryz.isAgg3 (Cel.same y1 hob (hm.get 0))) ?_
                refine Goes.run [16, 17] [] trivial ?_
                refine Goes.valA 18 (Instr.indexAt 31 (.slice (some ⟨b, o, none⟩) M cL) (.int .i64 ((j + 1 : Nat) : Int))) (.pointer (some ⟨b, o + (j + 1) * 2, none⟩)) (fun w' _ => idxLv b o M cL (j + 1) (by omega) w') ?_
                refine Goes.run [19] [] trivial ?_
                refine Goes.valA 20 (Instr.loadAt 3 (.pointer (some ⟨b, o + (j + 1) * 2, none⟩))) (.int .i64 x.1) (fun w' hm => load1 Tryz.isAgg3 (Cel.same x1 hob (hm.get 0))) ?_
                refine Goes.run [21] [] trivial ?_
                refine Goes.slot 69 (.bool true) (u := .bool (decide (y.1 ≥ x.1))) (congrArg _ (hb3)) ?_
                refine Goes.run [22, 23, 24, 25, 26, 27, 28, 29, 30, 31, 32, 33, 34, 35, 36, 37, 38, 39, 40, 41, 42, 43, 44, 45, 46, 47, 1] [(true, true)] ⟨rfl, trivial⟩ ?_
                exact Goes.ret [] (.bool false) fun w' hm hI => ⟨by rw [hst, hdrop, rlF, rl_bad1 (.inl (by rw [hlast]; have := of_decide_eq_true hb3; omega))]; rfl, bel1 hob hm hI⟩
              | false =>
                refine Goes.run [0, 1] [] trivial ?_
                refine Goes.valA 2 (Instr.indexAt 31 (.slice (some ⟨b, o, none⟩) M cL) (.int .i64 ((j + 1 : Nat) : Int))) (.pointer (some ⟨b, o + (j + 1) * 2, none⟩)) (fun w' _ => idxLv b o M cL (j + 1) (by omega) w') ?_
                refine Goes.run [3] [] trivial ?_
                refine Goes.valA 4 (Instr.loadAt 3 (.pointer (some ⟨b, o + (j + 1) * 2, none⟩))) (.int .i64 x.1) (fun w' hm => load1 Tryz.isAgg3 (Cel.same x1 hob (hm.get 0))) ?_
                refine Goes.run [5] [] trivial ?_
                refine Goes.slot 53 (.bool false) (u := .bool (decide (x.1 < 0))) (congrArg _ (hb1)) ?_
                refine Goes.run [6, 7, 8] [] trivial ?_
                refine Goes.slot 56 (.bool true) (u := .bool (decide (((j + 1 : Nat) : Int) > 0))) (congrArg _ (decide_eq_true (by omega))) ?_
                refine Goes.run [9, 10, 11, 12] [] trivial ?_
                refine Goes.slot 60 (.int .i64 (j : Int)) (u := .int .i64 (IntKind.i64.wrap (((j + 1 : Nat) : Int) - 1))) (congrArg _ (by rw [IntWalk.i64_in _ ⟨by omega, by omega⟩]; omega)) ?_
                refine Goes.valA 13 (Instr.indexAt 31 (.slice (some ⟨b, o, none⟩) M cL) (.int .i64 (j : Int))) (.pointer (some ⟨b, o + j * 2, none⟩)) (fun w' _ => idxLv b o M cL j (by omega) w') ?_
                refine Goes.run [14] [] trivial ?_
                refine Goes.valA 15 (Instr.loadAt 3 (.pointer (some ⟨b, o + j * 2, none⟩))) (.int .i64 y.1) (fun w' hm => load1 Tryz.isAgg3 (Cel.same y1 hob (hm.get 0))) ?_
                refine Goes.run [16, 17] [] trivial ?_
                refine Goes.valA 18 (Instr.indexAt 31 (.slice (some ⟨b, o, none⟩) M cL) (.int .i64 ((j + 1 : Nat) : Int))) (.pointer (some ⟨b, o + (j + 1) * 2, none⟩)) (fun w' _ => idxLv b o M cL (j + 1) (by omega) w') ?_
                refine Goes.run [19] [] trivial ?_
                refine Goes.valA 20 (Instr.loadAt 3 (.pointer (some ⟨b, o + (j + 1) * 2, none⟩))) (.int .i64 x.1) (fun w' hm => load1 Tryz.isAgg3 (Cel.same x1 hob (hm.get 0))) ?_
                refine Goes.run [21] [] trivial ?_
                refine Goes.slot 69 (.bool false) (u := .bool (decide (y.1 ≥ x.1))) (congrArg _ (hb3)) ?_
                refine Goes.run [22, 23, 24, 25, 26, 27, 28, 29, 30, 31, 32, 33, 34, 35, 36, 37, 38, 39, 40, 41, 42, 43, 44, 45, 46, 47, 1] [(true, true)] ⟨rfl, trivial⟩ ?_
                exact Goes.ret [] (.bool false) fun w' hm hI => ⟨by rw [hst, hdrop, rlF, rl_bad1 (.inr (.inl hop))]; rfl, bel1 hob hm hI⟩
        | true =>
          have hop : opAt c x.1 = true := by rw [hop, hk]; rfl
          cases i with
          | zero =>
            refine Goes.open [0] ?_
            cases hb1 : decide (x.1 < 0) with
            | true =>
              refine Goes.run [0, 1] [] trivial ?_
              refine Goes.valA 2 (Instr.indexAt 31 (.slice (some ⟨b, o, none⟩) M cL) (.int .i64 ((0 : Nat) : Int))) (.pointer (some ⟨b, o + 0 * 2, none⟩)) (fun w' _ => idxLv b o M cL 0 (by omega) w') ?_
              refine Goes.run [3] [] trivial ?_
              refine Goes.valA 4 (Instr.loadAt 3 (.pointer (some ⟨b, o + 0 * 2, none⟩))) (.int .i64 x.1) (fun w' hm => load1 Tryz.isAgg3 (Cel.same x1 hob (hm.get 0))) ?_
              refine Goes.run [5] [] trivial ?_
              refine Goes.slot 53 (.bool true) (u := .bool (decide (x.1 < 0))) (congrArg _ (hb1)) ?_
              refine Goes.run [6, 7, 8, 9, 10, 11, 12, 13, 14, 15, 16, 17, 18, 19, 20, 21, 22, 23, 24, 25, 26, 27, 28, 29, 30, 31, 32, 33, 34, 35, 36, 37, 38, 39, 40, 41, 42, 43, 44, 45, 46, 47, 1] [(true, true)] ⟨rfl, trivial⟩ ?_
              exact Goes.ret [] (.bool false) fun w' hm hI => ⟨by rw [hst, hdrop, rlF, rl_bad1 (.inl (by show x.1 ≤ -1; have := of_decide_eq_true hb1; omega))]; rfl, bel1 hob hm hI⟩
            | false =>
              cases hb4 : decide (x.2 < -1000000000000000) with
              | true =>
                refine Goes.run [0, 1] [] trivial ?_
                refine Goes.valA 2 (Instr.indexAt 31 (.slice (some ⟨b, o, none⟩) M cL) (.int .i64 ((0 : Nat) : Int))) (.pointer (some ⟨b, o + 0 * 2, none⟩)) (fun w' _ => idxLv b o M cL 0 (by omega) w') ?_
                refine Goes.run [3] [] trivial ?_
                refine Goes.valA 4 (Instr.loadAt 3 (.pointer (some ⟨b, o + 0 * 2, none⟩))) (.int .i64 x.1) (fun w' hm => load1 Tryz.isAgg3 (Cel.same x1 hob (hm.get 0))) ?_
                refine Goes.run [5] [] trivial ?_
                refine Goes.slot 53 (.bool false) (u := .bool (decide (x.1 < 0))) (congrArg _ (hb1)) ?_
                refine Goes.run [6, 7, 8] [] trivial ?_
                refine Goes.slot 56 (.bool false) (u := .bool (decide (((0 : Nat) : Int) > 0))) (congrArg _ (rfl)) ?_
                refine Goes.run [9, 10, 11, 12, 13, 14, 15, 16, 17, 18, 19, 20, 21, 22, 23, 24, 25, 26, 27, 28, 29, 30, 31, 32, 33, 34] [] trivial ?_
                refine Goes.valA 35 (Instr.indexAt 31 (.slice (some ⟨b, o, none⟩) M cL) (.int .i64 ((0 : Nat) : Int))) (.pointer (some ⟨b, o + 0 * 2, none⟩)) (fun w' _ => idxLv b o M cL 0 (by omega) w') ?_
                refine Goes.run [36] [] trivial ?_
                refine Goes.valA 37 (Instr.loadAt 2 (.pointer (some ⟨b, o + 0 * 2 + 1, none⟩))) (.int .i64 x.2) (fun w' hm => load1 Tryz.isAgg2 (Cel.same x2 hob (hm.get 0))) ?_
                refine Goes.run [38] [] trivial ?_
                refine Goes.slot 86 (.bool true) (u := .bool (decide (x.2 < -1000000000000000))) (congrArg _ (hb4)) ?_
                refine Goes.run [39, 40, 41, 42, 43, 44, 45, 46, 47, 1] [(true, true)] ⟨rfl, trivial⟩ ?_
                exact Goes.ret [] (.bool false) fun w' hm hI => ⟨by rw [hst, hdrop, rlF, rl_bad1 (.inr (.inr (.inl (of_decide_eq_true hb4))))]; rfl, bel1 hob hm hI⟩
              | false =>
                cases hb5 : decide (x.2 > 1000000000000000) with
                | true =>
                  refine Goes.run [0, 1] [] trivial ?_
                  refine Goes.valA 2 (Instr.indexAt 31 (.slice (some ⟨b, o, none⟩) M cL) (.int .i64 ((0 : Nat) : Int))) (.pointer (some ⟨b, o + 0 * 2, none⟩)) (fun w' _ => idxLv b o M cL 0 (by omega) w') ?_
                  refine Goes.run [3] [] trivial ?_
                  refine Goes.valA 4 (Instr.loadAt 3 (.pointer (some ⟨b, o + 0 * 2, none⟩))) (.int .i64 x.1) (fun w' hm => load1 Tryz.isAgg3 (Cel.same x1 hob (hm.get 0))) ?_
                  refine Goes.run [5] [] trivial ?_
                  refine Goes.slot 53 (.bool false) (u := .bool (decide (x.1 < 0))) (congrArg _ (hb1)) ?_
                  refine Goes.run [6, 7, 8] [] trivial ?_
                  refine Goes.slot 56 (.bool false) (u := .bool (decide (((0 : Nat) : Int) > 0))) (congrArg _ (rfl)) ?_
                  refine Goes.run [9, 10, 11, 12, 13, 14, 15, 16, 17, 18, 19, 20, 21, 22, 23, 24, 25, 26, 27, 28, 29, 30, 31, 32, 33, 34] [] trivial ?_
                  refine Goes.valA 35 (Instr.indexAt 31 (.slice (some ⟨b, o, none⟩) M cL) (.int .i64 ((0 : Nat) : Int))) (.pointer (some ⟨b, o + 0 * 2, none⟩)) (fun w' _ => idxLv b o M cL 0 (by omega) w') ?_
                  refine Goes.run [36] [] trivial ?_
                  refine Goes.valA 37 (Instr.loadAt 2 (.pointer (some ⟨b, o + 0 * 2 + 1, none⟩))) (.int .i64 x.2) (fun w' hm => load1 Tryz.isAgg2 (Cel.same x2 hob (hm.get 0))) ?_
                  refine Goes.run [38] [] trivial ?_
                  refine Goes.slot 86 (.bool false) (u := .bool (decide (x.2 < -1000000000000000))) (congrArg _ (hb4)) ?_
                  refine Goes.run [39, 40, 41, 42] [] trivial ?_
                  refine Goes.valA 43 (Instr.indexAt 31 (.slice (some ⟨b, o, none⟩) M cL) (.int .i64 ((0 : Nat) : Int))) (.pointer (some ⟨b, o + 0 * 2, none⟩)) (fun w' _ => idxLv b o M cL 0 (by omega) w') ?_
                  refine Goes.run [44] [] trivial ?_
                  refine Goes.valA 45 (Instr.loadAt 2 (.pointer (some ⟨b, o + 0 * 2 + 1, none⟩))) (.int .i64 x.2) (fun w' hm => load1 Tryz.isAgg2 (Cel.same x2 hob (hm.get 0))) ?_
                  refine Goes.run [46] [] trivial ?_
                  refine Goes.slot 94 (.bool true) (u := .bool (decide (x.2 > 1000000000000000))) (congrArg _ (hb5)) ?_
                  refine Goes.run [47, 1] [(true, true)] ⟨rfl, trivial⟩ ?_
                  exact Goes.ret [] (.bool false) fun w' hm hI => ⟨by rw [hst, hdrop, rlF, rl_bad1 (.inr (.inr (.inr (of_decide_eq_true hb5))))]; rfl, bel1 hob hm hI⟩
                | false =>
                  refine Goes.run [0, 1] [] trivial ?_
                  refine Goes.valA 2 (Instr.indexAt 31 (.slice (some ⟨b, o, none⟩) M cL) (.int .i64 ((0 : Nat) : Int))) (.pointer (some ⟨b, o + 0 * 2, none⟩)) (fun w' _ => idxLv b o M cL 0 (by omega) w') ?_
                  refine Goes.run [3] [] trivial ?_
                  refine Goes.valA 4 (Instr.loadAt 3 (.pointer (some ⟨b, o + 0 * 2, none⟩))) (.int .i64 x.1) (fun w' hm => load1 Tryz.isAgg3 (Cel.same x1 hob (hm.get 0))) ?_
                  refine Goes.run [5] [] trivial ?_
                  refine Goes.slot 53 (.bool false) (u := .bool (decide (x.1 < 0))) (congrArg _ (hb1)) ?_
                  refine Goes.run [6, 7, 8] [] trivial ?_
                  refine Goes.slot 56 (.bool false) (u := .bool (decide (((0 : Nat) : Int) > 0))) (congrArg _ (rfl)) ?_
                  refine Goes.run [9, 10, 11, 12, 13, 14, 15, 16, 17, 18, 19, 20, 21, 22, 23, 24, 25, 26, 27, 28, 29, 30, 31, 32, 33, 34] [] trivial ?_
                  refine Goes.valA 35 (Instr.indexAt 31 (.slice (some ⟨b, o, none⟩) M cL) (.int .i64 ((0 : Nat) : Int))) (.pointer (some ⟨b, o + 0 * 2, none⟩)) (fun w' _ => idxLv b o M cL 0 (by omega) w') ?_
                  refine Goes.run [36] [] trivial ?_
                  refine Goes.valA 37 (Instr.loadAt 2 (.pointer (some ⟨b, o + 0 * 2 + 1, none⟩))) (.int .i64 x.2) (fun w' hm => load1 Tryz.isAgg2 (Cel.same x2 hob (hm.get 0))) ?_
                  refine Goes.run [38] [] trivial ?_
                  refine Goes.slot 86 (.bool false) (u := .bool (decide (x.2 < -1000000000000000))) (congrArg _ (hb4)) ?_
                  refine Goes.run [39, 40, 41, 42] [] trivial ?_
                  refine Goes.valA 43 (Instr.indexAt 31 (.slice (some ⟨b, o, none⟩) M cL) (.int .i64 ((0 : Nat) : Int))) (.pointer (some ⟨b, o + 0 * 2, none⟩)) (fun w' _ => idxLv b o M cL 0 (by omega) w') ?_
                  refine Goes.run [44] [] trivial ?_
                  refine Goes.valA 45 (Instr.loadAt 2 (.pointer (some ⟨b, o + 0 * 2 + 1, none⟩))) (.int .i64 x.2) (fun w' hm => load1 Tryz.isAgg2 (Cel.same x2 hob (hm.get 0))) ?_
                  refine Goes.run [46] [] trivial ?_
                  refine Goes.slot 94 (.bool false) (u := .bool (decide (x.2 > 1000000000000000))) (congrArg _ (hb5)) ?_
                  refine Goes.run [47, 0] [(false, false)] ⟨rfl, trivial⟩ ?_
                  refine Goes.slot 5 (.int .i64 (0 + 1 : Nat)) (u := .int .i64 (IntKind.i64.wrap (((0 : Nat) : Int) + 1))) (congrArg _ (wrap_nat (by omega))) ?_
                  have hgood := rl_good1 (c := c) (x := x) (last := lstD l 0) (by show (-1 : Int) < x.1; have := of_decide_eq_false hb1; omega) hop (of_decide_eq_false hb4) (of_decide_eq_false hb5)
                  refine Goes.keep 2 ?_
                  exact back (0 + 1) _ ⟨by omega, by rw [hst, hdrop, rlF, hgood, Bool.true_and]; rw [show lstD l (0 + 1) = x.1 by simp [lstD, hx]]⟩ (by omega) (by kernel_rfl) (by kernel_rfl) (by kernel_rfl)
          | succ j =>
            obtain ⟨y, hy⟩ : ∃ y, l[j]? = some y := ⟨l[j]'(by omega), by simp⟩
            obtain ⟨b'', o'', e'', -, y1, -⟩ := hlv j y hy
            cases e''
            have hlast : lstD l (j + 1) = y.1 := by simp [lstD, hy]
            refine Goes.open [0] ?_
            cases hb1 : decide (x.1 < 0) with
            | true =>
              refine Goes.run [0, 1] [] trivial ?_
              refine Goes.valA 2 (Instr.indexAt 31 (.slice (some ⟨b, o, none⟩) M cL) (.int .i64 ((j + 1 : Nat) : Int))) (.pointer (some ⟨b, o + (j + 1) * 2, none⟩)) (fun w' _ => idxLv b o M cL (j + 1) (by omega) w') ?_
              refine Goes.run [3] [] trivial ?_
              refine Goes.valA 4 (Instr.loadAt 3 (.pointer (some ⟨b, o + (j + 1) * 2, none⟩))) (.int .i64 x.1) (fun w' hm => load1 Tryz.isAgg3 (Cel.same x1 hob (hm.get 0))) ?_
              refine Goes.run [5] [] trivial ?_
              refine Goes.slot 53 (.bool true) (u := .bool (decide (x.1 < 0))) (congrArg _ (hb1)) ?_
              refine Goes.run [6, 7, 8, 9, 10, 11, 12, 13, 14, 15, 16, 17, 18, 19, 20, 21, 22, 23, 24, 25, 26, 27, 28, 29, 30, 31, 32, 33, 34, 35, 36, 37, 38, 39, 40, 41, 42, 43, 44, 45, 46, 47, 1] [(true, true)] ⟨rfl, trivial⟩ ?_
              exact Goes.ret [] (.bool false) fun w' hm hI => ⟨by rw [hst, hdrop, rlF, rl_bad1 (.inr (.inl (by unfold opAt; rw [term_out (of_decide_eq_true hb1)])))]; rfl, bel1 hob hm hI⟩
            | false =>
              cases hb3 : decide (y.1 ≥ x.1) with
              | true =>
                refine Goes.run [0, 1] [] trivial ?_
                refine Goes.valA 2 (Instr.indexAt 31 (.slice (some ⟨b, o, none⟩) M cL) (.int .i64 ((j + 1 : Nat) : Int))) (.pointer (some ⟨b, o + (j + 1) * 2, none⟩)) (fun w' _ => idxLv b o M cL (j + 1) (by omega) w') ?_
                refine Goes.run [3] [] trivial ?_
                refine Goes.valA 4 (Instr.loadAt 3 (.pointer (some ⟨b, o + (j + 1) * 2, none⟩))) (.int .i64 x.1) (fun w' hm => load1 Tryz.isAgg3 (Cel.same x1 hob (hm.get 0))) ?_
                refine Goes.run [5] [] trivial ?_
                refine Goes.slot 53 (.bool false) (u := .bool (decide (x.1 < 0))) (congrArg _ (hb1)) ?_
                refine Goes.run [6, 7, 8] [] trivial ?_
                refine Goes.slot 56 (.bool true) (u := .bool (decide (((j + 1 : Nat) : Int) > 0))) (congrArg _ (decide_eq_true (by omega))) ?_
                refine Goes.run [9, 10, 11, 12] [] trivial ?_
                refine Goes.slot 60 (.int .i64 (j : Int)) (u := .int .i64 (IntKind.i64.wrap (((j + 1 : Nat) : Int) - 1))) (congrArg _ (by rw [IntWalk.i64_in _ ⟨by omega, by omega⟩]; omega)) ?_
                refine Goes.valA 13 (Instr.indexAt 31 (.slice (some ⟨b, o, none⟩) M cL) (.int .i64 (j : Int))) (.pointer (some ⟨b, o + j * 2, none⟩)) (fun w' _ => idxLv b o M cL j (by omega) w') ?_
                refine Goes.run [14] [] trivial ?_
                refine Goes.valA 15 (Instr.loadAt 3 (.pointer (some ⟨b, o + j * 2, none⟩))) (.int .i64 y.1) (fun w' hm => load1 Tryz.isAgg3 (Cel.same y1 hob (hm.get 0))) ?_
                refine Goes.run [16, 17] [] trivial ?_
                refine Goes.valA 18 (Instr.indexAt 31 (.slice (some ⟨b, o, none⟩) M cL) (.int .i64 ((j + 1 : Nat) : Int))) (.pointer (some ⟨b, o + (j + 1) * 2, none⟩)) (fun w' _ => idxLv b o M cL (j + 1) (by omega) w') ?_
                refine Goes.run [19] [] trivial ?_
                refine Goes.valA 20 (Instr.loadAt 3 (.pointer (some ⟨b, o + (j + 1) * 2, none⟩))) (.int .i64 x.1) (fun w' hm => load1 Tryz.isAgg3 (Cel.same x1 hob (hm.get 0))) ?_
                refine Goes.run [21] [] trivial ?_
                refine Goes.slot 69 (.bool true) (u := .bool (decide (y.1 ≥ x.1))) (congrArg _ (hb3)) ?_
                refine Goes.run [22, 23, 24, 25, 26, 27, 28, 29, 30, 31, 32, 33, 34, 35, 36, 37, 38, 39, 40, 41, 42, 43, 44, 45, 46, 47, 1] [(true, true)] ⟨rfl, trivial⟩ ?_
                exact Goes.ret [] (.bool false) fun w' hm hI => ⟨by rw [hst, hdrop, rlF, rl_bad1 (.inl (by rw [hlast]; have := of_decide_eq_true hb3; omega))]; rfl, bel1 hob hm hI⟩
              | false =>
                cases hb4 : decide (x.2 < -1000000000000000) with
                | true =>
                  refine Goes.run [0, 1] [] trivial ?_
                  refine Goes.valA 2 (Instr.indexAt 31 (.slice (some ⟨b, o, none⟩) M cL) (.int .i64 ((j + 1 : Nat) : Int))) (.pointer (some ⟨b, o + (j + 1) * 2, none⟩)) (fun w' _ => idxLv b o M cL (j + 1) (by omega) w') ?_
                  refine Goes.run [3] [] trivial ?_
                  refine Goes.valA 4 (Instr.loadAt 3 (.pointer (some ⟨b, o + (j + 1) * 2, none⟩))) (.int .i64 x.1) (fun w' hm => load1 Tryz.isAgg3 (Cel.same x1 hob (hm.get 0))) ?_
                  refine Goes.run [5] [] trivial ?_
                  refine Goes.slot 53 (.bool false) (u := .bool (decide (x.1 < 0))) (congrArg _ (hb1)) ?_
                  refine Goes.run [6, 7, 8] [] trivial ?_
                  refine Goes.slot 56 (.bool true) (u := .bool (decide (((j + 1 : Nat) : Int) > 0))) (congrArg _ (decide_eq_true (by omega))) ?_
                  refine Goes.run [9, 10, 11, 12] [] trivial ?_
                  refine Goes.slot 60 (.int .i64 (j : Int)) (u := .int .i64 (IntKind.i64.wrap (((j + 1 : Nat) : Int) - 1))) (congrArg _ (by rw [IntWalk.i64_in _ ⟨by omega, by omega⟩]; omega)) ?_
                  refine Goes.valA 13 (Instr.indexAt 31 (.slice (some ⟨b, o, none⟩) M cL) (.int .i64 (j : Int))) (.pointer (some ⟨b, o + j * 2, none⟩)) (fun w' _ => idxLv b o M cL j (by omega) w') ?_
                  refine Goes.run [14] [] trivial ?_
                  refine Goes.valA 15 (Instr.loadAt 3 (.pointer (some ⟨b, o + j * 2, none⟩))) (.int .i64 y.1) (fun w' hm => load1 Tryz.isAgg3 (Cel.same y1 hob (hm.get 0))) ?_
                  refine Goes.run [16, 17] [] trivial ?_
                  refine Goes.valA 18 (Instr.indexAt 31 (.slice (some ⟨b, o, none⟩) M cL) (.int .i64 ((j + 1 : Nat) : Int))) (.pointer (some ⟨b, o + (j + 1) * 2, none⟩)) (fun w' _ => idxLv b o M cL (j + 1) (by omega) w') ?_
                  refine Goes.run [19] [] trivial ?_
                  refine Goes.valA 20 (Instr.loadAt 3 (.pointer (some ⟨b, o + (j + 1) * 2, none⟩))) (.int .i64 x.1) (fun w' hm => load1 Tryz.isAgg3 (Cel.same x1 hob (hm.get 0))) ?_
                  refine Goes.run [21] [] trivial ?_
                  refine Goes.slot 69 (.bool false) (u := .bool (decide (y.1 ≥ x.1))) (congrArg _ (hb3)) ?_
                  refine Goes.run [22, 23, 24, 25, 26, 27, 28, 29, 30, 31, 32, 33, 34] [] trivial ?_
                  refine Goes.valA 35 (Instr.indexAt 31 (.slice (some ⟨b, o, none⟩) M cL) (.int .i64 ((j + 1 : Nat) : Int))) (.pointer (some ⟨b, o + (j + 1) * 2, none⟩)) (fun w' _ => idxLv b o M cL (j + 1) (by omega) w') ?_
                  refine Goes.run [36] [] trivial ?_
                  refine Goes.valA 37 (Instr.loadAt 2 (.pointer (some ⟨b, o + (j + 1) * 2 + 1, none⟩))) (.int .i64 x.2) (fun w' hm => load1 Tryz.isAgg2 (Cel.same x2 hob (hm.get 0))) ?_
                  refine Goes.run [38] [] trivial ?_
                  refine Goes.slot 86 (.bool true) (u := .bool (decide (x.2 < -1000000000000000))) (congrArg _ (hb4)) ?_
                  refine Goes.run [39, 40, 41, 42, 43, 44, 45, 46, 47, 1] [(true, true)] ⟨rfl, trivial⟩ ?_
                  exact Goes.ret [] (.bool false) fun w' hm hI => ⟨by rw [hst, hdrop, rlF, rl_bad1 (.inr (.inr (.inl (of_decide_eq_true hb4))))]; rfl, bel1 hob hm hI⟩
                | false =>
                  cases hb5 : decide (x.2 > 1000000000000000) with
                  | true =>
                    refine Goes.run [0, 1] [] trivial ?_
                    refine Goes.valA 2 (Instr.indexAt 31 (.slice (some ⟨b, o, none⟩) M cL) (.int .i64 ((j + 1 : Nat) : Int))) (.pointer (some ⟨b, o + (j + 1) * 2, none⟩)) (fun w' _ => idxLv b o M cL (j + 1) (by omega) w') ?_
                    refine Goes.run [3] [] trivial ?_
                    refine Goes.valA 4 (Instr.loadAt 3 (.pointer (some ⟨b, o + (j + 1) * 2, none⟩))) (.int .i64 x.1) (fun w' hm => load1 Tryz.isAgg3 (Cel.same x1 hob (hm.get 0))) ?_
                    refine Goes.run [5] [] trivial ?_
                    refine Goes.slot 53 (.bool false) (u := .bool (decide (x.1 < 0))) (congrArg _ (hb1)) ?_
                    refine Goes.run [6, 7, 8] [] trivial ?_
                    refine Goes.slot 56 (.bool true) (u := .bool (decide (((j + 1 : Nat) : Int) > 0))) (congrArg _ (decide_eq_true (by omega))) ?_
                    refine Goes.run [9, 10, 11, 12] [] trivial ?_
                    refine Goes.slot 60 (.int .i64 (j : Int)) (u := .int .i64 (IntKind.i64.wrap (((j + 1 : Nat) : Int) - 1))) (congrArg _ (by rw [IntWalk.i64_in _ ⟨by omega, by omega⟩]; omega)) ?_
                    refine Goes.valA 13 (Instr.indexAt 31 (.slice (some ⟨b, o, none⟩) M cL) (.int .i64 (j : Int))) (.pointer (some ⟨b, o + j * 2, none⟩)) (fun w' _ => idxLv b o M cL j (by omega) w') ?_
                    refine Goes.run [14] [] trivial ?_
                    refine Goes.valA 15 (Instr.loadAt 3 (.pointer (some ⟨b, o + j * 2, none⟩))) (.int .i64 y.1) (fun w' hm => load1 Tryz.isAgg3 (Cel.same y1 hob (hm.get 0))) ?_
                    refine Goes.run [16, 17] [] trivial ?_
                    refine Goes.valA 18 (Instr.indexAt 31 (.slice (some ⟨b, o, none⟩) M cL) (.int .i64 ((j + 1 : Nat) : Int))) (.pointer (some ⟨b, o + (j + 1) * 2, none⟩)) (fun w' _ => idxLv b o M cL (j + 1) (by omega) w') ?_
                    refine Goes.run [19] [] trivial ?_
                    refine Goes.valA 20 (Instr.loadAt 3 (.pointer (some ⟨b, o + (j + 1) * 2, none⟩))) (.int .i64 x.1) (fun w' hm => load1 Tryz.isAgg3 (Cel.same x1 hob (hm.get 0))) ?_
                    refine Goes.run [21] [] trivial ?_
                    refine Goes.slot 69 (.bool false) (u := .bool (decide (y.1 ≥ x.1))) (congrArg _ (hb3)) ?_
                    refine Goes.run [22, 23, 24, 25, 26, 27, 28, 29, 30, 31, 32, 33, 34] [] trivial ?_
                    refine Goes.valA 35 (Instr.indexAt 31 (.slice (some ⟨b, o, none⟩) M cL) (.int .i64 ((j + 1 : Nat) : Int))) (.pointer (some ⟨b, o + (j + 1) * 2, none⟩)) (fun w' _ => idxLv b o M cL (j + 1) (by omega) w') ?_
                    refine Goes.run [36] [] trivial ?_
                    refine Goes.valA 37 (Instr.loadAt 2 (.pointer (some ⟨b, o + (j + 1) * 2 + 1, none⟩))) (.int .i64 x.2) (fun w' hm => load1 Tryz.isAgg2 (Cel.same x2 hob (hm.get 0))) ?_
                    refine Goes.run [38] [] trivial ?_
                    refine Goes.slot 86 (.bool false) (u := .bool (decide (x.2 < -1000000000000000))) (congrArg _ (hb4)) ?_
                    refine Goes.run [39, 40, 41, 42] [] trivial ?_
                    refine Goes.valA 43 (Instr.indexAt 31 (.slice (some ⟨b, o, none⟩) M cL) (.int .i64 ((j + 1 : Nat) : Int))) (.pointer (some ⟨b, o + (j + 1) * 2, none⟩)) (fun w' _ => idxLv b o M cL (j + 1) (by omega) w') ?_
                    refine Goes.run [44] [] trivial ?_
                    refine Goes.valA 45 (Instr.loadAt 2 (.pointer (some ⟨b, o + (j + 1) * 2 + 1, none⟩))) (.int .i64 x.2) (fun w' hm => load1 Tryz.isAgg2 (Cel.same x2 hob (hm.get 0))) ?_
                    refine Goes.run [46] [] trivial ?_
                    refine Goes.slot 94 (.bool true) (u := .bool (decide (x.2 > 1000000000000000))) (congrArg _ (hb5)) ?_
                    refine Goes.run [47, 1] [(true, true)] ⟨rfl, trivial⟩ ?_
                    exact Goes.ret [] (.bool false) fun w' hm hI => ⟨by rw [hst, hdrop, rlF, rl_bad1 (.inr (.inr (.inr (of_decide_eq_true hb5))))]; rfl, bel1 hob hm hI⟩
                  | false =>
                    refine Goes.run [0, 1] [] trivial ?_
                    refine Goes.valA 2 (Instr.indexAt 31 (.slice (some ⟨b, o, none⟩) M cL) (.int .i64 ((j + 1 : Nat) : Int))) (.pointer (some ⟨b, o + (j + 1) * 2, none⟩)) (fun w' _ => idxLv b o M cL (j + 1) (by omega) w') ?_
                    refine Goes.run [3] [] trivial ?_
                    refine Goes.valA 4 (Instr.loadAt 3 (.pointer (some ⟨b, o + (j + 1) * 2, none⟩))) (.int .i64 x.1) (fun w' hm => load1 Tryz.isAgg3 (Cel.same x1 hob (hm.get 0))) ?_
                    refine Goes.run [5] [] trivial ?_
                    refine Goes.slot 53 (.bool false) (u := .bool (decide (x.1 < 0))) (congrArg _ (hb1)) ?_
                    refine Goes.run [6, 7, 8] [] trivial ?_
                    refine Goes.slot 56 (.bool true) (u := .bool (decide (((j + 1 : Nat) : Int) > 0))) (congrArg _ (decide_eq_true (by omega))) ?_
                    refine Goes.run [9, 10, 11, 12] [] trivial ?_
                    refine Goes.slot 60 (.int .i64 (j : Int)) (u := .int .i64 (IntKind.i64.wrap (((j + 1 : Nat) : Int) - 1))) (congrArg _ (by rw [IntWalk.i64_in _ ⟨by omega, by omega⟩]; omega)) ?_
                    refine Goes.valA 13 (Instr.indexAt 31 (.slice (some ⟨b, o, none⟩) M cL) (.int .i64 (j : Int))) (.pointer (some ⟨b, o + j * 2, none⟩)) (fun w' _ => idxLv b o M cL j (by omega) w') ?_
                    refine Goes.run [14] [] trivial ?_
                    refine Goes.valA 15 (Instr.loadAt 3 (.pointer (some ⟨b, o + j * 2, none⟩))) (.int .i64 y.1) (fun w' hm => load1 Tryz.isAgg3 (Cel.same y1 hob (hm.get 0))) ?_
                    refine Goes.run [16, 17] [] trivial ?_
                    refine Goes.valA 18 (Instr.indexAt 31 (.slice (some ⟨b, o, none⟩) M cL) (.int .i64 ((j + 1 : Nat) : Int))) (.pointer (some ⟨b, o + (j + 1) * 2, none⟩)) (fun w' _ => idxLv b o M cL (j + 1) (by omega) w') ?_
                    refine Goes.run [19] [] trivial ?_
                    refine Goes.valA 20 (Instr.loadAt 3 (.pointer (some ⟨b, o + (j + 1) * 2, none⟩))) (.int .i64 x.1) (fun w' hm => load1 Tryz.isAgg3 (Cel.same x1 hob (hm.get 0))) ?_
                    refine Goes.run [21] [] trivial ?_
                    refine Goes.slot 69 (.bool false) (u := .bool (decide (y.1 ≥ x.1))) (congrArg _ (hb3)) ?_
                    refine Goes.run [22, 23, 24, 25, 26, 27, 28, 29, 30, 31, 32, 33, 34] [] trivial ?_
                    refine Goes.valA 35 (Instr.indexAt 31 (.slice (some ⟨b, o, none⟩) M cL) (.int .i64 ((j + 1 : Nat) : Int))) (.pointer (some ⟨b, o + (j + 1) * 2, none⟩)) (fun w' _ => idxLv b o M cL (j + 1) (by omega) w') ?_
                    refine Goes.run [36] [] trivial ?_
                    refine Goes.valA 37 (Instr.loadAt 2 (.pointer (some ⟨b, o + (j + 1) * 2 + 1, none⟩))) (.int .i64 x.2) (fun w' hm => load1 Tryz.isAgg2 (Cel.same x2 hob (hm.get 0))) ?_
                    refine Goes.run [38] [] trivial ?_
                    refine Goes.slot 86 (.bool false) (u := .bool (decide (x.2 < -1000000000000000))) (congrArg _ (hb4)) ?_
                    refine Goes.run [39, 40, 41, 42] [] trivial ?_
                    refine Goes.valA 43 (Instr.indexAt 31 (.slice (some ⟨b, o, none⟩) M cL) (.int .i64 ((j + 1 : Nat) : Int))) (.pointer (some ⟨b, o + (j + 1) * 2, none⟩)) (fun w' _ => idxLv b o M cL (j + 1) (by omega) w') ?_
                    refine Goes.run [44] [] trivial ?_
                    refine Goes.valA 45 (Instr.loadAt 2 (.pointer (some ⟨b, o + (j + 1) * 2 + 1, none⟩))) (.int .i64 x.2) (fun w' hm => load1 Tryz.isAgg2 (Cel.same x2 hob (hm.get 0))) ?_
                    refine Goes.run [46] [] trivial ?_
                    refine Goes.slot 94 (.bool false) (u := .bool (decide (x.2 > 1000000000000000))) (congrArg _ (hb5)) ?_
                    refine Goes.run [47, 0] [(false, false)] ⟨rfl, trivial⟩ ?_
                    refine Goes.slot 5 (.int .i64 ((j + 1) + 1 : Nat)) (u := .int .i64 (IntKind.i64.wrap ((((j + 1) : Nat) : Int) + 1))) (congrArg _ (wrap_nat (by omega))) ?_
                    have hgood := rl_good1 (c := c) (x := x) (last := lstD l (j + 1)) (by rw [hlast]; have := of_decide_eq_false hb3; omega) hop (of_decide_eq_false hb4) (of_decide_eq_false hb5)
                    refine Goes.keep 2 ?_
                    exact back ((j + 1) + 1) _ ⟨by omega, by rw [hst, hdrop, rlF, hgood, Bool.true_and]; rw [show lstD l ((j + 1) + 1) = x.1 by simp [lstD, hx]]⟩ (by omega) (by kernel_rfl) (by kernel_rfl) (by kernel_rfl)
end Go.Proofs.YthnojedlndblbaaGreatDoor
namespace Go.Proofs.YthnojedlndblbaaGreatDoor
open Go Go.RowKit

set_option maxRecDepth 100000 in
seal rn rnN rnS Goes ans atEnd put0 put putM opened openedY putA0 putA oneSt st0 keep mkSt newSt in
theorem rbegin_any {fs : Fs} {fv u : Value} {c : Co} {w : World} (day : Int) (hN : Nc w.heap.size w u c) (hF : Fds w.heap.size w fv fs) (hl : ∀ f ∈ fs, f.1.length ≤ 9223372036854775807) : Calls Tryz.prog 13 #[u, .int .i64 day, fv] w (LTQ day w (begR fs day c)) := by
  obtain ⟨op, k, t, a, N, cc, rfl⟩ := hN.cells
  obtain ⟨aF, NF, cF, rfl⟩ : ∃ aF NF cF, fv = .slice aF NF cF := by obtain ⟨x, y, e, -⟩ := hF; exact ⟨x, _, y, e⟩
  obtain ⟨E, hE⟩ : ∃ E, chkP c = E := ⟨_, rfl⟩
  have hV : begR fs day c = bif E == 0 && (dayP day && rfP fs) then (acq fs day c 0 1000000, 0) else (r0, 150) := by unfold begR; rw [hE]
  have bad : ∀ w', Below w.heap.size w w' → (E == 0 && (dayP day && rfP fs)) = false → LTQ day w (begR fs day c) (.returned (.tuple #[.slice none 0 0, .slice none 0 0, .int .i64 150])) w' := fun w' hB h => ⟨.slice none 0 0, .slice none 0 0, by rw [hV, h]; rfl, by rw [hV, h]; exact Lvs.nil, by rw [hV, h]; exact Trs.nil, hB⟩
  refine Goes.begin Tryz.func13 [] (fun _ => True) Holds.nil (by simp [Mem.ids]) (fun _ _ => trivial) ?_
  refine Goes.run1 [] [] trivial fun g3 => ?_
  refine Goes.call0 20 #[.slice aF NF cF] (.bool (rfP fs)) (fun w' _ hI => rfeedsR_any (hF.at (bel0 hI)) hl) ?_
  refine Goes.run [] [] trivial ?_
  refine Goes.call0 25 #[.int .i64 day] (.bool (dayP day)) (fun w' _ _ => rday_any day w') ?_
  refine Goes.run [0] [] trivial ?_
  refine Goes.call0 30 #[cv op k t (.slice a N cc)] (.int .i64 E) (fun w' _ hI => by have := rcheck_any (hN.at (bel0 hI)); rwa [hE] at this) ?_
  cases h0 : (E == 0) with
  | false =>
    refine Goes.run [1, 1, 1] [(true, true), (true, true), (E != 0, true)] ⟨rfl, rfl, by rw [bne, h0]; rfl, trivial⟩ ?_
    exact Goes.ret [] (.tuple #[.slice none 0 0, .slice none 0 0, .int .i64 150]) fun w' hm hI => bad w' (bel0 hI) (by rw [h0]; rfl)
  | true =>
    cases hR : rfP fs with
    | false =>
      refine Goes.run [0, 1, 1] [(true, true), (true, true), (E != 0, false)] ⟨rfl, rfl, by rw [bne, h0]; rfl, trivial⟩ ?_
      exact Goes.ret [] (.tuple #[.slice none 0 0, .slice none 0 0, .int .i64 150]) fun w' hm hI => bad w' (bel0 hI) (by rw [h0, hR, Bool.and_false]; rfl)
    | true =>
      cases hD : dayP day with
      | false =>
        refine Goes.run [0, 0, 1] [(true, true), (false, false), (E != 0, false)] ⟨rfl, rfl, by rw [bne, h0]; rfl, trivial⟩ ?_
        exact Goes.ret [] (.tuple #[.slice none 0 0, .slice none 0 0, .int .i64 150]) fun w' hm hI => bad w' (bel0 hI) (by rw [h0, hR, hD]; rfl)
      | true =>
        have hV2 : begR fs day c = (acq fs day c 0 1000000, 0) := by rw [hV, h0, hR, hD]; rfl
        obtain ⟨htyp, hszc, -⟩ := chk_typ (c := c) (by rw [hE]; exact h0)
        rw [hV2]
        refine Goes.run1 [0, 0, 0, 0] [(false, false), (false, false), (E != 0, false)] ⟨rfl, rfl, by rw [bne, h0]; rfl, trivial⟩ fun gw => ?_
        refine Goes.call 31 #[.pointer (some ⟨gw, 0, none⟩), cv op k t (.slice a N cc), .int .i64 0, .int .i64 1000000] fun w3 hm3 hn3 hI3 => ?_
        have hB3 : Below w.heap.size w w3 := bel0 hI3
        have hf2 : w.heap.size ≤ gw := fresh_of hI3 (g := gw) (ids_get (j := 1) (o := rO day (.slice aF NF cF) (.slice none 0 0) (.slice none 0 0)) (by kernel_rfl)) (by simp [Mem.ids])
        refine (racquire_any (n0 := w.heap.size) (g := gw) (day := day) (fv := .slice aF NF cF) (rf_right hR) hf2 c 1 0 1000000 _ (.slice none 0 0) (.slice none 0 0) [] [] w3 htyp (by omega) (by omega) hszc (hN.later hB3) (hF.later hB3) hB3.size Lvs.nil Trs.nil (hm3.get 1) (by simpa using (by omega : szC c ≤ 10000000))).mono fun e w4 ⟨lv, tv, he4, hg2, hA4⟩ => ?_
        simp only [List.nil_append] at hA4
        have hRt := aq_rows hB3 hf2 hA4
        refine ⟨_, RtI w day lv tv (acq fs day c 0 1000000).1 (acq fs day c 0 1000000).2, [(gw, rO day (.slice aF NF cF) lv tv)], he4, holds1 hg2, by simp [Mem.ids], hRt.stay (fun y hy => by simp [Mem.ids] at hy; subst hy; exact ⟨hf2, _, _, _, hg2, by decide, by decide⟩), ?_⟩
        refine Goes.run [] [] trivial ?_
        refine Goes.open [0] ?_
        refine Goes.run [0, 1, 2, 3, 0, 4, 5, 6, 7, 0, 8, 9, 10] [] trivial ?_
        exact Goes.ret [] (.tuple #[lv, tv, .int .i64 0]) fun w' hm hI => ⟨lv, tv, rfl, hI.now.2.1, hI.now.2.2, hI.now.1⟩
theorem beg_len {fs : Fs} {day : Int} {c : Co} : (begR fs day c).1.1.length ≤ 1000000000 ∧ (begR fs day c).1.2.length ≤ 1000000000 := by
  rcases beg_cases fs day c with ⟨h1, h2⟩ | ⟨h1, -⟩
  · have hc := (chk_typ (c := c) (by simp only [Bool.and_eq_true] at h2; exact h2.1)).2.1
    have := acq_len fs day c 0 1000000
    rw [h1]
    constructor <;> (simp only; omega)
  · rw [h1]; simp [r0]
end Go.Proofs.YthnojedlndblbaaGreatDoor
