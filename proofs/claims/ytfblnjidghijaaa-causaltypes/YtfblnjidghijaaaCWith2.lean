/- The document's side of causal: names, with one more; a term's feeds; two lists are the same. -/
import Derived.Test.YtfblnjidghijaaaCWith
import Derived.Test.YtfblnjidghijaaaCRefL
namespace Go.Proofs.Ytfblnjidghijaaa
open Go Go.RowKit

set_option maxRecDepth 100000 in
seal rn rnS Goes ans atEnd put0 putM opened putA0 putA oneSt st0 keep in
theorem with_mid {l : List (List UInt8)} {b N cap j : Nat} {r : List Value} {s : List UInt8} {w : World} (hb : w.heap[b]? = some (sO l r)) (hN : l.length = N) (hcap : N ≤ cap) (hl : N ≤ 1000000) (hj : wpos l s = j) (J : Nat → Value) : Goes Try.prog (bodyPost Try.prog Try.f43 (WQ l b N cap s w)) (fun w' => Ch (Mem.ids [(b, sO l r)]) w w' ∧ True) ⟨wK1, fr 51 (wS b N cap s j) J, [(b, sO l r)]⟩ := by
  have hHb : Holds [(b, sO l r)] w := fun j b o h => by match j, h with | 0, h => (cases h; exact hb)
  have hjN : j ≤ N := by rw [← hj, ← hN]; exact wpos_le l s
  cases hlt : decide ((j : Int) < (N : Int)) with
  | false =>
    refine Goes.run [0, 0] [(false, false), (decide ((j : Int) < (N : Int)), false)] ⟨rfl, hlt, trivial⟩ ?_
    exact Goes.at (with_tail hb hN hcap hl hj (by rw [List.getElem?_eq_none (by have := of_decide_eq_false hlt; omega)]; simp))
  | true =>
    have hjl : j < N := by have := of_decide_eq_true hlt; omega
    obtain ⟨x, hx⟩ : ∃ x, l[j]? = some x := ⟨l[j]'(by omega), by simp⟩
    refine Goes.run [1] [(decide ((j : Int) < (N : Int)), true)] ⟨hlt, trivial⟩ ?_
    refine Goes.val (Instr.indexAt 32 (.slice (some ⟨b, 0, none⟩) N cap) (.int .i64 j)) (.pointer (some ⟨b, j, none⟩)) (fun w' _ _ => idxS b N cap j hjl w') ?_
    refine Goes.val (Instr.loadAt 9 (.pointer (some ⟨b, j, none⟩))) (strV x) (fun w' hm _ => loadS (r := r) (hm.get 0) hx) ?_
    refine Goes.upto 31 [] [] trivial ?_
    refine Goes.val (do eqGuard .eql 9 (.tmp 29) (.tmp 30) (strV x) (strV s); binOp .eql 9 (strV x) (strV s)) (.bool (decide (x = s))) (fun w' _ _ => eqT _ _ x s rfl w') ?_
    cases he : decide (x = s) with
    | true =>
      have he' := of_decide_eq_true he
      refine Goes.run [1] [(true, true)] ⟨rfl, trivial⟩ ?_
      exact Goes.ret [] (.slice (some ⟨b, 0, none⟩) N cap) fun w' hm hI => ⟨_, rfl, .inl ⟨rfl, by unfold withF; rw [hj, hx, he', decide_eq_true rfl]; rfl⟩, below_end (m := [(b, sO l r)]) hHb hI.now.1 hm (by kernel_rfl)⟩
    | false =>
      have he' := of_decide_eq_false he
      refine Goes.run [0] [(false, false)] ⟨rfl, trivial⟩ ?_
      exact Goes.at (with_tail hb hN hcap hl hj (by rw [hx]; simpa using he'))
set_option maxRecDepth 100000 in
seal rn rnS Goes ans atEnd put0 putM opened putA0 putA oneSt st0 keep in
theorem with_some {l : List (List UInt8)} {b N cap : Nat} {r : List Value} {s : List UInt8} {w : World} (hb : w.heap[b]? = some (sO l r)) (hN : l.length = N) (hcap : N ≤ cap) (hl : N ≤ 1000000) : Calls Try.prog 43 #[.slice (some ⟨b, 0, none⟩) N cap, strV s] w (WQ l b N cap s w) := by
  have hHb : Holds [(b, sO l r)] w := fun j b o h => by match j, h with | 0, h => (cases h; exact hb)
  refine Goes.begin Try.func43 [(b, sO l r)] (fun _ => True) hHb (by simp [Mem.ids]) (fun _ _ => trivial) ?_
  refine Goes.run [] [] trivial ?_
  refine Goes.loop0 (α := Nat) 51 (wS b N cap s) [(b, sO l r)] (fun j => j ≤ N ∧ wpos l s = j + wpos (l.drop j) s) (fun j => N - j) 0 ⟨Nat.zero_le _, by simp⟩ ?_
  rintro j J ⟨hj, hjw⟩ back
  cases hlt : decide ((j : Int) < (N : Int)) with
  | false =>
    refine Goes.upto 21 [0, 0, 0] [(false, false), (decide ((j : Int) < (N : Int)), false)] ⟨rfl, hlt, trivial⟩ ?_
    exact Goes.at (with_mid hb hN hcap hl (by rw [hjw, List.drop_of_length_le (by have := of_decide_eq_false hlt; omega)]))
  | true =>
    have hjl : j < N := by have := of_decide_eq_true hlt; omega
    obtain ⟨x, hx⟩ : ∃ x, l[j]? = some x := ⟨l[j]'(by omega), by simp⟩
    obtain ⟨h1, h2⟩ := wpos_at hx hjw
    refine Goes.run [0, 1] [(decide ((j : Int) < (N : Int)), true)] ⟨hlt, trivial⟩ ?_
    refine Goes.val (Instr.indexAt 32 (.slice (some ⟨b, 0, none⟩) N cap) (.int .i64 j)) (.pointer (some ⟨b, j, none⟩)) (fun w' _ _ => idxS b N cap j hjl w') ?_
    refine Goes.val (Instr.loadAt 9 (.pointer (some ⟨b, j, none⟩))) (strV x) (fun w' hm _ => loadS (r := r) (hm.get 0) hx) ?_
    refine Goes.upto 17 [] [] trivial ?_
    refine Goes.val (binOp .lss 9 (strV x) (strV s)) (.bool (decide (x < s))) (fun w' _ _ => lssT x s w') ?_
    cases he : decide (x < s) with
    | false =>
      refine Goes.upto 21 [0] [(false, false)] ⟨rfl, trivial⟩ ?_
      exact Goes.at (with_mid hb hN hcap hl (h2 (of_decide_eq_false he)))
    | true =>
      refine Goes.run [1] [(true, true)] ⟨rfl, trivial⟩ ?_
      refine Goes.slot 5 (.int .i64 (j + 1 : Nat)) (u := .int .i64 (IntKind.i64.wrap ((j : Int) + 1))) (congrArg _ (wrap_nat (by omega))) ?_
      exact back (j + 1) _ ⟨hjl, h1 (of_decide_eq_true he)⟩ (by omega) (by kernel_rfl) (by kernel_rfl) (by kernel_rfl)
theorem with_any {base : Nat} {l : List (List UInt8)} {v : Value} {w : World} (h : Rws base w v l) (hb : base ≤ w.heap.size) (hl : l.length ≤ 1000000) (s : List UInt8) : Calls Try.prog 43 #[v, strV s] w fun e w' => ∃ v', e = .returned v' ∧ Rws base w' v' (withF l s) ∧ Below w.heap.size w w' := by
  rcases h.form with ⟨rfl, rfl⟩ | ⟨b, cap, r, rfl, h1, h2, h3, h4⟩
  · refine (with_nil s w).mono fun e w' ⟨v, he, hR, hB⟩ => ⟨v, he, ?_, hB⟩
    have : withF [] s = [s] := by simp [withF, wpos]
    rw [this]
    exact hR.more hb
  · refine (with_some h2 rfl h3 hl).mono fun e w' ⟨v, he, hR, hB⟩ => ⟨v, he, ?_, hB⟩
    rcases hR with ⟨rfl, e⟩ | hR
    · rw [e]; exact h.below hB (Nat.le_refl _)
    · exact hR.more hb
theorem withF_len (l : List (List UInt8)) (s : List UInt8) : (withF l s).length ≤ l.length + 1 := by
  unfold withF
  have := wpos_le l s
  cases decide (l[wpos l s]? = some s) with
  | true => simp
  | false => simp only [cond_false, List.length_append, List.length_take, List.length_cons, List.length_drop]; omega
mutual
/-- Those of a term, put in. -/
def fdF (l : List (List UInt8)) : Co → List (List UInt8)
  | .mk op _ t kids => fdK (bif op == 4 then withF l t else l) kids
def fdK (l : List (List UInt8)) : List Co → List (List UInt8)
  | [] => l
  | c :: r => fdK (fdF l c) r
end
mutual
theorem fdF_len : ∀ (c : Co) (l : List (List UInt8)), ((fdF l c).length : Int) ≤ l.length + szC c
  | .mk op k t kids, l => by
    rw [fdF, szC]
    have h1 := fdK_len kids (bif op == 4 then withF l t else l)
    have h2 := withF_len l t
    cases h : (op == 4) with
    | true => rw [h] at h1; simp only [cond_true] at h1 ⊢; omega
    | false => rw [h] at h1; simp only [cond_false] at h1 ⊢; omega
theorem fdK_len : ∀ (r : List Co) (l : List (List UInt8)), ((fdK l r).length : Int) ≤ l.length + szL r
  | [], l => by rw [fdK, szL]; omega
  | c :: r, l => by
    rw [fdK, szL]
    have h1 := fdF_len c l
    have h2 := fdK_len r (fdF l c)
    omega
end
theorem Rws.stay {base : Nat} {w w0 : World} {v : Value} {l : List (List UInt8)} {L : List Nat} (h : Rws base w v l) (hB : Below w0.heap.size w0 w) (hL : ∀ x ∈ L, w0.heap.size ≤ x) (ha : ∀ b, v.ownBlock = some b → b ∉ L) : Stay L w (fun w' => Below w0.heap.size w0 w' ∧ Rws base w' v l) := by
  intro w2 hc
  refine ⟨⟨hc.os.trans hB.os, hc.tape.trans hB.tape, hc.output.trans hB.output, Nat.le_trans hB.size hc.size, fun i hi => (hc.block i (Nat.lt_of_lt_of_le hi hB.size) (fun hm => by have := hL i hm; omega)).trans (hB.block i hi)⟩, h.1, ?_⟩
  rcases h.2 with h | ⟨b, cap, cur, h1, h0, hcur, h2⟩
  · exact .inl h
  · exact .inr ⟨b, cap, cur, h1, h0, (hc.block b (lt_of_get hcur) (ha b (by rw [h1]; rfl))).trans hcur, h2⟩
theorem Rws.lt {base : Nat} {w : World} {v : Value} {l : List (List UInt8)} (h : Rws base w v l) {b : Nat} (hb : v.ownBlock = some b) : b < w.heap.size := by
  rcases h.2 with ⟨h1, -⟩ | ⟨b', cap, cur, h1, h0, hcur, h2⟩
  · rw [h1] at hb; cases hb
  · rw [h1] at hb; cases hb; exact lt_of_get hcur
theorem Rws.apart {base g : Nat} {w : World} {v : Value} {l : List (List UInt8)} {op k : Int} {t : List UInt8} {x : Value} (h : Rws base w v l) (hg : w.heap[g]? = some (cO op k t x)) : ∀ b, v.ownBlock = some b → b ∉ [g] := by
  intro b hb hx
  rw [List.mem_singleton] at hx
  subst hx
  rcases h.2 with ⟨h1, -⟩ | ⟨b', cap, cur, h1, h0, hcur, h2⟩
  · rw [h1] at hb; cases hb
  · rw [h1] at hb
    cases hb
    rw [hcur] at hg
    simp [cO] at hg
noncomputable def fK : List TI := (rnS Try.prog 5 [0, 0] [0] (st0 Try.f32 #[.slice none 0 0, cv 0 0 [] (.slice none 0 0)] [])).st.todo
set_option maxRecDepth 100000 in
seal rn rnN rnS Goes ans atEnd put0 putM opened putA0 putA oneSt st0 orT orG keep in
theorem feeds_any (c : Co) : ∀ (base : Nat) (l : List (List UInt8)) (v u : Value) (w : World), Rws base w v l → base ≤ w.heap.size → (l.length : Int) + szC c ≤ 1000000 → Nc w.heap.size w u c → Calls Try.prog 32 #[v, u] w fun e w' => ∃ v', e = .returned v' ∧ Rws base w' v' (fdF l c) ∧ Below w.heap.size w w' := by
  induction c using Co.ind with
  | h op k t kids ih =>
    intro base l v u w hR hbase hsz hN
    obtain ⟨a, cc, rfl, hfit, hcap, hkids⟩ := hN.open
    obtain ⟨N, hL⟩ : ∃ N, kids.length = N := ⟨_, rfl⟩
    rw [hL] at hcap ⊢
    rw [szC] at hsz
    rw [fdF]
    have hposL := szL_pos kids
    have loop : ∀ (g : Nat) (l1 : List (List UInt8)) (v1 : Value), w.heap.size ≤ g → (l1.length : Int) + szL kids ≤ 1000000 → ∀ J, Goes Try.prog (bodyPost Try.prog Try.f32 fun e w' => ∃ v', e = .returned v' ∧ Rws base w' v' (fdK l1 kids) ∧ Below w.heap.size w w') (fun w' => Below w.heap.size w w' ∧ Rws base w' v1 l1) ⟨fK, fr 28 [(0, v1), (3, .pointer (some ⟨g, 0, none⟩))] J, [(g, cO op k t (.slice a N cc))]⟩ := by
      intro g l1 v1 hg hsz1 J0
      refine Goes.run [] [] trivial ?_
      refine Goes.loop (α := Nat × List (List UInt8) × Value) 28 (fun q => [(0, q.2.2), (3, .pointer (some ⟨g, 0, none⟩)), (5, .int .i64 q.1)]) (fun _ => [(g, cO op k t (.slice a N cc))]) (fun q w' => Below w.heap.size w w' ∧ Rws base w' q.2.2 q.2.1) (fun q => q.1 ≤ N ∧ fdK l1 kids = fdK q.2.1 (kids.drop q.1) ∧ (q.2.1.length : Int) + szL (kids.drop q.1) ≤ 1000000) (fun q => N - q.1) (0, l1, v1) ⟨Nat.zero_le _, rfl, hsz1⟩ (fun w' h => h) ?_
      rintro ⟨i, l2, v2⟩ J ⟨hi, hrest, hs2⟩ back
      simp only at hi hrest hs2 back ⊢
      cases hlt : decide ((i : Int) < (N : Int)) with
      | false =>
        obtain rfl : i = N := by have := of_decide_eq_false hlt; omega
        refine Goes.run [0, 0, 0] [(decide ((i : Int) < (i : Int)), false)] ⟨hlt, trivial⟩ ?_
        exact Goes.ret [] v2 fun w' hm hI => ⟨_, rfl, by rw [hrest, List.drop_of_length_le (by omega), fdK]; exact hI.now.2, hI.now.1⟩
      | true =>
        have hil : i < N := by have := of_decide_eq_true hlt; omega
        obtain ⟨x, hu⟩ : ∃ x, kids[i]? = some x := ⟨kids[i]'(by omega), by simp⟩
        obtain ⟨b, o, y, rfl, hb, hcl, hy⟩ := hkids i x hu
        obtain ⟨op', k', t', a', N', c', rfl⟩ := hy.cells
        have hdrop := drop_at hu
        have e1 : szL (kids.drop i) = szC x + szL (kids.drop (i + 1)) := by rw [hdrop, szL]
        have p1 := szC_pos x
        have p2 := szL_pos (kids.drop (i + 1))
        have hlen := fdF_len x l2
        refine Goes.run [0, 0, 1, 0] [(decide ((i : Int) < (N : Int)), true)] ⟨hlt, trivial⟩ ?_
        refine Goes.val (Instr.indexAt 22 (.slice (some ⟨b, o, none⟩) N cc) (.int .i64 i)) (.pointer (some ⟨b, o + i * 4, none⟩)) (fun w' _ _ => idxC b o N cc i hil w') ?_
        refine Goes.val (Instr.loadAt 24 (.pointer (some ⟨b, o + i * 4, none⟩))) (cv op' k' t' (.slice a' N' c')) (fun w' _ hI => loadC (hcl.below hb hI.now.1)) ?_
        refine Goes.call 32 #[v2, cv op' k' t' (.slice a' N' c')] fun w1 hm1 hn1 hI1 => (ih x (List.mem_of_getElem? hu) base l2 v2 _ w1 hI1.now.2 (Nat.le_trans hbase hI1.now.1.size) (by omega) (hy.at hI1.now.1)).mono fun e w2 ⟨v', he, hR', hB⟩ => ?_
        have x1 : w1.heap[g]? = some (cO op k t (.slice (some ⟨b, o, none⟩) N cc)) := hm1.get 0
        have x2 := (hB.block g (lt_of_get x1)).trans x1
        refine ⟨v', fun w' => Below w.heap.size w w' ∧ Rws base w' v' (fdF l2 x), [(g, cO op k t (.slice (some ⟨b, o, none⟩) N cc))], he, fun i b' o h => by match i, h with | 0, h => (cases h; exact x2), by simp [Mem.ids], hR'.stay (hI1.now.1.trans (hB.mono hI1.now.1.size)) (by simp [Mem.ids]; exact hg) (hR'.apart x2), ?_⟩
        refine Goes.run [] [] trivial ?_
        refine Goes.slot 5 (.int .i64 (i + 1 : Nat)) (u := .int .i64 (IntKind.i64.wrap ((i : Int) + 1))) (congrArg _ (wrap_nat (by omega))) ?_
        exact back (i + 1, fdF l2 x, v') _ ⟨hil, by rw [hrest, hdrop, fdK], by simp only; omega⟩ (by simp only; omega) (by kernel_rfl) (by kernel_rfl) (by kernel_rfl)
    refine Goes.begin Try.func32 [] (fun w' => Rws base w' v l) Holds.nil (by simp [Mem.ids]) (fun w' hc => hR.below (hc.toB (fun x hx => by cases hx)) (Nat.le_refl _)) ?_
    cases h4 : (op == 4) with
    | false =>
      refine Goes.upto1 5 [0, 0] [(op == 4, false)] ⟨h4, trivial⟩ fun g => ?_
      refine Goes.knowQ (Q := w.heap.size ≤ g) (fun w' _ _ hI => fresh_of hI (g := g) (ids_get (j := 0) (o := cO op k t (.slice a N cc)) (by kernel_rfl)) (by simp [Mem.ids])) fun hg => ?_
      exact (Goes.at (loop g l v hg (by omega))).inv fun w' h => ⟨h.1.toB (fun x hx => by cases hx), h.2⟩
    | true =>
      have hwl := withF_len l t
      refine Goes.run1 [0, 1, 0] [(op == 4, true)] ⟨h4, trivial⟩ fun g => ?_
      refine Goes.call 43 #[v, strV t] fun w1 hm1 hn1 hI1 => (with_any hI1.now.2 (Nat.le_trans hbase hI1.now.1.size) (by omega) t).mono fun e w2 ⟨v', he, hR', hB⟩ => ?_
      have hg : w.heap.size ≤ g := fresh_of hI1 (g := g) (ids_get (j := 0) (o := cO op k t (.slice a N cc)) (by kernel_rfl)) (by simp [Mem.ids])
      have x1 : w1.heap[g]? = some (cO op k t (.slice a N cc)) := hm1.get 0
      have x2 := (hB.block g (lt_of_get x1)).trans x1
      have hB1 : Below w.heap.size w w1 := hI1.now.1.toB (fun x hx => by cases hx)
      refine ⟨v', fun w' => Below w.heap.size w w' ∧ Rws base w' v' (withF l t), [(g, cO op k t (.slice a N cc))], he, fun i b' o h => by match i, h with | 0, h => (cases h; exact x2), by simp [Mem.ids], hR'.stay (hB1.trans (hB.mono hB1.size)) (by simp [Mem.ids]; exact hg) (hR'.apart x2), ?_⟩
      refine Goes.upto 5 [] [] trivial ?_
      exact Goes.at (loop g (withF l t) v' hg (by omega))
set_option maxRecDepth 100000 in
seal rn rnN rnS Goes ans atEnd put0 putM opened putA0 putA oneSt st0 orT orG keep in
theorem names_any {base base' : Nat} {l m : List (List UInt8)} {v u : Value} {w : World} (hv : Rws base w v l) (hu : Rws base' w u m) (hl : l.length ≤ 1000000) : Calls Try.prog 13 #[v, u] w fun e w' => e = .returned (.bool (decide (l = m))) ∧ Below w.heap.size w w' := by
  have f1 : ∃ a c, v = .slice a l.length c := by
    rcases hv.form with ⟨rfl, rfl⟩ | ⟨b, cap, r, rfl, -⟩
    · exact ⟨none, 0, rfl⟩
    · exact ⟨_, _, rfl⟩
  have f2 : ∃ a c, u = .slice a m.length c := by
    rcases hu.form with ⟨rfl, rfl⟩ | ⟨b, cap, r, rfl, -⟩
    · exact ⟨none, 0, rfl⟩
    · exact ⟨_, _, rfl⟩
  obtain ⟨a1, c1, rfl⟩ := f1
  obtain ⟨a2, c2, rfl⟩ := f2
  by_cases hlm : l.length = m.length
  · by_cases hl0 : l = []
    · subst hl0
      obtain rfl : m = [] := List.eq_nil_of_length_eq_zero (by simpa using hlm.symm)
      refine Goes.begin Try.func13 [] (fun _ => True) Holds.nil (by simp [Mem.ids]) (fun _ _ => trivial) ?_
      refine Goes.run [0, 0, 0] [(false, false), (false, false)] ⟨rfl, rfl, trivial⟩ ?_
      exact Goes.ret [] (.bool true) fun w' hm hI => ⟨rfl, bel0 hI⟩
    · have hlp : 0 < l.length := List.length_pos_iff.2 hl0
      obtain ⟨b1, r1, e1, hb1⟩ : ∃ b1 r1, a1 = some ⟨b1, 0, none⟩ ∧ w.heap[b1]? = some (sO l r1) := by
        rcases hv.form with ⟨-, h⟩ | ⟨b, cap, r, h1, -, h2, -⟩
        · exact absurd h hl0
        · cases h1; exact ⟨b, r, rfl, h2⟩
      obtain ⟨b2, r2, e2, hb2⟩ : ∃ b2 r2, a2 = some ⟨b2, 0, none⟩ ∧ w.heap[b2]? = some (sO m r2) := by
        rcases hu.form with ⟨-, h⟩ | ⟨b, cap, r, h1, -, h2, -⟩
        · rw [h] at hlm; simp only [List.length_nil] at hlm; omega
        · cases h1; exact ⟨b, r, rfl, h2⟩
      subst e1
      subst e2
      obtain ⟨N, hN⟩ : ∃ N, l.length = N := ⟨_, rfl⟩
      rw [← hlm, hN]
      rw [hN] at hl hlm
      refine Goes.begin Try.func13 [] (fun w' => w'.heap[b1]? = some (sO l r1) ∧ w'.heap[b2]? = some (sO m r2)) Holds.nil (by simp [Mem.ids]) (fun w' hc => ⟨(hc.block b1 (lt_of_get hb1) (by simp [Mem.ids])).trans hb1, (hc.block b2 (lt_of_get hb2) (by simp [Mem.ids])).trans hb2⟩) ?_
      refine Goes.run [0] [((N : Int) != (N : Int), false)] ⟨by simp, trivial⟩ ?_
      refine Goes.loop0 (α := Nat) 26 (fun j => [(0, .slice (some ⟨b1, 0, none⟩) N c1), (1, .slice (some ⟨b2, 0, none⟩) N c2), (5, .int .i64 j)]) [] (fun j => j ≤ N ∧ decide (l = m) = decide (l.drop j = m.drop j)) (fun j => N - j) 0 ⟨Nat.zero_le _, rfl⟩ ?_
      rintro j J ⟨hj, hjq⟩ back
      cases hlt : decide ((j : Int) < (N : Int)) with
      | false =>
        have hje : N ≤ j := by have := of_decide_eq_false hlt; omega
        refine Goes.run [0, 0] [(decide ((j : Int) < (N : Int)), false)] ⟨hlt, trivial⟩ ?_
        exact Goes.ret [] (.bool true) fun w' hm hI => ⟨by rw [hjq, List.drop_of_length_le (by omega), List.drop_of_length_le (by omega)]; rfl, bel0 hI⟩
      | true =>
        have hjl : j < N := by have := of_decide_eq_true hlt; omega
        obtain ⟨x, hx⟩ : ∃ x, l[j]? = some x := ⟨l[j]'(by omega), by simp⟩
        obtain ⟨y, hy⟩ : ∃ y, m[j]? = some y := ⟨m[j]'(by omega), by simp⟩
        have d1 : l.drop j = x :: l.drop (j + 1) := by
          obtain ⟨h1, h2⟩ := List.getElem?_eq_some_iff.1 hx
          rw [List.drop_eq_getElem_cons h1, h2]
        have d2 : m.drop j = y :: m.drop (j + 1) := by
          obtain ⟨h1, h2⟩ := List.getElem?_eq_some_iff.1 hy
          rw [List.drop_eq_getElem_cons h1, h2]
        refine Goes.run [0, 1] [(decide ((j : Int) < (N : Int)), true)] ⟨hlt, trivial⟩ ?_
        refine Goes.openY [] [(b1, sO l r1), (b2, sO m r2)] (fun w' h i b o hi => by match i, hi with | 0, hi => (cases hi; exact h.2.1) | 1, hi => (cases hi; exact h.2.2)) ?_
        refine Goes.run [0, 1, 4, 5] [] trivial ?_
        refine Goes.valA 2 (Instr.indexAt 32 (.slice (some ⟨b1, 0, none⟩) N c1) (.int .i64 j)) (.pointer (some ⟨b1, j, none⟩)) (fun w' _ => idxS b1 _ c1 j hjl w') ?_
        refine Goes.valA 3 (Instr.loadAt 9 (.pointer (some ⟨b1, j, none⟩))) (strV x) (fun w' h => loadS (r := r1) (h.get 0) hx) ?_
        refine Goes.valA 6 (Instr.indexAt 32 (.slice (some ⟨b2, 0, none⟩) N c2) (.int .i64 j)) (.pointer (some ⟨b2, j, none⟩)) (fun w' _ => idxS b2 _ c2 j hjl w') ?_
        refine Goes.valA 7 (Instr.loadAt 9 (.pointer (some ⟨b2, j, none⟩))) (strV y) (fun w' h => loadS (r := r2) (h.get 1) hy) ?_
        refine Goes.valA 8 (do eqGuard .neq 9 (.tmp 20) (.tmp 24) (strV x) (strV y); binOp .neq 9 (strV x) (strV y)) (.bool (decide (x ≠ y))) (fun w' _ => neT _ _ x y rfl w') ?_
        cases hxy : decide (x ≠ y) with
        | true =>
          refine Goes.run [1] [(true, true)] ⟨rfl, trivial⟩ ?_
          exact Goes.ret [] (.bool false) fun w' hm hI => ⟨by
            have := of_decide_eq_true hxy
            rw [hjq, d1, d2, decide_eq_false (by simp [this])], bel0 hI⟩
        | false =>
          have hxe : x = y := by simpa using hxy
          subst hxe
          refine Goes.run [0] [(false, false)] ⟨rfl, trivial⟩ ?_
          refine Goes.slot 5 (.int .i64 (j + 1 : Nat)) (u := .int .i64 (IntKind.i64.wrap ((j : Int) + 1))) (congrArg _ (wrap_nat (by omega))) ?_
          exact back (j + 1) _ ⟨hjl, by rw [hjq, d1, d2]; simp⟩ (by omega) (by kernel_rfl) (by kernel_rfl) (by kernel_rfl)
  · refine Goes.begin Try.func13 [] (fun _ => True) Holds.nil (by simp [Mem.ids]) (fun _ _ => trivial) ?_
    refine Goes.run [1] [((l.length : Int) != (m.length : Int), true)] ⟨by simp; omega, trivial⟩ ?_
    exact Goes.ret [] (.bool false) fun w' hm hI => ⟨by rw [decide_eq_false (fun e => hlm (by rw [e]))], bel0 hI⟩
end Go.Proofs.Ytfblnjidghijaaa
