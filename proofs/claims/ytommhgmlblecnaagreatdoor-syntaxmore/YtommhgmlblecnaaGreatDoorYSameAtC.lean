/- the text YSameAt -/
import Derived.Test.YtommhgmlblecnaaGreatDoorYGf
namespace Go.Proofs.YtommhgmlblecnaaGreatDoor
open Go Go.RowKit

theorem nd_stay {w : World} {v : Value} {t : Tr} (h : Nd w v t) : Stay [] w (fun w => Nd w v t) := fun _ hc => h.later (ch_below hc)
theorem ne_selfI (k : Int) : (k != k) = false := by simp
set_option maxRecDepth 100000 in
set_option maxHeartbeats 2000000 in
seal rn Goes ans atEnd put0 putM opened putA0 oneSt st0 keep putA in
theorem sameAt_any (t : Tr) : ∀ (w : World) (u u' : T6), Nd w u.nd t → Nd w u'.nd t → Calls Tryz.prog 15 #[u.nd, u'.nd] w fun e w' => e = .returned (.bool true) ∧ Below w.heap.size w w' := by
  refine Tr.ind (P := fun t => ∀ (w : World) (u u' : T6), Nd w u.nd t → Nd w u'.nd t → Calls Tryz.prog 15 #[u.nd, u'.nd] w fun e w' => e = .returned (.bool true) ∧ Below w.heap.size w w') ?_ t
  intro k x n ks p ih w u u' h h'
  obtain ⟨N, hN⟩ : ∃ N, ks.length = N := ⟨_, rfl⟩
  have hNl : N ≤ 9223372036854775807 := by
    obtain ⟨a, c, -, hc, -⟩ := h.open
    omega
  obtain ⟨a, c, d, rfl⟩ := h.t6
  obtain ⟨a', c', d', rfl⟩ := h'.t6
  rw [hN] at h h' ⊢
  refine Goes.begin Tryz.func15 [] (fun w => Nd w (T6.nd ⟨k, x, n, a, N, c, p, d⟩) (.mk k x n ks p) ∧ Nd w (T6.nd ⟨k, x, n, a', N, c', p, d'⟩) (.mk k x n ks p)) (fun j b o h => by cases h) (by simp [Mem.ids]) ((nd_stay h).and (nd_stay h')) ?_
  have hNN : (((N : Nat) : Int) != (N : Int)) = false := by simp
  have hxx : (!(eqS x x)) = false := by rw [eqS_eq]; simp
  refine Goes.run2 [0, 1, 0, 0, 1, 0, 0, 1, 0, 0, 1, 0, 0, 1, 0] [(((N : Nat) : Int) != (N : Int), false), (p != p, false), (n != n, false), (!(eqS x x), false), (k != k, false)] ⟨hNN, ne_selfI p, ne_selfI n, hxx, ne_selfI k, trivial⟩ fun g1 g2 => ?_
  refine Goes.loop0 (α := Nat) 62 (fun j => [(2, .pointer (some ⟨g1, 0, none⟩)), (3, .pointer (some ⟨g2, 0, none⟩)), (5, .int .i64 j)]) [(g1, .cells #[.int .i64 k, strV x, .int .i64 n, .slice a N c, .int .i64 p] 25 (0, 0)), (g2, .cells #[.int .i64 k, strV x, .int .i64 n, .slice a' N c', .int .i64 p] 25 (0, 0))] (fun j => j ≤ N) (fun j => N - j) 0 (Nat.zero_le _) ?_
  intro j J hj back
  cases hlt : decide ((j : Int) < (N : Int)) with
  | false =>
    refine Goes.run [0, 0, 0] [(decide ((j : Int) < (N : Int)), false)] ⟨hlt, trivial⟩ ?_
    exact Goes.ret [] (.bool true) fun w' hm hI => ⟨rfl, ch_below hI.now.1⟩
  | true =>
    have hjl : j < N := by have := of_decide_eq_true hlt; omega
    obtain ⟨t, ht⟩ : ∃ t, ks[j]? = some t := ⟨ks[j], by simp⟩
    refine Goes.run [0, 0, 1] [(decide ((j : Int) < (N : Int)), true)] ⟨hlt, trivial⟩ ?_
    refine Goes.know fun w3 hm hI => ?_
    obtain ⟨b, o, v, ob, ha, h0⟩ := Stay.kid (hI.mono fun _ h => h.2.1) ht
    obtain ⟨b', o', v', ob', ha', h1⟩ := Stay.kid (hI.mono fun _ h => h.2.2) ht
    obtain rfl : a = some ⟨b, o, none⟩ := ha
    obtain rfl : a' = some ⟨b', o', none⟩ := ha'
    refine ⟨_, hI.and (h0.and h1), ?_⟩
    refine Goes.openX [0, 1] [(b, ob), (b', ob')] (fun w' h => Holds.two h.2.1.2.2 h.2.2.2.2) ?_
    refine Goes.run [0, 1, 0, 2] [] trivial ?_
    refine Goes.valA 3 (Instr.indexAt 23 (.slice (some ⟨b, o, none⟩) N c) (.int .i64 j)) (.pointer (some ⟨b, o + j * 5, none⟩)) (fun w' _ => idx24 b o N c j hjl w') ?_
    refine Goes.valA 4 (Instr.loadAt 25 (.pointer (some ⟨b, o + j * 5, none⟩))) v.nd (fun w' hm => load24 (h0.now.1.same ((hm.get 2).trans h0.now.2.2.symm))) ?_
    refine Goes.run [5, 6, 1, 7] [] trivial ?_
    refine Goes.valA 8 (Instr.indexAt 23 (.slice (some ⟨b', o', none⟩) N c') (.int .i64 j)) (.pointer (some ⟨b', o' + j * 5, none⟩)) (fun w' _ => idx24 b' o' N c' j hjl w') ?_
    refine Goes.valA 9 (Instr.loadAt 25 (.pointer (some ⟨b', o' + j * 5, none⟩))) v'.nd (fun w' hm => load24 (h1.now.1.same ((hm.get 3).trans h1.now.2.2.symm))) ?_
    refine Goes.callA0 10 15 #[v.nd, v'.nd] (.bool true) (fun w' _ hI => ih t (List.mem_of_getElem? ht) w' v v' hI.now.2.1.2.1 hI.now.2.2.2.1) ?_
    refine Goes.run [11, 0] [(false, false)] ⟨rfl, trivial⟩ ?_
    refine Goes.slot 5 (.int .i64 (j + 1 : Nat)) (u := .int .i64 (IntKind.i64.wrap ((j : Int) + 1))) (congrArg _ (wrap_nat (by omega))) ?_
    exact Goes.inv (fun w' h => h.1) (back (j + 1) _ hjl (by omega) (by kernel_rfl) (by kernel_rfl) (by kernel_rfl))
end Go.Proofs.YtommhgmlblecnaaGreatDoor
