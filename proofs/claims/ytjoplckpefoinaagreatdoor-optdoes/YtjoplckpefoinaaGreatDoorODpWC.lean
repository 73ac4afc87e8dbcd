/- the text ODpW -/
import Derived.Test.YtjoplckpefoinaaGreatDoorAG15
namespace Go.Proofs.YtjoplckpefoinaaGreatDoor
open Go Go.RowKit

def tD (r : Option Co) : Co := r.getD zeroC
def eD (r : Option Co) : Int := match r with | none => 160 | some _ => 0
/-- What is answered, whichever. -/
theorem DoR.all {w w' : World} {A : Nat → Prop} {r : Option Co} {e : Ending} (h : DoR w A r e w') : (∃ v', e = .returned (.tuple #[v', .int .i64 (eD r)]) ∧ NcS (Since A w w') w' v' (tD r)) ∧ Below w.heap.size w w' := by
  obtain ⟨h1, h2⟩ := h
  refine ⟨?_, h2⟩
  cases r with
  | none => exact ⟨_, h1, NcS.leaf (show Fits 0 0 [] from ⟨by omega, by omega, by simp⟩)⟩
  | some t => exact h1
/-- A row that is written over, beside blocks that stay. -/
structure DI (w : World) (B : Nat → Prop) (wf : World) (bk ok N : Nat) (w' : World) : Prop where
  ch : Ch [] w w'
  stay : ∀ x, B x → w'.heap[x]? = wf.heap[x]? ∧ w.heap.size ≤ x ∧ Unf w' x
  row : 0 < N → ∃ cs t, w'.heap[bk]? = some (.cells cs t (0, 0)) ∧ ok + N * 4 ≤ cs.size
theorem DI.put {w : World} {B : Nat → Prop} {wf : World} {bk ok N : Nat} {L : List Nat} {w1 w2 : World} (h : Stay L w1 (DI w B wf bk ok N)) (hL : ∀ x ∈ L, w.heap.size ≤ x ∧ ¬ B x ∧ x ≠ bk) (hb : w.heap.size ≤ bk) (hB : ¬ B bk) (hc : Ch [bk] w1 w2) (hr : ∃ cs t, w2.heap[bk]? = some (.cells cs t (0, 0)) ∧ ok + N * 4 ≤ cs.size) : Stay L w2 (DI w B wf bk ok N) := by
  intro w3 h3
  have h1 := h.now
  refine ⟨⟨h3.os.trans (hc.os.trans h1.ch.os), h3.tape.trans (hc.tape.trans h1.ch.tape), h3.output.trans (hc.output.trans h1.ch.output), Nat.le_trans h1.ch.size (Nat.le_trans hc.size h3.size), fun i hi _ => ?_⟩, fun x hx => ?_, fun _ => ?_⟩
  · have l1 : i < w1.heap.size := Nat.lt_of_lt_of_le hi h1.ch.size
    rw [h3.block i (Nat.lt_of_lt_of_le l1 hc.size) (fun hm => by have := (hL i hm).1; omega), hc.block i l1 (fun hm => by simp at hm; omega), h1.ch.block i hi (by simp)]
  · have e1 := h1.stay x hx
    have hne : x ≠ bk := fun e => hB (e ▸ hx)
    have he : w3.heap[x]? = w1.heap[x]? := by rw [h3.block x (Nat.lt_of_lt_of_le e1.2.2.lt hc.size) (fun hm => (hL x hm).2.1 hx), hc.block x e1.2.2.lt (by simpa using hne)]
    exact ⟨he.trans e1.1, e1.2.1, e1.2.2.same he⟩
  · obtain ⟨cs, t, e, hs⟩ := hr
    exact ⟨cs, t, (h3.block bk (lt_of_get e) (fun hm => (hL bk hm).2.2 rfl)).trans e, hs⟩
/-- A term is written over. -/
theorem over_run {w : World} {bk o : Nat} {cs : Array Value} {t : TypeId} (h : w.heap[bk]? = some (.cells cs t (0, 0))) (ho : o + 4 ≤ cs.size) : ∃ w', (Instr.storeAt 24 (.pointer (some ⟨bk, o, none⟩)) (cv 77 0 [] (.slice none 0 0))).run Tryz.prog w = .ok () w' ∧ Ch [bk] w w' ∧ ∃ cs' t', w'.heap[bk]? = some (.cells cs' t' (0, 0)) ∧ cs'.size = cs.size := by
  have hs := run_storeCells_at (P := Tryz.prog) bk o t (cellsV (cv 77 0 [] (.slice none 0 0))) 0 cs w h (by simpa [cellsV, cv] using ho) (by intro u hu; simp only [cellsV, cv, List.mem_cons, List.not_mem_nil, or_false] at hu; rcases hu with rfl | rfl | rfl | rfl <;> rfl)
  refine ⟨_, storeC4 hs, ch_row _ _ _, _, t, setRow_heap w bk _ _ t _ h, ?_⟩
  have h4 : (cellsV (cv 77 0 [] (.slice none 0 0))).length = 4 := rfl
  simp only [List.size_toArray, List.length_append, List.length_take, List.length_drop, Array.length_toList, h4]
  omega
/-- The row of a term's kids. -/
theorem top_row {A : Nat → Prop} {w : World} {op k : Int} {s : List UInt8} {a : Option Addr} {N cc : Nat} {c : Co} (h : NcS A w (cv op k s (.slice a N cc)) c) (h0 : 0 < N) : ∃ bk ok u, a = some ⟨bk, ok, none⟩ ∧ A bk ∧ w.cell? ⟨bk, ok + (N - 1) * 4 + 3, none⟩ = some u ∧ N ≤ 9223372036854775807 := by
  obtain ⟨q1, q2, q3, q4⟩ := c
  obtain ⟨a0, c0, e0, -, hcap, hk⟩ := h.open
  unfold cv at e0
  simp only [Value.agg.injEq, Array.mk.injEq, List.cons.injEq, Value.int.injEq, Value.slice.injEq, true_and, and_true] at e0
  obtain ⟨-, -, -, rfl, hl, -⟩ := e0
  obtain ⟨x, hx⟩ : ∃ x, q4[N - 1]? = some x := ⟨q4[N - 1]'(by omega), by simp⟩
  obtain ⟨b, o, u, e, hb, ⟨y1, y2, y3, y4, -, -, -, -, h4⟩, -⟩ := hk _ x hx
  exact ⟨b, o, y4, e, hb, h4, by omega⟩
set_option maxRecDepth 100000 in
seal rn rnN rnS Goes ans atEnd put0 putM opened openedY putA0 putA oneSt st0 keep put in
theorem does_walk {c : Co} {v : Value} {w : World} (n : Int) (hn : -9223372036854775808 ≤ n ∧ n ≤ 9223372036854775807) (hT : Tab w) (hN : Nc w.heap.size w v c) : Calls Tryz.prog 3 #[v, .int .i64 n] w fun e w' => e = .returned (.bool true) ∧ Below w.heap.size w w' := by
  obtain ⟨op, k, s, a, N, cc, rfl⟩ := hN.cells
  have hA : ∀ x, x < w.heap.size → x < w.heap.size := fun _ h => h
  have hc : ∀ {w' : World}, Below w.heap.size w w' → NcS (fun x => x < w.heap.size) w' (cv op k s (.slice a N cc)) c := fun hB => hN.toS.bel hA hB
  obtain ⟨r, hr⟩ : ∃ r, doP c n = r := ⟨_, rfl⟩
  have lt : ∀ {w' : World}, Below w.heap.size w w' → ∀ x, x < w.heap.size → x < w'.heap.size := fun hB x hx => Nat.lt_of_lt_of_le hx hB.size
  refine Goes.begin Tryz.func3 [] (fun _ => True) Holds.nil (by simp [Mem.ids]) (fun _ _ => trivial) ?_
  refine Goes.inv KI.begin ?_
  refine Goes.run1 [] [] trivial fun g2 => ?_
  refine Goes.call0 4 #[] (.bool true) (fun w' hm hI => shown16_any (hT.below hI.now.bel)) ?_
  refine Goes.run [0] [] trivial ?_
  refine Goes.call 5 #[cv op k s (.slice a N cc), .int .i64 n] fun w1 hm1 hn1 hI1 => (do_new n (lt hI1.now.bel) (hc hI1.now.bel) (hT.below hI1.now.bel)).mono fun e w2 he => ?_
  rw [hr] at he
  obtain ⟨⟨v2, he, hN2⟩, hB12⟩ := DoR.all he
  obtain ⟨o2, k2, s2, a2, n2, c2, rfl⟩ := hN2.cells
  have hT1 : NcS (fun x => F0 x ∨ (False ∨ New w1 w2 x)) w2 (cv o2 k2 s2 (.slice a2 n2 c2)) (tD r) := hN2.mono fun x hx => .inr (.inr (hx.resolve_left id))
  refine ⟨_, _, _, he, hm1.bel hB12, hn1, KI.call hI1 (holds_lt hm1) hB12, ?_⟩
  refine Goes.run1 [1, 0] [] trivial fun g6 => ?_
  refine Goes.call 6 #[cv op k s (.slice a N cc), .int .i64 n] fun w3 hm3 hn3 hI3 => (rdo_any n hn (lt hI3.now.bel) (hc hI3.now.bel)).mono fun e w4 he4 => ?_
  rw [hr] at he4
  obtain ⟨⟨v4, he4, hN4⟩, hB34⟩ := DoR.all he4
  obtain ⟨o4, k4, s4, a4, n4, c4, rfl⟩ := hN4.cells
  have hT3 := KI.lift (A := F0) (fun x hx => hx.elim) (fun x hx => hx.elim) hI3.now hB34 hT1
  have hB04 : Below w.heap.size w w4 := hI3.now.bel.trans (hB34.mono hI3.now.bel.size)
  have hU4 : NcS (fun x => x < w.heap.size ∨ New w3 w4 x) w4 (cv o4 k4 s4 (.slice a4 n4 c4)) (tD r) := hN4
  refine ⟨_, _, _, he4, hm3.bel hB34, hn3, KI.call hI3 (holds_lt hm3) hB34, ?_⟩
  refine Goes.run1 [2, 1, 2] [] trivial fun g8 => ?_
  have hF : ∀ x, F0 x → x < w.heap.size := fun x hx => hx.elim
  have hw4 : ∀ x, x < w.heap.size → w4.heap[x]? = w.heap[x]? := fun x hx => hB04.block x hx
  have hU4' : NcS (fun x => x < w.heap.size ∨ ((False ∨ New w1 w2 x) ∨ New w3 w4 x)) w4 (cv o4 k4 s4 (.slice a4 n4 c4)) (tD r) := hU4.mono fun x hx => hx.elim .inl fun h => .inr (.inr h)
  refine Goes.call0 7 #[cv o2 k2 s2 (.slice a2 n2 c2), cv o4 k4 s4 (.slice a4 n4 c4)] (.bool true) (fun w7 hm hI => by have := sameC_any (tD r) (tD r) _ _ w7 (KI.nc' (A := F0) hF (fun x hx => hx.elim) hI.now hT3) (KI.nc' hA hw4 hI.now hU4'); rw [sameB_self] at this; exact this) ?_
  obtain ⟨bk, ok, hrow⟩ : ∃ bk ok, 0 < n2 → a2 = some ⟨bk, ok, none⟩ ∧ New w1 w2 bk ∧ bk < w3.heap.size ∧ n2 ≤ 9223372036854775807 ∧ ∃ cs t, w4.heap[bk]? = some (.cells cs t (0, 0)) ∧ ok + n2 * 4 ≤ cs.size := by
    by_cases h0 : 0 < n2
    · obtain ⟨bk, ok, u, e, hb, hcell, hcap⟩ := top_row hT1 h0
      have hb := (hb.resolve_left id).resolve_left id
      obtain ⟨cs, t, e2⟩ := id hb.2
      have h3 := hI3.now.stay bk (.inr hb)
      refine ⟨bk, ok, fun _ => ⟨e, hb, h3.2.2.lt, hcap, cs, t, ?_, ?_⟩⟩
      · rw [hB34.block bk h3.2.2.lt, h3.1, e2]
      · unfold World.cell? at hcell
        rw [e2] at hcell
        have := (Array.getElem?_eq_some_iff.1 (by simpa using hcell)).1
        omega
    · exact ⟨0, 0, fun h => absurd h h0⟩
  refine Goes.run [] [] trivial ?_
  refine Goes.here (fun _ => DI w (New w3 w4) w4 bk ok n2) fun w5 hm5 hn5 hI5 => ⟨hI5.mono fun w' h => ⟨h.ch, fun x hx => h.stay x (.inr hx), fun h0 => ?_⟩, ?_⟩
  · obtain ⟨-, h2, -, -, cs, t, e, hs⟩ := hrow h0
    exact ⟨cs, t, ((h.stay bk (.inl (.inr h2))).1).trans e, hs⟩
  have hL : ∀ x ∈ [g2, g6, g8], w.heap.size ≤ x ∧ ¬ New w3 w4 x ∧ (0 < n2 → x ≠ bk) := fun x hx => by
    have hk := KI.known hI5 (holds_lt hm5) x (mem_eq hx)
    exact ⟨hk.1, fun h => hk.2.1 (.inr h), fun h0 e => hk.2.1 (.inl (.inr (e ▸ (hrow h0).2.1)))⟩
  clear hI5 hm5 hn5 w5
  refine Goes.loop0 (α := Nat) 62 (fun j => [(1, .int .i64 n), (2, .pointer (some ⟨g2, 0, none⟩)), (5, .bool true), (6, .pointer (some ⟨g6, 0, none⟩)), (7, .int .i64 (eD r)), (8, .pointer (some ⟨g8, 0, none⟩)), (9, .int .i64 (eD r)), (10, .bool true), (11, .int .i64 j)]) [(g2, cO4 op k s a N cc), (g6, cO4 o2 k2 s2 a2 n2 c2), (g8, cO4 o4 k4 s4 a4 n4 c4)] (fun j => j ≤ n2) (fun j => n2 - j) 0 (Nat.zero_le _) ?_
  rintro j J hj2 back
  cases hlt : decide ((j : Int) < (n2 : Int)) with
  | true =>
    have hjl : j < n2 := by have := of_decide_eq_true hlt; omega
    obtain ⟨ha2, hnb, hb3, hcap, -⟩ := hrow (by omega)
    have hnb3 : ¬ New w3 w4 bk := fun h => by have := h.1.1; omega
    refine Goes.run [0, 1, 1, 1] [(decide ((j : Int) < (n2 : Int)), true)] ⟨hlt, trivial⟩ ?_
    refine Goes.val (Instr.indexAt 22 (.slice a2 n2 c2) (.int .i64 j)) (.pointer (some ⟨bk, ok + j * 4, none⟩)) (fun w' _ _ => by rw [ha2]; exact idxC bk ok n2 c2 j hjl w') ?_
    refine Goes.sto (Instr.storeAt 24 (.pointer (some ⟨bk, ok + j * 4, none⟩)) (cv 77 0 [] (.slice none 0 0))) fun w' hm hnd hI => ?_
    obtain ⟨cs, t, e, hsz⟩ := hI.now.row (by omega)
    obtain ⟨w'', h1, h2, cs', t', e', hs'⟩ := over_run (o := ok + j * 4) e (by omega)
    have hids : ∀ x ∈ [g2, g6, g8], w.heap.size ≤ x ∧ ¬ New w3 w4 x ∧ x ≠ bk := fun x hx => ⟨(hL x hx).1, (hL x hx).2.1, (hL x hx).2.2 (by omega)⟩
    refine ⟨w'', _, _, h1, fun i b o hi => ?_, hnd, DI.put hI (fun x hx => hids x (mem_eq hx)) (Nat.le_trans hI1.now.bel.size hnb.1.1) hnb3 h2 ⟨cs', t', e', by omega⟩, ?_⟩
    · rw [h2.block b (lt_of_get (hm.at hi)) (fun hx => (hids b (mem_eq (ids_get hi))).2.2 (by simpa using hx))]
      exact hm.at hi
    refine Goes.run [] [] trivial ?_
    refine Goes.slot 11 (.int .i64 (j + 1 : Nat)) (u := .int .i64 (IntKind.i64.wrap ((j : Int) + 1))) (congrArg _ (wrap_nat (by omega))) ?_
    exact back (j + 1) _ (by omega) (by omega) (by kernel_rfl) (by kernel_rfl) (by kernel_rfl)
  | false =>
    refine Goes.inv (Inv' := KI w (New w3 w4) w4 nilV 0 []) (fun w' h => ⟨h.ch, w'.ownsRow_nil _ _ _, h.stay, fun r hr => by cases hr⟩) ?_
    refine Goes.run [0, 1, 0, 0] [(decide ((j : Int) < (n2 : Int)), false)] ⟨hlt, trivial⟩ ?_
    refine Goes.call 5 #[cv op k s (.slice a N cc), .int .i64 n] fun w5 hm5 hn5 hI5 => (do_new n (lt hI5.now.bel) (hc hI5.now.bel) (hT.below hI5.now.bel)).mono fun e w6 he6 => ?_
    rw [hr] at he6
    obtain ⟨⟨v6, he6, hN6⟩, hB56⟩ := DoR.all he6
    obtain ⟨o6, k6, s6, a6, n6, c6, rfl⟩ := hN6.cells
    have hU6 := KI.lift hA hw4 hI5.now hB56 hU4
    have hw6 := KI.old hA hI5.now hB56
    have hV6 : NcS (fun x => x < w.heap.size ∨ (New w3 w4 x ∨ New w5 w6 x)) w6 (cv o6 k6 s6 (.slice a6 n6 c6)) (tD r) := hN6.mono fun x hx => .inr (.inr (hx.resolve_left id))
    refine ⟨_, _, _, he6, hm5.bel hB56, hn5, KI.call hI5 (holds_lt hm5) hB56, ?_⟩
    refine Goes.run1 [3, 1, 1, 1, 3, 2] [(eD r == eD r, true), (true, true), (true, true)] ⟨by simp, rfl, rfl, trivial⟩ fun g12 => ?_
    refine Goes.call0 7 #[cv o6 k6 s6 (.slice a6 n6 c6), cv o4 k4 s4 (.slice a4 n4 c4)] (.bool true) (fun w7 hm hI => by have := sameC_any (tD r) (tD r) _ _ w7 (KI.nc' hA hw6 hI.now hV6) (KI.nc' hA hw6 hI.now hU6); rw [sameB_self] at this; exact this) ?_
    refine Goes.run [] [] trivial ?_
    exact Goes.ret [] (.bool true) fun w' hm hI => ⟨rfl, hI.now.bel⟩
end Go.Proofs.YtjoplckpefoinaaGreatDoor
