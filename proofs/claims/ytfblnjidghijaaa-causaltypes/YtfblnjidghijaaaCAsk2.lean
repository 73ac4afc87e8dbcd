/- causal: ask, for whatever is asked of each term: the whole. -/
import Derived.Test.YtfblnjidghijaaaCAsk
namespace Go.Proofs.Ytfblnjidghijaaa
open Go Go.RowKit

mutual
theorem safe_true {σ : Type} (f : σ → Int → Co → σ × Bool) (s : σ) (d : Int) : ∀ c : Co, safeP f (fun _ => True) s d c
  | .mk op k t kids => by
    unfold safeP
    refine ⟨trivial, ?_⟩
    split
    · trivial
    · exact safe_trueK f _ _ kids
theorem safe_trueK {σ : Type} (f : σ → Int → Co → σ × Bool) (s : σ) (d : Int) : ∀ l : List Co, safeK f (fun _ => True) s d l
  | [] => by unfold safeK; trivial
  | c :: r => by
    unfold safeK
    refine ⟨safe_true f s d c, ?_⟩
    split
    · trivial
    · exact safe_trueK f _ _ r
end
theorem Below.toCh {w w' : World} (h : Below w.heap.size w w') : Ch [] w w' := ⟨h.os, h.tape, h.output, h.size, fun i hi _ => h.block i hi⟩
set_option maxRecDepth 100000 in
seal rn rnN rnS Goes ans atEnd put0 putM opened putA0 putA oneSt st0 orT orG in
theorem ask_any {n₀ qf gq : Nat} {ty : TypeId} {f : Int → Co → Int} {x : Int} {c : Co} {v : Value} {w : World} (hq : Qn n₀ qf gq ty f) (hqf : okf Try.prog qf = true) (hx : w.heap[gq]? = some (.cells #[.int .i64 x] ty (0, 0))) (hge : n₀ ≤ gq) (hN : Nc n₀ w v c) (hn : n₀ ≤ w.heap.size) :
    Calls Try.prog 22 #[v, askV qf gq] w fun e w' => e = .returned (.tuple #[]) ∧ Ch [gq] w w' ∧ w'.heap[gq]? = some (.cells #[.int .i64 (askP f x c)] ty (0, 0)) := by
  obtain ⟨op, k, t, a, N, cc, rfl⟩ := hN.cells
  have hgq := lt_of_get hx
  refine Goes.enterM Try.func22 [] (fun w' => Ch [] w w' ∧ True) Holds.nil (by simp [Mem.ids]) (fun w' hc => ⟨hc, trivial⟩) ?_
  refine Goes.runN2 bpM_noP 2000 [0] [] trivial fun g2 g3 => ?_
  refine Goes.call0 7 #[cv op k t (.slice a N cc)] (.tuple #[.int .i64 (typP c).1, .bool (typP c).2]) (fun w' _ hI => type_any ((hN.later (hI.now.1.low (fun x hx => by cases hx) hn)).more (Nat.le_trans hn hI.now.1.size))) ?_
  cases hb : (typP c).2 with
  | false =>
    refine Goes.runN bpM_noP 2000 [1] [(true, true)] ⟨rfl, trivial⟩ ?_
    exact Goes.retM [] (.tuple #[]) fun w' hm hI => ⟨rfl, hI.now.1.mono (fun x hx => by cases hx), by unfold askP; rw [hb]; exact (hI.now.1.block gq hgq (by simp)).trans hx⟩
  | true =>
    refine Goes.runN bpM_noP 2000 [0, 0] [(false, false)] ⟨rfl, trivial⟩ ?_
    refine Goes.call 36 #[cv op k t (.slice a N cc)] fun w3 hm3 hn3 hI3 => (terms_any op k t a N cc w3).mono fun e w4 ⟨gt, he4, hgt, hgtn, hB4⟩ => ?_
    have x2 : w3.heap[g2]? = some (cO op k t (.slice a N cc)) := hm3.get 0
    have x3 : w3.heap[g3]? = some (.cells #[askV qf gq] 40 (0, 0)) := hm3.get 1
    have f2 : w.heap.size ≤ g2 := fresh_of hI3 (g := g2) (ids_get (j := 0) (o := cO op k t (.slice a N cc)) (by kernel_rfl)) (by simp)
    have f3 : w.heap.size ≤ g3 := fresh_of hI3 (g := g3) (ids_get (j := 1) (o := .cells #[askV qf gq] 40 (0, 0)) (by kernel_rfl)) (by simp)
    have hids3 : [g2, g3].Nodup := Nodup.of_ids hn3
    have l2' := lt_of_get x2
    have l3' := lt_of_get x3
    have y2 := (hB4.block g2 l2').trans x2
    have y3 := (hB4.block g3 l3').trans x3
    have hC4 : Ch [] w w4 := hI3.now.1.trans (Below.toCh hB4) (fun x hx => by cases hx)
    refine ⟨_, fun w' => Ch [] w w' ∧ w'.heap[gt]? = some (cO op k t (.slice a N cc)), [(g2, cO op k t (.slice a N cc)), (g3, .cells #[askV qf gq] 40 (0, 0))], he4, fun j b o h => by match j, h with | 0, h => (cases h; exact y2) | 1, h => (cases h; exact y3), hids3, fun w5 hc => ⟨hC4.trans hc (fun x hx => .inr ?_), (hc.block gt (lt_of_get hgt) (fun hm => ?_)).trans hgt⟩, ?_⟩
    · simp only [Mem.ids, List.map_cons, List.map_nil, List.mem_cons, List.not_mem_nil, or_false] at hx
      rcases hx with rfl | rfl <;> assumption
    · simp only [Mem.ids, List.map_cons, List.map_nil, List.mem_cons, List.not_mem_nil, or_false] at hm
      rcases hm with h | h <;> omega
    refine Goes.runN bpM_noP 2000 [] [] trivial ?_
    refine Goes.named (akT (cv op k t (.slice a N cc)) qf gq g2 g3 gt (typP c).1 undef undef) [(g2, cO op k t (.slice a N cc)), (g3, .cells #[askV qf gq] 40 (0, 0))] #[17, 18] akA akB [.blk 0] fun s0 hT hm0 hps hA hBo hk hev hat => ?_
    refine Goes.range 48 #[.pointer (some ⟨gt, 0, none⟩)] (fun fid w5 hm5 hn5 hI5 W1 hL hD hBW => ?_) (hat.trans (by kernel_rfl)) (hev.trans (by kernel_rfl)) (by kernel_rfl)
    rw [hm0] at hm5 hn5 hI5
    obtain ⟨hC5, hgt5⟩ := hI5.now
    have u3 : w5.heap[g3]? = some (.cells #[askV qf gq] 40 (0, 0)) := hm5.get 1
    have v3 := lt_of_get u3
    have uq : w5.heap[gq]? = some (.cells #[.int .i64 x] ty (0, 0)) := (hC5.block gq hgq (by simp)).trans hx
    have hs5 := hC5.size
    have hJW : AkJ n₀ (w5.heap.size + 1) w5.heap.size g3 gq qf ty fid s0 true x [w5.heap.size + 1, w5.heap.size, g3, gq] W1 := by
      refine ⟨rfl, hL, hD, (hBW.block g3 v3).trans u3, (hBW.block gq (lt_of_get uq)).trans uq, rfl, ?_, ?_⟩
      · simp only [List.nodup_cons, List.mem_cons, List.not_mem_nil, or_false, not_or]
        exact ⟨⟨by omega, by omega, by omega⟩, ⟨by omega, by omega⟩, by omega, by simp, by simp⟩
      · intro y hy
        simp only [List.mem_cons, List.not_mem_nil, or_false] at hy
        rcases hy with rfl | rfl | rfl | rfl <;> omega
    have hCW : Ch [] w W1 := hC5.trans (Below.toCh hBW) (fun x hx => by cases hx)
    have hBwW : Below n₀ w W1 := hCW.low (fun x hx => by cases hx) hn
    show Calls Try.prog 48 #[.func (.yield (w5.heap.size + 1)) #[] #[], .pointer (some ⟨gt, 0, none⟩)] W1 _
    refine (iter_any (ask_round hq hqf hT hps hA hBo) (safe_true _ _ _ _) hJW (hN.later hBwW) (Nat.le_trans hn hBwW.size) ((hBW.block gt (lt_of_get hgt5)).trans hgt5)).mono fun e w6 ⟨he, O2, hJ2, hC6, hS6⟩ => ?_
    subst he
    obtain ⟨p0, p1, p2, p3, p4, rfl, p6, p7⟩ := hJ2
    have hC6' : Ch [gq] w w6 := (hCW.mono (fun x hx => by cases hx)).trans hC6 (fun y hy => by
      simp only [List.mem_cons, List.not_mem_nil, or_false] at hy ⊢
      rcases hy with rfl | rfl | rfl | rfl
      · exact .inr (by omega)
      · exact .inr (by omega)
      · exact .inr f3
      · exact .inl rfl)
    refine ⟨none, _, run_endLoop p1 (by simp [recOf]), ?_⟩
    have hC7 : Ch [gq] w (w6.putObj (w5.heap.size + 1) (.loop { recOf fid w5.heap.size s0 .ready none with state := .exhausted })) := hC6'.trans (Ch.put _ _ _) (fun y hy => .inr (by rw [List.mem_singleton] at hy; omega))
    have zq : (w6.putObj (w5.heap.size + 1) (.loop { recOf fid w5.heap.size s0 .ready none with state := .exhausted })).heap[gq]? = some (.cells #[.int .i64 (walkP (askF f) x 1 c).1] ty (0, 0)) := (World.putObj_heap_other (by omega)).trans p4
    have zD : (w6.putObj (w5.heap.size + 1) (.loop { recOf fid w5.heap.size s0 .ready none with state := .exhausted })).heap[w5.heap.size]? = some (.deferred (some [])) := (World.putObj_heap_other (by omega)).trans p2
    generalize w6.putObj (w5.heap.size + 1) (.loop { recOf fid w5.heap.size s0 .ready none with state := .exhausted }) = w7 at hC7 zq zD ⊢
    show QK _ _ s0.todo.tail _ _ _
    rw [hk, hT]
    show LeavesInM _ _ _ _ _ _ _ _ _
    refine leave_mark [] (.tuple #[]) [] zD Holds.nil (by simp [Mem.ids]) ⟨rfl, hC7.trans (Ch.put _ _ _) (fun y hy => .inr (by rw [List.mem_singleton] at hy; omega)), ?_⟩
    unfold askP
    rw [hb]
    exact (World.putObj_heap_other (by omega)).trans zq
end Go.Proofs.Ytfblnjidghijaaa
