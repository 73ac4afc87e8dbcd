/- The engine: rows that grow (append), blocks that need not be known any more. -/
import Derived.Test.YtfblnjidghijaaaELaw
import Derived.Maps.AppendAt
namespace Go.Proofs.Ytfblnjidghijaaa
open Go Go.RowKit

section
variable {P : Program} {F : Exit → Act → World → Prop} {Inv : World → Prop} {s : St}
theorem Ch.mono {L L' : List Nat} {w w' : World} (h : Ch L w w') (hL : ∀ x ∈ L, x ∈ L') : Ch L' w w' := ⟨h.os, h.tape, h.output, h.size, fun i hi hx => h.block i hi (fun hm => hx (hL i hm))⟩
theorem Stay.less {L L' : List Nat} {w : World} {Q : World → Prop} (h : Stay L w Q) (hL : ∀ x ∈ L', x ∈ L) : Stay L' w Q := fun w' hc => h w' (hc.mono hL)
theorem Stay.split {A B : List Nat} {w : World} {Q : World → Prop} (h : Stay (A ++ B) w Q) : Stay A w (fun w => Stay B w Q) := fun _ h1 w2 h2 => h w2 ((h1.mono (fun _ hx => List.mem_append_left _ hx)).trans h2 (fun _ hx => .inl (List.mem_append_right _ hx)))
/-- Only the first n blocks are known any more. -/
def keep (n : Nat) (s : St) : St := ⟨s.todo, s.tmps, s.mem.take n⟩
theorem Goes.keep (n : Nat) (h : Goes P F Inv (keep n s)) : Goes P F Inv s := by
  intro w hm hn hI
  have hsub : ∀ x ∈ Mem.ids (s.mem.take n), x ∈ s.mem.ids := by
    intro x hx
    unfold Mem.ids at hx ⊢
    rw [List.map_take] at hx
    exact List.mem_of_mem_take hx
  refine h w (fun j b o hj => ?_) ?_ (hI.less hsub)
  · have hl : j < n := by
      rcases Nat.lt_or_ge j n with h1 | h1
      · exact h1
      · have hj' : (s.mem.take n)[j]? = some (b, o) := hj
        rw [List.getElem?_take_eq_none h1] at hj'
        cases hj'
    exact hm j b o (by rw [← List.getElem?_take_of_lt hl]; exact hj)
  · have : (Mem.ids (s.mem.take n)).Sublist s.mem.ids := by
      unfold Mem.ids
      rw [List.map_take]
      exact List.take_sublist _ _
    exact hn.sublist this
theorem row_apart {L : List Nat} {w : World} {base e size : Nat} {v : Value} {n : Nat} {xs : List Value} (h : Stay L w (fun w => w.ownsRow base e size v n xs)) {b : Nat} (hb : v.ownBlock = some b) : b ∉ L := by
  intro hL
  have h0 : b < w.heap.size := by
    rcases h.now.2 with ⟨e, -⟩ | ⟨g, cap, cur, e, -, hg, -⟩
    · rw [e] at hb; cases hb
    · rw [e] at hb; cases hb; exact lt_of_get hg
  have hc : Ch L w { w with heap := w.heap.setIfInBounds b (.map #[] 0) } := ⟨rfl, rfl, rfl, by simp, fun i _ hx => by
    show (w.heap.setIfInBounds b _)[i]? = _
    exact Array.getElem?_setIfInBounds_ne (fun (h : b = i) => hx (h ▸ hL))⟩
  rcases (h _ hc).2 with ⟨e, -⟩ | ⟨g, cap, cur, e, -, hg, -⟩
  · rw [e] at hb; cases hb
  · rw [e] at hb
    cases hb
    have hg' : (w.heap.setIfInBounds g (.map #[] 0))[g]? = some (.cells cur _ (0, 0)) := hg
    rw [Array.getElem?_setIfInBounds_self_of_lt h0] at hg'
    cases hg'
/-- What append asks of a type: its element's size and bytes. -/
def elOk (P : Program) (t e : TypeId) (size bytes : Nat) : Bool :=
  (match P.underlying t with | some (.slice e') => e' == e | _ => false) && (match P.info? e with | some i => i.size == size && i.bytes == bytes && (match i.zero with | some z => z.cells.size == size | none => false) | none => false) && decide (0 < size)
/-- What an append of the known block j does. -/
theorem append_core {base : Nat} {t e ty : TypeId} {size bytes : Nat} {v : Value} {n : Nat} {xs : List Value} {j bj m c : Nat} {news : List Value} {et : TypeId} {z : Nat × Nat} {w : World} (hm : Holds s.mem w)
    (hown : w.ownsRow base e size v n xs) (hbase : base ≤ w.heap.size) (hl : news.length = m * size) (h1 : ∀ u ∈ news, u.oneCell' = true) (hm0 : 0 < m) (h63 : n + m ≤ maxLen) (hbytes : (n + m) * bytes ≤ 140737488355328)
    (hj : s.mem[j]? = some (bj, .cells news.toArray et z)) (hel : elOk P t e size bytes = true) : ∃ a c' w', (Builtin.append_ #[t, t] ty #[v, .slice (some ⟨bj, 0, none⟩) m c]).run P w = .ok (.slice a (n + m) c') w' ∧ w'.ownsRow base e size (.slice a (n + m) c') (n + m) (xs ++ news) ∧ w.grownBy w' v.ownBlock ∧ ((Value.slice a (n + m) c').ownBlock = v.ownBlock ∨ (Value.slice a (n + m) c').ownBlock = some w.heap.size) := by
  unfold elOk at hel
  simp only [Bool.and_eq_true, decide_eq_true_eq] at hel
  obtain ⟨⟨hu, hi⟩, hsz⟩ := hel
  cases hu1 : P.underlying t with
  | none => rw [hu1] at hu; cases hu
  | some d =>
    rw [hu1] at hu
    obtain rfl : d = .slice e := by
      cases d <;> simp at hu
      rw [hu]
    cases hi1 : P.info? e with
    | none => rw [hi1] at hi; cases hi
    | some i =>
      rw [hi1] at hi
      simp only [Bool.and_eq_true, beq_iff_eq] at hi
      cases hz1 : i.zero with
      | none => rw [hz1] at hi; simp at hi
      | some z0 =>
        rw [hz1] at hi
        have hblk := hm.at hj
        obtain ⟨v', w', hrun, hown', hgr, -, hob⟩ := run_append_own_at (P := P) (w := w) base t ty e i z0 size bytes hu1 hi1 hz1 hi.1.1 hi.1.2 (eq_of_beq hi.2) hsz v n xs hown ⟨bj, 0, none⟩ m c news hl (fun k u hu => by
          have e1 : (⟨bj, 0, none⟩ : Addr).add k = ⟨bj, k, none⟩ := by unfold Addr.add; split <;> simp_all
          rw [e1]
          unfold World.cell?
          rw [hblk]
          simpa using hu) h1 h63 hbytes hbase
        obtain ⟨a, c', rfl⟩ : ∃ a c', v' = .slice a (n + m) c' := by
          rcases hown'.2 with ⟨-, h0⟩ | ⟨g, cap, cur, e, -⟩
          · omega
          · exact ⟨_, _, e⟩
        exact ⟨a, c', w', hrun, hown', hgr, hob⟩
/-- What stays behind an append. -/
theorem append_stay {I0 : World → Prop} {base e size : Nat} {v : Value} {n : Nat} {xs : List Value} {a : Option Addr} {n' c' : Nat} {xs' : List Value} {w w' : World} (hm : Holds s.mem w) (hS : Stay s.mem.ids w (fun w => I0 w ∧ w.ownsRow base e size v n xs)) (hst : ∀ w w', I0 w → Below base w w' → I0 w')
    (hown' : w'.ownsRow base e size (.slice a n' c') n' xs') (hgr : w.grownBy w' v.ownBlock) (hob : (Value.slice a n' c').ownBlock = v.ownBlock ∨ (Value.slice a n' c').ownBlock = some w.heap.size) : Holds s.mem w' ∧ Stay s.mem.ids w' (fun w => I0 w ∧ w.ownsRow base e size (.slice a n' c') n' xs') := by
  have hown := hS.now.2
  have hap : ∀ b, v.ownBlock = some b → b ∉ s.mem.ids := fun b hb => row_apart (hS.mono fun w' h => h.2) hb
  refine ⟨?_, ?_⟩
  · intro k b o hk
    rw [hgr.block b (lt_of_get (hm.at hk)) (fun e => hap b e.symm (ids_get hk))]
    exact hm.at hk
  · intro w2 hc2
    refine ⟨?_, ?_⟩
    · cases hb : v.ownBlock with
      | none =>
        have : Ch s.mem.ids w w2 := ⟨hc2.os.trans hgr.os, hc2.tape.trans hgr.tape, hc2.output.trans hgr.output, Nat.le_trans hgr.size hc2.size, fun k hk hx => (hc2.block k (Nat.lt_of_lt_of_le hk hgr.size) hx).trans (hgr.block k hk (by rw [hb]; simp))⟩
        exact (hS w2 this).1
      | some b =>
        obtain ⟨ob, hob1, hbb⟩ : ∃ o, w.heap[b]? = some o ∧ base ≤ b := by
          rcases hown.2 with ⟨e, -⟩ | ⟨g, cap, cur, e, hg0, hg, -⟩
          · rw [e] at hb; cases hb
          · rw [e] at hb; cases hb; exact ⟨_, hg, hg0⟩
        have hbl := lt_of_get hob1
        have hbl2 : b < w2.heap.size := Nat.lt_of_lt_of_le hbl (Nat.le_trans hgr.size hc2.size)
        have h3 : Ch s.mem.ids w { w2 with heap := w2.heap.setIfInBounds b ob } := ⟨hc2.os.trans hgr.os, hc2.tape.trans hgr.tape, hc2.output.trans hgr.output, by
          show w.heap.size ≤ (w2.heap.setIfInBounds b ob).size
          simpa using Nat.le_trans hgr.size hc2.size, fun k hk hx => by
          show (w2.heap.setIfInBounds b ob)[k]? = _
          by_cases hkb : b = k
          · subst hkb; rw [Array.getElem?_setIfInBounds_self_of_lt hbl2]; exact hob1.symm
          · rw [Array.getElem?_setIfInBounds_ne hkb]
            exact (hc2.block k (Nat.lt_of_lt_of_le hk hgr.size) hx).trans (hgr.block k hk (by rw [hb]; simpa using fun e => hkb e.symm))⟩
        refine hst _ w2 (hS _ h3).1 ⟨rfl, rfl, rfl, by simp, fun k hk => ?_⟩
        show w2.heap[k]? = (w2.heap.setIfInBounds b ob)[k]?
        rw [Array.getElem?_setIfInBounds_ne (by omega)]
    · refine ⟨hown'.1, ?_⟩
      rcases hown'.2 with h0 | ⟨g, cap, cur, e1, e2, e3, e4⟩
      · exact .inl h0
      · refine .inr ⟨g, cap, cur, e1, e2, ?_, e4⟩
        rw [hc2.block g (lt_of_get e3) ?_]
        · exact e3
        · intro hx
          rcases hob with h5 | h5
          · rw [e1] at h5
            exact hap g h5.symm hx
          · rw [e1] at h5
            cases h5
            obtain ⟨q, hq, e6⟩ := List.mem_map.1 hx
            obtain ⟨k, hk⟩ := List.getElem?_of_mem hq
            have := lt_of_get (hm.at (b := q.1) (o := q.2) hk)
            have e7 : q.1 = w.heap.size := e6
            omega
/-- A row of one's own grows by what lies in the known block j. -/
theorem Goes.append {I0 : World → Prop} (base : Nat) (t e ty : TypeId) (size bytes : Nat) (v : Value) (n : Nat) (xs : List Value) (j bj m c : Nat) (news : List Value) (et : TypeId) (z : Nat × Nat)
    (hI : ∀ w, Inv w → I0 w ∧ w.ownsRow base e size v n xs ∧ base ≤ w.heap.size) (hst : ∀ w w', I0 w → Below base w w' → I0 w')
    (hl : news.length = m * size) (h1 : ∀ u ∈ news, u.oneCell' = true) (hm0 : 0 < m) (h63 : n + m ≤ maxLen) (hbytes : (n + m) * bytes ≤ 140737488355328)
    (h : ∀ a c', Goes P F (fun w => I0 w ∧ w.ownsRow base e size (.slice a (n + m) c') (n + m) (xs ++ news)) (put0 s (.slice a (n + m) c')))
    (hj : s.mem[j]? = some (bj, .cells news.toArray et z) := by kernel_rfl) (ho : (nextOp s).map (fun q => execOp (evalL s.tmps) q.2.1) = some (vS (Builtin.append_ #[t, t] ty #[v, .slice (some ⟨bj, 0, none⟩) m c])) := by kernel_rfl) (hw : wants s = true := by kernel_rfl) (hel : elOk P t e size bytes = true := by kernel_rfl) : Goes P F Inv s := by
  refine Goes.eff (Builtin.append_ #[t, t] ty #[v, .slice (some ⟨bj, 0, none⟩) m c]) (ho := ho) (hw := hw) fun w hm hn hS => ?_
  obtain ⟨-, hown, hbase⟩ := hI w hS.now
  obtain ⟨a, c', w', hrun, hown', hgr, hob⟩ := append_core (P := P) (ty := ty) (c := c) hm hown hbase hl h1 hm0 h63 hbytes hj hel
  obtain ⟨h3, h4⟩ := append_stay hm (hS.mono fun w h => ⟨(hI w h).1, (hI w h).2.1⟩) hst hown' hgr hob
  exact ⟨_, w', _, s.mem, hrun, h3, hn, h4, h a c'⟩
end
end Go.Proofs.Ytfblnjidghijaaa
