/- causal: Feeds. -/
import Derived.Test.YtfblnjidghijaaaCAskG
import Derived.Test.YtfblnjidghijaaaCWith2
import Derived.Test.YtfblnjidghijaaaShelf
import Derived.Lib.RowBridge
namespace Go.Proofs.Ytfblnjidghijaaa
open Go Go.RowKit

theorem holdsS {w : World} {b : Nat} {l : List (List UInt8)} {r : List Value} (hb : w.heap[b]? = some (sO l r)) : Sort.Holds encStr w b 0 l.toArray := by
  intro j hj
  have hj' : j < l.length := by simpa using hj
  have h1 := cellS hb (i := j) (s := l[j]) (by simp)
  refine ⟨?_, ?_⟩
  · rw [Nat.zero_add, h1]
    simp [hj', encStr, strV]
  · unfold World.frozen?
    rw [hb]
    rfl
theorem putS (l d : List (List UInt8)) (r : List Value) (h : d.length = l.length) : Sort.putCells encStr 0 d.toArray (l.map strV ++ r).toArray = (d.map strV ++ r).toArray := by
  apply Array.ext_getElem?
  intro k
  simp only [Sort.putCells, Array.getElem?_mapIdx, List.getElem?_toArray, List.size_toArray, Nat.zero_add, Nat.zero_le, true_and, Nat.sub_zero]
  by_cases hk : k < d.length
  · have hk2 : k < l.length := by omega
    rw [List.getElem?_append_left (by simpa using hk2), List.getElem?_append_left (by simpa using hk)]
    simp [hk, hk2, encStr, strV]
  · rw [List.getElem?_append_right (by simp; omega), List.getElem?_append_right (by simp; omega)]
    simp only [List.length_map, h]
    cases r[k - l.length]? with
    | none => rfl
    | some x => simp [show ¬ k < l.length by omega]
theorem put_world {w : World} {b : Nat} {l d : List (List UInt8)} {r : List Value} (hb : w.heap[b]? = some (sO l r)) (h : d.length = l.length) (n : Nat) (os : Array Obj) : Ch [b] w (Sort.grow (Sort.putRow encStr (Sort.ahead w n) b 0 d.toArray) os) ∧ (Sort.grow (Sort.putRow encStr (Sort.ahead w n) b 0 d.toArray) os).heap[b]? = some (sO d r) := by
  have hbl := lt_of_get hb
  have hsz : (w.heap.modify b fun | .cells c t z => .cells (Sort.putCells encStr 0 d.toArray c) t z | o => o).size = w.heap.size := by simp
  refine ⟨⟨rfl, rfl, rfl, by simp [Sort.putRow, Sort.mapBlock, Sort.ahead], fun i hi hx => ?_⟩, ?_⟩
  · have hne : b ≠ i := fun e => hx (by simp [e])
    show ((w.heap.modify b _) ++ os)[i]? = _
    rw [Array.getElem?_append_left (by simpa using hi), Array.getElem?_modify, if_neg hne]
  · show ((w.heap.modify b _) ++ os)[b]? = _
    rw [Array.getElem?_append_left (by simpa using hbl), Array.getElem?_modify, if_pos rfl, hb]
    simp only [Option.map_some, Option.some.injEq]
    show Obj.cells (Sort.putCells encStr 0 d.toArray (l.map strV ++ r).toArray) _ _ = _
    rw [putS l d r h]
    rfl
theorem Rws.mk {base : Nat} {w : World} {b cap : Nat} {l : List (List UInt8)} {r : List Value} (hb : base ≤ b) (hw : w.heap[b]? = some (sO l r)) (hle : l.length ≤ cap) (hmax : cap ≤ maxLen) (hr : l.length + r.length = cap) : Rws base w (.slice (some ⟨b, 0, none⟩) l.length cap) l := by
  refine ⟨by simp, .inr ⟨b, cap, _, rfl, hb, hw, hle, hmax, by simp [hr], ?_⟩⟩
  simp
theorem Rws.form2 {base : Nat} {w : World} {v : Value} {l : List (List UInt8)} (h : Rws base w v l) : (∃ a c, v = .slice a 0 c ∧ l = []) ∨ ∃ b cap r, v = .slice (some ⟨b, 0, none⟩) l.length cap ∧ base ≤ b ∧ w.heap[b]? = some (sO l r) ∧ l.length ≤ cap ∧ cap ≤ maxLen ∧ l.length + r.length = cap := by
  rcases h.2 with ⟨h1, h2⟩ | ⟨b, cap, cur, h1, hb, hcur, hle, hmax, hsz, htake⟩
  · exact .inl ⟨_, _, h1, List.eq_nil_of_length_eq_zero h2⟩
  · refine .inr ⟨b, cap, cur.toList.drop l.length, h1, hb, ?_, hle, hmax, ?_⟩
    · rw [hcur]
      unfold sO
      rw [Nat.mul_one] at htake
      rw [← htake, List.take_append_drop]
    · have e : cur.toList.length = cap := by rw [Array.length_toList (xs := cur), hsz, Nat.mul_one]
      rw [List.length_drop, e]; omega
theorem sort_any {base : Nat} {w : World} {v : Value} {l : List (List UInt8)} (h : Rws base w v l) (hl : l.length ≤ 1000000) : Calls Try.prog 30 #[v] w fun e w' => e = .returned (.tuple #[]) ∧ Ch v.ownBlock.toList w w' ∧ Rws base w' v (l.mergeSort fun x y => decide (x ≤ y)) := by
  by_cases hl0 : l = []
  · subst hl0
    obtain ⟨a, c, rfl⟩ : ∃ a c, v = .slice a 0 c := by
      rcases h.form2 with ⟨a, c, h, -⟩ | ⟨b, cap, r, h, -⟩
      · exact ⟨a, c, h⟩
      · exact ⟨_, _, h⟩
    refine (Try.slices_Sort_string_none a c w).mono fun e w' ⟨he, hw⟩ => ⟨he, hw ▸ Ch.refl _ _, ?_⟩
    subst hw
    simpa using h
  · rcases h.form2 with ⟨a, c, -, h⟩ | ⟨b, cap, r, rfl, h1, h2, h3, h4, h5⟩
    · exact absurd h hl0
    · refine (Try.slices_Sort_string b 0 cap l w (holdsS h2) (lt_of_get h2) (by omega)).mono fun e w' ⟨he, n, os, hw⟩ => ⟨he, ?_⟩
      subst hw
      have hlen : (l.mergeSort fun x y => decide (x ≤ y)).length = l.length := List.length_mergeSort _
      obtain ⟨c1, c2⟩ := put_world h2 hlen n os
      refine ⟨c1, ?_⟩
      have := Rws.mk (cap := cap) h1 c2 (by omega) h4 (by omega)
      rw [hlen] at this
      exact this
theorem compact_any {base : Nat} {w : World} {v : Value} {l : List (List UInt8)} (h : Rws base w v l) (hl : l.length ≤ 1000000) : Calls Try.prog 31 #[v] w fun e w' => ∃ v', e = .returned v' ∧ v'.ownBlock = v.ownBlock ∧ Ch v.ownBlock.toList w w' ∧ Rws base w' v' (Lib.compact l) := by
  by_cases hl0 : l = []
  · subst hl0
    obtain ⟨a, c, rfl⟩ : ∃ a c, v = .slice a 0 c := by
      rcases h.form2 with ⟨a, c, h, -⟩ | ⟨b, cap, r, h, -⟩
      · exact ⟨a, c, h⟩
      · exact ⟨_, _, h⟩
    refine (Try.slices_Compact_string_empty a c w).mono fun e w' ⟨he, hw⟩ => ⟨_, he, rfl, hw ▸ Ch.refl _ _, ?_⟩
    subst hw
    exact h
  · rcases h.form2 with ⟨a, c, -, h⟩ | ⟨b, cap, r, rfl, h1, h2, h3, h4, h5⟩
    · exact absurd h hl0
    · refine (Try.slices_Compact_string b 0 cap l w (holdsS h2) (by omega) h3).mono fun e w' ⟨he, n, hw⟩ => ⟨_, he, rfl, ?_⟩
      subst hw
      have hle := Lib.compact_length_le l
      have hlen : (Lib.compact l ++ List.replicate (l.length - (Lib.compact l).length) []).length = l.length := by simp; omega
      obtain ⟨c1, c2⟩ := put_world h2 hlen n #[]
      rw [Sort.grow_empty] at c1 c2
      refine ⟨c1, ?_⟩
      refine Rws.mk (cap := cap) (r := (List.replicate (l.length - (Lib.compact l).length) []).map strV ++ r) h1 ?_ (by omega) h4 (by simp; omega)
      rw [c2]
      unfold sO
      rw [List.map_append, List.append_assoc]
/-- What Feeds' question keeps. -/
def feF (s : List (List UInt8)) : Co → List (List UInt8)
  | .mk op _ t _ => bif op == 4 then s ++ [t] else s
def KF (n₀ gq : Nat) (st : List (List UInt8)) (O : List Nat) (w : World) : Prop := ∃ v, w.heap[gq]? = some (.cells #[v] 32 (0, 0)) ∧ Rws n₀ w v st ∧ O = gq :: v.ownBlock.toList ∧ n₀ ≤ gq
theorem Rws.low {base : Nat} {w : World} {v : Value} {l : List (List UInt8)} (h : Rws base w v l) {b : Nat} (hb : v.ownBlock = some b) : base ≤ b ∧ b < w.heap.size := by
  rcases h.2 with ⟨h1, -⟩ | ⟨b', cap, cur, h1, h0, hcur, h2⟩
  · rw [h1] at hb; cases hb
  · rw [h1] at hb; cases hb; exact ⟨h0, lt_of_get hcur⟩
theorem Rws.keep {base : Nat} {w w' : World} {v : Value} {l : List (List UInt8)} (h : Rws base w v l) (hk : ∀ b, v.ownBlock = some b → w'.heap[b]? = w.heap[b]?) : Rws base w' v l := by
  refine ⟨h.1, ?_⟩
  rcases h.2 with h | ⟨b, cap, cur, h1, h0, hcur, h2⟩
  · exact .inl h
  · exact .inr ⟨b, cap, cur, h1, h0, (hk b (by rw [h1]; rfl)).trans hcur, h2⟩
theorem Rws.off {base g : Nat} {w : World} {v x : Value} {l : List (List UInt8)} (h : Rws base w v l) (hg : w.heap[g]? = some (.cells #[x] 32 (0, 0))) : v.ownBlock ≠ some g := by
  intro hb
  rcases h.2 with ⟨h1, -⟩ | ⟨b', cap, cur, h1, h0, hcur, h2⟩
  · rw [h1] at hb; cases hb
  · rw [h1] at hb
    cases hb
    rw [hcur] at hg
    simp at hg
set_option maxRecDepth 100000 in
seal rn rnN rnS Goes ans atEnd put0 putM opened putA0 putA oneSt st0 orT orG keep in
theorem feQ (n₀ gq : Nat) : Qg n₀ 29 gq feF (fun s => s.length ≤ 2000) (KF n₀ gq) where
  stay := fun s O w w' ⟨v, h1, h2, h3, h4⟩ hO => by
    subst h3
    exact ⟨v, (hO gq (by simp)).trans h1, h2.keep (fun b hb => hO b (by simp [hb])), rfl, h4⟩
  low := fun s O w ⟨v, h1, h2, h3, h4⟩ x hx => by
    subst h3
    simp only [List.mem_cons, Option.mem_toList] at hx
    rcases hx with rfl | hx
    · exact ⟨h4, lt_of_get h1⟩
    · exact h2.low hx
  call := by
    intro st O w u c hok hK hN hn
    obtain ⟨v, h1, h2, rfl, h4⟩ := hK
    cases c with
    | mk op k t kids =>
    obtain ⟨a, cc, rfl, hf, -, -⟩ := hN.open
    obtain ⟨N, hL⟩ : ∃ N, kids.length = N := ⟨_, rfl⟩
    rw [hL]
    have hoff := h2.off h1
    have hgq := lt_of_get h1
    refine Goes.begin Try.func29 [(gq, .cells #[v] 32 (0, 0))] (fun w' => Rws n₀ w' v st) (fun j b o h => by match j, h with | 0, h => (cases h; exact h1)) (by simp [Mem.ids]) (fun w' hc => h2.keep fun b hb => hc.block b (h2.low hb).2 (fun hm => hoff (by simp [Mem.ids] at hm; rw [hb, hm]))) ?_
    cases ho : (op == 4) with
    | false =>
      refine Goes.run1 [1, 0] [(op == 4, false)] ⟨ho, trivial⟩ fun g => ?_
      exact Goes.ret [] (.tuple #[]) fun w' hm hI => ⟨rfl, gq :: v.ownBlock.toList, ⟨v, hm.get 0, by simp only [feF, ho, cond_false]; exact hI.now.2, rfl, h4⟩, hI.now.1.mono (by simp [Mem.ids]), Sub.refl _ _⟩
    | true =>
      refine Goes.run2 [1, 1, 0, 1] [(op == 4, true)] ⟨ho, trivial⟩ fun g gb => ?_
      refine Goes.eff (Builtin.append_ #[32, 32] 32 #[v, .slice (some ⟨gb, 0, none⟩) 1 1]) fun w1 hm1 hn1 hS1 => ?_
      obtain ⟨hC1, hR1⟩ := hS1.now
      have y0 : w1.heap[gq]? = some (.cells #[v] 32 (0, 0)) := hm1.get 0
      have y1 : w1.heap[g]? = some (cO op k t (.slice a N cc)) := hm1.get 1
      have y2 : w1.heap[gb]? = some (sO [t] []) := hm1.get 2
      have hids : [gq, g, gb].Nodup := Nodup.of_ids hn1
      simp only [List.nodup_cons, List.mem_cons, List.not_mem_nil, or_false, not_or] at hids
      obtain ⟨⟨i1, i2⟩, i3, -⟩ := hids
      have fg : w.heap.size ≤ g := fresh_of hS1 (g := g) (ids_get (j := 1) (o := cO op k t (.slice a N cc)) (by kernel_rfl)) (by simp [Mem.ids]; exact fun e => i1 e.symm)
      have fb : w.heap.size ≤ gb := fresh_of hS1 (g := gb) (ids_get (j := 2) (o := sO [t] []) (by kernel_rfl)) (by simp [Mem.ids]; exact fun e => i2 e.symm)
      have hap : ∀ b, v.ownBlock = some b → b ≠ gq ∧ b ≠ g ∧ b ≠ gb := by
        intro b hb
        have := (h2.low hb).2
        exact ⟨fun e => hoff (by rw [hb, e]), by omega, by omega⟩
      obtain ⟨rb, rc, w2, hrun, hown', hgr, hob⟩ := append_coreA (P := Try.prog) (t := 32) (ty := 32) (bytes := 16) (c := 1) (a := ⟨gb, 0, none⟩) (m := 1) (news := [t].map strV) hR1 (Nat.le_trans hn hC1.size) rfl (newsS (l := [t]) (r := []) y2 (fun j x hx => by rw [Nat.zero_add]; exact hx)) (ocS _) (.inr (by decide)) (by unfold maxLen; omega) (by omega) (by kernel_rfl)
      have hB2 : ∀ i, i < w1.heap.size → v.ownBlock ≠ some i → w2.heap[i]? = w1.heap[i]? := fun i hi hne => hgr.block i hi (fun e => hne e.symm)
      have z0 := (hB2 gq (lt_of_get y0) hoff).trans y0
      have z1 := (hB2 g (lt_of_get y1) (fun e => (hap g e).2.1 rfl)).trans y1
      have z2 := (hB2 gb (lt_of_get y2) (fun e => (hap gb e).2.2 rfl)).trans y2
      have hCO : Ch (gq :: v.ownBlock.toList) w w2 := ⟨hgr.os.trans hC1.os, hgr.tape.trans hC1.tape, hgr.output.trans hC1.output, Nat.le_trans hC1.size hgr.size, fun i hi hx => by
        simp only [List.mem_cons, Option.mem_toList, not_or] at hx
        exact (hB2 i (Nat.lt_of_lt_of_le hi hC1.size) hx.2).trans (hC1.block i hi (by simp [Mem.ids]; exact hx.1))⟩
      have hrb : rb ≠ gq ∧ rb ≠ g ∧ rb ≠ gb ∧ (v.ownBlock = some rb ∨ w.heap.size ≤ rb) := by
        rcases hob with e | e
        · have e' : v.ownBlock = some rb := e.symm
          exact ⟨(hap rb e').1, (hap rb e').2.1, (hap rb e').2.2, .inl e'⟩
        · have e' : rb = w1.heap.size := by simpa [Value.ownBlock] using e
          have l0 := lt_of_get y0
          have l1 := lt_of_get y1
          have l2 := lt_of_get y2
          have l3 := hC1.size
          exact ⟨by omega, by omega, by omega, .inr (by omega)⟩
      have hR2 : Rws n₀ w2 (.slice (some ⟨rb, 0, none⟩) (st.length + 1) rc) (st ++ [t]) := by
        unfold Rws
        have e1 : (st ++ [t]).length = st.length + 1 := by simp
        have e2 : (st ++ [t]).map strV = st.map strV ++ [t].map strV := by simp
        rw [e1, e2]
        exact hown'
      refine ⟨_, w2, fun w' => Ch (gq :: v.ownBlock.toList) w w' ∧ Rws n₀ w' (.slice (some ⟨rb, 0, none⟩) (st.length + 1) rc) (st ++ [t]), [(gq, .cells #[v] 32 (0, 0)), (g, cO op k t (.slice a N cc)), (gb, sO [t] [])], hrun, fun j b o h => by match j, h with | 0, h => (cases h; exact z0) | 1, h => (cases h; exact z1) | 2, h => (cases h; exact z2), by simp [Mem.ids]; exact ⟨⟨i1, i2⟩, i3⟩, ?_, ?_⟩
      · intro w3 hc
        refine ⟨hCO.trans hc (fun x hx => ?_), hR2.keep (fun b hb => hc.block b (hR2.low hb).2 (fun hx => ?_))⟩
        · simp only [Mem.ids, List.map_cons, List.map_nil, List.mem_cons, List.not_mem_nil, or_false] at hx
          rcases hx with rfl | rfl | rfl
          · exact .inl (by simp)
          · exact .inr fg
          · exact .inr fb
        · have e' : b = rb := by simpa [Value.ownBlock] using hb.symm
          subst e'
          simp only [Mem.ids, List.map_cons, List.map_nil, List.mem_cons, List.not_mem_nil, or_false] at hx
          rcases hx with h | h | h
          · exact hrb.1 h
          · exact hrb.2.1 h
          · exact hrb.2.2.1 h
      refine Goes.run [0] [] trivial ?_
      exact Goes.ret [] (.tuple #[]) fun w' hm hI => ⟨rfl, [gq, rb], ⟨.slice (some ⟨rb, 0, none⟩) (st.length + 1) rc, hm.get 0, by simp only [feF, ho, cond_true]; exact hI.now.2, rfl, h4⟩, hI.now.1, fun x hx => by
        simp only [List.mem_cons, List.not_mem_nil, or_false] at hx
        rcases hx with rfl | rfl
        · exact .inl (by simp)
        · rcases hrb.2.2.2 with e | e
          · exact .inl (by simp [e])
          · exact .inr e⟩
end Go.Proofs.Ytfblnjidghijaaa
