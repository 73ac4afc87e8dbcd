/- texts put together: CFit CRefT CPure CRefN NEq CTerms ERange CIsOf CType CAsk CAsk2 CQ CKidsM CBothM -/
import Derived.Test.YtddbiiejilcbbaaGreatDoorAG3
import Derived.Laws.StructEq
import Derived.RangeFuncKeeps
namespace Go.Proofs.YtddbiiejilcbbaaGreatDoor
open Go Go.RowKit

section
variable {P : Program} {F : Exit → Act → World → Prop} {Inv : World → Prop} {s : St}
/-- Other blocks, other facts. -/
theorem Goes.swap (m : Mem) (Inv' : World → Prop) (h : ∀ w, Holds s.mem w → s.mem.ids.Nodup → Stay s.mem.ids w Inv → Holds m w ∧ m.ids.Nodup ∧ Stay m.ids w Inv') (G : Goes P F Inv' ⟨s.todo, s.tmps, m⟩) : Goes P F Inv s := fun w hm hn hI => by
  obtain ⟨h1, h2, h3⟩ := h w hm hn hI
  exact G w h1 h2 h3
end
/-- The known blocks are apart. -/
theorem Goes.know3 {P : Program} {F : Exit → Act → World → Prop} {Inv : World → Prop} {s : St} (h : s.mem.ids.Nodup → Goes P F Inv s) : Goes P F Inv s := fun w hm hn hI => h hn w hm hn hI
theorem idxI (b n cap k : Nat) (h : k < n) (w : World) : (Instr.indexAt 119 (.slice (some ⟨b, 0, none⟩) n cap) (.int .i64 k)).run Tryz.prog w = .ok (.pointer (some ⟨b, k, none⟩)) w := by go_simp
theorem cutI (b n cap k : Nat) (h : k ≤ n) (hn : n ≤ cap) (w : World) : (Instr.sliceAt 119 (.slice (some ⟨b, 0, none⟩) n cap) none (some (.int .i64 k)) none).run Tryz.prog w = .ok (.slice (some ⟨b, 0, none⟩) k cap) w := by
  have h1 : (k : Int) ≤ (cap : Int) := by omega
  go_simp
theorem appNil (b n cap : Nat) (ty : TypeId) (hn : n ≤ cap) (w : World) : (Builtin.append_ #[119, 119] ty #[.slice (some ⟨b, 0, none⟩) n cap, .slice none 0 0]).run Tryz.prog w = .ok (.slice (some ⟨b, 0, none⟩) n cap) w := by
  go_simp
/-- What is asked of a term, in order: how many there were, and the types of those to come, the next one first. -/
def fitF (st : Int × List Int) (d : Int) : Co → (Int × List Int) × Bool
  | .mk op k t kids =>
    match st.2 with
    | [] => (st, false)
    | want :: rest =>
      match kOf op want with
      | none => ((IntKind.i64.wrap (st.1 + 1), want :: rest), false)
      | some ks =>
        bif ((kids.length : Int) != (ks.length : Int)) || !ownC op k t || decide (IntKind.i64.wrap (st.1 + 1) > 2000) || decide (d > 200) then ((IntKind.i64.wrap (st.1 + 1), want :: rest), false)
        else ((IntKind.i64.wrap (st.1 + 1), ks ++ rest), true)
/-- Its state in memory. -/
def FsJ (n₀ gs gw : Nat) (st : Int × List Int) (O : List Nat) (w : World) : Prop :=
  ∃ gb cap cur, O = [gs, gw, gb] ∧ O.Nodup ∧ (∀ x ∈ O, n₀ ≤ x) ∧ w.heap[gs]? = some (.cells #[.int .i64 st.1] 3 (0, 0)) ∧ w.heap[gw]? = some (.cells #[.slice (some ⟨gb, 0, none⟩) st.2.length cap] 119 (0, 0)) ∧ w.heap[gb]? = some (.cells cur 3 (0, 0)) ∧ (st.2.length ≤ cap ∧ 0 < cap ∧ cap ≤ maxLen) ∧ cur.size = cap ∧ cur.toList.take st.2.length = st.2.reverse.map (Value.int .i64)
theorem FsJ.stay {n₀ gs gw : Nat} {st : Int × List Int} {O : List Nat} {w w' : World} (h : FsJ n₀ gs gw st O w) (hO : ∀ x ∈ O, w'.heap[x]? = w.heap[x]?) : FsJ n₀ gs gw st O w' := by
  obtain ⟨gb, cap, cur, rfl, h1, h2, h3, h4, h5, h6⟩ := h
  exact ⟨gb, cap, cur, rfl, h1, h2, (hO gs (by simp)).trans h3, (hO gw (by simp)).trans h4, (hO gb (by simp)).trans h5, h6⟩
theorem FsJ.low {n₀ gs gw : Nat} {st : Int × List Int} {O : List Nat} {w : World} (h : FsJ n₀ gs gw st O w) : ∀ x ∈ O, n₀ ≤ x ∧ x < w.heap.size := by
  obtain ⟨gb, cap, cur, rfl, h1, h2, h3, h4, h5, h6⟩ := h
  intro x hx
  refine ⟨h2 x hx, ?_⟩
  simp only [List.mem_cons, List.not_mem_nil, or_false] at hx
  rcases hx with rfl | rfl | rfl
  · exact lt_of_get h3
  · exact lt_of_get h4
  · exact lt_of_get h5
def fitOk (st : Int × List Int) : Prop := st.2 ≠ [] ∧ 0 ≤ st.1 ∧ st.1 ≤ 2000 ∧ (st.2.length : Int) ≤ 1 + 2 * st.1
theorem Nodup.of_ids {m : Mem} {l : List Nat} (h : m.ids.Nodup) (e : m.ids = l := by kernel_rfl) : l.Nodup := e ▸ h
theorem KidsAt.form {w w' : World} {v : Value} {ks : List Int} (h : KidsAt w w' v ks) : ∃ a c, v = .slice a ks.length c := by
  rcases h with ⟨rfl, rfl⟩ | ⟨g, h1, h2, h3⟩
  · exact ⟨none, 0, rfl⟩
  · exact ⟨_, _, h2⟩
theorem stay4 {gs gw gb g : Nat} {w w2 : World} {v : Value} {ks : List Int} (hC : Ch [gs, gw, gb] w w2) (hK : KidsAt w w2 v ks) (hg : w.heap.size ≤ g) (hgk : v.ownBlock ≠ some g) (hlt : ∀ x ∈ [gs, gw, gb], x < w.heap.size) : Stay [gs, gw, gb, g] w2 (fun w' => Ch [gs, gw, gb] w w' ∧ KidsAt w w' v ks) := by
  intro w3 hc
  refine ⟨hC.trans hc (fun x hx => ?_), ?_⟩
  · simp only [List.mem_cons, List.not_mem_nil, or_false] at hx ⊢
    rcases hx with h | h | h | rfl
    · exact .inl (.inl h)
    · exact .inl (.inr (.inl h))
    · exact .inl (.inr (.inr h))
    · exact .inr hg
  · rcases hK with h | ⟨x, h1, h2, h3, h4⟩
    · exact .inl h
    · refine .inr ⟨x, h1, h2, (hc.block x (lt_of_get h3) (fun hx => ?_)).trans h3, h4⟩
      simp only [List.mem_cons, List.not_mem_nil, or_false] at hx
      rcases hx with h | h | h | h
      · have := hlt gs (by simp); omega
      · have := hlt gw (by simp); omega
      · have := hlt gb (by simp); omega
      · subst h; rw [h2] at hgk; exact hgk rfl
set_option maxRecDepth 100000 in
seal rn rnN rnS Goes ans atEnd put0 putM opened putA0 putA oneSt st0 in
theorem fit_any {n₀ gs gw : Nat} {sz want : Int} {rest : List Int} {O : List Nat} {w : World} (hJ : FsJ n₀ gs gw (sz, want :: rest) O w) (hok : fitOk (sz, want :: rest)) (d op k : Int) (t : List UInt8) (kids : List Co) (a : Option Addr) (cc : Nat) (ht : t.length ≤ 9223372036854775807) (hn : n₀ ≤ w.heap.size) :
    Calls Tryz.prog 200 #[.int .i64 d, cv op k t (.slice a kids.length cc), .pointer (some ⟨gs, 0, none⟩), .pointer (some ⟨gw, 0, none⟩)] w (WPost (fun _ => FsJ n₀ gs gw) O w (fitF (sz, want :: rest) d (.mk op k t kids))) := by
  obtain ⟨gb, cap, cur, rfl, hnd, hlow, hs, hw, hb, hcap, hcs, hcur⟩ := hJ
  obtain ⟨N, hN⟩ : ∃ N, kids.length = N := ⟨_, rfl⟩
  obtain ⟨r, hr⟩ : ∃ r, rest.length = r := ⟨_, rfl⟩
  simp only [List.length_cons, hr] at hs hw hcap hcur
  obtain ⟨S, hS⟩ : ∃ S, IntKind.i64.wrap (sz + 1) = S := ⟨_, rfl⟩
  have hrb : r ≤ 4000 := by have := hok.2.2.2; have := hok.2.2.1; simp [hr] at *; omega
  have hcell : cur[r]? = some (.int .i64 want) := by
    have h1 : (cur.toList.take (r + 1))[r]? = some (.int .i64 want) := by
      rw [hcur, List.reverse_cons, List.map_append, List.getElem?_append_right (by simp [hr])]
      simp [hr]
    rw [List.getElem?_take_of_lt (by omega)] at h1
    simpa using h1
  rw [hN]
  refine Goes.begin Tryz.func200 [(gs, .cells #[.int .i64 sz] 3 (0, 0)), (gw, .cells #[.slice (some ⟨gb, 0, none⟩) (r + 1) cap] 119 (0, 0)), (gb, .cells cur 3 (0, 0))] (fun _ => True) (fun j b o h => by match j, h with | 0, h => (cases h; exact hs) | 1, h => (cases h; exact hw) | 2, h => (cases h; exact hb)) hnd (fun _ _ => trivial) ?_
  refine Goes.run1 [0, 0, 1] [] trivial fun g => ?_
  refine Goes.slot 7 (.int .i64 r) (u := .int .i64 (IntKind.i64.wrap (((r + 1 : Nat) : Int) - 1))) (congrArg _ (by rw [IntWalk.i64_in _ ⟨by omega, by omega⟩]; omega)) ?_
  refine Goes.open [1, 2, 3] ?_
  refine Goes.run [0, 1, 2, 2, 0, 3] [] trivial ?_
  refine Goes.valA 4 (Instr.indexAt 119 (.slice (some ⟨gb, 0, none⟩) (r + 1) cap) (.int .i64 r)) (.pointer (some ⟨gb, r, none⟩)) (fun w' _ => idxI gb (r + 1) cap r (by omega) w') ?_
  refine Goes.valA 5 (Instr.loadAt 3 (.pointer (some ⟨gb, r, none⟩))) (.int .i64 want) (fun w' h => load1 Tryz.isAgg3 (by have h1 := h.get 1 (b := gb) (o := .cells cur 3 (0, 0)); unfold World.cell?; rw [h1]; simp [hcell])) ?_
  have hlt3 : ∀ x ∈ [gs, gw, gb], x < w.heap.size := by
    intro x hx
    simp only [List.mem_cons, List.not_mem_nil, or_false] at hx
    rcases hx with rfl | rfl | rfl
    · exact lt_of_get hs
    · exact lt_of_get hw
    · exact lt_of_get hb
  have hgk : ∀ (w1 w2 : World) (g : Nat) {v : Value} {ks : List Int}, g < w1.heap.size → KidsAt w1 w2 v ks → v.ownBlock ≠ some g := by
    intro w1 w2 g v ks h hK e
    rcases hK with ⟨rfl, -⟩ | ⟨x, h1, rfl, -⟩
    · cases e
    · simp only [Value.ownBlock, Option.some.injEq] at e; omega
  have no : ∀ w' : World, w'.heap[gs]? = some (.cells #[.int .i64 (IntKind.i64.wrap (sz + 1))] 3 (0, 0)) → w'.heap[gw]? = some (.cells #[.slice (some ⟨gb, 0, none⟩) (r + 1) cap] 119 (0, 0)) → w'.heap[gb]? = some (.cells cur 3 (0, 0)) → Ch [gs, gw, gb] w w' → fitF (sz, want :: rest) d (.mk op k t kids) = ((IntKind.i64.wrap (sz + 1), want :: rest), false) → WPost (fun _ => FsJ n₀ gs gw) [gs, gw, gb] w (fitF (sz, want :: rest) d (.mk op k t kids)) (.returned (.bool false)) w' := by
    intro w' h0 h1 h2 hc hf
    rw [hf]
    exact ⟨rfl, [gs, gw, gb], ⟨gb, cap, cur, rfl, hnd, hlow, h0, by simpa [hr] using h1, h2, by simpa [hr] using hcap, hcs, by simpa [hr] using hcur⟩, hc, Sub.refl _ _⟩
  cases hk0 : kOf op want with
  | none =>
    refine Goes.callA 6 201 #[.int .i64 op, .int .i64 want] fun ops m0 nn ll kk htodo w1 hm1 hn1 hI1 h0 => (kOf_any op want w1).mono fun e w2 hk => ?_
    rw [hk0] at hk
    obtain ⟨v, rfl, hB, hK⟩ := (show Kr _ w1 e w2 from hk)
    have hids : [gs, gw, gb, g].Nodup := Nodup.of_ids hn1
    have hgL : g ∉ [gs, gw, gb] := by simp only [List.nodup_cons, List.mem_cons, List.not_mem_nil, or_false, not_or] at hids ⊢; exact ⟨fun e => hids.1.2.2 e.symm, fun e => hids.2.1.2 e.symm, fun e => hids.2.2.1 e.symm⟩
    have hgw : w.heap.size ≤ g := fresh_of hI1 (g := g) (ids_get (j := 3) (o := cO op k t (.slice a N cc)) (by kernel_rfl)) hgL
    have hK1 : KidsAt w w2 v [] := by
      rcases hK with h | ⟨x, h1, h2⟩
      · exact .inl h
      · exact .inr ⟨x, Nat.le_trans hI1.now.1.size h1, h2⟩
    have hC2 : Ch [gs, gw, gb] w w2 := (show Ch [gs, gw, gb] w w1 from hI1.now.1).trans (L' := []) ⟨hB.os, hB.tape, hB.output, hB.size, fun i hi _ => hB.block i hi⟩ (fun x hx => by cases hx)
    obtain ⟨ka, kc, rfl⟩ := hK1.form
    have hg2 : g < w1.heap.size := lt_of_get (hm1.get 3 (o := cO op k t (.slice a N cc)))
    refine ⟨_, fun w' => Ch [gs, gw, gb] w w' ∧ KidsAt w w' (.slice ka 0 kc) [], [(gs, .cells #[.int .i64 (IntKind.i64.wrap (sz + 1))] 3 (0, 0)), (gw, .cells #[.slice (some ⟨gb, 0, none⟩) (r + 1) cap] 119 (0, 0)), (gb, .cells cur 3 (0, 0)), (g, cO op k t (.slice a N cc))], rfl, fun j b o h => (hB.block b (lt_of_get (h0 j b o h))).trans (h0 j b o h), fun j b o h => by
      match j, h with
      | 0, h => cases h; exact (hB.block gs (lt_of_get (hm1.get 0 (b := gs) (o := .cells #[.int .i64 (IntKind.i64.wrap (sz + 1))] 3 (0, 0))))).trans (hm1.get 0)
      | 1, h => cases h; exact (hB.block gw (lt_of_get (hm1.get 1 (b := gw) (o := .cells #[.slice (some ⟨gb, 0, none⟩) (r + 1) cap] 119 (0, 0))))).trans (hm1.get 1)
      | 2, h => cases h; exact (hB.block gb (lt_of_get (hm1.get 2 (b := gb) (o := .cells cur 3 (0, 0))))).trans (hm1.get 2)
      | 3, h => cases h; exact (hB.block g hg2).trans (hm1.get 3), hids, stay4 hC2 hK1 hgw (hgk w1 w2 g hg2 hK) hlt3, ?_⟩
    refine Goes.run [7, 8, 9, 10, 11] [] trivial ?_
    refine Goes.run [1, 1, 1, 1, 1] [(true, true), (true, true), (true, true), (true, true), (true, true)] ⟨rfl, rfl, rfl, rfl, rfl, trivial⟩ ?_
    exact Goes.ret [] (.bool false) fun w' hm hI => no w' (hm.get 0) (hm.get 1) (hm.get 2) hI.now.1 (by simp only [fitF, hk0])
  | some ks =>
    refine Goes.callA 6 201 #[.int .i64 op, .int .i64 want] fun ops m0 nn ll kk htodo w1 hm1 hn1 hI1 h0 => (kOf_any op want w1).mono fun e w2 hk => ?_
    rw [hk0] at hk
    obtain ⟨v, rfl, hB, hK⟩ := (show Kr _ w1 e w2 from hk)
    have hids : [gs, gw, gb, g].Nodup := Nodup.of_ids hn1
    have hgL : g ∉ [gs, gw, gb] := by simp only [List.nodup_cons, List.mem_cons, List.not_mem_nil, or_false, not_or] at hids ⊢; exact ⟨fun e => hids.1.2.2 e.symm, fun e => hids.2.1.2 e.symm, fun e => hids.2.2.1 e.symm⟩
    have hgw : w.heap.size ≤ g := fresh_of hI1 (g := g) (ids_get (j := 3) (o := cO op k t (.slice a N cc)) (by kernel_rfl)) hgL
    have hK1 : KidsAt w w2 v ks := by
      rcases hK with h | ⟨x, h1, h2⟩
      · exact .inl h
      · exact .inr ⟨x, Nat.le_trans hI1.now.1.size h1, h2⟩
    have hC2 : Ch [gs, gw, gb] w w2 := (show Ch [gs, gw, gb] w w1 from hI1.now.1).trans (L' := []) ⟨hB.os, hB.tape, hB.output, hB.size, fun i hi _ => hB.block i hi⟩ (fun x hx => by cases hx)
    obtain ⟨ka, kc, rfl⟩ := hK1.form
    have hg2 : g < w1.heap.size := lt_of_get (hm1.get 3 (o := cO op k t (.slice a N cc)))
    refine ⟨_, fun w' => Ch [gs, gw, gb] w w' ∧ KidsAt w w' (.slice ka ks.length kc) ks, [(gs, .cells #[.int .i64 (IntKind.i64.wrap (sz + 1))] 3 (0, 0)), (gw, .cells #[.slice (some ⟨gb, 0, none⟩) (r + 1) cap] 119 (0, 0)), (gb, .cells cur 3 (0, 0)), (g, cO op k t (.slice a N cc))], rfl, fun j b o h => (hB.block b (lt_of_get (h0 j b o h))).trans (h0 j b o h), fun j b o h => by
      match j, h with
      | 0, h => cases h; exact (hB.block gs (lt_of_get (hm1.get 0 (b := gs) (o := .cells #[.int .i64 (IntKind.i64.wrap (sz + 1))] 3 (0, 0))))).trans (hm1.get 0)
      | 1, h => cases h; exact (hB.block gw (lt_of_get (hm1.get 1 (b := gw) (o := .cells #[.slice (some ⟨gb, 0, none⟩) (r + 1) cap] 119 (0, 0))))).trans (hm1.get 1)
      | 2, h => cases h; exact (hB.block gb (lt_of_get (hm1.get 2 (b := gb) (o := .cells cur 3 (0, 0))))).trans (hm1.get 2)
      | 3, h => cases h; exact (hB.block g hg2).trans (hm1.get 3), hids, stay4 hC2 hK1 hgw (hgk w1 w2 g hg2 hK) hlt3, ?_⟩
    refine Goes.run [7, 8, 9, 10, 11] [] trivial ?_
    have hfit : fitF (sz, want :: rest) d (.mk op k t kids) = bif ((N : Int) != (ks.length : Int)) || !ownC op k t || decide (IntKind.i64.wrap (sz + 1) > 2000) || decide (d > 200) then ((IntKind.i64.wrap (sz + 1), want :: rest), false) else ((IntKind.i64.wrap (sz + 1), ks ++ rest), true) := by simp only [fitF, hk0, hN]
    obtain ⟨M, hM⟩ : ∃ M, ks.length = M := ⟨_, rfl⟩
    rw [hM] at hfit ⊢
    cases hne : ((N : Int) != (M : Int)) with
    | true =>
      refine Goes.run [0, 3, 1, 1, 1, 1] [(true, true), (true, true), (true, true), ((N : Int) != (M : Int), true), (false, false)] ⟨rfl, rfl, rfl, hne, rfl, trivial⟩ ?_
      exact Goes.ret [] (.bool false) fun w' hm hI => no w' (hm.get 0) (hm.get 1) (hm.get 2) hI.now.1 (by rw [hfit, hne] <;> rfl)
    | false =>
      refine Goes.run [0, 3, 0, 3] [((N : Int) != (M : Int), false), (false, false)] ⟨hne, rfl, trivial⟩ ?_
      refine Goes.call0 202 #[cv op k t (.slice a N cc)] (.bool (ownC op k t)) (fun w' _ _ => ownC_any op k t a N cc w' ht) ?_
      cases hown : ownC op k t with
      | false =>
        refine Goes.run [1, 1, 1] [(true, true), (true, true), (true, true)] ⟨rfl, rfl, rfl, trivial⟩ ?_
        exact Goes.ret [] (.bool false) fun w' hm hI => no w' (hm.get 0) (hm.get 1) (hm.get 2) hI.now.1 (by rw [hfit, hne, hown] <;> rfl)
      | true =>
        cases hbig : decide (IntKind.i64.wrap (sz + 1) > 2000) with
        | true =>
          refine Goes.run [0, 0, 1, 1] [(true, true), (decide (IntKind.i64.wrap (sz + 1) > 2000), true), (false, false)] ⟨rfl, hbig, rfl, trivial⟩ ?_
          exact Goes.ret [] (.bool false) fun w' hm hI => no w' (hm.get 0) (hm.get 1) (hm.get 2) hI.now.1 (by rw [hfit, hne, hown, hbig] <;> rfl)
        | false =>
          cases hdeep : decide (d > 200) with
          | true =>
            refine Goes.run [0, 0, 0, 1] [(decide (d > 200), true), (decide (IntKind.i64.wrap (sz + 1) > 2000), false), (false, false)] ⟨hdeep, hbig, rfl, trivial⟩ ?_
            exact Goes.ret [] (.bool false) fun w' hm hI => no w' (hm.get 0) (hm.get 1) (hm.get 2) hI.now.1 (by rw [hfit, hne, hown, hbig, hdeep] <;> rfl)
          | false =>
            refine Goes.run [0, 0, 0, 0] [(decide (d > 200), false), (decide (IntKind.i64.wrap (sz + 1) > 2000), false), (false, false)] ⟨hdeep, hbig, rfl, trivial⟩ ?_
            have hyes : fitF (sz, want :: rest) d (.mk op k t kids) = ((IntKind.i64.wrap (sz + 1), ks ++ rest), true) := by rw [hfit, hne, hown, hbig, hdeep] <;> rfl
            rw [hyes]
            have hcutr : cur.toList.take r = rest.reverse.map (Value.int .i64) := by
              have h1 : (cur.toList.take (r + 1)).take r = ((want :: rest).reverse.map (Value.int .i64)).take r := by rw [hcur]
              rw [List.take_take, Nat.min_eq_left (by omega), List.reverse_cons, List.map_append, List.take_append_of_le_length (by simp [hr])] at h1
              rw [h1, List.take_of_length_le (by simp [hr])]
            rcases hK1 with ⟨hv, hks⟩ | ⟨gk, hk1, hv, hk2, hpos, hk3⟩
            · subst hks
              simp only [List.length_nil, Value.slice.injEq] at hv hM
              obtain ⟨rfl, -, rfl⟩ := hv
              subst hM
              refine Goes.call0 203 #[.slice none 0 0] (.tuple #[]) (fun w' _ _ => (Tryz.slices_Reverse_int_empty none 0 w').mono fun e w'' ⟨h1, h2⟩ => ⟨h1, h2 ▸ Below.refl _ _⟩) ?_
              refine Goes.run [1] [] trivial ?_
              refine Goes.val (Instr.sliceAt 119 (.slice (some ⟨gb, 0, none⟩) (r + 1) cap) none (some (.int .i64 r)) none) (.slice (some ⟨gb, 0, none⟩) r cap) (fun w' _ _ => cutI gb (r + 1) cap r (by omega) hcap.1 w') ?_
              refine Goes.run [] [] trivial ?_
              refine Goes.val (Builtin.append_ #[119, 119] 119 #[.slice (some ⟨gb, 0, none⟩) r cap, .slice none 0 0]) (.slice (some ⟨gb, 0, none⟩) r cap) (fun w' _ _ => appNil gb r cap _ (by omega) w') ?_
              refine Goes.run [1] [] trivial ?_
              exact Goes.ret [] (.bool true) fun w' hm hI => ⟨rfl, [gs, gw, gb], ⟨gb, cap, cur, rfl, hnd, hlow, hm.get 0, (hm.get 1 (b := gw) (o := .cells #[.slice (some ⟨gb, 0, none⟩) r cap] 119 (0, 0))).trans (by simp [hr]), hm.get 2, by simp [hr]; omega, hcs, by simpa [hr] using hcutr⟩, hI.now.1, Sub.refl _ _⟩
            · rw [hM] at hv hpos hk3
              simp only [Value.slice.injEq] at hv
              obtain ⟨rfl, -, hkc⟩ := hv
              have hkc := hkc.symm
              subst hkc
              refine Goes.swap [(gs, .cells #[.int .i64 (IntKind.i64.wrap (sz + 1))] 3 (0, 0)), (gw, .cells #[.slice (some ⟨gb, 0, none⟩) (r + 1) cap] 119 (0, 0)), (gb, .cells cur 3 (0, 0)), (gk, .cells (ks.map (Value.int .i64)).toArray 3 (0, 0))] (fun w' => Ch [gs, gw, gb] w w') (fun w' hm _ hI => ⟨?_, ?_, ?_⟩) ?_
              · have hkk : w'.heap[gk]? = some (.cells (ks.map (Value.int .i64)).toArray 3 (0, 0)) := by
                  rcases hI.now.2 with ⟨h, -⟩ | ⟨x, _, h, h2, _⟩
                  · cases h
                  · cases h; exact h2
                intro j b o h
                match j, h with
                | 0, h => cases h; exact hm.get 0
                | 1, h => cases h; exact hm.get 1
                | 2, h => cases h; exact hm.get 2
                | 3, h => cases h; exact hkk
              · have h1 := hlt3 gs (by simp)
                have h2 := hlt3 gw (by simp)
                have h3 := hlt3 gb (by simp)
                show [gs, gw, gb, gk].Nodup
                simp only [List.nodup_cons, List.mem_cons, List.not_mem_nil, or_false, not_or] at hnd ⊢
                refine ⟨⟨hnd.1.1, hnd.1.2, by omega⟩, ⟨hnd.2.1, by omega⟩, by omega, by simp⟩
              · intro w3 hc
                refine hI.now.1.trans hc fun x hx => ?_
                simp only [Mem.ids, List.map_cons, List.map_nil, List.mem_cons, List.not_mem_nil, or_false] at hx ⊢
                rcases hx with h | h | h | rfl
                · exact .inl (.inl h)
                · exact .inl (.inr (.inl h))
                · exact .inl (.inr (.inr h))
                · exact .inr hk1
              refine Goes.call2 3 gk 203 #[.slice (some ⟨gk, 0, none⟩) M M] (.tuple #[]) (.cells (ks.reverse.map (Value.int .i64)).toArray 3 (0, 0)) (fun w' hm _ => by have := rev_any (w := w') (g := gk) (ks := ks) M (hm.get 3) (by omega); rwa [hM] at this) ?_
              refine Goes.run [1] [] trivial ?_
              refine Goes.val (Instr.sliceAt 119 (.slice (some ⟨gb, 0, none⟩) (r + 1) cap) none (some (.int .i64 r)) none) (.slice (some ⟨gb, 0, none⟩) r cap) (fun w' _ _ => cutI gb (r + 1) cap r (by omega) hcap.1 w') ?_
              refine Goes.run [] [] trivial ?_
              refine Goes.eff (Builtin.append_ #[119, 119] 119 #[.slice (some ⟨gb, 0, none⟩) r cap, .slice (some ⟨gk, 0, none⟩) M M]) fun w5 hm5 hn5 hI5 => ?_
              have hown0 : w5.ownsRow n₀ 3 1 (.slice (some ⟨gb, 0, none⟩) r cap) r (rest.reverse.map (Value.int .i64)) := ⟨by simp [hr], .inr ⟨gb, cap, cur, rfl, hlow gb (by simp), hm5.get 2, by omega, hcap.2.2, by omega, by simpa using hcutr⟩⟩
              obtain ⟨a', c', w6, hrun, hown', hgr, hob⟩ := append_core (P := Tryz.prog) (t := 119) (ty := 119) (c := M) (m := M) (j := 3) (bytes := 8) (z := (0, 0)) (et := 3) (news := ks.reverse.map (Value.int .i64)) hm5 hown0 (Nat.le_trans hn hI5.now.size) (by simp [hM]) (fun u hu => by obtain ⟨x, -, rfl⟩ := List.mem_map.1 hu; rfl) hpos (by unfold maxLen; omega) (by omega) (by kernel_rfl) (by kernel_rfl)
              rcases hown'.2 with ⟨e, -⟩ | ⟨g', cap', cur', e, hg'0, hg', hc1, hc2, hc3, hc4⟩
              · exfalso; simp only [Value.slice.injEq] at e; omega
              simp only [Value.slice.injEq] at e
              obtain ⟨rfl, -, hcc⟩ := e
              subst hcc
              have hg6 : g' = gb ∨ g' = w5.heap.size := by simpa [Value.ownBlock] using hob
              have hgb5 : gb < w5.heap.size := lt_of_get (hm5.get 2 (b := gb) (o := .cells cur 3 (0, 0)))
              have hgs5 : gs < w5.heap.size := lt_of_get (hm5.get 0 (b := gs) (o := .cells #[.int .i64 (IntKind.i64.wrap (sz + 1))] 3 (0, 0)))
              have hgw5 : gw < w5.heap.size := lt_of_get (hm5.get 1 (b := gw) (o := .cells #[.slice (some ⟨gb, 0, none⟩) (r + 1) cap] 119 (0, 0)))
              have hnd2 : ¬gs = gw ∧ ¬gs = gb ∧ ¬gw = gb := by simp only [List.nodup_cons, List.mem_cons, List.not_mem_nil, or_false, not_or] at hnd; exact ⟨hnd.1.1, hnd.1.2, hnd.2.1⟩
              have hg's : g' ≠ gs ∧ g' ≠ gw := by rcases hg6 with h | h <;> subst h <;> constructor <;> omega
              have hC6 : Ch [gs, gw, gb] w w6 := hI5.now.trans (L' := [gb]) ⟨hgr.os, hgr.tape, hgr.output, hgr.size, fun i hi hx => hgr.block i hi (fun e => hx (by simp only [Value.ownBlock, Option.some.injEq] at e; simp [e]))⟩ (fun x hx => .inl (by simp only [List.mem_singleton] at hx; simp [hx]))
              refine ⟨_, w6, fun w' => Ch [gs, gw, gb] w w' ∧ w'.heap[g']? = some (.cells cur' 3 (0, 0)), [(gs, .cells #[.int .i64 (IntKind.i64.wrap (sz + 1))] 3 (0, 0)), (gw, .cells #[.slice (some ⟨gb, 0, none⟩) (r + 1) cap] 119 (0, 0))], hrun, fun j b o h => ?_, ?_, fun w7 hc => ⟨hC6.trans hc (fun x hx => .inl ?_), (hc.block g' (lt_of_get hg') ?_).trans hg'⟩, ?_⟩
              · match j, h with
                | 0, h => cases h; exact (hgr.block gs hgs5 (by simp only [Value.ownBlock, ne_eq, Option.some.injEq]; exact hnd2.2.1)).trans (hm5.get 0)
                | 1, h => cases h; exact (hgr.block gw hgw5 (by simp only [Value.ownBlock, ne_eq, Option.some.injEq]; exact hnd2.2.2)).trans (hm5.get 1)
              · simp [Mem.ids, hnd2.1]
              · simp only [Mem.ids, List.map_cons, List.map_nil, List.mem_cons, List.not_mem_nil, or_false] at hx ⊢
                rcases hx with h | h
                · exact .inl h
                · exact .inr (.inl h)
              · simp only [Mem.ids, List.map_cons, List.map_nil, List.mem_cons, List.not_mem_nil, or_false, not_or]
                exact hg's
              refine Goes.run [1] [] trivial ?_
              exact Goes.ret [] (.bool true) fun w' hm hI => by
                refine ⟨rfl, [gs, gw, g'], ⟨g', c', cur', rfl, ?_, ?_, hm.get 0, (hm.get 1 (b := gw) (o := .cells #[.slice (some ⟨g', 0, none⟩) (r + M) c'] 119 (0, 0))).trans ?_, hI.now.2, ?_, by omega, ?_⟩, hI.now.1, ?_⟩
                · simp only [List.nodup_cons, List.mem_cons, List.not_mem_nil, or_false, not_or]
                  exact ⟨⟨hnd2.1, fun e => hg's.1 e.symm⟩, fun e => hg's.2 e.symm, by simp, by simp⟩
                · intro x hx
                  simp only [List.mem_cons, List.not_mem_nil, or_false] at hx
                  rcases hx with rfl | rfl | rfl
                  · exact hlow _ (by simp)
                  · exact hlow _ (by simp)
                  · exact hg'0
                · simp only [List.length_append, hM, hr, Nat.add_comm]
                · simp only [List.length_append, hM, hr]; omega
                · have : (ks ++ rest).length = (r + M) * 1 := by simp only [List.length_append, hM, hr]; omega
                  show cur'.toList.take (ks ++ rest).length = _
                  rw [this, hc4]; simp
                · intro x hx
                  simp only [List.mem_cons, List.not_mem_nil, or_false] at hx ⊢
                  rcases hx with h | h | h
                  · exact .inl (.inl h)
                  · exact .inl (.inr (.inl h))
                  · rcases hg6 with h' | h'
                    · exact .inl (.inr (.inr (h.trans h')))
                    · exact .inr (by have := hI5.now.size; omega)
end Go.Proofs.YtddbiiejilcbbaaGreatDoor
namespace Go.Proofs.YtddbiiejilcbbaaGreatDoor
open Go Go.RowKit

def lastZ : List Int → Int
  | [] => 0
  | [x] => x
  | _ :: r => lastZ r
def ifF : List Int → Bool
  | [x, y, z] => x == 1 && y == z && y != 4
  | _ => false
/-- What is told of a term whose kids have the types l. -/
def endF (op : Int) (l : List Int) : Int × Bool :=
  bif op == 22 then (lastZ l, ifF l) else
  match rkP op with
  | none => (0, false)
  | some (want, t) => bif (want.length : Int) != (l.length : Int) then (0, false) else bif want == l then (t, true) else (0, false)
mutual
def typF (d : Int) : Co → Int × Bool
  | .mk op k t kids =>
    bif !fldP op k t || decide (d > 200) || decide ((kids.length : Int) > 3) then (0, false) else
    match tysF (d + 1) kids with
    | none => (0, false)
    | some l => endF op l
def tysF (d : Int) : List Co → Option (List Int)
  | [] => some []
  | c :: r => bif (typF d c).2 then (tysF d r).map ((typF d c).1 :: ·) else none
end
end Go.Proofs.YtddbiiejilcbbaaGreatDoor
namespace Go.Proofs.YtddbiiejilcbbaaGreatDoor
open Go

mutual
/-- A term of a type, as deep as it stands. -/
def okT (want d : Int) : Co → Bool
  | .mk op k t kids =>
    match kOf op want with
    | none => false
    | some ks => ((kids.length : Int) == (ks.length : Int)) && ownC op k t && decide (d ≤ 200) && okTs (d + 1) ks kids
def okTs (d : Int) (ks : List Int) : List Co → Bool
  | [] => true
  | c :: r =>
    match ks with
    | [] => false
    | x :: xs => okT x d c && okTs d xs r
end
def tyOk (x : Int) : Prop := x = 0 ∨ x = 1 ∨ x = 2 ∨ x = 4
theorem len_cond {b : Bool} {x y : Option (List Int)} (hx : ∀ l, x = some l → l.length ≤ 3) (hy : ∀ l, y = some l → l.length ≤ 3) : ∀ l, (bif b then x else y) = some l → l.length ≤ 3 := by
  cases b <;> assumption
theorem len_some {l0 : List Int} (h : l0.length ≤ 3) : ∀ l, some l0 = some l → l.length ≤ 3 := by rintro l ⟨⟩; exact h
theorem len_none : ∀ l : List Int, none = some l → l.length ≤ 3 := by intro l h; cases h
theorem kOf_len (op want : Int) : ∀ l, kOf op want = some l → l.length ≤ 3 := by
  unfold kOf kContract kNumber kTruth kDay
  repeat' first | exact len_none | exact len_some (by simp) | refine len_cond ?_ ?_
def Spec (c : Co) : Prop := ∀ (want : Int) (rest : List Int) (sz d : Int), 0 ≤ sz → sz ≤ 2000 → 1 ≤ d → d ≤ 201 → (rest.length : Int) ≤ 2 * sz →
  safeP fitF fitOk (sz, want :: rest) d c ∧ ((walkP fitF (sz, want :: rest) d c).2 = true ↔ (okT want d c = true ∧ sz + szC c ≤ 2000)) ∧ ((walkP fitF (sz, want :: rest) d c).2 = true → (walkP fitF (sz, want :: rest) d c).1 = (sz + szC c, rest))
theorem specK (l : List Co) (ih : ∀ c ∈ l, Spec c) : ∀ (ks rest : List Int) (sz d : Int), ks.length = l.length → 0 ≤ sz → sz ≤ 2000 → 1 ≤ d → d ≤ 201 → ((ks ++ rest).length : Int) ≤ 1 + 2 * sz →
  safeK fitF fitOk (sz, ks ++ rest) d l ∧ ((walkK fitF (sz, ks ++ rest) d l).2 = true ↔ (okTs d ks l = true ∧ sz + szL l ≤ 2000)) ∧ ((walkK fitF (sz, ks ++ rest) d l).2 = true → (walkK fitF (sz, ks ++ rest) d l).1 = (sz + szL l, rest)) := by
  induction l with
  | nil =>
    intro ks rest sz d hl h0 h1 _ _ _
    have hk : ks = [] := List.eq_nil_of_length_eq_zero hl
    subst hk
    unfold safeK walkK okTs szL
    refine ⟨trivial, ?_, ?_⟩ <;> simp <;> omega
  | cons c r ihr =>
    intro ks rest sz d hl h0 h1 hd1 hd2 hlen
    match ks, hl with
    | x :: xs, hl =>
    have hlen' : ((xs ++ rest).length : Int) ≤ 2 * sz := by simp only [List.cons_append, List.length_cons] at hlen; omega
    obtain ⟨s1, s2, s3⟩ := ih c (by simp) x (xs ++ rest) sz d h0 h1 hd1 hd2 hlen'
    have hpos := szC_pos c
    have hposr := szL_pos r
    rw [List.cons_append]
    cases hw : walkP fitF (sz, x :: (xs ++ rest)) d c with
    | mk st b =>
    rw [hw] at s2 s3
    unfold safeK walkK okTs szL
    rw [hw]
    cases b with
    | false =>
      refine ⟨⟨s1, trivial⟩, ?_, by simp⟩
      simp only [Bool.false_eq_true, false_iff, Bool.and_eq_true, not_and] at s2 ⊢
      intro h h'
      exact s2 h.1 (by omega)
    | true =>
      have e := s3 rfl
      simp only at e
      subst e
      have hc := s2.1 rfl
      obtain ⟨t1, t2, t3⟩ := ihr (fun c hc => ih c (by simp [hc])) xs rest (sz + szC c) d (by simpa using hl) (by omega) hc.2 hd1 hd2 (by omega)
      refine ⟨⟨s1, t1⟩, ?_, fun h => ?_⟩
      · simp only
        rw [t2, Bool.and_eq_true, hc.1]
        constructor
        · rintro ⟨h, h'⟩; exact ⟨⟨rfl, h⟩, by omega⟩
        · rintro ⟨⟨_, h⟩, h'⟩; exact ⟨h, by omega⟩
      · simp only at h ⊢
        rw [t3 h, Int.add_assoc]
theorem spec (c : Co) : Spec c := by
  induction c using Co.ind with
  | h op k t kids ih =>
    intro want rest sz d h0 h1 hd1 hd2 hlen
    have hw1 : IntKind.i64.wrap (sz + 1) = sz + 1 := IntWalk.i64_in _ ⟨by omega, by omega⟩
    have hw2 : IntKind.i64.wrap (d + 1) = d + 1 := IntWalk.i64_in _ ⟨by omega, by omega⟩
    have hpos := szL_pos kids
    have hok : fitOk (sz, want :: rest) := ⟨by simp, h0, h1, by simp only [List.length_cons]; omega⟩
    unfold safeP walkP okT szC
    cases hk : kOf op want with
    | none =>
      have hf : fitF (sz, want :: rest) d (.mk op k t kids) = ((sz + 1, want :: rest), false) := by simp only [fitF, hk, hw1]
      rw [hf]
      exact ⟨⟨hok, trivial⟩, by simp, by simp⟩
    | some ks =>
      have hl3 := kOf_len op want ks hk
      cases hb : (((kids.length : Int) != (ks.length : Int)) || !ownC op k t || decide (sz + 1 > 2000) || decide (d > 200)) with
      | true =>
        have hf : fitF (sz, want :: rest) d (.mk op k t kids) = ((sz + 1, want :: rest), false) := by simp only [fitF, hk, hw1, hb, cond_true]
        rw [hf]
        refine ⟨⟨hok, trivial⟩, ?_, by simp⟩
        simp only [Bool.false_eq_true, false_iff, not_and, Bool.and_eq_true, decide_eq_true_eq, beq_iff_eq]
        rintro ⟨⟨⟨e1, e2⟩, e3⟩, e4⟩ e5
        simp only [e1, e2, bne_self_eq_false, Bool.not_true, Bool.or_false, Bool.false_or, Bool.or_eq_true, decide_eq_true_eq] at hb
        omega
      | false =>
        have hf : fitF (sz, want :: rest) d (.mk op k t kids) = ((sz + 1, ks ++ rest), true) := by simp only [fitF, hk, hw1, hb, cond_false]
        rw [hf]
        simp only [Bool.or_eq_false_iff, bne_eq_false_iff_eq, Bool.not_eq_false', decide_eq_false_iff_not] at hb
        obtain ⟨⟨⟨e1, e2⟩, e3⟩, e4⟩ := hb
        rw [hw2]
        obtain ⟨t1, t2, t3⟩ := specK kids ih ks rest (sz + 1) (d + 1) (by omega) (by omega) (by omega) (by omega) (by omega) (by rw [List.length_append]; omega)
        refine ⟨⟨hok, t1⟩, ?_, fun h => ?_⟩
        · simp only
          rw [t2]
          simp only [e1, e2, beq_self_eq_true, Bool.true_and, Bool.and_eq_true, decide_eq_true_eq]
          constructor
          · rintro ⟨h, h'⟩; exact ⟨⟨by omega, h⟩, by omega⟩
          · rintro ⟨⟨_, h⟩, h'⟩; exact ⟨h, by omega⟩
        · simp only at h ⊢
          rw [t3 h, Int.add_assoc]
theorem safe_fit (want : Int) (c : Co) : safeP fitF fitOk (0, [want]) 1 c := (spec c want [] 0 1 (by omega) (by omega) (by omega) (by omega) (by simp)).1
end Go.Proofs.YtddbiiejilcbbaaGreatDoor
namespace Go.Proofs.YtddbiiejilcbbaaGreatDoor
open Go Go.RowKit

theorem rk_small : ∀ n : Fin 32, ∀ t ∈ [(0 : Int), 1, 2, 4], ((n : Nat) : Int) ≠ 22 → kOf ((n : Nat) : Int) t = (match rkP ((n : Nat) : Int) with | some (ks, t') => bif t' == t then some ks else none | none => none) := by decide
theorem rk_ty : ∀ n : Fin 32, ((rkP ((n : Nat) : Int)).map fun q => q.2 == 0 || q.2 == 1 || q.2 == 2 || q.2 == 4).getD true = true := by decide
theorem rk_out {op : Int} (h : op < 0 ∨ 31 < op) : rkP op = none ∧ (op == 22) = false ∧ ∀ t, kOf op t = none := by
  have hc : ∀ c : Int, 0 ≤ c → c ≤ 31 → (op == c) = false := fun c h0 h1 => by rw [beq_eq_false_iff_ne]; omega
  have h22 := hc 22 (by omega) (by omega)
  refine ⟨?_, h22, fun t => ?_⟩
  · unfold rkP
    simp [hc]
  · unfold kOf kContract kNumber kTruth kDay
    simp [hc]
theorem rk_op {op t : Int} (ht : tyOk t) (h22 : (op == 22) = false) : kOf op t = (match rkP op with | some (ks, t') => bif t' == t then some ks else none | none => none) := by
  by_cases h : op < 0 ∨ 31 < op
  · obtain ⟨h1, -, h3⟩ := rk_out h
    rw [h1, h3]
  · have hn : ((op.toNat : Nat) : Int) = op := by omega
    have := rk_small ⟨op.toNat, by omega⟩ t (by rcases ht with h | h | h | h <;> simp [h]) (by simp only [hn]; simpa using h22)
    simp only [hn] at this
    exact this
theorem rk_tyOk {op t : Int} {ks : List Int} (h : rkP op = some (ks, t)) : tyOk t := by
  by_cases ho : op < 0 ∨ 31 < op
  · rw [(rk_out ho).1] at h; cases h
  · have hn : ((op.toNat : Nat) : Int) = op := by omega
    have := rk_ty ⟨op.toNat, by omega⟩
    simp only [hn, h, Option.map_some, Option.getD_some, Bool.or_eq_true, beq_iff_eq] at this
    unfold tyOk
    omega
theorem k22 {t : Int} : kOf 22 t = bif t == 4 then none else some [1, t, t] := by
  unfold kOf
  cases h : (t == 4) with
  | true => rfl
  | false => rfl
theorem if_shape {l : List Int} (h : ifF l = true) : ∃ y, l = [1, y, y] ∧ y ≠ 4 := by
  unfold ifF at h
  split at h
  · simp only [Bool.and_eq_true, beq_iff_eq, bne_iff_ne] at h
    obtain ⟨⟨rfl, rfl⟩, h3⟩ := h
    exact ⟨_, rfl, h3⟩
  · cases h
/-- How a term is right. -/
theorem typ_parts {d op k : Int} {t : List UInt8} {kids : List Co} {z : Int} : typF d (.mk op k t kids) = (z, true) ↔ (ownC op k t = true ∧ d ≤ 200 ∧ kids.length ≤ 3 ∧ ∃ l, tysF (d + 1) kids = some l ∧ endF op l = (z, true)) := by
  rw [typF, fld_own]
  cases h : (!ownC op k t || decide (d > 200) || decide ((kids.length : Int) > 3)) with
  | true =>
    simp only [cond_true]
    constructor
    · intro h; cases h
    · rintro ⟨h1, h2, h3, -⟩
      simp only [h1, Bool.not_true, Bool.false_or, Bool.or_eq_true, decide_eq_true_eq] at h
      omega
  | false =>
    simp only [Bool.or_eq_false_iff, Bool.not_eq_false', decide_eq_false_iff_not] at h
    obtain ⟨⟨h1, h2⟩, h3⟩ := h
    simp only [cond_false]
    cases hl : tysF (d + 1) kids with
    | none =>
      constructor
      · intro h; cases h
      · rintro ⟨-, -, -, l, h, -⟩; cases h
    | some l =>
      constructor
      · intro h; exact ⟨h1, by omega, by omega, l, rfl, h⟩
      · rintro ⟨-, -, -, l', h, h'⟩; cases h; exact h'
theorem tys_mem : ∀ {kids : List Co} {d : Int} {l : List Int}, tysF d kids = some l → ∀ c ∈ kids, (typF d c).2 = true
  | [], _, _, _ => by simp
  | c :: r, d, l, h => by
    rw [tysF] at h
    cases hc : (typF d c).2 with
    | false => rw [hc] at h; cases h
    | true =>
      rw [hc] at h
      cases hr : tysF d r with
      | none => rw [hr] at h; cases h
      | some q =>
        intro x hx
        rcases List.mem_cons.1 hx with e | e
        · rw [e]; exact hc
        · exact tys_mem hr x e
theorem typ_kids {d op k : Int} {t : List UInt8} {kids : List Co} (h : (typF d (.mk op k t kids)).2 = true) : ownC op k t = true ∧ d ≤ 200 ∧ ∀ c ∈ kids, (typF (d + 1) c).2 = true := by
  cases hc : typF d (.mk op k t kids) with
  | mk z b =>
  rw [hc] at h
  have hb : b = true := h
  subst hb
  obtain ⟨h1, h2, -, l, hl, -⟩ := typ_parts.1 hc
  exact ⟨h1, h2, tys_mem hl⟩
end Go.Proofs.YtddbiiejilcbbaaGreatDoor
namespace Go.Proofs.YtddbiiejilcbbaaGreatDoor
open Go Go.RowKit

theorem eqCh (a : List UInt8) (b : Int) (c : List UInt8) (d : Int) (w : World) : (Op.equalIn 10000 45 (.agg #[strV a, .int .i64 b]) (.agg #[strV c, .int .i64 d])).run Tryz.prog w = .ok (decide (a = c) && b == d) w := by
  have u3 := Tryz.underlying3
  have a3 := Tryz.isAgg3
  have z3 := Tryz.sizeOf3
  have u2 := Tryz.underlying9
  have a2 := Tryz.isAgg9
  have z2 := Tryz.sizeOf9
  have hS : Tryz.prog.underlying 45 = some (.struct (Tryz.prog.fieldsOf 45)) := by kernel_rfl
  rw [show (10000 : Nat) = 9999 + 1 from rfl, run_equalIn_agg w 9999 45 _ _ hS (by kernel_rfl)]
  simp only [Program.fieldsOf, Tryz.underlying45]
  unfold strV
  go_simp
  by_cases h1 : a = c <;> by_cases h2 : b = d <;> simp [h1, h2]
theorem eqTr (a : Int) (s : List UInt8) (b : Int) (c : Int) (t : List UInt8) (d : Int) (w : World) : (Op.equalIn 10000 59 (.agg #[.int .i64 a, strV s, .int .i64 b]) (.agg #[.int .i64 c, strV t, .int .i64 d])).run Tryz.prog w = .ok (a == c && decide (s = t) && b == d) w := by
  have u3 := Tryz.underlying3
  have a3 := Tryz.isAgg3
  have z3 := Tryz.sizeOf3
  have u2 := Tryz.underlying9
  have a2 := Tryz.isAgg9
  have z2 := Tryz.sizeOf9
  have u1 := Tryz.underlying2
  have a1 := Tryz.isAgg2
  have z1 := Tryz.sizeOf2
  have hS : Tryz.prog.underlying 59 = some (.struct (Tryz.prog.fieldsOf 59)) := by kernel_rfl
  rw [show (10000 : Nat) = 9999 + 1 from rfl, run_equalIn_agg w 9999 59 _ _ hS (by kernel_rfl)]
  simp only [Program.fieldsOf, Tryz.underlying59]
  unfold strV
  go_simp
  by_cases h1 : a = c <;> by_cases h2 : b = d <;> by_cases h3 : s = t <;> simp [h1, h2, h3]
theorem eql_agg {t : TypeId} {xs ys : Array Value} {b : Bool} (x y : Operand) (hg : Tryz.prog.eqGuardType Tryz.prog.depth t = false) {w : World} (h : (Op.equalIn 10000 t (.agg xs) (.agg ys)).run Tryz.prog w = .ok b w) : (do eqGuard .eql t x y (.agg xs) (.agg ys); binOp .eql t (.agg xs) (.agg ys) : Sem Value).run Tryz.prog w = .ok (.bool b) w := by
  simp only [Sem.run_bind, run_eqGuard_agg w .eql t x y xs ys hg, Result.andThen_ok, run_eql_struct, h]
theorem neq_agg {t : TypeId} {xs ys : Array Value} {b : Bool} (x y : Operand) (hg : Tryz.prog.eqGuardType Tryz.prog.depth t = false) {w : World} (h : (Op.equalIn 10000 t (.agg xs) (.agg ys)).run Tryz.prog w = .ok b w) : (do eqGuard .neq t x y (.agg xs) (.agg ys); binOp .neq t (.agg xs) (.agg ys) : Sem Value).run Tryz.prog w = .ok (.bool (!b)) w := by
  simp only [Sem.run_bind, run_eqGuard_agg w .neq t x y xs ys hg, Result.andThen_ok, run_neq_struct, h]
end Go.Proofs.YtddbiiejilcbbaaGreatDoor
namespace Go.Proofs.YtddbiiejilcbbaaGreatDoor
open Go Go.RowKit

def fitV (gs gw : Nat) : Value := .func (.func 200) #[] #[.pointer (some ⟨gs, 0, none⟩), .pointer (some ⟨gw, 0, none⟩)]
set_option maxRecDepth 100000 in
seal rn rnN rnS Goes ans atEnd put0 putM opened putA0 putA oneSt st0 in
theorem fitting_any (want : Int) (w : World) : Calls Tryz.prog 159 #[.int .i64 want] w fun e w' => ∃ gs gw O, e = .returned (fitV gs gw) ∧ FsJ w.heap.size gs gw (0, [want]) O w' ∧ Below w.heap.size w w' := by
  refine Goes.begin Tryz.func159 [] (fun _ => True) Holds.nil (by simp [Mem.ids]) (fun _ _ => trivial) ?_
  refine Goes.run3 [1, 2] [] trivial fun gb gw gs => ?_
  refine Goes.know3 fun hids => ?_
  exact Goes.ret [] (fitV gs gw) fun w' hm hI => by
    have f0 : w.heap.size ≤ gb := fresh_of hI (g := gb) (ids_get (j := 0) (o := .cells #[.int .i64 want] 3 (0, 0)) (by kernel_rfl)) (by simp [Mem.ids])
    have f1 : w.heap.size ≤ gw := fresh_of hI (g := gw) (ids_get (j := 1) (o := .cells #[.slice (some ⟨gb, 0, none⟩) 1 1] 119 (0, 0)) (by kernel_rfl)) (by simp [Mem.ids])
    have f2 : w.heap.size ≤ gs := fresh_of hI (g := gs) (ids_get (j := 2) (o := .cells #[.int .i64 0] 3 (0, 0)) (by kernel_rfl)) (by simp [Mem.ids])
    have hd : [gb, gw, gs].Nodup := Nodup.of_ids hids
    refine ⟨gs, gw, [gs, gw, gb], rfl, ⟨gb, 1, #[.int .i64 want], rfl, ?_, ?_, hm.get 2, hm.get 1, hm.get 0, by simp [maxLen], rfl, rfl⟩, bel0 hI⟩
    · simp only [List.nodup_cons, List.mem_cons, List.not_mem_nil, or_false, not_or] at hd ⊢
      exact ⟨⟨fun e => hd.2.1 e.symm, fun e => hd.1.2 e.symm⟩, fun e => hd.1.1 e.symm, by simp, by simp⟩
    · intro x hx
      simp only [List.mem_cons, List.not_mem_nil, or_false] at hx
      rcases hx with rfl | rfl | rfl <;> assumption
def termsV (g : Nat) : Value := .func (.func 204) #[] #[.pointer (some ⟨g, 0, none⟩)]
set_option maxRecDepth 100000 in
seal rn rnN rnS Goes ans atEnd put0 putM opened putA0 putA oneSt st0 in
theorem terms_any (op k : Int) (t : List UInt8) (a : Option Addr) (N c : Nat) (w : World) : Calls Tryz.prog 160 #[cv op k t (.slice a N c)] w fun e w' => ∃ g, e = .returned (termsV g) ∧ w'.heap[g]? = some (cO op k t (.slice a N c)) ∧ w.heap.size ≤ g ∧ Below w.heap.size w w' := by
  refine Goes.begin Tryz.func160 [] (fun _ => True) Holds.nil (by simp [Mem.ids]) (fun _ _ => trivial) ?_
  refine Goes.run1 [] [] trivial fun g => ?_
  exact Goes.ret [] (termsV g) fun w' hm hI => ⟨g, rfl, hm.get 0, fresh_of hI (g := g) (ids_get (j := 0) (o := cO op k t (.slice a N c)) (by kernel_rfl)) (by simp [Mem.ids]), bel0 hI⟩
theorem cl_of_cO {w : World} {g : Nat} {op k : Int} {t : List UInt8} {v : Value} (h : w.heap[g]? = some (cO op k t v)) : Cl4 w g 0 (cv op k t v) := by
  refine ⟨op, k, t, v, rfl, ?_, ?_, ?_, ?_⟩ <;> unfold World.cell? <;> rw [h] <;> rfl
set_option maxRecDepth 100000 in
seal rn rnN rnS Goes ans atEnd put0 putM opened putA0 putA oneSt st0 in
theorem iter_any {σ : Type} {n₀ l : Nat} {f : σ → Int → Co → σ × Bool} {ok : σ → Prop} {J : Bool → σ → List Nat → World → Prop} (Y : Yl n₀ l f ok J) {c : Co} {op k : Int} {t : List UInt8} {a : Option Addr} {N cc g : Nat} {w : World} {s : σ} {O : List Nat} (hsafe : safeP f ok s 1 c) (hJ : J true s O w) (hN : Nc n₀ w (cv op k t (.slice a N cc)) c) (hn : n₀ ≤ w.heap.size) (hg : w.heap[g]? = some (cO op k t (.slice a N cc))) :
    Calls Tryz.prog 204 #[.func (.yield l) #[] #[], .pointer (some ⟨g, 0, none⟩)] w fun e w' => e = .returned (.tuple #[]) ∧ ∃ O', J (walkP f s 1 c).2 (walkP f s 1 c).1 O' w' ∧ Ch O w w' ∧ Sub w O O' := by
  refine Goes.enter Tryz.func204 [] (fun w' => Ch [] w w') Holds.nil (by simp [Mem.ids]) (fun w' hc => hc) ?_
  refine Goes.run [] [] trivial ?_
  refine Goes.val (Instr.loadAt 52 (.pointer (some ⟨g, 0, none⟩))) (cv op k t (.slice a N cc)) (fun w' _ hI => loadC (cl_of_cO ((hI.now.block g (lt_of_get hg) (by simp)).trans hg))) ?_
  refine Goes.run [] [] trivial ?_
  refine Goes.call 205 #[cv op k t (.slice a N cc), .int .i64 1, .func (.yield l) #[] #[]] fun w1 hm1 hn1 hI1 => ?_
  have hc1 : Ch [] w w1 := hI1.now
  refine (walk_any Y c _ w1 s O 1 hsafe (Y.stay _ _ _ _ _ hJ (fun x hx => hc1.block x (Y.low _ _ _ _ hJ x hx).2 (by simp))) (hN.later (hc1.low (fun x hx => by cases hx) hn)) (Nat.le_trans hn hc1.size)).mono fun e w2 ⟨he, O', h1, h2, h3⟩ => ?_
  refine ⟨_, fun w' => Ch O w w' ∧ J (walkP f s 1 c).2 (walkP f s 1 c).1 O' w' ∧ Sub w O O', [], he, Holds.nil, by simp [Mem.ids], fun w3 hc => ⟨((hc1.mono (fun x hx => by cases hx)).trans h2 (fun x hx => .inl hx)).trans hc (fun x hx => by cases hx), Y.stay _ _ _ _ _ h1 (fun x hx => hc.block x (Y.low _ _ _ _ h1 x hx).2 (by simp [Mem.ids])), fun x hx => ?_⟩, ?_⟩
  · rcases h3 x hx with e | e
    · exact .inl e
    · exact .inr (Nat.le_trans hc1.size e)
  refine Goes.run [] [] trivial ?_
  exact Goes.ret [] (.tuple #[]) fun w' hm hI => ⟨rfl, O', hI.now.2.1, hI.now.1, hI.now.2.2⟩
end Go.Proofs.YtddbiiejilcbbaaGreatDoor
namespace Go.Proofs.YtddbiiejilcbbaaGreatDoor
open Go Go.RowKit

section
variable {P : Program} {F : Exit → Act → World → Prop} {Inv : World → Prop} {s : St} {fn : Func} {R : Ending → World → Prop}
def rgFn (s : St) : Operand :=
  match s.todo with
  | .code (.rangeFunc g _ _ _) :: _ => g
  | _ => .const undef
def rgPs (s : St) : Array Tmp :=
  match s.todo with
  | .code (.rangeFunc _ ps _ _) :: _ => ps
  | _ => #[]
def rgAssign (s : St) : Code :=
  match s.todo with
  | .code (.rangeFunc _ _ a _) :: _ => a
  | _ => .skip
def rgBody (s : St) : Code :=
  match s.todo with
  | .code (.rangeFunc _ _ _ b) :: _ => b
  | _ => .skip
def atRange (s : St) : Bool :=
  match s.todo with
  | .code (.rangeFunc _ _ _ _) :: _ => true
  | _ => false
/-- A loop's record. -/
def recOf (fid : FuncId) (D : Nat) (s : St) (st : LoopState) (pe : Option Code) : Loop := { state := st, pending := pe, fn := fid, tmps := s.tmps.toArray, params := rgPs s, assign := rgAssign s, body := rgBody s, defers := D }
theorem Goes.range (gf : FuncId) (lb : Array Value)
    (h : ∀ fid w, Holds s.mem w → s.mem.ids.Nodup → Stay s.mem.ids w Inv → ∀ W1, W1.heap[w.heap.size + 1]? = some (.loop (recOf fid w.heap.size s .ready none)) → W1.heap[w.heap.size]? = some (.deferred (some [])) → Below w.heap.size w W1 →
      Calls P gf (#[.func (.yield (w.heap.size + 1)) #[] #[]] ++ lb) W1 (rangePost Fence.wide 0 P (w.heap.size + 1) (QK P F s.todo.tail) ⟨s.tmps.toArray, [{ target := .collected w.heap.size, args := #[] }]⟩))
    (ha : atRange s = true := by kernel_rfl) (hg : evalL s.tmps (rgFn s) = .func (.func gf) #[] lb := by kernel_rfl) (hf : okf P gf = true := by kernel_rfl) : Goes P F Inv s := by
  intro w hm hn hI
  have h1 := h
  unfold atRange at ha
  split at ha
  · rename_i g ps asg body k ht
    have e1 : rgPs s = ps := by unfold rgPs; rw [ht]
    have e2 : rgAssign s = asg := by unfold rgAssign; rw [ht]
    have e3 : rgBody s = body := by unfold rgBody; rw [ht]
    have e4 : rgFn s = g := by unfold rgFn; rw [ht]
    rw [ht]
    rw [e4] at hg
    refine (wpIn_wide (n := 0)).1 (wpIn_rangeFunc fun fid hfid => ?_)
    have hL1 : ((w.alloc (.deferred (some []))).alloc (.loop (recOf fid w.heap.size s .ready none))).heap[w.heap.size + 1]? = some (.loop (recOf fid w.heap.size s .ready none)) := by
      have := World.alloc_heap_new (w.alloc (.deferred (some []))) (.loop (recOf fid w.heap.size s .ready none)); rwa [World.size_alloc] at this
    have hK1 : ((w.alloc (.deferred (some []))).alloc (.loop (recOf fid w.heap.size s .ready none))).heap[w.heap.size]? = some (.deferred (some [])) := (Below.heap_alloc _ _ _ (by simp)).trans (World.alloc_heap_new w _)
    have hB : Below w.heap.size w ((w.alloc (.deferred (some []))).alloc (.loop (recOf fid w.heap.size s .ready none))) := ((Below.refl _ w).alloc (Nat.le_refl _) _).alloc (by simp) _
    have hE : (Instr.enterLoop fid s.tmps.toArray (rgPs s) (rgAssign s) (rgBody s) none).run P w = .ok (w.heap.size + 1, [{ target := .collected w.heap.size, args := #[] }]) ((w.alloc (.deferred (some []))).alloc (.loop (recOf fid w.heap.size s .ready none))) := run_enterLoop_outer _ _ _ _ _
    generalize ((w.alloc (.deferred (some []))).alloc (.loop (recOf fid w.heap.size s .ready none))) = W1 at hL1 hK1 hB hE
    have h2 := h1 fid w hm hn hI W1 hL1 hK1 hB
    rw [ht] at h2
    refine ⟨w.heap.size + 1, [{ target := .collected w.heap.size, args := #[] }], W1, { target := .fn (.func gf) lb, args := #[.func (.yield (w.heap.size + 1)) #[] #[]] }, W1, gf, #[.func (.yield (w.heap.size + 1)) #[] #[]] ++ lb, W1, ?_, ?_, fun _ _ => trivial, ?_, fun h => (by cases h), ?_⟩
    · rw [← e1, ← e2, ← e3]
      exact hE
    · have e : resolve (evalL s.tmps) (rangeCall g (w.heap.size + 1)) 0 = (Pure.pure ({ target := .fn (.func gf) lb, args := #[.func (.yield (w.heap.size + 1)) #[] #[]] } : Deferred) : Sem Deferred) := by
        unfold resolve rangeCall
        simp only [hg, Deferred.ofValue]
        simp [evalL]
      unfold St.act
      rw [evalL_eq, e]
      rfl
    · simp only [invoke]
      exact okf_run hf _ _
    · exact (callsIn_wide (n := 0)).2 h2
  · cases ha
/-- A round, out of its body. -/
theorem round_of {l D : Nat} {fid : FuncId} {args : Array Value} {W : World} {T : List Value} (hl : W.heap[l]? = some (.loop (recOf fid D s .ready none))) (hsz : args.size = (rgPs s).size) (hT : ((rgPs s).zip args).foldl (fun tmps (t, a) => tmps.setIfInBounds t a) s.tmps.toArray = T.toArray)
    (h : (rgAssign s).wpIn (FW (some l)) 0 P (Exit.then (fun a₁ w₁ => ∃ w₂, (Instr.beginRound l).run P w₁ = .ok () w₂ ∧ (rgBody s).wpIn (FW (some l)) 0 P (roundPost P l R) a₁ w₂) (fun _ _ _ => False)) ⟨T.toArray, []⟩ W) : YieldAt Fence.wide 0 P l args W R := by
  have hy := run_yield (P := P) hl hsz
  refine ⟨_, _, _, _, hy, roundIn_of_wpIn trivial ?_⟩
  show (rgAssign s).wpIn _ _ _ _ ⟨((rgPs s).zip args).foldl (fun tmps (t, a) => tmps.setIfInBounds t a) s.tmps.toArray, []⟩ W
  rw [hT]
  exact h
/-- The regions of a code, in order. -/
def regs : Code → List (Array Oper)
  | .region _ ops _ => [ops]
  | .seq a b => regs a ++ regs b
  | .block _ c => regs c
  | .loop c => regs c
  | .cond _ a b => regs a ++ regs b
  | .rangeFunc _ _ a b => regs a ++ regs b
  | _ => []
def regAt (c : Code) (i : Nat) : Array Oper := (regs c).getD i #[]
/-- The function is left, its mark among the deferred calls. -/
theorem leave_mark {T : List Value} {D : Nat} {w : World} (js : List Nat) (v : Value) (m : Mem) (hD : w.heap[D]? = some (.deferred (some []))) (hm : Holds m (w.putObj D (.deferred none))) (hn : m.ids.Nodup) (hR : R (.returned v) (w.putObj D (.deferred none)))
    (hv : (ans P fn js ⟨[], T, m⟩).map (·.val) = some v := by kernel_rfl) (hd : (ans P fn js ⟨[], T, m⟩).map (·.d) = some false := by kernel_rfl) (hN : (ans P fn js ⟨[], T, m⟩).map (fun r => r.ob.map (·.1)) = (ans P fn js ⟨[], T, m⟩).map (fun r => r.ob.map (·.2)) := by kernel_rfl) : LeavesInM Fence.wide 0 P fn T.toArray R [{ target := .collected D, args := #[] }] .returning w := by
  refine ⟨by simp, .inl ⟨D, _, rfl, run_takeDeferred hD, ?_⟩⟩
  cases hr : ans P fn js ⟨[], T, m⟩ with
  | none => rw [hr] at hv; cases hv
  | some r =>
    rw [hr] at hv hd hN
    simp only [Option.map_some, Option.some.injEq] at hv hd hN
    obtain ⟨w', Dd⟩ := srun_did P _ _ _ _ _ _ _ _ hr (all_of_map hN) hm hn (by simp)
    have hw' := (Dd.still hd).2.1
    subst hw'
    exact ⟨v, hv ▸ Dd.run, hR⟩
theorem Ch.put (W : World) (l : Nat) (o : Obj) : Ch [l] W (W.putObj l o) := ⟨rfl, rfl, rfl, by simp, fun i _ hx => World.putObj_heap_other (fun e => hx (by simp [e]))⟩
/-- A state with a name, and what is known of it. -/
theorem Goes.named (T : List Value) (m : Mem) (ps : Array Tmp) (A B : Code) (k : List TI) (h : ∀ s0 : St, s0.tmps = T → s0.mem = m → rgPs s0 = ps → rgAssign s0 = A → rgBody s0 = B → s0.todo.tail = k → evalL s0.tmps (rgFn s0) = evalL s.tmps (rgFn s) → atRange s0 = atRange s → Goes P F Inv s0)
    (e1 : s.tmps = T := by kernel_rfl) (e2 : s.mem = m := by kernel_rfl) (e3 : rgPs s = ps := by kernel_rfl) (e4 : rgAssign s = A := by kernel_rfl) (e5 : rgBody s = B := by kernel_rfl) (e6 : s.todo.tail = k := by kernel_rfl) : Goes P F Inv s := h s e1 e2 e3 e4 e5 e6 rfl rfl
end
end Go.Proofs.YtddbiiejilcbbaaGreatDoor
namespace Go.Proofs.YtddbiiejilcbbaaGreatDoor
open Go Go.RowKit

/-- What the round's state is: the loop's record, and what the closure keeps. -/
def IsJ (n₀ l D g4 g5 gs gw : Nat) (fid : FuncId) (s : St) (b : Bool) (st : Int × List Int) (O : List Nat) (w : World) : Prop :=
  w.heap[l]? = some (.loop (recOf fid D s (bif b then .ready else .done) (bif b then none else some .ret))) ∧ w.heap[D]? = some (.deferred (some [])) ∧ w.heap[g4]? = some (.cells #[.bool false] 4 (0, 0)) ∧ w.heap[g5]? = some (.cells #[fitV gs gw] 193 (0, 0)) ∧
    ∃ O', FsJ n₀ gs gw st O' w ∧ O = l :: D :: g4 :: g5 :: O' ∧ O.Nodup ∧ n₀ ≤ l ∧ n₀ ≤ D ∧ n₀ ≤ g4 ∧ n₀ ≤ g5
theorem IsJ.stay {n₀ l D g4 g5 gs gw : Nat} {fid : FuncId} {s : St} {b : Bool} {st : Int × List Int} {O : List Nat} {w w' : World} (h : IsJ n₀ l D g4 g5 gs gw fid s b st O w) (hO : ∀ x ∈ O, w'.heap[x]? = w.heap[x]?) : IsJ n₀ l D g4 g5 gs gw fid s b st O w' := by
  obtain ⟨h1, h2, h3, h4, O', h5, rfl, h6⟩ := h
  exact ⟨(hO l (by simp)).trans h1, (hO D (by simp)).trans h2, (hO g4 (by simp)).trans h3, (hO g5 (by simp)).trans h4, O', h5.stay (fun x hx => hO x (by simp [hx])), rfl, h6⟩
theorem IsJ.low {n₀ l D g4 g5 gs gw : Nat} {fid : FuncId} {s : St} {b : Bool} {st : Int × List Int} {O : List Nat} {w : World} (h : IsJ n₀ l D g4 g5 gs gw fid s b st O w) : ∀ x ∈ O, n₀ ≤ x ∧ x < w.heap.size := by
  obtain ⟨h1, h2, h3, h4, O', h5, rfl, -, h6, h7, h8, h9⟩ := h
  intro x hx
  simp only [List.mem_cons] at hx
  rcases hx with rfl | rfl | rfl | rfl | hx
  · exact ⟨h6, lt_of_get h1⟩
  · exact ⟨h7, lt_of_get h2⟩
  · exact ⟨h8, lt_of_get h3⟩
  · exact ⟨h9, lt_of_get h4⟩
  · exact h5.low x hx
/-- The function's regions. -/
noncomputable def rI (i : Nat) : Array Oper := regAt (Tryz.f119.body.getD .skip) i
noncomputable def isA : Code := .seq (.region 3 (rI 3) false) (.region 4 (rI 4) false)
noncomputable def isB : Code := .block 1 (.seq (.region 5 (rI 5) false) (.cond (.tmp 18) (.seq (.region 6 (rI 6) false) .ret) .skip))
def isT (v : Value) (want : Int) (g2 g4 g5 gs gw gt : Nat) (x y : Value) : List Value := [v, .int .i64 want, .pointer (some ⟨g2, 0, none⟩), undef, .pointer (some ⟨g4, 0, none⟩), .pointer (some ⟨g5, 0, none⟩), undef, undef, .int .i64 want, fitV gs gw, v, termsV gt, x, y, undef, undef, undef, undef, undef]
theorem FsJ.more {n n' gs gw : Nat} {st : Int × List Int} {O : List Nat} {w : World} (h : FsJ n gs gw st O w) (hn : n' ≤ n) : FsJ n' gs gw st O w := by
  obtain ⟨gb, cap, cur, h0, h1, h2, h3⟩ := h
  exact ⟨gb, cap, cur, h0, h1, fun x hx => Nat.le_trans hn (h2 x hx), h3⟩
set_option maxRecDepth 100000 in
seal orT orG rI in
theorem isOf_round {n₀ l D g2 g4 g5 gs gw gt : Nat} {fid : FuncId} {s : St} {v0 : Value} {want : Int} (hT : s.tmps = isT v0 want g2 g4 g5 gs gw gt undef undef) (hps : rgPs s = #[12, 13]) (hA : rgAssign s = isA) (hB : rgBody s = isB) : Yl n₀ l fitF fitOk (IsJ n₀ l D g4 g5 gs gw fid s) where
  stay := fun b st O w w' h hO => h.stay hO
  low := fun b st O w h => h.low
  yield := by
    intro st O W d v c hok hJ hN hn
    cases c with
    | mk op k t kids =>
    obtain ⟨a, cc, rfl, hf, -, -⟩ := hN.open
    obtain ⟨sz, stk⟩ := st
    obtain ⟨want', rest, rfl⟩ : ∃ x y, stk = x :: y := by cases stk with | nil => exact absurd rfl hok.1 | cons x y => exact ⟨x, y, rfl⟩
    obtain ⟨h1, h2, h3, h4, O', h5, rfl, hnd, i1, i2, i3, i4⟩ := hJ
    simp only [cond_true] at h1
    have hlo := h5.low
    have hl1 := lt_of_get h1
    have hl4 := lt_of_get h3
    have hl5 := lt_of_get h4
    have hlD := lt_of_get h2
    simp only [List.nodup_cons, List.mem_cons, not_or] at hnd
    obtain ⟨⟨nD, n4, n5, nO⟩, ⟨m4, m5, mO⟩, ⟨k5, kO⟩, jO, ndO⟩ := hnd
    refine round_of (T := isT v0 want g2 g4 g5 gs gw gt (.int .i64 d) (cv op k t (.slice a kids.length cc))) h1 (by rw [hps]; rfl) (by rw [hps, hT]; kernel_rfl) ?_
    rw [hA]
    refine wpIn_seq (wpIn_region ?_)
    refine wi_runs (m := []) [(0, 0)] (rest := []) Holds.nil (by simp [Mem.ids]) fun w1 _ _ _ _ d1 => ?_
    have hw1 := d1 (by kernel_rfl)
    subst w1
    show (Code.region 4 (rI 4) false).wpIn _ _ _ _ _ _
    refine wpIn_region ?_
    rw [show List.range (rI 4).size = [0, 1] by kernel_rfl]
    refine wi_new 0 (rest := [1]) (m := []) Holds.nil (by simp [Mem.ids]) fun g7 w2 hg7 m2 n2 c2 _ => ?_
    refine wi_runs [(1, 0)] (rest := []) m2 n2 fun w3 m3 n3 c3 _ _ => ?_
    have e2 : (orG Tryz.prog (rI 4) 0 g7 (orT Tryz.prog (rI 3) [(0, 0)] (isT v0 want g2 g4 g5 gs gw gt (.int .i64 d) (cv op k t (.slice a kids.length cc))) []).T []).m.ids = [g7] := by kernel_rfl
    have q1 : Ch [] W w3 := c2.trans c3 (fun x hx => .inr (by rw [e2, List.mem_singleton] at hx; omega))
    have r7 : w3.heap[g7]? = some (cO op k t (.slice a kids.length cc)) := m3.get 0
    show ∃ w₂, _ ∧ _
    have hl3 : w3.heap[l]? = some (.loop (recOf fid D s .ready none)) := (q1.block l hl1 (by simp)).trans h1
    refine ⟨_, run_beginRound hl3 rfl, ?_⟩
    have hl3' := lt_of_get hl3
    have hs3 : W.heap.size ≤ w3.heap.size := q1.size
    have c4 := Ch.put w3 l (.loop { recOf fid D s .ready none with state := .busy })
    have l4 : (w3.putObj l (.loop { recOf fid D s .ready none with state := .busy })).heap[l]? = some (.loop { recOf fid D s .ready none with state := .busy }) := World.putObj_heap_same hl3'
    generalize w3.putObj l (.loop { recOf fid D s .ready none with state := .busy }) = w4 at c4 l4 ⊢
    have q4 : Ch [l] W w4 := (q1.mono (fun x hx => by cases hx)).trans c4 (fun x hx => .inl hx)
    have r7' : w4.heap[g7]? = some (cO op k t (.slice a kids.length cc)) := (c4.block g7 (lt_of_get r7) (by simp; omega)).trans r7
    have f5 : w4.heap[g5]? = some (.cells #[fitV gs gw] 193 (0, 0)) := (q4.block g5 hl5 (by simp; exact fun e => n5 e.symm)).trans h4
    have f4 : w4.heap[g4]? = some (.cells #[.bool false] 4 (0, 0)) := (q4.block g4 hl4 (by simp; exact fun e => n4 e.symm)).trans h3
    have fD : w4.heap[D]? = some (.deferred (some [])) := (q4.block D hlD (by simp; exact fun e => nD e.symm)).trans h2
    have f6 : FsJ n₀ gs gw (sz, want' :: rest) O' w4 := h5.stay (fun x hx => q4.block x (hlo x hx).2 (by simp; rintro rfl; exact nO hx))
    rw [hB]
    refine wpIn_block (wpIn_seq (wpIn_region ?_))
    rw [show List.range (rI 5).size = [0, 1, 2, 3, 4] by kernel_rfl]
    refine wi_runs (m := [(g5, .cells #[fitV gs gw] 193 (0, 0)), (g7, cO op k t (.slice a kids.length cc))]) [(0, 0), (1, 0), (2, 1)] (rest := [3, 4]) (fun j b o h => by match j, h with | 0, h => (cases h; exact f5) | 1, h => (cases h; exact r7')) (by simp [Mem.ids]; omega) fun w5 _ _ _ _ d5 => ?_
    obtain rfl := d5 (by kernel_rfl)
    refine wi_call (f := 200) (first := #[]) (captured := #[.pointer (some ⟨gs, 0, none⟩), .pointer (some ⟨gw, 0, none⟩)]) (args := #[.int .i64 d, cv op k t (.slice a kids.length cc)]) (d := some 17) (by kernel_rfl) (by kernel_rfl) ?_
    refine (fit_any f6 hok d op k t kids a cc hf.s (Nat.le_trans hn q4.size)).mono fun e w6 ⟨he, O2, j1, j2, j3⟩ => ⟨_, he, ?_⟩
    have hlo6 := f6.low
    have z4 : w6.heap[l]? = some (.loop { recOf fid D s .ready none with state := .busy }) := (j2.block l (lt_of_get l4) nO).trans l4
    have z5 : w6.heap[g4]? = some (.cells #[.bool false] 4 (0, 0)) := (j2.block g4 (lt_of_get f4) kO).trans f4
    have z6 : w6.heap[g5]? = some (.cells #[fitV gs gw] 193 (0, 0)) := (j2.block g5 (lt_of_get f5) jO).trans f5
    have z7 : w6.heap[D]? = some (.deferred (some [])) := (j2.block D (lt_of_get fD) mO).trans fD
    have hsz5 : W.heap.size ≤ w5.heap.size := q4.size
    have newO : ∀ y, y < W.heap.size → y ∉ O' → y ∉ O2 := fun y hy hO hx => by
      rcases j3 y hx with h | h
      · exact hO h
      · omega
    have q6 : Ch (l :: D :: g4 :: g5 :: O') W w6 := (q4.mono (fun x hx => by rw [List.mem_singleton] at hx; simp [hx])).trans j2 (fun x hx => .inl (by simp [hx]))
    have sub6 : Sub W (l :: D :: g4 :: g5 :: O') (l :: D :: g4 :: g5 :: O2) := by
      intro x hx
      simp only [List.mem_cons] at hx ⊢
      rcases hx with h | h | h | h | h
      · exact .inl (.inl h)
      · exact .inl (.inr (.inl h))
      · exact .inl (.inr (.inr (.inl h)))
      · exact .inl (.inr (.inr (.inr (.inl h))))
      · rcases j3 x h with h | h
        · exact .inl (.inr (.inr (.inr (.inr h))))
        · exact .inr (by omega)
    have hndO2 : O2.Nodup := by obtain ⟨_, _, _, rfl, h, _⟩ := j1; exact h
    have hnd2 : (l :: D :: g4 :: g5 :: O2).Nodup := by
      simp only [List.nodup_cons, List.mem_cons, not_or]
      exact ⟨⟨nD, n4, n5, newO l hl1 nO⟩, ⟨m4, m5, newO D hlD mO⟩, ⟨k5, newO g4 hl4 kO⟩, newO g5 hl5 jO, hndO2⟩
    have hlo2 := j1.low
    have fin : ∀ w8 : World, Ch [l, g4] w6 w8 → w8.heap[g4]? = some (.cells #[.bool false] 4 (0, 0)) → ∀ b, w8.heap[l]? = some (.loop (recOf fid D s (bif b then .ready else .done) (bif b then none else some .ret))) → IsJ n₀ l D g4 g5 gs gw fid s b (fitF (sz, want' :: rest) d (.mk op k t kids)).1 (l :: D :: g4 :: g5 :: O2) w8 ∧ Ch (l :: D :: g4 :: g5 :: O') W w8 := by
      intro w8 hc h4' b hl'
      refine ⟨⟨hl', (hc.block D (lt_of_get z7) (by simp; exact ⟨fun e => nD e.symm, m4⟩)).trans z7, h4', (hc.block g5 (lt_of_get z6) (by simp; exact ⟨fun e => n5 e.symm, fun e => k5 e.symm⟩)).trans z6, O2, j1.stay (fun x hx => hc.block x (hlo2 x hx).2 ?_), rfl, hnd2, i1, i2, i3, i4⟩, q6.trans hc (fun x hx => .inl ?_)⟩
      · simp only [List.mem_cons, List.not_mem_nil, or_false, not_or]
        exact ⟨fun e => newO l hl1 nO (e ▸ hx), fun e => newO g4 hl4 kO (e ▸ hx)⟩
      · simp only [List.mem_cons, List.not_mem_nil, or_false] at hx ⊢
        rcases hx with h | h
        · exact .inl h
        · exact .inr (.inr (.inl h))
    cases hfs : fitF (sz, want' :: rest) d (.mk op k t kids) with
    | mk st' b =>
    rw [hfs] at fin
    refine wi_runs (m := []) [(4, 0)] (rest := []) Holds.nil (by simp [Mem.ids]) fun w7 _ _ _ _ d7 => ?_
    obtain rfl := d7 (by kernel_rfl)
    show (Code.cond _ _ _).wpIn _ _ _ _ _ _
    cases b with
    | true =>
      refine wpIn_cond_false (by rw [evalL_eq]; kernel_rfl) (wpIn_skip ?_)
      show ∃ v w', _ ∧ _
      refine ⟨_, _, run_endRound none z4, rfl, l :: D :: g4 :: g5 :: O2, ?_⟩
      obtain ⟨y1, y2⟩ := fin (w7.putObj l (.loop { { recOf fid D s .ready none with state := .busy } with state := .ready, pending := none })) ((Ch.put _ _ _).mono (fun x hx => by rw [List.mem_singleton] at hx; simp [hx])) ((World.putObj_heap_other (fun e => n4 e.symm)).trans z5) true (World.putObj_heap_same (lt_of_get z4))
      exact ⟨y1, y2, sub6⟩
    | false =>
      refine wpIn_cond_true (by rw [evalL_eq]; kernel_rfl) (wpIn_seq (wpIn_region ?_))
      refine wi_runs (m := [(g4, .cells #[.bool false] 4 (0, 0))]) [(0, 0)] (rest := []) (fun j b o h => by match j, h with | 0, h => (cases h; exact z5)) (by simp [Mem.ids]) fun w8 m8 _ c8 _ _ => ?_
      show Code.ret.wpIn _ _ _ _ _ _
      refine wpIn_ret ?_
      have z8 : w8.heap[l]? = some (.loop { recOf fid D s .ready none with state := .busy }) := (c8.block l (lt_of_get z4) (by simp [Mem.ids]; exact n4)).trans z4
      have z9 : w8.heap[g4]? = some (.cells #[.bool false] 4 (0, 0)) := m8.get 0
      show ∃ v w', _ ∧ _
      refine ⟨_, _, run_endRound (some .ret) z8, rfl, l :: D :: g4 :: g5 :: O2, ?_⟩
      obtain ⟨y1, y2⟩ := fin (w8.putObj l (.loop { { recOf fid D s .ready none with state := .busy } with state := .done, pending := some .ret })) ((c8.mono (fun x hx => by simp [Mem.ids] at hx; simp [hx])).trans (Ch.put _ _ _) (fun x hx => .inl (by rw [List.mem_singleton] at hx; simp [hx]))) ((World.putObj_heap_other (fun e => n4 e.symm)).trans z9) false (World.putObj_heap_same (lt_of_get z8))
      exact ⟨y1, y2, sub6⟩
theorem FsJ.apart {L : List Nat} {A : World → Prop} {n gs gw : Nat} {st : Int × List Int} {O : List Nat} {w : World} (h : Stay L w (fun w' => A w' ∧ FsJ n gs gw st O w')) {g : Nat} (hg : g ∈ L) (hl : g < w.heap.size) : g ∉ O := by
  intro hO
  have hc : Ch L w { w with heap := w.heap.setIfInBounds g (.map #[] 0) } := ⟨rfl, rfl, rfl, by simp, fun i _ hx => by
    show (w.heap.setIfInBounds g _)[i]? = _
    exact Array.getElem?_setIfInBounds_ne (fun (h : g = i) => hx (h ▸ hg))⟩
  obtain ⟨gb, cap, cur, rfl, -, -, h1, h2, h3, -⟩ := (h _ hc).2
  have e : (w.heap.setIfInBounds g (.map #[] 0))[g]? = some (.map #[] 0) := Array.getElem?_setIfInBounds_self_of_lt hl
  simp only [List.mem_cons, List.not_mem_nil, or_false] at hO
  rcases hO with rfl | rfl | rfl
  · rw [show ({ w with heap := w.heap.setIfInBounds g (.map #[] 0) } : World).heap[g]? = some (.map #[] 0) from e] at h1; cases h1
  · rw [show ({ w with heap := w.heap.setIfInBounds g (.map #[] 0) } : World).heap[g]? = some (.map #[] 0) from e] at h2; cases h2
  · rw [show ({ w with heap := w.heap.setIfInBounds g (.map #[] 0) } : World).heap[g]? = some (.map #[] 0) from e] at h3; cases h3
def isOfP (want : Int) (c : Co) : Bool := (walkP fitF (0, [want]) 1 c).2
set_option maxRecDepth 100000 in
seal rn rnN rnS Goes ans atEnd put0 putM opened putA0 putA oneSt st0 orT orG in
theorem isOf_any (want : Int) {c : Co} {v : Value} {w : World} (hN : Nc w.heap.size w v c) (hsafe : safeP fitF fitOk (0, [want]) 1 c) : Calls Tryz.prog 119 #[v, .int .i64 want] w fun e w' => e = .returned (.bool (isOfP want c)) ∧ Below w.heap.size w w' := by
  obtain ⟨op, k, t, a, N, cc, rfl⟩ := hN.cells
  refine Goes.enterM Tryz.func119 [] (fun w' => Ch [] w w' ∧ True) Holds.nil (by simp [Mem.ids]) (fun w' hc => ⟨hc, trivial⟩) ?_
  refine Goes.runN2 bpM_noP 2000 [] [] trivial fun g2 g4 => ?_
  refine Goes.call 159 #[.int .i64 want] fun w1 hm1 hn1 hI1 => (fitting_any want w1).mono fun e w2 ⟨gs, gw, O, he, hJ, hB⟩ => ?_
  have f2 : w.heap.size ≤ g2 := fresh_of hI1 (g := g2) (ids_get (j := 0) (o := cO op k t (.slice a N cc)) (by kernel_rfl)) (by simp)
  have f4 : w.heap.size ≤ g4 := fresh_of hI1 (g := g4) (ids_get (j := 1) (o := .cells #[.bool false] 4 (0, 0)) (by kernel_rfl)) (by simp)
  have hne : [g2, g4].Nodup := Nodup.of_ids hn1
  have b2 : w2.heap[g2]? = some (cO op k t (.slice a N cc)) := (hB.block g2 (lt_of_get (hm1.get 0 (o := cO op k t (.slice a N cc))))).trans (hm1.get 0)
  have l4 : g4 < w1.heap.size := lt_of_get (hm1.get 1 (b := g4) (o := .cells #[.bool false] 4 (0, 0)))
  have l2 : g2 < w1.heap.size := lt_of_get (hm1.get 0 (o := cO op k t (.slice a N cc)))
  have b4 : w2.heap[g4]? = some (.cells #[.bool false] 4 (0, 0)) := (hB.block g4 l4).trans (hm1.get 1)
  have hO1 : ∀ x ∈ O, w1.heap.size ≤ x ∧ x < w2.heap.size := hJ.low
  refine ⟨_, fun w' => Ch [] w w' ∧ FsJ w1.heap.size gs gw (0, [want]) O w', [(g2, cO op k t (.slice a N cc)), (g4, .cells #[.bool false] 4 (0, 0))], he, fun j b o h => by match j, h with | 0, h => (cases h; exact b2) | 1, h => (cases h; exact b4), hne, fun w3 hc => ⟨?_, hJ.stay (fun x hx => hc.block x (hO1 x hx).2 (fun hm => by
    simp only [Mem.ids, List.map_cons, List.map_nil, List.mem_cons, List.not_mem_nil, or_false] at hm
    have := (hO1 x hx).1
    rcases hm with rfl | rfl <;> omega))⟩, ?_⟩
  · refine (hI1.now.1.trans (L' := []) ⟨hB.os, hB.tape, hB.output, hB.size, fun i hi _ => hB.block i hi⟩ (fun x hx => by cases hx)).trans hc (fun x hx => .inr ?_)
    simp only [Mem.ids, List.map_cons, List.map_nil, List.mem_cons, List.not_mem_nil, or_false] at hx
    rcases hx with rfl | rfl <;> assumption
  refine Goes.runN1 bpM_noP 2000 [2, 0] [] trivial fun g5 => ?_
  refine Goes.call 160 #[cv op k t (.slice a N cc)] fun w3 hm3 hn3 hI3 => (terms_any op k t a N cc w3).mono fun e w4 ⟨gt, he4, hgt, hgtn, hB4⟩ => ?_
  have x2 : w3.heap[g2]? = some (cO op k t (.slice a N cc)) := hm3.get 0
  have x4 : w3.heap[g4]? = some (.cells #[.bool false] 4 (0, 0)) := hm3.get 1
  have x5 : w3.heap[g5]? = some (.cells #[fitV gs gw] 193 (0, 0)) := hm3.get 2
  have f5 : w.heap.size ≤ g5 := fresh_of hI3 (g := g5) (ids_get (j := 2) (o := .cells #[fitV gs gw] 193 (0, 0)) (by kernel_rfl)) (by simp)
  have hids3 : [g2, g4, g5].Nodup := Nodup.of_ids hn3
  have hap : ∀ g ∈ [g2, g4, g5], g ∉ O := fun g hg => FsJ.apart hI3 (L := _) (by rw [show Mem.ids _ = [g2, g4, g5] by kernel_rfl]; exact hg) (by
    simp only [List.mem_cons, List.not_mem_nil, or_false] at hg
    rcases hg with rfl | rfl | rfl
    · exact lt_of_get x2
    · exact lt_of_get x4
    · exact lt_of_get x5)
  have y2 := (hB4.block g2 (lt_of_get x2)).trans x2
  have y4 := (hB4.block g4 (lt_of_get x4)).trans x4
  have y5 := (hB4.block g5 (lt_of_get x5)).trans x5
  have hJ4 : FsJ w1.heap.size gs gw (0, [want]) O w4 := hI3.now.2.stay (fun x hx => hB4.block x (hI3.now.2.low x hx).2)
  have hC4 : Ch [] w w4 := hI3.now.1.trans (L' := []) ⟨hB4.os, hB4.tape, hB4.output, hB4.size, fun i hi _ => hB4.block i hi⟩ (fun x hx => by cases hx)
  refine ⟨_, fun w' => Ch [] w w' ∧ FsJ w1.heap.size gs gw (0, [want]) O w' ∧ w'.heap[gt]? = some (cO op k t (.slice a N cc)), [(g2, cO op k t (.slice a N cc)), (g4, .cells #[.bool false] 4 (0, 0)), (g5, .cells #[fitV gs gw] 193 (0, 0))], he4, fun j b o h => by match j, h with | 0, h => (cases h; exact y2) | 1, h => (cases h; exact y4) | 2, h => (cases h; exact y5), hids3, fun w5 hc => ⟨hC4.trans hc (fun x hx => .inr ?_), hJ4.stay (fun x hx => hc.block x (hJ4.low x hx).2 (fun hm => hap x hm hx)), (hc.block gt (lt_of_get hgt) (fun hm => ?_)).trans hgt⟩, ?_⟩
  · simp only [Mem.ids, List.map_cons, List.map_nil, List.mem_cons, List.not_mem_nil, or_false] at hx
    rcases hx with rfl | rfl | rfl <;> assumption
  · have l2' := lt_of_get x2
    have l4' := lt_of_get x4
    have l5' := lt_of_get x5
    simp only [Mem.ids, List.map_cons, List.map_nil, List.mem_cons, List.not_mem_nil, or_false] at hm
    rcases hm with h | h | h <;> omega
  refine Goes.runN bpM_noP 2000 [] [] trivial ?_
  refine Goes.named (isT (cv op k t (.slice a N cc)) want g2 g4 g5 gs gw gt undef undef) [(g2, cO op k t (.slice a N cc)), (g4, .cells #[.bool false] 4 (0, 0)), (g5, .cells #[fitV gs gw] 193 (0, 0))] #[12, 13] isA isB [.blk 0, .code (.seq (.region 7 (rI 7) false) .ret)] fun s0 hT hm0 hps hA hBo hk hev hat => ?_
  refine Goes.range 204 #[.pointer (some ⟨gt, 0, none⟩)] (fun fid w5 hm5 hn5 hI5 W1 hL hD hBW => ?_) (hat.trans (by kernel_rfl)) (hev.trans (by kernel_rfl)) (by kernel_rfl)
  rw [hm0] at hm5 hn5 hI5
  obtain ⟨hC5, hJ5, hgt5⟩ := hI5.now
  have hw15 : w1.heap.size ≤ w5.heap.size := by have := hB.size; have := hI3.now.1.size; have h1 := hI5.now.2.1.low; have := hJ.low; obtain ⟨gb, _, _, rfl, _⟩ := hJ5; have := (h1 gs (by simp)).2; have := (h1 gs (by simp)).1; omega
  have u4 : w5.heap[g4]? = some (.cells #[.bool false] 4 (0, 0)) := hm5.get 1
  have u5 : w5.heap[g5]? = some (.cells #[fitV gs gw] 193 (0, 0)) := hm5.get 2
  have hlow5 := hJ5.low
  have hn1w : w.heap.size ≤ w1.heap.size := hI1.now.1.size
  have hd45 : ¬g4 = g5 := by simp only [List.nodup_cons, List.mem_cons, List.not_mem_nil, or_false, not_or] at hids3; exact hids3.2.1
  have v4 := lt_of_get u4
  have v5 := lt_of_get u5
  have hJW : IsJ w.heap.size (w5.heap.size + 1) w5.heap.size g4 g5 gs gw fid s0 true (0, [want]) ((w5.heap.size + 1) :: w5.heap.size :: g4 :: g5 :: O) W1 := by
    refine ⟨hL, hD, (hBW.block g4 v4).trans u4, (hBW.block g5 v5).trans u5, O, (hJ5.more hn1w).stay (fun x hx => hBW.block x (hlow5 x hx).2), rfl, ?_, by have := hC5.size; omega, hC5.size, f4, f5⟩
    have hndO : O.Nodup := by obtain ⟨_, _, _, rfl, h, _⟩ := hJ5; exact h
    simp only [List.nodup_cons, List.mem_cons, not_or]
    exact ⟨⟨by omega, by omega, by omega, fun h => by have := (hlow5 _ h).2; omega⟩, ⟨by omega, by omega, fun h => by have := (hlow5 _ h).2; omega⟩, ⟨hd45, hap g4 (by simp)⟩, hap g5 (by simp), hndO⟩
  have hBwW : Below w.heap.size w W1 := (hC5.low (fun x hx => by cases hx) (Nat.le_refl _)).trans (hBW.mono hC5.size)
  show Calls Tryz.prog 204 #[.func (.yield (w5.heap.size + 1)) #[] #[], .pointer (some ⟨gt, 0, none⟩)] W1 _
  refine (iter_any (isOf_round hT hps hA hBo) hsafe hJW (hN.later hBwW) hBwW.size ((hBW.block gt (lt_of_get hgt5)).trans hgt5)).mono fun e w6 ⟨he, O2, hJ2, hC6, hS6⟩ => ?_
  subst he
  have hB6 : Below w.heap.size w w6 := hBwW.trans (hC6.low (fun x hx => (hJW.low x hx).1) hBwW.size)
  cases hr : walkP fitF (0, [want]) 1 c with
  | mk st' b =>
  rw [hr] at hJ2
  have hv : isOfP want c = b := by unfold isOfP; rw [hr]
  rw [hv]
  obtain ⟨p1, p2, p3, p4, O3, p5, rfl, p6, p7, p8, p9, p10⟩ := hJ2
  simp only [List.nodup_cons, List.mem_cons, not_or] at p6
  have hl6 : w5.heap.size + 1 < w6.heap.size := lt_of_get p1
  cases b with
  | true =>
    simp only [cond_true] at p1
    refine ⟨none, _, run_endLoop p1 (by simp [recOf]), ?_⟩
    have hB7 : Below w.heap.size w (w6.putObj (w5.heap.size + 1) (.loop { recOf fid w5.heap.size s0 .ready none with state := .exhausted })) := hB6.trans ((Ch.put _ _ _).low (fun x hx => by rw [List.mem_singleton] at hx; have := hC5.size; omega) hB6.size)
    have z4 : (w6.putObj (w5.heap.size + 1) (.loop { recOf fid w5.heap.size s0 .ready none with state := .exhausted })).heap[g4]? = some (.cells #[.bool false] 4 (0, 0)) := (World.putObj_heap_other (fun e => p6.1.2.1 e.symm)).trans p3
    have zD : (w6.putObj (w5.heap.size + 1) (.loop { recOf fid w5.heap.size s0 .ready none with state := .exhausted })).heap[w5.heap.size]? = some (.deferred (some [])) := (World.putObj_heap_other (fun e => p6.1.1 e.symm)).trans p2
    generalize w6.putObj (w5.heap.size + 1) (.loop { recOf fid w5.heap.size s0 .ready none with state := .exhausted }) = w7 at hB7 z4 zD ⊢
    show QK _ _ s0.todo.tail _ _ _
    rw [hk, hT]
    show (Code.seq _ _).wp _ _ _ _
    refine (wpIn_wide (n := 0)).1 (wpIn_seq (wpIn_region ?_))
    refine wi_runs (r := none) (m := [(g4, .cells #[.bool false] 4 (0, 0))]) [(0, 0)] (rest := []) (fun j b o h => by match j, h with | 0, h => (cases h; exact z4)) (by simp [Mem.ids]) fun w8 m8 n8 c8 _ _ => ?_
    show Code.ret.wpIn Fence.wide _ _ _ _ _
    refine wpIn_ret ?_
    have q4 : w8.heap[g4]? = some (.cells #[.bool true] 4 (0, 0)) := m8.get 0
    refine leave_mark [0] (.bool true) [(g4, .cells #[.bool true] 4 (0, 0))] ((c8.block w5.heap.size (lt_of_get zD) (by simp [Mem.ids]; omega)).trans zD) (fun j b o h => by match j, h with | 0, h => (cases h; exact (World.putObj_heap_other (by omega)).trans q4)) (by simp [Mem.ids]) ⟨rfl, ?_⟩
    exact (hB7.trans (c8.low (fun x hx => by simp [Mem.ids] at hx; omega) hB7.size)).trans ((Ch.put _ _ _).low (fun x hx => by rw [List.mem_singleton] at hx; have := hC5.size; omega) (by have := hB7.size; have := c8.size; omega))
  | false =>
    simp only [cond_false] at p1
    refine ⟨some .ret, _, run_endLoop p1 (by simp [recOf]), ?_⟩
    have hB7 : Below w.heap.size w (w6.putObj (w5.heap.size + 1) (.loop { recOf fid w5.heap.size s0 .done (some .ret) with state := .exhausted })) := hB6.trans ((Ch.put _ _ _).low (fun x hx => by rw [List.mem_singleton] at hx; have := hC5.size; omega) hB6.size)
    have z4 : (w6.putObj (w5.heap.size + 1) (.loop { recOf fid w5.heap.size s0 .done (some .ret) with state := .exhausted })).heap[g4]? = some (.cells #[.bool false] 4 (0, 0)) := (World.putObj_heap_other (fun e => p6.1.2.1 e.symm)).trans p3
    have zD : (w6.putObj (w5.heap.size + 1) (.loop { recOf fid w5.heap.size s0 .done (some .ret) with state := .exhausted })).heap[w5.heap.size]? = some (.deferred (some [])) := (World.putObj_heap_other (fun e => p6.1.1 e.symm)).trans p2
    generalize w6.putObj (w5.heap.size + 1) (.loop { recOf fid w5.heap.size s0 .done (some .ret) with state := .exhausted }) = w7 at hB7 z4 zD ⊢
    show Code.ret.wpIn Fence.wide _ _ _ _ _
    refine wpIn_ret (qk_ret ?_)
    rw [hT]
    refine leave_mark [0] (.bool false) [(g4, .cells #[.bool false] 4 (0, 0))] zD (fun j b o h => by match j, h with | 0, h => (cases h; exact (World.putObj_heap_other (by omega)).trans z4)) (by simp [Mem.ids]) ⟨rfl, ?_⟩
    exact hB7.trans ((Ch.put _ _ _).low (fun x hx => by rw [List.mem_singleton] at hx; have := hC5.size; omega) hB7.size)
end Go.Proofs.YtddbiiejilcbbaaGreatDoor
namespace Go.Proofs.YtddbiiejilcbbaaGreatDoor
open Go Go.RowKit

def typP (c : Co) : Int × Bool := bif isOfP 0 c then (0, true) else bif isOfP 1 c then (1, true) else bif isOfP 2 c then (2, true) else bif isOfP 4 c then (4, true) else (0, false)
theorem isOf0 (want : Int) {c : Co} {v : Value} {w w' : World} (hN : Nc w.heap.size w v c) (hB : Below w.heap.size w w') : Calls Tryz.prog 119 #[v, .int .i64 want] w' fun e w'' => e = .returned (.bool (isOfP want c)) ∧ Below w'.heap.size w' w'' := isOf_any want (hN.at hB) (safe_fit want c)
set_option maxRecDepth 100000 in
seal rn rnN rnS Goes ans atEnd put0 putM opened putA0 oneSt st0 orT orG in
theorem type_any {c : Co} {v : Value} {w : World} (hN : Nc w.heap.size w v c) : Calls Tryz.prog 142 #[v] w fun e w' => e = .returned (.tuple #[.int .i64 (typP c).1, .bool (typP c).2]) ∧ Below w.heap.size w w' := by
  obtain ⟨op, k, t, a, N, cc, rfl⟩ := hN.cells
  refine Goes.begin Tryz.func142 [] (fun _ => True) Holds.nil (by simp [Mem.ids]) (fun _ _ => trivial) ?_
  refine Goes.run1 [0, 1, 0, 0] [(true, true)] ⟨rfl, trivial⟩ fun g => ?_
  refine Goes.call0 119 #[cv op k t (.slice a N cc), .int .i64 0] (.bool (isOfP 0 c)) (fun w' _ hI => isOf0 0 hN (bel0 hI)) ?_
  cases h0 : isOfP 0 c with
  | true =>
    refine Goes.run [1] [(true, true)] ⟨rfl, trivial⟩ ?_
    exact Goes.ret [] (.tuple #[.int .i64 0, .bool true]) fun w' hm hI => ⟨by unfold typP; rw [h0] <;> rfl, bel0 hI⟩
  | false =>
    refine Goes.run [0, 0, 1, 0, 0] [(true, true), (false, false)] ⟨rfl, rfl, trivial⟩ ?_
    refine Goes.call0 119 #[cv op k t (.slice a N cc), .int .i64 1] (.bool (isOfP 1 c)) (fun w' _ hI => isOf0 1 hN (bel0 hI)) ?_
    cases h1 : isOfP 1 c with
    | true =>
      refine Goes.run [1] [(true, true)] ⟨rfl, trivial⟩ ?_
      exact Goes.ret [] (.tuple #[.int .i64 1, .bool true]) fun w' hm hI => ⟨by unfold typP; rw [h0, h1] <;> rfl, bel0 hI⟩
    | false =>
      refine Goes.run [0, 0, 1, 0, 0] [(true, true), (false, false)] ⟨rfl, rfl, trivial⟩ ?_
      refine Goes.call0 119 #[cv op k t (.slice a N cc), .int .i64 2] (.bool (isOfP 2 c)) (fun w' _ hI => isOf0 2 hN (bel0 hI)) ?_
      cases h2 : isOfP 2 c with
      | true =>
        refine Goes.run [1] [(true, true)] ⟨rfl, trivial⟩ ?_
        exact Goes.ret [] (.tuple #[.int .i64 2, .bool true]) fun w' hm hI => ⟨by unfold typP; rw [h0, h1, h2] <;> rfl, bel0 hI⟩
      | false =>
        refine Goes.run [0, 0, 1, 0, 0] [(true, true), (false, false)] ⟨rfl, rfl, trivial⟩ ?_
        refine Goes.call0 119 #[cv op k t (.slice a N cc), .int .i64 4] (.bool (isOfP 4 c)) (fun w' _ hI => isOf0 4 hN (bel0 hI)) ?_
        cases h4 : isOfP 4 c with
        | true =>
          refine Goes.run [1] [(true, true)] ⟨rfl, trivial⟩ ?_
          exact Goes.ret [] (.tuple #[.int .i64 4, .bool true]) fun w' hm hI => ⟨by unfold typP; rw [h0, h1, h2, h4] <;> rfl, bel0 hI⟩
        | false =>
          refine Goes.run [0, 0, 0] [(false, false), (false, false)] ⟨rfl, rfl, trivial⟩ ?_
          exact Goes.ret [] (.tuple #[.int .i64 0, .bool false]) fun w' hm hI => ⟨by unfold typP; rw [h0, h1, h2, h4] <;> rfl, bel0 hI⟩
end Go.Proofs.YtddbiiejilcbbaaGreatDoor
namespace Go.Proofs.YtddbiiejilcbbaaGreatDoor
open Go Go.RowKit

def askF (f : Int → Co → Int) (x : Int) (_ : Int) (c : Co) : Int × Bool := (f x c, true)
def askP (f : Int → Co → Int) (x : Int) (c : Co) : Int := bif (typP c).2 then (walkP (askF f) x 1 c).1 else x
noncomputable def rA (i : Nat) : Array Oper := regAt (Tryz.f120.body.getD .skip) i
noncomputable def akA : Code := .region 4 (rA 4) false
noncomputable def akB : Code := .block 1 (.region 5 (rA 5) false)
end Go.Proofs.YtddbiiejilcbbaaGreatDoor
namespace Go.Proofs.YtddbiiejilcbbaaGreatDoor
open Go Go.RowKit

end Go.Proofs.YtddbiiejilcbbaaGreatDoor
namespace Go.Proofs.YtddbiiejilcbbaaGreatDoor
open Go Go.RowKit

def ckF (x : Int) : Co → Int
  | .mk op k _ _ => bif lookP op then (bif decide (k < 0) then 141 else x) else x
def chkP (c : Co) : Int := bif isOfP 4 c then askP ckF 0 c else 140
end Go.Proofs.YtddbiiejilcbbaaGreatDoor
namespace Go.Proofs.YtddbiiejilcbbaaGreatDoor
open Go

theorem isOfP_eq (want : Int) (c : Co) : isOfP want c = true ↔ (okT want 1 c = true ∧ szC c ≤ 2000) := by
  have h := (spec c want [] 0 1 (by omega) (by omega) (by omega) (by omega) (by simp)).2.1
  unfold isOfP
  rw [h]
  simp
theorem ty_cond {b : Bool} {x y : Option (List Int)} (hx : ∀ l, x = some l → ∀ z ∈ l, tyOk z) (hy : ∀ l, y = some l → ∀ z ∈ l, tyOk z) : ∀ l, (bif b then x else y) = some l → ∀ z ∈ l, tyOk z := by
  cases b <;> assumption
theorem ty_some {l0 : List Int} (h : ∀ z ∈ l0, tyOk z) : ∀ l, some l0 = some l → ∀ z ∈ l, tyOk z := by rintro l ⟨⟩; exact h
theorem ty_none : ∀ l : List Int, none = some l → ∀ z ∈ l, tyOk z := by intro l h; cases h
theorem kOf_ty {op want : Int} (hw : tyOk want) : ∀ l, kOf op want = some l → ∀ z ∈ l, tyOk z := by
  unfold kOf kContract kNumber kTruth kDay
  unfold tyOk at hw
  repeat' first | exact ty_none | refine ty_cond ?_ ?_ | (refine ty_some ?_; intro z hz; simp only [List.mem_cons, List.not_mem_nil, or_false] at hz; done) | (refine ty_some ?_; intro z hz; simp only [List.mem_cons, List.not_mem_nil, or_false] at hz; unfold tyOk; omega)
theorem typ_of {want : Int} (hw : tyOk want) {c : Co} (h : isOfP want c = true) : (typP c).2 = true := by
  unfold typP
  cases h0 : isOfP 0 c with
  | true => rfl
  | false =>
    cases h1 : isOfP 1 c with
    | true => rfl
    | false =>
      cases h2 : isOfP 2 c with
      | true => rfl
      | false =>
        cases h4 : isOfP 4 c with
        | true => rfl
        | false =>
          exfalso
          rcases hw with rfl | rfl | rfl | rfl
          · rw [h0] at h; cases h
          · rw [h1] at h; cases h
          · rw [h2] at h; cases h
          · rw [h4] at h; cases h
theorem typ_ex {c : Co} (h : (typP c).2 = true) : ∃ want, tyOk want ∧ isOfP want c = true := by
  unfold typP at h
  cases h0 : isOfP 0 c with
  | true => exact ⟨0, .inl rfl, h0⟩
  | false =>
    cases h1 : isOfP 1 c with
    | true => exact ⟨1, .inr (.inl rfl), h1⟩
    | false =>
      cases h2 : isOfP 2 c with
      | true => exact ⟨2, .inr (.inr (.inl rfl)), h2⟩
      | false =>
        cases h4 : isOfP 4 c with
        | true => exact ⟨4, .inr (.inr (.inr rfl)), h4⟩
        | false => rw [h0, h1, h2, h4] at h; cases h
end Go.Proofs.YtddbiiejilcbbaaGreatDoor
namespace Go.Proofs.YtddbiiejilcbbaaGreatDoor
open Go

end Go.Proofs.YtddbiiejilcbbaaGreatDoor
