/- causal: may a term stand where it stands? -/
import Derived.Test.YtfblnjidghijaaaCRev
import Derived.Test.YtfblnjidghijaaaCOwn2
namespace Go.Proofs.Ytfblnjidghijaaa
open Go Go.RowKit

section
variable {P : Program} {F : Exit → Act → World → Prop} {Inv : World → Prop} {s : St}
/-- Other blocks, other facts. -/
theorem Goes.swap (m : Mem) (Inv' : World → Prop) (h : ∀ w, Holds s.mem w → s.mem.ids.Nodup → Stay s.mem.ids w Inv → Holds m w ∧ m.ids.Nodup ∧ Stay m.ids w Inv') (G : Goes P F Inv' ⟨s.todo, s.tmps, m⟩) : Goes P F Inv s := fun w hm hn hI => by
  obtain ⟨h1, h2, h3⟩ := h w hm hn hI
  exact G w h1 h2 h3
end
/-- The known blocks are apart. -/
theorem Goes.know3 {P : Program} {F : Exit → Act → World → Prop} {Inv : World → Prop} {s : St} (h : s.mem.ids.Nodup → Goes P F Inv s) : Goes P F Inv s := fun w hm hn hI => h hn w hm hn hI
theorem idxI (b n cap k : Nat) (h : k < n) (w : World) : (Instr.indexAt 50 (.slice (some ⟨b, 0, none⟩) n cap) (.int .i64 k)).run Try.prog w = .ok (.pointer (some ⟨b, k, none⟩)) w := by go_simp
theorem cutI (b n cap k : Nat) (h : k ≤ n) (hn : n ≤ cap) (w : World) : (Instr.sliceAt 50 (.slice (some ⟨b, 0, none⟩) n cap) none (some (.int .i64 k)) none).run Try.prog w = .ok (.slice (some ⟨b, 0, none⟩) k cap) w := by
  have h1 : (k : Int) ≤ (cap : Int) := by omega
  go_simp
theorem appNil (b n cap : Nat) (ty : TypeId) (hn : n ≤ cap) (w : World) : (Builtin.append_ #[50, 50] ty #[.slice (some ⟨b, 0, none⟩) n cap, .slice none 0 0]).run Try.prog w = .ok (.slice (some ⟨b, 0, none⟩) n cap) w := by
  go_simp
/-- What is asked of a term, in order: how many there were, and the types of those to come, the next one first. -/
def fitF (st : Int × List Int) (d : Int) : Co → (Int × List Int) × Bool
  | .mk op k t kids =>
    match st.2 with
    | [] => (st, false)
    | want :: rest =>
      match kOf op want with
      | none => ((IntKind.i64.wrap (st.1 + 1), want :: rest), false)
      | some ks =>
        bif ((kids.length : Int) != (ks.length : Int)) || !ownC op k t || decide (IntKind.i64.wrap (st.1 + 1) > 2000) || decide (d > 200) then ((IntKind.i64.wrap (st.1 + 1), want :: rest), false)
        else ((IntKind.i64.wrap (st.1 + 1), ks ++ rest), true)
/-- Its state in memory. -/
def FsJ (n₀ gs gw : Nat) (st : Int × List Int) (O : List Nat) (w : World) : Prop :=
  ∃ gb cap cur, O = [gs, gw, gb] ∧ O.Nodup ∧ (∀ x ∈ O, n₀ ≤ x) ∧ w.heap[gs]? = some (.cells #[.int .i64 st.1] 3 (0, 0)) ∧ w.heap[gw]? = some (.cells #[.slice (some ⟨gb, 0, none⟩) st.2.length cap] 50 (0, 0)) ∧ w.heap[gb]? = some (.cells cur 3 (0, 0)) ∧ (st.2.length ≤ cap ∧ 0 < cap ∧ cap ≤ maxLen) ∧ cur.size = cap ∧ cur.toList.take st.2.length = st.2.reverse.map (Value.int .i64)
theorem FsJ.stay {n₀ gs gw : Nat} {st : Int × List Int} {O : List Nat} {w w' : World} (h : FsJ n₀ gs gw st O w) (hO : ∀ x ∈ O, w'.heap[x]? = w.heap[x]?) : FsJ n₀ gs gw st O w' := by
  obtain ⟨gb, cap, cur, rfl, h1, h2, h3, h4, h5, h6⟩ := h
  exact ⟨gb, cap, cur, rfl, h1, h2, (hO gs (by simp)).trans h3, (hO gw (by simp)).trans h4, (hO gb (by simp)).trans h5, h6⟩
theorem FsJ.low {n₀ gs gw : Nat} {st : Int × List Int} {O : List Nat} {w : World} (h : FsJ n₀ gs gw st O w) : ∀ x ∈ O, n₀ ≤ x ∧ x < w.heap.size := by
  obtain ⟨gb, cap, cur, rfl, h1, h2, h3, h4, h5, h6⟩ := h
  intro x hx
  refine ⟨h2 x hx, ?_⟩
  simp only [List.mem_cons, List.not_mem_nil, or_false] at hx
  rcases hx with rfl | rfl | rfl
  · exact lt_of_get h3
  · exact lt_of_get h4
  · exact lt_of_get h5
def fitOk (st : Int × List Int) : Prop := st.2 ≠ [] ∧ 0 ≤ st.1 ∧ st.1 ≤ 2000 ∧ (st.2.length : Int) ≤ 1 + 2 * st.1
theorem Nodup.of_ids {m : Mem} {l : List Nat} (h : m.ids.Nodup) (e : m.ids = l := by kernel_rfl) : l.Nodup := e ▸ h
theorem KidsAt.form {w w' : World} {v : Value} {ks : List Int} (h : KidsAt w w' v ks) : ∃ a c, v = .slice a ks.length c := by
  rcases h with ⟨rfl, rfl⟩ | ⟨g, h1, h2, h3⟩
  · exact ⟨none, 0, rfl⟩
  · exact ⟨_, _, h2⟩
theorem KidsAt.keep {w w1 w2 : World} {v : Value} {ks : List Int} {L : List Nat} (h : KidsAt w w1 v ks) (hc : Ch L w1 w2) (hL : ∀ x ∈ L, x < w.heap.size) : KidsAt w w2 v ks := by
  rcases h with h | ⟨g, h1, h2, h3, h4⟩
  · exact .inl h
  · exact .inr ⟨g, h1, h2, (hc.block g (lt_of_get h3) (fun hx => by have := hL g hx; omega)).trans h3, h4⟩
theorem stay4 {gs gw gb g : Nat} {w w2 : World} {v : Value} {ks : List Int} (hC : Ch [gs, gw, gb] w w2) (hK : KidsAt w w2 v ks) (hg : w.heap.size ≤ g) (hgk : v.ownBlock ≠ some g) (hlt : ∀ x ∈ [gs, gw, gb], x < w.heap.size) : Stay [gs, gw, gb, g] w2 (fun w' => Ch [gs, gw, gb] w w' ∧ KidsAt w w' v ks) := by
  intro w3 hc
  refine ⟨hC.trans hc (fun x hx => ?_), ?_⟩
  · simp only [List.mem_cons, List.not_mem_nil, or_false] at hx ⊢
    rcases hx with h | h | h | rfl
    · exact .inl (.inl h)
    · exact .inl (.inr (.inl h))
    · exact .inl (.inr (.inr h))
    · exact .inr hg
  · rcases hK with h | ⟨x, h1, h2, h3, h4⟩
    · exact .inl h
    · refine .inr ⟨x, h1, h2, (hc.block x (lt_of_get h3) (fun hx => ?_)).trans h3, h4⟩
      simp only [List.mem_cons, List.not_mem_nil, or_false] at hx
      rcases hx with h | h | h | h
      · have := hlt gs (by simp); omega
      · have := hlt gw (by simp); omega
      · have := hlt gb (by simp); omega
      · subst h; rw [h2] at hgk; exact hgk rfl
set_option maxRecDepth 100000 in
seal rn rnN rnS Goes ans atEnd put0 putM opened putA0 putA oneSt st0 in
theorem fit_any {n₀ gs gw : Nat} {sz want : Int} {rest : List Int} {O : List Nat} {w : World} (hJ : FsJ n₀ gs gw (sz, want :: rest) O w) (hok : fitOk (sz, want :: rest)) (d op k : Int) (t : List UInt8) (kids : List Co) (a : Option Addr) (cc : Nat) (ht : t.length ≤ 9223372036854775807) (hn : n₀ ≤ w.heap.size) :
    Calls Try.prog 44 #[.int .i64 d, cv op k t (.slice a kids.length cc), .pointer (some ⟨gs, 0, none⟩), .pointer (some ⟨gw, 0, none⟩)] w (WPost (fun _ => FsJ n₀ gs gw) O w (fitF (sz, want :: rest) d (.mk op k t kids))) := by
  obtain ⟨gb, cap, cur, rfl, hnd, hlow, hs, hw, hb, hcap, hcs, hcur⟩ := hJ
  obtain ⟨N, hN⟩ : ∃ N, kids.length = N := ⟨_, rfl⟩
  obtain ⟨r, hr⟩ : ∃ r, rest.length = r := ⟨_, rfl⟩
  simp only [List.length_cons, hr] at hs hw hcap hcur
  obtain ⟨S, hS⟩ : ∃ S, IntKind.i64.wrap (sz + 1) = S := ⟨_, rfl⟩
  have hrb : r ≤ 4000 := by have := hok.2.2.2; have := hok.2.2.1; simp [hr] at *; omega
  have hcell : cur[r]? = some (.int .i64 want) := by
    have h1 : (cur.toList.take (r + 1))[r]? = some (.int .i64 want) := by
      rw [hcur, List.reverse_cons, List.map_append, List.getElem?_append_right (by simp [hr])]
      simp [hr]
    rw [List.getElem?_take_of_lt (by omega)] at h1
    simpa using h1
  rw [hN]
  refine Goes.begin Try.func44 [(gs, .cells #[.int .i64 sz] 3 (0, 0)), (gw, .cells #[.slice (some ⟨gb, 0, none⟩) (r + 1) cap] 50 (0, 0)), (gb, .cells cur 3 (0, 0))] (fun _ => True) (fun j b o h => by match j, h with | 0, h => (cases h; exact hs) | 1, h => (cases h; exact hw) | 2, h => (cases h; exact hb)) hnd (fun _ _ => trivial) ?_
  refine Goes.run1 [0, 0, 1] [] trivial fun g => ?_
  refine Goes.slot 7 (.int .i64 r) (u := .int .i64 (IntKind.i64.wrap (((r + 1 : Nat) : Int) - 1))) (congrArg _ (by rw [IntWalk.i64_in _ ⟨by omega, by omega⟩]; omega)) ?_
  refine Goes.open [1, 2, 3] ?_
  refine Goes.run [0, 1, 2, 2, 0, 3] [] trivial ?_
  refine Goes.valA 4 (Instr.indexAt 50 (.slice (some ⟨gb, 0, none⟩) (r + 1) cap) (.int .i64 r)) (.pointer (some ⟨gb, r, none⟩)) (fun w' _ => idxI gb (r + 1) cap r (by omega) w') ?_
  refine Goes.valA 5 (Instr.loadAt 3 (.pointer (some ⟨gb, r, none⟩))) (.int .i64 want) (fun w' h => load1 Try.isAgg3 (by have h1 := h.get 1 (b := gb) (o := .cells cur 3 (0, 0)); unfold World.cell?; rw [h1]; simp [hcell])) ?_
  have hlt3 : ∀ x ∈ [gs, gw, gb], x < w.heap.size := by
    intro x hx
    simp only [List.mem_cons, List.not_mem_nil, or_false] at hx
    rcases hx with rfl | rfl | rfl
    · exact lt_of_get hs
    · exact lt_of_get hw
    · exact lt_of_get hb
  have hgk : ∀ (w1 w2 : World) (g : Nat) {v : Value} {ks : List Int}, g < w1.heap.size → KidsAt w1 w2 v ks → v.ownBlock ≠ some g := by
    intro w1 w2 g v ks h hK e
    rcases hK with ⟨rfl, -⟩ | ⟨x, h1, rfl, -⟩
    · cases e
    · simp only [Value.ownBlock, Option.some.injEq] at e; omega
  have no : ∀ w' : World, w'.heap[gs]? = some (.cells #[.int .i64 (IntKind.i64.wrap (sz + 1))] 3 (0, 0)) → w'.heap[gw]? = some (.cells #[.slice (some ⟨gb, 0, none⟩) (r + 1) cap] 50 (0, 0)) → w'.heap[gb]? = some (.cells cur 3 (0, 0)) → Ch [gs, gw, gb] w w' → fitF (sz, want :: rest) d (.mk op k t kids) = ((IntKind.i64.wrap (sz + 1), want :: rest), false) → WPost (fun _ => FsJ n₀ gs gw) [gs, gw, gb] w (fitF (sz, want :: rest) d (.mk op k t kids)) (.returned (.bool false)) w' := by
    intro w' h0 h1 h2 hc hf
    rw [hf]
    exact ⟨rfl, [gs, gw, gb], ⟨gb, cap, cur, rfl, hnd, hlow, h0, by simpa [hr] using h1, h2, by simpa [hr] using hcap, hcs, by simpa [hr] using hcur⟩, hc, Sub.refl _ _⟩
  cases hk0 : kOf op want with
  | none =>
    refine Goes.callA 6 45 #[.int .i64 op, .int .i64 want] fun ops m0 nn ll kk htodo w1 hm1 hn1 hI1 h0 => (kOf_any op want w1).mono fun e w2 hk => ?_
    rw [hk0] at hk
    obtain ⟨v, rfl, hB, hK⟩ := (show Kr _ w1 e w2 from hk)
    have hids : [gs, gw, gb, g].Nodup := Nodup.of_ids hn1
    have hgL : g ∉ [gs, gw, gb] := by simp only [List.nodup_cons, List.mem_cons, List.not_mem_nil, or_false, not_or] at hids ⊢; exact ⟨fun e => hids.1.2.2 e.symm, fun e => hids.2.1.2 e.symm, fun e => hids.2.2.1 e.symm⟩
    have hgw : w.heap.size ≤ g := fresh_of hI1 (g := g) (ids_get (j := 3) (o := cO op k t (.slice a N cc)) (by kernel_rfl)) hgL
    have hK1 : KidsAt w w2 v [] := by
      rcases hK with h | ⟨x, h1, h2⟩
      · exact .inl h
      · exact .inr ⟨x, Nat.le_trans hI1.now.1.size h1, h2⟩
    have hC2 : Ch [gs, gw, gb] w w2 := (show Ch [gs, gw, gb] w w1 from hI1.now.1).trans (L' := []) ⟨hB.os, hB.tape, hB.output, hB.size, fun i hi _ => hB.block i hi⟩ (fun x hx => by cases hx)
    obtain ⟨ka, kc, rfl⟩ := hK1.form
    have hg2 : g < w1.heap.size := lt_of_get (hm1.get 3 (o := cO op k t (.slice a N cc)))
    refine ⟨_, fun w' => Ch [gs, gw, gb] w w' ∧ KidsAt w w' (.slice ka 0 kc) [], [(gs, .cells #[.int .i64 (IntKind.i64.wrap (sz + 1))] 3 (0, 0)), (gw, .cells #[.slice (some ⟨gb, 0, none⟩) (r + 1) cap] 50 (0, 0)), (gb, .cells cur 3 (0, 0)), (g, cO op k t (.slice a N cc))], rfl, fun j b o h => (hB.block b (lt_of_get (h0 j b o h))).trans (h0 j b o h), fun j b o h => by
      match j, h with
      | 0, h => cases h; exact (hB.block gs (lt_of_get (hm1.get 0 (b := gs) (o := .cells #[.int .i64 (IntKind.i64.wrap (sz + 1))] 3 (0, 0))))).trans (hm1.get 0)
      | 1, h => cases h; exact (hB.block gw (lt_of_get (hm1.get 1 (b := gw) (o := .cells #[.slice (some ⟨gb, 0, none⟩) (r + 1) cap] 50 (0, 0))))).trans (hm1.get 1)
      | 2, h => cases h; exact (hB.block gb (lt_of_get (hm1.get 2 (b := gb) (o := .cells cur 3 (0, 0))))).trans (hm1.get 2)
      | 3, h => cases h; exact (hB.block g hg2).trans (hm1.get 3), hids, stay4 hC2 hK1 hgw (hgk w1 w2 g hg2 hK) hlt3, ?_⟩
    refine Goes.run [7, 8, 9, 10, 11] [] trivial ?_
    refine Goes.run [1, 1, 1, 1, 1] [(true, true), (true, true), (true, true), (true, true), (true, true)] ⟨rfl, rfl, rfl, rfl, rfl, trivial⟩ ?_
    exact Goes.ret [] (.bool false) fun w' hm hI => no w' (hm.get 0) (hm.get 1) (hm.get 2) hI.now.1 (by simp only [fitF, hk0])
  | some ks =>
    refine Goes.callA 6 45 #[.int .i64 op, .int .i64 want] fun ops m0 nn ll kk htodo w1 hm1 hn1 hI1 h0 => (kOf_any op want w1).mono fun e w2 hk => ?_
    rw [hk0] at hk
    obtain ⟨v, rfl, hB, hK⟩ := (show Kr _ w1 e w2 from hk)
    have hids : [gs, gw, gb, g].Nodup := Nodup.of_ids hn1
    have hgL : g ∉ [gs, gw, gb] := by simp only [List.nodup_cons, List.mem_cons, List.not_mem_nil, or_false, not_or] at hids ⊢; exact ⟨fun e => hids.1.2.2 e.symm, fun e => hids.2.1.2 e.symm, fun e => hids.2.2.1 e.symm⟩
    have hgw : w.heap.size ≤ g := fresh_of hI1 (g := g) (ids_get (j := 3) (o := cO op k t (.slice a N cc)) (by kernel_rfl)) hgL
    have hK1 : KidsAt w w2 v ks := by
      rcases hK with h | ⟨x, h1, h2⟩
      · exact .inl h
      · exact .inr ⟨x, Nat.le_trans hI1.now.1.size h1, h2⟩
    have hC2 : Ch [gs, gw, gb] w w2 := (show Ch [gs, gw, gb] w w1 from hI1.now.1).trans (L' := []) ⟨hB.os, hB.tape, hB.output, hB.size, fun i hi _ => hB.block i hi⟩ (fun x hx => by cases hx)
    obtain ⟨ka, kc, rfl⟩ := hK1.form
    have hg2 : g < w1.heap.size := lt_of_get (hm1.get 3 (o := cO op k t (.slice a N cc)))
    refine ⟨_, fun w' => Ch [gs, gw, gb] w w' ∧ KidsAt w w' (.slice ka ks.length kc) ks, [(gs, .cells #[.int .i64 (IntKind.i64.wrap (sz + 1))] 3 (0, 0)), (gw, .cells #[.slice (some ⟨gb, 0, none⟩) (r + 1) cap] 50 (0, 0)), (gb, .cells cur 3 (0, 0)), (g, cO op k t (.slice a N cc))], rfl, fun j b o h => (hB.block b (lt_of_get (h0 j b o h))).trans (h0 j b o h), fun j b o h => by
      match j, h with
      | 0, h => cases h; exact (hB.block gs (lt_of_get (hm1.get 0 (b := gs) (o := .cells #[.int .i64 (IntKind.i64.wrap (sz + 1))] 3 (0, 0))))).trans (hm1.get 0)
      | 1, h => cases h; exact (hB.block gw (lt_of_get (hm1.get 1 (b := gw) (o := .cells #[.slice (some ⟨gb, 0, none⟩) (r + 1) cap] 50 (0, 0))))).trans (hm1.get 1)
      | 2, h => cases h; exact (hB.block gb (lt_of_get (hm1.get 2 (b := gb) (o := .cells cur 3 (0, 0))))).trans (hm1.get 2)
      | 3, h => cases h; exact (hB.block g hg2).trans (hm1.get 3), hids, stay4 hC2 hK1 hgw (hgk w1 w2 g hg2 hK) hlt3, ?_⟩
    refine Goes.run [7, 8, 9, 10, 11] [] trivial ?_
    have hfit : fitF (sz, want :: rest) d (.mk op k t kids) = bif ((N : Int) != (ks.length : Int)) || !ownC op k t || decide (IntKind.i64.wrap (sz + 1) > 2000) || decide (d > 200) then ((IntKind.i64.wrap (sz + 1), want :: rest), false) else ((IntKind.i64.wrap (sz + 1), ks ++ rest), true) := by simp only [fitF, hk0, hN]
    obtain ⟨M, hM⟩ : ∃ M, ks.length = M := ⟨_, rfl⟩
    rw [hM] at hfit ⊢
    cases hne : ((N : Int) != (M : Int)) with
    | true =>
      refine Goes.run [0, 3, 1, 1, 1, 1] [(true, true), (true, true), (true, true), ((N : Int) != (M : Int), true), (false, false)] ⟨rfl, rfl, rfl, hne, rfl, trivial⟩ ?_
      exact Goes.ret [] (.bool false) fun w' hm hI => no w' (hm.get 0) (hm.get 1) (hm.get 2) hI.now.1 (by rw [hfit, hne] <;> rfl)
    | false =>
      refine Goes.run [0, 3, 0, 3] [((N : Int) != (M : Int), false), (false, false)] ⟨hne, rfl, trivial⟩ ?_
      refine Goes.call0 46 #[cv op k t (.slice a N cc)] (.bool (ownC op k t)) (fun w' _ _ => ownC_any op k t a N cc w' ht) ?_
      cases hown : ownC op k t with
      | false =>
        refine Goes.run [1, 1, 1] [(true, true), (true, true), (true, true)] ⟨rfl, rfl, rfl, trivial⟩ ?_
        exact Goes.ret [] (.bool false) fun w' hm hI => no w' (hm.get 0) (hm.get 1) (hm.get 2) hI.now.1 (by rw [hfit, hne, hown] <;> rfl)
      | true =>
        cases hbig : decide (IntKind.i64.wrap (sz + 1) > 2000) with
        | true =>
          refine Goes.run [0, 0, 1, 1] [(true, true), (decide (IntKind.i64.wrap (sz + 1) > 2000), true), (false, false)] ⟨rfl, hbig, rfl, trivial⟩ ?_
          exact Goes.ret [] (.bool false) fun w' hm hI => no w' (hm.get 0) (hm.get 1) (hm.get 2) hI.now.1 (by rw [hfit, hne, hown, hbig] <;> rfl)
        | false =>
          cases hdeep : decide (d > 200) with
          | true =>
            refine Goes.run [0, 0, 0, 1] [(decide (d > 200), true), (decide (IntKind.i64.wrap (sz + 1) > 2000), false), (false, false)] ⟨hdeep, hbig, rfl, trivial⟩ ?_
            exact Goes.ret [] (.bool false) fun w' hm hI => no w' (hm.get 0) (hm.get 1) (hm.get 2) hI.now.1 (by rw [hfit, hne, hown, hbig, hdeep] <;> rfl)
          | false =>
            refine Goes.run [0, 0, 0, 0] [(decide (d > 200), false), (decide (IntKind.i64.wrap (sz + 1) > 2000), false), (false, false)] ⟨hdeep, hbig, rfl, trivial⟩ ?_
            have hyes : fitF (sz, want :: rest) d (.mk op k t kids) = ((IntKind.i64.wrap (sz + 1), ks ++ rest), true) := by rw [hfit, hne, hown, hbig, hdeep] <;> rfl
            rw [hyes]
            have hcutr : cur.toList.take r = rest.reverse.map (Value.int .i64) := by
              have h1 : (cur.toList.take (r + 1)).take r = ((want :: rest).reverse.map (Value.int .i64)).take r := by rw [hcur]
              rw [List.take_take, Nat.min_eq_left (by omega), List.reverse_cons, List.map_append, List.take_append_of_le_length (by simp [hr])] at h1
              rw [h1, List.take_of_length_le (by simp [hr])]
            rcases hK1 with ⟨hv, hks⟩ | ⟨gk, hk1, hv, hk2, hpos, hk3⟩
            · subst hks
              simp only [List.length_nil, Value.slice.injEq] at hv hM
              obtain ⟨rfl, -, rfl⟩ := hv
              subst hM
              refine Goes.call0 47 #[.slice none 0 0] (.tuple #[]) (fun w' _ _ => (Try.slices_Reverse_int_empty none 0 w').mono fun e w'' ⟨h1, h2⟩ => ⟨h1, h2 ▸ Below.refl _ _⟩) ?_
              refine Goes.run [1] [] trivial ?_
              refine Goes.val (Instr.sliceAt 50 (.slice (some ⟨gb, 0, none⟩) (r + 1) cap) none (some (.int .i64 r)) none) (.slice (some ⟨gb, 0, none⟩) r cap) (fun w' _ _ => cutI gb (r + 1) cap r (by omega) hcap.1 w') ?_
              refine Goes.run [] [] trivial ?_
              refine Goes.val (Builtin.append_ #[50, 50] 50 #[.slice (some ⟨gb, 0, none⟩) r cap, .slice none 0 0]) (.slice (some ⟨gb, 0, none⟩) r cap) (fun w' _ _ => appNil gb r cap _ (by omega) w') ?_
              refine Goes.run [1] [] trivial ?_
              exact Goes.ret [] (.bool true) fun w' hm hI => ⟨rfl, [gs, gw, gb], ⟨gb, cap, cur, rfl, hnd, hlow, hm.get 0, (hm.get 1 (b := gw) (o := .cells #[.slice (some ⟨gb, 0, none⟩) r cap] 50 (0, 0))).trans (by simp [hr]), hm.get 2, by simp [hr]; omega, hcs, by simpa [hr] using hcutr⟩, hI.now.1, Sub.refl _ _⟩
            · rw [hM] at hv hpos hk3
              simp only [Value.slice.injEq] at hv
              obtain ⟨rfl, -, hkc⟩ := hv
              have hkc := hkc.symm
              subst hkc
              refine Goes.swap [(gs, .cells #[.int .i64 (IntKind.i64.wrap (sz + 1))] 3 (0, 0)), (gw, .cells #[.slice (some ⟨gb, 0, none⟩) (r + 1) cap] 50 (0, 0)), (gb, .cells cur 3 (0, 0)), (gk, .cells (ks.map (Value.int .i64)).toArray 3 (0, 0))] (fun w' => Ch [gs, gw, gb] w w') (fun w' hm _ hI => ⟨?_, ?_, ?_⟩) ?_
              · have hkk : w'.heap[gk]? = some (.cells (ks.map (Value.int .i64)).toArray 3 (0, 0)) := by
                  rcases hI.now.2 with ⟨h, -⟩ | ⟨x, _, h, h2, _⟩
                  · cases h
                  · cases h; exact h2
                intro j b o h
                match j, h with
                | 0, h => cases h; exact hm.get 0
                | 1, h => cases h; exact hm.get 1
                | 2, h => cases h; exact hm.get 2
                | 3, h => cases h; exact hkk
              · have h1 := hlt3 gs (by simp)
                have h2 := hlt3 gw (by simp)
                have h3 := hlt3 gb (by simp)
                show [gs, gw, gb, gk].Nodup
                simp only [List.nodup_cons, List.mem_cons, List.not_mem_nil, or_false, not_or] at hnd ⊢
                refine ⟨⟨hnd.1.1, hnd.1.2, by omega⟩, ⟨hnd.2.1, by omega⟩, by omega, by simp⟩
              · intro w3 hc
                refine hI.now.1.trans hc fun x hx => ?_
                simp only [Mem.ids, List.map_cons, List.map_nil, List.mem_cons, List.not_mem_nil, or_false] at hx ⊢
                rcases hx with h | h | h | rfl
                · exact .inl (.inl h)
                · exact .inl (.inr (.inl h))
                · exact .inl (.inr (.inr h))
                · exact .inr hk1
              refine Goes.call2 3 gk 47 #[.slice (some ⟨gk, 0, none⟩) M M] (.tuple #[]) (.cells (ks.reverse.map (Value.int .i64)).toArray 3 (0, 0)) (fun w' hm _ => by have := rev_any (w := w') (g := gk) (ks := ks) M (hm.get 3) (by omega); rwa [hM] at this) ?_
              refine Goes.run [1] [] trivial ?_
              refine Goes.val (Instr.sliceAt 50 (.slice (some ⟨gb, 0, none⟩) (r + 1) cap) none (some (.int .i64 r)) none) (.slice (some ⟨gb, 0, none⟩) r cap) (fun w' _ _ => cutI gb (r + 1) cap r (by omega) hcap.1 w') ?_
              refine Goes.run [] [] trivial ?_
              refine Goes.eff (Builtin.append_ #[50, 50] 50 #[.slice (some ⟨gb, 0, none⟩) r cap, .slice (some ⟨gk, 0, none⟩) M M]) fun w5 hm5 hn5 hI5 => ?_
              have hown0 : w5.ownsRow n₀ 3 1 (.slice (some ⟨gb, 0, none⟩) r cap) r (rest.reverse.map (Value.int .i64)) := ⟨by simp [hr], .inr ⟨gb, cap, cur, rfl, hlow gb (by simp), hm5.get 2, by omega, hcap.2.2, by omega, by simpa using hcutr⟩⟩
              obtain ⟨a', c', w6, hrun, hown', hgr, hob⟩ := append_core (P := Try.prog) (t := 50) (ty := 50) (c := M) (m := M) (j := 3) (bytes := 8) (z := (0, 0)) (et := 3) (news := ks.reverse.map (Value.int .i64)) hm5 hown0 (Nat.le_trans hn hI5.now.size) (by simp [hM]) (fun u hu => by obtain ⟨x, -, rfl⟩ := List.mem_map.1 hu; rfl) hpos (by unfold maxLen; omega) (by omega) (by kernel_rfl) (by kernel_rfl)
              rcases hown'.2 with ⟨e, -⟩ | ⟨g', cap', cur', e, hg'0, hg', hc1, hc2, hc3, hc4⟩
              · exfalso; simp only [Value.slice.injEq] at e; omega
              simp only [Value.slice.injEq] at e
              obtain ⟨rfl, -, hcc⟩ := e
              subst hcc
              have hg6 : g' = gb ∨ g' = w5.heap.size := by simpa [Value.ownBlock] using hob
              have hgb5 : gb < w5.heap.size := lt_of_get (hm5.get 2 (b := gb) (o := .cells cur 3 (0, 0)))
              have hgs5 : gs < w5.heap.size := lt_of_get (hm5.get 0 (b := gs) (o := .cells #[.int .i64 (IntKind.i64.wrap (sz + 1))] 3 (0, 0)))
              have hgw5 : gw < w5.heap.size := lt_of_get (hm5.get 1 (b := gw) (o := .cells #[.slice (some ⟨gb, 0, none⟩) (r + 1) cap] 50 (0, 0)))
              have hnd2 : ¬gs = gw ∧ ¬gs = gb ∧ ¬gw = gb := by simp only [List.nodup_cons, List.mem_cons, List.not_mem_nil, or_false, not_or] at hnd; exact ⟨hnd.1.1, hnd.1.2, hnd.2.1⟩
              have hg's : g' ≠ gs ∧ g' ≠ gw := by rcases hg6 with h | h <;> subst h <;> constructor <;> omega
              have hC6 : Ch [gs, gw, gb] w w6 := hI5.now.trans (L' := [gb]) ⟨hgr.os, hgr.tape, hgr.output, hgr.size, fun i hi hx => hgr.block i hi (fun e => hx (by simp only [Value.ownBlock, Option.some.injEq] at e; simp [e]))⟩ (fun x hx => .inl (by simp only [List.mem_singleton] at hx; simp [hx]))
              refine ⟨_, w6, fun w' => Ch [gs, gw, gb] w w' ∧ w'.heap[g']? = some (.cells cur' 3 (0, 0)), [(gs, .cells #[.int .i64 (IntKind.i64.wrap (sz + 1))] 3 (0, 0)), (gw, .cells #[.slice (some ⟨gb, 0, none⟩) (r + 1) cap] 50 (0, 0))], hrun, fun j b o h => ?_, ?_, fun w7 hc => ⟨hC6.trans hc (fun x hx => .inl ?_), (hc.block g' (lt_of_get hg') ?_).trans hg'⟩, ?_⟩
              · match j, h with
                | 0, h => cases h; exact (hgr.block gs hgs5 (by simp only [Value.ownBlock, ne_eq, Option.some.injEq]; exact hnd2.2.1)).trans (hm5.get 0)
                | 1, h => cases h; exact (hgr.block gw hgw5 (by simp only [Value.ownBlock, ne_eq, Option.some.injEq]; exact hnd2.2.2)).trans (hm5.get 1)
              · simp [Mem.ids, hnd2.1]
              · simp only [Mem.ids, List.map_cons, List.map_nil, List.mem_cons, List.not_mem_nil, or_false] at hx ⊢
                rcases hx with h | h
                · exact .inl h
                · exact .inr (.inl h)
              · simp only [Mem.ids, List.map_cons, List.map_nil, List.mem_cons, List.not_mem_nil, or_false, not_or]
                exact hg's
              refine Goes.run [1] [] trivial ?_
              exact Goes.ret [] (.bool true) fun w' hm hI => by
                refine ⟨rfl, [gs, gw, g'], ⟨g', c', cur', rfl, ?_, ?_, hm.get 0, (hm.get 1 (b := gw) (o := .cells #[.slice (some ⟨g', 0, none⟩) (r + M) c'] 50 (0, 0))).trans ?_, hI.now.2, ?_, by omega, ?_⟩, hI.now.1, ?_⟩
                · simp only [List.nodup_cons, List.mem_cons, List.not_mem_nil, or_false, not_or]
                  exact ⟨⟨hnd2.1, fun e => hg's.1 e.symm⟩, fun e => hg's.2 e.symm, by simp, by simp⟩
                · intro x hx
                  simp only [List.mem_cons, List.not_mem_nil, or_false] at hx
                  rcases hx with rfl | rfl | rfl
                  · exact hlow _ (by simp)
                  · exact hlow _ (by simp)
                  · exact hg'0
                · simp only [List.length_append, hM, hr, Nat.add_comm]
                · simp only [List.length_append, hM, hr]; omega
                · have : (ks ++ rest).length = (r + M) * 1 := by simp only [List.length_append, hM, hr]; omega
                  show cur'.toList.take (ks ++ rest).length = _
                  rw [this, hc4]; simp
                · intro x hx
                  simp only [List.mem_cons, List.not_mem_nil, or_false] at hx ⊢
                  rcases hx with h | h | h
                  · exact .inl (.inl h)
                  · exact .inl (.inr (.inl h))
                  · rcases hg6 with h' | h'
                    · exact .inl (.inr (.inr (h.trans h')))
                    · exact .inr (by have := hI5.now.size; omega)
end Go.Proofs.Ytfblnjidghijaaa
