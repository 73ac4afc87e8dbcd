/- The walk through a core's terms, for whatever is done with each. -/
import Derived.Test.YtfblnjidghijaaaCTree
import Derived.Test.YtfblnjidghijaaaEIn
namespace Go.Proofs.Ytfblnjidghijaaa
open Go Go.RowKit

mutual
/-- What a walk does: a term ahead of its kids, until one is left. -/
def walkP {σ : Type} (f : σ → Int → Co → σ × Bool) (s : σ) (d : Int) : Co → σ × Bool
  | .mk op k t kids =>
    match f s d (.mk op k t kids) with
    | (s', false) => (s', false)
    | (s', true) => walkK f s' (IntKind.i64.wrap (d + 1)) kids
def walkK {σ : Type} (f : σ → Int → Co → σ × Bool) (s : σ) (d : Int) : List Co → σ × Bool
  | [] => (s, true)
  | c :: r =>
    match walkP f s d c with
    | (s', false) => (s', false)
    | (s', true) => walkK f s' d r
end
mutual
/-- What is asked of the state holds at each term that is gone to. -/
def safeP {σ : Type} (f : σ → Int → Co → σ × Bool) (ok : σ → Prop) (s : σ) (d : Int) : Co → Prop
  | .mk op k t kids => ok s ∧
    match f s d (.mk op k t kids) with
    | (_, false) => True
    | (s', true) => safeK f ok s' (IntKind.i64.wrap (d + 1)) kids
def safeK {σ : Type} (f : σ → Int → Co → σ × Bool) (ok : σ → Prop) (s : σ) (d : Int) : List Co → Prop
  | [] => True
  | c :: r => safeP f ok s d c ∧
    match walkP f s d c with
    | (_, false) => True
    | (s', true) => safeK f ok s' d r
end
/-- Blocks of O' are of O, or new. -/
def Sub (w : World) (O O' : List Nat) : Prop := ∀ x ∈ O', x ∈ O ∨ w.heap.size ≤ x
theorem Sub.refl (w : World) (O : List Nat) : Sub w O O := fun _ h => .inl h
theorem Sub.trans {w w' : World} {O O' O'' : List Nat} (h : Sub w O O') (h' : Sub w' O' O'') (hs : w.heap.size ≤ w'.heap.size) : Sub w O O'' := fun x hx => by
  rcases h' x hx with e | e
  · exact h x e
  · exact .inr (Nat.le_trans hs e)
/-- A yield, with a state s of its own in the blocks O: f says what it does. -/
structure Yl {σ : Type} (n₀ l : Nat) (f : σ → Int → Co → σ × Bool) (ok : σ → Prop) (J : Bool → σ → List Nat → World → Prop) : Prop where
  stay : ∀ b s O w w', J b s O w → (∀ x ∈ O, w'.heap[x]? = w.heap[x]?) → J b s O w'
  low : ∀ b s O w, J b s O w → ∀ x ∈ O, n₀ ≤ x ∧ x < w.heap.size
  yield : ∀ s O w d v c, ok s → J true s O w → Nc n₀ w v c → n₀ ≤ w.heap.size → YieldAt Fence.wide 0 Try.prog l #[.int .i64 d, v] w fun e w' => e = .returned (.bool (f s d c).2) ∧ ∃ O', J (f s d c).2 (f s d c).1 O' w' ∧ Ch O w w' ∧ Sub w O O'
theorem Ch.low {O : List Nat} {w w' : World} {n : Nat} (h : Ch O w w') (hO : ∀ x ∈ O, n ≤ x) (hn : n ≤ w.heap.size) : Below n w w' :=
  ⟨h.os, h.tape, h.output, h.size, fun i hi => h.block i (by omega) (fun hx => by have := hO i hx; omega)⟩
/-- What a walk leaves. -/
def WPost {σ : Type} (J : Bool → σ → List Nat → World → Prop) (O : List Nat) (w : World) (r : σ × Bool) (e : Ending) (w' : World) : Prop := e = .returned (.bool r.2) ∧ ∃ O', J r.2 r.1 O' w' ∧ Ch O w w' ∧ Sub w O O'
def cO (op k : Int) (t : List UInt8) (v : Value) : Obj := .cells #[.int .i64 op, .int .i64 k, strV t, v] 24 (0, 0)
/-- What holds while a walk is under way. -/
def WInv {σ : Type} (J : Bool → σ → List Nat → World → Prop) (O : List Nat) (w : World) (g : Nat) (s : σ) (w' : World) : Prop := Ch O w w' ∧ ∃ O', J true s O' w' ∧ Sub w O O' ∧ g ∉ O'
theorem WInv.stay {σ : Type} {n₀ l : Nat} {f : σ → Int → Co → σ × Bool} {ok : σ → Prop} {J : Bool → σ → List Nat → World → Prop} (Y : Yl n₀ l f ok J) {O : List Nat} {w w' : World} {g : Nat} {s : σ} (h : WInv J O w g s w') (hg : w.heap.size ≤ g) : Stay [g] w' (WInv J O w g s) := by
  intro w2 hc
  obtain ⟨h1, O', h2, h3, h4⟩ := h
  refine ⟨h1.trans hc (fun x hx => by rw [List.mem_singleton] at hx; exact .inr (hx ▸ hg)), O', Y.stay _ _ _ _ _ h2 (fun x hx => ?_), h3, h4⟩
  exact hc.block x (Y.low _ _ _ _ h2 x hx).2 (fun hm => h4 (by rw [List.mem_singleton] at hm; exact hm ▸ hx))
set_option maxRecDepth 100000 in
seal rn rnN Goes ans atEnd put0 putM opened putA0 oneSt st0 orT orG in
theorem walk_any {σ : Type} {n₀ l : Nat} {f : σ → Int → Co → σ × Bool} {ok : σ → Prop} {J : Bool → σ → List Nat → World → Prop} (Y : Yl n₀ l f ok J) (c : Co) : ∀ (v : Value) (w : World) (s : σ) (O : List Nat) (d : Int), safeP f ok s d c → J true s O w → Nc n₀ w v c → n₀ ≤ w.heap.size →
    Calls Try.prog 49 #[v, .int .i64 d, .func (.yield l) #[] #[]] w (WPost J O w (walkP f s d c)) := by
  induction c using Co.ind with
  | h op k t kids ih =>
    intro v w s O d hsafe hJ hN hn
    unfold safeP at hsafe
    obtain ⟨hok, hsafe⟩ := hsafe
    have hNw := hN
    obtain ⟨a, cc, rfl, hfit, hcap, hkids⟩ := hN.open
    obtain ⟨N, hL⟩ : ∃ N, kids.length = N := ⟨_, rfl⟩
    rw [hL] at hNw hcap ⊢
    refine Goes.enter Try.func49 [] (fun w' => Ch [] w w' ∧ J true s O w') (fun j b o h => by cases h) (by simp [Mem.ids]) (fun w' hc => ⟨hc, Y.stay _ _ _ _ _ hJ (fun x hx => hc.block x (Y.low _ _ _ _ hJ x hx).2 (by simp [Mem.ids]))⟩) ?_
    refine Goes.runN1 bp_noP 7 [] [] trivial fun g => ?_
    refine Goes.reg fun w1 hm hn1 hI => ?_
    have hg : w.heap.size ≤ g := fresh_of hI (g := g) (ids_get (j := 0) (o := cO op k t (.slice a N cc)) (by kernel_rfl)) (by simp)
    have hgO : g ∉ O := fun h => by have := (Y.low _ _ _ _ hJ g h).2; omega
    have hB1 : Below n₀ w w1 := hI.now.1.low (fun x hx => by cases hx) hn
    refine wi_runs [(0, 0), (1, 0), (2, 0)] (rest := [3, 4]) hm hn1 fun w2 m2 n2 c2 s2 d2 => ?_
    obtain rfl := d2 (by kernel_rfl)
    refine wi_yield (l := l) (args := #[.int .i64 d, cv op k t (.slice a N cc)]) (d := some 12) (by kernel_rfl) ?_
    obtain ⟨fn, tmps, asg, body, hy, hR⟩ := Y.yield s O w2 d _ _ hok hI.now.2 (hNw.later hB1) (Nat.le_trans hn hB1.size)
    cases hfs : f s d (.mk op k t kids) with
    | mk s' b =>
    rw [hfs] at hR hsafe
    refine ⟨fn, tmps, asg, body, hy, hR.mono fun e w3 ⟨he, O', hJ', hC, hS⟩ => ⟨_, he, ?_⟩⟩
    have hgw : g < w2.heap.size := lt_of_get (hm.get 0 (o := cO op k t (.slice a N cc)))
    have hg3 : w3.heap[g]? = some (cO op k t (.slice a N cc)) := (hC.block g hgw hgO).trans (hm.get 0)
    have hgO' : g ∉ O' := fun h => by rcases hS g h with e | e; exact hgO e; omega
    have hCw : Ch O w w3 := (hI.now.1.mono (fun x hx => by cases hx)).trans hC (fun x hx => .inl hx)
    have hSw : Sub w O O' := fun x hx => by
      rcases hS x hx with e | e
      · exact .inl e
      · exact .inr (Nat.le_trans hI.now.1.size e)
    refine wi_runs (m := [(g, cO op k t (.slice a N cc))]) [(4, 0)] (rest := []) (fun j b o h => by match j, h with | 0, h => cases h; exact hg3) (by simp [Mem.ids]) fun w4 m4 n4 c4 s4 d4 => ?_
    obtain rfl := d4 (by kernel_rfl)
    cases b with
    | false =>
      refine wi_end (fun w' => Ch O w w' ∧ ∃ O', J false s' O' w' ∧ Sub w O O') [] Holds.nil (by simp [Mem.ids]) (fun w' hc => ⟨hCw.trans hc (fun x hx => by cases hx), O', Y.stay _ _ _ _ _ hJ' (fun x hx => hc.block x (Y.low _ _ _ _ hJ' x hx).2 (by simp [Mem.ids])), hSw⟩) ?_
      refine Goes.run [1] [(true, true)] ⟨rfl, trivial⟩ ?_
      exact Goes.ret [] (.bool false) fun w' hm hI => by
        obtain ⟨h1, O2, h2, h3⟩ := hI.now
        unfold WPost
        rw [walkP, hfs]
        exact ⟨rfl, O2, h2, h1, h3⟩
    | true =>
      refine wi_end (WInv J O w g s') [(g, cO op k t (.slice a N cc))] (fun j b o h => by match j, h with | 0, h => cases h; exact hg3) (by simp [Mem.ids]) (WInv.stay Y ⟨hCw, O', hJ', hSw, hgO'⟩ hg) ?_
      refine Goes.run [0, 0] [(false, false)] ⟨rfl, trivial⟩ ?_
      obtain ⟨D, hD⟩ : ∃ D, IntKind.i64.wrap (d + 1) = D := ⟨_, rfl⟩
      have hW : walkP f s d (.mk op k t kids) = walkK f s' D kids := by rw [walkP, hfs, hD]
      rw [hW]
      rw [hD] at hsafe
      refine Goes.loop (α := Nat × σ) 28 (fun q => [(1, .int .i64 d), (2, .func (.yield l) #[] #[]), (3, .pointer (some ⟨g, 0, none⟩)), (15, .slice a N cc), (16, .int .i64 N), (17, .int .i64 q.1)]) (fun _ => [(g, cO op k t (.slice a N cc))]) (fun q => WInv J O w g q.2)
        (fun q => q.1 ≤ N ∧ walkK f s' D kids = walkK f q.2 D (kids.drop q.1) ∧ safeK f ok q.2 D (kids.drop q.1)) (fun q => N - q.1) (0, s') ⟨Nat.zero_le _, rfl, hsafe⟩ (fun w' h => h) ?_
      rintro ⟨i, s1⟩ J1 ⟨hi, hrest, hsf⟩ back
      simp only at hi hrest hsf back ⊢
      cases hlt : decide ((i : Int) < (N : Int)) with
      | false =>
        obtain rfl : i = N := by have := of_decide_eq_false hlt; omega
        refine Goes.run [0, 0] [(decide ((i : Int) < (i : Int)), false)] ⟨hlt, trivial⟩ ?_
        exact Goes.ret [] (.bool true) fun w' hm hI => by
          obtain ⟨h1, O2, h2, h3, _⟩ := hI.now
          unfold WPost
          rw [hrest, List.drop_of_length_le (by omega), walkK]
          exact ⟨rfl, O2, h2, h1, h3⟩
      | true =>
        have hil : i < N := by have := of_decide_eq_true hlt; omega
        obtain ⟨u, hu⟩ : ∃ u, kids[i]? = some u := ⟨kids[i]'(by omega), by simp⟩
        obtain ⟨b, o, x, rfl, hb, hcl, hx⟩ := hkids i u hu
        obtain ⟨op', k', t', a', N', c', rfl⟩ := hx.cells
        have hdrop : kids.drop i = u :: kids.drop (i + 1) := by
          obtain ⟨h1, h2⟩ := List.getElem?_eq_some_iff.1 hu
          rw [List.drop_eq_getElem_cons h1, h2]
        rw [hdrop] at hsf
        unfold safeK at hsf
        obtain ⟨hsf1, hsf2⟩ := hsf
        have hlow : ∀ w', WInv J O w g s1 w' → Below n₀ w w' := fun w' h => h.1.low (fun x hx => (Y.low _ _ _ _ hJ x hx).1) hn
        refine Goes.run [0, 1] [(decide ((i : Int) < (N : Int)), true)] ⟨hlt, trivial⟩ ?_
        refine Goes.val (Instr.indexAt 22 (.slice (some ⟨b, o, none⟩) N cc) (.int .i64 i)) (.pointer (some ⟨b, o + i * 4, none⟩)) (fun w' _ _ => idxC b o N cc i hil w') ?_
        refine Goes.val (Instr.loadAt 24 (.pointer (some ⟨b, o + i * 4, none⟩))) (cv op' k' t' (.slice a' N' c')) (fun w' _ hI => loadC (hcl.below hb (hlow _ hI.now))) ?_
        refine Goes.run1 [1, 1] [] trivial fun g8 => ?_
        refine Goes.slot 23 (.int .i64 D) (u := .int .i64 (IntKind.i64.wrap (d + 1))) (congrArg _ hD) ?_
        refine Goes.call 49 #[cv op' k' t' (.slice a' N' c'), .int .i64 D, .func (.yield l) #[] #[]] fun w5 hm5 hn5 hI5 => ?_
        obtain ⟨h1, O2, h2, h3, h4⟩ := hI5.now
        refine (ih u (List.mem_of_getElem? hu) _ w5 s1 O2 D hsf1 h2 (hx.later (hlow _ hI5.now)) (Nat.le_trans hn h1.size)).mono fun e w6 ⟨he, O3, h5, h6, h7⟩ => ?_
        have hgw5 : g < w5.heap.size := lt_of_get (hm5.get 0 (o := cO op k t (.slice (some ⟨b, o, none⟩) N cc)))
        have hg6 : w6.heap[g]? = some (cO op k t (.slice (some ⟨b, o, none⟩) N cc)) := (h6.block g hgw5 h4).trans (hm5.get 0)
        have hg3' : g ∉ O3 := fun h => by rcases h7 g h with e | e; exact h4 e; omega
        have hC6 : Ch O w w6 := h1.trans h6 h3
        have hS6 : Sub w O O3 := h3.trans h7 h1.size
        cases hws : walkP f s1 D u with
        | mk s2 b2 =>
        rw [hws] at he h5 hsf2
        cases b2 with
        | false =>
          refine ⟨_, fun w' => Ch O w w' ∧ ∃ O', J false s2 O' w' ∧ Sub w O O', [], he, Holds.nil, by simp [Mem.ids], fun w' hc => ⟨hC6.trans hc (fun x hx => by cases hx), O3, Y.stay _ _ _ _ _ h5 (fun x hx => hc.block x (Y.low _ _ _ _ h5 x hx).2 (by simp [Mem.ids])), hS6⟩, ?_⟩
          refine Goes.run [1] [(true, true)] ⟨rfl, trivial⟩ ?_
          exact Goes.ret [] (.bool false) fun w' hm hI => by
            obtain ⟨h1, O2, h2, h3⟩ := hI.now
            unfold WPost
            rw [hrest, hdrop, walkK, hws]
            exact ⟨rfl, O2, h2, h1, h3⟩
        | true =>
          refine ⟨_, WInv J O w g s2, [(g, cO op k t (.slice (some ⟨b, o, none⟩) N cc))], he, fun j b o h => by match j, h with | 0, h => cases h; exact hg6, by simp [Mem.ids], WInv.stay Y ⟨hC6, O3, h5, hS6, hg3'⟩ hg, ?_⟩
          refine Goes.run [0] [(false, false)] ⟨rfl, trivial⟩ ?_
          refine Goes.slot 17 (.int .i64 (i + 1 : Nat)) (u := .int .i64 (IntKind.i64.wrap ((i : Int) + 1))) (congrArg _ (wrap_nat (by omega))) ?_
          exact back (i + 1, s2) _ ⟨hil, by rw [hrest, hdrop, walkK, hws], hsf2⟩ (by omega) (by kernel_rfl) (by kernel_rfl) (by kernel_rfl)
end Go.Proofs.Ytfblnjidghijaaa
