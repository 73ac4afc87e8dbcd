/- texts put together: CTree CSz CWalk CKids COwn COwn2 CRev CFit CTerms CIsOf CPure CType CAsk CAsk2 CQ -/
import Derived.Test.YthnojedlndblbaaGreatDoorNGa
import Derived.Test.YthnojedlndblbaaGreatDoorNGb
import Derived.Test.YthnojedlndblbaaGreatDoorShelf
namespace Go.Proofs.YthnojedlndblbaaGreatDoor
open Go Go.RowKit

inductive Co where
  | mk (op k : Int) (s : List UInt8) (kids : List Co)
theorem Co.lt_of_mem {op k : Int} {s : List UInt8} {kids : List Co} {t : Co} (h : t ∈ kids) : SizeOf.sizeOf t < SizeOf.sizeOf (Co.mk op k s kids) := by
  have := List.sizeOf_lt_of_mem h
  simp only [Co.mk.sizeOf_spec]
  omega
theorem Co.ind {P : Co → Prop} (h : ∀ op k s kids, (∀ t ∈ kids, P t) → P (.mk op k s kids)) (t : Co) : P t :=
  match t with
  | .mk op k s kids => h op k s kids (fun t _ => Co.ind h t)
termination_by SizeOf.sizeOf t
decreasing_by exact Co.lt_of_mem (by assumption)
/-- A term as a value. -/
def cv (op k : Int) (s : List UInt8) (v : Value) : Value := .agg #[.int .i64 op, .int .i64 k, strV s, v]
/-- The term v lies there. -/
def Cl4 (w : World) (b o : Nat) (v : Value) : Prop := ∃ op k s u, v = cv op k s u ∧ w.cell? ⟨b, o, none⟩ = some (.int .i64 op) ∧ w.cell? ⟨b, o + 1, none⟩ = some (.int .i64 k) ∧ w.cell? ⟨b, o + 2, none⟩ = some (strV s) ∧ w.cell? ⟨b, o + 3, none⟩ = some u
theorem Cl4.below {n : Nat} {w w' : World} {b o : Nat} {v : Value} (h : Cl4 w b o v) (hb : b < n) (hB : Below n w w') : Cl4 w' b o v := by
  obtain ⟨op, k, s, u, e, h0, h1, h2, h3⟩ := h
  exact ⟨op, k, s, u, e, (hB.cell (p := ⟨b, o, none⟩) hb).trans h0, (hB.cell (p := ⟨b, o + 1, none⟩) hb).trans h1, (hB.cell (p := ⟨b, o + 2, none⟩) hb).trans h2, (hB.cell (p := ⟨b, o + 3, none⟩) hb).trans h3⟩
/-- What a term's own numbers and text may be. -/
structure Fits (op k : Int) (s : List UInt8) : Prop where
  op : -9223372036854775808 ≤ op ∧ op ≤ 9223372036854775807
  k : -9223372036854775808 ≤ k ∧ k ≤ 9223372036854775807
  s : s.length ≤ 9223372036854775807
/-- The value v is the term c, all the way down, in blocks below n. -/
inductive Nc (n : Nat) (w : World) : Value → Co → Prop
  | mk (op k : Int) (s : List UInt8) (kids : List Co) (a : Option Addr) (c : Nat) (vs : Nat → Value) (hf : Fits op k s) (hl : kids.length ≤ c ∧ c ≤ 9223372036854775807)
      (hc : ∀ i, i < kids.length → ∃ b o, a = some ⟨b, o, none⟩ ∧ b < n ∧ Cl4 w b (o + i * 4) (vs i)) (hk : ∀ i t, kids[i]? = some t → Nc n w (vs i) t) : Nc n w (cv op k s (.slice a kids.length c)) (.mk op k s kids)
theorem Nc.later {n : Nat} {w w' : World} {v : Value} {t : Co} (h : Nc n w v t) (hB : Below n w w') : Nc n w' v t := by
  induction h with
  | mk op k s kids a c vs hf hl hc hk ih =>
    refine .mk op k s kids a c vs hf hl (fun i hi => ?_) (fun i t ht => ih i t ht)
    obtain ⟨b, o, e, hb, h⟩ := hc i hi
    exact ⟨b, o, e, hb, h.below hb hB⟩
theorem Nc.more {n n' : Nat} {w : World} {v : Value} {t : Co} (h : Nc n w v t) (hn : n ≤ n') : Nc n' w v t := by
  induction h with
  | mk op k s kids a c vs hf hl hc hk ih =>
    refine .mk op k s kids a c vs hf hl (fun i hi => ?_) (fun i t ht => ih i t ht)
    obtain ⟨b, o, e, hb, h⟩ := hc i hi
    exact ⟨b, o, e, by omega, h⟩
theorem Nc.open {n : Nat} {w : World} {v : Value} {op k : Int} {s : List UInt8} {kids : List Co} (h : Nc n w v (.mk op k s kids)) : ∃ a c, v = cv op k s (.slice a kids.length c) ∧ Fits op k s ∧ (kids.length ≤ c ∧ c ≤ 9223372036854775807) ∧ ∀ i t, kids[i]? = some t → ∃ b o u, a = some ⟨b, o, none⟩ ∧ b < n ∧ Cl4 w b (o + i * 4) u ∧ Nc n w u t := by
  cases h with
  | mk _ _ _ _ a c vs hf hl hc hk =>
    refine ⟨a, c, rfl, hf, hl, fun i t ht => ?_⟩
    obtain ⟨b, o, e, hb, h⟩ := hc i (List.getElem?_eq_some_iff.1 ht).1
    exact ⟨b, o, vs i, e, hb, h, hk i t ht⟩
theorem Nc.cells {n : Nat} {w : World} {v : Value} {c : Co} (h : Nc n w v c) : ∃ op k s a N cc, v = cv op k s (.slice a N cc) := by
  cases h with
  | mk op k s kids a c vs => exact ⟨_, _, _, _, _, _, rfl⟩
theorem sizeC : (Tryz.prog.info? 24).map (·.size) = some 4 := by kernel_rfl
/-- A term is loaded from where it lies. -/
theorem loadC {w : World} {b o : Nat} {v : Value} (h : Cl4 w b o v) : (Instr.loadAt 24 (.pointer (some ⟨b, o, none⟩))).run Tryz.prog w = .ok v w := by
  obtain ⟨op, k, s, u, rfl, h0, h1, h2, h3⟩ := h
  have hc := run_loadCells_list (P := Tryz.prog) w ⟨b, o, none⟩ [.int .i64 op, .int .i64 k, strV s, u] (fun j x hx => by
    match j, hx with
    | 0, hx => cases hx; rw [add_lit]; exact h0
    | 1, hx => cases hx; rw [add_lit]; exact h1
    | 2, hx => cases hx; rw [add_lit]; exact h2
    | 3, hx => cases hx; rw [add_lit]; exact h3)
  unfold cv
  simp only [Instr.loadAt, Instr.sureAddr, Sem.run_bind, Sem.run_pure, Result.andThen, loadVar, Tryz.isAgg24, run_size sizeC, show 4 = [Value.int .i64 op, .int .i64 k, strV s, u].length from rfl, hc, if_true]
theorem idxC (b o n cap k : Nat) (h : k < n) (w : World) : (Instr.indexAt 22 (.slice (some ⟨b, o, none⟩) n cap) (.int .i64 k)).run Tryz.prog w = .ok (.pointer (some ⟨b, o + k * 4, none⟩)) w := by go_simp
theorem wrap_nat {k : Nat} (h : k + 1 ≤ 9223372036854775807) : IntKind.i64.wrap ((k : Int) + 1) = ((k + 1 : Nat) : Int) := by rw [IntWalk.i64_in _ ⟨by omega, by omega⟩]; omega
theorem Ch.toB {w w' : World} {L : List Nat} (h : Ch L w w') (hL : ∀ x ∈ L, w.heap.size ≤ x) : Below w.heap.size w w' := ⟨h.os, h.tape, h.output, h.size, fun i hi => h.block i hi (fun hm => by have := hL i hm; omega)⟩
theorem bel0 {s : St} {w w' : World} {Q : World → Prop} (hI : Stay s.mem.ids w' (fun w2 => Ch (Mem.ids []) w w2 ∧ Q w2)) : Below w.heap.size w w' := hI.now.1.toB (fun x hx => by cases hx)
theorem Nc.at {w w' : World} {v : Value} {c : Co} (hN : Nc w.heap.size w v c) (hB : Below w.heap.size w w') : Nc w'.heap.size w' v c := (hN.later hB).more hB.size
theorem eqT (x y : Operand) (a b : List UInt8) (hc : (match x, y with | .tmp _, .tmp _ => true | _, _ => false) = true) (w : World) : (do eqGuard .eql 9 x y (strV a) (strV b); binOp .eql 9 (strV a) (strV b) : Sem Value).run Tryz.prog w = .ok (.bool (decide (a = b))) w := by
  have : (eqGuard .eql 9 x y (strV a) (strV b)).run Tryz.prog w = .ok () w := by
    cases x <;> cases y <;> simp at hc
    unfold eqGuard strV; go_simp
  simp only [Sem.run_bind, this, Result.andThen_ok, eqlS a b _ rfl w]
end Go.Proofs.YthnojedlndblbaaGreatDoor
namespace Go.Proofs.YthnojedlndblbaaGreatDoor
open Go

mutual
def szC : Co → Int
  | .mk _ _ _ kids => 1 + szL kids
def szL : List Co → Int
  | [] => 0
  | c :: r => szC c + szL r
end
mutual
theorem szC_pos : ∀ c : Co, 1 ≤ szC c
  | .mk _ _ _ kids => by unfold szC; have := szL_pos kids; omega
theorem szL_pos : ∀ l : List Co, 0 ≤ szL l
  | [] => by unfold szL; omega
  | c :: r => by unfold szL; have := szC_pos c; have := szL_pos r; omega
end
end Go.Proofs.YthnojedlndblbaaGreatDoor
namespace Go.Proofs.YthnojedlndblbaaGreatDoor
open Go Go.RowKit

mutual
/-- What a walk does: a term ahead of its kids, until one is left. -/
def walkP {σ : Type} (f : σ → Int → Co → σ × Bool) (s : σ) (d : Int) : Co → σ × Bool
  | .mk op k t kids =>
    match f s d (.mk op k t kids) with
    | (s', false) => (s', false)
    | (s', true) => walkK f s' (IntKind.i64.wrap (d + 1)) kids
def walkK {σ : Type} (f : σ → Int → Co → σ × Bool) (s : σ) (d : Int) : List Co → σ × Bool
  | [] => (s, true)
  | c :: r =>
    match walkP f s d c with
    | (s', false) => (s', false)
    | (s', true) => walkK f s' d r
end
mutual
/-- What is asked of the state holds at each term that is gone to. -/
def safeP {σ : Type} (f : σ → Int → Co → σ × Bool) (ok : σ → Prop) (s : σ) (d : Int) : Co → Prop
  | .mk op k t kids => ok s ∧
    match f s d (.mk op k t kids) with
    | (_, false) => True
    | (s', true) => safeK f ok s' (IntKind.i64.wrap (d + 1)) kids
def safeK {σ : Type} (f : σ → Int → Co → σ × Bool) (ok : σ → Prop) (s : σ) (d : Int) : List Co → Prop
  | [] => True
  | c :: r => safeP f ok s d c ∧
    match walkP f s d c with
    | (_, false) => True
    | (s', true) => safeK f ok s' d r
end
/-- Blocks of O' are of O, or new. -/
def Sub (w : World) (O O' : List Nat) : Prop := ∀ x ∈ O', x ∈ O ∨ w.heap.size ≤ x
theorem Sub.refl (w : World) (O : List Nat) : Sub w O O := fun _ h => .inl h
theorem Sub.trans {w w' : World} {O O' O'' : List Nat} (h : Sub w O O') (h' : Sub w' O' O'') (hs : w.heap.size ≤ w'.heap.size) : Sub w O O'' := fun x hx => by
  rcases h' x hx with e | e
  · exact h x e
  · exact .inr (Nat.le_trans hs e)
/-- A yield, with a state s of its own in the blocks O: f says what it does. -/
structure Yl {σ : Type} (n₀ l : Nat) (f : σ → Int → Co → σ × Bool) (ok : σ → Prop) (J : Bool → σ → List Nat → World → Prop) : Prop where
  stay : ∀ b s O w w', J b s O w → (∀ x ∈ O, w'.heap[x]? = w.heap[x]?) → J b s O w'
  low : ∀ b s O w, J b s O w → ∀ x ∈ O, n₀ ≤ x ∧ x < w.heap.size
  yield : ∀ s O w d v c, ok s → J true s O w → Nc n₀ w v c → n₀ ≤ w.heap.size → YieldAt Fence.wide 0 Tryz.prog l #[.int .i64 d, v] w fun e w' => e = .returned (.bool (f s d c).2) ∧ ∃ O', J (f s d c).2 (f s d c).1 O' w' ∧ Ch O w w' ∧ Sub w O O'
theorem Ch.low {O : List Nat} {w w' : World} {n : Nat} (h : Ch O w w') (hO : ∀ x ∈ O, n ≤ x) (hn : n ≤ w.heap.size) : Below n w w' :=
  ⟨h.os, h.tape, h.output, h.size, fun i hi => h.block i (by omega) (fun hx => by have := hO i hx; omega)⟩
/-- What a walk leaves. -/
def WPost {σ : Type} (J : Bool → σ → List Nat → World → Prop) (O : List Nat) (w : World) (r : σ × Bool) (e : Ending) (w' : World) : Prop := e = .returned (.bool r.2) ∧ ∃ O', J r.2 r.1 O' w' ∧ Ch O w w' ∧ Sub w O O'
def cO (op k : Int) (t : List UInt8) (v : Value) : Obj := .cells #[.int .i64 op, .int .i64 k, strV t, v] 24 (0, 0)
/-- What holds while a walk is under way. -/
def WInv {σ : Type} (J : Bool → σ → List Nat → World → Prop) (O : List Nat) (w : World) (g : Nat) (s : σ) (w' : World) : Prop := Ch O w w' ∧ ∃ O', J true s O' w' ∧ Sub w O O' ∧ g ∉ O'
theorem WInv.stay {σ : Type} {n₀ l : Nat} {f : σ → Int → Co → σ × Bool} {ok : σ → Prop} {J : Bool → σ → List Nat → World → Prop} (Y : Yl n₀ l f ok J) {O : List Nat} {w w' : World} {g : Nat} {s : σ} (h : WInv J O w g s w') (hg : w.heap.size ≤ g) : Stay [g] w' (WInv J O w g s) := by
  intro w2 hc
  obtain ⟨h1, O', h2, h3, h4⟩ := h
  refine ⟨h1.trans hc (fun x hx => by rw [List.mem_singleton] at hx; exact .inr (hx ▸ hg)), O', Y.stay _ _ _ _ _ h2 (fun x hx => ?_), h3, h4⟩
  exact hc.block x (Y.low _ _ _ _ h2 x hx).2 (fun hm => h4 (by rw [List.mem_singleton] at hm; exact hm ▸ hx))
set_option maxRecDepth 100000 in
seal rn rnN Goes ans atEnd put0 putM opened putA0 oneSt st0 orT orG in
theorem walk_any {σ : Type} {n₀ l : Nat} {f : σ → Int → Co → σ × Bool} {ok : σ → Prop} {J : Bool → σ → List Nat → World → Prop} (Y : Yl n₀ l f ok J) (c : Co) : ∀ (v : Value) (w : World) (s : σ) (O : List Nat) (d : Int), safeP f ok s d c → J true s O w → Nc n₀ w v c → n₀ ≤ w.heap.size →
    Calls Tryz.prog 110 #[v, .int .i64 d, .func (.yield l) #[] #[]] w (WPost J O w (walkP f s d c)) := by
  induction c using Co.ind with
  | h op k t kids ih =>
    intro v w s O d hsafe hJ hN hn
    unfold safeP at hsafe
    obtain ⟨hok, hsafe⟩ := hsafe
    have hNw := hN
    obtain ⟨a, cc, rfl, hfit, hcap, hkids⟩ := hN.open
    obtain ⟨N, hL⟩ : ∃ N, kids.length = N := ⟨_, rfl⟩
    rw [hL] at hNw hcap ⊢
    refine Goes.enter Tryz.func110 [] (fun w' => Ch [] w w' ∧ J true s O w') (fun j b o h => by cases h) (by simp [Mem.ids]) (fun w' hc => ⟨hc, Y.stay _ _ _ _ _ hJ (fun x hx => hc.block x (Y.low _ _ _ _ hJ x hx).2 (by simp [Mem.ids]))⟩) ?_
    refine Goes.runN1 bp_noP 7 [] [] trivial fun g => ?_
    refine Goes.reg fun w1 hm hn1 hI => ?_
    have hg : w.heap.size ≤ g := fresh_of hI (g := g) (ids_get (j := 0) (o := cO op k t (.slice a N cc)) (by kernel_rfl)) (by simp)
    have hgO : g ∉ O := fun h => by have := (Y.low _ _ _ _ hJ g h).2; omega
    have hB1 : Below n₀ w w1 := hI.now.1.low (fun x hx => by cases hx) hn
    refine wi_runs [(0, 0), (1, 0), (2, 0)] (rest := [3, 4]) hm hn1 fun w2 m2 n2 c2 s2 d2 => ?_
    obtain rfl := d2 (by kernel_rfl)
    refine wi_yield (l := l) (args := #[.int .i64 d, cv op k t (.slice a N cc)]) (d := some 12) (by kernel_rfl) ?_
    obtain ⟨fn, tmps, asg, body, hy, hR⟩ := Y.yield s O w2 d _ _ hok hI.now.2 (hNw.later hB1) (Nat.le_trans hn hB1.size)
    cases hfs : f s d (.mk op k t kids) with
    | mk s' b =>
    rw [hfs] at hR hsafe
    refine ⟨fn, tmps, asg, body, hy, hR.mono fun e w3 ⟨he, O', hJ', hC, hS⟩ => ⟨_, he, ?_⟩⟩
    have hgw : g < w2.heap.size := lt_of_get (hm.get 0 (o := cO op k t (.slice a N cc)))
    have hg3 : w3.heap[g]? = some (cO op k t (.slice a N cc)) := (hC.block g hgw hgO).trans (hm.get 0)
    have hgO' : g ∉ O' := fun h => by rcases hS g h with e | e; exact hgO e; omega
    have hCw : Ch O w w3 := (hI.now.1.mono (fun x hx => by cases hx)).trans hC (fun x hx => .inl hx)
    have hSw : Sub w O O' := fun x hx => by
      rcases hS x hx with e | e
      · exact .inl e
      · exact .inr (Nat.le_trans hI.now.1.size e)
    refine wi_runs (m := [(g, cO op k t (.slice a N cc))]) [(4, 0)] (rest := []) (fun j b o h => by match j, h with | 0, h => cases h; exact hg3) (by simp [Mem.ids]) fun w4 m4 n4 c4 s4 d4 => ?_
    obtain rfl := d4 (by kernel_rfl)
    cases b with
    | false =>
      refine wi_end (fun w' => Ch O w w' ∧ ∃ O', J false s' O' w' ∧ Sub w O O') [] Holds.nil (by simp [Mem.ids]) (fun w' hc => ⟨hCw.trans hc (fun x hx => by cases hx), O', Y.stay _ _ _ _ _ hJ' (fun x hx => hc.block x (Y.low _ _ _ _ hJ' x hx).2 (by simp [Mem.ids])), hSw⟩) ?_
      refine Goes.run [1] [(true, true)] ⟨rfl, trivial⟩ ?_
      exact Goes.ret [] (.bool false) fun w' hm hI => by
        obtain ⟨h1, O2, h2, h3⟩ := hI.now
        unfold WPost
        rw [walkP, hfs]
        exact ⟨rfl, O2, h2, h1, h3⟩
    | true =>
      refine wi_end (WInv J O w g s') [(g, cO op k t (.slice a N cc))] (fun j b o h => by match j, h with | 0, h => cases h; exact hg3) (by simp [Mem.ids]) (WInv.stay Y ⟨hCw, O', hJ', hSw, hgO'⟩ hg) ?_
      refine Goes.run [0, 0] [(false, false)] ⟨rfl, trivial⟩ ?_
      obtain ⟨D, hD⟩ : ∃ D, IntKind.i64.wrap (d + 1) = D := ⟨_, rfl⟩
      have hW : walkP f s d (.mk op k t kids) = walkK f s' D kids := by rw [walkP, hfs, hD]
      rw [hW]
      rw [hD] at hsafe
      refine Goes.loop (α := Nat × σ) 28 (fun q => [(1, .int .i64 d), (2, .func (.yield l) #[] #[]), (3, .pointer (some ⟨g, 0, none⟩)), (15, .slice a N cc), (16, .int .i64 N), (17, .int .i64 q.1)]) (fun _ => [(g, cO op k t (.slice a N cc))]) (fun q => WInv J O w g q.2)
        (fun q => q.1 ≤ N ∧ walkK f s' D kids = walkK f q.2 D (kids.drop q.1) ∧ safeK f ok q.2 D (kids.drop q.1)) (fun q => N - q.1) (0, s') ⟨Nat.zero_le _, rfl, hsafe⟩ (fun w' h => h) ?_
      rintro ⟨i, s1⟩ J1 ⟨hi, hrest, hsf⟩ back
      simp only at hi hrest hsf back ⊢
      cases hlt : decide ((i : Int) < (N : Int)) with
      | false =>
        obtain rfl : i = N := by have := of_decide_eq_false hlt; omega
        refine Goes.run [0, 0] [(decide ((i : Int) < (i : Int)), false)] ⟨hlt, trivial⟩ ?_
        exact Goes.ret [] (.bool true) fun w' hm hI => by
          obtain ⟨h1, O2, h2, h3, _⟩ := hI.now
          unfold WPost
          rw [hrest, List.drop_of_length_le (by omega), walkK]
          exact ⟨rfl, O2, h2, h1, h3⟩
      | true =>
        have hil : i < N := by have := of_decide_eq_true hlt; omega
        obtain ⟨u, hu⟩ : ∃ u, kids[i]? = some u := ⟨kids[i]'(by omega), by simp⟩
        obtain ⟨b, o, x, rfl, hb, hcl, hx⟩ := hkids i u hu
        obtain ⟨op', k', t', a', N', c', rfl⟩ := hx.cells
        have hdrop : kids.drop i = u :: kids.drop (i + 1) := by
          obtain ⟨h1, h2⟩ := List.getElem?_eq_some_iff.1 hu
          rw [List.drop_eq_getElem_cons h1, h2]
        rw [hdrop] at hsf
        unfold safeK at hsf
        obtain ⟨hsf1, hsf2⟩ := hsf
        have hlow : ∀ w', WInv J O w g s1 w' → Below n₀ w w' := fun w' h => h.1.low (fun x hx => (Y.low _ _ _ _ hJ x hx).1) hn
        refine Goes.run [0, 1] [(decide ((i : Int) < (N : Int)), true)] ⟨hlt, trivial⟩ ?_
        refine Goes.val (Instr.indexAt 22 (.slice (some ⟨b, o, none⟩) N cc) (.int .i64 i)) (.pointer (some ⟨b, o + i * 4, none⟩)) (fun w' _ _ => idxC b o N cc i hil w') ?_
        refine Goes.val (Instr.loadAt 24 (.pointer (some ⟨b, o + i * 4, none⟩))) (cv op' k' t' (.slice a' N' c')) (fun w' _ hI => loadC (hcl.below hb (hlow _ hI.now))) ?_
        refine Goes.run1 [1, 1] [] trivial fun g8 => ?_
        refine Goes.slot 23 (.int .i64 D) (u := .int .i64 (IntKind.i64.wrap (d + 1))) (congrArg _ hD) ?_
        refine Goes.call 110 #[cv op' k' t' (.slice a' N' c'), .int .i64 D, .func (.yield l) #[] #[]] fun w5 hm5 hn5 hI5 => ?_
        obtain ⟨h1, O2, h2, h3, h4⟩ := hI5.now
        refine (ih u (List.mem_of_getElem? hu) _ w5 s1 O2 D hsf1 h2 (hx.later (hlow _ hI5.now)) (Nat.le_trans hn h1.size)).mono fun e w6 ⟨he, O3, h5, h6, h7⟩ => ?_
        have hgw5 : g < w5.heap.size := lt_of_get (hm5.get 0 (o := cO op k t (.slice (some ⟨b, o, none⟩) N cc)))
        have hg6 : w6.heap[g]? = some (cO op k t (.slice (some ⟨b, o, none⟩) N cc)) := (h6.block g hgw5 h4).trans (hm5.get 0)
        have hg3' : g ∉ O3 := fun h => by rcases h7 g h with e | e; exact h4 e; omega
        have hC6 : Ch O w w6 := h1.trans h6 h3
        have hS6 : Sub w O O3 := h3.trans h7 h1.size
        cases hws : walkP f s1 D u with
        | mk s2 b2 =>
        rw [hws] at he h5 hsf2
        cases b2 with
        | false =>
          refine ⟨_, fun w' => Ch O w w' ∧ ∃ O', J false s2 O' w' ∧ Sub w O O', [], he, Holds.nil, by simp [Mem.ids], fun w' hc => ⟨hC6.trans hc (fun x hx => by cases hx), O3, Y.stay _ _ _ _ _ h5 (fun x hx => hc.block x (Y.low _ _ _ _ h5 x hx).2 (by simp [Mem.ids])), hS6⟩, ?_⟩
          refine Goes.run [1] [(true, true)] ⟨rfl, trivial⟩ ?_
          exact Goes.ret [] (.bool false) fun w' hm hI => by
            obtain ⟨h1, O2, h2, h3⟩ := hI.now
            unfold WPost
            rw [hrest, hdrop, walkK, hws]
            exact ⟨rfl, O2, h2, h1, h3⟩
        | true =>
          refine ⟨_, WInv J O w g s2, [(g, cO op k t (.slice (some ⟨b, o, none⟩) N cc))], he, fun j b o h => by match j, h with | 0, h => cases h; exact hg6, by simp [Mem.ids], WInv.stay Y ⟨hC6, O3, h5, hS6, hg3'⟩ hg, ?_⟩
          refine Goes.run [0] [(false, false)] ⟨rfl, trivial⟩ ?_
          refine Goes.slot 17 (.int .i64 (i + 1 : Nat)) (u := .int .i64 (IntKind.i64.wrap ((i : Int) + 1))) (congrArg _ (wrap_nat (by omega))) ?_
          exact back (i + 1, s2) _ ⟨hil, by rw [hrest, hdrop, walkK, hws], hsf2⟩ (by omega) (by kernel_rfl) (by kernel_rfl) (by kernel_rfl)
end Go.Proofs.YthnojedlndblbaaGreatDoor
namespace Go.Proofs.YthnojedlndblbaaGreatDoor
open Go Go.RowKit

/-- A row of types that was made. -/
def KidsAt (w w' : World) (v : Value) (ks : List Int) : Prop := (v = .slice none 0 0 ∧ ks = []) ∨ ∃ g, w.heap.size ≤ g ∧ v = .slice (some ⟨g, 0, none⟩) ks.length ks.length ∧ w'.heap[g]? = some (.cells (ks.map (Value.int .i64)).toArray 3 (0, 0)) ∧ 0 < ks.length ∧ ks.length ≤ 3
/-- What is answered of an Op's kids. -/
def Kr (r : Option (List Int)) (w : World) (e : Ending) (w' : World) : Prop := ∃ v, e = .returned (.tuple #[v, .bool r.isSome]) ∧ Below w.heap.size w w' ∧ KidsAt w w' v (r.getD [])
theorem Kr.none {r : Option (List Int)} {w w' : World} (h : r = .none) (hB : Below w.heap.size w w') : Kr r w (.returned (.tuple #[.slice .none 0 0, .bool false])) w' := by subst h; exact ⟨_, rfl, hB, .inl ⟨rfl, rfl⟩⟩
theorem Kr.nil {r : Option (List Int)} {w w' : World} (h : r = some []) (hB : Below w.heap.size w w') : Kr r w (.returned (.tuple #[.slice .none 0 0, .bool true])) w' := by subst h; exact ⟨_, rfl, hB, .inl ⟨rfl, rfl⟩⟩
theorem Kr.some {r : Option (List Int)} {w w' : World} {g : Nat} (ks : List Int) (h : r = .some ks) (hB : Below w.heap.size w w') (hg : w.heap.size ≤ g) (hb : w'.heap[g]? = .some (.cells (ks.map (Value.int .i64)).toArray 3 (0, 0))) (h0 : 0 < ks.length) (h3 : ks.length ≤ 3) : Kr r w (.returned (.tuple #[.slice (.some ⟨g, 0, .none⟩) ks.length ks.length, .bool true])) w' := by subst h; exact ⟨_, rfl, hB, .inr ⟨g, hg, rfl, hb, h0, h3⟩⟩
theorem Kr.later {r : Option (List Int)} {w w0 w' : World} {e : Ending} (h : Kr r w0 e w') (hB : Below w.heap.size w w0) : Kr r w e w' := by
  obtain ⟨v, he, hb, hk⟩ := h
  refine ⟨v, he, hB.trans (hb.mono hB.size), ?_⟩
  rcases hk with h | ⟨g, h1, h2⟩
  · exact .inl h
  · exact .inr ⟨g, Nat.le_trans hB.size h1, h2⟩

def kNumber (op : Int) : Option (List Int) :=
  bif op == 1 || op == 4 then some [] else bif op == 6 then some [0] else bif op == 7 || op == 8 || op == 9 || op == 10 then some [0, 0] else bif op == 20 || op == 21 then some [2, 2] else none
set_option maxRecDepth 100000 in
seal rn rnN Goes ans atEnd put0 putM opened putA0 oneSt st0 in
theorem kNumber_any (op : Int) (w : World) : Calls Tryz.prog 129 #[.int .i64 op] w (Kr (kNumber op) w) := by
  refine Goes.begin Tryz.func129 [] (fun _ => True) Holds.nil (by simp [Mem.ids]) (fun _ _ => trivial) ?_
  cases h1 : (op == 1) with
  | true =>
    refine Goes.run [1, 1] [(op == 1, true), (op == 1, true)] ⟨h1, h1, trivial⟩ ?_
    exact Goes.ret [] (.tuple #[.slice none 0 0, .bool true]) fun w' hm hI => Kr.nil (by unfold kNumber; rw [h1] <;> rfl) (below_end (m := []) Holds.nil hI.now.1 hm (by kernel_rfl))
  | false =>
    cases h4 : (op == 4) with
    | true =>
      refine Goes.run [0, 1] [(op == 4, true), (op == 1, false)] ⟨h4, h1, trivial⟩ ?_
      exact Goes.ret [] (.tuple #[.slice none 0 0, .bool true]) fun w' hm hI => Kr.nil (by unfold kNumber; rw [h1, h4] <;> rfl) (below_end (m := []) Holds.nil hI.now.1 hm (by kernel_rfl))
    | false =>
      cases h6 : (op == 6) with
      | true =>
        refine Goes.run1 [0, 0, 1] [(op == 6, true), (op == 4, false), (op == 1, false)] ⟨h6, h4, h1, trivial⟩ fun g => ?_
        exact Goes.ret [] (.tuple #[.slice (some ⟨g, 0, none⟩) 1 1, .bool true]) fun w' hm hI => Kr.some [0] (by unfold kNumber; rw [h1, h4, h6] <;> rfl) (below_end (m := []) Holds.nil hI.now.1 hm (by kernel_rfl)) (fresh_of hI (g := g) (ids_get (j := 0) (o := .cells #[.int .i64 0] 3 (0, 0)) (by kernel_rfl)) (by simp [Mem.ids])) (hm.get 0) (by decide) (by decide)
      | false =>
        cases h7 : (op == 7) with
        | true =>
          refine Goes.run1 [0, 0, 0, 1, 1] [(op == 7, true), (op == 7, true), (op == 6, false), (op == 4, false), (op == 1, false)] ⟨h7, h7, h6, h4, h1, trivial⟩ fun g => ?_
          exact Goes.ret [] (.tuple #[.slice (some ⟨g, 0, none⟩) 2 2, .bool true]) fun w' hm hI => Kr.some [0, 0] (by unfold kNumber; rw [h1, h4, h6, h7] <;> rfl) (below_end (m := []) Holds.nil hI.now.1 hm (by kernel_rfl)) (fresh_of hI (g := g) (ids_get (j := 0) (o := .cells #[.int .i64 0, .int .i64 0] 3 (0, 0)) (by kernel_rfl)) (by simp [Mem.ids])) (hm.get 0) (by decide) (by decide)
        | false =>
          cases h8 : (op == 8) with
          | true =>
            refine Goes.run1 [0, 0, 0, 0, 1, 1] [(op == 8, true), (op == 8, true), (op == 7, false), (op == 6, false), (op == 4, false), (op == 1, false)] ⟨h8, h8, h7, h6, h4, h1, trivial⟩ fun g => ?_
            exact Goes.ret [] (.tuple #[.slice (some ⟨g, 0, none⟩) 2 2, .bool true]) fun w' hm hI => Kr.some [0, 0] (by unfold kNumber; rw [h1, h4, h6, h7, h8] <;> rfl) (below_end (m := []) Holds.nil hI.now.1 hm (by kernel_rfl)) (fresh_of hI (g := g) (ids_get (j := 0) (o := .cells #[.int .i64 0, .int .i64 0] 3 (0, 0)) (by kernel_rfl)) (by simp [Mem.ids])) (hm.get 0) (by decide) (by decide)
          | false =>
            cases h9 : (op == 9) with
            | true =>
              refine Goes.run1 [0, 0, 0, 0, 0, 1, 1] [(op == 9, true), (op == 9, true), (op == 8, false), (op == 7, false), (op == 6, false), (op == 4, false), (op == 1, false)] ⟨h9, h9, h8, h7, h6, h4, h1, trivial⟩ fun g => ?_
              exact Goes.ret [] (.tuple #[.slice (some ⟨g, 0, none⟩) 2 2, .bool true]) fun w' hm hI => Kr.some [0, 0] (by unfold kNumber; rw [h1, h4, h6, h7, h8, h9] <;> rfl) (below_end (m := []) Holds.nil hI.now.1 hm (by kernel_rfl)) (fresh_of hI (g := g) (ids_get (j := 0) (o := .cells #[.int .i64 0, .int .i64 0] 3 (0, 0)) (by kernel_rfl)) (by simp [Mem.ids])) (hm.get 0) (by decide) (by decide)
            | false =>
              cases h10 : (op == 10) with
              | true =>
                refine Goes.run1 [0, 0, 0, 0, 0, 0, 1] [(op == 10, true), (op == 9, false), (op == 8, false), (op == 7, false), (op == 6, false), (op == 4, false), (op == 1, false)] ⟨h10, h9, h8, h7, h6, h4, h1, trivial⟩ fun g => ?_
                exact Goes.ret [] (.tuple #[.slice (some ⟨g, 0, none⟩) 2 2, .bool true]) fun w' hm hI => Kr.some [0, 0] (by unfold kNumber; rw [h1, h4, h6, h7, h8, h9, h10] <;> rfl) (below_end (m := []) Holds.nil hI.now.1 hm (by kernel_rfl)) (fresh_of hI (g := g) (ids_get (j := 0) (o := .cells #[.int .i64 0, .int .i64 0] 3 (0, 0)) (by kernel_rfl)) (by simp [Mem.ids])) (hm.get 0) (by decide) (by decide)
              | false =>
                cases h20 : (op == 20) with
                | true =>
                  refine Goes.run1 [0, 0, 0, 0, 0, 0, 0, 1, 1] [(op == 20, true), (op == 20, true), (op == 10, false), (op == 9, false), (op == 8, false), (op == 7, false), (op == 6, false), (op == 4, false), (op == 1, false)] ⟨h20, h20, h10, h9, h8, h7, h6, h4, h1, trivial⟩ fun g => ?_
                  exact Goes.ret [] (.tuple #[.slice (some ⟨g, 0, none⟩) 2 2, .bool true]) fun w' hm hI => Kr.some [2, 2] (by unfold kNumber; rw [h1, h4, h6, h7, h8, h9, h10, h20] <;> rfl) (below_end (m := []) Holds.nil hI.now.1 hm (by kernel_rfl)) (fresh_of hI (g := g) (ids_get (j := 0) (o := .cells #[.int .i64 2, .int .i64 2] 3 (0, 0)) (by kernel_rfl)) (by simp [Mem.ids])) (hm.get 0) (by decide) (by decide)
                | false =>
                  cases h21 : (op == 21) with
                  | true =>
                    refine Goes.run1 [0, 0, 0, 0, 0, 0, 0, 0, 1] [(op == 21, true), (op == 20, false), (op == 10, false), (op == 9, false), (op == 8, false), (op == 7, false), (op == 6, false), (op == 4, false), (op == 1, false)] ⟨h21, h20, h10, h9, h8, h7, h6, h4, h1, trivial⟩ fun g => ?_
                    exact Goes.ret [] (.tuple #[.slice (some ⟨g, 0, none⟩) 2 2, .bool true]) fun w' hm hI => Kr.some [2, 2] (by unfold kNumber; rw [h1, h4, h6, h7, h8, h9, h10, h20, h21] <;> rfl) (below_end (m := []) Holds.nil hI.now.1 hm (by kernel_rfl)) (fresh_of hI (g := g) (ids_get (j := 0) (o := .cells #[.int .i64 2, .int .i64 2] 3 (0, 0)) (by kernel_rfl)) (by simp [Mem.ids])) (hm.get 0) (by decide) (by decide)
                  | false =>
                    refine Goes.run [0, 0, 0, 0, 0, 0, 0, 0, 0] [(op == 21, false), (op == 20, false), (op == 10, false), (op == 9, false), (op == 8, false), (op == 7, false), (op == 6, false), (op == 4, false), (op == 1, false)] ⟨h21, h20, h10, h9, h8, h7, h6, h4, h1, trivial⟩ ?_
                    exact Goes.ret [] (.tuple #[.slice none 0 0, .bool false]) fun w' hm hI => Kr.none (by unfold kNumber; rw [h1, h4, h6, h7, h8, h9, h10, h20, h21] <;> rfl) (below_end (m := []) Holds.nil hI.now.1 hm (by kernel_rfl))
def kTruth (op : Int) : Option (List Int) :=
  bif op == 2 then some [] else bif op == 11 || op == 12 || op == 13 then some [0, 0] else bif op == 14 then some [1] else bif op == 15 || op == 16 then some [1, 1] else bif op == 17 then some [2, 2] else none
set_option maxRecDepth 100000 in
seal rn rnN Goes ans atEnd put0 putM opened putA0 oneSt st0 in
theorem kTruth_any (op : Int) (w : World) : Calls Tryz.prog 130 #[.int .i64 op] w (Kr (kTruth op) w) := by
  refine Goes.begin Tryz.func130 [] (fun _ => True) Holds.nil (by simp [Mem.ids]) (fun _ _ => trivial) ?_
  cases h2 : (op == 2) with
  | true =>
    refine Goes.run [1] [(op == 2, true)] ⟨h2, trivial⟩ ?_
    exact Goes.ret [] (.tuple #[.slice none 0 0, .bool true]) fun w' hm hI => Kr.nil (by unfold kTruth; rw [h2] <;> rfl) (below_end (m := []) Holds.nil hI.now.1 hm (by kernel_rfl))
  | false =>
    cases h11 : (op == 11) with
    | true =>
      refine Goes.run1 [0, 1, 1] [(op == 11, true), (op == 11, true), (op == 2, false)] ⟨h11, h11, h2, trivial⟩ fun g => ?_
      exact Goes.ret [] (.tuple #[.slice (some ⟨g, 0, none⟩) 2 2, .bool true]) fun w' hm hI => Kr.some [0, 0] (by unfold kTruth; rw [h2, h11] <;> rfl) (below_end (m := []) Holds.nil hI.now.1 hm (by kernel_rfl)) (fresh_of hI (g := g) (ids_get (j := 0) (o := .cells #[.int .i64 0, .int .i64 0] 3 (0, 0)) (by kernel_rfl)) (by simp [Mem.ids])) (hm.get 0) (by decide) (by decide)
    | false =>
      cases h12 : (op == 12) with
      | true =>
        refine Goes.run1 [0, 0, 1, 1] [(op == 12, true), (op == 12, true), (op == 11, false), (op == 2, false)] ⟨h12, h12, h11, h2, trivial⟩ fun g => ?_
        exact Goes.ret [] (.tuple #[.slice (some ⟨g, 0, none⟩) 2 2, .bool true]) fun w' hm hI => Kr.some [0, 0] (by unfold kTruth; rw [h2, h11, h12] <;> rfl) (below_end (m := []) Holds.nil hI.now.1 hm (by kernel_rfl)) (fresh_of hI (g := g) (ids_get (j := 0) (o := .cells #[.int .i64 0, .int .i64 0] 3 (0, 0)) (by kernel_rfl)) (by simp [Mem.ids])) (hm.get 0) (by decide) (by decide)
      | false =>
        cases h13 : (op == 13) with
        | true =>
          refine Goes.run1 [0, 0, 0, 1] [(op == 13, true), (op == 12, false), (op == 11, false), (op == 2, false)] ⟨h13, h12, h11, h2, trivial⟩ fun g => ?_
          exact Goes.ret [] (.tuple #[.slice (some ⟨g, 0, none⟩) 2 2, .bool true]) fun w' hm hI => Kr.some [0, 0] (by unfold kTruth; rw [h2, h11, h12, h13] <;> rfl) (below_end (m := []) Holds.nil hI.now.1 hm (by kernel_rfl)) (fresh_of hI (g := g) (ids_get (j := 0) (o := .cells #[.int .i64 0, .int .i64 0] 3 (0, 0)) (by kernel_rfl)) (by simp [Mem.ids])) (hm.get 0) (by decide) (by decide)
        | false =>
          cases h14 : (op == 14) with
          | true =>
            refine Goes.run1 [0, 0, 0, 0, 1] [(op == 14, true), (op == 13, false), (op == 12, false), (op == 11, false), (op == 2, false)] ⟨h14, h13, h12, h11, h2, trivial⟩ fun g => ?_
            exact Goes.ret [] (.tuple #[.slice (some ⟨g, 0, none⟩) 1 1, .bool true]) fun w' hm hI => Kr.some [1] (by unfold kTruth; rw [h2, h11, h12, h13, h14] <;> rfl) (below_end (m := []) Holds.nil hI.now.1 hm (by kernel_rfl)) (fresh_of hI (g := g) (ids_get (j := 0) (o := .cells #[.int .i64 1] 3 (0, 0)) (by kernel_rfl)) (by simp [Mem.ids])) (hm.get 0) (by decide) (by decide)
          | false =>
            cases h15 : (op == 15) with
            | true =>
              refine Goes.run1 [0, 0, 0, 0, 0, 1, 1] [(op == 15, true), (op == 15, true), (op == 14, false), (op == 13, false), (op == 12, false), (op == 11, false), (op == 2, false)] ⟨h15, h15, h14, h13, h12, h11, h2, trivial⟩ fun g => ?_
              exact Goes.ret [] (.tuple #[.slice (some ⟨g, 0, none⟩) 2 2, .bool true]) fun w' hm hI => Kr.some [1, 1] (by unfold kTruth; rw [h2, h11, h12, h13, h14, h15] <;> rfl) (below_end (m := []) Holds.nil hI.now.1 hm (by kernel_rfl)) (fresh_of hI (g := g) (ids_get (j := 0) (o := .cells #[.int .i64 1, .int .i64 1] 3 (0, 0)) (by kernel_rfl)) (by simp [Mem.ids])) (hm.get 0) (by decide) (by decide)
            | false =>
              cases h16 : (op == 16) with
              | true =>
                refine Goes.run1 [0, 0, 0, 0, 0, 0, 1] [(op == 16, true), (op == 15, false), (op == 14, false), (op == 13, false), (op == 12, false), (op == 11, false), (op == 2, false)] ⟨h16, h15, h14, h13, h12, h11, h2, trivial⟩ fun g => ?_
                exact Goes.ret [] (.tuple #[.slice (some ⟨g, 0, none⟩) 2 2, .bool true]) fun w' hm hI => Kr.some [1, 1] (by unfold kTruth; rw [h2, h11, h12, h13, h14, h15, h16] <;> rfl) (below_end (m := []) Holds.nil hI.now.1 hm (by kernel_rfl)) (fresh_of hI (g := g) (ids_get (j := 0) (o := .cells #[.int .i64 1, .int .i64 1] 3 (0, 0)) (by kernel_rfl)) (by simp [Mem.ids])) (hm.get 0) (by decide) (by decide)
              | false =>
                cases h17 : (op == 17) with
                | true =>
                  refine Goes.run1 [0, 0, 0, 0, 0, 0, 0, 1] [(op == 17, true), (op == 16, false), (op == 15, false), (op == 14, false), (op == 13, false), (op == 12, false), (op == 11, false), (op == 2, false)] ⟨h17, h16, h15, h14, h13, h12, h11, h2, trivial⟩ fun g => ?_
                  exact Goes.ret [] (.tuple #[.slice (some ⟨g, 0, none⟩) 2 2, .bool true]) fun w' hm hI => Kr.some [2, 2] (by unfold kTruth; rw [h2, h11, h12, h13, h14, h15, h16, h17] <;> rfl) (below_end (m := []) Holds.nil hI.now.1 hm (by kernel_rfl)) (fresh_of hI (g := g) (ids_get (j := 0) (o := .cells #[.int .i64 2, .int .i64 2] 3 (0, 0)) (by kernel_rfl)) (by simp [Mem.ids])) (hm.get 0) (by decide) (by decide)
                | false =>
                  refine Goes.run [0, 0, 0, 0, 0, 0, 0, 0] [(op == 17, false), (op == 16, false), (op == 15, false), (op == 14, false), (op == 13, false), (op == 12, false), (op == 11, false), (op == 2, false)] ⟨h17, h16, h15, h14, h13, h12, h11, h2, trivial⟩ ?_
                  exact Goes.ret [] (.tuple #[.slice none 0 0, .bool false]) fun w' hm hI => Kr.none (by unfold kTruth; rw [h2, h11, h12, h13, h14, h15, h16, h17] <;> rfl) (below_end (m := []) Holds.nil hI.now.1 hm (by kernel_rfl))
def kDay (op : Int) : Option (List Int) :=
  bif op == 3 || op == 5 then some [] else bif op == 18 || op == 19 then some [2, 0] else none
set_option maxRecDepth 100000 in
seal rn rnN Goes ans atEnd put0 putM opened putA0 oneSt st0 in
theorem kDay_any (op : Int) (w : World) : Calls Tryz.prog 131 #[.int .i64 op] w (Kr (kDay op) w) := by
  refine Goes.begin Tryz.func131 [] (fun _ => True) Holds.nil (by simp [Mem.ids]) (fun _ _ => trivial) ?_
  cases h3 : (op == 3) with
  | true =>
    refine Goes.run [1, 1] [(op == 3, true), (op == 3, true)] ⟨h3, h3, trivial⟩ ?_
    exact Goes.ret [] (.tuple #[.slice none 0 0, .bool true]) fun w' hm hI => Kr.nil (by unfold kDay; rw [h3] <;> rfl) (below_end (m := []) Holds.nil hI.now.1 hm (by kernel_rfl))
  | false =>
    cases h5 : (op == 5) with
    | true =>
      refine Goes.run [0, 1] [(op == 5, true), (op == 3, false)] ⟨h5, h3, trivial⟩ ?_
      exact Goes.ret [] (.tuple #[.slice none 0 0, .bool true]) fun w' hm hI => Kr.nil (by unfold kDay; rw [h3, h5] <;> rfl) (below_end (m := []) Holds.nil hI.now.1 hm (by kernel_rfl))
    | false =>
      cases h18 : (op == 18) with
      | true =>
        refine Goes.run1 [0, 0, 1, 1] [(op == 18, true), (op == 18, true), (op == 5, false), (op == 3, false)] ⟨h18, h18, h5, h3, trivial⟩ fun g => ?_
        exact Goes.ret [] (.tuple #[.slice (some ⟨g, 0, none⟩) 2 2, .bool true]) fun w' hm hI => Kr.some [2, 0] (by unfold kDay; rw [h3, h5, h18] <;> rfl) (below_end (m := []) Holds.nil hI.now.1 hm (by kernel_rfl)) (fresh_of hI (g := g) (ids_get (j := 0) (o := .cells #[.int .i64 2, .int .i64 0] 3 (0, 0)) (by kernel_rfl)) (by simp [Mem.ids])) (hm.get 0) (by decide) (by decide)
      | false =>
        cases h19 : (op == 19) with
        | true =>
          refine Goes.run1 [0, 0, 0, 1] [(op == 19, true), (op == 18, false), (op == 5, false), (op == 3, false)] ⟨h19, h18, h5, h3, trivial⟩ fun g => ?_
          exact Goes.ret [] (.tuple #[.slice (some ⟨g, 0, none⟩) 2 2, .bool true]) fun w' hm hI => Kr.some [2, 0] (by unfold kDay; rw [h3, h5, h18, h19] <;> rfl) (below_end (m := []) Holds.nil hI.now.1 hm (by kernel_rfl)) (fresh_of hI (g := g) (ids_get (j := 0) (o := .cells #[.int .i64 2, .int .i64 0] 3 (0, 0)) (by kernel_rfl)) (by simp [Mem.ids])) (hm.get 0) (by decide) (by decide)
        | false =>
          refine Goes.run [0, 0, 0, 0] [(op == 19, false), (op == 18, false), (op == 5, false), (op == 3, false)] ⟨h19, h18, h5, h3, trivial⟩ ?_
          exact Goes.ret [] (.tuple #[.slice none 0 0, .bool false]) fun w' hm hI => Kr.none (by unfold kDay; rw [h3, h5, h18, h19] <;> rfl) (below_end (m := []) Holds.nil hI.now.1 hm (by kernel_rfl))
def kContract (op : Int) : Option (List Int) :=
  bif op == 23 || op == 24 then some [] else bif op == 25 || op == 29 then some [4] else bif op == 26 then some [0, 4] else bif op == 27 || op == 31 then some [4, 4] else bif op == 28 then some [1, 4, 4] else bif op == 30 then some [1, 4] else none
set_option maxRecDepth 100000 in
seal rn rnN Goes ans atEnd put0 putM opened putA0 oneSt st0 in
theorem kContract_any (op : Int) (w : World) : Calls Tryz.prog 128 #[.int .i64 op] w (Kr (kContract op) w) := by
  refine Goes.begin Tryz.func128 [] (fun _ => True) Holds.nil (by simp [Mem.ids]) (fun _ _ => trivial) ?_
  cases h23 : (op == 23) with
  | true =>
    refine Goes.run [1, 1] [(op == 23, true), (op == 23, true)] ⟨h23, h23, trivial⟩ ?_
    exact Goes.ret [] (.tuple #[.slice none 0 0, .bool true]) fun w' hm hI => Kr.nil (by unfold kContract; rw [h23] <;> rfl) (below_end (m := []) Holds.nil hI.now.1 hm (by kernel_rfl))
  | false =>
    cases h24 : (op == 24) with
    | true =>
      refine Goes.run [0, 1] [(op == 24, true), (op == 23, false)] ⟨h24, h23, trivial⟩ ?_
      exact Goes.ret [] (.tuple #[.slice none 0 0, .bool true]) fun w' hm hI => Kr.nil (by unfold kContract; rw [h23, h24] <;> rfl) (below_end (m := []) Holds.nil hI.now.1 hm (by kernel_rfl))
    | false =>
      cases h25 : (op == 25) with
      | true =>
        refine Goes.run1 [0, 0, 1, 1] [(op == 25, true), (op == 25, true), (op == 24, false), (op == 23, false)] ⟨h25, h25, h24, h23, trivial⟩ fun g => ?_
        exact Goes.ret [] (.tuple #[.slice (some ⟨g, 0, none⟩) 1 1, .bool true]) fun w' hm hI => Kr.some [4] (by unfold kContract; rw [h23, h24, h25] <;> rfl) (below_end (m := []) Holds.nil hI.now.1 hm (by kernel_rfl)) (fresh_of hI (g := g) (ids_get (j := 0) (o := .cells #[.int .i64 4] 3 (0, 0)) (by kernel_rfl)) (by simp [Mem.ids])) (hm.get 0) (by decide) (by decide)
      | false =>
        cases h29 : (op == 29) with
        | true =>
          refine Goes.run1 [0, 0, 0, 1] [(op == 29, true), (op == 25, false), (op == 24, false), (op == 23, false)] ⟨h29, h25, h24, h23, trivial⟩ fun g => ?_
          exact Goes.ret [] (.tuple #[.slice (some ⟨g, 0, none⟩) 1 1, .bool true]) fun w' hm hI => Kr.some [4] (by unfold kContract; rw [h23, h24, h25, h29] <;> rfl) (below_end (m := []) Holds.nil hI.now.1 hm (by kernel_rfl)) (fresh_of hI (g := g) (ids_get (j := 0) (o := .cells #[.int .i64 4] 3 (0, 0)) (by kernel_rfl)) (by simp [Mem.ids])) (hm.get 0) (by decide) (by decide)
        | false =>
          cases h26 : (op == 26) with
          | true =>
            refine Goes.run1 [0, 0, 0, 0, 1] [(op == 26, true), (op == 29, false), (op == 25, false), (op == 24, false), (op == 23, false)] ⟨h26, h29, h25, h24, h23, trivial⟩ fun g => ?_
            exact Goes.ret [] (.tuple #[.slice (some ⟨g, 0, none⟩) 2 2, .bool true]) fun w' hm hI => Kr.some [0, 4] (by unfold kContract; rw [h23, h24, h25, h29, h26] <;> rfl) (below_end (m := []) Holds.nil hI.now.1 hm (by kernel_rfl)) (fresh_of hI (g := g) (ids_get (j := 0) (o := .cells #[.int .i64 0, .int .i64 4] 3 (0, 0)) (by kernel_rfl)) (by simp [Mem.ids])) (hm.get 0) (by decide) (by decide)
          | false =>
            cases h27 : (op == 27) with
            | true =>
              refine Goes.run1 [0, 0, 0, 0, 0, 1, 1] [(op == 27, true), (op == 27, true), (op == 26, false), (op == 29, false), (op == 25, false), (op == 24, false), (op == 23, false)] ⟨h27, h27, h26, h29, h25, h24, h23, trivial⟩ fun g => ?_
              exact Goes.ret [] (.tuple #[.slice (some ⟨g, 0, none⟩) 2 2, .bool true]) fun w' hm hI => Kr.some [4, 4] (by unfold kContract; rw [h23, h24, h25, h29, h26, h27] <;> rfl) (below_end (m := []) Holds.nil hI.now.1 hm (by kernel_rfl)) (fresh_of hI (g := g) (ids_get (j := 0) (o := .cells #[.int .i64 4, .int .i64 4] 3 (0, 0)) (by kernel_rfl)) (by simp [Mem.ids])) (hm.get 0) (by decide) (by decide)
            | false =>
              cases h31 : (op == 31) with
              | true =>
                refine Goes.run1 [0, 0, 0, 0, 0, 0, 1] [(op == 31, true), (op == 27, false), (op == 26, false), (op == 29, false), (op == 25, false), (op == 24, false), (op == 23, false)] ⟨h31, h27, h26, h29, h25, h24, h23, trivial⟩ fun g => ?_
                exact Goes.ret [] (.tuple #[.slice (some ⟨g, 0, none⟩) 2 2, .bool true]) fun w' hm hI => Kr.some [4, 4] (by unfold kContract; rw [h23, h24, h25, h29, h26, h27, h31] <;> rfl) (below_end (m := []) Holds.nil hI.now.1 hm (by kernel_rfl)) (fresh_of hI (g := g) (ids_get (j := 0) (o := .cells #[.int .i64 4, .int .i64 4] 3 (0, 0)) (by kernel_rfl)) (by simp [Mem.ids])) (hm.get 0) (by decide) (by decide)
              | false =>
                cases h28 : (op == 28) with
                | true =>
                  refine Goes.run1 [0, 0, 0, 0, 0, 0, 0, 1] [(op == 28, true), (op == 31, false), (op == 27, false), (op == 26, false), (op == 29, false), (op == 25, false), (op == 24, false), (op == 23, false)] ⟨h28, h31, h27, h26, h29, h25, h24, h23, trivial⟩ fun g => ?_
                  exact Goes.ret [] (.tuple #[.slice (some ⟨g, 0, none⟩) 3 3, .bool true]) fun w' hm hI => Kr.some [1, 4, 4] (by unfold kContract; rw [h23, h24, h25, h29, h26, h27, h31, h28] <;> rfl) (below_end (m := []) Holds.nil hI.now.1 hm (by kernel_rfl)) (fresh_of hI (g := g) (ids_get (j := 0) (o := .cells #[.int .i64 1, .int .i64 4, .int .i64 4] 3 (0, 0)) (by kernel_rfl)) (by simp [Mem.ids])) (hm.get 0) (by decide) (by decide)
                | false =>
                  cases h30 : (op == 30) with
                  | true =>
                    refine Goes.run1 [0, 0, 0, 0, 0, 0, 0, 0, 1] [(op == 30, true), (op == 28, false), (op == 31, false), (op == 27, false), (op == 26, false), (op == 29, false), (op == 25, false), (op == 24, false), (op == 23, false)] ⟨h30, h28, h31, h27, h26, h29, h25, h24, h23, trivial⟩ fun g => ?_
                    exact Goes.ret [] (.tuple #[.slice (some ⟨g, 0, none⟩) 2 2, .bool true]) fun w' hm hI => Kr.some [1, 4] (by unfold kContract; rw [h23, h24, h25, h29, h26, h27, h31, h28, h30] <;> rfl) (below_end (m := []) Holds.nil hI.now.1 hm (by kernel_rfl)) (fresh_of hI (g := g) (ids_get (j := 0) (o := .cells #[.int .i64 1, .int .i64 4] 3 (0, 0)) (by kernel_rfl)) (by simp [Mem.ids])) (hm.get 0) (by decide) (by decide)
                  | false =>
                    refine Goes.run [0, 0, 0, 0, 0, 0, 0, 0, 0] [(op == 30, false), (op == 28, false), (op == 31, false), (op == 27, false), (op == 26, false), (op == 29, false), (op == 25, false), (op == 24, false), (op == 23, false)] ⟨h30, h28, h31, h27, h26, h29, h25, h24, h23, trivial⟩ ?_
                    exact Goes.ret [] (.tuple #[.slice none 0 0, .bool false]) fun w' hm hI => Kr.none (by unfold kContract; rw [h23, h24, h25, h29, h26, h27, h31, h28, h30] <;> rfl) (below_end (m := []) Holds.nil hI.now.1 hm (by kernel_rfl))
theorem KidsAt.stay {w w' : World} {v : Value} {ks : List Int} (hB : Below w.heap.size w w') (h : KidsAt w w' v ks) : Stay [] w' (fun w2 => Below w.heap.size w w2 ∧ KidsAt w w2 v ks) := by
  intro w2 hc
  have hb : Below w'.heap.size w' w2 := hc.toB (fun x hx => by cases hx)
  refine ⟨hB.trans (hb.mono hB.size), ?_⟩
  rcases h with h | ⟨g, h1, h2, h3, h4⟩
  · exact .inl h
  · exact .inr ⟨g, h1, h2, (hb.block g (lt_of_get h3)).trans h3, h4⟩
def kOf (op want : Int) : Option (List Int) :=
  bif want == 4 then kContract op else bif op == 22 then some [1, want, want] else bif want == 0 then kNumber op else bif want == 1 then kTruth op else kDay op
set_option maxRecDepth 100000 in
seal rn rnN Goes ans atEnd put0 putM opened putA0 oneSt st0 in
theorem kOf_any (op want : Int) (w : World) : Calls Tryz.prog 106 #[.int .i64 op, .int .i64 want] w (Kr (kOf op want) w) := by
  refine Goes.begin Tryz.func106 [] (fun _ => True) Holds.nil (by simp [Mem.ids]) (fun _ _ => trivial) ?_
  cases h1 : (want == 4) with
  | true =>
    refine Goes.run [1] [(want == 4, true)] ⟨h1, trivial⟩ ?_
    refine Goes.call 128 #[.int .i64 op] fun w1 hm hn hI => (kContract_any op w1).mono fun e w2 hk => ?_
    have hk2 := hk.later (w := w) (hI.now.1.toB (fun x hx => by cases hx))
    obtain ⟨v, rfl, hB, hK⟩ := hk2
    refine ⟨_, fun w' => Below w.heap.size w w' ∧ KidsAt w w' v ((kContract op).getD []), [], rfl, Holds.nil, by simp [Mem.ids], KidsAt.stay hB hK, ?_⟩
    refine Goes.run [] [] trivial ?_
    exact Goes.ret [] (.tuple #[v, .bool (kContract op).isSome]) fun w' hm hI => ⟨v, by unfold kOf; rw [h1] <;> rfl, hI.now.1, by unfold kOf; rw [h1]; exact hI.now.2⟩
  | false =>
    cases h2 : (op == 22) with
    | true =>
      refine Goes.run1 [0, 1] [(op == 22, true), (want == 4, false)] ⟨h2, h1, trivial⟩ fun g => ?_
      exact Goes.ret [] (.tuple #[.slice (some ⟨g, 0, none⟩) 3 3, .bool true]) fun w' hm hI => Kr.some [1, want, want] (by unfold kOf; rw [h1, h2] <;> rfl) (below_end (m := []) Holds.nil hI.now.1 hm (by kernel_rfl)) (fresh_of hI (g := g) (ids_get (j := 0) (o := .cells #[.int .i64 1, .int .i64 want, .int .i64 want] 3 (0, 0)) (by kernel_rfl)) (by simp [Mem.ids])) (hm.get 0) (by simp) (by simp)
    | false =>
      cases h3 : (want == 0) with
      | true =>
        refine Goes.run [0, 0, 1] [(want == 0, true), (op == 22, false), (want == 4, false)] ⟨h3, h2, h1, trivial⟩ ?_
        refine Goes.call 129 #[.int .i64 op] fun w1 hm hn hI => (kNumber_any op w1).mono fun e w2 hk => ?_
        have hk2 := hk.later (w := w) (hI.now.1.toB (fun x hx => by cases hx))
        obtain ⟨v, rfl, hB, hK⟩ := hk2
        refine ⟨_, fun w' => Below w.heap.size w w' ∧ KidsAt w w' v ((kNumber op).getD []), [], rfl, Holds.nil, by simp [Mem.ids], KidsAt.stay hB hK, ?_⟩
        refine Goes.run [] [] trivial ?_
        exact Goes.ret [] (.tuple #[v, .bool (kNumber op).isSome]) fun w' hm hI => ⟨v, by unfold kOf; rw [h1, h2, h3] <;> rfl, hI.now.1, by unfold kOf; rw [h1, h2, h3]; exact hI.now.2⟩
      | false =>
        cases h4 : (want == 1) with
        | true =>
          refine Goes.run [0, 0, 0, 1] [(want == 1, true), (want == 0, false), (op == 22, false), (want == 4, false)] ⟨h4, h3, h2, h1, trivial⟩ ?_
          refine Goes.call 130 #[.int .i64 op] fun w1 hm hn hI => (kTruth_any op w1).mono fun e w2 hk => ?_
          have hk2 := hk.later (w := w) (hI.now.1.toB (fun x hx => by cases hx))
          obtain ⟨v, rfl, hB, hK⟩ := hk2
          refine ⟨_, fun w' => Below w.heap.size w w' ∧ KidsAt w w' v ((kTruth op).getD []), [], rfl, Holds.nil, by simp [Mem.ids], KidsAt.stay hB hK, ?_⟩
          refine Goes.run [] [] trivial ?_
          exact Goes.ret [] (.tuple #[v, .bool (kTruth op).isSome]) fun w' hm hI => ⟨v, by unfold kOf; rw [h1, h2, h3, h4] <;> rfl, hI.now.1, by unfold kOf; rw [h1, h2, h3, h4]; exact hI.now.2⟩
        | false =>
          refine Goes.run [0, 0, 0, 0] [(want == 1, false), (want == 0, false), (op == 22, false), (want == 4, false)] ⟨h4, h3, h2, h1, trivial⟩ ?_
          refine Goes.call 131 #[.int .i64 op] fun w1 hm hn hI => (kDay_any op w1).mono fun e w2 hk => ?_
          have hk2 := hk.later (w := w) (hI.now.1.toB (fun x hx => by cases hx))
          obtain ⟨v, rfl, hB, hK⟩ := hk2
          refine ⟨_, fun w' => Below w.heap.size w w' ∧ KidsAt w w' v ((kDay op).getD []), [], rfl, Holds.nil, by simp [Mem.ids], KidsAt.stay hB hK, ?_⟩
          refine Goes.run [] [] trivial ?_
          exact Goes.ret [] (.tuple #[v, .bool (kDay op).isSome]) fun w' hm hI => ⟨v, by unfold kOf; rw [h1, h2, h3, h4] <;> rfl, hI.now.1, by unfold kOf; rw [h1, h2, h3, h4]; exact hI.now.2⟩
end Go.Proofs.YthnojedlndblbaaGreatDoor
namespace Go.Proofs.YthnojedlndblbaaGreatDoor
open Go Go.RowKit

/-- A function that tells of which sort a byte is. -/
def Srt (f : FuncId) (C : Int → Bool) : Prop := ∀ (z : Int) (w : World), Calls Tryz.prog f #[.int .u8 z] w fun e w' => e = .returned (.bool (C z)) ∧ Below w.heap.size w w'
def cLet (z : Int) : Bool := decide (97 ≤ z) && decide (z ≤ 122)
def cCap (z : Int) : Bool := decide (65 ≤ z) && decide (z ≤ 90)
def cDig (z : Int) : Bool := decide (48 ≤ z) && decide (z ≤ 57)
def cIn (z : Int) : Bool := cLet z || cDig z || z == 95
set_option maxRecDepth 100000 in
seal rn Goes ans atEnd put0 putM opened putA0 oneSt st0 in
theorem cLet_any : Srt 152 cLet := by
  intro z w
  refine Goes.begin Tryz.func152 [] (fun _ => True) Holds.nil (by simp [Mem.ids]) (fun _ _ => trivial) ?_
  cases h : decide ((97 : Int) ≤ z) with
  | true =>
    refine Goes.run [1] [(decide ((97 : Int) ≤ z), true)] ⟨h, trivial⟩ ?_
    exact Goes.ret [] (.bool (decide (z ≤ 122))) fun w' hm hI => ⟨by simp only [cLet, h, Bool.true_and], bel0 hI⟩
  | false =>
    refine Goes.run [0] [(decide ((97 : Int) ≤ z), false)] ⟨h, trivial⟩ ?_
    exact Goes.ret [] (.bool false) fun w' hm hI => ⟨by simp only [cLet, h, Bool.false_and], bel0 hI⟩
set_option maxRecDepth 100000 in
seal rn Goes ans atEnd put0 putM opened putA0 oneSt st0 in
theorem cCap_any : Srt 155 cCap := by
  intro z w
  refine Goes.begin Tryz.func155 [] (fun _ => True) Holds.nil (by simp [Mem.ids]) (fun _ _ => trivial) ?_
  cases h : decide ((65 : Int) ≤ z) with
  | true =>
    refine Goes.run [1] [(decide ((65 : Int) ≤ z), true)] ⟨h, trivial⟩ ?_
    exact Goes.ret [] (.bool (decide (z ≤ 90))) fun w' hm hI => ⟨by simp only [cCap, h, Bool.true_and], bel0 hI⟩
  | false =>
    refine Goes.run [0] [(decide ((65 : Int) ≤ z), false)] ⟨h, trivial⟩ ?_
    exact Goes.ret [] (.bool false) fun w' hm hI => ⟨by simp only [cCap, h, Bool.false_and], bel0 hI⟩
theorem idxB {l : List UInt8} {i : Nat} {c : UInt8} (h : l[i]? = some c) (w : World) : (Instr.index 9 (strV l) (.int .i64 i)).run Tryz.prog w = .ok (.int .u8 (c.toNat : Nat)) w := by
  have hlt := (List.getElem?_eq_some_iff.1 h).1
  have h1 : (i : Int) < l.length := by omega
  have h2 : (⟨l.toArray⟩ : ByteArray).size = l.length := by simp [ByteArray.size]
  have h3 : (⟨l.toArray⟩ : ByteArray)[i]'(by rw [h2]; exact hlt) = c := by
    have := (List.getElem?_eq_some_iff.1 h).2
    simp [ByteArray.getElem_eq_getElem_data, this]
  unfold strV
  go_simp
set_option maxRecDepth 100000 in
seal rn Goes ans atEnd put0 putM opened putA0 oneSt st0 in
theorem cIn_any : Srt 154 cIn := by
  intro z w
  refine Goes.begin Tryz.func154 [] (fun _ => True) Holds.nil (by simp [Mem.ids]) (fun _ _ => trivial) ?_
  refine Goes.run [] [] trivial ?_
  refine Goes.call0 152 #[.int .u8 z] (.bool (cLet z)) (fun w' _ _ => cLet_any z w') ?_
  cases h : cLet z with
  | true =>
    refine Goes.run [1, 1] [(true, true), (true, true)] ⟨rfl, rfl, trivial⟩ ?_
    exact Goes.ret [] (.bool true) fun w' hm hI => ⟨by simp only [cIn, h, Bool.true_or], bel0 hI⟩
  | false =>
    cases h2 : decide ((48 : Int) ≤ z) with
    | false =>
      refine Goes.run [0, 0, 0] [(false, false), (decide ((48 : Int) ≤ z), false), (false, false)] ⟨rfl, h2, rfl, trivial⟩ ?_
      exact Goes.ret [] (.bool (z == 95)) fun w' hm hI => ⟨by simp only [cIn, cDig, h, h2, Bool.false_and, Bool.false_or], bel0 hI⟩
    | true =>
      cases h3 : decide (z ≤ (57 : Int)) with
      | true =>
        refine Goes.run [0, 1, 1] [(decide (z ≤ (57 : Int)), true), (decide ((48 : Int) ≤ z), true), (false, false)] ⟨h3, h2, rfl, trivial⟩ ?_
        exact Goes.ret [] (.bool true) fun w' hm hI => ⟨by simp only [cIn, cDig, h, h2, h3, Bool.true_and, Bool.false_or, Bool.true_or], bel0 hI⟩
      | false =>
        refine Goes.run [0, 1, 0] [(decide (z ≤ (57 : Int)), false), (decide ((48 : Int) ≤ z), true), (false, false)] ⟨h3, h2, rfl, trivial⟩ ?_
        exact Goes.ret [] (.bool (z == 95)) fun w' hm hI => ⟨by simp only [cIn, cDig, h, h2, h3, Bool.true_and, Bool.false_or], bel0 hI⟩
/-- Are all its bytes of a sort? -/
def allB (C : Int → Bool) (l : List UInt8) : Bool := l.all fun x => C (x.toNat : Nat)
set_option maxRecDepth 100000 in
seal rn Goes ans atEnd put0 putM opened putA0 oneSt st0 in
theorem areAll_any {f : FuncId} {C : Int → Bool} (hs : Srt f C) (hf : okf Tryz.prog f = true) (l : List UInt8) (w : World) (hl : l.length ≤ 9223372036854775807) : Calls Tryz.prog 153 #[strV l, .func (.func f) #[] #[]] w fun e w' => e = .returned (.bool (allB C l)) ∧ Below w.heap.size w w' := by
  refine Goes.begin Tryz.func153 [] (fun _ => True) Holds.nil (by simp [Mem.ids]) (fun _ _ => trivial) ?_
  refine Goes.run [] [] trivial ?_
  refine Goes.loop0 (α := Nat) 18 (fun j => [(0, strV l), (1, .func (.func f) #[] #[]), (7, .int .i64 l.length), (8, .int .i64 j)]) [] (fun j => allB C (l.drop j) = allB C l ∧ j ≤ l.length) (fun j => l.length - j) 0 ⟨rfl, Nat.zero_le _⟩ ?_
  rintro j J ⟨hj, hj2⟩ back
  cases hlt : decide ((j : Int) < (l.length : Int)) with
  | false =>
    refine Goes.run [0, 0] [(decide ((j : Int) < (l.length : Int)), false)] ⟨hlt, trivial⟩ ?_
    exact Goes.ret [] (.bool true) fun w' hm hI => ⟨by rw [← hj, List.drop_of_length_le (by have := of_decide_eq_false hlt; omega)]; rfl, bel0 hI⟩
  | true =>
    have hjl : j < l.length := by have := of_decide_eq_true hlt; omega
    obtain ⟨x, hx⟩ : ∃ x, l[j]? = some x := ⟨l[j], by simp⟩
    have hd : l.drop j = x :: l.drop (j + 1) := by
      obtain ⟨h1, h2⟩ := List.getElem?_eq_some_iff.1 hx
      rw [List.drop_eq_getElem_cons h1, h2]
    refine Goes.run [0, 1] [(decide ((j : Int) < (l.length : Int)), true)] ⟨hlt, trivial⟩ ?_
    refine Goes.val (Instr.index 9 (strV l) (.int .i64 j)) (.int .u8 (x.toNat : Nat)) (fun w' _ _ => idxB hx w') ?_
    refine Goes.call0 f #[.int .u8 (x.toNat : Nat)] (.bool (C (x.toNat : Nat))) (fun w' _ _ => hs _ w') (hf := hf) ?_
    cases hc : C (x.toNat : Nat) with
    | false =>
      refine Goes.run [1] [(true, true)] ⟨rfl, trivial⟩ ?_
      exact Goes.ret [] (.bool false) fun w' hm hI => ⟨by rw [← hj, hd]; simp [allB, hc], bel0 hI⟩
    | true =>
      refine Goes.run [0] [(false, false)] ⟨rfl, trivial⟩ ?_
      refine Goes.slot 8 (.int .i64 (j + 1 : Nat)) (u := .int .i64 (IntKind.i64.wrap ((j : Int) + 1))) (congrArg _ (wrap_nat (by omega))) ?_
      exact back (j + 1) _ ⟨by rw [← hj, hd]; simp [allB, hc], by omega⟩ (by omega) (by kernel_rfl) (by kernel_rfl) (by kernel_rfl)
def curP (l : List UInt8) : Bool := ((l.length : Int) == 3) && allB cCap l
set_option maxRecDepth 100000 in
seal rn Goes ans atEnd put0 putM opened putA0 oneSt st0 in
theorem isCur_any (l : List UInt8) (w : World) (hl : l.length ≤ 9223372036854775807) : Calls Tryz.prog 145 #[strV l] w fun e w' => e = .returned (.bool (curP l)) ∧ Below w.heap.size w w' := by
  refine Goes.begin Tryz.func145 [] (fun _ => True) Holds.nil (by simp [Mem.ids]) (fun _ _ => trivial) ?_
  cases h : ((l.length : Int) == 3) with
  | true =>
    refine Goes.run [1] [((l.length : Int) == 3, true)] ⟨h, trivial⟩ ?_
    refine Goes.call0 153 #[strV l, .func (.func 155) #[] #[]] (.bool (allB cCap l)) (fun w' _ _ => areAll_any cCap_any (by kernel_rfl) l w' hl) ?_
    refine Goes.run [] [] trivial ?_
    exact Goes.ret [] (.bool (allB cCap l)) fun w' hm hI => ⟨by simp only [curP, h, Bool.true_and], bel0 hI⟩
  | false =>
    refine Goes.run [0] [((l.length : Int) == 3, false)] ⟨h, trivial⟩ ?_
    exact Goes.ret [] (.bool false) fun w' hm hI => ⟨by simp only [curP, h, Bool.false_and], bel0 hI⟩
def namP (l : List UInt8) : Bool := decide ((0 : Int) < (l.length : Int)) && decide ((l.length : Int) ≤ 24) && cLet ((l.getD 0 0).toNat : Nat) && allB cIn l
set_option maxRecDepth 100000 in
seal rn Goes ans atEnd put0 putM opened putA0 oneSt st0 in
theorem isNam_any (l : List UInt8) (w : World) (hl : l.length ≤ 9223372036854775807) : Calls Tryz.prog 144 #[strV l] w fun e w' => e = .returned (.bool (namP l)) ∧ Below w.heap.size w w' := by
  refine Goes.begin Tryz.func144 [] (fun _ => True) Holds.nil (by simp [Mem.ids]) (fun _ _ => trivial) ?_
  cases h0 : decide ((0 : Int) < (l.length : Int)) with
  | false =>
    refine Goes.run [0, 0, 0] [(false, false), (false, false), (decide ((0 : Int) < (l.length : Int)), false)] ⟨rfl, rfl, h0, trivial⟩ ?_
    exact Goes.ret [] (.bool false) fun w' hm hI => ⟨by simp only [namP, h0, Bool.false_and], bel0 hI⟩
  | true =>
    cases h1 : decide ((l.length : Int) ≤ 24) with
    | false =>
      refine Goes.run [1, 0, 0] [(false, false), (decide ((l.length : Int) ≤ 24), false), (decide ((0 : Int) < (l.length : Int)), true)] ⟨rfl, h1, h0, trivial⟩ ?_
      exact Goes.ret [] (.bool false) fun w' hm hI => ⟨by simp only [namP, h0, h1, Bool.true_and, Bool.false_and], bel0 hI⟩
    | true =>
      have hp : 0 < l.length := by have := of_decide_eq_true h0; omega
      obtain ⟨x, hx⟩ : ∃ x, l[0]? = some x := ⟨l[0], by simp⟩
      have hx' : l.getD 0 0 = x := by simp [List.getD, hx]
      refine Goes.run [1, 1] [(decide ((l.length : Int) ≤ 24), true), (decide ((0 : Int) < (l.length : Int)), true)] ⟨h1, h0, trivial⟩ ?_
      refine Goes.val (Instr.index 9 (strV l) (.int .i64 (0 : Nat))) (.int .u8 (x.toNat : Nat)) (fun w' _ _ => idxB hx w') ?_
      refine Goes.call0 152 #[.int .u8 (x.toNat : Nat)] (.bool (cLet (x.toNat : Nat))) (fun w' _ _ => cLet_any _ w') ?_
      cases h2 : cLet (x.toNat : Nat) with
      | false =>
        refine Goes.run [0] [(false, false)] ⟨rfl, trivial⟩ ?_
        exact Goes.ret [] (.bool false) fun w' hm hI => ⟨by simp only [namP, h0, h1, hx', h2, Bool.true_and, Bool.false_and], bel0 hI⟩
      | true =>
        refine Goes.run [1] [(true, true)] ⟨rfl, trivial⟩ ?_
        refine Goes.call0 153 #[strV l, .func (.func 154) #[] #[]] (.bool (allB cIn l)) (fun w' _ _ => areAll_any cIn_any (by kernel_rfl) l w' hl) ?_
        refine Goes.run [] [] trivial ?_
        exact Goes.ret [] (.bool (allB cIn l)) fun w' hm hI => ⟨by simp only [namP, h0, h1, hx', h2, Bool.true_and], bel0 hI⟩
end Go.Proofs.YthnojedlndblbaaGreatDoor
namespace Go.Proofs.YthnojedlndblbaaGreatDoor
open Go Go.RowKit

def inW (n a b : Int) : Bool := decide (a ≤ n) && decide (n ≤ b)
set_option maxRecDepth 100000 in
seal rn rnS Goes ans atEnd put0 putM opened putA0 oneSt st0 in
theorem inW_any (n a b : Int) (w : World) : Calls Tryz.prog 142 #[.int .i64 n, .int .i64 a, .int .i64 b] w fun e w' => e = .returned (.bool (inW n a b)) ∧ Below w.heap.size w w' := by
  refine Goes.begin Tryz.func142 [] (fun _ => True) Holds.nil (by simp [Mem.ids]) (fun _ _ => trivial) ?_
  cases h : decide (a ≤ n) with
  | true =>
    refine Goes.run [1] [(decide (a ≤ n), true)] ⟨h, trivial⟩ ?_
    exact Goes.ret [] (.bool (decide (n ≤ b))) fun w' hm hI => ⟨by simp only [inW, h, Bool.true_and], bel0 hI⟩
  | false =>
    refine Goes.run [0] [(decide (a ≤ n), false)] ⟨h, trivial⟩ ?_
    exact Goes.ret [] (.bool false) fun w' hm hI => ⟨by simp only [inW, h, Bool.false_and], bel0 hI⟩
section
variable (op k : Int) (t : List UInt8) (a : Option Addr) (N c : Nat) (w : World)
def lookP (op : Int) : Bool := op == 4 || op == 5
set_option maxRecDepth 100000 in
seal rn rnS Goes ans atEnd put0 putM opened putA0 oneSt st0 in
theorem look_any : Calls Tryz.prog 54 #[cv op k t (.slice a N c)] w fun e w' => e = .returned (.bool (lookP op)) ∧ Below w.heap.size w w' := by
  refine Goes.begin Tryz.func54 [] (fun _ => True) Holds.nil (by simp [Mem.ids]) (fun _ _ => trivial) ?_
  cases h : (op == 4) with
  | true =>
    refine Goes.run1 [0, 1] [(op == 4, true)] ⟨h, trivial⟩ fun g => ?_
    exact Goes.ret [] (.bool true) fun w' hm hI => ⟨by simp only [lookP, h, Bool.true_or], bel0 hI⟩
  | false =>
    refine Goes.run1 [0, 0, 0] [(op == 4, false)] ⟨h, trivial⟩ fun g => ?_
    exact Goes.ret [] (.bool (op == 5)) fun w' hm hI => ⟨by simp only [lookP, h, Bool.false_or], bel0 hI⟩
def dateP (op : Int) : Bool := op == 29 || op == 30 || op == 31
set_option maxRecDepth 100000 in
seal rn rnS Goes ans atEnd put0 putM opened putA0 oneSt st0 in
theorem dated_any : Calls Tryz.prog 143 #[cv op k t (.slice a N c)] w fun e w' => e = .returned (.bool (dateP op)) ∧ Below w.heap.size w w' := by
  refine Goes.begin Tryz.func143 [] (fun _ => True) Holds.nil (by simp [Mem.ids]) (fun _ _ => trivial) ?_
  cases h : (op == 29) with
  | true =>
    refine Goes.run1 [0, 1, 1] [(true, true), (op == 29, true)] ⟨rfl, h, trivial⟩ fun g => ?_
    exact Goes.ret [] (.bool true) fun w' hm hI => ⟨by simp only [dateP, h, Bool.true_or], bel0 hI⟩
  | false =>
    cases h2 : (op == 30) with
    | true =>
      refine Goes.run1 [0, 0, 0, 1] [(op == 30, true), (op == 29, false)] ⟨h2, h, trivial⟩ fun g => ?_
      exact Goes.ret [] (.bool true) fun w' hm hI => ⟨by simp only [dateP, h, h2, Bool.false_or, Bool.true_or], bel0 hI⟩
    | false =>
      refine Goes.run1 [0, 0, 0, 0, 0] [(op == 30, false), (op == 29, false)] ⟨h2, h, trivial⟩ fun g => ?_
      exact Goes.ret [] (.bool (op == 31)) fun w' hm hI => ⟨by simp only [dateP, h, h2, Bool.false_or], bel0 hI⟩
def ownN (op k : Int) : Bool :=
  bif op == 1 then inW k (-1000000000000000) 1000000000000000 else bif op == 2 then inW k 0 1 else bif op == 3 || dateP op then inW k 0 73048 else bif lookP op then inW k (-3660) 3660 else k == 0
set_option maxRecDepth 100000 in
seal rn rnS Goes ans atEnd put0 putM opened putA0 oneSt st0 in
theorem ownN_any : Calls Tryz.prog 132 #[cv op k t (.slice a N c)] w fun e w' => e = .returned (.bool (ownN op k)) ∧ Below w.heap.size w w' := by
  refine Goes.begin Tryz.func132 [] (fun _ => True) Holds.nil (by simp [Mem.ids]) (fun _ _ => trivial) ?_
  cases h1 : (op == 1) with
  | true =>
    refine Goes.run1 [0, 1, 0] [(op == 1, true)] ⟨h1, trivial⟩ fun g => ?_
    refine Goes.call0 142 #[.int .i64 k, .int .i64 (-1000000000000000), .int .i64 1000000000000000] (.bool (inW k (-1000000000000000) 1000000000000000)) (fun w' _ _ => inW_any k (-1000000000000000) 1000000000000000 w') ?_
    refine Goes.run [] [] trivial ?_
    exact Goes.ret [] (.bool (inW k (-1000000000000000) 1000000000000000)) fun w' hm hI => ⟨by unfold ownN; rw [h1] <;> rfl, bel0 hI⟩
  | false =>
    cases h2 : (op == 2) with
    | true =>
      refine Goes.run1 [0, 0, 0, 1, 0] [(op == 2, true), (op == 1, false)] ⟨h2, h1, trivial⟩ fun g => ?_
      refine Goes.call0 142 #[.int .i64 k, .int .i64 (0), .int .i64 1] (.bool (inW k (0) 1)) (fun w' _ _ => inW_any k (0) 1 w') ?_
      refine Goes.run [] [] trivial ?_
      exact Goes.ret [] (.bool (inW k (0) 1)) fun w' hm hI => ⟨by unfold ownN; rw [h1, h2] <;> rfl, bel0 hI⟩
    | false =>
      cases h3 : (op == 3) with
      | true =>
        refine Goes.run1 [0, 0, 0, 0, 0, 1, 1, 0] [(true, true), (op == 3, true), (op == 2, false), (op == 1, false)] ⟨rfl, h3, h2, h1, trivial⟩ fun g => ?_
        refine Goes.call0 142 #[.int .i64 k, .int .i64 (0), .int .i64 73048] (.bool (inW k (0) 73048)) (fun w' _ _ => inW_any k (0) 73048 w') ?_
        refine Goes.run [] [] trivial ?_
        exact Goes.ret [] (.bool (inW k (0) 73048)) fun w' hm hI => ⟨by unfold ownN; rw [h1, h2, h3] <;> rfl, bel0 hI⟩
      | false =>
        refine Goes.run1 [0, 0, 0, 0, 0, 0, 0] [(op == 3, false), (op == 2, false), (op == 1, false)] ⟨h3, h2, h1, trivial⟩ fun g => ?_
        refine Goes.call0 143 #[cv op k t (.slice a N c)] (.bool (dateP op)) (fun w' _ _ => dated_any op k t a N c w') ?_
        cases h4 : dateP op with
        | true =>
          refine Goes.run [1, 0] [(true, true)] ⟨rfl, trivial⟩ ?_
          refine Goes.call0 142 #[.int .i64 k, .int .i64 (0), .int .i64 73048] (.bool (inW k (0) 73048)) (fun w' _ _ => inW_any k (0) 73048 w') ?_
          refine Goes.run [] [] trivial ?_
          exact Goes.ret [] (.bool (inW k (0) 73048)) fun w' hm hI => ⟨by unfold ownN; rw [h1, h2, h3, h4] <;> rfl, bel0 hI⟩
        | false =>
          refine Goes.run [0, 0] [(false, false)] ⟨rfl, trivial⟩ ?_
          refine Goes.call0 54 #[cv op k t (.slice a N c)] (.bool (lookP op)) (fun w' _ _ => look_any op k t a N c w') ?_
          cases h5 : lookP op with
          | true =>
            refine Goes.run [1, 0] [(true, true)] ⟨rfl, trivial⟩ ?_
            refine Goes.call0 142 #[.int .i64 k, .int .i64 (-3660), .int .i64 3660] (.bool (inW k (-3660) 3660)) (fun w' _ _ => inW_any k (-3660) 3660 w') ?_
            refine Goes.run [] [] trivial ?_
            exact Goes.ret [] (.bool (inW k (-3660) 3660)) fun w' hm hI => ⟨by unfold ownN; rw [h1, h2, h3, h4, h5] <;> rfl, bel0 hI⟩
          | false =>
            refine Goes.run [0, 0] [(false, false)] ⟨rfl, trivial⟩ ?_
            exact Goes.ret [] (.bool (k == 0)) fun w' hm hI => ⟨by unfold ownN; rw [h1, h2, h3, h4, h5] <;> rfl, bel0 hI⟩
theorem eqE (l : List UInt8) (w : World) : (do eqGuard .eql 9 (.tmp 17) (.const (strV [])) (strV l) (strV []); binOp .eql 9 (strV l) (strV []) : Sem Value).run Tryz.prog w = .ok (.bool (decide (l = []))) w := by
  have : (eqGuard .eql 9 (.tmp 17) (.const (strV [])) (strV l) (strV [])).run Tryz.prog w = .ok () w := by
    unfold eqGuard strV; go_simp
  simp only [Sem.run_bind, this, Result.andThen_ok, eqlS l [] _ rfl w]
def ownS (op : Int) (t : List UInt8) : Bool := bif op == 4 || op == 31 then namP t else bif op == 24 then curP t else decide (t = [])
set_option maxRecDepth 100000 in
seal rn rnS Goes ans atEnd put0 putM opened putA0 oneSt st0 in
theorem ownS_any (ht : t.length ≤ 9223372036854775807) : Calls Tryz.prog 133 #[cv op k t (.slice a N c)] w fun e w' => e = .returned (.bool (ownS op t)) ∧ Below w.heap.size w w' := by
  refine Goes.begin Tryz.func133 [] (fun _ => True) Holds.nil (by simp [Mem.ids]) (fun _ _ => trivial) ?_
  cases h1 : (op == 4) with
  | true =>
    refine Goes.run1 [0, 1, 1, 0] [(op == 4, true), (op == 4, true)] ⟨h1, h1, trivial⟩ fun g => ?_
    refine Goes.call0 144 #[strV t] (.bool (namP t)) (fun w' _ _ => isNam_any t w' ht) ?_
    refine Goes.run [] [] trivial ?_
    exact Goes.ret [] (.bool (namP t)) fun w' hm hI => ⟨by unfold ownS; rw [h1] <;> rfl, bel0 hI⟩
  | false =>
    cases h2 : (op == 31) with
    | true =>
      refine Goes.run1 [0, 0, 1, 0] [(op == 31, true), (op == 4, false)] ⟨h2, h1, trivial⟩ fun g => ?_
      refine Goes.call0 144 #[strV t] (.bool (namP t)) (fun w' _ _ => isNam_any t w' ht) ?_
      refine Goes.run [] [] trivial ?_
      exact Goes.ret [] (.bool (namP t)) fun w' hm hI => ⟨by unfold ownS; rw [h1, h2] <;> rfl, bel0 hI⟩
    | false =>
      cases h3 : (op == 24) with
      | true =>
        refine Goes.run1 [0, 0, 0, 1, 0] [(op == 24, true), (op == 31, false), (op == 4, false)] ⟨h3, h2, h1, trivial⟩ fun g => ?_
        refine Goes.call0 145 #[strV t] (.bool (curP t)) (fun w' _ _ => isCur_any t w' ht) ?_
        refine Goes.run [] [] trivial ?_
        exact Goes.ret [] (.bool (curP t)) fun w' hm hI => ⟨by unfold ownS; rw [h1, h2, h3] <;> rfl, bel0 hI⟩
      | false =>
        refine Goes.upto1 18 [0, 0, 0, 0, 0] [(op == 24, false), (op == 31, false), (op == 4, false)] ⟨h3, h2, h1, trivial⟩ fun g => ?_
        refine Goes.val (do eqGuard .eql 9 (.tmp 17) (.const (strV [])) (strV t) (strV []); binOp .eql 9 (strV t) (strV [])) (.bool (decide (t = []))) (fun w' _ _ => eqE t w') ?_
        refine Goes.run [] [] trivial ?_
        exact Goes.ret [] (.bool (decide (t = []))) fun w' hm hI => ⟨by unfold ownS; rw [h1, h2, h3] <;> rfl, bel0 hI⟩
def ownC (op k : Int) (t : List UInt8) : Bool := ownN op k && ownS op t
set_option maxRecDepth 100000 in
seal rn rnS Goes ans atEnd put0 putM opened putA0 oneSt st0 in
theorem ownC_any (ht : t.length ≤ 9223372036854775807) : Calls Tryz.prog 107 #[cv op k t (.slice a N c)] w fun e w' => e = .returned (.bool (ownC op k t)) ∧ Below w.heap.size w w' := by
  refine Goes.begin Tryz.func107 [] (fun _ => True) Holds.nil (by simp [Mem.ids]) (fun _ _ => trivial) ?_
  refine Goes.run1 [0] [] trivial fun g => ?_
  refine Goes.call0 132 #[cv op k t (.slice a N c)] (.bool (ownN op k)) (fun w' _ _ => ownN_any op k t a N c w') ?_
  cases h : ownN op k with
  | true =>
    refine Goes.run [1, 0] [(true, true)] ⟨rfl, trivial⟩ ?_
    refine Goes.call0 133 #[cv op k t (.slice a N c)] (.bool (ownS op t)) (fun w' _ _ => ownS_any op k t a N c w' ht) ?_
    refine Goes.run [] [] trivial ?_
    exact Goes.ret [] (.bool (ownS op t)) fun w' hm hI => ⟨by simp only [ownC, h, Bool.true_and], bel0 hI⟩
  | false =>
    refine Goes.run [0] [(false, false)] ⟨rfl, trivial⟩ ?_
    exact Goes.ret [] (.bool false) fun w' hm hI => ⟨by simp only [ownC, h, Bool.false_and], bel0 hI⟩
end
end Go.Proofs.YthnojedlndblbaaGreatDoor
namespace Go.Proofs.YthnojedlndblbaaGreatDoor
open Go Go.RowKit

theorem rev_any {w : World} {g : Nat} {ks : List Int} (c : Nat) (hg : w.heap[g]? = some (.cells (ks.map (Value.int .i64)).toArray 3 (0, 0))) (hl : ks.length ≤ 3) :
    Calls Tryz.prog 108 #[.slice (some ⟨g, 0, none⟩) ks.length c] w fun e w' => e = .returned (.tuple #[]) ∧ Ch [g] w w' ∧ w'.heap[g]? = some (.cells (ks.reverse.map (Value.int .i64)).toArray 3 (0, 0)) := by
  have hH : Sort.Holds (Value.int .i64) w g 0 ks.toArray := by
    intro j hj
    have hj' : j < ks.length := by simpa using hj
    unfold World.cell? World.frozen?
    simp only [hg]
    simp [hj']
  refine (Tryz.slices_Reverse_int g 0 c ks w hH (by omega)).mono fun e w' ⟨he, n, hw⟩ => ⟨he, ?_⟩
  subst hw
  refine ⟨⟨rfl, rfl, rfl, by simp [Sort.ahead], fun i hi hx => ?_⟩, ?_⟩
  · have hne : g ≠ i := fun e => hx (by simp [e])
    show (w.heap.modify g _)[i]? = _
    rw [Array.getElem?_modify, if_neg hne]
  · show (w.heap.modify g _)[g]? = _
    rw [Array.getElem?_modify, if_pos rfl, hg]
    simp only [Option.map_some, Option.some.injEq]
    clear hg hH
    match ks, hl with
    | [], _ => rfl
    | [_], _ => rfl
    | [_, _], _ => rfl
    | [_, _, _], _ => rfl
    | _ :: _ :: _ :: _ :: _, h => simp at h
end Go.Proofs.YthnojedlndblbaaGreatDoor
namespace Go.Proofs.YthnojedlndblbaaGreatDoor
open Go Go.RowKit

section
variable {P : Program} {F : Exit → Act → World → Prop} {Inv : World → Prop} {s : St}
/-- Other blocks, other facts. -/
theorem Goes.swap (m : Mem) (Inv' : World → Prop) (h : ∀ w, Holds s.mem w → s.mem.ids.Nodup → Stay s.mem.ids w Inv → Holds m w ∧ m.ids.Nodup ∧ Stay m.ids w Inv') (G : Goes P F Inv' ⟨s.todo, s.tmps, m⟩) : Goes P F Inv s := fun w hm hn hI => by
  obtain ⟨h1, h2, h3⟩ := h w hm hn hI
  exact G w h1 h2 h3
end
/-- The known blocks are apart. -/
theorem Goes.know3 {P : Program} {F : Exit → Act → World → Prop} {Inv : World → Prop} {s : St} (h : s.mem.ids.Nodup → Goes P F Inv s) : Goes P F Inv s := fun w hm hn hI => h hn w hm hn hI
theorem idxI (b n cap k : Nat) (h : k < n) (w : World) : (Instr.indexAt 97 (.slice (some ⟨b, 0, none⟩) n cap) (.int .i64 k)).run Tryz.prog w = .ok (.pointer (some ⟨b, k, none⟩)) w := by go_simp
theorem cutI (b n cap k : Nat) (h : k ≤ n) (hn : n ≤ cap) (w : World) : (Instr.sliceAt 97 (.slice (some ⟨b, 0, none⟩) n cap) none (some (.int .i64 k)) none).run Tryz.prog w = .ok (.slice (some ⟨b, 0, none⟩) k cap) w := by
  have h1 : (k : Int) ≤ (cap : Int) := by omega
  go_simp
theorem appNil (b n cap : Nat) (ty : TypeId) (hn : n ≤ cap) (w : World) : (Builtin.append_ #[97, 97] ty #[.slice (some ⟨b, 0, none⟩) n cap, .slice none 0 0]).run Tryz.prog w = .ok (.slice (some ⟨b, 0, none⟩) n cap) w := by
  go_simp
/-- What is asked of a term, in order: how many there were, and the types of those to come, the next one first. -/
def fitF (st : Int × List Int) (d : Int) : Co → (Int × List Int) × Bool
  | .mk op k t kids =>
    match st.2 with
    | [] => (st, false)
    | want :: rest =>
      match kOf op want with
      | none => ((IntKind.i64.wrap (st.1 + 1), want :: rest), false)
      | some ks =>
        bif ((kids.length : Int) != (ks.length : Int)) || !ownC op k t || decide (IntKind.i64.wrap (st.1 + 1) > 2000) || decide (d > 200) then ((IntKind.i64.wrap (st.1 + 1), want :: rest), false)
        else ((IntKind.i64.wrap (st.1 + 1), ks ++ rest), true)
/-- Its state in memory. -/
def FsJ (n₀ gs gw : Nat) (st : Int × List Int) (O : List Nat) (w : World) : Prop :=
  ∃ gb cap cur, O = [gs, gw, gb] ∧ O.Nodup ∧ (∀ x ∈ O, n₀ ≤ x) ∧ w.heap[gs]? = some (.cells #[.int .i64 st.1] 3 (0, 0)) ∧ w.heap[gw]? = some (.cells #[.slice (some ⟨gb, 0, none⟩) st.2.length cap] 97 (0, 0)) ∧ w.heap[gb]? = some (.cells cur 3 (0, 0)) ∧ (st.2.length ≤ cap ∧ 0 < cap ∧ cap ≤ maxLen) ∧ cur.size = cap ∧ cur.toList.take st.2.length = st.2.reverse.map (Value.int .i64)
theorem FsJ.stay {n₀ gs gw : Nat} {st : Int × List Int} {O : List Nat} {w w' : World} (h : FsJ n₀ gs gw st O w) (hO : ∀ x ∈ O, w'.heap[x]? = w.heap[x]?) : FsJ n₀ gs gw st O w' := by
  obtain ⟨gb, cap, cur, rfl, h1, h2, h3, h4, h5, h6⟩ := h
  exact ⟨gb, cap, cur, rfl, h1, h2, (hO gs (by simp)).trans h3, (hO gw (by simp)).trans h4, (hO gb (by simp)).trans h5, h6⟩
theorem FsJ.low {n₀ gs gw : Nat} {st : Int × List Int} {O : List Nat} {w : World} (h : FsJ n₀ gs gw st O w) : ∀ x ∈ O, n₀ ≤ x ∧ x < w.heap.size := by
  obtain ⟨gb, cap, cur, rfl, h1, h2, h3, h4, h5, h6⟩ := h
  intro x hx
  refine ⟨h2 x hx, ?_⟩
  simp only [List.mem_cons, List.not_mem_nil, or_false] at hx
  rcases hx with rfl | rfl | rfl
  · exact lt_of_get h3
  · exact lt_of_get h4
  · exact lt_of_get h5
def fitOk (st : Int × List Int) : Prop := st.2 ≠ [] ∧ 0 ≤ st.1 ∧ st.1 ≤ 2000 ∧ (st.2.length : Int) ≤ 1 + 2 * st.1
theorem Nodup.of_ids {m : Mem} {l : List Nat} (h : m.ids.Nodup) (e : m.ids = l := by kernel_rfl) : l.Nodup := e ▸ h
theorem KidsAt.form {w w' : World} {v : Value} {ks : List Int} (h : KidsAt w w' v ks) : ∃ a c, v = .slice a ks.length c := by
  rcases h with ⟨rfl, rfl⟩ | ⟨g, h1, h2, h3⟩
  · exact ⟨none, 0, rfl⟩
  · exact ⟨_, _, h2⟩
theorem stay4 {gs gw gb g : Nat} {w w2 : World} {v : Value} {ks : List Int} (hC : Ch [gs, gw, gb] w w2) (hK : KidsAt w w2 v ks) (hg : w.heap.size ≤ g) (hgk : v.ownBlock ≠ some g) (hlt : ∀ x ∈ [gs, gw, gb], x < w.heap.size) : Stay [gs, gw, gb, g] w2 (fun w' => Ch [gs, gw, gb] w w' ∧ KidsAt w w' v ks) := by
  intro w3 hc
  refine ⟨hC.trans hc (fun x hx => ?_), ?_⟩
  · simp only [List.mem_cons, List.not_mem_nil, or_false] at hx ⊢
    rcases hx with h | h | h | rfl
    · exact .inl (.inl h)
    · exact .inl (.inr (.inl h))
    · exact .inl (.inr (.inr h))
    · exact .inr hg
  · rcases hK with h | ⟨x, h1, h2, h3, h4⟩
    · exact .inl h
    · refine .inr ⟨x, h1, h2, (hc.block x (lt_of_get h3) (fun hx => ?_)).trans h3, h4⟩
      simp only [List.mem_cons, List.not_mem_nil, or_false] at hx
      rcases hx with h | h | h | h
      · have := hlt gs (by simp); omega
      · have := hlt gw (by simp); omega
      · have := hlt gb (by simp); omega
      · subst h; rw [h2] at hgk; exact hgk rfl
set_option maxRecDepth 100000 in
seal rn rnN rnS Goes ans atEnd put0 putM opened putA0 putA oneSt st0 in
theorem fit_any {n₀ gs gw : Nat} {sz want : Int} {rest : List Int} {O : List Nat} {w : World} (hJ : FsJ n₀ gs gw (sz, want :: rest) O w) (hok : fitOk (sz, want :: rest)) (d op k : Int) (t : List UInt8) (kids : List Co) (a : Option Addr) (cc : Nat) (ht : t.length ≤ 9223372036854775807) (hn : n₀ ≤ w.heap.size) :
    Calls Tryz.prog 105 #[.int .i64 d, cv op k t (.slice a kids.length cc), .pointer (some ⟨gs, 0, none⟩), .pointer (some ⟨gw, 0, none⟩)] w (WPost (fun _ => FsJ n₀ gs gw) O w (fitF (sz, want :: rest) d (.mk op k t kids))) := by
  obtain ⟨gb, cap, cur, rfl, hnd, hlow, hs, hw, hb, hcap, hcs, hcur⟩ := hJ
  obtain ⟨N, hN⟩ : ∃ N, kids.length = N := ⟨_, rfl⟩
  obtain ⟨r, hr⟩ : ∃ r, rest.length = r := ⟨_, rfl⟩
  simp only [List.length_cons, hr] at hs hw hcap hcur
  obtain ⟨S, hS⟩ : ∃ S, IntKind.i64.wrap (sz + 1) = S := ⟨_, rfl⟩
  have hrb : r ≤ 4000 := by have := hok.2.2.2; have := hok.2.2.1; simp [hr] at *; omega
  have hcell : cur[r]? = some (.int .i64 want) := by
    have h1 : (cur.toList.take (r + 1))[r]? = some (.int .i64 want) := by
      rw [hcur, List.reverse_cons, List.map_append, List.getElem?_append_right (by simp [hr])]
      simp [hr]
    rw [List.getElem?_take_of_lt (by omega)] at h1
    simpa using h1
  rw [hN]
  refine Goes.begin Tryz.func105 [(gs, .cells #[.int .i64 sz] 3 (0, 0)), (gw, .cells #[.slice (some ⟨gb, 0, none⟩) (r + 1) cap] 97 (0, 0)), (gb, .cells cur 3 (0, 0))] (fun _ => True) (fun j b o h => by match j, h with | 0, h => (cases h; exact hs) | 1, h => (cases h; exact hw) | 2, h => (cases h; exact hb)) hnd (fun _ _ => trivial) ?_
  refine Goes.run1 [0, 0, 1] [] trivial fun g => ?_
  refine Goes.slot 7 (.int .i64 r) (u := .int .i64 (IntKind.i64.wrap (((r + 1 : Nat) : Int) - 1))) (congrArg _ (by rw [IntWalk.i64_in _ ⟨by omega, by omega⟩]; omega)) ?_
  refine Goes.open [1, 2, 3] ?_
  refine Goes.run [0, 1, 2, 2, 0, 3] [] trivial ?_
  refine Goes.valA 4 (Instr.indexAt 97 (.slice (some ⟨gb, 0, none⟩) (r + 1) cap) (.int .i64 r)) (.pointer (some ⟨gb, r, none⟩)) (fun w' _ => idxI gb (r + 1) cap r (by omega) w') ?_
  refine Goes.valA 5 (Instr.loadAt 3 (.pointer (some ⟨gb, r, none⟩))) (.int .i64 want) (fun w' h => load1 Tryz.isAgg3 (by have h1 := h.get 1 (b := gb) (o := .cells cur 3 (0, 0)); unfold World.cell?; rw [h1]; simp [hcell])) ?_
  have hlt3 : ∀ x ∈ [gs, gw, gb], x < w.heap.size := by
    intro x hx
    simp only [List.mem_cons, List.not_mem_nil, or_false] at hx
    rcases hx with rfl | rfl | rfl
    · exact lt_of_get hs
    · exact lt_of_get hw
    · exact lt_of_get hb
  have hgk : ∀ (w1 w2 : World) (g : Nat) {v : Value} {ks : List Int}, g < w1.heap.size → KidsAt w1 w2 v ks → v.ownBlock ≠ some g := by
    intro w1 w2 g v ks h hK e
    rcases hK with ⟨rfl, -⟩ | ⟨x, h1, rfl, -⟩
    · cases e
    · simp only [Value.ownBlock, Option.some.injEq] at e; omega
  have no : ∀ w' : World, w'.heap[gs]? = some (.cells #[.int .i64 (IntKind.i64.wrap (sz + 1))] 3 (0, 0)) → w'.heap[gw]? = some (.cells #[.slice (some ⟨gb, 0, none⟩) (r + 1) cap] 97 (0, 0)) → w'.heap[gb]? = some (.cells cur 3 (0, 0)) → Ch [gs, gw, gb] w w' → fitF (sz, want :: rest) d (.mk op k t kids) = ((IntKind.i64.wrap (sz + 1), want :: rest), false) → WPost (fun _ => FsJ n₀ gs gw) [gs, gw, gb] w (fitF (sz, want :: rest) d (.mk op k t kids)) (.returned (.bool false)) w' := by
    intro w' h0 h1 h2 hc hf
    rw [hf]
    exact ⟨rfl, [gs, gw, gb], ⟨gb, cap, cur, rfl, hnd, hlow, h0, by simpa [hr] using h1, h2, by simpa [hr] using hcap, hcs, by simpa [hr] using hcur⟩, hc, Sub.refl _ _⟩
  cases hk0 : kOf op want with
  | none =>
    refine Goes.callA 6 106 #[.int .i64 op, .int .i64 want] fun ops m0 nn ll kk htodo w1 hm1 hn1 hI1 h0 => (kOf_any op want w1).mono fun e w2 hk => ?_
    rw [hk0] at hk
    obtain ⟨v, rfl, hB, hK⟩ := (show Kr _ w1 e w2 from hk)
    have hids : [gs, gw, gb, g].Nodup := Nodup.of_ids hn1
    have hgL : g ∉ [gs, gw, gb] := by simp only [List.nodup_cons, List.mem_cons, List.not_mem_nil, or_false, not_or] at hids ⊢; exact ⟨fun e => hids.1.2.2 e.symm, fun e => hids.2.1.2 e.symm, fun e => hids.2.2.1 e.symm⟩
    have hgw : w.heap.size ≤ g := fresh_of hI1 (g := g) (ids_get (j := 3) (o := cO op k t (.slice a N cc)) (by kernel_rfl)) hgL
    have hK1 : KidsAt w w2 v [] := by
      rcases hK with h | ⟨x, h1, h2⟩
      · exact .inl h
      · exact .inr ⟨x, Nat.le_trans hI1.now.1.size h1, h2⟩
    have hC2 : Ch [gs, gw, gb] w w2 := (show Ch [gs, gw, gb] w w1 from hI1.now.1).trans (L' := []) ⟨hB.os, hB.tape, hB.output, hB.size, fun i hi _ => hB.block i hi⟩ (fun x hx => by cases hx)
    obtain ⟨ka, kc, rfl⟩ := hK1.form
    have hg2 : g < w1.heap.size := lt_of_get (hm1.get 3 (o := cO op k t (.slice a N cc)))
    refine ⟨_, fun w' => Ch [gs, gw, gb] w w' ∧ KidsAt w w' (.slice ka 0 kc) [], [(gs, .cells #[.int .i64 (IntKind.i64.wrap (sz + 1))] 3 (0, 0)), (gw, .cells #[.slice (some ⟨gb, 0, none⟩) (r + 1) cap] 97 (0, 0)), (gb, .cells cur 3 (0, 0)), (g, cO op k t (.slice a N cc))], rfl, fun j b o h => (hB.block b (lt_of_get (h0 j b o h))).trans (h0 j b o h), fun j b o h => by
      match j, h with
      | 0, h => cases h; exact (hB.block gs (lt_of_get (hm1.get 0 (b := gs) (o := .cells #[.int .i64 (IntKind.i64.wrap (sz + 1))] 3 (0, 0))))).trans (hm1.get 0)
      | 1, h => cases h; exact (hB.block gw (lt_of_get (hm1.get 1 (b := gw) (o := .cells #[.slice (some ⟨gb, 0, none⟩) (r + 1) cap] 97 (0, 0))))).trans (hm1.get 1)
      | 2, h => cases h; exact (hB.block gb (lt_of_get (hm1.get 2 (b := gb) (o := .cells cur 3 (0, 0))))).trans (hm1.get 2)
      | 3, h => cases h; exact (hB.block g hg2).trans (hm1.get 3), hids, stay4 hC2 hK1 hgw (hgk w1 w2 g hg2 hK) hlt3, ?_⟩
    refine Goes.run [7, 8, 9, 10, 11] [] trivial ?_
    refine Goes.run [1, 1, 1, 1, 1] [(true, true), (true, true), (true, true), (true, true), (true, true)] ⟨rfl, rfl, rfl, rfl, rfl, trivial⟩ ?_
    exact Goes.ret [] (.bool false) fun w' hm hI => no w' (hm.get 0) (hm.get 1) (hm.get 2) hI.now.1 (by simp only [fitF, hk0])
  | some ks =>
    refine Goes.callA 6 106 #[.int .i64 op, .int .i64 want] fun ops m0 nn ll kk htodo w1 hm1 hn1 hI1 h0 => (kOf_any op want w1).mono fun e w2 hk => ?_
    rw [hk0] at hk
    obtain ⟨v, rfl, hB, hK⟩ := (show Kr _ w1 e w2 from hk)
    have hids : [gs, gw, gb, g].Nodup := Nodup.of_ids hn1
    have hgL : g ∉ [gs, gw, gb] := by simp only [List.nodup_cons, List.mem_cons, List.not_mem_nil, or_false, not_or] at hids ⊢; exact ⟨fun e => hids.1.2.2 e.symm, fun e => hids.2.1.2 e.symm, fun e => hids.2.2.1 e.symm⟩
    have hgw : w.heap.size ≤ g := fresh_of hI1 (g := g) (ids_get (j := 3) (o := cO op k t (.slice a N cc)) (by kernel_rfl)) hgL
    have hK1 : KidsAt w w2 v ks := by
      rcases hK with h | ⟨x, h1, h2⟩
      · exact .inl h
      · exact .inr ⟨x, Nat.le_trans hI1.now.1.size h1, h2⟩
    have hC2 : Ch [gs, gw, gb] w w2 := (show Ch [gs, gw, gb] w w1 from hI1.now.1).trans (L' := []) ⟨hB.os, hB.tape, hB.output, hB.size, fun i hi _ => hB.block i hi⟩ (fun x hx => by cases hx)
    obtain ⟨ka, kc, rfl⟩ := hK1.form
    have hg2 : g < w1.heap.size := lt_of_get (hm1.get 3 (o := cO op k t (.slice a N cc)))
    refine ⟨_, fun w' => Ch [gs, gw, gb] w w' ∧ KidsAt w w' (.slice ka ks.length kc) ks, [(gs, .cells #[.int .i64 (IntKind.i64.wrap (sz + 1))] 3 (0, 0)), (gw, .cells #[.slice (some ⟨gb, 0, none⟩) (r + 1) cap] 97 (0, 0)), (gb, .cells cur 3 (0, 0)), (g, cO op k t (.slice a N cc))], rfl, fun j b o h => (hB.block b (lt_of_get (h0 j b o h))).trans (h0 j b o h), fun j b o h => by
      match j, h with
      | 0, h => cases h; exact (hB.block gs (lt_of_get (hm1.get 0 (b := gs) (o := .cells #[.int .i64 (IntKind.i64.wrap (sz + 1))] 3 (0, 0))))).trans (hm1.get 0)
      | 1, h => cases h; exact (hB.block gw (lt_of_get (hm1.get 1 (b := gw) (o := .cells #[.slice (some ⟨gb, 0, none⟩) (r + 1) cap] 97 (0, 0))))).trans (hm1.get 1)
      | 2, h => cases h; exact (hB.block gb (lt_of_get (hm1.get 2 (b := gb) (o := .cells cur 3 (0, 0))))).trans (hm1.get 2)
      | 3, h => cases h; exact (hB.block g hg2).trans (hm1.get 3), hids, stay4 hC2 hK1 hgw (hgk w1 w2 g hg2 hK) hlt3, ?_⟩
    refine Goes.run [7, 8, 9, 10, 11] [] trivial ?_
    have hfit : fitF (sz, want :: rest) d (.mk op k t kids) = bif ((N : Int) != (ks.length : Int)) || !ownC op k t || decide (IntKind.i64.wrap (sz + 1) > 2000) || decide (d > 200) then ((IntKind.i64.wrap (sz + 1), want :: rest), false) else ((IntKind.i64.wrap (sz + 1), ks ++ rest), true) := by simp only [fitF, hk0, hN]
    obtain ⟨M, hM⟩ : ∃ M, ks.length = M := ⟨_, rfl⟩
    rw [hM] at hfit ⊢
    cases hne : ((N : Int) != (M : Int)) with
    | true =>
      refine Goes.run [0, 3, 1, 1, 1, 1] [(true, true), (true, true), (true, true), ((N : Int) != (M : Int), true), (false, false)] ⟨rfl, rfl, rfl, hne, rfl, trivial⟩ ?_
      exact Goes.ret [] (.bool false) fun w' hm hI => no w' (hm.get 0) (hm.get 1) (hm.get 2) hI.now.1 (by rw [hfit, hne] <;> rfl)
    | false =>
      refine Goes.run [0, 3, 0, 3] [((N : Int) != (M : Int), false), (false, false)] ⟨hne, rfl, trivial⟩ ?_
      refine Goes.call0 107 #[cv op k t (.slice a N cc)] (.bool (ownC op k t)) (fun w' _ _ => ownC_any op k t a N cc w' ht) ?_
      cases hown : ownC op k t with
      | false =>
        refine Goes.run [1, 1, 1] [(true, true), (true, true), (true, true)] ⟨rfl, rfl, rfl, trivial⟩ ?_
        exact Goes.ret [] (.bool false) fun w' hm hI => no w' (hm.get 0) (hm.get 1) (hm.get 2) hI.now.1 (by rw [hfit, hne, hown] <;> rfl)
      | true =>
        cases hbig : decide (IntKind.i64.wrap (sz + 1) > 2000) with
        | true =>
          refine Goes.run [0, 0, 1, 1] [(true, true), (decide (IntKind.i64.wrap (sz + 1) > 2000), true), (false, false)] ⟨rfl, hbig, rfl, trivial⟩ ?_
          exact Goes.ret [] (.bool false) fun w' hm hI => no w' (hm.get 0) (hm.get 1) (hm.get 2) hI.now.1 (by rw [hfit, hne, hown, hbig] <;> rfl)
        | false =>
          cases hdeep : decide (d > 200) with
          | true =>
            refine Goes.run [0, 0, 0, 1] [(decide (d > 200), true), (decide (IntKind.i64.wrap (sz + 1) > 2000), false), (false, false)] ⟨hdeep, hbig, rfl, trivial⟩ ?_
            exact Goes.ret [] (.bool false) fun w' hm hI => no w' (hm.get 0) (hm.get 1) (hm.get 2) hI.now.1 (by rw [hfit, hne, hown, hbig, hdeep] <;> rfl)
          | false =>
            refine Goes.run [0, 0, 0, 0] [(decide (d > 200), false), (decide (IntKind.i64.wrap (sz + 1) > 2000), false), (false, false)] ⟨hdeep, hbig, rfl, trivial⟩ ?_
            have hyes : fitF (sz, want :: rest) d (.mk op k t kids) = ((IntKind.i64.wrap (sz + 1), ks ++ rest), true) := by rw [hfit, hne, hown, hbig, hdeep] <;> rfl
            rw [hyes]
            have hcutr : cur.toList.take r = rest.reverse.map (Value.int .i64) := by
              have h1 : (cur.toList.take (r + 1)).take r = ((want :: rest).reverse.map (Value.int .i64)).take r := by rw [hcur]
              rw [List.take_take, Nat.min_eq_left (by omega), List.reverse_cons, List.map_append, List.take_append_of_le_length (by simp [hr])] at h1
              rw [h1, List.take_of_length_le (by simp [hr])]
            rcases hK1 with ⟨hv, hks⟩ | ⟨gk, hk1, hv, hk2, hpos, hk3⟩
            · subst hks
              simp only [List.length_nil, Value.slice.injEq] at hv hM
              obtain ⟨rfl, -, rfl⟩ := hv
              subst hM
              refine Goes.call0 108 #[.slice none 0 0] (.tuple #[]) (fun w' _ _ => (Tryz.slices_Reverse_int_empty none 0 w').mono fun e w'' ⟨h1, h2⟩ => ⟨h1, h2 ▸ Below.refl _ _⟩) ?_
              refine Goes.run [1] [] trivial ?_
              refine Goes.val (Instr.sliceAt 97 (.slice (some ⟨gb, 0, none⟩) (r + 1) cap) none (some (.int .i64 r)) none) (.slice (some ⟨gb, 0, none⟩) r cap) (fun w' _ _ => cutI gb (r + 1) cap r (by omega) hcap.1 w') ?_
              refine Goes.run [] [] trivial ?_
              refine Goes.val (Builtin.append_ #[97, 97] 97 #[.slice (some ⟨gb, 0, none⟩) r cap, .slice none 0 0]) (.slice (some ⟨gb, 0, none⟩) r cap) (fun w' _ _ => appNil gb r cap _ (by omega) w') ?_
              refine Goes.run [1] [] trivial ?_
              exact Goes.ret [] (.bool true) fun w' hm hI => ⟨rfl, [gs, gw, gb], ⟨gb, cap, cur, rfl, hnd, hlow, hm.get 0, (hm.get 1 (b := gw) (o := .cells #[.slice (some ⟨gb, 0, none⟩) r cap] 97 (0, 0))).trans (by simp [hr]), hm.get 2, by simp [hr]; omega, hcs, by simpa [hr] using hcutr⟩, hI.now.1, Sub.refl _ _⟩
            · rw [hM] at hv hpos hk3
              simp only [Value.slice.injEq] at hv
              obtain ⟨rfl, -, hkc⟩ := hv
              have hkc := hkc.symm
              subst hkc
              refine Goes.swap [(gs, .cells #[.int .i64 (IntKind.i64.wrap (sz + 1))] 3 (0, 0)), (gw, .cells #[.slice (some ⟨gb, 0, none⟩) (r + 1) cap] 97 (0, 0)), (gb, .cells cur 3 (0, 0)), (gk, .cells (ks.map (Value.int .i64)).toArray 3 (0, 0))] (fun w' => Ch [gs, gw, gb] w w') (fun w' hm _ hI => ⟨?_, ?_, ?_⟩) ?_
              · have hkk : w'.heap[gk]? = some (.cells (ks.map (Value.int .i64)).toArray 3 (0, 0)) := by
                  rcases hI.now.2 with ⟨h, -⟩ | ⟨x, _, h, h2, _⟩
                  · cases h
                  · cases h; exact h2
                intro j b o h
                match j, h with
                | 0, h => cases h; exact hm.get 0
                | 1, h => cases h; exact hm.get 1
                | 2, h => cases h; exact hm.get 2
                | 3, h => cases h; exact hkk
              · have h1 := hlt3 gs (by simp)
                have h2 := hlt3 gw (by simp)
                have h3 := hlt3 gb (by simp)
                show [gs, gw, gb, gk].Nodup
                simp only [List.nodup_cons, List.mem_cons, List.not_mem_nil, or_false, not_or] at hnd ⊢
                refine ⟨⟨hnd.1.1, hnd.1.2, by omega⟩, ⟨hnd.2.1, by omega⟩, by omega, by simp⟩
              · intro w3 hc
                refine hI.now.1.trans hc fun x hx => ?_
                simp only [Mem.ids, List.map_cons, List.map_nil, List.mem_cons, List.not_mem_nil, or_false] at hx ⊢
                rcases hx with h | h | h | rfl
                · exact .inl (.inl h)
                · exact .inl (.inr (.inl h))
                · exact .inl (.inr (.inr h))
                · exact .inr hk1
              refine Goes.call2 3 gk 108 #[.slice (some ⟨gk, 0, none⟩) M M] (.tuple #[]) (.cells (ks.reverse.map (Value.int .i64)).toArray 3 (0, 0)) (fun w' hm _ => by have := rev_any (w := w') (g := gk) (ks := ks) M (hm.get 3) (by omega); rwa [hM] at this) ?_
              refine Goes.run [1] [] trivial ?_
              refine Goes.val (Instr.sliceAt 97 (.slice (some ⟨gb, 0, none⟩) (r + 1) cap) none (some (.int .i64 r)) none) (.slice (some ⟨gb, 0, none⟩) r cap) (fun w' _ _ => cutI gb (r + 1) cap r (by omega) hcap.1 w') ?_
              refine Goes.run [] [] trivial ?_
              refine Goes.eff (Builtin.append_ #[97, 97] 97 #[.slice (some ⟨gb, 0, none⟩) r cap, .slice (some ⟨gk, 0, none⟩) M M]) fun w5 hm5 hn5 hI5 => ?_
              have hown0 : w5.ownsRow n₀ 3 1 (.slice (some ⟨gb, 0, none⟩) r cap) r (rest.reverse.map (Value.int .i64)) := ⟨by simp [hr], .inr ⟨gb, cap, cur, rfl, hlow gb (by simp), hm5.get 2, by omega, hcap.2.2, by omega, by simpa using hcutr⟩⟩
              obtain ⟨a', c', w6, hrun, hown', hgr, hob⟩ := append_core (P := Tryz.prog) (t := 97) (ty := 97) (c := M) (m := M) (j := 3) (bytes := 8) (z := (0, 0)) (et := 3) (news := ks.reverse.map (Value.int .i64)) hm5 hown0 (Nat.le_trans hn hI5.now.size) (by simp [hM]) (fun u hu => by obtain ⟨x, -, rfl⟩ := List.mem_map.1 hu; rfl) hpos (by unfold maxLen; omega) (by omega) (by kernel_rfl) (by kernel_rfl)
              rcases hown'.2 with ⟨e, -⟩ | ⟨g', cap', cur', e, hg'0, hg', hc1, hc2, hc3, hc4⟩
              · exfalso; simp only [Value.slice.injEq] at e; omega
              simp only [Value.slice.injEq] at e
              obtain ⟨rfl, -, hcc⟩ := e
              subst hcc
              have hg6 : g' = gb ∨ g' = w5.heap.size := by simpa [Value.ownBlock] using hob
              have hgb5 : gb < w5.heap.size := lt_of_get (hm5.get 2 (b := gb) (o := .cells cur 3 (0, 0)))
              have hgs5 : gs < w5.heap.size := lt_of_get (hm5.get 0 (b := gs) (o := .cells #[.int .i64 (IntKind.i64.wrap (sz + 1))] 3 (0, 0)))
              have hgw5 : gw < w5.heap.size := lt_of_get (hm5.get 1 (b := gw) (o := .cells #[.slice (some ⟨gb, 0, none⟩) (r + 1) cap] 97 (0, 0)))
              have hnd2 : ¬gs = gw ∧ ¬gs = gb ∧ ¬gw = gb := by simp only [List.nodup_cons, List.mem_cons, List.not_mem_nil, or_false, not_or] at hnd; exact ⟨hnd.1.1, hnd.1.2, hnd.2.1⟩
              have hg's : g' ≠ gs ∧ g' ≠ gw := by rcases hg6 with h | h <;> subst h <;> constructor <;> omega
              have hC6 : Ch [gs, gw, gb] w w6 := hI5.now.trans (L' := [gb]) ⟨hgr.os, hgr.tape, hgr.output, hgr.size, fun i hi hx => hgr.block i hi (fun e => hx (by simp only [Value.ownBlock, Option.some.injEq] at e; simp [e]))⟩ (fun x hx => .inl (by simp only [List.mem_singleton] at hx; simp [hx]))
              refine ⟨_, w6, fun w' => Ch [gs, gw, gb] w w' ∧ w'.heap[g']? = some (.cells cur' 3 (0, 0)), [(gs, .cells #[.int .i64 (IntKind.i64.wrap (sz + 1))] 3 (0, 0)), (gw, .cells #[.slice (some ⟨gb, 0, none⟩) (r + 1) cap] 97 (0, 0))], hrun, fun j b o h => ?_, ?_, fun w7 hc => ⟨hC6.trans hc (fun x hx => .inl ?_), (hc.block g' (lt_of_get hg') ?_).trans hg'⟩, ?_⟩
              · match j, h with
                | 0, h => cases h; exact (hgr.block gs hgs5 (by simp only [Value.ownBlock, ne_eq, Option.some.injEq]; exact hnd2.2.1)).trans (hm5.get 0)
                | 1, h => cases h; exact (hgr.block gw hgw5 (by simp only [Value.ownBlock, ne_eq, Option.some.injEq]; exact hnd2.2.2)).trans (hm5.get 1)
              · simp [Mem.ids, hnd2.1]
              · simp only [Mem.ids, List.map_cons, List.map_nil, List.mem_cons, List.not_mem_nil, or_false] at hx ⊢
                rcases hx with h | h
                · exact .inl h
                · exact .inr (.inl h)
              · simp only [Mem.ids, List.map_cons, List.map_nil, List.mem_cons, List.not_mem_nil, or_false, not_or]
                exact hg's
              refine Goes.run [1] [] trivial ?_
              exact Goes.ret [] (.bool true) fun w' hm hI => by
                refine ⟨rfl, [gs, gw, g'], ⟨g', c', cur', rfl, ?_, ?_, hm.get 0, (hm.get 1 (b := gw) (o := .cells #[.slice (some ⟨g', 0, none⟩) (r + M) c'] 97 (0, 0))).trans ?_, hI.now.2, ?_, by omega, ?_⟩, hI.now.1, ?_⟩
                · simp only [List.nodup_cons, List.mem_cons, List.not_mem_nil, or_false, not_or]
                  exact ⟨⟨hnd2.1, fun e => hg's.1 e.symm⟩, fun e => hg's.2 e.symm, by simp, by simp⟩
                · intro x hx
                  simp only [List.mem_cons, List.not_mem_nil, or_false] at hx
                  rcases hx with rfl | rfl | rfl
                  · exact hlow _ (by simp)
                  · exact hlow _ (by simp)
                  · exact hg'0
                · simp only [List.length_append, hM, hr, Nat.add_comm]
                · simp only [List.length_append, hM, hr]; omega
                · have : (ks ++ rest).length = (r + M) * 1 := by simp only [List.length_append, hM, hr]; omega
                  show cur'.toList.take (ks ++ rest).length = _
                  rw [this, hc4]; simp
                · intro x hx
                  simp only [List.mem_cons, List.not_mem_nil, or_false] at hx ⊢
                  rcases hx with h | h | h
                  · exact .inl (.inl h)
                  · exact .inl (.inr (.inl h))
                  · rcases hg6 with h' | h'
                    · exact .inl (.inr (.inr (h.trans h')))
                    · exact .inr (by have := hI5.now.size; omega)
end Go.Proofs.YthnojedlndblbaaGreatDoor
namespace Go.Proofs.YthnojedlndblbaaGreatDoor
open Go Go.RowKit

def fitV (gs gw : Nat) : Value := .func (.func 105) #[] #[.pointer (some ⟨gs, 0, none⟩), .pointer (some ⟨gw, 0, none⟩)]
set_option maxRecDepth 100000 in
seal rn rnN rnS Goes ans atEnd put0 putM opened putA0 putA oneSt st0 in
theorem fitting_any (want : Int) (w : World) : Calls Tryz.prog 68 #[.int .i64 want] w fun e w' => ∃ gs gw O, e = .returned (fitV gs gw) ∧ FsJ w.heap.size gs gw (0, [want]) O w' ∧ Below w.heap.size w w' := by
  refine Goes.begin Tryz.func68 [] (fun _ => True) Holds.nil (by simp [Mem.ids]) (fun _ _ => trivial) ?_
  refine Goes.run3 [1, 2] [] trivial fun gb gw gs => ?_
  refine Goes.know3 fun hids => ?_
  exact Goes.ret [] (fitV gs gw) fun w' hm hI => by
    have f0 : w.heap.size ≤ gb := fresh_of hI (g := gb) (ids_get (j := 0) (o := .cells #[.int .i64 want] 3 (0, 0)) (by kernel_rfl)) (by simp [Mem.ids])
    have f1 : w.heap.size ≤ gw := fresh_of hI (g := gw) (ids_get (j := 1) (o := .cells #[.slice (some ⟨gb, 0, none⟩) 1 1] 97 (0, 0)) (by kernel_rfl)) (by simp [Mem.ids])
    have f2 : w.heap.size ≤ gs := fresh_of hI (g := gs) (ids_get (j := 2) (o := .cells #[.int .i64 0] 3 (0, 0)) (by kernel_rfl)) (by simp [Mem.ids])
    have hd : [gb, gw, gs].Nodup := Nodup.of_ids hids
    refine ⟨gs, gw, [gs, gw, gb], rfl, ⟨gb, 1, #[.int .i64 want], rfl, ?_, ?_, hm.get 2, hm.get 1, hm.get 0, by simp [maxLen], rfl, rfl⟩, bel0 hI⟩
    · simp only [List.nodup_cons, List.mem_cons, List.not_mem_nil, or_false, not_or] at hd ⊢
      exact ⟨⟨fun e => hd.2.1 e.symm, fun e => hd.1.2 e.symm⟩, fun e => hd.1.1 e.symm, by simp, by simp⟩
    · intro x hx
      simp only [List.mem_cons, List.not_mem_nil, or_false] at hx
      rcases hx with rfl | rfl | rfl <;> assumption
def termsV (g : Nat) : Value := .func (.func 109) #[] #[.pointer (some ⟨g, 0, none⟩)]
set_option maxRecDepth 100000 in
seal rn rnN rnS Goes ans atEnd put0 putM opened putA0 putA oneSt st0 in
theorem terms_any (op k : Int) (t : List UInt8) (a : Option Addr) (N c : Nat) (w : World) : Calls Tryz.prog 69 #[cv op k t (.slice a N c)] w fun e w' => ∃ g, e = .returned (termsV g) ∧ w'.heap[g]? = some (cO op k t (.slice a N c)) ∧ w.heap.size ≤ g ∧ Below w.heap.size w w' := by
  refine Goes.begin Tryz.func69 [] (fun _ => True) Holds.nil (by simp [Mem.ids]) (fun _ _ => trivial) ?_
  refine Goes.run1 [] [] trivial fun g => ?_
  exact Goes.ret [] (termsV g) fun w' hm hI => ⟨g, rfl, hm.get 0, fresh_of hI (g := g) (ids_get (j := 0) (o := cO op k t (.slice a N c)) (by kernel_rfl)) (by simp [Mem.ids]), bel0 hI⟩
theorem cl_of_cO {w : World} {g : Nat} {op k : Int} {t : List UInt8} {v : Value} (h : w.heap[g]? = some (cO op k t v)) : Cl4 w g 0 (cv op k t v) := by
  refine ⟨op, k, t, v, rfl, ?_, ?_, ?_, ?_⟩ <;> unfold World.cell? <;> rw [h] <;> rfl
set_option maxRecDepth 100000 in
seal rn rnN rnS Goes ans atEnd put0 putM opened putA0 putA oneSt st0 in
theorem iter_any {σ : Type} {n₀ l : Nat} {f : σ → Int → Co → σ × Bool} {ok : σ → Prop} {J : Bool → σ → List Nat → World → Prop} (Y : Yl n₀ l f ok J) {c : Co} {op k : Int} {t : List UInt8} {a : Option Addr} {N cc g : Nat} {w : World} {s : σ} {O : List Nat} (hsafe : safeP f ok s 1 c) (hJ : J true s O w) (hN : Nc n₀ w (cv op k t (.slice a N cc)) c) (hn : n₀ ≤ w.heap.size) (hg : w.heap[g]? = some (cO op k t (.slice a N cc))) :
    Calls Tryz.prog 109 #[.func (.yield l) #[] #[], .pointer (some ⟨g, 0, none⟩)] w fun e w' => e = .returned (.tuple #[]) ∧ ∃ O', J (walkP f s 1 c).2 (walkP f s 1 c).1 O' w' ∧ Ch O w w' ∧ Sub w O O' := by
  refine Goes.enter Tryz.func109 [] (fun w' => Ch [] w w') Holds.nil (by simp [Mem.ids]) (fun w' hc => hc) ?_
  refine Goes.run [] [] trivial ?_
  refine Goes.val (Instr.loadAt 24 (.pointer (some ⟨g, 0, none⟩))) (cv op k t (.slice a N cc)) (fun w' _ hI => loadC (cl_of_cO ((hI.now.block g (lt_of_get hg) (by simp)).trans hg))) ?_
  refine Goes.run [] [] trivial ?_
  refine Goes.call 110 #[cv op k t (.slice a N cc), .int .i64 1, .func (.yield l) #[] #[]] fun w1 hm1 hn1 hI1 => ?_
  have hc1 : Ch [] w w1 := hI1.now
  refine (walk_any Y c _ w1 s O 1 hsafe (Y.stay _ _ _ _ _ hJ (fun x hx => hc1.block x (Y.low _ _ _ _ hJ x hx).2 (by simp))) (hN.later (hc1.low (fun x hx => by cases hx) hn)) (Nat.le_trans hn hc1.size)).mono fun e w2 ⟨he, O', h1, h2, h3⟩ => ?_
  refine ⟨_, fun w' => Ch O w w' ∧ J (walkP f s 1 c).2 (walkP f s 1 c).1 O' w' ∧ Sub w O O', [], he, Holds.nil, by simp [Mem.ids], fun w3 hc => ⟨((hc1.mono (fun x hx => by cases hx)).trans h2 (fun x hx => .inl hx)).trans hc (fun x hx => by cases hx), Y.stay _ _ _ _ _ h1 (fun x hx => hc.block x (Y.low _ _ _ _ h1 x hx).2 (by simp [Mem.ids])), fun x hx => ?_⟩, ?_⟩
  · rcases h3 x hx with e | e
    · exact .inl e
    · exact .inr (Nat.le_trans hc1.size e)
  refine Goes.run [] [] trivial ?_
  exact Goes.ret [] (.tuple #[]) fun w' hm hI => ⟨rfl, O', hI.now.2.1, hI.now.1, hI.now.2.2⟩
end Go.Proofs.YthnojedlndblbaaGreatDoor
namespace Go.Proofs.YthnojedlndblbaaGreatDoor
open Go Go.RowKit

/-- What the round's state is: the loop's record, and what the closure keeps. -/
def IsJ (n₀ l D g4 g5 gs gw : Nat) (fid : FuncId) (s : St) (b : Bool) (st : Int × List Int) (O : List Nat) (w : World) : Prop :=
  w.heap[l]? = some (.loop (recOf fid D s (bif b then .ready else .done) (bif b then none else some .ret))) ∧ w.heap[D]? = some (.deferred (some [])) ∧ w.heap[g4]? = some (.cells #[.bool false] 4 (0, 0)) ∧ w.heap[g5]? = some (.cells #[fitV gs gw] 107 (0, 0)) ∧
    ∃ O', FsJ n₀ gs gw st O' w ∧ O = l :: D :: g4 :: g5 :: O' ∧ O.Nodup ∧ n₀ ≤ l ∧ n₀ ≤ D ∧ n₀ ≤ g4 ∧ n₀ ≤ g5
theorem IsJ.stay {n₀ l D g4 g5 gs gw : Nat} {fid : FuncId} {s : St} {b : Bool} {st : Int × List Int} {O : List Nat} {w w' : World} (h : IsJ n₀ l D g4 g5 gs gw fid s b st O w) (hO : ∀ x ∈ O, w'.heap[x]? = w.heap[x]?) : IsJ n₀ l D g4 g5 gs gw fid s b st O w' := by
  obtain ⟨h1, h2, h3, h4, O', h5, rfl, h6⟩ := h
  exact ⟨(hO l (by simp)).trans h1, (hO D (by simp)).trans h2, (hO g4 (by simp)).trans h3, (hO g5 (by simp)).trans h4, O', h5.stay (fun x hx => hO x (by simp [hx])), rfl, h6⟩
theorem IsJ.low {n₀ l D g4 g5 gs gw : Nat} {fid : FuncId} {s : St} {b : Bool} {st : Int × List Int} {O : List Nat} {w : World} (h : IsJ n₀ l D g4 g5 gs gw fid s b st O w) : ∀ x ∈ O, n₀ ≤ x ∧ x < w.heap.size := by
  obtain ⟨h1, h2, h3, h4, O', h5, rfl, -, h6, h7, h8, h9⟩ := h
  intro x hx
  simp only [List.mem_cons] at hx
  rcases hx with rfl | rfl | rfl | rfl | hx
  · exact ⟨h6, lt_of_get h1⟩
  · exact ⟨h7, lt_of_get h2⟩
  · exact ⟨h8, lt_of_get h3⟩
  · exact ⟨h9, lt_of_get h4⟩
  · exact h5.low x hx
/-- The function's regions. -/
noncomputable def rI (i : Nat) : Array Oper := regAt (Tryz.f39.body.getD .skip) i
noncomputable def isA : Code := .seq (.region 3 (rI 3) false) (.region 4 (rI 4) false)
noncomputable def isB : Code := .block 1 (.seq (.region 5 (rI 5) false) (.cond (.tmp 18) (.seq (.region 6 (rI 6) false) .ret) .skip))
def isT (v : Value) (want : Int) (g2 g4 g5 gs gw gt : Nat) (x y : Value) : List Value := [v, .int .i64 want, .pointer (some ⟨g2, 0, none⟩), undef, .pointer (some ⟨g4, 0, none⟩), .pointer (some ⟨g5, 0, none⟩), undef, undef, .int .i64 want, fitV gs gw, v, termsV gt, x, y, undef, undef, undef, undef, undef]
theorem FsJ.more {n n' gs gw : Nat} {st : Int × List Int} {O : List Nat} {w : World} (h : FsJ n gs gw st O w) (hn : n' ≤ n) : FsJ n' gs gw st O w := by
  obtain ⟨gb, cap, cur, h0, h1, h2, h3⟩ := h
  exact ⟨gb, cap, cur, h0, h1, fun x hx => Nat.le_trans hn (h2 x hx), h3⟩
set_option maxRecDepth 100000 in
seal orT orG rI in
theorem isOf_round {n₀ l D g2 g4 g5 gs gw gt : Nat} {fid : FuncId} {s : St} {v0 : Value} {want : Int} (hT : s.tmps = isT v0 want g2 g4 g5 gs gw gt undef undef) (hps : rgPs s = #[12, 13]) (hA : rgAssign s = isA) (hB : rgBody s = isB) : Yl n₀ l fitF fitOk (IsJ n₀ l D g4 g5 gs gw fid s) where
  stay := fun b st O w w' h hO => h.stay hO
  low := fun b st O w h => h.low
  yield := by
    intro st O W d v c hok hJ hN hn
    cases c with
    | mk op k t kids =>
    obtain ⟨a, cc, rfl, hf, -, -⟩ := hN.open
    obtain ⟨sz, stk⟩ := st
    obtain ⟨want', rest, rfl⟩ : ∃ x y, stk = x :: y := by cases stk with | nil => exact absurd rfl hok.1 | cons x y => exact ⟨x, y, rfl⟩
    obtain ⟨h1, h2, h3, h4, O', h5, rfl, hnd, i1, i2, i3, i4⟩ := hJ
    simp only [cond_true] at h1
    have hlo := h5.low
    have hl1 := lt_of_get h1
    have hl4 := lt_of_get h3
    have hl5 := lt_of_get h4
    have hlD := lt_of_get h2
    simp only [List.nodup_cons, List.mem_cons, not_or] at hnd
    obtain ⟨⟨nD, n4, n5, nO⟩, ⟨m4, m5, mO⟩, ⟨k5, kO⟩, jO, ndO⟩ := hnd
    refine round_of (T := isT v0 want g2 g4 g5 gs gw gt (.int .i64 d) (cv op k t (.slice a kids.length cc))) h1 (by rw [hps]; rfl) (by rw [hps, hT]; kernel_rfl) ?_
    rw [hA]
    refine wpIn_seq (wpIn_region ?_)
    refine wi_runs (m := []) [(0, 0)] (rest := []) Holds.nil (by simp [Mem.ids]) fun w1 _ _ _ _ d1 => ?_
    have hw1 := d1 (by kernel_rfl)
    subst w1
    show (Code.region 4 (rI 4) false).wpIn _ _ _ _ _ _
    refine wpIn_region ?_
    rw [show List.range (rI 4).size = [0, 1] by kernel_rfl]
    refine wi_new 0 (rest := [1]) (m := []) Holds.nil (by simp [Mem.ids]) fun g7 w2 hg7 m2 n2 c2 _ => ?_
    refine wi_runs [(1, 0)] (rest := []) m2 n2 fun w3 m3 n3 c3 _ _ => ?_
    have e2 : (orG Tryz.prog (rI 4) 0 g7 (orT Tryz.prog (rI 3) [(0, 0)] (isT v0 want g2 g4 g5 gs gw gt (.int .i64 d) (cv op k t (.slice a kids.length cc))) []).T []).m.ids = [g7] := by kernel_rfl
    have q1 : Ch [] W w3 := c2.trans c3 (fun x hx => .inr (by rw [e2, List.mem_singleton] at hx; omega))
    have r7 : w3.heap[g7]? = some (cO op k t (.slice a kids.length cc)) := m3.get 0
    show ∃ w₂, _ ∧ _
    have hl3 : w3.heap[l]? = some (.loop (recOf fid D s .ready none)) := (q1.block l hl1 (by simp)).trans h1
    refine ⟨_, run_beginRound hl3 rfl, ?_⟩
    have hl3' := lt_of_get hl3
    have hs3 : W.heap.size ≤ w3.heap.size := q1.size
    have c4 := Ch.put w3 l (.loop { recOf fid D s .ready none with state := .busy })
    have l4 : (w3.putObj l (.loop { recOf fid D s .ready none with state := .busy })).heap[l]? = some (.loop { recOf fid D s .ready none with state := .busy }) := World.putObj_heap_same hl3'
    generalize w3.putObj l (.loop { recOf fid D s .ready none with state := .busy }) = w4 at c4 l4 ⊢
    have q4 : Ch [l] W w4 := (q1.mono (fun x hx => by cases hx)).trans c4 (fun x hx => .inl hx)
    have r7' : w4.heap[g7]? = some (cO op k t (.slice a kids.length cc)) := (c4.block g7 (lt_of_get r7) (by simp; omega)).trans r7
    have f5 : w4.heap[g5]? = some (.cells #[fitV gs gw] 107 (0, 0)) := (q4.block g5 hl5 (by simp; exact fun e => n5 e.symm)).trans h4
    have f4 : w4.heap[g4]? = some (.cells #[.bool false] 4 (0, 0)) := (q4.block g4 hl4 (by simp; exact fun e => n4 e.symm)).trans h3
    have fD : w4.heap[D]? = some (.deferred (some [])) := (q4.block D hlD (by simp; exact fun e => nD e.symm)).trans h2
    have f6 : FsJ n₀ gs gw (sz, want' :: rest) O' w4 := h5.stay (fun x hx => q4.block x (hlo x hx).2 (by simp; rintro rfl; exact nO hx))
    rw [hB]
    refine wpIn_block (wpIn_seq (wpIn_region ?_))
    rw [show List.range (rI 5).size = [0, 1, 2, 3, 4] by kernel_rfl]
    refine wi_runs (m := [(g5, .cells #[fitV gs gw] 107 (0, 0)), (g7, cO op k t (.slice a kids.length cc))]) [(0, 0), (1, 0), (2, 1)] (rest := [3, 4]) (fun j b o h => by match j, h with | 0, h => (cases h; exact f5) | 1, h => (cases h; exact r7')) (by simp [Mem.ids]; omega) fun w5 _ _ _ _ d5 => ?_
    obtain rfl := d5 (by kernel_rfl)
    refine wi_call (f := 105) (first := #[]) (captured := #[.pointer (some ⟨gs, 0, none⟩), .pointer (some ⟨gw, 0, none⟩)]) (args := #[.int .i64 d, cv op k t (.slice a kids.length cc)]) (d := some 17) (by kernel_rfl) (by kernel_rfl) ?_
    refine (fit_any f6 hok d op k t kids a cc hf.s (Nat.le_trans hn q4.size)).mono fun e w6 ⟨he, O2, j1, j2, j3⟩ => ⟨_, he, ?_⟩
    have hlo6 := f6.low
    have z4 : w6.heap[l]? = some (.loop { recOf fid D s .ready none with state := .busy }) := (j2.block l (lt_of_get l4) nO).trans l4
    have z5 : w6.heap[g4]? = some (.cells #[.bool false] 4 (0, 0)) := (j2.block g4 (lt_of_get f4) kO).trans f4
    have z6 : w6.heap[g5]? = some (.cells #[fitV gs gw] 107 (0, 0)) := (j2.block g5 (lt_of_get f5) jO).trans f5
    have z7 : w6.heap[D]? = some (.deferred (some [])) := (j2.block D (lt_of_get fD) mO).trans fD
    have hsz5 : W.heap.size ≤ w5.heap.size := q4.size
    have newO : ∀ y, y < W.heap.size → y ∉ O' → y ∉ O2 := fun y hy hO hx => by
      rcases j3 y hx with h | h
      · exact hO h
      · omega
    have q6 : Ch (l :: D :: g4 :: g5 :: O') W w6 := (q4.mono (fun x hx => by rw [List.mem_singleton] at hx; simp [hx])).trans j2 (fun x hx => .inl (by simp [hx]))
    have sub6 : Sub W (l :: D :: g4 :: g5 :: O') (l :: D :: g4 :: g5 :: O2) := by
      intro x hx
      simp only [List.mem_cons] at hx ⊢
      rcases hx with h | h | h | h | h
      · exact .inl (.inl h)
      · exact .inl (.inr (.inl h))
      · exact .inl (.inr (.inr (.inl h)))
      · exact .inl (.inr (.inr (.inr (.inl h))))
      · rcases j3 x h with h | h
        · exact .inl (.inr (.inr (.inr (.inr h))))
        · exact .inr (by omega)
    have hndO2 : O2.Nodup := by obtain ⟨_, _, _, rfl, h, _⟩ := j1; exact h
    have hnd2 : (l :: D :: g4 :: g5 :: O2).Nodup := by
      simp only [List.nodup_cons, List.mem_cons, not_or]
      exact ⟨⟨nD, n4, n5, newO l hl1 nO⟩, ⟨m4, m5, newO D hlD mO⟩, ⟨k5, newO g4 hl4 kO⟩, newO g5 hl5 jO, hndO2⟩
    have hlo2 := j1.low
    have fin : ∀ w8 : World, Ch [l, g4] w6 w8 → w8.heap[g4]? = some (.cells #[.bool false] 4 (0, 0)) → ∀ b, w8.heap[l]? = some (.loop (recOf fid D s (bif b then .ready else .done) (bif b then none else some .ret))) → IsJ n₀ l D g4 g5 gs gw fid s b (fitF (sz, want' :: rest) d (.mk op k t kids)).1 (l :: D :: g4 :: g5 :: O2) w8 ∧ Ch (l :: D :: g4 :: g5 :: O') W w8 := by
      intro w8 hc h4' b hl'
      refine ⟨⟨hl', (hc.block D (lt_of_get z7) (by simp; exact ⟨fun e => nD e.symm, m4⟩)).trans z7, h4', (hc.block g5 (lt_of_get z6) (by simp; exact ⟨fun e => n5 e.symm, fun e => k5 e.symm⟩)).trans z6, O2, j1.stay (fun x hx => hc.block x (hlo2 x hx).2 ?_), rfl, hnd2, i1, i2, i3, i4⟩, q6.trans hc (fun x hx => .inl ?_)⟩
      · simp only [List.mem_cons, List.not_mem_nil, or_false, not_or]
        exact ⟨fun e => newO l hl1 nO (e ▸ hx), fun e => newO g4 hl4 kO (e ▸ hx)⟩
      · simp only [List.mem_cons, List.not_mem_nil, or_false] at hx ⊢
        rcases hx with h | h
        · exact .inl h
        · exact .inr (.inr (.inl h))
    cases hfs : fitF (sz, want' :: rest) d (.mk op k t kids) with
    | mk st' b =>
    rw [hfs] at fin
    refine wi_runs (m := []) [(4, 0)] (rest := []) Holds.nil (by simp [Mem.ids]) fun w7 _ _ _ _ d7 => ?_
    obtain rfl := d7 (by kernel_rfl)
    show (Code.cond _ _ _).wpIn _ _ _ _ _ _
    cases b with
    | true =>
      refine wpIn_cond_false (by rw [evalL_eq]; kernel_rfl) (wpIn_skip ?_)
      show ∃ v w', _ ∧ _
      refine ⟨_, _, run_endRound none z4, rfl, l :: D :: g4 :: g5 :: O2, ?_⟩
      obtain ⟨y1, y2⟩ := fin (w7.putObj l (.loop { { recOf fid D s .ready none with state := .busy } with state := .ready, pending := none })) ((Ch.put _ _ _).mono (fun x hx => by rw [List.mem_singleton] at hx; simp [hx])) ((World.putObj_heap_other (fun e => n4 e.symm)).trans z5) true (World.putObj_heap_same (lt_of_get z4))
      exact ⟨y1, y2, sub6⟩
    | false =>
      refine wpIn_cond_true (by rw [evalL_eq]; kernel_rfl) (wpIn_seq (wpIn_region ?_))
      refine wi_runs (m := [(g4, .cells #[.bool false] 4 (0, 0))]) [(0, 0)] (rest := []) (fun j b o h => by match j, h with | 0, h => (cases h; exact z5)) (by simp [Mem.ids]) fun w8 m8 _ c8 _ _ => ?_
      show Code.ret.wpIn _ _ _ _ _ _
      refine wpIn_ret ?_
      have z8 : w8.heap[l]? = some (.loop { recOf fid D s .ready none with state := .busy }) := (c8.block l (lt_of_get z4) (by simp [Mem.ids]; exact n4)).trans z4
      have z9 : w8.heap[g4]? = some (.cells #[.bool false] 4 (0, 0)) := m8.get 0
      show ∃ v w', _ ∧ _
      refine ⟨_, _, run_endRound (some .ret) z8, rfl, l :: D :: g4 :: g5 :: O2, ?_⟩
      obtain ⟨y1, y2⟩ := fin (w8.putObj l (.loop { { recOf fid D s .ready none with state := .busy } with state := .done, pending := some .ret })) ((c8.mono (fun x hx => by simp [Mem.ids] at hx; simp [hx])).trans (Ch.put _ _ _) (fun x hx => .inl (by rw [List.mem_singleton] at hx; simp [hx]))) ((World.putObj_heap_other (fun e => n4 e.symm)).trans z9) false (World.putObj_heap_same (lt_of_get z8))
      exact ⟨y1, y2, sub6⟩
theorem FsJ.apart {L : List Nat} {A : World → Prop} {n gs gw : Nat} {st : Int × List Int} {O : List Nat} {w : World} (h : Stay L w (fun w' => A w' ∧ FsJ n gs gw st O w')) {g : Nat} (hg : g ∈ L) (hl : g < w.heap.size) : g ∉ O := by
  intro hO
  have hc : Ch L w { w with heap := w.heap.setIfInBounds g (.map #[] 0) } := ⟨rfl, rfl, rfl, by simp, fun i _ hx => by
    show (w.heap.setIfInBounds g _)[i]? = _
    exact Array.getElem?_setIfInBounds_ne (fun (h : g = i) => hx (h ▸ hg))⟩
  obtain ⟨gb, cap, cur, rfl, -, -, h1, h2, h3, -⟩ := (h _ hc).2
  have e : (w.heap.setIfInBounds g (.map #[] 0))[g]? = some (.map #[] 0) := Array.getElem?_setIfInBounds_self_of_lt hl
  simp only [List.mem_cons, List.not_mem_nil, or_false] at hO
  rcases hO with rfl | rfl | rfl
  · rw [show ({ w with heap := w.heap.setIfInBounds g (.map #[] 0) } : World).heap[g]? = some (.map #[] 0) from e] at h1; cases h1
  · rw [show ({ w with heap := w.heap.setIfInBounds g (.map #[] 0) } : World).heap[g]? = some (.map #[] 0) from e] at h2; cases h2
  · rw [show ({ w with heap := w.heap.setIfInBounds g (.map #[] 0) } : World).heap[g]? = some (.map #[] 0) from e] at h3; cases h3
def isOfP (want : Int) (c : Co) : Bool := (walkP fitF (0, [want]) 1 c).2
set_option maxRecDepth 100000 in
seal rn rnN rnS Goes ans atEnd put0 putM opened putA0 putA oneSt st0 orT orG in
theorem isOf_any (want : Int) {c : Co} {v : Value} {w : World} (hN : Nc w.heap.size w v c) (hsafe : safeP fitF fitOk (0, [want]) 1 c) : Calls Tryz.prog 39 #[v, .int .i64 want] w fun e w' => e = .returned (.bool (isOfP want c)) ∧ Below w.heap.size w w' := by
  obtain ⟨op, k, t, a, N, cc, rfl⟩ := hN.cells
  refine Goes.enterM Tryz.func39 [] (fun w' => Ch [] w w' ∧ True) Holds.nil (by simp [Mem.ids]) (fun w' hc => ⟨hc, trivial⟩) ?_
  refine Goes.runN2 bpM_noP 2000 [] [] trivial fun g2 g4 => ?_
  refine Goes.call 68 #[.int .i64 want] fun w1 hm1 hn1 hI1 => (fitting_any want w1).mono fun e w2 ⟨gs, gw, O, he, hJ, hB⟩ => ?_
  have f2 : w.heap.size ≤ g2 := fresh_of hI1 (g := g2) (ids_get (j := 0) (o := cO op k t (.slice a N cc)) (by kernel_rfl)) (by simp)
  have f4 : w.heap.size ≤ g4 := fresh_of hI1 (g := g4) (ids_get (j := 1) (o := .cells #[.bool false] 4 (0, 0)) (by kernel_rfl)) (by simp)
  have hne : [g2, g4].Nodup := Nodup.of_ids hn1
  have b2 : w2.heap[g2]? = some (cO op k t (.slice a N cc)) := (hB.block g2 (lt_of_get (hm1.get 0 (o := cO op k t (.slice a N cc))))).trans (hm1.get 0)
  have l4 : g4 < w1.heap.size := lt_of_get (hm1.get 1 (b := g4) (o := .cells #[.bool false] 4 (0, 0)))
  have l2 : g2 < w1.heap.size := lt_of_get (hm1.get 0 (o := cO op k t (.slice a N cc)))
  have b4 : w2.heap[g4]? = some (.cells #[.bool false] 4 (0, 0)) := (hB.block g4 l4).trans (hm1.get 1)
  have hO1 : ∀ x ∈ O, w1.heap.size ≤ x ∧ x < w2.heap.size := hJ.low
  refine ⟨_, fun w' => Ch [] w w' ∧ FsJ w1.heap.size gs gw (0, [want]) O w', [(g2, cO op k t (.slice a N cc)), (g4, .cells #[.bool false] 4 (0, 0))], he, fun j b o h => by match j, h with | 0, h => (cases h; exact b2) | 1, h => (cases h; exact b4), hne, fun w3 hc => ⟨?_, hJ.stay (fun x hx => hc.block x (hO1 x hx).2 (fun hm => by
    simp only [Mem.ids, List.map_cons, List.map_nil, List.mem_cons, List.not_mem_nil, or_false] at hm
    have := (hO1 x hx).1
    rcases hm with rfl | rfl <;> omega))⟩, ?_⟩
  · refine (hI1.now.1.trans (L' := []) ⟨hB.os, hB.tape, hB.output, hB.size, fun i hi _ => hB.block i hi⟩ (fun x hx => by cases hx)).trans hc (fun x hx => .inr ?_)
    simp only [Mem.ids, List.map_cons, List.map_nil, List.mem_cons, List.not_mem_nil, or_false] at hx
    rcases hx with rfl | rfl <;> assumption
  refine Goes.runN1 bpM_noP 2000 [2, 0] [] trivial fun g5 => ?_
  refine Goes.call 69 #[cv op k t (.slice a N cc)] fun w3 hm3 hn3 hI3 => (terms_any op k t a N cc w3).mono fun e w4 ⟨gt, he4, hgt, hgtn, hB4⟩ => ?_
  have x2 : w3.heap[g2]? = some (cO op k t (.slice a N cc)) := hm3.get 0
  have x4 : w3.heap[g4]? = some (.cells #[.bool false] 4 (0, 0)) := hm3.get 1
  have x5 : w3.heap[g5]? = some (.cells #[fitV gs gw] 107 (0, 0)) := hm3.get 2
  have f5 : w.heap.size ≤ g5 := fresh_of hI3 (g := g5) (ids_get (j := 2) (o := .cells #[fitV gs gw] 107 (0, 0)) (by kernel_rfl)) (by simp)
  have hids3 : [g2, g4, g5].Nodup := Nodup.of_ids hn3
  have hap : ∀ g ∈ [g2, g4, g5], g ∉ O := fun g hg => FsJ.apart hI3 (L := _) (by rw [show Mem.ids _ = [g2, g4, g5] by kernel_rfl]; exact hg) (by
    simp only [List.mem_cons, List.not_mem_nil, or_false] at hg
    rcases hg with rfl | rfl | rfl
    · exact lt_of_get x2
    · exact lt_of_get x4
    · exact lt_of_get x5)
  have y2 := (hB4.block g2 (lt_of_get x2)).trans x2
  have y4 := (hB4.block g4 (lt_of_get x4)).trans x4
  have y5 := (hB4.block g5 (lt_of_get x5)).trans x5
  have hJ4 : FsJ w1.heap.size gs gw (0, [want]) O w4 := hI3.now.2.stay (fun x hx => hB4.block x (hI3.now.2.low x hx).2)
  have hC4 : Ch [] w w4 := hI3.now.1.trans (L' := []) ⟨hB4.os, hB4.tape, hB4.output, hB4.size, fun i hi _ => hB4.block i hi⟩ (fun x hx => by cases hx)
  refine ⟨_, fun w' => Ch [] w w' ∧ FsJ w1.heap.size gs gw (0, [want]) O w' ∧ w'.heap[gt]? = some (cO op k t (.slice a N cc)), [(g2, cO op k t (.slice a N cc)), (g4, .cells #[.bool false] 4 (0, 0)), (g5, .cells #[fitV gs gw] 107 (0, 0))], he4, fun j b o h => by match j, h with | 0, h => (cases h; exact y2) | 1, h => (cases h; exact y4) | 2, h => (cases h; exact y5), hids3, fun w5 hc => ⟨hC4.trans hc (fun x hx => .inr ?_), hJ4.stay (fun x hx => hc.block x (hJ4.low x hx).2 (fun hm => hap x hm hx)), (hc.block gt (lt_of_get hgt) (fun hm => ?_)).trans hgt⟩, ?_⟩
  · simp only [Mem.ids, List.map_cons, List.map_nil, List.mem_cons, List.not_mem_nil, or_false] at hx
    rcases hx with rfl | rfl | rfl <;> assumption
  · have l2' := lt_of_get x2
    have l4' := lt_of_get x4
    have l5' := lt_of_get x5
    simp only [Mem.ids, List.map_cons, List.map_nil, List.mem_cons, List.not_mem_nil, or_false] at hm
    rcases hm with h | h | h <;> omega
  refine Goes.runN bpM_noP 2000 [] [] trivial ?_
  refine Goes.named (isT (cv op k t (.slice a N cc)) want g2 g4 g5 gs gw gt undef undef) [(g2, cO op k t (.slice a N cc)), (g4, .cells #[.bool false] 4 (0, 0)), (g5, .cells #[fitV gs gw] 107 (0, 0))] #[12, 13] isA isB [.blk 0, .code (.seq (.region 7 (rI 7) false) .ret)] fun s0 hT hm0 hps hA hBo hk hev hat => ?_
  refine Goes.range 109 #[.pointer (some ⟨gt, 0, none⟩)] (fun fid w5 hm5 hn5 hI5 W1 hL hD hBW => ?_) (hat.trans (by kernel_rfl)) (hev.trans (by kernel_rfl)) (by kernel_rfl)
  rw [hm0] at hm5 hn5 hI5
  obtain ⟨hC5, hJ5, hgt5⟩ := hI5.now
  have hw15 : w1.heap.size ≤ w5.heap.size := by have := hB.size; have := hI3.now.1.size; have h1 := hI5.now.2.1.low; have := hJ.low; obtain ⟨gb, _, _, rfl, _⟩ := hJ5; have := (h1 gs (by simp)).2; have := (h1 gs (by simp)).1; omega
  have u4 : w5.heap[g4]? = some (.cells #[.bool false] 4 (0, 0)) := hm5.get 1
  have u5 : w5.heap[g5]? = some (.cells #[fitV gs gw] 107 (0, 0)) := hm5.get 2
  have hlow5 := hJ5.low
  have hn1w : w.heap.size ≤ w1.heap.size := hI1.now.1.size
  have hd45 : ¬g4 = g5 := by simp only [List.nodup_cons, List.mem_cons, List.not_mem_nil, or_false, not_or] at hids3; exact hids3.2.1
  have v4 := lt_of_get u4
  have v5 := lt_of_get u5
  have hJW : IsJ w.heap.size (w5.heap.size + 1) w5.heap.size g4 g5 gs gw fid s0 true (0, [want]) ((w5.heap.size + 1) :: w5.heap.size :: g4 :: g5 :: O) W1 := by
    refine ⟨hL, hD, (hBW.block g4 v4).trans u4, (hBW.block g5 v5).trans u5, O, (hJ5.more hn1w).stay (fun x hx => hBW.block x (hlow5 x hx).2), rfl, ?_, by have := hC5.size; omega, hC5.size, f4, f5⟩
    have hndO : O.Nodup := by obtain ⟨_, _, _, rfl, h, _⟩ := hJ5; exact h
    simp only [List.nodup_cons, List.mem_cons, not_or]
    exact ⟨⟨by omega, by omega, by omega, fun h => by have := (hlow5 _ h).2; omega⟩, ⟨by omega, by omega, fun h => by have := (hlow5 _ h).2; omega⟩, ⟨hd45, hap g4 (by simp)⟩, hap g5 (by simp), hndO⟩
  have hBwW : Below w.heap.size w W1 := (hC5.low (fun x hx => by cases hx) (Nat.le_refl _)).trans (hBW.mono hC5.size)
  show Calls Tryz.prog 109 #[.func (.yield (w5.heap.size + 1)) #[] #[], .pointer (some ⟨gt, 0, none⟩)] W1 _
  refine (iter_any (isOf_round hT hps hA hBo) hsafe hJW (hN.later hBwW) hBwW.size ((hBW.block gt (lt_of_get hgt5)).trans hgt5)).mono fun e w6 ⟨he, O2, hJ2, hC6, hS6⟩ => ?_
  subst he
  have hB6 : Below w.heap.size w w6 := hBwW.trans (hC6.low (fun x hx => (hJW.low x hx).1) hBwW.size)
  cases hr : walkP fitF (0, [want]) 1 c with
  | mk st' b =>
  rw [hr] at hJ2
  have hv : isOfP want c = b := by unfold isOfP; rw [hr]
  rw [hv]
  obtain ⟨p1, p2, p3, p4, O3, p5, rfl, p6, p7, p8, p9, p10⟩ := hJ2
  simp only [List.nodup_cons, List.mem_cons, not_or] at p6
  have hl6 : w5.heap.size + 1 < w6.heap.size := lt_of_get p1
  cases b with
  | true =>
    simp only [cond_true] at p1
    refine ⟨none, _, run_endLoop p1 (by simp [recOf]), ?_⟩
    have hB7 : Below w.heap.size w (w6.putObj (w5.heap.size + 1) (.loop { recOf fid w5.heap.size s0 .ready none with state := .exhausted })) := hB6.trans ((Ch.put _ _ _).low (fun x hx => by rw [List.mem_singleton] at hx; have := hC5.size; omega) hB6.size)
    have z4 : (w6.putObj (w5.heap.size + 1) (.loop { recOf fid w5.heap.size s0 .ready none with state := .exhausted })).heap[g4]? = some (.cells #[.bool false] 4 (0, 0)) := (World.putObj_heap_other (fun e => p6.1.2.1 e.symm)).trans p3
    have zD : (w6.putObj (w5.heap.size + 1) (.loop { recOf fid w5.heap.size s0 .ready none with state := .exhausted })).heap[w5.heap.size]? = some (.deferred (some [])) := (World.putObj_heap_other (fun e => p6.1.1 e.symm)).trans p2
    generalize w6.putObj (w5.heap.size + 1) (.loop { recOf fid w5.heap.size s0 .ready none with state := .exhausted }) = w7 at hB7 z4 zD ⊢
    show QK _ _ s0.todo.tail _ _ _
    rw [hk, hT]
    show (Code.seq _ _).wp _ _ _ _
    refine (wpIn_wide (n := 0)).1 (wpIn_seq (wpIn_region ?_))
    refine wi_runs (r := none) (m := [(g4, .cells #[.bool false] 4 (0, 0))]) [(0, 0)] (rest := []) (fun j b o h => by match j, h with | 0, h => (cases h; exact z4)) (by simp [Mem.ids]) fun w8 m8 n8 c8 _ _ => ?_
    show Code.ret.wpIn Fence.wide _ _ _ _ _
    refine wpIn_ret ?_
    have q4 : w8.heap[g4]? = some (.cells #[.bool true] 4 (0, 0)) := m8.get 0
    refine leave_mark [0] (.bool true) [(g4, .cells #[.bool true] 4 (0, 0))] ((c8.block w5.heap.size (lt_of_get zD) (by simp [Mem.ids]; omega)).trans zD) (fun j b o h => by match j, h with | 0, h => (cases h; exact (World.putObj_heap_other (by omega)).trans q4)) (by simp [Mem.ids]) ⟨rfl, ?_⟩
    exact (hB7.trans (c8.low (fun x hx => by simp [Mem.ids] at hx; omega) hB7.size)).trans ((Ch.put _ _ _).low (fun x hx => by rw [List.mem_singleton] at hx; have := hC5.size; omega) (by have := hB7.size; have := c8.size; omega))
  | false =>
    simp only [cond_false] at p1
    refine ⟨some .ret, _, run_endLoop p1 (by simp [recOf]), ?_⟩
    have hB7 : Below w.heap.size w (w6.putObj (w5.heap.size + 1) (.loop { recOf fid w5.heap.size s0 .done (some .ret) with state := .exhausted })) := hB6.trans ((Ch.put _ _ _).low (fun x hx => by rw [List.mem_singleton] at hx; have := hC5.size; omega) hB6.size)
    have z4 : (w6.putObj (w5.heap.size + 1) (.loop { recOf fid w5.heap.size s0 .done (some .ret) with state := .exhausted })).heap[g4]? = some (.cells #[.bool false] 4 (0, 0)) := (World.putObj_heap_other (fun e => p6.1.2.1 e.symm)).trans p3
    have zD : (w6.putObj (w5.heap.size + 1) (.loop { recOf fid w5.heap.size s0 .done (some .ret) with state := .exhausted })).heap[w5.heap.size]? = some (.deferred (some [])) := (World.putObj_heap_other (fun e => p6.1.1 e.symm)).trans p2
    generalize w6.putObj (w5.heap.size + 1) (.loop { recOf fid w5.heap.size s0 .done (some .ret) with state := .exhausted }) = w7 at hB7 z4 zD ⊢
    show Code.ret.wpIn Fence.wide _ _ _ _ _
    refine wpIn_ret (qk_ret ?_)
    rw [hT]
    refine leave_mark [0] (.bool false) [(g4, .cells #[.bool false] 4 (0, 0))] zD (fun j b o h => by match j, h with | 0, h => (cases h; exact (World.putObj_heap_other (by omega)).trans z4)) (by simp [Mem.ids]) ⟨rfl, ?_⟩
    exact hB7.trans ((Ch.put _ _ _).low (fun x hx => by rw [List.mem_singleton] at hx; have := hC5.size; omega) hB7.size)
end Go.Proofs.YthnojedlndblbaaGreatDoor
namespace Go.Proofs.YthnojedlndblbaaGreatDoor
open Go

mutual
/-- A term of a type, as deep as it stands. -/
def okT (want d : Int) : Co → Bool
  | .mk op k t kids =>
    match kOf op want with
    | none => false
    | some ks => ((kids.length : Int) == (ks.length : Int)) && ownC op k t && decide (d ≤ 200) && okTs (d + 1) ks kids
def okTs (d : Int) (ks : List Int) : List Co → Bool
  | [] => true
  | c :: r =>
    match ks with
    | [] => false
    | x :: xs => okT x d c && okTs d xs r
end
def tyOk (x : Int) : Prop := x = 0 ∨ x = 1 ∨ x = 2 ∨ x = 4
theorem len_cond {b : Bool} {x y : Option (List Int)} (hx : ∀ l, x = some l → l.length ≤ 3) (hy : ∀ l, y = some l → l.length ≤ 3) : ∀ l, (bif b then x else y) = some l → l.length ≤ 3 := by
  cases b <;> assumption
theorem len_some {l0 : List Int} (h : l0.length ≤ 3) : ∀ l, some l0 = some l → l.length ≤ 3 := by rintro l ⟨⟩; exact h
theorem len_none : ∀ l : List Int, none = some l → l.length ≤ 3 := by intro l h; cases h
theorem kOf_len (op want : Int) : ∀ l, kOf op want = some l → l.length ≤ 3 := by
  unfold kOf kContract kNumber kTruth kDay
  repeat' first | exact len_none | exact len_some (by simp) | refine len_cond ?_ ?_
def Spec (c : Co) : Prop := ∀ (want : Int) (rest : List Int) (sz d : Int), 0 ≤ sz → sz ≤ 2000 → 1 ≤ d → d ≤ 201 → (rest.length : Int) ≤ 2 * sz →
  safeP fitF fitOk (sz, want :: rest) d c ∧ ((walkP fitF (sz, want :: rest) d c).2 = true ↔ (okT want d c = true ∧ sz + szC c ≤ 2000)) ∧ ((walkP fitF (sz, want :: rest) d c).2 = true → (walkP fitF (sz, want :: rest) d c).1 = (sz + szC c, rest))
theorem specK (l : List Co) (ih : ∀ c ∈ l, Spec c) : ∀ (ks rest : List Int) (sz d : Int), ks.length = l.length → 0 ≤ sz → sz ≤ 2000 → 1 ≤ d → d ≤ 201 → ((ks ++ rest).length : Int) ≤ 1 + 2 * sz →
  safeK fitF fitOk (sz, ks ++ rest) d l ∧ ((walkK fitF (sz, ks ++ rest) d l).2 = true ↔ (okTs d ks l = true ∧ sz + szL l ≤ 2000)) ∧ ((walkK fitF (sz, ks ++ rest) d l).2 = true → (walkK fitF (sz, ks ++ rest) d l).1 = (sz + szL l, rest)) := by
  induction l with
  | nil =>
    intro ks rest sz d hl h0 h1 _ _ _
    have hk : ks = [] := List.eq_nil_of_length_eq_zero hl
    subst hk
    unfold safeK walkK okTs szL
    refine ⟨trivial, ?_, ?_⟩ <;> simp <;> omega
  | cons c r ihr =>
    intro ks rest sz d hl h0 h1 hd1 hd2 hlen
    match ks, hl with
    | x :: xs, hl =>
    have hlen' : ((xs ++ rest).length : Int) ≤ 2 * sz := by simp only [List.cons_append, List.length_cons] at hlen; omega
    obtain ⟨s1, s2, s3⟩ := ih c (by simp) x (xs ++ rest) sz d h0 h1 hd1 hd2 hlen'
    have hpos := szC_pos c
    have hposr := szL_pos r
    rw [List.cons_append]
    cases hw : walkP fitF (sz, x :: (xs ++ rest)) d c with
    | mk st b =>
    rw [hw] at s2 s3
    unfold safeK walkK okTs szL
    rw [hw]
    cases b with
    | false =>
      refine ⟨⟨s1, trivial⟩, ?_, by simp⟩
      simp only [Bool.false_eq_true, false_iff, Bool.and_eq_true, not_and] at s2 ⊢
      intro h h'
      exact s2 h.1 (by omega)
    | true =>
      have e := s3 rfl
      simp only at e
      subst e
      have hc := s2.1 rfl
      obtain ⟨t1, t2, t3⟩ := ihr (fun c hc => ih c (by simp [hc])) xs rest (sz + szC c) d (by simpa using hl) (by omega) hc.2 hd1 hd2 (by omega)
      refine ⟨⟨s1, t1⟩, ?_, fun h => ?_⟩
      · simp only
        rw [t2, Bool.and_eq_true, hc.1]
        constructor
        · rintro ⟨h, h'⟩; exact ⟨⟨rfl, h⟩, by omega⟩
        · rintro ⟨⟨_, h⟩, h'⟩; exact ⟨h, by omega⟩
      · simp only at h ⊢
        rw [t3 h, Int.add_assoc]
theorem spec (c : Co) : Spec c := by
  induction c using Co.ind with
  | h op k t kids ih =>
    intro want rest sz d h0 h1 hd1 hd2 hlen
    have hw1 : IntKind.i64.wrap (sz + 1) = sz + 1 := IntWalk.i64_in _ ⟨by omega, by omega⟩
    have hw2 : IntKind.i64.wrap (d + 1) = d + 1 := IntWalk.i64_in _ ⟨by omega, by omega⟩
    have hpos := szL_pos kids
    have hok : fitOk (sz, want :: rest) := ⟨by simp, h0, h1, by simp only [List.length_cons]; omega⟩
    unfold safeP walkP okT szC
    cases hk : kOf op want with
    | none =>
      have hf : fitF (sz, want :: rest) d (.mk op k t kids) = ((sz + 1, want :: rest), false) := by simp only [fitF, hk, hw1]
      rw [hf]
      exact ⟨⟨hok, trivial⟩, by simp, by simp⟩
    | some ks =>
      have hl3 := kOf_len op want ks hk
      cases hb : (((kids.length : Int) != (ks.length : Int)) || !ownC op k t || decide (sz + 1 > 2000) || decide (d > 200)) with
      | true =>
        have hf : fitF (sz, want :: rest) d (.mk op k t kids) = ((sz + 1, want :: rest), false) := by simp only [fitF, hk, hw1, hb, cond_true]
        rw [hf]
        refine ⟨⟨hok, trivial⟩, ?_, by simp⟩
        simp only [Bool.false_eq_true, false_iff, not_and, Bool.and_eq_true, decide_eq_true_eq, beq_iff_eq]
        rintro ⟨⟨⟨e1, e2⟩, e3⟩, e4⟩ e5
        simp only [e1, e2, bne_self_eq_false, Bool.not_true, Bool.or_false, Bool.false_or, Bool.or_eq_true, decide_eq_true_eq] at hb
        omega
      | false =>
        have hf : fitF (sz, want :: rest) d (.mk op k t kids) = ((sz + 1, ks ++ rest), true) := by simp only [fitF, hk, hw1, hb, cond_false]
        rw [hf]
        simp only [Bool.or_eq_false_iff, bne_eq_false_iff_eq, Bool.not_eq_false', decide_eq_false_iff_not] at hb
        obtain ⟨⟨⟨e1, e2⟩, e3⟩, e4⟩ := hb
        rw [hw2]
        obtain ⟨t1, t2, t3⟩ := specK kids ih ks rest (sz + 1) (d + 1) (by omega) (by omega) (by omega) (by omega) (by omega) (by rw [List.length_append]; omega)
        refine ⟨⟨hok, t1⟩, ?_, fun h => ?_⟩
        · simp only
          rw [t2]
          simp only [e1, e2, beq_self_eq_true, Bool.true_and, Bool.and_eq_true, decide_eq_true_eq]
          constructor
          · rintro ⟨h, h'⟩; exact ⟨⟨by omega, h⟩, by omega⟩
          · rintro ⟨⟨_, h⟩, h'⟩; exact ⟨h, by omega⟩
        · simp only at h ⊢
          rw [t3 h, Int.add_assoc]
theorem safe_fit (want : Int) (c : Co) : safeP fitF fitOk (0, [want]) 1 c := (spec c want [] 0 1 (by omega) (by omega) (by omega) (by omega) (by simp)).1
end Go.Proofs.YthnojedlndblbaaGreatDoor
namespace Go.Proofs.YthnojedlndblbaaGreatDoor
open Go Go.RowKit

def typP (c : Co) : Int × Bool := bif isOfP 0 c then (0, true) else bif isOfP 1 c then (1, true) else bif isOfP 2 c then (2, true) else bif isOfP 4 c then (4, true) else (0, false)
theorem isOf0 (want : Int) {c : Co} {v : Value} {w w' : World} (hN : Nc w.heap.size w v c) (hB : Below w.heap.size w w') : Calls Tryz.prog 39 #[v, .int .i64 want] w' fun e w'' => e = .returned (.bool (isOfP want c)) ∧ Below w'.heap.size w' w'' := isOf_any want (hN.at hB) (safe_fit want c)
set_option maxRecDepth 100000 in
seal rn rnN rnS Goes ans atEnd put0 putM opened putA0 oneSt st0 orT orG in
theorem type_any {c : Co} {v : Value} {w : World} (hN : Nc w.heap.size w v c) : Calls Tryz.prog 21 #[v] w fun e w' => e = .returned (.tuple #[.int .i64 (typP c).1, .bool (typP c).2]) ∧ Below w.heap.size w w' := by
  obtain ⟨op, k, t, a, N, cc, rfl⟩ := hN.cells
  refine Goes.begin Tryz.func21 [] (fun _ => True) Holds.nil (by simp [Mem.ids]) (fun _ _ => trivial) ?_
  refine Goes.run1 [0, 1, 0, 0] [(true, true)] ⟨rfl, trivial⟩ fun g => ?_
  refine Goes.call0 39 #[cv op k t (.slice a N cc), .int .i64 0] (.bool (isOfP 0 c)) (fun w' _ hI => isOf0 0 hN (bel0 hI)) ?_
  cases h0 : isOfP 0 c with
  | true =>
    refine Goes.run [1] [(true, true)] ⟨rfl, trivial⟩ ?_
    exact Goes.ret [] (.tuple #[.int .i64 0, .bool true]) fun w' hm hI => ⟨by unfold typP; rw [h0] <;> rfl, bel0 hI⟩
  | false =>
    refine Goes.run [0, 0, 1, 0, 0] [(true, true), (false, false)] ⟨rfl, rfl, trivial⟩ ?_
    refine Goes.call0 39 #[cv op k t (.slice a N cc), .int .i64 1] (.bool (isOfP 1 c)) (fun w' _ hI => isOf0 1 hN (bel0 hI)) ?_
    cases h1 : isOfP 1 c with
    | true =>
      refine Goes.run [1] [(true, true)] ⟨rfl, trivial⟩ ?_
      exact Goes.ret [] (.tuple #[.int .i64 1, .bool true]) fun w' hm hI => ⟨by unfold typP; rw [h0, h1] <;> rfl, bel0 hI⟩
    | false =>
      refine Goes.run [0, 0, 1, 0, 0] [(true, true), (false, false)] ⟨rfl, rfl, trivial⟩ ?_
      refine Goes.call0 39 #[cv op k t (.slice a N cc), .int .i64 2] (.bool (isOfP 2 c)) (fun w' _ hI => isOf0 2 hN (bel0 hI)) ?_
      cases h2 : isOfP 2 c with
      | true =>
        refine Goes.run [1] [(true, true)] ⟨rfl, trivial⟩ ?_
        exact Goes.ret [] (.tuple #[.int .i64 2, .bool true]) fun w' hm hI => ⟨by unfold typP; rw [h0, h1, h2] <;> rfl, bel0 hI⟩
      | false =>
        refine Goes.run [0, 0, 1, 0, 0] [(true, true), (false, false)] ⟨rfl, rfl, trivial⟩ ?_
        refine Goes.call0 39 #[cv op k t (.slice a N cc), .int .i64 4] (.bool (isOfP 4 c)) (fun w' _ hI => isOf0 4 hN (bel0 hI)) ?_
        cases h4 : isOfP 4 c with
        | true =>
          refine Goes.run [1] [(true, true)] ⟨rfl, trivial⟩ ?_
          exact Goes.ret [] (.tuple #[.int .i64 4, .bool true]) fun w' hm hI => ⟨by unfold typP; rw [h0, h1, h2, h4] <;> rfl, bel0 hI⟩
        | false =>
          refine Goes.run [0, 0, 0] [(false, false), (false, false)] ⟨rfl, rfl, trivial⟩ ?_
          exact Goes.ret [] (.tuple #[.int .i64 0, .bool false]) fun w' hm hI => ⟨by unfold typP; rw [h0, h1, h2, h4] <;> rfl, bel0 hI⟩
end Go.Proofs.YthnojedlndblbaaGreatDoor
namespace Go.Proofs.YthnojedlndblbaaGreatDoor
open Go Go.RowKit

/-- A question that keeps one number. -/
def Qn (n₀ : Nat) (qf : FuncId) (gq : Nat) (ty : TypeId) (f : Int → Co → Int) : Prop := ∀ (x : Int) (w : World) (v : Value) (c : Co), w.heap[gq]? = some (.cells #[.int .i64 x] ty (0, 0)) → Nc n₀ w v c → n₀ ≤ w.heap.size →
  Calls Tryz.prog qf #[v, .pointer (some ⟨gq, 0, none⟩)] w fun e w' => e = .returned (.tuple #[]) ∧ Ch [gq] w w' ∧ w'.heap[gq]? = some (.cells #[.int .i64 (f x c)] ty (0, 0))
def askF (f : Int → Co → Int) (x : Int) (_ : Int) (c : Co) : Int × Bool := (f x c, true)
def askP (f : Int → Co → Int) (x : Int) (c : Co) : Int := bif (typP c).2 then (walkP (askF f) x 1 c).1 else x
def askV (qf gq : Nat) : Value := .func (.func qf) #[] #[.pointer (some ⟨gq, 0, none⟩)]
def AkJ (n₀ l D g3 gq qf : Nat) (ty : TypeId) (fid : FuncId) (s : St) (b : Bool) (x : Int) (O : List Nat) (w : World) : Prop :=
  b = true ∧ w.heap[l]? = some (.loop (recOf fid D s .ready none)) ∧ w.heap[D]? = some (.deferred (some [])) ∧ w.heap[g3]? = some (.cells #[askV qf gq] 94 (0, 0)) ∧ w.heap[gq]? = some (.cells #[.int .i64 x] ty (0, 0)) ∧ O = [l, D, g3, gq] ∧ O.Nodup ∧ ∀ y ∈ O, n₀ ≤ y
theorem AkJ.stay {n₀ l D g3 gq qf : Nat} {ty : TypeId} {fid : FuncId} {s : St} {b : Bool} {x : Int} {O : List Nat} {w w' : World} (h : AkJ n₀ l D g3 gq qf ty fid s b x O w) (hO : ∀ y ∈ O, w'.heap[y]? = w.heap[y]?) : AkJ n₀ l D g3 gq qf ty fid s b x O w' := by
  obtain ⟨h0, h1, h2, h3, h4, rfl, h5⟩ := h
  exact ⟨h0, (hO l (by simp)).trans h1, (hO D (by simp)).trans h2, (hO g3 (by simp)).trans h3, (hO gq (by simp)).trans h4, rfl, h5⟩
theorem AkJ.low {n₀ l D g3 gq qf : Nat} {ty : TypeId} {fid : FuncId} {s : St} {b : Bool} {x : Int} {O : List Nat} {w : World} (h : AkJ n₀ l D g3 gq qf ty fid s b x O w) : ∀ y ∈ O, n₀ ≤ y ∧ y < w.heap.size := by
  obtain ⟨h0, h1, h2, h3, h4, rfl, h5, h6⟩ := h
  intro y hy
  refine ⟨h6 y hy, ?_⟩
  simp only [List.mem_cons, List.not_mem_nil, or_false] at hy
  rcases hy with rfl | rfl | rfl | rfl
  · exact lt_of_get h1
  · exact lt_of_get h2
  · exact lt_of_get h3
  · exact lt_of_get h4
noncomputable def rA (i : Nat) : Array Oper := regAt (Tryz.f52.body.getD .skip) i
noncomputable def akA : Code := .region 4 (rA 4) false
noncomputable def akB : Code := .block 1 (.region 5 (rA 5) false)
def akT (v : Value) (qf gq g2 g3 gt : Nat) (ty : Int) (x y : Value) : List Value := [v, askV qf gq, .pointer (some ⟨g2, 0, none⟩), .pointer (some ⟨g3, 0, none⟩), .int .i64 ty, .bool true, undef, undef, .tuple #[.int .i64 ty, .bool true], v, .tuple #[.int .i64 ty, .bool true], .int .i64 ty, .bool true, .bool true, .bool false, v, termsV gt, x, y, undef, undef, undef]
set_option maxRecDepth 100000 in
seal orT orG rA in
theorem ask_round {n₀ l D g2 g3 gq qf gt : Nat} {ty : TypeId} {fid : FuncId} {s : St} {v0 : Value} {tz : Int} {f : Int → Co → Int} (hq : Qn n₀ qf gq ty f) (hqf : okf Tryz.prog qf = true) (hT : s.tmps = akT v0 qf gq g2 g3 gt tz undef undef) (hps : rgPs s = #[17, 18]) (hA : rgAssign s = akA) (hB : rgBody s = akB) : Yl n₀ l (askF f) (fun _ => True) (AkJ n₀ l D g3 gq qf ty fid s) where
  stay := fun b st O w w' h hO => h.stay hO
  low := fun b st O w h => h.low
  yield := by
    intro x O W d v c _ hJ hN hn
    obtain ⟨op, k, t, a, N, cc, rfl⟩ := hN.cells
    have hlo := hJ.low
    obtain ⟨-, h1, h2, h3, h4, rfl, hnd, hge⟩ := hJ
    have hl1 := lt_of_get h1
    have hl3 := lt_of_get h3
    have hl4 := lt_of_get h4
    have hlD := lt_of_get h2
    have hnd0 := hnd
    simp only [List.nodup_cons, List.mem_cons, List.not_mem_nil, or_false, not_or] at hnd
    obtain ⟨⟨nD, n3, nq⟩, ⟨m3', mq⟩, kq, -⟩ := hnd
    refine round_of (T := akT v0 qf gq g2 g3 gt tz (.int .i64 d) (cv op k t (.slice a N cc))) h1 (by rw [hps]; rfl) (by rw [hps, hT]; kernel_rfl) ?_
    rw [hA]
    refine wpIn_region ?_
    rw [show List.range (rA 4).size = [0, 1] by kernel_rfl]
    refine wi_new 0 (rest := [1]) (m := []) Holds.nil (by simp [Mem.ids]) fun g7 w2 hg7 m2 n2 c2 _ => ?_
    refine wi_runs [(1, 0)] (rest := []) m2 n2 fun w3 m3 n3' c3 _ _ => ?_
    have e2 : (orG Tryz.prog (rA 4) 0 g7 (akT v0 qf gq g2 g3 gt tz (.int .i64 d) (cv op k t (.slice a N cc))) []).m.ids = [g7] := by kernel_rfl
    have q1 : Ch [] W w3 := c2.trans c3 (fun x hx => .inr (by rw [e2, List.mem_singleton] at hx; omega))
    have r7 : w3.heap[g7]? = some (cO op k t (.slice a N cc)) := m3.get 0
    show ∃ w₂, _ ∧ _
    have hl3w : w3.heap[l]? = some (.loop (recOf fid D s .ready none)) := (q1.block l hl1 (by simp)).trans h1
    refine ⟨_, run_beginRound hl3w rfl, ?_⟩
    have hl3' := lt_of_get hl3w
    have c4 := Ch.put w3 l (.loop { recOf fid D s .ready none with state := .busy })
    have l4 : (w3.putObj l (.loop { recOf fid D s .ready none with state := .busy })).heap[l]? = some (.loop { recOf fid D s .ready none with state := .busy }) := World.putObj_heap_same hl3'
    generalize w3.putObj l (.loop { recOf fid D s .ready none with state := .busy }) = w4 at c4 l4 ⊢
    have q4 : Ch [l] W w4 := (q1.mono (fun x hx => by cases hx)).trans c4 (fun x hx => .inl hx)
    have r7' : w4.heap[g7]? = some (cO op k t (.slice a N cc)) := (c4.block g7 (lt_of_get r7) (by simp; omega)).trans r7
    have f3 : w4.heap[g3]? = some (.cells #[askV qf gq] 94 (0, 0)) := (q4.block g3 hl3 (by simp; exact fun e => n3 e.symm)).trans h3
    have fq : w4.heap[gq]? = some (.cells #[.int .i64 x] ty (0, 0)) := (q4.block gq hl4 (by simp; exact fun e => nq e.symm)).trans h4
    have fD : w4.heap[D]? = some (.deferred (some [])) := (q4.block D hlD (by simp; exact fun e => nD e.symm)).trans h2
    have hn4 : n₀ ≤ w4.heap.size := Nat.le_trans hn q4.size
    have hN4 : Nc n₀ w4 (cv op k t (.slice a N cc)) c := hN.later (q4.low (fun y hy => by rw [List.mem_singleton] at hy; subst hy; exact hge _ (by simp)) hn)
    rw [hB]
    refine wpIn_block (wpIn_region ?_)
    rw [show List.range (rA 5).size = [0, 1, 2] by kernel_rfl]
    refine wi_runs (m := [(g3, .cells #[askV qf gq] 94 (0, 0)), (g7, cO op k t (.slice a N cc))]) [(0, 0), (1, 1)] (rest := [2]) (fun j b o h => by match j, h with | 0, h => (cases h; exact f3) | 1, h => (cases h; exact r7')) (by simp [Mem.ids]; omega) fun w5 _ _ _ _ d5 => ?_
    obtain rfl := d5 (by kernel_rfl)
    refine wi_call (f := qf) (first := #[]) (captured := #[.pointer (some ⟨gq, 0, none⟩)]) (args := #[cv op k t (.slice a N cc)]) (d := some 21) (by kernel_rfl) hqf ?_
    refine (hq x w5 _ c fq hN4 hn4).mono fun e w6 ⟨he, j2, j3⟩ => ⟨_, he, ?_⟩
    have z4 : w6.heap[l]? = some (.loop { recOf fid D s .ready none with state := .busy }) := (j2.block l (lt_of_get l4) (by simp; exact nq)).trans l4
    have z3 : w6.heap[g3]? = some (.cells #[askV qf gq] 94 (0, 0)) := (j2.block g3 (lt_of_get f3) (by simp; exact kq)).trans f3
    have z7 : w6.heap[D]? = some (.deferred (some [])) := (j2.block D (lt_of_get fD) (by simp; exact mq)).trans fD
    show ∃ v w', _ ∧ _
    refine ⟨_, _, run_endRound none z4, rfl, [l, D, g3, gq], ⟨rfl, World.putObj_heap_same (lt_of_get z4), (World.putObj_heap_other (fun e => nD e.symm)).trans z7, (World.putObj_heap_other (fun e => n3 e.symm)).trans z3, (World.putObj_heap_other (fun e => nq e.symm)).trans j3, rfl, hnd0, hge⟩, ?_, Sub.refl _ _⟩
    exact ((q4.mono (fun y hy => by rw [List.mem_singleton] at hy; simp [hy])).trans j2 (fun y hy => .inl (by rw [List.mem_singleton] at hy; simp [hy]))).trans (Ch.put _ _ _) (fun y hy => .inl (by rw [List.mem_singleton] at hy; simp [hy]))
end Go.Proofs.YthnojedlndblbaaGreatDoor
namespace Go.Proofs.YthnojedlndblbaaGreatDoor
open Go Go.RowKit

mutual
theorem safe_true {σ : Type} (f : σ → Int → Co → σ × Bool) (s : σ) (d : Int) : ∀ c : Co, safeP f (fun _ => True) s d c
  | .mk op k t kids => by
    unfold safeP
    refine ⟨trivial, ?_⟩
    split
    · trivial
    · exact safe_trueK f _ _ kids
theorem safe_trueK {σ : Type} (f : σ → Int → Co → σ × Bool) (s : σ) (d : Int) : ∀ l : List Co, safeK f (fun _ => True) s d l
  | [] => by unfold safeK; trivial
  | c :: r => by
    unfold safeK
    refine ⟨safe_true f s d c, ?_⟩
    split
    · trivial
    · exact safe_trueK f _ _ r
end
theorem Below.toCh {w w' : World} (h : Below w.heap.size w w') : Ch [] w w' := ⟨h.os, h.tape, h.output, h.size, fun i hi _ => h.block i hi⟩
set_option maxRecDepth 100000 in
seal rn rnN rnS Goes ans atEnd put0 putM opened putA0 putA oneSt st0 orT orG in
theorem ask_any {n₀ qf gq : Nat} {ty : TypeId} {f : Int → Co → Int} {x : Int} {c : Co} {v : Value} {w : World} (hq : Qn n₀ qf gq ty f) (hqf : okf Tryz.prog qf = true) (hx : w.heap[gq]? = some (.cells #[.int .i64 x] ty (0, 0))) (hge : n₀ ≤ gq) (hN : Nc n₀ w v c) (hn : n₀ ≤ w.heap.size) :
    Calls Tryz.prog 52 #[v, askV qf gq] w fun e w' => e = .returned (.tuple #[]) ∧ Ch [gq] w w' ∧ w'.heap[gq]? = some (.cells #[.int .i64 (askP f x c)] ty (0, 0)) := by
  obtain ⟨op, k, t, a, N, cc, rfl⟩ := hN.cells
  have hgq := lt_of_get hx
  refine Goes.enterM Tryz.func52 [] (fun w' => Ch [] w w' ∧ True) Holds.nil (by simp [Mem.ids]) (fun w' hc => ⟨hc, trivial⟩) ?_
  refine Goes.runN2 bpM_noP 2000 [0] [] trivial fun g2 g3 => ?_
  refine Goes.call0 21 #[cv op k t (.slice a N cc)] (.tuple #[.int .i64 (typP c).1, .bool (typP c).2]) (fun w' _ hI => type_any ((hN.later (hI.now.1.low (fun x hx => by cases hx) hn)).more (Nat.le_trans hn hI.now.1.size))) ?_
  cases hb : (typP c).2 with
  | false =>
    refine Goes.runN bpM_noP 2000 [1] [(true, true)] ⟨rfl, trivial⟩ ?_
    exact Goes.retM [] (.tuple #[]) fun w' hm hI => ⟨rfl, hI.now.1.mono (fun x hx => by cases hx), by unfold askP; rw [hb]; exact (hI.now.1.block gq hgq (by simp)).trans hx⟩
  | true =>
    refine Goes.runN bpM_noP 2000 [0, 0] [(false, false)] ⟨rfl, trivial⟩ ?_
    refine Goes.call 69 #[cv op k t (.slice a N cc)] fun w3 hm3 hn3 hI3 => (terms_any op k t a N cc w3).mono fun e w4 ⟨gt, he4, hgt, hgtn, hB4⟩ => ?_
    have x2 : w3.heap[g2]? = some (cO op k t (.slice a N cc)) := hm3.get 0
    have x3 : w3.heap[g3]? = some (.cells #[askV qf gq] 94 (0, 0)) := hm3.get 1
    have f2 : w.heap.size ≤ g2 := fresh_of hI3 (g := g2) (ids_get (j := 0) (o := cO op k t (.slice a N cc)) (by kernel_rfl)) (by simp)
    have f3 : w.heap.size ≤ g3 := fresh_of hI3 (g := g3) (ids_get (j := 1) (o := .cells #[askV qf gq] 94 (0, 0)) (by kernel_rfl)) (by simp)
    have hids3 : [g2, g3].Nodup := Nodup.of_ids hn3
    have l2' := lt_of_get x2
    have l3' := lt_of_get x3
    have y2 := (hB4.block g2 l2').trans x2
    have y3 := (hB4.block g3 l3').trans x3
    have hC4 : Ch [] w w4 := hI3.now.1.trans (Below.toCh hB4) (fun x hx => by cases hx)
    refine ⟨_, fun w' => Ch [] w w' ∧ w'.heap[gt]? = some (cO op k t (.slice a N cc)), [(g2, cO op k t (.slice a N cc)), (g3, .cells #[askV qf gq] 94 (0, 0))], he4, fun j b o h => by match j, h with | 0, h => (cases h; exact y2) | 1, h => (cases h; exact y3), hids3, fun w5 hc => ⟨hC4.trans hc (fun x hx => .inr ?_), (hc.block gt (lt_of_get hgt) (fun hm => ?_)).trans hgt⟩, ?_⟩
    · simp only [Mem.ids, List.map_cons, List.map_nil, List.mem_cons, List.not_mem_nil, or_false] at hx
      rcases hx with rfl | rfl <;> assumption
    · simp only [Mem.ids, List.map_cons, List.map_nil, List.mem_cons, List.not_mem_nil, or_false] at hm
      rcases hm with h | h <;> omega
    refine Goes.runN bpM_noP 2000 [] [] trivial ?_
    refine Goes.named (akT (cv op k t (.slice a N cc)) qf gq g2 g3 gt (typP c).1 undef undef) [(g2, cO op k t (.slice a N cc)), (g3, .cells #[askV qf gq] 94 (0, 0))] #[17, 18] akA akB [.blk 0] fun s0 hT hm0 hps hA hBo hk hev hat => ?_
    refine Goes.range 109 #[.pointer (some ⟨gt, 0, none⟩)] (fun fid w5 hm5 hn5 hI5 W1 hL hD hBW => ?_) (hat.trans (by kernel_rfl)) (hev.trans (by kernel_rfl)) (by kernel_rfl)
    rw [hm0] at hm5 hn5 hI5
    obtain ⟨hC5, hgt5⟩ := hI5.now
    have u3 : w5.heap[g3]? = some (.cells #[askV qf gq] 94 (0, 0)) := hm5.get 1
    have v3 := lt_of_get u3
    have uq : w5.heap[gq]? = some (.cells #[.int .i64 x] ty (0, 0)) := (hC5.block gq hgq (by simp)).trans hx
    have hs5 := hC5.size
    have hJW : AkJ n₀ (w5.heap.size + 1) w5.heap.size g3 gq qf ty fid s0 true x [w5.heap.size + 1, w5.heap.size, g3, gq] W1 := by
      refine ⟨rfl, hL, hD, (hBW.block g3 v3).trans u3, (hBW.block gq (lt_of_get uq)).trans uq, rfl, ?_, ?_⟩
      · simp only [List.nodup_cons, List.mem_cons, List.not_mem_nil, or_false, not_or]
        exact ⟨⟨by omega, by omega, by omega⟩, ⟨by omega, by omega⟩, by omega, by simp, by simp⟩
      · intro y hy
        simp only [List.mem_cons, List.not_mem_nil, or_false] at hy
        rcases hy with rfl | rfl | rfl | rfl <;> omega
    have hCW : Ch [] w W1 := hC5.trans (Below.toCh hBW) (fun x hx => by cases hx)
    have hBwW : Below n₀ w W1 := hCW.low (fun x hx => by cases hx) hn
    show Calls Tryz.prog 109 #[.func (.yield (w5.heap.size + 1)) #[] #[], .pointer (some ⟨gt, 0, none⟩)] W1 _
    refine (iter_any (ask_round hq hqf hT hps hA hBo) (safe_true _ _ _ _) hJW (hN.later hBwW) (Nat.le_trans hn hBwW.size) ((hBW.block gt (lt_of_get hgt5)).trans hgt5)).mono fun e w6 ⟨he, O2, hJ2, hC6, hS6⟩ => ?_
    subst he
    obtain ⟨p0, p1, p2, p3, p4, rfl, p6, p7⟩ := hJ2
    have hC6' : Ch [gq] w w6 := (hCW.mono (fun x hx => by cases hx)).trans hC6 (fun y hy => by
      simp only [List.mem_cons, List.not_mem_nil, or_false] at hy ⊢
      rcases hy with rfl | rfl | rfl | rfl
      · exact .inr (by omega)
      · exact .inr (by omega)
      · exact .inr f3
      · exact .inl rfl)
    refine ⟨none, _, run_endLoop p1 (by simp [recOf]), ?_⟩
    have hC7 : Ch [gq] w (w6.putObj (w5.heap.size + 1) (.loop { recOf fid w5.heap.size s0 .ready none with state := .exhausted })) := hC6'.trans (Ch.put _ _ _) (fun y hy => .inr (by rw [List.mem_singleton] at hy; omega))
    have zq : (w6.putObj (w5.heap.size + 1) (.loop { recOf fid w5.heap.size s0 .ready none with state := .exhausted })).heap[gq]? = some (.cells #[.int .i64 (walkP (askF f) x 1 c).1] ty (0, 0)) := (World.putObj_heap_other (by omega)).trans p4
    have zD : (w6.putObj (w5.heap.size + 1) (.loop { recOf fid w5.heap.size s0 .ready none with state := .exhausted })).heap[w5.heap.size]? = some (.deferred (some [])) := (World.putObj_heap_other (by omega)).trans p2
    generalize w6.putObj (w5.heap.size + 1) (.loop { recOf fid w5.heap.size s0 .ready none with state := .exhausted }) = w7 at hC7 zq zD ⊢
    show QK _ _ s0.todo.tail _ _ _
    rw [hk, hT]
    show LeavesInM _ _ _ _ _ _ _ _ _
    refine leave_mark [] (.tuple #[]) [] zD Holds.nil (by simp [Mem.ids]) ⟨rfl, hC7.trans (Ch.put _ _ _) (fun y hy => .inr (by rw [List.mem_singleton] at hy; omega)), ?_⟩
    unfold askP
    rw [hb]
    exact (World.putObj_heap_other (by omega)).trans zq
end Go.Proofs.YthnojedlndblbaaGreatDoor
namespace Go.Proofs.YthnojedlndblbaaGreatDoor
open Go Go.RowKit

def hzF (x : Int) : Co → Int
  | .mk op k _ _ => bif dateP op then (if k > x then k else x) else x
def ckF (x : Int) : Co → Int
  | .mk op k _ _ => bif lookP op then (bif decide (k < 0) then 141 else x) else x
set_option maxRecDepth 100000 in
seal rn rnN rnS Goes ans atEnd put0 putM opened putA0 oneSt st0 orT orG in
theorem ckQ (n₀ gq : Nat) : Qn n₀ 53 gq 27 ckF := by
  intro x w v c hx hN hn
  cases c with
  | mk op k t kids =>
  obtain ⟨a, cc, rfl, hf, -, -⟩ := hN.open
  refine Goes.begin Tryz.func53 [(gq, .cells #[.int .i64 x] 27 (0, 0))] (fun _ => True) (fun j b o h => by match j, h with | 0, h => (cases h; exact hx)) (by simp [Mem.ids]) (fun _ _ => trivial) ?_
  refine Goes.run1 [1] [] trivial fun g => ?_
  refine Goes.call0 54 #[cv op k t (.slice a kids.length cc)] (.bool (lookP op)) (fun w' _ _ => look_any op k t a kids.length cc w') ?_
  cases h : lookP op with
  | true =>
    cases h2 : decide (k < 0) with
    | true =>
      refine Goes.run [1, 1, 1, 0] [(decide (k < 0), true), (true, true)] ⟨h2, rfl, trivial⟩ ?_
      exact Goes.ret [] (.tuple #[]) fun w' hm hI => ⟨rfl, hI.now.1, (hm.get 0 (o := .cells #[.int .i64 141] 27 (0, 0))).trans (by simp only [ckF, h, h2, cond_true])⟩
    | false =>
      refine Goes.run [1, 1, 0] [(decide (k < 0), false), (true, true)] ⟨h2, rfl, trivial⟩ ?_
      exact Goes.ret [] (.tuple #[]) fun w' hm hI => ⟨rfl, hI.now.1, (hm.get 0 (o := .cells #[.int .i64 x] 27 (0, 0))).trans (by simp only [ckF, h, h2, cond_true, cond_false])⟩
  | false =>
    refine Goes.run [0, 0] [(false, false), (false, false)] ⟨rfl, rfl, trivial⟩ ?_
    exact Goes.ret [] (.tuple #[]) fun w' hm hI => ⟨rfl, hI.now.1, (hm.get 0 (o := .cells #[.int .i64 x] 27 (0, 0))).trans (by simp only [ckF, h, cond_false])⟩
def chkP (c : Co) : Int := bif isOfP 4 c then askP ckF 0 c else 140
set_option maxRecDepth 100000 in
seal rn rnN rnS Goes ans atEnd put0 putM opened putA0 oneSt st0 orT orG in
theorem check_any {c : Co} {v : Value} {w : World} (hN : Nc w.heap.size w v c) : Calls Tryz.prog 27 #[v] w fun e w' => e = .returned (.int .i64 (chkP c)) ∧ Below w.heap.size w w' := by
  obtain ⟨op, k, t, a, N, cc, rfl⟩ := hN.cells
  refine Goes.begin Tryz.func27 [] (fun _ => True) Holds.nil (by simp [Mem.ids]) (fun _ _ => trivial) ?_
  refine Goes.run1 [0] [] trivial fun g => ?_
  refine Goes.call0 39 #[cv op k t (.slice a N cc), .int .i64 4] (.bool (isOfP 4 c)) (fun w' _ hI => isOf0 4 hN (bel0 hI)) ?_
  cases h : isOfP 4 c with
  | false =>
    refine Goes.run [1] [(true, true)] ⟨rfl, trivial⟩ ?_
    exact Goes.ret [] (.int .i64 140) fun w' hm hI => ⟨by unfold chkP; rw [h] <;> rfl, bel0 hI⟩
  | true =>
    refine Goes.run1 [0, 1, 0] [(false, false)] ⟨rfl, trivial⟩ fun gq => ?_
    refine Goes.call2 1 gq 52 #[cv op k t (.slice a N cc), askV 53 gq] (.tuple #[]) (.cells #[.int .i64 (askP ckF 0 c)] 27 (0, 0)) (fun w' hm hI => ask_any (n₀ := w.heap.size) (ckQ _ gq) (by kernel_rfl) (hm.get 1) (fresh_of hI (g := gq) (ids_get (j := 1) (o := .cells #[.int .i64 0] 27 (0, 0)) (by kernel_rfl)) (by simp [Mem.ids])) (hN.later (bel0 hI)) (bel0 hI).size) ?_
    refine Goes.run [1] [] trivial ?_
    exact Goes.ret [] (.int .i64 (askP ckF 0 c)) fun w' hm hI => ⟨by unfold chkP; rw [h] <;> rfl, bel0 hI⟩
end Go.Proofs.YthnojedlndblbaaGreatDoor
