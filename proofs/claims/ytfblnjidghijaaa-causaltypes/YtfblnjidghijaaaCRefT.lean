/- The document's side of causal: a term's type. -/
import Derived.Test.YtfblnjidghijaaaCRefF
import Derived.Test.YtfblnjidghijaaaCRefK
import Derived.Test.YtfblnjidghijaaaCFit
namespace Go.Proofs.Ytfblnjidghijaaa
open Go Go.RowKit

def lastZ : List Int → Int
  | [] => 0
  | [x] => x
  | _ :: r => lastZ r
/-- A row of numbers in a block: what lies behind it there is no matter. -/
def zO (l : List Int) (r : List Value) : Obj := .cells (l.map (Value.int .i64) ++ r).toArray 3 (0, 0)
set_option maxRecDepth 100000 in
seal rn rnS Goes ans atEnd put0 putM opened putA0 oneSt st0 in
theorem last_any (b cap : Nat) (l : List Int) (r : List Value) (h3 : l.length ≤ 3) (h0 : l ≠ []) (w : World) (hb : w.heap[b]? = some (zO l r)) : Calls Try.prog 39 #[.slice (some ⟨b, 0, none⟩) l.length cap] w fun e w' => e = .returned (.int .i64 (lastZ l)) ∧ Below w.heap.size w w' := by
  match l, h0, h3 with
  | [x], _, _ =>
    refine Goes.begin Try.func39 [(b, zO [x] r)] (fun _ => True) (fun j b o h => by match j, h with | 0, h => (cases h; exact hb)) (by simp [Mem.ids]) (fun _ _ => trivial) ?_
    refine Goes.run [0, 0, 0] [(false, false)] ⟨rfl, trivial⟩ ?_
    exact Goes.ret [] (.int .i64 x) fun w' hm hI => ⟨rfl, below_end (m := [(b, zO [x] r)]) (fun j b o h => by match j, h with | 0, h => (cases h; exact hb)) hI.now.1 hm (by kernel_rfl)⟩
  | [x, y], _, _ =>
    refine Goes.begin Try.func39 [(b, zO [x, y] r)] (fun _ => True) (fun j b o h => by match j, h with | 0, h => (cases h; exact hb)) (by simp [Mem.ids]) (fun _ _ => trivial) ?_
    refine Goes.run [0, 0, 0] [(false, false)] ⟨rfl, trivial⟩ ?_
    exact Goes.ret [] (.int .i64 y) fun w' hm hI => ⟨rfl, below_end (m := [(b, zO [x, y] r)]) (fun j b o h => by match j, h with | 0, h => (cases h; exact hb)) hI.now.1 hm (by kernel_rfl)⟩
  | [x, y, z], _, _ =>
    refine Goes.begin Try.func39 [(b, zO [x, y, z] r)] (fun _ => True) (fun j b o h => by match j, h with | 0, h => (cases h; exact hb)) (by simp [Mem.ids]) (fun _ _ => trivial) ?_
    refine Goes.run [0, 0, 0] [(false, false)] ⟨rfl, trivial⟩ ?_
    exact Goes.ret [] (.int .i64 z) fun w' hm hI => ⟨rfl, below_end (m := [(b, zO [x, y, z] r)]) (fun j b o h => by match j, h with | 0, h => (cases h; exact hb)) hI.now.1 hm (by kernel_rfl)⟩
set_option maxRecDepth 100000 in
seal rn rnS Goes ans atEnd put0 putM opened putA0 oneSt st0 in
theorem last_nil (a : Option Addr) (c : Nat) (w : World) : Calls Try.prog 39 #[.slice a 0 c] w fun e w' => e = .returned (.int .i64 0) ∧ Below w.heap.size w w' := by
  refine Goes.begin Try.func39 [] (fun _ => True) Holds.nil (by simp [Mem.ids]) (fun _ _ => trivial) ?_
  refine Goes.run [1] [(true, true)] ⟨rfl, trivial⟩ ?_
  exact Goes.ret [] (.int .i64 0) fun w' hm hI => ⟨rfl, bel0 hI⟩
theorem Goes.knowQ {P : Program} {F : Exit → Act → World → Prop} {Inv : World → Prop} {s : St} {Q : Prop} (hQ : ∀ w, Holds s.mem w → s.mem.ids.Nodup → Stay s.mem.ids w Inv → Q) (h : Q → Goes P F Inv s) : Goes P F Inv s := fun w a b c => h (hQ w a b c) w a b c
/-- A row of one's own becomes a known block. -/
theorem Goes.row {P : Program} {F : Exit → Act → World → Prop} {Inv : World → Prop} {s : St} {I0 : World → Prop} (base : Nat) (e : TypeId) (size : Nat) (v : Value) (n : Nat) (xs : List Value) (hI : ∀ w, Inv w → I0 w ∧ w.ownsRow base e size v n xs) (hst : ∀ w w', I0 w → Below base w w' → I0 w')
    (hN : n = 0 → (∃ a c, v = .slice a 0 c) → Goes P F I0 s) (hR : ∀ b cap r, 0 < n → v = .slice (some ⟨b, 0, none⟩) n cap → base ≤ b → n ≤ cap → Goes P F I0 ⟨s.todo, s.tmps, s.mem ++ [(b, .cells (xs ++ r).toArray e (0, 0))]⟩) : Goes P F Inv s := by
  intro w hm hn hS
  obtain ⟨-, hlen, hrow⟩ := hI w hS.now
  have hap : ∀ b, v.ownBlock = some b → b ∉ s.mem.ids := fun b hb => row_apart (hS.mono fun w' h => (hI w' h).2) hb
  rcases hrow with ⟨h1, h2⟩ | ⟨b, cap, cur, h1, hb, hcur, hle, hmax, hsz, htake⟩
  · exact hN h2 ⟨_, _, h1⟩ w hm hn (hS.mono fun w' h => (hI w' h).1)
  · rcases Nat.eq_zero_or_pos n with h0 | h0
    · exact hN h0 ⟨_, _, h0 ▸ h1⟩ w hm hn (hS.mono fun w' h => (hI w' h).1)
    have hbn : b ∉ s.mem.ids := hap b (by rw [h1]; rfl)
    have hc : cur = (xs ++ cur.toList.drop (n * size)).toArray := by rw [← htake, List.take_append_drop]
    have hbl := lt_of_get hcur
    refine hR b cap (cur.toList.drop (n * size)) h0 h1 hb hle w ?_ ?_ ?_
    · intro j b' o hj
      rcases List.mem_append.1 (List.mem_of_getElem? hj) with hx | hx
      · obtain ⟨i, hi⟩ := List.getElem?_of_mem hx
        exact hm i b' o hi
      · rw [List.mem_singleton] at hx
        cases hx
        rw [← hc]
        exact hcur
    · unfold Mem.ids
      rw [List.map_append, List.nodup_append]
      refine ⟨hn, by simp, fun x hx y hy e => ?_⟩
      simp only [List.map_cons, List.map_nil, List.mem_singleton] at hy
      subst e
      subst hy
      exact hbn hx
    · intro w2 hc2
      have hbl2 : b < w2.heap.size := Nat.lt_of_lt_of_le hbl hc2.size
      have h3 : Ch s.mem.ids w { w2 with heap := w2.heap.setIfInBounds b (.cells cur e (0, 0)) } := ⟨hc2.os, hc2.tape, hc2.output, by
        show w.heap.size ≤ (w2.heap.setIfInBounds b _).size
        simpa using hc2.size, fun k hk hx => by
        show (w2.heap.setIfInBounds b _)[k]? = _
        by_cases hkb : b = k
        · subst hkb; rw [Array.getElem?_setIfInBounds_self_of_lt hbl2]; exact hcur.symm
        · rw [Array.getElem?_setIfInBounds_ne hkb]
          refine hc2.block k hk (fun hm => ?_)
          unfold Mem.ids at hm
          rw [List.map_append, List.mem_append] at hm
          rcases hm with hm | hm
          · exact hx hm
          · simp at hm; exact hkb hm.symm⟩
      refine hst _ w2 (hI _ (hS _ h3)).1 ⟨rfl, rfl, rfl, by simp, fun k hk => ?_⟩
      show w2.heap[k]? = (w2.heap.setIfInBounds b _)[k]?
      rw [Array.getElem?_setIfInBounds_ne (by omega)]
theorem loadZ {w : World} {b i : Nat} {l : List Int} {r : List Value} {z : Int} (hb : w.heap[b]? = some (zO l r)) (hi : l[i]? = some z) : (Instr.loadAt 3 (.pointer (some ⟨b, i, none⟩))).run Try.prog w = .ok (.int .i64 z) w := by
  refine load1 Try.isAgg3 ?_
  unfold World.cell?
  rw [hb]
  obtain ⟨hl, he⟩ := List.getElem?_eq_some_iff.1 hi
  simp [zO, List.getElem?_append_left, hl, he]
def ifF : List Int → Bool
  | [x, y, z] => x == 1 && y == z && y != 4
  | _ => false
/-- What is told of a term whose kids have the types l. -/
def endF (op : Int) (l : List Int) : Int × Bool :=
  bif op == 22 then (lastZ l, ifF l) else
  match rkP op with
  | none => (0, false)
  | some (want, t) => bif (want.length : Int) != (l.length : Int) then (0, false) else bif want == l then (t, true) else (0, false)
mutual
def typF (d : Int) : Co → Int × Bool
  | .mk op k t kids =>
    bif !fldP op k t || decide (d > 200) || decide ((kids.length : Int) > 3) then (0, false) else
    match tysF (d + 1) kids with
    | none => (0, false)
    | some l => endF op l
def tysF (d : Int) : List Co → Option (List Int)
  | [] => some []
  | c :: r => bif (typF d c).2 then (tysF d r).map ((typF d c).1 :: ·) else none
end
end Go.Proofs.Ytfblnjidghijaaa
