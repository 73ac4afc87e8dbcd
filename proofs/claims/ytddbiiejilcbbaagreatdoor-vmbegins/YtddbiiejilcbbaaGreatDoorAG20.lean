/- texts put together: GReg GRef VmP GRef2 VmR GPro1 GPro2 GPro3 GRef3 -/
import Derived.Test.YtddbiiejilcbbaaGreatDoorAG19
import Derived.Test.YtddbiiejilcbbaaGreatDoorAG3
import Derived.Test.DevTool
import Derived.Test.YtddbiiejilcbbaaGreatDoorAG14
import Derived.Test.YtddbiiejilcbbaaGreatDoorAG16
import Derived.Test.YtddbiiejilcbbaaGreatDoorAG4
import Derived.Test.YtddbiiejilcbbaaGreatDoorAG5
import Derived.Test.YtddbiiejilcbbaaGreatDoorAG17
namespace Go.Proofs.YtddbiiejilcbbaaGreatDoor
open Go Go.RowKit

def usesT : List Int := [0, 1, 9, 1, 3, 7, 7, 7, 7, 7, 7, 7, 3, 7, 7, 7, 7, 7, 3, 10, 8, 8, 8, 2, 0, 1, 2, 0, 0, 0, 0]
/-- The program's table. -/
def TabU (w : World) : Prop := ∀ k, k < 31 → w.cell? ⟨0, k, none⟩ = some (.int .i64 (usesT.getD k 0))
theorem TabU.below {w w' : World} (h : TabU w) (hB : Below w.heap.size w w') : TabU w' := fun k hk => by
  rw [hB.cell (p := ⟨0, k, none⟩) (World.block_lt_of_cell? w _ (h k hk))]; exact h k hk
theorem sizeI : (Tryz.prog.info? 72).map (·.size) = some 7 := by kernel_rfl
theorem idxIk (b o n cap k : Nat) (h : k < n) (w : World) : (Instr.indexAt 25 (.slice (some ⟨b, o, none⟩) n cap) (.int .i64 k)).run Tryz.prog w = .ok (.pointer (some ⟨b, o + k * 7, none⟩)) w := by go_simp
theorem idxU (k : Nat) (h : k < 31) (w : World) : (Instr.indexAt 140 (.pointer (some ⟨0, 0, none⟩)) (.int .i64 k)).run Tryz.prog w = .ok (.pointer (some ⟨0, k, none⟩)) w := by go_simp; intro h2; omega
/-- An instruction lies at a place. -/
def IcAt (w : World) (b o : Nat) (x : Ik) : Prop := ∀ j u, (iC x)[j]? = some u → w.cell? ⟨b, o + j, none⟩ = some u
theorem loadI {w : World} {b o : Nat} {x : Ik} (h : IcAt w b o x) : (Instr.loadAt 72 (.pointer (some ⟨b, o, none⟩))).run Tryz.prog w = .ok (iV x) w := loadAgg Tryz.isAgg72 sizeI (iC x) rfl h
theorem IcAt.below {w w' : World} {b o : Nat} {x : Ik} (h : IcAt w b o x) (hb : b < w.heap.size) (hB : Below w.heap.size w w') : IcAt w' b o x := fun j u hj => by rw [hB.cell (p := ⟨b, o + j, none⟩) hb]; exact h j u hj
end Go.Proofs.YtddbiiejilcbbaaGreatDoor
namespace Go.Proofs.YtddbiiejilcbbaaGreatDoor
open Go Go.RowKit

/-- A wait. -/
structure Wk where
  entry : Int
  day : Int
  label : List UInt8
  first : Int
  second : Int
def wC (x : Wk) : List Value := [.int .i64 x.entry, .int .i64 x.day, strV x.label, .int .i64 x.first, .int .i64 x.second]
def wV (x : Wk) : Value := .agg #[.int .i64 x.entry, .int .i64 x.day, strV x.label, .int .i64 x.first, .int .i64 x.second]
/-- A bytecode. -/
structure Kd where
  regs : Int
  waits : List Wk
  ins : List Ik
def usesR (op : Int) : List UInt8 × Bool :=
  bif op == 1 || op == 3 then ([65, 78], true) else
  bif op == 2 then ([65, 83, 78, 84], true) else
  bif op == 4 || op == 12 || op == 18 then ([65, 66], true) else
  bif op == 5 || op == 6 || op == 7 || op == 8 || op == 9 || op == 10 || op == 11 || op == 13 || op == 14 || op == 15 || op == 16 || op == 17 then ([65, 66, 67], true) else
  bif op == 19 then ([66, 84], true) else
  bif op == 20 then ([84], true) else
  bif op == 21 || op == 22 then ([78, 84], true) else
  bif op == 23 || op == 26 then ([66], true) else
  bif op == 25 then ([65], true) else
  bif op == 27 then ([83], true) else
  bif op == 28 || op == 29 then ([78], true) else
  bif op == 24 || op == 30 then ([], true) else
  ([], false)
def hasR (l : List UInt8) (c : UInt8) : Bool := l.any fun x => x == c
def regR (n : Int) (used : Bool) (regs : Int) : Bool := bif used then decide (0 ≤ n) && decide (n < regs) else n == 0
def plaR (k : Kd) (n : Int) : Bool := decide (0 ≤ n) && decide (n < (k.ins.length : Int))
def numR (k : Kd) (at' : Int) (x : Ik) : Bool :=
  bif x.op == 1 then decide (-1000000000000000 ≤ x.n) && decide (x.n ≤ 1000000000000000)
  else bif x.op == 2 || x.op == 3 then decide (0 ≤ x.n) && decide (x.n ≤ 3660)
  else bif x.op == 21 || x.op == 22 then decide (0 ≤ x.n) && decide (x.n ≤ 73048)
  else bif x.op == 28 then decide (0 ≤ x.n) && decide (x.n < (k.waits.length : Int))
  else bif x.op == 29 then decide (0 ≤ x.n) && decide (x.n < (k.waits.length : Int)) && (match k.waits[x.n.toNat]? with | some w => decide (w.entry > at') | none => false)
  else x.n == 0
def txtR (x : Ik) : Bool := bif x.op == 2 then namP x.s else bif x.op == 27 then curP x.s else decide (x.s = [])
def toR (k : Kd) (at' : Int) (x : Ik) : Bool := bif hasR (usesR x.op).1 84 then decide (x.to > at') && decide (x.to < (k.ins.length : Int)) else x.to == 0
def insR (k : Kd) (at' : Int) (x : Ik) : Bool := (usesR x.op).2 && regR x.a (hasR (usesR x.op).1 65) k.regs && regR x.b (hasR (usesR x.op).1 66) k.regs && regR x.c (hasR (usesR x.op).1 67) k.regs && numR k at' x && txtR x && toR k at' x
def waiR (k : Kd) (x : Wk) : Bool := plaR k x.entry && decide (0 ≤ x.day) && decide (x.day ≤ 73048) && (bif decide (x.label = []) then x.first == 0 && x.second == 0 else namP x.label && plaR k x.first && plaR k x.second)
def insL (k : Kd) : Int → List Ik → Bool
  | _, [] => true
  | i, x :: r => insR k i x && insL k (i + 1) r
def headR (k : Kd) : Bool := decide (0 ≤ k.regs) && decide (k.regs ≤ 256) && decide (k.waits.length ≤ 250) && decide (1 ≤ k.ins.length) && decide (k.ins.length ≤ 16384) && (match k.ins[k.ins.length - 1]? with | some x => x.op == 30 | none => false)
def rightR (k : Kd) : Bool := headR k && k.waits.all (waiR k) && insL k 0 k.ins
set_option maxRecDepth 100000 in
seal rn rnN rnS Goes ans atEnd put0 put putM opened openedY putA0 putA oneSt st0 keep mkSt newSt in
theorem has_any (l : List UInt8) (c : UInt8) (hl : l.length ≤ 100) (w : World) : Calls Tryz.prog 83 #[strV l, .int .u8 (c.toNat : Nat)] w fun e w' => e = .returned (.bool (hasR l c)) ∧ Below w.heap.size w w' := by
  refine Goes.begin Tryz.func83 [] (fun _ => True) Holds.nil (by simp [Mem.ids]) (fun _ _ => trivial) ?_
  refine Goes.run [] [] trivial ?_
  refine Goes.loop0 (α := Nat) 17 (fun j => [(0, strV l), (1, .int .u8 (c.toNat : Nat)), (5, .int .i64 j)]) [] (fun j => hasR l c = hasR (l.drop j) c ∧ j ≤ l.length) (fun j => l.length - j) 0 ⟨rfl, Nat.zero_le _⟩ ?_
  rintro j J ⟨hj, hj2⟩ back
  have hsz : (⟨l.toArray⟩ : ByteArray).size = l.length := by simp [ByteArray.size]
  cases hlt : decide ((j : Int) < ((⟨l.toArray⟩ : ByteArray).size : Int)) with
  | false =>
    have hjl : l.length ≤ j := by have := of_decide_eq_false hlt; rw [hsz] at this; omega
    refine Goes.run [0, 0] [(decide ((j : Int) < ((⟨l.toArray⟩ : ByteArray).size : Int)), false)] ⟨hlt, trivial⟩ ?_
    exact Goes.ret [] (.bool false) fun w' hm hI => ⟨by rw [hj, List.drop_of_length_le hjl]; rfl, bel0 hI⟩
  | true =>
    have hjl : j < l.length := by have := of_decide_eq_true hlt; rw [hsz] at this; omega
    obtain ⟨x, hx⟩ : ∃ x, l[j]? = some x := ⟨l[j], by simp [hjl]⟩
    have hd : hasR (l.drop j) c = (x == c || hasR (l.drop (j + 1)) c) := by
      rw [drop_any hx]
      rfl
    have hxc : ((x.toNat : Int) == (c.toNat : Int)) = (x == c) := by
      rw [Bool.eq_iff_iff, beq_iff_eq, beq_iff_eq]
      constructor
      · intro h; exact UInt8.toNat_inj.1 (by omega)
      · intro h; rw [h]
    refine Goes.run [0, 1] [(decide ((j : Int) < ((⟨l.toArray⟩ : ByteArray).size : Int)), true)] ⟨hlt, trivial⟩ ?_
    refine Goes.val (Instr.index 9 (strV l) (.int .i64 j)) (.int .u8 (x.toNat : Nat)) (fun w' _ _ => idxB hx w') ?_
    cases hc : (x == c) with
    | true =>
      refine Goes.run [1] [((x.toNat : Int) == (c.toNat : Int), true)] ⟨by rw [hxc, hc], trivial⟩ ?_
      exact Goes.ret [] (.bool true) fun w' hm hI => ⟨by rw [hj, hd, hc]; rfl, bel0 hI⟩
    | false =>
      refine Goes.run [0] [((x.toNat : Int) == (c.toNat : Int), false)] ⟨by rw [hxc, hc], trivial⟩ ?_
      refine Goes.slot 5 (.int .i64 (j + 1 : Nat)) (u := .int .i64 (IntKind.i64.wrap ((j : Int) + 1))) (congrArg _ (wrap_nat (by omega))) ?_
      exact back (j + 1) _ ⟨by rw [hj, hd, hc]; rfl, by omega⟩ (by omega) (by kernel_rfl) (by kernel_rfl) (by kernel_rfl)
set_option maxRecDepth 100000 in
seal rn rnN rnS Goes ans atEnd put0 put putM opened openedY putA0 putA oneSt st0 keep mkSt newSt in
theorem register_any (n regs : Int) (used : Bool) (w : World) : Calls Tryz.prog 82 #[.int .i64 n, .bool used, .int .i64 regs] w fun e w' => e = .returned (.bool (regR n used regs)) ∧ Below w.heap.size w w' := by
  refine Goes.begin Tryz.func82 [] (fun _ => True) Holds.nil (by simp [Mem.ids]) (fun _ _ => trivial) ?_
  cases used with
  | false =>
    refine Goes.run [0, 0, 0, 1] [(true, true), (false, false), (false, false), (false, false)] ⟨rfl, rfl, rfl, rfl, trivial⟩ ?_
    exact Goes.ret [] (.bool (n == 0)) fun w' hm hI => ⟨rfl, bel0 hI⟩
  | true =>
    cases h0 : decide (0 ≤ n) with
    | false =>
      refine Goes.run [1, 0, 0, 0] [(false, false), (false, false), (decide (0 ≤ n), false), (true, true)] ⟨rfl, rfl, h0, rfl, trivial⟩ ?_
      exact Goes.ret [] (.bool false) fun w' hm hI => ⟨by unfold regR; rw [h0]; rfl, bel0 hI⟩
    | true =>
      cases h1 : decide (n < regs) with
      | true =>
        refine Goes.run [1, 1, 1] [(decide (n < regs), true), (decide (0 ≤ n), true), (true, true)] ⟨h1, h0, rfl, trivial⟩ ?_
        exact Goes.ret [] (.bool true) fun w' hm hI => ⟨by unfold regR; rw [h0, h1]; rfl, bel0 hI⟩
      | false =>
        refine Goes.run [1, 1, 0, 0] [(false, false), (decide (n < regs), false), (decide (0 ≤ n), true), (true, true)] ⟨rfl, h1, h0, rfl, trivial⟩ ?_
        exact Goes.ret [] (.bool false) fun w' hm hI => ⟨by unfold regR; rw [h0, h1]; rfl, bel0 hI⟩
set_option maxRecDepth 100000 in
seal rn rnN rnS Goes ans atEnd put0 put putM opened openedY putA0 putA oneSt st0 keep mkSt newSt in
theorem uses_any (op : Int) (w : World) : Calls Tryz.prog 81 #[.int .i64 op] w fun e w' => e = .returned (.tuple #[strV (usesR op).1, .bool (usesR op).2]) ∧ Below w.heap.size w w' := by
  refine Goes.begin Tryz.func81 [] (fun _ => True) Holds.nil (by simp [Mem.ids]) (fun _ _ => trivial) ?_
  by_cases h1 : op = 1
  · subst h1
    refine Goes.run [1, 1] [(true, true), (true, true)] ⟨rfl, rfl, trivial⟩ ?_
    exact Goes.ret [] (.tuple #[strV [65, 78], .bool true]) fun w' hm hI => ⟨rfl, bel0 hI⟩
  by_cases h2 : op = 2
  · subst h2
    refine Goes.run [0, 0, 1] [(true, true), (false, false), (false, false)] ⟨rfl, rfl, rfl, trivial⟩ ?_
    exact Goes.ret [] (.tuple #[strV [65, 83, 78, 84], .bool true]) fun w' hm hI => ⟨rfl, bel0 hI⟩
  by_cases h3 : op = 3
  · subst h3
    refine Goes.run [0, 1] [(true, true), (false, false)] ⟨rfl, rfl, trivial⟩ ?_
    exact Goes.ret [] (.tuple #[strV [65, 78], .bool true]) fun w' hm hI => ⟨rfl, bel0 hI⟩
  by_cases h4 : op = 4
  · subst h4
    refine Goes.run [0, 0, 0, 1, 1] [(true, true), (true, true), (false, false), (false, false), (false, false)] ⟨rfl, rfl, rfl, rfl, rfl, trivial⟩ ?_
    exact Goes.ret [] (.tuple #[strV [65, 66], .bool true]) fun w' hm hI => ⟨rfl, bel0 hI⟩
  by_cases h5 : op = 5
  · subst h5
    refine Goes.run [0, 0, 0, 0, 0, 0, 1, 1] [(true, true), (true, true), (false, false), (false, false), (false, false), (false, false), (false, false), (false, false)] ⟨rfl, rfl, rfl, rfl, rfl, rfl, rfl, rfl, trivial⟩ ?_
    exact Goes.ret [] (.tuple #[strV [65, 66, 67], .bool true]) fun w' hm hI => ⟨rfl, bel0 hI⟩
  by_cases h6 : op = 6
  · subst h6
    refine Goes.run [0, 0, 0, 0, 0, 0, 0, 1, 1] [(true, true), (true, true), (false, false), (false, false), (false, false), (false, false), (false, false), (false, false), (false, false)] ⟨rfl, rfl, rfl, rfl, rfl, rfl, rfl, rfl, rfl, trivial⟩ ?_
    exact Goes.ret [] (.tuple #[strV [65, 66, 67], .bool true]) fun w' hm hI => ⟨rfl, bel0 hI⟩
  by_cases h7 : op = 7
  · subst h7
    refine Goes.run [0, 0, 0, 0, 0, 0, 0, 0, 1, 1] [(true, true), (true, true), (false, false), (false, false), (false, false), (false, false), (false, false), (false, false), (false, false), (false, false)] ⟨rfl, rfl, rfl, rfl, rfl, rfl, rfl, rfl, rfl, rfl, trivial⟩ ?_
    exact Goes.ret [] (.tuple #[strV [65, 66, 67], .bool true]) fun w' hm hI => ⟨rfl, bel0 hI⟩
  by_cases h8 : op = 8
  · subst h8
    refine Goes.run [0, 0, 0, 0, 0, 0, 0, 0, 0, 1, 1] [(true, true), (true, true), (false, false), (false, false), (false, false), (false, false), (false, false), (false, false), (false, false), (false, false), (false, false)] ⟨rfl, rfl, rfl, rfl, rfl, rfl, rfl, rfl, rfl, rfl, rfl, trivial⟩ ?_
    exact Goes.ret [] (.tuple #[strV [65, 66, 67], .bool true]) fun w' hm hI => ⟨rfl, bel0 hI⟩
  by_cases h9 : op = 9
  · subst h9
    refine Goes.run [0, 0, 0, 0, 0, 0, 0, 0, 0, 0, 1, 1] [(true, true), (true, true), (false, false), (false, false), (false, false), (false, false), (false, false), (false, false), (false, false), (false, false), (false, false), (false, false)] ⟨rfl, rfl, rfl, rfl, rfl, rfl, rfl, rfl, rfl, rfl, rfl, rfl, trivial⟩ ?_
    exact Goes.ret [] (.tuple #[strV [65, 66, 67], .bool true]) fun w' hm hI => ⟨rfl, bel0 hI⟩
  by_cases h10 : op = 10
  · subst h10
    refine Goes.run [0, 0, 0, 0, 0, 0, 0, 0, 0, 0, 0, 1, 1] [(true, true), (true, true), (false, false), (false, false), (false, false), (false, false), (false, false), (false, false), (false, false), (false, false), (false, false), (false, false), (false, false)] ⟨rfl, rfl, rfl, rfl, rfl, rfl, rfl, rfl, rfl, rfl, rfl, rfl, rfl, trivial⟩ ?_
    exact Goes.ret [] (.tuple #[strV [65, 66, 67], .bool true]) fun w' hm hI => ⟨rfl, bel0 hI⟩
  by_cases h11 : op = 11
  · subst h11
    refine Goes.run [0, 0, 0, 0, 0, 0, 0, 0, 0, 0, 0, 0, 1, 1] [(true, true), (true, true), (false, false), (false, false), (false, false), (false, false), (false, false), (false, false), (false, false), (false, false), (false, false), (false, false), (false, false), (false, false)] ⟨rfl, rfl, rfl, rfl, rfl, rfl, rfl, rfl, rfl, rfl, rfl, rfl, rfl, rfl, trivial⟩ ?_
    exact Goes.ret [] (.tuple #[strV [65, 66, 67], .bool true]) fun w' hm hI => ⟨rfl, bel0 hI⟩
  by_cases h12 : op = 12
  · subst h12
    refine Goes.run [0, 0, 0, 0, 1, 1] [(true, true), (true, true), (false, false), (false, false), (false, false), (false, false)] ⟨rfl, rfl, rfl, rfl, rfl, rfl, trivial⟩ ?_
    exact Goes.ret [] (.tuple #[strV [65, 66], .bool true]) fun w' hm hI => ⟨rfl, bel0 hI⟩
  by_cases h13 : op = 13
  · subst h13
    refine Goes.run [0, 0, 0, 0, 0, 0, 0, 0, 0, 0, 0, 0, 0, 1, 1] [(true, true), (true, true), (false, false), (false, false), (false, false), (false, false), (false, false), (false, false), (false, false), (false, false), (false, false), (false, false), (false, false), (false, false), (false, false)] ⟨rfl, rfl, rfl, rfl, rfl, rfl, rfl, rfl, rfl, rfl, rfl, rfl, rfl, rfl, rfl, trivial⟩ ?_
    exact Goes.ret [] (.tuple #[strV [65, 66, 67], .bool true]) fun w' hm hI => ⟨rfl, bel0 hI⟩
  by_cases h14 : op = 14
  · subst h14
    refine Goes.run [0, 0, 0, 0, 0, 0, 0, 0, 0, 0, 0, 0, 0, 0, 1, 1] [(true, true), (true, true), (false, false), (false, false), (false, false), (false, false), (false, false), (false, false), (false, false), (false, false), (false, false), (false, false), (false, false), (false, false), (false, false), (false, false)] ⟨rfl, rfl, rfl, rfl, rfl, rfl, rfl, rfl, rfl, rfl, rfl, rfl, rfl, rfl, rfl, rfl, trivial⟩ ?_
    exact Goes.ret [] (.tuple #[strV [65, 66, 67], .bool true]) fun w' hm hI => ⟨rfl, bel0 hI⟩
  by_cases h15 : op = 15
  · subst h15
    refine Goes.run [0, 0, 0, 0, 0, 0, 0, 0, 0, 0, 0, 0, 0, 0, 0, 1, 1] [(true, true), (true, true), (false, false), (false, false), (false, false), (false, false), (false, false), (false, false), (false, false), (false, false), (false, false), (false, false), (false, false), (false, false), (false, false), (false, false), (false, false)] ⟨rfl, rfl, rfl, rfl, rfl, rfl, rfl, rfl, rfl, rfl, rfl, rfl, rfl, rfl, rfl, rfl, rfl, trivial⟩ ?_
    exact Goes.ret [] (.tuple #[strV [65, 66, 67], .bool true]) fun w' hm hI => ⟨rfl, bel0 hI⟩
  by_cases h16 : op = 16
  · subst h16
    refine Goes.run [0, 0, 0, 0, 0, 0, 0, 0, 0, 0, 0, 0, 0, 0, 0, 0, 1, 1] [(true, true), (true, true), (false, false), (false, false), (false, false), (false, false), (false, false), (false, false), (false, false), (false, false), (false, false), (false, false), (false, false), (false, false), (false, false), (false, false), (false, false), (false, false)] ⟨rfl, rfl, rfl, rfl, rfl, rfl, rfl, rfl, rfl, rfl, rfl, rfl, rfl, rfl, rfl, rfl, rfl, rfl, trivial⟩ ?_
    exact Goes.ret [] (.tuple #[strV [65, 66, 67], .bool true]) fun w' hm hI => ⟨rfl, bel0 hI⟩
  by_cases h17 : op = 17
  · subst h17
    refine Goes.run [0, 0, 0, 0, 0, 0, 0, 0, 0, 0, 0, 0, 0, 0, 0, 0, 0, 1] [(true, true), (false, false), (false, false), (false, false), (false, false), (false, false), (false, false), (false, false), (false, false), (false, false), (false, false), (false, false), (false, false), (false, false), (false, false), (false, false), (false, false), (false, false)] ⟨rfl, rfl, rfl, rfl, rfl, rfl, rfl, rfl, rfl, rfl, rfl, rfl, rfl, rfl, rfl, rfl, rfl, rfl, trivial⟩ ?_
    exact Goes.ret [] (.tuple #[strV [65, 66, 67], .bool true]) fun w' hm hI => ⟨rfl, bel0 hI⟩
  by_cases h18 : op = 18
  · subst h18
    refine Goes.run [0, 0, 0, 0, 0, 1] [(true, true), (false, false), (false, false), (false, false), (false, false), (false, false)] ⟨rfl, rfl, rfl, rfl, rfl, rfl, trivial⟩ ?_
    exact Goes.ret [] (.tuple #[strV [65, 66], .bool true]) fun w' hm hI => ⟨rfl, bel0 hI⟩
  by_cases h19 : op = 19
  · subst h19
    refine Goes.run [0, 0, 0, 0, 0, 0, 0, 0, 0, 0, 0, 0, 0, 0, 0, 0, 0, 0, 1] [(true, true), (false, false), (false, false), (false, false), (false, false), (false, false), (false, false), (false, false), (false, false), (false, false), (false, false), (false, false), (false, false), (false, false), (false, false), (false, false), (false, false), (false, false), (false, false)] ⟨rfl, rfl, rfl, rfl, rfl, rfl, rfl, rfl, rfl, rfl, rfl, rfl, rfl, rfl, rfl, rfl, rfl, rfl, rfl, trivial⟩ ?_
    exact Goes.ret [] (.tuple #[strV [66, 84], .bool true]) fun w' hm hI => ⟨rfl, bel0 hI⟩
  by_cases h20 : op = 20
  · subst h20
    refine Goes.run [0, 0, 0, 0, 0, 0, 0, 0, 0, 0, 0, 0, 0, 0, 0, 0, 0, 0, 0, 1] [(true, true), (false, false), (false, false), (false, false), (false, false), (false, false), (false, false), (false, false), (false, false), (false, false), (false, false), (false, false), (false, false), (false, false), (false, false), (false, false), (false, false), (false, false), (false, false), (false, false)] ⟨rfl, rfl, rfl, rfl, rfl, rfl, rfl, rfl, rfl, rfl, rfl, rfl, rfl, rfl, rfl, rfl, rfl, rfl, rfl, rfl, trivial⟩ ?_
    exact Goes.ret [] (.tuple #[strV [84], .bool true]) fun w' hm hI => ⟨rfl, bel0 hI⟩
  by_cases h21 : op = 21
  · subst h21
    refine Goes.run [0, 0, 0, 0, 0, 0, 0, 0, 0, 0, 0, 0, 0, 0, 0, 0, 0, 0, 0, 0, 1, 1] [(true, true), (true, true), (false, false), (false, false), (false, false), (false, false), (false, false), (false, false), (false, false), (false, false), (false, false), (false, false), (false, false), (false, false), (false, false), (false, false), (false, false), (false, false), (false, false), (false, false), (false, false), (false, false)] ⟨rfl, rfl, rfl, rfl, rfl, rfl, rfl, rfl, rfl, rfl, rfl, rfl, rfl, rfl, rfl, rfl, rfl, rfl, rfl, rfl, rfl, rfl, trivial⟩ ?_
    exact Goes.ret [] (.tuple #[strV [78, 84], .bool true]) fun w' hm hI => ⟨rfl, bel0 hI⟩
  by_cases h22 : op = 22
  · subst h22
    refine Goes.run [0, 0, 0, 0, 0, 0, 0, 0, 0, 0, 0, 0, 0, 0, 0, 0, 0, 0, 0, 0, 0, 1] [(true, true), (false, false), (false, false), (false, false), (false, false), (false, false), (false, false), (false, false), (false, false), (false, false), (false, false), (false, false), (false, false), (false, false), (false, false), (false, false), (false, false), (false, false), (false, false), (false, false), (false, false), (false, false)] ⟨rfl, rfl, rfl, rfl, rfl, rfl, rfl, rfl, rfl, rfl, rfl, rfl, rfl, rfl, rfl, rfl, rfl, rfl, rfl, rfl, rfl, rfl, trivial⟩ ?_
    exact Goes.ret [] (.tuple #[strV [78, 84], .bool true]) fun w' hm hI => ⟨rfl, bel0 hI⟩
  by_cases h23 : op = 23
  · subst h23
    refine Goes.run [0, 0, 0, 0, 0, 0, 0, 0, 0, 0, 0, 0, 0, 0, 0, 0, 0, 0, 0, 0, 0, 0, 1, 1] [(true, true), (true, true), (false, false), (false, false), (false, false), (false, false), (false, false), (false, false), (false, false), (false, false), (false, false), (false, false), (false, false), (false, false), (false, false), (false, false), (false, false), (false, false), (false, false), (false, false), (false, false), (false, false), (false, false), (false, false)] ⟨rfl, rfl, rfl, rfl, rfl, rfl, rfl, rfl, rfl, rfl, rfl, rfl, rfl, rfl, rfl, rfl, rfl, rfl, rfl, rfl, rfl, rfl, rfl, rfl, trivial⟩ ?_
    exact Goes.ret [] (.tuple #[strV [66], .bool true]) fun w' hm hI => ⟨rfl, bel0 hI⟩
  by_cases h24 : op = 24
  · subst h24
    refine Goes.run [0, 0, 0, 0, 0, 0, 0, 0, 0, 0, 0, 0, 0, 0, 0, 0, 0, 0, 0, 0, 0, 0, 0, 0, 0, 0, 0, 0, 1, 1] [(true, true), (true, true), (false, false), (false, false), (false, false), (false, false), (false, false), (false, false), (false, false), (false, false), (false, false), (false, false), (false, false), (false, false), (false, false), (false, false), (false, false), (false, false), (false, false), (false, false), (false, false), (false, false), (false, false), (false, false), (false, false), (false, false), (false, false), (false, false), (false, false), (false, false)] ⟨rfl, rfl, rfl, rfl, rfl, rfl, rfl, rfl, rfl, rfl, rfl, rfl, rfl, rfl, rfl, rfl, rfl, rfl, rfl, rfl, rfl, rfl, rfl, rfl, rfl, rfl, rfl, rfl, rfl, rfl, trivial⟩ ?_
    exact Goes.ret [] (.tuple #[strV [], .bool true]) fun w' hm hI => ⟨rfl, bel0 hI⟩
  by_cases h25 : op = 25
  · subst h25
    refine Goes.run [0, 0, 0, 0, 0, 0, 0, 0, 0, 0, 0, 0, 0, 0, 0, 0, 0, 0, 0, 0, 0, 0, 0, 0, 1] [(true, true), (false, false), (false, false), (false, false), (false, false), (false, false), (false, false), (false, false), (false, false), (false, false), (false, false), (false, false), (false, false), (false, false), (false, false), (false, false), (false, false), (false, false), (false, false), (false, false), (false, false), (false, false), (false, false), (false, false), (false, false)] ⟨rfl, rfl, rfl, rfl, rfl, rfl, rfl, rfl, rfl, rfl, rfl, rfl, rfl, rfl, rfl, rfl, rfl, rfl, rfl, rfl, rfl, rfl, rfl, rfl, rfl, trivial⟩ ?_
    exact Goes.ret [] (.tuple #[strV [65], .bool true]) fun w' hm hI => ⟨rfl, bel0 hI⟩
  by_cases h26 : op = 26
  · subst h26
    refine Goes.run [0, 0, 0, 0, 0, 0, 0, 0, 0, 0, 0, 0, 0, 0, 0, 0, 0, 0, 0, 0, 0, 0, 0, 1] [(true, true), (false, false), (false, false), (false, false), (false, false), (false, false), (false, false), (false, false), (false, false), (false, false), (false, false), (false, false), (false, false), (false, false), (false, false), (false, false), (false, false), (false, false), (false, false), (false, false), (false, false), (false, false), (false, false), (false, false)] ⟨rfl, rfl, rfl, rfl, rfl, rfl, rfl, rfl, rfl, rfl, rfl, rfl, rfl, rfl, rfl, rfl, rfl, rfl, rfl, rfl, rfl, rfl, rfl, rfl, trivial⟩ ?_
    exact Goes.ret [] (.tuple #[strV [66], .bool true]) fun w' hm hI => ⟨rfl, bel0 hI⟩
  by_cases h27 : op = 27
  · subst h27
    refine Goes.run [0, 0, 0, 0, 0, 0, 0, 0, 0, 0, 0, 0, 0, 0, 0, 0, 0, 0, 0, 0, 0, 0, 0, 0, 0, 1] [(true, true), (false, false), (false, false), (false, false), (false, false), (false, false), (false, false), (false, false), (false, false), (false, false), (false, false), (false, false), (false, false), (false, false), (false, false), (false, false), (false, false), (false, false), (false, false), (false, false), (false, false), (false, false), (false, false), (false, false), (false, false), (false, false)] ⟨rfl, rfl, rfl, rfl, rfl, rfl, rfl, rfl, rfl, rfl, rfl, rfl, rfl, rfl, rfl, rfl, rfl, rfl, rfl, rfl, rfl, rfl, rfl, rfl, rfl, rfl, trivial⟩ ?_
    exact Goes.ret [] (.tuple #[strV [83], .bool true]) fun w' hm hI => ⟨rfl, bel0 hI⟩
  by_cases h28 : op = 28
  · subst h28
    refine Goes.run [0, 0, 0, 0, 0, 0, 0, 0, 0, 0, 0, 0, 0, 0, 0, 0, 0, 0, 0, 0, 0, 0, 0, 0, 0, 0, 1, 1] [(true, true), (true, true), (false, false), (false, false), (false, false), (false, false), (false, false), (false, false), (false, false), (false, false), (false, false), (false, false), (false, false), (false, false), (false, false), (false, false), (false, false), (false, false), (false, false), (false, false), (false, false), (false, false), (false, false), (false, false), (false, false), (false, false), (false, false), (false, false)] ⟨rfl, rfl, rfl, rfl, rfl, rfl, rfl, rfl, rfl, rfl, rfl, rfl, rfl, rfl, rfl, rfl, rfl, rfl, rfl, rfl, rfl, rfl, rfl, rfl, rfl, rfl, rfl, rfl, trivial⟩ ?_
    exact Goes.ret [] (.tuple #[strV [78], .bool true]) fun w' hm hI => ⟨rfl, bel0 hI⟩
  by_cases h29 : op = 29
  · subst h29
    refine Goes.run [0, 0, 0, 0, 0, 0, 0, 0, 0, 0, 0, 0, 0, 0, 0, 0, 0, 0, 0, 0, 0, 0, 0, 0, 0, 0, 0, 1] [(true, true), (false, false), (false, false), (false, false), (false, false), (false, false), (false, false), (false, false), (false, false), (false, false), (false, false), (false, false), (false, false), (false, false), (false, false), (false, false), (false, false), (false, false), (false, false), (false, false), (false, false), (false, false), (false, false), (false, false), (false, false), (false, false), (false, false), (false, false)] ⟨rfl, rfl, rfl, rfl, rfl, rfl, rfl, rfl, rfl, rfl, rfl, rfl, rfl, rfl, rfl, rfl, rfl, rfl, rfl, rfl, rfl, rfl, rfl, rfl, rfl, rfl, rfl, rfl, trivial⟩ ?_
    exact Goes.ret [] (.tuple #[strV [78], .bool true]) fun w' hm hI => ⟨rfl, bel0 hI⟩
  by_cases h30 : op = 30
  · subst h30
    refine Goes.run [0, 0, 0, 0, 0, 0, 0, 0, 0, 0, 0, 0, 0, 0, 0, 0, 0, 0, 0, 0, 0, 0, 0, 0, 0, 0, 0, 0, 0, 1] [(true, true), (false, false), (false, false), (false, false), (false, false), (false, false), (false, false), (false, false), (false, false), (false, false), (false, false), (false, false), (false, false), (false, false), (false, false), (false, false), (false, false), (false, false), (false, false), (false, false), (false, false), (false, false), (false, false), (false, false), (false, false), (false, false), (false, false), (false, false), (false, false), (false, false)] ⟨rfl, rfl, rfl, rfl, rfl, rfl, rfl, rfl, rfl, rfl, rfl, rfl, rfl, rfl, rfl, rfl, rfl, rfl, rfl, rfl, rfl, rfl, rfl, rfl, rfl, rfl, rfl, rfl, rfl, rfl, trivial⟩ ?_
    exact Goes.ret [] (.tuple #[strV [], .bool true]) fun w' hm hI => ⟨rfl, bel0 hI⟩
  have N : ∀ {c : Int}, ¬ op = c → (op == c) = false := fun h => by rw [beq_eq_false_iff_ne]; exact h
  refine Goes.run [0, 0, 0, 0, 0, 0, 0, 0, 0, 0, 0, 0, 0, 0, 0, 0, 0, 0, 0, 0, 0, 0, 0, 0, 0, 0, 0, 0, 0, 0] [(op == 30, false), (op == 24, false), (op == 29, false), (op == 28, false), (op == 27, false), (op == 25, false), (op == 26, false), (op == 23, false), (op == 22, false), (op == 21, false), (op == 20, false), (op == 19, false), (op == 17, false), (op == 16, false), (op == 15, false), (op == 14, false), (op == 13, false), (op == 11, false), (op == 10, false), (op == 9, false), (op == 8, false), (op == 7, false), (op == 6, false), (op == 5, false), (op == 18, false), (op == 12, false), (op == 4, false), (op == 2, false), (op == 3, false), (op == 1, false)] ⟨N h30, N h24, N h29, N h28, N h27, N h25, N h26, N h23, N h22, N h21, N h20, N h19, N h17, N h16, N h15, N h14, N h13, N h11, N h10, N h9, N h8, N h7, N h6, N h5, N h18, N h12, N h4, N h2, N h3, N h1, trivial⟩ ?_
  refine Goes.ret [] (.tuple #[strV [], .bool false]) fun w' hm hI => ⟨?_, bel0 hI⟩
  have e : usesR op = ([], false) := by unfold usesR; simp only [N h1, N h3, N h2, N h4, N h12, N h18, N h5, N h6, N h7, N h8, N h9, N h10, N h11, N h13, N h14, N h15, N h16, N h17, N h19, N h20, N h21, N h22, N h23, N h26, N h25, N h27, N h28, N h29, N h24, N h30, Bool.or_self, cond_false]
  rw [e]
end Go.Proofs.YtddbiiejilcbbaaGreatDoor
namespace Go.Proofs.YtddbiiejilcbbaaGreatDoor
open Go Go.RowKit

noncomputable def vkP (op b c : Int) : Int :=
  bif op == 4 then - clampI b else bif op == 12 then trP (b == 0) else bif op == 5 then clampI (clampI b + clampI c) else bif op == 6 then clampI (clampI b - clampI c) else bif op == 7 then mulI b c else bif op == 8 then divI b c else bif op == 9 || op == 13 then trP (decide (b < c)) else bif op == 10 then trP (decide (b ≤ c)) else bif op == 11 then trP (b == c) else bif op == 14 then ((plusV b (whoI c) : Nat) : Int) else bif op == 15 then monI b (whoI c) else bif op == 16 then shareV ((clampD c : Int) - (clampD b : Int)) 365 else bif op == 17 then y30I b c else b
/-- What a run has of its own. -/
structure Rg where
  regs : Nat → Int
  next : Int
  f : Int
def Rg.get (r : Rg) (i : Int) : Int := r.regs i.toNat
def updR (R : Nat → Int) (i : Nat) (v : Int) : Nat → Int := fun j => bif j == i then v else R j
def Rg.put (r : Rg) (i v : Int) : Rg := ⟨updR r.regs i.toNat v, r.next, r.f⟩
def Rg.go (r : Rg) (to : Int) (is : Bool) : Rg := ⟨r.regs, bif is then to else r.next, r.f⟩
def Rg.fac (r : Rg) (f : Int) : Rg := ⟨r.regs, r.next, f⟩
noncomputable def doQ (fs : Fs) (day : Int) (x : Ik) (r : Rg) : Rg :=
  bif x.op == 2 then (match fedP x.s (day - x.n) fs with | some v => r.put x.a v | none => r.go x.to true) else
  bif x.op == 3 then r.put x.a ((clampD (day - x.n) : Nat) : Int) else
  bif x.op == 19 then r.go x.to (r.get x.b == 0) else
  bif x.op == 20 then r.go x.to true else
  bif x.op == 21 then r.go x.to (decide (day > x.n)) else
  bif x.op == 22 then r.go x.to (decide (day < x.n)) else
  bif x.op == 23 then r.fac (mulI r.f (r.get x.b)) else
  bif x.op == 24 then r.fac (- clampI r.f) else
  bif x.op == 25 then r.put x.a r.f else
  bif x.op == 26 then r.fac (clampI (r.get x.b)) else
  bif x.op == 1 then r.put x.a x.n else
  r.put x.a (vkP x.op (r.get x.b) (r.get x.c))
/-- What runs came to. -/
structure Ms where
  holds : List (Int × Int)
  out : List (List UInt8 × Int)
  steps : Int
def overM (s : Ms) : Bool := decide (s.steps > 65536) || decide ((s.holds.length : Int) > 250)
def Ms.one (s : Ms) : Ms := ⟨s.holds, s.out, s.steps + 1⟩
def Ms.pay (s : Ms) (c : List UInt8) (f : Int) : Ms := ⟨s.holds, s.out ++ bif f == 0 then [] else [(c, f)], s.steps⟩
def Ms.hold (s : Ms) (n f : Int) : Ms := ⟨s.holds ++ [(n, f)], s.out, s.steps⟩
def zeros : Nat → Int := fun _ => 0
def entK (k : Kd) (n : Int) : Int := match k.waits[n.toNat]? with | some w => w.entry | none => 0
def Rg.on (r : Rg) : Rg := ⟨r.regs, r.next + 1, r.f⟩
noncomputable def runP (k : Kd) (fs : Fs) (day : Int) : Nat → Rg → Ms → Ms
  | 0, _, s => s
  | n + 1, r, s => bif overM s then s else
    match k.ins[r.next.toNat]? with
    | none => s
    | some x =>
      bif x.op == 30 then s.one else
      bif x.op == 29 then runP k fs day n r.on (runP k fs day n ⟨zeros, entK k x.n, r.f⟩ s.one) else
      bif x.op == 28 then runP k fs day n r.on (s.one.hold x.n r.f) else
      bif x.op == 27 then runP k fs day n r.on (s.one.pay x.s r.f) else
      runP k fs day n (doQ fs day x r.on) s.one
noncomputable def runD (k : Kd) (fs : Fs) (day : Int) : Nat → Rg → Ms → Ms × Bool
  | 0, _, s => (s, false)
  | n + 1, r, s =>
    match k.ins[r.next.toNat]? with
    | none => (s, false)
    | some x =>
      bif decide (s.one.steps > 65536) then (s.one, true) else
      bif x.op == 30 then (s.one, false) else
      bif x.op == 29 then (bif (runD k fs day n ⟨zeros, entK k x.n, r.f⟩ s.one).2 then runD k fs day n ⟨zeros, entK k x.n, r.f⟩ s.one else runD k fs day n r.on (runD k fs day n ⟨zeros, entK k x.n, r.f⟩ s.one).1) else
      bif x.op == 28 then (bif decide (((s.one.hold x.n r.f).holds.length : Int) > 250) then (s.one.hold x.n r.f, true) else runD k fs day n r.on (s.one.hold x.n r.f)) else
      bif x.op == 27 then runD k fs day n r.on (s.one.pay x.s r.f) else
      runD k fs day n (doQ fs day x r.on) s.one
theorem runP_over {k : Kd} {fs : Fs} {day : Int} {n : Nat} {r : Rg} {s : Ms} (h : overM s = true) : runP k fs day n r s = s := by
  cases n with
  | zero => rfl
  | succ n => rw [runP, h]; rfl
theorem over_steps {s : Ms} (h : s.steps > 65536) : overM s = true := by unfold overM; rw [decide_eq_true h]; rfl
theorem over_iff {s : Ms} : overM s = false ↔ s.steps ≤ 65536 ∧ s.holds.length ≤ 250 := by
  unfold overM
  simp only [Bool.or_eq_false_iff, decide_eq_false_iff_not]
  omega
/-- Both come to the same. -/
theorem run_same (k : Kd) (fs : Fs) (day : Int) : ∀ (n : Nat) (r : Rg) (s : Ms), overM s = false → (runD k fs day n r s).2 = overM (runP k fs day n r s) ∧ ((runD k fs day n r s).2 = false → (runD k fs day n r s).1 = runP k fs day n r s)
  | 0, r, s, h => by rw [runD, runP, h]; exact ⟨rfl, fun _ => rfl⟩
  | n + 1, r, s, h => by
    rw [runD, runP, h]
    cases hx : k.ins[r.next.toNat]? with
    | none => exact ⟨h.symm, fun _ => rfl⟩
    | some x =>
      simp only [cond_false]
      cases hs : decide (s.one.steps > 65536) with
      | true =>
        have h1 := of_decide_eq_true hs
        simp only [cond_true]
        refine ⟨?_, fun e => by cases e⟩
        cases h30 : (x.op == 30) with
        | true => exact (over_steps h1).symm
        | false =>
        cases h29 : (x.op == 29) with
        | true => simp only [cond_true, cond_false]; rw [runP_over (over_steps h1), runP_over (over_steps h1), over_steps h1]
        | false =>
        cases h28 : (x.op == 28) with
        | true => simp only [cond_true, cond_false]; rw [runP_over (over_steps (s := s.one.hold x.n r.f) h1), over_steps (s := s.one.hold x.n r.f) h1]
        | false =>
        cases h27 : (x.op == 27) with
        | true => simp only [cond_true, cond_false]; rw [runP_over (over_steps (s := s.one.pay x.s r.f) h1), over_steps (s := s.one.pay x.s r.f) h1]
        | false => simp only [cond_false]; rw [runP_over (over_steps h1), over_steps h1]
      | false =>
        have h1 := of_decide_eq_false hs
        have h2 := over_iff.1 h
        have h3 : overM s.one = false := over_iff.2 ⟨by omega, h2.2⟩
        simp only [cond_false]
        cases h30 : (x.op == 30) with
        | true => exact ⟨h3.symm, fun _ => rfl⟩
        | false =>
        cases h29 : (x.op == 29) with
        | true =>
          simp only [cond_true, cond_false]
          obtain ⟨i1, i2⟩ := run_same k fs day n ⟨zeros, entK k x.n, r.f⟩ s.one h3
          cases hq : (runD k fs day n ⟨zeros, entK k x.n, r.f⟩ s.one).2 with
          | true =>
            rw [hq] at i1
            simp only [cond_true]
            rw [runP_over i1.symm, hq]
            exact ⟨i1, fun e => by cases e⟩
          | false =>
            rw [hq] at i1
            simp only [cond_false]
            rw [i2 hq]
            exact run_same k fs day n r.on _ i1.symm
        | false =>
        cases h28 : (x.op == 28) with
        | true =>
          simp only [cond_true, cond_false]
          cases hl : decide (((s.one.hold x.n r.f).holds.length : Int) > 250) with
          | true =>
            have ho : overM (s.one.hold x.n r.f) = true := by unfold overM; rw [hl, Bool.or_true]
            simp only [cond_true]
            rw [runP_over ho]
            exact ⟨ho.symm, fun e => by cases e⟩
          | false =>
            simp only [cond_false]
            exact run_same k fs day n r.on _ (over_iff.2 ⟨by have := (over_iff.1 h3).1; exact this, by have := of_decide_eq_false hl; omega⟩)
        | false =>
        cases h27 : (x.op == 27) with
        | true =>
          simp only [cond_true, cond_false]
          exact run_same k fs day n r.on _ (over_iff.2 ⟨(over_iff.1 h3).1, (over_iff.1 h3).2⟩)
        | false =>
          simp only [cond_false]
          exact run_same k fs day n _ _ h3
/-- Runs take steps, and pay at most once a step. -/
theorem runP_steps (k : Kd) (fs : Fs) (day : Int) : ∀ (n : Nat) (r : Rg) (s : Ms), s.steps ≤ (runP k fs day n r s).steps ∧ ((runP k fs day n r s).out.length : Int) - (runP k fs day n r s).steps ≤ (s.out.length : Int) - s.steps
  | 0, r, s => by rw [runP]; omega
  | n + 1, r, s => by
    rw [runP]
    cases overM s with
    | true => simp only [cond_true]; omega
    | false =>
    simp only [cond_false]
    cases k.ins[r.next.toNat]? with
    | none => simp only; omega
    | some x =>
      simp only
      have e1 : s.one.steps = s.steps + 1 := rfl
      have e2 : s.one.out = s.out := rfl
      cases x.op == 30 with
      | true => simp only [cond_true]; rw [e1, e2]; omega
      | false =>
      cases x.op == 29 with
      | true =>
        simp only [cond_true, cond_false]
        obtain ⟨a1, a2⟩ := runP_steps k fs day n ⟨zeros, entK k x.n, r.f⟩ s.one
        obtain ⟨b1, b2⟩ := runP_steps k fs day n r.on (runP k fs day n ⟨zeros, entK k x.n, r.f⟩ s.one)
        rw [e1, e2] at a2
        rw [e1] at a1
        omega
      | false =>
      cases x.op == 28 with
      | true =>
        simp only [cond_true, cond_false]
        obtain ⟨a1, a2⟩ := runP_steps k fs day n r.on (s.one.hold x.n r.f)
        have e3 : (s.one.hold x.n r.f).steps = s.steps + 1 := rfl
        have e4 : (s.one.hold x.n r.f).out = s.out := rfl
        rw [e3, e4] at a2
        rw [e3] at a1
        omega
      | false =>
      cases x.op == 27 with
      | true =>
        simp only [cond_true, cond_false]
        obtain ⟨a1, a2⟩ := runP_steps k fs day n r.on (s.one.pay x.s r.f)
        have e3 : (s.one.pay x.s r.f).steps = s.steps + 1 := rfl
        have e4 : ((s.one.pay x.s r.f).out.length : Int) ≤ s.out.length + 1 := by
          show ((s.out ++ bif r.f == 0 then [] else [(x.s, r.f)]).length : Int) ≤ _
          have h9 : (bif r.f == 0 then [] else [(x.s, r.f)] : List (List UInt8 × Int)).length ≤ 1 := by cases r.f == 0 <;> simp
          rw [List.length_append]
          omega
        rw [e3] at a1 a2
        omega
      | false =>
        simp only [cond_false]
        obtain ⟨a1, a2⟩ := runP_steps k fs day n (doQ fs day x r.on) s.one
        rw [e1, e2] at a2
        rw [e1] at a1
        omega
/-- An instruction of a right bytecode. -/
structure XOk (k : Kd) (i : Nat) (x : Ik) : Prop where
  a : 0 ≤ x.a ∧ x.a < 256
  b : 0 ≤ x.b ∧ x.b < 256
  c : 0 ≤ x.c ∧ x.c < 256
  n : (x.op = 2 ∨ x.op = 3) → 0 ≤ x.n ∧ x.n ≤ 3660
  to : (x.op = 2 ∨ x.op = 19 ∨ x.op = 20 ∨ x.op = 21 ∨ x.op = 22) → (i : Int) < x.to ∧ x.to < (k.ins.length : Int)
  next : x.op ≠ 30 → i + 1 < k.ins.length
  wait : (x.op = 28 ∨ x.op = 29) → 0 ≤ x.n ∧ x.n < (k.waits.length : Int)
  call : x.op = 29 → 0 ≤ entK k x.n ∧ entK k x.n < (k.ins.length : Int)
theorem insL_at {k : Kd} : ∀ {l : List Ik} {j : Int} {i : Nat} {x : Ik}, insL k j l = true → l[i]? = some x → insR k (j + i) x = true
  | [], j, i, x, h, hx => by simp at hx
  | y :: r, j, 0, x, h, hx => by
    simp at hx
    subst hx
    unfold insL at h
    rw [Bool.and_eq_true] at h
    simpa using h.1
  | y :: r, j, i + 1, x, h, hx => by
    unfold insL at h
    rw [Bool.and_eq_true] at h
    have := insL_at (i := i) h.2 (by simpa using hx)
    rw [show j + ((i + 1 : Nat) : Int) = j + 1 + (i : Int) by omega]
    exact this
theorem reg_lt {n regs : Int} {u : Bool} (h : regR n u regs = true) (hr : regs ≤ 256) : 0 ≤ n ∧ n < 256 := by
  unfold regR at h
  cases u with
  | true => simp only [cond_true, Bool.and_eq_true, decide_eq_true_eq] at h; omega
  | false => simp only [cond_false, beq_iff_eq] at h; omega
theorem right_waits {k : Kd} (h : rightR k = true) {i : Nat} {y : Wk} (hy : k.waits[i]? = some y) : waiR k y = true := by
  unfold rightR at h
  simp only [Bool.and_eq_true] at h
  exact List.all_eq_true.1 h.1.2 y (List.mem_of_getElem? hy)
theorem wai_entry {k : Kd} {y : Wk} (h : waiR k y = true) : 0 ≤ y.entry ∧ y.entry < (k.ins.length : Int) := by
  unfold waiR plaR at h
  simp only [Bool.and_eq_true, decide_eq_true_eq] at h
  exact h.1.1.1
theorem right_len {k : Kd} (h : rightR k = true) : 1 ≤ k.ins.length ∧ k.ins.length ≤ 16384 ∧ k.waits.length ≤ 250 := by
  unfold rightR headR at h
  simp only [Bool.and_eq_true, decide_eq_true_eq] at h
  omega
theorem right_x {k : Kd} (h : rightR k = true) {i : Nat} {x : Ik} (hx : k.ins[i]? = some x) : XOk k i x := by
  have h0 := h
  unfold rightR headR at h
  simp only [Bool.and_eq_true, decide_eq_true_eq] at h
  obtain ⟨⟨hh, -⟩, hi⟩ := h
  have h1 := insL_at hi hx
  rw [Int.zero_add] at h1
  unfold insR at h1
  simp only [Bool.and_eq_true] at h1
  obtain ⟨⟨⟨⟨⟨⟨-, ha⟩, hb⟩, hc⟩, hn⟩, -⟩, ht⟩ := h1
  have hr : k.regs ≤ 256 := by omega
  have hw : (x.op = 28 ∨ x.op = 29) → 0 ≤ x.n ∧ x.n < (k.waits.length : Int) := by
    intro ho
    unfold numR at hn
    rcases ho with ho | ho
    · rw [ho] at hn
      have hn' : (decide (0 ≤ x.n) && decide (x.n < (k.waits.length : Int))) = true := hn
      simp only [Bool.and_eq_true, decide_eq_true_eq] at hn'
      exact hn'
    · rw [ho] at hn
      have hn' : (decide (0 ≤ x.n) && decide (x.n < (k.waits.length : Int)) && (match k.waits[x.n.toNat]? with | some w => decide (w.entry > (i : Int)) | none => false)) = true := hn
      simp only [Bool.and_eq_true, decide_eq_true_eq] at hn'
      exact hn'.1
  refine ⟨reg_lt ha hr, reg_lt hb hr, reg_lt hc hr, fun ho => ?_, fun ho => ?_, fun ho => ?_, hw, fun ho => ?_⟩
  · unfold numR at hn
    have hn' : (decide (0 ≤ x.n) && decide (x.n ≤ 3660)) = true := by rcases ho with ho | ho <;> rw [ho] at hn <;> exact hn
    simp only [Bool.and_eq_true, decide_eq_true_eq] at hn'
    exact hn'
  · unfold toR at ht
    have ht' : (decide (x.to > (i : Int)) && decide (x.to < (k.ins.length : Int))) = true := by rcases ho with ho | ho | ho | ho | ho <;> rw [ho] at ht <;> exact ht
    simp only [Bool.and_eq_true, decide_eq_true_eq] at ht'
    omega
  · have hl := (List.getElem?_eq_some_iff.1 hx).1
    rcases Nat.lt_or_ge (i + 1) k.ins.length with h2 | h2
    · exact h2
    · have e : i = k.ins.length - 1 := by omega
      have h3 := hh.2
      rw [← e, hx] at h3
      exact absurd (eq_of_beq h3) ho
  · obtain ⟨w0, w1⟩ := hw (.inr ho)
    obtain ⟨y, hy⟩ : ∃ y, k.waits[x.n.toNat]? = some y := ⟨k.waits[x.n.toNat]'(by omega), by simp⟩
    unfold entK
    rw [hy]
    exact wai_entry (right_waits h0 hy)
end Go.Proofs.YtddbiiejilcbbaaGreatDoor
namespace Go.Proofs.YtddbiiejilcbbaaGreatDoor
open Go Go.RowKit

theorem sizeW : (Tryz.prog.info? 70).map (·.size) = some 5 := by kernel_rfl
theorem idxWk (b o n cap k : Nat) (h : k < n) (w : World) : (Instr.indexAt 24 (.slice (some ⟨b, o, none⟩) n cap) (.int .i64 k)).run Tryz.prog w = .ok (.pointer (some ⟨b, o + k * 5, none⟩)) w := by go_simp
/-- A wait lies at a place. -/
def WcAt (w : World) (b o : Nat) (x : Wk) : Prop := ∀ j u, (wC x)[j]? = some u → w.cell? ⟨b, o + j, none⟩ = some u
theorem WcAt.below {w w' : World} {b o : Nat} {x : Wk} (h : WcAt w b o x) (hb : b < w.heap.size) (hB : Below w.heap.size w w') : WcAt w' b o x := fun j u hj => by rw [hB.cell (p := ⟨b, o + j, none⟩) hb]; exact h j u hj
theorem loadW {w : World} {b o : Nat} {x : Wk} (h : WcAt w b o x) : (Instr.loadAt 70 (.pointer (some ⟨b, o, none⟩))).run Tryz.prog w = .ok (wV x) w := loadAgg Tryz.isAgg70 sizeW (wC x) rfl h
def cdV (rg : Int) (aW : Option Addr) (nW cW : Nat) (aI : Option Addr) (nI cI : Nat) : Value := .agg #[.int .i64 rg, .slice aW nW cW, .slice aI nI cI]
/-- A bytecode in memory. -/
structure CdM (w : World) (aW : Option Addr) (nW cW : Nat) (aI : Option Addr) (nI cI : Nat) (k : Kd) : Prop where
  lw : k.waits.length = nW
  li : k.ins.length = nI
  cw : nW ≤ cW ∧ cW ≤ 9223372036854775807
  ci : nI ≤ cI ∧ cI ≤ 9223372036854775807
  waits : ∀ i x, k.waits[i]? = some x → x.label.length ≤ 9223372036854775807 ∧ ∃ b o, aW = some ⟨b, o, none⟩ ∧ b < w.heap.size ∧ WcAt w b (o + i * 5) x
  ins : ∀ i x, k.ins[i]? = some x → x.s.length ≤ 9223372036854775807 ∧ ∃ b o, aI = some ⟨b, o, none⟩ ∧ b < w.heap.size ∧ IcAt w b (o + i * 7) x
theorem CdM.below {w w' : World} {aW aI : Option Addr} {nW cW nI cI : Nat} {k : Kd} (h : CdM w aW nW cW aI nI cI k) (hB : Below w.heap.size w w') : CdM w' aW nW cW aI nI cI k := ⟨h.lw, h.li, h.cw, h.ci, fun i x hx => by
  obtain ⟨h0, b, o, e, hb, hc⟩ := h.waits i x hx
  exact ⟨h0, b, o, e, Nat.lt_of_lt_of_le hb hB.size, hc.below hb hB⟩, fun i x hx => by
  obtain ⟨h0, b, o, e, hb, hc⟩ := h.ins i x hx
  exact ⟨h0, b, o, e, Nat.lt_of_lt_of_le hb hB.size, hc.below hb hB⟩⟩
section
variable {w : World} {rg : Int} {aW aI : Option Addr} {nW cW nI cI : Nat}
set_option maxRecDepth 100000 in
seal rn rnN rnS Goes ans atEnd put0 put putM opened openedY putA0 putA oneSt st0 keep mkSt newSt in
theorem place_any {k : Kd} (hli : k.ins.length = nI) (n : Int) (w : World) : Calls Tryz.prog 80 #[cdV rg aW nW cW aI nI cI, .int .i64 n] w fun e w' => e = .returned (.bool (plaR k n)) ∧ Below w.heap.size w w' := by
  refine Goes.begin Tryz.func80 [] (fun _ => True) Holds.nil (by simp [Mem.ids]) (fun _ _ => trivial) ?_
  cases h0 : decide (0 ≤ n) with
  | true =>
    refine Goes.run1 [1, 0] [(decide (0 ≤ n), true)] ⟨h0, trivial⟩ fun g => ?_
    exact Goes.ret [] (.bool (decide (n < (nI : Int)))) fun w' hm hI => ⟨by unfold plaR; rw [h0, hli]; rfl, bel0 hI⟩
  | false =>
    refine Goes.run1 [0] [(decide (0 ≤ n), false)] ⟨h0, trivial⟩ fun g => ?_
    exact Goes.ret [] (.bool false) fun w' hm hI => ⟨by unfold plaR; rw [h0]; rfl, bel0 hI⟩
theorem eqEm (o : Nat) (l : List UInt8) (w : World) : (do eqGuard .eql 9 (.tmp o) (.const (strV [])) (strV l) (strV []); binOp .eql 9 (strV l) (strV []) : Sem Value).run Tryz.prog w = .ok (.bool (decide (l = []))) w := by
  have : (eqGuard .eql 9 (.tmp o) (.const (strV [])) (strV l) (strV [])).run Tryz.prog w = .ok () w := by
    unfold eqGuard strV; go_simp
  simp only [Sem.run_bind, this, Result.andThen_ok, eqlS l [] _ rfl w]
set_option maxRecDepth 100000 in
seal rn rnN rnS Goes ans atEnd put0 put putM opened openedY putA0 putA oneSt st0 keep mkSt newSt in
theorem text_any (x : Ik) (hs : x.s.length ≤ 9223372036854775807) (w : World) : Calls Tryz.prog 85 #[iV x] w fun e w' => e = .returned (.bool (txtR x)) ∧ Below w.heap.size w w' := by
  refine Goes.begin Tryz.func85 [] (fun _ => True) Holds.nil (by simp [Mem.ids]) (fun _ _ => trivial) ?_
  refine Goes.run1 [0] [] trivial fun g => ?_
  refine Goes.call0 71 #[strV x.s] (.bool (namP x.s)) (fun w' _ _ => rname_any x.s w' hs) ?_
  refine Goes.run [0] [] trivial ?_
  refine Goes.call0 134 #[strV x.s] (.bool (curP x.s)) (fun w' _ _ => rcur_any x.s w') ?_
  cases h2 : (x.op == 2) with
  | true =>
    refine Goes.run [0, 1] [(x.op == 2, true)] ⟨h2, trivial⟩ ?_
    exact Goes.ret [] (.bool (namP x.s)) fun w' hm hI => ⟨by unfold txtR; rw [h2]; rfl, bel0 hI⟩
  | false =>
  cases h27 : (x.op == 27) with
  | true =>
    refine Goes.run [0, 0, 1] [(x.op == 27, true), (x.op == 2, false)] ⟨h27, h2, trivial⟩ ?_
    exact Goes.ret [] (.bool (curP x.s)) fun w' hm hI => ⟨by unfold txtR; rw [h2, h27]; rfl, bel0 hI⟩
  | false =>
    refine Goes.upto 21 [0, 0, 0, 0] [(x.op == 27, false), (x.op == 2, false)] ⟨h27, h2, trivial⟩ ?_
    refine Goes.val (do eqGuard .eql 9 (.tmp 20) (.const (strV [])) (strV x.s) (strV []); binOp .eql 9 (strV x.s) (strV [])) (.bool (decide (x.s = []))) (fun w' _ _ => eqEm 20 x.s w') ?_
    refine Goes.run [] [] trivial ?_
    exact Goes.ret [] (.bool (decide (x.s = []))) fun w' hm hI => ⟨by unfold txtR; rw [h2, h27]; rfl, bel0 hI⟩
set_option maxRecDepth 100000 in
seal rn rnN rnS Goes ans atEnd put0 put putM opened openedY putA0 putA oneSt st0 keep mkSt newSt in
theorem number_any {k : Kd} {i : Nat} {x : Ik} (hM : CdM w aW nW cW aI nI cI k) (hx : k.ins[i]? = some x) : Calls Tryz.prog 84 #[cdV rg aW nW cW aI nI cI, .int .i64 i] w fun e w' => e = .returned (.bool (numR k i x)) ∧ Below w.heap.size w w' := by
  obtain ⟨-, bI, oI, rfl, hbI, hc⟩ := hM.ins i x hx
  have hiN : i < nI := by rw [← hM.li]; exact (List.getElem?_eq_some_iff.1 hx).1
  refine Goes.begin Tryz.func84 [] (fun _ => True) Holds.nil (by simp [Mem.ids]) (fun _ _ => trivial) ?_
  refine Goes.run1 [0] [] trivial fun g2 => ?_
  refine Goes.val (Instr.indexAt 25 (.slice (some ⟨bI, oI, none⟩) nI cI) (.int .i64 i)) (.pointer (some ⟨bI, oI + i * 7, none⟩)) (fun w' _ _ => idxIk bI oI nI cI i hiN w') ?_
  refine Goes.val (Instr.loadAt 72 (.pointer (some ⟨bI, oI + i * 7, none⟩))) (iV x) (fun w' hm hI => loadI (hc.below hbI (bel0 hI))) ?_
  refine Goes.run1 [1, 1] [] trivial fun g5 => ?_
  cases h1 : (x.op == 1) with
  | true =>
    cases hlo : decide (-1000000000000000 ≤ x.n) with
    | true =>
      refine Goes.run [1, 1, 1, 1] [(decide (-1000000000000000 ≤ x.n), true), (x.op == 1, true)] ⟨hlo, h1, trivial⟩ ?_
      exact Goes.ret [] (.bool (decide (x.n ≤ 1000000000000000))) fun w' hm hI => ⟨by unfold numR; rw [h1, hlo]; rfl, bel0 hI⟩
    | false =>
      refine Goes.run [1, 1, 0] [(decide (-1000000000000000 ≤ x.n), false), (x.op == 1, true)] ⟨hlo, h1, trivial⟩ ?_
      exact Goes.ret [] (.bool false) fun w' hm hI => ⟨by unfold numR; rw [h1, hlo]; rfl, bel0 hI⟩
  | false =>
  cases h2 : (x.op == 2) with
  | true =>
    cases hlo : decide (0 ≤ x.n) with
    | true =>
      refine Goes.run [0, 1, 1, 1, 1, 1] [(decide (0 ≤ x.n), true), (x.op == 2, true), (x.op == 2, true), (x.op == 1, false)] ⟨hlo, h2, h2, h1, trivial⟩ ?_
      exact Goes.ret [] (.bool (decide (x.n ≤ 3660))) fun w' hm hI => ⟨by unfold numR; rw [h1, h2, hlo]; rfl, bel0 hI⟩
    | false =>
      refine Goes.run [0, 1, 1, 1, 0] [(decide (0 ≤ x.n), false), (x.op == 2, true), (x.op == 2, true), (x.op == 1, false)] ⟨hlo, h2, h2, h1, trivial⟩ ?_
      exact Goes.ret [] (.bool false) fun w' hm hI => ⟨by unfold numR; rw [h1, h2, hlo]; rfl, bel0 hI⟩
  | false =>
  cases h3 : (x.op == 3) with
  | true =>
    cases hlo : decide (0 ≤ x.n) with
    | true =>
      refine Goes.run [0, 0, 1, 1, 1, 1] [(decide (0 ≤ x.n), true), (x.op == 3, true), (x.op == 2, false), (x.op == 1, false)] ⟨hlo, h3, h2, h1, trivial⟩ ?_
      exact Goes.ret [] (.bool (decide (x.n ≤ 3660))) fun w' hm hI => ⟨by unfold numR; rw [h1, h2, h3, hlo]; rfl, bel0 hI⟩
    | false =>
      refine Goes.run [0, 0, 1, 1, 0] [(decide (0 ≤ x.n), false), (x.op == 3, true), (x.op == 2, false), (x.op == 1, false)] ⟨hlo, h3, h2, h1, trivial⟩ ?_
      exact Goes.ret [] (.bool false) fun w' hm hI => ⟨by unfold numR; rw [h1, h2, h3, hlo]; rfl, bel0 hI⟩
  | false =>
  cases h21 : (x.op == 21) with
  | true =>
    cases hlo : decide (0 ≤ x.n) with
    | true =>
      refine Goes.run [0, 0, 0, 1, 1, 1, 1, 1] [(decide (0 ≤ x.n), true), (x.op == 21, true), (x.op == 21, true), (x.op == 3, false), (x.op == 2, false), (x.op == 1, false)] ⟨hlo, h21, h21, h3, h2, h1, trivial⟩ ?_
      exact Goes.ret [] (.bool (decide (x.n ≤ 73048))) fun w' hm hI => ⟨by unfold numR; rw [h1, h2, h3, h21, hlo]; rfl, bel0 hI⟩
    | false =>
      refine Goes.run [0, 0, 0, 1, 1, 1, 0] [(decide (0 ≤ x.n), false), (x.op == 21, true), (x.op == 21, true), (x.op == 3, false), (x.op == 2, false), (x.op == 1, false)] ⟨hlo, h21, h21, h3, h2, h1, trivial⟩ ?_
      exact Goes.ret [] (.bool false) fun w' hm hI => ⟨by unfold numR; rw [h1, h2, h3, h21, hlo]; rfl, bel0 hI⟩
  | false =>
  cases h22 : (x.op == 22) with
  | true =>
    cases hlo : decide (0 ≤ x.n) with
    | true =>
      refine Goes.run [0, 0, 0, 0, 1, 1, 1, 1] [(decide (0 ≤ x.n), true), (x.op == 22, true), (x.op == 21, false), (x.op == 3, false), (x.op == 2, false), (x.op == 1, false)] ⟨hlo, h22, h21, h3, h2, h1, trivial⟩ ?_
      exact Goes.ret [] (.bool (decide (x.n ≤ 73048))) fun w' hm hI => ⟨by unfold numR; rw [h1, h2, h3, h21, h22, hlo]; rfl, bel0 hI⟩
    | false =>
      refine Goes.run [0, 0, 0, 0, 1, 1, 0] [(decide (0 ≤ x.n), false), (x.op == 22, true), (x.op == 21, false), (x.op == 3, false), (x.op == 2, false), (x.op == 1, false)] ⟨hlo, h22, h21, h3, h2, h1, trivial⟩ ?_
      exact Goes.ret [] (.bool false) fun w' hm hI => ⟨by unfold numR; rw [h1, h2, h3, h21, h22, hlo]; rfl, bel0 hI⟩
  | false =>
  cases h28 : (x.op == 28) with
  | true =>
    cases hlo : decide (0 ≤ x.n) with
    | true =>
      refine Goes.run [0, 0, 0, 0, 0, 1, 1, 1, 1, 0] [(decide (0 ≤ x.n), true), (x.op == 28, true), (x.op == 22, false), (x.op == 21, false), (x.op == 3, false), (x.op == 2, false), (x.op == 1, false)] ⟨hlo, h28, h22, h21, h3, h2, h1, trivial⟩ ?_
      exact Goes.ret [] (.bool (decide (x.n < (nW : Int)))) fun w' hm hI => ⟨by unfold numR; rw [h1, h2, h3, h21, h22, h28, hlo, hM.lw]; rfl, bel0 hI⟩
    | false =>
      refine Goes.run [0, 0, 0, 0, 0, 1, 1, 0] [(decide (0 ≤ x.n), false), (x.op == 28, true), (x.op == 22, false), (x.op == 21, false), (x.op == 3, false), (x.op == 2, false), (x.op == 1, false)] ⟨hlo, h28, h22, h21, h3, h2, h1, trivial⟩ ?_
      exact Goes.ret [] (.bool false) fun w' hm hI => ⟨by unfold numR; rw [h1, h2, h3, h21, h22, h28, hlo]; rfl, bel0 hI⟩
  | false =>
  cases h29 : (x.op == 29) with
  | true =>
    cases hlo : decide (0 ≤ x.n) with
    | false =>
      refine Goes.run [0, 0, 0, 0, 0, 0, 1, 1, 0, 0] [(false, false), (decide (0 ≤ x.n), false), (x.op == 29, true), (x.op == 28, false), (x.op == 22, false), (x.op == 21, false), (x.op == 3, false), (x.op == 2, false), (x.op == 1, false)] ⟨rfl, hlo, h29, h28, h22, h21, h3, h2, h1, trivial⟩ ?_
      exact Goes.ret [] (.bool false) fun w' hm hI => ⟨by unfold numR; rw [h1, h2, h3, h21, h22, h28, h29, hlo]; rfl, bel0 hI⟩
    | true =>
    cases hhi : decide (x.n < (nW : Int)) with
    | false =>
      refine Goes.run [0, 0, 0, 0, 0, 0, 1, 1, 1, 1, 0, 0] [(decide (x.n < (nW : Int)), false), (decide (0 ≤ x.n), true), (x.op == 29, true), (x.op == 28, false), (x.op == 22, false), (x.op == 21, false), (x.op == 3, false), (x.op == 2, false), (x.op == 1, false)] ⟨hhi, hlo, h29, h28, h22, h21, h3, h2, h1, trivial⟩ ?_
      exact Goes.ret [] (.bool false) fun w' hm hI => ⟨by unfold numR; rw [h1, h2, h3, h21, h22, h28, h29, hlo, hM.lw, hhi]; rfl, bel0 hI⟩
    | true =>
      have l0 := of_decide_eq_true hlo
      have l1 := of_decide_eq_true hhi
      obtain ⟨m, hm0⟩ : ∃ m : Nat, x.n = (m : Int) := ⟨x.n.toNat, by omega⟩
      have hmW : m < nW := by omega
      obtain ⟨y, hy⟩ : ∃ y, k.waits[m]? = some y := ⟨k.waits[m]'(by rw [hM.lw]; exact hmW), by simp⟩
      obtain ⟨-, bW, oW, rfl, hbW, hcy⟩ := hM.waits m y hy
      refine Goes.run [0, 0, 0, 0, 0, 0, 1, 1, 1, 1, 0, 1, 0, 1] [(decide (x.n < (nW : Int)), true), (decide (0 ≤ x.n), true), (x.op == 29, true), (x.op == 28, false), (x.op == 22, false), (x.op == 21, false), (x.op == 3, false), (x.op == 2, false), (x.op == 1, false)] ⟨hhi, hlo, h29, h28, h22, h21, h3, h2, h1, trivial⟩ ?_
      refine Goes.val (Instr.indexAt 24 (.slice (some ⟨bW, oW, none⟩) nW cW) (.int .i64 x.n)) (.pointer (some ⟨bW, oW + m * 5, none⟩)) (fun w' _ _ => by rw [hm0]; exact idxWk bW oW nW cW m hmW w') ?_
      refine Goes.run [] [] trivial ?_
      refine Goes.val (Instr.loadAt 3 (.pointer (some ⟨bW, oW + m * 5, none⟩))) (.int .i64 y.entry) (fun w' hm hI => load1 Tryz.isAgg3 (hcy.below hbW (bel0 hI) 0 _ rfl)) ?_
      refine Goes.run [] [] trivial ?_
      exact Goes.ret [] (.bool (decide (y.entry > (i : Int)))) fun w' hm hI => ⟨by
        have e : k.waits[x.n.toNat]? = some y := by rw [hm0]; simpa using hy
        unfold numR
        rw [h1, h2, h3, h21, h22, h28, h29, hlo, hM.lw, hhi, e]
        rfl, bel0 hI⟩
  | false =>
    refine Goes.run [0, 0, 0, 0, 0, 0, 0, 1] [(x.op == 29, false), (x.op == 28, false), (x.op == 22, false), (x.op == 21, false), (x.op == 3, false), (x.op == 2, false), (x.op == 1, false)] ⟨h29, h28, h22, h21, h3, h2, h1, trivial⟩ ?_
    exact Goes.ret [] (.bool (x.n == 0)) fun w' hm hI => ⟨by unfold numR; rw [h1, h2, h3, h21, h22, h28, h29]; rfl, bel0 hI⟩
end
end Go.Proofs.YtddbiiejilcbbaaGreatDoor
namespace Go.Proofs.YtddbiiejilcbbaaGreatDoor
open Go Go.RowKit

def vmO (day : Int) (fv : Value) (rg : Int) (wv iv hv tv : Value) (st : Int) : Obj := .cells #[.int .i64 day, fv, .int .i64 rg, wv, iv, hv, tv, .int .i64 st] 81 (0, 0)
abbrev vmB (day : Int) (fv : Value) (rg : Int) (wv iv : Value) (st : Int) : Value → Value → Obj := fun hv tv => vmO day fv rg wv iv hv tv st
theorem vmB_is (day : Int) (fv : Value) (rg : Int) (wv iv : Value) (st : Int) : IsM (vmB day fv rg wv iv st) := fun a b => ⟨_, _, _, rfl, by decide, by decide, by decide⟩
theorem hold1v {b : Nat} {o : Obj} {w : World} (h : w.heap[b]? = some o) : Holds [(b, o)] w := hold_in (by simpa using h)
/-- A run's registers, its next place, its factor. -/
def rnC (R : Nat → Int) (n f : Int) : List Value := (List.range 256).map (fun i => .int .i64 (R i)) ++ [.int .i64 n, .int .i64 f]
def rnO (r : Rg) : Obj := .cells (rnC r.regs r.next r.f).toArray 125 (0, 0)
theorem rnC_len (R : Nat → Int) (n f : Int) : (rnC R n f).length = 258 := by simp [rnC]
theorem rnC_reg {R : Nat → Int} {n f : Int} {i : Nat} (h : i < 256) : (rnC R n f)[i]? = some (.int .i64 (R i)) := by
  unfold rnC
  rw [List.getElem?_append_left (by simpa using h)]
  simp [h]
theorem rnC_next {R : Nat → Int} {n f : Int} : (rnC R n f)[256]? = some (.int .i64 n) := by
  unfold rnC
  rw [List.getElem?_append_right (by simp)]
  simp
theorem rnC_f {R : Nat → Int} {n f : Int} : (rnC R n f)[257]? = some (.int .i64 f) := by
  unfold rnC
  rw [List.getElem?_append_right (by simp)]
  simp
theorem rnC_set {R : Nat → Int} {n f : Int} {i : Nat} (h : i < 256) (v : Int) : (rnC R n f).set i (.int .i64 v) = rnC (updR R i v) n f := by
  apply List.ext_getElem?
  intro j
  rw [List.getElem?_set]
  by_cases hij : i = j
  · subst hij
    rw [if_pos rfl, if_pos (by rw [rnC_len]; omega), rnC_reg h]
    simp [updR]
  · rw [if_neg hij]
    by_cases hj : j < 256
    · rw [rnC_reg hj, rnC_reg hj]
      have : (j == i) = false := by simp; omega
      simp [updR, this]
    · unfold rnC
      rw [List.getElem?_append_right (by simp; omega), List.getElem?_append_right (by simp; omega)]
      simp
theorem rnC_setN {R : Nat → Int} {n f : Int} (v : Int) : (rnC R n f).set 256 (.int .i64 v) = rnC R v f := by
  unfold rnC
  rw [List.set_append_right _ _ (by simp)]
  simp
theorem rnC_setF {R : Nat → Int} {n f : Int} (v : Int) : (rnC R n f).set 257 (.int .i64 v) = rnC R n v := by
  unfold rnC
  rw [List.set_append_right _ _ (by simp)]
  simp
section
variable {w : World} {g : Nat} {r : Rg}
theorem rn_cell (h : w.heap[g]? = some (rnO r)) {i : Nat} {v : Value} (hv : (rnC r.regs r.next r.f)[i]? = some v) : w.cell? ⟨g, i, none⟩ = some v := by
  unfold World.cell?
  rw [h]
  unfold rnO
  simpa using hv
theorem rn_ld (h : w.heap[g]? = some (rnO r)) {i : Nat} (hi : i < 256) : (Instr.loadAt 2 (.pointer (some ⟨g, i, none⟩))).run Tryz.prog w = .ok (.int .i64 (r.regs i)) w := load1 Tryz.isAgg2 (rn_cell h (rnC_reg hi))
theorem rn_ldN (h : w.heap[g]? = some (rnO r)) : (Instr.loadAt 3 (.pointer (some ⟨g, 256, none⟩))).run Tryz.prog w = .ok (.int .i64 r.next) w := load1 Tryz.isAgg3 (rn_cell h rnC_next)
theorem rn_ldF (h : w.heap[g]? = some (rnO r)) : (Instr.loadAt 2 (.pointer (some ⟨g, 257, none⟩))).run Tryz.prog w = .ok (.int .i64 r.f) w := load1 Tryz.isAgg2 (rn_cell h rnC_f)
theorem rn_store {t : TypeId} (hz : ∀ w, (Go.sizeOf t).run Tryz.prog w = .ok 1 w) (h : w.heap[g]? = some (rnO r)) {i : Nat} {u : Value} (hv : (rnC r.regs r.next r.f)[i]? = some u) (v : Int) {r' : Rg} (e : (rnC r.regs r.next r.f).set i (.int .i64 v) = rnC r'.regs r'.next r'.f) : ∃ w', (Instr.storeAt t (.pointer (some ⟨g, i, none⟩)) (.int .i64 v)).run Tryz.prog w = .ok () w' ∧ Ch [g] w w' ∧ w'.heap[g]? = some (rnO r') := by
  have hfr : w.frozen? ⟨g, i, none⟩ = false := by
    unfold World.frozen?
    rw [h]
    simp [rnO]
  refine ⟨_, store1 hz (.int .i64 v) rfl rfl (rn_cell h hv) hfr, ⟨rfl, rfl, rfl, by unfold World.setCell; simp, fun j hj hx => ?_⟩, ?_⟩
  · unfold World.setCell
    simp only
    rw [Array.getElem?_modify, if_neg (fun e => hx (by simp [e]))]
  · unfold World.setCell
    simp only
    rw [Array.getElem?_modify, if_pos rfl, h]
    unfold rnO
    simp only [Option.map_some]
    rw [← e]
    simp
theorem rn_st (h : w.heap[g]? = some (rnO r)) {i : Int} (hi : 0 ≤ i ∧ i < 256) (v : Int) : ∃ w', (Instr.storeAt 2 (.pointer (some ⟨g, i.toNat, none⟩)) (.int .i64 v)).run Tryz.prog w = .ok () w' ∧ Ch [g] w w' ∧ w'.heap[g]? = some (rnO (r.put i v)) :=
  rn_store Tryz.sizeOf2 h (rnC_reg (by omega)) v (rnC_set (by omega) v)
theorem rn_stN (h : w.heap[g]? = some (rnO r)) (v : Int) : ∃ w', (Instr.storeAt 3 (.pointer (some ⟨g, 256, none⟩)) (.int .i64 v)).run Tryz.prog w = .ok () w' ∧ Ch [g] w w' ∧ w'.heap[g]? = some (rnO (r.go v true)) :=
  rn_store Tryz.sizeOf3 h rnC_next v (rnC_setN v)
theorem rn_stF (h : w.heap[g]? = some (rnO r)) (v : Int) : ∃ w', (Instr.storeAt 2 (.pointer (some ⟨g, 257, none⟩)) (.int .i64 v)).run Tryz.prog w = .ok () w' ∧ Ch [g] w w' ∧ w'.heap[g]? = some (rnO (r.fac v)) :=
  rn_store Tryz.sizeOf2 h rnC_f v (rnC_setF v)
theorem idxRg (b : Nat) {i : Int} (h : 0 ≤ i ∧ i < 256) (w : World) : (Instr.indexAt 123 (.pointer (some ⟨b, 0, none⟩)) (.int .i64 i)).run Tryz.prog w = .ok (.pointer (some ⟨b, i.toNat, none⟩)) w := by
  obtain ⟨k, rfl⟩ : ∃ k : Nat, i = (k : Int) := ⟨i.toNat, by omega⟩
  have hk : k < 256 := by omega
  go_simp
  try omega
/-- What a function of a run leaves. -/
def RnQ (g : Nat) (w : World) (r' : Rg) (e : Ending) (w' : World) : Prop := e = .returned (.tuple #[]) ∧ Ch [g] w w' ∧ w'.heap[g]? = some (rnO r')
set_option maxRecDepth 100000 in
seal rn rnN rnS Goes ans atEnd put0 put putM opened openedY putA0 putA oneSt st0 keep mkSt newSt rnO in
theorem jump_any (h : w.heap[g]? = some (rnO r)) (to : Int) (is : Bool) : Calls Tryz.prog 113 #[.pointer (some ⟨g, 0, none⟩), .int .i64 to, .bool is] w (RnQ g w (r.go to is)) := by
  refine Goes.begin Tryz.func113 [(g, rnO r)] (fun _ => True) (hold1v h) (by simp [Mem.ids]) (fun _ _ => trivial) ?_
  cases is with
  | false =>
    refine Goes.run [0] [(false, false)] ⟨rfl, trivial⟩ ?_
    exact Goes.ret [] (.tuple #[]) fun w' hm hI => ⟨rfl, hI.now.1, hm.get 0⟩
  | true =>
    refine Goes.run [1] [(true, true)] ⟨rfl, trivial⟩ ?_
    refine Goes.stoK 0 g (Instr.storeAt 3 (.pointer (some ⟨g, 256, none⟩)) (.int .i64 to)) (rnO (r.go to true)) (fun w' hm => rn_stN (hm.get 0) to) ?_
    refine Goes.run [] [] trivial ?_
    exact Goes.ret [] (.tuple #[]) fun w' hm hI => ⟨rfl, hI.now.1, hm.get 0⟩
end
end Go.Proofs.YtddbiiejilcbbaaGreatDoor
namespace Go.Proofs.YtddbiiejilcbbaaGreatDoor
open Go Go.RowKit

/-- A term without kids is right, if what is its own is. -/
theorem leaf_typ {op n : Int} {s : List UInt8} (h : op = 1 ∨ op = 3 ∨ op = 4 ∨ op = 5 ∨ op = 24) : (typP (.mk op n s [])).2 = ownC op n s := by
  have hend : ∃ z, endF op [] = (z, true) ∧ tyOk z := by
    rcases h with rfl | rfl | rfl | rfl | rfl
    · exact ⟨0, by decide, by unfold tyOk; omega⟩
    · exact ⟨2, by decide, by unfold tyOk; omega⟩
    · exact ⟨0, by decide, by unfold tyOk; omega⟩
    · exact ⟨2, by decide, by unfold tyOk; omega⟩
    · exact ⟨4, by decide, by unfold tyOk; omega⟩
  obtain ⟨z, he, hz⟩ := hend
  cases ho : ownC op n s with
  | true =>
    have hF : typF 1 (.mk op n s []) = (z, true) := typ_parts.2 ⟨ho, by omega, by simp, [], by rw [tysF], he⟩
    have hO := ((tp_all (.mk op n s []) 1).1 z hz).2 hF
    refine typ_of hz ((isOfP_eq z _).2 ⟨hO, ?_⟩)
    rw [szC, szL]
    omega
  | false =>
    cases ht : (typP (.mk op n s [])).2 with
    | false => rfl
    | true =>
      have h1 := (typ_right ht).1
      have h2 : typF 1 (.mk op n s []) = ((typF 1 (.mk op n s [])).1, true) := by rw [← h1]
      have := (typ_parts.1 h2).1
      rw [ho] at this
      cases this
section
set_option maxRecDepth 100000 in
seal rn rnN rnS Goes ans atEnd put0 put putM opened openedY putA0 putA oneSt st0 keep mkSt newSt in
theorem gwithin_any (n lo hi : Int) (w : World) : Calls Tryz.prog 57 #[.int .i64 n, .int .i64 lo, .int .i64 hi] w fun e w' => e = .returned (.bool (inW n lo hi)) ∧ Below w.heap.size w w' := by
  refine Goes.begin Tryz.func57 [] (fun _ => True) Holds.nil (by simp [Mem.ids]) (fun _ _ => trivial) ?_
  cases h : decide (lo ≤ n) with
  | true =>
    refine Goes.run [1] [(decide (lo ≤ n), true)] ⟨h, trivial⟩ ?_
    exact Goes.ret [] (.bool (decide (n ≤ hi))) fun w' hm hI => ⟨by unfold inW; rw [h]; rfl, bel0 hI⟩
  | false =>
    refine Goes.run [0] [(decide (lo ≤ n), false)] ⟨h, trivial⟩ ?_
    exact Goes.ret [] (.bool false) fun w' hm hI => ⟨by unfold inW; rw [h]; rfl, bel0 hI⟩
set_option maxRecDepth 100000 in
seal rn rnN rnS Goes ans atEnd put0 put putM opened openedY putA0 putA oneSt st0 keep mkSt newSt in
theorem isterm_any (op n : Int) (s : List UInt8) (h : op = 1 ∨ op = 3 ∨ op = 4 ∨ op = 5 ∨ op = 24) (hop : -9223372036854775808 ≤ op ∧ op ≤ 9223372036854775807) (hn : -9223372036854775808 ≤ n ∧ n ≤ 9223372036854775807) (hs : s.length ≤ 9223372036854775807) (w : World) : Calls Tryz.prog 103 #[.int .i64 op, .int .i64 n, strV s] w fun e w' => e = .returned (.bool (ownC op n s)) ∧ Below w.heap.size w w' := by
  refine Goes.begin Tryz.func103 [] (fun _ => True) Holds.nil (by simp [Mem.ids]) (fun _ _ => trivial) ?_
  refine Goes.run [] [] trivial ?_
  have hN : ∀ w' : World, Nc w'.heap.size w' (cv op n s (.slice none 0 0)) (.mk op n s []) := fun w' => by
    have : NcS F0 w' (cv op n s (.slice none 0 0)) (.mk op n s []) := .mk op n s [] none 0 (fun _ => undef) ⟨by omega, by omega, by omega⟩ ⟨by simp, by omega⟩ (fun i hi => by simp at hi) (fun i t ht => by simp at ht)
    exact this.toN fun x hx => hx.elim
  refine Goes.call0 142 #[cv op n s (.slice none 0 0)] (.tuple #[.int .i64 (typP (.mk op n s [])).1, .bool (typP (.mk op n s [])).2]) (fun w' _ _ => type_any (hN w')) ?_
  refine Goes.run [] [] trivial ?_
  exact Goes.ret [] (.bool (typP (.mk op n s [])).2) fun w' hm hI => ⟨by rw [leaf_typ h], bel0 hI⟩
end
end Go.Proofs.YtddbiiejilcbbaaGreatDoor
namespace Go.Proofs.YtddbiiejilcbbaaGreatDoor
open Go Go.RowKit

def andI (a b : Int) : Int := IntKind.i64.wrap ((BitVec.ofInt 64 a &&& BitVec.ofInt 64 b).toNat : Nat)
def isF (op : Nat) (f n lo hi : Int) : Bool := bif andI (usesT.getD op 0) f == 0 then n == 0 else inW n lo hi
def ownQ (x : Ik) (nW : Nat) : Bool :=
  bif x.op == 1 then ownC 1 x.n x.s else bif x.op == 2 then decide (0 ≤ x.n) && ownC 4 x.n x.s else bif x.op == 3 then decide (0 ≤ x.n) && ownC 5 x.n x.s
  else bif x.op == 21 || x.op == 22 then ownC 3 x.n x.s else bif x.op == 27 then ownC 24 x.n x.s
  else bif x.op == 28 || x.op == 29 then decide (0 ≤ x.n) && decide (x.n < (nW : Int)) && decide (x.s = []) else x.n == 0 && decide (x.s = [])
def waitQ (x : Wk) (nI : Nat) : Bool := (bif decide (x.label = []) then x.first == 0 && x.second == 0 else ownC 4 0 x.label) && inW x.entry 0 ((nI : Int) - 1) && inW x.day 0 73048 && inW x.first 0 ((nI : Int) - 1) && inW x.second 0 ((nI : Int) - 1)
/-- A number of 64 bits. -/
def I64 (n : Int) : Prop := -9223372036854775808 ≤ n ∧ n ≤ 9223372036854775807
set_option maxRecDepth 100000 in
seal rn rnN rnS Goes ans atEnd put0 put putM opened openedY putA0 putA oneSt st0 keep mkSt newSt in
theorem isf_any {w : World} {g o : Nat} {x : Ik} (hU : TabU w) (ho : x.op = (o : Int)) (h31 : o < 31) (hg : w.heap[g]? = some (.cells #[.int .i64 x.op, .int .i64 x.a, .int .i64 x.b, .int .i64 x.c, .int .i64 x.n, strV x.s, .int .i64 x.to] 72 (0, 0))) (n f lo hi : Int) : Calls Tryz.prog 105 #[.int .i64 n, .int .i64 f, .int .i64 lo, .int .i64 hi, .pointer (some ⟨g, 0, none⟩)] w fun e w' => e = .returned (.bool (isF o f n lo hi)) ∧ Below w.heap.size w w' := by
  refine Goes.begin Tryz.func105 [(g, .cells #[.int .i64 x.op, .int .i64 x.a, .int .i64 x.b, .int .i64 x.c, .int .i64 x.n, strV x.s, .int .i64 x.to] 72 (0, 0))] (fun _ => True) (fun j c ob hj => by match j, hj with | 0, hj => (cases hj; exact hg)) (by simp [Mem.ids]) (fun _ _ => trivial) ?_
  have hM0 : Holds [(g, .cells #[.int .i64 x.op, .int .i64 x.a, .int .i64 x.b, .int .i64 x.c, .int .i64 x.n, strV x.s, .int .i64 x.to] 72 (0, 0))] w := fun j c ob hj => by match j, hj with | 0, hj => (cases hj; exact hg)
  refine Goes.run [0] [] trivial ?_
  refine Goes.val (Instr.indexAt 140 (.pointer (some ⟨0, 0, none⟩)) (.int .i64 x.op)) (.pointer (some ⟨0, o, none⟩)) (fun w' _ _ => by rw [ho]; exact idxU o h31 w') ?_
  refine Goes.val (Instr.loadAt 3 (.pointer (some ⟨0, o, none⟩))) (.int .i64 (usesT.getD o 0)) (fun w' hm hI => load1 Tryz.isAgg3 ((hU.below (below_end hM0 hI.now.1 hm (by kernel_rfl))) o h31)) ?_
  cases h : (andI (usesT.getD o 0) f == 0) with
  | true =>
    refine Goes.run [1] [(andI (usesT.getD o 0) f == 0, true)] ⟨h, trivial⟩ ?_
    exact Goes.ret [0] (.bool (n == 0)) fun w' hm hI => ⟨by unfold isF; rw [h]; rfl, below_end hM0 hI.now.1 hm (by kernel_rfl)⟩
  | false =>
    refine Goes.run [0] [(andI (usesT.getD o 0) f == 0, false)] ⟨h, trivial⟩ ?_
    refine Goes.call0 57 #[.int .i64 n, .int .i64 lo, .int .i64 hi] (.bool (inW n lo hi)) (fun w' _ _ => gwithin_any n lo hi w') ?_
    refine Goes.run [] [] trivial ?_
    exact Goes.ret [0] (.bool (inW n lo hi)) fun w' hm hI => ⟨by unfold isF; rw [h]; rfl, below_end hM0 hI.now.1 hm (by kernel_rfl)⟩
set_option maxRecDepth 100000 in
seal rn rnN rnS Goes ans atEnd put0 put putM opened openedY putA0 putA oneSt st0 keep mkSt newSt in
theorem hasown_any (x : Ik) (hn : I64 x.n) (hs : x.s.length ≤ 9223372036854775807) (nW : Nat) (w : World) : Calls Tryz.prog 104 #[iV x, .int .i64 nW] w fun e w' => e = .returned (.bool (ownQ x nW)) ∧ Below w.heap.size w w' := by
  have it : ∀ (op : Int) (h : op = 1 ∨ op = 3 ∨ op = 4 ∨ op = 5 ∨ op = 24) (w : World), Calls Tryz.prog 103 #[.int .i64 op, .int .i64 x.n, strV x.s] w fun e w' => e = .returned (.bool (ownC op x.n x.s)) ∧ Below w.heap.size w w' := fun op h w => isterm_any op x.n x.s h (by omega) hn hs w
  refine Goes.begin Tryz.func104 [] (fun _ => True) Holds.nil (by simp [Mem.ids]) (fun _ _ => trivial) ?_
  cases h1 : (x.op == 1) with
  | true =>
    refine Goes.run1 [0, 1, 0, 0] [(x.op == 1, true)] ⟨h1, trivial⟩ fun g => ?_
    refine Goes.call0 103 #[.int .i64 1, .int .i64 x.n, strV x.s] (.bool (ownC 1 x.n x.s)) (fun w' _ _ => it 1 (by omega) w') ?_
    refine Goes.run [] [] trivial ?_
    exact Goes.ret [] (.bool (ownC 1 x.n x.s)) fun w' hm hI => ⟨by unfold ownQ; rw [h1]; rfl, bel0 hI⟩
  | false =>
  cases h2 : (x.op == 2) with
  | true =>
    cases h0 : decide (0 ≤ x.n) with
    | false =>
      refine Goes.run1 [0, 0, 1, 0, 0] [(decide (0 ≤ x.n), false), (x.op == 2, true), (x.op == 1, false)] ⟨h0, h2, h1, trivial⟩ fun g => ?_
      exact Goes.ret [] (.bool false) fun w' hm hI => ⟨by unfold ownQ; rw [h1, h2, h0]; rfl, bel0 hI⟩
    | true =>
      refine Goes.run1 [0, 0, 1, 0, 1, 0, 0] [(decide (0 ≤ x.n), true), (x.op == 2, true), (x.op == 1, false)] ⟨h0, h2, h1, trivial⟩ fun g => ?_
      refine Goes.call0 103 #[.int .i64 4, .int .i64 x.n, strV x.s] (.bool (ownC 4 x.n x.s)) (fun w' _ _ => it 4 (by omega) w') ?_
      refine Goes.run [] [] trivial ?_
      exact Goes.ret [] (.bool (ownC 4 x.n x.s)) fun w' hm hI => ⟨by unfold ownQ; rw [h1, h2, h0]; rfl, bel0 hI⟩
  | false =>
  cases h3 : (x.op == 3) with
  | true =>
    cases h0 : decide (0 ≤ x.n) with
    | false =>
      refine Goes.run1 [0, 0, 0, 1, 0, 0] [(decide (0 ≤ x.n), false), (x.op == 3, true), (x.op == 2, false), (x.op == 1, false)] ⟨h0, h3, h2, h1, trivial⟩ fun g => ?_
      exact Goes.ret [] (.bool false) fun w' hm hI => ⟨by unfold ownQ; rw [h1, h2, h3, h0]; rfl, bel0 hI⟩
    | true =>
      refine Goes.run1 [0, 0, 0, 1, 0, 1, 0, 0] [(decide (0 ≤ x.n), true), (x.op == 3, true), (x.op == 2, false), (x.op == 1, false)] ⟨h0, h3, h2, h1, trivial⟩ fun g => ?_
      refine Goes.call0 103 #[.int .i64 5, .int .i64 x.n, strV x.s] (.bool (ownC 5 x.n x.s)) (fun w' _ _ => it 5 (by omega) w') ?_
      refine Goes.run [] [] trivial ?_
      exact Goes.ret [] (.bool (ownC 5 x.n x.s)) fun w' hm hI => ⟨by unfold ownQ; rw [h1, h2, h3, h0]; rfl, bel0 hI⟩
  | false =>
  cases h21 : (x.op == 21) with
  | true =>
    refine Goes.run1 [0, 0, 0, 0, 1, 1, 0, 0] [(x.op == 21, true), (x.op == 21, true), (x.op == 3, false), (x.op == 2, false), (x.op == 1, false)] ⟨h21, h21, h3, h2, h1, trivial⟩ fun g => ?_
    refine Goes.call0 103 #[.int .i64 3, .int .i64 x.n, strV x.s] (.bool (ownC 3 x.n x.s)) (fun w' _ _ => it 3 (by omega) w') ?_
    refine Goes.run [] [] trivial ?_
    exact Goes.ret [] (.bool (ownC 3 x.n x.s)) fun w' hm hI => ⟨by unfold ownQ; rw [h1, h2, h3, h21]; rfl, bel0 hI⟩
  | false =>
  cases h22 : (x.op == 22) with
  | true =>
    refine Goes.run1 [0, 0, 0, 0, 0, 1, 0, 0] [(x.op == 22, true), (x.op == 21, false), (x.op == 3, false), (x.op == 2, false), (x.op == 1, false)] ⟨h22, h21, h3, h2, h1, trivial⟩ fun g => ?_
    refine Goes.call0 103 #[.int .i64 3, .int .i64 x.n, strV x.s] (.bool (ownC 3 x.n x.s)) (fun w' _ _ => it 3 (by omega) w') ?_
    refine Goes.run [] [] trivial ?_
    exact Goes.ret [] (.bool (ownC 3 x.n x.s)) fun w' hm hI => ⟨by unfold ownQ; rw [h1, h2, h3, h21, h22]; rfl, bel0 hI⟩
  | false =>
  cases h27 : (x.op == 27) with
  | true =>
    refine Goes.run1 [0, 0, 0, 0, 0, 0, 1, 0, 0] [(x.op == 27, true), (x.op == 22, false), (x.op == 21, false), (x.op == 3, false), (x.op == 2, false), (x.op == 1, false)] ⟨h27, h22, h21, h3, h2, h1, trivial⟩ fun g => ?_
    refine Goes.call0 103 #[.int .i64 24, .int .i64 x.n, strV x.s] (.bool (ownC 24 x.n x.s)) (fun w' _ _ => it 24 (by omega) w') ?_
    refine Goes.run [] [] trivial ?_
    exact Goes.ret [] (.bool (ownC 24 x.n x.s)) fun w' hm hI => ⟨by unfold ownQ; rw [h1, h2, h3, h21, h22, h27]; rfl, bel0 hI⟩
  | false =>
  cases h28 : (x.op == 28) with
  | true =>
    cases h0 : decide (0 ≤ x.n) with
    | false =>
      refine Goes.run1 [0, 0, 0, 0, 0, 0, 0, 1, 1, 0, 0, 0] [(false, false), (decide (0 ≤ x.n), false), (x.op == 28, true), (x.op == 28, true), (x.op == 27, false), (x.op == 22, false), (x.op == 21, false), (x.op == 3, false), (x.op == 2, false), (x.op == 1, false)] ⟨rfl, h0, h28, h28, h27, h22, h21, h3, h2, h1, trivial⟩ fun g => ?_
      exact Goes.ret [] (.bool false) fun w' hm hI => ⟨by unfold ownQ; rw [h1, h2, h3, h21, h22, h27, h28, h0]; rfl, bel0 hI⟩
    | true =>
      cases hw : decide (x.n < (nW : Int)) with
      | false =>
        refine Goes.run1 [0, 0, 0, 0, 0, 0, 0, 1, 1, 0, 1, 0, 0] [(decide (x.n < (nW : Int)), false), (decide (0 ≤ x.n), true), (x.op == 28, true), (x.op == 28, true), (x.op == 27, false), (x.op == 22, false), (x.op == 21, false), (x.op == 3, false), (x.op == 2, false), (x.op == 1, false)] ⟨hw, h0, h28, h28, h27, h22, h21, h3, h2, h1, trivial⟩ fun g => ?_
        exact Goes.ret [] (.bool false) fun w' hm hI => ⟨by unfold ownQ; rw [h1, h2, h3, h21, h22, h27, h28, h0, hw]; rfl, bel0 hI⟩
      | true =>
        refine Goes.run1 [0, 0, 0, 0, 0, 0, 0, 1, 1, 0, 1] [(decide (0 ≤ x.n), true), (x.op == 28, true), (x.op == 28, true), (x.op == 27, false), (x.op == 22, false), (x.op == 21, false), (x.op == 3, false), (x.op == 2, false), (x.op == 1, false)] ⟨h0, h28, h28, h27, h22, h21, h3, h2, h1, trivial⟩ fun g => ?_
        refine Goes.upto 68 [0, 1, 0] [(decide (x.n < (nW : Int)), true)] ⟨hw, trivial⟩ ?_
        refine Goes.val (do eqGuard .eql 9 (.tmp 67) (.const (strV [])) (strV x.s) (strV []); binOp .eql 9 (strV x.s) (strV [])) (.bool (decide (x.s = []))) (fun w' _ _ => eqEm 67 x.s w') ?_
        refine Goes.run [] [] trivial ?_
        exact Goes.ret [] (.bool (decide (x.s = []))) fun w' hm hI => ⟨by unfold ownQ; rw [h1, h2, h3, h21, h22, h27, h28, h0, hw]; rfl, bel0 hI⟩
  | false =>
  cases h29 : (x.op == 29) with
  | true =>
    cases h0 : decide (0 ≤ x.n) with
    | false =>
      refine Goes.run1 [0, 0, 0, 0, 0, 0, 0, 0, 1, 0, 0, 0] [(false, false), (decide (0 ≤ x.n), false), (x.op == 29, true), (x.op == 28, false), (x.op == 27, false), (x.op == 22, false), (x.op == 21, false), (x.op == 3, false), (x.op == 2, false), (x.op == 1, false)] ⟨rfl, h0, h29, h28, h27, h22, h21, h3, h2, h1, trivial⟩ fun g => ?_
      exact Goes.ret [] (.bool false) fun w' hm hI => ⟨by unfold ownQ; rw [h1, h2, h3, h21, h22, h27, h28, h29, h0]; rfl, bel0 hI⟩
    | true =>
      cases hw : decide (x.n < (nW : Int)) with
      | false =>
        refine Goes.run1 [0, 0, 0, 0, 0, 0, 0, 0, 1, 0, 1, 0, 0] [(decide (x.n < (nW : Int)), false), (decide (0 ≤ x.n), true), (x.op == 29, true), (x.op == 28, false), (x.op == 27, false), (x.op == 22, false), (x.op == 21, false), (x.op == 3, false), (x.op == 2, false), (x.op == 1, false)] ⟨hw, h0, h29, h28, h27, h22, h21, h3, h2, h1, trivial⟩ fun g => ?_
        exact Goes.ret [] (.bool false) fun w' hm hI => ⟨by unfold ownQ; rw [h1, h2, h3, h21, h22, h27, h28, h29, h0, hw]; rfl, bel0 hI⟩
      | true =>
        refine Goes.run1 [0, 0, 0, 0, 0, 0, 0, 0, 1, 0, 1] [(decide (0 ≤ x.n), true), (x.op == 29, true), (x.op == 28, false), (x.op == 27, false), (x.op == 22, false), (x.op == 21, false), (x.op == 3, false), (x.op == 2, false), (x.op == 1, false)] ⟨h0, h29, h28, h27, h22, h21, h3, h2, h1, trivial⟩ fun g => ?_
        refine Goes.upto 68 [0, 1, 0] [(decide (x.n < (nW : Int)), true)] ⟨hw, trivial⟩ ?_
        refine Goes.val (do eqGuard .eql 9 (.tmp 67) (.const (strV [])) (strV x.s) (strV []); binOp .eql 9 (strV x.s) (strV [])) (.bool (decide (x.s = []))) (fun w' _ _ => eqEm 67 x.s w') ?_
        refine Goes.run [] [] trivial ?_
        exact Goes.ret [] (.bool (decide (x.s = []))) fun w' hm hI => ⟨by unfold ownQ; rw [h1, h2, h3, h21, h22, h27, h28, h29, h0, hw]; rfl, bel0 hI⟩
  | false =>
  cases h0 : (x.n == 0) with
  | false =>
    refine Goes.run1 [0, 0, 0, 0, 0, 0, 0, 0, 0, 0, 0] [(x.n == 0, false), (x.op == 29, false), (x.op == 28, false), (x.op == 27, false), (x.op == 22, false), (x.op == 21, false), (x.op == 3, false), (x.op == 2, false), (x.op == 1, false)] ⟨h0, h29, h28, h27, h22, h21, h3, h2, h1, trivial⟩ fun g => ?_
    exact Goes.ret [] (.bool false) fun w' hm hI => ⟨by unfold ownQ; rw [h1, h2, h3, h21, h22, h27, h28, h29, h0]; rfl, bel0 hI⟩
  | true =>
    refine Goes.run1 [0, 0, 0, 0, 0, 0, 0, 0, 0, 0] [(x.op == 29, false), (x.op == 28, false), (x.op == 27, false), (x.op == 22, false), (x.op == 21, false), (x.op == 3, false), (x.op == 2, false), (x.op == 1, false)] ⟨h29, h28, h27, h22, h21, h3, h2, h1, trivial⟩ fun g => ?_
    refine Goes.upto 76 [1, 0] [(x.n == 0, true)] ⟨h0, trivial⟩ ?_
    refine Goes.val (do eqGuard .eql 9 (.tmp 75) (.const (strV [])) (strV x.s) (strV []); binOp .eql 9 (strV x.s) (strV [])) (.bool (decide (x.s = []))) (fun w' _ _ => eqEm 75 x.s w') ?_
    refine Goes.run [] [] trivial ?_
    exact Goes.ret [] (.bool (decide (x.s = []))) fun w' hm hI => ⟨by unfold ownQ; rw [h1, h2, h3, h21, h22, h27, h28, h29, h0]; rfl, bel0 hI⟩
end Go.Proofs.YtddbiiejilcbbaaGreatDoor
namespace Go.Proofs.YtddbiiejilcbbaaGreatDoor
open Go Go.RowKit

noncomputable def iwSt : St := (rnS Tryz.prog 24 [1, 0, 0, 0, 0, 0] [] (put0 (rnS Tryz.prog 10 [0] [] (rn Tryz.prog [] [0] (st0 Tryz.f58 #[wV ⟨0, 0, [], 0, 0⟩, .int .i64 1] [])).st).st (.bool true))).st
noncomputable def iwK : List TI := (rnS Tryz.prog 32 [0, 0] [] (put0 iwSt (.bool false))).st.todo
theorem neEm (o : Nat) (l : List UInt8) (w : World) : (do eqGuard .neq 9 (.tmp o) (.const (strV [])) (strV l) (strV []); binOp .neq 9 (strV l) (strV []) : Sem Value).run Tryz.prog w = .ok (.bool (!decide (l = []))) w := by
  have : (eqGuard .neq 9 (.tmp o) (.const (strV [])) (strV l) (strV [])).run Tryz.prog w = .ok () w := by
    unfold eqGuard strV; go_simp
  simp only [Sem.run_bind, this, Result.andThen_ok, neqS l [] (!decide (l = [])) (by simp) w]
set_option maxRecDepth 100000 in
seal rn rnN rnS Goes ans atEnd put0 put putM opened openedY putA0 putA oneSt st0 keep mkSt newSt iwSt iwK in
theorem iswait_any (x : Wk) (nI : Nat) (hI9 : 1 ≤ nI ∧ nI ≤ 20000) (hl : x.label.length ≤ 9223372036854775807) (w : World) : Calls Tryz.prog 58 #[wV x, .int .i64 nI] w fun e w' => e = .returned (.bool (waitQ x nI)) ∧ Below w.heap.size w w' := by
  have hwr : IntKind.i64.wrap ((nI : Int) - 1) = (nI : Int) - 1 := IntWalk.i64_in _ ⟨by omega, by omega⟩
  refine Goes.begin Tryz.func58 [] (fun _ => True) Holds.nil (by simp [Mem.ids]) (fun _ _ => trivial) ?_
  refine Goes.run1 [] [] trivial fun g => ?_
  have rest : ∀ J, (bif decide (x.label = []) then x.first == 0 && x.second == 0 else ownC 4 0 x.label) = true → Goes Tryz.prog (bodyPost Tryz.prog Tryz.f58 (fun e w' => e = .returned (.bool (waitQ x nI)) ∧ Below w.heap.size w w')) (fun w' => Ch (Mem.ids []) w w' ∧ True) ⟨iwK, fr 53 [(2, .pointer (some ⟨g, 0, none⟩)), (4, .bool false), (5, .int .i64 ((nI : Int) - 1))] J, [(g, .cells #[.int .i64 x.entry, .int .i64 x.day, strV x.label, .int .i64 x.first, .int .i64 x.second] 70 (0, 0))]⟩ := fun J h0 => by
    have e0 : waitQ x nI = (inW x.entry 0 ((nI : Int) - 1) && inW x.day 0 73048 && inW x.first 0 ((nI : Int) - 1) && inW x.second 0 ((nI : Int) - 1)) := by unfold waitQ; rw [h0, Bool.true_and]
    rw [e0]
    refine Goes.run [0] [] trivial ?_
    refine Goes.call0 57 #[.int .i64 x.entry, .int .i64 0, .int .i64 ((nI : Int) - 1)] (.bool (inW x.entry 0 ((nI : Int) - 1))) (fun w' _ _ => gwithin_any _ _ _ w') ?_
    cases h1 : inW x.entry 0 ((nI : Int) - 1) with
    | false =>
      refine Goes.run [0, 0, 0] [(false, false), (false, false), (false, false)] ⟨rfl, rfl, rfl, trivial⟩ ?_
      exact Goes.ret [] (.bool false) fun w' hm hI => ⟨rfl, bel0 hI⟩
    | true =>
    refine Goes.run [1, 0] [(true, true)] ⟨rfl, trivial⟩ ?_
    refine Goes.call0 57 #[.int .i64 x.day, .int .i64 0, .int .i64 73048] (.bool (inW x.day 0 73048)) (fun w' _ _ => gwithin_any _ _ _ w') ?_
    cases h2 : inW x.day 0 73048 with
    | false =>
      refine Goes.run [0, 0] [(false, false), (false, false)] ⟨rfl, rfl, trivial⟩ ?_
      exact Goes.ret [] (.bool false) fun w' hm hI => ⟨rfl, bel0 hI⟩
    | true =>
    refine Goes.run [1, 0] [(true, true)] ⟨rfl, trivial⟩ ?_
    refine Goes.call0 57 #[.int .i64 x.first, .int .i64 0, .int .i64 ((nI : Int) - 1)] (.bool (inW x.first 0 ((nI : Int) - 1))) (fun w' _ _ => gwithin_any _ _ _ w') ?_
    cases h3 : inW x.first 0 ((nI : Int) - 1) with
    | false =>
      refine Goes.run [0] [(false, false)] ⟨rfl, trivial⟩ ?_
      exact Goes.ret [] (.bool false) fun w' hm hI => ⟨rfl, bel0 hI⟩
    | true =>
    refine Goes.run [1, 0] [(true, true)] ⟨rfl, trivial⟩ ?_
    refine Goes.call0 57 #[.int .i64 x.second, .int .i64 0, .int .i64 ((nI : Int) - 1)] (.bool (inW x.second 0 ((nI : Int) - 1))) (fun w' _ _ => gwithin_any _ _ _ w') ?_
    refine Goes.run [] [] trivial ?_
    exact Goes.ret [] (.bool (inW x.second 0 ((nI : Int) - 1))) fun w' hm hI => ⟨rfl, bel0 hI⟩
  have no : (bif decide (x.label = []) then x.first == 0 && x.second == 0 else ownC 4 0 x.label) = false → waitQ x nI = false := fun h => by unfold waitQ; rw [h]; rfl
  refine Goes.slot 5 (.int .i64 ((nI : Int) - 1)) (u := .int .i64 (IntKind.i64.wrap ((nI : Int) - 1))) (congrArg _ hwr) ?_
  refine Goes.upto 10 [0] [] trivial ?_
  refine Goes.val (do eqGuard .eql 9 (.tmp 9) (.const (strV [])) (strV x.label) (strV []); binOp .eql 9 (strV x.label) (strV [])) (.bool (decide (x.label = []))) (fun w' _ _ => eqEm 9 x.label w') ?_
  cases hL : decide (x.label = []) with
  | true =>
    rw [hL] at rest no
    cases hf : (x.first == 0) with
    | false =>
      refine Goes.run [1, 0, 1, 1, 1] [(true, true), (true, true), (x.first != 0, true), (true, true)] ⟨rfl, rfl, by unfold bne; rw [hf]; rfl, rfl, trivial⟩ ?_
      exact Goes.ret [] (.bool false) fun w' hm hI => ⟨by rw [no (by rw [hf]; rfl)], bel0 hI⟩
    | true =>
    cases hs : (x.second == 0) with
    | false =>
      refine Goes.run [1, 0, 0, 0, 1, 1] [(true, true), (x.second != 0, true), (x.first != 0, false), (true, true)] ⟨rfl, by unfold bne; rw [hs]; rfl, by unfold bne; rw [hf]; rfl, rfl, trivial⟩ ?_
      exact Goes.ret [] (.bool false) fun w' hm hI => ⟨by rw [no (by rw [hf, hs]; rfl)], bel0 hI⟩
    | true =>
      refine Goes.upto 24 [1, 0, 0, 0, 0, 0] [(x.second != 0, false), (x.first != 0, false), (true, true)] ⟨by unfold bne; rw [hs]; rfl, by unfold bne; rw [hf]; rfl, rfl, trivial⟩ ?_
      refine Goes.val (do eqGuard .neq 9 (.tmp 23) (.const (strV [])) (strV x.label) (strV []); binOp .neq 9 (strV x.label) (strV [])) (.bool (!decide (x.label = []))) (fun w' _ _ => neEm 23 x.label w') ?_
      refine Goes.slot 24 (.bool false) (u := .bool (!decide (x.label = []))) (congrArg _ (by rw [hL]; rfl)) ?_
      refine Goes.upto 32 [0, 0] [(false, false), (false, false)] ⟨rfl, rfl, trivial⟩ ?_
      exact Goes.at (K := iwK) (n := 53) (S := [(2, .pointer (some ⟨g, 0, none⟩)), (4, .bool false), (5, .int .i64 ((nI : Int) - 1))]) (m := [(g, .cells #[.int .i64 x.entry, .int .i64 x.day, strV x.label, .int .i64 x.first, .int .i64 x.second] 70 (0, 0))]) (fun J => rest J (by rw [hf, hs]; rfl)) (by kernel_rfl) (by kernel_rfl) (by kernel_rfl)
  | false =>
    rw [hL] at rest no
    refine Goes.upto 24 [0, 0, 0] [(false, false), (false, false)] ⟨rfl, rfl, trivial⟩ ?_
    refine Goes.val (do eqGuard .neq 9 (.tmp 23) (.const (strV [])) (strV x.label) (strV []); binOp .neq 9 (strV x.label) (strV [])) (.bool (!decide (x.label = []))) (fun w' _ _ => neEm 23 x.label w') ?_
    refine Goes.slot 24 (.bool true) (u := .bool (!decide (x.label = []))) (congrArg _ (by rw [hL]; rfl)) ?_
    refine Goes.run [1, 0] [(true, true)] ⟨rfl, trivial⟩ ?_
    refine Goes.call0 103 #[.int .i64 4, .int .i64 0, strV x.label] (.bool (ownC 4 0 x.label)) (fun w' _ _ => isterm_any 4 0 x.label (by omega) (by omega) (by omega) hl w') ?_
    cases ho : ownC 4 0 x.label with
    | false =>
      refine Goes.run [1] [(true, true)] ⟨rfl, trivial⟩ ?_
      exact Goes.ret [] (.bool false) fun w' hm hI => ⟨by rw [no (by rw [ho]; rfl)], bel0 hI⟩
    | true =>
      refine Goes.upto 32 [0] [(false, false)] ⟨rfl, trivial⟩ ?_
      exact Goes.at (K := iwK) (n := 53) (S := [(2, .pointer (some ⟨g, 0, none⟩)), (4, .bool false), (5, .int .i64 ((nI : Int) - 1))]) (m := [(g, .cells #[.int .i64 x.entry, .int .i64 x.day, strV x.label, .int .i64 x.first, .int .i64 x.second] 70 (0, 0))]) (fun J => rest J (by rw [ho]; rfl)) (by kernel_rfl) (by kernel_rfl) (by kernel_rfl)
end Go.Proofs.YtddbiiejilcbbaaGreatDoor
namespace Go.Proofs.YtddbiiejilcbbaaGreatDoor
open Go Go.RowKit

section
variable {w : World} {rg : Int} {aW aI : Option Addr} {nW cW nI cI : Nat}
set_option maxRecDepth 100000 in
seal rn rnN rnS Goes ans atEnd put0 put putM opened openedY putA0 putA oneSt st0 keep mkSt newSt in
theorem wait_any {k : Kd} (hM : CdM w aW nW cW aI nI cI k) {x : Wk} (hl : x.label.length ≤ 9223372036854775807) (w : World) : Calls Tryz.prog 45 #[cdV rg aW nW cW aI nI cI, wV x] w fun e w' => e = .returned (.bool (waiR k x)) ∧ Below w.heap.size w w' := by
  refine Goes.begin Tryz.func45 [] (fun _ => True) Holds.nil (by simp [Mem.ids]) (fun _ _ => trivial) ?_
  refine Goes.run2 [0, 1] [] trivial fun g2 g3 => ?_
  refine Goes.call0 80 #[cdV rg aW nW cW aI nI cI, .int .i64 x.entry] (.bool (plaR k x.entry)) (fun w' _ _ => place_any hM.li x.entry w') ?_
  have fls : ∀ b : Bool, plaR k x.entry = b → (b && decide (0 ≤ x.day) && decide (x.day ≤ 73048)) = false → waiR k x = false := fun b h1 h2 => by unfold waiR; rw [h1, h2]; rfl
  cases hp : plaR k x.entry with
  | false =>
    refine Goes.run [1, 1, 1] [(true, true), (true, true), (true, true)] ⟨rfl, rfl, rfl, trivial⟩ ?_
    exact Goes.ret [] (.bool false) fun w' hm hI => ⟨by rw [fls _ hp rfl], bel0 hI⟩
  | true =>
  cases h0 : decide (x.day < 0) with
  | true =>
    refine Goes.run [0, 1, 1, 1] [(true, true), (decide (x.day < 0), true), (false, false)] ⟨rfl, h0, rfl, trivial⟩ ?_
    exact Goes.ret [] (.bool false) fun w' hm hI => ⟨by rw [fls _ hp (by rw [decide_eq_false (show ¬ 0 ≤ x.day by have := of_decide_eq_true h0; omega)]; rfl)], bel0 hI⟩
  | false =>
  have d0 : decide (0 ≤ x.day) = true := decide_eq_true (by have := of_decide_eq_false h0; omega)
  cases h1 : decide (x.day > 73048) with
  | true =>
    refine Goes.run [0, 1, 0, 1, 1] [(decide (x.day > 73048), true), (decide (x.day < 0), false), (false, false)] ⟨h1, h0, rfl, trivial⟩ ?_
    exact Goes.ret [] (.bool false) fun w' hm hI => ⟨by rw [fls _ hp (by rw [d0, decide_eq_false (show ¬ x.day ≤ 73048 by have := of_decide_eq_true h1; omega)]; rfl)], bel0 hI⟩
  | false =>
  have d1 : decide (x.day ≤ 73048) = true := decide_eq_true (by have := of_decide_eq_false h1; omega)
  have e0 : waiR k x = (bif decide (x.label = []) then x.first == 0 && x.second == 0 else namP x.label && plaR k x.first && plaR k x.second) := by unfold waiR; rw [hp, d0, d1]; rfl
  refine Goes.upto 27 [0, 1, 0, 1, 0, 1] [(decide (x.day > 73048), false), (decide (x.day < 0), false), (false, false)] ⟨h1, h0, rfl, trivial⟩ ?_
  refine Goes.val (do eqGuard .eql 9 (.tmp 26) (.const (strV [])) (strV x.label) (strV []); binOp .eql 9 (strV x.label) (strV [])) (.bool (decide (x.label = []))) (fun w' _ _ => eqEm 26 x.label w') ?_
  cases hL : decide (x.label = []) with
  | true =>
    rw [hL] at e0
    cases hf : (x.first == 0) with
    | true =>
      refine Goes.run [1, 1, 1, 1] [((x.first == 0), true), (true, true)] ⟨hf, rfl, trivial⟩ ?_
      exact Goes.ret [] (.bool (x.second == 0)) fun w' hm hI => ⟨by rw [e0, hf]; rfl, bel0 hI⟩
    | false =>
      refine Goes.run [1, 1, 0] [((x.first == 0), false), (true, true)] ⟨hf, rfl, trivial⟩ ?_
      exact Goes.ret [] (.bool false) fun w' hm hI => ⟨by rw [e0, hf]; rfl, bel0 hI⟩
  | false =>
    rw [hL] at e0
    refine Goes.run [0, 1] [(false, false)] ⟨rfl, trivial⟩ ?_
    refine Goes.call0 71 #[strV x.label] (.bool (namP x.label)) (fun w' _ _ => rname_any x.label w' hl) ?_
    refine Goes.run [0, 1] [] trivial ?_
    refine Goes.call0 80 #[cdV rg aW nW cW aI nI cI, .int .i64 x.first] (.bool (plaR k x.first)) (fun w' _ _ => place_any hM.li x.first w') ?_
    refine Goes.run [0, 1] [] trivial ?_
    refine Goes.call0 80 #[cdV rg aW nW cW aI nI cI, .int .i64 x.second] (.bool (plaR k x.second)) (fun w' _ _ => place_any hM.li x.second w') ?_
    cases hn : namP x.label with
    | false =>
      refine Goes.run [0, 0] [(false, false), (false, false)] ⟨rfl, rfl, trivial⟩ ?_
      exact Goes.ret [] (.bool false) fun w' hm hI => ⟨by rw [e0, hn]; rfl, bel0 hI⟩
    | true =>
      cases hf : plaR k x.first with
      | false =>
        refine Goes.run [1, 0] [(false, false), (true, true)] ⟨rfl, rfl, trivial⟩ ?_
        exact Goes.ret [] (.bool false) fun w' hm hI => ⟨by rw [e0, hn, hf]; rfl, bel0 hI⟩
      | true =>
        refine Goes.run [1, 1] [(true, true), (true, true)] ⟨rfl, rfl, trivial⟩ ?_
        exact Goes.ret [] (.bool (plaR k x.second)) fun w' hm hI => ⟨by rw [e0, hn, hf]; rfl, bel0 hI⟩
set_option maxRecDepth 100000 in
seal rn rnN rnS Goes ans atEnd put0 put putM opened openedY putA0 putA oneSt st0 keep mkSt newSt in
theorem instr_any {k : Kd} {i : Nat} {x : Ik} (hM : CdM w aW nW cW aI nI cI k) (hx : k.ins[i]? = some x) (hrg : k.regs = rg) : Calls Tryz.prog 46 #[cdV rg aW nW cW aI nI cI, .int .i64 i] w fun e w' => e = .returned (.bool (insR k i x)) ∧ Below w.heap.size w w' := by
  have hM0 := hM
  obtain ⟨hs, bI, oI, rfl, hbI, hc⟩ := hM.ins i x hx
  have hiN : i < nI := by rw [← hM.li]; exact (List.getElem?_eq_some_iff.1 hx).1
  have hu : (usesR x.op).1.length ≤ 100 := by
    have key : ∀ b : Bool, ∀ p q : List UInt8 × Bool, p.1.length ≤ 100 → q.1.length ≤ 100 → (bif b then p else q).1.length ≤ 100 := fun b p q h1 h2 => by cases b <;> assumption
    unfold usesR
    repeat' first | (refine key _ _ _ ?_ ?_) | decide
  refine Goes.begin Tryz.func46 [] (fun _ => True) Holds.nil (by simp [Mem.ids]) (fun _ _ => trivial) ?_
  refine Goes.run1 [0] [] trivial fun g2 => ?_
  refine Goes.val (Instr.indexAt 25 (.slice (some ⟨bI, oI, none⟩) nI cI) (.int .i64 i)) (.pointer (some ⟨bI, oI + i * 7, none⟩)) (fun w' _ _ => idxIk bI oI nI cI i hiN w') ?_
  refine Goes.val (Instr.loadAt 72 (.pointer (some ⟨bI, oI + i * 7, none⟩))) (iV x) (fun w' hm hI => loadI (hc.below hbI (bel0 hI))) ?_
  refine Goes.run1 [1, 1] [] trivial fun g5 => ?_
  refine Goes.call0 81 #[.int .i64 x.op] (.tuple #[strV (usesR x.op).1, .bool (usesR x.op).2]) (fun w' _ _ => uses_any x.op w') ?_
  refine Goes.run [] [] trivial ?_
  refine Goes.open [0, 1] ?_
  refine Goes.run [0, 1, 1, 2, 4, 5, 0] [] trivial ?_
  refine Goes.callA0 3 83 #[strV (usesR x.op).1, .int .u8 65] (.bool (hasR (usesR x.op).1 65)) (fun w' _ _ => has_any (usesR x.op).1 65 hu w') ?_
  refine Goes.callA0 6 82 #[.int .i64 x.a, .bool (hasR (usesR x.op).1 65), .int .i64 rg] (.bool (regR x.a (hasR (usesR x.op).1 65) rg)) (fun w' _ _ => register_any x.a rg _ w') ?_
  refine Goes.run [7] [] trivial ?_
  refine Goes.run [] [] trivial ?_
  refine Goes.open [0, 1] ?_
  refine Goes.run [0, 1, 1, 2, 4, 5, 0] [] trivial ?_
  refine Goes.callA0 3 83 #[strV (usesR x.op).1, .int .u8 66] (.bool (hasR (usesR x.op).1 66)) (fun w' _ _ => has_any (usesR x.op).1 66 hu w') ?_
  refine Goes.callA0 6 82 #[.int .i64 x.b, .bool (hasR (usesR x.op).1 66), .int .i64 rg] (.bool (regR x.b (hasR (usesR x.op).1 66) rg)) (fun w' _ _ => register_any x.b rg _ w') ?_
  refine Goes.run [7] [] trivial ?_
  refine Goes.run [] [] trivial ?_
  refine Goes.open [0, 1] ?_
  refine Goes.run [0, 1, 1, 2, 4, 5, 0] [] trivial ?_
  refine Goes.callA0 3 83 #[strV (usesR x.op).1, .int .u8 67] (.bool (hasR (usesR x.op).1 67)) (fun w' _ _ => has_any (usesR x.op).1 67 hu w') ?_
  refine Goes.callA0 6 82 #[.int .i64 x.c, .bool (hasR (usesR x.op).1 67), .int .i64 rg] (.bool (regR x.c (hasR (usesR x.op).1 67) rg)) (fun w' _ _ => register_any x.c rg _ w') ?_
  refine Goes.run [7] [] trivial ?_
  refine Goes.run [0] [] trivial ?_
  refine Goes.call0 84 #[cdV rg aW nW cW (some ⟨bI, oI, none⟩) nI cI, .int .i64 i] (.bool (numR k i x)) (fun w' _ hI => number_any (hM.below (bel0 hI)) hx) ?_
  refine Goes.run [1] [] trivial ?_
  refine Goes.call0 85 #[iV x] (.bool (txtR x)) (fun w' _ _ => text_any x hs w') ?_
  refine Goes.run [] [] trivial ?_
  refine Goes.call0 83 #[strV (usesR x.op).1, .int .u8 84] (.bool (hasR (usesR x.op).1 84)) (fun w' _ _ => has_any (usesR x.op).1 84 hu w') ?_
  have e0 : insR k i x = ((usesR x.op).2 && regR x.a (hasR (usesR x.op).1 65) rg && regR x.b (hasR (usesR x.op).1 66) rg && regR x.c (hasR (usesR x.op).1 67) rg && numR k i x && txtR x && toR k i x) := by unfold insR; rw [hrg]
  have et : toR k i x = (bif hasR (usesR x.op).1 84 then decide (x.to > (i : Int)) && decide (x.to < (nI : Int)) else x.to == 0) := by unfold toR; rw [hM0.li]
  rw [e0, et]
  clear e0 et
  generalize hasR (usesR x.op).1 84 = goes
  generalize (usesR x.op).2 = bp
  generalize regR x.a (hasR (usesR x.op).1 65) rg = bq
  generalize regR x.b (hasR (usesR x.op).1 66) rg = br
  generalize regR x.c (hasR (usesR x.op).1 67) rg = bs
  generalize numR k i x = bt
  generalize txtR x = bu
  cases bp with
  | false =>
    refine Goes.run [0, 0, 0, 0, 0, 0] [(false, false), (false, false), (false, false), (false, false), (false, false), (false, false)] ⟨rfl, rfl, rfl, rfl, rfl, rfl, trivial⟩ ?_
    exact Goes.ret [] (.bool false) fun w' hm hI => ⟨by simp, bel0 hI⟩
  | true =>
  cases bq with
  | false =>
    refine Goes.run [1, 0, 0, 0, 0, 0] [(false, false), (false, false), (false, false), (false, false), (false, false), (true, true)] ⟨rfl, rfl, rfl, rfl, rfl, rfl, trivial⟩ ?_
    exact Goes.ret [] (.bool false) fun w' hm hI => ⟨by simp, bel0 hI⟩
  | true =>
  cases br with
  | false =>
    refine Goes.run [1, 1, 0, 0, 0, 0] [(false, false), (false, false), (false, false), (false, false), (true, true), (true, true)] ⟨rfl, rfl, rfl, rfl, rfl, rfl, trivial⟩ ?_
    exact Goes.ret [] (.bool false) fun w' hm hI => ⟨by simp, bel0 hI⟩
  | true =>
  cases bs with
  | false =>
    refine Goes.run [1, 1, 1, 0, 0, 0] [(false, false), (false, false), (false, false), (true, true), (true, true), (true, true)] ⟨rfl, rfl, rfl, rfl, rfl, rfl, trivial⟩ ?_
    exact Goes.ret [] (.bool false) fun w' hm hI => ⟨by simp, bel0 hI⟩
  | true =>
  cases bt with
  | false =>
    refine Goes.run [1, 1, 1, 1, 0, 0] [(false, false), (false, false), (true, true), (true, true), (true, true), (true, true)] ⟨rfl, rfl, rfl, rfl, rfl, rfl, trivial⟩ ?_
    exact Goes.ret [] (.bool false) fun w' hm hI => ⟨by simp, bel0 hI⟩
  | true =>
  cases bu with
  | false =>
    refine Goes.run [1, 1, 1, 1, 1, 0] [(false, false), (true, true), (true, true), (true, true), (true, true), (true, true)] ⟨rfl, rfl, rfl, rfl, rfl, rfl, trivial⟩ ?_
    exact Goes.ret [] (.bool false) fun w' hm hI => ⟨by simp, bel0 hI⟩
  | true =>
  cases goes with
  | false =>
    refine Goes.run [1, 1, 1, 1, 1, 1, 0, 0, 0, 1, 1] [(true, true), (false, false), (false, false), (false, false), (true, true), (true, true), (true, true), (true, true), (true, true), (true, true)] ⟨rfl, rfl, rfl, rfl, rfl, rfl, rfl, rfl, rfl, rfl, trivial⟩ ?_
    exact Goes.ret [] (.bool (x.to == 0)) fun w' hm hI => ⟨by simp, bel0 hI⟩
  | true =>
    cases h1 : decide (x.to > (i : Int)) with
    | false =>
      refine Goes.run [1, 1, 1, 1, 1, 1, 1, 1, 0, 0, 0] [(false, false), (false, false), (decide (x.to > (i : Int)), false), (true, true), (true, true), (true, true), (true, true), (true, true), (true, true), (true, true)] ⟨rfl, rfl, h1, rfl, rfl, rfl, rfl, rfl, rfl, rfl, trivial⟩ ?_
      exact Goes.ret [] (.bool false) fun w' hm hI => ⟨by simp, bel0 hI⟩
    | true =>
      cases h2 : decide (x.to < (nI : Int)) with
      | true =>
        refine Goes.run [1, 1, 1, 1, 1, 1, 1, 1, 1, 1, 0, 1] [(decide (x.to < (nI : Int)), true), (decide (x.to > (i : Int)), true), (true, true), (true, true), (true, true), (true, true), (true, true), (true, true), (true, true)] ⟨h2, h1, rfl, rfl, rfl, rfl, rfl, rfl, rfl, trivial⟩ ?_
        exact Goes.ret [] (.bool true) fun w' hm hI => ⟨by simp, bel0 hI⟩
      | false =>
        refine Goes.run [1, 1, 1, 1, 1, 1, 1, 1, 1, 1, 0, 0, 0] [(false, false), (decide (x.to < (nI : Int)), false), (decide (x.to > (i : Int)), true), (true, true), (true, true), (true, true), (true, true), (true, true), (true, true), (true, true)] ⟨rfl, h2, h1, rfl, rfl, rfl, rfl, rfl, rfl, rfl, trivial⟩ ?_
        exact Goes.ret [] (.bool false) fun w' hm hI => ⟨by simp, bel0 hI⟩
end
end Go.Proofs.YtddbiiejilcbbaaGreatDoor
