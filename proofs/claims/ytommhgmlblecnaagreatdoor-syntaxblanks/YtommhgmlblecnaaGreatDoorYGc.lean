/- texts put together: YBase YTok YRead YStep YLex YTree YPure YMove YWalkA YRow YWalkB YWalkC YAny YWalkD YWalkE YWalkF YOuter -/
import Derived.Test.YtommhgmlblecnaaGreatDoorYGb
import Derived.Test.YtommhgmlblecnaaGreatDoorYGa
namespace Go.Proofs.YtommhgmlblecnaaGreatDoor
open Go Go.RowKit

structure Tk where
  k : Int
  tx : List UInt8
  n : Int
  a : Int
  e : Int
def Tk.v (t : Tk) : Value := .agg #[.int .i64 t.k, strV t.tx, .int .i64 t.n, .int .i64 t.a, .int .i64 t.e]
/-- The reader's block. -/
def rdO (tv : Value) (i wh p : Int) : Obj := .cells #[tv, .int .i64 i, .int .i64 wh, .int .i64 p] 65 (0, 0)
/-- A row of cells that are tokens. -/
def TkRow (cur : Array Value) (ts : List Tk) : Prop := ∀ i t, ts[i]? = some t → cur[i * 5]? = some (.int .i64 t.k) ∧ cur[i * 5 + 1]? = some (strV t.tx) ∧ cur[i * 5 + 2]? = some (.int .i64 t.n) ∧ cur[i * 5 + 3]? = some (.int .i64 t.a) ∧ cur[i * 5 + 4]? = some (.int .i64 t.e)
/-- The tokens lie in the block b. -/
structure Tks (w : World) (b c : Nat) (ts : List Tk) : Prop where
  blk : ∃ cur z, w.heap[b]? = some (.cells cur 68 z) ∧ TkRow cur ts
  len : ts.length ≤ 9223372036854775807
def tvO (b c : Nat) (ts : List Tk) : Value := .slice (some ⟨b, 0, none⟩) ts.length c
theorem Holds.one {b : Nat} {o : Obj} {w : World} (h : w.heap[b]? = some o) : Holds [(b, o)] w := by
  intro j c q hj
  match j, hj with
  | 0, hj => cases hj; exact h
theorem Holds.two {b c : Nat} {o p : Obj} {w : World} (h : w.heap[b]? = some o) (h' : w.heap[c]? = some p) : Holds [(b, o), (c, p)] w := by
  intro j d q hj
  match j, hj with
  | 0, hj => cases hj; exact h
  | 1, hj => cases hj; exact h'
theorem idx68 (b n cap k : Nat) (h : k < n) (w : World) : (Instr.indexAt 59 (.slice (some ⟨b, 0, none⟩) n cap) (.int .i64 k)).run Tryz.prog w = .ok (.pointer (some ⟨b, k * 5, none⟩)) w := by go_simp
theorem load68 {w : World} {b i : Nat} {t : Tk} {ts : List Tk} {cur : Array Value} {z : Nat × Nat} (hb : w.heap[b]? = some (.cells cur 68 z)) (hr : TkRow cur ts) (hi : ts[i]? = some t) : (Instr.loadAt 68 (.pointer (some ⟨b, i * 5, none⟩))).run Tryz.prog w = .ok t.v w := by
  have hr := hr i t hi
  generalize i * 5 = o at hr ⊢
  obtain ⟨h0, h1, h2, h3, h4⟩ := hr
  have hc := run_loadCells_list (P := Tryz.prog) w ⟨b, o, none⟩ [.int .i64 t.k, strV t.tx, .int .i64 t.n, .int .i64 t.a, .int .i64 t.e] (fun j x hx => by
    rw [add_lit, World.cell?, hb]
    match j, hx with
    | 0, hx => cases hx; simpa using h0
    | 1, hx => cases hx; simpa using h1
    | 2, hx => cases hx; simpa using h2
    | 3, hx => cases hx; simpa using h3
    | 4, hx => cases hx; simpa using h4)
  unfold Tk.v
  simp only [Instr.loadAt, Instr.sureAddr, Sem.run_bind, Sem.run_pure, Result.andThen, loadVar, Tryz.isAgg68, run_size (show (Tryz.prog.info? 68).map (·.size) = some 5 by kernel_rfl), show 5 = [Value.int .i64 t.k, strV t.tx, .int .i64 t.n, .int .i64 t.a, .int .i64 t.e].length from rfl, hc, if_true]
set_option maxRecDepth 100000 in
seal rn Goes ans atEnd put0 putM opened putA0 oneSt st0 in
theorem now_any {q0 b c i : Nat} {wh p : Int} {ts : List Tk} {t : Tk} {w : World} (hq : w.heap[q0]? = some (rdO (tvO b c ts) i wh p)) (ht : Tks w b c ts) (hi : ts[i]? = some t) :
    Calls Tryz.prog 43 #[.pointer (some ⟨q0, 0, none⟩)] w fun r w' => r = .returned t.v ∧ Below w.heap.size w w' := by
  obtain ⟨⟨cur, z, hb, hr⟩, hl⟩ := ht
  have hne : q0 ≠ b := by rintro rfl; rw [hq] at hb; cases hb
  have hil : i < ts.length := (List.getElem?_eq_some_iff.1 hi).1
  refine Goes.begin Tryz.func43 [(q0, rdO (tvO b c ts) i wh p), (b, .cells cur 68 z)] (fun _ => True) (Holds.two hq hb) (by simp [Mem.ids, hne]) (fun _ _ => trivial) ?_
  refine Goes.run1 [] [] trivial fun g => ?_
  refine Goes.open [0, 1] ?_
  refine Goes.run [0, 1, 2, 3, 0, 4, 5, 6, 7, 0] [] trivial ?_
  refine Goes.valA 8 (Instr.indexAt 59 (tvO b c ts) (.int .i64 i)) (.pointer (some ⟨b, i * 5, none⟩)) (fun w' _ => idx68 b _ c i hil w') ?_
  refine Goes.valA 9 (Instr.loadAt 68 (.pointer (some ⟨b, i * 5, none⟩))) t.v (fun w' h => load68 (z := z) (h.get 1) hr hi) ?_
  refine Goes.oneA 10 2 [0, 1] ?_
  refine Goes.run [] [] trivial ?_
  refine Goes.ret [2] t.v ?_
  intro w' h hI
  exact ⟨rfl, below_end (Holds.two hq hb) hI.now.1 h (by kernel_rfl)⟩
end Go.Proofs.YtommhgmlblecnaaGreatDoor
namespace Go.Proofs.YtommhgmlblecnaaGreatDoor
open Go Go.RowKit

/-- A row of texts. -/
def strs (ws : List (List UInt8)) (z : Nat × Nat) : Obj := .cells (ws.map strV).toArray 9 z
theorem idxS (b n cap k : Nat) (h : k < n) (w : World) : (Instr.indexAt 48 (.slice (some ⟨b, 0, none⟩) n cap) (.int .i64 k)).run Tryz.prog w = .ok (.pointer (some ⟨b, k, none⟩)) w := by go_simp
theorem loadS {w : World} {b k : Nat} {ws : List (List UInt8)} {z : Nat × Nat} {x : List UInt8} (hb : w.heap[b]? = some (strs ws z)) (hk : ws[k]? = some x) : (Instr.loadAt 9 (.pointer (some ⟨b, k, none⟩))).run Tryz.prog w = .ok (strV x) w := by
  refine load1 Tryz.isAgg9 ?_
  unfold World.cell?
  rw [hb]
  simp [strs, hk]
/-- Two texts compared, as the program does it. -/
def eqS (a b : List UInt8) : Bool := (⟨a.toArray⟩ : ByteArray).toList == (⟨b.toArray⟩ : ByteArray).toList
theorem eqS_eq (a b : List UInt8) : eqS a b = decide (a = b) := by
  have h1 := eqlS a b _ rfl (default : World)
  have h2 : (binOp .eql 9 (strV a) (strV b)).run Tryz.prog default = .ok (.bool (eqS a b)) default := by kernel_rfl
  rw [h2] at h1
  simpa using h1
def Tk.is (t : Tk) (ws : List (List UInt8)) : Bool := (t.k == 1) && ws.any fun x => decide (t.tx = x)
theorem wrap_nat {k : Nat} (h : k + 1 ≤ 9223372036854775807) : IntKind.i64.wrap ((k : Int) + 1) = ((k + 1 : Nat) : Int) := by rw [IntWalk.i64_in _ ⟨by omega, by omega⟩]; omega
set_option maxRecDepth 100000 in
seal rn Goes ans atEnd put0 putM opened putA0 oneSt st0 in
theorem is_any {b c : Nat} {z : Nat × Nat} {ws : List (List UInt8)} (t : Tk) {w : World} (hb : w.heap[b]? = some (strs ws z)) (hl : ws.length ≤ 1000) :
    Calls Tryz.prog 76 #[t.v, .slice (some ⟨b, 0, none⟩) ws.length c] w fun r w' => r = .returned (.bool (t.is ws)) ∧ Below w.heap.size w w' := by
  obtain ⟨N, hN⟩ : ∃ N, ws.length = N := ⟨_, rfl⟩
  rw [hN]
  refine Goes.begin Tryz.func76 [(b, strs ws z)] (fun _ => True) (Holds.one hb) (by simp [Mem.ids]) (fun _ _ => trivial) ?_
  cases hk : (t.k != 1) with
  | true =>
    refine Goes.run1 [1, 1] [(t.k != 1, true)] ⟨hk, trivial⟩ fun g => ?_
    refine Goes.ret [] (.bool false) fun w' h hI => ⟨?_, below_end (Holds.one hb) hI.now.1 h (by kernel_rfl)⟩
    have : (t.k == 1) = false := by simpa using hk
    simp [Tk.is, this]
  | false =>
    have hk1 : (t.k == 1) = true := by simpa using hk
    refine Goes.run1 [1, 0] [(t.k != 1, false)] ⟨hk, trivial⟩ fun g => ?_
    refine Goes.loop0 (α := Nat) 21 (fun j => [(2, .pointer (some ⟨g, 0, none⟩)), (10, .slice (some ⟨b, 0, none⟩) N c), (11, .int .i64 N), (12, .int .i64 j)]) [(b, strs ws z), (g, .cells #[.int .i64 t.k, strV t.tx, .int .i64 t.n, .int .i64 t.a, .int .i64 t.e] 68 (0, 0))] (fun j => j ≤ N ∧ (ws.take j).any (fun x => decide (t.tx = x)) = false) (fun j => N - j) 0 ⟨Nat.zero_le _, by simp⟩ ?_
    rintro j J ⟨hj, ha⟩ back
    cases hlt : decide ((j : Int) < (N : Int)) with
    | false =>
      refine Goes.run [0, 0] [(decide ((j : Int) < (N : Int)), false)] ⟨hlt, trivial⟩ ?_
      refine Goes.ret [] (.bool false) fun w' h hI => ⟨?_, below_end (Holds.one hb) hI.now.1 h (by kernel_rfl)⟩
      obtain rfl : j = N := by have := of_decide_eq_false hlt; omega
      rw [List.take_of_length_le (by omega)] at ha
      simp [Tk.is, ha]
    | true =>
      have hjl : j < N := by have := of_decide_eq_true hlt; omega
      obtain ⟨x, hx⟩ : ∃ x, ws[j]? = some x := ⟨ws[j], by simp⟩
      refine Goes.run [0, 1] [(decide ((j : Int) < (N : Int)), true)] ⟨hlt, trivial⟩ ?_
      refine Goes.val (Instr.indexAt 48 (.slice (some ⟨b, 0, none⟩) N c) (.int .i64 j)) (.pointer (some ⟨b, j, none⟩)) (fun w' _ _ => idxS b N c j hjl w') ?_
      refine Goes.val (Instr.loadAt 9 (.pointer (some ⟨b, j, none⟩))) (strV x) (fun w' h _ => loadS (ws := ws) (z := z) (h.get 0) hx) ?_
      refine Goes.run [1] [] trivial ?_
      cases he : decide (t.tx = x) with
      | true =>
        refine Goes.run [1] [(eqS t.tx x, true)] ⟨(eqS_eq _ _).trans he, trivial⟩ ?_
        refine Goes.ret [] (.bool true) fun w' h hI => ⟨?_, below_end (Holds.one hb) hI.now.1 h (by kernel_rfl)⟩
        have : (ws.any fun x => decide (t.tx = x)) = true := List.any_eq_true.2 ⟨x, List.mem_of_getElem? hx, he⟩
        simp [Tk.is, this, hk1]
      | false =>
        refine Goes.run [0] [(eqS t.tx x, false)] ⟨(eqS_eq _ _).trans he, trivial⟩ ?_
        refine Goes.slot 12 (.int .i64 (j + 1 : Nat)) (u := .int .i64 (IntKind.i64.wrap ((j : Int) + 1))) (congrArg _ (wrap_nat (by omega))) ?_
        refine back (j + 1) _ ⟨hjl, ?_⟩ (by omega) (by kernel_rfl) (by kernel_rfl) (by kernel_rfl)
        rw [List.take_add_one, List.any_append, ha, hx]
        simpa using he
end Go.Proofs.YtommhgmlblecnaaGreatDoor
namespace Go.Proofs.YtommhgmlblecnaaGreatDoor
open Go Go.RowKit

/-- Where a reader stands: the token, and the first fault. -/
structure RS where
  i : Nat
  wh : Int
  p : Int
def tk0 : Tk := ⟨0, [], 0, 0, 0⟩
def tkAt (ts : List Tk) (s : RS) : Tk := ts.getD s.i tk0
def rFail (ts : List Tk) (e a : Int) (s : RS) : RS := ⟨ts.length - 1, bif s.wh == 0 then e else s.wh, bif s.wh == 0 then a else s.p⟩
def rNext (s : RS) : RS := ⟨s.i + 1, s.wh, s.p⟩
def rTake (ts : List Tk) (s : RS) : RS := bif (tkAt ts s).k != 0 then rNext s else s
def rTakes (ts : List Tk) (x : List UInt8) (s : RS) : RS := bif (tkAt ts s).is [x] then rNext s else s
def rWant (ts : List Tk) (x : List UInt8) (s : RS) : RS := bif (tkAt ts s).is [x] then rNext s else rFail ts 74 (tkAt ts s).a s
def rKind (ts : List Tk) (k : Int) (s : RS) : RS := bif (tkAt ts s).k != k then rFail ts 74 (tkAt ts s).a (rTake ts s) else rTake ts s
/-- The words with which an expression may begin. -/
def begs : List (List UInt8) := [[105, 102], [110, 111, 116], [45], [40], [116, 114, 117, 101], [102, 97, 108, 115, 101], [102, 101, 101, 100], [112, 105, 99, 107]]
def Tk.begins (t : Tk) : Bool := bif (t.k == 0) || (t.k == 7) then false else bif t.k == 1 then t.is begs else true
def rBeg (ts : List Tk) (s : RS) : RS := bif (tkAt ts s).begins then s else rFail ts 74 (tkAt ts s).a s
/-- Right tokens: the last one is the end. -/
structure Toks (ts : List Tk) : Prop where
  pos : 0 < ts.length
  last : (ts.getD (ts.length - 1) tk0).k = 0
  len : ts.length ≤ 1000000000
def rdS (b c : Nat) (ts : List Tk) (s : RS) : Obj := rdO (tvO b c ts) s.i s.wh s.p
theorem tk_some {ts : List Tk} {s : RS} (h : s.i < ts.length) : ts[s.i]? = some (tkAt ts s) := by simp [tkAt, h]
theorem next_lt {ts : List Tk} (hE : Toks ts) {s : RS} (h : s.i < ts.length) (hk : (tkAt ts s).k ≠ 0) : s.i + 1 < ts.length := by
  rcases Nat.lt_or_ge (s.i + 1) ts.length with h1 | h1
  · exact h1
  · exfalso
    have e : s.i = ts.length - 1 := by omega
    apply hk
    unfold tkAt
    rw [e]
    exact hE.last
theorem is_kind {t : Tk} {ws : List (List UInt8)} (h : t.is ws = true) : t.k = 1 := by
  unfold Tk.is at h
  rw [Bool.and_eq_true] at h
  simpa using h.1
theorem rFail_lt {ts : List Tk} (hE : Toks ts) (e a : Int) (s : RS) : (rFail ts e a s).i < ts.length := by have := hE.pos; simp only [rFail]; omega
section
variable {q0 b c : Nat} {ts : List Tk} {s : RS} {w : World}
/-- The reader's block and its tokens, in a world. -/
structure At (w : World) (q0 b c : Nat) (ts : List Tk) (s : RS) : Prop where
  rd : w.heap[q0]? = some (rdS b c ts s)
  tk : Tks w b c ts
theorem At.ne (h : At w q0 b c ts s) : q0 ≠ b := by
  rintro rfl
  obtain ⟨cur, z, hb, -⟩ := h.tk.blk
  rw [h.rd] at hb
  cases hb
theorem At.stay (h : At w q0 b c ts s) : Stay [q0] w (fun w => Tks w b c ts) := by
  intro w' hc
  obtain ⟨cur, z, hb, hr⟩ := h.tk.blk
  exact ⟨⟨cur, z, (hc.block b (lt_of_get hb) (by simpa using h.ne.symm)).trans hb, hr⟩, h.tk.len⟩
theorem At.now (h : At w q0 b c ts s) (hi : s.i < ts.length) : Calls Tryz.prog 43 #[.pointer (some ⟨q0, 0, none⟩)] w fun r w' => r = .returned (tkAt ts s).v ∧ Below w.heap.size w w' := now_any h.rd h.tk (tk_some hi)
set_option maxRecDepth 100000 in
seal rn Goes ans atEnd put0 putM opened putA0 oneSt st0 in
theorem begins_any (t : Tk) (w : World) : Calls Tryz.prog 109 #[t.v] w fun r w' => r = .returned (.bool t.begins) ∧ Below w.heap.size w w' := by
  refine Goes.begin Tryz.func109 [] (fun _ => True) (fun j b o h => by cases h) (by simp [Mem.ids]) (fun _ _ => trivial) ?_
  cases h0 : (t.k == 0) with
  | true =>
    refine Goes.run1 [0, 1, 1] [(t.k == 0, true), (t.k == 0, true)] ⟨h0, h0, trivial⟩ fun g => ?_
    exact Goes.ret [] (.bool false) fun w' h hI => ⟨by simp [Tk.begins, h0], below_end (m := []) (fun j b o h => by cases h) hI.now.1 h (by kernel_rfl)⟩
  | false =>
    cases h7 : (t.k == 7) with
    | true =>
      refine Goes.run1 [0, 0, 1] [(t.k == 7, true), (t.k == 0, false)] ⟨h7, h0, trivial⟩ fun g => ?_
      exact Goes.ret [] (.bool false) fun w' h hI => ⟨by simp [Tk.begins, h7], below_end (m := []) (fun j b o h => by cases h) hI.now.1 h (by kernel_rfl)⟩
    | false =>
      cases h1 : (t.k == 1) with
      | true =>
        refine Goes.run2 [0, 0, 0, 1, 0] [(t.k == 1, true), (t.k == 7, false), (t.k == 0, false)] ⟨h1, h7, h0, trivial⟩ fun g h => ?_
        refine Goes.call0 76 #[t.v, .slice (some ⟨h, 0, none⟩) begs.length 8] (.bool (t.is begs)) (fun w' hm _ => is_any t (z := (0, 0)) (hm.get 1) (by decide)) ?_
        refine Goes.run [] [] trivial ?_
        exact Goes.ret [] (.bool (t.is begs)) fun w' h hI => ⟨by simp [Tk.begins, h7, h0, h1], below_end (m := []) (fun j b o h => by cases h) hI.now.1 h (by kernel_rfl)⟩
      | false =>
        refine Goes.run1 [0, 0, 0, 0] [(t.k == 1, false), (t.k == 7, false), (t.k == 0, false)] ⟨h1, h7, h0, trivial⟩ fun g => ?_
        exact Goes.ret [] (.bool true) fun w' h hI => ⟨by simp [Tk.begins, h7, h0, h1], below_end (m := []) (fun j b o h => by cases h) hI.now.1 h (by kernel_rfl)⟩
end
end Go.Proofs.YtommhgmlblecnaaGreatDoor
namespace Go.Proofs.YtommhgmlblecnaaGreatDoor
open Go Go.RowKit

section
variable {q0 b c : Nat} {ts : List Tk} {s : RS} {w : World}
theorem wrap_pred {n : Nat} (h : 0 < n) (h' : n ≤ 1000000000) : IntKind.i64.wrap ((n : Int) - 1) = ((n - 1 : Nat) : Int) := by rw [IntWalk.i64_in _ ⟨by omega, by omega⟩]; omega
set_option maxRecDepth 100000 in
seal rn Goes ans atEnd put0 putM opened putA0 oneSt st0 in
theorem fail_any (h : At w q0 b c ts s) (hE : Toks ts) (e a : Int) : Calls Tryz.prog 71 #[.pointer (some ⟨q0, 0, none⟩), .int .i64 e, .int .i64 a] w fun r w' => r = .returned (.tuple #[]) ∧ Ch [q0] w w' ∧ w'.heap[q0]? = some (rdS b c ts (rFail ts e a s)) := by
  have hw := wrap_pred hE.pos hE.len
  refine Goes.begin Tryz.func71 [(q0, rdS b c ts s)] (fun _ => True) (Holds.one h.rd) (by simp [Mem.ids]) (fun _ _ => trivial) ?_
  cases h0 : (s.wh == 0) with
  | true =>
    refine Goes.run [0, 1, 0, 0] [(s.wh == 0, true)] ⟨h0, trivial⟩ ?_
    refine Goes.slot 24 (.int .i64 (ts.length - 1 : Nat)) (u := .int .i64 (IntKind.i64.wrap ((ts.length : Int) - 1))) (congrArg _ hw) ?_
    refine Goes.run [0] [] trivial ?_
    exact Goes.ret [] (.tuple #[]) fun w' hm hI => ⟨rfl, hI.now.1, (hm.get 0 (o := rdO (tvO b c ts) (ts.length - 1 : Nat) e a)).trans (by simp [rdS, rFail, h0])⟩
  | false =>
    refine Goes.run [0, 0, 0] [(s.wh == 0, false)] ⟨h0, trivial⟩ ?_
    refine Goes.slot 24 (.int .i64 (ts.length - 1 : Nat)) (u := .int .i64 (IntKind.i64.wrap ((ts.length : Int) - 1))) (congrArg _ hw) ?_
    refine Goes.run [0] [] trivial ?_
    exact Goes.ret [] (.tuple #[]) fun w' hm hI => ⟨rfl, hI.now.1, (hm.get 0 (o := rdO (tvO b c ts) (ts.length - 1 : Nat) s.wh s.p)).trans (by simp [rdS, rFail, h0])⟩
theorem At.mk1 {w1 : World} {st : St} {Q : World → Prop} {s' : RS} (hm : w1.heap[q0]? = some (rdS b c ts s')) (hI : Stay st.mem.ids w1 (fun w' => Q w' ∧ Tks w' b c ts)) : At w1 q0 b c ts s' := ⟨hm, hI.now.2⟩
set_option maxRecDepth 100000 in
seal rn Goes ans atEnd put0 putM opened putA0 oneSt st0 in
theorem take_any (h : At w q0 b c ts s) (hE : Toks ts) (hi : s.i < ts.length) : Calls Tryz.prog 70 #[.pointer (some ⟨q0, 0, none⟩)] w fun r w' => r = .returned (tkAt ts s).v ∧ Ch [q0] w w' ∧ w'.heap[q0]? = some (rdS b c ts (rTake ts s)) := by
  obtain ⟨t, ht⟩ : ∃ t, tkAt ts s = t := ⟨_, rfl⟩
  refine Goes.begin Tryz.func70 [(q0, rdS b c ts s)] (fun w => Tks w b c ts) (Holds.one h.rd) (by simp [Mem.ids]) h.stay ?_
  refine Goes.run1 [] [] trivial fun g1 => ?_
  refine Goes.call0 43 #[.pointer (some ⟨q0, 0, none⟩)] (tkAt ts s).v (fun w' hm hI => (At.mk1 (hm.get 0) hI).now hi) ?_
  rw [ht]
  cases h0 : (t.k != 0) with
  | true =>
    have hlt : s.i + 1 < ts.length := next_lt hE hi (by rw [ht]; simpa using h0)
    refine Goes.run1 [2, 2, 1, 0] [(t.k != 0, true)] ⟨h0, trivial⟩ fun g2 => ?_
    refine Goes.slot 13 (.int .i64 (s.i + 1 : Nat)) (u := .int .i64 (IntKind.i64.wrap ((s.i : Int) + 1))) (congrArg _ (wrap_nat (by have := hE.len; omega))) ?_
    refine Goes.run [0, 2, 1] [] trivial ?_
    exact Goes.ret [1] t.v fun w' hm hI => ⟨rfl, hI.now.1, (hm.get 0 (o := rdO (tvO b c ts) (s.i + 1 : Nat) s.wh s.p)).trans (by simp [rdS, rTake, rNext, ht, h0])⟩
  | false =>
    refine Goes.run1 [2, 2, 0, 2, 1] [(t.k != 0, false)] ⟨h0, trivial⟩ fun g2 => ?_
    exact Goes.ret [1] t.v fun w' hm hI => ⟨rfl, hI.now.1, (hm.get 0 (o := rdS b c ts s)).trans (by simp [rTake, ht, h0])⟩
set_option maxRecDepth 100000 in
seal rn Goes ans atEnd put0 putM opened putA0 oneSt st0 in
theorem takes_any (h : At w q0 b c ts s) (hE : Toks ts) (hi : s.i < ts.length) (x : List UInt8) : Calls Tryz.prog 73 #[.pointer (some ⟨q0, 0, none⟩), strV x] w fun r w' => r = .returned (.bool ((tkAt ts s).is [x])) ∧ Ch [q0] w w' ∧ w'.heap[q0]? = some (rdS b c ts (rTakes ts x s)) := by
  obtain ⟨t, ht⟩ : ∃ t, tkAt ts s = t := ⟨_, rfl⟩
  refine Goes.begin Tryz.func73 [(q0, rdS b c ts s)] (fun w => Tks w b c ts) (Holds.one h.rd) (by simp [Mem.ids]) h.stay ?_
  refine Goes.run [] [] trivial ?_
  refine Goes.call0 43 #[.pointer (some ⟨q0, 0, none⟩)] (tkAt ts s).v (fun w' hm hI => (At.mk1 (hm.get 0) hI).now hi) ?_
  rw [ht]
  refine Goes.run1 [] [] trivial fun g1 => ?_
  refine Goes.call0 76 #[t.v, .slice (some ⟨g1, 0, none⟩) [x].length 1] (.bool (t.is [x])) (fun w' hm _ => is_any t (z := (0, 0)) (hm.get 1) (by simp)) ?_
  cases h0 : t.is [x] with
  | true =>
    have hlt : s.i + 1 < ts.length := next_lt hE hi (by rw [ht, is_kind h0]; decide)
    refine Goes.run [0, 0] [(false, false)] ⟨rfl, trivial⟩ ?_
    refine Goes.slot 15 (.int .i64 (s.i + 1 : Nat)) (u := .int .i64 (IntKind.i64.wrap ((s.i : Int) + 1))) (congrArg _ (wrap_nat (by have := hE.len; omega))) ?_
    refine Goes.run [0] [] trivial ?_
    exact Goes.ret [] (.bool true) fun w' hm hI => ⟨rfl, hI.now.1, (hm.get 0 (o := rdO (tvO b c ts) (s.i + 1 : Nat) s.wh s.p)).trans (by simp [rdS, rTakes, rNext, ht, h0])⟩
  | false =>
    refine Goes.run [1] [(true, true)] ⟨rfl, trivial⟩ ?_
    exact Goes.ret [] (.bool false) fun w' hm hI => ⟨rfl, hI.now.1, (hm.get 0 (o := rdS b c ts s)).trans (by simp [rTakes, ht, h0])⟩
set_option maxRecDepth 100000 in
seal rn Goes ans atEnd put0 putM opened putA0 oneSt st0 in
theorem want_any (h : At w q0 b c ts s) (hE : Toks ts) (hi : s.i < ts.length) (x : List UInt8) : Calls Tryz.prog 44 #[.pointer (some ⟨q0, 0, none⟩), strV x] w fun r w' => r = .returned (.tuple #[]) ∧ Ch [q0] w w' ∧ w'.heap[q0]? = some (rdS b c ts (rWant ts x s)) := by
  obtain ⟨t, ht⟩ : ∃ t, tkAt ts s = t := ⟨_, rfl⟩
  refine Goes.begin Tryz.func44 [(q0, rdS b c ts s)] (fun w => Tks w b c ts) (Holds.one h.rd) (by simp [Mem.ids]) h.stay ?_
  refine Goes.run [] [] trivial ?_
  refine Goes.call2 0 q0 73 #[.pointer (some ⟨q0, 0, none⟩), strV x] (.bool ((tkAt ts s).is [x])) (rdS b c ts (rTakes ts x s)) (fun w' hm hI => takes_any (At.mk1 (hm.get 0) hI) hE hi x) ?_
  rw [ht]
  cases h0 : t.is [x] with
  | true =>
    refine Goes.run [0] [(false, false)] ⟨rfl, trivial⟩ ?_
    exact Goes.ret [] (.tuple #[]) fun w' hm hI => ⟨rfl, hI.now.1, (hm.get 0 (o := rdS b c ts (rTakes ts x s))).trans (by simp [rWant, rTakes, ht, h0])⟩
  | false =>
    have hs : rTakes ts x s = s := by simp [rTakes, ht, h0]
    rw [hs]
    refine Goes.run [1] [(true, true)] ⟨rfl, trivial⟩ ?_
    refine Goes.call0 43 #[.pointer (some ⟨q0, 0, none⟩)] (tkAt ts s).v (fun w' hm hI => (At.mk1 (hm.get 0) hI).now hi) ?_
    rw [ht]
    refine Goes.run [] [] trivial ?_
    refine Goes.call2 0 q0 71 #[.pointer (some ⟨q0, 0, none⟩), .int .i64 74, .int .i64 t.a] (.tuple #[]) (rdS b c ts (rFail ts 74 t.a s)) (fun w' hm hI => fail_any (At.mk1 (hm.get 0) hI) hE 74 t.a) ?_
    refine Goes.run [] [] trivial ?_
    exact Goes.ret [] (.tuple #[]) fun w' hm hI => ⟨rfl, hI.now.1, (hm.get 0 (o := rdS b c ts (rFail ts 74 t.a s))).trans (by simp [rWant, ht, h0])⟩
set_option maxRecDepth 100000 in
seal rn Goes ans atEnd put0 putM opened putA0 oneSt st0 in
theorem kind_any (h : At w q0 b c ts s) (hE : Toks ts) (hi : s.i < ts.length) (k : Int) : Calls Tryz.prog 41 #[.pointer (some ⟨q0, 0, none⟩), .int .i64 k] w fun r w' => r = .returned (tkAt ts s).v ∧ Ch [q0] w w' ∧ w'.heap[q0]? = some (rdS b c ts (rKind ts k s)) := by
  obtain ⟨t, ht⟩ : ∃ t, tkAt ts s = t := ⟨_, rfl⟩
  refine Goes.begin Tryz.func41 [(q0, rdS b c ts s)] (fun w => Tks w b c ts) (Holds.one h.rd) (by simp [Mem.ids]) h.stay ?_
  refine Goes.run1 [] [] trivial fun g1 => ?_
  refine Goes.call2 0 q0 70 #[.pointer (some ⟨q0, 0, none⟩)] (tkAt ts s).v (rdS b c ts (rTake ts s)) (fun w' hm hI => take_any (At.mk1 (hm.get 0) hI) hE hi) ?_
  rw [ht]
  cases h0 : (t.k != k) with
  | true =>
    refine Goes.run1 [2, 2, 1, 2] [(t.k != k, true)] ⟨h0, trivial⟩ fun g2 => ?_
    refine Goes.call2 0 q0 71 #[.pointer (some ⟨q0, 0, none⟩), .int .i64 74, .int .i64 t.a] (.tuple #[]) (rdS b c ts (rFail ts 74 t.a (rTake ts s))) (fun w' hm hI => fail_any (At.mk1 (hm.get 0) hI) hE 74 t.a) ?_
    refine Goes.run [2, 1] [] trivial ?_
    exact Goes.ret [1] t.v fun w' hm hI => ⟨rfl, hI.now.1, (hm.get 0 (o := rdS b c ts (rFail ts 74 t.a (rTake ts s)))).trans (by simp [rKind, ht, h0])⟩
  | false =>
    refine Goes.run1 [2, 2, 0, 2, 1] [(t.k != k, false)] ⟨h0, trivial⟩ fun g2 => ?_
    exact Goes.ret [1] t.v fun w' hm hI => ⟨rfl, hI.now.1, (hm.get 0 (o := rdS b c ts (rTake ts s))).trans (by simp [rKind, ht, h0])⟩
set_option maxRecDepth 100000 in
seal rn Goes ans atEnd put0 putM opened putA0 oneSt st0 in
theorem beg_any (h : At w q0 b c ts s) (hE : Toks ts) (hi : s.i < ts.length) : Calls Tryz.prog 72 #[.pointer (some ⟨q0, 0, none⟩)] w fun r w' => r = .returned (tkAt ts s).v ∧ Ch [q0] w w' ∧ w'.heap[q0]? = some (rdS b c ts (rBeg ts s)) := by
  obtain ⟨t, ht⟩ : ∃ t, tkAt ts s = t := ⟨_, rfl⟩
  refine Goes.begin Tryz.func72 [(q0, rdS b c ts s)] (fun w => Tks w b c ts) (Holds.one h.rd) (by simp [Mem.ids]) h.stay ?_
  refine Goes.run1 [] [] trivial fun g1 => ?_
  refine Goes.call0 43 #[.pointer (some ⟨q0, 0, none⟩)] (tkAt ts s).v (fun w' hm hI => (At.mk1 (hm.get 0) hI).now hi) ?_
  rw [ht]
  refine Goes.run1 [2, 2] [] trivial fun g2 => ?_
  refine Goes.call0 109 #[t.v] (.bool t.begins) (fun w' _ _ => begins_any t w') ?_
  cases h0 : t.begins with
  | true =>
    refine Goes.run [0, 2, 1] [(false, false)] ⟨rfl, trivial⟩ ?_
    exact Goes.ret [1] t.v fun w' hm hI => ⟨rfl, hI.now.1, (hm.get 0 (o := rdS b c ts s)).trans (by simp [rBeg, ht, h0])⟩
  | false =>
    refine Goes.run [1, 2] [(true, true)] ⟨rfl, trivial⟩ ?_
    refine Goes.call2 0 q0 71 #[.pointer (some ⟨q0, 0, none⟩), .int .i64 74, .int .i64 t.a] (.tuple #[]) (rdS b c ts (rFail ts 74 t.a s)) (fun w' hm hI => fail_any (At.mk1 (hm.get 0) hI) hE 74 t.a) ?_
    refine Goes.run [2, 1] [] trivial ?_
    exact Goes.ret [1] t.v fun w' hm hI => ⟨rfl, hI.now.1, (hm.get 0 (o := rdS b c ts (rFail ts 74 t.a s))).trans (by simp [rBeg, ht, h0])⟩
end
end Go.Proofs.YtommhgmlblecnaaGreatDoor
namespace Go.Proofs.YtommhgmlblecnaaGreatDoor
open Go Go.RowKit

/-- A function that tells of which sort a byte is. -/
def Srt (f : FuncId) (C : Int → Bool) : Prop := ∀ (z : Int) (w : World), Calls Tryz.prog f #[.int .u8 z] w fun e w' => e = .returned (.bool (C z)) ∧ Below w.heap.size w w'
def cLet (z : Int) : Bool := decide (97 ≤ z) && decide (z ≤ 122)
def cCap (z : Int) : Bool := decide (65 ≤ z) && decide (z ≤ 90)
def cDig (z : Int) : Bool := decide (48 ≤ z) && decide (z ≤ 57)
def cBlank (z : Int) : Bool := decide (z ≤ 32)
def cLine (z : Int) : Bool := z != 10
def cStr (z : Int) : Bool := (z != 34) && (z != 10)
def cIn (z : Int) : Bool := cLet z || cDig z || z == 95
def cBad (z : Int) : Bool := cLet z || cCap z || z == 95 || z == 46
set_option maxRecDepth 100000 in
seal rn Goes ans atEnd put0 putM opened putA0 oneSt st0 in
theorem cLet_any : Srt 102 cLet := by
  intro z w
  refine Goes.begin Tryz.func102 [] (fun _ => True) (fun j b o h => by cases h) (by simp [Mem.ids]) (fun _ _ => trivial) ?_
  cases h : decide ((97 : Int) ≤ z) with
  | true =>
    refine Goes.run [1] [(decide ((97 : Int) ≤ z), true)] ⟨h, trivial⟩ ?_
    exact Goes.ret [] (.bool (decide (z ≤ 122))) fun w' hm hI => ⟨by simp only [cLet, h, Bool.true_and], below_end (m := []) (fun j b o h => by cases h) hI.now.1 hm (by kernel_rfl)⟩
  | false =>
    refine Goes.run [0] [(decide ((97 : Int) ≤ z), false)] ⟨h, trivial⟩ ?_
    exact Goes.ret [] (.bool false) fun w' hm hI => ⟨by simp only [cLet, h, Bool.false_and], below_end (m := []) (fun j b o h => by cases h) hI.now.1 hm (by kernel_rfl)⟩
set_option maxRecDepth 100000 in
seal rn Goes ans atEnd put0 putM opened putA0 oneSt st0 in
theorem cCap_any : Srt 103 cCap := by
  intro z w
  refine Goes.begin Tryz.func103 [] (fun _ => True) (fun j b o h => by cases h) (by simp [Mem.ids]) (fun _ _ => trivial) ?_
  cases h : decide ((65 : Int) ≤ z) with
  | true =>
    refine Goes.run [1] [(decide ((65 : Int) ≤ z), true)] ⟨h, trivial⟩ ?_
    exact Goes.ret [] (.bool (decide (z ≤ 90))) fun w' hm hI => ⟨by simp only [cCap, h, Bool.true_and], below_end (m := []) (fun j b o h => by cases h) hI.now.1 hm (by kernel_rfl)⟩
  | false =>
    refine Goes.run [0] [(decide ((65 : Int) ≤ z), false)] ⟨h, trivial⟩ ?_
    exact Goes.ret [] (.bool false) fun w' hm hI => ⟨by simp only [cCap, h, Bool.false_and], below_end (m := []) (fun j b o h => by cases h) hI.now.1 hm (by kernel_rfl)⟩
set_option maxRecDepth 100000 in
seal rn Goes ans atEnd put0 putM opened putA0 oneSt st0 in
theorem cDig_any : Srt 104 cDig := by
  intro z w
  refine Goes.begin Tryz.func104 [] (fun _ => True) (fun j b o h => by cases h) (by simp [Mem.ids]) (fun _ _ => trivial) ?_
  cases h : decide ((48 : Int) ≤ z) with
  | true =>
    refine Goes.run [1] [(decide ((48 : Int) ≤ z), true)] ⟨h, trivial⟩ ?_
    exact Goes.ret [] (.bool (decide (z ≤ 57))) fun w' hm hI => ⟨by simp only [cDig, h, Bool.true_and], below_end (m := []) (fun j b o h => by cases h) hI.now.1 hm (by kernel_rfl)⟩
  | false =>
    refine Goes.run [0] [(decide ((48 : Int) ≤ z), false)] ⟨h, trivial⟩ ?_
    exact Goes.ret [] (.bool false) fun w' hm hI => ⟨by simp only [cDig, h, Bool.false_and], below_end (m := []) (fun j b o h => by cases h) hI.now.1 hm (by kernel_rfl)⟩
set_option maxRecDepth 100000 in
seal rn Goes ans atEnd put0 putM opened putA0 oneSt st0 in
theorem cBlank_any : Srt 105 cBlank := by
  intro z w
  refine Goes.begin Tryz.func105 [] (fun _ => True) (fun j b o h => by cases h) (by simp [Mem.ids]) (fun _ _ => trivial) ?_
  refine Goes.run [] [] trivial ?_
  exact Goes.ret [] (.bool (decide (z ≤ 32))) fun w' hm hI => ⟨rfl, below_end (m := []) (fun j b o h => by cases h) hI.now.1 hm (by kernel_rfl)⟩
set_option maxRecDepth 100000 in
seal rn Goes ans atEnd put0 putM opened putA0 oneSt st0 in
theorem cLine_any : Srt 107 cLine := by
  intro z w
  refine Goes.begin Tryz.func107 [] (fun _ => True) (fun j b o h => by cases h) (by simp [Mem.ids]) (fun _ _ => trivial) ?_
  refine Goes.run [] [] trivial ?_
  exact Goes.ret [] (.bool (z != 10)) fun w' hm hI => ⟨rfl, below_end (m := []) (fun j b o h => by cases h) hI.now.1 hm (by kernel_rfl)⟩
set_option maxRecDepth 100000 in
seal rn Goes ans atEnd put0 putM opened putA0 oneSt st0 in
theorem cStr_any : Srt 149 cStr := by
  intro z w
  refine Goes.begin Tryz.func149 [] (fun _ => True) (fun j b o h => by cases h) (by simp [Mem.ids]) (fun _ _ => trivial) ?_
  cases h : (z != 34) with
  | true =>
    refine Goes.run [1] [(z != 34, true)] ⟨h, trivial⟩ ?_
    exact Goes.ret [] (.bool (z != 10)) fun w' hm hI => ⟨by simp only [cStr, h, Bool.true_and], below_end (m := []) (fun j b o h => by cases h) hI.now.1 hm (by kernel_rfl)⟩
  | false =>
    refine Goes.run [0] [(z != 34, false)] ⟨h, trivial⟩ ?_
    exact Goes.ret [] (.bool false) fun w' hm hI => ⟨by simp only [cStr, h, Bool.false_and], below_end (m := []) (fun j b o h => by cases h) hI.now.1 hm (by kernel_rfl)⟩
set_option maxRecDepth 100000 in
seal rn Goes ans atEnd put0 putM opened putA0 oneSt st0 in
theorem cIn_any : Srt 140 cIn := by
  intro z w
  refine Goes.begin Tryz.func140 [] (fun _ => True) (fun j b o h => by cases h) (by simp [Mem.ids]) (fun _ _ => trivial) ?_
  refine Goes.run [] [] trivial ?_
  refine Goes.call0 102 #[.int .u8 z] (.bool (cLet z)) (fun w' _ _ => cLet_any z w') ?_
  cases h : cLet z with
  | true =>
    refine Goes.run [1, 1] [(true, true), (true, true)] ⟨rfl, rfl, trivial⟩ ?_
    exact Goes.ret [] (.bool true) fun w' hm hI => ⟨by simp only [cIn, h, Bool.true_or], below_end (m := []) (fun j b o h => by cases h) hI.now.1 hm (by kernel_rfl)⟩
  | false =>
    refine Goes.run [0] [(false, false)] ⟨rfl, trivial⟩ ?_
    refine Goes.call0 104 #[.int .u8 z] (.bool (cDig z)) (fun w' _ _ => cDig_any z w') ?_
    cases h2 : cDig z with
    | true =>
      refine Goes.run [1] [(true, true)] ⟨rfl, trivial⟩ ?_
      exact Goes.ret [] (.bool true) fun w' hm hI => ⟨by simp only [cIn, h, h2, Bool.false_or, Bool.true_or], below_end (m := []) (fun j b o h => by cases h) hI.now.1 hm (by kernel_rfl)⟩
    | false =>
      refine Goes.run [0] [(false, false)] ⟨rfl, trivial⟩ ?_
      exact Goes.ret [] (.bool (z == 95)) fun w' hm hI => ⟨by simp only [cIn, h, h2, Bool.false_or], below_end (m := []) (fun j b o h => by cases h) hI.now.1 hm (by kernel_rfl)⟩
set_option maxRecDepth 100000 in
seal rn Goes ans atEnd put0 putM opened putA0 oneSt st0 in
theorem cBad_any : Srt 147 cBad := by
  intro z w
  refine Goes.begin Tryz.func147 [] (fun _ => True) (fun j b o h => by cases h) (by simp [Mem.ids]) (fun _ _ => trivial) ?_
  refine Goes.run [] [] trivial ?_
  refine Goes.call0 102 #[.int .u8 z] (.bool (cLet z)) (fun w' _ _ => cLet_any z w') ?_
  cases h : cLet z with
  | true =>
    refine Goes.run [1, 1, 1] [(true, true), (true, true), (true, true)] ⟨rfl, rfl, rfl, trivial⟩ ?_
    exact Goes.ret [] (.bool true) fun w' hm hI => ⟨by simp only [cBad, h, Bool.true_or], below_end (m := []) (fun j b o h => by cases h) hI.now.1 hm (by kernel_rfl)⟩
  | false =>
    refine Goes.run [0] [(false, false)] ⟨rfl, trivial⟩ ?_
    refine Goes.call0 103 #[.int .u8 z] (.bool (cCap z)) (fun w' _ _ => cCap_any z w') ?_
    cases h2 : cCap z with
    | true =>
      refine Goes.run [1, 1] [(true, true), (true, true)] ⟨rfl, rfl, trivial⟩ ?_
      exact Goes.ret [] (.bool true) fun w' hm hI => ⟨by simp only [cBad, h, h2, Bool.false_or, Bool.true_or], below_end (m := []) (fun j b o h => by cases h) hI.now.1 hm (by kernel_rfl)⟩
    | false =>
      cases h3 : (z == 95) with
      | true =>
        refine Goes.run [0, 1] [(z == 95, true), (false, false)] ⟨h3, rfl, trivial⟩ ?_
        exact Goes.ret [] (.bool true) fun w' hm hI => ⟨by simp only [cBad, h, h2, h3, Bool.false_or, Bool.true_or], below_end (m := []) (fun j b o h => by cases h) hI.now.1 hm (by kernel_rfl)⟩
      | false =>
        refine Goes.run [0, 0] [(z == 95, false), (false, false)] ⟨h3, rfl, trivial⟩ ?_
        exact Goes.ret [] (.bool (z == 46)) fun w' hm hI => ⟨by simp only [cBad, h, h2, h3, Bool.false_or], below_end (m := []) (fun j b o h => by cases h) hI.now.1 hm (by kernel_rfl)⟩
theorem idxB {l : List UInt8} {i : Nat} {c : UInt8} (h : l[i]? = some c) (w : World) : (Instr.index 9 (strV l) (.int .i64 i)).run Tryz.prog w = .ok (.int .u8 (c.toNat : Nat)) w := by
  have hlt := (List.getElem?_eq_some_iff.1 h).1
  have h1 : (i : Int) < l.length := by omega
  have h2 : (⟨l.toArray⟩ : ByteArray).size = l.length := by simp [ByteArray.size]
  have h3 : (⟨l.toArray⟩ : ByteArray)[i]'(by rw [h2]; exact hlt) = c := by
    have := (List.getElem?_eq_some_iff.1 h).2
    simp [ByteArray.getElem_eq_getElem_data, this]
  unfold strV
  go_simp
/-- Where bytes of a sort end. -/
def bhd (C : Int → Bool) (l : List UInt8) (i : Nat) : Nat := i + ((l.drop i).takeWhile fun c => C (c.toNat : Nat)).length
theorem bhd_in {C : Int → Bool} {l : List UInt8} {i : Nat} {c : UInt8} (h : l[i]? = some c) (hc : C (c.toNat : Nat) = true) : bhd C l i = bhd C l (i + 1) := by
  have hlt := (List.getElem?_eq_some_iff.1 h).1
  have e : l.drop i = c :: l.drop (i + 1) := by
    rw [List.drop_eq_getElem_cons hlt]
    congr 1
    exact (List.getElem?_eq_some_iff.1 h).2
  unfold bhd
  rw [e, List.takeWhile_cons_of_pos (p := fun c : UInt8 => C (c.toNat : Nat)) hc, List.length_cons]
  omega
theorem bhd_out {C : Int → Bool} {l : List UInt8} {i : Nat} {c : UInt8} (h : l[i]? = some c) (hc : C (c.toNat : Nat) = false) : bhd C l i = i := by
  have hlt := (List.getElem?_eq_some_iff.1 h).1
  have e : l.drop i = c :: l.drop (i + 1) := by
    rw [List.drop_eq_getElem_cons hlt]
    congr 1
    exact (List.getElem?_eq_some_iff.1 h).2
  unfold bhd
  rw [e, List.takeWhile_cons_of_neg (p := fun c : UInt8 => C (c.toNat : Nat)) (by simp only [hc]; simp)]
  rfl
theorem bhd_end {C : Int → Bool} {l : List UInt8} {i : Nat} (h : l.length ≤ i) : bhd C l i = i := by
  unfold bhd
  rw [List.drop_of_length_le h]
  rfl
theorem bhd_le (C : Int → Bool) (l : List UInt8) {i : Nat} (h : i ≤ l.length) : bhd C l i ≤ l.length := by
  unfold bhd
  have h1 := (List.takeWhile_sublist (l := l.drop i) fun c => C (c.toNat : Nat)).length_le
  rw [List.length_drop] at h1
  omega
theorem bhd_ge (C : Int → Bool) (l : List UInt8) (i : Nat) : i ≤ bhd C l i := Nat.le_add_right _ _
set_option maxRecDepth 100000 in
seal rn Goes ans atEnd put0 putM opened putA0 oneSt st0 in
theorem behind_any {f : FuncId} {C : Int → Bool} (hs : Srt f C) (hf : okf Tryz.prog f = true) (l : List UInt8) (i : Nat) (w : World) (hl : l.length ≤ 1000000000) (hi : i ≤ 1000000000) : Calls Tryz.prog 106 #[strV l, .int .i64 i, .func (.func f) #[] #[]] w fun e w' => e = .returned (.int .i64 (bhd C l i)) ∧ Below w.heap.size w w' := by
  refine Goes.begin Tryz.func106 [] (fun _ => True) (fun j b o h => by cases h) (by simp [Mem.ids]) (fun _ _ => trivial) ?_
  refine Goes.run [] [] trivial ?_
  refine Goes.loop0 (α := Nat) 21 (fun j => [(0, strV l), (1, .int .i64 j), (2, .func (.func f) #[] #[])]) [] (fun j => bhd C l j = bhd C l i ∧ j ≤ 1000000000 ) (fun j => l.length - j) i ⟨rfl, hi⟩ ?_
  rintro j J ⟨hj, hj2⟩ back
  cases hlt : decide ((j : Int) < (l.length : Int)) with
  | false =>
    refine Goes.run [0, 0, 0] [(false, false), (decide ((j : Int) < (l.length : Int)), false)] ⟨rfl, hlt, trivial⟩ ?_
    exact Goes.ret [] (.int .i64 j) fun w' hm hI => ⟨by rw [← hj, bhd_end (by have := of_decide_eq_false hlt; omega)], below_end (m := []) (fun j b o h => by cases h) hI.now.1 hm (by kernel_rfl)⟩
  | true =>
    have hjl : j < l.length := by have := of_decide_eq_true hlt; omega
    obtain ⟨x, hx⟩ : ∃ x, l[j]? = some x := ⟨l[j], by simp⟩
    refine Goes.run [0, 1] [(decide ((j : Int) < (l.length : Int)), true)] ⟨hlt, trivial⟩ ?_
    refine Goes.val (Instr.index 9 (strV l) (.int .i64 j)) (.int .u8 (x.toNat : Nat)) (fun w' _ _ => idxB hx w') ?_
    refine Goes.call0 f #[.int .u8 (x.toNat : Nat)] (.bool (C (x.toNat : Nat))) (fun w' _ _ => hs _ w') (hf := hf) ?_
    cases hc : C (x.toNat : Nat) with
    | false =>
      refine Goes.run [0] [(false, false)] ⟨rfl, trivial⟩ ?_
      exact Goes.ret [] (.int .i64 j) fun w' hm hI => ⟨by rw [← hj, bhd_out hx hc], below_end (m := []) (fun j b o h => by cases h) hI.now.1 hm (by kernel_rfl)⟩
    | true =>
      refine Goes.run [1] [(true, true)] ⟨rfl, trivial⟩ ?_
      refine Goes.slot 1 (.int .i64 (j + 1 : Nat)) (u := .int .i64 (IntKind.i64.wrap ((j : Int) + 1))) (congrArg _ (wrap_nat (by omega))) ?_
      exact back (j + 1) _ ⟨(bhd_in hx hc).symm.trans hj, by omega⟩ (by omega) (by kernel_rfl) (by kernel_rfl) (by kernel_rfl)
/-- Where blanks and remarks end. -/
def skipF (l : List UInt8) : Nat → Nat → Nat
  | 0, i => i
  | f + 1, i =>
    match l[i]? with
    | none => i
    | some c => bif cBlank (c.toNat : Nat) then skipF l f (i + 1) else bif (c.toNat : Int) == 35 then skipF l f (bhd cLine l i) else i
def skip (l : List UInt8) (i : Nat) : Nat := skipF l (l.length + 1) i
theorem bhd_adv {C : Int → Bool} {l : List UInt8} {i : Nat} {c : UInt8} (h : l[i]? = some c) (hc : C (c.toNat : Nat) = true) : i < bhd C l i := by
  rw [bhd_in h hc]
  exact bhd_ge C l (i + 1)
set_option maxRecDepth 100000 in
seal rn Goes ans atEnd put0 putM opened putA0 oneSt st0 in
theorem skipped_any (l : List UInt8) (i : Nat) (w : World) (hl : l.length ≤ 1000000000) (hi : i ≤ l.length) : Calls Tryz.prog 68 #[strV l, .int .i64 i] w fun e w' => e = .returned (.int .i64 (skip l i)) ∧ Below w.heap.size w w' := by
  refine Goes.begin Tryz.func68 [] (fun _ => True) (fun j b o h => by cases h) (by simp [Mem.ids]) (fun _ _ => trivial) ?_
  refine Goes.run [] [] trivial ?_
  refine Goes.loop0 (α := Nat × Nat) 26 (fun q => [(0, strV l), (1, .int .i64 q.2)]) [] (fun q => skipF l q.1 q.2 = skip l i ∧ q.2 ≤ l.length ∧ l.length + 1 ≤ q.1 + q.2) (fun q => l.length - q.2) (l.length + 1, i) ⟨rfl, hi, Nat.le_add_right _ _⟩ ?_
  rintro ⟨k, j⟩ J ⟨hj, hj2, hk⟩ back
  simp only at hj hj2 hk back ⊢
  obtain ⟨k', rfl⟩ : ∃ k', k = k' + 1 := ⟨k - 1, by omega⟩
  unfold skipF at hj
  cases hlt : decide ((j : Int) < (l.length : Int)) with
  | false =>
    have hge : l.length ≤ j := by have := of_decide_eq_false hlt; omega
    rw [List.getElem?_eq_none hge] at hj
    refine Goes.run [0, 0] [(decide ((j : Int) < (l.length : Int)), false)] ⟨hlt, trivial⟩ ?_
    exact Goes.ret [] (.int .i64 j) fun w' hm hI => ⟨by rw [← hj], below_end (m := []) (fun j b o h => by cases h) hI.now.1 hm (by kernel_rfl)⟩
  | true =>
    have hjl : j < l.length := by have := of_decide_eq_true hlt; omega
    obtain ⟨x, hx⟩ : ∃ x, l[j]? = some x := ⟨l[j], by simp⟩
    rw [hx] at hj
    simp only at hj
    refine Goes.run [0, 1] [(decide ((j : Int) < (l.length : Int)), true)] ⟨hlt, trivial⟩ ?_
    refine Goes.val (Instr.index 9 (strV l) (.int .i64 j)) (.int .u8 (x.toNat : Nat)) (fun w' _ _ => idxB hx w') ?_
    refine Goes.call0 105 #[.int .u8 (x.toNat : Nat)] (.bool (cBlank (x.toNat : Nat))) (fun w' _ _ => cBlank_any _ w') ?_
    cases hc : cBlank (x.toNat : Nat) with
    | true =>
      rw [hc] at hj
      refine Goes.run [1] [(true, true)] ⟨rfl, trivial⟩ ?_
      refine Goes.slot 1 (.int .i64 (j + 1 : Nat)) (u := .int .i64 (IntKind.i64.wrap ((j : Int) + 1))) (congrArg _ (wrap_nat (by omega))) ?_
      have hp : skipF l k' (j + 1) = skip l i ∧ j + 1 ≤ l.length ∧ l.length + 1 ≤ k' + (j + 1) := ⟨hj, hjl, by omega⟩
      exact back (k', j + 1) _ hp (Nat.sub_lt_sub_left hjl (Nat.lt_succ_self j)) (by kernel_rfl) (by kernel_rfl) (by kernel_rfl)
    | false =>
      rw [hc] at hj
      refine Goes.run [0] [(false, false)] ⟨rfl, trivial⟩ ?_
      refine Goes.val (Instr.index 9 (strV l) (.int .i64 j)) (.int .u8 (x.toNat : Nat)) (fun w' _ _ => idxB hx w') ?_
      cases h35 : ((x.toNat : Int) == 35) with
      | true =>
        rw [h35] at hj
        refine Goes.run [1] [((x.toNat : Int) == 35, true)] ⟨h35, trivial⟩ ?_
        refine Goes.call0 106 #[strV l, .int .i64 j, .func (.func 107) #[] #[]] (.int .i64 (bhd cLine l j)) (fun w' _ _ => behind_any cLine_any (by kernel_rfl) l j w' hl (by omega)) ?_
        refine Goes.run [] [] trivial ?_
        have h10 : cLine (x.toNat : Nat) = true := by have : (x.toNat : Int) = 35 := by simpa using h35
                                                      unfold cLine; rw [this]; rfl
        have had := bhd_adv (l := l) (i := j) hx h10
        have hp : skipF l k' (bhd cLine l j) = skip l i ∧ bhd cLine l j ≤ l.length ∧ l.length + 1 ≤ k' + bhd cLine l j := ⟨hj, bhd_le _ _ hj2, by omega⟩
        exact back (k', bhd cLine l j) _ hp (Nat.sub_lt_sub_left hjl had) (by kernel_rfl) (by kernel_rfl) (by kernel_rfl)
      | false =>
        rw [h35] at hj
        refine Goes.run [0] [((x.toNat : Int) == 35, false)] ⟨h35, trivial⟩ ?_
        exact Goes.ret [] (.int .i64 j) fun w' hm hI => ⟨by rw [← hj]; rfl, below_end (m := []) (fun j b o h => by cases h) hI.now.1 hm (by kernel_rfl)⟩
end Go.Proofs.YtommhgmlblecnaaGreatDoor
namespace Go.Proofs.YtommhgmlblecnaaGreatDoor
open Go Go.RowKit

/-- A tree's node and depth, as a value. -/
structure T6 where
  k : Int
  x : List UInt8
  n : Int
  a : Option Addr
  N : Nat
  c : Nat
  p : Int
  d : Int
def T6.v (u : T6) : Value := .agg #[.int .i64 u.k, strV u.x, .int .i64 u.n, .slice u.a u.N u.c, .int .i64 u.p, .int .i64 u.d]
def T6.cs (u : T6) : List Value := [.int .i64 u.k, strV u.x, .int .i64 u.n, .slice u.a u.N u.c, .int .i64 u.p, .int .i64 u.d]
def T6.ns (u : T6) : List Value := [.int .i64 u.k, strV u.x, .int .i64 u.n, .slice u.a u.N u.c, .int .i64 u.p]
def T6.nd (u : T6) : Value := nv u.k u.x u.n (.slice u.a u.N u.c) u.p
/-- A row of trees that is handed in. -/
def Kv (w : World) (kv : Value) (us : List T6) : Prop := (kv = .slice none 0 0 ∧ us = []) ∨ ∃ bk ck cur z, kv = .slice (some ⟨bk, 0, none⟩) us.length ck ∧ w.heap[bk]? = some (.cells cur 71 z) ∧ ∀ (i : Nat) (u : T6), us[i]? = some u → ∀ j, j < 6 → cur[i * 6 + j]? = u.cs[j]?
/-- A tree and its depth. -/
structure TD where
  t : Tr
  d : Int
/-- Trees of nodes. -/
def Tv (L : List Nat) (w : World) (us : List T6) (ts : List TD) : Prop := us.map (·.d) = ts.map (·.d) ∧ ∀ (i : Nat) (u : T6) (t : TD), us[i]? = some u → ts[i]? = some t → Stay L w (fun w => Nd w u.nd t.t)
theorem Kv.len {w : World} {kv : Value} {us : List T6} (h : Kv w kv us) : ∃ a c, kv = .slice a us.length c := by
  rcases h with ⟨rfl, rfl⟩ | ⟨bk, ck, cur, z, rfl, -⟩
  · exact ⟨none, 0, rfl⟩
  · exact ⟨_, _, rfl⟩
theorem idx150 (b n cap k : Nat) (h : k < n) (w : World) : (Instr.indexAt 150 (.slice (some ⟨b, 0, none⟩) n cap) (.int .i64 k)).run Tryz.prog w = .ok (.pointer (some ⟨b, k * 6, none⟩)) w := by go_simp
theorem load71 {w : World} {b o : Nat} {u : T6} {cur : Array Value} {z : Nat × Nat} (hb : w.heap[b]? = some (.cells cur 71 z)) (hr : ∀ j, j < 6 → cur[o + j]? = u.cs[j]?) : (Instr.loadAt 71 (.pointer (some ⟨b, o, none⟩))).run Tryz.prog w = .ok u.v w := by
  have hc := run_loadCells_list (P := Tryz.prog) w ⟨b, o, none⟩ u.cs (fun j x hx => by
    rw [add_lit, World.cell?, hb]
    have hj : j < 6 := (List.getElem?_eq_some_iff.1 hx).1
    simpa using (hr j hj).trans hx)
  unfold T6.v
  simp only [Instr.loadAt, Instr.sureAddr, Sem.run_bind, Sem.run_pure, Result.andThen, loadVar, Tryz.isAgg71, run_size (show (Tryz.prog.info? 71).map (·.size) = some 6 by kernel_rfl), show 6 = u.cs.length from rfl, hc, if_true]
  rfl
/-- How deep: the deepest of them. -/
def dmax (us : List T6) : Int := us.foldl (fun d u => max d u.d) 0
theorem ns_at : ∀ (us : List T6) (i : Nat) (u : T6), us[i]? = some u → ∀ j, j < 5 → (us.flatMap T6.ns)[i * 5 + j]? = u.ns[j]?
  | [], i, u, h, _, _ => by simp at h
  | y :: r, 0, u, h, j, hj => by
    simp at h
    subst h
    rw [List.flatMap_cons, Nat.zero_mul, Nat.zero_add, List.getElem?_append_left (by simp [T6.ns]; omega)]
  | y :: r, i + 1, u, h, j, hj => by
    rw [List.flatMap_cons, List.getElem?_append_right (by simp [T6.ns]; omega)]
    have : (i + 1) * 5 + j - (y.ns).length = i * 5 + j := by simp [T6.ns]; omega
    rw [this]
    exact ns_at r i u (by simpa using h) j hj
/-- Nodes in a row of one's own are a tree's kids. -/
theorem nd_row {w : World} {base : Nat} {a : Option Addr} {c : Nat} {us : List T6} {ts : List Tr} (ho : w.ownsRow base 25 5 (.slice a us.length c) us.length (us.flatMap T6.ns)) (hl : us.length = ts.length) (hn : ∀ (i : Nat) (u : T6) (t : Tr), us[i]? = some u → ts[i]? = some t → Nd w u.nd t) (k : Int) (x : List UInt8) (n p : Int) : Nd w (nv k x n (.slice a us.length c) p) (.mk k x n ts p) := by
  rw [hl] at ho ⊢
  have hus : ∀ i, i < ts.length → us[i]? = some (us.getD i ⟨0, [], 0, none, 0, 0, 0, 0⟩) := fun i hi => by simp [hl, hi]
  refine .mk k x n ts p a c (fun i => (us.getD i ⟨0, [], 0, none, 0, 0, 0, 0⟩).nd) ?_ (fun i hi => ?_) (fun i t ht => hn i _ t (hus i (List.getElem?_eq_some_iff.1 ht).1) ht)
  · rcases ho.2 with ⟨e, h0⟩ | ⟨g, cap, cur, e, -, -, h1, h2, -⟩
    · simp only [Value.slice.injEq] at e; omega
    · simp only [Value.slice.injEq] at e; unfold maxLen at h2; omega
  · rcases ho.2 with ⟨e, h0⟩ | ⟨g, cap, cur, e, -, hg, h1, h2, h3, h4⟩
    · omega
    · cases e
      refine ⟨g, 0, rfl, ?_⟩
      have hc : ∀ j, j < 5 → w.cell? ⟨g, 0 + i * 5 + j, none⟩ = (us.getD i ⟨0, [], 0, none, 0, 0, 0, 0⟩).ns[j]? := by
        intro j hj
        rw [World.cell?, hg, ← ns_at us i _ (hus i hi) j hj, ← h4]
        simp only [Option.isSome_none, Bool.false_eq_true, if_false, Nat.zero_add]
        rw [List.getElem?_take_of_lt (by omega)]
        simp
      exact ⟨_, _, _, _, _, rfl, hc 0 (by decide), hc 1 (by decide), hc 2 (by decide), hc 3 (by decide), hc 4 (by decide)⟩
def madeS (ts : List Tk) (d p : Int) (s : RS) : RS := bif decide (100 < d) then rFail ts 75 p s else s
theorem own_ch {w w' : World} {base e size : Nat} {v : Value} {n : Nat} {xs : List Value} {L : List Nat} (h : w.ownsRow base e size v n xs) (hc : Ch L w w') (hL : ∀ x ∈ L, x < base) : w'.ownsRow base e size v n xs := by
  refine ⟨h.1, ?_⟩
  rcases h.2 with h0 | ⟨g, cap, cur, e1, e2, e3, e4⟩
  · exact .inl h0
  · exact .inr ⟨g, cap, cur, e1, e2, (hc.block g (lt_of_get e3) (fun hx => by have := hL g hx; omega)).trans e3, e4⟩
theorem dmax_snoc (us : List T6) (u : T6) : dmax (us ++ [u]) = max (dmax us) u.d := by simp [dmax, List.foldl_append]
def dmaxT (ts : List TD) : Int := (ts.map (·.d)).foldl max 0
theorem dmax_T {us : List T6} {ts : List TD} (h : us.map (·.d) = ts.map (·.d)) : dmax us = dmaxT ts := by
  unfold dmaxT
  rw [← h, List.foldl_map]
  rfl
def dep1 (ts : List TD) : Int := IntKind.i64.wrap (dmaxT ts + 1)
/-- A node with its kids, which may be too deep. -/
def mkT (ts : List Tk) (k : Int) (x : List UInt8) (n p : Int) (ks : List TD) (s : RS) : TD × RS := (⟨.mk k x n (ks.map (·.t)) p, dep1 ks⟩, madeS ts (dep1 ks) p s)
/-- What a call that reads a tree leaves. -/
def Res (L : List Nat) (w : World) (q0 b c : Nat) (ts : List Tk) (r : TD × RS) (e : Ending) (w' : World) : Prop := ∃ u : T6, e = .returned u.v ∧ u.d = r.1.d ∧ Ch [q0] w w' ∧ w'.heap[q0]? = some (rdS b c ts r.2) ∧ Stay L w' (fun w => Nd w u.nd r.1.t)
section
variable {q0 b c : Nat} {ts : List Tk} {s : RS} {w : World}
set_option maxRecDepth 100000 in
seal rn Goes ans atEnd put0 putM opened putA0 oneSt st0 in
theorem made_any (h : At w q0 b c ts s) (hE : Toks ts) {L : List Nat} (hq : q0 ∈ L) (hL : ∀ x ∈ L, x < w.heap.size) (k : Int) (x : List UInt8) (n p : Int) {kv : Value} {us : List T6} {kids : List TD} (hk : Kv w kv us) (hv : Tv L w us kids) (hn : us.length ≤ 1000) :
    Calls Tryz.prog 110 #[.pointer (some ⟨q0, 0, none⟩), nv k x n (.slice none 0 0) p, kv] w (Res L w q0 b c ts (mkT ts k x n p kids s)) := by
  have hlen : us.length = kids.length := by have := congrArg List.length hv.1; simpa using this
  obtain ⟨ka, kc, rfl⟩ := hk.len
  obtain ⟨M, hM⟩ : ∃ M, us.length = M := ⟨_, rfl⟩
  rw [hM]
  refine Goes.begin Tryz.func110 [(q0, rdS b c ts s)] (fun w => Tks w b c ts) (Holds.one h.rd) (by simp [Mem.ids]) h.stay ?_
  refine Goes.run2 [] [] trivial fun g1 g2 => ?_
  refine Goes.loop (α := Nat × Option Addr × Nat) 39 (fun q => [(0, .pointer (some ⟨q0, 0, none⟩)), (4, .pointer (some ⟨g1, 0, none⟩)), (6, .pointer (some ⟨g2, 0, none⟩)), (7, .int .i64 (dmax (us.take q.1))), (10, .slice ka M kc), (11, .int .i64 M), (12, .int .i64 q.1)])
    (fun q => [(q0, rdS b c ts s), (g1, .cells #[.int .i64 k, strV x, .int .i64 n, .slice q.2.1 q.1 q.2.2, .int .i64 p] 25 (0, 0)), (g2, .cells #[.int .i64 0, strV [], .int .i64 0, .slice none 0 0, .int .i64 0, .int .i64 0] 71 (0, 0))])
    (fun q w' => (Ch [q0] w w' ∧ Tks w' b c ts) ∧ w'.ownsRow w.heap.size 25 5 (.slice q.2.1 q.1 q.2.2) q.1 ((us.take q.1).flatMap T6.ns)) (fun q => q.1 ≤ M) (fun q => M - q.1) (0, none, 0) (Nat.zero_le _) (fun w' h => ⟨h, by simp [World.ownsRow]⟩) ?_
  rintro ⟨j, a, e⟩ J hj back
  simp only at hj back ⊢
  cases hlt : decide ((j : Int) < (M : Int)) with
  | false =>
    obtain rfl : j = M := by have := of_decide_eq_false hlt; omega
    refine Goes.run [0, 0] [(decide ((j : Int) < (j : Int)), false)] ⟨hlt, trivial⟩ ?_
    have hT : us.take j = us := List.take_of_length_le (by omega)
    obtain ⟨D, hD⟩ : ∃ D, dep1 kids = D := ⟨_, rfl⟩
    have hW : IntKind.i64.wrap (dmax (us.take j) + 1) = D := by rw [hT, dmax_T hv.1]; exact hD
    have fin : ∀ w', ((Ch [q0] w w' ∧ Tks w' b c ts) ∧ w'.ownsRow w.heap.size 25 5 (.slice a j e) j ((us.take j).flatMap T6.ns)) → Stay L w' (fun w => Nd w (nv k x n (.slice a j e) p) (.mk k x n (kids.map (·.t)) p)) := by
      rintro w' ⟨⟨hc, -⟩, ho⟩ w'' hc2
      have ho2 := own_ch ho hc2 hL
      rw [hT] at ho2
      have h3 : Ch L w w'' := (hc.mono (fun x hx => by rw [List.mem_singleton] at hx; rw [hx]; exact hq)).trans hc2 (fun x hx => .inl hx)
      have := nd_row (us := us) (ts := kids.map (·.t)) (by rw [hM]; exact ho2) (by simpa using hlen) (fun i u t h1 h2 => by
        rw [List.getElem?_map] at h2
        obtain ⟨t', h4, rfl⟩ := Option.map_eq_some_iff.1 h2
        exact hv.2 i u t' h1 h4 w'' h3) k x n p
      rwa [hM] at this
    refine Goes.slot 7 (.int .i64 D) (u := .int .i64 (IntKind.i64.wrap (dmax (us.take j) + 1))) (congrArg _ hW) ?_
    cases hb : decide (100 < D) with
    | true =>
      refine Goes.run [1, 1] [(decide (IntKind.i64.wrap (dmax (us.take j) + 1) > 100), true)] ⟨by rw [hW]; exact hb, trivial⟩ ?_
      refine Goes.call2 0 q0 71 #[.pointer (some ⟨q0, 0, none⟩), .int .i64 75, .int .i64 p] (.tuple #[]) (rdS b c ts (rFail ts 75 p s)) (fun w' hm hI => fail_any ⟨hm.get 0, hI.now.1.2⟩ hE 75 p) ?_
      refine Goes.run [1, 2] [] trivial ?_
      exact Goes.ret [2] (T6.v ⟨k, x, n, a, j, e, p, D⟩) fun w' hm hI => ⟨⟨k, x, n, a, j, e, p, D⟩, rfl, hD.symm, hI.now.1.1, (hm.get 0 (o := rdS b c ts (rFail ts 75 p s))).trans (by simp [mkT, hD, madeS, hb]), fin w' hI.now⟩
    | false =>
      refine Goes.run [0, 1, 2] [(decide (IntKind.i64.wrap (dmax (us.take j) + 1) > 100), false)] ⟨by rw [hW]; exact hb, trivial⟩ ?_
      exact Goes.ret [2] (T6.v ⟨k, x, n, a, j, e, p, D⟩) fun w' hm hI => ⟨⟨k, x, n, a, j, e, p, D⟩, rfl, hD.symm, hI.now.1.1, (hm.get 0 (o := rdS b c ts s)).trans (by simp [mkT, hD, madeS, hb]), fin w' hI.now⟩
  | true =>
    have hjl : j < M := by have := of_decide_eq_true hlt; omega
    obtain ⟨u, hu⟩ : ∃ u, us[j]? = some u := ⟨us[j]'(by omega), by simp⟩
    rcases hk with ⟨-, rfl⟩ | ⟨bk, ck, cur, z, e1, hbk, hcur⟩
    · simp at hM; omega
    have hbq : bk ≠ q0 := by rintro rfl; rw [h.rd] at hbk; cases hbk
    obtain ⟨rfl, -, rfl⟩ : ka = some ⟨bk, 0, none⟩ ∧ us.length = us.length ∧ kc = ck := by simpa using e1
    refine Goes.run [0, 1] [(decide ((j : Int) < (M : Int)), true)] ⟨hlt, trivial⟩ ?_
    refine Goes.val (Instr.indexAt 150 (.slice (some ⟨bk, 0, none⟩) M kc) (.int .i64 j)) (.pointer (some ⟨bk, j * 6, none⟩)) (fun w' _ _ => idx150 bk M kc j hjl w') ?_
    refine Goes.val (Instr.loadAt 71 (.pointer (some ⟨bk, j * 6, none⟩))) u.v (fun w' _ hI => load71 ((hI.now.1.1.block bk (lt_of_get hbk) (by simpa using hbq)).trans hbk) (hcur j u hu)) ?_
    refine Goes.run2 [3, 1, 3] [] trivial fun g3 g4 => ?_
    refine Goes.append (I0 := fun w' => Ch [q0] w w' ∧ Tks w' b c ts) w.heap.size 23 25 23 5 64 (.slice a j e) j ((us.take j).flatMap T6.ns) 4 g4 1 1 u.ns 25 (0, 0) (fun w' h => ⟨h.1, h.2, h.1.1.size⟩) ?_ rfl ?_ (by decide) ?_ ?_ fun a' c' => ?_
    · rintro w1 w2 ⟨h1, h2⟩ hB
      have hbl : b < w.heap.size := by obtain ⟨cur, z, hb, -⟩ := h.tk.blk; exact lt_of_get hb
      refine ⟨⟨hB.os.trans h1.os, hB.tape.trans h1.tape, hB.output.trans h1.output, Nat.le_trans h1.size hB.size, fun i hi hx => (hB.block i hi).trans (h1.block i hi hx)⟩, ?_⟩
      obtain ⟨cur, z, hb, hr⟩ := h2.blk
      exact ⟨⟨cur, z, (hB.block b hbl).trans hb, hr⟩, h2.len⟩
    · intro v hv'
      simp only [T6.ns, List.mem_cons, List.not_mem_nil, or_false] at hv'
      rcases hv' with rfl | rfl | rfl | rfl | rfl <;> rfl
    · unfold maxLen; omega
    · omega
    refine Goes.run [1, 3, 0] [] trivial ?_
    have hTk : us.take (j + 1) = us.take j ++ [u] := by rw [List.take_add_one, hu]; rfl
    refine Goes.slot 7 (.int .i64 (dmax (us.take (j + 1)))) (u := .int .i64 (if u.d > dmax (us.take j) then u.d else dmax (us.take j))) (by rw [hTk, dmax_snoc]; congr 1; split <;> omega) ?_
    refine Goes.slot 12 (.int .i64 (j + 1 : Nat)) (u := .int .i64 (IntKind.i64.wrap ((j : Int) + 1))) (congrArg _ (wrap_nat (by omega))) ?_
    refine Goes.keep 3 ?_
    refine Goes.inv ?_ (back (j + 1, a', c') _ hjl (by omega) (by kernel_rfl) (by kernel_rfl) (by kernel_rfl))
    rintro w' ⟨h1, h2⟩
    refine ⟨h1, ?_⟩
    have : (us.take (j + 1)).flatMap T6.ns = (us.take j).flatMap T6.ns ++ u.ns := by rw [hTk]; simp
    rw [this]
    exact h2
end
end Go.Proofs.YtommhgmlblecnaaGreatDoor
namespace Go.Proofs.YtommhgmlblecnaaGreatDoor
open Go Go.RowKit

def wIf : List UInt8 := [105, 102]
def wThen : List UInt8 := [116, 104, 101, 110]
def wElse : List UInt8 := [101, 108, 115, 101]
def wOr : List UInt8 := [111, 114]
def wAnd : List UInt8 := [97, 110, 100]
def wNot : List UInt8 := [110, 111, 116]
def wTrue : List UInt8 := [116, 114, 117, 101]
def wFalse : List UInt8 := [102, 97, 108, 115, 101]
def wFeed : List UInt8 := [102, 101, 101, 100]
def wPick : List UInt8 := [112, 105, 99, 107]
def zeroT : TD := ⟨.mk 0 [] 0 [] 0, 0⟩
section
variable (ts : List Tk)
/-- A sign or a word and the operand at its right. -/
def binP (op : RS → TD × RS) (l : TD) (s : RS) : TD × RS := mkT ts 13 (tkAt ts s).tx 0 (tkAt ts s).a [l, (op (rTake ts s)).1] (op (rTake ts s)).2
def chR (op : RS → TD × RS) (ws : List (List UInt8)) : Nat → TD → RS → TD × RS
  | 0, l, s => (l, s)
  | k + 1, l, s => bif (tkAt ts s).is ws then chR op ws k (binP ts op l s).1 (binP ts op l s).2 else (l, s)
def chainP (op : RS → TD × RS) (ws : List (List UInt8)) (s : RS) : TD × RS := chR ts op ws ts.length (op s).1 (op s).2
def nestS (nest : Nat) (p : Int) (s : RS) : RS := bif decide (300 < nest) then rFail ts 75 p s else s
def bwP (op : Nat → RS → TD × RS) (x : List UInt8) : Nat → Nat → RS → TD × RS
  | 0, nest, s => op nest s
  | f + 1, nest, s => bif (tkAt ts s).is [x] then mkT ts 12 (tkAt ts s).tx 0 (tkAt ts s).a [(bwP op x f (nest + 1) (nestS ts (nest + 1) (tkAt ts s).a (rNext s))).1] (bwP op x f (nest + 1) (nestS ts (nest + 1) (tkAt ts s).a (rNext s))).2 else op nest s
def argR (ex : RS → TD × RS) : Nat → List TD → RS → List TD × RS
  | 0, l, s => (l, s)
  | k + 1, l, s =>
    bif (tkAt ts (ex (bif l.length == 8 then rFail ts 76 (tkAt ts s).a (rBeg ts s) else rBeg ts s)).2).is [[44]]
    then argR ex k (l ++ [(ex (bif l.length == 8 then rFail ts 76 (tkAt ts s).a (rBeg ts s) else rBeg ts s)).1]) (rNext (ex (bif l.length == 8 then rFail ts 76 (tkAt ts s).a (rBeg ts s) else rBeg ts s)).2)
    else (l ++ [(ex (bif l.length == 8 then rFail ts 76 (tkAt ts s).a (rBeg ts s) else rBeg ts s)).1], (ex (bif l.length == 8 then rFail ts 76 (tkAt ts s).a (rBeg ts s) else rBeg ts s)).2)
def argsP (ex : RS → TD × RS) (s : RS) : List TD × RS := ((argR ts ex (ts.length + 1) [] s).1, rWant ts [41] (argR ts ex (ts.length + 1) [] s).2)
def useP (ex : RS → TD × RS) (t : Tk) (s : RS) : TD × RS := bif (tkAt ts s).is [[40]] then mkT ts 11 t.tx 0 t.a (argsP ts ex (rNext s)).1 (argsP ts ex (rNext s)).2 else mkT ts 10 t.tx 0 t.a [] s
def closedP (ex : RS → TD × RS) (s : RS) : TD × RS := ((ex s).1, rWant ts [41] (ex s).2)
/-- Three expressions, words ahead of the second and the third. -/
def three (ex : RS → TD × RS) (x y : List UInt8) (s : RS) : List TD × RS :=
  let a := ex s
  let b := ex (rWant ts x a.2)
  let c := ex (rWant ts y b.2)
  ([a.1, b.1, c.1], c.2)
def pickP (ex : RS → TD × RS) (t : Tk) (s : RS) : TD × RS :=
  let r := three ts ex [44] [44] (rWant ts [40] (rKind ts 7 s))
  mkT ts 15 (tkAt ts s).tx 0 t.a r.1 (rWant ts [41] r.2)
def ifP (ex : RS → TD × RS) (t : Tk) (s : RS) : TD × RS :=
  let r := three ts ex wThen wElse s
  mkT ts 14 [] 0 t.a r.1 r.2
def atomP (ex : RS → TD × RS) (s : RS) : TD × RS :=
  let t := tkAt ts s
  let s1 := rTake ts s
  bif t.k == 6 then mkT ts 5 [] t.n t.a [] s1 else
  bif t.k == 5 then mkT ts 6 [] t.n t.a [] s1 else
  bif t.k == 4 then mkT ts 7 t.tx 0 t.a [] s1 else
  bif t.k == 2 || t.k == 3 then useP ts ex t s1 else
  bif t.is [wTrue] then mkT ts 8 [] 1 t.a [] s1 else
  bif t.is [wFalse] then mkT ts 8 [] 0 t.a [] s1 else
  bif t.is [wFeed] then mkT ts 9 (tkAt ts s1).tx 0 t.a [] (rKind ts 7 s1) else
  bif t.is [wPick] then pickP ts ex t s1 else
  bif t.is [[40]] then closedP ts ex s1 else (zeroT, rFail ts 74 t.a s1)
def unaryP (ex : Nat → RS → TD × RS) (nest : Nat) (s : RS) : TD × RS := bwP ts (fun n s => atomP ts (ex (n + 1)) s) [45] 400 nest s
def prodP (ex : Nat → RS → TD × RS) (nest : Nat) (s : RS) : TD × RS := chainP ts (unaryP ts ex nest) [[42], [47]] s
def sumP (ex : Nat → RS → TD × RS) (nest : Nat) (s : RS) : TD × RS := chainP ts (prodP ts ex nest) [[43], [45]] s
def relP (ex : Nat → RS → TD × RS) (nest : Nat) (s : RS) : TD × RS := bif (tkAt ts (sumP ts ex nest s).2).is [[60], [60, 61], [61]] then binP ts (sumP ts ex nest) (sumP ts ex nest s).1 (sumP ts ex nest s).2 else sumP ts ex nest s
def notP (ex : Nat → RS → TD × RS) (nest : Nat) (s : RS) : TD × RS := bwP ts (relP ts ex) wNot 400 nest s
def andP (ex : Nat → RS → TD × RS) (nest : Nat) (s : RS) : TD × RS := chainP ts (notP ts ex nest) [wAnd] s
def orP (ex : Nat → RS → TD × RS) (nest : Nat) (s : RS) : TD × RS := chainP ts (andP ts ex nest) [wOr] s
def begS (nest : Nat) (s : RS) : RS := nestS ts nest (tkAt ts s).a (rBeg ts s)
def exprP : Nat → Nat → RS → TD × RS
  | 0, _, s => (zeroT, s)
  | f + 1, nest, s => bif (tkAt ts (begS ts nest s)).is [wIf] then ifP ts (exprP f (nest + 1)) (tkAt ts s) (rNext (begS ts nest s)) else orP ts (exprP f) nest (begS ts nest s)
end
/-- Blocks of two lists may change. -/
theorem Stay.join {A B : List Nat} {w : World} {Q : World → Prop} (h : Stay A w (fun w => Stay B w Q)) : Stay (A ++ B) w Q := by
  intro w' hc
  have hsz : ∀ i, i < w.heap.size → i < w'.heap.size := fun i hi => Nat.lt_of_lt_of_le hi hc.size
  let H : Array Obj := Array.ofFn (n := w'.heap.size) fun i => if hi : i.1 < w.heap.size ∧ i.1 ∉ A then w.heap[i.1]'hi.1 else w'.heap[i.1]
  have hH : ∀ i (hi : i < w'.heap.size), H[i]? = some (if hi : i < w.heap.size ∧ i ∉ A then w.heap[i]'hi.1 else w'.heap[i]) := by
    intro i hi
    simp [H, hi]
  have hHs : H.size = w'.heap.size := by simp [H]
  refine h { w' with heap := H } ⟨hc.os, hc.tape, hc.output, by show w.heap.size ≤ H.size; rw [hHs]; exact hc.size, fun i hi hx => ?_⟩ w' ⟨rfl, rfl, rfl, by show H.size ≤ _; rw [hHs]; exact Nat.le_refl _, fun i hi hx => ?_⟩
  · show H[i]? = _
    rw [hH i (hsz i hi), dif_pos ⟨hi, hx⟩]
    simp [hi]
  · have hi' : i < w'.heap.size := by rw [← hHs]; exact hi
    show _ = H[i]?
    rw [hH i hi']
    split
    · rename_i hA
      rw [hc.block i hA.1 (by simp [hA.2, hx])]
      simp [hA.1]
    · simp [hi']
theorem ids_lt {m : Mem} {w : World} (h : Holds m w) : ∀ x ∈ m.ids, x < w.heap.size := by
  intro x hx
  obtain ⟨q, hq, rfl⟩ := List.mem_map.1 hx
  obtain ⟨j, hj⟩ := List.getElem?_of_mem hq
  exact lt_of_get (h.at (b := q.1) (o := q.2) hj)
theorem Kv.of {w : World} {g c : Nat} {us : List T6} {z : Nat × Nat} (hb : w.heap[g]? = some (.cells (us.flatMap T6.cs).toArray 71 z)) : Kv w (.slice (some ⟨g, 0, none⟩) us.length c) us := by
  refine .inr ⟨g, c, _, z, rfl, hb, ?_⟩
  clear hb
  induction us with
  | nil => intro i u h; simp at h
  | cons y r ih =>
    intro i u h j hj
    cases i with
    | zero =>
      simp at h
      subst h
      simp only [List.flatMap_cons, Nat.zero_mul, Nat.zero_add, List.getElem?_toArray]
      rw [List.getElem?_append_left (by simp [T6.cs]; omega)]
    | succ i =>
      have h1 := ih i u (by simpa using h) j hj
      simp only [List.flatMap_cons, List.getElem?_toArray] at h1 ⊢
      rw [List.getElem?_append_right (by simp [T6.cs]; omega)]
      have : (i + 1) * 6 + j - (y.cs).length = i * 6 + j := by simp [T6.cs]; omega
      rw [this]
      exact h1
theorem Tv.nil {L : List Nat} {w : World} : Tv L w [] [] := ⟨rfl, fun i u t h => by simp at h⟩
theorem Tv.cons {L : List Nat} {w : World} {us : List T6} {ts : List TD} {u : T6} {t : TD} (hd : u.d = t.d) (h : Stay L w (fun w => Nd w u.nd t.t)) (h' : Tv L w us ts) : Tv L w (u :: us) (t :: ts) := by
  refine ⟨by simp [hd, h'.1], fun i u' t' h1 h2 => ?_⟩
  cases i with
  | zero => simp at h1 h2; subst h1; subst h2; exact h
  | succ i => exact h'.2 i u' t' (by simpa using h1) (by simpa using h2)
section
variable {P : Program} {F : Exit → Act → World → Prop} {Inv : World → Prop} {st : St} {q0 b c : Nat} {ts : List Tk}
/-- A call that reads a tree. -/
theorem Goes.callT (L : List Nat) (f : FuncId) (args : Array Value) (r : TD × RS)
    (hr : ∀ w, Holds st.mem w → Stay st.mem.ids w Inv → (∀ x ∈ st.mem.ids ++ L, x < w.heap.size) → Calls P f args w (Res (st.mem.ids ++ L) w q0 b c ts r)) (hL : ∀ w, Inv w → ∀ x ∈ L, x < w.heap.size)
    (h : ∀ u : T6, u.d = r.1.d → Goes P F (fun w => Inv w ∧ Stay L w (fun w => Nd w u.nd r.1.t)) (putM st u.v 0 q0 (rdS b c ts r.2))) (ha : ask st = some (f, args) := by kernel_rfl) (hw : wants st = true := by kernel_rfl) (hf : okf P f = true := by kernel_rfl) (hj : (st.mem[0]?).map (·.1) = some q0 := by kernel_rfl) : Goes P F Inv st :=
  Goes.call1 0 q0 f args (fun w hm _ hI => (hr w hm hI (fun x hx => (List.mem_append.1 hx).elim (ids_lt hm x) (hL w hI.now x))).mono fun _ _ ⟨u, h1, h2, h3, h4, h5⟩ => ⟨u.v, _, _, h1, h3, h4, h5.split, h u h2⟩) ha hw hf hj
end
end Go.Proofs.YtommhgmlblecnaaGreatDoor
namespace Go.Proofs.YtommhgmlblecnaaGreatDoor
open Go Go.RowKit

structure Mv (ts : List Tk) (s s' : RS) : Prop where
  le : s.i ≤ s'.i
  lt : s'.i < ts.length
  fin : (tkAt ts s).k = 0 → (tkAt ts s').k = 0
  wh : s.wh ≠ 0 → s'.wh = s.wh ∧ s'.p = s.p
theorem Mv.refl {ts : List Tk} {s : RS} (h : s.i < ts.length) : Mv ts s s := ⟨Nat.le_refl _, h, fun h => h, fun _ => ⟨rfl, rfl⟩⟩
theorem Mv.trans {ts : List Tk} {a b c : RS} (h : Mv ts a b) (k : Mv ts b c) : Mv ts a c := ⟨Nat.le_trans h.le k.le, k.lt, fun e => k.fin (h.fin e), fun e => by
  have h1 := h.wh e
  have h2 := k.wh (by rw [h1.1]; exact e)
  exact ⟨h2.1.trans h1.1, h2.2.trans h1.2⟩⟩
def Good (ts : List Tk) (op : RS → TD × RS) : Prop := ∀ s, s.i < ts.length → Mv ts s (op s).2
section
variable {ts : List Tk} (hE : Toks ts) {s : RS} (hi : s.i < ts.length)
include hE hi
theorem mv_fail (e a : Int) : Mv ts s (rFail ts e a s) := by
  have := hE.pos
  refine ⟨by simp only [rFail]; omega, rFail_lt hE _ _ _, fun _ => hE.last, fun h => ?_⟩
  have : (s.wh == 0) = false := by simpa using h
  simp [rFail, this]
theorem mv_next (hk : (tkAt ts s).k ≠ 0) : Mv ts s (rNext s) := ⟨Nat.le_succ _, next_lt hE hi hk, fun h => absurd h hk, fun _ => ⟨rfl, rfl⟩⟩
theorem mv_is {ws : List (List UInt8)} (hk : (tkAt ts s).is ws = true) : Mv ts s (rNext s) := mv_next hE hi (by rw [is_kind hk]; decide)
theorem mv_take : Mv ts s (rTake ts s) := by
  unfold rTake
  cases hk : ((tkAt ts s).k != 0) with
  | true => exact mv_next hE hi (by simpa using hk)
  | false => exact Mv.refl hi
theorem mv_want (x : List UInt8) : Mv ts s (rWant ts x s) := by
  unfold rWant
  cases hk : (tkAt ts s).is [x] with
  | true => exact mv_is hE hi hk
  | false => exact mv_fail hE hi _ _
theorem mv_beg : Mv ts s (rBeg ts s) := by
  unfold rBeg
  cases (tkAt ts s).begins with
  | true => exact Mv.refl hi
  | false => exact mv_fail hE hi _ _
theorem mv_made (d p : Int) : Mv ts s (madeS ts d p s) := by
  unfold madeS
  cases decide (100 < d) with
  | true => exact mv_fail hE hi _ _
  | false => exact Mv.refl hi
theorem mv_nest (n : Nat) (p : Int) : Mv ts s (nestS ts n p s) := by
  unfold nestS
  cases decide (300 < n) with
  | true => exact mv_fail hE hi _ _
  | false => exact Mv.refl hi
end
section
variable {ts : List Tk} (hE : Toks ts)
include hE
theorem mv_kind {s : RS} (hi : s.i < ts.length) (k : Int) : Mv ts s (rKind ts k s) := by
  have h1 := mv_take hE hi
  unfold rKind
  cases (tkAt ts s).k != k with
  | true => exact h1.trans (mv_fail hE h1.lt _ _)
  | false => exact h1
theorem good_bin {op : RS → TD × RS} (ho : Good ts op) (l : TD) : Good ts (binP ts op l) := fun s hi => by
  have h1 := mv_take hE hi
  have h2 := ho _ h1.lt
  exact (h1.trans h2).trans (mv_made hE h2.lt _ _)
theorem bin_adv {op : RS → TD × RS} (ho : Good ts op) (l : TD) {s : RS} (hi : s.i < ts.length) {ws : List (List UInt8)} (hk : (tkAt ts s).is ws = true) : s.i + 1 ≤ (binP ts op l s).2.i := by
  have e : rTake ts s = rNext s := by
    unfold rTake
    have : ((tkAt ts s).k != 0) = true := by rw [is_kind hk]; rfl
    rw [this]
    rfl
  have h1 := mv_take hE hi
  have h2 := ho _ h1.lt
  have h3 := h2.trans (mv_made hE h2.lt (dep1 [l, (op (rTake ts s)).1]) (tkAt ts s).a)
  have h4 := h3.le
  rw [e] at h4
  have : (binP ts op l s).2.i = (madeS ts (dep1 [l, (op (rNext s)).1]) (tkAt ts s).a (op (rNext s)).2).i := by unfold binP; rw [e]; rfl
  rw [this]
  exact h4
theorem good_chR {op : RS → TD × RS} (ho : Good ts op) (ws : List (List UInt8)) : ∀ (k : Nat) (l : TD) (s : RS), s.i < ts.length → Mv ts s (chR ts op ws k l s).2
  | 0, l, s, hi => Mv.refl hi
  | k + 1, l, s, hi => by
    unfold chR
    cases (tkAt ts s).is ws with
    | true =>
      have h1 := good_bin hE ho l s hi
      exact h1.trans (good_chR ho ws k _ _ h1.lt)
    | false => exact Mv.refl hi
theorem good_chain {op : RS → TD × RS} (ho : Good ts op) (ws : List (List UInt8)) : Good ts (chainP ts op ws) := fun s hi => by
  have h1 := ho s hi
  exact h1.trans (good_chR hE ho ws _ _ _ h1.lt)
theorem good_bw {op : Nat → RS → TD × RS} (ho : ∀ n, Good ts (op n)) (x : List UInt8) : ∀ (f n : Nat), Good ts (bwP ts op x f n)
  | 0, n => ho n
  | f + 1, n => fun s hi => by
    unfold bwP
    cases hk : (tkAt ts s).is [x] with
    | true =>
      have h1 := mv_is hE hi hk
      have h2 := h1.trans (mv_nest hE h1.lt (n + 1) (tkAt ts s).a)
      have h3 := h2.trans (good_bw ho x f (n + 1) _ h2.lt)
      exact h3.trans (mv_made hE h3.lt _ _)
    | false => exact ho n s hi
/-- What stands ahead of an argument. -/
theorem mv_arg {s : RS} (hi : s.i < ts.length) (n : Nat) : Mv ts s (bif n == 8 then rFail ts 76 (tkAt ts s).a (rBeg ts s) else rBeg ts s) := by
  have h1 := mv_beg hE hi
  cases n == 8 with
  | true => exact h1.trans (mv_fail hE h1.lt _ _)
  | false => exact h1
theorem good_argR {ex : RS → TD × RS} (ho : Good ts ex) : ∀ (k : Nat) (l : List TD) (s : RS), s.i < ts.length → Mv ts s (argR ts ex k l s).2
  | 0, l, s, hi => Mv.refl hi
  | k + 1, l, s, hi => by
    have h1 := mv_arg hE hi l.length
    have h2 := h1.trans (ho _ h1.lt)
    unfold argR
    generalize (ex (bif l.length == 8 then rFail ts 76 (tkAt ts s).a (rBeg ts s) else rBeg ts s)) = r at h2 ⊢
    cases hk : (tkAt ts r.2).is [[44]] with
    | true =>
      have h3 := h2.trans (mv_is hE h2.lt hk)
      exact h3.trans (good_argR ho k _ _ h3.lt)
    | false => exact h2
theorem good_args {ex : RS → TD × RS} (ho : Good ts ex) {s : RS} (hi : s.i < ts.length) : Mv ts s (argsP ts ex s).2 := by
  have h1 := good_argR hE ho (ts.length + 1) [] s hi
  exact h1.trans (mv_want hE h1.lt _)
theorem good_use {ex : RS → TD × RS} (ho : Good ts ex) (t : Tk) : Good ts (useP ts ex t) := fun s hi => by
  unfold useP
  cases hk : (tkAt ts s).is [[40]] with
  | true =>
    have h1 := mv_is hE hi hk
    have h2 := h1.trans (good_args hE ho h1.lt)
    exact h2.trans (mv_made hE h2.lt _ _)
  | false => exact mv_made hE hi (dep1 []) t.a
theorem good_closed {ex : RS → TD × RS} (ho : Good ts ex) : Good ts (closedP ts ex) := fun s hi => by
  have h1 := ho s hi
  exact h1.trans (mv_want hE h1.lt _)
theorem good_three {ex : RS → TD × RS} (ho : Good ts ex) (x y : List UInt8) {s : RS} (hi : s.i < ts.length) : Mv ts s (three ts ex x y s).2 := by
  have h1 := ho s hi
  have h2 := h1.trans (mv_want hE h1.lt x)
  have h3 := h2.trans (ho _ h2.lt)
  have h4 := h3.trans (mv_want hE h3.lt y)
  exact h4.trans (ho _ h4.lt)
theorem good_pick {ex : RS → TD × RS} (ho : Good ts ex) (t : Tk) : Good ts (pickP ts ex t) := fun s hi => by
  have h1 := mv_kind hE hi 7
  have h2 := h1.trans (mv_want hE h1.lt [40])
  have h3 := h2.trans (good_three hE ho [44] [44] h2.lt)
  have h4 := h3.trans (mv_want hE h3.lt [41])
  exact h4.trans (mv_made hE h4.lt _ _)
theorem good_if {ex : RS → TD × RS} (ho : Good ts ex) (t : Tk) : Good ts (ifP ts ex t) := fun s hi => by
  have h1 := good_three hE ho wThen wElse hi
  exact h1.trans (mv_made hE h1.lt _ _)
theorem good_atom {ex : RS → TD × RS} (ho : Good ts ex) : Good ts (atomP ts ex) := fun s hi => by
  have h1 := mv_take hE hi
  have hm := fun d p => h1.trans (mv_made hE h1.lt d p)
  unfold atomP
  simp only
  cases (tkAt ts s).k == 6 with
  | true => exact hm (dep1 []) (tkAt ts s).a
  | false =>
  cases (tkAt ts s).k == 5 with
  | true => exact hm (dep1 []) (tkAt ts s).a
  | false =>
  cases (tkAt ts s).k == 4 with
  | true => exact hm (dep1 []) (tkAt ts s).a
  | false =>
  cases (tkAt ts s).k == 2 || (tkAt ts s).k == 3 with
  | true => exact h1.trans (good_use hE ho _ _ h1.lt)
  | false =>
  cases (tkAt ts s).is [wTrue] with
  | true => exact hm (dep1 []) (tkAt ts s).a
  | false =>
  cases (tkAt ts s).is [wFalse] with
  | true => exact hm (dep1 []) (tkAt ts s).a
  | false =>
  cases (tkAt ts s).is [wFeed] with
  | true =>
    have h2 := h1.trans (mv_kind hE h1.lt 7)
    exact h2.trans (mv_made hE h2.lt (dep1 []) (tkAt ts s).a)
  | false =>
  cases (tkAt ts s).is [wPick] with
  | true => exact h1.trans (good_pick hE ho _ _ h1.lt)
  | false =>
  cases (tkAt ts s).is [[40]] with
  | true => exact h1.trans (good_closed hE ho _ h1.lt)
  | false => exact h1.trans (mv_fail hE h1.lt _ _)
section
variable {ex : Nat → RS → TD × RS} (ho : ∀ n, Good ts (ex n)) (n : Nat)
include ho
theorem good_unary : Good ts (unaryP ts ex n) := good_bw hE (fun m => good_atom hE (ho (m + 1))) _ _ _
theorem good_prod : Good ts (prodP ts ex n) := good_chain hE (good_unary hE ho n) _
theorem good_sum : Good ts (sumP ts ex n) := good_chain hE (good_prod hE ho n) _
theorem good_rel : Good ts (relP ts ex n) := fun s hi => by
  have h1 := good_sum hE ho n s hi
  unfold relP
  cases (tkAt ts (sumP ts ex n s).2).is [[60], [60, 61], [61]] with
  | true => exact h1.trans (good_bin hE (good_sum hE ho n) _ _ h1.lt)
  | false => exact h1
theorem good_not : Good ts (notP ts ex n) := good_bw hE (fun m => good_rel hE ho m) _ _ _
theorem good_and : Good ts (andP ts ex n) := good_chain hE (good_not hE ho n) _
theorem good_or : Good ts (orP ts ex n) := good_chain hE (good_and hE ho n) _
end
theorem mv_begS (n : Nat) {s : RS} (hi : s.i < ts.length) : Mv ts s (begS ts n s) := by
  have h1 := mv_beg hE hi
  exact h1.trans (mv_nest hE h1.lt _ _)
theorem good_expr : ∀ (f n : Nat), Good ts (exprP ts f n)
  | 0, _ => fun s hi => Mv.refl hi
  | f + 1, n => fun s hi => by
    have h1 := mv_begS hE n hi
    unfold exprP
    cases hk : (tkAt ts (begS ts n s)).is [wIf] with
    | true =>
      have h2 := h1.trans (mv_is hE h1.lt hk)
      exact h2.trans (good_if hE (good_expr f (n + 1)) _ _ h2.lt)
    | false => exact h1.trans (good_or hE (good_expr f) n _ h1.lt)
end
end Go.Proofs.YtommhgmlblecnaaGreatDoor
namespace Go.Proofs.YtommhgmlblecnaaGreatDoor
open Go Go.RowKit

/-- How deep a nest may be: one more than is right, where the end stands. -/
def OKn (ts : List Tk) (n : Nat) (s : RS) : Prop := n ≤ 300 ∨ n = 301 ∧ (tkAt ts s).k = 0
/-- A method of the reader that reads a tree. -/
def OpC (q0 b c : Nat) (ts : List Tk) (f : FuncId) (n : Nat) (op : RS → TD × RS) : Prop := ∀ (w : World) (s : RS) (L : List Nat), At w q0 b c ts s → s.i < ts.length → OKn ts n s → q0 ∈ L → (∀ x ∈ L, x < w.heap.size) → Calls Tryz.prog f #[.pointer (some ⟨q0, 0, none⟩), .int .i64 n] w (Res L w q0 b c ts (op s))
theorem Stay.seed {L : List Nat} {w : World} {Q : World → Prop} {q0 : Nat} (h : Stay L w Q) (hq : q0 ∈ L) : Stay [q0] w (fun w => Stay L w Q) := fun _ h1 w2 h2 => h w2 ((h1.mono (fun x hx => by rw [List.mem_singleton] at hx; rw [hx]; exact hq)).trans h2 (fun _ hx => .inl hx))
theorem Ch.lt {L A : List Nat} {w w' : World} (hL : ∀ x ∈ L, x < w.heap.size) (h : Ch A w w') : ∀ x ∈ L, x < w'.heap.size := fun x hx => Nat.lt_of_lt_of_le (hL x hx) h.size
theorem Stay.fst {L : List Nat} {w : World} {A B : World → Prop} (h : Stay L w (fun w => A w ∧ B w)) : Stay L w A := h.mono fun _ h => h.1
theorem Stay.snd {L : List Nat} {w : World} {A B : World → Prop} (h : Stay L w (fun w => A w ∧ B w)) : Stay L w B := h.mono fun _ h => h.2
section
variable {q0 b c : Nat} {ts : List Tk} (hE : Toks ts) {s : RS} {w : World} {L : List Nat}
include hE
set_option maxRecDepth 100000 in
seal rn Goes ans atEnd put0 putM opened putA0 oneSt st0 in
theorem binary_any (h : At w q0 b c ts s) (hi : s.i < ts.length) (hq : q0 ∈ L) (hL : ∀ x ∈ L, x < w.heap.size) {f : FuncId} {n : Nat} {op : RS → TD × RS} (hn : n ≤ 300) (ho : OpC q0 b c ts f n op) (hg : Good ts op) (hf : okf Tryz.prog f = true) {l : T6} {tl : TD} (hd : l.d = tl.d) (hl : Stay L w (fun w => Nd w l.nd tl.t)) :
    Calls Tryz.prog 153 #[.pointer (some ⟨q0, 0, none⟩), l.v, .int .i64 n, .func (.func f) #[.pointer (some ⟨q0, 0, none⟩)] #[]] w (Res L w q0 b c ts (binP ts op tl s)) := by
  obtain ⟨t, ht⟩ : ∃ t, tkAt ts s = t := ⟨_, rfl⟩
  have h1 := mv_take hE hi
  have h2 := hg _ h1.lt
  refine Goes.begin Tryz.func153 [(q0, rdS b c ts s)] (fun w => Tks w b c ts ∧ Stay L w (fun w => Nd w l.nd tl.t)) (Holds.one h.rd) (by simp [Mem.ids]) (h.stay.and (hl.seed hq)) ?_
  refine Goes.run2 [] [] trivial fun g1 g2 => ?_
  refine Goes.call2 0 q0 70 #[.pointer (some ⟨q0, 0, none⟩)] (tkAt ts s).v (rdS b c ts (rTake ts s)) (fun w' hm hI => take_any ⟨hm.get 0, hI.now.2.1⟩ hE hi) ?_
  rw [ht]
  refine Goes.run1 [3] [] trivial fun g3 => ?_
  refine Goes.callT L f #[.pointer (some ⟨q0, 0, none⟩), .int .i64 n] (op (rTake ts s)) (fun w' hm hI hlt => ho w' _ _ ⟨hm.get 0, hI.now.2.1⟩ h1.lt (.inl hn) (List.mem_append_right _ hq) hlt) (fun w' hI => hI.1.lt hL) (hf := hf) fun u hu => ?_
  refine Goes.run2 [4, 3, 3, 1, 4] [] trivial fun g4 g5 => ?_
  refine Goes.callT L 110 #[.pointer (some ⟨q0, 0, none⟩), nv 13 t.tx 0 (.slice none 0 0) t.a, .slice (some ⟨g5, 0, none⟩) [l, u].length 2] (mkT ts 13 t.tx 0 t.a [tl, (op (rTake ts s)).1] (op (rTake ts s)).2)
    (fun w' hm hI hlt => made_any ⟨hm.get 0, hI.now.1.2.1⟩ hE (List.mem_append_right _ hq) hlt 13 t.tx 0 t.a (Kv.of (z := (0, 0)) (hm.get 5)) (Tv.cons hd hI.fst.snd.snd.join (Tv.cons hu hI.snd.join Tv.nil)) (by simp)) (fun w' hI => hI.1.1.lt hL) fun v hv => ?_
  refine Goes.run [2] [] trivial ?_
  refine Goes.ret [2] v.v fun w' hm hI => ⟨v, rfl, ?_, hI.now.1.1.1, ?_, ?_⟩
  · unfold binP; rw [ht]; exact hv
  · unfold binP; rw [ht]; exact hm.get 0
  · unfold binP; rw [ht]; exact hI.now.2
set_option maxRecDepth 100000 in
seal rn Goes ans atEnd put0 putM opened putA0 oneSt st0 in
theorem chain_any (h : At w q0 b c ts s) (hi : s.i < ts.length) (hq : q0 ∈ L) (hL : ∀ x ∈ L, x < w.heap.size) {f : FuncId} {n : Nat} {op : RS → TD × RS} (hn : OKn ts n s) (ho : OpC q0 b c ts f n op) (hg : Good ts op) (hf : okf Tryz.prog f = true) {ws : List (List UInt8)} {bw cw : Nat} {z : Nat × Nat} (hb : w.heap[bw]? = some (strs ws z)) (hw : ws.length ≤ 1000) :
    Calls Tryz.prog 111 #[.pointer (some ⟨q0, 0, none⟩), .int .i64 n, .func (.func f) #[.pointer (some ⟨q0, 0, none⟩)] #[], .slice (some ⟨bw, 0, none⟩) ws.length cw] w (Res L w q0 b c ts (chainP ts op ws s)) := by
  have hbq : bw ≠ q0 := by rintro rfl; rw [h.rd] at hb; simp [rdS, rdO, strs] at hb
  have h1 := hg s hi
  obtain ⟨W, hW⟩ : ∃ W, ws.length = W := ⟨_, rfl⟩
  rw [hW]
  refine Goes.begin Tryz.func111 [(q0, rdS b c ts s)] (fun w => Tks w b c ts ∧ w.heap[bw]? = some (strs ws z)) (Holds.one h.rd) (by simp [Mem.ids]) (h.stay.and fun w' hc => (hc.block bw (lt_of_get hb) (by simpa using hbq)).trans hb) ?_
  refine Goes.run1 [] [] trivial fun g1 => ?_
  refine Goes.callT L f #[.pointer (some ⟨q0, 0, none⟩), .int .i64 n] (op s) (fun w' hm hI hlt => ho w' _ _ ⟨hm.get 0, hI.now.2.1⟩ hi hn (List.mem_append_right _ hq) hlt) (fun w' hI => hI.1.lt hL) (hf := hf) fun u hu => ?_
  refine Goes.run1 [2] [] trivial fun g2 => ?_
  refine Goes.loop (α := Nat × TD × RS × T6) 23 (fun _ => [(0, .pointer (some ⟨q0, 0, none⟩)), (1, .int .i64 n), (2, .func (.func f) #[.pointer (some ⟨q0, 0, none⟩)] #[]), (3, .slice (some ⟨bw, 0, none⟩) W cw), (8, .pointer (some ⟨g1, 0, none⟩)), (9, .pointer (some ⟨g2, 0, none⟩))])
    (fun q => [(q0, rdS b c ts q.2.2.1), (g1, .cells #[.int .i64 0, strV [], .int .i64 0, .slice none 0 0, .int .i64 0, .int .i64 0] 71 (0, 0)), (g2, .cells q.2.2.2.cs.toArray 71 (0, 0))])
    (fun q w' => (Ch [q0] w w' ∧ (Tks w' b c ts ∧ w'.heap[bw]? = some (strs ws z))) ∧ Stay L w' (fun w => Nd w q.2.2.2.nd q.2.1.t))
    (fun q => chR ts op ws q.1 q.2.1 q.2.2.1 = chainP ts op ws s ∧ Mv ts (op s).2 q.2.2.1 ∧ ts.length ≤ q.1 + q.2.2.1.i ∧ q.2.2.2.d = q.2.1.d) (fun q => ts.length - q.2.2.1.i) (ts.length, (op s).1, (op s).2, u) ⟨rfl, Mv.refl h1.lt, by omega, hu⟩ (fun w' h => h) ?_
  rintro ⟨k, tl, s2, l⟩ J ⟨hch, hmv, hk, hd⟩ back
  simp only at hch hmv hk hd back ⊢
  obtain ⟨k', rfl⟩ : ∃ k', k = k' + 1 := ⟨k - 1, by have := hmv.lt; omega⟩
  obtain ⟨t, ht⟩ : ∃ t, tkAt ts s2 = t := ⟨_, rfl⟩
  refine Goes.run [0] [] trivial ?_
  refine Goes.call0 43 #[.pointer (some ⟨q0, 0, none⟩)] (tkAt ts s2).v (fun w' hm hI => At.now (s := s2) ⟨hm.get 0, hI.now.1.2.1⟩ hmv.lt) ?_
  rw [ht]
  refine Goes.run [] [] trivial ?_
  refine Goes.call0 76 #[t.v, .slice (some ⟨bw, 0, none⟩) W cw] (.bool (t.is ws)) (fun w' _ hI => by have := is_any t (c := cw) hI.now.1.2.2 hw; rw [hW] at this; exact this) ?_
  unfold chR at hch
  rw [ht] at hch
  cases his : t.is ws with
  | false =>
    rw [his] at hch
    refine Goes.run [0, 2, 1] [(false, false)] ⟨rfl, trivial⟩ ?_
    refine Goes.ret [1] l.v fun w' hm hI => ⟨l, rfl, ?_, hI.now.1.1, ?_, ?_⟩
    · rw [← hch]; exact hd
    · rw [← hch]; exact hm.get 0
    · rw [← hch]; exact hI.now.2
  | true =>
    rw [his] at hch
    have hn3 : n ≤ 300 := by
      rcases hn with hn | ⟨-, h0⟩
      · exact hn
      · have h5 := (h1.trans hmv).fin h0
        rw [ht, is_kind his] at h5
        cases h5
    have h3 := good_bin hE hg tl s2 hmv.lt
    refine Goes.run [1, 2] [(true, true)] ⟨rfl, trivial⟩ ?_
    refine Goes.callT L 153 #[.pointer (some ⟨q0, 0, none⟩), l.v, .int .i64 n, .func (.func f) #[.pointer (some ⟨q0, 0, none⟩)] #[]] (binP ts op tl s2) (fun w' hm hI hlt => binary_any hE ⟨hm.get 0, hI.now.1.2.1⟩ hmv.lt (List.mem_append_right _ hq) hlt hn3 ho hg hf hd hI.snd.join) (fun w' hI => hI.1.1.lt hL) fun v hv => ?_
    refine Goes.run [2] [] trivial ?_
    refine Goes.inv ?_ (back (k', (binP ts op tl s2).1, (binP ts op tl s2).2, v) _ ⟨hch, hmv.trans h3, ?_, hv⟩ ?_ (by kernel_rfl) (by kernel_rfl) (by kernel_rfl))
    · rintro w' ⟨⟨h1, -⟩, h2⟩; exact ⟨h1, h2⟩
    · have := bin_adv hE hg tl hmv.lt (by rw [ht]; exact his)
      show ts.length ≤ k' + (binP ts op tl s2).2.i
      omega
    · have := bin_adv hE hg tl hmv.lt (by rw [ht]; exact his)
      have := hmv.lt
      show ts.length - (binP ts op tl s2).2.i < ts.length - s2.i
      omega
set_option maxRecDepth 100000 in
seal rn Goes ans atEnd put0 putM opened putA0 oneSt st0 in
theorem or_any {n : Nat} {op : RS → TD × RS} (ho : OpC q0 b c ts 112 n op) (hg : Good ts op) : OpC q0 b c ts 75 n (chainP ts op [wOr]) := by
  intro w s L h hi hn hq hL
  refine Goes.begin Tryz.func75 [(q0, rdS b c ts s)] (fun w => Tks w b c ts) (Holds.one h.rd) (by simp [Mem.ids]) h.stay ?_
  refine Goes.run2 [] [] trivial fun g1 g2 => ?_
  refine Goes.callT L 111 #[.pointer (some ⟨q0, 0, none⟩), .int .i64 n, .func (.func 112) #[.pointer (some ⟨q0, 0, none⟩)] #[], .slice (some ⟨g2, 0, none⟩) ([wOr] : List (List UInt8)).length 1] (chainP ts op [wOr] s) (fun w' hm hI hlt => chain_any hE ⟨hm.get 0, hI.now.2⟩ hi (List.mem_append_right _ hq) hlt hn ho hg (by kernel_rfl) (z := (0, 0)) (hm.get 2) (by simp)) (fun w' hI => hI.1.lt hL) fun v hv => ?_
  refine Goes.run [1] [] trivial ?_
  exact Goes.ret [1] v.v fun w' hm hI => ⟨v, rfl, hv, hI.now.1.1, hm.get 0, hI.now.2⟩
set_option maxRecDepth 100000 in
seal rn Goes ans atEnd put0 putM opened putA0 oneSt st0 in
theorem and_any {n : Nat} {op : RS → TD × RS} (ho : OpC q0 b c ts 154 n op) (hg : Good ts op) : OpC q0 b c ts 112 n (chainP ts op [wAnd]) := by
  intro w s L h hi hn hq hL
  refine Goes.begin Tryz.func112 [(q0, rdS b c ts s)] (fun w => Tks w b c ts) (Holds.one h.rd) (by simp [Mem.ids]) h.stay ?_
  refine Goes.run2 [] [] trivial fun g1 g2 => ?_
  refine Goes.callT L 111 #[.pointer (some ⟨q0, 0, none⟩), .int .i64 n, .func (.func 154) #[.pointer (some ⟨q0, 0, none⟩)] #[], .slice (some ⟨g2, 0, none⟩) ([wAnd] : List (List UInt8)).length 1] (chainP ts op [wAnd] s) (fun w' hm hI hlt => chain_any hE ⟨hm.get 0, hI.now.2⟩ hi (List.mem_append_right _ hq) hlt hn ho hg (by kernel_rfl) (z := (0, 0)) (hm.get 2) (by simp)) (fun w' hI => hI.1.lt hL) fun v hv => ?_
  refine Goes.run [1] [] trivial ?_
  exact Goes.ret [1] v.v fun w' hm hI => ⟨v, rfl, hv, hI.now.1.1, hm.get 0, hI.now.2⟩
set_option maxRecDepth 100000 in
seal rn Goes ans atEnd put0 putM opened putA0 oneSt st0 in
theorem sum_any {n : Nat} {op : RS → TD × RS} (ho : OpC q0 b c ts 205 n op) (hg : Good ts op) : OpC q0 b c ts 191 n (chainP ts op [[43], [45]]) := by
  intro w s L h hi hn hq hL
  refine Goes.begin Tryz.func191 [(q0, rdS b c ts s)] (fun w => Tks w b c ts) (Holds.one h.rd) (by simp [Mem.ids]) h.stay ?_
  refine Goes.run2 [] [] trivial fun g1 g2 => ?_
  refine Goes.callT L 111 #[.pointer (some ⟨q0, 0, none⟩), .int .i64 n, .func (.func 205) #[.pointer (some ⟨q0, 0, none⟩)] #[], .slice (some ⟨g2, 0, none⟩) ([[43], [45]] : List (List UInt8)).length 2] (chainP ts op [[43], [45]] s) (fun w' hm hI hlt => chain_any hE ⟨hm.get 0, hI.now.2⟩ hi (List.mem_append_right _ hq) hlt hn ho hg (by kernel_rfl) (z := (0, 0)) (hm.get 2) (by simp)) (fun w' hI => hI.1.lt hL) fun v hv => ?_
  refine Goes.run [1] [] trivial ?_
  exact Goes.ret [1] v.v fun w' hm hI => ⟨v, rfl, hv, hI.now.1.1, hm.get 0, hI.now.2⟩
set_option maxRecDepth 100000 in
seal rn Goes ans atEnd put0 putM opened putA0 oneSt st0 in
theorem prod_any {n : Nat} {op : RS → TD × RS} (ho : OpC q0 b c ts 215 n op) (hg : Good ts op) : OpC q0 b c ts 205 n (chainP ts op [[42], [47]]) := by
  intro w s L h hi hn hq hL
  refine Goes.begin Tryz.func205 [(q0, rdS b c ts s)] (fun w => Tks w b c ts) (Holds.one h.rd) (by simp [Mem.ids]) h.stay ?_
  refine Goes.run2 [] [] trivial fun g1 g2 => ?_
  refine Goes.callT L 111 #[.pointer (some ⟨q0, 0, none⟩), .int .i64 n, .func (.func 215) #[.pointer (some ⟨q0, 0, none⟩)] #[], .slice (some ⟨g2, 0, none⟩) ([[42], [47]] : List (List UInt8)).length 2] (chainP ts op [[42], [47]] s) (fun w' hm hI hlt => chain_any hE ⟨hm.get 0, hI.now.2⟩ hi (List.mem_append_right _ hq) hlt hn ho hg (by kernel_rfl) (z := (0, 0)) (hm.get 2) (by simp)) (fun w' hI => hI.1.lt hL) fun v hv => ?_
  refine Goes.run [1] [] trivial ?_
  exact Goes.ret [1] v.v fun w' hm hI => ⟨v, rfl, hv, hI.now.1.1, hm.get 0, hI.now.2⟩
end
end Go.Proofs.YtommhgmlblecnaaGreatDoor
namespace Go.Proofs.YtommhgmlblecnaaGreatDoor
open Go Go.RowKit

/-- A row of one's own, whose cells are of trees (cs): these trees. -/
def RowT (e size : Nat) (cs : T6 → List Value) (base : Nat) (L : List Nat) (v : Value) (us : List T6) (l : List TD) (w : World) : Prop := w.ownsRow base e size v us.length (us.flatMap cs) ∧ Tv (v.ownBlock.toList ++ L) w us l
theorem RowT.nil {e size : Nat} {cs : T6 → List Value} {base : Nat} {L : List Nat} {w : World} : RowT e size cs base L (.slice none 0 0) [] [] w := ⟨⟨by simp, .inl ⟨rfl, rfl⟩⟩, Tv.nil⟩
theorem RowT.lt {e size : Nat} {cs : T6 → List Value} {base : Nat} {L : List Nat} {v : Value} {us : List T6} {l : List TD} {w : World} (h : RowT e size cs base L v us l w) (hL : ∀ x ∈ L, x < w.heap.size) : ∀ x ∈ v.ownBlock.toList ++ L, x < w.heap.size := by
  intro x hx
  rcases List.mem_append.1 hx with h1 | h1
  · rcases h.1.2 with ⟨rfl, -⟩ | ⟨g, cap, cur, rfl, -, hg, -⟩
    · simp [Value.ownBlock] at h1
    · simp only [Value.ownBlock, Option.toList_some, List.mem_singleton] at h1
      rw [h1]
      exact lt_of_get hg
  · exact hL x h1
theorem Tv.snoc {L : List Nat} {w : World} {us : List T6} {ts : List TD} {u : T6} {t : TD} (h' : Tv L w us ts) (hd : u.d = t.d) (h : Stay L w (fun w => Nd w u.nd t.t)) : Tv L w (us ++ [u]) (ts ++ [t]) := by
  have hlen : us.length = ts.length := by have := congrArg List.length h'.1; simpa using this
  refine ⟨by simp [hd, h'.1], fun i u' t' h1 h2 => ?_⟩
  rcases Nat.lt_or_ge i us.length with hi | hi
  · rw [List.getElem?_append_left hi] at h1
    rw [List.getElem?_append_left (by omega)] at h2
    exact h'.2 i u' t' h1 h2
  · rw [List.getElem?_append_right hi] at h1
    rw [List.getElem?_append_right (by omega)] at h2
    have e1 : i - us.length = 0 := by
      obtain ⟨l, -⟩ := List.getElem?_eq_some_iff.1 h1
      simpa using l
    rw [← hlen, e1] at h2
    rw [e1] at h1
    simp at h1 h2
    subst h1
    subst h2
    exact h
section
variable {P : Program} {F : Exit → Act → World → Prop} {Inv : World → Prop} {st : St}
/-- A tree is appended to such a row. -/
theorem Goes.appT {I0 : World → Prop} (base : Nat) (t e ty : TypeId) (size bytes : Nat) (cs : T6 → List Value) (L : List Nat) (v : Value) (us : List T6) (l : List TD) (u : T6) (td : TD) (j bj : Nat) (et : TypeId) (z : Nat × Nat)
    (hI : ∀ w, Inv w → (I0 w ∧ RowT e size cs base L v us l w) ∧ Stay (v.ownBlock.toList ++ L) w (fun w => Nd w u.nd td.t) ∧ base ≤ w.heap.size) (hd : u.d = td.d) (hst : ∀ w w', I0 w → Below base w w' → I0 w')
    (hl : (cs u).length = size) (h1 : ∀ x ∈ cs u, x.oneCell' = true) (h63 : us.length ≤ 1000000000) (hb : bytes ≤ 1000)
    (h : ∀ a c', Goes P F (fun w => I0 w ∧ RowT e size cs base L (.slice a (us.length + 1) c') (us ++ [u]) (l ++ [td]) w) (put0 st (.slice a (us.length + 1) c')))
    (hj : st.mem[j]? = some (bj, .cells (cs u).toArray et z) := by kernel_rfl) (ho : (nextOp st).map (fun q => execOp (evalL st.tmps) q.2.1) = some (vS (Builtin.append_ #[t, t] ty #[v, .slice (some ⟨bj, 0, none⟩) 1 1])) := by kernel_rfl) (hw : wants st = true := by kernel_rfl) (hel : elOk P t e size bytes = true := by kernel_rfl) : Goes P F Inv st := by
  refine Goes.eff (Builtin.append_ #[t, t] ty #[v, .slice (some ⟨bj, 0, none⟩) 1 1]) (ho := ho) (hw := hw) fun w hm hn hS => ?_
  have hnow := hI w hS.now
  have hb2 : (us.length + 1) * bytes ≤ 140737488355328 := Nat.le_trans (Nat.mul_le_mul (Nat.succ_le_succ h63) hb) (by decide)
  obtain ⟨a, c', w', hrun, hown', hgr, hob⟩ := append_core (P := P) (ty := ty) (c := 1) hm hnow.1.2.1 hnow.2.2 (by omega) h1 (by decide) (by unfold maxLen; omega) hb2 hj hel
  obtain ⟨h3, h4⟩ := append_stay hm (hS.mono fun w h => ⟨(hI w h).1.1, (hI w h).1.2.1⟩) hst hown' hgr hob
  refine ⟨_, w', _, st.mem, hrun, h3, hn, fun w2 hc2 => ?_, h a c'⟩
  obtain ⟨h5, h6⟩ := h4 w2 hc2
  refine ⟨h5, by simpa using h6, ?_⟩
  have key : ∀ Q : World → Prop, Stay st.mem.ids w (fun w => Stay (v.ownBlock.toList ++ L) w Q) → Stay ((Value.slice a (us.length + 1) c').ownBlock.toList ++ L) w2 Q := by
    intro Q hQ w3 hc3
    refine hQ.join w3 ⟨hc3.os.trans (hc2.os.trans hgr.os), hc3.tape.trans (hc2.tape.trans hgr.tape), hc3.output.trans (hc2.output.trans hgr.output), Nat.le_trans hgr.size (Nat.le_trans hc2.size hc3.size), fun k hk hx => ?_⟩
    simp only [List.mem_append, not_or] at hx
    have hk' := Nat.lt_of_lt_of_le hk hgr.size
    rw [hc3.block k (Nat.lt_of_lt_of_le hk' hc2.size) ?_, hc2.block k hk' hx.1, hgr.block k hk ?_]
    · intro e
      exact hx.2.1 (by rw [← e]; simp)
    · simp only [List.mem_append, not_or]
      refine ⟨fun hm' => ?_, hx.2.2⟩
      rcases hob with e | e
      · rw [e] at hm'; exact hx.2.1 hm'
      · rw [e] at hm'
        simp at hm'
        omega
  refine Tv.snoc ⟨hnow.1.2.2.1, fun i u' t' h7 h8 => ?_⟩ hd (key _ (hS.mono fun w h => (hI w h).2.1))
  exact key _ (hS.mono fun w h => (hI w h).1.2.2.2 i u' t' h7 h8)
end
theorem kv_row {w : World} {base : Nat} {v : Value} {us : List T6} (h : w.ownsRow base 71 6 v us.length (us.flatMap T6.cs)) : Kv w v us := by
  rcases h.2 with ⟨rfl, h0⟩ | ⟨g, cap, cur, rfl, -, hg, -, -, -, h4⟩
  · exact .inl ⟨rfl, List.eq_nil_of_length_eq_zero h0⟩
  · refine .inr ⟨g, cap, cur, (0, 0), rfl, hg, fun i u hu j hj => ?_⟩
    have hi := (List.getElem?_eq_some_iff.1 hu).1
    have e : cur[i * 6 + j]? = (us.flatMap T6.cs)[i * 6 + j]? := by
      rw [← h4, List.getElem?_take_of_lt (by omega)]
      simp
    rw [e]
    clear h4 hg h e
    induction us generalizing i with
    | nil => simp at hu
    | cons y r ih =>
      cases i with
      | zero =>
        simp at hu
        subst hu
        simp only [List.flatMap_cons, Nat.zero_mul, Nat.zero_add]
        rw [List.getElem?_append_left (by simp [T6.cs]; omega)]
      | succ i =>
        have h1 := ih i (by simpa using hu) (by simpa using hi)
        simp only [List.flatMap_cons]
        rw [List.getElem?_append_right (by simp [T6.cs]; omega)]
        have : (i + 1) * 6 + j - (y.cs).length = i * 6 + j := by simp [T6.cs]; omega
        rw [this]
        exact h1
theorem cs_one (u : T6) : ∀ x ∈ u.cs, x.oneCell' = true := by
  intro x hx
  simp only [T6.cs, List.mem_cons, List.not_mem_nil, or_false] at hx
  rcases hx with rfl | rfl | rfl | rfl | rfl | rfl <;> rfl
/-- What is known at a function's beginning stays where only new blocks are changed. -/
theorem base_stay {q0 b c : Nat} {ts : List Tk} {s : RS} {w : World} (h : At w q0 b c ts s) : ∀ w1 w2, (Ch [q0] w w1 ∧ Tks w1 b c ts) → Below w.heap.size w1 w2 → (Ch [q0] w w2 ∧ Tks w2 b c ts) := by
  rintro w1 w2 ⟨h1, h2⟩ hB
  have hbl : b < w.heap.size := by obtain ⟨cur, z, hb, -⟩ := h.tk.blk; exact lt_of_get hb
  refine ⟨⟨hB.os.trans h1.os, hB.tape.trans h1.tape, hB.output.trans h1.output, Nat.le_trans h1.size hB.size, fun i hi hx => (hB.block i hi).trans (h1.block i hi hx)⟩, ?_⟩
  obtain ⟨cur, z, hb, hr⟩ := h2.blk
  exact ⟨⟨cur, z, (hB.block b hbl).trans hb, hr⟩, h2.len⟩
end Go.Proofs.YtommhgmlblecnaaGreatDoor
namespace Go.Proofs.YtommhgmlblecnaaGreatDoor
open Go Go.RowKit

section
variable {q0 b c : Nat} {ts : List Tk} (hE : Toks ts)
theorem wrap_n {n : Nat} (h : n ≤ 1000) : IntKind.i64.wrap ((n : Int) + 1) = ((n + 1 : Nat) : Int) := wrap_nat (by omega)
include hE
set_option maxRecDepth 100000 in
seal rn Goes ans atEnd put0 putM opened putA0 oneSt st0 in
theorem bw_any {F : FuncId} {op : Nat → RS → TD × RS} (x : List UInt8) {n0 : Nat} (ho : ∀ n, n0 ≤ n → n ≤ 301 → OpC q0 b c ts F n (op n)) (hg : ∀ n, Good ts (op n)) (hf : okf Tryz.prog F = true) : ∀ (f n : Nat) (w : World) (s : RS) (L : List Nat), 302 ≤ f + n → n0 ≤ n → At w q0 b c ts s → s.i < ts.length → OKn ts n s → q0 ∈ L → (∀ x ∈ L, x < w.heap.size) →
    Calls Tryz.prog 175 #[.pointer (some ⟨q0, 0, none⟩), .int .i64 n, .func (.func F) #[.pointer (some ⟨q0, 0, none⟩)] #[], strV x] w (Res L w q0 b c ts (bwP ts op x f n s))
  | 0, n, w, s, L, hfu, hn0, h, hi, hn, hq, hL => by exfalso; rcases hn with h1 | ⟨h1, -⟩ <;> omega
  | f + 1, n, w, s, L, hfu, hn0, h, hi, hn, hq, hL => by
    have hn1 : n ≤ 301 := by rcases hn with h1 | ⟨h1, -⟩ <;> omega
    obtain ⟨t, ht⟩ : ∃ t, tkAt ts s = t := ⟨_, rfl⟩
    obtain ⟨Z, hZ⟩ : ∃ Z, bwP ts op x (f + 1) n s = Z := ⟨_, rfl⟩
    rw [hZ]
    unfold bwP at hZ
    rw [ht] at hZ
    refine Goes.begin Tryz.func175 [(q0, rdS b c ts s)] (fun w => Tks w b c ts) (Holds.one h.rd) (by simp [Mem.ids]) h.stay ?_
    refine Goes.run1 [] [] trivial fun g1 => ?_
    refine Goes.call0 43 #[.pointer (some ⟨q0, 0, none⟩)] (tkAt ts s).v (fun w' hm hI => At.now (s := s) ⟨hm.get 0, hI.now.2⟩ hi) ?_
    rw [ht]
    refine Goes.run1 [2] [] trivial fun g2 => ?_
    refine Goes.call2 0 q0 73 #[.pointer (some ⟨q0, 0, none⟩), strV x] (.bool ((tkAt ts s).is [x])) (rdS b c ts (rTakes ts x s)) (fun w' hm hI => takes_any ⟨hm.get 0, hI.now.2⟩ hE hi x) ?_
    rw [ht]
    cases his : t.is [x] with
    | false =>
      rw [his] at hZ
      have hs : rTakes ts x s = s := by simp [rTakes, ht, his]
      rw [hs]
      refine Goes.run [1] [(true, true)] ⟨rfl, trivial⟩ ?_
      refine Goes.callT L F #[.pointer (some ⟨q0, 0, none⟩), .int .i64 n] (op n s) (fun w' hm hI hlt => ho n hn0 hn1 w' _ _ ⟨hm.get 0, hI.now.2⟩ hi hn (List.mem_append_right _ hq) hlt) (fun w' hI => hI.1.lt hL) (hf := hf) fun u hu => ?_
      refine Goes.run [1] [] trivial ?_
      subst hZ
      exact Goes.ret [1] u.v fun w' hm hI => ⟨u, rfl, hu, hI.now.1.1, hm.get 0, hI.now.2⟩
    | true =>
      rw [his] at hZ
      have hn3 : n ≤ 300 := by
        rcases hn with hn | ⟨-, h0⟩
        · exact hn
        · rw [ht, is_kind his] at h0; cases h0
      have hs : rTakes ts x s = rNext s := by simp [rTakes, ht, his]
      have h1 := mv_is hE hi (ws := [x]) (by rw [ht]; exact his)
      rw [hs]
      obtain ⟨s2, hs2⟩ : ∃ s2, nestS ts (n + 1) t.a (rNext s) = s2 := ⟨_, rfl⟩
      have h2 := h1.trans (mv_nest hE h1.lt (n + 1) t.a)
      rw [hs2] at h2
      have hw1 := wrap_n (n := n) (by omega)
      have hok : OKn ts (n + 1) s2 := by
        rcases Nat.lt_or_ge n 300 with h3 | h3
        · exact .inl h3
        · obtain rfl : n = 300 := by omega
          refine .inr ⟨rfl, ?_⟩
          rw [← hs2]
          exact hE.last
      rw [hs2] at hZ
      cases hnn : decide ((300 : Int) < ((n + 1 : Nat) : Int)) with
      | false =>
        have e2 : s2 = rNext s := by rw [← hs2, nestS]; have : decide (300 < n + 1) = false := decide_eq_false (by have := of_decide_eq_false hnn; omega); rw [this]; rfl
        refine Goes.run [0, 0] [(decide (IntKind.i64.wrap ((n : Int) + 1) > 300), false), (false, false)] ⟨by rw [hw1]; exact hnn, rfl, trivial⟩ ?_
        refine Goes.slot 29 (.int .i64 (n + 1 : Nat)) (u := .int .i64 (IntKind.i64.wrap ((n : Int) + 1))) (congrArg _ hw1) ?_
        rw [← e2]
        refine Goes.callT L 175 #[.pointer (some ⟨q0, 0, none⟩), .int .i64 (n + 1 : Nat), .func (.func F) #[.pointer (some ⟨q0, 0, none⟩)] #[], strV x] (bwP ts op x f (n + 1) s2) (fun w' hm hI hlt => bw_any x ho hg hf f (n + 1) w' s2 _ (by omega) (by omega) ⟨hm.get 0, hI.now.2⟩ h2.lt hok (List.mem_append_right _ hq) hlt) (fun w' hI => hI.1.lt hL) fun u hu => ?_
        refine Goes.run2 [3, 2, 2, 3] [] trivial fun g3 g4 => ?_
        refine Goes.callT L 110 #[.pointer (some ⟨q0, 0, none⟩), nv 12 t.tx 0 (.slice none 0 0) t.a, .slice (some ⟨g4, 0, none⟩) [u].length 1] (mkT ts 12 t.tx 0 t.a [(bwP ts op x f (n + 1) s2).1] (bwP ts op x f (n + 1) s2).2)
          (fun w' hm hI hlt => made_any ⟨hm.get 0, hI.now.1.2⟩ hE (List.mem_append_right _ hq) hlt 12 t.tx 0 t.a (Kv.of (z := (0, 0)) (hm.get 4)) (Tv.cons hu hI.snd.join Tv.nil) (by simp)) (fun w' hI => hI.1.1.lt hL) fun v hv => ?_
        refine Goes.run [1] [] trivial ?_
        subst hZ
        exact Goes.ret [1] v.v fun w' hm hI => ⟨v, rfl, hv, hI.now.1.1.1, hm.get 0, hI.now.2⟩
      | true =>
        have e2 : s2 = rFail ts 75 t.a (rNext s) := by rw [← hs2, nestS]; have : decide (300 < n + 1) = true := decide_eq_true (by have := of_decide_eq_true hnn; omega); rw [this]; rfl
        refine Goes.run [0, 1, 2] [(decide (IntKind.i64.wrap ((n : Int) + 1) > 300), true), (false, false)] ⟨by rw [hw1]; exact hnn, rfl, trivial⟩ ?_
        refine Goes.call2 0 q0 71 #[.pointer (some ⟨q0, 0, none⟩), .int .i64 75, .int .i64 t.a] (.tuple #[]) (rdS b c ts (rFail ts 75 t.a (rNext s))) (fun w' hm hI => fail_any ⟨hm.get 0, hI.now.2⟩ hE 75 t.a) ?_
        rw [← e2]
        refine Goes.run [] [] trivial ?_
        refine Goes.slot 29 (.int .i64 (n + 1 : Nat)) (u := .int .i64 (IntKind.i64.wrap ((n : Int) + 1))) (congrArg _ hw1) ?_
        refine Goes.callT L 175 #[.pointer (some ⟨q0, 0, none⟩), .int .i64 (n + 1 : Nat), .func (.func F) #[.pointer (some ⟨q0, 0, none⟩)] #[], strV x] (bwP ts op x f (n + 1) s2) (fun w' hm hI hlt => bw_any x ho hg hf f (n + 1) w' s2 _ (by omega) (by omega) ⟨hm.get 0, hI.now.2⟩ h2.lt hok (List.mem_append_right _ hq) hlt) (fun w' hI => hI.1.lt hL) fun u hu => ?_
        refine Goes.run2 [3, 2, 2, 3] [] trivial fun g3 g4 => ?_
        refine Goes.callT L 110 #[.pointer (some ⟨q0, 0, none⟩), nv 12 t.tx 0 (.slice none 0 0) t.a, .slice (some ⟨g4, 0, none⟩) [u].length 1] (mkT ts 12 t.tx 0 t.a [(bwP ts op x f (n + 1) s2).1] (bwP ts op x f (n + 1) s2).2)
          (fun w' hm hI hlt => made_any ⟨hm.get 0, hI.now.1.2⟩ hE (List.mem_append_right _ hq) hlt 12 t.tx 0 t.a (Kv.of (z := (0, 0)) (hm.get 4)) (Tv.cons hu hI.snd.join Tv.nil) (by simp)) (fun w' hI => hI.1.1.lt hL) fun v hv => ?_
        refine Goes.run [1] [] trivial ?_
        subst hZ
        exact Goes.ret [1] v.v fun w' hm hI => ⟨v, rfl, hv, hI.now.1.1.1, hm.get 0, hI.now.2⟩
set_option maxRecDepth 100000 in
seal rn Goes ans atEnd put0 putM opened putA0 oneSt st0 in
theorem not_any {op : Nat → RS → TD × RS} {n : Nat} (ho : ∀ m, n ≤ m → m ≤ 301 → OpC q0 b c ts 176 m (op m)) (hg : ∀ n, Good ts (op n)) : OpC q0 b c ts 154 n (bwP ts op wNot 400 n) := by
  intro w s L h hi hn hq hL
  refine Goes.begin Tryz.func154 [(q0, rdS b c ts s)] (fun w => Tks w b c ts) (Holds.one h.rd) (by simp [Mem.ids]) h.stay ?_
  refine Goes.run1 [] [] trivial fun g1 => ?_
  refine Goes.callT L 175 #[.pointer (some ⟨q0, 0, none⟩), .int .i64 n, .func (.func 176) #[.pointer (some ⟨q0, 0, none⟩)] #[], strV wNot] (bwP ts op wNot 400 n s) (fun w' hm hI hlt => bw_any hE wNot ho hg (by kernel_rfl) 400 n w' s _ (by omega) (Nat.le_refl _) ⟨hm.get 0, hI.now.2⟩ hi hn (List.mem_append_right _ hq) hlt) (fun w' hI => hI.1.lt hL) fun v hv => ?_
  refine Goes.run [1] [] trivial ?_
  exact Goes.ret [1] v.v fun w' hm hI => ⟨v, rfl, hv, hI.now.1.1, hm.get 0, hI.now.2⟩
set_option maxRecDepth 100000 in
seal rn Goes ans atEnd put0 putM opened putA0 oneSt st0 in
theorem unary_any {op : Nat → RS → TD × RS} {n : Nat} (ho : ∀ m, n ≤ m → m ≤ 301 → OpC q0 b c ts 224 m (op m)) (hg : ∀ n, Good ts (op n)) : OpC q0 b c ts 215 n (bwP ts op [45] 400 n) := by
  intro w s L h hi hn hq hL
  refine Goes.begin Tryz.func215 [(q0, rdS b c ts s)] (fun w => Tks w b c ts) (Holds.one h.rd) (by simp [Mem.ids]) h.stay ?_
  refine Goes.run1 [] [] trivial fun g1 => ?_
  refine Goes.callT L 175 #[.pointer (some ⟨q0, 0, none⟩), .int .i64 n, .func (.func 224) #[.pointer (some ⟨q0, 0, none⟩)] #[], strV [45]] (bwP ts op [45] 400 n s) (fun w' hm hI hlt => bw_any hE [45] ho hg (by kernel_rfl) 400 n w' s _ (by omega) (Nat.le_refl _) ⟨hm.get 0, hI.now.2⟩ hi hn (List.mem_append_right _ hq) hlt) (fun w' hI => hI.1.lt hL) fun v hv => ?_
  refine Goes.run [1] [] trivial ?_
  exact Goes.ret [1] v.v fun w' hm hI => ⟨v, rfl, hv, hI.now.1.1, hm.get 0, hI.now.2⟩
set_option maxRecDepth 100000 in
seal rn Goes ans atEnd put0 putM opened putA0 oneSt st0 in
theorem rel_any {n : Nat} {op : RS → TD × RS} (ho : OpC q0 b c ts 191 n op) (hg : Good ts op) : OpC q0 b c ts 176 n (fun s => bif (tkAt ts (op s).2).is [[60], [60, 61], [61]] then binP ts op (op s).1 (op s).2 else op s) := by
  intro w s L h hi hn hq hL
  have h1 := hg s hi
  obtain ⟨t, ht⟩ : ∃ t, tkAt ts (op s).2 = t := ⟨_, rfl⟩
  simp only
  rw [ht]
  refine Goes.begin Tryz.func176 [(q0, rdS b c ts s)] (fun w => Tks w b c ts) (Holds.one h.rd) (by simp [Mem.ids]) h.stay ?_
  refine Goes.run1 [] [] trivial fun g1 => ?_
  refine Goes.callT L 191 #[.pointer (some ⟨q0, 0, none⟩), .int .i64 n] (op s) (fun w' hm hI hlt => ho w' s _ ⟨hm.get 0, hI.now.2⟩ hi hn (List.mem_append_right _ hq) hlt) (fun w' hI => hI.1.lt hL) fun l hl => ?_
  refine Goes.run1 [2] [] trivial fun g2 => ?_
  refine Goes.call0 43 #[.pointer (some ⟨q0, 0, none⟩)] (tkAt ts (op s).2).v (fun w' hm hI => At.now (s := (op s).2) ⟨hm.get 0, hI.now.1.2⟩ h1.lt) ?_
  rw [ht]
  refine Goes.run1 [] [] trivial fun g3 => ?_
  refine Goes.call0 76 #[t.v, .slice (some ⟨g3, 0, none⟩) ([[60], [60, 61], [61]] : List (List UInt8)).length 3] (.bool (t.is [[60], [60, 61], [61]])) (fun w' hm _ => is_any t (z := (0, 0)) (hm.get 3) (by simp)) ?_
  cases his : t.is [[60], [60, 61], [61]] with
  | false =>
    refine Goes.run [1, 2, 1] [(true, true)] ⟨rfl, trivial⟩ ?_
    exact Goes.ret [1] l.v fun w' hm hI => ⟨l, rfl, hl, hI.now.1.1, hm.get 0, hI.now.2⟩
  | true =>
    have hn3 : n ≤ 300 := by
      rcases hn with hn | ⟨-, h0⟩
      · exact hn
      · have h5 := h1.fin h0
        rw [ht, is_kind his] at h5
        cases h5
    refine Goes.run [0, 2] [(false, false)] ⟨rfl, trivial⟩ ?_
    refine Goes.callT L 153 #[.pointer (some ⟨q0, 0, none⟩), l.v, .int .i64 n, .func (.func 191) #[.pointer (some ⟨q0, 0, none⟩)] #[]] (binP ts op (op s).1 (op s).2) (fun w' hm hI hlt => binary_any hE ⟨hm.get 0, hI.now.1.2⟩ h1.lt (List.mem_append_right _ hq) hlt hn3 ho hg (by kernel_rfl) hl hI.snd.join) (fun w' hI => hI.1.1.lt hL) fun v hv => ?_
    refine Goes.run [1] [] trivial ?_
    exact Goes.ret [1] v.v fun w' hm hI => ⟨v, rfl, hv, hI.now.1.1.1, hm.get 0, hI.now.2⟩
end
end Go.Proofs.YtommhgmlblecnaaGreatDoor
namespace Go.Proofs.YtommhgmlblecnaaGreatDoor
open Go Go.RowKit

section
variable {q0 b c : Nat} {ts : List Tk} (hE : Toks ts) {s : RS} {w : World} {L : List Nat}
include hE
/-- An expression within one of the nest n. -/
def ExC (q0 b c : Nat) (ts : List Tk) (n : Nat) (ex : RS → TD × RS) : Prop := ∀ (w : World) (s : RS) (L : List Nat), At w q0 b c ts s → s.i < ts.length → q0 ∈ L → (∀ x ∈ L, x < w.heap.size) → Calls Tryz.prog 42 #[.pointer (some ⟨q0, 0, none⟩), .int .i64 (n + 1 : Nat)] w (Res L w q0 b c ts (ex s))
set_option maxRecDepth 100000 in
seal rn Goes ans atEnd put0 putM opened putA0 oneSt st0 in
theorem closed_any (h : At w q0 b c ts s) (hi : s.i < ts.length) (hq : q0 ∈ L) (hL : ∀ x ∈ L, x < w.heap.size) {n : Nat} (hn : n ≤ 300) {ex : RS → TD × RS} (hx : ExC q0 b c ts n ex) (hg : Good ts ex) :
    Calls Tryz.prog 230 #[.pointer (some ⟨q0, 0, none⟩), .int .i64 n] w (Res L w q0 b c ts (closedP ts ex s)) := by
  have hw1 := wrap_n (n := n) (by omega)
  have h1 := hg s hi
  refine Goes.begin Tryz.func230 [(q0, rdS b c ts s)] (fun w => Tks w b c ts) (Holds.one h.rd) (by simp [Mem.ids]) h.stay ?_
  refine Goes.run1 [] [] trivial fun g1 => ?_
  refine Goes.slot 8 (.int .i64 (n + 1 : Nat)) (u := .int .i64 (IntKind.i64.wrap ((n : Int) + 1))) (congrArg _ hw1) ?_
  refine Goes.callT L 42 #[.pointer (some ⟨q0, 0, none⟩), .int .i64 (n + 1 : Nat)] (ex s) (fun w' hm hI hlt => hx w' s _ ⟨hm.get 0, hI.now.2⟩ hi (List.mem_append_right _ hq) hlt) (fun w' hI => hI.1.lt hL) fun l hl => ?_
  refine Goes.run1 [2] [] trivial fun g2 => ?_
  refine Goes.call2 0 q0 44 #[.pointer (some ⟨q0, 0, none⟩), strV [41]] (.tuple #[]) (rdS b c ts (rWant ts [41] (ex s).2)) (fun w' hm hI => want_any ⟨hm.get 0, hI.now.1.2⟩ hE h1.lt [41]) ?_
  refine Goes.run [2, 1] [] trivial ?_
  exact Goes.ret [1] l.v fun w' hm hI => ⟨l, rfl, hl, hI.now.1.1, hm.get 0, hI.now.2⟩
set_option maxRecDepth 100000 in
seal rn Goes ans atEnd put0 putM opened putA0 oneSt st0 in
theorem if_any (h : At w q0 b c ts s) (hi : s.i < ts.length) (hq : q0 ∈ L) (hL : ∀ x ∈ L, x < w.heap.size) {n : Nat} (hn : n ≤ 300) {ex : RS → TD × RS} (hx : ExC q0 b c ts n ex) (hg : Good ts ex) (t : Tk) :
    Calls Tryz.prog 74 #[.pointer (some ⟨q0, 0, none⟩), t.v, .int .i64 n] w (Res L w q0 b c ts (ifP ts ex t s)) := by
  have hw1 := wrap_n (n := n) (by omega)
  have h1 := hg s hi
  have h2 := mv_want hE h1.lt wThen
  have h3 := hg _ h2.lt
  have h4 := mv_want hE h3.lt wElse
  have h5 := hg _ h4.lt
  obtain ⟨r1, e1⟩ : ∃ r1, ex s = r1 := ⟨_, rfl⟩
  obtain ⟨r2, e2⟩ : ∃ r2, ex (rWant ts wThen r1.2) = r2 := ⟨_, rfl⟩
  obtain ⟨r3, e3⟩ : ∃ r3, ex (rWant ts wElse r2.2) = r3 := ⟨_, rfl⟩
  rw [e1] at h1 h2 h3 h4 h5
  rw [e2] at h3 h4 h5
  rw [e3] at h5
  have hZ : ifP ts ex t s = mkT ts 14 [] 0 t.a [r1.1, r2.1, r3.1] r3.2 := by simp only [ifP, three, e1, e2, e3]
  rw [hZ]
  refine Goes.begin Tryz.func74 [(q0, rdS b c ts s)] (fun w => Tks w b c ts) (Holds.one h.rd) (by simp [Mem.ids]) h.stay ?_
  refine Goes.run2 [] [] trivial fun g1 g2 => ?_
  refine Goes.slot 12 (.int .i64 (n + 1 : Nat)) (u := .int .i64 (IntKind.i64.wrap ((n : Int) + 1))) (congrArg _ hw1) ?_
  refine Goes.callT L 42 #[.pointer (some ⟨q0, 0, none⟩), .int .i64 (n + 1 : Nat)] r1 (fun w' hm hI hlt => e1 ▸ hx w' s _ ⟨hm.get 0, hI.now.2⟩ hi (List.mem_append_right _ hq) hlt) (fun w' hI => hI.1.lt hL) fun u1 hu1 => ?_
  refine Goes.run1 [3] [] trivial fun g3 => ?_
  refine Goes.call2 0 q0 44 #[.pointer (some ⟨q0, 0, none⟩), strV wThen] (.tuple #[]) (rdS b c ts (rWant ts wThen r1.2)) (fun w' hm hI => want_any ⟨hm.get 0, hI.now.1.2⟩ hE h1.lt wThen) ?_
  refine Goes.run [] [] trivial ?_
  refine Goes.slot 18 (.int .i64 (n + 1 : Nat)) (u := .int .i64 (IntKind.i64.wrap ((n : Int) + 1))) (congrArg _ hw1) ?_
  refine Goes.callT L 42 #[.pointer (some ⟨q0, 0, none⟩), .int .i64 (n + 1 : Nat)] r2 (fun w' hm hI hlt => e2 ▸ hx w' _ _ ⟨hm.get 0, hI.now.1.2⟩ h2.lt (List.mem_append_right _ hq) hlt) (fun w' hI => hI.1.1.lt hL) fun u2 hu2 => ?_
  refine Goes.run1 [4] [] trivial fun g4 => ?_
  refine Goes.call2 0 q0 44 #[.pointer (some ⟨q0, 0, none⟩), strV wElse] (.tuple #[]) (rdS b c ts (rWant ts wElse r2.2)) (fun w' hm hI => want_any ⟨hm.get 0, hI.now.1.1.2⟩ hE h3.lt wElse) ?_
  refine Goes.run [] [] trivial ?_
  refine Goes.slot 24 (.int .i64 (n + 1 : Nat)) (u := .int .i64 (IntKind.i64.wrap ((n : Int) + 1))) (congrArg _ hw1) ?_
  refine Goes.callT L 42 #[.pointer (some ⟨q0, 0, none⟩), .int .i64 (n + 1 : Nat)] r3 (fun w' hm hI hlt => e3 ▸ hx w' _ _ ⟨hm.get 0, hI.now.1.1.2⟩ h4.lt (List.mem_append_right _ hq) hlt) (fun w' hI => hI.1.1.1.lt hL) fun u3 hu3 => ?_
  refine Goes.run2 [5, 1, 3, 4, 5] [] trivial fun g5 g6 => ?_
  refine Goes.callT L 110 #[.pointer (some ⟨q0, 0, none⟩), nv 14 [] 0 (.slice none 0 0) t.a, .slice (some ⟨g6, 0, none⟩) [u1, u2, u3].length 3] (mkT ts 14 [] 0 t.a [r1.1, r2.1, r3.1] r3.2)
    (fun w' hm hI hlt => made_any ⟨hm.get 0, hI.now.1.1.1.2⟩ hE (List.mem_append_right _ hq) hlt 14 [] 0 t.a (Kv.of (z := (0, 0)) (hm.get 6)) (Tv.cons hu1 hI.fst.fst.snd.join (Tv.cons hu2 hI.fst.snd.join (Tv.cons hu3 hI.snd.join Tv.nil))) (by simp)) (fun w' hI => hI.1.1.1.1.lt hL) fun v hv => ?_
  refine Goes.run [2] [] trivial ?_
  exact Goes.ret [2] v.v fun w' hm hI => ⟨v, rfl, hv, hI.now.1.1.1.1.1, hm.get 0, hI.now.2⟩
set_option maxRecDepth 100000 in
seal rn Goes ans atEnd put0 putM opened putA0 oneSt st0 in
theorem pick_any (h : At w q0 b c ts s) (hi : s.i < ts.length) (hq : q0 ∈ L) (hL : ∀ x ∈ L, x < w.heap.size) {n : Nat} (hn : n ≤ 300) {ex : RS → TD × RS} (hx : ExC q0 b c ts n ex) (hg : Good ts ex) (t : Tk) :
    Calls Tryz.prog 229 #[.pointer (some ⟨q0, 0, none⟩), t.v, .int .i64 n] w (Res L w q0 b c ts (pickP ts ex t s)) := by
  have hw1 := wrap_n (n := n) (by omega)
  obtain ⟨lb, hlb⟩ : ∃ lb, tkAt ts s = lb := ⟨_, rfl⟩
  have k1 := mv_kind hE hi 7
  have k2 := mv_want hE k1.lt [40]
  obtain ⟨s0, es0⟩ : ∃ s0, rWant ts [40] (rKind ts 7 s) = s0 := ⟨_, rfl⟩
  rw [es0] at k2
  have h1 := hg s0 k2.lt
  have h2 := mv_want hE h1.lt [44]
  have h3 := hg _ h2.lt
  have h4 := mv_want hE h3.lt [44]
  have h5 := hg _ h4.lt
  obtain ⟨r1, e1⟩ : ∃ r1, ex s0 = r1 := ⟨_, rfl⟩
  obtain ⟨r2, e2⟩ : ∃ r2, ex (rWant ts [44] r1.2) = r2 := ⟨_, rfl⟩
  obtain ⟨r3, e3⟩ : ∃ r3, ex (rWant ts [44] r2.2) = r3 := ⟨_, rfl⟩
  rw [e1] at h1 h2 h3 h4 h5
  rw [e2] at h3 h4 h5
  rw [e3] at h5
  have hZ : pickP ts ex t s = mkT ts 15 lb.tx 0 t.a [r1.1, r2.1, r3.1] (rWant ts [41] r3.2) := by simp only [pickP, three, es0, e1, e2, e3, hlb]
  rw [hZ]
  refine Goes.begin Tryz.func229 [(q0, rdS b c ts s)] (fun w => Tks w b c ts) (Holds.one h.rd) (by simp [Mem.ids]) h.stay ?_
  refine Goes.run2 [] [] trivial fun g1 g2 => ?_
  refine Goes.call2 0 q0 41 #[.pointer (some ⟨q0, 0, none⟩), .int .i64 7] (tkAt ts s).v (rdS b c ts (rKind ts 7 s)) (fun w' hm hI => kind_any ⟨hm.get 0, hI.now.2⟩ hE hi 7) ?_
  rw [hlb]
  refine Goes.run1 [3] [] trivial fun g3 => ?_
  refine Goes.call2 0 q0 44 #[.pointer (some ⟨q0, 0, none⟩), strV [40]] (.tuple #[]) (rdS b c ts s0) (fun w' hm hI => es0 ▸ want_any ⟨hm.get 0, hI.now.2⟩ hE k1.lt [40]) ?_
  refine Goes.run [] [] trivial ?_
  refine Goes.slot 17 (.int .i64 (n + 1 : Nat)) (u := .int .i64 (IntKind.i64.wrap ((n : Int) + 1))) (congrArg _ hw1) ?_
  refine Goes.callT L 42 #[.pointer (some ⟨q0, 0, none⟩), .int .i64 (n + 1 : Nat)] r1 (fun w' hm hI hlt => e1 ▸ hx w' s0 _ ⟨hm.get 0, hI.now.2⟩ k2.lt (List.mem_append_right _ hq) hlt) (fun w' hI => hI.1.lt hL) fun u1 hu1 => ?_
  refine Goes.run1 [4] [] trivial fun g4 => ?_
  refine Goes.call2 0 q0 44 #[.pointer (some ⟨q0, 0, none⟩), strV [44]] (.tuple #[]) (rdS b c ts (rWant ts [44] r1.2)) (fun w' hm hI => want_any ⟨hm.get 0, hI.now.1.2⟩ hE h1.lt [44]) ?_
  refine Goes.run [] [] trivial ?_
  refine Goes.slot 23 (.int .i64 (n + 1 : Nat)) (u := .int .i64 (IntKind.i64.wrap ((n : Int) + 1))) (congrArg _ hw1) ?_
  refine Goes.callT L 42 #[.pointer (some ⟨q0, 0, none⟩), .int .i64 (n + 1 : Nat)] r2 (fun w' hm hI hlt => e2 ▸ hx w' _ _ ⟨hm.get 0, hI.now.1.2⟩ h2.lt (List.mem_append_right _ hq) hlt) (fun w' hI => hI.1.1.lt hL) fun u2 hu2 => ?_
  refine Goes.run1 [5] [] trivial fun g5 => ?_
  refine Goes.call2 0 q0 44 #[.pointer (some ⟨q0, 0, none⟩), strV [44]] (.tuple #[]) (rdS b c ts (rWant ts [44] r2.2)) (fun w' hm hI => want_any ⟨hm.get 0, hI.now.1.1.2⟩ hE h3.lt [44]) ?_
  refine Goes.run [] [] trivial ?_
  refine Goes.slot 29 (.int .i64 (n + 1 : Nat)) (u := .int .i64 (IntKind.i64.wrap ((n : Int) + 1))) (congrArg _ hw1) ?_
  refine Goes.callT L 42 #[.pointer (some ⟨q0, 0, none⟩), .int .i64 (n + 1 : Nat)] r3 (fun w' hm hI hlt => e3 ▸ hx w' _ _ ⟨hm.get 0, hI.now.1.1.2⟩ h4.lt (List.mem_append_right _ hq) hlt) (fun w' hI => hI.1.1.1.lt hL) fun u3 hu3 => ?_
  refine Goes.run1 [6] [] trivial fun g6 => ?_
  refine Goes.call2 0 q0 44 #[.pointer (some ⟨q0, 0, none⟩), strV [41]] (.tuple #[]) (rdS b c ts (rWant ts [41] r3.2)) (fun w' hm hI => want_any ⟨hm.get 0, hI.now.1.1.1.2⟩ hE h5.lt [41]) ?_
  refine Goes.run1 [3, 1, 4, 5, 6] [] trivial fun g7 => ?_
  refine Goes.callT L 110 #[.pointer (some ⟨q0, 0, none⟩), nv 15 lb.tx 0 (.slice none 0 0) t.a, .slice (some ⟨g7, 0, none⟩) [u1, u2, u3].length 3] (mkT ts 15 lb.tx 0 t.a [r1.1, r2.1, r3.1] (rWant ts [41] r3.2))
    (fun w' hm hI hlt => made_any ⟨hm.get 0, hI.now.1.1.1.2⟩ hE (List.mem_append_right _ hq) hlt 15 lb.tx 0 t.a (Kv.of (z := (0, 0)) (hm.get 7)) (Tv.cons hu1 hI.fst.fst.snd.join (Tv.cons hu2 hI.fst.snd.join (Tv.cons hu3 hI.snd.join Tv.nil))) (by simp)) (fun w' hI => hI.1.1.1.1.lt hL) fun v hv => ?_
  refine Goes.run [2] [] trivial ?_
  exact Goes.ret [2] v.v fun w' hm hI => ⟨v, rfl, hv, hI.now.1.1.1.1.1, hm.get 0, hI.now.2⟩
end
end Go.Proofs.YtommhgmlblecnaaGreatDoor
namespace Go.Proofs.YtommhgmlblecnaaGreatDoor
open Go Go.RowKit

section
variable {P : Program} {F : Exit → Act → World → Prop} {Inv : World → Prop} {st : St}
def putAM (i : Nat) (s : St) (v : Value) (j b : Nat) (o : Obj) : St := putA i s v (s.mem.set j (b, o))
theorem Goes.callA1 (i j b : Nat) (f : FuncId) (args : Array Value) (js : List Nat)
    (hr : ∀ w, Holds st.mem w → st.mem.ids.Nodup → Stay st.mem.ids w Inv → Calls P f args w fun e w' => ∃ v o Fact, e = .returned v ∧ Ch [b] w w' ∧ w'.heap[b]? = some o ∧ Stay st.mem.ids w' Fact ∧ Goes P F (fun w => Inv w ∧ Fact w) (putAM i st v j b o))
    (hsub : ∀ o, anyM st = sub js (st.mem.set j (b, o)) := by intros; kernel_rfl) (ha : askA i st = some (f, args) := by kernel_rfl) (hw : anyLone i st = true := by kernel_rfl) (hf : okf P f = true := by kernel_rfl) (hj : (st.mem[j]?).map (·.1) = some b := by kernel_rfl) : Goes P F Inv st := by
  obtain ⟨o0, hb⟩ : ∃ o0, st.mem[j]? = some (b, o0) := by
    cases hq : st.mem[j]? with
    | none => rw [hq] at hj; cases hj
    | some q => rw [hq] at hj; obtain ⟨b', o0⟩ := q; cases hj; exact ⟨o0, rfl⟩
  refine Goes.callA i f args (fun ops m0 n l k ht w hm hn hI h0 => (hr w hm hn hI).mono fun e w' ⟨v, o, Fact, he, hc, hbo, hS, hG⟩ => ⟨v, _, st.mem.set j (b, o), he, ?_, ?_, ?_, ?_, hG⟩) ha hw hf
  · have h1 : m0 = sub js (st.mem.set j (b, o)) := by rw [← hsub o]; unfold anyM; rw [ht]
    rw [h1]
    exact sub_holds (holds_set hm hn hb hbo (fun i hi hne => hc.block i hi (by simpa using hne)))
  · exact holds_set hm hn hb hbo (fun i hi hne => hc.block i hi (by simpa using hne))
  · rw [ids_set hb]; exact hn
  · rw [ids_set hb]
    exact (hI.ch ⟨hc.os, hc.tape, hc.output, hc.size, fun i hi hx => hc.block i hi (fun hm => hx (by rw [List.mem_singleton] at hm; rw [hm]; exact ids_get hb))⟩ (fun x hx => .inl hx)).and hS
theorem Goes.callA2 (i j b : Nat) (f : FuncId) (args : Array Value) (js : List Nat) (v : Value) (o : Obj)
    (hr : ∀ w, Holds st.mem w → Stay st.mem.ids w Inv → Calls P f args w fun e w' => e = .returned v ∧ Ch [b] w w' ∧ w'.heap[b]? = some o) (h : Goes P F Inv (putAM i st v j b o))
    (hsub : ∀ o, anyM st = sub js (st.mem.set j (b, o)) := by intros; kernel_rfl) (ha : askA i st = some (f, args) := by kernel_rfl) (hw : anyLone i st = true := by kernel_rfl) (hf : okf P f = true := by kernel_rfl) (hj : (st.mem[j]?).map (·.1) = some b := by kernel_rfl) : Goes P F Inv st :=
  Goes.callA1 i j b f args js (fun w hm _ hI => (hr w hm hI).mono fun _ _ ⟨h1, h2, h3⟩ => ⟨v, o, fun _ => True, h1, h2, h3, fun _ _ => trivial, h.inv fun _ h => h.1⟩) hsub ha hw hf hj
variable {q0 b c : Nat} {ts : List Tk}
theorem Goes.callAT (i : Nat) (L : List Nat) (f : FuncId) (args : Array Value) (js : List Nat) (r : TD × RS)
    (hr : ∀ w, Holds st.mem w → Stay st.mem.ids w Inv → (∀ x ∈ st.mem.ids ++ L, x < w.heap.size) → Calls P f args w (Res (st.mem.ids ++ L) w q0 b c ts r)) (hL : ∀ w, Inv w → ∀ x ∈ L, x < w.heap.size)
    (h : ∀ u : T6, u.d = r.1.d → Goes P F (fun w => Inv w ∧ Stay L w (fun w => Nd w u.nd r.1.t)) (putAM i st u.v 0 q0 (rdS b c ts r.2)))
    (hsub : ∀ o, anyM st = sub js (st.mem.set 0 (q0, o)) := by intros; kernel_rfl) (ha : askA i st = some (f, args) := by kernel_rfl) (hw : anyLone i st = true := by kernel_rfl) (hf : okf P f = true := by kernel_rfl) (hj : (st.mem[0]?).map (·.1) = some q0 := by kernel_rfl) : Goes P F Inv st :=
  Goes.callA1 i 0 q0 f args js (fun w hm _ hI => (hr w hm hI (fun x hx => (List.mem_append.1 hx).elim (ids_lt hm x) (hL w hI.now x))).mono fun _ _ ⟨u, h1, h2, h3, h4, h5⟩ => ⟨u.v, _, _, h1, h3, h4, h5.split, h u h2⟩) hsub ha hw hf hj
end
end Go.Proofs.YtommhgmlblecnaaGreatDoor
namespace Go.Proofs.YtommhgmlblecnaaGreatDoor
open Go Go.RowKit

section
variable {q0 b c : Nat} {ts : List Tk} (hE : Toks ts) {s : RS} {w : World} {L : List Nat}
include hE
/-- What is known at the head of the arguments' loop. -/
structure AL where
  k : Nat
  l : List TD
  s : RS
  us : List T6
  a : Option Addr
  c : Nat
  N : Nat
  m : Bool
/-- Where an argument is one too much, nothing comes behind it. -/
theorem arg_end {ex : RS → TD × RS} (hg : Good ts ex) {l : List TD} {s2 : RS} (hi : s2.i < ts.length) (hl : l.length = 8) : (tkAt ts (ex (bif l.length == 8 then rFail ts 76 (tkAt ts s2).a (rBeg ts s2) else rBeg ts s2)).2).k = 0 := by
  have h1 := mv_arg hE hi l.length
  refine (hg _ h1.lt).fin ?_
  rw [hl]
  exact hE.last
set_option maxRecDepth 100000 in
set_option maxHeartbeats 1000000 in
seal rn Goes ans atEnd put0 putM opened putA0 oneSt st0 keep in
theorem args_any (h : At w q0 b c ts s) (hi : s.i < ts.length) (hq : q0 ∈ L) (hL : ∀ x ∈ L, x < w.heap.size) {n : Nat} (hn : n ≤ 300) {ex : RS → TD × RS} (hx : ExC q0 b c ts n ex) (hg : Good ts ex) :
    Calls Tryz.prog 231 #[.pointer (some ⟨q0, 0, none⟩), .int .i64 n] w fun e w' => ∃ kv us, e = .returned kv ∧ Ch [q0] w w' ∧ w'.heap[q0]? = some (rdS b c ts (argsP ts ex s).2) ∧ us.length ≤ 9 ∧ Stay L w' (fun w => Kv w kv us ∧ Tv L w us (argsP ts ex s).1) := by
  have hw1 := wrap_n (n := n) (by omega)
  obtain ⟨Z, hZ⟩ : ∃ Z, argR ts ex (ts.length + 1) [] s = Z := ⟨_, rfl⟩
  have hZ2 : argsP ts ex s = (Z.1, rWant ts [41] Z.2) := by unfold argsP; rw [hZ]
  rw [hZ2]
  refine Goes.begin Tryz.func231 [(q0, rdS b c ts s)] (fun w => Tks w b c ts) (Holds.one h.rd) (by simp [Mem.ids]) h.stay ?_
  refine Goes.run [] [] trivial ?_
  refine Goes.loop (α := AL) 30 (fun q => [(0, .pointer (some ⟨q0, 0, none⟩)), (1, .int .i64 n), (5, .slice q.a q.N q.c), (6, .bool q.m)])
    (fun q => [(q0, rdS b c ts q.s)])
    (fun q w' => (Ch [q0] w w' ∧ Tks w' b c ts) ∧ RowT 71 6 T6.cs w.heap.size L (.slice q.a q.N q.c) q.us q.l w')
    (fun q => ((bif q.m then argR ts ex q.k q.l q.s else (q.l, q.s)) = Z ∧ Mv ts s q.s ∧ (q.m = true → ts.length + 1 ≤ q.k + q.s.i ∧ q.l.length ≤ 8)) ∧ q.us.length ≤ 9 ∧ q.us.length = q.l.length ∧ q.N = q.us.length) (fun q => bif q.m then ts.length - q.s.i + 1 else 0) ⟨ts.length + 1, [], s, [], none, 0, 0, true⟩ ⟨⟨hZ, Mv.refl hi, fun _ => ⟨Nat.le_add_right _ _, Nat.zero_le _⟩⟩, Nat.zero_le _, rfl, rfl⟩ (fun w' h => ⟨h, RowT.nil⟩) ?_
  rintro ⟨k, l, s2, us, a, cc, N, more⟩ J ⟨⟨hch, hmv, hk⟩, hus, hlen, hN⟩ back
  simp only at hch hmv hk hus hlen hN back ⊢
  subst hN
  cases more with
  | false =>
    refine Goes.run [0, 0] [(false, false)] ⟨rfl, trivial⟩ ?_
    refine Goes.call2 0 q0 44 #[.pointer (some ⟨q0, 0, none⟩), strV [41]] (.tuple #[]) (rdS b c ts (rWant ts [41] s2)) (fun w' hm hI => want_any ⟨hm.get 0, hI.now.1.2⟩ hE hmv.lt [41]) ?_
    refine Goes.run [] [] trivial ?_
    refine Goes.ret [] (.slice a us.length cc) fun w' hm hI => ⟨_, us, rfl, hI.now.1.1, ?_, hus, fun w2 hc2 => ⟨kv_row (own_ch hI.now.2.1 hc2 hL), ?_⟩⟩
    · rw [← hch]; exact hm.get 0
    · rw [← hch]
      refine ⟨hI.now.2.2.1, fun i u t h1 h2 w3 hc3 => ?_⟩
      exact hI.now.2.2.2 i u t h1 h2 w3 ((hc2.trans hc3 (fun x hx => .inl hx)).mono (fun x hx => List.mem_append_right _ hx))
  | true =>
    obtain ⟨hk, hl8⟩ := hk rfl
    obtain ⟨k', rfl⟩ : ∃ k', k = k' + 1 := ⟨k - 1, by have := hmv.lt; omega⟩
    obtain ⟨t, ht⟩ : ∃ t, tkAt ts s2 = t := ⟨_, rfl⟩
    have h1 := mv_beg hE hmv.lt
    have hA := mv_arg hE hmv.lt l.length
    obtain ⟨s3, hs3⟩ : ∃ s3, (bif l.length == 8 then rFail ts 76 (tkAt ts s2).a (rBeg ts s2) else rBeg ts s2) = s3 := ⟨_, rfl⟩
    obtain ⟨r, hr⟩ : ∃ r, ex s3 = r := ⟨_, rfl⟩
    rw [hs3] at hA
    have hB := hA.trans (hg _ hA.lt)
    rw [hr] at hB
    have hch' : (bif (tkAt ts r.2).is [[44]] then argR ts ex k' (l ++ [r.1]) (rNext r.2) else (l ++ [r.1], r.2)) = Z := by
      rw [← hch]
      simp only [cond_true]
      conv => rhs; unfold argR
      rw [hs3, hr]
    have hend : l.length = 8 → (tkAt ts r.2).k = 0 := fun e => by
      have := arg_end hE hg (l := l) hmv.lt e
      rw [hs3, hr] at this
      exact this
    refine Goes.run [0, 1] [(true, true)] ⟨rfl, trivial⟩ ?_
    refine Goes.call2 0 q0 72 #[.pointer (some ⟨q0, 0, none⟩)] (tkAt ts s2).v (rdS b c ts (rBeg ts s2)) (fun w' hm hI => beg_any ⟨hm.get 0, hI.now.1.2⟩ hE hmv.lt) ?_
    rw [ht] at hs3 ⊢
    have ex1 : ∀ w', ((Ch [q0] w w' ∧ Tks w' b c ts) ∧ RowT 71 6 T6.cs w.heap.size L (.slice a us.length cc) us l w') → ∀ x ∈ (Value.slice a us.length cc).ownBlock.toList ++ L, x < w'.heap.size := fun w' hI => hI.2.lt (hI.1.1.lt hL)
    cases h8 : ((us.length : Int) == 8) with
    | true =>
      have e8 : l.length = 8 := by have : (us.length : Int) = 8 := by simpa using h8
                                   omega
      have es3 : s3 = rFail ts 76 t.a (rBeg ts s2) := by rw [← hs3, e8]; rfl
      refine Goes.run1 [1, 1, 1] [((us.length : Int) == 8, true)] ⟨h8, trivial⟩ fun g1 => ?_
      refine Goes.call2 0 q0 71 #[.pointer (some ⟨q0, 0, none⟩), .int .i64 76, .int .i64 t.a] (.tuple #[]) (rdS b c ts s3) (fun w' hm hI => es3 ▸ fail_any ⟨hm.get 0, hI.now.1.2⟩ hE 76 t.a) ?_
      refine Goes.run [] [] trivial ?_
      refine Goes.slot 23 (.int .i64 (n + 1 : Nat)) (u := .int .i64 (IntKind.i64.wrap ((n : Int) + 1))) (congrArg _ hw1) ?_
      refine Goes.callT ((Value.slice a us.length cc).ownBlock.toList ++ L) 42 #[.pointer (some ⟨q0, 0, none⟩), .int .i64 (n + 1 : Nat)] r (fun w' hm hI hlt => hr ▸ hx w' s3 _ ⟨hm.get 0, hI.now.1.2⟩ hA.lt (List.mem_append_right _ (List.mem_append_right _ hq)) hlt) ex1 fun u hu => ?_
      refine Goes.run1 [] [] trivial fun g2 => ?_
      refine Goes.appT (I0 := fun w' => Ch [q0] w w' ∧ Tks w' b c ts) w.heap.size 150 71 150 6 72 T6.cs L (.slice a us.length cc) us l u r.1 2 g2 71 (0, 0) (fun w' hI => ⟨hI.1, hI.2, hI.1.1.1.size⟩) hu (base_stay h) rfl (cs_one u) (by omega) (by decide) fun a' c' => ?_
      refine Goes.run [] [] trivial ?_
      refine Goes.call2 0 q0 73 #[.pointer (some ⟨q0, 0, none⟩), strV [44]] (.bool ((tkAt ts r.2).is [[44]])) (rdS b c ts (rTakes ts [44] r.2)) (fun w' hm hI => takes_any ⟨hm.get 0, hI.now.1.2⟩ hE hB.lt [44]) ?_
      have his : (tkAt ts r.2).is [[44]] = false := by
        cases his : (tkAt ts r.2).is [[44]] with
        | false => rfl
        | true => have := hend e8; rw [is_kind his] at this; cases this
      have et : rTakes ts [44] r.2 = r.2 := by simp [rTakes, his]
      rw [his] at hch' ⊢
      rw [et]
      refine Goes.run [] [] trivial ?_
      refine Goes.keep 1 ?_
      have hp : ((bif false then argR ts ex 0 (l ++ [r.1]) r.2 else (l ++ [r.1], r.2)) = Z ∧ Mv ts s r.2 ∧ (false = true → ts.length + 1 ≤ 0 + r.2.i ∧ (l ++ [r.1]).length ≤ 8)) ∧ (us ++ [u]).length ≤ 9 ∧ (us ++ [u]).length = (l ++ [r.1]).length ∧ us.length + 1 = (us ++ [u]).length := ⟨⟨hch', hmv.trans hB, fun h => by cases h⟩, by simp; omega, by simp [hlen], by simp⟩
      exact Goes.inv (fun w' h => h) (back ⟨0, l ++ [r.1], r.2, us ++ [u], a', c', us.length + 1, false⟩ _ hp (Nat.succ_pos _) (by kernel_rfl) (by kernel_rfl) (by kernel_rfl))
    | false =>
      have e8 : l.length ≠ 8 := fun e => by
        have : (us.length : Int) = 8 := by omega
        rw [this] at h8
        cases h8
      have es3 : s3 = rBeg ts s2 := by rw [← hs3]; have : (l.length == 8) = false := by simpa using e8
                                       rw [this]; rfl
      rw [← es3]
      refine Goes.run1 [1, 0] [((us.length : Int) == 8, false)] ⟨h8, trivial⟩ fun g1 => ?_
      refine Goes.slot 23 (.int .i64 (n + 1 : Nat)) (u := .int .i64 (IntKind.i64.wrap ((n : Int) + 1))) (congrArg _ hw1) ?_
      refine Goes.callT ((Value.slice a us.length cc).ownBlock.toList ++ L) 42 #[.pointer (some ⟨q0, 0, none⟩), .int .i64 (n + 1 : Nat)] r (fun w' hm hI hlt => hr ▸ hx w' s3 _ ⟨hm.get 0, hI.now.1.2⟩ hA.lt (List.mem_append_right _ (List.mem_append_right _ hq)) hlt) ex1 fun u hu => ?_
      refine Goes.run1 [] [] trivial fun g2 => ?_
      refine Goes.appT (I0 := fun w' => Ch [q0] w w' ∧ Tks w' b c ts) w.heap.size 150 71 150 6 72 T6.cs L (.slice a us.length cc) us l u r.1 2 g2 71 (0, 0) (fun w' hI => ⟨hI.1, hI.2, hI.1.1.1.size⟩) hu (base_stay h) rfl (cs_one u) (by omega) (by decide) fun a' c' => ?_
      refine Goes.run [] [] trivial ?_
      refine Goes.call2 0 q0 73 #[.pointer (some ⟨q0, 0, none⟩), strV [44]] (.bool ((tkAt ts r.2).is [[44]])) (rdS b c ts (rTakes ts [44] r.2)) (fun w' hm hI => takes_any ⟨hm.get 0, hI.now.1.2⟩ hE hB.lt [44]) ?_
      cases his : (tkAt ts r.2).is [[44]] with
      | false =>
        have et : rTakes ts [44] r.2 = r.2 := by simp [rTakes, his]
        rw [his] at hch'
        rw [et]
        refine Goes.run [] [] trivial ?_
        refine Goes.keep 1 ?_
        have hp : ((bif false then argR ts ex 0 (l ++ [r.1]) r.2 else (l ++ [r.1], r.2)) = Z ∧ Mv ts s r.2 ∧ (false = true → ts.length + 1 ≤ 0 + r.2.i ∧ (l ++ [r.1]).length ≤ 8)) ∧ (us ++ [u]).length ≤ 9 ∧ (us ++ [u]).length = (l ++ [r.1]).length ∧ us.length + 1 = (us ++ [u]).length := ⟨⟨hch', hmv.trans hB, fun h => by cases h⟩, by simp; omega, by simp [hlen], by simp⟩
        exact Goes.inv (fun w' h => h) (back ⟨0, l ++ [r.1], r.2, us ++ [u], a', c', us.length + 1, false⟩ _ hp (Nat.succ_pos _) (by kernel_rfl) (by kernel_rfl) (by kernel_rfl))
      | true =>
        have et : rTakes ts [44] r.2 = rNext r.2 := by simp [rTakes, his]
        have hC := hB.trans (mv_is hE hB.lt his)
        have hadv : s2.i + 1 ≤ (rNext r.2).i := Nat.succ_le_succ hB.le
        rw [his] at hch'
        rw [et]
        refine Goes.run [] [] trivial ?_
        refine Goes.keep 1 ?_
        have hp : ((bif true then argR ts ex k' (l ++ [r.1]) (rNext r.2) else (l ++ [r.1], rNext r.2)) = Z ∧ Mv ts s (rNext r.2) ∧ (true = true → ts.length + 1 ≤ k' + (rNext r.2).i ∧ (l ++ [r.1]).length ≤ 8)) ∧ (us ++ [u]).length ≤ 9 ∧ (us ++ [u]).length = (l ++ [r.1]).length ∧ us.length + 1 = (us ++ [u]).length := ⟨⟨hch', hmv.trans hC, fun _ => ⟨by omega, by simp; omega⟩⟩, by simp; omega, by simp [hlen], by simp⟩
        have hlt : ts.length - (rNext r.2).i + 1 < ts.length - s2.i + 1 := by have := hmv.lt; omega
        exact Goes.inv (fun w' h => h) (back ⟨k', l ++ [r.1], rNext r.2, us ++ [u], a', c', us.length + 1, true⟩ _ hp hlt (by kernel_rfl) (by kernel_rfl) (by kernel_rfl))
end
end Go.Proofs.YtommhgmlblecnaaGreatDoor
namespace Go.Proofs.YtommhgmlblecnaaGreatDoor
open Go Go.RowKit

/-- The tree of nothing. -/
theorem nd_zero {w : World} : Nd w (nv 0 [] 0 (.slice none 0 0) 0) (.mk 0 [] 0 [] 0) := .mk 0 [] 0 [] 0 none 0 (fun _ => undef) (by decide) (fun i hi => by simp at hi) (fun i t ht => by simp at ht)
section
variable {q0 b c : Nat} {ts : List Tk} (hE : Toks ts) {s : RS} {w : World} {L : List Nat}
include hE
theorem leaf_any (h : At w q0 b c ts s) (hq : q0 ∈ L) (hL : ∀ x ∈ L, x < w.heap.size) (k : Int) (x : List UInt8) (n p : Int) : Calls Tryz.prog 110 #[.pointer (some ⟨q0, 0, none⟩), nv k x n (.slice none 0 0) p, .slice none 0 0] w (Res L w q0 b c ts (mkT ts k x n p [] s)) := made_any h hE hq hL k x n p (.inl ⟨rfl, rfl⟩) Tv.nil (by simp)
set_option maxRecDepth 100000 in
seal rn Goes ans atEnd put0 putM opened putA0 oneSt st0 keep in
theorem use_any (h : At w q0 b c ts s) (hi : s.i < ts.length) (hq : q0 ∈ L) (hL : ∀ x ∈ L, x < w.heap.size) {n : Nat} (hn : n ≤ 300) {ex : RS → TD × RS} (hx : ExC q0 b c ts n ex) (hg : Good ts ex) (t : Tk) :
    Calls Tryz.prog 228 #[.pointer (some ⟨q0, 0, none⟩), t.v, .int .i64 n] w (Res L w q0 b c ts (useP ts ex t s)) := by
  obtain ⟨Z, hZ⟩ : ∃ Z, useP ts ex t s = Z := ⟨_, rfl⟩
  rw [hZ]
  unfold useP at hZ
  refine Goes.begin Tryz.func228 [(q0, rdS b c ts s)] (fun w => Tks w b c ts) (Holds.one h.rd) (by simp [Mem.ids]) h.stay ?_
  refine Goes.run2 [] [] trivial fun g1 g2 => ?_
  refine Goes.call2 0 q0 73 #[.pointer (some ⟨q0, 0, none⟩), strV [40]] (.bool ((tkAt ts s).is [[40]])) (rdS b c ts (rTakes ts [40] s)) (fun w' hm hI => takes_any ⟨hm.get 0, hI.now.2⟩ hE hi [40]) ?_
  cases his : (tkAt ts s).is [[40]] with
  | false =>
    rw [his] at hZ
    have et : rTakes ts [40] s = s := by simp [rTakes, his]
    rw [et]
    refine Goes.run [1, 1, 1] [(true, true)] ⟨rfl, trivial⟩ ?_
    refine Goes.callT L 110 #[.pointer (some ⟨q0, 0, none⟩), nv 10 t.tx 0 (.slice none 0 0) t.a, .slice none 0 0] (mkT ts 10 t.tx 0 t.a [] s) (fun w' hm hI hlt => leaf_any hE ⟨hm.get 0, hI.now.2⟩ (List.mem_append_right _ hq) hlt 10 t.tx 0 t.a) (fun w' hI => hI.1.lt hL) fun v hv => ?_
    refine Goes.run [2] [] trivial ?_
    subst hZ
    exact Goes.ret [2] v.v fun w' hm hI => ⟨v, rfl, hv, hI.now.1.1, hm.get 0, hI.now.2⟩
  | true =>
    rw [his] at hZ
    have et : rTakes ts [40] s = rNext s := by simp [rTakes, his]
    have h1 := mv_is hE hi his
    rw [et]
    refine Goes.run [0] [(false, false)] ⟨rfl, trivial⟩ ?_
    refine Goes.call1 0 q0 231 #[.pointer (some ⟨q0, 0, none⟩), .int .i64 n] fun w' hm _ hI => (args_any hE (L := _ ++ L) ⟨hm.get 0, hI.now.2⟩ h1.lt (List.mem_append_right _ hq) (fun x hx => (List.mem_append.1 hx).elim (ids_lt hm x) (hI.now.1.lt hL x)) hn hx hg).mono fun e w2 ⟨kv, us, e1, e2, e3, e4, e5⟩ => ⟨kv, _, _, e1, e2, e3, e5.split, ?_⟩
    refine Goes.run [1, 1] [] trivial ?_
    refine Goes.callT L 110 #[.pointer (some ⟨q0, 0, none⟩), nv 11 t.tx 0 (.slice none 0 0) t.a, kv] (mkT ts 11 t.tx 0 t.a (argsP ts ex (rNext s)).1 (argsP ts ex (rNext s)).2) (fun w' hm hI hlt => made_any ⟨hm.get 0, hI.now.1.2⟩ hE (List.mem_append_right _ hq) hlt 11 t.tx 0 t.a hI.snd.now.now.1 ⟨hI.snd.now.now.2.1, fun i u t h1 h2 => (hI.snd.mono (fun w h => h.mono (fun w h => (h.2.2 i u t h1 h2).now))).join⟩ (by omega)) (fun w' hI => hI.1.1.lt hL) fun v hv => ?_
    refine Goes.run [2] [] trivial ?_
    subst hZ
    exact Goes.ret [2] v.v fun w' hm hI => ⟨v, rfl, hv, hI.now.1.1.1, hm.get 0, hI.now.2⟩
set_option maxRecDepth 100000 in
set_option maxHeartbeats 1000000 in
seal rn Goes ans atEnd put0 putM opened putA0 oneSt st0 keep putAM in
theorem atom_any {n : Nat} {ex : RS → TD × RS} (hx : n ≤ 300 → ExC q0 b c ts n ex) (hg : Good ts ex) : OpC q0 b c ts 224 n (atomP ts ex) := by
  intro w s L h hi hn hq hL
  obtain ⟨t, ht⟩ : ∃ t, tkAt ts s = t := ⟨_, rfl⟩
  obtain ⟨s1, hs1⟩ : ∃ s1, rTake ts s = s1 := ⟨_, rfl⟩
  have h1 := mv_take hE hi
  rw [hs1] at h1
  have hn3 : t.k ≠ 0 → n ≤ 300 := fun hk => by
    rcases hn with hn | ⟨-, h0⟩
    · exact hn
    · rw [ht] at h0; exact absurd h0 hk
  unfold atomP
  simp only
  rw [ht, hs1]
  refine Goes.begin Tryz.func224 [(q0, rdS b c ts s)] (fun w => Tks w b c ts) (Holds.one h.rd) (by simp [Mem.ids]) h.stay ?_
  refine Goes.run1 [] [] trivial fun g1 => ?_
  refine Goes.call2 0 q0 70 #[.pointer (some ⟨q0, 0, none⟩)] (tkAt ts s).v (rdS b c ts s1) (fun w' hm hI => hs1 ▸ take_any ⟨hm.get 0, hI.now.2⟩ hE hi) ?_
  rw [ht]
  cases h6 : (t.k == 6) with
  | true =>
    refine Goes.run1 [2, 2, 1, 2, 2] [(t.k == 6, true)] ⟨h6, trivial⟩ fun g2 => ?_
    refine Goes.callT L 110 #[.pointer (some ⟨q0, 0, none⟩), nv 5 [] t.n (.slice none 0 0) t.a, .slice none 0 0] (mkT ts 5 [] t.n t.a [] s1) (fun w' hm hI hlt => leaf_any hE ⟨hm.get 0, hI.now.2⟩ (List.mem_append_right _ hq) hlt 5 [] t.n t.a) (fun w' hI => hI.1.lt hL) fun v hv => ?_
    refine Goes.run [1] [] trivial ?_
    exact Goes.ret [1] v.v fun w' hm hI => ⟨v, rfl, hv, hI.now.1.1, hm.get 0, hI.now.2⟩
  | false =>
  cases h5 : (t.k == 5) with
  | true =>
    refine Goes.run1 [2, 2, 0, 1, 2, 2] [(t.k == 5, true), (t.k == 6, false)] ⟨h5, h6, trivial⟩ fun g2 => ?_
    refine Goes.callT L 110 #[.pointer (some ⟨q0, 0, none⟩), nv 6 [] t.n (.slice none 0 0) t.a, .slice none 0 0] (mkT ts 6 [] t.n t.a [] s1) (fun w' hm hI hlt => leaf_any hE ⟨hm.get 0, hI.now.2⟩ (List.mem_append_right _ hq) hlt 6 [] t.n t.a) (fun w' hI => hI.1.lt hL) fun v hv => ?_
    refine Goes.run [1] [] trivial ?_
    exact Goes.ret [1] v.v fun w' hm hI => ⟨v, rfl, hv, hI.now.1.1, hm.get 0, hI.now.2⟩
  | false =>
  cases h4 : (t.k == 4) with
  | true =>
    refine Goes.run1 [2, 2, 0, 0, 1, 2, 2] [(t.k == 4, true), (t.k == 5, false), (t.k == 6, false)] ⟨h4, h5, h6, trivial⟩ fun g2 => ?_
    refine Goes.callT L 110 #[.pointer (some ⟨q0, 0, none⟩), nv 7 t.tx 0 (.slice none 0 0) t.a, .slice none 0 0] (mkT ts 7 t.tx 0 t.a [] s1) (fun w' hm hI hlt => leaf_any hE ⟨hm.get 0, hI.now.2⟩ (List.mem_append_right _ hq) hlt 7 t.tx 0 t.a) (fun w' hI => hI.1.lt hL) fun v hv => ?_
    refine Goes.run [1] [] trivial ?_
    exact Goes.ret [1] v.v fun w' hm hI => ⟨v, rfl, hv, hI.now.1.1, hm.get 0, hI.now.2⟩
  | false =>
  cases h2 : (t.k == 2) with
  | true =>
    have hk := hn3 (by have : t.k = 2 := by simpa using h2
                       omega)
    refine Goes.run1 [2, 2, 0, 0, 0, 1, 1, 2] [(t.k == 2, true), (t.k == 2, true), (t.k == 4, false), (t.k == 5, false), (t.k == 6, false)] ⟨h2, h2, h4, h5, h6, trivial⟩ fun g2 => ?_
    refine Goes.callT L 228 #[.pointer (some ⟨q0, 0, none⟩), t.v, .int .i64 n] (useP ts ex t s1) (fun w' hm hI hlt => use_any hE ⟨hm.get 0, hI.now.2⟩ h1.lt (List.mem_append_right _ hq) hlt hk (hx hk) hg t) (fun w' hI => hI.1.lt hL) fun v hv => ?_
    refine Goes.run [1] [] trivial ?_
    exact Goes.ret [1] v.v fun w' hm hI => ⟨v, rfl, hv, hI.now.1.1, hm.get 0, hI.now.2⟩
  | false =>
  cases h3 : (t.k == 3) with
  | true =>
    have hk := hn3 (by have : t.k = 3 := by simpa using h3
                       omega)
    refine Goes.run1 [2, 2, 0, 0, 0, 0, 1, 2] [(t.k == 3, true), (t.k == 2, false), (t.k == 4, false), (t.k == 5, false), (t.k == 6, false)] ⟨h3, h2, h4, h5, h6, trivial⟩ fun g2 => ?_
    refine Goes.callT L 228 #[.pointer (some ⟨q0, 0, none⟩), t.v, .int .i64 n] (useP ts ex t s1) (fun w' hm hI hlt => use_any hE ⟨hm.get 0, hI.now.2⟩ h1.lt (List.mem_append_right _ hq) hlt hk (hx hk) hg t) (fun w' hI => hI.1.lt hL) fun v hv => ?_
    refine Goes.run [1] [] trivial ?_
    exact Goes.ret [1] v.v fun w' hm hI => ⟨v, rfl, hv, hI.now.1.1, hm.get 0, hI.now.2⟩
  | false =>
  refine Goes.run2 [2, 2, 0, 0, 0, 0, 0, 2] [(t.k == 3, false), (t.k == 2, false), (t.k == 4, false), (t.k == 5, false), (t.k == 6, false)] ⟨h3, h2, h4, h5, h6, trivial⟩ fun g2 g3 => ?_
  refine Goes.call0 76 #[t.v, .slice (some ⟨g3, 0, none⟩) ([wTrue] : List (List UInt8)).length 1] (.bool (t.is [wTrue])) (fun w' hm _ => is_any t (z := (0, 0)) (hm.get 3) (by simp)) ?_
  cases hT : t.is [wTrue] with
  | true =>
    refine Goes.run [1, 2] [(true, true)] ⟨rfl, trivial⟩ ?_
    refine Goes.callT L 110 #[.pointer (some ⟨q0, 0, none⟩), nv 8 [] 1 (.slice none 0 0) t.a, .slice none 0 0] (mkT ts 8 [] 1 t.a [] s1) (fun w' hm hI hlt => leaf_any hE ⟨hm.get 0, hI.now.2⟩ (List.mem_append_right _ hq) hlt 8 [] 1 t.a) (fun w' hI => hI.1.lt hL) fun v hv => ?_
    refine Goes.run [1] [] trivial ?_
    exact Goes.ret [1] v.v fun w' hm hI => ⟨v, rfl, hv, hI.now.1.1, hm.get 0, hI.now.2⟩
  | false =>
  refine Goes.run1 [0, 2] [(false, false)] ⟨rfl, trivial⟩ fun g4 => ?_
  refine Goes.call0 76 #[t.v, .slice (some ⟨g4, 0, none⟩) ([wFalse] : List (List UInt8)).length 1] (.bool (t.is [wFalse])) (fun w' hm _ => is_any t (z := (0, 0)) (hm.get 4) (by simp)) ?_
  cases hF : t.is [wFalse] with
  | true =>
    refine Goes.run [1, 2] [(true, true)] ⟨rfl, trivial⟩ ?_
    refine Goes.callT L 110 #[.pointer (some ⟨q0, 0, none⟩), nv 8 [] 0 (.slice none 0 0) t.a, .slice none 0 0] (mkT ts 8 [] 0 t.a [] s1) (fun w' hm hI hlt => leaf_any hE ⟨hm.get 0, hI.now.2⟩ (List.mem_append_right _ hq) hlt 8 [] 0 t.a) (fun w' hI => hI.1.lt hL) fun v hv => ?_
    refine Goes.run [1] [] trivial ?_
    exact Goes.ret [1] v.v fun w' hm hI => ⟨v, rfl, hv, hI.now.1.1, hm.get 0, hI.now.2⟩
  | false =>
  refine Goes.run1 [0, 2] [(false, false)] ⟨rfl, trivial⟩ fun g5 => ?_
  refine Goes.call0 76 #[t.v, .slice (some ⟨g5, 0, none⟩) ([wFeed] : List (List UInt8)).length 1] (.bool (t.is [wFeed])) (fun w' hm _ => is_any t (z := (0, 0)) (hm.get 5) (by simp)) ?_
  cases hD : t.is [wFeed] with
  | true =>
    obtain ⟨lb, hlb⟩ : ∃ lb, tkAt ts s1 = lb := ⟨_, rfl⟩
    have k1 := mv_kind hE h1.lt 7
    simp only [Bool.or_self, cond_false, cond_true]
    rw [hlb]
    refine Goes.run [1] [(true, true)] ⟨rfl, trivial⟩ ?_
    refine Goes.open [2] ?_
    refine Goes.run [0, 1, 4, 5, 0] [] trivial ?_
    refine Goes.callA2 2 0 q0 41 #[.pointer (some ⟨q0, 0, none⟩), .int .i64 7] [2] (tkAt ts s1).v (rdS b c ts (rKind ts 7 s1)) (fun w' hm hI => kind_any ⟨hm.get 0, hI.now.2⟩ hE h1.lt 7) ?_
    rw [hlb]
    refine Goes.run [3, 6] [] trivial ?_
    refine Goes.callAT 7 L 110 #[.pointer (some ⟨q0, 0, none⟩), nv 9 lb.tx 0 (.slice none 0 0) t.a, .slice none 0 0] [2] (mkT ts 9 lb.tx 0 t.a [] (rKind ts 7 s1)) (fun w' hm hI hlt => leaf_any hE ⟨hm.get 0, hI.now.2⟩ (List.mem_append_right _ hq) hlt 9 lb.tx 0 t.a) (fun w' hI => hI.1.lt hL) fun v hv => ?_
    refine Goes.oneA 8 1 [2] ?_
    refine Goes.run [] [] trivial ?_
    exact Goes.ret [1] v.v fun w' hm hI => ⟨v, rfl, hv, hI.now.1.1, hm.get 0, hI.now.2⟩
  | false =>
  refine Goes.run1 [0, 2] [(false, false)] ⟨rfl, trivial⟩ fun g6 => ?_
  refine Goes.call0 76 #[t.v, .slice (some ⟨g6, 0, none⟩) ([wPick] : List (List UInt8)).length 1] (.bool (t.is [wPick])) (fun w' hm _ => is_any t (z := (0, 0)) (hm.get 6) (by simp)) ?_
  cases hP : t.is [wPick] with
  | true =>
    have hk := hn3 (by rw [is_kind hP]; decide)
    refine Goes.run [1, 2] [(true, true)] ⟨rfl, trivial⟩ ?_
    refine Goes.callT L 229 #[.pointer (some ⟨q0, 0, none⟩), t.v, .int .i64 n] (pickP ts ex t s1) (fun w' hm hI hlt => pick_any hE ⟨hm.get 0, hI.now.2⟩ h1.lt (List.mem_append_right _ hq) hlt hk (hx hk) hg t) (fun w' hI => hI.1.lt hL) fun v hv => ?_
    refine Goes.run [1] [] trivial ?_
    exact Goes.ret [1] v.v fun w' hm hI => ⟨v, rfl, hv, hI.now.1.1, hm.get 0, hI.now.2⟩
  | false =>
  refine Goes.run1 [0, 2] [(false, false)] ⟨rfl, trivial⟩ fun g7 => ?_
  refine Goes.call0 76 #[t.v, .slice (some ⟨g7, 0, none⟩) ([[40]] : List (List UInt8)).length 1] (.bool (t.is [[40]])) (fun w' hm _ => is_any t (z := (0, 0)) (hm.get 7) (by simp)) ?_
  cases hO : t.is [[40]] with
  | true =>
    have hk := hn3 (by rw [is_kind hO]; decide)
    refine Goes.run [1] [(true, true)] ⟨rfl, trivial⟩ ?_
    refine Goes.callT L 230 #[.pointer (some ⟨q0, 0, none⟩), .int .i64 n] (closedP ts ex s1) (fun w' hm hI hlt => closed_any hE ⟨hm.get 0, hI.now.2⟩ h1.lt (List.mem_append_right _ hq) hlt hk (hx hk) hg) (fun w' hI => hI.1.lt hL) fun v hv => ?_
    refine Goes.run [1] [] trivial ?_
    exact Goes.ret [1] v.v fun w' hm hI => ⟨v, rfl, hv, hI.now.1.1, hm.get 0, hI.now.2⟩
  | false =>
    refine Goes.run [0, 2] [(false, false)] ⟨rfl, trivial⟩ ?_
    refine Goes.call2 0 q0 71 #[.pointer (some ⟨q0, 0, none⟩), .int .i64 74, .int .i64 t.a] (.tuple #[]) (rdS b c ts (rFail ts 74 t.a s1)) (fun w' hm hI => fail_any ⟨hm.get 0, hI.now.2⟩ hE 74 t.a) ?_
    refine Goes.run [1] [] trivial ?_
    exact Goes.ret [1] (T6.v ⟨0, [], 0, none, 0, 0, 0, 0⟩) fun w' hm hI => ⟨⟨0, [], 0, none, 0, 0, 0, 0⟩, rfl, rfl, hI.now.1, hm.get 0, fun _ _ => nd_zero⟩
end
end Go.Proofs.YtommhgmlblecnaaGreatDoor
namespace Go.Proofs.YtommhgmlblecnaaGreatDoor
open Go Go.RowKit

section
variable {q0 b c : Nat} {ts : List Tk} (hE : Toks ts)
include hE
/-- The rows below an expression's. -/
theorem or_op {ex : Nat → RS → TD × RS} (hg : ∀ n, Good ts (ex n)) {n : Nat} (hx : ∀ m, n ≤ m → m ≤ 300 → ExC q0 b c ts m (ex (m + 1))) : OpC q0 b c ts 75 n (orP ts ex n) := by
  have atomO : ∀ m, n ≤ m → OpC q0 b c ts 224 m (fun s => atomP ts (ex (m + 1)) s) := fun m hm => atom_any hE (fun h => hx m hm h) (hg (m + 1))
  have unaryO : ∀ m, n ≤ m → OpC q0 b c ts 215 m (unaryP ts ex m) := fun m hm => unary_any hE (op := fun n s => atomP ts (ex (n + 1)) s) (fun k hk _ => atomO k (Nat.le_trans hm hk)) (fun k => good_atom hE (hg (k + 1)))
  have prodO : ∀ m, n ≤ m → OpC q0 b c ts 205 m (prodP ts ex m) := fun m hm => prod_any hE (unaryO m hm) (good_unary hE hg m)
  have sumO : ∀ m, n ≤ m → OpC q0 b c ts 191 m (sumP ts ex m) := fun m hm => sum_any hE (prodO m hm) (good_prod hE hg m)
  have relO : ∀ m, n ≤ m → OpC q0 b c ts 176 m (relP ts ex m) := fun m hm => rel_any hE (sumO m hm) (good_sum hE hg m)
  have notO : OpC q0 b c ts 154 n (notP ts ex n) := not_any hE (op := relP ts ex) (fun k hk _ => relO k hk) (fun k => good_rel hE hg k)
  have andO : OpC q0 b c ts 112 n (andP ts ex n) := and_any hE notO (good_not hE hg n)
  exact or_any hE andO (good_and hE hg n)
set_option maxRecDepth 100000 in
set_option maxHeartbeats 1000000 in
seal rn Goes ans atEnd put0 putM opened putA0 oneSt st0 keep putAM in
theorem expr_any : ∀ (f n : Nat) (w : World) (s : RS) (L : List Nat), 302 ≤ f + n → n ≤ 301 → At w q0 b c ts s → s.i < ts.length → q0 ∈ L → (∀ x ∈ L, x < w.heap.size) →
    Calls Tryz.prog 42 #[.pointer (some ⟨q0, 0, none⟩), .int .i64 n] w (Res L w q0 b c ts (exprP ts f n s))
  | 0, n, w, s, L, hfu, hn, h, hi, hq, hL => by omega
  | f + 1, n, w, s, L, hfu, hn, h, hi, hq, hL => by
    have hx : ∀ m, n ≤ m → m ≤ 300 → ExC q0 b c ts m (exprP ts f (m + 1)) := fun m hm h3 w s L h hi hq hL => expr_any f (m + 1) w s L (by omega) (by omega) h hi hq hL
    have hg := good_expr hE f
    obtain ⟨t, ht⟩ : ∃ t, tkAt ts s = t := ⟨_, rfl⟩
    obtain ⟨s2, hs2⟩ : ∃ s2, begS ts n s = s2 := ⟨_, rfl⟩
    have hs2' : nestS ts n t.a (rBeg ts s) = s2 := by rw [← hs2]; unfold begS; rw [ht]
    have h1 := mv_beg hE hi
    have h2 := mv_begS hE n hi
    rw [hs2] at h2
    have hok : OKn ts n s2 := by
      rcases Nat.lt_or_ge n 301 with h3 | h3
      · exact .inl (by omega)
      · obtain rfl : n = 301 := by omega
        refine .inr ⟨rfl, ?_⟩
        rw [← hs2']
        exact hE.last
    obtain ⟨Z, hZ⟩ : ∃ Z, exprP ts (f + 1) n s = Z := ⟨_, rfl⟩
    rw [hZ]
    unfold exprP at hZ
    rw [hs2, ht] at hZ
    refine Goes.begin Tryz.func42 [(q0, rdS b c ts s)] (fun w => Tks w b c ts) (Holds.one h.rd) (by simp [Mem.ids]) h.stay ?_
    refine Goes.run1 [] [] trivial fun g1 => ?_
    refine Goes.call2 0 q0 72 #[.pointer (some ⟨q0, 0, none⟩)] (tkAt ts s).v (rdS b c ts (rBeg ts s)) (fun w' hm hI => beg_any ⟨hm.get 0, hI.now.2⟩ hE hi) ?_
    rw [ht]
    cases hnn : decide ((300 : Int) < (n : Int)) with
    | false =>
      have e2 : s2 = rBeg ts s := by rw [← hs2', nestS]; have : decide (300 < n) = false := decide_eq_false (by have := of_decide_eq_false hnn; omega)
                                     rw [this]; rfl
      rw [← e2]
      refine Goes.run1 [2, 0] [(decide ((n : Int) > 300), false)] ⟨hnn, trivial⟩ fun g2 => ?_
      refine Goes.call2 0 q0 73 #[.pointer (some ⟨q0, 0, none⟩), strV wIf] (.bool ((tkAt ts s2).is [wIf])) (rdS b c ts (rTakes ts wIf s2)) (fun w' hm hI => takes_any ⟨hm.get 0, hI.now.2⟩ hE h2.lt wIf) ?_
      cases his : (tkAt ts s2).is [wIf] with
      | false =>
        rw [his] at hZ
        have et : rTakes ts wIf s2 = s2 := by simp [rTakes, his]
        rw [et]
        refine Goes.run [0] [(false, false)] ⟨rfl, trivial⟩ ?_
        refine Goes.callT L 75 #[.pointer (some ⟨q0, 0, none⟩), .int .i64 n] (orP ts (exprP ts f) n s2) (fun w' hm hI hlt => or_op hE hg hx w' s2 _ ⟨hm.get 0, hI.now.2⟩ h2.lt hok (List.mem_append_right _ hq) hlt) (fun w' hI => hI.1.lt hL) fun v hv => ?_
        refine Goes.run [1] [] trivial ?_
        subst hZ
        exact Goes.ret [1] v.v fun w' hm hI => ⟨v, rfl, hv, hI.now.1.1, hm.get 0, hI.now.2⟩
      | true =>
        rw [his] at hZ
        have hk : n ≤ 300 := by have := of_decide_eq_false hnn; omega
        have et : rTakes ts wIf s2 = rNext s2 := by simp [rTakes, his]
        have h3 := mv_is hE h2.lt his
        rw [et]
        refine Goes.run [1, 2] [(true, true)] ⟨rfl, trivial⟩ ?_
        refine Goes.callT L 74 #[.pointer (some ⟨q0, 0, none⟩), t.v, .int .i64 n] (ifP ts (exprP ts f (n + 1)) t (rNext s2)) (fun w' hm hI hlt => if_any hE ⟨hm.get 0, hI.now.2⟩ h3.lt (List.mem_append_right _ hq) hlt hk (hx n (Nat.le_refl _) hk) (hg (n + 1)) t) (fun w' hI => hI.1.lt hL) fun v hv => ?_
        refine Goes.run [1] [] trivial ?_
        subst hZ
        exact Goes.ret [1] v.v fun w' hm hI => ⟨v, rfl, hv, hI.now.1.1, hm.get 0, hI.now.2⟩
    | true =>
      have e2 : s2 = rFail ts 75 t.a (rBeg ts s) := by rw [← hs2', nestS]; have : decide (300 < n) = true := decide_eq_true (by have := of_decide_eq_true hnn; omega)
                                                       rw [this]; rfl
      refine Goes.run1 [2, 1, 2] [(decide ((n : Int) > 300), true)] ⟨hnn, trivial⟩ fun g2 => ?_
      refine Goes.call2 0 q0 71 #[.pointer (some ⟨q0, 0, none⟩), .int .i64 75, .int .i64 t.a] (.tuple #[]) (rdS b c ts s2) (fun w' hm hI => e2 ▸ fail_any ⟨hm.get 0, hI.now.2⟩ hE 75 t.a) ?_
      refine Goes.run [] [] trivial ?_
      refine Goes.call2 0 q0 73 #[.pointer (some ⟨q0, 0, none⟩), strV wIf] (.bool ((tkAt ts s2).is [wIf])) (rdS b c ts (rTakes ts wIf s2)) (fun w' hm hI => takes_any ⟨hm.get 0, hI.now.2⟩ hE h2.lt wIf) ?_
      have his : (tkAt ts s2).is [wIf] = false := by
        have hk0 : (tkAt ts s2).k = 0 := by rw [e2]; exact hE.last
        unfold Tk.is
        rw [hk0]
        rfl
      rw [his] at hZ ⊢
      have et : rTakes ts wIf s2 = s2 := by simp [rTakes, his]
      rw [et]
      refine Goes.run [0] [(false, false)] ⟨rfl, trivial⟩ ?_
      refine Goes.callT L 75 #[.pointer (some ⟨q0, 0, none⟩), .int .i64 n] (orP ts (exprP ts f) n s2) (fun w' hm hI hlt => or_op hE hg hx w' s2 _ ⟨hm.get 0, hI.now.2⟩ h2.lt hok (List.mem_append_right _ hq) hlt) (fun w' hI => hI.1.lt hL) fun v hv => ?_
      refine Goes.run [1] [] trivial ?_
      subst hZ
      exact Goes.ret [1] v.v fun w' hm hI => ⟨v, rfl, hv, hI.now.1.1, hm.get 0, hI.now.2⟩
end
end Go.Proofs.YtommhgmlblecnaaGreatDoor
namespace Go.Proofs.YtommhgmlblecnaaGreatDoor
open Go Go.RowKit

set_option maxRecDepth 100000 in
set_option maxHeartbeats 1000000 in
seal rn Goes ans atEnd put0 putM opened putA0 oneSt st0 keep putAM in
theorem outer_any {q0 b c : Nat} {ts : List Tk} (hE : Toks ts) {w : World} {s : RS} {L : List Nat} (h : At w q0 b c ts s) (hi : s.i < ts.length) (hq : q0 ∈ L) (hL : ∀ x ∈ L, x < w.heap.size) :
    Calls Tryz.prog 25 #[.pointer (some ⟨q0, 0, none⟩)] w fun e w' => ∃ u : T6, e = .returned u.nd ∧ Ch [q0] w w' ∧ w'.heap[q0]? = some (rdS b c ts (exprP ts 301 1 s).2) ∧ Stay L w' (fun w => Nd w u.nd (exprP ts 301 1 s).1.t) := by
  obtain ⟨Z, hZ⟩ : ∃ Z, exprP ts 301 1 s = Z := ⟨_, rfl⟩
  rw [hZ]
  refine Goes.begin Tryz.func25 [(q0, rdS b c ts s)] (fun w => Tks w b c ts) (Holds.one h.rd) (by simp [Mem.ids]) h.stay ?_
  refine Goes.run1 [] [] trivial fun g => ?_
  refine Goes.callT L 42 #[.pointer (some ⟨q0, 0, none⟩), .int .i64 (1 : Nat)] Z (fun w' hm hI hlt => hZ ▸ expr_any hE 301 1 w' s _ (by decide) (by decide) ⟨hm.get 0, hI.now.2⟩ hi (List.mem_append_right _ hq) hlt) (fun w' hI => hI.1.lt hL) fun v hv => ?_
  refine Goes.run [1] [] trivial ?_
  exact Goes.ret [1] v.nd fun w' hm hI => ⟨v, rfl, hI.now.1.1, hm.get 0, hI.now.2⟩
end Go.Proofs.YtommhgmlblecnaaGreatDoor
