/- texts put together: YLex2 YLex3 YLex4 YLex5 YLex6 YLex7 YLex8 YLex9 YLexA YLexB YLexC YLexD YCat YPart -/
import Derived.Test.YtommhgmlblecnaaGreatDoorYGc
import Derived.Test.YtommhgmlblecnaaGreatDoorShelf
import Derived.Test.YtommhgmlblecnaaGreatDoorYGd
import Derived.Test.YtommhgmlblecnaaGreatDoorYGb
namespace Go.Proofs.YtommhgmlblecnaaGreatDoor
open Go Go.RowKit

/-- What is known and was not there is new. -/
theorem fresh_id {ids L : List Nat} {w w' : World} {Q : World → Prop} (h : Stay ids w' (fun w2 => Ch L w w2 ∧ Q w2)) {g : Nat} (hg : g ∈ ids) (hL : g ∉ L) : w.heap.size ≤ g := by
  rcases Nat.lt_or_ge g w.heap.size with hlt | hge
  · exfalso
    have hlt' : g < w'.heap.size := Nat.lt_of_lt_of_le hlt h.now.1.size
    have key : ∀ o : Obj, w.heap[g]? = some o := by
      intro o
      have hc : Ch ids w' { w' with heap := w'.heap.setIfInBounds g o } := ⟨rfl, rfl, rfl, by show _ ≤ (w'.heap.setIfInBounds g o).size; simp, fun i _ hx => Array.getElem?_setIfInBounds_ne (fun (e : g = i) => hx (e ▸ hg))⟩
      have h1 := (h _ hc).1.block g hlt hL
      rw [← h1]
      exact Array.getElem?_setIfInBounds_self_of_lt hlt'
    have h1 := key (.map #[] 0)
    rw [key (.map #[] 1)] at h1
    cases h1
  · exact hge
/-- A part of a text. -/
def cutL (l : List UInt8) (i j : Nat) : List UInt8 := (l.drop i).take (j - i)
theorem sliceS {l : List UInt8} {i j : Nat} (hij : i ≤ j) (hj : j ≤ l.length) (w : World) : (Instr.sliceAt 9 (strV l) (some (.int .i64 i)) (some (.int .i64 j)) none).run Tryz.prog w = .ok (strV (cutL l i j)) w := by
  have h2 : (⟨l.toArray⟩ : ByteArray).size = l.length := by simp [ByteArray.size]
  have h3 : (i : Int) ≤ (j : Int) := by omega
  have h4 : (j : Int) ≤ (l.length : Int) := by omega
  unfold strV cutL
  go_simp
  apply ByteArray.ext
  simp [ByteArray.data_extract, List.extract]
/-- Are these a name's bytes? -/
def nmB (l : List UInt8) : Bool := decide ((0 : Int) < (l.length : Int)) && decide ((l.length : Int) ≤ 24) && cLet ((l.getD 0 0).toNat : Nat) && ((bhd cIn l 0 : Int) == (l.length : Int))
set_option maxRecDepth 100000 in
seal rn Goes ans atEnd put0 putM opened putA0 oneSt st0 in
theorem isName7_any (l : List UInt8) (w : World) (hl : l.length ≤ 1000000000) : Calls Tryz.prog 138 #[strV l] w fun e w' => e = .returned (.bool (nmB l)) ∧ Below w.heap.size w w' := by
  refine Goes.begin Tryz.func138 [] (fun _ => True) (fun j b o h => by cases h) (by simp [Mem.ids]) (fun _ _ => trivial) ?_
  cases h0 : decide ((0 : Int) < (l.length : Int)) with
  | false =>
    refine Goes.run [0, 0, 0] [(false, false), (false, false), (decide ((0 : Int) < (l.length : Int)), false)] ⟨rfl, rfl, h0, trivial⟩ ?_
    exact Goes.ret [] (.bool false) fun w' hm hI => ⟨by simp only [nmB, h0, Bool.false_and], below_end (m := []) (fun j b o h => by cases h) hI.now.1 hm (by kernel_rfl)⟩
  | true =>
    cases h1 : decide ((l.length : Int) ≤ 24) with
    | false =>
      refine Goes.run [1, 0, 0] [(false, false), (decide ((l.length : Int) ≤ 24), false), (decide ((0 : Int) < (l.length : Int)), true)] ⟨rfl, h1, h0, trivial⟩ ?_
      exact Goes.ret [] (.bool false) fun w' hm hI => ⟨by simp only [nmB, h0, h1, Bool.true_and, Bool.false_and], below_end (m := []) (fun j b o h => by cases h) hI.now.1 hm (by kernel_rfl)⟩
    | true =>
      have hp : 0 < l.length := by have := of_decide_eq_true h0; omega
      obtain ⟨x, hx⟩ : ∃ x, l[0]? = some x := ⟨l[0], by simp⟩
      have hx' : l.getD 0 0 = x := by simp [List.getD, hx]
      refine Goes.run [1, 1] [(decide ((l.length : Int) ≤ 24), true), (decide ((0 : Int) < (l.length : Int)), true)] ⟨h1, h0, trivial⟩ ?_
      refine Goes.val (Instr.index 9 (strV l) (.int .i64 (0 : Nat))) (.int .u8 (x.toNat : Nat)) (fun w' _ _ => idxB hx w') ?_
      refine Goes.call0 102 #[.int .u8 (x.toNat : Nat)] (.bool (cLet (x.toNat : Nat))) (fun w' _ _ => cLet_any _ w') ?_
      cases h2 : cLet (x.toNat : Nat) with
      | false =>
        refine Goes.run [0] [(false, false)] ⟨rfl, trivial⟩ ?_
        exact Goes.ret [] (.bool false) fun w' hm hI => ⟨by simp only [nmB, h0, h1, hx', h2, Bool.true_and, Bool.false_and], below_end (m := []) (fun j b o h => by cases h) hI.now.1 hm (by kernel_rfl)⟩
      | true =>
        refine Goes.run [1] [(true, true)] ⟨rfl, trivial⟩ ?_
        refine Goes.call0 106 #[strV l, .int .i64 (0 : Nat), .func (.func 140) #[] #[]] (.int .i64 (bhd cIn l 0)) (fun w' _ _ => behind_any cIn_any (by kernel_rfl) l 0 w' hl (by omega)) ?_
        refine Goes.run [] [] trivial ?_
        exact Goes.ret [] (.bool ((bhd cIn l 0 : Int) == (l.length : Int))) fun w' hm hI => ⟨by simp only [nmB, h0, h1, hx', h2, Bool.true_and], below_end (m := []) (fun j b o h => by cases h) hI.now.1 hm (by kernel_rfl)⟩
/-- The keywords. -/
def kws7 : List (List UInt8) := [[109, 111, 100, 117, 108, 101], [105, 109, 112, 111, 114, 116], [108, 101, 116], [105, 102], [116, 104, 101, 110], [101, 108, 115, 101], [97, 110, 100], [111, 114], [110, 111, 116], [116, 114, 117, 101], [102, 97, 108, 115, 101], [102, 101, 101, 100], [112, 105, 99, 107]]
/-- The map of the keywords. -/
def kwO : Obj := .map (kws7.zipIdx.map fun q => ⟨strV q.1, .agg #[], q.2⟩).toArray 13
set_option maxRecDepth 100000 in
seal rn Goes ans atEnd put0 putM opened putA0 oneSt st0 in
theorem keywords_any (w : World) : Calls Tryz.prog 135 #[] w fun e w' => ∃ g, e = .returned (.map (some g)) ∧ Below w.heap.size w w' ∧ w.heap.size ≤ g ∧ w'.heap[g]? = some kwO := by
  refine Goes.begin Tryz.func135 [] (fun _ => True) (fun j b o h => by cases h) (by simp [Mem.ids]) (fun _ _ => trivial) ?_
  refine Goes.run1 [0, 0, 0, 0, 0, 0, 0, 0, 0, 0, 0, 0, 0] [] trivial fun g => ?_
  exact Goes.ret [] (.map (some g)) fun w' hm hI => ⟨g, rfl, below_end (m := []) (fun j b o h => by cases h) hI.now.1 hm (by kernel_rfl), fresh_id (L := []) hI (g := g) (ids_get (j := 0) (o := kwO) (by kernel_rfl)) (by simp), hm.get 0⟩
/-- Is it a keyword? -/
def isKw (l : List UInt8) : Bool := kws7.any fun x => decide (l = x)
theorem bb_eq (a b : List UInt8) : ((⟨a.toArray⟩ : ByteArray) == ⟨b.toArray⟩) = decide (a = b) := by
  show (a.toArray == b.toArray) = decide (a = b)
  by_cases e : a = b <;> simp [e]
theorem lookup_kw {w : World} {g : Nat} (hg : w.heap[g]? = some kwO) (x : List UInt8) : (Instr.lookup 141 (.map (some g)) (strV x) true).run Tryz.prog w = .ok (.tuple #[.agg #[], .bool (isKw x)]) w := by
  have key : ∀ (ks : List (List UInt8)) (i n : Nat), ∃ r, Instr.findNow .string (strV x) ((ks.zipIdx i).map fun q => (⟨strV q.1, .agg #[], q.2⟩ : MapEntry)) n = some r ∧ r.isSome = (ks.any fun y => decide (x = y)) ∧ ∀ q, r = some q → q.2 = .agg #[] := by
    intro ks
    induction ks with
    | nil => intro i n; exact ⟨none, rfl, rfl, fun q h => by cases h⟩
    | cons k r ih =>
      intro i n
      obtain ⟨r0, h1, h2, h3⟩ := ih (i + 1) (n + 1)
      by_cases e : x = k
      · refine ⟨some (n, .agg #[]), ?_, by simp [e], fun q h => by cases h; rfl⟩
        simp [List.zipIdx_cons, Instr.findNow, Instr.sameNow, strV, bb_eq, e]
      · refine ⟨r0, ?_, by rw [h2]; simp [e], h3⟩
        rw [← h1]
        simp [List.zipIdx_cons, Instr.findNow, Instr.sameNow, strV, bb_eq, e]
  obtain ⟨r, h1, h2, h3⟩ := key kws7 0 0
  have hget : (getObj g).run Tryz.prog w = .ok kwO w := by
    unfold getObj
    unfold Sem.run
    rw [hg]
    rfl
  have hfk : (Instr.findKey 9 (strV x) (kws7.zipIdx.map fun q => (⟨strV q.1, .agg #[], q.2⟩ : MapEntry))).run Tryz.prog w = .ok r w := by
    unfold Instr.findKey
    have hu : (underlying 9).run Tryz.prog w = .ok .string w := by kernel_rfl
    simp only [Sem.run_bind, hu, Result.andThen, h1]
    rfl
  have hck : (Instr.checkKey false 10000 9 (strV x)).run Tryz.prog w = .ok () w := by kernel_rfl
  have hum : (underlying 141).run Tryz.prog w = .ok (.map 9 143) w := by kernel_rfl
  have hzv : (zeroValue 143).run Tryz.prog w = .ok (.agg #[]) w := by kernel_rfl
  unfold Instr.lookup
  simp only [Sem.run_bind, hum, Result.andThen, hget, kwO, Sem.run_pure]
  rw [show ((List.map (fun q => ({ key := strV q.fst, val := Value.agg #[], born := q.snd } : MapEntry)) kws7.zipIdx).toArray.isEmpty) = false from rfl, hck]
  simp only [hfk]
  cases r with
  | none =>
    have : isKw x = false := h2.symm
    simp [hzv, this]
  | some q =>
    have : isKw x = true := h2.symm
    simp [h3 q rfl, this]
/-- The finder of names, with what it has caught: the text, the map and the functions that it calls. -/
structure Nms (w : World) (l : List UInt8) (v : Value) : Prop where
  ex : ∃ gs gm gw gf gr km, v = .func (.func 141) #[] #[.pointer (some ⟨gs, 0, none⟩), .pointer (some ⟨gr, 0, none⟩), .pointer (some ⟨gw, 0, none⟩)] ∧
    w.heap[gs]? = some (.cells #[strV l] 9 (0, 0)) ∧ w.heap[gm]? = some (.cells #[.map (some km)] 141 (0, 0)) ∧ w.heap[km]? = some kwO ∧
    w.heap[gw]? = some (.cells #[.func (.func 136) #[] #[.pointer (some ⟨gm, 0, none⟩)]] 30 (0, 0)) ∧
    w.heap[gf]? = some (.cells #[.func (.func 137) #[] #[.pointer (some ⟨gw, 0, none⟩)]] 30 (0, 0)) ∧
    w.heap[gr]? = some (.cells #[.func (.func 139) #[] #[.pointer (some ⟨gs, 0, none⟩), .pointer (some ⟨gf, 0, none⟩)]] 145 (0, 0))
end Go.Proofs.YtommhgmlblecnaaGreatDoor
namespace Go.Proofs.YtommhgmlblecnaaGreatDoor
open Go Go.RowKit

section
variable {P : Program} {F : Exit → Act → World → Prop} {Inv : World → Prop} {s : St}
/-- A call that only makes new blocks, and tells a fact. -/
theorem Goes.callF (f : FuncId) (args : Array Value) (hr : ∀ w, Holds s.mem w → Stay s.mem.ids w Inv → Calls P f args w fun e w' => ∃ v Fact, e = .returned v ∧ Below w.heap.size w w' ∧ Stay s.mem.ids w' Fact ∧ Goes P F (fun w => Inv w ∧ Fact w) (put0 s v))
    (ha : ask s = some (f, args) := by kernel_rfl) (hw : wants s = true := by kernel_rfl) (hf : okf P f = true := by kernel_rfl) : Goes P F Inv s := by
  refine Goes.call f args (ha := ha) (hw := hw) (hf := hf) fun w hm hn hI => (hr w hm hI).mono fun e w' ⟨v, Fact, he, hB, hS, hG⟩ => ⟨v, _, s.mem, he, ?_, hn, ?_, hG⟩
  · intro j b o hj
    rw [hB.block b (lt_of_get (hm.at hj))]
    exact hm.at hj
  · exact (hI.ch ⟨hB.os, hB.tape, hB.output, hB.size, fun i hi _ => hB.block i hi⟩ (fun x hx => .inl hx)).and hS
end
/-- A block that stands from n on is not touched by what lies below. -/
theorem stay_blk {L : List Nat} {n g : Nat} {w : World} {o : Obj} (hL : ∀ x ∈ L, x < n) (hg : n ≤ g) (h : w.heap[g]? = some o) : Stay L w (fun w => w.heap[g]? = some o) := fun w' hc => (hc.block g (lt_of_get h) (fun hx => by have := hL g hx; omega)).trans h
set_option maxRecDepth 100000 in
seal rn Goes ans atEnd put0 putM opened putA0 oneSt st0 in
theorem names_any (l : List UInt8) (w : World) {L : List Nat} (hL : ∀ x ∈ L, x < w.heap.size) : Calls Tryz.prog 96 #[strV l] w fun e w' => ∃ v, e = .returned v ∧ Below w.heap.size w w' ∧ Stay L w' (fun w => Nms w l v) := by
  refine Goes.begin Tryz.func96 [] (fun _ => True) (fun j b o h => by cases h) (by simp [Mem.ids]) (fun _ _ => trivial) ?_
  refine Goes.run1 [] [] trivial fun gs => ?_
  refine Goes.callF 135 #[] fun w1 hm hI => (keywords_any w1).mono fun e w2 ⟨km, e1, hB, hge, hk⟩ => ⟨.map (some km), fun w' => w'.heap[km]? = some kwO ∧ w.heap.size ≤ km, e1, hB, (stay_blk (ids_lt hm) hge hk).and (fun _ _ => Nat.le_trans hI.now.1.size hge), ?_⟩
  refine Goes.run2 [1, 2] [] trivial fun gm gw => ?_
  refine Goes.run2 [3, 4] [] trivial fun gf gr => ?_
  refine Goes.ret [] (.func (.func 141) #[] #[.pointer (some ⟨gs, 0, none⟩), .pointer (some ⟨gr, 0, none⟩), .pointer (some ⟨gw, 0, none⟩)]) fun w' hm hI => ⟨_, rfl, below_end (m := []) (fun j b o h => by cases h) hI.now.1.1 hm (by kernel_rfl), ?_⟩
  have hfr : ∀ g, g ∈ _ → w.heap.size ≤ g := fun g hg => fresh_id (L := []) (Q := fun _ => True) (hI.mono fun w h => h.1) hg (by simp)
  have k0 := hm.get 0 (b := gs) (o := .cells #[strV l] 9 (0, 0))
  have k1 := hm.get 1 (b := gm) (o := .cells #[.map (some km)] 141 (0, 0))
  have k2 := hm.get 2 (b := gw) (o := .cells #[.func (.func 136) #[] #[.pointer (some ⟨gm, 0, none⟩)]] 30 (0, 0))
  have k3 := hm.get 3 (b := gf) (o := .cells #[.func (.func 137) #[] #[.pointer (some ⟨gw, 0, none⟩)]] 30 (0, 0))
  have k4 := hm.get 4 (b := gr) (o := .cells #[.func (.func 139) #[] #[.pointer (some ⟨gs, 0, none⟩), .pointer (some ⟨gf, 0, none⟩)]] 145 (0, 0))
  have f0 := hfr gs (ids_get (j := 0) (o := .cells #[strV l] 9 (0, 0)) (by kernel_rfl))
  have f1 := hfr gm (ids_get (j := 1) (o := .cells #[.map (some km)] 141 (0, 0)) (by kernel_rfl))
  have f2 := hfr gw (ids_get (j := 2) (o := .cells #[.func (.func 136) #[] #[.pointer (some ⟨gm, 0, none⟩)]] 30 (0, 0)) (by kernel_rfl))
  have f3 := hfr gf (ids_get (j := 3) (o := .cells #[.func (.func 137) #[] #[.pointer (some ⟨gw, 0, none⟩)]] 30 (0, 0)) (by kernel_rfl))
  have f4 := hfr gr (ids_get (j := 4) (o := .cells #[.func (.func 139) #[] #[.pointer (some ⟨gs, 0, none⟩), .pointer (some ⟨gf, 0, none⟩)]] 145 (0, 0)) (by kernel_rfl))
  have hkm := hI.now.2
  exact fun w2 hc => ⟨gs, gm, gw, gf, gr, km, rfl, stay_blk hL f0 k0 w2 hc, stay_blk hL f1 k1 w2 hc, stay_blk hL hkm.2 hkm.1 w2 hc, stay_blk hL f2 k2 w2 hc, stay_blk hL f3 k3 w2 hc, stay_blk hL f4 k4 w2 hc⟩
end Go.Proofs.YtommhgmlblecnaaGreatDoor
namespace Go.Proofs.YtommhgmlblecnaaGreatDoor
open Go Go.RowKit

section
variable {P : Program} {F : Exit → Act → World → Prop} {Inv : World → Prop} {s : St}
theorem Goes.callA0 (i : Nat) (f : FuncId) (args : Array Value) (v : Value) (hr : ∀ w, Holds s.mem w → Stay s.mem.ids w Inv → Calls P f args w fun e w' => e = .returned v ∧ Below w.heap.size w w') (h : Goes P F Inv (putA0 i s v))
    (ha : askA i s = some (f, args) := by kernel_rfl) (hw : anyLone i s = true := by kernel_rfl) (hf : okf P f = true := by kernel_rfl) : Goes P F Inv s := by
  refine Goes.callA i f args (fun ops m0 n l k ht w hm hn hI h0 => (hr w hm hI).mono fun e w' ⟨he, hB⟩ => ⟨v, Inv, s.mem, he, ?_, ?_, hn, ?_, h⟩) ha hw hf
  · intro j b o hj
    rw [hB.block b (lt_of_get (h0.at hj))]
    exact h0.at hj
  · intro j b o hj
    rw [hB.block b (lt_of_get (hm.at hj))]
    exact hm.at hj
  · exact hI.ch ⟨hB.os, hB.tape, hB.output, hB.size, fun i hi _ => hB.block i hi⟩ (fun x hx => .inl hx)
end
/-- The blocks that the finder of names has caught. -/
structure NmB (w : World) (l : List UInt8) (gs gm gw gf gr km : Nat) : Prop where
  bs : w.heap[gs]? = some (.cells #[strV l] 9 (0, 0))
  bm : w.heap[gm]? = some (.cells #[.map (some km)] 141 (0, 0))
  bk : w.heap[km]? = some kwO
  bw : w.heap[gw]? = some (.cells #[.func (.func 136) #[] #[.pointer (some ⟨gm, 0, none⟩)]] 30 (0, 0))
  bf : w.heap[gf]? = some (.cells #[.func (.func 137) #[] #[.pointer (some ⟨gw, 0, none⟩)]] 30 (0, 0))
  br : w.heap[gr]? = some (.cells #[.func (.func 139) #[] #[.pointer (some ⟨gs, 0, none⟩), .pointer (some ⟨gf, 0, none⟩)]] 145 (0, 0))
theorem NmB.below {w w' : World} {l : List UInt8} {gs gm gw gf gr km : Nat} (h : NmB w l gs gm gw gf gr km) (hB : Below w.heap.size w w') : NmB w' l gs gm gw gf gr km := ⟨(hB.block _ (lt_of_get h.bs)).trans h.bs, (hB.block _ (lt_of_get h.bm)).trans h.bm, (hB.block _ (lt_of_get h.bk)).trans h.bk, (hB.block _ (lt_of_get h.bw)).trans h.bw, (hB.block _ (lt_of_get h.bf)).trans h.bf, (hB.block _ (lt_of_get h.br)).trans h.br⟩
/-- They stay, where no known block is theirs. -/
theorem NmB.stay {w : World} {l : List UInt8} {gs gm gw gf gr km : Nat} (h : NmB w l gs gm gw gf gr km) : Stay [] w (fun w => NmB w l gs gm gw gf gr km) := fun _ hc => h.below ⟨hc.os, hc.tape, hc.output, hc.size, fun i hi => hc.block i hi (by simp)⟩
section
variable {w : World} {l : List UInt8} {gs gm gw gf gr km : Nat}
set_option maxRecDepth 100000 in
set_option maxHeartbeats 1000000 in
seal rn Goes ans atEnd put0 putM opened putA0 oneSt st0 in
theorem isWord7_any (h : NmB w l gs gm gw gf gr km) (x : List UInt8) : Calls Tryz.prog 136 #[strV x, .pointer (some ⟨gm, 0, none⟩)] w fun e w' => e = .returned (.bool (isKw x)) ∧ Below w.heap.size w w' := by
  have hne : gm ≠ km := by rintro rfl; have h1 := h.bm; rw [h.bk] at h1; cases h1
  refine Goes.begin Tryz.func136 [(gm, .cells #[.map (some km)] 141 (0, 0)), (km, kwO)] (fun _ => True) (Holds.two h.bm h.bk) (by simp [Mem.ids, hne]) (fun _ _ => trivial) ?_
  refine Goes.run [0] [] trivial ?_
  refine Goes.val (Instr.lookup 141 (.map (some km)) (strV x) true) (.tuple #[.agg #[], .bool (isKw x)]) (fun w' hm _ => lookup_kw (hm.get 1) x) ?_
  refine Goes.run1 [2] [] trivial fun g => ?_
  exact Goes.ret [] (.bool (isKw x)) fun w' hm hI => ⟨rfl, below_end (Holds.two h.bm h.bk) hI.now.1 hm (by kernel_rfl)⟩
/-- A name that is no keyword. -/
def isFr (x : List UInt8) : Bool := nmB x && !isKw x
set_option maxRecDepth 100000 in
set_option maxHeartbeats 1000000 in
seal rn Goes ans atEnd put0 putM opened putA0 oneSt st0 in
theorem isFree7_any (h : NmB w l gs gm gw gf gr km) (x : List UInt8) (hx : x.length ≤ 1000000000) : Calls Tryz.prog 137 #[strV x, .pointer (some ⟨gw, 0, none⟩)] w fun e w' => e = .returned (.bool (isFr x)) ∧ Below w.heap.size w w' := by
  refine Goes.begin Tryz.func137 [] (fun w => NmB w l gs gm gw gf gr km) (fun j b o h => by cases h) (by simp [Mem.ids]) h.stay ?_
  refine Goes.run [] [] trivial ?_
  refine Goes.call0 138 #[strV x] (.bool (nmB x)) (fun w' _ _ => isName7_any x w' hx) ?_
  cases h0 : nmB x with
  | false =>
    refine Goes.run [0] [(false, false)] ⟨rfl, trivial⟩ ?_
    exact Goes.ret [] (.bool false) fun w' hm hI => ⟨by simp only [isFr, h0, Bool.false_and], below_end (m := []) (fun j b o h => by cases h) hI.now.1 hm (by kernel_rfl)⟩
  | true =>
    refine Goes.run [1] [(true, true)] ⟨rfl, trivial⟩ ?_
    refine Goes.val (Instr.loadAt 30 (.pointer (some ⟨gw, 0, none⟩))) (.func (.func 136) #[] #[.pointer (some ⟨gm, 0, none⟩)]) (fun w' _ hI => load1 Tryz.isAgg30 (by unfold World.cell?; rw [hI.now.2.bw]; rfl)) ?_
    refine Goes.run [] [] trivial ?_
    refine Goes.call0 136 #[strV x, .pointer (some ⟨gm, 0, none⟩)] (.bool (isKw x)) (fun w' _ hI => isWord7_any hI.now.2 x) ?_
    refine Goes.run [] [] trivial ?_
    exact Goes.ret [] (.bool (!isKw x)) fun w' hm hI => ⟨by simp only [isFr, h0, Bool.true_and], below_end (m := []) (fun j b o h => by cases h) hI.now.1 hm (by kernel_rfl)⟩
/-- A far name. -/
def farT (l : List UInt8) (i p : Nat) : Tk × Int := bif isFr (cutL l i p) && isFr (cutL l (p + 1) (bhd cIn l (p + 1))) then (⟨3, cutL l i (bhd cIn l (p + 1)), 0, i, bhd cIn l (p + 1)⟩, 0) else (tk0, 73)
theorem loadG {w : World} {g : Nat} {v : Value} {t e : TypeId} {z : Nat × Nat} (ha : ∀ w, (isAgg t).run Tryz.prog w = .ok false w) (h : w.heap[g]? = some (.cells #[v] e z)) : (Instr.loadAt t (.pointer (some ⟨g, 0, none⟩))).run Tryz.prog w = .ok v w := load1 ha (by unfold World.cell?; rw [h]; rfl)
theorem cutL_len (l : List UInt8) (i j : Nat) : (cutL l i j).length ≤ l.length := by
  unfold cutL
  rw [List.length_take, List.length_drop]
  omega
set_option maxRecDepth 100000 in
set_option maxHeartbeats 1000000 in
seal rn Goes ans atEnd put0 putM opened putA0 oneSt st0 in
theorem far_any (h : NmB w l gs gm gw gf gr km) {i p : Nat} (hl : l.length ≤ 1000000000) (hip : i ≤ p) (hp : p < l.length) : Calls Tryz.prog 139 #[.int .i64 i, .int .i64 p, .pointer (some ⟨gs, 0, none⟩), .pointer (some ⟨gf, 0, none⟩)] w fun e w' => e = .returned (.tuple #[(farT l i p).1.v, .int .i64 (farT l i p).2]) ∧ Below w.heap.size w w' := by
  have hsf : gs ≠ gf := by rintro rfl; have h1 := h.bs; rw [h.bf] at h1; cases h1
  have hw1 : IntKind.i64.wrap ((p : Int) + 1) = ((p + 1 : Nat) : Int) := wrap_nat (by omega)
  obtain ⟨e, he⟩ : ∃ e, bhd cIn l (p + 1) = e := ⟨_, rfl⟩
  have he1 : p + 1 ≤ e := he ▸ bhd_ge _ _ _
  have he2 : e ≤ l.length := he ▸ bhd_le _ _ (by omega)
  unfold farT
  rw [he]
  refine Goes.begin Tryz.func139 [(gs, .cells #[strV l] 9 (0, 0)), (gf, .cells #[.func (.func 137) #[] #[.pointer (some ⟨gw, 0, none⟩)]] 30 (0, 0))] (fun w' => ∀ w2, w2.heap[gs]? = some (.cells #[strV l] 9 (0, 0)) → w2.heap[gf]? = some (.cells #[.func (.func 137) #[] #[.pointer (some ⟨gw, 0, none⟩)]] 30 (0, 0)) → w2 = w' → NmB w2 l gs gm gw gf gr km) (Holds.two h.bs h.bf) (by simp [Mem.ids, hsf]) ?_ ?_
  · rintro w1 hc w2 h1 h2 rfl
    have hk : ∀ {g : Nat} {o : Obj}, w.heap[g]? = some o → g ≠ gs → g ≠ gf → w2.heap[g]? = some o := fun hg n1 n2 => (hc.block _ (lt_of_get hg) (by simp [Mem.ids, n1, n2])).trans hg
    refine ⟨h1, hk h.bm ?_ ?_, hk h.bk ?_ ?_, ?_, h2, ?_⟩
    · rintro rfl; have h5 := h.bm; rw [h.bs] at h5; cases h5
    · rintro rfl; have h5 := h.bm; rw [h.bf] at h5; cases h5
    · rintro rfl; have h5 := h.bk; rw [h.bs] at h5; cases h5
    · rintro rfl; have h5 := h.bk; rw [h.bf] at h5; cases h5
    · refine hk h.bw ?_ ?_
      · rintro rfl; have h5 := h.bw; rw [h.bs] at h5; cases h5
      · rintro rfl; have h5 := h.bw; rw [h.bf] at h5; cases h5
    · refine hk h.br ?_ ?_
      · rintro rfl; have h5 := h.br; rw [h.bs] at h5; cases h5
      · rintro rfl; have h5 := h.br; rw [h.bf] at h5; cases h5
  refine Goes.run1 [0] [] trivial fun g => ?_
  refine Goes.slot 11 (.int .i64 (p + 1 : Nat)) (u := .int .i64 (IntKind.i64.wrap ((p : Int) + 1))) (congrArg _ hw1) ?_
  refine Goes.call0 106 #[strV l, .int .i64 (p + 1 : Nat), .func (.func 140) #[] #[]] (.int .i64 e) (fun w' _ _ => he ▸ behind_any cIn_any (by kernel_rfl) l (p + 1) w' hl (by omega)) ?_
  refine Goes.run [] [] trivial ?_
  refine Goes.open [0, 1] ?_
  refine Goes.run [0, 1, 1, 0, 2, 3] [] trivial ?_
  refine Goes.valA 4 (Instr.sliceAt 9 (strV l) (some (.int .i64 i)) (some (.int .i64 p)) none) (strV (cutL l i p)) (fun w' _ => sliceS hip (by omega) w') ?_
  refine Goes.callA0 5 137 #[strV (cutL l i p), .pointer (some ⟨gw, 0, none⟩)] (.bool (isFr (cutL l i p))) (fun w' hm hI => isFree7_any (hI.now.2 w' (hm.get 0) (hm.get 1) rfl) _ (Nat.le_trans (cutL_len _ _ _) hl)) ?_
  cases h1 : isFr (cutL l i p) with
  | false =>
    refine Goes.run [6, 7, 8, 9, 10, 11, 12, 13, 14, 15, 16, 1, 2] [(true, true)] ⟨rfl, trivial⟩ ?_
    exact Goes.ret [2] (.tuple #[tk0.v, .int .i64 73]) fun w' hm hI => ⟨by simp, below_end (Holds.two h.bs h.bf) hI.now.1 hm (by kernel_rfl)⟩
  | true =>
    refine Goes.run [6, 7, 8, 1, 9, 0, 10, 11, 12] [] trivial ?_
    refine Goes.slot 24 (.int .i64 (p + 1 : Nat)) (u := .int .i64 (IntKind.i64.wrap ((p : Int) + 1))) (congrArg _ hw1) ?_
    refine Goes.valA 13 (Instr.sliceAt 9 (strV l) (some (.int .i64 (p + 1 : Nat))) (some (.int .i64 e)) none) (strV (cutL l (p + 1) e)) (fun w' _ => sliceS he1 he2 w') ?_
    refine Goes.callA0 14 137 #[strV (cutL l (p + 1) e), .pointer (some ⟨gw, 0, none⟩)] (.bool (isFr (cutL l (p + 1) e))) (fun w' hm hI => isFree7_any (hI.now.2 w' (hm.get 0) (hm.get 1) rfl) _ (Nat.le_trans (cutL_len _ _ _) hl)) ?_
    cases h2 : isFr (cutL l (p + 1) e) with
    | false =>
      refine Goes.run [15, 16, 1, 2] [(true, true)] ⟨rfl, trivial⟩ ?_
      exact Goes.ret [2] (.tuple #[tk0.v, .int .i64 73]) fun w' hm hI => ⟨by simp, below_end (Holds.two h.bs h.bf) hI.now.1 hm (by kernel_rfl)⟩
    | true =>
      refine Goes.run [15, 16, 0, 0] [(false, false)] ⟨rfl, trivial⟩ ?_
      refine Goes.val (Instr.sliceAt 9 (strV l) (some (.int .i64 i)) (some (.int .i64 e)) none) (strV (cutL l i e)) (fun w' _ _ => sliceS (by omega) he2 w') ?_
      refine Goes.run [2] [] trivial ?_
      exact Goes.ret [2] (.tuple #[Tk.v ⟨3, cutL l i e, 0, i, e⟩, .int .i64 0]) fun w' hm hI => ⟨by simp, below_end (Holds.two h.bs h.bf) hI.now.1 hm (by kernel_rfl)⟩
end
end Go.Proofs.YtommhgmlblecnaaGreatDoor
namespace Go.Proofs.YtommhgmlblecnaaGreatDoor
open Go Go.RowKit

def nameT (l : List UInt8) (i : Nat) : Tk × Int :=
  bif decide (((bhd cIn l i : Nat) : Int) < (l.length : Int)) && (((l.getD (bhd cIn l i) 0).toNat : Int) == 46) then farT l i (bhd cIn l i)
  else bif nmB (cutL l i (bhd cIn l i)) then (⟨bif isKw (cutL l i (bhd cIn l i)) then 1 else 2, cutL l i (bhd cIn l i), 0, i, bhd cIn l i⟩, 0) else (tk0, 73)
section
variable {w : World} {l : List UInt8} {gs gm gw gf gr km : Nat}
set_option maxRecDepth 100000 in
set_option maxHeartbeats 1000000 in
seal rn Goes ans atEnd put0 putM opened putA0 oneSt st0 in
theorem name_any (h : NmB w l gs gm gw gf gr km) {i : Nat} (hl : l.length ≤ 1000000000) (hi : i ≤ l.length) : Calls Tryz.prog 141 #[.int .i64 i, .pointer (some ⟨gs, 0, none⟩), .pointer (some ⟨gr, 0, none⟩), .pointer (some ⟨gw, 0, none⟩)] w fun e w' => e = .returned (.tuple #[(nameT l i).1.v, .int .i64 (nameT l i).2]) ∧ Below w.heap.size w w' := by
  obtain ⟨e, he⟩ : ∃ e, bhd cIn l i = e := ⟨_, rfl⟩
  have he1 : i ≤ e := he ▸ bhd_ge _ _ _
  have he2 : e ≤ l.length := he ▸ bhd_le _ _ hi
  obtain ⟨X, hX⟩ : ∃ X, cutL l i e = X := ⟨_, rfl⟩
  have hXl : X.length ≤ 1000000000 := by rw [← hX]; exact Nat.le_trans (cutL_len _ _ _) hl
  unfold nameT
  rw [he, hX]
  refine Goes.begin Tryz.func141 [] (fun w => NmB w l gs gm gw gf gr km) (fun j b o h => by cases h) (by simp [Mem.ids]) h.stay ?_
  refine Goes.run1 [] [] trivial fun g1 => ?_
  refine Goes.val (Instr.loadAt 9 (.pointer (some ⟨gs, 0, none⟩))) (strV l) (fun w' _ hI => loadG Tryz.isAgg9 hI.now.2.bs) ?_
  refine Goes.run [] [] trivial ?_
  refine Goes.call0 106 #[strV l, .int .i64 i, .func (.func 140) #[] #[]] (.int .i64 e) (fun w' _ _ => he ▸ behind_any cIn_any (by kernel_rfl) l i w' hl (by omega)) ?_
  refine Goes.run [] [] trivial ?_
  refine Goes.val (Instr.loadAt 9 (.pointer (some ⟨gs, 0, none⟩))) (strV l) (fun w' _ hI => loadG Tryz.isAgg9 hI.now.2.bs) ?_
  cases h0 : decide ((e : Int) < (l.length : Int)) with
  | false =>
    refine Goes.run [0, 0] [(false, false), (decide ((e : Int) < (l.length : Int)), false)] ⟨rfl, h0, trivial⟩ ?_
    refine Goes.val (Instr.loadAt 9 (.pointer (some ⟨gs, 0, none⟩))) (strV l) (fun w' _ hI => loadG Tryz.isAgg9 hI.now.2.bs) ?_
    refine Goes.run [] [] trivial ?_
    refine Goes.val (Instr.sliceAt 9 (strV l) (some (.int .i64 i)) (some (.int .i64 e)) none) (strV X) (fun w' _ _ => hX ▸ sliceS he1 he2 w') ?_
    refine Goes.run1 [1, 1] [] trivial fun g2 => ?_
    refine Goes.call0 138 #[strV X] (.bool (nmB X)) (fun w' _ _ => isName7_any X w' hXl) ?_
    cases h1 : nmB X with
    | false =>
      refine Goes.run [1, 0] [(true, true)] ⟨rfl, trivial⟩ ?_
      exact Goes.ret [0] (.tuple #[tk0.v, .int .i64 73]) fun w' hm hI => ⟨rfl, below_end (m := []) (fun j b o h => by cases h) hI.now.1 hm (by kernel_rfl)⟩
    | true =>
      refine Goes.run [0] [(false, false)] ⟨rfl, trivial⟩ ?_
      refine Goes.val (Instr.loadAt 30 (.pointer (some ⟨gw, 0, none⟩))) (.func (.func 136) #[] #[.pointer (some ⟨gm, 0, none⟩)]) (fun w' _ hI => loadG Tryz.isAgg30 hI.now.2.bw) ?_
      refine Goes.run [1] [] trivial ?_
      refine Goes.call0 136 #[strV X, .pointer (some ⟨gm, 0, none⟩)] (.bool (isKw X)) (fun w' _ hI => isWord7_any hI.now.2 X) ?_
      cases h2 : isKw X with
      | false =>
        refine Goes.run [0, 1, 0] [(false, false)] ⟨rfl, trivial⟩ ?_
        exact Goes.ret [0] (.tuple #[Tk.v ⟨2, X, 0, i, e⟩, .int .i64 0]) fun w' hm hI => ⟨rfl, below_end (m := []) (fun j b o h => by cases h) hI.now.1 hm (by kernel_rfl)⟩
      | true =>
        refine Goes.run [1, 1, 1, 0] [(true, true)] ⟨rfl, trivial⟩ ?_
        exact Goes.ret [0] (.tuple #[Tk.v ⟨1, X, 0, i, e⟩, .int .i64 0]) fun w' hm hI => ⟨rfl, below_end (m := []) (fun j b o h => by cases h) hI.now.1 hm (by kernel_rfl)⟩
  | true =>
    have hel : e < l.length := by have := of_decide_eq_true h0; omega
    obtain ⟨x, hx⟩ : ∃ x, l[e]? = some x := ⟨l[e], by simp⟩
    have hx' : l.getD e 0 = x := by simp [List.getD, hx]
    rw [hx']
    refine Goes.run [1] [(decide ((e : Int) < (l.length : Int)), true)] ⟨h0, trivial⟩ ?_
    refine Goes.val (Instr.loadAt 9 (.pointer (some ⟨gs, 0, none⟩))) (strV l) (fun w' _ hI => loadG Tryz.isAgg9 hI.now.2.bs) ?_
    refine Goes.run [] [] trivial ?_
    refine Goes.val (Instr.index 9 (strV l) (.int .i64 e)) (.int .u8 (x.toNat : Nat)) (fun w' _ _ => idxB hx w') ?_
    cases h46 : ((x.toNat : Int) == 46) with
    | true =>
      refine Goes.run [1] [((x.toNat : Int) == 46, true)] ⟨h46, trivial⟩ ?_
      refine Goes.val (Instr.loadAt 145 (.pointer (some ⟨gr, 0, none⟩))) (.func (.func 139) #[] #[.pointer (some ⟨gs, 0, none⟩), .pointer (some ⟨gf, 0, none⟩)]) (fun w' _ hI => loadG Tryz.isAgg145 hI.now.2.br) ?_
      refine Goes.run [] [] trivial ?_
      refine Goes.call0 139 #[.int .i64 i, .int .i64 e, .pointer (some ⟨gs, 0, none⟩), .pointer (some ⟨gf, 0, none⟩)] (.tuple #[(farT l i e).1.v, .int .i64 (farT l i e).2]) (fun w' _ hI => far_any hI.now.2 hl he1 hel) ?_
      refine Goes.run [0] [] trivial ?_
      exact Goes.ret [0] (.tuple #[(farT l i e).1.v, .int .i64 (farT l i e).2]) fun w' hm hI => ⟨rfl, below_end (m := []) (fun j b o h => by cases h) hI.now.1 hm (by kernel_rfl)⟩
    | false =>
    refine Goes.run [0] [((x.toNat : Int) == 46, false)] ⟨h46, trivial⟩ ?_
    refine Goes.val (Instr.loadAt 9 (.pointer (some ⟨gs, 0, none⟩))) (strV l) (fun w' _ hI => loadG Tryz.isAgg9 hI.now.2.bs) ?_
    refine Goes.run [] [] trivial ?_
    refine Goes.val (Instr.sliceAt 9 (strV l) (some (.int .i64 i)) (some (.int .i64 e)) none) (strV X) (fun w' _ _ => hX ▸ sliceS he1 he2 w') ?_
    refine Goes.run1 [1, 1] [] trivial fun g2 => ?_
    refine Goes.call0 138 #[strV X] (.bool (nmB X)) (fun w' _ _ => isName7_any X w' hXl) ?_
    cases h1 : nmB X with
    | false =>
      refine Goes.run [1, 0] [(true, true)] ⟨rfl, trivial⟩ ?_
      exact Goes.ret [0] (.tuple #[tk0.v, .int .i64 73]) fun w' hm hI => ⟨rfl, below_end (m := []) (fun j b o h => by cases h) hI.now.1 hm (by kernel_rfl)⟩
    | true =>
      refine Goes.run [0] [(false, false)] ⟨rfl, trivial⟩ ?_
      refine Goes.val (Instr.loadAt 30 (.pointer (some ⟨gw, 0, none⟩))) (.func (.func 136) #[] #[.pointer (some ⟨gm, 0, none⟩)]) (fun w' _ hI => loadG Tryz.isAgg30 hI.now.2.bw) ?_
      refine Goes.run [1] [] trivial ?_
      refine Goes.call0 136 #[strV X, .pointer (some ⟨gm, 0, none⟩)] (.bool (isKw X)) (fun w' _ hI => isWord7_any hI.now.2 X) ?_
      cases h2 : isKw X with
      | false =>
        refine Goes.run [0, 1, 0] [(false, false)] ⟨rfl, trivial⟩ ?_
        exact Goes.ret [0] (.tuple #[Tk.v ⟨2, X, 0, i, e⟩, .int .i64 0]) fun w' hm hI => ⟨rfl, below_end (m := []) (fun j b o h => by cases h) hI.now.1 hm (by kernel_rfl)⟩
      | true =>
        refine Goes.run [1, 1, 1, 0] [(true, true)] ⟨rfl, trivial⟩ ?_
        exact Goes.ret [0] (.tuple #[Tk.v ⟨1, X, 0, i, e⟩, .int .i64 0]) fun w' hm hI => ⟨rfl, below_end (m := []) (fun j b o h => by cases h) hI.now.1 hm (by kernel_rfl)⟩
/-- A block with a text. -/
def TxB (w : World) (l : List UInt8) (gs : Nat) : Prop := w.heap[gs]? = some (.cells #[strV l] 9 (0, 0))
theorem TxB.stay (h : TxB w l gs) : Stay [] w (fun w => TxB w l gs) := fun _ hc => (hc.block gs (lt_of_get h) (by simp)).trans h
def curT (l : List UInt8) (i : Nat) : Tk × Int := bif ((bhd cCap l i : Int) - (i : Int)) != 3 then (tk0, 73) else (⟨4, cutL l i (bhd cCap l i), 0, i, bhd cCap l i⟩, 0)
set_option maxRecDepth 100000 in
set_option maxHeartbeats 1000000 in
seal rn Goes ans atEnd put0 putM opened putA0 oneSt st0 in
theorem cur7_any (h : TxB w l gs) {i : Nat} (hl : l.length ≤ 1000000000) (hi : i ≤ l.length) : Calls Tryz.prog 142 #[.int .i64 i, .pointer (some ⟨gs, 0, none⟩)] w fun e w' => e = .returned (.tuple #[(curT l i).1.v, .int .i64 (curT l i).2]) ∧ Below w.heap.size w w' := by
  obtain ⟨e, he⟩ : ∃ e, bhd cCap l i = e := ⟨_, rfl⟩
  have he1 : i ≤ e := he ▸ bhd_ge _ _ _
  have he2 : e ≤ l.length := he ▸ bhd_le _ _ hi
  have hw : IntKind.i64.wrap ((e : Int) - (i : Int)) = (e : Int) - (i : Int) := IntWalk.i64_in _ ⟨by omega, by omega⟩
  unfold curT
  rw [he]
  refine Goes.begin Tryz.func142 [] (fun w => TxB w l gs) (fun j b o h => by cases h) (by simp [Mem.ids]) h.stay ?_
  refine Goes.run1 [] [] trivial fun g1 => ?_
  refine Goes.val (Instr.loadAt 9 (.pointer (some ⟨gs, 0, none⟩))) (strV l) (fun w' _ hI => loadG Tryz.isAgg9 hI.now.2) ?_
  refine Goes.run [] [] trivial ?_
  refine Goes.call0 106 #[strV l, .int .i64 i, .func (.func 103) #[] #[]] (.int .i64 e) (fun w' _ _ => he ▸ behind_any cCap_any (by kernel_rfl) l i w' hl (by omega)) ?_
  cases h0 : (((e : Int) - (i : Int)) != 3) with
  | true =>
    refine Goes.run [1, 0] [(IntKind.i64.wrap ((e : Int) - (i : Int)) != 3, true)] ⟨by rw [hw]; exact h0, trivial⟩ ?_
    exact Goes.ret [0] (.tuple #[tk0.v, .int .i64 73]) fun w' hm hI => ⟨rfl, below_end (m := []) (fun j b o h => by cases h) hI.now.1 hm (by kernel_rfl)⟩
  | false =>
    refine Goes.run [0] [(IntKind.i64.wrap ((e : Int) - (i : Int)) != 3, false)] ⟨by rw [hw]; exact h0, trivial⟩ ?_
    refine Goes.val (Instr.loadAt 9 (.pointer (some ⟨gs, 0, none⟩))) (strV l) (fun w' _ hI => loadG Tryz.isAgg9 hI.now.2) ?_
    refine Goes.run [] [] trivial ?_
    refine Goes.val (Instr.sliceAt 9 (strV l) (some (.int .i64 i)) (some (.int .i64 e)) none) (strV (cutL l i e)) (fun w' _ _ => sliceS he1 he2 w') ?_
    refine Goes.run [0] [] trivial ?_
    exact Goes.ret [0] (.tuple #[Tk.v ⟨4, cutL l i e, 0, i, e⟩, .int .i64 0]) fun w' hm hI => ⟨rfl, below_end (m := []) (fun j b o h => by cases h) hI.now.1 hm (by kernel_rfl)⟩
end
end Go.Proofs.YtommhgmlblecnaaGreatDoor
namespace Go.Proofs.YtommhgmlblecnaaGreatDoor
open Go Go.RowKit

section
variable {w : World} {l : List UInt8} {gs : Nat}
/-- A string. -/
def quoT (l : List UInt8) (i : Nat) : Tk × Int :=
  bif ((bhd cStr l (i + 1) : Int) == (l.length : Int)) || (((l.getD (bhd cStr l (i + 1)) 0).toNat : Int) != 34) then (tk0, 71)
  else bif nmB (cutL l (i + 1) (bhd cStr l (i + 1))) then (⟨7, cutL l (i + 1) (bhd cStr l (i + 1)), 0, i, (bhd cStr l (i + 1) + 1 : Nat)⟩, 0) else (tk0, 73)
set_option maxRecDepth 100000 in
set_option maxHeartbeats 1000000 in
seal rn Goes ans atEnd put0 putM opened putA0 oneSt st0 in
theorem quo7_any (h : TxB w l gs) {i : Nat} (hl : l.length ≤ 1000000000) (hi : i < l.length) : Calls Tryz.prog 148 #[.int .i64 i, .pointer (some ⟨gs, 0, none⟩)] w fun e w' => e = .returned (.tuple #[(quoT l i).1.v, .int .i64 (quoT l i).2]) ∧ Below w.heap.size w w' := by
  obtain ⟨e, he⟩ : ∃ e, bhd cStr l (i + 1) = e := ⟨_, rfl⟩
  have he1 : i + 1 ≤ e := he ▸ bhd_ge _ _ _
  have he2 : e ≤ l.length := he ▸ bhd_le _ _ hi
  have hw : IntKind.i64.wrap ((i : Int) + 1) = ((i + 1 : Nat) : Int) := wrap_nat (by omega)
  have hw2 : IntKind.i64.wrap ((e : Int) + 1) = ((e + 1 : Nat) : Int) := wrap_nat (by omega)
  obtain ⟨X, hX⟩ : ∃ X, cutL l (i + 1) e = X := ⟨_, rfl⟩
  have hXl : X.length ≤ 1000000000 := by rw [← hX]; exact Nat.le_trans (cutL_len _ _ _) hl
  unfold quoT
  rw [he, hX]
  refine Goes.begin Tryz.func148 [] (fun w => TxB w l gs) (fun j b o h => by cases h) (by simp [Mem.ids]) h.stay ?_
  refine Goes.run1 [] [] trivial fun g1 => ?_
  refine Goes.val (Instr.loadAt 9 (.pointer (some ⟨gs, 0, none⟩))) (strV l) (fun w' _ hI => loadG Tryz.isAgg9 hI.now.2) ?_
  refine Goes.run [] [] trivial ?_
  refine Goes.slot 9 (.int .i64 (i + 1 : Nat)) (u := .int .i64 (IntKind.i64.wrap ((i : Int) + 1))) (congrArg _ hw) ?_
  refine Goes.call0 106 #[strV l, .int .i64 (i + 1 : Nat), .func (.func 149) #[] #[]] (.int .i64 e) (fun w' _ _ => he ▸ behind_any cStr_any (by kernel_rfl) l (i + 1) w' hl (by omega)) ?_
  refine Goes.run [] [] trivial ?_
  refine Goes.val (Instr.loadAt 9 (.pointer (some ⟨gs, 0, none⟩))) (strV l) (fun w' _ hI => loadG Tryz.isAgg9 hI.now.2) ?_
  cases h0 : ((e : Int) == (l.length : Int)) with
  | true =>
    refine Goes.run [1, 1, 0] [(true, true), ((e : Int) == (l.length : Int), true)] ⟨rfl, h0, trivial⟩ ?_
    exact Goes.ret [0] (.tuple #[tk0.v, .int .i64 71]) fun w' hm hI => ⟨rfl, below_end (m := []) (fun j b o h => by cases h) hI.now.1 hm (by kernel_rfl)⟩
  | false =>
    have hel : e < l.length := by have : ¬ (e : Int) = (l.length : Int) := by simpa using h0
                                  omega
    obtain ⟨x, hx⟩ : ∃ x, l[e]? = some x := ⟨l[e], by simp⟩
    have hx' : l.getD e 0 = x := by simp [List.getD, hx]
    rw [hx']
    refine Goes.run [0] [((e : Int) == (l.length : Int), false)] ⟨h0, trivial⟩ ?_
    refine Goes.val (Instr.loadAt 9 (.pointer (some ⟨gs, 0, none⟩))) (strV l) (fun w' _ hI => loadG Tryz.isAgg9 hI.now.2) ?_
    refine Goes.run [] [] trivial ?_
    refine Goes.val (Instr.index 9 (strV l) (.int .i64 e)) (.int .u8 (x.toNat : Nat)) (fun w' _ _ => idxB hx w') ?_
    cases h34 : ((x.toNat : Int) != 34) with
    | true =>
      refine Goes.run [1, 0] [((x.toNat : Int) != 34, true)] ⟨h34, trivial⟩ ?_
      exact Goes.ret [0] (.tuple #[tk0.v, .int .i64 71]) fun w' hm hI => ⟨rfl, below_end (m := []) (fun j b o h => by cases h) hI.now.1 hm (by kernel_rfl)⟩
    | false =>
      refine Goes.run [0] [((x.toNat : Int) != 34, false)] ⟨h34, trivial⟩ ?_
      refine Goes.val (Instr.loadAt 9 (.pointer (some ⟨gs, 0, none⟩))) (strV l) (fun w' _ hI => loadG Tryz.isAgg9 hI.now.2) ?_
      refine Goes.run [] [] trivial ?_
      refine Goes.slot 24 (.int .i64 (i + 1 : Nat)) (u := .int .i64 (IntKind.i64.wrap ((i : Int) + 1))) (congrArg _ hw) ?_
      refine Goes.val (Instr.sliceAt 9 (strV l) (some (.int .i64 (i + 1 : Nat))) (some (.int .i64 e)) none) (strV X) (fun w' _ _ => hX ▸ sliceS he1 he2 w') ?_
      refine Goes.run [] [] trivial ?_
      refine Goes.call0 138 #[strV X] (.bool (nmB X)) (fun w' _ _ => isName7_any X w' hXl) ?_
      cases h1 : nmB X with
      | false =>
        refine Goes.run [1, 0] [(true, true)] ⟨rfl, trivial⟩ ?_
        exact Goes.ret [0] (.tuple #[tk0.v, .int .i64 73]) fun w' hm hI => ⟨rfl, below_end (m := []) (fun j b o h => by cases h) hI.now.1 hm (by kernel_rfl)⟩
      | true =>
        refine Goes.run [0, 0] [(false, false)] ⟨rfl, trivial⟩ ?_
        exact Goes.ret [0] (.tuple #[Tk.v ⟨7, X, 0, i, IntKind.i64.wrap ((e : Int) + 1)⟩, .int .i64 0]) fun w' hm hI => ⟨by rw [hw2]; rfl, below_end (m := []) (fun j b o h => by cases h) hI.now.1 hm (by kernel_rfl)⟩
/-- A sign. -/
def signT (l : List UInt8) (i : Nat) : Tk × Int :=
  bif Lib.hasPrefix (l.drop i) [60, 61] then (⟨1, cutL l i (i + 2), 0, i, (i + 2 : Nat)⟩, 0)
  else bif decide (Lib.indexByte [40, 41, 44, 59, 61, 60, 43, 45, 42, 47] (l.getD i 0) < 0) then (tk0, 71) else (⟨1, cutL l i (i + 1), 0, i, (i + 1 : Nat)⟩, 0)
theorem sliceR {l : List UInt8} {i : Nat} (hi : i ≤ l.length) (w : World) : (Instr.sliceAt 9 (strV l) (some (.int .i64 i)) none none).run Tryz.prog w = .ok (strV (l.drop i)) w := by
  have h2 : (⟨l.toArray⟩ : ByteArray).size = l.length := by simp [ByteArray.size]
  have h4 : (i : Int) ≤ (l.length : Int) := by omega
  unfold strV
  go_simp
  apply ByteArray.ext
  simp [ByteArray.data_extract, List.extract]
  rw [List.take_of_length_le (by simp)]
set_option maxRecDepth 100000 in
set_option maxHeartbeats 1000000 in
seal rn Goes ans atEnd put0 putM opened putA0 oneSt st0 in
theorem sign7_any (h : TxB w l gs) {i : Nat} (hl : l.length ≤ 1000000000) (hi : i < l.length) : Calls Tryz.prog 150 #[.int .i64 i, .pointer (some ⟨gs, 0, none⟩)] w fun e w' => e = .returned (.tuple #[(signT l i).1.v, .int .i64 (signT l i).2]) ∧ Below w.heap.size w w' := by
  have hw : IntKind.i64.wrap ((i : Int) + 1) = ((i + 1 : Nat) : Int) := wrap_nat (by omega)
  have hw2 : IntKind.i64.wrap ((i : Int) + 2) = ((i + 2 : Nat) : Int) := by rw [IntWalk.i64_in _ ⟨by omega, by omega⟩]; omega
  obtain ⟨x, hx⟩ : ∃ x, l[i]? = some x := ⟨l[i], by simp⟩
  have hx' : l.getD i 0 = x := by simp [List.getD, hx]
  unfold signT
  rw [hx']
  refine Goes.begin Tryz.func150 [] (fun w => TxB w l gs) (fun j b o h => by cases h) (by simp [Mem.ids]) h.stay ?_
  refine Goes.run1 [] [] trivial fun g1 => ?_
  refine Goes.slot 5 (.int .i64 (i + 1 : Nat)) (u := .int .i64 (IntKind.i64.wrap ((i : Int) + 1))) (congrArg _ hw) ?_
  refine Goes.val (Instr.loadAt 9 (.pointer (some ⟨gs, 0, none⟩))) (strV l) (fun w' _ hI => loadG Tryz.isAgg9 hI.now.2) ?_
  refine Goes.run [] [] trivial ?_
  refine Goes.val (Instr.sliceAt 9 (strV l) (some (.int .i64 i)) none none) (strV (l.drop i)) (fun w' _ _ => sliceR (by omega) w') ?_
  refine Goes.call0 151 #[strV (l.drop i), strV [60, 61]] (.bool (Lib.hasPrefix (l.drop i) [60, 61])) (fun w' _ _ => (Tryz.strings_HasPrefix _ _ w').mono fun e w2 h => ⟨h.1, h.2 ▸ Below.refl _ _⟩) ?_
  cases h0 : Lib.hasPrefix (l.drop i) [60, 61] with
  | true =>
    have h2 : i + 2 ≤ l.length := by
      have := (List.isPrefixOf_iff_prefix.1 h0).length_le
      simp at this
      omega
    refine Goes.run [1] [(true, true)] ⟨rfl, trivial⟩ ?_
    refine Goes.slot 5 (.int .i64 (i + 2 : Nat)) (u := .int .i64 (IntKind.i64.wrap ((i : Int) + 2))) (congrArg _ hw2) ?_
    refine Goes.val (Instr.loadAt 9 (.pointer (some ⟨gs, 0, none⟩))) (strV l) (fun w' _ hI => loadG Tryz.isAgg9 hI.now.2) ?_
    refine Goes.run [] [] trivial ?_
    refine Goes.val (Instr.sliceAt 9 (strV l) (some (.int .i64 i)) (some (.int .i64 (i + 2 : Nat))) none) (strV (cutL l i (i + 2))) (fun w' _ _ => sliceS (by omega) h2 w') ?_
    refine Goes.run [0] [] trivial ?_
    exact Goes.ret [0] (.tuple #[Tk.v ⟨1, cutL l i (i + 2), 0, i, (i + 2 : Nat)⟩, .int .i64 0]) fun w' hm hI => ⟨rfl, below_end (m := []) (fun j b o h => by cases h) hI.now.1 hm (by kernel_rfl)⟩
  | false =>
    refine Goes.run [0] [(false, false)] ⟨rfl, trivial⟩ ?_
    refine Goes.val (Instr.loadAt 9 (.pointer (some ⟨gs, 0, none⟩))) (strV l) (fun w' _ hI => loadG Tryz.isAgg9 hI.now.2) ?_
    refine Goes.run [] [] trivial ?_
    refine Goes.val (Instr.index 9 (strV l) (.int .i64 i)) (.int .u8 (x.toNat : Nat)) (fun w' _ _ => idxB hx w') ?_
    refine Goes.call0 152 #[strV [40, 41, 44, 59, 61, 60, 43, 45, 42, 47], .int .u8 (x.toNat : Nat)] (.int .i64 (Lib.indexByte [40, 41, 44, 59, 61, 60, 43, 45, 42, 47] x)) (fun w' _ _ => (Tryz.strings_IndexByte _ _ w').mono fun e w2 h => ⟨by rw [h.1]; simp, h.2 ▸ Below.refl _ _⟩) ?_
    cases h1 : decide (Lib.indexByte [40, 41, 44, 59, 61, 60, 43, 45, 42, 47] x < 0) with
    | true =>
      refine Goes.run [1, 0] [(decide (Lib.indexByte [40, 41, 44, 59, 61, 60, 43, 45, 42, 47] x < 0), true)] ⟨h1, trivial⟩ ?_
      exact Goes.ret [0] (.tuple #[tk0.v, .int .i64 71]) fun w' hm hI => ⟨rfl, below_end (m := []) (fun j b o h => by cases h) hI.now.1 hm (by kernel_rfl)⟩
    | false =>
      refine Goes.run [0] [(decide (Lib.indexByte [40, 41, 44, 59, 61, 60, 43, 45, 42, 47] x < 0), false)] ⟨h1, trivial⟩ ?_
      refine Goes.val (Instr.loadAt 9 (.pointer (some ⟨gs, 0, none⟩))) (strV l) (fun w' _ hI => loadG Tryz.isAgg9 hI.now.2) ?_
      refine Goes.run [] [] trivial ?_
      refine Goes.val (Instr.sliceAt 9 (strV l) (some (.int .i64 i)) (some (.int .i64 (i + 1 : Nat))) none) (strV (cutL l i (i + 1))) (fun w' _ _ => sliceS (by omega) (by omega) w') ?_
      refine Goes.run [0] [] trivial ?_
      exact Goes.ret [0] (.tuple #[Tk.v ⟨1, cutL l i (i + 1), 0, i, (i + 1 : Nat)⟩, .int .i64 0]) fun w' hm hI => ⟨rfl, below_end (m := []) (fun j b o h => by cases h) hI.now.1 hm (by kernel_rfl)⟩
set_option maxRecDepth 100000 in
set_option maxHeartbeats 1000000 in
seal rn Goes ans atEnd put0 putM opened putA0 oneSt st0 in
theorem clone_any (l : List UInt8) (w : World) (hl : l.length ≤ 1000000000) : Calls Tryz.prog 69 #[strV l] w fun e w' => e = .returned (strV l) ∧ Below w.heap.size w w' := by
  refine Goes.begin Tryz.func69 [] (fun _ => True) (fun j b o h => by cases h) (by simp [Mem.ids]) (fun _ _ => trivial) ?_
  refine Goes.run [] [] trivial ?_
  refine Goes.call0 108 #[strV l] (strV l) (fun w' _ _ => Tryz.stringslite_Clone _ w' (by simp [ByteArray.size]; omega)) ?_
  refine Goes.run [] [] trivial ?_
  exact Goes.ret [] (strV l) fun w' hm hI => ⟨rfl, below_end (m := []) (fun j b o h => by cases h) hI.now.1 hm (by kernel_rfl)⟩
end
end Go.Proofs.YtommhgmlblecnaaGreatDoor
namespace Go.Proofs.YtommhgmlblecnaaGreatDoor
open Go Go.RowKit

def dForm : List UInt8 := [48, 48, 48, 48, 45, 48, 48, 45, 48, 48]
/-- Does a byte not fit its place in a date's form? -/
def misfit (x f : UInt8) : Bool := (cDig (x.toNat : Nat) != cDig (f.toNat : Nat)) || (!cDig (x.toNat : Nat) && ((x.toNat : Int) != (f.toNat : Int)))
def lkD (l : List UInt8) : Bool :=
  !(decide ((l.length : Int) < 10) || (decide ((l.length : Int) > 10) && cDig ((l.getD 10 0).toNat : Nat))) && (List.range 10).all fun j => !misfit (l.getD j 0) (dForm.getD j 0)
theorem lk_bad {l : List UInt8} {j : Nat} (hj : j < 10) (h : misfit (l.getD j 0) (dForm.getD j 0) = true) : ((List.range 10).all fun j => !misfit (l.getD j 0) (dForm.getD j 0)) = false := by
  rw [List.all_eq_false]
  exact ⟨j, by simpa using hj, by rw [h]; simp⟩
theorem lk_good {l : List UInt8} (h : ∀ k, k < 10 → misfit (l.getD k 0) (dForm.getD k 0) = false) : ((List.range 10).all fun j => !misfit (l.getD j 0) (dForm.getD j 0)) = true := by
  rw [List.all_eq_true]
  intro k hk
  rw [h k (by simpa using hk)]
  rfl
set_option maxRecDepth 100000 in
set_option maxHeartbeats 1000000 in
seal rn Goes ans atEnd put0 putM opened putA0 oneSt st0 in
theorem lkD_any (l : List UInt8) (w : World) : Calls Tryz.prog 145 #[strV l] w fun e w' => e = .returned (.bool (lkD l)) ∧ Below w.heap.size w w' := by
  refine Goes.begin Tryz.func145 [] (fun _ => True) (fun j b o h => by cases h) (by simp [Mem.ids]) (fun _ _ => trivial) ?_
  cases h0 : decide ((l.length : Int) < 10) with
  | true =>
    refine Goes.run [1, 1] [(true, true), (decide ((l.length : Int) < 10), true)] ⟨rfl, h0, trivial⟩ ?_
    exact Goes.ret [] (.bool false) fun w' hm hI => ⟨by simp only [lkD, h0, Bool.true_or, Bool.not_true, Bool.false_and], below_end (m := []) (fun j b o h => by cases h) hI.now.1 hm (by kernel_rfl)⟩
  | false =>
    have h10 : 10 ≤ l.length := by have := of_decide_eq_false h0; omega
    cases h1 : decide ((l.length : Int) > 10) with
    | true =>
      obtain ⟨x, hx⟩ : ∃ x, l[10]? = some x := ⟨l[10]'(by have := of_decide_eq_true h1; omega), by simp⟩
      have hx' : l.getD 10 0 = x := by simp [List.getD, hx]
      refine Goes.run [0, 1] [(decide ((l.length : Int) > 10), true), (decide ((l.length : Int) < 10), false)] ⟨h1, h0, trivial⟩ ?_
      refine Goes.val (Instr.index 9 (strV l) (.int .i64 (10 : Nat))) (.int .u8 (x.toNat : Nat)) (fun w' _ _ => idxB hx w') ?_
      refine Goes.call0 104 #[.int .u8 (x.toNat : Nat)] (.bool (cDig (x.toNat : Nat))) (fun w' _ _ => cDig_any _ w') ?_
      cases hd : cDig (x.toNat : Nat) with
      | true =>
        refine Goes.run [1] [(true, true)] ⟨rfl, trivial⟩ ?_
        exact Goes.ret [] (.bool false) fun w' hm hI => ⟨by simp only [lkD, h0, h1, hx', hd, Bool.false_or, Bool.true_and, Bool.not_true, Bool.false_and], below_end (m := []) (fun j b o h => by cases h) hI.now.1 hm (by kernel_rfl)⟩
      | false =>
      have hPre : (!(decide ((l.length : Int) < 10) || (decide ((l.length : Int) > 10) && cDig ((l.getD 10 0).toNat : Nat)))) = true := by simp only [h0, h1, hx', hd, Bool.false_or, Bool.true_and, Bool.not_false]
      refine Goes.run [0] [(false, false)] ⟨rfl, trivial⟩ ?_
      refine Goes.loop0 (α := Nat) 44 (fun j => [(0, strV l), (2, .bool false), (17, .int .i64 j)]) [] (fun j => j ≤ 10 ∧ ∀ k, k < j → misfit (l.getD k 0) (dForm.getD k 0) = false) (fun j => 10 - j) 0 ⟨by decide, fun k hk => by omega⟩ ?_
      rintro j J ⟨hj, ha⟩ back
      cases hlt : decide ((j : Int) < 10) with
      | false =>
        obtain rfl : j = 10 := by have := of_decide_eq_false hlt; omega
        refine Goes.run [0, 0] [(decide (((10 : Nat) : Int) < 10), false)] ⟨hlt, trivial⟩ ?_
        exact Goes.ret [] (.bool true) fun w' hm hI => ⟨by rw [lkD, hPre, lk_good ha]; rfl, below_end (m := []) (fun j b o h => by cases h) hI.now.1 hm (by kernel_rfl)⟩
      | true =>
        have hjl : j < 10 := by have := of_decide_eq_true hlt; omega
        obtain ⟨x, hx⟩ : ∃ x, l[j]? = some x := ⟨l[j]'(by omega), by simp⟩
        have hx' : l.getD j 0 = x := by simp [List.getD, hx]
        have hjd : j < dForm.length := hjl
        obtain ⟨f, hf⟩ : ∃ f, dForm[j]? = some f := ⟨dForm[j]'hjd, List.getElem?_eq_getElem hjd⟩
        have hf' : dForm.getD j 0 = f := by simp [List.getD, hf]
        refine Goes.run [0, 1] [(decide ((j : Int) < 10), true)] ⟨hlt, trivial⟩ ?_
        refine Goes.open [] ?_
        refine Goes.run [0, 1, 4] [] trivial ?_
        refine Goes.valA 2 (Instr.index 9 (strV l) (.int .i64 j)) (.int .u8 (x.toNat : Nat)) (fun w' _ => idxB hx w') ?_
        refine Goes.valA 5 (Instr.index 9 (strV dForm) (.int .i64 j)) (.int .u8 (f.toNat : Nat)) (fun w' _ => idxB hf w') ?_
        refine Goes.callA0 3 104 #[.int .u8 (x.toNat : Nat)] (.bool (cDig (x.toNat : Nat))) (fun w' _ _ => cDig_any _ w') ?_
        refine Goes.callA0 6 104 #[.int .u8 (f.toNat : Nat)] (.bool (cDig (f.toNat : Nat))) (fun w' _ _ => cDig_any _ w') ?_
        have hbad : misfit x f = true → lkD l = false := fun hmf => by
          rw [lkD, lk_bad hjl (by rw [hx', hf']; exact hmf), Bool.and_false]
        have hgood : misfit x f = false → ∀ k, k < j + 1 → misfit (l.getD k 0) (dForm.getD k 0) = false := fun hmf k hk => (Nat.lt_succ_iff_lt_or_eq.1 hk).elim (ha k) (fun e => by subst e; rw [hx', hf']; exact hmf)
        cases h2 : cDig (x.toNat : Nat) with
        | true =>
          cases h3 : cDig (f.toNat : Nat) with
          | false =>
            refine Goes.run [7, 8, 9, 10, 11, 12, 13, 14, 15, 16, 17, 18, 19, 20, 21, 22, 1] [(true, true)] ⟨rfl, trivial⟩ ?_
            exact Goes.ret [] (.bool false) fun w' hm hI => ⟨by rw [hbad (by simp [misfit, h2, h3])], below_end (m := []) (fun j b o h => by cases h) hI.now.1 hm (by kernel_rfl)⟩
          | true =>
            refine Goes.run [7, 8, 9, 10] [] trivial ?_
            refine Goes.valA 11 (Instr.index 9 (strV l) (.int .i64 j)) (.int .u8 (x.toNat : Nat)) (fun w' _ => idxB hx w') ?_
            refine Goes.callA0 12 104 #[.int .u8 (x.toNat : Nat)] (.bool (cDig (x.toNat : Nat))) (fun w' _ _ => cDig_any _ w') ?_
            rw [h2]
            refine Goes.run [13, 14, 15, 16, 17, 18, 19, 20, 21, 22, 0] [(false, false)] ⟨rfl, trivial⟩ ?_
            refine Goes.slot 17 (.int .i64 (j + 1 : Nat)) (u := .int .i64 (IntKind.i64.wrap ((j : Int) + 1))) (congrArg _ (wrap_nat (by omega))) ?_
            exact back (j + 1) _ ⟨hjl, hgood (by simp [misfit, h2, h3])⟩ (by omega) (by kernel_rfl) (by kernel_rfl) (by kernel_rfl)
        | false =>
          cases h3 : cDig (f.toNat : Nat) with
          | true =>
            refine Goes.run [7, 8, 9, 10, 11, 12, 13, 14, 15, 16, 17, 18, 19, 20, 21, 22, 1] [(true, true)] ⟨rfl, trivial⟩ ?_
            exact Goes.ret [] (.bool false) fun w' hm hI => ⟨by rw [hbad (by simp [misfit, h2, h3])], below_end (m := []) (fun j b o h => by cases h) hI.now.1 hm (by kernel_rfl)⟩
          | false =>
            refine Goes.run [7, 8, 9, 10] [] trivial ?_
            refine Goes.valA 11 (Instr.index 9 (strV l) (.int .i64 j)) (.int .u8 (x.toNat : Nat)) (fun w' _ => idxB hx w') ?_
            refine Goes.callA0 12 104 #[.int .u8 (x.toNat : Nat)] (.bool (cDig (x.toNat : Nat))) (fun w' _ _ => cDig_any _ w') ?_
            rw [h2]
            refine Goes.run [13, 14, 15, 16, 18] [] trivial ?_
            refine Goes.valA 17 (Instr.index 9 (strV l) (.int .i64 j)) (.int .u8 (x.toNat : Nat)) (fun w' _ => idxB hx w') ?_
            refine Goes.valA 19 (Instr.index 9 (strV dForm) (.int .i64 j)) (.int .u8 (f.toNat : Nat)) (fun w' _ => idxB hf w') ?_
            cases h4 : ((x.toNat : Int) != (f.toNat : Int)) with
            | true =>
              refine Goes.run [20, 21, 22, 1] [((x.toNat : Int) != (f.toNat : Int), true)] ⟨h4, trivial⟩ ?_
              exact Goes.ret [] (.bool false) fun w' hm hI => ⟨by rw [hbad (by simp only [misfit, h2, h3, h4]; rfl)], below_end (m := []) (fun j b o h => by cases h) hI.now.1 hm (by kernel_rfl)⟩
            | false =>
              refine Goes.run [20, 21, 22, 0] [((x.toNat : Int) != (f.toNat : Int), false)] ⟨h4, trivial⟩ ?_
              refine Goes.slot 17 (.int .i64 (j + 1 : Nat)) (u := .int .i64 (IntKind.i64.wrap ((j : Int) + 1))) (congrArg _ (wrap_nat (by omega))) ?_
              exact back (j + 1) _ ⟨hjl, hgood (by simp only [misfit, h2, h3, h4]; rfl)⟩ (by omega) (by kernel_rfl) (by kernel_rfl) (by kernel_rfl)
    | false =>
      have hPre : (!(decide ((l.length : Int) < 10) || (decide ((l.length : Int) > 10) && cDig ((l.getD 10 0).toNat : Nat)))) = true := by simp only [h0, h1, Bool.false_or, Bool.false_and, Bool.not_false]
      refine Goes.run [0, 0, 0] [(false, false), (decide ((l.length : Int) > 10), false), (decide ((l.length : Int) < 10), false)] ⟨rfl, h1, h0, trivial⟩ ?_
      refine Goes.loop0 (α := Nat) 44 (fun j => [(0, strV l), (2, .bool false), (17, .int .i64 j)]) [] (fun j => j ≤ 10 ∧ ∀ k, k < j → misfit (l.getD k 0) (dForm.getD k 0) = false) (fun j => 10 - j) 0 ⟨by decide, fun k hk => by omega⟩ ?_
      rintro j J ⟨hj, ha⟩ back
      cases hlt : decide ((j : Int) < 10) with
      | false =>
        obtain rfl : j = 10 := by have := of_decide_eq_false hlt; omega
        refine Goes.run [0, 0] [(decide (((10 : Nat) : Int) < 10), false)] ⟨hlt, trivial⟩ ?_
        exact Goes.ret [] (.bool true) fun w' hm hI => ⟨by rw [lkD, hPre, lk_good ha]; rfl, below_end (m := []) (fun j b o h => by cases h) hI.now.1 hm (by kernel_rfl)⟩
      | true =>
        have hjl : j < 10 := by have := of_decide_eq_true hlt; omega
        obtain ⟨x, hx⟩ : ∃ x, l[j]? = some x := ⟨l[j]'(by omega), by simp⟩
        have hx' : l.getD j 0 = x := by simp [List.getD, hx]
        have hjd : j < dForm.length := hjl
        obtain ⟨f, hf⟩ : ∃ f, dForm[j]? = some f := ⟨dForm[j]'hjd, List.getElem?_eq_getElem hjd⟩
        have hf' : dForm.getD j 0 = f := by simp [List.getD, hf]
        refine Goes.run [0, 1] [(decide ((j : Int) < 10), true)] ⟨hlt, trivial⟩ ?_
        refine Goes.open [] ?_
        refine Goes.run [0, 1, 4] [] trivial ?_
        refine Goes.valA 2 (Instr.index 9 (strV l) (.int .i64 j)) (.int .u8 (x.toNat : Nat)) (fun w' _ => idxB hx w') ?_
        refine Goes.valA 5 (Instr.index 9 (strV dForm) (.int .i64 j)) (.int .u8 (f.toNat : Nat)) (fun w' _ => idxB hf w') ?_
        refine Goes.callA0 3 104 #[.int .u8 (x.toNat : Nat)] (.bool (cDig (x.toNat : Nat))) (fun w' _ _ => cDig_any _ w') ?_
        refine Goes.callA0 6 104 #[.int .u8 (f.toNat : Nat)] (.bool (cDig (f.toNat : Nat))) (fun w' _ _ => cDig_any _ w') ?_
        have hbad : misfit x f = true → lkD l = false := fun hmf => by
          rw [lkD, lk_bad hjl (by rw [hx', hf']; exact hmf), Bool.and_false]
        have hgood : misfit x f = false → ∀ k, k < j + 1 → misfit (l.getD k 0) (dForm.getD k 0) = false := fun hmf k hk => (Nat.lt_succ_iff_lt_or_eq.1 hk).elim (ha k) (fun e => by subst e; rw [hx', hf']; exact hmf)
        cases h2 : cDig (x.toNat : Nat) with
        | true =>
          cases h3 : cDig (f.toNat : Nat) with
          | false =>
            refine Goes.run [7, 8, 9, 10, 11, 12, 13, 14, 15, 16, 17, 18, 19, 20, 21, 22, 1] [(true, true)] ⟨rfl, trivial⟩ ?_
            exact Goes.ret [] (.bool false) fun w' hm hI => ⟨by rw [hbad (by simp [misfit, h2, h3])], below_end (m := []) (fun j b o h => by cases h) hI.now.1 hm (by kernel_rfl)⟩
          | true =>
            refine Goes.run [7, 8, 9, 10] [] trivial ?_
            refine Goes.valA 11 (Instr.index 9 (strV l) (.int .i64 j)) (.int .u8 (x.toNat : Nat)) (fun w' _ => idxB hx w') ?_
            refine Goes.callA0 12 104 #[.int .u8 (x.toNat : Nat)] (.bool (cDig (x.toNat : Nat))) (fun w' _ _ => cDig_any _ w') ?_
            rw [h2]
            refine Goes.run [13, 14, 15, 16, 17, 18, 19, 20, 21, 22, 0] [(false, false)] ⟨rfl, trivial⟩ ?_
            refine Goes.slot 17 (.int .i64 (j + 1 : Nat)) (u := .int .i64 (IntKind.i64.wrap ((j : Int) + 1))) (congrArg _ (wrap_nat (by omega))) ?_
            exact back (j + 1) _ ⟨hjl, hgood (by simp [misfit, h2, h3])⟩ (by omega) (by kernel_rfl) (by kernel_rfl) (by kernel_rfl)
        | false =>
          cases h3 : cDig (f.toNat : Nat) with
          | true =>
            refine Goes.run [7, 8, 9, 10, 11, 12, 13, 14, 15, 16, 17, 18, 19, 20, 21, 22, 1] [(true, true)] ⟨rfl, trivial⟩ ?_
            exact Goes.ret [] (.bool false) fun w' hm hI => ⟨by rw [hbad (by simp [misfit, h2, h3])], below_end (m := []) (fun j b o h => by cases h) hI.now.1 hm (by kernel_rfl)⟩
          | false =>
            refine Goes.run [7, 8, 9, 10] [] trivial ?_
            refine Goes.valA 11 (Instr.index 9 (strV l) (.int .i64 j)) (.int .u8 (x.toNat : Nat)) (fun w' _ => idxB hx w') ?_
            refine Goes.callA0 12 104 #[.int .u8 (x.toNat : Nat)] (.bool (cDig (x.toNat : Nat))) (fun w' _ _ => cDig_any _ w') ?_
            rw [h2]
            refine Goes.run [13, 14, 15, 16, 18] [] trivial ?_
            refine Goes.valA 17 (Instr.index 9 (strV l) (.int .i64 j)) (.int .u8 (x.toNat : Nat)) (fun w' _ => idxB hx w') ?_
            refine Goes.valA 19 (Instr.index 9 (strV dForm) (.int .i64 j)) (.int .u8 (f.toNat : Nat)) (fun w' _ => idxB hf w') ?_
            cases h4 : ((x.toNat : Int) != (f.toNat : Int)) with
            | true =>
              refine Goes.run [20, 21, 22, 1] [((x.toNat : Int) != (f.toNat : Int), true)] ⟨h4, trivial⟩ ?_
              exact Goes.ret [] (.bool false) fun w' hm hI => ⟨by rw [hbad (by simp only [misfit, h2, h3, h4]; rfl)], below_end (m := []) (fun j b o h => by cases h) hI.now.1 hm (by kernel_rfl)⟩
            | false =>
              refine Goes.run [20, 21, 22, 0] [((x.toNat : Int) != (f.toNat : Int), false)] ⟨h4, trivial⟩ ?_
              refine Goes.slot 17 (.int .i64 (j + 1 : Nat)) (u := .int .i64 (IntKind.i64.wrap ((j : Int) + 1))) (congrArg _ (wrap_nat (by omega))) ?_
              exact back (j + 1) _ ⟨hjl, hgood (by simp only [misfit, h2, h3, h4]; rfl)⟩ (by omega) (by kernel_rfl) (by kernel_rfl) (by kernel_rfl)
end Go.Proofs.YtommhgmlblecnaaGreatDoor
namespace Go.Proofs.YtommhgmlblecnaaGreatDoor
open Go Go.RowKit

/-- Where a number ends. -/
def numE (l : List UInt8) (i : Nat) : Nat := bif decide (((bhd cDig l (bhd cDig l i + 1) : Nat) : Int) > ((bhd cDig l i + 1 : Nat) : Int)) && (((l.getD (bhd cDig l i) 0).toNat : Int) == 46) then bhd cDig l (bhd cDig l i + 1) else bhd cDig l i
def numT (l : List UInt8) (i : Nat) : Tk × Bool := (⟨6, [], (parseL (cutL l i (numE l i))).1, i, numE l i⟩, (parseL (cutL l i (numE l i))).2)
theorem numP (x : List UInt8) (w : World) (hx : x.length ≤ 1000000000) : Calls Tryz.prog 171 #[strV x] w fun e w' => e = .returned (.tuple #[.int .i64 (parseL x).1, .bool (parseL x).2]) ∧ Below w.heap.size w w' := by
  have := parse_any ⟨x.toArray⟩ w (by simp [ByteArray.size, maxLen]; omega)
  exact this
set_option maxRecDepth 100000 in
set_option maxHeartbeats 1000000 in
seal rn Goes ans atEnd put0 putM opened putA0 oneSt st0 in
theorem num7_any (l : List UInt8) (i : Nat) (w : World) (hl : l.length ≤ 100000000) (hi : i ≤ l.length) : Calls Tryz.prog 144 #[strV l, .int .i64 i] w fun e w' => e = .returned (.tuple #[(numT l i).1.v, .bool (numT l i).2]) ∧ Below w.heap.size w w' := by
  obtain ⟨e, he⟩ : ∃ e, bhd cDig l i = e := ⟨_, rfl⟩
  have he1 : i ≤ e := he ▸ bhd_ge _ _ _
  have he2 : e ≤ l.length := he ▸ bhd_le _ _ hi
  obtain ⟨q, hq⟩ : ∃ q, bhd cDig l (e + 1) = q := ⟨_, rfl⟩
  have hq1 : e + 1 ≤ q := hq ▸ bhd_ge _ _ _
  have hw : IntKind.i64.wrap ((e : Int) + 1) = ((e + 1 : Nat) : Int) := wrap_nat (by omega)
  unfold numT numE
  rw [he, hq]
  refine Goes.begin Tryz.func144 [] (fun w => True) (fun j b o h => by cases h) (by simp [Mem.ids]) (fun _ _ => trivial) ?_
  refine Goes.run1 [] [] trivial fun g1 => ?_
  refine Goes.call0 106 #[strV l, .int .i64 (i), .func (.func 104) #[] #[]] (.int .i64 e) (fun w' _ _ => he ▸ behind_any cDig_any (by kernel_rfl) l (i) w' (by omega) (by omega)) ?_
  refine Goes.run [] [] trivial ?_
  refine Goes.slot 15 (.int .i64 (e + 1 : Nat)) (u := .int .i64 (IntKind.i64.wrap ((e : Int) + 1))) (congrArg _ hw) ?_
  refine Goes.call0 106 #[strV l, .int .i64 (e + 1 : Nat), .func (.func 104) #[] #[]] (.int .i64 q) (fun w' _ _ => hq ▸ behind_any cDig_any (by kernel_rfl) l (e + 1) w' (by omega) (by omega)) ?_
  cases h0 : decide ((q : Int) > ((e + 1 : Nat) : Int)) with
  | false =>
    refine Goes.run [0, 0] [(false, false), (decide ((q : Int) > IntKind.i64.wrap ((e : Int) + 1)), false)] ⟨rfl, by rw [hw]; exact h0, trivial⟩ ?_
    refine Goes.val (Instr.sliceAt 9 (strV l) (some (.int .i64 i)) (some (.int .i64 e)) none) (strV (cutL l i e)) (fun w' _ _ => sliceS (by omega) (by omega) w') ?_
    refine Goes.call0 171 #[strV (cutL l i e)] (.tuple #[.int .i64 (parseL (cutL l i e)).1, .bool (parseL (cutL l i e)).2]) (fun w' _ _ => numP _ w' (Nat.le_trans (cutL_len _ _ _) (by omega))) ?_
    refine Goes.run [0] [] trivial ?_
    exact Goes.ret [0] (.tuple #[Tk.v ⟨6, [], (parseL (cutL l i e)).1, i, e⟩, .bool (parseL (cutL l i e)).2]) fun w' hm hI => ⟨rfl, below_end (m := []) (fun j b o h => by cases h) hI.now.1 hm (by kernel_rfl)⟩
  | true =>
    have hel : e + 1 < l.length := by
      have h1 := of_decide_eq_true h0
      rcases Nat.lt_or_ge (e + 1) l.length with h2 | h2
      · exact h2
      · have := bhd_end (C := cDig) (l := l) h2; omega
    have hq2 : q ≤ l.length := hq ▸ bhd_le _ _ (by omega)
    obtain ⟨x, hx⟩ : ∃ x, l[e]? = some x := ⟨l[e]'(by omega), by simp⟩
    have hx' : l.getD e 0 = x := by simp [List.getD, hx]
    rw [hx']
    refine Goes.run [1] [(decide ((q : Int) > IntKind.i64.wrap ((e : Int) + 1)), true)] ⟨by rw [hw]; exact h0, trivial⟩ ?_
    refine Goes.val (Instr.index 9 (strV l) (.int .i64 e)) (.int .u8 (x.toNat : Nat)) (fun w' _ _ => idxB hx w') ?_
    cases h1 : ((x.toNat : Int) == 46) with
    | true =>
    refine Goes.run [1] [((x.toNat : Int) == 46, true)] ⟨h1, trivial⟩ ?_
    refine Goes.val (Instr.sliceAt 9 (strV l) (some (.int .i64 i)) (some (.int .i64 q)) none) (strV (cutL l i q)) (fun w' _ _ => sliceS (by omega) (by omega) w') ?_
    refine Goes.call0 171 #[strV (cutL l i q)] (.tuple #[.int .i64 (parseL (cutL l i q)).1, .bool (parseL (cutL l i q)).2]) (fun w' _ _ => numP _ w' (Nat.le_trans (cutL_len _ _ _) (by omega))) ?_
    refine Goes.run [0] [] trivial ?_
    exact Goes.ret [0] (.tuple #[Tk.v ⟨6, [], (parseL (cutL l i q)).1, i, q⟩, .bool (parseL (cutL l i q)).2]) fun w' hm hI => ⟨rfl, below_end (m := []) (fun j b o h => by cases h) hI.now.1 hm (by kernel_rfl)⟩
    | false =>
    refine Goes.run [0] [((x.toNat : Int) == 46, false)] ⟨h1, trivial⟩ ?_
    refine Goes.val (Instr.sliceAt 9 (strV l) (some (.int .i64 i)) (some (.int .i64 e)) none) (strV (cutL l i e)) (fun w' _ _ => sliceS (by omega) (by omega) w') ?_
    refine Goes.call0 171 #[strV (cutL l i e)] (.tuple #[.int .i64 (parseL (cutL l i e)).1, .bool (parseL (cutL l i e)).2]) (fun w' _ _ => numP _ w' (Nat.le_trans (cutL_len _ _ _) (by omega))) ?_
    refine Goes.run [0] [] trivial ?_
    exact Goes.ret [0] (.tuple #[Tk.v ⟨6, [], (parseL (cutL l i e)).1, i, e⟩, .bool (parseL (cutL l i e)).2]) fun w' hm hI => ⟨rfl, below_end (m := []) (fun j b o h => by cases h) hI.now.1 hm (by kernel_rfl)⟩
end Go.Proofs.YtommhgmlblecnaaGreatDoor
namespace Go.Proofs.YtommhgmlblecnaaGreatDoor
open Go Go.RowKit

theorem ch_below {w w' : World} (hc : Ch [] w w') : Below w.heap.size w w' := below_end (m := []) (s := ⟨[], [], []⟩) (fun j b o h => by cases h) hc (fun j b o h => by cases h) rfl
theorem Tab.stay {w : World} (h : Tab w) : Stay [] w Tab := fun _ hc => h.below (ch_below hc)
/-- What date.Parse says of a text: the day, and what is wrong. -/
def dPar (l : List UInt8) : Int × Int :=
  if l.length = 10 ∧ l.getD 4 0 = 45 ∧ l.getD 7 0 = 45 ∧ dgOk (l.take 4) = true ∧ dgOk ((l.drop 5).take 2) = true ∧ dgOk (l.drop 8) = true then
    if Valid (dgV (l.take 4) : Nat) (dgV ((l.drop 5).take 2) : Nat) (dgV (l.drop 8) : Nat) then ((dn (((dgV (l.take 4) : Nat) : Int) - 1900).toNat (((dgV ((l.drop 5).take 2) : Nat) : Int) - 1).toNat ((dgV (l.drop 8) : Nat) : Int).toNat : Nat), 0) else (0, 30)
  else (0, 30)
theorem parseV_dPar (l : List UInt8) : parseV l = .tuple #[.int .i64 (dPar l).1, .int .i64 (dPar l).2] := by
  unfold parseV dPar ofV
  split
  · split <;> rfl
  · rfl
theorem datP (x : List UInt8) (w : World) (ht : Tab w) : Calls Tryz.prog 172 #[strV x] w fun e w' => e = .returned (.tuple #[.int .i64 (dPar x).1, .int .i64 (dPar x).2]) ∧ Below w.heap.size w w' := by
  have := dparse_any ⟨x.toArray⟩ w ht
  rw [show (⟨x.toArray⟩ : ByteArray).data.toList = x from rfl, parseV_dPar] at this
  exact this
def dateT (l : List UInt8) (i : Nat) : Tk × Bool := (⟨5, [], (dPar (cutL l i (i + 10))).1, i, (i + 10 : Nat)⟩, (dPar (cutL l i (i + 10))).2 == 0)
set_option maxRecDepth 100000 in
set_option maxHeartbeats 1000000 in
seal rn Goes ans atEnd put0 putM opened putA0 oneSt st0 in
theorem date7_any (l : List UInt8) (i : Nat) (w : World) (ht : Tab w) (hl : l.length ≤ 100000000) (hi : i + 10 ≤ l.length) : Calls Tryz.prog 146 #[strV l, .int .i64 i] w fun e w' => e = .returned (.tuple #[(dateT l i).1.v, .bool (dateT l i).2]) ∧ Below w.heap.size w w' := by
  have hw : IntKind.i64.wrap ((i : Int) + 10) = ((i + 10 : Nat) : Int) := by rw [IntWalk.i64_in _ ⟨by omega, by omega⟩]; omega
  refine Goes.begin Tryz.func146 [] Tab (fun j b o h => by cases h) (by simp [Mem.ids]) ht.stay ?_
  refine Goes.run1 [] [] trivial fun g1 => ?_
  refine Goes.slot 6 (.int .i64 (i + 10 : Nat)) (u := .int .i64 (IntKind.i64.wrap ((i : Int) + 10))) (congrArg _ hw) ?_
  refine Goes.slot 14 (.int .i64 (i + 10 : Nat)) (u := .int .i64 (IntKind.i64.wrap ((i : Int) + 10))) (congrArg _ hw) ?_
  refine Goes.val (Instr.sliceAt 9 (strV l) (some (.int .i64 i)) (some (.int .i64 (i + 10 : Nat))) none) (strV (cutL l i (i + 10))) (fun w' _ _ => sliceS (by omega) hi w') ?_
  refine Goes.call0 172 #[strV (cutL l i (i + 10))] (.tuple #[.int .i64 (dPar (cutL l i (i + 10))).1, .int .i64 (dPar (cutL l i (i + 10))).2]) (fun w' _ hI => datP _ w' hI.now.2) ?_
  refine Goes.run [0] [] trivial ?_
  exact Goes.ret [0] (.tuple #[(dateT l i).1.v, .bool (dateT l i).2]) fun w' hm hI => ⟨rfl, below_end (m := []) (fun j b o h => by cases h) hI.now.1 hm (by kernel_rfl)⟩
/-- A number or a date; is it one? -/
def nodT (l : List UInt8) (i : Nat) : Tk × Bool := bif lkD (l.drop i) then dateT l i else numT l i
def nbrT (l : List UInt8) (i : Nat) : Tk × Int :=
  bif !(nodT l i).2 || (decide ((nodT l i).1.e < (l.length : Int)) && cBad ((l.getD (nodT l i).1.e.toNat 0).toNat : Nat)) then (tk0, 72) else ((nodT l i).1, 0)
theorem lkD_ten {l : List UInt8} (h : lkD l = true) : 10 ≤ l.length := by
  rcases Nat.lt_or_ge l.length 10 with h1 | h1
  · have h2 : decide ((l.length : Int) < 10) = true := decide_eq_true (by omega)
    rw [lkD, h2, Bool.true_or, Bool.not_true, Bool.false_and] at h
    cases h
  · exact h1
theorem numE_le {l : List UInt8} {i : Nat} (hi : i ≤ l.length) : numE l i ≤ l.length := by
  unfold numE
  rcases Nat.lt_or_ge (bhd cDig l i) l.length with h | h
  · cases decide (((bhd cDig l (bhd cDig l i + 1) : Nat) : Int) > ((bhd cDig l i + 1 : Nat) : Int)) && (((l.getD (bhd cDig l i) 0).toNat : Int) == 46) with
    | true => exact bhd_le _ _ h
    | false => exact bhd_le _ _ hi
  · have h1 : bhd cDig l (bhd cDig l i + 1) = bhd cDig l i + 1 := bhd_end (by omega)
    rw [h1]
    simp
    exact bhd_le _ _ hi
section
variable {w : World} {l : List UInt8} {gs : Nat}
set_option maxRecDepth 100000 in
set_option maxHeartbeats 1000000 in
seal rn Goes ans atEnd put0 putM opened putA0 oneSt st0 in
theorem nbr7_any (h : TxB w l gs) (ht : Tab w) {i : Nat} (hl : l.length ≤ 100000000) (hi : i ≤ l.length) : Calls Tryz.prog 143 #[.int .i64 i, .pointer (some ⟨gs, 0, none⟩)] w fun e w' => e = .returned (.tuple #[(nbrT l i).1.v, .int .i64 (nbrT l i).2]) ∧ Below w.heap.size w w' := by
  refine Goes.begin Tryz.func143 [] (fun w => TxB w l gs ∧ Tab w) (fun j b o h => by cases h) (by simp [Mem.ids]) (h.stay.and ht.stay) ?_
  refine Goes.run1 [] [] trivial fun g1 => ?_
  refine Goes.val (Instr.loadAt 9 (.pointer (some ⟨gs, 0, none⟩))) (strV l) (fun w' _ hI => loadG Tryz.isAgg9 hI.now.2.1) ?_
  refine Goes.run [] [] trivial ?_
  obtain ⟨t, hT⟩ : ∃ t, (numT l i).1 = t := ⟨_, rfl⟩
  obtain ⟨r, hR⟩ : ∃ r, (numT l i).2 = r := ⟨_, rfl⟩
  refine Goes.call0 144 #[strV l, .int .i64 i] (.tuple #[t.v, .bool r]) (fun w' _ _ => hT ▸ hR ▸ num7_any l i w' hl hi) ?_
  refine Goes.run1 [1] [] trivial fun g2 => ?_
  refine Goes.val (Instr.loadAt 9 (.pointer (some ⟨gs, 0, none⟩))) (strV l) (fun w' _ hI => loadG Tryz.isAgg9 hI.now.2.1) ?_
  refine Goes.run [] [] trivial ?_
  refine Goes.val (Instr.sliceAt 9 (strV l) (some (.int .i64 i)) none none) (strV (l.drop i)) (fun w' _ _ => sliceR hi w') ?_
  refine Goes.call0 145 #[strV (l.drop i)] (.bool (lkD (l.drop i))) (fun w' _ _ => lkD_any _ w') ?_
  cases hk : lkD (l.drop i) with
  | true =>
    have h10 : i + 10 ≤ l.length := by have := lkD_ten hk; rw [List.length_drop] at this; omega
    refine Goes.run [1] [(true, true)] ⟨rfl, trivial⟩ ?_
    refine Goes.val (Instr.loadAt 9 (.pointer (some ⟨gs, 0, none⟩))) (strV l) (fun w' _ hI => loadG Tryz.isAgg9 hI.now.2.1) ?_
    refine Goes.run [] [] trivial ?_
    obtain ⟨t, hT⟩ : ∃ t, (dateT l i).1 = t := ⟨_, rfl⟩
    obtain ⟨r, hR⟩ : ∃ r, (dateT l i).2 = r := ⟨_, rfl⟩
    obtain ⟨E, hte⟩ : ∃ E : Nat, t.e = E := ⟨i + 10, by rw [← hT]; rfl⟩
    have hD : nodT l i = (t, r) := by rw [nodT, hk, cond_true, ← hT, ← hR]
    refine Goes.call0 146 #[strV l, .int .i64 i] (.tuple #[t.v, .bool r]) (fun w' _ hI => hT ▸ hR ▸ date7_any l i w' hI.now.2.2 hl h10) ?_
    cases hr : r with
    | false =>
      refine Goes.run [1, 1, 1, 0] [(true, true), (true, true)] ⟨rfl, rfl, trivial⟩ ?_
      exact Goes.ret [0] (.tuple #[tk0.v, .int .i64 72]) fun w' hm hI => ⟨by rw [nbrT, hD]; simp only [ hr]; rfl, below_end (m := []) (fun j b o h => by cases h) hI.now.1 hm (by kernel_rfl)⟩
    | true =>
      refine Goes.run [1, 0, 1] [(false, false)] ⟨rfl, trivial⟩ ?_
      refine Goes.val (Instr.loadAt 9 (.pointer (some ⟨gs, 0, none⟩))) (strV l) (fun w' _ hI => loadG Tryz.isAgg9 hI.now.2.1) ?_
      cases h1 : decide (t.e < (l.length : Int)) with
      | false =>
        refine Goes.run [0, 0, 1, 0] [(false, false), (decide (t.e < (l.length : Int)), false)] ⟨rfl, h1, trivial⟩ ?_
        exact Goes.ret [0] (.tuple #[t.v, .int .i64 0]) fun w' hm hI => ⟨by rw [nbrT, hD]; simp only [ hr, h1]; rfl, below_end (m := []) (fun j b o h => by cases h) hI.now.1 hm (by kernel_rfl)⟩
      | true =>
        have hlt : E < l.length := by have := of_decide_eq_true h1; omega
        obtain ⟨x, hx⟩ : ∃ x, l[E]? = some x := ⟨l[E], by simp⟩
        have hx' : l.getD t.e.toNat 0 = x := by rw [hte]; simp [List.getD, hx]
        refine Goes.run [1] [(decide (t.e < (l.length : Int)), true)] ⟨h1, trivial⟩ ?_
        refine Goes.val (Instr.loadAt 9 (.pointer (some ⟨gs, 0, none⟩))) (strV l) (fun w' _ hI => loadG Tryz.isAgg9 hI.now.2.1) ?_
        refine Goes.run [1] [] trivial ?_
        refine Goes.val (Instr.index 9 (strV l) (.int .i64 t.e)) (.int .u8 (x.toNat : Nat)) (fun w' _ _ => by rw [hte]; exact idxB hx w') ?_
        refine Goes.call0 147 #[.int .u8 (x.toNat : Nat)] (.bool (cBad (x.toNat : Nat))) (fun w' _ _ => cBad_any _ w') ?_
        cases h2 : cBad (x.toNat : Nat) with
        | true =>
          refine Goes.run [1, 0] [(true, true)] ⟨rfl, trivial⟩ ?_
          exact Goes.ret [0] (.tuple #[tk0.v, .int .i64 72]) fun w' hm hI => ⟨by rw [nbrT, hD]; simp only [ hr, h1, hx', h2]; rfl, below_end (m := []) (fun j b o h => by cases h) hI.now.1 hm (by kernel_rfl)⟩
        | false =>
          refine Goes.run [0, 1, 0] [(false, false)] ⟨rfl, trivial⟩ ?_
          exact Goes.ret [0] (.tuple #[t.v, .int .i64 0]) fun w' hm hI => ⟨by rw [nbrT, hD]; simp only [ hr, h1, hx', h2]; rfl, below_end (m := []) (fun j b o h => by cases h) hI.now.1 hm (by kernel_rfl)⟩
  | false =>
    obtain ⟨E, hte⟩ : ∃ E : Nat, t.e = E := ⟨numE l i, by rw [← hT]; rfl⟩
    have hD : nodT l i = (t, r) := by rw [nodT, hk, cond_false, ← hT, ← hR]
    cases hr : r with
    | false =>
      refine Goes.run [0, 1, 1, 0] [(true, true), (true, true), (false, false)] ⟨rfl, rfl, rfl, trivial⟩ ?_
      exact Goes.ret [0] (.tuple #[tk0.v, .int .i64 72]) fun w' hm hI => ⟨by rw [nbrT, hD]; simp only [ hr]; rfl, below_end (m := []) (fun j b o h => by cases h) hI.now.1 hm (by kernel_rfl)⟩
    | true =>
      refine Goes.run [0, 0, 1] [(false, false), (false, false)] ⟨rfl, rfl, trivial⟩ ?_
      refine Goes.val (Instr.loadAt 9 (.pointer (some ⟨gs, 0, none⟩))) (strV l) (fun w' _ hI => loadG Tryz.isAgg9 hI.now.2.1) ?_
      cases h1 : decide (t.e < (l.length : Int)) with
      | false =>
        refine Goes.run [0, 0, 1, 0] [(false, false), (decide (t.e < (l.length : Int)), false)] ⟨rfl, h1, trivial⟩ ?_
        exact Goes.ret [0] (.tuple #[t.v, .int .i64 0]) fun w' hm hI => ⟨by rw [nbrT, hD]; simp only [ hr, h1]; rfl, below_end (m := []) (fun j b o h => by cases h) hI.now.1 hm (by kernel_rfl)⟩
      | true =>
        have hlt : E < l.length := by have := of_decide_eq_true h1; omega
        obtain ⟨x, hx⟩ : ∃ x, l[E]? = some x := ⟨l[E], by simp⟩
        have hx' : l.getD t.e.toNat 0 = x := by rw [hte]; simp [List.getD, hx]
        refine Goes.run [1] [(decide (t.e < (l.length : Int)), true)] ⟨h1, trivial⟩ ?_
        refine Goes.val (Instr.loadAt 9 (.pointer (some ⟨gs, 0, none⟩))) (strV l) (fun w' _ hI => loadG Tryz.isAgg9 hI.now.2.1) ?_
        refine Goes.run [1] [] trivial ?_
        refine Goes.val (Instr.index 9 (strV l) (.int .i64 t.e)) (.int .u8 (x.toNat : Nat)) (fun w' _ _ => by rw [hte]; exact idxB hx w') ?_
        refine Goes.call0 147 #[.int .u8 (x.toNat : Nat)] (.bool (cBad (x.toNat : Nat))) (fun w' _ _ => cBad_any _ w') ?_
        cases h2 : cBad (x.toNat : Nat) with
        | true =>
          refine Goes.run [1, 0] [(true, true)] ⟨rfl, trivial⟩ ?_
          exact Goes.ret [0] (.tuple #[tk0.v, .int .i64 72]) fun w' hm hI => ⟨by rw [nbrT, hD]; simp only [ hr, h1, hx', h2]; rfl, below_end (m := []) (fun j b o h => by cases h) hI.now.1 hm (by kernel_rfl)⟩
        | false =>
          refine Goes.run [0, 1, 0] [(false, false)] ⟨rfl, trivial⟩ ?_
          exact Goes.ret [0] (.tuple #[t.v, .int .i64 0]) fun w' hm hI => ⟨by rw [nbrT, hD]; simp only [ hr, h1, hx', h2]; rfl, below_end (m := []) (fun j b o h => by cases h) hI.now.1 hm (by kernel_rfl)⟩
end
end Go.Proofs.YtommhgmlblecnaaGreatDoor
namespace Go.Proofs.YtommhgmlblecnaaGreatDoor
open Go Go.RowKit

/-- A finder that holds nothing but the text. -/
def Fnd (w : World) (f : Nat) (l : List UInt8) (v : Value) : Prop := ∃ g, v = .func (.func f) #[] #[.pointer (some ⟨g, 0, none⟩)] ∧ TxB w l g
set_option maxRecDepth 100000 in
set_option maxHeartbeats 1000000 in
seal rn Goes ans atEnd put0 putM opened putA0 oneSt st0 in
theorem mcur_any (l : List UInt8) (w : World) {L : List Nat} (hL : ∀ x ∈ L, x < w.heap.size) : Calls Tryz.prog 97 #[strV l] w fun e w' => ∃ v, e = .returned v ∧ Below w.heap.size w w' ∧ Stay L w' (fun w => Fnd w 142 l v) := by
  refine Goes.begin Tryz.func97 [] (fun _ => True) (fun j b o h => by cases h) (by simp [Mem.ids]) (fun _ _ => trivial) ?_
  refine Goes.run1 [] [] trivial fun gs => ?_
  refine Goes.ret [] (.func (.func 142) #[] #[.pointer (some ⟨gs, 0, none⟩)]) fun w' hm hI => ⟨_, rfl, below_end (m := []) (fun j b o h => by cases h) hI.now.1 hm (by kernel_rfl), ?_⟩
  have k0 := hm.get 0 (b := gs) (o := .cells #[strV l] 9 (0, 0))
  have f0 : w.heap.size ≤ gs := fresh_id (L := []) (Q := fun _ => True) hI (ids_get (j := 0) (o := .cells #[strV l] 9 (0, 0)) (by kernel_rfl)) (by simp)
  exact fun w2 hc => ⟨gs, rfl, stay_blk hL f0 k0 w2 hc⟩
set_option maxRecDepth 100000 in
set_option maxHeartbeats 1000000 in
seal rn Goes ans atEnd put0 putM opened putA0 oneSt st0 in
theorem mnbr_any (l : List UInt8) (w : World) {L : List Nat} (hL : ∀ x ∈ L, x < w.heap.size) : Calls Tryz.prog 98 #[strV l] w fun e w' => ∃ v, e = .returned v ∧ Below w.heap.size w w' ∧ Stay L w' (fun w => Fnd w 143 l v) := by
  refine Goes.begin Tryz.func98 [] (fun _ => True) (fun j b o h => by cases h) (by simp [Mem.ids]) (fun _ _ => trivial) ?_
  refine Goes.run1 [] [] trivial fun gs => ?_
  refine Goes.ret [] (.func (.func 143) #[] #[.pointer (some ⟨gs, 0, none⟩)]) fun w' hm hI => ⟨_, rfl, below_end (m := []) (fun j b o h => by cases h) hI.now.1 hm (by kernel_rfl), ?_⟩
  have k0 := hm.get 0 (b := gs) (o := .cells #[strV l] 9 (0, 0))
  have f0 : w.heap.size ≤ gs := fresh_id (L := []) (Q := fun _ => True) hI (ids_get (j := 0) (o := .cells #[strV l] 9 (0, 0)) (by kernel_rfl)) (by simp)
  exact fun w2 hc => ⟨gs, rfl, stay_blk hL f0 k0 w2 hc⟩
set_option maxRecDepth 100000 in
set_option maxHeartbeats 1000000 in
seal rn Goes ans atEnd put0 putM opened putA0 oneSt st0 in
theorem mquo_any (l : List UInt8) (w : World) {L : List Nat} (hL : ∀ x ∈ L, x < w.heap.size) : Calls Tryz.prog 99 #[strV l] w fun e w' => ∃ v, e = .returned v ∧ Below w.heap.size w w' ∧ Stay L w' (fun w => Fnd w 148 l v) := by
  refine Goes.begin Tryz.func99 [] (fun _ => True) (fun j b o h => by cases h) (by simp [Mem.ids]) (fun _ _ => trivial) ?_
  refine Goes.run1 [] [] trivial fun gs => ?_
  refine Goes.ret [] (.func (.func 148) #[] #[.pointer (some ⟨gs, 0, none⟩)]) fun w' hm hI => ⟨_, rfl, below_end (m := []) (fun j b o h => by cases h) hI.now.1 hm (by kernel_rfl), ?_⟩
  have k0 := hm.get 0 (b := gs) (o := .cells #[strV l] 9 (0, 0))
  have f0 : w.heap.size ≤ gs := fresh_id (L := []) (Q := fun _ => True) hI (ids_get (j := 0) (o := .cells #[strV l] 9 (0, 0)) (by kernel_rfl)) (by simp)
  exact fun w2 hc => ⟨gs, rfl, stay_blk hL f0 k0 w2 hc⟩
set_option maxRecDepth 100000 in
set_option maxHeartbeats 1000000 in
seal rn Goes ans atEnd put0 putM opened putA0 oneSt st0 in
theorem msign_any (l : List UInt8) (w : World) {L : List Nat} (hL : ∀ x ∈ L, x < w.heap.size) : Calls Tryz.prog 100 #[strV l] w fun e w' => ∃ v, e = .returned v ∧ Below w.heap.size w w' ∧ Stay L w' (fun w => Fnd w 150 l v) := by
  refine Goes.begin Tryz.func100 [] (fun _ => True) (fun j b o h => by cases h) (by simp [Mem.ids]) (fun _ _ => trivial) ?_
  refine Goes.run1 [] [] trivial fun gs => ?_
  refine Goes.ret [] (.func (.func 150) #[] #[.pointer (some ⟨gs, 0, none⟩)]) fun w' hm hI => ⟨_, rfl, below_end (m := []) (fun j b o h => by cases h) hI.now.1 hm (by kernel_rfl), ?_⟩
  have k0 := hm.get 0 (b := gs) (o := .cells #[strV l] 9 (0, 0))
  have f0 : w.heap.size ≤ gs := fresh_id (L := []) (Q := fun _ => True) hI (ids_get (j := 0) (o := .cells #[strV l] 9 (0, 0)) (by kernel_rfl)) (by simp)
  exact fun w2 hc => ⟨gs, rfl, stay_blk hL f0 k0 w2 hc⟩
/-- The finder of all kinds. -/
structure Any (w : World) (l : List UInt8) (gs g1 g2 g3 g4 g5 : Nat) (v1 v2 v3 v4 v5 : Value) : Prop where
  b0 : TxB w l gs
  b1 : w.heap[g1]? = some (.cells #[v1] 96 (0, 0))
  b2 : w.heap[g2]? = some (.cells #[v2] 96 (0, 0))
  b3 : w.heap[g3]? = some (.cells #[v3] 96 (0, 0))
  b4 : w.heap[g4]? = some (.cells #[v4] 96 (0, 0))
  b5 : w.heap[g5]? = some (.cells #[v5] 96 (0, 0))
  n1 : Nms w l v1
  n2 : Fnd w 142 l v2
  n3 : Fnd w 143 l v3
  n4 : Fnd w 148 l v4
  n5 : Fnd w 150 l v5
theorem Fnd.below {w w' : World} {f : Nat} {l : List UInt8} {v : Value} (h : Fnd w f l v) (hB : Below w.heap.size w w') : Fnd w' f l v := by
  obtain ⟨g, e, hg⟩ := h
  exact ⟨g, e, (hB.block _ (lt_of_get hg)).trans hg⟩
theorem Nms.below {w w' : World} {l : List UInt8} {v : Value} (h : Nms w l v) (hB : Below w.heap.size w w') : Nms w' l v := by
  obtain ⟨gs, gm, gw, gf, gr, km, e, h1, h2, h3, h4, h5, h6⟩ := h
  exact ⟨gs, gm, gw, gf, gr, km, e, (hB.block _ (lt_of_get h1)).trans h1, (hB.block _ (lt_of_get h2)).trans h2, (hB.block _ (lt_of_get h3)).trans h3, (hB.block _ (lt_of_get h4)).trans h4, (hB.block _ (lt_of_get h5)).trans h5, (hB.block _ (lt_of_get h6)).trans h6⟩
section
variable {w : World} {l : List UInt8} {gs g1 g2 g3 g4 g5 : Nat} {v1 v2 v3 v4 v5 : Value}
theorem Any.below {w' : World} (h : Any w l gs g1 g2 g3 g4 g5 v1 v2 v3 v4 v5) (hB : Below w.heap.size w w') : Any w' l gs g1 g2 g3 g4 g5 v1 v2 v3 v4 v5 :=
  ⟨(hB.block _ (lt_of_get h.b0)).trans h.b0, (hB.block _ (lt_of_get h.b1)).trans h.b1, (hB.block _ (lt_of_get h.b2)).trans h.b2, (hB.block _ (lt_of_get h.b3)).trans h.b3, (hB.block _ (lt_of_get h.b4)).trans h.b4, (hB.block _ (lt_of_get h.b5)).trans h.b5, h.n1.below hB, h.n2.below hB, h.n3.below hB, h.n4.below hB, h.n5.below hB⟩
theorem Any.stay (h : Any w l gs g1 g2 g3 g4 g5 v1 v2 v3 v4 v5) : Stay [] w (fun w => Any w l gs g1 g2 g3 g4 g5 v1 v2 v3 v4 v5) := fun _ hc => h.below (ch_below hc)
/-- The token that stands at a place. -/
def anyT (l : List UInt8) (i : Nat) : Tk × Int :=
  bif cLet ((l.getD i 0).toNat : Nat) then nameT l i else bif cCap ((l.getD i 0).toNat : Nat) then curT l i else bif cDig ((l.getD i 0).toNat : Nat) then nbrT l i else bif ((l.getD i 0).toNat : Int) == 34 then quoT l i else signT l i
set_option maxRecDepth 100000 in
set_option maxHeartbeats 1000000 in
seal rn Goes ans atEnd put0 putM opened putA0 oneSt st0 in
theorem anyT_any (h : Any w l gs g1 g2 g3 g4 g5 v1 v2 v3 v4 v5) (ht : Tab w) {i : Nat} (hl : l.length ≤ 100000000) (hi : i < l.length) : Calls Tryz.prog 101 #[.int .i64 i, .pointer (some ⟨gs, 0, none⟩), .pointer (some ⟨g1, 0, none⟩), .pointer (some ⟨g2, 0, none⟩), .pointer (some ⟨g3, 0, none⟩), .pointer (some ⟨g4, 0, none⟩), .pointer (some ⟨g5, 0, none⟩)] w fun e w' => e = .returned (.tuple #[(anyT l i).1.v, .int .i64 (anyT l i).2]) ∧ Below w.heap.size w w' := by
  obtain ⟨x, hx⟩ : ∃ x, l[i]? = some x := ⟨l[i], by simp⟩
  have hx' : l.getD i 0 = x := by simp [List.getD, hx]
  refine Goes.begin Tryz.func101 [] (fun w => Any w l gs g1 g2 g3 g4 g5 v1 v2 v3 v4 v5 ∧ Tab w) (fun j b o h => by cases h) (by simp [Mem.ids]) (h.stay.and ht.stay) ?_
  refine Goes.run1 [] [] trivial fun g => ?_
  refine Goes.val (Instr.loadAt 9 (.pointer (some ⟨gs, 0, none⟩))) (strV l) (fun w' _ hI => loadG Tryz.isAgg9 hI.now.2.1.b0) ?_
  refine Goes.run [] [] trivial ?_
  refine Goes.val (Instr.index 9 (strV l) (.int .i64 i)) (.int .u8 (x.toNat : Nat)) (fun w' _ _ => idxB hx w') ?_
  refine Goes.run [] [] trivial ?_
  refine Goes.call0 102 #[.int .u8 (x.toNat : Nat)] (.bool (cLet (x.toNat : Nat))) (fun w' _ _ => cLet_any _ w') ?_
  cases c1 : cLet (x.toNat : Nat) with
  | true =>
    obtain ⟨a, am, aw, af, ar, km, e, -⟩ := h.n1
    subst e
    refine Goes.run [1] [(true, true)] ⟨rfl, trivial⟩ ?_
    refine Goes.val (Instr.loadAt 96 (.pointer (some ⟨g1, 0, none⟩))) (.func (.func 141) #[] #[.pointer (some ⟨a, 0, none⟩), .pointer (some ⟨ar, 0, none⟩), .pointer (some ⟨aw, 0, none⟩)]) (fun w' _ hI => loadG Tryz.isAgg96 hI.now.2.1.b1) ?_
    refine Goes.run [] [] trivial ?_
    refine Goes.call0 141 (#[.int .i64 i] ++ #[.pointer (some ⟨a, 0, none⟩), .pointer (some ⟨ar, 0, none⟩), .pointer (some ⟨aw, 0, none⟩)]) (.tuple #[(nameT l i).1.v, .int .i64 (nameT l i).2]) (fun w' _ hI => by obtain ⟨a', am', aw', af', ar', km', e', h1, h2, h3, h4, h5, h6⟩ := hI.now.2.1.n1; cases e'; exact name_any ⟨h1, h2, h3, h4, h5, h6⟩ (by omega) (by omega)) ?_
    refine Goes.run [0] [] trivial ?_
    exact Goes.ret [0] (.tuple #[(nameT l i).1.v, .int .i64 (nameT l i).2]) fun w' hm hI => ⟨by simp only [anyT, hx', c1, cond_true], below_end (m := []) (fun j b o h => by cases h) hI.now.1 hm (by kernel_rfl)⟩
  | false =>
    refine Goes.run [0] [(false, false)] ⟨rfl, trivial⟩ ?_
    refine Goes.call0 103 #[.int .u8 (x.toNat : Nat)] (.bool (cCap (x.toNat : Nat))) (fun w' _ _ => cCap_any _ w') ?_
    cases c2 : cCap (x.toNat : Nat) with
    | true =>
      obtain ⟨gt, e, -⟩ := h.n2
      subst e
      refine Goes.run [1] [(true, true)] ⟨rfl, trivial⟩ ?_
      refine Goes.val (Instr.loadAt 96 (.pointer (some ⟨g2, 0, none⟩))) (.func (.func 142) #[] #[.pointer (some ⟨gt, 0, none⟩)]) (fun w' _ hI => loadG Tryz.isAgg96 hI.now.2.1.b2) ?_
      refine Goes.run [] [] trivial ?_
      refine Goes.call0 142 (#[.int .i64 i] ++ #[.pointer (some ⟨gt, 0, none⟩)]) (.tuple #[(curT l i).1.v, .int .i64 (curT l i).2]) (fun w' _ hI => by obtain ⟨g', e', h'⟩ := hI.now.2.1.n2; cases e'; exact cur7_any h' (by omega) (by omega)) ?_
      refine Goes.run [0] [] trivial ?_
      exact Goes.ret [0] (.tuple #[(curT l i).1.v, .int .i64 (curT l i).2]) fun w' hm hI => ⟨by simp only [anyT, hx', c1, c2, cond_true, cond_false], below_end (m := []) (fun j b o h => by cases h) hI.now.1 hm (by kernel_rfl)⟩
    | false =>
      refine Goes.run [0] [(false, false)] ⟨rfl, trivial⟩ ?_
      refine Goes.call0 104 #[.int .u8 (x.toNat : Nat)] (.bool (cDig (x.toNat : Nat))) (fun w' _ _ => cDig_any _ w') ?_
      cases c3 : cDig (x.toNat : Nat) with
      | true =>
        obtain ⟨gt, e, -⟩ := h.n3
        subst e
        refine Goes.run [1] [(true, true)] ⟨rfl, trivial⟩ ?_
        refine Goes.val (Instr.loadAt 96 (.pointer (some ⟨g3, 0, none⟩))) (.func (.func 143) #[] #[.pointer (some ⟨gt, 0, none⟩)]) (fun w' _ hI => loadG Tryz.isAgg96 hI.now.2.1.b3) ?_
        refine Goes.run [] [] trivial ?_
        refine Goes.call0 143 (#[.int .i64 i] ++ #[.pointer (some ⟨gt, 0, none⟩)]) (.tuple #[(nbrT l i).1.v, .int .i64 (nbrT l i).2]) (fun w' _ hI => by obtain ⟨g', e', h'⟩ := hI.now.2.1.n3; cases e'; exact nbr7_any h' hI.now.2.2 hl (by omega)) ?_
        refine Goes.run [0] [] trivial ?_
        exact Goes.ret [0] (.tuple #[(nbrT l i).1.v, .int .i64 (nbrT l i).2]) fun w' hm hI => ⟨by simp only [anyT, hx', c1, c2, c3, cond_true, cond_false], below_end (m := []) (fun j b o h => by cases h) hI.now.1 hm (by kernel_rfl)⟩
      | false =>
        cases c4 : ((x.toNat : Int) == 34) with
        | true =>
          obtain ⟨gt, e, -⟩ := h.n4
          subst e
          refine Goes.run [0, 1] [((x.toNat : Int) == 34, true), (false, false)] ⟨c4, rfl, trivial⟩ ?_
          refine Goes.val (Instr.loadAt 96 (.pointer (some ⟨g4, 0, none⟩))) (.func (.func 148) #[] #[.pointer (some ⟨gt, 0, none⟩)]) (fun w' _ hI => loadG Tryz.isAgg96 hI.now.2.1.b4) ?_
          refine Goes.run [] [] trivial ?_
          refine Goes.call0 148 (#[.int .i64 i] ++ #[.pointer (some ⟨gt, 0, none⟩)]) (.tuple #[(quoT l i).1.v, .int .i64 (quoT l i).2]) (fun w' _ hI => by obtain ⟨g', e', h'⟩ := hI.now.2.1.n4; cases e'; exact quo7_any h' (by omega) hi) ?_
          refine Goes.run [0] [] trivial ?_
          exact Goes.ret [0] (.tuple #[(quoT l i).1.v, .int .i64 (quoT l i).2]) fun w' hm hI => ⟨by simp only [anyT, hx', c1, c2, c3, c4, cond_true, cond_false], below_end (m := []) (fun j b o h => by cases h) hI.now.1 hm (by kernel_rfl)⟩
        | false =>
          obtain ⟨gt, e, -⟩ := h.n5
          subst e
          refine Goes.run [0, 0] [((x.toNat : Int) == 34, false), (false, false)] ⟨c4, rfl, trivial⟩ ?_
          refine Goes.val (Instr.loadAt 96 (.pointer (some ⟨g5, 0, none⟩))) (.func (.func 150) #[] #[.pointer (some ⟨gt, 0, none⟩)]) (fun w' _ hI => loadG Tryz.isAgg96 hI.now.2.1.b5) ?_
          refine Goes.run [] [] trivial ?_
          refine Goes.call0 150 (#[.int .i64 i] ++ #[.pointer (some ⟨gt, 0, none⟩)]) (.tuple #[(signT l i).1.v, .int .i64 (signT l i).2]) (fun w' _ hI => by obtain ⟨g', e', h'⟩ := hI.now.2.1.n5; cases e'; exact sign7_any h' (by omega) hi) ?_
          refine Goes.run [0] [] trivial ?_
          exact Goes.ret [0] (.tuple #[(signT l i).1.v, .int .i64 (signT l i).2]) fun w' hm hI => ⟨by simp only [anyT, hx', c1, c2, c3, c4, cond_false], below_end (m := []) (fun j b o h => by cases h) hI.now.1 hm (by kernel_rfl)⟩
end
end Go.Proofs.YtommhgmlblecnaaGreatDoor
namespace Go.Proofs.YtommhgmlblecnaaGreatDoor
open Go Go.RowKit

def opsAt (b : Option Code) : Array Oper := match b with | some (.seq _ (.seq (.region _ ops _) _)) => ops | _ => #[]
def kAt (b : Option Code) : List TI := match b with | some (.seq _ (.seq _ k)) => [.code k] | _ => []
noncomputable def ops67 : Array Oper := opsAt Tryz.f67.body
noncomputable def k67 : List TI := kAt Tryz.f67.body
def pV (v : Option Value) : Value := match v with | some x => x | none => undef
def pA (a : Option Nat) : Value := match a with | some g => .pointer (some ⟨g, 0, none⟩) | none => undef
def mA (a : Option Nat) : Mem := match a with | some g => [(g, .cells #[.nilFunc] 96 (0, 0))] | none => []
def L67 (b0 b1 b2 b3 b4 c0 c1 c2 c3 c4 : Bool) : Array Bool := #[true, b0, true, b1, true, b2, true, b3, true, b4, c0, c1, c2, c3, c4, false, false, false, false, false]
def T67 (l : List UInt8) (gs : Nat) (v0 v1 v2 v3 v4 : Option Value) (a0 a1 a2 a3 a4 : Option Nat) : List Value :=
  [strV l, .pointer (some ⟨gs, 0, none⟩), .nilFunc, pA a0, pA a1, pA a2, pA a3, pA a4, strV l, pV v0, strV l, pV v1, strV l, pV v2, strV l, pV v3, strV l, pV v4, undef]
def M67 (l : List UInt8) (gs : Nat) (a0 a1 a2 a3 a4 : Option Nat) : Mem := (gs, .cells #[strV l] 9 (0, 0)) :: (mA a0 ++ (mA a1 ++ (mA a2 ++ (mA a3 ++ mA a4))))
noncomputable def D67 (l : List UInt8) (gs n : Nat) (v0 v1 v2 v3 v4 : Option Value) (a0 a1 a2 a3 a4 : Option Nat) : List TI :=
  .any ops67 [(gs, .cells #[strV l] 9 (0, 0))] n (L67 v0.isSome v1.isSome v2.isSome v3.isSome v4.isSome a0.isSome a1.isSome a2.isSome a3.isSome a4.isSome) :: k67
def I67 (L : List Nat) (I0 : World → Prop) (l : List UInt8) (v0 v1 v2 v3 v4 : Option Value) (w : World) : Prop :=
  I0 w ∧ (∀ x, v0 = some x → Stay L w (fun w => Nms w l x)) ∧ (∀ x, v1 = some x → Stay L w (fun w => Fnd w 142 l x)) ∧ (∀ x, v2 = some x → Stay L w (fun w => Fnd w 143 l x)) ∧ (∀ x, v3 = some x → Stay L w (fun w => Fnd w 148 l x)) ∧ (∀ x, v4 = some x → Stay L w (fun w => Fnd w 150 l x))
def ok67 (b0 b1 b2 b3 b4 c0 c1 c2 c3 c4 : Bool) (i : Nat) : Bool :=
  (i == 1 && !b0) || (i == 3 && b0 && !b1) || (i == 5 && b1 && !b2) || (i == 7 && b2 && !b3) || (i == 9 && b3 && !b4) || (i == 10 && !c0) || (i == 11 && !c1) || (i == 12 && !c2) || (i == 13 && !c3) || (i == 14 && !c4)
noncomputable def chk67 (b0 b1 b2 b3 b4 c0 c1 c2 c3 c4 : Bool) : Bool :=
  !((b0 || !b1) && (b1 || !b2) && (b2 || !b3) && (b3 || !b4) && !(b4 && c0 && c1 && c2 && c3 && c4)) || (!(Region.ready .any ops67 (L67 b0 b1 b2 b3 b4 c0 c1 c2 c3 c4)).isEmpty && (Region.ready .any ops67 (L67 b0 b1 b2 b3 b4 c0 c1 c2 c3 c4)).all (ok67 b0 b1 b2 b3 b4 c0 c1 c2 c3 c4))
def all2 (f : Bool → Bool) : Bool := f false && f true
theorem all2_ok {f : Bool → Bool} (h : all2 f = true) (b : Bool) : f b = true := by
  unfold all2 at h; rw [Bool.and_eq_true] at h; cases b; exact h.1; exact h.2
theorem chk67_all : (all2 fun b0 => all2 fun b1 => all2 fun b2 => all2 fun b3 => all2 fun b4 => all2 fun c0 => all2 fun c1 => all2 fun c2 => all2 fun c3 => all2 fun c4 => chk67 b0 b1 b2 b3 b4 c0 c1 c2 c3 c4) = true := by kernel_rfl
theorem chk67_ok (b0 b1 b2 b3 b4 c0 c1 c2 c3 c4 : Bool) : chk67 b0 b1 b2 b3 b4 c0 c1 c2 c3 c4 = true :=
  all2_ok (all2_ok (all2_ok (all2_ok (all2_ok (all2_ok (all2_ok (all2_ok (all2_ok (all2_ok chk67_all b0) b1) b2) b3) b4) c0) c1) c2) c3) c4
theorem mid_perm {α : Type} (x : α) (A B : List α) : ((A ++ B) ++ [x]).Perm (A ++ x :: B) := (List.perm_append_comm (l₁ := A ++ B) (l₂ := [x])).trans (List.perm_middle (l₁ := A) (l₂ := B) (a := x)).symm
theorem M67_0 (l : List UInt8) (gs g : Nat) (a1 a2 a3 a4 : Option Nat) : (M67 l gs none a1 a2 a3 a4 ++ [(g, Obj.cells #[.nilFunc] 96 (0, 0))]).Perm (M67 l gs (some g) a1 a2 a3 a4) := by
  have := mid_perm (g, Obj.cells #[.nilFunc] 96 (0, 0)) ((gs, Obj.cells #[strV l] 9 (0, 0)) :: ([])) (mA a1 ++ (mA a2 ++ (mA a3 ++ (mA a4))))
  simpa [M67, mA] using this
theorem M67_1 (l : List UInt8) (gs g : Nat) (a0 a2 a3 a4 : Option Nat) : (M67 l gs a0 none a2 a3 a4 ++ [(g, Obj.cells #[.nilFunc] 96 (0, 0))]).Perm (M67 l gs a0 (some g) a2 a3 a4) := by
  have := mid_perm (g, Obj.cells #[.nilFunc] 96 (0, 0)) ((gs, Obj.cells #[strV l] 9 (0, 0)) :: (mA a0 ++ ([]))) (mA a2 ++ (mA a3 ++ (mA a4)))
  simpa [M67, mA] using this
theorem M67_2 (l : List UInt8) (gs g : Nat) (a0 a1 a3 a4 : Option Nat) : (M67 l gs a0 a1 none a3 a4 ++ [(g, Obj.cells #[.nilFunc] 96 (0, 0))]).Perm (M67 l gs a0 a1 (some g) a3 a4) := by
  have := mid_perm (g, Obj.cells #[.nilFunc] 96 (0, 0)) ((gs, Obj.cells #[strV l] 9 (0, 0)) :: (mA a0 ++ (mA a1 ++ ([])))) (mA a3 ++ (mA a4))
  simpa [M67, mA] using this
theorem M67_3 (l : List UInt8) (gs g : Nat) (a0 a1 a2 a4 : Option Nat) : (M67 l gs a0 a1 a2 none a4 ++ [(g, Obj.cells #[.nilFunc] 96 (0, 0))]).Perm (M67 l gs a0 a1 a2 (some g) a4) := by
  have := mid_perm (g, Obj.cells #[.nilFunc] 96 (0, 0)) ((gs, Obj.cells #[strV l] 9 (0, 0)) :: (mA a0 ++ (mA a1 ++ (mA a2 ++ ([]))))) (mA a4)
  simpa [M67, mA] using this
theorem M67_4 (l : List UInt8) (gs g : Nat) (a0 a1 a2 a3 : Option Nat) : (M67 l gs a0 a1 a2 a3 none ++ [(g, Obj.cells #[.nilFunc] 96 (0, 0))]).Perm (M67 l gs a0 a1 a2 a3 (some g)) := by
  simp [M67, mA]
section
variable {F : Exit → Act → World → Prop} {L : List Nat} {I0 : World → Prop} {l : List UInt8} {gs : Nat}
set_option maxRecDepth 100000 in
set_option maxHeartbeats 4000000 in
seal rn Goes ans atEnd put0 putM opened putA0 oneSt st0 in
theorem C67_0 (hL : ∀ w, I0 w → ∀ x ∈ L, x < w.heap.size) {n : Nat} {v1 v2 v3 v4 : Option Value} {a0 a1 a2 a3 a4 : Option Nat} (h : ∀ x, Goes Tryz.prog F (I67 L I0 l (some x) v1 v2 v3 v4) ⟨D67 l gs n (some x) v1 v2 v3 v4 a0 a1 a2 a3 a4, T67 l gs (some x) v1 v2 v3 v4 a0 a1 a2 a3 a4, M67 l gs a0 a1 a2 a3 a4⟩) : Took Tryz.prog F (I67 L I0 l none v1 v2 v3 v4) ops67 [(gs, .cells #[strV l] 9 (0, 0))] n (L67 false v1.isSome v2.isSome v3.isSome v4.isSome a0.isSome a1.isSome a2.isSome a3.isSome a4.isSome) k67 (T67 l gs none v1 v2 v3 v4 a0 a1 a2 a3 a4) (M67 l gs a0 a1 a2 a3 a4) 1 := by
  refine Took.call (o := (ops67[1]?).getD default) 96 #[strV l] (by kernel_rfl) (by kernel_rfl) (by intro p hp; simp only [List.mem_singleton] at hp; subst hp; exact List.mem_cons_self ..) (fun w hm hI => (names_any l w (L := M67 l gs a0 a1 a2 a3 a4 |>.ids |>.append L) (fun x hx => (List.mem_append.1 hx).elim (ids_lt hm x) (hL w hI.now.1 x))).mono fun e w' ⟨x, e1, hB, hS⟩ => ⟨x, _, e1, hB, hS.split, ?_⟩) (by kernel_rfl) (by kernel_rfl)
  exact Goes.inv (fun w h => ⟨h.1.1, fun y hy => by cases hy; exact h.2, h.1.2.2.1, h.1.2.2.2.1, h.1.2.2.2.2.1, h.1.2.2.2.2.2⟩) (h x)
set_option maxRecDepth 100000 in
set_option maxHeartbeats 4000000 in
seal rn Goes ans atEnd put0 putM opened putA0 oneSt st0 in
theorem C67_1 (hL : ∀ w, I0 w → ∀ x ∈ L, x < w.heap.size) {n : Nat} {v0 v2 v3 v4 : Option Value} {a0 a1 a2 a3 a4 : Option Nat} (h : ∀ x, Goes Tryz.prog F (I67 L I0 l v0 (some x) v2 v3 v4) ⟨D67 l gs n v0 (some x) v2 v3 v4 a0 a1 a2 a3 a4, T67 l gs v0 (some x) v2 v3 v4 a0 a1 a2 a3 a4, M67 l gs a0 a1 a2 a3 a4⟩) : Took Tryz.prog F (I67 L I0 l v0 none v2 v3 v4) ops67 [(gs, .cells #[strV l] 9 (0, 0))] n (L67 v0.isSome false v2.isSome v3.isSome v4.isSome a0.isSome a1.isSome a2.isSome a3.isSome a4.isSome) k67 (T67 l gs v0 none v2 v3 v4 a0 a1 a2 a3 a4) (M67 l gs a0 a1 a2 a3 a4) 3 := by
  refine Took.call (o := (ops67[3]?).getD default) 97 #[strV l] (by kernel_rfl) (by kernel_rfl) (by intro p hp; simp only [List.mem_singleton] at hp; subst hp; exact List.mem_cons_self ..) (fun w hm hI => (mcur_any l w (L := M67 l gs a0 a1 a2 a3 a4 |>.ids |>.append L) (fun x hx => (List.mem_append.1 hx).elim (ids_lt hm x) (hL w hI.now.1 x))).mono fun e w' ⟨x, e1, hB, hS⟩ => ⟨x, _, e1, hB, hS.split, ?_⟩) (by kernel_rfl) (by kernel_rfl)
  exact Goes.inv (fun w h => ⟨h.1.1, h.1.2.1, fun y hy => by cases hy; exact h.2, h.1.2.2.2.1, h.1.2.2.2.2.1, h.1.2.2.2.2.2⟩) (h x)
set_option maxRecDepth 100000 in
set_option maxHeartbeats 4000000 in
seal rn Goes ans atEnd put0 putM opened putA0 oneSt st0 in
theorem C67_2 (hL : ∀ w, I0 w → ∀ x ∈ L, x < w.heap.size) {n : Nat} {v0 v1 v3 v4 : Option Value} {a0 a1 a2 a3 a4 : Option Nat} (h : ∀ x, Goes Tryz.prog F (I67 L I0 l v0 v1 (some x) v3 v4) ⟨D67 l gs n v0 v1 (some x) v3 v4 a0 a1 a2 a3 a4, T67 l gs v0 v1 (some x) v3 v4 a0 a1 a2 a3 a4, M67 l gs a0 a1 a2 a3 a4⟩) : Took Tryz.prog F (I67 L I0 l v0 v1 none v3 v4) ops67 [(gs, .cells #[strV l] 9 (0, 0))] n (L67 v0.isSome v1.isSome false v3.isSome v4.isSome a0.isSome a1.isSome a2.isSome a3.isSome a4.isSome) k67 (T67 l gs v0 v1 none v3 v4 a0 a1 a2 a3 a4) (M67 l gs a0 a1 a2 a3 a4) 5 := by
  refine Took.call (o := (ops67[5]?).getD default) 98 #[strV l] (by kernel_rfl) (by kernel_rfl) (by intro p hp; simp only [List.mem_singleton] at hp; subst hp; exact List.mem_cons_self ..) (fun w hm hI => (mnbr_any l w (L := M67 l gs a0 a1 a2 a3 a4 |>.ids |>.append L) (fun x hx => (List.mem_append.1 hx).elim (ids_lt hm x) (hL w hI.now.1 x))).mono fun e w' ⟨x, e1, hB, hS⟩ => ⟨x, _, e1, hB, hS.split, ?_⟩) (by kernel_rfl) (by kernel_rfl)
  exact Goes.inv (fun w h => ⟨h.1.1, h.1.2.1, h.1.2.2.1, fun y hy => by cases hy; exact h.2, h.1.2.2.2.2.1, h.1.2.2.2.2.2⟩) (h x)
set_option maxRecDepth 100000 in
set_option maxHeartbeats 4000000 in
seal rn Goes ans atEnd put0 putM opened putA0 oneSt st0 in
theorem C67_3 (hL : ∀ w, I0 w → ∀ x ∈ L, x < w.heap.size) {n : Nat} {v0 v1 v2 v4 : Option Value} {a0 a1 a2 a3 a4 : Option Nat} (h : ∀ x, Goes Tryz.prog F (I67 L I0 l v0 v1 v2 (some x) v4) ⟨D67 l gs n v0 v1 v2 (some x) v4 a0 a1 a2 a3 a4, T67 l gs v0 v1 v2 (some x) v4 a0 a1 a2 a3 a4, M67 l gs a0 a1 a2 a3 a4⟩) : Took Tryz.prog F (I67 L I0 l v0 v1 v2 none v4) ops67 [(gs, .cells #[strV l] 9 (0, 0))] n (L67 v0.isSome v1.isSome v2.isSome false v4.isSome a0.isSome a1.isSome a2.isSome a3.isSome a4.isSome) k67 (T67 l gs v0 v1 v2 none v4 a0 a1 a2 a3 a4) (M67 l gs a0 a1 a2 a3 a4) 7 := by
  refine Took.call (o := (ops67[7]?).getD default) 99 #[strV l] (by kernel_rfl) (by kernel_rfl) (by intro p hp; simp only [List.mem_singleton] at hp; subst hp; exact List.mem_cons_self ..) (fun w hm hI => (mquo_any l w (L := M67 l gs a0 a1 a2 a3 a4 |>.ids |>.append L) (fun x hx => (List.mem_append.1 hx).elim (ids_lt hm x) (hL w hI.now.1 x))).mono fun e w' ⟨x, e1, hB, hS⟩ => ⟨x, _, e1, hB, hS.split, ?_⟩) (by kernel_rfl) (by kernel_rfl)
  exact Goes.inv (fun w h => ⟨h.1.1, h.1.2.1, h.1.2.2.1, h.1.2.2.2.1, fun y hy => by cases hy; exact h.2, h.1.2.2.2.2.2⟩) (h x)
set_option maxRecDepth 100000 in
set_option maxHeartbeats 4000000 in
seal rn Goes ans atEnd put0 putM opened putA0 oneSt st0 in
theorem C67_4 (hL : ∀ w, I0 w → ∀ x ∈ L, x < w.heap.size) {n : Nat} {v0 v1 v2 v3 : Option Value} {a0 a1 a2 a3 a4 : Option Nat} (h : ∀ x, Goes Tryz.prog F (I67 L I0 l v0 v1 v2 v3 (some x)) ⟨D67 l gs n v0 v1 v2 v3 (some x) a0 a1 a2 a3 a4, T67 l gs v0 v1 v2 v3 (some x) a0 a1 a2 a3 a4, M67 l gs a0 a1 a2 a3 a4⟩) : Took Tryz.prog F (I67 L I0 l v0 v1 v2 v3 none) ops67 [(gs, .cells #[strV l] 9 (0, 0))] n (L67 v0.isSome v1.isSome v2.isSome v3.isSome false a0.isSome a1.isSome a2.isSome a3.isSome a4.isSome) k67 (T67 l gs v0 v1 v2 v3 none a0 a1 a2 a3 a4) (M67 l gs a0 a1 a2 a3 a4) 9 := by
  refine Took.call (o := (ops67[9]?).getD default) 100 #[strV l] (by kernel_rfl) (by kernel_rfl) (by intro p hp; simp only [List.mem_singleton] at hp; subst hp; exact List.mem_cons_self ..) (fun w hm hI => (msign_any l w (L := M67 l gs a0 a1 a2 a3 a4 |>.ids |>.append L) (fun x hx => (List.mem_append.1 hx).elim (ids_lt hm x) (hL w hI.now.1 x))).mono fun e w' ⟨x, e1, hB, hS⟩ => ⟨x, _, e1, hB, hS.split, ?_⟩) (by kernel_rfl) (by kernel_rfl)
  exact Goes.inv (fun w h => ⟨h.1.1, h.1.2.1, h.1.2.2.1, h.1.2.2.2.1, h.1.2.2.2.2.1, fun y hy => by cases hy; exact h.2⟩) (h x)
set_option maxRecDepth 100000 in
set_option maxHeartbeats 4000000 in
seal rn Goes ans atEnd put0 putM opened putA0 oneSt st0 in
theorem A67_0 {n : Nat} {v0 v1 v2 v3 v4 : Option Value} {a1 a2 a3 a4 : Option Nat} (h : ∀ g, Goes Tryz.prog F (I67 L I0 l v0 v1 v2 v3 v4) ⟨D67 l gs n v0 v1 v2 v3 v4 (some g) a1 a2 a3 a4, T67 l gs v0 v1 v2 v3 v4 (some g) a1 a2 a3 a4, M67 l gs (some g) a1 a2 a3 a4⟩) : Took Tryz.prog F (I67 L I0 l v0 v1 v2 v3 v4) ops67 [(gs, .cells #[strV l] 9 (0, 0))] n (L67 v0.isSome v1.isSome v2.isSome v3.isSome v4.isSome false a1.isSome a2.isSome a3.isSome a4.isSome) k67 (T67 l gs v0 v1 v2 v3 v4 none a1 a2 a3 a4) (M67 l gs none a1 a2 a3 a4) 10 := by
  refine Took.new (o := (ops67[10]?).getD default) (.cells #[.nilFunc] 96 (0, 0)) (by kernel_rfl) (by kernel_rfl) (by intro p hp; simp only [List.mem_singleton] at hp; subst hp; exact List.mem_cons_self ..) (fun g => by kernel_rfl) fun g => ?_
  exact Goes.perm (M67_0 l gs g a1 a2 a3 a4) (h g)
set_option maxRecDepth 100000 in
set_option maxHeartbeats 4000000 in
seal rn Goes ans atEnd put0 putM opened putA0 oneSt st0 in
theorem A67_1 {n : Nat} {v0 v1 v2 v3 v4 : Option Value} {a0 a2 a3 a4 : Option Nat} (h : ∀ g, Goes Tryz.prog F (I67 L I0 l v0 v1 v2 v3 v4) ⟨D67 l gs n v0 v1 v2 v3 v4 a0 (some g) a2 a3 a4, T67 l gs v0 v1 v2 v3 v4 a0 (some g) a2 a3 a4, M67 l gs a0 (some g) a2 a3 a4⟩) : Took Tryz.prog F (I67 L I0 l v0 v1 v2 v3 v4) ops67 [(gs, .cells #[strV l] 9 (0, 0))] n (L67 v0.isSome v1.isSome v2.isSome v3.isSome v4.isSome a0.isSome false a2.isSome a3.isSome a4.isSome) k67 (T67 l gs v0 v1 v2 v3 v4 a0 none a2 a3 a4) (M67 l gs a0 none a2 a3 a4) 11 := by
  refine Took.new (o := (ops67[11]?).getD default) (.cells #[.nilFunc] 96 (0, 0)) (by kernel_rfl) (by kernel_rfl) (by intro p hp; simp only [List.mem_singleton] at hp; subst hp; exact List.mem_cons_self ..) (fun g => by kernel_rfl) fun g => ?_
  exact Goes.perm (M67_1 l gs g a0 a2 a3 a4) (h g)
set_option maxRecDepth 100000 in
set_option maxHeartbeats 4000000 in
seal rn Goes ans atEnd put0 putM opened putA0 oneSt st0 in
theorem A67_2 {n : Nat} {v0 v1 v2 v3 v4 : Option Value} {a0 a1 a3 a4 : Option Nat} (h : ∀ g, Goes Tryz.prog F (I67 L I0 l v0 v1 v2 v3 v4) ⟨D67 l gs n v0 v1 v2 v3 v4 a0 a1 (some g) a3 a4, T67 l gs v0 v1 v2 v3 v4 a0 a1 (some g) a3 a4, M67 l gs a0 a1 (some g) a3 a4⟩) : Took Tryz.prog F (I67 L I0 l v0 v1 v2 v3 v4) ops67 [(gs, .cells #[strV l] 9 (0, 0))] n (L67 v0.isSome v1.isSome v2.isSome v3.isSome v4.isSome a0.isSome a1.isSome false a3.isSome a4.isSome) k67 (T67 l gs v0 v1 v2 v3 v4 a0 a1 none a3 a4) (M67 l gs a0 a1 none a3 a4) 12 := by
  refine Took.new (o := (ops67[12]?).getD default) (.cells #[.nilFunc] 96 (0, 0)) (by kernel_rfl) (by kernel_rfl) (by intro p hp; simp only [List.mem_singleton] at hp; subst hp; exact List.mem_cons_self ..) (fun g => by kernel_rfl) fun g => ?_
  exact Goes.perm (M67_2 l gs g a0 a1 a3 a4) (h g)
set_option maxRecDepth 100000 in
set_option maxHeartbeats 4000000 in
seal rn Goes ans atEnd put0 putM opened putA0 oneSt st0 in
theorem A67_3 {n : Nat} {v0 v1 v2 v3 v4 : Option Value} {a0 a1 a2 a4 : Option Nat} (h : ∀ g, Goes Tryz.prog F (I67 L I0 l v0 v1 v2 v3 v4) ⟨D67 l gs n v0 v1 v2 v3 v4 a0 a1 a2 (some g) a4, T67 l gs v0 v1 v2 v3 v4 a0 a1 a2 (some g) a4, M67 l gs a0 a1 a2 (some g) a4⟩) : Took Tryz.prog F (I67 L I0 l v0 v1 v2 v3 v4) ops67 [(gs, .cells #[strV l] 9 (0, 0))] n (L67 v0.isSome v1.isSome v2.isSome v3.isSome v4.isSome a0.isSome a1.isSome a2.isSome false a4.isSome) k67 (T67 l gs v0 v1 v2 v3 v4 a0 a1 a2 none a4) (M67 l gs a0 a1 a2 none a4) 13 := by
  refine Took.new (o := (ops67[13]?).getD default) (.cells #[.nilFunc] 96 (0, 0)) (by kernel_rfl) (by kernel_rfl) (by intro p hp; simp only [List.mem_singleton] at hp; subst hp; exact List.mem_cons_self ..) (fun g => by kernel_rfl) fun g => ?_
  exact Goes.perm (M67_3 l gs g a0 a1 a2 a4) (h g)
set_option maxRecDepth 100000 in
set_option maxHeartbeats 4000000 in
seal rn Goes ans atEnd put0 putM opened putA0 oneSt st0 in
theorem A67_4 {n : Nat} {v0 v1 v2 v3 v4 : Option Value} {a0 a1 a2 a3 : Option Nat} (h : ∀ g, Goes Tryz.prog F (I67 L I0 l v0 v1 v2 v3 v4) ⟨D67 l gs n v0 v1 v2 v3 v4 a0 a1 a2 a3 (some g), T67 l gs v0 v1 v2 v3 v4 a0 a1 a2 a3 (some g), M67 l gs a0 a1 a2 a3 (some g)⟩) : Took Tryz.prog F (I67 L I0 l v0 v1 v2 v3 v4) ops67 [(gs, .cells #[strV l] 9 (0, 0))] n (L67 v0.isSome v1.isSome v2.isSome v3.isSome v4.isSome a0.isSome a1.isSome a2.isSome a3.isSome false) k67 (T67 l gs v0 v1 v2 v3 v4 a0 a1 a2 a3 none) (M67 l gs a0 a1 a2 a3 none) 14 := by
  refine Took.new (o := (ops67[14]?).getD default) (.cells #[.nilFunc] 96 (0, 0)) (by kernel_rfl) (by kernel_rfl) (by intro p hp; simp only [List.mem_singleton] at hp; subst hp; exact List.mem_cons_self ..) (fun g => by kernel_rfl) fun g => ?_
  exact Goes.perm (M67_4 l gs g a0 a1 a2 a3) (h g)
def nn {α : Type} (o : Option α) : Nat := match o with | some _ => 0 | none => 1
set_option maxRecDepth 100000 in
set_option maxHeartbeats 4000000 in
seal rn Goes ans atEnd put0 putM opened putA0 oneSt st0 in
theorem G67 (hL : ∀ w, I0 w → ∀ x ∈ L, x < w.heap.size) (hend : ∀ x0 x1 x2 x3 x4 g0 g1 g2 g3 g4, Goes Tryz.prog F (I67 L I0 l (some x0) (some x1) (some x2) (some x3) (some x4)) ⟨D67 l gs 5 (some x0) (some x1) (some x2) (some x3) (some x4) (some g0) (some g1) (some g2) (some g3) (some g4), T67 l gs (some x0) (some x1) (some x2) (some x3) (some x4) (some g0) (some g1) (some g2) (some g3) (some g4), M67 l gs (some g0) (some g1) (some g2) (some g3) (some g4)⟩) :
    ∀ (N : Nat) (v0 v1 v2 v3 v4 : Option Value) (a0 a1 a2 a3 a4 : Option Nat), nn v0 + nn v1 + nn v2 + nn v3 + nn v4 + nn a0 + nn a1 + nn a2 + nn a3 + nn a4 = N → ((v0.isSome || !v1.isSome) && (v1.isSome || !v2.isSome) && (v2.isSome || !v3.isSome) && (v3.isSome || !v4.isSome)) = true →
    Goes Tryz.prog F (I67 L I0 l v0 v1 v2 v3 v4) ⟨D67 l gs (N + 5) v0 v1 v2 v3 v4 a0 a1 a2 a3 a4, T67 l gs v0 v1 v2 v3 v4 a0 a1 a2 a3 a4, M67 l gs a0 a1 a2 a3 a4⟩ := by
  intro N
  induction N with
  | zero =>
    intro v0 v1 v2 v3 v4 a0 a1 a2 a3 a4 hN hc
    cases v0 with | none => simp only [nn] at hN; omega | some x0 =>
    cases v1 with | none => simp only [nn] at hN; omega | some x1 =>
    cases v2 with | none => simp only [nn] at hN; omega | some x2 =>
    cases v3 with | none => simp only [nn] at hN; omega | some x3 =>
    cases v4 with | none => simp only [nn] at hN; omega | some x4 =>
    cases a0 with | none => simp only [nn] at hN; omega | some g0 =>
    cases a1 with | none => simp only [nn] at hN; omega | some g1 =>
    cases a2 with | none => simp only [nn] at hN; omega | some g2 =>
    cases a3 with | none => simp only [nn] at hN; omega | some g3 =>
    cases a4 with | none => simp only [nn] at hN; omega | some g4 =>
    exact hend ..
  | succ N ih =>
    intro v0 v1 v2 v3 v4 a0 a1 a2 a3 a4 hN hc
    have hk := chk67_ok v0.isSome v1.isSome v2.isSome v3.isSome v4.isSome a0.isSome a1.isSome a2.isSome a3.isSome a4.isSome
    have hnot : (v4.isSome && a0.isSome && a1.isSome && a2.isSome && a3.isSome && a4.isSome) = false := by
      cases he : (v4.isSome && a0.isSome && a1.isSome && a2.isSome && a3.isSome && a4.isSome) with
      | false => rfl
      | true =>
        simp only [Bool.and_eq_true, Bool.or_eq_true, Bool.not_eq_true', Option.isSome_iff_exists] at he hc
        obtain ⟨⟨⟨⟨⟨⟨x4, rfl⟩, g0, rfl⟩, g1, rfl⟩, g2, rfl⟩, g3, rfl⟩, g4, rfl⟩ := he
        obtain ⟨⟨⟨h0, h1⟩, h2⟩, h3⟩ := hc
        obtain ⟨x3, rfl⟩ : ∃ x, v3 = some x := by simpa using h3
        obtain ⟨x2, rfl⟩ : ∃ x, v2 = some x := by simpa using h2
        obtain ⟨x1, rfl⟩ : ∃ x, v1 = some x := by simpa using h1
        obtain ⟨x0, rfl⟩ : ∃ x, v0 = some x := by simpa using h0
        simp only [nn] at hN
        omega
    unfold chk67 at hk
    rw [hc, hnot] at hk
    simp only [Bool.not_false, Bool.and_self, Bool.not_true, Bool.false_or, Bool.and_eq_true] at hk
    refine Goes.choose (fun he => by rw [he] at hk; exact absurd hk.1 (by simp)) fun i hi => ?_
    have h1 := List.all_eq_true.1 hk.2 i hi
    unfold ok67 at h1
    simp only [Bool.or_eq_true, Bool.and_eq_true, beq_iff_eq, Bool.not_eq_true', Option.isSome_eq_false_iff, Option.isNone_iff_eq_none] at h1
    simp only [nn] at hN
    rcases h1 with ((((((((h1 | h1) | h1) | h1) | h1) | h1) | h1) | h1) | h1) | h1
    · obtain ⟨rfl, rfl⟩ : i = 1 ∧ v0 = none := by exact h1
      exact C67_0 hL fun x => ih (some x) v1 v2 v3 v4 a0 a1 a2 a3 a4 (by simp only [nn] at hN ⊢; omega) (by clear ih hk hnot hN hi h1 hend; revert hc; cases v1 <;> cases v2 <;> cases v3 <;> cases v4 <;> simp)
    · obtain ⟨rfl, rfl⟩ : i = 3 ∧ v1 = none := by exact ⟨h1.1.1, h1.2⟩
      exact C67_1 hL fun x => ih v0 (some x) v2 v3 v4 a0 a1 a2 a3 a4 (by simp only [nn] at hN ⊢; omega) (by have h2 := h1.1.2; clear ih hk hnot hN hi h1 hend; revert hc h2; cases v0 <;> cases v2 <;> cases v3 <;> cases v4 <;> simp)
    · obtain ⟨rfl, rfl⟩ : i = 5 ∧ v2 = none := by exact ⟨h1.1.1, h1.2⟩
      exact C67_2 hL fun x => ih v0 v1 (some x) v3 v4 a0 a1 a2 a3 a4 (by simp only [nn] at hN ⊢; omega) (by have h2 := h1.1.2; clear ih hk hnot hN hi h1 hend; revert hc h2; cases v0 <;> cases v1 <;> cases v3 <;> cases v4 <;> simp)
    · obtain ⟨rfl, rfl⟩ : i = 7 ∧ v3 = none := by exact ⟨h1.1.1, h1.2⟩
      exact C67_3 hL fun x => ih v0 v1 v2 (some x) v4 a0 a1 a2 a3 a4 (by simp only [nn] at hN ⊢; omega) (by have h2 := h1.1.2; clear ih hk hnot hN hi h1 hend; revert hc h2; cases v0 <;> cases v1 <;> cases v2 <;> cases v4 <;> simp)
    · obtain ⟨rfl, rfl⟩ : i = 9 ∧ v4 = none := by exact ⟨h1.1.1, h1.2⟩
      exact C67_4 hL fun x => ih v0 v1 v2 v3 (some x) a0 a1 a2 a3 a4 (by simp only [nn] at hN ⊢; omega) (by have h2 := h1.1.2; clear ih hk hnot hN hi h1 hend; revert hc h2; cases v0 <;> cases v1 <;> cases v2 <;> cases v3 <;> simp)
    · obtain ⟨rfl, rfl⟩ := h1
      exact A67_0 fun g => ih v0 v1 v2 v3 v4 (some g) a1 a2 a3 a4 (by simp only [nn] at hN ⊢; omega) hc
    · obtain ⟨rfl, rfl⟩ := h1
      exact A67_1 fun g => ih v0 v1 v2 v3 v4 a0 (some g) a2 a3 a4 (by simp only [nn] at hN ⊢; omega) hc
    · obtain ⟨rfl, rfl⟩ := h1
      exact A67_2 fun g => ih v0 v1 v2 v3 v4 a0 a1 (some g) a3 a4 (by simp only [nn] at hN ⊢; omega) hc
    · obtain ⟨rfl, rfl⟩ := h1
      exact A67_3 fun g => ih v0 v1 v2 v3 v4 a0 a1 a2 (some g) a4 (by simp only [nn] at hN ⊢; omega) hc
    · obtain ⟨rfl, rfl⟩ := h1
      exact A67_4 fun g => ih v0 v1 v2 v3 v4 a0 a1 a2 a3 (some g) (by simp only [nn] at hN ⊢; omega) hc
end
/-- A finder of all kinds. -/
def AnyV (w : World) (l : List UInt8) (v : Value) : Prop := ∃ gs g1 g2 g3 g4 g5 v1 v2 v3 v4 v5, v = .func (.func 101) #[] #[.pointer (some ⟨gs, 0, none⟩), .pointer (some ⟨g1, 0, none⟩), .pointer (some ⟨g2, 0, none⟩), .pointer (some ⟨g3, 0, none⟩), .pointer (some ⟨g4, 0, none⟩), .pointer (some ⟨g5, 0, none⟩)] ∧ Any w l gs g1 g2 g3 g4 g5 v1 v2 v3 v4 v5
set_option maxRecDepth 100000 in
set_option maxHeartbeats 4000000 in
seal rn Goes ans atEnd put0 putM opened putA0 oneSt st0 in
theorem mkAny_any (l : List UInt8) (w : World) {L : List Nat} (hL : ∀ x ∈ L, x < w.heap.size) : Calls Tryz.prog 67 #[strV l] w fun e w' => ∃ v, e = .returned v ∧ Below w.heap.size w w' ∧ Stay L w' (fun w => AnyV w l v) := by
  refine Goes.begin Tryz.func67 [] (fun _ => True) (fun j b o h => by cases h) (by simp [Mem.ids]) (fun _ _ => trivial) ?_
  refine Goes.run1 [] [] trivial fun gs => ?_
  refine Goes.open [0] ?_
  refine Goes.run [0, 0, 2, 0, 4, 0, 6, 0, 8, 0] [] trivial ?_
  refine Goes.eq (s' := ⟨D67 l gs 15 none none none none none none none none none none, T67 l gs none none none none none none none none none none, M67 l gs none none none none none⟩) (by kernel_rfl) ?_
  refine Goes.inv (Inv' := I67 L (fun w' => Ch (Mem.ids []) w w' ∧ True) l none none none none none) (fun w h => by refine ⟨h, ?_, ?_, ?_, ?_, ?_⟩ <;> intro x hx <;> cases hx) ?_
  refine G67 (fun w' h x hx => Nat.lt_of_lt_of_le (hL x hx) h.1.size) (fun x0 x1 x2 x3 x4 g0 g1 g2 g3 g4 => ?_) 10 none none none none none none none none none none rfl rfl
  refine Goes.pure (Q := (∃ f c p, x0 = .func f c p) ∧ (∃ f c p, x1 = .func f c p) ∧ (∃ f c p, x2 = .func f c p) ∧ (∃ f c p, x3 = .func f c p) ∧ (∃ f c p, x4 = .func f c p)) ?_ ?_
  · rintro w ⟨-, n0, n1, n2, n3, n4⟩
    obtain ⟨a, am, aw, af, ar, km, e, -⟩ := (n0 x0 rfl).now
    obtain ⟨y1, e1, -⟩ := (n1 x1 rfl).now
    obtain ⟨y2, e2, -⟩ := (n2 x2 rfl).now
    obtain ⟨y3, e3, -⟩ := (n3 x3 rfl).now
    obtain ⟨y4, e4, -⟩ := (n4 x4 rfl).now
    exact ⟨⟨_, _, _, e⟩, ⟨_, _, _, e1⟩, ⟨_, _, _, e2⟩, ⟨_, _, _, e3⟩, ⟨_, _, _, e4⟩⟩
  rintro ⟨⟨f0, c0, p0, rfl⟩, ⟨f1, c1, p1, rfl⟩, ⟨f2, c2, p2, rfl⟩, ⟨f3, c3, p3, rfl⟩, ⟨f4, c4, p4, rfl⟩⟩
  refine Goes.oneA 15 1 [0] ?_
  refine Goes.oneA 16 2 [0] ?_
  refine Goes.oneA 17 3 [0] ?_
  refine Goes.oneA 18 4 [0] ?_
  refine Goes.oneA 19 5 [0] ?_
  refine Goes.run [] [] trivial ?_
  refine Goes.ret [] (.func (.func 101) #[] #[.pointer (some ⟨gs, 0, none⟩), .pointer (some ⟨g0, 0, none⟩), .pointer (some ⟨g1, 0, none⟩), .pointer (some ⟨g2, 0, none⟩), .pointer (some ⟨g3, 0, none⟩), .pointer (some ⟨g4, 0, none⟩)]) fun w' hm hI => ⟨_, rfl, below_end (m := []) (fun j b o h => by cases h) hI.now.1.1 hm (by kernel_rfl), ?_⟩
  have hfr : ∀ g, g ∈ _ → w.heap.size ≤ g := fun g hg => fresh_id (L := []) (Q := fun _ => True) (hI.mono fun w h => h.1) hg (by simp)
  have k0 := hm.get 0 (b := gs) (o := .cells #[strV l] 9 (0, 0))
  have q0 := hfr gs (ids_get (j := 0) (o := .cells #[strV l] 9 (0, 0)) (by kernel_rfl))
  have k1 := hm.get 1 (b := g0) (o := .cells #[.func f0 c0 p0] 96 (0, 0))
  have q1 := hfr g0 (ids_get (j := 1) (o := .cells #[.func f0 c0 p0] 96 (0, 0)) (by kernel_rfl))
  have k2 := hm.get 2 (b := g1) (o := .cells #[.func f1 c1 p1] 96 (0, 0))
  have q2 := hfr g1 (ids_get (j := 2) (o := .cells #[.func f1 c1 p1] 96 (0, 0)) (by kernel_rfl))
  have k3 := hm.get 3 (b := g2) (o := .cells #[.func f2 c2 p2] 96 (0, 0))
  have q3 := hfr g2 (ids_get (j := 3) (o := .cells #[.func f2 c2 p2] 96 (0, 0)) (by kernel_rfl))
  have k4 := hm.get 4 (b := g3) (o := .cells #[.func f3 c3 p3] 96 (0, 0))
  have q4 := hfr g3 (ids_get (j := 4) (o := .cells #[.func f3 c3 p3] 96 (0, 0)) (by kernel_rfl))
  have k5 := hm.get 5 (b := g4) (o := .cells #[.func f4 c4 p4] 96 (0, 0))
  have q5 := hfr g4 (ids_get (j := 5) (o := .cells #[.func f4 c4 p4] 96 (0, 0)) (by kernel_rfl))
  obtain ⟨-, n0, n1, n2, n3, n4⟩ := hI.now
  exact fun w2 hc => ⟨gs, g0, g1, g2, g3, g4, _, _, _, _, _, rfl, stay_blk hL q0 k0 w2 hc, stay_blk hL q1 k1 w2 hc, stay_blk hL q2 k2 w2 hc, stay_blk hL q3 k3 w2 hc, stay_blk hL q4 k4 w2 hc, stay_blk hL q5 k5 w2 hc, n0 _ rfl w2 hc, n1 _ rfl w2 hc, n2 _ rfl w2 hc, n3 _ rfl w2 hc, n4 _ rfl w2 hc⟩
end Go.Proofs.YtommhgmlblecnaaGreatDoor
namespace Go.Proofs.YtommhgmlblecnaaGreatDoor
open Go Go.RowKit

/-- A token that is right ends behind its beginning, within the text. -/
def Fwd (l : List UInt8) (i : Nat) (q : Tk × Int) : Prop := q.2 = 0 → ∃ E : Nat, q.1.e = E ∧ i < E ∧ E ≤ l.length
section
variable {l : List UInt8} {i : Nat}
theorem Fwd.bad {t : Tk} {n : Int} (h : n ≠ 0) : Fwd l i (t, n) := fun h1 => absurd h1 h
theorem Fwd.good {k : Int} {x : List UInt8} {n a : Int} {E : Nat} (h1 : i < E) (h2 : E ≤ l.length) : Fwd l i (⟨k, x, n, a, (E : Nat)⟩, 0) := fun _ => ⟨E, rfl, h1, h2⟩
theorem Fwd.ite {c : Bool} {q r : Tk × Int} (h1 : c = true → Fwd l i q) (h2 : c = false → Fwd l i r) : Fwd l i (bif c then q else r) := by
  cases c with
  | true => exact h1 rfl
  | false => exact h2 rfl
theorem nameT_fwd {c : UInt8} (hc : l[i]? = some c) (h : cIn (c.toNat : Nat) = true) : Fwd l i (nameT l i) := by
  have hi := (List.getElem?_eq_some_iff.1 hc).1
  have h1 := bhd_adv hc h
  have h2 := bhd_le cIn l (i := i) (by omega)
  refine Fwd.ite (fun hA => ?_) fun _ => Fwd.ite (fun _ => Fwd.good h1 h2) fun _ => Fwd.bad (by decide)
  rw [Bool.and_eq_true] at hA
  have h3 := of_decide_eq_true hA.1
  have h4 := bhd_ge cIn l (bhd cIn l i + 1)
  exact Fwd.ite (fun _ => Fwd.good (by omega) (bhd_le _ _ (by omega))) fun _ => Fwd.bad (by decide)
theorem curT_fwd (hi : i < l.length) : Fwd l i (curT l i) := by
  refine Fwd.ite (fun _ => Fwd.bad (by decide)) fun hA => Fwd.good ?_ (bhd_le _ _ (by omega))
  have : (bhd cCap l i : Int) - (i : Int) = 3 := by simpa using hA
  omega
theorem quoT_fwd (hi : i < l.length) : Fwd l i (quoT l i) := by
  have h1 := bhd_ge cStr l (i + 1)
  have h2 := bhd_le cStr l (i := i + 1) hi
  refine Fwd.ite (fun _ => Fwd.bad (by decide)) fun hA => Fwd.ite (fun _ => Fwd.good (by omega) ?_) fun _ => Fwd.bad (by decide)
  rw [Bool.or_eq_false_iff] at hA
  have : ¬ (bhd cStr l (i + 1) : Int) = (l.length : Int) := by simpa using hA.1
  omega
theorem signT_fwd (hi : i < l.length) : Fwd l i (signT l i) := by
  refine Fwd.ite (fun hA => Fwd.good (by omega) ?_) fun _ => Fwd.ite (fun _ => Fwd.bad (by decide)) fun _ => Fwd.good (by omega) hi
  have := (List.isPrefixOf_iff_prefix.1 hA).length_le
  simp at this
  omega
theorem nbrT_fwd {c : UInt8} (hc : l[i]? = some c) (h : cDig (c.toNat : Nat) = true) : Fwd l i (nbrT l i) := by
  have hi := (List.getElem?_eq_some_iff.1 hc).1
  have h1 := bhd_adv hc h
  refine Fwd.ite (fun _ => Fwd.bad (by decide)) fun _ => ?_
  unfold nodT
  cases hk : lkD (l.drop i) with
  | true =>
    have h10 : i + 10 ≤ l.length := by have := lkD_ten hk; rw [List.length_drop] at this; omega
    exact fun _ => ⟨i + 10, rfl, by omega, h10⟩
  | false =>
    refine fun _ => ⟨numE l i, rfl, ?_, numE_le (by omega)⟩
    unfold numE
    cases decide (((bhd cDig l (bhd cDig l i + 1) : Nat) : Int) > ((bhd cDig l i + 1 : Nat) : Int)) && (((l.getD (bhd cDig l i) 0).toNat : Int) == 46) with
    | true => have := bhd_ge cDig l (bhd cDig l i + 1); exact Nat.lt_of_lt_of_le (by omega : i < bhd cDig l i + 1) this
    | false => exact h1
theorem anyT_fwd (hi : i < l.length) : Fwd l i (anyT l i) := by
  obtain ⟨x, hx⟩ : ∃ x, l[i]? = some x := ⟨l[i], by simp⟩
  have hx' : l.getD i 0 = x := by simp [List.getD, hx]
  unfold anyT
  rw [hx']
  exact Fwd.ite (fun h => nameT_fwd hx (by unfold cIn; rw [h]; rfl)) fun _ => Fwd.ite (fun _ => curT_fwd hi) fun _ => Fwd.ite (fun h => nbrT_fwd hx h) fun _ => Fwd.ite (fun _ => quoT_fwd hi) fun _ => signT_fwd hi
end
theorem skipF_in (l : List UInt8) : ∀ f i, i ≤ l.length → i ≤ skipF l f i ∧ skipF l f i ≤ l.length
  | 0, _, h => ⟨Nat.le_refl _, h⟩
  | f + 1, i, h => by
    unfold skipF
    split
    · exact ⟨Nat.le_refl _, h⟩
    · rename_i c hc
      have hi := (List.getElem?_eq_some_iff.1 hc).1
      cases cBlank (c.toNat : Nat) with
      | true =>
        have := skipF_in l f (i + 1) hi
        exact ⟨by simp only [cond_true]; omega, this.2⟩
      | false =>
        cases (c.toNat : Int) == 35 with
        | true =>
          have h1 := bhd_ge cLine l i
          have := skipF_in l f (bhd cLine l i) (bhd_le _ _ h)
          exact ⟨Nat.le_trans h1 this.1, this.2⟩
        | false => exact ⟨Nat.le_refl _, h⟩
theorem skip_in (l : List UInt8) {i : Nat} (h : i ≤ l.length) : i ≤ skip l i ∧ skip l i ≤ l.length := skipF_in l _ i h
/-- A text's tokens from a place on, behind those that are there: the tokens, what is wrong, and where. -/
def prtF (l : List UInt8) : Nat → Nat → List Tk → List Tk × Int × Int
  | 0, _, ts => (ts, 0, 0)
  | f + 1, i, ts =>
    bif decide ((i : Int) < (l.length : Int)) then
      bif ((anyT l i).2 == 0) && ((ts.length : Int) == 8192) then ([], 76, i)
      else bif (anyT l i).2 != 0 then ([], (anyT l i).2, i)
      else prtF l f (skip l (anyT l i).1.e.toNat) (ts ++ [(anyT l i).1])
    else (ts ++ [⟨0, [], 0, l.length, l.length⟩], 0, 0)
def prt (l : List UInt8) : List Tk × Int × Int := bif decide ((l.length : Int) > 16384) then ([], 70, 0) else prtF l (l.length + 1) (skip l 0) []
end Go.Proofs.YtommhgmlblecnaaGreatDoor
namespace Go.Proofs.YtommhgmlblecnaaGreatDoor
open Go Go.RowKit

section
theorem bhd_drop (C : Int → Bool) (l : List UInt8) (i k : Nat) : bhd C l (i + k) = i + bhd C (l.drop i) k := by
  unfold bhd
  rw [List.drop_drop]
  omega
theorem bhd_drop0 (C : Int → Bool) (l : List UInt8) (i : Nat) : bhd C l i = i + bhd C (l.drop i) 0 := bhd_drop C l i 0
theorem cut_drop (l : List UInt8) (i a b : Nat) : cutL l (i + a) (i + b) = cutL (l.drop i) a b := by
  unfold cutL
  rw [List.drop_drop, show i + b - (i + a) = b - a by omega]
theorem cut_drop0 (l : List UInt8) (i b : Nat) : cutL l i (i + b) = cutL (l.drop i) 0 b := cut_drop l i 0 b
theorem getD_drop (l : List UInt8) (i k : Nat) : l.getD (i + k) 0 = (l.drop i).getD k 0 := by simp [List.getD]
theorem getD_drop0 (l : List UInt8) (i : Nat) : l.getD i 0 = (l.drop i).getD 0 0 := getD_drop l i 0
/-- A token, some places further on. -/
def shK (c : Nat) (t : Tk) : Tk := ⟨t.k, t.tx, t.n, t.a + c, t.e + c⟩
def shT (c : Nat) (q : Tk × Int) : Tk × Int := bif q.2 == 0 then (shK c q.1, q.2) else q
theorem shT_ite (c : Nat) (b : Bool) (p q : Tk × Int) : shT c (bif b then p else q) = bif b then shT c p else shT c q := by cases b <;> rfl
theorem lt_drop (l : List UInt8) (i b : Nat) : decide (((i + b : Nat) : Int) < (l.length : Int)) = decide ((b : Int) < ((l.drop i).length : Int)) := by
  rw [List.length_drop]
  exact decide_eq_decide.2 (by omega)
theorem cast_comm (a b : Nat) : ((a + b : Nat) : Int) = (b : Int) + (a : Nat) := by omega
theorem farT_drop (l : List UInt8) (i p : Nat) : farT l i (i + p) = shT i (farT (l.drop i) 0 p) := by
  unfold farT
  rw [shT_ite, cut_drop0, show i + p + 1 = i + (p + 1) by omega, bhd_drop, cut_drop, cut_drop0, cast_comm]
  simp [shT, shK, tk0]
theorem nameT_drop (l : List UInt8) (i : Nat) : nameT l i = shT i (nameT (l.drop i) 0) := by
  unfold nameT
  rw [shT_ite, shT_ite, bhd_drop0, lt_drop, getD_drop, farT_drop, cut_drop0, cast_comm]
  simp [shT, shK, tk0]
theorem curT_drop (l : List UInt8) (i : Nat) : curT l i = shT i (curT (l.drop i) 0) := by
  unfold curT
  rw [shT_ite, bhd_drop0, cut_drop0, show (((i + bhd cCap (l.drop i) 0 : Nat) : Int) - (i : Int)) = ((bhd cCap (l.drop i) 0 : Nat) : Int) - ((0 : Nat) : Int) by omega, cast_comm]
  simp [shT, shK, tk0]
theorem quoT_drop (l : List UInt8) (i : Nat) (hi : i ≤ l.length) : quoT l i = shT i (quoT (l.drop i) 0) := by
  have e : ∀ b : Nat, (((i + b : Nat) : Int) == (l.length : Int)) = ((b : Int) == ((l.drop i).length : Int)) := by
    intro b
    rw [List.length_drop, Bool.eq_iff_iff, beq_iff_eq, beq_iff_eq]
    omega
  have e2 : ∀ b : Nat, ((i + b + 1 : Nat) : Int) = ((b + 1 : Nat) : Int) + (i : Nat) := by intro b; omega
  unfold quoT
  rw [shT_ite, shT_ite, bhd_drop, e, getD_drop, cut_drop, e2]
  simp [shT, shK, tk0]
theorem signT_drop (l : List UInt8) (i : Nat) : signT l i = shT i (signT (l.drop i) 0) := by
  unfold signT
  rw [shT_ite, shT_ite, getD_drop0, cut_drop0, cut_drop0, cast_comm, cast_comm]
  simp [shT, shK, tk0]
theorem numE_drop (l : List UInt8) (i : Nat) : numE l i = i + numE (l.drop i) 0 := by
  have e : ∀ a b : Nat, decide (((i + a : Nat) : Int) > ((i + b : Nat) : Int)) = decide ((a : Int) > (b : Int)) := fun a b => decide_eq_decide.2 (by omega)
  unfold numE
  rw [bhd_drop0 cDig l i, show i + bhd cDig (l.drop i) 0 + 1 = i + (bhd cDig (l.drop i) 0 + 1) by omega, bhd_drop, e, getD_drop]
  cases decide (((bhd cDig (l.drop i) (bhd cDig (l.drop i) 0 + 1) : Nat) : Int) > ((bhd cDig (l.drop i) 0 + 1 : Nat) : Int)) && ((((l.drop i).getD (bhd cDig (l.drop i) 0) 0).toNat : Int) == 46) <;> rfl
seal parseL dPar in
theorem nodT_drop (l : List UInt8) (i : Nat) : nodT l i = (shK i (nodT (l.drop i) 0).1, (nodT (l.drop i) 0).2) := by
  unfold nodT
  rw [List.drop_zero]
  cases lkD (l.drop i) with
  | true =>
    unfold dateT
    rw [cut_drop0]
    simp [shK, Int.add_comm]
  | false =>
    unfold numT
    rw [numE_drop, cut_drop0]
    simp [shK, Int.add_comm]
seal parseL dPar in
theorem nod_nat (l : List UInt8) : ∃ e : Nat, (nodT l 0).1.e = e := by
  unfold nodT
  cases lkD (l.drop 0) with
  | true => exact ⟨10, rfl⟩
  | false => exact ⟨numE l 0, rfl⟩
seal parseL dPar in
theorem nbrT_drop (l : List UInt8) (i : Nat) : nbrT l i = shT i (nbrT (l.drop i) 0) := by
  unfold nbrT
  rw [shT_ite, nodT_drop]
  obtain ⟨e, he⟩ := nod_nat (l.drop i)
  have e1 : (shK i (nodT (l.drop i) 0).1).e = ((i + e : Nat) : Int) := by simp only [shK, he]; omega
  rw [e1, lt_drop, Int.toNat_natCast, getD_drop, he, Int.toNat_natCast]
  simp [shT, tk0]
seal parseL dPar in
theorem anyT_drop (l : List UInt8) (i : Nat) (hi : i ≤ l.length) : anyT l i = shT i (anyT (l.drop i) 0) := by
  unfold anyT
  rw [shT_ite, shT_ite, shT_ite, shT_ite, ← nameT_drop, ← curT_drop, ← nbrT_drop, ← quoT_drop l i hi, ← signT_drop, ← getD_drop0]
/-- Blanks and remarks. -/
def sk (u : List UInt8) : Nat := skipF u (u.length + 1) 0
theorem skipF_drop (l : List UInt8) : ∀ (f i : Nat), skipF l f i = i + skipF (l.drop i) f 0
  | 0, _ => rfl
  | f + 1, i => by
    unfold skipF
    rw [List.getElem?_drop, Nat.add_zero]
    cases l[i]? with
    | none => rfl
    | some c =>
      simp only
      cases cBlank (c.toNat : Nat) with
      | true =>
        simp only [cond_true]
        rw [skipF_drop l f (i + 1), skipF_drop (l.drop i) f (0 + 1), List.drop_drop]
        simp only [Nat.zero_add]
        omega
      | false =>
        cases (c.toNat : Int) == 35 with
        | true =>
          simp only [cond_true, cond_false]
          rw [bhd_drop0, skipF_drop l f (i + bhd cLine (l.drop i) 0), skipF_drop (l.drop i) f (bhd cLine (l.drop i) 0), List.drop_drop]
          omega
        | false => rfl
theorem skipF_fuel (l : List UInt8) : ∀ (f g i : Nat), l.length < f + i → l.length < g + i → skipF l f i = skipF l g i
  | 0, g, i, h1, h2 => by
    have hn : l[i]? = none := List.getElem?_eq_none (by omega)
    cases g with
    | zero => rfl
    | succ g => unfold skipF; rw [hn]
  | f + 1, 0, i, h1, h2 => by
    have hn : l[i]? = none := List.getElem?_eq_none (by omega)
    unfold skipF
    rw [hn]
  | f + 1, g + 1, i, h1, h2 => by
    unfold skipF
    cases hc : l[i]? with
    | none => rfl
    | some c =>
      simp only
      cases cBlank (c.toNat : Nat) with
      | true => exact skipF_fuel l f g (i + 1) (by omega) (by omega)
      | false =>
        cases h35 : (c.toNat : Int) == 35 with
        | true =>
          simp only [cond_true, cond_false]
          have h35' : (c.toNat : Int) = 35 := by simpa using h35
          have := bhd_adv hc (C := cLine) (by unfold cLine; rw [h35']; rfl)
          exact skipF_fuel l f g _ (by omega) (by omega)
        | false => rfl
theorem skip_drop (l : List UInt8) (i : Nat) : skip l i = i + sk (l.drop i) := by
  unfold skip sk
  rw [skipF_drop]
  congr 1
  exact skipF_fuel _ _ _ 0 (by simp; omega) (by omega)
theorem sk_le (u : List UInt8) : sk u ≤ u.length := (skipF_in u _ 0 (Nat.zero_le _)).2
theorem sk_blank (c : UInt8) (u : List UInt8) (hc : cBlank (c.toNat : Nat) = true) : sk (c :: u) = 1 + sk u := by
  unfold sk
  rw [skipF]
  simp only [List.getElem?_cons_zero, hc, cond_true]
  rw [skipF_drop]
  simp
theorem sk_line (u : List UInt8) : sk (35 :: u) = bhd cLine (35 :: u) 0 + sk ((35 :: u).drop (bhd cLine (35 :: u) 0)) := by
  conv => lhs; unfold sk; rw [skipF]
  simp only [List.getElem?_cons_zero]
  rw [show cBlank ((35 : UInt8).toNat : Nat) = false by decide, show (((35 : UInt8).toNat : Int) == 35) = true by decide]
  simp only [cond_true, cond_false]
  rw [skipF_drop]
  congr 1
  exact skipF_fuel _ _ _ 0 (by simp only [List.length_drop, List.length_cons]; have := bhd_adv (C := cLine) (l := 35 :: u) (i := 0) (c := 35) rfl (by decide); omega) (by omega)
theorem sk_other (c : UInt8) (u : List UInt8) (hc : cBlank (c.toNat : Nat) = false) (h35 : ((c.toNat : Int) == 35) = false) : sk (c :: u) = 0 := by
  unfold sk
  rw [skipF]
  simp only [List.getElem?_cons_zero, hc, h35, cond_false]
/-- What is behind a row of a sort, where a byte of another sort follows. -/
theorem tw_ext (C : Int → Bool) (u r : List UInt8) (c : UInt8) (hc : C (c.toNat : Nat) = false) : (u ++ c :: r).takeWhile (fun c => C (c.toNat : Nat)) = u.takeWhile (fun c => C (c.toNat : Nat)) := by
  induction u with
  | nil => rw [List.nil_append, List.takeWhile_cons, hc]; rfl
  | cons x u ih =>
    rw [List.cons_append, List.takeWhile_cons, List.takeWhile_cons, ih]
theorem bhd_ext {C : Int → Bool} {u r : List UInt8} {c : UInt8} (hc : C (c.toNat : Nat) = false) {i : Nat} (hi : i ≤ u.length) : bhd C (u ++ c :: r) i = bhd C u i := by
  unfold bhd
  rw [List.drop_append_of_le_length hi, tw_ext C _ _ _ hc]
theorem tw_ext2 (C : Int → Bool) (u r : List UInt8) (h : (u.takeWhile (fun c => C (c.toNat : Nat))).length < u.length) : (u ++ r).takeWhile (fun c => C (c.toNat : Nat)) = u.takeWhile (fun c => C (c.toNat : Nat)) := by
  induction u with
  | nil => simp at h
  | cons x u ih =>
    rw [List.cons_append, List.takeWhile_cons, List.takeWhile_cons]
    cases hx : C (x.toNat : Nat) with
    | false => rfl
    | true =>
      simp only [if_true]
      rw [ih]
      rw [List.takeWhile_cons, hx] at h
      simpa using h
theorem bhd_ext2 {C : Int → Bool} {u r : List UInt8} {i : Nat} (hi : i ≤ u.length) (h : bhd C u i < u.length) : bhd C (u ++ r) i = bhd C u i := by
  unfold bhd at h ⊢
  rw [List.drop_append_of_le_length hi, tw_ext2]
  rw [List.length_drop]
  omega
theorem cut_ext {u r : List UInt8} {i j : Nat} (hj : j ≤ u.length) : cutL (u ++ r) i j = cutL u i j := by
  unfold cutL
  rcases Nat.lt_or_ge u.length i with h | h
  · rw [show j - i = 0 by omega]; rfl
  · rw [List.drop_append_of_le_length h, List.take_append_of_le_length (by simp; omega)]
theorem getD_ext {u r : List UInt8} {i : Nat} (hi : i < u.length) : (u ++ r).getD i 0 = u.getD i 0 := by simp [List.getD, List.getElem?_append_left hi]
theorem getD_brk {u r : List UInt8} {c : UInt8} : (u ++ c :: r).getD u.length 0 = c := by simp [List.getD]
/-- A byte that ends every token. -/
def brk (c : UInt8) : Bool := cBlank (c.toNat : Nat) || (c.toNat : Int) == 35
theorem brk_all : ∀ c : UInt8, brk c = true → cIn (c.toNat : Nat) = false ∧ cCap (c.toNat : Nat) = false ∧ cDig (c.toNat : Nat) = false ∧ cBad (c.toNat : Nat) = false ∧ ((c.toNat : Int) == 46) = false ∧ (c == 61) = false ∧ misfit c 48 = true ∧ misfit c 45 = true := by
  have key : ∀ n : Fin 256, brk (UInt8.ofNat n.1) = true → cIn ((UInt8.ofNat n.1).toNat : Nat) = false ∧ cCap ((UInt8.ofNat n.1).toNat : Nat) = false ∧ cDig ((UInt8.ofNat n.1).toNat : Nat) = false ∧ cBad ((UInt8.ofNat n.1).toNat : Nat) = false ∧ (((UInt8.ofNat n.1).toNat : Int) == 46) = false ∧ (UInt8.ofNat n.1 == 61) = false ∧ misfit (UInt8.ofNat n.1) 48 = true ∧ misfit (UInt8.ofNat n.1) 45 = true := by decide +kernel
  intro c
  have := key ⟨c.toNat, c.toNat_lt⟩
  simpa using this
variable {u r : List UInt8} {c : UInt8} (hc : brk c = true)
include hc in
theorem dot_ext {b : Nat} (hb : b ≤ u.length) : (decide ((b : Int) < ((u ++ c :: r).length : Int)) && ((((u ++ c :: r).getD b 0).toNat : Int) == 46)) = (decide ((b : Int) < (u.length : Int)) && (((u.getD b 0).toNat : Int) == 46)) := by
  rcases Nat.lt_or_ge b u.length with h | h
  · rw [getD_ext h, decide_eq_true (by simp; omega), decide_eq_true (by omega)]
  · obtain rfl : b = u.length := by omega
    rw [getD_brk, (brk_all c hc).2.2.2.2.1, decide_eq_false (by omega : ¬ ((u.length : Int) < (u.length : Int)))]
    simp
include hc in
theorem nameT_ext : nameT (u ++ c :: r) 0 = nameT u 0 := by
  have hI := (brk_all c hc).1
  have hb : bhd cIn u 0 ≤ u.length := bhd_le _ _ (Nat.zero_le _)
  unfold nameT
  rw [bhd_ext hI (Nat.zero_le _), dot_ext hc hb, cut_ext hb]
  cases hd : decide (((bhd cIn u 0 : Nat) : Int) < (u.length : Int)) && (((u.getD (bhd cIn u 0) 0).toNat : Int) == 46) with
  | false => rfl
  | true =>
    rw [Bool.and_eq_true] at hd
    have h1 : bhd cIn u 0 + 1 ≤ u.length := by have := of_decide_eq_true hd.1; omega
    simp only [cond_true]
    unfold farT
    have h2 : bhd cIn u (bhd cIn u 0 + 1) ≤ u.length := bhd_le _ _ h1
    rw [bhd_ext hI h1, cut_ext h2, cut_ext h2, cut_ext hb]
include hc in
theorem curT_ext : curT (u ++ c :: r) 0 = curT u 0 := by
  have hb : bhd cCap u 0 ≤ u.length := bhd_le _ _ (Nat.zero_le _)
  unfold curT
  rw [bhd_ext (brk_all c hc).2.1 (Nat.zero_le _), cut_ext hb]
include hc in
theorem lkD_ext : lkD (u ++ c :: r) = lkD u := by
  obtain ⟨-, -, hD, -, -, -, h8, h5⟩ := brk_all c hc
  unfold lkD
  rcases Nat.lt_or_ge u.length 10 with h | h
  · rw [decide_eq_true (show (u.length : Int) < 10 by omega)]
    simp only [Bool.true_or, Bool.not_true, Bool.false_and, Bool.and_eq_false_iff]
    refine .inr (List.all_eq_false.2 ⟨u.length, by simpa using h, ?_⟩)
    rw [getD_brk]
    have : dForm.getD u.length 0 = 48 ∨ dForm.getD u.length 0 = 45 := by
      have : ∀ n : Fin 10, dForm.getD n.1 0 = 48 ∨ dForm.getD n.1 0 = 45 := by decide
      exact this ⟨u.length, h⟩
    rcases this with e | e <;> rw [e]
    · rw [h8]; simp
    · rw [h5]; simp
  · have e1 : decide ((u.length : Int) < 10) = false := decide_eq_false (by omega)
    have e2 : decide (((u ++ c :: r).length : Int) < 10) = false := decide_eq_false (by simp; omega)
    have e3 : (decide (((u ++ c :: r).length : Int) > 10) && cDig (((u ++ c :: r).getD 10 0).toNat : Nat)) = (decide ((u.length : Int) > 10) && cDig ((u.getD 10 0).toNat : Nat)) := by
      rcases Nat.lt_or_ge 10 u.length with h1 | h1
      · rw [getD_ext h1, decide_eq_true (by simp; omega), decide_eq_true (by omega)]
      · have e : u.length = 10 := by omega
        have e4 : (u ++ c :: r).getD 10 0 = c := by rw [← e]; exact getD_brk
        rw [e4, hD, e]
        simp
    rw [e1, e2, e3]
    congr 1
    refine Bool.eq_iff_iff.2 ?_
    simp only [List.all_eq_true, List.mem_range]
    constructor
    · intro H j hj
      have := H j hj
      rwa [getD_ext (by omega)] at this
    · intro H j hj
      rw [getD_ext (by omega)]
      exact H j hj
include hc in
theorem numE_ext : numE (u ++ c :: r) 0 = numE u 0 := by
  obtain ⟨-, -, hD, -, h46, -⟩ := brk_all c hc
  have hb : bhd cDig u 0 ≤ u.length := bhd_le _ _ (Nat.zero_le _)
  unfold numE
  rw [bhd_ext hD (Nat.zero_le _)]
  rcases Nat.lt_or_ge (bhd cDig u 0) u.length with h | h
  · rw [bhd_ext hD h, getD_ext h]
  · have e : bhd cDig u 0 = u.length := by omega
    rw [e, getD_brk, h46]
    have : (((u.getD u.length 0).toNat : Int) == 46) = false := by simp [List.getD]
    rw [this]
    simp
seal parseL dPar in
include hc in
theorem nbrT_ext : nbrT (u ++ c :: r) 0 = nbrT u 0 := by
  obtain ⟨-, -, hD, hB, h46, -⟩ := brk_all c hc
  have e0 : nodT (u ++ c :: r) 0 = nodT u 0 ∧ ∃ e : Nat, (nodT u 0).1.e = e ∧ e ≤ u.length := by
    unfold nodT
    rw [List.drop_zero, List.drop_zero, lkD_ext hc]
    cases hk : lkD u with
    | true =>
      have := lkD_ten hk
      unfold dateT
      rw [cut_ext (by omega)]
      exact ⟨rfl, 10, rfl, this⟩
    | false =>
      have := numE_le (l := u) (i := 0) (Nat.zero_le _)
      unfold numT
      rw [numE_ext hc, cut_ext this]
      exact ⟨rfl, _, rfl, this⟩
  obtain ⟨e1, e, e2, e3⟩ := e0
  unfold nbrT
  rw [e1, e2, Int.toNat_natCast]
  have : (decide ((e : Int) < ((u ++ c :: r).length : Int)) && cBad (((u ++ c :: r).getD e 0).toNat : Nat)) = (decide ((e : Int) < (u.length : Int)) && cBad ((u.getD e 0).toNat : Nat)) := by
    rcases Nat.lt_or_ge e u.length with h | h
    · rw [getD_ext h, decide_eq_true (by simp; omega), decide_eq_true (by omega)]
    · obtain rfl : e = u.length := by omega
      rw [getD_brk, hB, decide_eq_false (by omega : ¬ ((u.length : Int) < (u.length : Int)))]
      simp
  rw [this]
theorem quoT_ext (hu : 0 < u.length) (h : (quoT u 0).2 = 0) : quoT (u ++ c :: r) 0 = quoT u 0 := by
  have hb : bhd cStr u (0 + 1) ≤ u.length := bhd_le _ _ hu
  unfold quoT at h ⊢
  cases h1 : ((bhd cStr u (0 + 1) : Int) == (u.length : Int)) with
  | true => rw [h1] at h; exact absurd h (by simp)
  | false =>
    have hlt : bhd cStr u (0 + 1) < u.length := by
      have : ¬ ((bhd cStr u (0 + 1) : Int) = (u.length : Int)) := by simpa using h1
      omega
    have e1 : ((bhd cStr u (0 + 1) : Int) == ((u ++ c :: r).length : Int)) = false := by
      rw [beq_eq_false_iff_ne, List.length_append]
      omega
    rw [bhd_ext2 hu hlt, getD_ext hlt, e1, cut_ext hb]
include hc in
theorem signT_ext (hu : 0 < u.length) : signT (u ++ c :: r) 0 = signT u 0 := by
  have h61 := (brk_all c hc).2.2.2.2.2.1
  unfold signT
  rw [List.drop_zero, List.drop_zero, getD_ext hu, cut_ext (j := 0 + 1) hu]
  have e : Lib.hasPrefix (u ++ c :: r) [60, 61] = Lib.hasPrefix u [60, 61] := by
    unfold Lib.hasPrefix
    match u, hu with
    | [x], _ => 
      have : (61 == c) = false := by rw [beq_eq_false_iff_ne] at h61 ⊢; exact fun e => h61 e.symm
      simp [List.isPrefixOf, this]
    | x :: y :: u, _ => simp [List.isPrefixOf]
  rw [e]
  cases hp : Lib.hasPrefix u [60, 61] with
  | false => rfl
  | true =>
    have : 2 ≤ u.length := by
      have := (List.isPrefixOf_iff_prefix.1 hp).length_le
      simpa using this
    rw [cut_ext this]
seal parseL dPar in
include hc in
/-- A right token stays where a byte that ends every token comes behind. -/
theorem anyT_ext (hu : 0 < u.length) (h : (anyT u 0).2 = 0) : anyT (u ++ c :: r) 0 = anyT u 0 := by
  unfold anyT at h ⊢
  rw [getD_ext hu]
  cases h1 : cLet ((u.getD 0 0).toNat : Nat) with
  | true => exact nameT_ext hc
  | false =>
  cases h2 : cCap ((u.getD 0 0).toNat : Nat) with
  | true => exact curT_ext hc
  | false =>
  cases h3 : cDig ((u.getD 0 0).toNat : Nat) with
  | true => exact nbrT_ext hc
  | false =>
  cases h4 : ((u.getD 0 0).toNat : Int) == 34 with
  | true =>
    rw [h1, h2, h3, h4] at h
    exact quoT_ext hu h
  | false => exact signT_ext hc hu
end
end Go.Proofs.YtommhgmlblecnaaGreatDoor
namespace Go.Proofs.YtommhgmlblecnaaGreatDoor
open Go Go.RowKit

section
theorem shT_add (a b : Nat) (q : Tk × Int) : shT (a + b) q = shT a (shT b q) := by
  unfold shT
  cases h : q.2 == 0 with
  | false => simp only [cond_false, h]
  | true =>
    simp only [cond_true, h, shK]
    refine Prod.ext ?_ rfl
    simp only [Tk.mk.injEq, true_and]
    omega
theorem shT_snd (a : Nat) (q : Tk × Int) : (shT a q).2 = q.2 := by
  unfold shT
  cases q.2 == 0 <;> rfl
theorem shT_fst {a : Nat} {q : Tk × Int} (h : q.2 = 0) : (shT a q).1 = shK a q.1 := by
  unfold shT
  rw [h]
  rfl
/-- A right token is not the end. -/
theorem k_ite {c : Bool} {p q : Tk × Int} (h1 : p.2 = 0 → p.1.k ≠ 0) (h2 : q.2 = 0 → q.1.k ≠ 0) : (bif c then p else q).2 = 0 → (bif c then p else q).1.k ≠ 0 := by
  cases c with
  | true => exact h1
  | false => exact h2
theorem k_bad {t : Tk} {e : Int} (h : e ≠ 0) : (t, e).2 = 0 → (t, e).1.k ≠ 0 := fun h1 => absurd h1 h
theorem k_good {t : Tk} {e : Int} (h : t.k ≠ 0) : (t, e).2 = 0 → (t, e).1.k ≠ 0 := fun _ => h
theorem kne {k : Int} {x : List UInt8} {n a e : Int} (h : (k == 0) = false) : (⟨k, x, n, a, e⟩ : Tk).k ≠ 0 := by simpa using h
seal parseL dPar in
theorem anyT_k (l : List UInt8) (i : Nat) : (anyT l i).2 = 0 → (anyT l i).1.k ≠ 0 := by
  unfold anyT
  refine k_ite ?_ (k_ite ?_ (k_ite ?_ (k_ite ?_ ?_)))
  · unfold nameT farT
    refine k_ite (k_ite (k_good (kne rfl)) (k_bad (by decide))) (k_ite (k_good ?_) (k_bad (by decide)))
    simp only
    cases isKw (cutL l i (bhd cIn l i)) <;> decide
  · exact k_ite (k_bad (by decide)) (k_good (kne rfl))
  · unfold nbrT
    refine k_ite (k_bad (by decide)) (k_good ?_)
    unfold nodT
    cases lkD (l.drop i) with
    | true => exact (by decide : (5 : Int) ≠ 0)
    | false => exact (by decide : (6 : Int) ≠ 0)
  · exact k_ite (k_bad (by decide)) (k_ite (k_good (kne rfl)) (k_bad (by decide)))
  · exact k_ite (k_good (kne rfl)) (k_ite (k_bad (by decide)) (k_good (kne rfl)))
/-- The end of a text. -/
def endK (n : Nat) : Tk := ⟨0, [], 0, n, n⟩
theorem prtF_step {l : List UInt8} {f i : Nat} {ts : List Tk} (hi : i < l.length) (h0 : (anyT l i).2 = 0) (h1 : ts.length ≠ 8192) : prtF l (f + 1) i ts = prtF l f (skip l (anyT l i).1.e.toNat) (ts ++ [(anyT l i).1]) := by
  have hlt : decide ((i : Int) < (l.length : Int)) = true := decide_eq_true (by omega)
  have h2 : ((ts.length : Int) == 8192) = false := by rw [beq_eq_false_iff_ne]; omega
  conv => lhs; unfold prtF
  rw [hlt, h0, h2]
  rfl
theorem prtF_go {l : List UInt8} {f i : Nat} {ts : List Tk} (hi : i < l.length) (h : (prtF l (f + 1) i ts).2.1 = 0) : (anyT l i).2 = 0 ∧ ts.length ≠ 8192 ∧ prtF l (f + 1) i ts = prtF l f (skip l (anyT l i).1.e.toNat) (ts ++ [(anyT l i).1]) := by
  have hlt : decide ((i : Int) < (l.length : Int)) = true := decide_eq_true (by omega)
  have key : (anyT l i).2 = 0 ∧ ts.length ≠ 8192 := by
    unfold prtF at h
    rw [hlt] at h
    simp only [cond_true] at h
    cases h0 : (anyT l i).2 == 0 with
    | false =>
      have h1 : ((anyT l i).2 != 0) = true := by unfold bne; rw [h0]; rfl
      rw [h0, h1] at h
      simp only [Bool.false_and, cond_false, cond_true] at h
      rw [h] at h0
      cases h0
    | true =>
      refine ⟨by simpa using h0, fun e => ?_⟩
      rw [h0, e] at h
      exact absurd h (by simp)
  exact ⟨key.1, key.2, prtF_step hi key.1 key.2⟩
theorem prtF_end {l : List UInt8} {f i : Nat} {ts : List Tk} (hi : l.length ≤ i) : prtF l (f + 1) i ts = (ts ++ [endK l.length], 0, 0) := by
  have hlt : decide ((i : Int) < (l.length : Int)) = false := decide_eq_false (by omega)
  unfold prtF
  rw [hlt]
  rfl
seal parseL dPar in
theorem prtF_suf (P v : List UInt8) : ∀ (f f' i : Nat) (acc acc' : List Tk), v.length + 1 ≤ f + i → i ≤ v.length → (P ++ v).length + 1 ≤ f' + (P.length + i) → acc.length ≤ acc'.length → (prtF (P ++ v) f' (P.length + i) acc').2.1 = 0 → acc'.length ≤ 8192 →
    ∃ body, prtF v f i acc = (acc ++ body ++ [endK v.length], 0, 0) ∧ prtF (P ++ v) f' (P.length + i) acc' = (acc' ++ body.map (shK P.length) ++ [endK (P ++ v).length], 0, 0) ∧ (∀ t ∈ body, t.k ≠ 0) ∧ acc'.length + body.length ≤ 8192
  | 0, f', i, acc, acc', hf, hi, _, _, _, _ => by omega
  | f + 1, 0, i, acc, acc', _, hi, hf', _, _, _ => by simp at hf'; omega
  | f + 1, f' + 1, i, acc, acc', hf, hi, hf', ha, h', h8 => by
    rcases Nat.lt_or_ge i v.length with hlt | hge
    · have hlt' : P.length + i < (P ++ v).length := by simp; omega
      obtain ⟨h3, h4, h5⟩ := prtF_go hlt' h'
      have hd : ∀ e, (P ++ v).drop (P.length + e) = v.drop e := fun e => by rw [← List.drop_drop, List.drop_left]
      have hany : anyT (P ++ v) (P.length + i) = shT P.length (anyT v i) := by
        rw [anyT_drop _ _ (by omega), hd, anyT_drop v i hi, shT_add]
      have h0 : (anyT v i).2 = 0 := by rw [hany, shT_snd] at h3; exact h3
      obtain ⟨E, hE, hE1, hE2⟩ := anyT_fwd hlt h0
      have e1 : (anyT (P ++ v) (P.length + i)).1 = shK P.length (anyT v i).1 := by rw [hany, shT_fst h0]
      have e2 : (shK P.length (anyT v i).1).e.toNat = P.length + E := by simp only [shK, hE]; omega
      have e3 : skip (P ++ v) (P.length + E) = P.length + skip v E := by rw [skip_drop, skip_drop, hd]; omega
      have hs := skip_in v hE2
      rw [h5, e1, e2, e3] at h' ⊢
      rw [prtF_step hlt h0 (by omega), hE, Int.toNat_natCast]
      obtain ⟨body, g1, g2, g3, g4⟩ := prtF_suf P v f f' (skip v E) (acc ++ [(anyT v i).1]) (acc' ++ [shK P.length (anyT v i).1]) (by omega) hs.2 (by simp at hf' ⊢; omega) (by simp; omega) h' (by simp; omega)
      refine ⟨(anyT v i).1 :: body, ?_, ?_, ?_, ?_⟩
      · rw [g1]; simp
      · rw [g2]; simp
      · intro t ht
        rcases List.mem_cons.1 ht with e | e
        · rw [e]; exact anyT_k v i h0
        · exact g3 t e
      · simp at g4 ⊢; omega
    · exact ⟨[], by rw [prtF_end hge]; simp, by rw [prtF_end (by simp; omega)]; simp, by simp, by simpa using h8⟩
theorem prt_long {l : List UInt8} (h : (prt l).2.1 = 0) : l.length ≤ 16384 ∧ prt l = prtF l (l.length + 1) (skip l 0) [] := by
  unfold prt at h ⊢
  cases h0 : decide ((l.length : Int) > 16384) with
  | true => rw [h0] at h; exact absurd h (by simp)
  | false => exact ⟨by have := of_decide_eq_false h0; omega, rfl⟩
theorem prt_short {l : List UInt8} (h : l.length ≤ 16384) : prt l = prtF l (l.length + 1) (skip l 0) [] := by
  unfold prt
  rw [decide_eq_false (by omega)]
  rfl
/-- What a right text's tokens are: right ones, and the end. -/
theorem prt_shape {l : List UInt8} (h : (prt l).2.1 = 0) : ∃ body, prt l = (body ++ [endK l.length], 0, 0) ∧ (∀ t ∈ body, t.k ≠ 0) ∧ body.length ≤ 8192 := by
  obtain ⟨-, h1⟩ := prt_long h
  rw [h1] at h
  have hs := skip_in l (i := 0) (Nat.zero_le _)
  obtain ⟨body, -, g2, g3, g4⟩ := prtF_suf [] l (l.length + 1) (l.length + 1) (skip l 0) [] [] (by omega) hs.2 (by simp) (Nat.le_refl _) (by simpa using h) (by simp)
  refine ⟨body, ?_, g3, by simpa using g4⟩
  rw [h1]
  have e : body.map (shK 0) = body := by
    have : shK 0 = id := by funext t; simp [shK]
    rw [this, List.map_id]
  simpa [e] using g2
end
end Go.Proofs.YtommhgmlblecnaaGreatDoor
namespace Go.Proofs.YtommhgmlblecnaaGreatDoor
open Go Go.RowKit

section
variable {l : List UInt8} {i : Nat}
theorem tx_ite {c : Bool} {q r : Tk × Int} (h1 : q.1.tx.length ≤ l.length) (h2 : r.1.tx.length ≤ l.length) : (bif c then q else r).1.tx.length ≤ l.length := by
  cases c with
  | true => exact h1
  | false => exact h2
theorem tx0 : tk0.tx.length ≤ l.length := Nat.zero_le _
theorem anyT_tx : (anyT l i).1.tx.length ≤ l.length := by
  refine tx_ite (tx_ite (tx_ite (cutL_len _ _ _) tx0) (tx_ite (cutL_len _ _ _) tx0)) (tx_ite (tx_ite tx0 (cutL_len _ _ _)) (tx_ite (tx_ite tx0 ?_) (tx_ite (tx_ite tx0 (tx_ite (cutL_len _ _ _) tx0)) (tx_ite (cutL_len _ _ _) (tx_ite tx0 (cutL_len _ _ _))))))
  unfold nodT
  cases lkD (l.drop i) <;> exact Nat.zero_le _
end
/-- A token's cells. -/
def Tk.cs (t : Tk) : List Value := [.int .i64 t.k, strV t.tx, .int .i64 t.n, .int .i64 t.a, .int .i64 t.e]
theorem Tk.cs_one (u : Tk) : ∀ x ∈ u.cs, x.oneCell' = true := by
  intro x hx
  simp only [Tk.cs, List.mem_cons, List.not_mem_nil, or_false] at hx
  rcases hx with rfl | rfl | rfl | rfl | rfl <;> rfl
theorem tk_flat : ∀ (ts : List Tk) (i : Nat) (t : Tk), ts[i]? = some t → ∀ j, j < 5 → (ts.flatMap Tk.cs)[i * 5 + j]? = t.cs[j]?
  | [], i, t, h, _, _ => by simp at h
  | y :: r, 0, t, h, j, hj => by
    simp at h
    subst h
    simp only [List.flatMap_cons, Nat.zero_mul, Nat.zero_add]
    rw [List.getElem?_append_left (by simp [Tk.cs]; omega)]
  | y :: r, i + 1, t, h, j, hj => by
    have h1 := tk_flat r i t (by simpa using h) j hj
    simp only [List.flatMap_cons]
    rw [List.getElem?_append_right (by simp [Tk.cs]; omega)]
    have : (i + 1) * 5 + j - (y.cs).length = i * 5 + j := by simp [Tk.cs]; omega
    rw [this]
    exact h1
theorem tks_row {w : World} {base g c n : Nat} {ts : List Tk} (hn : ts.length = n) (h : w.ownsRow base 68 5 (.slice (some ⟨g, 0, none⟩) n c) n (ts.flatMap Tk.cs)) (hl : ts.length ≤ 100000) : Tks w g c ts ∧ base ≤ g := by
  rcases h.2 with ⟨h0, -⟩ | ⟨g', cap, cur, e, hb, hg, -, -, -, h4⟩
  · cases h0
  · cases e
    refine ⟨⟨⟨cur, (0, 0), hg, fun i t hi => ?_⟩, by omega⟩, hb⟩
    have hi' := (List.getElem?_eq_some_iff.1 hi).1
    have key : ∀ j, j < 5 → cur[i * 5 + j]? = t.cs[j]? := fun j hj => by
      rw [← tk_flat ts i t hi j hj, ← h4, List.getElem?_take_of_lt (by omega)]
      simp
    exact ⟨by have := key 0 (by decide); rw [Nat.add_zero] at this; exact this, key 1 (by decide), key 2 (by decide), key 3 (by decide), key 4 (by decide)⟩
/-- A loop's state. -/
structure PL where
  i : Nat
  ts : List Tk
  a : Option Addr
  c : Nat
  f : Nat
theorem ch_more {M : List Nat} {w2 w3 w4 : World} (h1 : Ch M w2 w3) (hB : Below w2.heap.size w3 w4) : Ch M w2 w4 := ⟨hB.os.trans h1.os, hB.tape.trans h1.tape, hB.output.trans h1.output, Nat.le_trans h1.size hB.size, fun i hi hx => (hB.block i hi).trans (h1.block i hi hx)⟩
section
variable {P : Program} {F : Exit → Act → World → Prop} {Inv : World → Prop} {s : St}
theorem Goes.callG (ids : List Nat) (f : FuncId) (args : Array Value) (hr : ∀ w, (∀ x ∈ ids, x < w.heap.size) → Stay ids w Inv → Calls P f args w fun e w' => ∃ v Fact, e = .returned v ∧ Below w.heap.size w w' ∧ Stay ids w' Fact ∧ Goes P F (fun w => Inv w ∧ Fact w) (put0 s v))
    (hid : s.mem.ids = ids := by kernel_rfl) (ha : ask s = some (f, args) := by kernel_rfl) (hw : wants s = true := by kernel_rfl) (hf : okf P f = true := by kernel_rfl) : Goes P F Inv s := by
  subst hid
  exact Goes.callF f args (fun w hm hI => hr w (ids_lt hm) hI) ha hw hf
end
set_option maxRecDepth 100000 in
set_option maxHeartbeats 4000000 in
seal rn Goes ans atEnd put0 putM opened putA0 oneSt st0 keep in
theorem parted_any (l : List UInt8) (w : World) (ht : Tab w) {L : List Nat} (hL : ∀ x ∈ L, x < w.heap.size) : Calls Tryz.prog 40 #[strV l] w fun e w' => Below w.heap.size w w' ∧ ∃ v, e = .returned (.tuple #[v, .agg #[.int .i64 (prt l).2.1, .int .i64 (prt l).2.2]]) ∧ ((prt l).2.1 ≠ 0 ∧ v = .slice none 0 0 ∨ (prt l).2.1 = 0 ∧ ∃ b c, v = tvO b c (prt l).1 ∧ Stay L w' (fun w => Tks w b c (prt l).1)) := by
  refine Goes.begin Tryz.func40 [] Tab (fun j b o h => by cases h) (by simp [Mem.ids]) ht.stay ?_
  unfold prt
  cases h0 : decide ((l.length : Int) > 16384) with
  | true =>
    refine Goes.run1 [1, 0] [(decide ((l.length : Int) > 16384), true)] ⟨h0, trivial⟩ fun g1 => ?_
    exact Goes.ret [0] (.tuple #[.slice none 0 0, .agg #[.int .i64 70, .int .i64 0]]) fun w' hm hI => ⟨below_end (m := []) (fun j b o h => by cases h) hI.now.1 hm (by kernel_rfl), _, rfl, .inl ⟨show (70 : Int) ≠ 0 by decide, rfl⟩⟩
  | false =>
  have hl : l.length ≤ 16384 := by have := of_decide_eq_false h0; omega
  refine Goes.run1 [0] [(decide ((l.length : Int) > 16384), false)] ⟨h0, trivial⟩ fun g1 => ?_
  refine Goes.callG [g1] 67 #[strV l] fun w1 hm1 hI1 => (mkAny_any l w1 hm1).mono fun e w2 ⟨v, e1, hB, hS⟩ => ⟨v, fun w' => Ch [g1] w2 w', e1, hB, fun w' hc => hc, ?_⟩
  have hg1 : w.heap.size ≤ g1 := fresh_id (L := []) hI1 (List.mem_singleton.2 rfl) (by simp)
  have hc2 : Ch [] w w2 := ch_more hI1.now.1 (⟨hB.os, hB.tape, hB.output, hB.size, fun i hi => hB.block i (Nat.lt_of_lt_of_le hi hI1.now.1.size)⟩)
  have hch : ∀ w3, Ch [g1] w2 w3 → Ch [] w w3 := fun w3 h3 => hc2.trans h3 (fun x hx => .inr (by simp at hx; omega))
  have hBw : w.heap.size ≤ w2.heap.size := hc2.size
  obtain ⟨gs, a1, a2, a3, a4, a5, y1, y2, y3, y4, y5, rfl, -⟩ := hS.now
  have hfind : ∀ (i : Nat) (w3 : World), i < l.length → Ch [g1] w2 w3 → Calls Tryz.prog 101 #[.int .i64 i, .pointer (some ⟨gs, 0, none⟩), .pointer (some ⟨a1, 0, none⟩), .pointer (some ⟨a2, 0, none⟩), .pointer (some ⟨a3, 0, none⟩), .pointer (some ⟨a4, 0, none⟩), .pointer (some ⟨a5, 0, none⟩)] w3 fun e w' => e = .returned (.tuple #[(anyT l i).1.v, .int .i64 (anyT l i).2]) ∧ Below w3.heap.size w3 w' := fun i w3 hi h3 => by
    obtain ⟨gs', b1, b2, b3, b4, b5, z1, z2, z3, z4, z5, e, hA⟩ := hS w3 h3
    cases e
    exact anyT_any hA (ht.stay w3 (hch w3 h3)) (by omega) hi
  clear hS
  obtain ⟨s0, hs0⟩ : ∃ s0, skip l 0 = s0 := ⟨_, rfl⟩
  have hs1 : s0 ≤ l.length := hs0 ▸ (skip_in l (Nat.zero_le _)).2
  refine Goes.run [] [] trivial ?_
  refine Goes.call0 68 #[strV l, .int .i64 (0 : Nat)] (.int .i64 s0) (fun w' _ _ => hs0 ▸ skipped_any l 0 w' (by omega) (by omega)) ?_
  refine Goes.run [] [] trivial ?_
  rw [hs0]
  obtain ⟨R, hR⟩ : ∃ R, prtF l (l.length + 1) s0 [] = R := ⟨_, rfl⟩
  simp only [cond_false]
  rw [hR]
  refine Goes.loop (α := PL) 60 (fun q => [(0, strV l), (2, .slice none 0 0), (3, .pointer (some ⟨g1, 0, none⟩)), (4, .func (.func 101) #[] #[.pointer (some ⟨gs, 0, none⟩), .pointer (some ⟨a1, 0, none⟩), .pointer (some ⟨a2, 0, none⟩), .pointer (some ⟨a3, 0, none⟩), .pointer (some ⟨a4, 0, none⟩), .pointer (some ⟨a5, 0, none⟩)]), (5, .slice q.a q.ts.length q.c), (6, .int .i64 q.i)]) (fun _ => [(g1, .cells #[.int .i64 0, .int .i64 0] 61 (0, 0))]) (fun q w' => Ch [g1] w2 w' ∧ w'.ownsRow w2.heap.size 68 5 (.slice q.a q.ts.length q.c) q.ts.length (q.ts.flatMap Tk.cs)) (fun q => q.i ≤ l.length ∧ prtF l q.f q.i q.ts = R ∧ l.length + 1 ≤ q.f + q.i ∧ q.ts.length ≤ 8192) (fun q => l.length - q.i) ⟨s0, [], none, 0, l.length + 1⟩ ⟨hs1, hR, Nat.le_add_right _ _, by simp⟩ (fun w h => ⟨h.2, by simp, .inl ⟨rfl, rfl⟩⟩) ?_
  rintro ⟨i, ts, a, c, f⟩ J ⟨hi, hp, hf, hn⟩ back
  simp only at hi hp hf hn ⊢
  obtain ⟨n, hn'⟩ : ∃ n, ts.length = n := ⟨_, rfl⟩
  rw [hn']
  obtain ⟨f, rfl⟩ : ∃ f', f = f' + 1 := ⟨f - 1, by omega⟩
  unfold prtF at hp
  cases hlt : decide ((i : Int) < (l.length : Int)) with
  | false =>
    rw [hlt] at hp
    simp only [cond_false] at hp
    refine Goes.run1 [0, 0] [(decide ((i : Int) < (l.length : Int)), false)] ⟨hlt, trivial⟩ fun g3 => ?_
    refine Goes.append (I0 := fun w' => Ch [g1] w2 w') w2.heap.size 59 68 59 5 48 (.slice a n c) n (ts.flatMap Tk.cs) 1 g3 1 1 (Tk.cs ⟨0, [], 0, l.length, l.length⟩) 68 (0, 0) (fun w' h => ⟨h.1, h.2, h.1.size⟩) (fun w3 w4 h1 hB => ch_more h1 hB) rfl (Tk.cs_one _) (by decide) (by unfold maxLen; omega) (by omega) fun a' c' => ?_
    refine Goes.run [0] [] trivial ?_
    refine Goes.ret [0] (.tuple #[.slice a' (n + 1) c', .agg #[.int .i64 0, .int .i64 0]]) fun w' hm hI => ⟨below_end (m := []) (fun j b o h => by cases h) (hch w' hI.now.1) hm (by kernel_rfl), _, by rw [← hp], .inr ⟨by rw [← hp], ?_⟩⟩
    subst hp
    have ho := hI.now.2
    obtain ⟨g, rfl⟩ : ∃ g, a' = some ⟨g, 0, none⟩ := by
      rcases ho.2 with ⟨h, -⟩ | ⟨g, cap, cur, e, -⟩
      · cases h
      · cases e; exact ⟨g, rfl⟩
    have hfl : ts.flatMap Tk.cs ++ Tk.cs (⟨0, [], 0, l.length, l.length⟩ : Tk) = (ts ++ [(⟨0, [], 0, l.length, l.length⟩ : Tk)]).flatMap Tk.cs := by simp
    rw [hfl] at ho
    obtain ⟨hT, hgB⟩ := tks_row (by simp [hn']) ho (by simp; omega)
    refine ⟨g, c', by unfold tvO; simp [hn'], fun w3 h3 => ?_⟩
    obtain ⟨cur, z, hb, hr⟩ := hT.blk
    exact ⟨⟨cur, z, (h3.block g (lt_of_get hb) (fun hx => by have := hL g hx; omega)).trans hb, hr⟩, hT.len⟩
  | true =>
    have hil : i < l.length := by have := of_decide_eq_true hlt; omega
    have hfw := anyT_fwd hil
    have htx := anyT_tx (l := l) (i := i)
    have hfd := hfind i
    unfold Fwd at hfw
    obtain ⟨t, htt⟩ : ∃ t, (anyT l i).1 = t := ⟨_, rfl⟩
    obtain ⟨r, hrr⟩ : ∃ r, (anyT l i).2 = r := ⟨_, rfl⟩
    rw [htt, hrr] at hfw hfd
    rw [htt] at htx
    rw [hlt, htt, hrr, hn'] at hp
    simp only [cond_true] at hp
    refine Goes.run [0, 1] [(decide ((i : Int) < (l.length : Int)), true)] ⟨hlt, trivial⟩ ?_
    refine Goes.call0 101 #[.int .i64 i, .pointer (some ⟨gs, 0, none⟩), .pointer (some ⟨a1, 0, none⟩), .pointer (some ⟨a2, 0, none⟩), .pointer (some ⟨a3, 0, none⟩), .pointer (some ⟨a4, 0, none⟩), .pointer (some ⟨a5, 0, none⟩)] (.tuple #[t.v, .int .i64 r]) (fun w' _ hI => hfd w' hil hI.now.1) ?_
    cases c0 : (r == 0) with
    | false =>
      have c2 : (r != 0) = true := by unfold bne; rw [c0]; rfl
      rw [c0, c2] at hp
      simp only [Bool.false_and, cond_false, cond_true] at hp
      refine Goes.run1 [1, 0, 0, 1, 0] [(r != 0, true), (false, false), (r == 0, false)] ⟨c2, rfl, c0, trivial⟩ fun g2 => ?_
      exact Goes.ret [0] (.tuple #[.slice none 0 0, .agg #[.int .i64 r, .int .i64 i]]) fun w' hm hI => ⟨below_end (m := []) (fun j b o h => by cases h) (hch w' hI.now.1) hm (by kernel_rfl), _, by rw [← hp], .inl ⟨by rw [← hp]; simpa using c2, rfl⟩⟩
    | true =>
      have c2 : (r != 0) = false := by unfold bne; rw [c0]; rfl
      cases c1 : ((n : Int) == 8192) with
      | true =>
        rw [c0, c1] at hp
        simp only [Bool.true_and, cond_true] at hp
        refine Goes.run1 [1, 1, 1, 1, 0] [(true, true), ((n : Int) == 8192, true), (r == 0, true)] ⟨rfl, c1, c0, trivial⟩ fun g2 => ?_
        exact Goes.ret [0] (.tuple #[.slice none 0 0, .agg #[.int .i64 76, .int .i64 i]]) fun w' hm hI => ⟨below_end (m := []) (fun j b o h => by cases h) (hch w' hI.now.1) hm (by kernel_rfl), _, by rw [← hp], .inl ⟨by rw [← hp]; exact (by decide : (76 : Int) ≠ 0), rfl⟩⟩
      | false =>
        rw [c0, c1, c2] at hp
        simp only [Bool.and_false, cond_false] at hp
        have hn2 : n < 8192 := by have : ¬ (n : Int) = 8192 := by simpa using c1
                                  omega
        obtain ⟨E, hE, hE1, hE2⟩ := hfw (by simpa using c0)
        have hsk := skip_in l hE2
        refine Goes.run1 [1, 1, 0, 0, 1] [(r != 0, false), ((n : Int) == 8192, false), (r == 0, true)] ⟨c2, c1, c0, trivial⟩ fun g2 => ?_
        refine Goes.call0 69 #[strV t.tx] (strV t.tx) (fun w' _ _ => clone_any _ w' (by omega)) ?_
        refine Goes.run1 [1, 1] [] trivial fun g3 => ?_
        refine Goes.append (I0 := fun w' => Ch [g1] w2 w') w2.heap.size 59 68 59 5 48 (.slice a n c) n (ts.flatMap Tk.cs) 2 g3 1 1 t.cs 68 (0, 0) (fun w' h => ⟨h.1, h.2, h.1.size⟩) (fun w3 w4 h1 hB => ch_more h1 hB) rfl (Tk.cs_one _) (by decide) (by unfold maxLen; omega) (by omega) fun a' c' => ?_
        refine Goes.run [1] [] trivial ?_
        refine Goes.call0 68 #[strV l, .int .i64 t.e] (.int .i64 (skip l E)) (fun w' _ _ => by rw [hE]; exact skipped_any l E w' (by omega) hE2) ?_
        refine Goes.run [] [] trivial ?_
        refine Goes.slot 5 (.slice a' (ts ++ [t]).length c') (u := .slice a' (n + 1) c') (by simp [hn']) ?_
        refine Goes.keep 1 ?_
        refine Goes.inv ?_ (back ⟨skip l E, ts ++ [t], a', c', f⟩ _ ⟨hsk.2, by show prtF l f (skip l E) (ts ++ [t]) = R; rw [← hp, hE]; rfl, by show l.length + 1 ≤ f + skip l E; omega, by simp; omega⟩ (by show l.length - skip l E < l.length - i; omega) (by kernel_rfl) (by kernel_rfl) (by kernel_rfl))
        rintro w' ⟨h1, h2⟩
        refine ⟨h1, ?_⟩
        simpa [hn'] using h2
end Go.Proofs.YtommhgmlblecnaaGreatDoor
