/- the text NPartsA -/
import Derived.Test.YthnojedlndblbabGreatDoorNParts0C
import Derived.Test.DevTool
namespace Go.Proofs.YthnojedlndblbabGreatDoor
open Go Go.RowKit

def seqN : Nat → Option Code → List TI
  | 0, some k => [.code k]
  | n + 1, some (.seq _ k) => seqN n (some k)
  | _, _ => []
noncomputable def paK1 : List TI := (rnS Tryz.prog 86 [] [] ⟨seqN 9 Tryz.f3.body, [], []⟩).st.todo
noncomputable def paK2 : List TI := (rnS Tryz.prog 25 [] [] ⟨seqN 11 Tryz.f3.body, [], []⟩).st.todo
noncomputable def paK3 : List TI := (rnS Tryz.prog 27 [] [] ⟨seqN 14 Tryz.f3.body, [], []⟩).st.todo
noncomputable def paK4 : List TI := (rnS Tryz.prog 231 [] [] ⟨seqN 17 Tryz.f3.body, [], []⟩).st.todo
def PaP (w : World) : Exit → Act → World → Prop := bodyPost Tryz.prog Tryz.f3 fun e w' => e = .returned (.bool true) ∧ Below w.heap.size w w'
theorem cl_of' {w : World} {g : Nat} {op k : Int} {s : List UInt8} {v : Value} (h : w.heap[g]? = some (cO op k s v)) : Cl4 w g 0 (cv op k s v) := by
  refine ⟨op, k, s, v, rfl, ?_, ?_, ?_, ?_⟩ <;> (unfold World.cell?; rw [h]; rfl)
theorem Lvs.kept {base base' : Nat} {w w' : World} {v : Value} {l : List (Int × Int)} {e s n b : Nat} {u : Value} {x : List Value} (h : Lvs base w v l) (h' : w.ownsRow base' e s u n x) (he : e ≠ 35) (hg : w.grownBy w' (some b)) (hb : u.ownBlock = some b) : Lvs base w' v l :=
  own_kept h hg fun b' hb' e' => by
    cases e'
    exact own_ne h h' (fun e => he e.symm) hb' hb
structure PQ where
  i : Nat
  X : List (Int × Int)
  a : Option Addr
  c : Nat
set_option maxRecDepth 100000 in
set_option maxHeartbeats 8000000 in
seal rn rnN rnS Goes ans atEnd put0 put putM opened openedY putA0 putA oneSt st0 keep mkSt newSt in
theorem parts_k4 {w w1 : World} {day : Int} (hB1 : Below w.heap.size w w1) {t u : List (List UInt8 × Int)} {X : List (Int × Int)} {b1 b2 a5 b6 a7 : Option Addr} {d1 d2 c5 d6 c7 : Nat} (ht : Trs w.heap.size day w1 (.slice b1 t.length d1) t) (hu : Trs w.heap.size day w1 (.slice b2 u.length d2) u) (hx : Lvs w.heap.size w1 (.slice a5 X.length c5) X) (hw : Trs w.heap.size day w1 (.slice b6 (t ++ u).length d6) (t ++ u)) (hl1 : X.length ≤ 100000) (hl2 : t.length + u.length ≤ 100000) (J : Nat → Value) :
    Goes Tryz.prog (PaP w) (fun w' => Ch (Mem.ids []) w1 w' ∧ Lvs w1.heap.size w' (.slice a7 X.length c7) X) ⟨paK4, fr 252 [(9, .bool true), (11, .slice b1 t.length d1), (14, .slice b2 u.length d2), (21, .slice a5 X.length c5), (22, .slice b6 (t ++ u).length d6), (27, .slice a7 X.length c7)] J, []⟩ := by
  unfold PaP
  refine Goes.upto 236 [] [] trivial ?_
  refine Goes.slot 235 (.int .i64 ((t.length + u.length : Nat) : Int)) (u := .int .i64 (IntKind.i64.wrap ((t.length : Int) + (u.length : Int)))) (congrArg _ (by rw [IntWalk.i64_in _ ⟨by omega, by omega⟩]; omega)) ?_
  refine Goes.eff (Instr.makeSlice 28 (.int .i64 0) (.int .i64 ((t.length + u.length : Nat) : Int))) fun w2 hm2 hn2 hI2 => ?_
  obtain ⟨w3, g, hr3, hT3, hB3, hg3⟩ := makeT0 w2 (t.length + u.length) day (by omega)
  have hc3 : Ch (Mem.ids []) w1 w3 := hI2.now.1.trans (L' := Mem.ids []) ⟨hB3.os, hB3.tape, hB3.output, hB3.size, fun i hi _ => hB3.block i hi⟩ (by simp [Mem.ids])
  have hT3' : Trs w1.heap.size day w3 (.slice (some ⟨g, 0, none⟩) 0 (t.length + u.length)) [] := own_more hT3 hI2.now.1.size
  have hX3 : Lvs w1.heap.size w3 (.slice a7 X.length c7) X := own_ch hI2.now.2 (L := Mem.ids []) ⟨hB3.os, hB3.tape, hB3.output, hB3.size, fun i hi _ => hB3.block i hi⟩ (by simp [Mem.ids])
  refine ⟨_, w3, fun w' => Ch (Mem.ids []) w1 w' ∧ (Lvs w1.heap.size w' (.slice a7 X.length c7) X ∧ Trs w1.heap.size day w' (.slice (some ⟨g, 0, none⟩) 0 (t.length + u.length)) []), [], hr3, Holds.nil, by simp [Mem.ids], fun w' h => ⟨hc3.trans h (fun _ hx => .inl hx), own_ch hX3 h (by simp [Mem.ids]), own_ch hT3' h (by simp [Mem.ids])⟩, ?_⟩
  refine Goes.run [] [] trivial ?_
  refine Goes.eff (Builtin.append_ #[28, 28] 28 #[.slice (some ⟨g, 0, none⟩) 0 (t.length + u.length), .slice b1 t.length d1]) fun w4 hm4 hn4 hI4 => ?_
  obtain ⟨b8, d8, w5, hr5, hT5, hgr5⟩ := hI4.now.2.2.app hI4.now.1.size (own_ch ht hI4.now.1 (by simp [Mem.ids])) (by simp; omega) (ty := 28)
  simp only [List.length_nil, Nat.zero_add, List.nil_append] at hr5 hT5
  have hc5 : Ch (Mem.ids []) w1 w5 := hI4.now.1.grown hgr5 fun b hb => .inr ((hI4.now.2.2.lt b hb).1)
  have hX5 : Lvs w1.heap.size w5 (.slice a7 X.length c7) X := hI4.now.2.1.kept hI4.now.2.2 (by decide) hgr5 rfl
  refine ⟨_, w5, fun w' => Ch (Mem.ids []) w1 w' ∧ (Lvs w1.heap.size w' (.slice a7 X.length c7) X ∧ Trs w1.heap.size day w' (.slice (some ⟨b8, 0, none⟩) t.length d8) t), [], hr5, Holds.nil, by simp [Mem.ids], fun w' h => ⟨hc5.trans h (fun _ hx => .inl hx), own_ch hX5 h (by simp [Mem.ids]), own_ch hT5 h (by simp [Mem.ids])⟩, ?_⟩
  refine Goes.run [] [] trivial ?_
  refine Goes.eff (Builtin.append_ #[28, 28] 28 #[.slice (some ⟨b8, 0, none⟩) t.length d8, .slice b2 u.length d2]) fun w6 hm6 hn6 hI6 => ?_
  obtain ⟨b9, d9, w7, hr7, hT7, hgr7⟩ := hI6.now.2.2.app hI6.now.1.size (own_ch hu hI6.now.1 (by simp [Mem.ids])) (by omega) (ty := 28)
  have hc7 : Ch (Mem.ids []) w1 w7 := hI6.now.1.grown hgr7 fun b hb => .inr ((hI6.now.2.2.lt b hb).1)
  have hX7 : Lvs w1.heap.size w7 (.slice a7 X.length c7) X := hI6.now.2.1.kept hI6.now.2.2 (by decide) hgr7 rfl
  refine ⟨_, w7, fun w' => Ch (Mem.ids []) w1 w' ∧ (Lvs w1.heap.size w' (.slice a7 X.length c7) X ∧ Trs w1.heap.size day w' (.slice (some ⟨b9, 0, none⟩) (t.length + u.length) d9) (t ++ u)), [], hr7, Holds.nil, by simp [Mem.ids], fun w' h => ⟨hc7.trans h (fun _ hx => .inl hx), own_ch hX7 h (by simp [Mem.ids]), own_ch hT7 h (by simp [Mem.ids])⟩, ?_⟩
  refine Goes.run [1] [(true, true)] ⟨rfl, trivial⟩ ?_
  refine Goes.call0 9 #[.slice a5 X.length c5, .slice a7 X.length c7] (.bool true) (fun w' _ hI => samelives_any (own_ch hx hI.now.1 (by simp [Mem.ids])) hI.now.2.1 (by omega)) ?_
  refine Goes.run [1] [(true, true)] ⟨rfl, trivial⟩ ?_
  refine Goes.call0 10 #[.slice b6 (t ++ u).length d6, .slice (some ⟨b9, 0, none⟩) (t.length + u.length) d9] (.bool true) (fun w' _ hI => sametrans_any (own_ch hw hI.now.1 (by simp [Mem.ids])) hI.now.2.2 (by rw [List.length_append]; omega)) ?_
  refine Goes.run [] [] trivial ?_
  exact Goes.ret [] (.bool true) fun w' hm hI => ⟨rfl, hB1.trans ((hI.now.1.toB (by simp [Mem.ids])).mono hB1.size)⟩
end Go.Proofs.YthnojedlndblbabGreatDoor
