/- texts put together: ON9 ONA ONB ONC OND GOne GReg GInt GRef GRef2 GPro1 GPro2 GPro3 GRef3 GRef4 GPro4 GPro5 GEq GEnc GEnR GWr GWp GWRefTI GWRefTT GRd GRd2 GRd3 GRd4 GRd5 GRdP GRd6 GRd7 -/
import Derived.Test.YtddbiiejilcbbaaGreatDoorAG14
import Derived.Test.YtddbiiejilcbbaaGreatDoorAG2
import Derived.Lib.AppendStr
import Derived.Test.YtddbiiejilcbbaaGreatDoorAG3
import Derived.Deep.RegionWith
import Derived.Deep.DrawnRows
namespace Go.Proofs.YtddbiiejilcbbaaGreatDoor
open Go Go.RowKit

section
variable {P : Program} {F : Exit → Act → World → Prop} {Inv : World → Prop} {s : St}
/-- A store in a drawn region that reads no known block. -/
theorem TookS.stoE (i : Nat) (I : Sem Unit) (hr : ∀ w, Holds s.mem w → s.mem.ids.Nodup → Stay s.mem.ids w Inv → ∃ w' Inv' m, I.run P w = .ok () w' ∧ Holds m w' ∧ m.ids.Nodup ∧ Stay m.ids w' Inv' ∧ Goes P F Inv' (putA i s undef m)) (h0 : anyM s = [] := by kernel_rfl) (hw : anyWant i s = true := by kernel_rfl) (ho' : (anyOp i s).map (execOp (evalL s.tmps)) = some (skS I) := by kernel_rfl) : TookS P F Inv i s := by
  intro ops m0 n l k ht w h1 h2 h3 _
  unfold anyWant at hw
  unfold anyM at h0
  unfold anyOp at ho'
  rw [ht] at hw h0 ho'
  simp only at hw h0 ho'
  cases ho : ops[i]? with
  | none => rw [ho] at hw; simp at hw
  | some o =>
    rw [ho] at hw ho'
    simp only [Option.map_some, Option.some.injEq] at hw ho'
    unfold wpOp
    rw [ho]
    simp only [hw, if_true]
    unfold Oper.wp
    obtain ⟨w', Inv', m, he, h4, h5, h6, h7⟩ := hr w h1 h2 h3
    have h8 := h7 w'
    unfold putA at h8
    rw [ht] at h8
    simp only [ho] at h8
    rw [evalL_eq, ho', skS_run he, Oper.upon_skip, putL_eq]
    exact .inl ⟨holds_none h0 w', h8 h4 h5 h6 (holds_none h0 w')⟩
end
theorem holds_lt {m : Mem} {w : World} (h : Holds m w) : ∀ x ∈ m.ids, x < w.heap.size := by
  intro x hx
  obtain ⟨q, hq, rfl⟩ := List.mem_map.1 hx
  obtain ⟨j, hj⟩ := List.getElem?_of_mem hq
  exact lt_of_get (h.at (b := q.1) (o := q.2) hj)
/-- A row of terms of one's own, beside blocks that stay as they were. -/
structure KI (w : World) (B : Nat → Prop) (wf : World) (rv : Value) (n : Nat) (X : List Value) (w' : World) : Prop where
  ch : Ch [] w w'
  row : w'.ownsRow w.heap.size 52 4 rv n X
  stay : ∀ x, B x → w'.heap[x]? = wf.heap[x]? ∧ w.heap.size ≤ x ∧ Unf w' x
  apart : ∀ r, rv.ownBlock = some r → ¬ B r
theorem KI.bel {w : World} {B : Nat → Prop} {wf : World} {rv : Value} {n : Nat} {X : List Value} {w' : World} (h : KI w B wf rv n X w') : Below w.heap.size w w' := h.ch.toB (fun x hx => by cases hx)
section
variable {w : World} {B : Nat → Prop} {wf : World} {rv : Value} {n : Nat} {X : List Value} {w1 : World} {L : List Nat}
/-- Known blocks are none of these. -/
theorem KI.known (h : Stay L w1 (KI w B wf rv n X)) (hL : ∀ x ∈ L, x < w1.heap.size) : ∀ x ∈ L, w.heap.size ≤ x ∧ ¬ B x ∧ rv.ownBlock ≠ some x := by
  intro x hx
  refine ⟨?_, fun hB => ?_, fun hr => row_apart (h.mono fun w' h => h.row) hr hx⟩
  · exact fresh_of (L := []) (Q := fun _ => True) (h.mono fun w' h => ⟨h.ch, trivial⟩) hx (by simp)
  · have key : ∀ o : Obj, wf.heap[x]? = some o := by
      intro o
      have hc : Ch L w1 { w1 with heap := w1.heap.setIfInBounds x o } := ⟨rfl, rfl, rfl, by simp, fun i _ hi => Array.getElem?_setIfInBounds_ne (fun (e : x = i) => hi (e ▸ hx))⟩
      have h1 := ((h _ hc).stay x hB).1
      rw [← h1]
      show (w1.heap.setIfInBounds x o)[x]? = _
      exact Array.getElem?_setIfInBounds_self_of_lt (hL x hx)
    have h1 := key (.map #[] 0)
    rw [key (.map #[] 1)] at h1
    cases h1
/-- A call that makes blocks, which then stay. -/
theorem KI.call (h : Stay L w1 (KI w B wf rv n X)) (hL : ∀ x ∈ L, x < w1.heap.size) {w2 : World} (hB : Below w1.heap.size w1 w2) : Stay L w2 (KI w (fun x => B x ∨ New w1 w2 x) w2 rv n X) := by
  have hk := KI.known h hL
  have hr : ∀ r, rv.ownBlock = some r → r < w1.heap.size := by
    intro r hr
    rcases h.now.row.2 with ⟨e, -⟩ | ⟨g, cap, cur, e, -, hg, -⟩
    · rw [e] at hr; cases hr
    · rw [e] at hr; cases hr; exact lt_of_get hg
  have h2 := (h.bel hB)
  intro w3 hc
  have h3 := h2 w3 hc
  refine ⟨h3.ch, h3.row, fun x hx => ?_, fun r hr' => ?_⟩
  · rcases hx with hx | hx
    · have e1 := h3.stay x hx
      have e2 := (h.bel hB).now.stay x hx
      exact ⟨e1.1.trans e2.1.symm, e1.2⟩
    · have hxL : x ∉ L := fun hm => by have := hL x hm; have := hx.1.1; omega
      have he := hc.block x hx.1.2 hxL
      exact ⟨he, Nat.le_trans h.now.ch.size hx.1.1, hx.2.same he⟩
  · rintro (hx | hx)
    · exact h.now.apart r hr' hx
    · have := hr r hr'; have := hx.1.1; omega
/-- The row grows. -/
theorem KI.grow (h : Stay L w1 (KI w B wf rv n X)) (hL : ∀ x ∈ L, x < w1.heap.size) {rv' : Value} {n' : Nat} {X' : List Value} {w2 : World} (hown : w2.ownsRow w.heap.size 52 4 rv' n' X') (hgr : w1.grownBy w2 rv.ownBlock) (hob : rv'.ownBlock = rv.ownBlock ∨ rv'.ownBlock = some w1.heap.size) : Stay L w2 (KI w B wf rv' n' X') := by
  have hk := KI.known h hL
  have hrow : ∀ r, rv.ownBlock = some r → w.heap.size ≤ r := by
    intro r hr
    rcases h.now.row.2 with ⟨e, -⟩ | ⟨g, cap, cur, e, hb, hg, -⟩
    · rw [e] at hr; cases hr
    · rw [e] at hr; cases hr; exact hb
  intro w3 hc
  refine ⟨⟨hc.os.trans (hgr.os.trans h.now.ch.os), hc.tape.trans (hgr.tape.trans h.now.ch.tape), hc.output.trans (hgr.output.trans h.now.ch.output), Nat.le_trans h.now.ch.size (Nat.le_trans hgr.size hc.size), fun i hi _ => ?_⟩, ⟨hown.1, ?_⟩, fun x hx => ?_, fun r hr => ?_⟩
  · have h1 : i < w1.heap.size := Nat.lt_of_lt_of_le hi h.now.ch.size
    rw [hc.block i (Nat.lt_of_lt_of_le h1 hgr.size) (fun hm => by have := (hk i hm).1; omega), hgr.block i h1 (fun e => by have := hrow i e.symm; omega), h.now.ch.block i hi (by simp)]
  · rcases hown.2 with h0 | ⟨g, cap, cur, e1, e2, e3, e4⟩
    · exact .inl h0
    · refine .inr ⟨g, cap, cur, e1, e2, ?_, e4⟩
      rw [hc.block g (lt_of_get e3) ?_]
      · exact e3
      · intro hx
        rcases hob with h5 | h5
        · rw [e1] at h5
          exact (hk g hx).2.2 h5.symm
        · rw [e1] at h5
          cases h5
          have h6 := hL _ hx
          have h7 : w1.heap.size < w1.heap.size := h6
          omega
  · have e1 := h.now.stay x hx
    have hne : some x ≠ rv.ownBlock := fun e => h.now.apart x e.symm hx
    have he : w3.heap[x]? = w1.heap[x]? := by rw [hc.block x (Nat.lt_of_lt_of_le e1.2.2.lt hgr.size) (fun hm => (hk x hm).2.1 hx), hgr.block x e1.2.2.lt hne]
    exact ⟨he.trans e1.1, e1.2.1, e1.2.2.same he⟩
  · rcases hob with h5 | h5
    · rw [h5] at hr; exact h.now.apart r hr
    · rw [h5] at hr
      cases hr
      intro hB
      have h6 := (h.now.stay _ hB).2.2.lt
      have h7 : w1.heap.size < w1.heap.size := h6
      omega
end
/-- Terms' cells, one behind the other. -/
def cellsV : Value → List Value
  | .agg xs => xs.toList
  | _ => []
def flatV (us : List Value) : List Value := us.flatMap cellsV
theorem flatV_snoc (us : List Value) (u : Value) : flatV (us ++ [u]) = flatV us ++ cellsV u := by unfold flatV; simp
theorem flatV_len : ∀ us : List Value, (∀ u ∈ us, (cellsV u).length = 4) → (flatV us).length = us.length * 4
  | [], _ => rfl
  | u :: r, h => by
    have := flatV_len r (fun x hx => h x (by simp [hx]))
    unfold flatV at this ⊢
    simp only [List.flatMap_cons, List.length_append, List.length_cons, this, h u (by simp)]
    omega
theorem flatV_at {us : List Value} (h4 : ∀ u ∈ us, (cellsV u).length = 4) {i : Nat} {u : Value} (hi : us[i]? = some u) {j : Nat} {v : Value} (hj : (cellsV u)[j]? = some v) : (flatV us)[i * 4 + j]? = some v := by
  induction us generalizing i with
  | nil => simp at hi
  | cons x r ih =>
    have hx4 := h4 x (by simp)
    have hjl := (List.getElem?_eq_some_iff.1 hj).1
    unfold flatV
    rw [List.flatMap_cons]
    cases i with
    | zero =>
      simp at hi
      subst hi
      rw [List.getElem?_append_left (by omega)]
      simpa using hj
    | succ i =>
      rw [List.getElem?_append_right (by omega)]
      have := ih (fun u hu => h4 u (by simp [hu])) (i := i) (by simpa using hi)
      unfold flatV at this
      rw [← this]
      congr 1
      omega
theorem row_cell {w : World} {base e size : Nat} {b n cap : Nat} {X : List Value} (h : w.ownsRow base e size (.slice (some ⟨b, 0, none⟩) n cap) n X) {i : Nat} {v : Value} (hi : X[i]? = some v) : w.cell? ⟨b, i, none⟩ = some v := by
  rcases h.2 with ⟨e, -⟩ | ⟨g, c, cur, e, -, hg, -, -, -, ht⟩
  · cases e
  · cases e
    have hl : i < n * size := by rw [← h.1]; exact (List.getElem?_eq_some_iff.1 hi).1
    unfold World.cell?
    rw [hg]
    rw [← ht, List.getElem?_take_of_lt hl] at hi
    simpa using hi
/-- The last element of a row is set. -/
theorem row_store {w : World} {base : Nat} {b n cap : Nat} {X O C : List Value} {T : TypeId} (h : w.ownsRow base T 4 (.slice (some ⟨b, 0, none⟩) (n + 1) cap) (n + 1) (X ++ O)) (hX : X.length = n * 4) (hO : O.length = 4) (hC : C.length = 4) (h1 : ∀ v ∈ C, v.oneCell' = true) : ∃ w', (storeCells ⟨b, n * 4, none⟩ C 0).run Tryz.prog w = .ok () w' ∧ w'.ownsRow base T 4 (.slice (some ⟨b, 0, none⟩) (n + 1) cap) (n + 1) (X ++ C) ∧ w.grownBy w' (some b) := by
  rcases h.2 with ⟨e, -⟩ | ⟨g, c, cur, e, hb, hg, hc1, hc2, hs, ht⟩
  · cases e
  · cases e
    obtain ⟨R, hR⟩ : ∃ R, cur.toList = X ++ O ++ R := ⟨cur.toList.drop ((n + 1) * 4), by rw [← ht, List.take_append_drop]⟩
    have hcur : cur = (X ++ O ++ R).toArray := by rw [← hR]
    subst hcur
    obtain ⟨w', h2, h3, h4⟩ := cells_there (A := X) (O := O) (B := R) (C := C) hg (by rw [hO, hC]) h1
    rw [hX] at h2
    refine ⟨w', h2, ⟨by rw [List.length_append, hX, hC]; omega, .inr ⟨b, cap, _, rfl, hb, h3, hc1, hc2, ?_, ?_⟩⟩, ⟨h4.os, h4.tape, h4.output, h4.size, fun k hk hne => h4.block k hk (fun hm => hne (by simp at hm; rw [hm]))⟩⟩
    · simp only [List.size_toArray, List.length_append] at hs ⊢
      omega
    · show (X ++ C ++ R).take ((n + 1) * 4) = X ++ C
      rw [List.take_append_of_le_length (by rw [List.length_append, hX, hC]; omega), List.take_of_length_le (by rw [List.length_append, hX, hC]; omega)]
end Go.Proofs.YtddbiiejilcbbaaGreatDoor
namespace Go.Proofs.YtddbiiejilcbbaaGreatDoor
open Go Go.RowKit

theorem holds_grow {m : Mem} {w w' : World} {row : Option Nat} (h : Holds m w) (hne : ∀ x ∈ m.ids, row ≠ some x) (hg : w.grownBy w' row) : Holds m w' := fun j b o hj => by
  rw [hg.block b (lt_of_get (h.at hj)) (fun e => hne b (ids_get hj) e.symm)]
  exact h.at hj
/-- What is to be done at the head of the kids' loop, behind an element's parts, at the head of the rules' loop. -/
noncomputable def rwSt : St := (rn Tryz.prog [0, 0, 0, 2, 0] [1, 2, 3] (st0 Tryz.f73 #[cv 0 0 [] (.slice (some ⟨0, 0, none⟩) 1 1), .slice none 0 0] [])).st
noncomputable def rwHead : List TI := rwSt.todo
noncomputable def rwR0 : List TI := (rn Tryz.prog [3] [4] (put0 (put0 (rn Tryz.prog [0, 1] [] rwSt).st (.pointer (some ⟨0, 0, none⟩))) (cv 0 0 [] (.slice none 0 0)))).st.todo
noncomputable def rwReg : List TI := (opened [] ⟨rwR0, [], []⟩).todo
noncomputable def rwK : List TI := match rwReg with
  | .any ops m _ _ :: k => .any ops m 5 #[true, true, true, true, true, true, true, false, false, false, false, false] :: k
  | k => k
noncomputable def rwFix : List TI := (rn Tryz.prog [0, 0] [] rwSt).st.todo
structure KSt where
  j : Nat
  va : Option Addr
  vc : Nat
  us : List Value
  B : Nat → Prop
  wf : World
/-- What is so of the kids that are rewritten already. -/
structure KPr (w : World) (A : Nat → Prop) (rs : List Rl) (kids : List Co) (us : List Value) (B : Nat → Prop) (wf : World) : Prop where
  old : ∀ x, A x → wf.heap[x]? = w.heap[x]?
  four : ∀ u ∈ us, ∃ op k s a n c, u = cv op k s (.slice a n c)
  kids : ∀ (i : Nat) (u : Value) (c : Co), us[i]? = some u → kids[i]? = some c → NcS (fun x => A x ∨ B x) wf u (rwP rs c)
theorem KPr.len4 {w : World} {A : Nat → Prop} {rs : List Rl} {kids : List Co} {us : List Value} {B : Nat → Prop} {wf : World} (h : KPr w A rs kids us B wf) : ∀ u ∈ us, (cellsV u).length = 4 := fun u hu => by
  obtain ⟨op, k, s, a, n, c, rfl⟩ := h.four u hu
  rfl
/-- One more kid. -/
theorem KPr.more {w : World} {A : Nat → Prop} {rs : List Rl} {kids : List Co} {us : List Value} {B : Nat → Prop} {wf w1 w2 : World} {rv : Value} {n : Nat} {X : List Value} {u : Value} {c : Co} (h : KPr w A rs kids us B wf) (hA : ∀ x, A x → x < w.heap.size) (hI : KI w B wf rv n X w1) (hB : Below w1.heap.size w1 w2) (hc : kids[us.length]? = some c) (hu : NcS (Since A w1 w2) w2 u (rwP rs c)) (h4 : ∃ op k s a n c, u = cv op k s (.slice a n c)) : KPr w A rs kids (us ++ [u]) (fun x => B x ∨ New w1 w2 x) w2 := by
  have hw2 : ∀ x, A x → w2.heap[x]? = w.heap[x]? := fun x hx => by
    rw [hB.block x (Nat.lt_of_lt_of_le (hA x hx) hI.ch.size), hI.bel.block x (hA x hx)]
  refine ⟨hw2, fun v hv => ?_, fun i v c' hi hc' => ?_⟩
  · rcases List.mem_append.1 hv with hv | hv
    · exact h.four v hv
    · rw [List.mem_singleton] at hv; rw [hv]; exact h4
  · by_cases hl : i < us.length
    · rw [List.getElem?_append_left hl] at hi
      refine ((h.kids i v c' hi hc').later fun x hx => ?_).mono fun x hx => hx.elim .inl fun hx => .inr (.inl hx)
      rcases hx with hx | hx
      · rw [hw2 x hx, h.old x hx]
      · have h1 := hI.stay x hx
        rw [hB.block x h1.2.2.lt, h1.1]
    · rw [List.getElem?_append_right (by omega)] at hi
      have e : i - us.length = 0 := by have := (List.getElem?_eq_some_iff.1 hi).1; simp at this; omega
      rw [e] at hi
      cases hi
      have e2 : i = us.length := by omega
      subst e2
      rw [hc] at hc'
      cases hc'
      exact hu.mono fun x hx => hx.elim .inl fun hx => .inr (.inr hx)
abbrev zero4 : List Value := [.int .i64 0, .int .i64 0, strV [], .slice none 0 0]
theorem storeC4 {w w' : World} {b o : Nat} {op k : Int} {s : List UInt8} {u : Value} (h : (storeCells ⟨b, o, none⟩ (cellsV (cv op k s u)) 0).run Tryz.prog w = .ok () w') : (Instr.storeAt 52 (.pointer (some ⟨b, o, none⟩)) (cv op k s u)).run Tryz.prog w = .ok () w' := by
  simp only [Instr.storeAt, Instr.sureAddr, Sem.run_bind, Sem.run_pure, Result.andThen_ok, storeVar, run_size sizeC]
  exact h

set_option maxRecDepth 100000 in
seal rn rnN rnS Goes ans atEnd put0 putM opened openedY putA0 putA oneSt st0 keep put newOS rwK rwHead rwFix rwR0 in
theorem rw_tail {b kN g2 g4 go N cc : Nat} {ak : Option Addr} {op k : Int} {s : List UInt8} {R : Ending → World → Prop} {w : World} {A : Nat → Prop} {rs : List Rl} {kids : List Co} {j : Nat} {va : Option Addr} {vc : Nat} {us : List Value} {B : Nat → Prop} {wf : World} {g7 g30 : Nat} {o7 : Obj} {op2 k2 : Int} {s2 : List UInt8} {a2 : Option Addr} {n2 c2 : Nat} {J : Nat → Value}
    (hj9 : j < 1000) (hus : us.length = j) (hP : KPr w A rs kids (us ++ [cv op2 k2 s2 (.slice a2 n2 c2)]) B wf)
    (back : ∀ (a' : KSt) (s' : St), a'.j = j + 1 → a'.us = us ++ [cv op2 k2 s2 (.slice a2 n2 c2)] → a'.B = B → a'.wf = wf → s'.todo = rwHead → s'.tmps = fr 48 [(1, .slice (some ⟨b, 0, none⟩) kN 27), (2, .pointer (some ⟨g2, 0, none⟩)), (4, .pointer (some ⟨g4, 0, none⟩)), (5, .pointer (some ⟨go, 0, none⟩)), (18, .slice ak N cc), (19, .int .i64 N), (20, .int .i64 (j + 1 : Nat))] (jk s') → s'.mem = [(g2, cO4 op k s ak N cc), (g4, cO4 0 0 [] none 0 0), (go, cO4 op k s a'.va a'.j a'.vc)] → Goes Tryz.prog (bodyPost Tryz.prog Tryz.f73 R) (KI w a'.B a'.wf (.slice a'.va a'.j a'.vc) a'.j (flatV a'.us)) s') :
    Goes Tryz.prog (bodyPost Tryz.prog Tryz.f73 R) (KI w B wf (.slice va j vc) j (flatV us)) ⟨rwK, fr 48 [(1, .slice (some ⟨b, 0, none⟩) kN 27), (2, .pointer (some ⟨g2, 0, none⟩)), (4, .pointer (some ⟨g4, 0, none⟩)), (5, .pointer (some ⟨go, 0, none⟩)), (18, .slice ak N cc), (19, .int .i64 N), (20, .int .i64 j), (25, .slice va j vc), (28, cv op2 k2 s2 (.slice a2 n2 c2)), (29, .int .i64 j), (30, .slice (some ⟨g30, 0, none⟩) 1 1)] J, [(g2, cO4 op k s ak N cc), (g4, cO4 0 0 [] none 0 0), (go, cO4 op k s va j vc), (g7, o7), (g30, .cells zero4.toArray 52 (0, 0))]⟩ := by
  have hX4 : (flatV us).length = j * 4 := by
    rw [flatV_len us (fun u hu => hP.len4 u (by simp [hu])), hus]
  refine Goes.lone1 7 (TookS.eff 7 (Builtin.append_ #[50, 50] 50 #[.slice va j vc, .slice (some ⟨g30, 0, none⟩) 1 1]) fun w3 hm3 hn3 hI3 => ?_)
  obtain ⟨a', c', w4, hr, hown', hgr, hob⟩ := append_core (P := Tryz.prog) (t := 50) (e := 52) (ty := 50) (size := 4) (bytes := 56) (c := 1) (j := 4) (bj := g30) (m := 1) (news := zero4) (et := 52) (z := (0, 0)) hm3 hI3.now.row hI3.now.ch.size rfl (by intro u hu; simp only [List.mem_cons, List.not_mem_nil, or_false] at hu; rcases hu with rfl | rfl | rfl | rfl <;> rfl) (by omega) (by unfold maxLen; omega) (by omega) (by kernel_rfl) (by kernel_rfl)
  obtain ⟨r', rfl⟩ : ∃ r', a' = some ⟨r', 0, none⟩ := by
    rcases hown'.2 with ⟨e, h0⟩ | ⟨g, cap, cur, e, -⟩
    · omega
    · cases e; exact ⟨g, rfl⟩
  have hk3 := KI.known hI3 (holds_lt hm3)
  refine ⟨_, w4, _, _, hr, holds_grow hm3 (fun x hx => (hk3 x hx).2.2) hgr, hn3, KI.grow hI3 (holds_lt hm3) hown' hgr hob, ?_⟩
  refine Goes.valA 8 (Instr.indexAt 50 (.slice (some ⟨r', 0, none⟩) (j + 1) c') (.int .i64 j)) (.pointer (some ⟨r', 0 + j * 4, none⟩)) (fun w' _ => idxC r' 0 (j + 1) c' j (by omega) w') ?_
  refine Goes.run [10] [] trivial ?_
  have hw : IntKind.i64.wrap ((j : Int) + 1) = ((j + 1 : Nat) : Int) := wrap_nat (by omega)
  refine Goes.two 9 11 ?_ ?_
  · refine TookS.stoE 9 (Instr.storeAt 52 (.pointer (some ⟨r', 0 + j * 4, none⟩)) (cv op2 k2 s2 (.slice a2 n2 c2))) (fun w5 hm5 hn5 hI5 => ?_)
    obtain ⟨w6, h6, hrow6, hgr6⟩ := row_store hI5.now.row (C := cellsV (cv op2 k2 s2 (.slice a2 n2 c2))) hX4 rfl rfl (by intro u hu; simp only [cellsV, cv, List.mem_cons, List.not_mem_nil, or_false] at hu; rcases hu with rfl | rfl | rfl | rfl <;> rfl)
    have hk5 := KI.known hI5 (holds_lt hm5)
    refine ⟨w6, _, _, storeC4 (by rw [Nat.zero_add]; exact h6), holds_grow hm5 (fun x hx => (hk5 x hx).2.2) hgr6, hn5, KI.grow hI5 (holds_lt hm5) hrow6 hgr6 (.inl rfl), ?_⟩
    refine Goes.lone1 11 (TookS.run 11 2 ?_)
    refine Goes.run [] [] trivial ?_
    refine Goes.keep 3 ?_
    refine Goes.slot 20 (.int .i64 (j + 1 : Nat)) (u := .int .i64 (IntKind.i64.wrap ((j : Int) + 1))) (congrArg _ hw) ?_
    refine Goes.inv (Inv' := KI w B wf (.slice (some ⟨r', 0, none⟩) (j + 1) c') (j + 1) (flatV (us ++ [cv op2 k2 s2 (.slice a2 n2 c2)]))) (fun w' h => by rw [flatV_snoc]; exact h) ?_
    exact back ⟨j + 1, some ⟨r', 0, none⟩, c', us ++ [cv op2 k2 s2 (.slice a2 n2 c2)], B, wf⟩ _ rfl rfl rfl rfl (by kernel_rfl) (by kernel_rfl) (by kernel_rfl)
  · refine TookS.run 11 2 ?_
    refine Goes.lone1 9 (TookS.stoE 9 (Instr.storeAt 52 (.pointer (some ⟨r', 0 + j * 4, none⟩)) (cv op2 k2 s2 (.slice a2 n2 c2))) (fun w5 hm5 hn5 hI5 => ?_))
    obtain ⟨w6, h6, hrow6, hgr6⟩ := row_store hI5.now.row (C := cellsV (cv op2 k2 s2 (.slice a2 n2 c2))) hX4 rfl rfl (by intro u hu; simp only [cellsV, cv, List.mem_cons, List.not_mem_nil, or_false] at hu; rcases hu with rfl | rfl | rfl | rfl <;> rfl)
    have hk5 := KI.known hI5 (holds_lt hm5)
    refine ⟨w6, _, _, storeC4 (by rw [Nat.zero_add]; exact h6), holds_grow hm5 (fun x hx => (hk5 x hx).2.2) hgr6, hn5, KI.grow hI5 (holds_lt hm5) hrow6 hgr6 (.inl rfl), ?_⟩
    refine Goes.run [] [] trivial ?_
    refine Goes.keep 3 ?_
    refine Goes.slot 20 (.int .i64 (j + 1 : Nat)) (u := .int .i64 (IntKind.i64.wrap ((j : Int) + 1))) (congrArg _ hw) ?_
    refine Goes.inv (Inv' := KI w B wf (.slice (some ⟨r', 0, none⟩) (j + 1) c') (j + 1) (flatV (us ++ [cv op2 k2 s2 (.slice a2 n2 c2)]))) (fun w' h => by rw [flatV_snoc]; exact h) ?_
    exact back ⟨j + 1, some ⟨r', 0, none⟩, c', us ++ [cv op2 k2 s2 (.slice a2 n2 c2)], B, wf⟩ _ rfl rfl rfl rfl (by kernel_rfl) (by kernel_rfl) (by kernel_rfl)
end Go.Proofs.YtddbiiejilcbbaaGreatDoor
namespace Go.Proofs.YtddbiiejilcbbaaGreatDoor
open Go Go.RowKit

/-- From here on, told by the world that is here. -/
theorem Goes.here {P : Program} {F : Exit → Act → World → Prop} {Inv : World → Prop} {s : St} (Inv' : World → World → Prop) (h : ∀ w, Holds s.mem w → s.mem.ids.Nodup → Stay s.mem.ids w Inv → Stay s.mem.ids w (Inv' w) ∧ Goes P F (Inv' w) s) : Goes P F Inv s := fun w hm hn hI => (h w hm hn hI).2 w hm hn (h w hm hn hI).1
theorem ok_kid {z d op k : Int} {s : List UInt8} {kids : List Co} (hz : tyOk z) (h : okT z d (.mk op k s kids) = true) {i : Nat} {x : Co} (hx : kids[i]? = some x) : ∃ zx, tyOk zx ∧ okT zx (d + 1) x = true := by
  obtain ⟨ks, hl, -, -, hk, hr⟩ := ok_inv hz h
  obtain ⟨zx, h1, h2⟩ := okTs_at hk hx
  refine ⟨zx, ?_, h2⟩
  have hm := List.mem_of_getElem? h1
  rcases hr with ⟨-, -, rfl⟩ | hr
  · simp only [List.mem_cons, List.not_mem_nil, or_false] at hm
    rcases hm with e | e | e
    · rw [e]; exact t1
    · rw [e]; exact hz
    · rw [e]; exact hz
  · exact (rk_tys hr).2 zx hm
theorem ok_three {z d op k : Int} {s : List UInt8} {kids : List Co} (hz : tyOk z) (h : okT z d (.mk op k s kids) = true) : kids.length ≤ 3 := by
  obtain ⟨ks, hl, -, -, -, hr⟩ := ok_inv hz h
  rw [hl]
  rcases hr with ⟨-, -, rfl⟩ | hr
  · simp
  · obtain ⟨o0, o1⟩ := op_small hr
    have key : ∀ n : Fin 32, (match rkP ((n : Nat) : Int) with | some (l, _) => decide (l.length ≤ 3) | none => true) = true := by decide
    have := key ⟨op.toNat, by omega⟩
    rw [show ((op.toNat : Nat) : Int) = op by omega, hr] at this
    simpa using this
theorem NcS.cells {A : Nat → Prop} {w : World} {v : Value} {c : Co} (h : NcS A w v c) : ∃ op k s a N cc, v = cv op k s (.slice a N cc) := by
  cases h with
  | mk op k s kids a c vs => exact ⟨_, _, _, _, _, _, rfl⟩
/-- What rewriting answers. -/
def RwR (w : World) (A : Nat → Prop) (t : Co) (e : Ending) (w' : World) : Prop := ∃ v', e = .returned v' ∧ NcS (Since A w w') w' v' t ∧ Below w.heap.size w w'
/-- No block. -/
abbrev F0 : Nat → Prop := fun _ => False
/-- What is rewritten lies in blocks of its own. -/
def RwNew (rs : List Rl) (c : Co) : Prop := ∀ (z d : Int) (v : Value) (w : World) (A : Nat → Prop) (b kN : Nat), tyOk z → okT z d c = true → (∀ x, A x → x < w.heap.size) → NcS A w v c → RulesAt w b kN rs → Tab w → Calls Tryz.prog 73 #[v, .slice (some ⟨b, 0, none⟩) kN 27] w (RwR w F0 (rwP rs c))
/-- A term under rules. -/
structure FSt where
  op : Int
  k : Int
  s : List UInt8
  kids : List Co
  a : Option Addr
  n : Nat
  cc : Nat
  B : Nat → Prop
  wf : World
abbrev FSt.c (f : FSt) : Co := .mk f.op f.k f.s f.kids
/-- The row of kids becomes a block that stays. -/
theorem KI.rest {w : World} {B : Nat → Prop} {wf : World} {rv : Value} {n : Nat} {X : List Value} {w1 : World} {L : List Nat} (h : Stay L w1 (KI w B wf rv n X)) (hL : ∀ x ∈ L, x < w1.heap.size) : Stay L w1 (KI w (fun x => B x ∨ rv.ownBlock = some x) w1 (.slice none 0 0) 0 []) := by
  have hk := KI.known h hL
  intro w2 hc
  have h2 := h w2 hc
  refine ⟨h2.ch, w2.ownsRow_nil _ _ _, fun x hx => ?_, fun r hr => by cases hr⟩
  rcases hx with hx | hx
  · have e1 := h2.stay x hx
    have e2 := h.now.stay x hx
    exact ⟨e1.1.trans e2.1.symm, e1.2⟩
  · rcases h.now.row.2 with ⟨e, -⟩ | ⟨g, cap, cur, e, hb, hg, -⟩
    · rw [e] at hx; cases hx
    · rw [e] at hx
      cases hx
      have hlt := lt_of_get hg
      have he := hc.block g hlt (fun hm => (hk g hm).2.2 (by rw [e]; rfl))
      exact ⟨he, hb, Unf.same ⟨_, _, hg⟩ he⟩
theorem mem_eq {l l' : List Nat} {x : Nat} (hx : x ∈ l) (e : l = l' := by kernel_rfl) : x ∈ l' := e ▸ hx
theorem Goes.three {P : Program} {F : Exit → Act → World → Prop} {Inv : World → Prop} {s : St} (i j k : Nat) (h : TookS P F Inv i s) (h' : TookS P F Inv j s) (h'' : TookS P F Inv k s) (hr : anyReady s = [i, j, k] := by kernel_rfl) : Goes P F Inv s := Goes.each [i, j, k] (by simp) (fun a ha => by
  simp only [List.mem_cons, List.not_mem_nil, or_false] at ha
  rcases ha with rfl | rfl | rfl
  · exact h
  · exact h'
  · exact h'') hr
set_option maxRecDepth 100000 in
seal rn rnN rnS Goes ans atEnd put0 putM opened openedY putA0 putA oneSt st0 keep put newOS rwK rwHead rwFix rwR0 in
theorem rw_kid {b kN g2 g4 go N cc : Nat} {ak : Option Addr} {op k : Int} {s : List UInt8} {R : Ending → World → Prop} {w : World} {A : Nat → Prop} {rs : List Rl} {kids : List Co} {j : Nat} {va : Option Addr} {vc : Nat} {us : List Value} {B : Nat → Prop} {wf : World} {g7 : Nat} {op1 k1 : Int} {s1 : List UInt8} {a1 : Option Addr} {N1 cc1 : Nat} {c1 : Co} {J : Nat → Value}
    (hA : ∀ x, A x → x < w.heap.size) (hj9 : j < 1000) (hus : us.length = j) (hP : KPr w A rs kids us B wf) (hc1 : kids[j]? = some c1)
    (hcall : ∀ w1, Below w.heap.size w w1 → Calls Tryz.prog 73 #[cv op1 k1 s1 (.slice a1 N1 cc1), .slice (some ⟨b, 0, none⟩) kN 27] w1 (RwR w1 A (rwP rs c1)))
    (back2 : ∀ (us' : List Value) (B2 : Nat → Prop) (wf2 : World), us'.length = j + 1 → KPr w A rs kids us' B2 wf2 → ∀ (a' : KSt) (s' : St), a'.j = j + 1 → a'.us = us' → a'.B = B2 → a'.wf = wf2 → s'.todo = rwHead → s'.tmps = fr 48 [(1, .slice (some ⟨b, 0, none⟩) kN 27), (2, .pointer (some ⟨g2, 0, none⟩)), (4, .pointer (some ⟨g4, 0, none⟩)), (5, .pointer (some ⟨go, 0, none⟩)), (18, .slice ak N cc), (19, .int .i64 N), (20, .int .i64 (j + 1 : Nat))] (jk s') → s'.mem = [(g2, cO4 op k s ak N cc), (g4, cO4 0 0 [] none 0 0), (go, cO4 op k s a'.va a'.j a'.vc)] → Goes Tryz.prog (bodyPost Tryz.prog Tryz.f73 R) (KI w a'.B a'.wf (.slice a'.va a'.j a'.vc) a'.j (flatV a'.us)) s') :
    Goes Tryz.prog (bodyPost Tryz.prog Tryz.f73 R) (KI w B wf (.slice va j vc) j (flatV us)) ⟨rwR0, fr 48 [(1, .slice (some ⟨b, 0, none⟩) kN 27), (2, .pointer (some ⟨g2, 0, none⟩)), (4, .pointer (some ⟨g4, 0, none⟩)), (5, .pointer (some ⟨go, 0, none⟩)), (18, .slice ak N cc), (19, .int .i64 N), (20, .int .i64 j), (7, .pointer (some ⟨g7, 0, none⟩))] J, [(g2, cO4 op k s ak N cc), (g4, cO4 0 0 [] none 0 0), (go, cO4 op k s va j vc), (g7, cO4 op1 k1 s1 a1 N1 cc1)]⟩ := by
  refine Goes.open [] ?_
  refine Goes.run [0, 3] [] trivial ?_
  refine Goes.three 1 2 6 ?_ ?_ ?_
  · refine TookS.run 1 2 ?_
    refine Goes.run [5] [] trivial ?_
    refine Goes.two 2 6 ?_ ?_
    · refine TookS.run 2 3 ?_
      refine Goes.two 4 6 ?_ ?_
      · refine TookS.call 4 73 #[cv op1 k1 s1 (.slice a1 N1 cc1), .slice (some ⟨b, 0, none⟩) kN 27] fun w1 hm1 hn1 hI1 => (hcall w1 hI1.now.bel).mono fun e w2 ⟨v2, he, hNv, hB12⟩ => ?_
        obtain ⟨op2, k2, s2, a2, n2, c2, rfl⟩ := hNv.cells
        have hP2 := hP.more hA hI1.now hB12 (by rw [hus]; exact hc1) hNv ⟨_, _, _, _, _, _, rfl⟩
        refine ⟨_, _, _, he, hm1.bel hB12, hn1, KI.call hI1 (holds_lt hm1) hB12, ?_⟩
        refine Goes.lone1 6 ?_
        refine TookS.newI 6 fun g30 => ?_
        refine Goes.at (K := rwK) (n := 48) (S := [(1, .slice (some ⟨b, 0, none⟩) kN 27), (2, .pointer (some ⟨g2, 0, none⟩)), (4, .pointer (some ⟨g4, 0, none⟩)), (5, .pointer (some ⟨go, 0, none⟩)), (18, .slice ak N cc), (19, .int .i64 N), (20, .int .i64 j), (25, .slice va j vc), (28, cv op2 k2 s2 (.slice a2 n2 c2)), (29, .int .i64 j), (30, .slice (some ⟨g30, 0, none⟩) 1 1)]) (m := [(g2, cO4 op k s ak N cc), (g4, cO4 0 0 [] none 0 0), (go, cO4 op k s va j vc), (g7, cO4 op1 k1 s1 a1 N1 cc1), (g30, .cells zero4.toArray 52 (0, 0))]) (fun J => ?_) ?_ ?_ ?_
        · exact rw_tail (by omega) hus hP2 (back2 _ _ _ (by simp [hus]) hP2)
        · kernel_rfl
        · kernel_rfl
        · kernel_rfl
      · refine TookS.newI 6 fun g30 => ?_
        refine Goes.lone1 4 ?_
        refine TookS.call 4 73 #[cv op1 k1 s1 (.slice a1 N1 cc1), .slice (some ⟨b, 0, none⟩) kN 27] fun w1 hm1 hn1 hI1 => (hcall w1 hI1.now.bel).mono fun e w2 ⟨v2, he, hNv, hB12⟩ => ?_
        obtain ⟨op2, k2, s2, a2, n2, c2, rfl⟩ := hNv.cells
        have hP2 := hP.more hA hI1.now hB12 (by rw [hus]; exact hc1) hNv ⟨_, _, _, _, _, _, rfl⟩
        refine ⟨_, _, _, he, hm1.bel hB12, hn1, KI.call hI1 (holds_lt hm1) hB12, ?_⟩
        refine Goes.at (K := rwK) (n := 48) (S := [(1, .slice (some ⟨b, 0, none⟩) kN 27), (2, .pointer (some ⟨g2, 0, none⟩)), (4, .pointer (some ⟨g4, 0, none⟩)), (5, .pointer (some ⟨go, 0, none⟩)), (18, .slice ak N cc), (19, .int .i64 N), (20, .int .i64 j), (25, .slice va j vc), (28, cv op2 k2 s2 (.slice a2 n2 c2)), (29, .int .i64 j), (30, .slice (some ⟨g30, 0, none⟩) 1 1)]) (m := [(g2, cO4 op k s ak N cc), (g4, cO4 0 0 [] none 0 0), (go, cO4 op k s va j vc), (g7, cO4 op1 k1 s1 a1 N1 cc1), (g30, .cells zero4.toArray 52 (0, 0))]) (fun J => ?_) ?_ ?_ ?_
        · exact rw_tail (by omega) hus hP2 (back2 _ _ _ (by simp [hus]) hP2)
        · kernel_rfl
        · kernel_rfl
        · kernel_rfl
    · refine TookS.newI 6 fun g30 => ?_
      refine Goes.lone1 2 ?_
      refine TookS.run 2 3 ?_
      refine Goes.lone1 4 ?_
      refine TookS.call 4 73 #[cv op1 k1 s1 (.slice a1 N1 cc1), .slice (some ⟨b, 0, none⟩) kN 27] fun w1 hm1 hn1 hI1 => (hcall w1 hI1.now.bel).mono fun e w2 ⟨v2, he, hNv, hB12⟩ => ?_
      obtain ⟨op2, k2, s2, a2, n2, c2, rfl⟩ := hNv.cells
      have hP2 := hP.more hA hI1.now hB12 (by rw [hus]; exact hc1) hNv ⟨_, _, _, _, _, _, rfl⟩
      refine ⟨_, _, _, he, hm1.bel hB12, hn1, KI.call hI1 (holds_lt hm1) hB12, ?_⟩
      refine Goes.at (K := rwK) (n := 48) (S := [(1, .slice (some ⟨b, 0, none⟩) kN 27), (2, .pointer (some ⟨g2, 0, none⟩)), (4, .pointer (some ⟨g4, 0, none⟩)), (5, .pointer (some ⟨go, 0, none⟩)), (18, .slice ak N cc), (19, .int .i64 N), (20, .int .i64 j), (25, .slice va j vc), (28, cv op2 k2 s2 (.slice a2 n2 c2)), (29, .int .i64 j), (30, .slice (some ⟨g30, 0, none⟩) 1 1)]) (m := [(g2, cO4 op k s ak N cc), (g4, cO4 0 0 [] none 0 0), (go, cO4 op k s va j vc), (g7, cO4 op1 k1 s1 a1 N1 cc1), (g30, .cells zero4.toArray 52 (0, 0))]) (fun J => ?_) ?_ ?_ ?_
      · exact rw_tail (by omega) hus hP2 (back2 _ _ _ (by simp [hus]) hP2)
      · kernel_rfl
      · kernel_rfl
      · kernel_rfl
  · refine TookS.run 2 3 ?_
    refine Goes.three 1 4 6 ?_ ?_ ?_
    · refine TookS.run 1 2 ?_
      refine Goes.run [5] [] trivial ?_
      refine Goes.two 4 6 ?_ ?_
      · refine TookS.call 4 73 #[cv op1 k1 s1 (.slice a1 N1 cc1), .slice (some ⟨b, 0, none⟩) kN 27] fun w1 hm1 hn1 hI1 => (hcall w1 hI1.now.bel).mono fun e w2 ⟨v2, he, hNv, hB12⟩ => ?_
        obtain ⟨op2, k2, s2, a2, n2, c2, rfl⟩ := hNv.cells
        have hP2 := hP.more hA hI1.now hB12 (by rw [hus]; exact hc1) hNv ⟨_, _, _, _, _, _, rfl⟩
        refine ⟨_, _, _, he, hm1.bel hB12, hn1, KI.call hI1 (holds_lt hm1) hB12, ?_⟩
        refine Goes.lone1 6 ?_
        refine TookS.newI 6 fun g30 => ?_
        refine Goes.at (K := rwK) (n := 48) (S := [(1, .slice (some ⟨b, 0, none⟩) kN 27), (2, .pointer (some ⟨g2, 0, none⟩)), (4, .pointer (some ⟨g4, 0, none⟩)), (5, .pointer (some ⟨go, 0, none⟩)), (18, .slice ak N cc), (19, .int .i64 N), (20, .int .i64 j), (25, .slice va j vc), (28, cv op2 k2 s2 (.slice a2 n2 c2)), (29, .int .i64 j), (30, .slice (some ⟨g30, 0, none⟩) 1 1)]) (m := [(g2, cO4 op k s ak N cc), (g4, cO4 0 0 [] none 0 0), (go, cO4 op k s va j vc), (g7, cO4 op1 k1 s1 a1 N1 cc1), (g30, .cells zero4.toArray 52 (0, 0))]) (fun J => ?_) ?_ ?_ ?_
        · exact rw_tail (by omega) hus hP2 (back2 _ _ _ (by simp [hus]) hP2)
        · kernel_rfl
        · kernel_rfl
        · kernel_rfl
      · refine TookS.newI 6 fun g30 => ?_
        refine Goes.lone1 4 ?_
        refine TookS.call 4 73 #[cv op1 k1 s1 (.slice a1 N1 cc1), .slice (some ⟨b, 0, none⟩) kN 27] fun w1 hm1 hn1 hI1 => (hcall w1 hI1.now.bel).mono fun e w2 ⟨v2, he, hNv, hB12⟩ => ?_
        obtain ⟨op2, k2, s2, a2, n2, c2, rfl⟩ := hNv.cells
        have hP2 := hP.more hA hI1.now hB12 (by rw [hus]; exact hc1) hNv ⟨_, _, _, _, _, _, rfl⟩
        refine ⟨_, _, _, he, hm1.bel hB12, hn1, KI.call hI1 (holds_lt hm1) hB12, ?_⟩
        refine Goes.at (K := rwK) (n := 48) (S := [(1, .slice (some ⟨b, 0, none⟩) kN 27), (2, .pointer (some ⟨g2, 0, none⟩)), (4, .pointer (some ⟨g4, 0, none⟩)), (5, .pointer (some ⟨go, 0, none⟩)), (18, .slice ak N cc), (19, .int .i64 N), (20, .int .i64 j), (25, .slice va j vc), (28, cv op2 k2 s2 (.slice a2 n2 c2)), (29, .int .i64 j), (30, .slice (some ⟨g30, 0, none⟩) 1 1)]) (m := [(g2, cO4 op k s ak N cc), (g4, cO4 0 0 [] none 0 0), (go, cO4 op k s va j vc), (g7, cO4 op1 k1 s1 a1 N1 cc1), (g30, .cells zero4.toArray 52 (0, 0))]) (fun J => ?_) ?_ ?_ ?_
        · exact rw_tail (by omega) hus hP2 (back2 _ _ _ (by simp [hus]) hP2)
        · kernel_rfl
        · kernel_rfl
        · kernel_rfl
    · refine TookS.call 4 73 #[cv op1 k1 s1 (.slice a1 N1 cc1), .slice (some ⟨b, 0, none⟩) kN 27] fun w1 hm1 hn1 hI1 => (hcall w1 hI1.now.bel).mono fun e w2 ⟨v2, he, hNv, hB12⟩ => ?_
      obtain ⟨op2, k2, s2, a2, n2, c2, rfl⟩ := hNv.cells
      have hP2 := hP.more hA hI1.now hB12 (by rw [hus]; exact hc1) hNv ⟨_, _, _, _, _, _, rfl⟩
      refine ⟨_, _, _, he, hm1.bel hB12, hn1, KI.call hI1 (holds_lt hm1) hB12, ?_⟩
      refine Goes.two 1 6 ?_ ?_
      · refine TookS.run 1 2 ?_
        refine Goes.run [5] [] trivial ?_
        refine Goes.lone1 6 ?_
        refine TookS.newI 6 fun g30 => ?_
        refine Goes.at (K := rwK) (n := 48) (S := [(1, .slice (some ⟨b, 0, none⟩) kN 27), (2, .pointer (some ⟨g2, 0, none⟩)), (4, .pointer (some ⟨g4, 0, none⟩)), (5, .pointer (some ⟨go, 0, none⟩)), (18, .slice ak N cc), (19, .int .i64 N), (20, .int .i64 j), (25, .slice va j vc), (28, cv op2 k2 s2 (.slice a2 n2 c2)), (29, .int .i64 j), (30, .slice (some ⟨g30, 0, none⟩) 1 1)]) (m := [(g2, cO4 op k s ak N cc), (g4, cO4 0 0 [] none 0 0), (go, cO4 op k s va j vc), (g7, cO4 op1 k1 s1 a1 N1 cc1), (g30, .cells zero4.toArray 52 (0, 0))]) (fun J => ?_) ?_ ?_ ?_
        · exact rw_tail (by omega) hus hP2 (back2 _ _ _ (by simp [hus]) hP2)
        · kernel_rfl
        · kernel_rfl
        · kernel_rfl
      · refine TookS.newI 6 fun g30 => ?_
        refine Goes.lone1 1 ?_
        refine TookS.run 1 2 ?_
        refine Goes.run [5] [] trivial ?_
        refine Goes.at (K := rwK) (n := 48) (S := [(1, .slice (some ⟨b, 0, none⟩) kN 27), (2, .pointer (some ⟨g2, 0, none⟩)), (4, .pointer (some ⟨g4, 0, none⟩)), (5, .pointer (some ⟨go, 0, none⟩)), (18, .slice ak N cc), (19, .int .i64 N), (20, .int .i64 j), (25, .slice va j vc), (28, cv op2 k2 s2 (.slice a2 n2 c2)), (29, .int .i64 j), (30, .slice (some ⟨g30, 0, none⟩) 1 1)]) (m := [(g2, cO4 op k s ak N cc), (g4, cO4 0 0 [] none 0 0), (go, cO4 op k s va j vc), (g7, cO4 op1 k1 s1 a1 N1 cc1), (g30, .cells zero4.toArray 52 (0, 0))]) (fun J => ?_) ?_ ?_ ?_
        · exact rw_tail (by omega) hus hP2 (back2 _ _ _ (by simp [hus]) hP2)
        · kernel_rfl
        · kernel_rfl
        · kernel_rfl
    · refine TookS.newI 6 fun g30 => ?_
      refine Goes.two 1 4 ?_ ?_
      · refine TookS.run 1 2 ?_
        refine Goes.run [5] [] trivial ?_
        refine Goes.lone1 4 ?_
        refine TookS.call 4 73 #[cv op1 k1 s1 (.slice a1 N1 cc1), .slice (some ⟨b, 0, none⟩) kN 27] fun w1 hm1 hn1 hI1 => (hcall w1 hI1.now.bel).mono fun e w2 ⟨v2, he, hNv, hB12⟩ => ?_
        obtain ⟨op2, k2, s2, a2, n2, c2, rfl⟩ := hNv.cells
        have hP2 := hP.more hA hI1.now hB12 (by rw [hus]; exact hc1) hNv ⟨_, _, _, _, _, _, rfl⟩
        refine ⟨_, _, _, he, hm1.bel hB12, hn1, KI.call hI1 (holds_lt hm1) hB12, ?_⟩
        refine Goes.at (K := rwK) (n := 48) (S := [(1, .slice (some ⟨b, 0, none⟩) kN 27), (2, .pointer (some ⟨g2, 0, none⟩)), (4, .pointer (some ⟨g4, 0, none⟩)), (5, .pointer (some ⟨go, 0, none⟩)), (18, .slice ak N cc), (19, .int .i64 N), (20, .int .i64 j), (25, .slice va j vc), (28, cv op2 k2 s2 (.slice a2 n2 c2)), (29, .int .i64 j), (30, .slice (some ⟨g30, 0, none⟩) 1 1)]) (m := [(g2, cO4 op k s ak N cc), (g4, cO4 0 0 [] none 0 0), (go, cO4 op k s va j vc), (g7, cO4 op1 k1 s1 a1 N1 cc1), (g30, .cells zero4.toArray 52 (0, 0))]) (fun J => ?_) ?_ ?_ ?_
        · exact rw_tail (by omega) hus hP2 (back2 _ _ _ (by simp [hus]) hP2)
        · kernel_rfl
        · kernel_rfl
        · kernel_rfl
      · refine TookS.call 4 73 #[cv op1 k1 s1 (.slice a1 N1 cc1), .slice (some ⟨b, 0, none⟩) kN 27] fun w1 hm1 hn1 hI1 => (hcall w1 hI1.now.bel).mono fun e w2 ⟨v2, he, hNv, hB12⟩ => ?_
        obtain ⟨op2, k2, s2, a2, n2, c2, rfl⟩ := hNv.cells
        have hP2 := hP.more hA hI1.now hB12 (by rw [hus]; exact hc1) hNv ⟨_, _, _, _, _, _, rfl⟩
        refine ⟨_, _, _, he, hm1.bel hB12, hn1, KI.call hI1 (holds_lt hm1) hB12, ?_⟩
        refine Goes.lone1 1 ?_
        refine TookS.run 1 2 ?_
        refine Goes.run [5] [] trivial ?_
        refine Goes.at (K := rwK) (n := 48) (S := [(1, .slice (some ⟨b, 0, none⟩) kN 27), (2, .pointer (some ⟨g2, 0, none⟩)), (4, .pointer (some ⟨g4, 0, none⟩)), (5, .pointer (some ⟨go, 0, none⟩)), (18, .slice ak N cc), (19, .int .i64 N), (20, .int .i64 j), (25, .slice va j vc), (28, cv op2 k2 s2 (.slice a2 n2 c2)), (29, .int .i64 j), (30, .slice (some ⟨g30, 0, none⟩) 1 1)]) (m := [(g2, cO4 op k s ak N cc), (g4, cO4 0 0 [] none 0 0), (go, cO4 op k s va j vc), (g7, cO4 op1 k1 s1 a1 N1 cc1), (g30, .cells zero4.toArray 52 (0, 0))]) (fun J => ?_) ?_ ?_ ?_
        · exact rw_tail (by omega) hus hP2 (back2 _ _ _ (by simp [hus]) hP2)
        · kernel_rfl
        · kernel_rfl
        · kernel_rfl
  · refine TookS.newI 6 fun g30 => ?_
    refine Goes.two 1 2 ?_ ?_
    · refine TookS.run 1 2 ?_
      refine Goes.run [5] [] trivial ?_
      refine Goes.lone1 2 ?_
      refine TookS.run 2 3 ?_
      refine Goes.lone1 4 ?_
      refine TookS.call 4 73 #[cv op1 k1 s1 (.slice a1 N1 cc1), .slice (some ⟨b, 0, none⟩) kN 27] fun w1 hm1 hn1 hI1 => (hcall w1 hI1.now.bel).mono fun e w2 ⟨v2, he, hNv, hB12⟩ => ?_
      obtain ⟨op2, k2, s2, a2, n2, c2, rfl⟩ := hNv.cells
      have hP2 := hP.more hA hI1.now hB12 (by rw [hus]; exact hc1) hNv ⟨_, _, _, _, _, _, rfl⟩
      refine ⟨_, _, _, he, hm1.bel hB12, hn1, KI.call hI1 (holds_lt hm1) hB12, ?_⟩
      refine Goes.at (K := rwK) (n := 48) (S := [(1, .slice (some ⟨b, 0, none⟩) kN 27), (2, .pointer (some ⟨g2, 0, none⟩)), (4, .pointer (some ⟨g4, 0, none⟩)), (5, .pointer (some ⟨go, 0, none⟩)), (18, .slice ak N cc), (19, .int .i64 N), (20, .int .i64 j), (25, .slice va j vc), (28, cv op2 k2 s2 (.slice a2 n2 c2)), (29, .int .i64 j), (30, .slice (some ⟨g30, 0, none⟩) 1 1)]) (m := [(g2, cO4 op k s ak N cc), (g4, cO4 0 0 [] none 0 0), (go, cO4 op k s va j vc), (g7, cO4 op1 k1 s1 a1 N1 cc1), (g30, .cells zero4.toArray 52 (0, 0))]) (fun J => ?_) ?_ ?_ ?_
      · exact rw_tail (by omega) hus hP2 (back2 _ _ _ (by simp [hus]) hP2)
      · kernel_rfl
      · kernel_rfl
      · kernel_rfl
    · refine TookS.run 2 3 ?_
      refine Goes.two 1 4 ?_ ?_
      · refine TookS.run 1 2 ?_
        refine Goes.run [5] [] trivial ?_
        refine Goes.lone1 4 ?_
        refine TookS.call 4 73 #[cv op1 k1 s1 (.slice a1 N1 cc1), .slice (some ⟨b, 0, none⟩) kN 27] fun w1 hm1 hn1 hI1 => (hcall w1 hI1.now.bel).mono fun e w2 ⟨v2, he, hNv, hB12⟩ => ?_
        obtain ⟨op2, k2, s2, a2, n2, c2, rfl⟩ := hNv.cells
        have hP2 := hP.more hA hI1.now hB12 (by rw [hus]; exact hc1) hNv ⟨_, _, _, _, _, _, rfl⟩
        refine ⟨_, _, _, he, hm1.bel hB12, hn1, KI.call hI1 (holds_lt hm1) hB12, ?_⟩
        refine Goes.at (K := rwK) (n := 48) (S := [(1, .slice (some ⟨b, 0, none⟩) kN 27), (2, .pointer (some ⟨g2, 0, none⟩)), (4, .pointer (some ⟨g4, 0, none⟩)), (5, .pointer (some ⟨go, 0, none⟩)), (18, .slice ak N cc), (19, .int .i64 N), (20, .int .i64 j), (25, .slice va j vc), (28, cv op2 k2 s2 (.slice a2 n2 c2)), (29, .int .i64 j), (30, .slice (some ⟨g30, 0, none⟩) 1 1)]) (m := [(g2, cO4 op k s ak N cc), (g4, cO4 0 0 [] none 0 0), (go, cO4 op k s va j vc), (g7, cO4 op1 k1 s1 a1 N1 cc1), (g30, .cells zero4.toArray 52 (0, 0))]) (fun J => ?_) ?_ ?_ ?_
        · exact rw_tail (by omega) hus hP2 (back2 _ _ _ (by simp [hus]) hP2)
        · kernel_rfl
        · kernel_rfl
        · kernel_rfl
      · refine TookS.call 4 73 #[cv op1 k1 s1 (.slice a1 N1 cc1), .slice (some ⟨b, 0, none⟩) kN 27] fun w1 hm1 hn1 hI1 => (hcall w1 hI1.now.bel).mono fun e w2 ⟨v2, he, hNv, hB12⟩ => ?_
        obtain ⟨op2, k2, s2, a2, n2, c2, rfl⟩ := hNv.cells
        have hP2 := hP.more hA hI1.now hB12 (by rw [hus]; exact hc1) hNv ⟨_, _, _, _, _, _, rfl⟩
        refine ⟨_, _, _, he, hm1.bel hB12, hn1, KI.call hI1 (holds_lt hm1) hB12, ?_⟩
        refine Goes.lone1 1 ?_
        refine TookS.run 1 2 ?_
        refine Goes.run [5] [] trivial ?_
        refine Goes.at (K := rwK) (n := 48) (S := [(1, .slice (some ⟨b, 0, none⟩) kN 27), (2, .pointer (some ⟨g2, 0, none⟩)), (4, .pointer (some ⟨g4, 0, none⟩)), (5, .pointer (some ⟨go, 0, none⟩)), (18, .slice ak N cc), (19, .int .i64 N), (20, .int .i64 j), (25, .slice va j vc), (28, cv op2 k2 s2 (.slice a2 n2 c2)), (29, .int .i64 j), (30, .slice (some ⟨g30, 0, none⟩) 1 1)]) (m := [(g2, cO4 op k s ak N cc), (g4, cO4 0 0 [] none 0 0), (go, cO4 op k s va j vc), (g7, cO4 op1 k1 s1 a1 N1 cc1), (g30, .cells zero4.toArray 52 (0, 0))]) (fun J => ?_) ?_ ?_ ?_
        · exact rw_tail (by omega) hus hP2 (back2 _ _ _ (by simp [hus]) hP2)
        · kernel_rfl
        · kernel_rfl
        · kernel_rfl
set_option maxRecDepth 100000 in
seal rn rnN rnS Goes ans atEnd put0 putM opened openedY putA0 putA oneSt st0 keep put newOS rwK rwHead rwFix rwR0 in
theorem rewrite_new {rs : List Rl} (hrs : ∀ r ∈ rs, r ∈ rulesP) (c : Co) : RwNew rs c := by
  induction c using Co.ind with
  | h op k s kids ih =>
  intro z d v w A b kN hz hok hA hN hR hT
  have hF : ∀ x, F0 x → x < w.heap.size := fun x hx => hx.elim
  have hok2 := (rw_kids (rs := rs) hz (fun c _ => rw_good hrs c) hok).1.ok
  have h3 := ok_three hz hok
  obtain ⟨ak, cc, rfl, hfit, hcap, hkids⟩ := hN.open
  obtain ⟨N, hL⟩ : ∃ N, kids.length = N := ⟨_, rfl⟩
  rw [hL] at hcap h3 ⊢
  refine Goes.begin Tryz.func73 [] (fun _ => True) Holds.nil (by simp [Mem.ids]) (fun _ _ => trivial) ?_
  refine Goes.run3 [0, 0, 0, 2, 0] [] trivial fun g2 g4 go => ?_
  refine Goes.loop (α := KSt) 48 (fun a => [(1, .slice (some ⟨b, 0, none⟩) kN 27), (2, .pointer (some ⟨g2, 0, none⟩)), (4, .pointer (some ⟨g4, 0, none⟩)), (5, .pointer (some ⟨go, 0, none⟩)), (18, .slice ak N cc), (19, .int .i64 N), (20, .int .i64 a.j)]) (fun a => [(g2, cO4 op k s ak N cc), (g4, cO4 0 0 [] none 0 0), (go, cO4 op k s a.va a.j a.vc)]) (fun a w' => KI w a.B a.wf (.slice a.va a.j a.vc) a.j (flatV a.us) w') (fun a => a.us.length = a.j ∧ a.j ≤ N ∧ KPr w F0 rs kids a.us a.B a.wf) (fun a => N - a.j) ⟨0, none, 0, [], fun _ => False, w⟩ ⟨rfl, Nat.zero_le _, ⟨fun _ _ => rfl, by simp, by simp⟩⟩ (fun w' hI => ⟨hI.1, w'.ownsRow_nil _ _ _, fun x hx => hx.elim, fun r hr => by cases hr⟩) ?_
  rintro ⟨j, va, vc, us, B, wf⟩ J ⟨hus, hjN, hP⟩ back
  replace hus : us.length = j := hus
  replace hjN : j ≤ N := hjN
  replace hP : KPr w F0 rs kids us B wf := hP
  show Goes _ _ (KI w B wf (.slice va j vc) j (flatV us)) ⟨_, fr 48 [(1, .slice (some ⟨b, 0, none⟩) kN 27), (2, .pointer (some ⟨g2, 0, none⟩)), (4, .pointer (some ⟨g4, 0, none⟩)), (5, .pointer (some ⟨go, 0, none⟩)), (18, .slice ak N cc), (19, .int .i64 N), (20, .int .i64 j)] J, [(g2, cO4 op k s ak N cc), (g4, cO4 0 0 [] none 0 0), (go, cO4 op k s va j vc)]⟩
  cases hlt : decide ((j : Int) < (N : Int)) with
  | true =>
    have hjl : j < N := by have := of_decide_eq_true hlt; omega
    have back2 : ∀ (us' : List Value) (B2 : Nat → Prop) (wf2 : World), us'.length = j + 1 → KPr w F0 rs kids us' B2 wf2 → ∀ (a' : KSt) (s' : St), a'.j = j + 1 → a'.us = us' → a'.B = B2 → a'.wf = wf2 → s'.todo = rwHead → s'.tmps = fr 48 [(1, .slice (some ⟨b, 0, none⟩) kN 27), (2, .pointer (some ⟨g2, 0, none⟩)), (4, .pointer (some ⟨g4, 0, none⟩)), (5, .pointer (some ⟨go, 0, none⟩)), (18, .slice ak N cc), (19, .int .i64 N), (20, .int .i64 (j + 1 : Nat))] (jk s') → s'.mem = [(g2, cO4 op k s ak N cc), (g4, cO4 0 0 [] none 0 0), (go, cO4 op k s a'.va a'.j a'.vc)] → Goes Tryz.prog (bodyPost Tryz.prog Tryz.f73 (RwR w F0 (rwP rs (.mk op k s kids)))) (KI w a'.B a'.wf (.slice a'.va a'.j a'.vc) a'.j (flatV a'.us)) s' := by
      rintro us' B2 wf2 hl2 hP2 ⟨j', va', vc', us1, B1, wf1⟩ s' e1 e2 e3 e4 h1 h2 h3'
      simp only at e1 e2 e3 e4
      subst e1 e2 e3 e4
      exact back ⟨j + 1, va', vc', us1, B1, wf1⟩ s' ⟨hl2, by show j + 1 ≤ N; omega, hP2⟩ (by show N - (j + 1) < N - j; omega) (h1.trans (by kernel_rfl)) h2 h3'
    obtain ⟨c1, hc1⟩ : ∃ c1, kids[j]? = some c1 := ⟨kids[j]'(by omega), by simp⟩
    obtain ⟨zx, hzx, hokx⟩ := ok_kid hz hok hc1
    refine Goes.run [0, 1] [(decide ((j : Int) < (N : Int)), true)] ⟨hlt, trivial⟩ ?_
    obtain ⟨bk, ok, u1, hak, hbk', hcl, hNu⟩ := hkids j c1 hc1
    have hbk := hA _ hbk'
    obtain ⟨op1, k1, s1, a1, N1, cc1, rfl⟩ := hNu.cells
    have hcall : ∀ w1, Below w.heap.size w w1 → Calls Tryz.prog 73 #[cv op1 k1 s1 (.slice a1 N1 cc1), .slice (some ⟨b, 0, none⟩) kN 27] w1 (RwR w1 F0 (rwP rs c1)) := fun w1 hB => ih c1 (List.mem_of_getElem? hc1) zx (d + 1) _ w1 A b kN hzx hokx (fun x hx => Nat.lt_of_lt_of_le (hA x hx) hB.size) (hNu.bel hA hB) (hR.later hB) (hT.below hB)
    refine Goes.val (Instr.indexAt 50 (.slice ak N cc) (.int .i64 j)) (.pointer (some ⟨bk, ok + j * 4, none⟩)) (fun w' _ _ => by rw [hak]; exact idxC bk ok N cc j hjl w') ?_
    refine Goes.val (Instr.loadAt 52 (.pointer (some ⟨bk, ok + j * 4, none⟩))) (cv op1 k1 s1 (.slice a1 N1 cc1)) (fun w' hm hI => loadC (hcl.below hbk hI.now.bel)) ?_
    refine Goes.run1 [3] [] trivial fun g7 => ?_
    refine Goes.at (K := rwR0) (n := 48) (S := [(1, .slice (some ⟨b, 0, none⟩) kN 27), (2, .pointer (some ⟨g2, 0, none⟩)), (4, .pointer (some ⟨g4, 0, none⟩)), (5, .pointer (some ⟨go, 0, none⟩)), (18, .slice ak N cc), (19, .int .i64 N), (20, .int .i64 j), (7, .pointer (some ⟨g7, 0, none⟩))]) (m := [(g2, cO4 op k s ak N cc), (g4, cO4 0 0 [] none 0 0), (go, cO4 op k s va j vc), (g7, cO4 op1 k1 s1 a1 N1 cc1)]) (fun J => ?_) ?_ ?_ ?_
    · exact rw_kid hF (by omega) hus hP hc1 hcall back2
    · kernel_rfl
    · kernel_rfl
    · kernel_rfl
  | false =>
    have hjN' : j = N := by have := of_decide_eq_false hlt; omega
    refine Goes.run [0, 0] [(decide ((j : Int) < (N : Int)), false)] ⟨hlt, trivial⟩ ?_
    refine Goes.here (fun w1 => KI w (fun x => B x ∨ (Value.slice va j vc).ownBlock = some x) w1 (.slice none 0 0) 0 []) fun w1 hm1 hn1 hI1 => ⟨KI.rest hI1 (holds_lt hm1), ?_⟩
    have hk1 := hI1.now
    have hrl : (rwL rs kids).length = N := by rw [rwL_len, hL]
    have hN1 : NcS (fun x => F0 x ∨ (B x ∨ (Value.slice va j vc).ownBlock = some x)) w1 (cv op k s (.slice va N vc)) (.mk op k s (rwL rs kids)) := by
      have hold : ∀ x, F0 x ∨ B x → w1.heap[x]? = wf.heap[x]? := fun x hx => by
        rcases hx with hx | hx
        · rw [hP.old x hx, hk1.bel.block x (hF x hx)]
        · exact (hk1.stay x hx).1
      have hcp : N ≤ vc ∧ vc ≤ 9223372036854775807 := by
        rcases hk1.row.2 with ⟨e, h0⟩ | ⟨g, cap, cur, e, -, -, h1, h2, -⟩
        · cases e; omega
        · cases e; exact ⟨by omega, by unfold maxLen at h2; omega⟩
      rw [← hrl] at hcp ⊢
      refine .mk op k s (rwL rs kids) va vc (fun i => us.getD i undef) hfit hcp (fun i hi => ?_) (fun i t ht => ?_)
      · obtain ⟨u, hu⟩ : ∃ u, us[i]? = some u := ⟨us[i]'(by omega), by simp⟩
        obtain ⟨o3, k3, s3, a3, n3, c3, rfl⟩ := hP.four u (List.mem_of_getElem? hu)
        have hjpos : 0 < j := by have := (List.getElem?_eq_some_iff.1 hu).1; omega
        rcases hk1.row.2 with ⟨-, h0⟩ | ⟨g, cap, cur, e, -, -⟩
        · omega
        · cases e
          have hrow := hk1.row
          refine ⟨g, 0, rfl, .inr (.inr rfl), ⟨o3, k3, s3, .slice a3 n3 c3, by simp [List.getD, hu], ?_, ?_, ?_, ?_⟩⟩
          · have := row_cell hrow (flatV_at hP.len4 hu (j := 0) (v := .int .i64 o3) rfl); simpa using this
          · have := row_cell hrow (flatV_at hP.len4 hu (j := 1) (v := .int .i64 k3) rfl); simpa using this
          · have := row_cell hrow (flatV_at hP.len4 hu (j := 2) (v := strV s3) rfl); simpa using this
          · have := row_cell hrow (flatV_at hP.len4 hu (j := 3) (v := .slice a3 n3 c3) rfl); simpa using this
      · obtain ⟨c1, hc1⟩ : ∃ c1, kids[i]? = some c1 := by
          have := (List.getElem?_eq_some_iff.1 ht).1
          exact ⟨kids[i]'(by omega), by simp⟩
        rw [rwL_at rs hc1] at ht
        cases ht
        obtain ⟨u, hu⟩ : ∃ u, us[i]? = some u := ⟨us[i]'(by have := (List.getElem?_eq_some_iff.1 hc1).1; omega), by simp⟩
        have e : us.getD i undef = u := by simp [List.getD, hu]
        rw [e]
        exact ((hP.kids i u c1 hu hc1).later hold).mono fun x hx => hx.elim .inl fun hx => .inr (.inl hx)
    refine Goes.loop (α := FSt) 48 (fun _ => [(1, .slice (some ⟨b, 0, none⟩) kN 27), (2, .pointer (some ⟨g2, 0, none⟩)), (4, .pointer (some ⟨g4, 0, none⟩)), (5, .pointer (some ⟨go, 0, none⟩))])
      (fun f => [(g2, cO4 op k s ak N cc), (g4, cO4 0 0 [] none 0 0), (go, cO4 f.op f.k f.s f.a f.n f.cc)]) (fun f w' => KI w f.B f.wf (.slice none 0 0) 0 [] w')
      (fun f => okT z d f.c = true ∧ fixP rs f.c = rwP rs (.mk op k s kids) ∧ f.kids.length = f.n ∧ NcS (fun x => F0 x ∨ f.B x) f.wf (cv f.op f.k f.s (.slice f.a f.n f.cc)) f.c ∧ ∀ x, F0 x → f.wf.heap[x]? = w.heap[x]?) (fun f => (mu f.c).toNat)
      ⟨op, k, s, rwL rs kids, va, j, vc, fun x => B x ∨ (Value.slice va j vc).ownBlock = some x, w1⟩ ⟨hok2, by rw [rwP], by show (rwL rs kids).length = j; omega, by show NcS _ w1 (cv op k s (.slice va j vc)) _; rw [hjN'] at hN1 ⊢; exact hN1, fun x hx => hk1.bel.block x (hF x hx)⟩ (fun w' h => h) ?_
    clear hN1 hk1 hI1 hm1 hn1 w1 back hP
    rintro ⟨op', k', s', kids', a', n', cc', B', wf'⟩ J ⟨hok', hfix, hn', hNc, hAw⟩ back
    replace hok' : okT z d (.mk op' k' s' kids') = true := hok'
    replace hfix : fixP rs (.mk op' k' s' kids') = rwP rs (.mk op k s kids) := hfix
    replace hn' : kids'.length = n' := hn'
    replace hNc : NcS (fun x => F0 x ∨ B' x) wf' (cv op' k' s' (.slice a' n' cc')) (.mk op' k' s' kids') := hNc
    replace hAw : ∀ x, F0 x → wf'.heap[x]? = w.heap[x]? := hAw
    show Goes _ _ (KI w B' wf' (.slice none 0 0) 0 []) ⟨_, fr 48 [(1, .slice (some ⟨b, 0, none⟩) kN 27), (2, .pointer (some ⟨g2, 0, none⟩)), (4, .pointer (some ⟨g4, 0, none⟩)), (5, .pointer (some ⟨go, 0, none⟩))] J, [(g2, cO4 op k s ak N cc), (g4, cO4 0 0 [] none 0 0), (go, cO4 op' k' s' a' n' cc')]⟩
    have now : ∀ {w1 : World}, KI w B' wf' (.slice none 0 0) 0 [] w1 → NcS (fun x => F0 x ∨ B' x) w1 (cv op' k' s' (.slice a' n' cc')) (.mk op' k' s' kids') ∧ ∀ x, (F0 x ∨ B' x) → x < w1.heap.size := fun {w1} hI => by
      refine ⟨hNc.later fun x hx => ?_, fun x hx => ?_⟩
      · rcases hx with hx | hx
        · rw [hAw x hx, hI.bel.block x (hF x hx)]
        · exact (hI.stay x hx).1
      · rcases hx with hx | hx
        · exact Nat.lt_of_lt_of_le (hF x hx) hI.ch.size
        · exact (hI.stay x hx).2.2.lt
    have hDom : Dom (.mk op' k' s' kids') := ⟨z, d, hz, hok'⟩
    refine Goes.run [0] [] trivial ?_
    refine Goes.call 123 #[.slice (some ⟨b, 0, none⟩) kN 27, .func (.func 124) #[] #[.pointer (some ⟨go, 0, none⟩)]] fun w1 hm1 hn1 hI1 => (first_any (op := op') (k := k') (s := s') (a := a') (N := n') (cc := cc') (fun j b o hj => by match j, hj with | 0, hj => cases hj; exact hm1.get 2) (hR.later hI1.now.bel) hDom ((now hI1.now).1.toN (now hI1.now).2)).mono fun e w2 ⟨hc, hB12⟩ => ?_
    rcases hc with ⟨r, x, hf, hx, rfl⟩ | ⟨hf, rfl⟩
    · obtain ⟨hrin, hfit2⟩ := found_in hf
      obtain ⟨hst, hok4, hmu⟩ := fix_step hrs hz hok' hf
      have hM1 : Holds [(g2, cO4 op k s ak N cc), (g4, cO4 0 0 [] none 0 0), (go, cO4 op' k' s' a' n' cc')] w1 := fun j b o hj => by
        match j, hj with
        | 0, hj => cases hj; exact hm1.get 0
        | 1, hj => cases hj; exact hm1.get 1
        | 2, hj => cases hj; exact hm1.get 2
      refine ⟨_, fun w' => KI w B' wf' (.slice none 0 0) 0 [] w' ∧ Ch [g2, g4, go] w1 w', _, rfl, hm1.bel hB12, hn1, (hI1.bel hB12).and (fun w' hc => Ch.trans ⟨hB12.os, hB12.tape, hB12.output, hB12.size, fun i hi _ => hB12.block i hi⟩ hc (fun x hx => .inl (mem_eq hx))), ?_⟩
      refine Goes.run1 [3, 0, 3, 2] [(false, false)] ⟨rfl, trivial⟩ fun g8 => ?_
      refine Goes.callV x.g #[] #[cv op' k' s' (.slice a' n' cc')] x.gc hx.makes.1 fun w3 hm3 hn3 hI3 => ?_
      have hB13 : Below w1.heap.size w1 w3 := below_end hM1 hI3.now.2 hm3 (by kernel_rfl)
      refine (hx.makes.2 w3 hB13 (hT.below hI3.now.1.bel) _ _ (fun x => F0 x ∨ B' x) (now hI3.now.1).2 hDom hfit2 (now hI3.now.1).1).mono fun e w4 ⟨v4, he, hN4, hB34⟩ => ?_
      obtain ⟨op4, k4, s4, kids4, hc4⟩ : ∃ op4 k4 s4 kids4, r.becomes (.mk op' k' s' kids') = .mk op4 k4 s4 kids4 := by
        cases r.becomes (.mk op' k' s' kids') with
        | mk a b c d => exact ⟨a, b, c, d, rfl⟩
      rw [hc4] at hN4 hst hok4 hmu
      obtain ⟨a4, cc4, rfl, -, -, -⟩ := hN4.open
      refine ⟨_, _, _, he, hm3.bel hB34, hn3, KI.call (hI3.mono fun w' h => h.1) (holds_lt hm3) hB34, ?_⟩
      obtain ⟨n4, hn4⟩ : ∃ n4, kids4.length = n4 := ⟨_, rfl⟩
      rw [hn4] at hN4 ⊢
      refine Goes.run [2] [] trivial ?_
      refine Goes.keep 3 ?_
      exact back ⟨op4, k4, s4, kids4, a4, n4, cc4, fun x => B' x ∨ New w3 w4 x, w4⟩ _ ⟨hok4, hst.symm.trans hfix, hn4, hN4.mono fun x hx => by
        rcases hx with (hx | hx) | hx
        · exact .inl hx
        · exact .inr (.inl hx)
        · exact .inr (.inr hx), fun x hx => by
        rw [hB34.block x (Nat.lt_of_lt_of_le (hF x hx) hI3.now.1.ch.size), hI3.now.1.bel.block x (hF x hx)]⟩ hmu (Eq.trans (b := rwFix) (by kernel_rfl) (by kernel_rfl)) (by kernel_rfl) (by kernel_rfl)
    · refine ⟨_, _, _, rfl, hm1.bel hB12, hn1, hI1.bel hB12, ?_⟩
      refine Goes.run1 [3, 1, 2, 1] [(true, true)] ⟨rfl, trivial⟩ fun g8 => ?_
      refine Goes.ret [1] (cv op' k' s' (.slice a' n' cc')) fun w' hm hI => ⟨_, rfl, ?_, hI.now.bel⟩
      rw [← hfix, fix_none hf]
      refine (now hI.now).1.mono fun x hx => ?_
      rcases hx with hx | hx
      · exact .inl hx
      · exact .inr ⟨⟨(hI.now.stay x hx).2.1, (hI.now.stay x hx).2.2.lt⟩, (hI.now.stay x hx).2.2⟩
end Go.Proofs.YtddbiiejilcbbaaGreatDoor
namespace Go.Proofs.YtddbiiejilcbbaaGreatDoor
open Go Go.RowKit

/-- Are passes none? -/
def badP (n : Int) : Bool := !(IntKind.i64.wrap ((BitVec.ofInt 64 n &&& ~~~(BitVec.ofInt 64 15)).toNat : Nat) == 0)
theorem rules_sub (n : Int) : ∀ r ∈ rulesN n, r ∈ rulesP := fun _ hr => (List.mem_filter.1 hr).1
theorem chk_ok {c : Co} (h : (chkP c == 0) = true) : okT 4 1 c = true ∧ szC c ≤ 2000 ∧ ahC c = false := by
  have h := eq_of_beq h
  cases h4 : isOfP 4 c with
  | false => rw [chk_no h4] at h; cases h
  | true =>
    rw [chk_yes h4] at h
    have := (isOfP_eq 4 c).1 h4
    refine ⟨this.1, this.2, ?_⟩
    cases ha : ahC c with
    | false => rfl
    | true => rw [ha] at h; cases h
/-- What passes make of a contract. -/
noncomputable def doP (c : Co) (n : Int) : Option Co := bif badP n || !(chkP c == 0) then none else some (rwP (rulesN n) c)
/-- What is answered. -/
def DoR (w : World) (A : Nat → Prop) (r : Option Co) (e : Ending) (w' : World) : Prop := (match r with
  | none => e = .returned (.tuple #[cv 0 0 [] (.slice none 0 0), .int .i64 160])
  | some t => ∃ v', e = .returned (.tuple #[v', .int .i64 0]) ∧ NcS (Since A w w') w' v' t) ∧ Below w.heap.size w w'
set_option maxRecDepth 100000 in
seal rn rnN rnS Goes ans atEnd put0 putM opened openedY putA0 putA oneSt st0 keep put in
theorem do_new {c : Co} {v : Value} {w : World} {A : Nat → Prop} (n : Int) (hA : ∀ x, A x → x < w.heap.size) (hN : NcS A w v c) (hT : Tab w) : Calls Tryz.prog 41 #[v, .int .i64 n] w (DoR w F0 (doP c n)) := by
  obtain ⟨op, k, s, kids⟩ := c
  obtain ⟨ak, cc, rfl, -, -, -⟩ := hN.open
  obtain ⟨N, hL⟩ : ∃ N, kids.length = N := ⟨_, rfl⟩
  rw [hL] at hN ⊢
  refine Goes.begin Tryz.func41 [] (fun _ => True) Holds.nil (by simp [Mem.ids]) (fun _ _ => trivial) ?_
  cases hb : badP n with
  | true =>
    refine Goes.run2 [1, 1, 1] [(true, true), (badP n, true)] ⟨rfl, hb, trivial⟩ fun g2 g4 => ?_
    exact Goes.ret [1] (.tuple #[cv 0 0 [] (.slice none 0 0), .int .i64 160]) fun w' hm hI => ⟨by unfold doP; rw [hb]; rfl, bel0 hI⟩
  | false =>
    refine Goes.run2 [0, 0] [(badP n, false)] ⟨hb, trivial⟩ fun g2 g4 => ?_
    refine Goes.call0 72 #[cv op k s (.slice ak N cc)] (.int .i64 (chkP (.mk op k s kids))) (fun w' hm hI => check_any ((hN.bel hA (bel0 hI)).toN fun x hx => Nat.lt_of_lt_of_le (hA x hx) (bel0 hI).size)) ?_
    cases hc : (chkP (.mk op k s kids) == 0) with
    | false =>
      refine Goes.run [1, 1] [(!(chkP (.mk op k s kids) == 0), true)] ⟨by rw [hc]; rfl, trivial⟩ ?_
      exact Goes.ret [1] (.tuple #[cv 0 0 [] (.slice none 0 0), .int .i64 160]) fun w' hm hI => ⟨by unfold doP; rw [hb, hc]; rfl, bel0 hI⟩
    | true =>
      obtain ⟨hok, -, -⟩ := chk_ok hc
      refine Goes.run [0] [(!(chkP (.mk op k s kids) == 0), false)] ⟨by rw [hc]; rfl, trivial⟩ ?_
      refine Goes.open [0] ?_
      refine Goes.run [0, 0, 1] [] trivial ?_
      refine Goes.lone1 2 (TookS.callM 2 74 #[.int .i64 n] fun w1 hm1 hn1 hI1 h01 => (rulesOf_any n w1).mono fun e w2 ⟨kN, b, he, hR, hB12⟩ => ⟨_, fun w' => Ch [] w w' ∧ Ch [g2, g4] w2 w', _, he, h01.bel hB12, hm1.bel hB12, hn1, fun w3 hc3 => ⟨((hI1.bel hB12) w3 hc3).1, hc3.mono fun x hx => mem_eq hx⟩, ?_⟩)
      have hM2 : Holds [(g2, cO4 op k s ak N cc), (g4, cO4 0 0 [] none 0 0)] w2 := fun j b o hj => by
        match j, hj with
        | 0, hj => cases hj; exact (hm1.bel hB12).get 0
        | 1, hj => cases hj; exact (hm1.bel hB12).get 1
      refine Goes.lone1 3 (TookS.callM 3 73 #[cv op k s (.slice ak N cc), .slice (some ⟨b, 0, none⟩) kN 27] fun w3 hm3 hn3 hI3 h03 => ?_)
      have hB03 : Below w.heap.size w w3 := hI3.now.1.toB (fun x hx => by cases hx)
      refine (rewrite_new (rules_sub n) (.mk op k s kids) 4 1 (cv op k s (.slice ak N cc)) w3 A b kN (by unfold tyOk; omega) hok (fun x hx => Nat.lt_of_lt_of_le (hA x hx) hB03.size) (hN.bel hA hB03) (hR.later (below_end hM2 hI3.now.2 hm3 (by kernel_rfl))) (hT.below hB03)).mono fun e w4 ⟨v4, he4, hN4, hB34⟩ => ?_
      obtain ⟨op4, k4, s4, a4, n4, c4, rfl⟩ := hN4.cells
      refine ⟨_, fun w' => Ch [] w w' ∧ Ch [g2, g4] w4 w', _, he4, h03.bel hB34, hm3.bel hB34, hn3, fun w5 hc5 => ⟨((hI3.bel hB34) w5 hc5).1, hc5.mono fun x hx => mem_eq hx⟩, ?_⟩
      have hk3 : ∀ x ∈ [g2, g4], w.heap.size ≤ x ∧ x < w3.heap.size := fun x hx => ⟨fresh_of (L := []) (Q := fun _ => True) (hI3.mono fun w' h => ⟨h.1, trivial⟩) (mem_eq hx) (by simp), holds_lt hm3 x (mem_eq hx)⟩
      refine Goes.oneA 4 1 [0] ?_
      refine Goes.run [5] [] trivial ?_
      refine Goes.ret [1] (.tuple #[cv op4 k4 s4 (.slice a4 n4 c4), .int .i64 0]) fun w' hm hI => ⟨?_, hI.now.1.toB (fun x hx => by cases hx)⟩
      unfold doP
      rw [hb, hc]
      refine ⟨_, rfl, (hN4.later fun x hx => ?_).mono fun x hx => ?_⟩
      · refine hI.now.2.block x ?_ fun hm => ?_
        · exact (hx.resolve_left id).1.2
        · have := hk3 x hm
          have := (hx.resolve_left id).1
          omega
      · have := hx.resolve_left id
        have he := hI.now.2.block x this.1.2 fun hm => by have h3 := (hk3 x hm).2; have h4 := this.1.1; omega
        exact .inr ⟨⟨Nat.le_trans hB03.size this.1.1, Nat.lt_of_lt_of_le this.1.2 hI.now.2.size⟩, this.2.same he⟩
theorem do_any {c : Co} {v : Value} {w : World} {A : Nat → Prop} (n : Int) (hA : ∀ x, A x → x < w.heap.size) (hN : NcS A w v c) (hT : Tab w) : Calls Tryz.prog 41 #[v, .int .i64 n] w (DoR w A (doP c n)) := (do_new n hA hN hT).mono fun e w' ⟨h1, h2⟩ => by
  refine ⟨?_, h2⟩
  cases hd : doP c n with
  | none => rw [hd] at h1; exact h1
  | some t =>
    rw [hd] at h1
    obtain ⟨v', e1, h3⟩ := h1
    exact ⟨v', e1, h3.mono fun _ hx => .inr (hx.resolve_left id)⟩
end Go.Proofs.YtddbiiejilcbbaaGreatDoor
namespace Go.Proofs.YtddbiiejilcbbaaGreatDoor
open Go Go.RowKit

theorem fit24 {A : Nat → Prop} (w : World) : NcS A w (cv 24 0 [69, 85, 82] (.slice none 0 0)) (.mk 24 0 [69, 85, 82] []) := .mk 24 0 [69, 85, 82] [] none 0 (fun _ => undef) ⟨by omega, by omega, by simp⟩ ⟨by simp, by omega⟩ (fun i hi => by simp at hi) (fun i t ht => by simp at ht)
end Go.Proofs.YtddbiiejilcbbaaGreatDoor
namespace Go.Proofs.YtddbiiejilcbbaaGreatDoor
open Go Go.RowKit

/-- Blocks of a frame, of other types. -/
def LocI (w : World) (loc : Mem) : Prop := ∀ q ∈ loc, w.heap.size ≤ q.1 ∧ ∃ c e z, q.2 = .cells c e z ∧ e ≠ 72 ∧ e ≠ 96
section
variable {P : Program} {F : Exit → Act → World → Prop} {s : St} {n0 g : Nat} {rg : Int} {wv tv v v1 : Value} {sh : Bool} {xs : List Ik} {w : World}
theorem mq_next {loc : Mem} (hloc : LocI w loc) {m : Mem} (hmem : m = (g, mO rg wv v1 tv sh) :: loc) {w1 w2 : World} (hm : Holds m w1) (hI : InI n0 g w v v1 xs w1) {v2 : Value} {ys : List Ik} (hg2 : w2.heap[g]? = some (mO rg wv v2 tv sh)) (hA : InI n0 g w1 v1 v2 ys w2) :
    Holds ((g, mO rg wv v2 tv sh) :: loc) w2 ∧ Stay (Mem.ids ((g, mO rg wv v2 tv sh) :: loc)) w2 (InI n0 g w v v2 ys) := by
  subst hmem
  have hall := in_holds hm
  have hg1 := hall _ List.mem_cons_self
  have hl : ∀ q ∈ loc, w2.heap[q.1]? = some q.2 := fun q hq => by
    obtain ⟨-, c, e, z, h1, h2, h3⟩ := hloc q hq
    have hq1 := hall q (List.mem_cons_of_mem _ hq)
    rw [h1] at hq1
    rw [hA.1.block q.1 (lt_of_get hq1) fun hx => ?_, hq1, h1]
    rcases List.mem_cons.1 hx with hx | hx
    · rw [hx] at hq1
      have := hg1.symm.trans hq1
      simp only [mO, Option.some.injEq, Obj.cells.injEq] at this
      exact h3 this.2.1.symm
    · exact own_not hI.2.1 hq1 (fun e1 => h2 e1.symm) (own_mem.2 hx)
  refine ⟨holds_in fun q hq => ?_, (hI.trans hA).stay ⟨_, _, _, hg2, by decide⟩ fun x hx => ?_⟩
  · rcases List.mem_cons.1 hq with rfl | hq
    · exact hg2
    · exact hl q hq
  · unfold Mem.ids at hx
    rw [List.map_cons] at hx
    rcases List.mem_cons.1 hx with rfl | hx
    · exact .inl rfl
    · obtain ⟨q, hq, rfl⟩ := List.mem_map.1 hx
      obtain ⟨h0, c, e, z, h1, h2, -⟩ := hloc q hq
      exact .inr ⟨h0, c, e, z, by rw [hl q hq, h1], h2⟩
/-- Something is put, by a call. -/
theorem Goes.callMQ (f : FuncId) (args : Array Value) (u : Value) (ys : List Ik) (loc : Mem) (hloc : LocI w loc)
    (hr : ∀ w1, Holds s.mem w1 → InI n0 g w v v1 xs w1 → Calls P f args w1 (MQ n0 g rg wv tv sh w1 v1 u ys))
    (h : ∀ v2, Goes P F (InI n0 g w v v2 ys) (put s u ((g, mO rg wv v2 tv sh) :: loc)))
    (hmem : s.mem = (g, mO rg wv v1 tv sh) :: loc := by kernel_rfl) (ha : ask s = some (f, args) := by kernel_rfl) (hw : wants s = true := by kernel_rfl) (hf : okf P f = true := by kernel_rfl) : Goes P F (InI n0 g w v v1 xs) s :=
  Goes.call f args (fun w1 hm hn hI => (hr w1 hm hI.now).mono fun e w2 ⟨v2, he, hg2, hA⟩ => by
    obtain ⟨h1, h2⟩ := mq_next hloc hmem hm hI.now hg2 hA
    exact ⟨u, _, _, he, h1, by rw [hmem] at hn; exact hn, h2, h v2⟩) ha hw hf
theorem mq_begin (hl : Ins n0 w v xs) (hg : w.heap[g]? = some (mO rg wv v tv sh)) : Holds [(g, mO rg wv v tv sh)] w ∧ Stay (Mem.ids [(g, mO rg wv v tv sh)]) w (InI n0 g w v v xs) :=
  ⟨fun j b o h => by match j, h with | 0, h => (cases h; exact hg), (InI.refl hl).stay ⟨_, _, _, hg, by decide⟩ (fun x hx => .inl (by simpa [Mem.ids] using hx))⟩
end
abbrev iEnd : Ik := ⟨30, 0, 0, 0, 0, [], 0⟩
abbrev iPay (s : List UInt8) : Ik := ⟨27, 0, 0, 0, 0, s, 0⟩
section
variable {n0 g : Nat} {rg : Int} {wv v tv : Value} {sh : Bool} {xs : List Ik} {w : World}
set_option maxRecDepth 100000 in
seal rn rnN rnS Goes ans atEnd put0 put putM opened openedY putA0 putA oneSt st0 keep mkSt newSt in
theorem end_any (hl : Ins n0 w v xs) (hg : w.heap[g]? = some (mO rg wv v tv sh)) (hn : n0 ≤ w.heap.size) (hlen : xs.length + 1 ≤ 100000000) : Calls Tryz.prog 77 #[.pointer (some ⟨g, 0, none⟩)] w (MQ n0 g rg wv tv sh w v (.tuple #[]) (xs ++ [iEnd])) := by
  refine Goes.enter Tryz.func77 [(g, mO rg wv v tv sh)] (InI n0 g w v v xs) (mq_begin hl hg).1 (by simp [Mem.ids]) (mq_begin hl hg).2 ?_
  refine Goes.run [] [] trivial ?_
  refine Goes.callMQ (rg := rg) (wv := wv) (tv := tv) (sh := sh) 130 #[.pointer (some ⟨g, 0, none⟩), iV iEnd] (.tuple #[]) (xs ++ [iEnd]) [] (fun q hq => by cases hq) (fun w1 hm1 hI1 => put_any hI1.2.1 (hm1.get 0) (Nat.le_trans hn hI1.1.size) iEnd hlen) fun v2 => ?_
  refine Goes.run [] [] trivial ?_
  exact Goes.ret [] (.tuple #[]) fun w' hm hI => ⟨_, rfl, hm.get 0, hI.now⟩
set_option maxRecDepth 100000 in
seal rn rnN rnS Goes ans atEnd put0 put putM opened openedY putA0 putA oneSt st0 keep mkSt newSt in
theorem may24_any (k : Int) (s : List UInt8) (u : Value) (w : World) : Calls Tryz.prog 75 #[cv 24 k s u] w fun e w' => e = .returned (.bool false) ∧ Below w.heap.size w w' := by
  refine Goes.begin Tryz.func75 [] (fun _ => True) Holds.nil (by simp [Mem.ids]) (fun _ _ => trivial) ?_
  refine Goes.run1 [0, 0, 0, 0, 0, 0] [(false, false), (false, false), (false, false), (false, false), (false, false)] ⟨rfl, rfl, rfl, rfl, rfl, trivial⟩ fun g1 => ?_
  exact Goes.ret [] (.bool false) fun w' hm hI => ⟨rfl, bel0 hI⟩
set_option maxRecDepth 100000 in
seal rn rnN rnS Goes ans atEnd put0 put putM opened openedY putA0 putA oneSt st0 keep mkSt newSt in
theorem many24_any (k : Int) (s : List UInt8) (a : Option Addr) (cc : Nat) (w : World) : Calls Tryz.prog 42 #[cv 24 k s (.slice a 0 cc)] w fun e w' => e = .returned (.int .i64 0) ∧ Below w.heap.size w w' := by
  refine Goes.begin Tryz.func42 [] (fun _ => True) Holds.nil (by simp [Mem.ids]) (fun _ _ => trivial) ?_
  refine Goes.run1 [0] [] trivial fun g1 => ?_
  refine Goes.call0 75 #[cv 24 k s (.slice a 0 cc)] (.bool false) (fun w' _ _ => may24_any k s _ w') ?_
  refine Goes.run [0, 0, 0, 0] [(false, false), (false, false)] ⟨rfl, rfl, trivial⟩ ?_
  exact Goes.ret [] (.int .i64 0) fun w' hm hI => ⟨rfl, bel0 hI⟩
set_option maxRecDepth 100000 in
seal rn rnN rnS Goes ans atEnd put0 put putM opened openedY putA0 putA oneSt st0 keep mkSt newSt in
theorem body24_any (hl : Ins n0 w v xs) (hg : w.heap[g]? = some (mO rg wv v tv sh)) (hn : n0 ≤ w.heap.size) (hlen : xs.length + 1 ≤ 100000000) (k fr : Int) (s : List UInt8) (u : Value) : Calls Tryz.prog 129 #[.pointer (some ⟨g, 0, none⟩), cv 24 k s u, .int .i64 fr] w (MQ n0 g rg wv tv sh w v (.func (.func 181) #[] #[]) (xs ++ [iPay s])) := by
  refine Goes.enter Tryz.func129 [(g, mO rg wv v tv sh)] (InI n0 g w v v xs) (mq_begin hl hg).1 (by simp [Mem.ids]) (mq_begin hl hg).2 ?_
  refine Goes.run [] [] trivial ?_
  refine Goes.new1 w.heap.size (fun w' h => h.1.size) fun g4 hg4 => ?_
  refine Goes.run [1, 1, 1] [(true, true)] ⟨rfl, trivial⟩ ?_
  refine Goes.callMQ (rg := rg) (wv := wv) (tv := tv) (sh := sh) 130 #[.pointer (some ⟨g, 0, none⟩), iV (iPay s)] (.tuple #[]) (xs ++ [iPay s]) [(g4, .cells #[.int .i64 24, .int .i64 k, strV s, u] 52 (0, 0))] (fun q hq => by rw [List.mem_singleton] at hq; subst hq; exact ⟨hg4, _, _, _, rfl, by decide, by decide⟩) (fun w1 hm1 hI1 => put_any hI1.2.1 (hm1.get 0) (Nat.le_trans hn hI1.1.size) (iPay s) hlen) fun v2 => ?_
  refine Goes.run [] [] trivial ?_
  exact Goes.ret [] (.func (.func 181) #[] #[]) fun w' hm hI => ⟨_, rfl, hm.get 0, hI.now⟩
set_option maxRecDepth 100000 in
seal rn rnN rnS Goes ans atEnd put0 put putM opened openedY putA0 putA oneSt st0 keep mkSt newSt in
theorem acq24_any (hl : Ins n0 w v xs) (hg : w.heap[g]? = some (mO rg wv v tv sh)) (hn : n0 ≤ w.heap.size) (hlen : xs.length + 1 ≤ 100000000) (k fr : Int) (s : List UInt8) (u : Value) : Calls Tryz.prog 76 #[.pointer (some ⟨g, 0, none⟩), cv 24 k s u, .int .i64 fr] w (MQ n0 g rg wv tv sh w v (.tuple #[]) (xs ++ [iPay s])) := by
  refine Goes.enter Tryz.func76 [(g, mO rg wv v tv sh)] (InI n0 g w v v xs) (mq_begin hl hg).1 (by simp [Mem.ids]) (mq_begin hl hg).2 ?_
  refine Goes.run [] [] trivial ?_
  refine Goes.new1 w.heap.size (fun w' h => h.1.size) fun g4 hg4 => ?_
  refine Goes.run [1] [] trivial ?_
  refine Goes.call0 75 #[cv 24 k s u] (.bool false) (fun w' _ _ => may24_any k s u w') ?_
  refine Goes.run [1, 1] [(true, true)] ⟨rfl, trivial⟩ ?_
  refine Goes.callMQ (rg := rg) (wv := wv) (tv := tv) (sh := sh) 129 #[.pointer (some ⟨g, 0, none⟩), cv 24 k s u, .int .i64 fr] (.func (.func 181) #[] #[]) (xs ++ [iPay s]) [(g4, .cells #[.int .i64 24, .int .i64 k, strV s, u] 52 (0, 0))] (fun q hq => by rw [List.mem_singleton] at hq; subst hq; exact ⟨hg4, _, _, _, rfl, by decide, by decide⟩) (fun w1 hm1 hI1 => body24_any hI1.2.1 (hm1.get 0) (Nat.le_trans hn hI1.1.size) hlen k fr s u) fun v2 => ?_
  refine Goes.run [] [] trivial ?_
  exact Goes.ret [] (.tuple #[]) fun w' hm hI => ⟨_, rfl, hm.get 0, hI.now⟩
set_option maxRecDepth 100000 in
seal rn rnN rnS Goes ans atEnd put0 put putM opened openedY putA0 putA oneSt st0 keep mkSt newSt in
theorem all24_any {a : Option Addr} {cc : Nat} (hl : Ins n0 w v xs) (hg : w.heap[g]? = some (mO rg wv v (.slice a 0 cc) sh)) (hn : n0 ≤ w.heap.size) (hlen : xs.length + 2 ≤ 100000000) (k : Int) (s : List UInt8) (u : Value) : Calls Tryz.prog 43 #[.pointer (some ⟨g, 0, none⟩), cv 24 k s u] w (MQ n0 g rg wv (.slice a 0 cc) sh w v (.tuple #[]) (xs ++ [iPay s] ++ [iEnd])) := by
  refine Goes.enter Tryz.func43 [(g, mO rg wv v (.slice a 0 cc) sh)] (InI n0 g w v v xs) (mq_begin hl hg).1 (by simp [Mem.ids]) (mq_begin hl hg).2 ?_
  refine Goes.run [] [] trivial ?_
  refine Goes.new1 w.heap.size (fun w' h => h.1.size) fun g4 hg4 => ?_
  have hloc : LocI w [(g4, .cells #[.int .i64 24, .int .i64 k, strV s, u] 52 (0, 0))] := fun q hq => by rw [List.mem_singleton] at hq; subst hq; exact ⟨hg4, _, _, _, rfl, by decide, by decide⟩
  refine Goes.run [1] [] trivial ?_
  refine Goes.callMQ (rg := rg) (wv := wv) (tv := .slice a 0 cc) (sh := sh) 76 #[.pointer (some ⟨g, 0, none⟩), cv 24 k s u, .int .i64 0] (.tuple #[]) (xs ++ [iPay s]) _ hloc (fun w1 hm1 hI1 => acq24_any hI1.2.1 (hm1.get 0) (Nat.le_trans hn hI1.1.size) (by omega) k 0 s u) fun v2 => ?_
  refine Goes.run [] [] trivial ?_
  refine Goes.callMQ (rg := rg) (wv := wv) (tv := .slice a 0 cc) (sh := sh) 77 #[.pointer (some ⟨g, 0, none⟩)] (.tuple #[]) (xs ++ [iPay s] ++ [iEnd]) _ hloc (fun w1 hm1 hI1 => end_any hI1.2.1 (hm1.get 0) (Nat.le_trans hn hI1.1.size) (by simp; omega)) fun v3 => ?_
  refine Goes.run [0, 0, 0] [(false, false)] ⟨rfl, trivial⟩ ?_
  exact Goes.ret [] (.tuple #[]) fun w' hm hI => ⟨_, rfl, hm.get 0, hI.now⟩
end
end Go.Proofs.YtddbiiejilcbbaaGreatDoor
namespace Go.Proofs.YtddbiiejilcbbaaGreatDoor
open Go Go.RowKit

def usesT : List Int := [0, 1, 9, 1, 3, 7, 7, 7, 7, 7, 7, 7, 3, 7, 7, 7, 7, 7, 3, 10, 8, 8, 8, 2, 0, 1, 2, 0, 0, 0, 0]
/-- The program's table. -/
def TabU (w : World) : Prop := ∀ k, k < 31 → w.cell? ⟨0, k, none⟩ = some (.int .i64 (usesT.getD k 0))
theorem TabU.below {w w' : World} (h : TabU w) (hB : Below w.heap.size w w') : TabU w' := fun k hk => by
  rw [hB.cell (p := ⟨0, k, none⟩) (World.block_lt_of_cell? w _ (h k hk))]; exact h k hk
theorem sizeI : (Tryz.prog.info? 72).map (·.size) = some 7 := by kernel_rfl
theorem idxIk (b o n cap k : Nat) (h : k < n) (w : World) : (Instr.indexAt 25 (.slice (some ⟨b, o, none⟩) n cap) (.int .i64 k)).run Tryz.prog w = .ok (.pointer (some ⟨b, o + k * 7, none⟩)) w := by go_simp
theorem idxU (k : Nat) (h : k < 31) (w : World) : (Instr.indexAt 140 (.pointer (some ⟨0, 0, none⟩)) (.int .i64 k)).run Tryz.prog w = .ok (.pointer (some ⟨0, k, none⟩)) w := by go_simp; intro h2; omega
/-- An instruction lies at a place. -/
def IcAt (w : World) (b o : Nat) (x : Ik) : Prop := ∀ j u, (iC x)[j]? = some u → w.cell? ⟨b, o + j, none⟩ = some u
theorem loadI {w : World} {b o : Nat} {x : Ik} (h : IcAt w b o x) : (Instr.loadAt 72 (.pointer (some ⟨b, o, none⟩))).run Tryz.prog w = .ok (iV x) w := loadAgg Tryz.isAgg72 sizeI (iC x) rfl h
theorem IcAt.below {w w' : World} {b o : Nat} {x : Ik} (h : IcAt w b o x) (hb : b < w.heap.size) (hB : Below w.heap.size w w') : IcAt w' b o x := fun j u hj => by rw [hB.cell (p := ⟨b, o + j, none⟩) hb]; exact h j u hj
theorem iC_len (x : Ik) : (iC x).length = 7 := rfl
theorem inC_at : ∀ {xs : List Ik} {i : Nat} {x : Ik} {j : Nat} {u : Value}, xs[i]? = some x → (iC x)[j]? = some u → (inC xs)[i * 7 + j]? = some u
  | [], i, x, j, u, h, _ => by simp at h
  | y :: r, 0, x, j, u, h, hj => by
    simp at h
    subst h
    unfold inC
    rw [List.flatMap_cons, List.getElem?_append_left (by have := (List.getElem?_eq_some_iff.1 hj).1; omega)]
    simpa using hj
  | y :: r, i + 1, x, j, u, h, hj => by
    have ih := inC_at (xs := r) (i := i) (by simpa using h) hj
    unfold inC at ih ⊢
    rw [List.flatMap_cons, List.getElem?_append_right (by rw [iC_len]; omega), iC_len]
    rw [← ih]
    congr 1
    omega
theorem Ins.at {n0 b c N : Nat} {w : World} {xs : List Ik} (h : Ins n0 w (.slice (some ⟨b, 0, none⟩) N c) xs) (hN : xs.length = N) {i : Nat} {x : Ik} (hx : xs[i]? = some x) : IcAt w b (0 + i * 7) x := fun j u hj => by
  unfold Ins at h
  rw [hN] at h
  rw [Nat.zero_add]
  rcases h.2 with ⟨e, -⟩ | ⟨g, cap, cur, e, -, hg, -, -, -, ht⟩
  · cases e
  · cases e
    have hi := inC_at hx hj
    have hl : i * 7 + j < N * 7 := by rw [← h.1]; exact (List.getElem?_eq_some_iff.1 hi).1
    unfold World.cell?
    rw [hg]
    rw [← ht, List.getElem?_take_of_lt hl] at hi
    simpa using hi
set_option maxRecDepth 100000 in
seal rn rnN rnS Goes ans atEnd put0 put putM opened openedY putA0 putA oneSt st0 keep mkSt newSt in
theorem regs2_any {n0 b c : Nat} {w : World} (s : List UInt8) (hT : TabU w) (hl : Ins n0 w (.slice (some ⟨b, 0, none⟩) 2 c) [iPay s, iEnd]) (hb : b < w.heap.size) : Calls Tryz.prog 44 #[.slice (some ⟨b, 0, none⟩) 2 c] w fun e w' => e = .returned (.int .i64 0) ∧ Below w.heap.size w w' := by
  have at0 := hl.at rfl (i := 0) rfl
  have at1 := hl.at rfl (i := 1) rfl
  refine Goes.begin Tryz.func44 [] (fun _ => True) Holds.nil (by simp [Mem.ids]) (fun _ _ => trivial) ?_
  refine Goes.run [0, 1] [(true, true)] ⟨rfl, trivial⟩ ?_
  refine Goes.val (Instr.indexAt 25 (.slice (some ⟨b, 0, none⟩) 2 c) (.int .i64 (0 : Nat))) (.pointer (some ⟨b, 0 + 0 * 7, none⟩)) (fun w' _ _ => idxIk b 0 2 c 0 (by omega) w') ?_
  refine Goes.val (Instr.loadAt 72 (.pointer (some ⟨b, 0 + 0 * 7, none⟩))) (iV (iPay s)) (fun w' hm hI => loadI (at0.below hb (bel0 hI))) ?_
  refine Goes.run1 [0, 0] [] trivial fun g5 => ?_
  refine Goes.val (Instr.indexAt 140 (.pointer (some ⟨0, 0, none⟩)) (.int .i64 (27 : Nat))) (.pointer (some ⟨0, 27, none⟩)) (fun w' _ _ => idxU 27 (by omega) w') ?_
  refine Goes.val (Instr.loadAt 3 (.pointer (some ⟨0, 27, none⟩))) (.int .i64 0) (fun w' hm hI => load1 Tryz.isAgg3 ((hT.below (bel0 hI)) 27 (by omega))) ?_
  refine Goes.run [0, 0, 1] [(true, true), (false, false)] ⟨rfl, rfl, trivial⟩ ?_
  refine Goes.val (Instr.indexAt 25 (.slice (some ⟨b, 0, none⟩) 2 c) (.int .i64 (1 : Nat))) (.pointer (some ⟨b, 0 + 1 * 7, none⟩)) (fun w' _ _ => idxIk b 0 2 c 1 (by omega) w') ?_
  refine Goes.val (Instr.loadAt 72 (.pointer (some ⟨b, 0 + 1 * 7, none⟩))) (iV iEnd) (fun w' hm hI => loadI (at1.below hb (bel0 hI))) ?_
  refine Goes.run1 [1, 1] [] trivial fun g6 => ?_
  refine Goes.val (Instr.indexAt 140 (.pointer (some ⟨0, 0, none⟩)) (.int .i64 (30 : Nat))) (.pointer (some ⟨0, 30, none⟩)) (fun w' _ _ => idxU 30 (by omega) w') ?_
  refine Goes.val (Instr.loadAt 3 (.pointer (some ⟨0, 30, none⟩))) (.int .i64 0) (fun w' hm hI => load1 Tryz.isAgg3 ((hT.below (bel0 hI)) 30 (by omega))) ?_
  refine Goes.run [0, 0, 0] [(false, false), (false, false)] ⟨rfl, rfl, trivial⟩ ?_
  exact Goes.ret [] (.int .i64 0) fun w' hm hI => ⟨rfl, bel0 hI⟩
/-- What Compile makes of a payment of one. -/
def OneR (w : World) (s : List UInt8) (e : Ending) (w' : World) : Prop := ∃ n0 b c, w.heap.size ≤ n0 ∧ e = .returned (.tuple #[.agg #[.int .i64 0, .slice none 0 0, .slice (some ⟨b, 0, none⟩) 2 c], .int .i64 0]) ∧ Ins n0 w' (.slice (some ⟨b, 0, none⟩) 2 c) [iPay s, iEnd] ∧ Below w.heap.size w w'
abbrev codeO (rg : Int) (wv v : Value) : Obj := .cells #[.int .i64 rg, wv, v] 27 (0, 0)
theorem one_doP : doP (.mk 24 0 [69, 85, 82] []) 0 = some (.mk 24 0 [69, 85, 82] []) := by kernel_rfl
theorem Ins.two {n0 : Nat} {w : World} {v : Value} {x y : Ik} (h : Ins n0 w v [x, y]) : ∃ b c, v = .slice (some ⟨b, 0, none⟩) 2 c ∧ n0 ≤ b ∧ b < w.heap.size := by
  rcases h.2 with ⟨-, h0⟩ | ⟨g, cap, cur, e, hb, hg, -⟩
  · cases h0
  · exact ⟨g, cap, e, hb, lt_of_get hg⟩
set_option maxRecDepth 100000 in
seal rn rnN rnS Goes ans atEnd put0 put putM opened openedY putA0 putA oneSt st0 keep mkSt newSt in
theorem compile1_any {w : World} (hT : Tab w) (hU : TabU w) : Calls Tryz.prog 19 #[cv 24 0 [69, 85, 82] (.slice none 0 0), .int .i64 0] w (OneR w [69, 85, 82]) := by
  refine Goes.begin Tryz.func19 [] (fun _ => True) Holds.nil (by simp [Mem.ids]) (fun _ _ => trivial) ?_
  refine Goes.run2 [0] [] trivial fun g2 g4 => ?_
  refine Goes.call 41 #[cv 24 0 [69, 85, 82] (.slice none 0 0), .int .i64 0] fun w1 hm1 hn1 hI1 => (do_any (A := F0) 0 (fun x hx => hx.elim) (fit24 w1) (hT.below (bel0 hI1))).mono fun e w2 ⟨he, hB12⟩ => ?_
  rw [one_doP] at he
  obtain ⟨v', he, hN2⟩ := he
  obtain ⟨a, cc, rfl, -, -, -⟩ := hN2.open
  refine ⟨_, _, _, he, hm1.bel hB12, hn1, hI1.bel hB12, ?_⟩
  refine Goes.run1 [2, 0, 0] [(false, false)] ⟨rfl, trivial⟩ fun g6 => ?_
  refine Goes.call0 42 #[cv 24 0 [69, 85, 82] (.slice none 0 0)] (.int .i64 0) (fun w' _ _ => many24_any 0 _ none 0 w') ?_
  refine Goes.run1 [0, 3, 2] [(false, false)] ⟨rfl, trivial⟩ fun g8 => ?_
  refine Goes.call 43 #[.pointer (some ⟨g8, 0, none⟩), cv 24 0 [69, 85, 82] (.slice a 0 cc)] fun w3 hm3 hn3 hI3 => (all24_any (n0 := w3.heap.size) (rg := 0) (wv := .slice none 0 0) (sh := false) (a := none) (cc := 0) (v := .slice none 0 0) (xs := []) Ins.nil (hm3.get 3) (Nat.le_refl _) (by simp) 0 [69, 85, 82] (.slice a 0 cc)).mono fun e w4 ⟨v2, he4, hg4, hA⟩ => ?_
  have hB03 : Below w.heap.size w w3 := bel0 hI3
  have hne : ∀ x ∈ [g2, g4, g6], x ∉ OoI g8 (.slice none 0 0) := fun x hx hm => by
    have hd := Nodup.of_ids (l := [g2, g4, g6, g8]) hn3
    have hm : x = g8 := by simpa [OoI, Value.ownBlock] using hm
    subst hm
    simp at hd hx
    rcases hx with rfl | rfl | rfl
    · exact hd.1.2.2 rfl
    · exact hd.2.1.2 rfl
    · exact hd.2.2 rfl
  have e0 : w3.heap[g2]? = some (cO4 24 0 [69, 85, 82] none 0 0) := hm3.get 0
  have e1 : w3.heap[g4]? = some (codeO 0 (.slice none 0 0) (.slice none 0 0)) := hm3.get 1
  have e2 : w3.heap[g6]? = some (cO4 24 0 [69, 85, 82] a 0 cc) := hm3.get 2
  have hd : [g2, g4, g6, g8].Nodup := Nodup.of_ids hn3
  refine ⟨_, fun w' => (Ch (Mem.ids []) w w' ∧ True) ∧ Ins w3.heap.size w' v2 [iPay [69, 85, 82], iEnd], [(g2, cO4 24 0 [69, 85, 82] none 0 0), (g4, codeO 0 (.slice none 0 0) (.slice none 0 0)), (g6, cO4 24 0 [69, 85, 82] a 0 cc), (g8, mO 0 (.slice none 0 0) v2 (.slice none 0 0) false)], he4, fun j b o hj => ?_, hd, fun w5 h5 => ⟨hI3 w5 ?_, own_ch hA.2.1 h5 fun b hb hm => ?_⟩, ?_⟩
  · match j, hj with
    | 0, hj => cases hj; exact (hA.1.block g2 (lt_of_get e0) (hne _ (by simp))).trans e0
    | 1, hj => cases hj; exact (hA.1.block g4 (lt_of_get e1) (hne _ (by simp))).trans e1
    | 2, hj => cases hj; exact (hA.1.block g6 (lt_of_get e2) (hne _ (by simp))).trans e2
    | 3, hj => cases hj; exact hg4
  · refine (hA.1.mono fun x hx => ?_).trans (h5.mono (L' := [g2, g4, g6, g8]) fun x hx => mem_eq hx) fun x hx => .inl (mem_eq hx)
    have hx : x = g8 := by simpa [OoI, Value.ownBlock] using hx
    rw [hx]
    exact mem_eq (l := [g2, g4, g6, g8]) (by simp)
  · have h6 := holds_lt hm3 b (mem_eq hm)
    rcases hA.2.1.2 with ⟨e, -⟩ | ⟨g, cap, cur, e, h7, -⟩
    · rw [e] at hb; cases hb
    · rw [e] at hb; cases hb; have h8 : g < w3.heap.size := h6; omega
  · obtain ⟨b, c, rfl, hb1, hb2⟩ := Ins.two hA.2.1
    refine Goes.run [3] [] trivial ?_
    refine Goes.call0 44 #[.slice (some ⟨b, 0, none⟩) 2 c] (.int .i64 0) (fun w' hm hI => regs2_any [69, 85, 82] (hU.below (hI.now.1.1.toB (fun x hx => by cases hx))) hI.now.2 (by obtain ⟨b', c', e, -, h⟩ := Ins.two hI.now.2; cases e; exact h)) ?_
    refine Goes.run [3, 3, 1] [] trivial ?_
    exact Goes.ret [1] (.tuple #[.agg #[.int .i64 0, .slice none 0 0, .slice (some ⟨b, 0, none⟩) 2 c], .int .i64 0]) fun w' hm hI => ⟨w3.heap.size, b, c, hB03.size, rfl, hI.now.2, hI.now.1.1.toB (fun x hx => by cases hx)⟩
end Go.Proofs.YtddbiiejilcbbaaGreatDoor
namespace Go.Proofs.YtddbiiejilcbbaaGreatDoor
open Go Go.RowKit

noncomputable def giK : List TI := (rn Tryz.prog [0, 0] [] (st0 Tryz.f106 #[.int .i64 0] [])).st.todo
end Go.Proofs.YtddbiiejilcbbaaGreatDoor
namespace Go.Proofs.YtddbiiejilcbbaaGreatDoor
open Go Go.RowKit

/-- A wait. -/
structure Wk where
  entry : Int
  day : Int
  label : List UInt8
  first : Int
  second : Int
def wC (x : Wk) : List Value := [.int .i64 x.entry, .int .i64 x.day, strV x.label, .int .i64 x.first, .int .i64 x.second]
def wV (x : Wk) : Value := .agg #[.int .i64 x.entry, .int .i64 x.day, strV x.label, .int .i64 x.first, .int .i64 x.second]
/-- A bytecode. -/
structure Kd where
  regs : Int
  waits : List Wk
  ins : List Ik
def usesR (op : Int) : List UInt8 × Bool :=
  bif op == 1 || op == 3 then ([65, 78], true) else
  bif op == 2 then ([65, 83, 78, 84], true) else
  bif op == 4 || op == 12 || op == 18 then ([65, 66], true) else
  bif op == 5 || op == 6 || op == 7 || op == 8 || op == 9 || op == 10 || op == 11 || op == 13 || op == 14 || op == 15 || op == 16 || op == 17 then ([65, 66, 67], true) else
  bif op == 19 then ([66, 84], true) else
  bif op == 20 then ([84], true) else
  bif op == 21 || op == 22 then ([78, 84], true) else
  bif op == 23 || op == 26 then ([66], true) else
  bif op == 25 then ([65], true) else
  bif op == 27 then ([83], true) else
  bif op == 28 || op == 29 then ([78], true) else
  bif op == 24 || op == 30 then ([], true) else
  ([], false)
def hasR (l : List UInt8) (c : UInt8) : Bool := l.any fun x => x == c
def regR (n : Int) (used : Bool) (regs : Int) : Bool := bif used then decide (0 ≤ n) && decide (n < regs) else n == 0
def plaR (k : Kd) (n : Int) : Bool := decide (0 ≤ n) && decide (n < (k.ins.length : Int))
def numR (k : Kd) (at' : Int) (x : Ik) : Bool :=
  bif x.op == 1 then decide (-1000000000000000 ≤ x.n) && decide (x.n ≤ 1000000000000000)
  else bif x.op == 2 || x.op == 3 then decide (0 ≤ x.n) && decide (x.n ≤ 3660)
  else bif x.op == 21 || x.op == 22 then decide (0 ≤ x.n) && decide (x.n ≤ 73048)
  else bif x.op == 28 then decide (0 ≤ x.n) && decide (x.n < (k.waits.length : Int))
  else bif x.op == 29 then decide (0 ≤ x.n) && decide (x.n < (k.waits.length : Int)) && (match k.waits[x.n.toNat]? with | some w => decide (w.entry > at') | none => false)
  else x.n == 0
def txtR (x : Ik) : Bool := bif x.op == 2 then namP x.s else bif x.op == 27 then curP x.s else decide (x.s = [])
def toR (k : Kd) (at' : Int) (x : Ik) : Bool := bif hasR (usesR x.op).1 84 then decide (x.to > at') && decide (x.to < (k.ins.length : Int)) else x.to == 0
def insR (k : Kd) (at' : Int) (x : Ik) : Bool := (usesR x.op).2 && regR x.a (hasR (usesR x.op).1 65) k.regs && regR x.b (hasR (usesR x.op).1 66) k.regs && regR x.c (hasR (usesR x.op).1 67) k.regs && numR k at' x && txtR x && toR k at' x
def waiR (k : Kd) (x : Wk) : Bool := plaR k x.entry && decide (0 ≤ x.day) && decide (x.day ≤ 73048) && (bif decide (x.label = []) then x.first == 0 && x.second == 0 else namP x.label && plaR k x.first && plaR k x.second)
def insL (k : Kd) : Int → List Ik → Bool
  | _, [] => true
  | i, x :: r => insR k i x && insL k (i + 1) r
def headR (k : Kd) : Bool := decide (0 ≤ k.regs) && decide (k.regs ≤ 256) && decide (k.waits.length ≤ 250) && decide (1 ≤ k.ins.length) && decide (k.ins.length ≤ 16384) && (match k.ins[k.ins.length - 1]? with | some x => x.op == 30 | none => false)
def rightR (k : Kd) : Bool := headR k && k.waits.all (waiR k) && insL k 0 k.ins
set_option maxRecDepth 100000 in
seal rn rnN rnS Goes ans atEnd put0 put putM opened openedY putA0 putA oneSt st0 keep mkSt newSt in
theorem has_any (l : List UInt8) (c : UInt8) (hl : l.length ≤ 100) (w : World) : Calls Tryz.prog 83 #[strV l, .int .u8 (c.toNat : Nat)] w fun e w' => e = .returned (.bool (hasR l c)) ∧ Below w.heap.size w w' := by
  refine Goes.begin Tryz.func83 [] (fun _ => True) Holds.nil (by simp [Mem.ids]) (fun _ _ => trivial) ?_
  refine Goes.run [] [] trivial ?_
  refine Goes.loop0 (α := Nat) 17 (fun j => [(0, strV l), (1, .int .u8 (c.toNat : Nat)), (5, .int .i64 j)]) [] (fun j => hasR l c = hasR (l.drop j) c ∧ j ≤ l.length) (fun j => l.length - j) 0 ⟨rfl, Nat.zero_le _⟩ ?_
  rintro j J ⟨hj, hj2⟩ back
  have hsz : (⟨l.toArray⟩ : ByteArray).size = l.length := by simp [ByteArray.size]
  cases hlt : decide ((j : Int) < ((⟨l.toArray⟩ : ByteArray).size : Int)) with
  | false =>
    have hjl : l.length ≤ j := by have := of_decide_eq_false hlt; rw [hsz] at this; omega
    refine Goes.run [0, 0] [(decide ((j : Int) < ((⟨l.toArray⟩ : ByteArray).size : Int)), false)] ⟨hlt, trivial⟩ ?_
    exact Goes.ret [] (.bool false) fun w' hm hI => ⟨by rw [hj, List.drop_of_length_le hjl]; rfl, bel0 hI⟩
  | true =>
    have hjl : j < l.length := by have := of_decide_eq_true hlt; rw [hsz] at this; omega
    obtain ⟨x, hx⟩ : ∃ x, l[j]? = some x := ⟨l[j], by simp [hjl]⟩
    have hd : hasR (l.drop j) c = (x == c || hasR (l.drop (j + 1)) c) := by
      rw [drop_any hx]
      rfl
    have hxc : ((x.toNat : Int) == (c.toNat : Int)) = (x == c) := by
      rw [Bool.eq_iff_iff, beq_iff_eq, beq_iff_eq]
      constructor
      · intro h; exact UInt8.toNat_inj.1 (by omega)
      · intro h; rw [h]
    refine Goes.run [0, 1] [(decide ((j : Int) < ((⟨l.toArray⟩ : ByteArray).size : Int)), true)] ⟨hlt, trivial⟩ ?_
    refine Goes.val (Instr.index 9 (strV l) (.int .i64 j)) (.int .u8 (x.toNat : Nat)) (fun w' _ _ => idxB hx w') ?_
    cases hc : (x == c) with
    | true =>
      refine Goes.run [1] [((x.toNat : Int) == (c.toNat : Int), true)] ⟨by rw [hxc, hc], trivial⟩ ?_
      exact Goes.ret [] (.bool true) fun w' hm hI => ⟨by rw [hj, hd, hc]; rfl, bel0 hI⟩
    | false =>
      refine Goes.run [0] [((x.toNat : Int) == (c.toNat : Int), false)] ⟨by rw [hxc, hc], trivial⟩ ?_
      refine Goes.slot 5 (.int .i64 (j + 1 : Nat)) (u := .int .i64 (IntKind.i64.wrap ((j : Int) + 1))) (congrArg _ (wrap_nat (by omega))) ?_
      exact back (j + 1) _ ⟨by rw [hj, hd, hc]; rfl, by omega⟩ (by omega) (by kernel_rfl) (by kernel_rfl) (by kernel_rfl)
set_option maxRecDepth 100000 in
seal rn rnN rnS Goes ans atEnd put0 put putM opened openedY putA0 putA oneSt st0 keep mkSt newSt in
theorem register_any (n regs : Int) (used : Bool) (w : World) : Calls Tryz.prog 82 #[.int .i64 n, .bool used, .int .i64 regs] w fun e w' => e = .returned (.bool (regR n used regs)) ∧ Below w.heap.size w w' := by
  refine Goes.begin Tryz.func82 [] (fun _ => True) Holds.nil (by simp [Mem.ids]) (fun _ _ => trivial) ?_
  cases used with
  | false =>
    refine Goes.run [0, 0, 0, 1] [(true, true), (false, false), (false, false), (false, false)] ⟨rfl, rfl, rfl, rfl, trivial⟩ ?_
    exact Goes.ret [] (.bool (n == 0)) fun w' hm hI => ⟨rfl, bel0 hI⟩
  | true =>
    cases h0 : decide (0 ≤ n) with
    | false =>
      refine Goes.run [1, 0, 0, 0] [(false, false), (false, false), (decide (0 ≤ n), false), (true, true)] ⟨rfl, rfl, h0, rfl, trivial⟩ ?_
      exact Goes.ret [] (.bool false) fun w' hm hI => ⟨by unfold regR; rw [h0]; rfl, bel0 hI⟩
    | true =>
      cases h1 : decide (n < regs) with
      | true =>
        refine Goes.run [1, 1, 1] [(decide (n < regs), true), (decide (0 ≤ n), true), (true, true)] ⟨h1, h0, rfl, trivial⟩ ?_
        exact Goes.ret [] (.bool true) fun w' hm hI => ⟨by unfold regR; rw [h0, h1]; rfl, bel0 hI⟩
      | false =>
        refine Goes.run [1, 1, 0, 0] [(false, false), (decide (n < regs), false), (decide (0 ≤ n), true), (true, true)] ⟨rfl, h1, h0, rfl, trivial⟩ ?_
        exact Goes.ret [] (.bool false) fun w' hm hI => ⟨by unfold regR; rw [h0, h1]; rfl, bel0 hI⟩
set_option maxRecDepth 100000 in
seal rn rnN rnS Goes ans atEnd put0 put putM opened openedY putA0 putA oneSt st0 keep mkSt newSt in
theorem uses_any (op : Int) (w : World) : Calls Tryz.prog 81 #[.int .i64 op] w fun e w' => e = .returned (.tuple #[strV (usesR op).1, .bool (usesR op).2]) ∧ Below w.heap.size w w' := by
  refine Goes.begin Tryz.func81 [] (fun _ => True) Holds.nil (by simp [Mem.ids]) (fun _ _ => trivial) ?_
  by_cases h1 : op = 1
  · subst h1
    refine Goes.run [1, 1] [(true, true), (true, true)] ⟨rfl, rfl, trivial⟩ ?_
    exact Goes.ret [] (.tuple #[strV [65, 78], .bool true]) fun w' hm hI => ⟨rfl, bel0 hI⟩
  by_cases h2 : op = 2
  · subst h2
    refine Goes.run [0, 0, 1] [(true, true), (false, false), (false, false)] ⟨rfl, rfl, rfl, trivial⟩ ?_
    exact Goes.ret [] (.tuple #[strV [65, 83, 78, 84], .bool true]) fun w' hm hI => ⟨rfl, bel0 hI⟩
  by_cases h3 : op = 3
  · subst h3
    refine Goes.run [0, 1] [(true, true), (false, false)] ⟨rfl, rfl, trivial⟩ ?_
    exact Goes.ret [] (.tuple #[strV [65, 78], .bool true]) fun w' hm hI => ⟨rfl, bel0 hI⟩
  by_cases h4 : op = 4
  · subst h4
    refine Goes.run [0, 0, 0, 1, 1] [(true, true), (true, true), (false, false), (false, false), (false, false)] ⟨rfl, rfl, rfl, rfl, rfl, trivial⟩ ?_
    exact Goes.ret [] (.tuple #[strV [65, 66], .bool true]) fun w' hm hI => ⟨rfl, bel0 hI⟩
  by_cases h5 : op = 5
  · subst h5
    refine Goes.run [0, 0, 0, 0, 0, 0, 1, 1] [(true, true), (true, true), (false, false), (false, false), (false, false), (false, false), (false, false), (false, false)] ⟨rfl, rfl, rfl, rfl, rfl, rfl, rfl, rfl, trivial⟩ ?_
    exact Goes.ret [] (.tuple #[strV [65, 66, 67], .bool true]) fun w' hm hI => ⟨rfl, bel0 hI⟩
  by_cases h6 : op = 6
  · subst h6
    refine Goes.run [0, 0, 0, 0, 0, 0, 0, 1, 1] [(true, true), (true, true), (false, false), (false, false), (false, false), (false, false), (false, false), (false, false), (false, false)] ⟨rfl, rfl, rfl, rfl, rfl, rfl, rfl, rfl, rfl, trivial⟩ ?_
    exact Goes.ret [] (.tuple #[strV [65, 66, 67], .bool true]) fun w' hm hI => ⟨rfl, bel0 hI⟩
  by_cases h7 : op = 7
  · subst h7
    refine Goes.run [0, 0, 0, 0, 0, 0, 0, 0, 1, 1] [(true, true), (true, true), (false, false), (false, false), (false, false), (false, false), (false, false), (false, false), (false, false), (false, false)] ⟨rfl, rfl, rfl, rfl, rfl, rfl, rfl, rfl, rfl, rfl, trivial⟩ ?_
    exact Goes.ret [] (.tuple #[strV [65, 66, 67], .bool true]) fun w' hm hI => ⟨rfl, bel0 hI⟩
  by_cases h8 : op = 8
  · subst h8
    refine Goes.run [0, 0, 0, 0, 0, 0, 0, 0, 0, 1, 1] [(true, true), (true, true), (false, false), (false, false), (false, false), (false, false), (false, false), (false, false), (false, false), (false, false), (false, false)] ⟨rfl, rfl, rfl, rfl, rfl, rfl, rfl, rfl, rfl, rfl, rfl, trivial⟩ ?_
    exact Goes.ret [] (.tuple #[strV [65, 66, 67], .bool true]) fun w' hm hI => ⟨rfl, bel0 hI⟩
  by_cases h9 : op = 9
  · subst h9
    refine Goes.run [0, 0, 0, 0, 0, 0, 0, 0, 0, 0, 1, 1] [(true, true), (true, true), (false, false), (false, false), (false, false), (false, false), (false, false), (false, false), (false, false), (false, false), (false, false), (false, false)] ⟨rfl, rfl, rfl, rfl, rfl, rfl, rfl, rfl, rfl, rfl, rfl, rfl, trivial⟩ ?_
    exact Goes.ret [] (.tuple #[strV [65, 66, 67], .bool true]) fun w' hm hI => ⟨rfl, bel0 hI⟩
  by_cases h10 : op = 10
  · subst h10
    refine Goes.run [0, 0, 0, 0, 0, 0, 0, 0, 0, 0, 0, 1, 1] [(true, true), (true, true), (false, false), (false, false), (false, false), (false, false), (false, false), (false, false), (false, false), (false, false), (false, false), (false, false), (false, false)] ⟨rfl, rfl, rfl, rfl, rfl, rfl, rfl, rfl, rfl, rfl, rfl, rfl, rfl, trivial⟩ ?_
    exact Goes.ret [] (.tuple #[strV [65, 66, 67], .bool true]) fun w' hm hI => ⟨rfl, bel0 hI⟩
  by_cases h11 : op = 11
  · subst h11
    refine Goes.run [0, 0, 0, 0, 0, 0, 0, 0, 0, 0, 0, 0, 1, 1] [(true, true), (true, true), (false, false), (false, false), (false, false), (false, false), (false, false), (false, false), (false, false), (false, false), (false, false), (false, false), (false, false), (false, false)] ⟨rfl, rfl, rfl, rfl, rfl, rfl, rfl, rfl, rfl, rfl, rfl, rfl, rfl, rfl, trivial⟩ ?_
    exact Goes.ret [] (.tuple #[strV [65, 66, 67], .bool true]) fun w' hm hI => ⟨rfl, bel0 hI⟩
  by_cases h12 : op = 12
  · subst h12
    refine Goes.run [0, 0, 0, 0, 1, 1] [(true, true), (true, true), (false, false), (false, false), (false, false), (false, false)] ⟨rfl, rfl, rfl, rfl, rfl, rfl, trivial⟩ ?_
    exact Goes.ret [] (.tuple #[strV [65, 66], .bool true]) fun w' hm hI => ⟨rfl, bel0 hI⟩
  by_cases h13 : op = 13
  · subst h13
    refine Goes.run [0, 0, 0, 0, 0, 0, 0, 0, 0, 0, 0, 0, 0, 1, 1] [(true, true), (true, true), (false, false), (false, false), (false, false), (false, false), (false, false), (false, false), (false, false), (false, false), (false, false), (false, false), (false, false), (false, false), (false, false)] ⟨rfl, rfl, rfl, rfl, rfl, rfl, rfl, rfl, rfl, rfl, rfl, rfl, rfl, rfl, rfl, trivial⟩ ?_
    exact Goes.ret [] (.tuple #[strV [65, 66, 67], .bool true]) fun w' hm hI => ⟨rfl, bel0 hI⟩
  by_cases h14 : op = 14
  · subst h14
    refine Goes.run [0, 0, 0, 0, 0, 0, 0, 0, 0, 0, 0, 0, 0, 0, 1, 1] [(true, true), (true, true), (false, false), (false, false), (false, false), (false, false), (false, false), (false, false), (false, false), (false, false), (false, false), (false, false), (false, false), (false, false), (false, false), (false, false)] ⟨rfl, rfl, rfl, rfl, rfl, rfl, rfl, rfl, rfl, rfl, rfl, rfl, rfl, rfl, rfl, rfl, trivial⟩ ?_
    exact Goes.ret [] (.tuple #[strV [65, 66, 67], .bool true]) fun w' hm hI => ⟨rfl, bel0 hI⟩
  by_cases h15 : op = 15
  · subst h15
    refine Goes.run [0, 0, 0, 0, 0, 0, 0, 0, 0, 0, 0, 0, 0, 0, 0, 1, 1] [(true, true), (true, true), (false, false), (false, false), (false, false), (false, false), (false, false), (false, false), (false, false), (false, false), (false, false), (false, false), (false, false), (false, false), (false, false), (false, false), (false, false)] ⟨rfl, rfl, rfl, rfl, rfl, rfl, rfl, rfl, rfl, rfl, rfl, rfl, rfl, rfl, rfl, rfl, rfl, trivial⟩ ?_
    exact Goes.ret [] (.tuple #[strV [65, 66, 67], .bool true]) fun w' hm hI => ⟨rfl, bel0 hI⟩
  by_cases h16 : op = 16
  · subst h16
    refine Goes.run [0, 0, 0, 0, 0, 0, 0, 0, 0, 0, 0, 0, 0, 0, 0, 0, 1, 1] [(true, true), (true, true), (false, false), (false, false), (false, false), (false, false), (false, false), (false, false), (false, false), (false, false), (false, false), (false, false), (false, false), (false, false), (false, false), (false, false), (false, false), (false, false)] ⟨rfl, rfl, rfl, rfl, rfl, rfl, rfl, rfl, rfl, rfl, rfl, rfl, rfl, rfl, rfl, rfl, rfl, rfl, trivial⟩ ?_
    exact Goes.ret [] (.tuple #[strV [65, 66, 67], .bool true]) fun w' hm hI => ⟨rfl, bel0 hI⟩
  by_cases h17 : op = 17
  · subst h17
    refine Goes.run [0, 0, 0, 0, 0, 0, 0, 0, 0, 0, 0, 0, 0, 0, 0, 0, 0, 1] [(true, true), (false, false), (false, false), (false, false), (false, false), (false, false), (false, false), (false, false), (false, false), (false, false), (false, false), (false, false), (false, false), (false, false), (false, false), (false, false), (false, false), (false, false)] ⟨rfl, rfl, rfl, rfl, rfl, rfl, rfl, rfl, rfl, rfl, rfl, rfl, rfl, rfl, rfl, rfl, rfl, rfl, trivial⟩ ?_
    exact Goes.ret [] (.tuple #[strV [65, 66, 67], .bool true]) fun w' hm hI => ⟨rfl, bel0 hI⟩
  by_cases h18 : op = 18
  · subst h18
    refine Goes.run [0, 0, 0, 0, 0, 1] [(true, true), (false, false), (false, false), (false, false), (false, false), (false, false)] ⟨rfl, rfl, rfl, rfl, rfl, rfl, trivial⟩ ?_
    exact Goes.ret [] (.tuple #[strV [65, 66], .bool true]) fun w' hm hI => ⟨rfl, bel0 hI⟩
  by_cases h19 : op = 19
  · subst h19
    refine Goes.run [0, 0, 0, 0, 0, 0, 0, 0, 0, 0, 0, 0, 0, 0, 0, 0, 0, 0, 1] [(true, true), (false, false), (false, false), (false, false), (false, false), (false, false), (false, false), (false, false), (false, false), (false, false), (false, false), (false, false), (false, false), (false, false), (false, false), (false, false), (false, false), (false, false), (false, false)] ⟨rfl, rfl, rfl, rfl, rfl, rfl, rfl, rfl, rfl, rfl, rfl, rfl, rfl, rfl, rfl, rfl, rfl, rfl, rfl, trivial⟩ ?_
    exact Goes.ret [] (.tuple #[strV [66, 84], .bool true]) fun w' hm hI => ⟨rfl, bel0 hI⟩
  by_cases h20 : op = 20
  · subst h20
    refine Goes.run [0, 0, 0, 0, 0, 0, 0, 0, 0, 0, 0, 0, 0, 0, 0, 0, 0, 0, 0, 1] [(true, true), (false, false), (false, false), (false, false), (false, false), (false, false), (false, false), (false, false), (false, false), (false, false), (false, false), (false, false), (false, false), (false, false), (false, false), (false, false), (false, false), (false, false), (false, false), (false, false)] ⟨rfl, rfl, rfl, rfl, rfl, rfl, rfl, rfl, rfl, rfl, rfl, rfl, rfl, rfl, rfl, rfl, rfl, rfl, rfl, rfl, trivial⟩ ?_
    exact Goes.ret [] (.tuple #[strV [84], .bool true]) fun w' hm hI => ⟨rfl, bel0 hI⟩
  by_cases h21 : op = 21
  · subst h21
    refine Goes.run [0, 0, 0, 0, 0, 0, 0, 0, 0, 0, 0, 0, 0, 0, 0, 0, 0, 0, 0, 0, 1, 1] [(true, true), (true, true), (false, false), (false, false), (false, false), (false, false), (false, false), (false, false), (false, false), (false, false), (false, false), (false, false), (false, false), (false, false), (false, false), (false, false), (false, false), (false, false), (false, false), (false, false), (false, false), (false, false)] ⟨rfl, rfl, rfl, rfl, rfl, rfl, rfl, rfl, rfl, rfl, rfl, rfl, rfl, rfl, rfl, rfl, rfl, rfl, rfl, rfl, rfl, rfl, trivial⟩ ?_
    exact Goes.ret [] (.tuple #[strV [78, 84], .bool true]) fun w' hm hI => ⟨rfl, bel0 hI⟩
  by_cases h22 : op = 22
  · subst h22
    refine Goes.run [0, 0, 0, 0, 0, 0, 0, 0, 0, 0, 0, 0, 0, 0, 0, 0, 0, 0, 0, 0, 0, 1] [(true, true), (false, false), (false, false), (false, false), (false, false), (false, false), (false, false), (false, false), (false, false), (false, false), (false, false), (false, false), (false, false), (false, false), (false, false), (false, false), (false, false), (false, false), (false, false), (false, false), (false, false), (false, false)] ⟨rfl, rfl, rfl, rfl, rfl, rfl, rfl, rfl, rfl, rfl, rfl, rfl, rfl, rfl, rfl, rfl, rfl, rfl, rfl, rfl, rfl, rfl, trivial⟩ ?_
    exact Goes.ret [] (.tuple #[strV [78, 84], .bool true]) fun w' hm hI => ⟨rfl, bel0 hI⟩
  by_cases h23 : op = 23
  · subst h23
    refine Goes.run [0, 0, 0, 0, 0, 0, 0, 0, 0, 0, 0, 0, 0, 0, 0, 0, 0, 0, 0, 0, 0, 0, 1, 1] [(true, true), (true, true), (false, false), (false, false), (false, false), (false, false), (false, false), (false, false), (false, false), (false, false), (false, false), (false, false), (false, false), (false, false), (false, false), (false, false), (false, false), (false, false), (false, false), (false, false), (false, false), (false, false), (false, false), (false, false)] ⟨rfl, rfl, rfl, rfl, rfl, rfl, rfl, rfl, rfl, rfl, rfl, rfl, rfl, rfl, rfl, rfl, rfl, rfl, rfl, rfl, rfl, rfl, rfl, rfl, trivial⟩ ?_
    exact Goes.ret [] (.tuple #[strV [66], .bool true]) fun w' hm hI => ⟨rfl, bel0 hI⟩
  by_cases h24 : op = 24
  · subst h24
    refine Goes.run [0, 0, 0, 0, 0, 0, 0, 0, 0, 0, 0, 0, 0, 0, 0, 0, 0, 0, 0, 0, 0, 0, 0, 0, 0, 0, 0, 0, 1, 1] [(true, true), (true, true), (false, false), (false, false), (false, false), (false, false), (false, false), (false, false), (false, false), (false, false), (false, false), (false, false), (false, false), (false, false), (false, false), (false, false), (false, false), (false, false), (false, false), (false, false), (false, false), (false, false), (false, false), (false, false), (false, false), (false, false), (false, false), (false, false), (false, false), (false, false)] ⟨rfl, rfl, rfl, rfl, rfl, rfl, rfl, rfl, rfl, rfl, rfl, rfl, rfl, rfl, rfl, rfl, rfl, rfl, rfl, rfl, rfl, rfl, rfl, rfl, rfl, rfl, rfl, rfl, rfl, rfl, trivial⟩ ?_
    exact Goes.ret [] (.tuple #[strV [], .bool true]) fun w' hm hI => ⟨rfl, bel0 hI⟩
  by_cases h25 : op = 25
  · subst h25
    refine Goes.run [0, 0, 0, 0, 0, 0, 0, 0, 0, 0, 0, 0, 0, 0, 0, 0, 0, 0, 0, 0, 0, 0, 0, 0, 1] [(true, true), (false, false), (false, false), (false, false), (false, false), (false, false), (false, false), (false, false), (false, false), (false, false), (false, false), (false, false), (false, false), (false, false), (false, false), (false, false), (false, false), (false, false), (false, false), (false, false), (false, false), (false, false), (false, false), (false, false), (false, false)] ⟨rfl, rfl, rfl, rfl, rfl, rfl, rfl, rfl, rfl, rfl, rfl, rfl, rfl, rfl, rfl, rfl, rfl, rfl, rfl, rfl, rfl, rfl, rfl, rfl, rfl, trivial⟩ ?_
    exact Goes.ret [] (.tuple #[strV [65], .bool true]) fun w' hm hI => ⟨rfl, bel0 hI⟩
  by_cases h26 : op = 26
  · subst h26
    refine Goes.run [0, 0, 0, 0, 0, 0, 0, 0, 0, 0, 0, 0, 0, 0, 0, 0, 0, 0, 0, 0, 0, 0, 0, 1] [(true, true), (false, false), (false, false), (false, false), (false, false), (false, false), (false, false), (false, false), (false, false), (false, false), (false, false), (false, false), (false, false), (false, false), (false, false), (false, false), (false, false), (false, false), (false, false), (false, false), (false, false), (false, false), (false, false), (false, false)] ⟨rfl, rfl, rfl, rfl, rfl, rfl, rfl, rfl, rfl, rfl, rfl, rfl, rfl, rfl, rfl, rfl, rfl, rfl, rfl, rfl, rfl, rfl, rfl, rfl, trivial⟩ ?_
    exact Goes.ret [] (.tuple #[strV [66], .bool true]) fun w' hm hI => ⟨rfl, bel0 hI⟩
  by_cases h27 : op = 27
  · subst h27
    refine Goes.run [0, 0, 0, 0, 0, 0, 0, 0, 0, 0, 0, 0, 0, 0, 0, 0, 0, 0, 0, 0, 0, 0, 0, 0, 0, 1] [(true, true), (false, false), (false, false), (false, false), (false, false), (false, false), (false, false), (false, false), (false, false), (false, false), (false, false), (false, false), (false, false), (false, false), (false, false), (false, false), (false, false), (false, false), (false, false), (false, false), (false, false), (false, false), (false, false), (false, false), (false, false), (false, false)] ⟨rfl, rfl, rfl, rfl, rfl, rfl, rfl, rfl, rfl, rfl, rfl, rfl, rfl, rfl, rfl, rfl, rfl, rfl, rfl, rfl, rfl, rfl, rfl, rfl, rfl, rfl, trivial⟩ ?_
    exact Goes.ret [] (.tuple #[strV [83], .bool true]) fun w' hm hI => ⟨rfl, bel0 hI⟩
  by_cases h28 : op = 28
  · subst h28
    refine Goes.run [0, 0, 0, 0, 0, 0, 0, 0, 0, 0, 0, 0, 0, 0, 0, 0, 0, 0, 0, 0, 0, 0, 0, 0, 0, 0, 1, 1] [(true, true), (true, true), (false, false), (false, false), (false, false), (false, false), (false, false), (false, false), (false, false), (false, false), (false, false), (false, false), (false, false), (false, false), (false, false), (false, false), (false, false), (false, false), (false, false), (false, false), (false, false), (false, false), (false, false), (false, false), (false, false), (false, false), (false, false), (false, false)] ⟨rfl, rfl, rfl, rfl, rfl, rfl, rfl, rfl, rfl, rfl, rfl, rfl, rfl, rfl, rfl, rfl, rfl, rfl, rfl, rfl, rfl, rfl, rfl, rfl, rfl, rfl, rfl, rfl, trivial⟩ ?_
    exact Goes.ret [] (.tuple #[strV [78], .bool true]) fun w' hm hI => ⟨rfl, bel0 hI⟩
  by_cases h29 : op = 29
  · subst h29
    refine Goes.run [0, 0, 0, 0, 0, 0, 0, 0, 0, 0, 0, 0, 0, 0, 0, 0, 0, 0, 0, 0, 0, 0, 0, 0, 0, 0, 0, 1] [(true, true), (false, false), (false, false), (false, false), (false, false), (false, false), (false, false), (false, false), (false, false), (false, false), (false, false), (false, false), (false, false), (false, false), (false, false), (false, false), (false, false), (false, false), (false, false), (false, false), (false, false), (false, false), (false, false), (false, false), (false, false), (false, false), (false, false), (false, false)] ⟨rfl, rfl, rfl, rfl, rfl, rfl, rfl, rfl, rfl, rfl, rfl, rfl, rfl, rfl, rfl, rfl, rfl, rfl, rfl, rfl, rfl, rfl, rfl, rfl, rfl, rfl, rfl, rfl, trivial⟩ ?_
    exact Goes.ret [] (.tuple #[strV [78], .bool true]) fun w' hm hI => ⟨rfl, bel0 hI⟩
  by_cases h30 : op = 30
  · subst h30
    refine Goes.run [0, 0, 0, 0, 0, 0, 0, 0, 0, 0, 0, 0, 0, 0, 0, 0, 0, 0, 0, 0, 0, 0, 0, 0, 0, 0, 0, 0, 0, 1] [(true, true), (false, false), (false, false), (false, false), (false, false), (false, false), (false, false), (false, false), (false, false), (false, false), (false, false), (false, false), (false, false), (false, false), (false, false), (false, false), (false, false), (false, false), (false, false), (false, false), (false, false), (false, false), (false, false), (false, false), (false, false), (false, false), (false, false), (false, false), (false, false), (false, false)] ⟨rfl, rfl, rfl, rfl, rfl, rfl, rfl, rfl, rfl, rfl, rfl, rfl, rfl, rfl, rfl, rfl, rfl, rfl, rfl, rfl, rfl, rfl, rfl, rfl, rfl, rfl, rfl, rfl, rfl, rfl, trivial⟩ ?_
    exact Goes.ret [] (.tuple #[strV [], .bool true]) fun w' hm hI => ⟨rfl, bel0 hI⟩
  have N : ∀ {c : Int}, ¬ op = c → (op == c) = false := fun h => by rw [beq_eq_false_iff_ne]; exact h
  refine Goes.run [0, 0, 0, 0, 0, 0, 0, 0, 0, 0, 0, 0, 0, 0, 0, 0, 0, 0, 0, 0, 0, 0, 0, 0, 0, 0, 0, 0, 0, 0] [(op == 30, false), (op == 24, false), (op == 29, false), (op == 28, false), (op == 27, false), (op == 25, false), (op == 26, false), (op == 23, false), (op == 22, false), (op == 21, false), (op == 20, false), (op == 19, false), (op == 17, false), (op == 16, false), (op == 15, false), (op == 14, false), (op == 13, false), (op == 11, false), (op == 10, false), (op == 9, false), (op == 8, false), (op == 7, false), (op == 6, false), (op == 5, false), (op == 18, false), (op == 12, false), (op == 4, false), (op == 2, false), (op == 3, false), (op == 1, false)] ⟨N h30, N h24, N h29, N h28, N h27, N h25, N h26, N h23, N h22, N h21, N h20, N h19, N h17, N h16, N h15, N h14, N h13, N h11, N h10, N h9, N h8, N h7, N h6, N h5, N h18, N h12, N h4, N h2, N h3, N h1, trivial⟩ ?_
  refine Goes.ret [] (.tuple #[strV [], .bool false]) fun w' hm hI => ⟨?_, bel0 hI⟩
  have e : usesR op = ([], false) := by unfold usesR; simp only [N h1, N h3, N h2, N h4, N h12, N h18, N h5, N h6, N h7, N h8, N h9, N h10, N h11, N h13, N h14, N h15, N h16, N h17, N h19, N h20, N h21, N h22, N h23, N h26, N h25, N h27, N h28, N h29, N h24, N h30, Bool.or_self, cond_false]
  rw [e]
end Go.Proofs.YtddbiiejilcbbaaGreatDoor
namespace Go.Proofs.YtddbiiejilcbbaaGreatDoor
open Go Go.RowKit

theorem sizeW : (Tryz.prog.info? 70).map (·.size) = some 5 := by kernel_rfl
theorem idxWk (b o n cap k : Nat) (h : k < n) (w : World) : (Instr.indexAt 24 (.slice (some ⟨b, o, none⟩) n cap) (.int .i64 k)).run Tryz.prog w = .ok (.pointer (some ⟨b, o + k * 5, none⟩)) w := by go_simp
/-- A wait lies at a place. -/
def WcAt (w : World) (b o : Nat) (x : Wk) : Prop := ∀ j u, (wC x)[j]? = some u → w.cell? ⟨b, o + j, none⟩ = some u
theorem WcAt.below {w w' : World} {b o : Nat} {x : Wk} (h : WcAt w b o x) (hb : b < w.heap.size) (hB : Below w.heap.size w w') : WcAt w' b o x := fun j u hj => by rw [hB.cell (p := ⟨b, o + j, none⟩) hb]; exact h j u hj
theorem loadW {w : World} {b o : Nat} {x : Wk} (h : WcAt w b o x) : (Instr.loadAt 70 (.pointer (some ⟨b, o, none⟩))).run Tryz.prog w = .ok (wV x) w := loadAgg Tryz.isAgg70 sizeW (wC x) rfl h
def cdV (rg : Int) (aW : Option Addr) (nW cW : Nat) (aI : Option Addr) (nI cI : Nat) : Value := .agg #[.int .i64 rg, .slice aW nW cW, .slice aI nI cI]
/-- A bytecode in memory. -/
structure CdM (w : World) (aW : Option Addr) (nW cW : Nat) (aI : Option Addr) (nI cI : Nat) (k : Kd) : Prop where
  lw : k.waits.length = nW
  li : k.ins.length = nI
  cw : nW ≤ cW ∧ cW ≤ 9223372036854775807
  ci : nI ≤ cI ∧ cI ≤ 9223372036854775807
  waits : ∀ i x, k.waits[i]? = some x → x.label.length ≤ 9223372036854775807 ∧ ∃ b o, aW = some ⟨b, o, none⟩ ∧ b < w.heap.size ∧ WcAt w b (o + i * 5) x
  ins : ∀ i x, k.ins[i]? = some x → x.s.length ≤ 9223372036854775807 ∧ ∃ b o, aI = some ⟨b, o, none⟩ ∧ b < w.heap.size ∧ IcAt w b (o + i * 7) x
theorem CdM.below {w w' : World} {aW aI : Option Addr} {nW cW nI cI : Nat} {k : Kd} (h : CdM w aW nW cW aI nI cI k) (hB : Below w.heap.size w w') : CdM w' aW nW cW aI nI cI k := ⟨h.lw, h.li, h.cw, h.ci, fun i x hx => by
  obtain ⟨h0, b, o, e, hb, hc⟩ := h.waits i x hx
  exact ⟨h0, b, o, e, Nat.lt_of_lt_of_le hb hB.size, hc.below hb hB⟩, fun i x hx => by
  obtain ⟨h0, b, o, e, hb, hc⟩ := h.ins i x hx
  exact ⟨h0, b, o, e, Nat.lt_of_lt_of_le hb hB.size, hc.below hb hB⟩⟩
section
variable {w : World} {rg : Int} {aW aI : Option Addr} {nW cW nI cI : Nat}
set_option maxRecDepth 100000 in
seal rn rnN rnS Goes ans atEnd put0 put putM opened openedY putA0 putA oneSt st0 keep mkSt newSt in
theorem place_any {k : Kd} (hli : k.ins.length = nI) (n : Int) (w : World) : Calls Tryz.prog 80 #[cdV rg aW nW cW aI nI cI, .int .i64 n] w fun e w' => e = .returned (.bool (plaR k n)) ∧ Below w.heap.size w w' := by
  refine Goes.begin Tryz.func80 [] (fun _ => True) Holds.nil (by simp [Mem.ids]) (fun _ _ => trivial) ?_
  cases h0 : decide (0 ≤ n) with
  | true =>
    refine Goes.run1 [1, 0] [(decide (0 ≤ n), true)] ⟨h0, trivial⟩ fun g => ?_
    exact Goes.ret [] (.bool (decide (n < (nI : Int)))) fun w' hm hI => ⟨by unfold plaR; rw [h0, hli]; rfl, bel0 hI⟩
  | false =>
    refine Goes.run1 [0] [(decide (0 ≤ n), false)] ⟨h0, trivial⟩ fun g => ?_
    exact Goes.ret [] (.bool false) fun w' hm hI => ⟨by unfold plaR; rw [h0]; rfl, bel0 hI⟩
theorem eqEm (o : Nat) (l : List UInt8) (w : World) : (do eqGuard .eql 9 (.tmp o) (.const (strV [])) (strV l) (strV []); binOp .eql 9 (strV l) (strV []) : Sem Value).run Tryz.prog w = .ok (.bool (decide (l = []))) w := by
  have : (eqGuard .eql 9 (.tmp o) (.const (strV [])) (strV l) (strV [])).run Tryz.prog w = .ok () w := by
    unfold eqGuard strV; go_simp
  simp only [Sem.run_bind, this, Result.andThen_ok, eqlS l [] _ rfl w]
set_option maxRecDepth 100000 in
seal rn rnN rnS Goes ans atEnd put0 put putM opened openedY putA0 putA oneSt st0 keep mkSt newSt in
theorem text_any (x : Ik) (hs : x.s.length ≤ 9223372036854775807) (w : World) : Calls Tryz.prog 85 #[iV x] w fun e w' => e = .returned (.bool (txtR x)) ∧ Below w.heap.size w w' := by
  refine Goes.begin Tryz.func85 [] (fun _ => True) Holds.nil (by simp [Mem.ids]) (fun _ _ => trivial) ?_
  refine Goes.run1 [0] [] trivial fun g => ?_
  refine Goes.call0 71 #[strV x.s] (.bool (namP x.s)) (fun w' _ _ => rname_any x.s w' hs) ?_
  refine Goes.run [0] [] trivial ?_
  refine Goes.call0 134 #[strV x.s] (.bool (curP x.s)) (fun w' _ _ => rcur_any x.s w') ?_
  cases h2 : (x.op == 2) with
  | true =>
    refine Goes.run [0, 1] [(x.op == 2, true)] ⟨h2, trivial⟩ ?_
    exact Goes.ret [] (.bool (namP x.s)) fun w' hm hI => ⟨by unfold txtR; rw [h2]; rfl, bel0 hI⟩
  | false =>
  cases h27 : (x.op == 27) with
  | true =>
    refine Goes.run [0, 0, 1] [(x.op == 27, true), (x.op == 2, false)] ⟨h27, h2, trivial⟩ ?_
    exact Goes.ret [] (.bool (curP x.s)) fun w' hm hI => ⟨by unfold txtR; rw [h2, h27]; rfl, bel0 hI⟩
  | false =>
    refine Goes.upto 21 [0, 0, 0, 0] [(x.op == 27, false), (x.op == 2, false)] ⟨h27, h2, trivial⟩ ?_
    refine Goes.val (do eqGuard .eql 9 (.tmp 20) (.const (strV [])) (strV x.s) (strV []); binOp .eql 9 (strV x.s) (strV [])) (.bool (decide (x.s = []))) (fun w' _ _ => eqEm 20 x.s w') ?_
    refine Goes.run [] [] trivial ?_
    exact Goes.ret [] (.bool (decide (x.s = []))) fun w' hm hI => ⟨by unfold txtR; rw [h2, h27]; rfl, bel0 hI⟩
set_option maxRecDepth 100000 in
seal rn rnN rnS Goes ans atEnd put0 put putM opened openedY putA0 putA oneSt st0 keep mkSt newSt in
theorem number_any {k : Kd} {i : Nat} {x : Ik} (hM : CdM w aW nW cW aI nI cI k) (hx : k.ins[i]? = some x) : Calls Tryz.prog 84 #[cdV rg aW nW cW aI nI cI, .int .i64 i] w fun e w' => e = .returned (.bool (numR k i x)) ∧ Below w.heap.size w w' := by
  obtain ⟨-, bI, oI, rfl, hbI, hc⟩ := hM.ins i x hx
  have hiN : i < nI := by rw [← hM.li]; exact (List.getElem?_eq_some_iff.1 hx).1
  refine Goes.begin Tryz.func84 [] (fun _ => True) Holds.nil (by simp [Mem.ids]) (fun _ _ => trivial) ?_
  refine Goes.run1 [0] [] trivial fun g2 => ?_
  refine Goes.val (Instr.indexAt 25 (.slice (some ⟨bI, oI, none⟩) nI cI) (.int .i64 i)) (.pointer (some ⟨bI, oI + i * 7, none⟩)) (fun w' _ _ => idxIk bI oI nI cI i hiN w') ?_
  refine Goes.val (Instr.loadAt 72 (.pointer (some ⟨bI, oI + i * 7, none⟩))) (iV x) (fun w' hm hI => loadI (hc.below hbI (bel0 hI))) ?_
  refine Goes.run1 [1, 1] [] trivial fun g5 => ?_
  cases h1 : (x.op == 1) with
  | true =>
    cases hlo : decide (-1000000000000000 ≤ x.n) with
    | true =>
      refine Goes.run [1, 1, 1, 1] [(decide (-1000000000000000 ≤ x.n), true), (x.op == 1, true)] ⟨hlo, h1, trivial⟩ ?_
      exact Goes.ret [] (.bool (decide (x.n ≤ 1000000000000000))) fun w' hm hI => ⟨by unfold numR; rw [h1, hlo]; rfl, bel0 hI⟩
    | false =>
      refine Goes.run [1, 1, 0] [(decide (-1000000000000000 ≤ x.n), false), (x.op == 1, true)] ⟨hlo, h1, trivial⟩ ?_
      exact Goes.ret [] (.bool false) fun w' hm hI => ⟨by unfold numR; rw [h1, hlo]; rfl, bel0 hI⟩
  | false =>
  cases h2 : (x.op == 2) with
  | true =>
    cases hlo : decide (0 ≤ x.n) with
    | true =>
      refine Goes.run [0, 1, 1, 1, 1, 1] [(decide (0 ≤ x.n), true), (x.op == 2, true), (x.op == 2, true), (x.op == 1, false)] ⟨hlo, h2, h2, h1, trivial⟩ ?_
      exact Goes.ret [] (.bool (decide (x.n ≤ 3660))) fun w' hm hI => ⟨by unfold numR; rw [h1, h2, hlo]; rfl, bel0 hI⟩
    | false =>
      refine Goes.run [0, 1, 1, 1, 0] [(decide (0 ≤ x.n), false), (x.op == 2, true), (x.op == 2, true), (x.op == 1, false)] ⟨hlo, h2, h2, h1, trivial⟩ ?_
      exact Goes.ret [] (.bool false) fun w' hm hI => ⟨by unfold numR; rw [h1, h2, hlo]; rfl, bel0 hI⟩
  | false =>
  cases h3 : (x.op == 3) with
  | true =>
    cases hlo : decide (0 ≤ x.n) with
    | true =>
      refine Goes.run [0, 0, 1, 1, 1, 1] [(decide (0 ≤ x.n), true), (x.op == 3, true), (x.op == 2, false), (x.op == 1, false)] ⟨hlo, h3, h2, h1, trivial⟩ ?_
      exact Goes.ret [] (.bool (decide (x.n ≤ 3660))) fun w' hm hI => ⟨by unfold numR; rw [h1, h2, h3, hlo]; rfl, bel0 hI⟩
    | false =>
      refine Goes.run [0, 0, 1, 1, 0] [(decide (0 ≤ x.n), false), (x.op == 3, true), (x.op == 2, false), (x.op == 1, false)] ⟨hlo, h3, h2, h1, trivial⟩ ?_
      exact Goes.ret [] (.bool false) fun w' hm hI => ⟨by unfold numR; rw [h1, h2, h3, hlo]; rfl, bel0 hI⟩
  | false =>
  cases h21 : (x.op == 21) with
  | true =>
    cases hlo : decide (0 ≤ x.n) with
    | true =>
      refine Goes.run [0, 0, 0, 1, 1, 1, 1, 1] [(decide (0 ≤ x.n), true), (x.op == 21, true), (x.op == 21, true), (x.op == 3, false), (x.op == 2, false), (x.op == 1, false)] ⟨hlo, h21, h21, h3, h2, h1, trivial⟩ ?_
      exact Goes.ret [] (.bool (decide (x.n ≤ 73048))) fun w' hm hI => ⟨by unfold numR; rw [h1, h2, h3, h21, hlo]; rfl, bel0 hI⟩
    | false =>
      refine Goes.run [0, 0, 0, 1, 1, 1, 0] [(decide (0 ≤ x.n), false), (x.op == 21, true), (x.op == 21, true), (x.op == 3, false), (x.op == 2, false), (x.op == 1, false)] ⟨hlo, h21, h21, h3, h2, h1, trivial⟩ ?_
      exact Goes.ret [] (.bool false) fun w' hm hI => ⟨by unfold numR; rw [h1, h2, h3, h21, hlo]; rfl, bel0 hI⟩
  | false =>
  cases h22 : (x.op == 22) with
  | true =>
    cases hlo : decide (0 ≤ x.n) with
    | true =>
      refine Goes.run [0, 0, 0, 0, 1, 1, 1, 1] [(decide (0 ≤ x.n), true), (x.op == 22, true), (x.op == 21, false), (x.op == 3, false), (x.op == 2, false), (x.op == 1, false)] ⟨hlo, h22, h21, h3, h2, h1, trivial⟩ ?_
      exact Goes.ret [] (.bool (decide (x.n ≤ 73048))) fun w' hm hI => ⟨by unfold numR; rw [h1, h2, h3, h21, h22, hlo]; rfl, bel0 hI⟩
    | false =>
      refine Goes.run [0, 0, 0, 0, 1, 1, 0] [(decide (0 ≤ x.n), false), (x.op == 22, true), (x.op == 21, false), (x.op == 3, false), (x.op == 2, false), (x.op == 1, false)] ⟨hlo, h22, h21, h3, h2, h1, trivial⟩ ?_
      exact Goes.ret [] (.bool false) fun w' hm hI => ⟨by unfold numR; rw [h1, h2, h3, h21, h22, hlo]; rfl, bel0 hI⟩
  | false =>
  cases h28 : (x.op == 28) with
  | true =>
    cases hlo : decide (0 ≤ x.n) with
    | true =>
      refine Goes.run [0, 0, 0, 0, 0, 1, 1, 1, 1, 0] [(decide (0 ≤ x.n), true), (x.op == 28, true), (x.op == 22, false), (x.op == 21, false), (x.op == 3, false), (x.op == 2, false), (x.op == 1, false)] ⟨hlo, h28, h22, h21, h3, h2, h1, trivial⟩ ?_
      exact Goes.ret [] (.bool (decide (x.n < (nW : Int)))) fun w' hm hI => ⟨by unfold numR; rw [h1, h2, h3, h21, h22, h28, hlo, hM.lw]; rfl, bel0 hI⟩
    | false =>
      refine Goes.run [0, 0, 0, 0, 0, 1, 1, 0] [(decide (0 ≤ x.n), false), (x.op == 28, true), (x.op == 22, false), (x.op == 21, false), (x.op == 3, false), (x.op == 2, false), (x.op == 1, false)] ⟨hlo, h28, h22, h21, h3, h2, h1, trivial⟩ ?_
      exact Goes.ret [] (.bool false) fun w' hm hI => ⟨by unfold numR; rw [h1, h2, h3, h21, h22, h28, hlo]; rfl, bel0 hI⟩
  | false =>
  cases h29 : (x.op == 29) with
  | true =>
    cases hlo : decide (0 ≤ x.n) with
    | false =>
      refine Goes.run [0, 0, 0, 0, 0, 0, 1, 1, 0, 0] [(false, false), (decide (0 ≤ x.n), false), (x.op == 29, true), (x.op == 28, false), (x.op == 22, false), (x.op == 21, false), (x.op == 3, false), (x.op == 2, false), (x.op == 1, false)] ⟨rfl, hlo, h29, h28, h22, h21, h3, h2, h1, trivial⟩ ?_
      exact Goes.ret [] (.bool false) fun w' hm hI => ⟨by unfold numR; rw [h1, h2, h3, h21, h22, h28, h29, hlo]; rfl, bel0 hI⟩
    | true =>
    cases hhi : decide (x.n < (nW : Int)) with
    | false =>
      refine Goes.run [0, 0, 0, 0, 0, 0, 1, 1, 1, 1, 0, 0] [(decide (x.n < (nW : Int)), false), (decide (0 ≤ x.n), true), (x.op == 29, true), (x.op == 28, false), (x.op == 22, false), (x.op == 21, false), (x.op == 3, false), (x.op == 2, false), (x.op == 1, false)] ⟨hhi, hlo, h29, h28, h22, h21, h3, h2, h1, trivial⟩ ?_
      exact Goes.ret [] (.bool false) fun w' hm hI => ⟨by unfold numR; rw [h1, h2, h3, h21, h22, h28, h29, hlo, hM.lw, hhi]; rfl, bel0 hI⟩
    | true =>
      have l0 := of_decide_eq_true hlo
      have l1 := of_decide_eq_true hhi
      obtain ⟨m, hm0⟩ : ∃ m : Nat, x.n = (m : Int) := ⟨x.n.toNat, by omega⟩
      have hmW : m < nW := by omega
      obtain ⟨y, hy⟩ : ∃ y, k.waits[m]? = some y := ⟨k.waits[m]'(by rw [hM.lw]; exact hmW), by simp⟩
      obtain ⟨-, bW, oW, rfl, hbW, hcy⟩ := hM.waits m y hy
      refine Goes.run [0, 0, 0, 0, 0, 0, 1, 1, 1, 1, 0, 1, 0, 1] [(decide (x.n < (nW : Int)), true), (decide (0 ≤ x.n), true), (x.op == 29, true), (x.op == 28, false), (x.op == 22, false), (x.op == 21, false), (x.op == 3, false), (x.op == 2, false), (x.op == 1, false)] ⟨hhi, hlo, h29, h28, h22, h21, h3, h2, h1, trivial⟩ ?_
      refine Goes.val (Instr.indexAt 24 (.slice (some ⟨bW, oW, none⟩) nW cW) (.int .i64 x.n)) (.pointer (some ⟨bW, oW + m * 5, none⟩)) (fun w' _ _ => by rw [hm0]; exact idxWk bW oW nW cW m hmW w') ?_
      refine Goes.run [] [] trivial ?_
      refine Goes.val (Instr.loadAt 3 (.pointer (some ⟨bW, oW + m * 5, none⟩))) (.int .i64 y.entry) (fun w' hm hI => load1 Tryz.isAgg3 (hcy.below hbW (bel0 hI) 0 _ rfl)) ?_
      refine Goes.run [] [] trivial ?_
      exact Goes.ret [] (.bool (decide (y.entry > (i : Int)))) fun w' hm hI => ⟨by
        have e : k.waits[x.n.toNat]? = some y := by rw [hm0]; simpa using hy
        unfold numR
        rw [h1, h2, h3, h21, h22, h28, h29, hlo, hM.lw, hhi, e]
        rfl, bel0 hI⟩
  | false =>
    refine Goes.run [0, 0, 0, 0, 0, 0, 0, 1] [(x.op == 29, false), (x.op == 28, false), (x.op == 22, false), (x.op == 21, false), (x.op == 3, false), (x.op == 2, false), (x.op == 1, false)] ⟨h29, h28, h22, h21, h3, h2, h1, trivial⟩ ?_
    exact Goes.ret [] (.bool (x.n == 0)) fun w' hm hI => ⟨by unfold numR; rw [h1, h2, h3, h21, h22, h28, h29]; rfl, bel0 hI⟩
end
end Go.Proofs.YtddbiiejilcbbaaGreatDoor
namespace Go.Proofs.YtddbiiejilcbbaaGreatDoor
open Go Go.RowKit

/-- A term without kids is right, if what is its own is. -/
theorem leaf_typ {op n : Int} {s : List UInt8} (h : op = 1 ∨ op = 3 ∨ op = 4 ∨ op = 5 ∨ op = 24) : (typP (.mk op n s [])).2 = ownC op n s := by
  have hend : ∃ z, endF op [] = (z, true) ∧ tyOk z := by
    rcases h with rfl | rfl | rfl | rfl | rfl
    · exact ⟨0, by decide, by unfold tyOk; omega⟩
    · exact ⟨2, by decide, by unfold tyOk; omega⟩
    · exact ⟨0, by decide, by unfold tyOk; omega⟩
    · exact ⟨2, by decide, by unfold tyOk; omega⟩
    · exact ⟨4, by decide, by unfold tyOk; omega⟩
  obtain ⟨z, he, hz⟩ := hend
  cases ho : ownC op n s with
  | true =>
    have hF : typF 1 (.mk op n s []) = (z, true) := typ_parts.2 ⟨ho, by omega, by simp, [], by rw [tysF], he⟩
    have hO := ((tp_all (.mk op n s []) 1).1 z hz).2 hF
    refine typ_of hz ((isOfP_eq z _).2 ⟨hO, ?_⟩)
    rw [szC, szL]
    omega
  | false =>
    cases ht : (typP (.mk op n s [])).2 with
    | false => rfl
    | true =>
      have h1 := (typ_right ht).1
      have h2 : typF 1 (.mk op n s []) = ((typF 1 (.mk op n s [])).1, true) := by rw [← h1]
      have := (typ_parts.1 h2).1
      rw [ho] at this
      cases this
section
set_option maxRecDepth 100000 in
seal rn rnN rnS Goes ans atEnd put0 put putM opened openedY putA0 putA oneSt st0 keep mkSt newSt in
theorem gwithin_any (n lo hi : Int) (w : World) : Calls Tryz.prog 57 #[.int .i64 n, .int .i64 lo, .int .i64 hi] w fun e w' => e = .returned (.bool (inW n lo hi)) ∧ Below w.heap.size w w' := by
  refine Goes.begin Tryz.func57 [] (fun _ => True) Holds.nil (by simp [Mem.ids]) (fun _ _ => trivial) ?_
  cases h : decide (lo ≤ n) with
  | true =>
    refine Goes.run [1] [(decide (lo ≤ n), true)] ⟨h, trivial⟩ ?_
    exact Goes.ret [] (.bool (decide (n ≤ hi))) fun w' hm hI => ⟨by unfold inW; rw [h]; rfl, bel0 hI⟩
  | false =>
    refine Goes.run [0] [(decide (lo ≤ n), false)] ⟨h, trivial⟩ ?_
    exact Goes.ret [] (.bool false) fun w' hm hI => ⟨by unfold inW; rw [h]; rfl, bel0 hI⟩
set_option maxRecDepth 100000 in
seal rn rnN rnS Goes ans atEnd put0 put putM opened openedY putA0 putA oneSt st0 keep mkSt newSt in
theorem isterm_any (op n : Int) (s : List UInt8) (h : op = 1 ∨ op = 3 ∨ op = 4 ∨ op = 5 ∨ op = 24) (hop : -9223372036854775808 ≤ op ∧ op ≤ 9223372036854775807) (hn : -9223372036854775808 ≤ n ∧ n ≤ 9223372036854775807) (hs : s.length ≤ 9223372036854775807) (w : World) : Calls Tryz.prog 103 #[.int .i64 op, .int .i64 n, strV s] w fun e w' => e = .returned (.bool (ownC op n s)) ∧ Below w.heap.size w w' := by
  refine Goes.begin Tryz.func103 [] (fun _ => True) Holds.nil (by simp [Mem.ids]) (fun _ _ => trivial) ?_
  refine Goes.run [] [] trivial ?_
  have hN : ∀ w' : World, Nc w'.heap.size w' (cv op n s (.slice none 0 0)) (.mk op n s []) := fun w' => by
    have : NcS F0 w' (cv op n s (.slice none 0 0)) (.mk op n s []) := .mk op n s [] none 0 (fun _ => undef) ⟨by omega, by omega, by omega⟩ ⟨by simp, by omega⟩ (fun i hi => by simp at hi) (fun i t ht => by simp at ht)
    exact this.toN fun x hx => hx.elim
  refine Goes.call0 142 #[cv op n s (.slice none 0 0)] (.tuple #[.int .i64 (typP (.mk op n s [])).1, .bool (typP (.mk op n s [])).2]) (fun w' _ _ => type_any (hN w')) ?_
  refine Goes.run [] [] trivial ?_
  exact Goes.ret [] (.bool (typP (.mk op n s [])).2) fun w' hm hI => ⟨by rw [leaf_typ h], bel0 hI⟩
end
end Go.Proofs.YtddbiiejilcbbaaGreatDoor
namespace Go.Proofs.YtddbiiejilcbbaaGreatDoor
open Go Go.RowKit

def andI (a b : Int) : Int := IntKind.i64.wrap ((BitVec.ofInt 64 a &&& BitVec.ofInt 64 b).toNat : Nat)
def isF (op : Nat) (f n lo hi : Int) : Bool := bif andI (usesT.getD op 0) f == 0 then n == 0 else inW n lo hi
def ownQ (x : Ik) (nW : Nat) : Bool :=
  bif x.op == 1 then ownC 1 x.n x.s else bif x.op == 2 then decide (0 ≤ x.n) && ownC 4 x.n x.s else bif x.op == 3 then decide (0 ≤ x.n) && ownC 5 x.n x.s
  else bif x.op == 21 || x.op == 22 then ownC 3 x.n x.s else bif x.op == 27 then ownC 24 x.n x.s
  else bif x.op == 28 || x.op == 29 then decide (0 ≤ x.n) && decide (x.n < (nW : Int)) && decide (x.s = []) else x.n == 0 && decide (x.s = [])
def waitQ (x : Wk) (nI : Nat) : Bool := (bif decide (x.label = []) then x.first == 0 && x.second == 0 else ownC 4 0 x.label) && inW x.entry 0 ((nI : Int) - 1) && inW x.day 0 73048 && inW x.first 0 ((nI : Int) - 1) && inW x.second 0 ((nI : Int) - 1)
/-- A number of 64 bits. -/
def I64 (n : Int) : Prop := -9223372036854775808 ≤ n ∧ n ≤ 9223372036854775807
set_option maxRecDepth 100000 in
seal rn rnN rnS Goes ans atEnd put0 put putM opened openedY putA0 putA oneSt st0 keep mkSt newSt in
theorem isf_any {w : World} {g o : Nat} {x : Ik} (hU : TabU w) (ho : x.op = (o : Int)) (h31 : o < 31) (hg : w.heap[g]? = some (.cells #[.int .i64 x.op, .int .i64 x.a, .int .i64 x.b, .int .i64 x.c, .int .i64 x.n, strV x.s, .int .i64 x.to] 72 (0, 0))) (n f lo hi : Int) : Calls Tryz.prog 105 #[.int .i64 n, .int .i64 f, .int .i64 lo, .int .i64 hi, .pointer (some ⟨g, 0, none⟩)] w fun e w' => e = .returned (.bool (isF o f n lo hi)) ∧ Below w.heap.size w w' := by
  refine Goes.begin Tryz.func105 [(g, .cells #[.int .i64 x.op, .int .i64 x.a, .int .i64 x.b, .int .i64 x.c, .int .i64 x.n, strV x.s, .int .i64 x.to] 72 (0, 0))] (fun _ => True) (fun j c ob hj => by match j, hj with | 0, hj => (cases hj; exact hg)) (by simp [Mem.ids]) (fun _ _ => trivial) ?_
  have hM0 : Holds [(g, .cells #[.int .i64 x.op, .int .i64 x.a, .int .i64 x.b, .int .i64 x.c, .int .i64 x.n, strV x.s, .int .i64 x.to] 72 (0, 0))] w := fun j c ob hj => by match j, hj with | 0, hj => (cases hj; exact hg)
  refine Goes.run [0] [] trivial ?_
  refine Goes.val (Instr.indexAt 140 (.pointer (some ⟨0, 0, none⟩)) (.int .i64 x.op)) (.pointer (some ⟨0, o, none⟩)) (fun w' _ _ => by rw [ho]; exact idxU o h31 w') ?_
  refine Goes.val (Instr.loadAt 3 (.pointer (some ⟨0, o, none⟩))) (.int .i64 (usesT.getD o 0)) (fun w' hm hI => load1 Tryz.isAgg3 ((hU.below (below_end hM0 hI.now.1 hm (by kernel_rfl))) o h31)) ?_
  cases h : (andI (usesT.getD o 0) f == 0) with
  | true =>
    refine Goes.run [1] [(andI (usesT.getD o 0) f == 0, true)] ⟨h, trivial⟩ ?_
    exact Goes.ret [0] (.bool (n == 0)) fun w' hm hI => ⟨by unfold isF; rw [h]; rfl, below_end hM0 hI.now.1 hm (by kernel_rfl)⟩
  | false =>
    refine Goes.run [0] [(andI (usesT.getD o 0) f == 0, false)] ⟨h, trivial⟩ ?_
    refine Goes.call0 57 #[.int .i64 n, .int .i64 lo, .int .i64 hi] (.bool (inW n lo hi)) (fun w' _ _ => gwithin_any n lo hi w') ?_
    refine Goes.run [] [] trivial ?_
    exact Goes.ret [0] (.bool (inW n lo hi)) fun w' hm hI => ⟨by unfold isF; rw [h]; rfl, below_end hM0 hI.now.1 hm (by kernel_rfl)⟩
set_option maxRecDepth 100000 in
seal rn rnN rnS Goes ans atEnd put0 put putM opened openedY putA0 putA oneSt st0 keep mkSt newSt in
theorem hasown_any (x : Ik) (hn : I64 x.n) (hs : x.s.length ≤ 9223372036854775807) (nW : Nat) (w : World) : Calls Tryz.prog 104 #[iV x, .int .i64 nW] w fun e w' => e = .returned (.bool (ownQ x nW)) ∧ Below w.heap.size w w' := by
  have it : ∀ (op : Int) (h : op = 1 ∨ op = 3 ∨ op = 4 ∨ op = 5 ∨ op = 24) (w : World), Calls Tryz.prog 103 #[.int .i64 op, .int .i64 x.n, strV x.s] w fun e w' => e = .returned (.bool (ownC op x.n x.s)) ∧ Below w.heap.size w w' := fun op h w => isterm_any op x.n x.s h (by omega) hn hs w
  refine Goes.begin Tryz.func104 [] (fun _ => True) Holds.nil (by simp [Mem.ids]) (fun _ _ => trivial) ?_
  cases h1 : (x.op == 1) with
  | true =>
    refine Goes.run1 [0, 1, 0, 0] [(x.op == 1, true)] ⟨h1, trivial⟩ fun g => ?_
    refine Goes.call0 103 #[.int .i64 1, .int .i64 x.n, strV x.s] (.bool (ownC 1 x.n x.s)) (fun w' _ _ => it 1 (by omega) w') ?_
    refine Goes.run [] [] trivial ?_
    exact Goes.ret [] (.bool (ownC 1 x.n x.s)) fun w' hm hI => ⟨by unfold ownQ; rw [h1]; rfl, bel0 hI⟩
  | false =>
  cases h2 : (x.op == 2) with
  | true =>
    cases h0 : decide (0 ≤ x.n) with
    | false =>
      refine Goes.run1 [0, 0, 1, 0, 0] [(decide (0 ≤ x.n), false), (x.op == 2, true), (x.op == 1, false)] ⟨h0, h2, h1, trivial⟩ fun g => ?_
      exact Goes.ret [] (.bool false) fun w' hm hI => ⟨by unfold ownQ; rw [h1, h2, h0]; rfl, bel0 hI⟩
    | true =>
      refine Goes.run1 [0, 0, 1, 0, 1, 0, 0] [(decide (0 ≤ x.n), true), (x.op == 2, true), (x.op == 1, false)] ⟨h0, h2, h1, trivial⟩ fun g => ?_
      refine Goes.call0 103 #[.int .i64 4, .int .i64 x.n, strV x.s] (.bool (ownC 4 x.n x.s)) (fun w' _ _ => it 4 (by omega) w') ?_
      refine Goes.run [] [] trivial ?_
      exact Goes.ret [] (.bool (ownC 4 x.n x.s)) fun w' hm hI => ⟨by unfold ownQ; rw [h1, h2, h0]; rfl, bel0 hI⟩
  | false =>
  cases h3 : (x.op == 3) with
  | true =>
    cases h0 : decide (0 ≤ x.n) with
    | false =>
      refine Goes.run1 [0, 0, 0, 1, 0, 0] [(decide (0 ≤ x.n), false), (x.op == 3, true), (x.op == 2, false), (x.op == 1, false)] ⟨h0, h3, h2, h1, trivial⟩ fun g => ?_
      exact Goes.ret [] (.bool false) fun w' hm hI => ⟨by unfold ownQ; rw [h1, h2, h3, h0]; rfl, bel0 hI⟩
    | true =>
      refine Goes.run1 [0, 0, 0, 1, 0, 1, 0, 0] [(decide (0 ≤ x.n), true), (x.op == 3, true), (x.op == 2, false), (x.op == 1, false)] ⟨h0, h3, h2, h1, trivial⟩ fun g => ?_
      refine Goes.call0 103 #[.int .i64 5, .int .i64 x.n, strV x.s] (.bool (ownC 5 x.n x.s)) (fun w' _ _ => it 5 (by omega) w') ?_
      refine Goes.run [] [] trivial ?_
      exact Goes.ret [] (.bool (ownC 5 x.n x.s)) fun w' hm hI => ⟨by unfold ownQ; rw [h1, h2, h3, h0]; rfl, bel0 hI⟩
  | false =>
  cases h21 : (x.op == 21) with
  | true =>
    refine Goes.run1 [0, 0, 0, 0, 1, 1, 0, 0] [(x.op == 21, true), (x.op == 21, true), (x.op == 3, false), (x.op == 2, false), (x.op == 1, false)] ⟨h21, h21, h3, h2, h1, trivial⟩ fun g => ?_
    refine Goes.call0 103 #[.int .i64 3, .int .i64 x.n, strV x.s] (.bool (ownC 3 x.n x.s)) (fun w' _ _ => it 3 (by omega) w') ?_
    refine Goes.run [] [] trivial ?_
    exact Goes.ret [] (.bool (ownC 3 x.n x.s)) fun w' hm hI => ⟨by unfold ownQ; rw [h1, h2, h3, h21]; rfl, bel0 hI⟩
  | false =>
  cases h22 : (x.op == 22) with
  | true =>
    refine Goes.run1 [0, 0, 0, 0, 0, 1, 0, 0] [(x.op == 22, true), (x.op == 21, false), (x.op == 3, false), (x.op == 2, false), (x.op == 1, false)] ⟨h22, h21, h3, h2, h1, trivial⟩ fun g => ?_
    refine Goes.call0 103 #[.int .i64 3, .int .i64 x.n, strV x.s] (.bool (ownC 3 x.n x.s)) (fun w' _ _ => it 3 (by omega) w') ?_
    refine Goes.run [] [] trivial ?_
    exact Goes.ret [] (.bool (ownC 3 x.n x.s)) fun w' hm hI => ⟨by unfold ownQ; rw [h1, h2, h3, h21, h22]; rfl, bel0 hI⟩
  | false =>
  cases h27 : (x.op == 27) with
  | true =>
    refine Goes.run1 [0, 0, 0, 0, 0, 0, 1, 0, 0] [(x.op == 27, true), (x.op == 22, false), (x.op == 21, false), (x.op == 3, false), (x.op == 2, false), (x.op == 1, false)] ⟨h27, h22, h21, h3, h2, h1, trivial⟩ fun g => ?_
    refine Goes.call0 103 #[.int .i64 24, .int .i64 x.n, strV x.s] (.bool (ownC 24 x.n x.s)) (fun w' _ _ => it 24 (by omega) w') ?_
    refine Goes.run [] [] trivial ?_
    exact Goes.ret [] (.bool (ownC 24 x.n x.s)) fun w' hm hI => ⟨by unfold ownQ; rw [h1, h2, h3, h21, h22, h27]; rfl, bel0 hI⟩
  | false =>
  cases h28 : (x.op == 28) with
  | true =>
    cases h0 : decide (0 ≤ x.n) with
    | false =>
      refine Goes.run1 [0, 0, 0, 0, 0, 0, 0, 1, 1, 0, 0, 0] [(false, false), (decide (0 ≤ x.n), false), (x.op == 28, true), (x.op == 28, true), (x.op == 27, false), (x.op == 22, false), (x.op == 21, false), (x.op == 3, false), (x.op == 2, false), (x.op == 1, false)] ⟨rfl, h0, h28, h28, h27, h22, h21, h3, h2, h1, trivial⟩ fun g => ?_
      exact Goes.ret [] (.bool false) fun w' hm hI => ⟨by unfold ownQ; rw [h1, h2, h3, h21, h22, h27, h28, h0]; rfl, bel0 hI⟩
    | true =>
      cases hw : decide (x.n < (nW : Int)) with
      | false =>
        refine Goes.run1 [0, 0, 0, 0, 0, 0, 0, 1, 1, 0, 1, 0, 0] [(decide (x.n < (nW : Int)), false), (decide (0 ≤ x.n), true), (x.op == 28, true), (x.op == 28, true), (x.op == 27, false), (x.op == 22, false), (x.op == 21, false), (x.op == 3, false), (x.op == 2, false), (x.op == 1, false)] ⟨hw, h0, h28, h28, h27, h22, h21, h3, h2, h1, trivial⟩ fun g => ?_
        exact Goes.ret [] (.bool false) fun w' hm hI => ⟨by unfold ownQ; rw [h1, h2, h3, h21, h22, h27, h28, h0, hw]; rfl, bel0 hI⟩
      | true =>
        refine Goes.run1 [0, 0, 0, 0, 0, 0, 0, 1, 1, 0, 1] [(decide (0 ≤ x.n), true), (x.op == 28, true), (x.op == 28, true), (x.op == 27, false), (x.op == 22, false), (x.op == 21, false), (x.op == 3, false), (x.op == 2, false), (x.op == 1, false)] ⟨h0, h28, h28, h27, h22, h21, h3, h2, h1, trivial⟩ fun g => ?_
        refine Goes.upto 68 [0, 1, 0] [(decide (x.n < (nW : Int)), true)] ⟨hw, trivial⟩ ?_
        refine Goes.val (do eqGuard .eql 9 (.tmp 67) (.const (strV [])) (strV x.s) (strV []); binOp .eql 9 (strV x.s) (strV [])) (.bool (decide (x.s = []))) (fun w' _ _ => eqEm 67 x.s w') ?_
        refine Goes.run [] [] trivial ?_
        exact Goes.ret [] (.bool (decide (x.s = []))) fun w' hm hI => ⟨by unfold ownQ; rw [h1, h2, h3, h21, h22, h27, h28, h0, hw]; rfl, bel0 hI⟩
  | false =>
  cases h29 : (x.op == 29) with
  | true =>
    cases h0 : decide (0 ≤ x.n) with
    | false =>
      refine Goes.run1 [0, 0, 0, 0, 0, 0, 0, 0, 1, 0, 0, 0] [(false, false), (decide (0 ≤ x.n), false), (x.op == 29, true), (x.op == 28, false), (x.op == 27, false), (x.op == 22, false), (x.op == 21, false), (x.op == 3, false), (x.op == 2, false), (x.op == 1, false)] ⟨rfl, h0, h29, h28, h27, h22, h21, h3, h2, h1, trivial⟩ fun g => ?_
      exact Goes.ret [] (.bool false) fun w' hm hI => ⟨by unfold ownQ; rw [h1, h2, h3, h21, h22, h27, h28, h29, h0]; rfl, bel0 hI⟩
    | true =>
      cases hw : decide (x.n < (nW : Int)) with
      | false =>
        refine Goes.run1 [0, 0, 0, 0, 0, 0, 0, 0, 1, 0, 1, 0, 0] [(decide (x.n < (nW : Int)), false), (decide (0 ≤ x.n), true), (x.op == 29, true), (x.op == 28, false), (x.op == 27, false), (x.op == 22, false), (x.op == 21, false), (x.op == 3, false), (x.op == 2, false), (x.op == 1, false)] ⟨hw, h0, h29, h28, h27, h22, h21, h3, h2, h1, trivial⟩ fun g => ?_
        exact Goes.ret [] (.bool false) fun w' hm hI => ⟨by unfold ownQ; rw [h1, h2, h3, h21, h22, h27, h28, h29, h0, hw]; rfl, bel0 hI⟩
      | true =>
        refine Goes.run1 [0, 0, 0, 0, 0, 0, 0, 0, 1, 0, 1] [(decide (0 ≤ x.n), true), (x.op == 29, true), (x.op == 28, false), (x.op == 27, false), (x.op == 22, false), (x.op == 21, false), (x.op == 3, false), (x.op == 2, false), (x.op == 1, false)] ⟨h0, h29, h28, h27, h22, h21, h3, h2, h1, trivial⟩ fun g => ?_
        refine Goes.upto 68 [0, 1, 0] [(decide (x.n < (nW : Int)), true)] ⟨hw, trivial⟩ ?_
        refine Goes.val (do eqGuard .eql 9 (.tmp 67) (.const (strV [])) (strV x.s) (strV []); binOp .eql 9 (strV x.s) (strV [])) (.bool (decide (x.s = []))) (fun w' _ _ => eqEm 67 x.s w') ?_
        refine Goes.run [] [] trivial ?_
        exact Goes.ret [] (.bool (decide (x.s = []))) fun w' hm hI => ⟨by unfold ownQ; rw [h1, h2, h3, h21, h22, h27, h28, h29, h0, hw]; rfl, bel0 hI⟩
  | false =>
  cases h0 : (x.n == 0) with
  | false =>
    refine Goes.run1 [0, 0, 0, 0, 0, 0, 0, 0, 0, 0, 0] [(x.n == 0, false), (x.op == 29, false), (x.op == 28, false), (x.op == 27, false), (x.op == 22, false), (x.op == 21, false), (x.op == 3, false), (x.op == 2, false), (x.op == 1, false)] ⟨h0, h29, h28, h27, h22, h21, h3, h2, h1, trivial⟩ fun g => ?_
    exact Goes.ret [] (.bool false) fun w' hm hI => ⟨by unfold ownQ; rw [h1, h2, h3, h21, h22, h27, h28, h29, h0]; rfl, bel0 hI⟩
  | true =>
    refine Goes.run1 [0, 0, 0, 0, 0, 0, 0, 0, 0, 0] [(x.op == 29, false), (x.op == 28, false), (x.op == 27, false), (x.op == 22, false), (x.op == 21, false), (x.op == 3, false), (x.op == 2, false), (x.op == 1, false)] ⟨h29, h28, h27, h22, h21, h3, h2, h1, trivial⟩ fun g => ?_
    refine Goes.upto 76 [1, 0] [(x.n == 0, true)] ⟨h0, trivial⟩ ?_
    refine Goes.val (do eqGuard .eql 9 (.tmp 75) (.const (strV [])) (strV x.s) (strV []); binOp .eql 9 (strV x.s) (strV [])) (.bool (decide (x.s = []))) (fun w' _ _ => eqEm 75 x.s w') ?_
    refine Goes.run [] [] trivial ?_
    exact Goes.ret [] (.bool (decide (x.s = []))) fun w' hm hI => ⟨by unfold ownQ; rw [h1, h2, h3, h21, h22, h27, h28, h29, h0]; rfl, bel0 hI⟩
end Go.Proofs.YtddbiiejilcbbaaGreatDoor
namespace Go.Proofs.YtddbiiejilcbbaaGreatDoor
open Go Go.RowKit

noncomputable def iwSt : St := (rnS Tryz.prog 24 [1, 0, 0, 0, 0, 0] [] (put0 (rnS Tryz.prog 10 [0] [] (rn Tryz.prog [] [0] (st0 Tryz.f58 #[wV ⟨0, 0, [], 0, 0⟩, .int .i64 1] [])).st).st (.bool true))).st
noncomputable def iwK : List TI := (rnS Tryz.prog 32 [0, 0] [] (put0 iwSt (.bool false))).st.todo
theorem neEm (o : Nat) (l : List UInt8) (w : World) : (do eqGuard .neq 9 (.tmp o) (.const (strV [])) (strV l) (strV []); binOp .neq 9 (strV l) (strV []) : Sem Value).run Tryz.prog w = .ok (.bool (!decide (l = []))) w := by
  have : (eqGuard .neq 9 (.tmp o) (.const (strV [])) (strV l) (strV [])).run Tryz.prog w = .ok () w := by
    unfold eqGuard strV; go_simp
  simp only [Sem.run_bind, this, Result.andThen_ok, neqS l [] (!decide (l = [])) (by simp) w]
set_option maxRecDepth 100000 in
seal rn rnN rnS Goes ans atEnd put0 put putM opened openedY putA0 putA oneSt st0 keep mkSt newSt iwSt iwK in
theorem iswait_any (x : Wk) (nI : Nat) (hI9 : 1 ≤ nI ∧ nI ≤ 20000) (hl : x.label.length ≤ 9223372036854775807) (w : World) : Calls Tryz.prog 58 #[wV x, .int .i64 nI] w fun e w' => e = .returned (.bool (waitQ x nI)) ∧ Below w.heap.size w w' := by
  have hwr : IntKind.i64.wrap ((nI : Int) - 1) = (nI : Int) - 1 := IntWalk.i64_in _ ⟨by omega, by omega⟩
  refine Goes.begin Tryz.func58 [] (fun _ => True) Holds.nil (by simp [Mem.ids]) (fun _ _ => trivial) ?_
  refine Goes.run1 [] [] trivial fun g => ?_
  have rest : ∀ J, (bif decide (x.label = []) then x.first == 0 && x.second == 0 else ownC 4 0 x.label) = true → Goes Tryz.prog (bodyPost Tryz.prog Tryz.f58 (fun e w' => e = .returned (.bool (waitQ x nI)) ∧ Below w.heap.size w w')) (fun w' => Ch (Mem.ids []) w w' ∧ True) ⟨iwK, fr 53 [(2, .pointer (some ⟨g, 0, none⟩)), (4, .bool false), (5, .int .i64 ((nI : Int) - 1))] J, [(g, .cells #[.int .i64 x.entry, .int .i64 x.day, strV x.label, .int .i64 x.first, .int .i64 x.second] 70 (0, 0))]⟩ := fun J h0 => by
    have e0 : waitQ x nI = (inW x.entry 0 ((nI : Int) - 1) && inW x.day 0 73048 && inW x.first 0 ((nI : Int) - 1) && inW x.second 0 ((nI : Int) - 1)) := by unfold waitQ; rw [h0, Bool.true_and]
    rw [e0]
    refine Goes.run [0] [] trivial ?_
    refine Goes.call0 57 #[.int .i64 x.entry, .int .i64 0, .int .i64 ((nI : Int) - 1)] (.bool (inW x.entry 0 ((nI : Int) - 1))) (fun w' _ _ => gwithin_any _ _ _ w') ?_
    cases h1 : inW x.entry 0 ((nI : Int) - 1) with
    | false =>
      refine Goes.run [0, 0, 0] [(false, false), (false, false), (false, false)] ⟨rfl, rfl, rfl, trivial⟩ ?_
      exact Goes.ret [] (.bool false) fun w' hm hI => ⟨rfl, bel0 hI⟩
    | true =>
    refine Goes.run [1, 0] [(true, true)] ⟨rfl, trivial⟩ ?_
    refine Goes.call0 57 #[.int .i64 x.day, .int .i64 0, .int .i64 73048] (.bool (inW x.day 0 73048)) (fun w' _ _ => gwithin_any _ _ _ w') ?_
    cases h2 : inW x.day 0 73048 with
    | false =>
      refine Goes.run [0, 0] [(false, false), (false, false)] ⟨rfl, rfl, trivial⟩ ?_
      exact Goes.ret [] (.bool false) fun w' hm hI => ⟨rfl, bel0 hI⟩
    | true =>
    refine Goes.run [1, 0] [(true, true)] ⟨rfl, trivial⟩ ?_
    refine Goes.call0 57 #[.int .i64 x.first, .int .i64 0, .int .i64 ((nI : Int) - 1)] (.bool (inW x.first 0 ((nI : Int) - 1))) (fun w' _ _ => gwithin_any _ _ _ w') ?_
    cases h3 : inW x.first 0 ((nI : Int) - 1) with
    | false =>
      refine Goes.run [0] [(false, false)] ⟨rfl, trivial⟩ ?_
      exact Goes.ret [] (.bool false) fun w' hm hI => ⟨rfl, bel0 hI⟩
    | true =>
    refine Goes.run [1, 0] [(true, true)] ⟨rfl, trivial⟩ ?_
    refine Goes.call0 57 #[.int .i64 x.second, .int .i64 0, .int .i64 ((nI : Int) - 1)] (.bool (inW x.second 0 ((nI : Int) - 1))) (fun w' _ _ => gwithin_any _ _ _ w') ?_
    refine Goes.run [] [] trivial ?_
    exact Goes.ret [] (.bool (inW x.second 0 ((nI : Int) - 1))) fun w' hm hI => ⟨rfl, bel0 hI⟩
  have no : (bif decide (x.label = []) then x.first == 0 && x.second == 0 else ownC 4 0 x.label) = false → waitQ x nI = false := fun h => by unfold waitQ; rw [h]; rfl
  refine Goes.slot 5 (.int .i64 ((nI : Int) - 1)) (u := .int .i64 (IntKind.i64.wrap ((nI : Int) - 1))) (congrArg _ hwr) ?_
  refine Goes.upto 10 [0] [] trivial ?_
  refine Goes.val (do eqGuard .eql 9 (.tmp 9) (.const (strV [])) (strV x.label) (strV []); binOp .eql 9 (strV x.label) (strV [])) (.bool (decide (x.label = []))) (fun w' _ _ => eqEm 9 x.label w') ?_
  cases hL : decide (x.label = []) with
  | true =>
    rw [hL] at rest no
    cases hf : (x.first == 0) with
    | false =>
      refine Goes.run [1, 0, 1, 1, 1] [(true, true), (true, true), (x.first != 0, true), (true, true)] ⟨rfl, rfl, by unfold bne; rw [hf]; rfl, rfl, trivial⟩ ?_
      exact Goes.ret [] (.bool false) fun w' hm hI => ⟨by rw [no (by rw [hf]; rfl)], bel0 hI⟩
    | true =>
    cases hs : (x.second == 0) with
    | false =>
      refine Goes.run [1, 0, 0, 0, 1, 1] [(true, true), (x.second != 0, true), (x.first != 0, false), (true, true)] ⟨rfl, by unfold bne; rw [hs]; rfl, by unfold bne; rw [hf]; rfl, rfl, trivial⟩ ?_
      exact Goes.ret [] (.bool false) fun w' hm hI => ⟨by rw [no (by rw [hf, hs]; rfl)], bel0 hI⟩
    | true =>
      refine Goes.upto 24 [1, 0, 0, 0, 0, 0] [(x.second != 0, false), (x.first != 0, false), (true, true)] ⟨by unfold bne; rw [hs]; rfl, by unfold bne; rw [hf]; rfl, rfl, trivial⟩ ?_
      refine Goes.val (do eqGuard .neq 9 (.tmp 23) (.const (strV [])) (strV x.label) (strV []); binOp .neq 9 (strV x.label) (strV [])) (.bool (!decide (x.label = []))) (fun w' _ _ => neEm 23 x.label w') ?_
      refine Goes.slot 24 (.bool false) (u := .bool (!decide (x.label = []))) (congrArg _ (by rw [hL]; rfl)) ?_
      refine Goes.upto 32 [0, 0] [(false, false), (false, false)] ⟨rfl, rfl, trivial⟩ ?_
      exact Goes.at (K := iwK) (n := 53) (S := [(2, .pointer (some ⟨g, 0, none⟩)), (4, .bool false), (5, .int .i64 ((nI : Int) - 1))]) (m := [(g, .cells #[.int .i64 x.entry, .int .i64 x.day, strV x.label, .int .i64 x.first, .int .i64 x.second] 70 (0, 0))]) (fun J => rest J (by rw [hf, hs]; rfl)) (by kernel_rfl) (by kernel_rfl) (by kernel_rfl)
  | false =>
    rw [hL] at rest no
    refine Goes.upto 24 [0, 0, 0] [(false, false), (false, false)] ⟨rfl, rfl, trivial⟩ ?_
    refine Goes.val (do eqGuard .neq 9 (.tmp 23) (.const (strV [])) (strV x.label) (strV []); binOp .neq 9 (strV x.label) (strV [])) (.bool (!decide (x.label = []))) (fun w' _ _ => neEm 23 x.label w') ?_
    refine Goes.slot 24 (.bool true) (u := .bool (!decide (x.label = []))) (congrArg _ (by rw [hL]; rfl)) ?_
    refine Goes.run [1, 0] [(true, true)] ⟨rfl, trivial⟩ ?_
    refine Goes.call0 103 #[.int .i64 4, .int .i64 0, strV x.label] (.bool (ownC 4 0 x.label)) (fun w' _ _ => isterm_any 4 0 x.label (by omega) (by omega) (by omega) hl w') ?_
    cases ho : ownC 4 0 x.label with
    | false =>
      refine Goes.run [1] [(true, true)] ⟨rfl, trivial⟩ ?_
      exact Goes.ret [] (.bool false) fun w' hm hI => ⟨by rw [no (by rw [ho]; rfl)], bel0 hI⟩
    | true =>
      refine Goes.upto 32 [0] [(false, false)] ⟨rfl, trivial⟩ ?_
      exact Goes.at (K := iwK) (n := 53) (S := [(2, .pointer (some ⟨g, 0, none⟩)), (4, .bool false), (5, .int .i64 ((nI : Int) - 1))]) (m := [(g, .cells #[.int .i64 x.entry, .int .i64 x.day, strV x.label, .int .i64 x.first, .int .i64 x.second] 70 (0, 0))]) (fun J => rest J (by rw [ho]; rfl)) (by kernel_rfl) (by kernel_rfl) (by kernel_rfl)
end Go.Proofs.YtddbiiejilcbbaaGreatDoor
namespace Go.Proofs.YtddbiiejilcbbaaGreatDoor
open Go Go.RowKit

section
variable {w : World} {rg : Int} {aW aI : Option Addr} {nW cW nI cI : Nat}
set_option maxRecDepth 100000 in
seal rn rnN rnS Goes ans atEnd put0 put putM opened openedY putA0 putA oneSt st0 keep mkSt newSt in
theorem wait_any {k : Kd} (hM : CdM w aW nW cW aI nI cI k) {x : Wk} (hl : x.label.length ≤ 9223372036854775807) (w : World) : Calls Tryz.prog 45 #[cdV rg aW nW cW aI nI cI, wV x] w fun e w' => e = .returned (.bool (waiR k x)) ∧ Below w.heap.size w w' := by
  refine Goes.begin Tryz.func45 [] (fun _ => True) Holds.nil (by simp [Mem.ids]) (fun _ _ => trivial) ?_
  refine Goes.run2 [0, 1] [] trivial fun g2 g3 => ?_
  refine Goes.call0 80 #[cdV rg aW nW cW aI nI cI, .int .i64 x.entry] (.bool (plaR k x.entry)) (fun w' _ _ => place_any hM.li x.entry w') ?_
  have fls : ∀ b : Bool, plaR k x.entry = b → (b && decide (0 ≤ x.day) && decide (x.day ≤ 73048)) = false → waiR k x = false := fun b h1 h2 => by unfold waiR; rw [h1, h2]; rfl
  cases hp : plaR k x.entry with
  | false =>
    refine Goes.run [1, 1, 1] [(true, true), (true, true), (true, true)] ⟨rfl, rfl, rfl, trivial⟩ ?_
    exact Goes.ret [] (.bool false) fun w' hm hI => ⟨by rw [fls _ hp rfl], bel0 hI⟩
  | true =>
  cases h0 : decide (x.day < 0) with
  | true =>
    refine Goes.run [0, 1, 1, 1] [(true, true), (decide (x.day < 0), true), (false, false)] ⟨rfl, h0, rfl, trivial⟩ ?_
    exact Goes.ret [] (.bool false) fun w' hm hI => ⟨by rw [fls _ hp (by rw [decide_eq_false (show ¬ 0 ≤ x.day by have := of_decide_eq_true h0; omega)]; rfl)], bel0 hI⟩
  | false =>
  have d0 : decide (0 ≤ x.day) = true := decide_eq_true (by have := of_decide_eq_false h0; omega)
  cases h1 : decide (x.day > 73048) with
  | true =>
    refine Goes.run [0, 1, 0, 1, 1] [(decide (x.day > 73048), true), (decide (x.day < 0), false), (false, false)] ⟨h1, h0, rfl, trivial⟩ ?_
    exact Goes.ret [] (.bool false) fun w' hm hI => ⟨by rw [fls _ hp (by rw [d0, decide_eq_false (show ¬ x.day ≤ 73048 by have := of_decide_eq_true h1; omega)]; rfl)], bel0 hI⟩
  | false =>
  have d1 : decide (x.day ≤ 73048) = true := decide_eq_true (by have := of_decide_eq_false h1; omega)
  have e0 : waiR k x = (bif decide (x.label = []) then x.first == 0 && x.second == 0 else namP x.label && plaR k x.first && plaR k x.second) := by unfold waiR; rw [hp, d0, d1]; rfl
  refine Goes.upto 27 [0, 1, 0, 1, 0, 1] [(decide (x.day > 73048), false), (decide (x.day < 0), false), (false, false)] ⟨h1, h0, rfl, trivial⟩ ?_
  refine Goes.val (do eqGuard .eql 9 (.tmp 26) (.const (strV [])) (strV x.label) (strV []); binOp .eql 9 (strV x.label) (strV [])) (.bool (decide (x.label = []))) (fun w' _ _ => eqEm 26 x.label w') ?_
  cases hL : decide (x.label = []) with
  | true =>
    rw [hL] at e0
    cases hf : (x.first == 0) with
    | true =>
      refine Goes.run [1, 1, 1, 1] [((x.first == 0), true), (true, true)] ⟨hf, rfl, trivial⟩ ?_
      exact Goes.ret [] (.bool (x.second == 0)) fun w' hm hI => ⟨by rw [e0, hf]; rfl, bel0 hI⟩
    | false =>
      refine Goes.run [1, 1, 0] [((x.first == 0), false), (true, true)] ⟨hf, rfl, trivial⟩ ?_
      exact Goes.ret [] (.bool false) fun w' hm hI => ⟨by rw [e0, hf]; rfl, bel0 hI⟩
  | false =>
    rw [hL] at e0
    refine Goes.run [0, 1] [(false, false)] ⟨rfl, trivial⟩ ?_
    refine Goes.call0 71 #[strV x.label] (.bool (namP x.label)) (fun w' _ _ => rname_any x.label w' hl) ?_
    refine Goes.run [0, 1] [] trivial ?_
    refine Goes.call0 80 #[cdV rg aW nW cW aI nI cI, .int .i64 x.first] (.bool (plaR k x.first)) (fun w' _ _ => place_any hM.li x.first w') ?_
    refine Goes.run [0, 1] [] trivial ?_
    refine Goes.call0 80 #[cdV rg aW nW cW aI nI cI, .int .i64 x.second] (.bool (plaR k x.second)) (fun w' _ _ => place_any hM.li x.second w') ?_
    cases hn : namP x.label with
    | false =>
      refine Goes.run [0, 0] [(false, false), (false, false)] ⟨rfl, rfl, trivial⟩ ?_
      exact Goes.ret [] (.bool false) fun w' hm hI => ⟨by rw [e0, hn]; rfl, bel0 hI⟩
    | true =>
      cases hf : plaR k x.first with
      | false =>
        refine Goes.run [1, 0] [(false, false), (true, true)] ⟨rfl, rfl, trivial⟩ ?_
        exact Goes.ret [] (.bool false) fun w' hm hI => ⟨by rw [e0, hn, hf]; rfl, bel0 hI⟩
      | true =>
        refine Goes.run [1, 1] [(true, true), (true, true)] ⟨rfl, rfl, trivial⟩ ?_
        exact Goes.ret [] (.bool (plaR k x.second)) fun w' hm hI => ⟨by rw [e0, hn, hf]; rfl, bel0 hI⟩
set_option maxRecDepth 100000 in
seal rn rnN rnS Goes ans atEnd put0 put putM opened openedY putA0 putA oneSt st0 keep mkSt newSt in
theorem instr_any {k : Kd} {i : Nat} {x : Ik} (hM : CdM w aW nW cW aI nI cI k) (hx : k.ins[i]? = some x) (hrg : k.regs = rg) : Calls Tryz.prog 46 #[cdV rg aW nW cW aI nI cI, .int .i64 i] w fun e w' => e = .returned (.bool (insR k i x)) ∧ Below w.heap.size w w' := by
  have hM0 := hM
  obtain ⟨hs, bI, oI, rfl, hbI, hc⟩ := hM.ins i x hx
  have hiN : i < nI := by rw [← hM.li]; exact (List.getElem?_eq_some_iff.1 hx).1
  have hu : (usesR x.op).1.length ≤ 100 := by
    have key : ∀ b : Bool, ∀ p q : List UInt8 × Bool, p.1.length ≤ 100 → q.1.length ≤ 100 → (bif b then p else q).1.length ≤ 100 := fun b p q h1 h2 => by cases b <;> assumption
    unfold usesR
    repeat' first | (refine key _ _ _ ?_ ?_) | decide
  refine Goes.begin Tryz.func46 [] (fun _ => True) Holds.nil (by simp [Mem.ids]) (fun _ _ => trivial) ?_
  refine Goes.run1 [0] [] trivial fun g2 => ?_
  refine Goes.val (Instr.indexAt 25 (.slice (some ⟨bI, oI, none⟩) nI cI) (.int .i64 i)) (.pointer (some ⟨bI, oI + i * 7, none⟩)) (fun w' _ _ => idxIk bI oI nI cI i hiN w') ?_
  refine Goes.val (Instr.loadAt 72 (.pointer (some ⟨bI, oI + i * 7, none⟩))) (iV x) (fun w' hm hI => loadI (hc.below hbI (bel0 hI))) ?_
  refine Goes.run1 [1, 1] [] trivial fun g5 => ?_
  refine Goes.call0 81 #[.int .i64 x.op] (.tuple #[strV (usesR x.op).1, .bool (usesR x.op).2]) (fun w' _ _ => uses_any x.op w') ?_
  refine Goes.run [] [] trivial ?_
  refine Goes.open [0, 1] ?_
  refine Goes.run [0, 1, 1, 2, 4, 5, 0] [] trivial ?_
  refine Goes.callA0 3 83 #[strV (usesR x.op).1, .int .u8 65] (.bool (hasR (usesR x.op).1 65)) (fun w' _ _ => has_any (usesR x.op).1 65 hu w') ?_
  refine Goes.callA0 6 82 #[.int .i64 x.a, .bool (hasR (usesR x.op).1 65), .int .i64 rg] (.bool (regR x.a (hasR (usesR x.op).1 65) rg)) (fun w' _ _ => register_any x.a rg _ w') ?_
  refine Goes.run [7] [] trivial ?_
  refine Goes.run [] [] trivial ?_
  refine Goes.open [0, 1] ?_
  refine Goes.run [0, 1, 1, 2, 4, 5, 0] [] trivial ?_
  refine Goes.callA0 3 83 #[strV (usesR x.op).1, .int .u8 66] (.bool (hasR (usesR x.op).1 66)) (fun w' _ _ => has_any (usesR x.op).1 66 hu w') ?_
  refine Goes.callA0 6 82 #[.int .i64 x.b, .bool (hasR (usesR x.op).1 66), .int .i64 rg] (.bool (regR x.b (hasR (usesR x.op).1 66) rg)) (fun w' _ _ => register_any x.b rg _ w') ?_
  refine Goes.run [7] [] trivial ?_
  refine Goes.run [] [] trivial ?_
  refine Goes.open [0, 1] ?_
  refine Goes.run [0, 1, 1, 2, 4, 5, 0] [] trivial ?_
  refine Goes.callA0 3 83 #[strV (usesR x.op).1, .int .u8 67] (.bool (hasR (usesR x.op).1 67)) (fun w' _ _ => has_any (usesR x.op).1 67 hu w') ?_
  refine Goes.callA0 6 82 #[.int .i64 x.c, .bool (hasR (usesR x.op).1 67), .int .i64 rg] (.bool (regR x.c (hasR (usesR x.op).1 67) rg)) (fun w' _ _ => register_any x.c rg _ w') ?_
  refine Goes.run [7] [] trivial ?_
  refine Goes.run [0] [] trivial ?_
  refine Goes.call0 84 #[cdV rg aW nW cW (some ⟨bI, oI, none⟩) nI cI, .int .i64 i] (.bool (numR k i x)) (fun w' _ hI => number_any (hM.below (bel0 hI)) hx) ?_
  refine Goes.run [1] [] trivial ?_
  refine Goes.call0 85 #[iV x] (.bool (txtR x)) (fun w' _ _ => text_any x hs w') ?_
  refine Goes.run [] [] trivial ?_
  refine Goes.call0 83 #[strV (usesR x.op).1, .int .u8 84] (.bool (hasR (usesR x.op).1 84)) (fun w' _ _ => has_any (usesR x.op).1 84 hu w') ?_
  have e0 : insR k i x = ((usesR x.op).2 && regR x.a (hasR (usesR x.op).1 65) rg && regR x.b (hasR (usesR x.op).1 66) rg && regR x.c (hasR (usesR x.op).1 67) rg && numR k i x && txtR x && toR k i x) := by unfold insR; rw [hrg]
  have et : toR k i x = (bif hasR (usesR x.op).1 84 then decide (x.to > (i : Int)) && decide (x.to < (nI : Int)) else x.to == 0) := by unfold toR; rw [hM0.li]
  rw [e0, et]
  clear e0 et
  generalize hasR (usesR x.op).1 84 = goes
  generalize (usesR x.op).2 = bp
  generalize regR x.a (hasR (usesR x.op).1 65) rg = bq
  generalize regR x.b (hasR (usesR x.op).1 66) rg = br
  generalize regR x.c (hasR (usesR x.op).1 67) rg = bs
  generalize numR k i x = bt
  generalize txtR x = bu
  cases bp with
  | false =>
    refine Goes.run [0, 0, 0, 0, 0, 0] [(false, false), (false, false), (false, false), (false, false), (false, false), (false, false)] ⟨rfl, rfl, rfl, rfl, rfl, rfl, trivial⟩ ?_
    exact Goes.ret [] (.bool false) fun w' hm hI => ⟨by simp, bel0 hI⟩
  | true =>
  cases bq with
  | false =>
    refine Goes.run [1, 0, 0, 0, 0, 0] [(false, false), (false, false), (false, false), (false, false), (false, false), (true, true)] ⟨rfl, rfl, rfl, rfl, rfl, rfl, trivial⟩ ?_
    exact Goes.ret [] (.bool false) fun w' hm hI => ⟨by simp, bel0 hI⟩
  | true =>
  cases br with
  | false =>
    refine Goes.run [1, 1, 0, 0, 0, 0] [(false, false), (false, false), (false, false), (false, false), (true, true), (true, true)] ⟨rfl, rfl, rfl, rfl, rfl, rfl, trivial⟩ ?_
    exact Goes.ret [] (.bool false) fun w' hm hI => ⟨by simp, bel0 hI⟩
  | true =>
  cases bs with
  | false =>
    refine Goes.run [1, 1, 1, 0, 0, 0] [(false, false), (false, false), (false, false), (true, true), (true, true), (true, true)] ⟨rfl, rfl, rfl, rfl, rfl, rfl, trivial⟩ ?_
    exact Goes.ret [] (.bool false) fun w' hm hI => ⟨by simp, bel0 hI⟩
  | true =>
  cases bt with
  | false =>
    refine Goes.run [1, 1, 1, 1, 0, 0] [(false, false), (false, false), (true, true), (true, true), (true, true), (true, true)] ⟨rfl, rfl, rfl, rfl, rfl, rfl, trivial⟩ ?_
    exact Goes.ret [] (.bool false) fun w' hm hI => ⟨by simp, bel0 hI⟩
  | true =>
  cases bu with
  | false =>
    refine Goes.run [1, 1, 1, 1, 1, 0] [(false, false), (true, true), (true, true), (true, true), (true, true), (true, true)] ⟨rfl, rfl, rfl, rfl, rfl, rfl, trivial⟩ ?_
    exact Goes.ret [] (.bool false) fun w' hm hI => ⟨by simp, bel0 hI⟩
  | true =>
  cases goes with
  | false =>
    refine Goes.run [1, 1, 1, 1, 1, 1, 0, 0, 0, 1, 1] [(true, true), (false, false), (false, false), (false, false), (true, true), (true, true), (true, true), (true, true), (true, true), (true, true)] ⟨rfl, rfl, rfl, rfl, rfl, rfl, rfl, rfl, rfl, rfl, trivial⟩ ?_
    exact Goes.ret [] (.bool (x.to == 0)) fun w' hm hI => ⟨by simp, bel0 hI⟩
  | true =>
    cases h1 : decide (x.to > (i : Int)) with
    | false =>
      refine Goes.run [1, 1, 1, 1, 1, 1, 1, 1, 0, 0, 0] [(false, false), (false, false), (decide (x.to > (i : Int)), false), (true, true), (true, true), (true, true), (true, true), (true, true), (true, true), (true, true)] ⟨rfl, rfl, h1, rfl, rfl, rfl, rfl, rfl, rfl, rfl, trivial⟩ ?_
      exact Goes.ret [] (.bool false) fun w' hm hI => ⟨by simp, bel0 hI⟩
    | true =>
      cases h2 : decide (x.to < (nI : Int)) with
      | true =>
        refine Goes.run [1, 1, 1, 1, 1, 1, 1, 1, 1, 1, 0, 1] [(decide (x.to < (nI : Int)), true), (decide (x.to > (i : Int)), true), (true, true), (true, true), (true, true), (true, true), (true, true), (true, true), (true, true)] ⟨h2, h1, rfl, rfl, rfl, rfl, rfl, rfl, rfl, trivial⟩ ?_
        exact Goes.ret [] (.bool true) fun w' hm hI => ⟨by simp, bel0 hI⟩
      | false =>
        refine Goes.run [1, 1, 1, 1, 1, 1, 1, 1, 1, 1, 0, 0, 0] [(false, false), (decide (x.to < (nI : Int)), false), (decide (x.to > (i : Int)), true), (true, true), (true, true), (true, true), (true, true), (true, true), (true, true), (true, true)] ⟨rfl, h2, h1, rfl, rfl, rfl, rfl, rfl, rfl, rfl, trivial⟩ ?_
        exact Goes.ret [] (.bool false) fun w' hm hI => ⟨by simp, bel0 hI⟩
end
end Go.Proofs.YtddbiiejilcbbaaGreatDoor
namespace Go.Proofs.YtddbiiejilcbbaaGreatDoor
open Go Go.RowKit

theorem insL_drop {k : Kd} {j : Nat} {x : Ik} (hx : k.ins[j]? = some x) : insL k (j : Int) (k.ins.drop j) = (insR k j x && insL k ((j + 1 : Nat) : Int) (k.ins.drop (j + 1))) := by
  rw [drop_any hx, insL]
  rw [show ((j + 1 : Nat) : Int) = (j : Int) + 1 by omega]
theorem all_drop {α : Type} {p : α → Bool} {l : List α} {j : Nat} {x : α} (hx : l[j]? = some x) : (l.drop j).all p = (p x && (l.drop (j + 1)).all p) := by
  have h := (List.getElem?_eq_some_iff.1 hx)
  obtain ⟨h1, h2⟩ := h
  rw [List.drop_eq_getElem_cons h1, h2]
  rfl
section
variable {w : World} {rg : Int} {aW aI : Option Addr} {nW cW nI cI : Nat}
set_option maxRecDepth 100000 in
seal rn rnN rnS Goes ans atEnd put0 put putM opened openedY putA0 putA oneSt st0 keep mkSt newSt in
theorem rright_any {k : Kd} (hM : CdM w aW nW cW aI nI cI k) (hrg : k.regs = rg) : Calls Tryz.prog 20 #[cdV rg aW nW cW aI nI cI] w fun e w' => e = .returned (.bool (rightR k)) ∧ Below w.heap.size w w' := by
  have hi0 := hM.li
  have hw0 := hM.lw
  have eh : headR k = (decide (0 ≤ rg) && decide (rg ≤ 256) && decide (nW ≤ 250) && decide (1 ≤ nI) && decide (nI ≤ 16384) && (match k.ins[nI - 1]? with | some x => x.op == 30 | none => false)) := by unfold headR; first | (rw [hrg, hi0, hw0]; done) | (rw [hrg, hi0, hw0]; rfl)
  have no : headR k = false → rightR k = false := fun h => by unfold rightR; rw [h]; rfl
  refine Goes.begin Tryz.func20 [] (fun _ => True) Holds.nil (by simp [Mem.ids]) (fun _ _ => trivial) ?_
  cases h0 : decide (rg < 0) with
  | true =>
    refine Goes.run1 [0, 0, 1, 1, 1, 1, 1, 1] [(true, true), (true, true), (true, true), (true, true), (true, true), (decide (rg < 0), true)] ⟨rfl, rfl, rfl, rfl, rfl, h0, trivial⟩ fun g => ?_
    exact Goes.ret [] (.bool false) fun w' hm hI => ⟨by rw [no (by rw [eh, decide_eq_false (show ¬ 0 ≤ rg by have := of_decide_eq_true h0; omega)]; simp)], bel0 hI⟩
  | false =>
  cases h1 : decide (rg > 256) with
  | true =>
    refine Goes.run1 [0, 0, 0, 0, 1, 1, 1, 1, 1] [(true, true), (true, true), (true, true), (true, true), (decide (rg > 256), true), (decide (rg < 0), false)] ⟨rfl, rfl, rfl, rfl, h1, h0, trivial⟩ fun g => ?_
    exact Goes.ret [] (.bool false) fun w' hm hI => ⟨by rw [no (by rw [eh, decide_eq_false (show ¬ rg ≤ 256 by have := of_decide_eq_true h1; omega)]; simp)], bel0 hI⟩
  | false =>
  cases h2 : decide ((nW : Int) > 250) with
  | true =>
    refine Goes.run1 [0, 0, 0, 0, 0, 0, 1, 1, 1, 1] [(true, true), (true, true), (true, true), (decide ((nW : Int) > 250), true), (decide (rg > 256), false), (decide (rg < 0), false)] ⟨rfl, rfl, rfl, h2, h1, h0, trivial⟩ fun g => ?_
    exact Goes.ret [] (.bool false) fun w' hm hI => ⟨by rw [no (by rw [eh, decide_eq_false (show ¬ nW ≤ 250 by have := of_decide_eq_true h2; omega)]; simp)], bel0 hI⟩
  | false =>
  cases h3 : decide ((nI : Int) < 1) with
  | true =>
    refine Goes.run1 [0, 0, 0, 0, 0, 0, 0, 1, 1, 1] [(true, true), (true, true), (decide ((nI : Int) < 1), true), (decide ((nW : Int) > 250), false), (decide (rg > 256), false), (decide (rg < 0), false)] ⟨rfl, rfl, h3, h2, h1, h0, trivial⟩ fun g => ?_
    exact Goes.ret [] (.bool false) fun w' hm hI => ⟨by rw [no (by rw [eh, decide_eq_false (show ¬ 1 ≤ nI by have := of_decide_eq_true h3; omega)]; simp)], bel0 hI⟩
  | false =>
  cases h4 : decide ((nI : Int) > 16384) with
  | true =>
    refine Goes.run1 [0, 0, 0, 0, 0, 0, 0, 0, 1, 1] [(true, true), (decide ((nI : Int) > 16384), true), (decide ((nI : Int) < 1), false), (decide ((nW : Int) > 250), false), (decide (rg > 256), false), (decide (rg < 0), false)] ⟨rfl, h4, h3, h2, h1, h0, trivial⟩ fun g => ?_
    exact Goes.ret [] (.bool false) fun w' hm hI => ⟨by rw [no (by rw [eh, decide_eq_false (show ¬ nI ≤ 16384 by have := of_decide_eq_true h4; omega)]; simp)], bel0 hI⟩
  | false =>
  have f0 : 0 ≤ rg := by have := of_decide_eq_false h0; omega
  have f1 : rg ≤ 256 := by have := of_decide_eq_false h1; omega
  have f2 : nW ≤ 250 := by have := of_decide_eq_false h2; omega
  have f3 : 1 ≤ nI := by have := of_decide_eq_false h3; omega
  have f4 : nI ≤ 16384 := by have := of_decide_eq_false h4; omega
  obtain ⟨z, hz⟩ : ∃ z, k.ins[nI - 1]? = some z := ⟨k.ins[nI - 1]'(by rw [hi0]; omega), by simp⟩
  have eh2 : headR k = (z.op == 30) := by rw [eh, decide_eq_true f0, decide_eq_true f1, decide_eq_true f2, decide_eq_true f3, decide_eq_true f4, hz]; rfl
  obtain ⟨-, bI, oI, haI, hbI, hcz⟩ := hM.ins (nI - 1) z hz
  have hwr : IntKind.i64.wrap ((nI : Int) - 1) = ((nI - 1 : Nat) : Int) := by rw [IntWalk.i64_in _ ⟨by omega, by omega⟩]; omega
  refine Goes.run1 [0, 0, 0, 0, 0, 0, 0, 0, 0, 0] [(decide ((nI : Int) > 16384), false), (decide ((nI : Int) < 1), false), (decide ((nW : Int) > 250), false), (decide (rg > 256), false), (decide (rg < 0), false)] ⟨h4, h3, h2, h1, h0, trivial⟩ fun g => ?_
  refine Goes.val (Instr.indexAt 25 (.slice aI nI cI) (.int .i64 (IntKind.i64.wrap ((nI : Int) - 1)))) (.pointer (some ⟨bI, oI + (nI - 1) * 7, none⟩)) (fun w' _ _ => by rw [hwr, haI]; exact idxIk bI oI nI cI (nI - 1) (by omega) w') ?_
  refine Goes.run [] [] trivial ?_
  refine Goes.val (Instr.loadAt 3 (.pointer (some ⟨bI, oI + (nI - 1) * 7, none⟩))) (.int .i64 z.op) (fun w' hm hI => load1 Tryz.isAgg3 (hcz.below hbI (bel0 hI) 0 _ rfl)) ?_
  cases hop : (z.op == 30) with
  | false =>
    refine Goes.run [1] [(z.op != 30, true)] ⟨by unfold bne; rw [hop]; rfl, trivial⟩ ?_
    exact Goes.ret [] (.bool false) fun w' hm hI => ⟨by rw [no (by rw [eh2, hop])], bel0 hI⟩
  | true =>
  have er : rightR k = (k.waits.all (waiR k) && insL k 0 k.ins) := by unfold rightR; rw [eh2, hop]; rfl
  refine Goes.run [0] [(z.op != 30, false)] ⟨by unfold bne; rw [hop]; rfl, trivial⟩ ?_
  refine Goes.loop0 (α := Nat) 69 (fun j => [(1, .pointer (some ⟨g, 0, none⟩)), (3, .int .i64 nI), (4, .int .i64 j)]) [(g, .cells #[.int .i64 rg, .slice aW nW cW, .slice aI nI cI] 27 (0, 0))] (fun j => k.waits.all (waiR k) = (k.waits.drop j).all (waiR k) ∧ j ≤ nW) (fun j => nW - j) 0 ⟨rfl, Nat.zero_le _⟩ ?_
  rintro j J ⟨hj, hj2⟩ back
  cases hlt : decide ((j : Int) < (nW : Int)) with
  | true =>
    have hjl : j < nW := by have := of_decide_eq_true hlt; omega
    obtain ⟨x, hx⟩ : ∃ x, k.waits[j]? = some x := ⟨k.waits[j]'(by rw [hw0]; exact hjl), by simp⟩
    obtain ⟨hlab, bW, oW, haW, hbW, hcx⟩ := hM.waits j x hx
    refine Goes.run [0, 0, 1] [(decide ((j : Int) < (nW : Int)), true)] ⟨hlt, trivial⟩ ?_
    refine Goes.open [] ?_
    refine Goes.run [1, 3] [] trivial ?_
    refine Goes.two 0 2 ?_ ?_
    · refine TookS.run 0 0 ?_
      refine Goes.lone1 2 ?_
      refine TookS.run 2 0 ?_
      refine Goes.valA 4 (Instr.indexAt 24 (.slice aW nW cW) (.int .i64 j)) (.pointer (some ⟨bW, oW + j * 5, none⟩)) (fun w' _ => by rw [haW]; exact idxWk bW oW nW cW j hjl w') ?_
      refine Goes.lone1 5 ?_
      refine TookS.eff 5 (Instr.loadAt 70 (.pointer (some ⟨bW, oW + j * 5, none⟩))) fun w1 hm1 hn1 hI1 => ⟨wV x, w1, _, _, loadW (hcx.below hbW (bel0 hI1)), hm1, hn1, hI1, ?_⟩
      refine Goes.lone1 6 ?_
      refine TookS.call 6 45 #[cdV rg aW nW cW aI nI cI, wV x] fun w1 hm1 hn1 hI1 => (wait_any hM hlab w1).mono fun e w2 ⟨he, hB⟩ => ⟨_, _, _, he, hm1.bel hB, hn1, hI1.bel hB, ?_⟩
      refine Goes.run [7] [] trivial ?_
      cases hwx : waiR k x with
      | false =>
        refine Goes.run [1] [(true, true)] ⟨rfl, trivial⟩ ?_
        exact Goes.ret [] (.bool false) fun w' hm hI => ⟨by rw [er, hj, all_drop hx, hwx]; rfl, bel0 hI⟩
      | true =>
        refine Goes.run [0] [(false, false)] ⟨rfl, trivial⟩ ?_
        refine Goes.slot 4 (.int .i64 (j + 1 : Nat)) (u := .int .i64 (IntKind.i64.wrap ((j : Int) + 1))) (congrArg _ (wrap_nat (by omega))) ?_
        exact back (j + 1) _ ⟨by rw [hj, all_drop hx, hwx]; rfl, by omega⟩ (by omega) (by kernel_rfl) (by kernel_rfl) (by kernel_rfl)
    · skip
      refine TookS.run 2 0 ?_
      refine Goes.valA 4 (Instr.indexAt 24 (.slice aW nW cW) (.int .i64 j)) (.pointer (some ⟨bW, oW + j * 5, none⟩)) (fun w' _ => by rw [haW]; exact idxWk bW oW nW cW j hjl w') ?_
      refine Goes.two 0 5 ?_ ?_
      · refine TookS.run 0 0 ?_
        refine Goes.lone1 5 ?_
        refine TookS.eff 5 (Instr.loadAt 70 (.pointer (some ⟨bW, oW + j * 5, none⟩))) fun w1 hm1 hn1 hI1 => ⟨wV x, w1, _, _, loadW (hcx.below hbW (bel0 hI1)), hm1, hn1, hI1, ?_⟩
        refine Goes.lone1 6 ?_
        refine TookS.call 6 45 #[cdV rg aW nW cW aI nI cI, wV x] fun w1 hm1 hn1 hI1 => (wait_any hM hlab w1).mono fun e w2 ⟨he, hB⟩ => ⟨_, _, _, he, hm1.bel hB, hn1, hI1.bel hB, ?_⟩
        refine Goes.run [7] [] trivial ?_
        cases hwx : waiR k x with
        | false =>
          refine Goes.run [1] [(true, true)] ⟨rfl, trivial⟩ ?_
          exact Goes.ret [] (.bool false) fun w' hm hI => ⟨by rw [er, hj, all_drop hx, hwx]; rfl, bel0 hI⟩
        | true =>
          refine Goes.run [0] [(false, false)] ⟨rfl, trivial⟩ ?_
          refine Goes.slot 4 (.int .i64 (j + 1 : Nat)) (u := .int .i64 (IntKind.i64.wrap ((j : Int) + 1))) (congrArg _ (wrap_nat (by omega))) ?_
          exact back (j + 1) _ ⟨by rw [hj, all_drop hx, hwx]; rfl, by omega⟩ (by omega) (by kernel_rfl) (by kernel_rfl) (by kernel_rfl)
      · skip
        refine TookS.eff 5 (Instr.loadAt 70 (.pointer (some ⟨bW, oW + j * 5, none⟩))) fun w1 hm1 hn1 hI1 => ⟨wV x, w1, _, _, loadW (hcx.below hbW (bel0 hI1)), hm1, hn1, hI1, ?_⟩
        refine Goes.lone1 0 (TookS.run 0 0 ?_)
        refine Goes.lone1 6 ?_
        refine TookS.call 6 45 #[cdV rg aW nW cW aI nI cI, wV x] fun w1 hm1 hn1 hI1 => (wait_any hM hlab w1).mono fun e w2 ⟨he, hB⟩ => ⟨_, _, _, he, hm1.bel hB, hn1, hI1.bel hB, ?_⟩
        refine Goes.run [7] [] trivial ?_
        cases hwx : waiR k x with
        | false =>
          refine Goes.run [1] [(true, true)] ⟨rfl, trivial⟩ ?_
          exact Goes.ret [] (.bool false) fun w' hm hI => ⟨by rw [er, hj, all_drop hx, hwx]; rfl, bel0 hI⟩
        | true =>
          refine Goes.run [0] [(false, false)] ⟨rfl, trivial⟩ ?_
          refine Goes.slot 4 (.int .i64 (j + 1 : Nat)) (u := .int .i64 (IntKind.i64.wrap ((j : Int) + 1))) (congrArg _ (wrap_nat (by omega))) ?_
          exact back (j + 1) _ ⟨by rw [hj, all_drop hx, hwx]; rfl, by omega⟩ (by omega) (by kernel_rfl) (by kernel_rfl) (by kernel_rfl)
  | false =>
    have hjw : k.waits.all (waiR k) = true := by rw [hj, List.drop_of_length_le (by rw [hw0]; have := of_decide_eq_false hlt; omega)]; rfl
    rw [hjw, Bool.true_and] at er
    refine Goes.run [0, 0, 0] [(decide ((j : Int) < (nW : Int)), false)] ⟨hlt, trivial⟩ ?_
    clear back hj hj2 hlt
    refine Goes.loop0 (α := Nat) 69 (fun j => [(1, .pointer (some ⟨g, 0, none⟩)), (3, .int .i64 nI), (6, .int .i64 j)]) [(g, .cells #[.int .i64 rg, .slice aW nW cW, .slice aI nI cI] 27 (0, 0))] (fun j => insL k 0 k.ins = insL k j (k.ins.drop j) ∧ j ≤ nI) (fun j => nI - j) 0 ⟨rfl, Nat.zero_le _⟩ ?_
    rintro i J2 ⟨hj, hj2⟩ back
    cases hlt : decide ((i : Int) < (nI : Int)) with
    | false =>
      refine Goes.run [0, 0] [(decide ((i : Int) < (nI : Int)), false)] ⟨hlt, trivial⟩ ?_
      exact Goes.ret [] (.bool true) fun w' hm hI => ⟨by rw [er, hj, List.drop_of_length_le (by rw [hi0]; have := of_decide_eq_false hlt; omega)]; rfl, bel0 hI⟩
    | true =>
      have hjl : i < nI := by have := of_decide_eq_true hlt; omega
      obtain ⟨x, hx⟩ : ∃ x, k.ins[i]? = some x := ⟨k.ins[i]'(by rw [hi0]; exact hjl), by simp⟩
      refine Goes.run [0, 1, 0] [(decide ((i : Int) < (nI : Int)), true)] ⟨hlt, trivial⟩ ?_
      refine Goes.call0 46 #[cdV rg aW nW cW aI nI cI, .int .i64 i] (.bool (insR k i x)) (fun w' _ hI => instr_any (hM.below (bel0 hI)) hx hrg) ?_
      cases hix : insR k i x with
      | false =>
        refine Goes.run [1] [(true, true)] ⟨rfl, trivial⟩ ?_
        exact Goes.ret [] (.bool false) fun w' hm hI => ⟨by rw [er, hj, insL_drop hx, hix]; rfl, bel0 hI⟩
      | true =>
        refine Goes.run [0] [(false, false)] ⟨rfl, trivial⟩ ?_
        refine Goes.slot 6 (.int .i64 (i + 1 : Nat)) (u := .int .i64 (IntKind.i64.wrap ((i : Int) + 1))) (congrArg _ (wrap_nat (by omega))) ?_
        exact back (i + 1) _ ⟨by rw [hj, insL_drop hx, hix]; rfl, by omega⟩ (by omega) (by kernel_rfl) (by kernel_rfl) (by kernel_rfl)
end
end Go.Proofs.YtddbiiejilcbbaaGreatDoor
namespace Go.Proofs.YtddbiiejilcbbaaGreatDoor
open Go Go.RowKit

/-- Does an instruction go on behind its own place, where it calls a wait? -/
def callQ (k : Kd) (i : Int) (x : Ik) : Bool := !(x.op == 29 && (match k.waits[x.n.toNat]? with | some y => decide (y.entry ≤ i) | none => false))
def instrQ (k : Kd) (i : Int) (x : Ik) : Bool := inW x.op 1 30 && ownQ x k.waits.length && callQ k i x && isF x.op.toNat 1 x.a 0 (k.regs - 1) && isF x.op.toNat 2 x.b 0 (k.regs - 1) && isF x.op.toNat 4 x.c 0 (k.regs - 1) && isF x.op.toNat 8 x.to (i + 1) ((k.ins.length : Int) - 1)
def instrQL (k : Kd) : Int → List Ik → Bool
  | _, [] => true
  | i, x :: r => instrQ k i x && instrQL k (i + 1) r
theorem instrQL_drop {k : Kd} {j : Nat} {x : Ik} (hx : k.ins[j]? = some x) : instrQL k (j : Int) (k.ins.drop j) = (instrQ k j x && instrQL k ((j + 1 : Nat) : Int) (k.ins.drop (j + 1))) := by
  rw [drop_any hx, instrQL]
  rw [show ((j + 1 : Nat) : Int) = (j : Int) + 1 by omega]
def headQ (k : Kd) : Bool := inW k.regs 0 256 && decide (k.waits.length ≤ 250) && inW (k.ins.length : Int) 1 16384 && (match k.ins[k.ins.length - 1]? with | some x => x.op == 30 | none => false)
def rightQ (k : Kd) : Bool := headQ k && k.waits.all (fun x => waitQ x k.ins.length) && instrQL k 0 k.ins
/-- Its numbers are of 64 bits. -/
def Kd.wf (k : Kd) : Prop := ∀ x ∈ k.ins, I64 x.n
noncomputable def inSt : St := (rn Tryz.prog [0, 1, 0] [] (put0 (rn Tryz.prog [1, 1] [1] (put0 (put0 (rn Tryz.prog [0] [0] (st0 Tryz.f59 #[cdV 0 none 0 0 (some ⟨9, 0, none⟩) 1 1, .int .i64 0] [])).st (.pointer (some ⟨9, 0, none⟩))) (iV ⟨30, 0, 0, 0, 0, [], 0⟩))).st (.bool true))).st
noncomputable def inK : List TI := (rnS Tryz.prog 39 [0, 1, 0, 0] [] (put0 inSt (.bool true))).st.todo
section
variable {w : World} {rg : Int} {aW aI : Option Addr} {nW cW nI cI : Nat}
set_option maxRecDepth 100000 in
seal rn rnN rnS Goes ans atEnd put0 put putM opened openedY putA0 putA oneSt st0 keep mkSt newSt inSt inK in
theorem isinstr_any {k : Kd} {i : Nat} {x : Ik} (hU : TabU w) (hM : CdM w aW nW cW aI nI cI k) (hx : k.ins[i]? = some x) (hrg : k.regs = rg) (hr0 : 0 ≤ rg ∧ rg ≤ 256) (hn : I64 x.n) (hI9 : nI ≤ 20000) : Calls Tryz.prog 59 #[cdV rg aW nW cW aI nI cI, .int .i64 i] w fun e w' => e = .returned (.bool (instrQ k i x)) ∧ Below w.heap.size w w' := by
  obtain ⟨hs, bI, oI, rfl, hbI, hc⟩ := hM.ins i x hx
  have hiN : i < nI := by rw [← hM.li]; exact (List.getElem?_eq_some_iff.1 hx).1
  have er : instrQ k i x = (inW x.op 1 30 && ownQ x nW && callQ k i x && isF x.op.toNat 1 x.a 0 (rg - 1) && isF x.op.toNat 2 x.b 0 (rg - 1) && isF x.op.toNat 4 x.c 0 (rg - 1) && isF x.op.toNat 8 x.to ((i : Int) + 1) ((nI : Int) - 1)) := by unfold instrQ; rw [hM.lw, hM.li, hrg]
  rw [er]
  refine Goes.begin Tryz.func59 [] (fun _ => True) Holds.nil (by simp [Mem.ids]) (fun _ _ => trivial) ?_
  refine Goes.run1 [0] [] trivial fun g2 => ?_
  refine Goes.val (Instr.indexAt 25 (.slice (some ⟨bI, oI, none⟩) nI cI) (.int .i64 i)) (.pointer (some ⟨bI, oI + i * 7, none⟩)) (fun w' _ _ => idxIk bI oI nI cI i hiN w') ?_
  refine Goes.val (Instr.loadAt 72 (.pointer (some ⟨bI, oI + i * 7, none⟩))) (iV x) (fun w' hm hI => loadI (hc.below hbI (bel0 hI))) ?_
  refine Goes.run1 [1, 1] [] trivial fun g5 => ?_
  refine Goes.call0 57 #[.int .i64 x.op, .int .i64 1, .int .i64 30] (.bool (inW x.op 1 30)) (fun w' _ _ => gwithin_any _ _ _ w') ?_
  cases h1 : inW x.op 1 30 with
  | false =>
    refine Goes.run [1, 1] [(true, true), (true, true)] ⟨rfl, rfl, trivial⟩ ?_
    exact Goes.ret [] (.bool false) fun w' hm hI => ⟨rfl, bel0 hI⟩
  | true =>
  have hop : 1 ≤ x.op ∧ x.op ≤ 30 := by unfold inW at h1; simpa using h1
  have hon : x.op = ((x.op.toNat : Nat) : Int) := by omega
  have h31 : x.op.toNat < 31 := by omega
  refine Goes.run [0, 1, 0] [(false, false)] ⟨rfl, trivial⟩ ?_
  refine Goes.call0 104 #[iV x, .int .i64 nW] (.bool (ownQ x nW)) (fun w' _ _ => hasown_any x hn hs nW w') ?_
  cases h2 : ownQ x nW with
  | false =>
    refine Goes.run [1] [(true, true)] ⟨rfl, trivial⟩ ?_
    exact Goes.ret [] (.bool false) fun w' hm hI => ⟨rfl, bel0 hI⟩
  | true =>
  have rest : ∀ J, Goes Tryz.prog (bodyPost Tryz.prog Tryz.f59 (fun e w' => e = .returned (.bool (isF x.op.toNat 1 x.a 0 (rg - 1) && isF x.op.toNat 2 x.b 0 (rg - 1) && isF x.op.toNat 4 x.c 0 (rg - 1) && isF x.op.toNat 8 x.to ((i : Int) + 1) ((nI : Int) - 1))) ∧ Below w.heap.size w w')) (fun w' => Ch (Mem.ids []) w w' ∧ True) ⟨inK, fr 74 [(1, .int .i64 i), (2, .pointer (some ⟨g2, 0, none⟩)), (4, .bool false), (5, .pointer (some ⟨g5, 0, none⟩))] J, [(g2, .cells #[.int .i64 rg, .slice aW nW cW, .slice (some ⟨bI, oI, none⟩) nI cI] 27 (0, 0)), (g5, .cells #[.int .i64 x.op, .int .i64 x.a, .int .i64 x.b, .int .i64 x.c, .int .i64 x.n, strV x.s, .int .i64 x.to] 72 (0, 0))]⟩ := fun J => by
    have hw1 : IntKind.i64.wrap (rg - 1) = rg - 1 := IntWalk.i64_in _ ⟨by omega, by omega⟩
    have hw2 : IntKind.i64.wrap ((i : Int) + 1) = (i : Int) + 1 := IntWalk.i64_in _ ⟨by omega, by omega⟩
    have hw3 : IntKind.i64.wrap ((nI : Int) - 1) = (nI : Int) - 1 := IntWalk.i64_in _ ⟨by omega, by omega⟩
    refine Goes.upto 43 [0] [] trivial ?_
    refine Goes.slot 7 (.int .i64 (rg - 1)) (u := .int .i64 (IntKind.i64.wrap (rg - 1))) (congrArg _ hw1) ?_
    refine Goes.run [1] [] trivial ?_
    refine Goes.callV0 105 #[] #[.int .i64 x.a, .int .i64 1, .int .i64 0, .int .i64 (rg - 1)] #[.pointer (some ⟨g5, 0, none⟩)] (.bool (isF x.op.toNat 1 x.a 0 (rg - 1))) (by kernel_rfl) (fun w' hm hI => isf_any (hU.below (bel0 hI)) hon h31 (hm.get 1) x.a 1 0 (rg - 1)) ?_
    cases b0 : isF x.op.toNat 1 x.a 0 (rg - 1) with
    | false =>
      refine Goes.run [0, 0, 0] [(false, false), (false, false), (false, false)] ⟨rfl, rfl, rfl, trivial⟩ ?_
      exact Goes.ret [] (.bool false) fun w' hm hI => ⟨rfl, bel0 hI⟩
    | true =>
    refine Goes.run [1, 1] [(true, true)] ⟨rfl, trivial⟩ ?_
    refine Goes.callV0 105 #[] #[.int .i64 x.b, .int .i64 2, .int .i64 0, .int .i64 (rg - 1)] #[.pointer (some ⟨g5, 0, none⟩)] (.bool (isF x.op.toNat 2 x.b 0 (rg - 1))) (by kernel_rfl) (fun w' hm hI => isf_any (hU.below (bel0 hI)) hon h31 (hm.get 1) x.b 2 0 (rg - 1)) ?_
    cases b1 : isF x.op.toNat 2 x.b 0 (rg - 1) with
    | false =>
      refine Goes.run [0, 0] [(false, false), (false, false)] ⟨rfl, rfl, trivial⟩ ?_
      exact Goes.ret [] (.bool false) fun w' hm hI => ⟨rfl, bel0 hI⟩
    | true =>
    refine Goes.run [1, 1] [(true, true)] ⟨rfl, trivial⟩ ?_
    refine Goes.callV0 105 #[] #[.int .i64 x.c, .int .i64 4, .int .i64 0, .int .i64 (rg - 1)] #[.pointer (some ⟨g5, 0, none⟩)] (.bool (isF x.op.toNat 4 x.c 0 (rg - 1))) (by kernel_rfl) (fun w' hm hI => isf_any (hU.below (bel0 hI)) hon h31 (hm.get 1) x.c 4 0 (rg - 1)) ?_
    cases b2 : isF x.op.toNat 4 x.c 0 (rg - 1) with
    | false =>
      refine Goes.run [0] [(false, false)] ⟨rfl, trivial⟩ ?_
      exact Goes.ret [] (.bool false) fun w' hm hI => ⟨rfl, bel0 hI⟩
    | true =>
    refine Goes.upto 71 [1, 1, 0] [(true, true)] ⟨rfl, trivial⟩ ?_
    refine Goes.slot 67 (.int .i64 ((i : Int) + 1)) (u := .int .i64 (IntKind.i64.wrap ((i : Int) + 1))) (congrArg _ hw2) ?_
    refine Goes.upto 72 [] [] trivial ?_
    refine Goes.slot 71 (.int .i64 ((nI : Int) - 1)) (u := .int .i64 (IntKind.i64.wrap ((nI : Int) - 1))) (congrArg _ hw3) ?_
    refine Goes.callV0 105 #[] #[.int .i64 x.to, .int .i64 8, .int .i64 ((i : Int) + 1), .int .i64 ((nI : Int) - 1)] #[.pointer (some ⟨g5, 0, none⟩)] (.bool (isF x.op.toNat 8 x.to ((i : Int) + 1) ((nI : Int) - 1))) (by kernel_rfl) (fun w' hm hI => isf_any (hU.below (bel0 hI)) hon h31 (hm.get 1) x.to 8 ((i : Int) + 1) ((nI : Int) - 1)) ?_
    refine Goes.run [] [] trivial ?_
    exact Goes.ret [] (.bool (isF x.op.toNat 8 x.to ((i : Int) + 1) ((nI : Int) - 1))) fun w' hm hI => ⟨rfl, bel0 hI⟩
  cases h29 : (x.op == 29) with
  | false =>
    have ec : callQ k i x = true := by unfold callQ; rw [h29]; rfl
    rw [ec]
    refine Goes.upto 39 [0, 1, 0, 0] [(false, false), (x.op == 29, false), (false, false)] ⟨rfl, h29, rfl, trivial⟩ ?_
    exact (Goes.at (K := inK) (n := 74) (S := [(1, .int .i64 i), (2, .pointer (some ⟨g2, 0, none⟩)), (4, .bool false), (5, .pointer (some ⟨g5, 0, none⟩))]) (m := [(g2, .cells #[.int .i64 rg, .slice aW nW cW, .slice (some ⟨bI, oI, none⟩) nI cI] 27 (0, 0)), (g5, .cells #[.int .i64 x.op, .int .i64 x.a, .int .i64 x.b, .int .i64 x.c, .int .i64 x.n, strV x.s, .int .i64 x.to] 72 (0, 0))]) (fun J => rest J) (by kernel_rfl) (by kernel_rfl) (by kernel_rfl))
  | true =>
    have hopn : x.op = 29 := eq_of_beq h29
    have hr : 0 ≤ x.n ∧ x.n < (nW : Int) := by
      unfold ownQ at h2
      rw [hopn] at h2
      have h3 : (decide (0 ≤ x.n) && decide (x.n < (nW : Int)) && decide (x.s = [])) = true := h2
      simp at h3
      omega
    obtain ⟨m, hm0⟩ : ∃ m : Nat, x.n = (m : Int) := ⟨x.n.toNat, by omega⟩
    have hmW : m < nW := by omega
    obtain ⟨y, hy⟩ : ∃ y, k.waits[m]? = some y := ⟨k.waits[m]'(by rw [hM.lw]; exact hmW), by simp⟩
    obtain ⟨-, bW, oW, rfl, hbW, hcy⟩ := hM.waits m y hy
    have ey : k.waits[x.n.toNat]? = some y := by rw [hm0]; simpa using hy
    refine Goes.run [0, 1, 1, 0, 1] [(x.op == 29, true), (false, false)] ⟨h29, rfl, trivial⟩ ?_
    refine Goes.val (Instr.indexAt 24 (.slice (some ⟨bW, oW, none⟩) nW cW) (.int .i64 x.n)) (.pointer (some ⟨bW, oW + m * 5, none⟩)) (fun w' _ _ => by rw [hm0]; exact idxWk bW oW nW cW m hmW w') ?_
    refine Goes.run [] [] trivial ?_
    refine Goes.val (Instr.loadAt 3 (.pointer (some ⟨bW, oW + m * 5, none⟩))) (.int .i64 y.entry) (fun w' hm hI => load1 Tryz.isAgg3 (hcy.below hbW (bel0 hI) 0 _ rfl)) ?_
    cases hle : decide (y.entry ≤ (i : Int)) with
    | true =>
      have ec : callQ k i x = false := by unfold callQ; rw [h29, ey]; simp only [hle]; rfl
      rw [ec]
      refine Goes.run [1] [(decide (y.entry ≤ (i : Int)), true)] ⟨hle, trivial⟩ ?_
      exact Goes.ret [] (.bool false) fun w' hm hI => ⟨rfl, bel0 hI⟩
    | false =>
      have ec : callQ k i x = true := by unfold callQ; rw [h29, ey]; simp only [hle]; rfl
      rw [ec]
      refine Goes.upto 39 [0] [(decide (y.entry ≤ (i : Int)), false)] ⟨hle, trivial⟩ ?_
      exact (Goes.at (K := inK) (n := 74) (S := [(1, .int .i64 i), (2, .pointer (some ⟨g2, 0, none⟩)), (4, .bool false), (5, .pointer (some ⟨g5, 0, none⟩))]) (m := [(g2, .cells #[.int .i64 rg, .slice (some ⟨bW, oW, none⟩) nW cW, .slice (some ⟨bI, oI, none⟩) nI cI] 27 (0, 0)), (g5, .cells #[.int .i64 x.op, .int .i64 x.a, .int .i64 x.b, .int .i64 x.c, .int .i64 x.n, strV x.s, .int .i64 x.to] 72 (0, 0))]) (fun J => rest J) (by kernel_rfl) (by kernel_rfl) (by kernel_rfl))
end
end Go.Proofs.YtddbiiejilcbbaaGreatDoor
namespace Go.Proofs.YtddbiiejilcbbaaGreatDoor
open Go Go.RowKit

section
variable {w : World} {rg : Int} {aW aI : Option Addr} {nW cW nI cI : Nat}
set_option maxRecDepth 100000 in
seal rn rnN rnS Goes ans atEnd put0 put putM opened openedY putA0 putA oneSt st0 keep mkSt newSt in
theorem gright_any {k : Kd} (hU : TabU w) (hM : CdM w aW nW cW aI nI cI k) (hrg : k.regs = rg) (hwf : k.wf) : Calls Tryz.prog 23 #[cdV rg aW nW cW aI nI cI] w fun e w' => e = .returned (.bool (rightQ k)) ∧ Below w.heap.size w w' := by
  have hi0 := hM.li
  have hw0 := hM.lw
  have eh : headQ k = (inW rg 0 256 && decide (nW ≤ 250) && inW (nI : Int) 1 16384 && (match k.ins[nI - 1]? with | some x => x.op == 30 | none => false)) := by unfold headQ; first | (rw [hrg, hi0, hw0]; done) | (rw [hrg, hi0, hw0]; rfl)
  have no : headQ k = false → rightQ k = false := fun h => by unfold rightQ; rw [h]; rfl
  refine Goes.begin Tryz.func23 [] (fun _ => True) Holds.nil (by simp [Mem.ids]) (fun _ _ => trivial) ?_
  refine Goes.run1 [0, 0] [] trivial fun g => ?_
  refine Goes.call0 57 #[.int .i64 rg, .int .i64 0, .int .i64 256] (.bool (inW rg 0 256)) (fun w' _ _ => gwithin_any _ _ _ w') ?_
  cases h0 : inW rg 0 256 with
  | false =>
    refine Goes.run [1, 1, 1, 1] [(true, true), (true, true), (true, true), (true, true)] ⟨rfl, rfl, rfl, rfl, trivial⟩ ?_
    exact Goes.ret [] (.bool false) fun w' hm hI => ⟨by rw [no (by rw [eh, h0]; rfl)], bel0 hI⟩
  | true =>
  have hr0 : 0 ≤ rg ∧ rg ≤ 256 := by unfold inW at h0; simpa using h0
  cases h1 : decide ((nW : Int) > 250) with
  | true =>
    refine Goes.run [0, 0, 1, 1, 1] [(true, true), (true, true), (decide ((nW : Int) > 250), true), (false, false)] ⟨rfl, rfl, h1, rfl, trivial⟩ ?_
    exact Goes.ret [] (.bool false) fun w' hm hI => ⟨by rw [no (by rw [eh, h0, decide_eq_false (show ¬ nW ≤ 250 by have := of_decide_eq_true h1; omega)]; rfl)], bel0 hI⟩
  | false =>
  have f1 : decide (nW ≤ 250) = true := decide_eq_true (by have := of_decide_eq_false h1; omega)
  have f9 : nW ≤ 250 := of_decide_eq_true f1
  refine Goes.run [0, 0, 0] [(decide ((nW : Int) > 250), false), (false, false)] ⟨h1, rfl, trivial⟩ ?_
  refine Goes.call0 57 #[.int .i64 nI, .int .i64 1, .int .i64 16384] (.bool (inW (nI : Int) 1 16384)) (fun w' _ _ => gwithin_any _ _ _ w') ?_
  cases h2 : inW (nI : Int) 1 16384 with
  | false =>
    refine Goes.run [1, 1] [(true, true), (true, true)] ⟨rfl, rfl, trivial⟩ ?_
    exact Goes.ret [] (.bool false) fun w' hm hI => ⟨by rw [no (by rw [eh, h0, f1, h2]; rfl)], bel0 hI⟩
  | true =>
  have hn0 : 1 ≤ nI ∧ nI ≤ 16384 := by unfold inW at h2; simp at h2; omega
  obtain ⟨z, hz⟩ : ∃ z, k.ins[nI - 1]? = some z := ⟨k.ins[nI - 1]'(by rw [hi0]; omega), by simp⟩
  have eh2 : headQ k = (z.op == 30) := by rw [eh, h0, f1, h2, hz]; rfl
  obtain ⟨-, bI, oI, haI, hbI, hcz⟩ := hM.ins (nI - 1) z hz
  have hwr : IntKind.i64.wrap ((nI : Int) - 1) = ((nI - 1 : Nat) : Int) := by rw [IntWalk.i64_in _ ⟨by omega, by omega⟩]; omega
  refine Goes.run [0, 0] [(false, false)] ⟨rfl, trivial⟩ ?_
  refine Goes.val (Instr.indexAt 25 (.slice aI nI cI) (.int .i64 (IntKind.i64.wrap ((nI : Int) - 1)))) (.pointer (some ⟨bI, oI + (nI - 1) * 7, none⟩)) (fun w' _ _ => by rw [hwr, haI]; exact idxIk bI oI nI cI (nI - 1) (by omega) w') ?_
  refine Goes.run [] [] trivial ?_
  refine Goes.val (Instr.loadAt 3 (.pointer (some ⟨bI, oI + (nI - 1) * 7, none⟩))) (.int .i64 z.op) (fun w' hm hI => load1 Tryz.isAgg3 (hcz.below hbI (bel0 hI) 0 _ rfl)) ?_
  cases hop : (z.op == 30) with
  | false =>
    refine Goes.run [1] [(z.op != 30, true)] ⟨by unfold bne; rw [hop]; rfl, trivial⟩ ?_
    exact Goes.ret [] (.bool false) fun w' hm hI => ⟨by rw [no (by rw [eh2, hop])], bel0 hI⟩
  | true =>
  have er : rightQ k = (k.waits.all (fun x => waitQ x nI) && instrQL k 0 k.ins) := by unfold rightQ; rw [eh2, hop, hi0]; rfl
  refine Goes.run [0, 0] [(z.op != 30, false)] ⟨by unfold bne; rw [hop]; rfl, trivial⟩ ?_
  refine Goes.loop0 (α := Nat) 58 (fun j => [(1, .pointer (some ⟨g, 0, none⟩)), (3, .int .i64 nI), (36, .slice aW nW cW), (37, .int .i64 nW), (38, .int .i64 j)]) [(g, .cells #[.int .i64 rg, .slice aW nW cW, .slice aI nI cI] 27 (0, 0))] (fun j => k.waits.all (fun x => waitQ x nI) = (k.waits.drop j).all (fun x => waitQ x nI) ∧ j ≤ nW) (fun j => nW - j) 0 ⟨rfl, Nat.zero_le _⟩ ?_
  rintro j J ⟨hj, hj2⟩ back
  cases hlt : decide ((j : Int) < (nW : Int)) with
  | true =>
    have hjl : j < nW := by have := of_decide_eq_true hlt; omega
    obtain ⟨x, hx⟩ : ∃ x, k.waits[j]? = some x := ⟨k.waits[j]'(by rw [hw0]; exact hjl), by simp⟩
    obtain ⟨hlab, bW, oW, haW, hbW, hcx⟩ := hM.waits j x hx
    refine Goes.run [0, 1] [(decide ((j : Int) < (nW : Int)), true)] ⟨hlt, trivial⟩ ?_
    refine Goes.val (Instr.indexAt 24 (.slice aW nW cW) (.int .i64 j)) (.pointer (some ⟨bW, oW + j * 5, none⟩)) (fun w' _ _ => by rw [haW]; exact idxWk bW oW nW cW j hjl w') ?_
    refine Goes.val (Instr.loadAt 70 (.pointer (some ⟨bW, oW + j * 5, none⟩))) (wV x) (fun w' hm hI => loadW (hcx.below hbW (bel0 hI))) ?_
    refine Goes.run1 [1, 1] [] trivial fun g5 => ?_
    refine Goes.call0 58 #[wV x, .int .i64 nI] (.bool (waitQ x nI)) (fun w' _ _ => iswait_any x nI (by omega) hlab w') ?_
    cases hwx : waitQ x nI with
    | false =>
      refine Goes.run [1] [(true, true)] ⟨rfl, trivial⟩ ?_
      exact Goes.ret [] (.bool false) fun w' hm hI => ⟨by rw [er, hj, all_drop hx, hwx]; rfl, bel0 hI⟩
    | true =>
      refine Goes.run [0] [(false, false)] ⟨rfl, trivial⟩ ?_
      refine Goes.keep 1 ?_
      refine Goes.slot 38 (.int .i64 (j + 1 : Nat)) (u := .int .i64 (IntKind.i64.wrap ((j : Int) + 1))) (congrArg _ (wrap_nat (by omega))) ?_
      exact back (j + 1) _ ⟨by rw [hj, all_drop hx, hwx]; rfl, by omega⟩ (by omega) (by kernel_rfl) (by kernel_rfl) (by kernel_rfl)
  | false =>
    have hjw : k.waits.all (fun x => waitQ x nI) = true := by rw [hj, List.drop_of_length_le (by rw [hw0]; have := of_decide_eq_false hlt; omega)]; rfl
    rw [hjw, Bool.true_and] at er
    refine Goes.run [0, 0, 0] [(decide ((j : Int) < (nW : Int)), false)] ⟨hlt, trivial⟩ ?_
    clear back hj hj2 hlt
    refine Goes.loop0 (α := Nat) 58 (fun j => [(1, .pointer (some ⟨g, 0, none⟩)), (49, .int .i64 nI), (50, .int .i64 j)]) [(g, .cells #[.int .i64 rg, .slice aW nW cW, .slice aI nI cI] 27 (0, 0))] (fun j => instrQL k 0 k.ins = instrQL k j (k.ins.drop j) ∧ j ≤ nI) (fun j => nI - j) 0 ⟨rfl, Nat.zero_le _⟩ ?_
    rintro i J2 ⟨hj, hj2⟩ back
    cases hlt : decide ((i : Int) < (nI : Int)) with
    | false =>
      refine Goes.run [0, 0] [(decide ((i : Int) < (nI : Int)), false)] ⟨hlt, trivial⟩ ?_
      exact Goes.ret [] (.bool true) fun w' hm hI => ⟨by rw [er, hj, List.drop_of_length_le (by rw [hi0]; have := of_decide_eq_false hlt; omega)]; rfl, bel0 hI⟩
    | true =>
      have hjl : i < nI := by have := of_decide_eq_true hlt; omega
      obtain ⟨x, hx⟩ : ∃ x, k.ins[i]? = some x := ⟨k.ins[i]'(by rw [hi0]; exact hjl), by simp⟩
      refine Goes.run [0, 1, 0] [(decide ((i : Int) < (nI : Int)), true)] ⟨hlt, trivial⟩ ?_
      refine Goes.call0 59 #[cdV rg aW nW cW aI nI cI, .int .i64 i] (.bool (instrQ k i x)) (fun w' _ hI => isinstr_any (hU.below (bel0 hI)) (hM.below (bel0 hI)) hx hrg hr0 (hwf x (List.mem_of_getElem? hx)) (by omega)) ?_
      cases hix : instrQ k i x with
      | false =>
        refine Goes.run [1] [(true, true)] ⟨rfl, trivial⟩ ?_
        exact Goes.ret [] (.bool false) fun w' hm hI => ⟨by rw [er, hj, instrQL_drop hx, hix]; rfl, bel0 hI⟩
      | true =>
        refine Goes.run [0] [(false, false)] ⟨rfl, trivial⟩ ?_
        refine Goes.slot 50 (.int .i64 (i + 1 : Nat)) (u := .int .i64 (IntKind.i64.wrap ((i : Int) + 1))) (congrArg _ (wrap_nat (by omega))) ?_
        exact back (i + 1) _ ⟨by rw [hj, instrQL_drop hx, hix]; rfl, by omega⟩ (by omega) (by kernel_rfl) (by kernel_rfl) (by kernel_rfl)
end
end Go.Proofs.YtddbiiejilcbbaaGreatDoor
namespace Go.Proofs.YtddbiiejilcbbaaGreatDoor
open Go Go.RowKit

theorem le_lt (n m : Int) : decide (n ≤ m - 1) = decide (n < m) := by rw [decide_eq_decide]; omega
theorem bit_A : ∀ o : Fin 31, (andI (usesT.getD o.1 0) 1 == 0) = !hasR (usesR ((o.1 : Nat) : Int)).1 65 := by decide
theorem bit_B : ∀ o : Fin 31, (andI (usesT.getD o.1 0) 2 == 0) = !hasR (usesR ((o.1 : Nat) : Int)).1 66 := by decide
theorem bit_C : ∀ o : Fin 31, (andI (usesT.getD o.1 0) 4 == 0) = !hasR (usesR ((o.1 : Nat) : Int)).1 67 := by decide
theorem bit_T : ∀ o : Fin 31, (andI (usesT.getD o.1 0) 8 == 0) = !hasR (usesR ((o.1 : Nat) : Int)).1 84 := by decide
theorem bit_ok : ∀ o : Fin 31, 1 ≤ o.1 → (usesR ((o.1 : Nat) : Int)).2 = true := by decide
theorem reg_eq (u : Bool) (n rg : Int) : (bif !u then n == 0 else inW n 0 (rg - 1)) = regR n u rg := by
  unfold regR inW
  rw [le_lt]
  cases u <;> rfl
theorem own_eq {x : Ik} {k : Kd} (i : Int) (h : 1 ≤ x.op ∧ x.op ≤ 30) : (ownQ x k.waits.length && callQ k i x) = (numR k i x && txtR x) := by
  obtain ⟨op, a, b, c, n, s, to⟩ := x
  replace h : 1 ≤ op ∧ op ≤ 30 := h
  have F : ∀ {o : Int}, ¬ op = o → (op == o) = false := fun {o} ho => by rw [beq_eq_false_iff_ne]; exact ho
  by_cases e29 : op = 29
  · subst e29
    show (decide (0 ≤ n) && decide (n < (k.waits.length : Int)) && decide (s = []) && !(true && (match k.waits[n.toNat]? with | some y => decide (y.entry ≤ i) | none => false))) = (decide (0 ≤ n) && decide (n < (k.waits.length : Int)) && (match k.waits[n.toNat]? with | some w => decide (w.entry > i) | none => false) && decide (s = []))
    by_cases h0 : 0 ≤ n ∧ n < (k.waits.length : Int)
    · obtain ⟨y, hy⟩ : ∃ y, k.waits[n.toNat]? = some y := ⟨k.waits[n.toNat]'(by omega), by simp⟩
      rw [hy]
      have e : (!decide (y.entry ≤ i)) = decide (y.entry > i) := by
        rw [Bool.eq_iff_iff]
        simp
      simp only [Bool.true_and]
      rw [e, decide_eq_true h0.1, decide_eq_true h0.2]
      cases decide (s = []) <;> simp
    · have e : (decide (0 ≤ n) && decide (n < (k.waits.length : Int))) = false := by
        rw [Bool.eq_false_iff]
        intro h
        simp at h
        exact h0 (by omega)
      rw [e]
      rfl
  · have ec : callQ k i ⟨op, a, b, c, n, s, to⟩ = true := by
      unfold callQ
      simp only [F e29]
      rfl
    rw [ec, Bool.and_true]
    by_cases e1 : op = 1
    · subst e1; rfl
    by_cases e2 : op = 2
    · subst e2
      show (decide (0 ≤ n) && ((decide (-3660 ≤ n) && decide (n ≤ 3660)) && namP s)) = (decide (0 ≤ n) && decide (n ≤ 3660) && namP s)
      cases h0 : decide (0 ≤ n) with
      | false => rfl
      | true => rw [decide_eq_true (show -3660 ≤ n by have := of_decide_eq_true h0; omega)]; simp
    by_cases e3 : op = 3
    · subst e3
      show (decide (0 ≤ n) && ((decide (-3660 ≤ n) && decide (n ≤ 3660)) && decide (s = []))) = (decide (0 ≤ n) && decide (n ≤ 3660) && decide (s = []))
      cases h0 : decide (0 ≤ n) with
      | false => rfl
      | true => rw [decide_eq_true (show -3660 ≤ n by have := of_decide_eq_true h0; omega)]; simp
    by_cases e21 : op = 21
    · subst e21; rfl
    by_cases e22 : op = 22
    · subst e22; rfl
    by_cases e27 : op = 27
    · subst e27; rfl
    by_cases e28 : op = 28
    · subst e28; rfl
    unfold ownQ numR txtR
    simp only [F e1, F e2, F e3, F e21, F e22, F e27, F e28, F e29, Bool.or_self, cond_false]
theorem uses_out {op : Int} (h : ¬ (1 ≤ op ∧ op ≤ 30)) : (usesR op).2 = false := by
  have F : ∀ {o : Int}, 1 ≤ o → o ≤ 30 → (op == o) = false := fun {o} h1 h2 => by rw [beq_eq_false_iff_ne]; omega
  unfold usesR
  simp only [F (o := 1) (by omega) (by omega), F (o := 2) (by omega) (by omega), F (o := 3) (by omega) (by omega), F (o := 4) (by omega) (by omega), F (o := 5) (by omega) (by omega), F (o := 6) (by omega) (by omega), F (o := 7) (by omega) (by omega), F (o := 8) (by omega) (by omega), F (o := 9) (by omega) (by omega), F (o := 10) (by omega) (by omega), F (o := 11) (by omega) (by omega), F (o := 12) (by omega) (by omega), F (o := 13) (by omega) (by omega), F (o := 14) (by omega) (by omega), F (o := 15) (by omega) (by omega), F (o := 16) (by omega) (by omega), F (o := 17) (by omega) (by omega), F (o := 18) (by omega) (by omega), F (o := 19) (by omega) (by omega), F (o := 20) (by omega) (by omega), F (o := 21) (by omega) (by omega), F (o := 22) (by omega) (by omega), F (o := 23) (by omega) (by omega), F (o := 24) (by omega) (by omega), F (o := 25) (by omega) (by omega), F (o := 26) (by omega) (by omega), F (o := 27) (by omega) (by omega), F (o := 28) (by omega) (by omega), F (o := 29) (by omega) (by omega), F (o := 30) (by omega) (by omega), Bool.or_self, cond_false]
/-- Each instruction. -/
theorem instr_eq (k : Kd) (i : Int) (x : Ik) : instrQ k i x = insR k i x := by
  by_cases h : 1 ≤ x.op ∧ x.op ≤ 30
  · have ho : ((x.op.toNat : Nat) : Int) = x.op := by omega
    have h31 : x.op.toNat < 31 := by omega
    have bA := bit_A ⟨_, h31⟩
    have bB := bit_B ⟨_, h31⟩
    have bC := bit_C ⟨_, h31⟩
    have bT := bit_T ⟨_, h31⟩
    have bk := bit_ok ⟨_, h31⟩ (by show 1 ≤ x.op.toNat; omega)
    simp only [ho] at bA bB bC bT bk
    have hin : inW x.op 1 30 = true := by unfold inW; simp; omega
    have e1 : isF x.op.toNat 1 x.a 0 (k.regs - 1) = regR x.a (hasR (usesR x.op).1 65) k.regs := by unfold isF; rw [bA]; exact reg_eq _ _ _
    have e2 : isF x.op.toNat 2 x.b 0 (k.regs - 1) = regR x.b (hasR (usesR x.op).1 66) k.regs := by unfold isF; rw [bB]; exact reg_eq _ _ _
    have e3 : isF x.op.toNat 4 x.c 0 (k.regs - 1) = regR x.c (hasR (usesR x.op).1 67) k.regs := by unfold isF; rw [bC]; exact reg_eq _ _ _
    have e4 : isF x.op.toNat 8 x.to (i + 1) ((k.ins.length : Int) - 1) = toR k i x := by
      unfold isF toR inW
      rw [bT, le_lt]
      have : decide (i + 1 ≤ x.to) = decide (x.to > i) := by rw [decide_eq_decide]; omega
      rw [this]
      cases hasR (usesR x.op).1 84 <;> rfl
    have e5 := own_eq (k := k) i h
    unfold instrQ insR
    rw [hin, e1, e2, e3, e4, bk, Bool.true_and, Bool.true_and, e5]
    cases numR k i x <;> cases txtR x <;> cases regR x.a (hasR (usesR x.op).1 65) k.regs <;> cases regR x.b (hasR (usesR x.op).1 66) k.regs <;> cases regR x.c (hasR (usesR x.op).1 67) k.regs <;> rfl
  · have hin : inW x.op 1 30 = false := by
      rw [Bool.eq_false_iff]
      intro h1
      unfold inW at h1
      simp at h1
      exact h h1
    unfold instrQ insR
    rw [hin, uses_out h]
    rfl
theorem instrs_eq (k : Kd) : ∀ (l : List Ik) (i : Int), instrQL k i l = insL k i l
  | [], i => by rw [instrQL, insL]
  | x :: r, i => by rw [instrQL, insL, instr_eq, instrs_eq k r]
/-- Each wait. -/
theorem wait_eq (k : Kd) (x : Wk) (h : 1 ≤ k.ins.length) : waitQ x k.ins.length = waiR k x := by
  have eo : ownC 4 0 x.label = namP x.label := by
    show (true && namP x.label) = _
    rfl
  have ep : ∀ n : Int, inW n 0 ((k.ins.length : Int) - 1) = plaR k n := fun n => by unfold inW plaR; rw [le_lt]
  unfold waitQ waiR
  rw [eo, ep, ep, ep]
  unfold inW
  cases hl : decide (x.label = []) with
  | true =>
    simp only [cond_true]
    cases hf : (x.first == 0) with
    | false => simp
    | true =>
      cases hs : (x.second == 0) with
      | false => simp
      | true =>
        have p0 : plaR k 0 = true := by unfold plaR; simp; omega
        rw [eq_of_beq hf, eq_of_beq hs, p0]
        cases plaR k x.entry <;> simp
  | false =>
    simp only [cond_false]
    cases namP x.label <;> cases plaR k x.entry <;> cases plaR k x.first <;> cases plaR k x.second <;> simp
theorem head_eq (k : Kd) : headQ k = headR k := by
  unfold headQ headR inW
  have e1 : decide ((1 : Int) ≤ (k.ins.length : Int)) = decide (1 ≤ k.ins.length) := by rw [decide_eq_decide]; omega
  have e2 : decide ((k.ins.length : Int) ≤ 16384) = decide (k.ins.length ≤ 16384) := by rw [decide_eq_decide]; omega
  rw [e1, e2]
  cases decide (0 ≤ k.regs) <;> cases decide (k.regs ≤ 256) <;> cases decide (k.waits.length ≤ 250) <;> cases decide (1 ≤ k.ins.length) <;> cases decide (k.ins.length ≤ 16384) <;> rfl
/-- The program's right bytecodes are the document's. -/
theorem right_eq (k : Kd) : rightQ k = rightR k := by
  unfold rightQ rightR
  rw [head_eq, instrs_eq]
  cases hh : headR k with
  | false => rfl
  | true =>
    have h1 : 1 ≤ k.ins.length := by
      unfold headR at hh
      simp only [Bool.and_eq_true, decide_eq_true_eq] at hh
      exact hh.1.1.2
    have : (fun x => waitQ x k.ins.length) = waiR k := funext fun x => wait_eq k x h1
    rw [this]
end Go.Proofs.YtddbiiejilcbbaaGreatDoor
namespace Go.Proofs.YtddbiiejilcbbaaGreatDoor
open Go Go.RowKit

def bB (n : Int) : List UInt8 := vb (zig n)
def tB (s : List UInt8) : List UInt8 := vb (zig (s.length : Int)) ++ s
/-- Bytes: a row of one's own. -/
def By (base : Nat) (w : World) (v : Value) (l : List UInt8) : Prop := w.ownsRow base 5 1 v l.length (cells8 l)
theorem By.nil {base : Nat} {w : World} : By base w (.slice none 0 0) [] := w.ownsRow_nil _ _ _
theorem By.add {base b2 : Nat} {w : World} {v u : Value} {l bs : List UInt8} (h : By base w v l) (hb : base ≤ w.heap.size) (hu : By b2 w u bs) (hne : bs ≠ []) (hl : l.length + bs.length ≤ 100000000) {ty : TypeId} :
    ∃ b c' w', (Builtin.append_ #[22, 22] ty #[v, u]).run Tryz.prog w = .ok (.slice (some ⟨b, 0, none⟩) (l.length + bs.length) c') w' ∧ w'.ownsRow base 5 1 (.slice (some ⟨b, 0, none⟩) (l.length + bs.length) c') (l.length + bs.length) (cells8 l ++ cells8 bs) ∧ w.grownBy w' v.ownBlock ∧ ((Value.slice (some ⟨b, 0, none⟩) (l.length + bs.length) c').ownBlock = v.ownBlock ∨ (Value.slice (some ⟨b, 0, none⟩) (l.length + bs.length) c').ownBlock = some w.heap.size) := by
  have hpos : 0 < bs.length := List.length_pos_iff.2 hne
  rcases hu.2 with ⟨-, h0⟩ | ⟨g, cap, cur, e, -, hg, -, -, -, ht⟩
  · omega
  · subst e
    refine append_coreA (P := Tryz.prog) (t := 22) (e := 5) (ty := ty) (size := 1) (bytes := 1) (a := ⟨g, 0, none⟩) (m := bs.length) (c := cap) (news := cells8 bs) h hb (by rw [cells8_len]; omega) (fun j x hj => ?_) (cells8_one bs) (.inr hpos) (by unfold maxLen; omega) (by omega) (by kernel_rfl)
    have hjl : j < bs.length := by have := (List.getElem?_eq_some_iff.1 hj).1; rw [cells8_len] at this; exact this
    have hj2 := hj
    rw [← ht, List.getElem?_take_of_lt (by omega)] at hj2
    have ea : (⟨g, 0, none⟩ : Addr).add j = ⟨g, j, none⟩ := by unfold Addr.add; split <;> simp_all
    rw [ea]
    unfold World.cell?
    rw [hg]
    simpa using hj2
section
variable {P : Program} {F : Exit → Act → World → Prop} {s : St} {w : World}
end
theorem bB_ne (n : Int) : bB n ≠ [] := by
  have := vb_pos (zig n)
  intro h
  unfold bB at h
  rw [h] at this
  simp at this
end Go.Proofs.YtddbiiejilcbbaaGreatDoor
namespace Go.Proofs.YtddbiiejilcbbaaGreatDoor
open Go Go.RowKit

def wB (x : Wk) : List UInt8 := bB x.entry ++ bB x.day ++ tB x.label ++ bB x.first ++ bB x.second
def xB (x : Ik) : List UInt8 := bB x.op ++ bB x.a ++ bB x.b ++ bB x.c ++ bB x.n ++ tB x.s ++ bB x.to
def hdB (k : Kd) : List UInt8 := bB k.regs ++ bB (k.waits.length : Int)
def encB (k : Kd) : List UInt8 := hdB k ++ k.waits.flatMap wB ++ bB (k.ins.length : Int) ++ k.ins.flatMap xB
/-- All its numbers are of 64 bits, and its texts short. -/
structure Kd.Fit (k : Kd) : Prop where
  regs : I64 k.regs
  wn : k.waits.length ≤ 250
  xn : k.ins.length ≤ 16384
  waits : ∀ x ∈ k.waits, I64 x.entry ∧ I64 x.day ∧ I64 x.first ∧ I64 x.second ∧ x.label.length ≤ 24
  ins : ∀ x ∈ k.ins, I64 x.op ∧ I64 x.a ∧ I64 x.b ∧ I64 x.c ∧ I64 x.n ∧ I64 x.to ∧ x.s.length ≤ 24
theorem bB_len {n : Int} (h : I64 n) : (bB n).length ≤ 10 := zvb_len h.1 h.2
theorem tB_len {s : List UInt8} (h : s.length ≤ 24) : (tB s).length ≤ 34 := by
  unfold tB
  rw [List.length_append]
  have : (vb (zig (s.length : Int))).length ≤ 10 := zvb_len (by omega) (by omega)
  omega
theorem tB_ne (s : List UInt8) : tB s ≠ [] := fun h => by
  unfold tB at h
  exact bB_ne _ (List.append_eq_nil_iff.1 h).1
theorem wB_len {k : Kd} (hF : k.Fit) {x : Wk} (hx : x ∈ k.waits) : (wB x).length ≤ 100 := by
  obtain ⟨h1, h2, h3, h4, h5⟩ := hF.waits x hx
  have a1 := bB_len h1
  have a2 := bB_len h2
  have a3 := bB_len h3
  have a4 := bB_len h4
  have a5 := tB_len h5
  unfold wB
  simp only [List.length_append]
  omega
theorem xB_len {k : Kd} (hF : k.Fit) {x : Ik} (hx : x ∈ k.ins) : (xB x).length ≤ 100 := by
  obtain ⟨h1, h2, h3, h4, h5, h6, h7⟩ := hF.ins x hx
  have a1 := bB_len h1
  have a2 := bB_len h2
  have a3 := bB_len h3
  have a4 := bB_len h4
  have a5 := bB_len h5
  have a6 := bB_len h6
  have a7 := tB_len h7
  unfold xB
  simp only [List.length_append]
  omega
theorem flat_le {α : Type} {f : α → List UInt8} : ∀ {l : List α}, (∀ x ∈ l, (f x).length ≤ 100) → (l.flatMap f).length ≤ 100 * l.length
  | [], _ => by simp
  | x :: r, h => by
    have h1 := h x (by simp)
    have h2 := flat_le (l := r) fun y hy => h y (by simp [hy])
    simp only [List.flatMap_cons, List.length_append, List.length_cons]
    omega
theorem hdB_len {k : Kd} (hF : k.Fit) : (hdB k).length ≤ 20 := by
  have a1 := bB_len hF.regs
  have a2 := bB_len (n := (k.waits.length : Int)) ⟨by omega, by have := hF.wn; omega⟩
  unfold hdB
  rw [List.length_append]
  omega
theorem take_snoc {α : Type} {f : α → List UInt8} {l : List α} {j : Nat} {x : α} (hx : l[j]? = some x) : (l.take (j + 1)).flatMap f = (l.take j).flatMap f ++ f x := by
  rw [List.take_add_one, hx]
  simp
/-- What is put behind so many waits. -/
def preW (k : Kd) (j : Nat) : List UInt8 := hdB k ++ (k.waits.take j).flatMap wB
def preX (k : Kd) (j : Nat) : List UInt8 := hdB k ++ k.waits.flatMap wB ++ bB (k.ins.length : Int) ++ (k.ins.take j).flatMap xB
theorem preW_len {k : Kd} (hF : k.Fit) (j : Nat) : (preW k j).length ≤ 30000 := by
  have h1 := hdB_len hF
  have h2 := flat_le (f := wB) (l := k.waits.take j) fun x hx => wB_len hF (List.mem_of_mem_take hx)
  have h3 : (k.waits.take j).length ≤ 250 := by rw [List.length_take]; have := hF.wn; omega
  unfold preW
  rw [List.length_append]
  omega
theorem preX_len {k : Kd} (hF : k.Fit) (j : Nat) : (preX k j).length ≤ 2000000 := by
  have h1 := hdB_len hF
  have h2 := flat_le (f := wB) (l := k.waits) fun x hx => wB_len hF hx
  have h3 := flat_le (f := xB) (l := k.ins.take j) fun x hx => xB_len hF (List.mem_of_mem_take hx)
  have h4 : (k.ins.take j).length ≤ 16384 := by rw [List.length_take]; have := hF.xn; omega
  have h5 := hF.wn
  have h6 := bB_len (n := (k.ins.length : Int)) ⟨by omega, by have := hF.xn; omega⟩
  unfold preX
  simp only [List.length_append]
  omega
theorem row_stay {L : List Nat} {w1 w2 : World} {u : Value} {bs : List UInt8} (hlt : ∀ x ∈ L, x < w1.heap.size) (hu : By w1.heap.size w2 u bs) : Stay L w2 (fun w' => By w1.heap.size w' u bs) := fun w3 hc => own_ch hu hc fun b hb hx => by
  have h1 := hlt b hx
  rcases hu.2 with ⟨e, -⟩ | ⟨g, _, _, e, h7, -⟩
  · rw [e] at hb; cases hb
  · rw [e] at hb
    cases hb
    have h8 : g < w1.heap.size := h1
    omega
section
variable {w : World} {rg : Int} {aW aI : Option Addr} {nW cW nI cI : Nat}
end
end Go.Proofs.YtddbiiejilcbbaaGreatDoor
namespace Go.Proofs.YtddbiiejilcbbaaGreatDoor
open Go Go.RowKit

def OoW (g : Nat) (v : Value) : List Nat := g :: v.ownBlock.toList
/-- Putting under way: the instructions so far, and that nothing else was changed. -/
def WrI (n0 g : Nat) (w : World) (v v1 : Value) (xs : List UInt8) (w' : World) : Prop := Ch (OoW g v) w w' ∧ By n0 w' v1 xs ∧ ∀ x ∈ v1.ownBlock.toList, x ∈ OoW g v ∨ w.heap.size ≤ x
theorem WrI.refl {n0 g : Nat} {w : World} {v : Value} {xs : List UInt8} (h : By n0 w v xs) : WrI n0 g w v v xs w := ⟨Ch.refl _ _, h, fun _ hx => .inl (List.mem_cons_of_mem _ hx)⟩
theorem WrI.stay {n0 g : Nat} {w w' : World} {v v1 : Value} {xs : List UInt8} {L : List Nat} (h : WrI n0 g w v v1 xs w') (hg : ∃ c e z, w'.heap[g]? = some (.cells c e z) ∧ e ≠ 5) (hL : ∀ x ∈ L, x = g ∨ (w.heap.size ≤ x ∧ ∃ c e z, w'.heap[x]? = some (.cells c e z) ∧ e ≠ 5)) : Stay L w' (WrI n0 g w v v1 xs) := by
  have key : ∀ b, v1.ownBlock = some b → b ∉ L := by
    intro b hb hm
    rcases hL b hm with rfl | ⟨-, c, e, z, hx, h4⟩
    · obtain ⟨c, e, z, hx, h1⟩ := hg
      exact own_not h.2.1 hx (fun e => h1 e.symm) hb
    · exact own_not h.2.1 hx (fun e => h4 e.symm) hb
  exact fun _ hc => ⟨h.1.trans hc fun x hx => by
    rcases hL x hx with rfl | ⟨h1, -⟩
    · exact .inl (by simp [OoW])
    · exact .inr h1, own_ch h.2.1 hc key, h.2.2⟩
theorem WrI.trans {n0 g : Nat} {w w1 w2 : World} {v v1 v2 : Value} {xs ys : List UInt8} (h : WrI n0 g w v v1 xs w1) (k : WrI n0 g w1 v1 v2 ys w2) : WrI n0 g w v v2 ys w2 := by
  have hO : ∀ x ∈ OoW g v1, x ∈ OoW g v ∨ w.heap.size ≤ x := fun x hx => by
    rcases List.mem_cons.1 hx with rfl | hx
    · exact .inl (by simp [OoW])
    · exact h.2.2 x hx
  refine ⟨h.1.trans k.1 hO, k.2.1, fun x hx => ?_⟩
  rcases k.2.2 x hx with h1 | h1
  · exact hO x h1
  · exact .inr (Nat.le_trans h.1.size h1)
/-- A writer. -/
def wO (v : Value) : Obj := .cells #[v] 74 (0, 0)
/-- What putting leaves. -/
def WQ (n0 g : Nat) (w : World) (v u : Value) (xs : List UInt8) (e : Ending) (w' : World) : Prop := ∃ v', e = .returned u ∧ w'.heap[g]? = some (wO v') ∧ WrI n0 g w v v' xs w'
/-- Blocks of a frame, of other types. -/
def LocW (w : World) (loc : Mem) : Prop := ∀ q ∈ loc, w.heap.size ≤ q.1 ∧ ∃ c e z, q.2 = .cells c e z ∧ e ≠ 5 ∧ e ≠ 74
section
variable {P : Program} {F : Exit → Act → World → Prop} {s : St} {n0 g : Nat} {v v1 : Value} {xs : List UInt8} {w : World}
theorem wq_next {loc : Mem} (hloc : LocW w loc) {m : Mem} (hmem : m = (g, wO v1) :: loc) {w1 w2 : World} (hm : Holds m w1) (hI : WrI n0 g w v v1 xs w1) {v2 : Value} {ys : List UInt8} (hg2 : w2.heap[g]? = some (wO v2)) (hA : WrI n0 g w1 v1 v2 ys w2) :
    Holds ((g, wO v2) :: loc) w2 ∧ Stay (Mem.ids ((g, wO v2) :: loc)) w2 (WrI n0 g w v v2 ys) := by
  subst hmem
  have hall := in_holds hm
  have hg1 := hall _ List.mem_cons_self
  have hl : ∀ q ∈ loc, w2.heap[q.1]? = some q.2 := fun q hq => by
    obtain ⟨-, c, e, z, h1, h2, h3⟩ := hloc q hq
    have hq1 := hall q (List.mem_cons_of_mem _ hq)
    rw [h1] at hq1
    rw [hA.1.block q.1 (lt_of_get hq1) fun hx => ?_, hq1, h1]
    rcases List.mem_cons.1 hx with hx | hx
    · rw [hx] at hq1
      have := hg1.symm.trans hq1
      simp only [wO, Option.some.injEq, Obj.cells.injEq] at this
      exact h3 this.2.1.symm
    · exact own_not hI.2.1 hq1 (fun e1 => h2 e1.symm) (own_mem.2 hx)
  refine ⟨holds_in fun q hq => ?_, (hI.trans hA).stay ⟨_, _, _, hg2, by decide⟩ fun x hx => ?_⟩
  · rcases List.mem_cons.1 hq with rfl | hq
    · exact hg2
    · exact hl q hq
  · unfold Mem.ids at hx
    rw [List.map_cons] at hx
    rcases List.mem_cons.1 hx with rfl | hx
    · exact .inl rfl
    · obtain ⟨q, hq, rfl⟩ := List.mem_map.1 hx
      obtain ⟨h0, c, e, z, h1, h2, -⟩ := hloc q hq
      exact .inr ⟨h0, c, e, z, by rw [hl q hq, h1], h2⟩
/-- Something is put, by a call. -/
theorem Goes.callWQ (f : FuncId) (args : Array Value) (u : Value) (ys : List UInt8) (loc : Mem) (hloc : LocW w loc)
    (hr : ∀ w1, Holds s.mem w1 → WrI n0 g w v v1 xs w1 → Calls P f args w1 (WQ n0 g w1 v1 u ys))
    (h : ∀ v2, Goes P F (WrI n0 g w v v2 ys) (put s u ((g, wO v2) :: loc)))
    (hmem : s.mem = (g, wO v1) :: loc := by kernel_rfl) (ha : ask s = some (f, args) := by kernel_rfl) (hw : wants s = true := by kernel_rfl) (hf : okf P f = true := by kernel_rfl) : Goes P F (WrI n0 g w v v1 xs) s :=
  Goes.call f args (fun w1 hm hn hI => (hr w1 hm hI.now).mono fun e w2 ⟨v2, he, hg2, hA⟩ => by
    obtain ⟨h1, h2⟩ := wq_next hloc hmem hm hI.now hg2 hA
    exact ⟨u, _, _, he, h1, by rw [hmem] at hn; exact hn, h2, h v2⟩) ha hw hf
theorem wq_begin (hl : By n0 w v xs) (hg : w.heap[g]? = some (wO v)) : Holds [(g, wO v)] w ∧ Stay (Mem.ids [(g, wO v)]) w (WrI n0 g w v v xs) :=
  ⟨fun j b o h => by match j, h with | 0, h => (cases h; exact hg), (WrI.refl hl).stay ⟨_, _, _, hg, by decide⟩ (fun x hx => .inl (by simpa [Mem.ids] using hx))⟩
end
end Go.Proofs.YtddbiiejilcbbaaGreatDoor
namespace Go.Proofs.YtddbiiejilcbbaaGreatDoor
open Go Go.RowKit

theorem WrI.add {n0 g b2 : Nat} {w w1 : World} {v v1 u : Value} {l bs : List UInt8} (h : WrI n0 g w v v1 l w1) (hb : n0 ≤ w1.heap.size) (hu : By b2 w1 u bs) (hne : bs ≠ []) (hl : l.length + bs.length ≤ 100000000) {ty : TypeId} :
    ∃ b c' w', (Builtin.append_ #[22, 22] ty #[v1, u]).run Tryz.prog w1 = .ok (.slice (some ⟨b, 0, none⟩) (l.length + bs.length) c') w' ∧ WrI n0 g w v (.slice (some ⟨b, 0, none⟩) (l.length + bs.length) c') (l ++ bs) w' ∧ ∀ (i : Nat) (c : Array Value) (e : TypeId) (z : Nat × Nat), w1.heap[i]? = some (.cells c e z) → e ≠ 5 → w'.heap[i]? = some (.cells c e z) := by
  obtain ⟨b, c', w', hr, hrow, hgr, hob⟩ := By.add (ty := ty) h.2.1 hb hu hne hl
  refine ⟨b, c', w', hr, ⟨h.1.grown hgr fun b hb => h.2.2 b (own_mem.1 hb), ?_, fun y hy => ?_⟩, fun i c e z hi he => ?_⟩
  · unfold By
    rw [List.length_append, ← cells8_append]
    exact hrow
  · have := own_mem.2 hy
    rcases hob with h1 | h1
    · rw [h1] at this
      exact h.2.2 _ (own_mem.1 this)
    · rw [h1] at this
      cases this
      exact .inr h.1.size
  · rw [hgr.block i (lt_of_get hi) (fun e1 => own_not h.2.1 hi (fun e => he e.symm) e1.symm)]
    exact hi
theorem pint_by (n : Int) (h : I64 n) (w : World) : Calls Tryz.prog 63 #[.slice none 0 0, .int .i64 n] w fun e w' => ∃ u, e = .returned u ∧ By w.heap.size w' u (bB n) ∧ Below w.heap.size w w' :=
  (putInt_any none [] 0 n w ⟨none, 0, rfl, by simp, fun _ => rfl, fun h => absurd rfl h⟩ h.1 h.2 (by simp)).mono fun _ _ ⟨he, ho, hB⟩ => ⟨_, he, ho, hB⟩
theorem ptext_by (s : List UInt8) (hs : s.length ≤ 1000) (w : World) : Calls Tryz.prog 62 #[.slice none 0 0, strV s] w fun e w' => ∃ u, e = .returned u ∧ By w.heap.size w' u (tB s) ∧ Below w.heap.size w w' := by
  have hsz : (⟨s.toArray⟩ : ByteArray).size = s.length := by simp [ByteArray.size]
  refine (putText_any none [] 0 ⟨s.toArray⟩ w ⟨none, 0, rfl, by simp, fun _ => rfl, fun h => absurd rfl h⟩ (by rw [hsz]; simp; omega)).mono fun _ _ ⟨he, ho, hB⟩ => ⟨_, he, ?_, hB⟩
  rw [hsz] at ho
  exact ho
section
variable {n0 g : Nat} {v : Value} {l : List UInt8} {w : World}
set_option maxRecDepth 100000 in
seal rn rnN rnS Goes ans atEnd put0 put putM opened openedY putA0 putA oneSt st0 keep mkSt newSt in
theorem wnumber_any (hl : By n0 w v l) (hg : w.heap[g]? = some (wO v)) (hn : n0 ≤ w.heap.size) {n : Int} (h : I64 n) (hlen : l.length + (bB n).length ≤ 100000000) : Calls Tryz.prog 29 #[.pointer (some ⟨g, 0, none⟩), .int .i64 n] w (WQ n0 g w v (.tuple #[]) (l ++ bB n)) := by
  refine Goes.enter Tryz.func29 [(g, wO v)] (WrI n0 g w v v l) (wq_begin hl hg).1 (by simp [Mem.ids]) (wq_begin hl hg).2 ?_
  refine Goes.open [] ?_
  refine Goes.run [0, 1, 2, 3, 5] [] trivial ?_
  refine Goes.two 4 6 ?_ ?_
  · refine TookS.run 4 0 ?_
    refine Goes.lone1 6 ?_
    refine TookS.call 6 63 #[.slice none 0 0, .int .i64 n] fun w1 hm1 hn1 hI1 => (pint_by n h w1).mono fun e w2 ⟨u, he, hu, hB⟩ => ⟨u, fun w' => WrI n0 g w v v l w' ∧ By w1.heap.size w' u (bB n), _, he, hm1.bel hB, hn1, fun w3 hc => ⟨(hI1.bel hB) w3 hc, row_stay (holds_lt hm1) hu w3 hc⟩, ?_⟩
    refine Goes.lone1 7 (TookS.eff 7 (Builtin.append_ #[22, 22] 22 #[v, u]) fun w3 hm3 hn3 hI3 => ?_)
    obtain ⟨b, c', w4, hr, hI4, hk⟩ := hI3.now.1.add (Nat.le_trans hn hI3.now.1.1.size) hI3.now.2 (bB_ne _) hlen (ty := 22)
    have z1 : w3.heap[g]? = some (wO v) := hm3.get 0
    have z2 : w4.heap[g]? = some (wO v) := hk g _ _ _ z1 (by decide)
    refine ⟨_, w4, _, [(g, wO v)], hr, fun j b o h => by match j, h with | 0, h => (cases h; exact z2), by simp [Mem.ids], hI4.stay ⟨_, _, _, z2, by decide⟩ (fun x hx => .inl (by simpa [Mem.ids] using hx)), ?_⟩
    refine Goes.run [8, 9] [] trivial ?_
    refine Goes.lone1 10 (TookS.run 10 0 ?_)
    refine Goes.run [] [] trivial ?_
    exact Goes.ret [] (.tuple #[]) fun w' hm hI => ⟨_, rfl, hm.get 0, hI.now⟩
  · refine TookS.call 6 63 #[.slice none 0 0, .int .i64 n] fun w1 hm1 hn1 hI1 => (pint_by n h w1).mono fun e w2 ⟨u, he, hu, hB⟩ => ⟨u, fun w' => WrI n0 g w v v l w' ∧ By w1.heap.size w' u (bB n), _, he, hm1.bel hB, hn1, fun w3 hc => ⟨(hI1.bel hB) w3 hc, row_stay (holds_lt hm1) hu w3 hc⟩, ?_⟩
    refine Goes.lone1 4 (TookS.run 4 0 ?_)
    refine Goes.lone1 7 (TookS.eff 7 (Builtin.append_ #[22, 22] 22 #[v, u]) fun w3 hm3 hn3 hI3 => ?_)
    obtain ⟨b, c', w4, hr, hI4, hk⟩ := hI3.now.1.add (Nat.le_trans hn hI3.now.1.1.size) hI3.now.2 (bB_ne _) hlen (ty := 22)
    have z1 : w3.heap[g]? = some (wO v) := hm3.get 0
    have z2 : w4.heap[g]? = some (wO v) := hk g _ _ _ z1 (by decide)
    refine ⟨_, w4, _, [(g, wO v)], hr, fun j b o h => by match j, h with | 0, h => (cases h; exact z2), by simp [Mem.ids], hI4.stay ⟨_, _, _, z2, by decide⟩ (fun x hx => .inl (by simpa [Mem.ids] using hx)), ?_⟩
    refine Goes.run [8, 9] [] trivial ?_
    refine Goes.lone1 10 (TookS.run 10 0 ?_)
    refine Goes.run [] [] trivial ?_
    exact Goes.ret [] (.tuple #[]) fun w' hm hI => ⟨_, rfl, hm.get 0, hI.now⟩
set_option maxRecDepth 100000 in
seal rn rnN rnS Goes ans atEnd put0 put putM opened openedY putA0 putA oneSt st0 keep mkSt newSt in
theorem wtext_any (hl : By n0 w v l) (hg : w.heap[g]? = some (wO v)) (hn : n0 ≤ w.heap.size) {s : List UInt8} (h : s.length ≤ 1000) (hlen : l.length + (tB s).length ≤ 100000000) : Calls Tryz.prog 28 #[.pointer (some ⟨g, 0, none⟩), strV s] w (WQ n0 g w v (.tuple #[]) (l ++ tB s)) := by
  refine Goes.enter Tryz.func28 [(g, wO v)] (WrI n0 g w v v l) (wq_begin hl hg).1 (by simp [Mem.ids]) (wq_begin hl hg).2 ?_
  refine Goes.open [] ?_
  refine Goes.run [0, 1, 2, 3, 5] [] trivial ?_
  refine Goes.two 4 6 ?_ ?_
  · refine TookS.run 4 0 ?_
    refine Goes.lone1 6 ?_
    refine TookS.call 6 62 #[.slice none 0 0, strV s] fun w1 hm1 hn1 hI1 => (ptext_by s h w1).mono fun e w2 ⟨u, he, hu, hB⟩ => ⟨u, fun w' => WrI n0 g w v v l w' ∧ By w1.heap.size w' u (tB s), _, he, hm1.bel hB, hn1, fun w3 hc => ⟨(hI1.bel hB) w3 hc, row_stay (holds_lt hm1) hu w3 hc⟩, ?_⟩
    refine Goes.lone1 7 (TookS.eff 7 (Builtin.append_ #[22, 22] 22 #[v, u]) fun w3 hm3 hn3 hI3 => ?_)
    obtain ⟨b, c', w4, hr, hI4, hk⟩ := hI3.now.1.add (Nat.le_trans hn hI3.now.1.1.size) hI3.now.2 (tB_ne _) hlen (ty := 22)
    have z1 : w3.heap[g]? = some (wO v) := hm3.get 0
    have z2 : w4.heap[g]? = some (wO v) := hk g _ _ _ z1 (by decide)
    refine ⟨_, w4, _, [(g, wO v)], hr, fun j b o h => by match j, h with | 0, h => (cases h; exact z2), by simp [Mem.ids], hI4.stay ⟨_, _, _, z2, by decide⟩ (fun x hx => .inl (by simpa [Mem.ids] using hx)), ?_⟩
    refine Goes.run [8, 9] [] trivial ?_
    refine Goes.lone1 10 (TookS.run 10 0 ?_)
    refine Goes.run [] [] trivial ?_
    exact Goes.ret [] (.tuple #[]) fun w' hm hI => ⟨_, rfl, hm.get 0, hI.now⟩
  · refine TookS.call 6 62 #[.slice none 0 0, strV s] fun w1 hm1 hn1 hI1 => (ptext_by s h w1).mono fun e w2 ⟨u, he, hu, hB⟩ => ⟨u, fun w' => WrI n0 g w v v l w' ∧ By w1.heap.size w' u (tB s), _, he, hm1.bel hB, hn1, fun w3 hc => ⟨(hI1.bel hB) w3 hc, row_stay (holds_lt hm1) hu w3 hc⟩, ?_⟩
    refine Goes.lone1 4 (TookS.run 4 0 ?_)
    refine Goes.lone1 7 (TookS.eff 7 (Builtin.append_ #[22, 22] 22 #[v, u]) fun w3 hm3 hn3 hI3 => ?_)
    obtain ⟨b, c', w4, hr, hI4, hk⟩ := hI3.now.1.add (Nat.le_trans hn hI3.now.1.1.size) hI3.now.2 (tB_ne _) hlen (ty := 22)
    have z1 : w3.heap[g]? = some (wO v) := hm3.get 0
    have z2 : w4.heap[g]? = some (wO v) := hk g _ _ _ z1 (by decide)
    refine ⟨_, w4, _, [(g, wO v)], hr, fun j b o h => by match j, h with | 0, h => (cases h; exact z2), by simp [Mem.ids], hI4.stay ⟨_, _, _, z2, by decide⟩ (fun x hx => .inl (by simpa [Mem.ids] using hx)), ?_⟩
    refine Goes.run [8, 9] [] trivial ?_
    refine Goes.lone1 10 (TookS.run 10 0 ?_)
    refine Goes.run [] [] trivial ?_
    exact Goes.ret [] (.tuple #[]) fun w' hm hI => ⟨_, rfl, hm.get 0, hI.now⟩
/-- Numbers, one behind the other. -/
def bL (ns : List Int) : List UInt8 := ns.flatMap bB
theorem bL_len {ns : List Int} (h : ∀ n ∈ ns, I64 n) : (bL ns).length ≤ 10 * ns.length := by
  induction ns with
  | nil => simp [bL]
  | cons n r ih =>
    have h1 := bB_len (h n (by simp))
    have h2 := ih fun x hx => h x (by simp [hx])
    unfold bL at h2 ⊢
    simp only [List.flatMap_cons, List.length_append, List.length_cons]
    omega
theorem bL_take {ns : List Int} {j : Nat} {x : Int} (hx : ns[j]? = some x) : bL (ns.take (j + 1)) = bL (ns.take j) ++ bB x := take_snoc hx
theorem idxZ (b n cap k : Nat) (h : k < n) (w : World) : (Instr.indexAt 119 (.slice (some ⟨b, 0, none⟩) n cap) (.int .i64 k)).run Tryz.prog w = .ok (.pointer (some ⟨b, k, none⟩)) w := by go_simp
set_option maxRecDepth 100000 in
seal rn rnN rnS Goes ans atEnd put0 put putM opened openedY putA0 putA oneSt st0 keep mkSt newSt in
theorem wints_any {ns : List Int} {b N : Nat} (hN : ns.length = N) (hN4 : N ≤ 10) (hl : By n0 w v l) (hg : w.heap[g]? = some (wO v)) (hn : n0 ≤ w.heap.size) (h : ∀ n ∈ ns, I64 n) (hb : w.heap[b]? = some (.cells (ns.map (Value.int .i64)).toArray 3 (0, 0))) (hlen : l.length ≤ 10000000) : Calls Tryz.prog 27 #[.pointer (some ⟨g, 0, none⟩), .slice (some ⟨b, 0, none⟩) N N] w (WQ n0 g w v (.tuple #[]) (l ++ bL ns)) := by
  have hbO : b ∉ OoW g v := fun hx => by
    rcases List.mem_cons.1 hx with hx | hx
    · rw [hx] at hb
      have := hg.symm.trans hb
      simp only [wO, Option.some.injEq, Obj.cells.injEq] at this
      exact absurd this.2.1 (by decide)
    · exact own_not hl hb (by decide) (own_mem.2 hx)
  refine Goes.enter Tryz.func27 [(g, wO v)] (WrI n0 g w v v l) (wq_begin hl hg).1 (by simp [Mem.ids]) (wq_begin hl hg).2 ?_
  refine Goes.run [] [] trivial ?_
  refine Goes.loop (α := Value × Nat) 16 (fun a => [(0, .pointer (some ⟨g, 0, none⟩)), (6, .slice (some ⟨b, 0, none⟩) N N), (7, .int .i64 N), (8, .int .i64 a.2)]) (fun a => [(g, wO a.1)]) (fun a w' => WrI n0 g w v a.1 (l ++ bL (ns.take a.2)) w') (fun a => a.2 ≤ N) (fun a => N - a.2) (v, 0) (Nat.zero_le _) (fun w' h => by simpa [bL] using h) ?_
  rintro ⟨v1, j⟩ J hj2 back
  replace hj2 : j ≤ N := hj2
  show Goes _ _ (WrI n0 g w v v1 (l ++ bL (ns.take j))) ⟨_, fr 16 [(0, .pointer (some ⟨g, 0, none⟩)), (6, .slice (some ⟨b, 0, none⟩) N N), (7, .int .i64 N), (8, .int .i64 j)] J, [(g, wO v1)]⟩
  cases hlt : decide ((j : Int) < (N : Int)) with
  | false =>
    have hjN : j = N := by have := of_decide_eq_false hlt; omega
    refine Goes.run [0, 0] [(decide ((j : Int) < (N : Int)), false)] ⟨hlt, trivial⟩ ?_
    exact Goes.ret [] (.tuple #[]) fun w' hm hI => ⟨_, rfl, hm.get 0, by have := hI.now; rw [hjN, List.take_of_length_le (l := ns) (by omega)] at this; exact this⟩
  | true =>
    have hjl : j < N := by have := of_decide_eq_true hlt; omega
    obtain ⟨x, hx⟩ : ∃ x, ns[j]? = some x := ⟨ns[j]'(by omega), by simp⟩
    have hl2 := bL_len (ns := ns.take j) fun n hn => h n (List.mem_of_mem_take hn)
    have hl3 : (ns.take j).length ≤ 10 := by rw [List.length_take]; omega
    have hbx := bB_len (h x (List.mem_of_getElem? hx))
    refine Goes.run [0, 1] [(decide ((j : Int) < (N : Int)), true)] ⟨hlt, trivial⟩ ?_
    refine Goes.val (Instr.indexAt 119 (.slice (some ⟨b, 0, none⟩) N N) (.int .i64 j)) (.pointer (some ⟨b, j, none⟩)) (fun w' _ _ => idxZ b N N j hjl w') ?_
    refine Goes.val (Instr.loadAt 3 (.pointer (some ⟨b, j, none⟩))) (.int .i64 x) (fun w' hm hI => load1 Tryz.isAgg3 (by
      unfold World.cell?
      rw [hI.now.1.block b (lt_of_get hb) hbO, hb]
      simp [hx])) ?_
    refine Goes.run [] [] trivial ?_
    refine Goes.callWQ 29 #[.pointer (some ⟨g, 0, none⟩), .int .i64 x] (.tuple #[]) (l ++ bL (ns.take j) ++ bB x) [] (fun q hq => by cases hq) (fun w1 hm1 hI1 => wnumber_any hI1.2.1 (hm1.get 0) (Nat.le_trans hn hI1.1.size) (h x (List.mem_of_getElem? hx)) (by rw [List.length_append]; omega)) fun v2 => ?_
    refine Goes.run [] [] trivial ?_
    refine Goes.slot 8 (.int .i64 (j + 1 : Nat)) (u := .int .i64 (IntKind.i64.wrap ((j : Int) + 1))) (congrArg _ (wrap_nat (by omega))) ?_
    refine Goes.inv (Inv' := WrI n0 g w v v2 (l ++ bL (ns.take (j + 1)))) (fun w' h => by rw [bL_take hx, ← List.append_assoc]; exact h) ?_
    exact back (v2, j + 1) _ (by show j + 1 ≤ N; omega) (by show N - (j + 1) < N - j; omega) (by kernel_rfl) (by kernel_rfl) (by kernel_rfl)
end
end Go.Proofs.YtddbiiejilcbbaaGreatDoor
namespace Go.Proofs.YtddbiiejilcbbaaGreatDoor
open Go Go.RowKit
attribute [local go_sem ↓] Go.wp_at_zero Go.wp_at_succ

/-- What bytes say, seven bits each, as the reference reckons it. -/
def lv (i u : Nat) : List UInt8 → Nat
  | [] => u
  | c :: r => lv (i + 1) ((u + c.toNat % 128 * 128 ^ i) % 18446744073709551616) r
end Go.Proofs.YtddbiiejilcbbaaGreatDoor
namespace Go.Proofs.YtddbiiejilcbbaaGreatDoor
open Go Go.RowKit

end Go.Proofs.YtddbiiejilcbbaaGreatDoor
namespace Go.Proofs.YtddbiiejilcbbaaGreatDoor
open Go Go.RowKit

/-- A reader's state: where it is, whether something did not stand at its place. -/
structure Rs where
  pos : Int
  bad : Bool
def goS (s : Rs) (n : Int) (ok : Bool) : Rs := ⟨bif s.bad || !ok then s.pos else n, s.bad || !ok⟩
/-- A number that is read within bounds. -/
def nI (l : List UInt8) (s : Rs) : Int := match tInt l s.pos with | some (n, _) => n | none => 0
def nS (l : List UInt8) (lo hi : Int) (s : Rs) : Rs := match tInt l s.pos with | some (n, k) => goS s (s.pos + k) (decide (lo ≤ n) && decide (n ≤ hi)) | none => goS s 0 false
def tI (l : List UInt8) (s : Rs) : List UInt8 := match tText l s.pos 24 with | some (t, _) => t | none => []
def tS (l : List UInt8) (s : Rs) : Rs := match tText l s.pos 24 with | some (_, k) => goS s (s.pos + k) true | none => goS s 0 false
/-- The program's reader. -/
def rO (v : Value) (s : Rs) : Obj := .cells #[v, .int .i64 s.pos, .bool s.bad] 61 (0, 0)
/-- What reading leaves. -/
def RQ (g : Nat) (w : World) (v u : Value) (s : Rs) (e : Ending) (w' : World) : Prop := e = .returned u ∧ Ch [g] w w' ∧ w'.heap[g]? = some (rO v s)
theorem hold1 {b : Nat} {o : Obj} {w : World} (h : w.heap[b]? = some o) : Holds [(b, o)] w := by
  intro j c q hj
  match j, hj with
  | 0, hj => cases hj; exact h
section
variable {g cap : Nat} {a : Option Addr} {l : List UInt8} {w : World}
set_option maxRecDepth 100000 in
seal rn rnN rnS Goes ans atEnd put0 put putM opened openedY putA0 putA oneSt st0 keep mkSt newSt in
theorem goOn_any {v : Value} {s : Rs} (hg : w.heap[g]? = some (rO v s)) (n : Int) (ok : Bool) : Calls Tryz.prog 140 #[.pointer (some ⟨g, 0, none⟩), .int .i64 n, .bool ok] w (RQ g w v (.tuple #[]) (goS s n ok)) := by
  obtain ⟨p, b⟩ := s
  refine Goes.begin Tryz.func140 [(g, rO v ⟨p, b⟩)] (fun _ => True) (hold1 hg) (by simp [Mem.ids]) (fun _ _ => trivial) ?_
  cases b with
  | true =>
    refine Goes.run [0, 1, 0, 0, 0] [(false, false), (true, true)] ⟨rfl, rfl, trivial⟩ ?_
    exact Goes.ret [] (.tuple #[]) fun w' hm hI => ⟨rfl, hI.now.1, hm.get 0⟩
  | false =>
    cases ok with
    | true =>
      refine Goes.run [0, 0, 0, 0, 1, 0] [(true, true), (false, false)] ⟨rfl, rfl, trivial⟩ ?_
      exact Goes.ret [] (.tuple #[]) fun w' hm hI => ⟨rfl, hI.now.1, hm.get 0⟩
    | false =>
      refine Goes.run [0, 0, 0, 0, 0] [(false, false), (false, false)] ⟨rfl, rfl, trivial⟩ ?_
      exact Goes.ret [] (.tuple #[]) fun w' hm hI => ⟨rfl, hI.now.1, hm.get 0⟩
set_option maxRecDepth 100000 in
seal rn rnN rnS Goes ans atEnd put0 put putM opened openedY putA0 putA oneSt st0 keep mkSt newSt in
theorem rwithin_any {s : Rs} (hg : w.heap[g]? = some (rO (.slice a l.length cap) s)) (hS : Stay [g] w (fun w' => Sl w' (.slice a l.length cap) l)) (hn : l.length ≤ 281474976710656) (lo hi : Int) : Calls Tryz.prog 101 #[.pointer (some ⟨g, 0, none⟩), .int .i64 lo, .int .i64 hi] w (RQ g w (.slice a l.length cap) (.int .i64 (nI l s)) (nS l lo hi s)) := by
  obtain ⟨p, b⟩ := s
  refine Goes.begin Tryz.func101 [(g, rO (.slice a l.length cap) ⟨p, b⟩)] (fun w' => Sl w' (.slice a l.length cap) l) (hold1 hg) (by simp [Mem.ids]) hS ?_
  refine Goes.run [] [] trivial ?_
  refine Goes.open [0] ?_
  refine Goes.run [0, 1, 2, 3, 0, 4, 5, 6, 7, 0] [] trivial ?_
  refine Goes.callA 8 139 #[.slice a l.length cap, .int .i64 p] fun ops m0 n0 l0 k0 ht w1 hm1 hn1 hI1 hm0 => (takeInt_any a l cap p w1 hI1.now.2 hn).mono fun e w2 ⟨he, hw⟩ => ?_
  subst hw
  cases hT : tInt l p with
  | none =>
    rw [hT] at he
    refine ⟨_, _, _, he, hm0, hm1, hn1, hI1, ?_⟩
    refine Goes.run [9, 10, 11, 12, 13, 14, 15, 0, 0] [(false, false), (false, false)] ⟨rfl, rfl, trivial⟩ ?_
    refine Goes.call2 0 g 140 #[.pointer (some ⟨g, 0, none⟩), .int .i64 0, .bool false] (.tuple #[]) (rO (.slice a l.length cap) (goS ⟨p, b⟩ 0 false)) (fun w' hm hI => (goOn_any (hm.get 0) 0 false).mono fun _ _ h => h) ?_
    refine Goes.run [] [] trivial ?_
    exact Goes.ret [] (.int .i64 0) fun w' hm hI => ⟨by unfold nI; rw [hT], hI.now.1, by unfold nS; rw [hT]; exact hm.get 0⟩
  | some q =>
    obtain ⟨n, k⟩ := q
    rw [hT] at he
    refine ⟨_, _, _, he, hm0, hm1, hn1, hI1, ?_⟩
    cases h1 : decide (lo ≤ n) with
    | false =>
      refine Goes.run [9, 10, 11, 12, 13, 14, 15, 1, 0] [(decide (lo ≤ n), false), (true, true)] ⟨h1, rfl, trivial⟩ ?_
      refine Goes.call2 0 g 140 #[.pointer (some ⟨g, 0, none⟩), .int .i64 (p + k), .bool false] (.tuple #[]) (rO (.slice a l.length cap) (goS ⟨p, b⟩ (p + k) false)) (fun w' hm hI => (goOn_any (hm.get 0) _ false).mono fun _ _ h => h) ?_
      refine Goes.run [] [] trivial ?_
      exact Goes.ret [] (.int .i64 n) fun w' hm hI => ⟨by unfold nI; rw [hT], hI.now.1, by unfold nS; rw [hT]; show _ = some (rO _ (goS _ _ (decide (lo ≤ n) && _))); rw [h1]; exact hm.get 0⟩
    | true =>
      refine Goes.run [9, 10, 11, 12, 13, 14, 15, 1, 1] [(decide (lo ≤ n), true), (true, true)] ⟨h1, rfl, trivial⟩ ?_
      refine Goes.call2 0 g 140 #[.pointer (some ⟨g, 0, none⟩), .int .i64 (p + k), .bool (decide (n ≤ hi))] (.tuple #[]) (rO (.slice a l.length cap) (goS ⟨p, b⟩ (p + k) (decide (n ≤ hi)))) (fun w' hm hI => (goOn_any (hm.get 0) _ _).mono fun _ _ h => h) ?_
      refine Goes.run [] [] trivial ?_
      exact Goes.ret [] (.int .i64 n) fun w' hm hI => ⟨by unfold nI; rw [hT], hI.now.1, by unfold nS; rw [hT]; show _ = some (rO _ (goS _ _ (decide (lo ≤ n) && _))); rw [h1]; exact hm.get 0⟩
end
end Go.Proofs.YtddbiiejilcbbaaGreatDoor
namespace Go.Proofs.YtddbiiejilcbbaaGreatDoor
open Go Go.RowKit

abbrev lo64 : Int := -9223372036854775808
abbrev hi64 : Int := 9223372036854775807
section
variable {g cap : Nat} {a : Option Addr} {l : List UInt8} {w : World}
set_option maxRecDepth 100000 in
seal rn rnN rnS Goes ans atEnd put0 put putM opened openedY putA0 putA oneSt st0 keep mkSt newSt in
theorem rnum_any {s : Rs} (hg : w.heap[g]? = some (rO (.slice a l.length cap) s)) (hS : Stay [g] w (fun w' => Sl w' (.slice a l.length cap) l)) (hn : l.length ≤ 281474976710656) : Calls Tryz.prog 100 #[.pointer (some ⟨g, 0, none⟩)] w (RQ g w (.slice a l.length cap) (.int .i64 (nI l s)) (nS l lo64 hi64 s)) := by
  refine Goes.begin Tryz.func100 [(g, rO (.slice a l.length cap) s)] (fun w' => Sl w' (.slice a l.length cap) l) (hold1 hg) (by simp [Mem.ids]) hS ?_
  refine Goes.run [] [] trivial ?_
  refine Goes.call2 0 g 101 #[.pointer (some ⟨g, 0, none⟩), .int .i64 lo64, .int .i64 hi64] (.int .i64 (nI l s)) (rO (.slice a l.length cap) (nS l lo64 hi64 s)) (fun w' hm hI => (rwithin_any (hm.get 0) (fun w3 hc => (hI w3 (hc.mono fun x hx => mem_eq hx)).2) hn lo64 hi64).mono fun _ _ h => h) ?_
  refine Goes.run [] [] trivial ?_
  exact Goes.ret [] (.int .i64 (nI l s)) fun w' hm hI => ⟨rfl, hI.now.1, hm.get 0⟩
set_option maxRecDepth 100000 in
seal rn rnN rnS Goes ans atEnd put0 put putM opened openedY putA0 putA oneSt st0 keep mkSt newSt in
theorem rint_any {s : Rs} (hg : w.heap[g]? = some (rO (.slice a l.length cap) s)) (hS : Stay [g] w (fun w' => Sl w' (.slice a l.length cap) l)) (hn : l.length ≤ 281474976710656) : Calls Tryz.prog 53 #[.pointer (some ⟨g, 0, none⟩)] w (RQ g w (.slice a l.length cap) (.int .i64 (nI l s)) (nS l lo64 hi64 s)) := by
  refine Goes.begin Tryz.func53 [(g, rO (.slice a l.length cap) s)] (fun w' => Sl w' (.slice a l.length cap) l) (hold1 hg) (by simp [Mem.ids]) hS ?_
  refine Goes.run [] [] trivial ?_
  refine Goes.call2 0 g 100 #[.pointer (some ⟨g, 0, none⟩)] (.int .i64 (nI l s)) (rO (.slice a l.length cap) (nS l lo64 hi64 s)) (fun w' hm hI => (rnum_any (hm.get 0) (fun w3 hc => (hI w3 (hc.mono fun x hx => mem_eq hx)).2) hn).mono fun _ _ h => h) ?_
  refine Goes.run [] [] trivial ?_
  exact Goes.ret [] (.int .i64 (nI l s)) fun w' hm hI => ⟨rfl, hI.now.1, hm.get 0⟩
set_option maxRecDepth 100000 in
seal rn rnN rnS Goes ans atEnd put0 put putM opened openedY putA0 putA oneSt st0 keep mkSt newSt in
theorem rcount_any {s : Rs} (hg : w.heap[g]? = some (rO (.slice a l.length cap) s)) (hS : Stay [g] w (fun w' => Sl w' (.slice a l.length cap) l)) (hn : l.length ≤ 281474976710656) (most : Int) : Calls Tryz.prog 54 #[.pointer (some ⟨g, 0, none⟩), .int .i64 most] w (RQ g w (.slice a l.length cap) (.int .i64 (nI l s)) (nS l 0 most s)) := by
  refine Goes.begin Tryz.func54 [(g, rO (.slice a l.length cap) s)] (fun w' => Sl w' (.slice a l.length cap) l) (hold1 hg) (by simp [Mem.ids]) hS ?_
  refine Goes.run [] [] trivial ?_
  refine Goes.call2 0 g 101 #[.pointer (some ⟨g, 0, none⟩), .int .i64 0, .int .i64 most] (.int .i64 (nI l s)) (rO (.slice a l.length cap) (nS l 0 most s)) (fun w' hm hI => (rwithin_any (hm.get 0) (fun w3 hc => (hI w3 (hc.mono fun x hx => mem_eq hx)).2) hn 0 most).mono fun _ _ h => h) ?_
  refine Goes.run [] [] trivial ?_
  exact Goes.ret [] (.int .i64 (nI l s)) fun w' hm hI => ⟨rfl, hI.now.1, hm.get 0⟩
set_option maxRecDepth 100000 in
seal rn rnN rnS Goes ans atEnd put0 put putM opened openedY putA0 putA oneSt st0 keep mkSt newSt in
theorem rtext_any {s : Rs} (hg : w.heap[g]? = some (rO (.slice a l.length cap) s)) (hS : Stay [g] w (fun w' => Sl w' (.slice a l.length cap) l)) (hn : l.length ≤ 281474976710656) : Calls Tryz.prog 102 #[.pointer (some ⟨g, 0, none⟩)] w (RQ g w (.slice a l.length cap) (strV (tI l s)) (tS l s)) := by
  obtain ⟨p, b⟩ := s
  refine Goes.begin Tryz.func102 [(g, rO (.slice a l.length cap) ⟨p, b⟩)] (fun w' => Sl w' (.slice a l.length cap) l) (hold1 hg) (by simp [Mem.ids]) hS ?_
  refine Goes.run [] [] trivial ?_
  refine Goes.open [0] ?_
  refine Goes.run [0, 1, 2, 3, 0, 4, 5, 6, 7, 0] [] trivial ?_
  refine Goes.callA 8 141 #[.slice a l.length cap, .int .i64 p, .int .i64 24] fun ops m0 n0 l0 k0 ht w1 hm1 hn1 hI1 hm0 => (takeText_any a l cap p 24 w1 hI1.now.2 hn).mono fun e w2 ⟨he, hw⟩ => ?_
  subst hw
  cases hT : tText l p 24 with
  | none =>
    rw [hT] at he
    refine ⟨_, _, _, he, hm0, hm1, hn1, hI1, ?_⟩
    refine Goes.run [9, 10, 11, 12, 13, 14, 15] [] trivial ?_
    refine Goes.call2 0 g 140 #[.pointer (some ⟨g, 0, none⟩), .int .i64 0, .bool false] (.tuple #[]) (rO (.slice a l.length cap) (goS ⟨p, b⟩ 0 false)) (fun w' hm hI => (goOn_any (hm.get 0) 0 false).mono fun _ _ h => h) ?_
    refine Goes.run [] [] trivial ?_
    exact Goes.ret [] (strV []) fun w' hm hI => ⟨by unfold tI; rw [hT], hI.now.1, by unfold tS; rw [hT]; exact hm.get 0⟩
  | some q =>
    obtain ⟨t, k⟩ := q
    rw [hT] at he
    refine ⟨_, _, _, he, hm0, hm1, hn1, hI1, ?_⟩
    refine Goes.run [9, 10, 11, 12, 13, 14, 15] [] trivial ?_
    refine Goes.call2 0 g 140 #[.pointer (some ⟨g, 0, none⟩), .int .i64 (p + k), .bool true] (.tuple #[]) (rO (.slice a l.length cap) (goS ⟨p, b⟩ (p + k) true)) (fun w' hm hI => (goOn_any (hm.get 0) _ true).mono fun _ _ h => h) ?_
    refine Goes.run [] [] trivial ?_
    exact Goes.ret [] (strV t) fun w' hm hI => ⟨by unfold tI; rw [hT], hI.now.1, by unfold tS; rw [hT]; exact hm.get 0⟩
end
end Go.Proofs.YtddbiiejilcbbaaGreatDoor
namespace Go.Proofs.YtddbiiejilcbbaaGreatDoor
open Go Go.RowKit

/-- The document's reader. -/
def qO (v : Value) (s : Rs) : Obj := .cells #[v, .int .i64 s.pos, .bool s.bad] 65 (0, 0)
/-- What the document's numbers are. -/
def nV (l : List UInt8) (s : Rs) : Int := bif s.bad then 0 else nI l s
def nW (l : List UInt8) (s : Rs) : Rs := bif s.bad then s else match tInt l s.pos with | some (_, k) => ⟨s.pos + k, false⟩ | none => ⟨s.pos, true⟩
def cF (l : List UInt8) (most : Int) (s : Rs) : Bool := !(nW l s).bad && (decide (nV l s < 0) || decide (nV l s > most))
def cV (l : List UInt8) (most : Int) (s : Rs) : Int := bif cF l most s then 0 else nV l s
def cW (l : List UInt8) (most : Int) (s : Rs) : Rs := bif cF l most s then ⟨s.pos, true⟩ else nW l s
def tV (l : List UInt8) (s : Rs) : List UInt8 := bif s.bad then [] else tI l s
def tW (l : List UInt8) (s : Rs) : Rs := bif s.bad then s else match tText l s.pos 24 with | some (_, k) => ⟨s.pos + k, false⟩ | none => ⟨s.pos, true⟩
section
variable {g cap : Nat} {a : Option Addr} {l : List UInt8} {w : World}
end
end Go.Proofs.YtddbiiejilcbbaaGreatDoor
namespace Go.Proofs.YtddbiiejilcbbaaGreatDoor
open Go Go.RowKit

section
variable {g cap : Nat} {a : Option Addr} {l : List UInt8} {w : World}
end
end Go.Proofs.YtddbiiejilcbbaaGreatDoor
namespace Go.Proofs.YtddbiiejilcbbaaGreatDoor
open Go Go.RowKit

def iS (l : List UInt8) (s : Rs) : Rs := nS l lo64 hi64 s
def wtQ (l : List UInt8) (s : Rs) : Wk := ⟨nI l (s), nI l (iS l (s)), tI l (iS l (iS l (s))), nI l (tS l (iS l (iS l (s)))), nI l (iS l (tS l (iS l (iS l (s)))))⟩
def wtS (l : List UInt8) (s : Rs) : Rs := iS l (iS l (tS l (iS l (iS l (s)))))
def xtQ (l : List UInt8) (s : Rs) : Ik := ⟨nI l (s), nI l (iS l (s)), nI l (iS l (iS l (s))), nI l (iS l (iS l (iS l (s)))), nI l (iS l (iS l (iS l (iS l (s))))), tI l (iS l (iS l (iS l (iS l (iS l (s)))))), nI l (tS l (iS l (iS l (iS l (iS l (iS l (s)))))))⟩
def xtS (l : List UInt8) (s : Rs) : Rs := iS l (tS l (iS l (iS l (iS l (iS l (iS l (s)))))))
section
variable {g cap : Nat} {a : Option Addr} {l : List UInt8} {w : World}
set_option maxRecDepth 100000 in
seal rn rnN rnS Goes ans atEnd put0 put putM opened openedY putA0 putA oneSt st0 keep mkSt newSt in
theorem rwait_any {s : Rs} (hg : w.heap[g]? = some (rO (.slice a l.length cap) s)) (hS : Stay [g] w (fun w' => Sl w' (.slice a l.length cap) l)) (hn : l.length ≤ 281474976710656) : Calls Tryz.prog 55 #[.pointer (some ⟨g, 0, none⟩)] w (RQ g w (.slice a l.length cap) (wV (wtQ l s)) (wtS l s)) := by
  refine Goes.begin Tryz.func55 [(g, rO (.slice a l.length cap) s)] (fun w' => Sl w' (.slice a l.length cap) l) (hold1 hg) (by simp [Mem.ids]) hS ?_
  refine Goes.run1 [] [] trivial fun g2 => ?_
  refine Goes.call2 0 g 53 #[.pointer (some ⟨g, 0, none⟩)] (.int .i64 (nI l (s))) (rO (.slice a l.length cap) (iS l (s))) (fun w' hm hI => (rint_any (hm.get 0) (fun w3 hc => (hI w3 (hc.mono fun x hx => mem_eq (l := [g, g2]) (by simp at hx; simp [hx]))).2) hn).mono fun _ _ h => h) ?_
  refine Goes.run [] [] trivial ?_
  refine Goes.call2 0 g 53 #[.pointer (some ⟨g, 0, none⟩)] (.int .i64 (nI l (iS l (s)))) (rO (.slice a l.length cap) (iS l (iS l (s)))) (fun w' hm hI => (rint_any (hm.get 0) (fun w3 hc => (hI w3 (hc.mono fun x hx => mem_eq (l := [g, g2]) (by simp at hx; simp [hx]))).2) hn).mono fun _ _ h => h) ?_
  refine Goes.run [] [] trivial ?_
  refine Goes.call2 0 g 102 #[.pointer (some ⟨g, 0, none⟩)] (strV (tI l (iS l (iS l (s))))) (rO (.slice a l.length cap) (tS l (iS l (iS l (s))))) (fun w' hm hI => (rtext_any (hm.get 0) (fun w3 hc => (hI w3 (hc.mono fun x hx => mem_eq (l := [g, g2]) (by simp at hx; simp [hx]))).2) hn).mono fun _ _ h => h) ?_
  refine Goes.run [] [] trivial ?_
  refine Goes.call2 0 g 53 #[.pointer (some ⟨g, 0, none⟩)] (.int .i64 (nI l (tS l (iS l (iS l (s)))))) (rO (.slice a l.length cap) (iS l (tS l (iS l (iS l (s)))))) (fun w' hm hI => (rint_any (hm.get 0) (fun w3 hc => (hI w3 (hc.mono fun x hx => mem_eq (l := [g, g2]) (by simp at hx; simp [hx]))).2) hn).mono fun _ _ h => h) ?_
  refine Goes.run [] [] trivial ?_
  refine Goes.call2 0 g 53 #[.pointer (some ⟨g, 0, none⟩)] (.int .i64 (nI l (iS l (tS l (iS l (iS l (s))))))) (rO (.slice a l.length cap) (iS l (iS l (tS l (iS l (iS l (s))))))) (fun w' hm hI => (rint_any (hm.get 0) (fun w3 hc => (hI w3 (hc.mono fun x hx => mem_eq (l := [g, g2]) (by simp at hx; simp [hx]))).2) hn).mono fun _ _ h => h) ?_
  refine Goes.run [1] [] trivial ?_
  exact Goes.ret [1] (wV (wtQ l s)) fun w' hm hI => ⟨rfl, hI.now.1, hm.get 0⟩
set_option maxRecDepth 100000 in
seal rn rnN rnS Goes ans atEnd put0 put putM opened openedY putA0 putA oneSt st0 keep mkSt newSt in
theorem rinstr_any {s : Rs} (hg : w.heap[g]? = some (rO (.slice a l.length cap) s)) (hS : Stay [g] w (fun w' => Sl w' (.slice a l.length cap) l)) (hn : l.length ≤ 281474976710656) : Calls Tryz.prog 56 #[.pointer (some ⟨g, 0, none⟩)] w (RQ g w (.slice a l.length cap) (iV (xtQ l s)) (xtS l s)) := by
  refine Goes.begin Tryz.func56 [(g, rO (.slice a l.length cap) s)] (fun w' => Sl w' (.slice a l.length cap) l) (hold1 hg) (by simp [Mem.ids]) hS ?_
  refine Goes.run1 [] [] trivial fun g2 => ?_
  refine Goes.call2 0 g 53 #[.pointer (some ⟨g, 0, none⟩)] (.int .i64 (nI l (s))) (rO (.slice a l.length cap) (iS l (s))) (fun w' hm hI => (rint_any (hm.get 0) (fun w3 hc => (hI w3 (hc.mono fun x hx => mem_eq (l := [g, g2]) (by simp at hx; simp [hx]))).2) hn).mono fun _ _ h => h) ?_
  refine Goes.run [] [] trivial ?_
  refine Goes.call2 0 g 53 #[.pointer (some ⟨g, 0, none⟩)] (.int .i64 (nI l (iS l (s)))) (rO (.slice a l.length cap) (iS l (iS l (s)))) (fun w' hm hI => (rint_any (hm.get 0) (fun w3 hc => (hI w3 (hc.mono fun x hx => mem_eq (l := [g, g2]) (by simp at hx; simp [hx]))).2) hn).mono fun _ _ h => h) ?_
  refine Goes.run [] [] trivial ?_
  refine Goes.call2 0 g 53 #[.pointer (some ⟨g, 0, none⟩)] (.int .i64 (nI l (iS l (iS l (s))))) (rO (.slice a l.length cap) (iS l (iS l (iS l (s))))) (fun w' hm hI => (rint_any (hm.get 0) (fun w3 hc => (hI w3 (hc.mono fun x hx => mem_eq (l := [g, g2]) (by simp at hx; simp [hx]))).2) hn).mono fun _ _ h => h) ?_
  refine Goes.run [] [] trivial ?_
  refine Goes.call2 0 g 53 #[.pointer (some ⟨g, 0, none⟩)] (.int .i64 (nI l (iS l (iS l (iS l (s)))))) (rO (.slice a l.length cap) (iS l (iS l (iS l (iS l (s)))))) (fun w' hm hI => (rint_any (hm.get 0) (fun w3 hc => (hI w3 (hc.mono fun x hx => mem_eq (l := [g, g2]) (by simp at hx; simp [hx]))).2) hn).mono fun _ _ h => h) ?_
  refine Goes.run [] [] trivial ?_
  refine Goes.call2 0 g 100 #[.pointer (some ⟨g, 0, none⟩)] (.int .i64 (nI l (iS l (iS l (iS l (iS l (s))))))) (rO (.slice a l.length cap) (iS l (iS l (iS l (iS l (iS l (s))))))) (fun w' hm hI => (rnum_any (hm.get 0) (fun w3 hc => (hI w3 (hc.mono fun x hx => mem_eq (l := [g, g2]) (by simp at hx; simp [hx]))).2) hn).mono fun _ _ h => h) ?_
  refine Goes.run [] [] trivial ?_
  refine Goes.call2 0 g 102 #[.pointer (some ⟨g, 0, none⟩)] (strV (tI l (iS l (iS l (iS l (iS l (iS l (s)))))))) (rO (.slice a l.length cap) (tS l (iS l (iS l (iS l (iS l (iS l (s)))))))) (fun w' hm hI => (rtext_any (hm.get 0) (fun w3 hc => (hI w3 (hc.mono fun x hx => mem_eq (l := [g, g2]) (by simp at hx; simp [hx]))).2) hn).mono fun _ _ h => h) ?_
  refine Goes.run [] [] trivial ?_
  refine Goes.call2 0 g 53 #[.pointer (some ⟨g, 0, none⟩)] (.int .i64 (nI l (tS l (iS l (iS l (iS l (iS l (iS l (s))))))))) (rO (.slice a l.length cap) (iS l (tS l (iS l (iS l (iS l (iS l (iS l (s))))))))) (fun w' hm hI => (rint_any (hm.get 0) (fun w3 hc => (hI w3 (hc.mono fun x hx => mem_eq (l := [g, g2]) (by simp at hx; simp [hx]))).2) hn).mono fun _ _ h => h) ?_
  refine Goes.run [1] [] trivial ?_
  exact Goes.ret [1] (iV (xtQ l s)) fun w' hm hI => ⟨rfl, hI.now.1, hm.get 0⟩
end
end Go.Proofs.YtddbiiejilcbbaaGreatDoor
namespace Go.Proofs.YtddbiiejilcbbaaGreatDoor
open Go Go.RowKit

theorem tInt_i64 {l : List UInt8} {p n : Int} {k : Nat} (h : tInt l p = some (n, k)) : I64 n := by
  have h1 := ((takeI_iff _ _ _).1 (tInt_len h).2.2.1).1
  exact h1
theorem int_same (l : List UInt8) (s : Rs) : iS l s = nW l s := by
  obtain ⟨p, b⟩ := s
  unfold iS nS nW
  cases hT : tInt l p with
  | none => cases b <;> simp [goS]
  | some q =>
    obtain ⟨n, k⟩ := q
    have h := tInt_i64 hT
    have h1 : decide (lo64 ≤ n) = true := decide_eq_true h.1
    have h2 : decide (n ≤ hi64) = true := decide_eq_true h.2
    cases b <;> simp [goS, h1, h2]
theorem text_same (l : List UInt8) (s : Rs) : tS l s = tW l s := by
  obtain ⟨p, b⟩ := s
  unfold tS tW
  cases hT : tText l p 24 with
  | none => cases b <;> simp [goS]
  | some q => cases b <;> simp [goS]
theorem count_same (l : List UInt8) (most : Int) (s : Rs) : nS l 0 most s = cW l most s := by
  obtain ⟨p, b⟩ := s
  unfold nS cW cF nV nW nI
  cases b with
  | true => cases hT : tInt l p <;> simp [goS]
  | false =>
    cases hT : tInt l p with
    | none => simp [goS]
    | some q =>
      obtain ⟨n, k⟩ := q
      simp only [goS]
      by_cases h0 : 0 ≤ n <;> by_cases h1 : n ≤ most
      · have e0 : decide (n < 0) = false := decide_eq_false (by omega)
        have e1 : decide (n > most) = false := decide_eq_false (by omega)
        simp [h0, h1, e0, e1]
      · have e0 : decide (n < 0) = false := decide_eq_false (by omega)
        have e1 : decide (n > most) = true := decide_eq_true (by omega)
        simp [h0, h1, e0, e1]
      · have e0 : decide (n < 0) = true := decide_eq_true (by omega)
        simp [h0, h1, e0]
      · have e0 : decide (n < 0) = true := decide_eq_true (by omega)
        simp [h0, h1, e0]
theorem int_ok {l : List UInt8} {s : Rs} (h : (iS l s).bad = false) : s.bad = false ∧ nV l s = nI l s := by
  have hs : s.bad = false := by
    cases hb : s.bad with
    | false => rfl
    | true =>
      rw [int_same] at h
      unfold nW at h
      rw [hb] at h
      exact hb.symm.trans h
  exact ⟨hs, by unfold nV; rw [hs]; rfl⟩
theorem text_ok {l : List UInt8} {s : Rs} (h : (tS l s).bad = false) : s.bad = false ∧ tV l s = tI l s := by
  have hs : s.bad = false := by
    cases hb : s.bad with
    | false => rfl
    | true =>
      rw [text_same] at h
      unfold tW at h
      rw [hb] at h
      exact hb.symm.trans h
  exact ⟨hs, by unfold tV; rw [hs]; rfl⟩
theorem count_ok {l : List UInt8} {most : Int} {s : Rs} (h : (nS l 0 most s).bad = false) : s.bad = false ∧ cV l most s = nI l s ∧ 0 ≤ nI l s ∧ nI l s ≤ most := by
  rw [count_same] at h
  unfold cW at h
  cases hc : cF l most s with
  | true => rw [hc] at h; cases h
  | false =>
    rw [hc] at h
    have h2 : (iS l s).bad = false := by rw [int_same]; exact h
    obtain ⟨hs, hv⟩ := int_ok h2
    have hc2 := hc
    unfold cF at hc2
    have h3 : (nW l s).bad = false := h
    rw [h3, hv] at hc2
    simp only [Bool.not_false, Bool.true_and, Bool.or_eq_false_iff, decide_eq_false_iff_not] at hc2
    exact ⟨hs, by unfold cV; rw [hc]; exact hv, by omega, by omega⟩
end Go.Proofs.YtddbiiejilcbbaaGreatDoor
namespace Go.Proofs.YtddbiiejilcbbaaGreatDoor
open Go Go.RowKit

def wkC (xs : List Wk) : List Value := xs.flatMap wC
theorem wkC_app (a b : List Wk) : wkC (a ++ b) = wkC a ++ wkC b := by unfold wkC; simp
/-- Waits: a row of one's own. -/
def Wts (base : Nat) (w : World) (v : Value) (xs : List Wk) : Prop := w.ownsRow base 70 5 v xs.length (wkC xs)
theorem Wts.add {base : Nat} {w : World} {v : Value} {xs : List Wk} (h : Wts base w v xs) (hb : base ≤ w.heap.size) (x : Wk) {bj c : Nat} {et ty : TypeId} {z : Nat × Nat} (hj : w.heap[bj]? = some (.cells #[.int .i64 x.entry, .int .i64 x.day, strV x.label, .int .i64 x.first, .int .i64 x.second] et z)) (hl : xs.length + 1 ≤ 100000000) :
    ∃ b c' w', (Builtin.append_ #[24, 24] ty #[v, .slice (some ⟨bj, 0, none⟩) 1 c]).run Tryz.prog w = .ok (.slice (some ⟨b, 0, none⟩) (xs.length + 1) c') w' ∧ Wts base w' (.slice (some ⟨b, 0, none⟩) (xs.length + 1) c') (xs ++ [x]) ∧ w.grownBy w' v.ownBlock ∧ (v.ownBlock = some b ∨ b = w.heap.size) := by
  obtain ⟨b, c', w', hr, hrow, hgr, hob⟩ := append_coreA (P := Tryz.prog) (t := 24) (e := 70) (ty := ty) (size := 5) (bytes := 48) (a := ⟨bj, 0, none⟩) (m := 1) (c := c) (news := wC x) h hb (by simp [wC]) (cell_row hj) (by simp [wC, Value.oneCell', strV]) (.inr (by omega)) (by unfold maxLen; omega) (by omega) (by kernel_rfl)
  refine ⟨b, c', w', hr, ?_, hgr, ?_⟩
  · unfold Wts
    rw [wkC_app, List.length_append]
    unfold wkC
    simp only [List.flatMap_cons, List.flatMap_nil, List.append_nil]
    exact hrow
  · rcases hob with h | h
    · exact .inl h.symm
    · refine .inr ?_
      simp [Value.ownBlock] at h
      exact h
/-- A row grows, and nothing that was there has changed but the reader. -/
def RI (g : Nat) (w : World) (e size : Nat) (v : Value) (n : Nat) (cs : List Value) (w' : World) : Prop := Ch [g] w w' ∧ w'.ownsRow w.heap.size e size v n cs
theorem RI.stay {g : Nat} {w w' : World} {e size n : Nat} {v : Value} {cs : List Value} {L : List Nat} (h : RI g w e size v n cs w') (hL : ∀ x ∈ L, (x = g ∨ w.heap.size ≤ x) ∧ ∃ c t z, w'.heap[x]? = some (.cells c t z) ∧ t ≠ e) : Stay L w' (RI g w e size v n cs) := by
  have key : ∀ b, v.ownBlock = some b → b ∉ L := by
    intro b hb hm
    obtain ⟨-, c, t, z, hx, h4⟩ := hL b hm
    exact own_not h.2 hx (fun e => h4 e.symm) hb
  exact fun _ hc => ⟨h.1.trans hc fun x hx => by
    rcases (hL x hx).1 with rfl | h1
    · exact .inl (by simp)
    · exact .inr h1, own_ch h.2 hc key⟩
/-- What the loops read. -/
def wRun (l : List UInt8) : Nat → Rs → List Wk → List Wk × Rs
  | 0, s, xs => (xs, s)
  | n + 1, s, xs => bif s.bad then (xs, s) else wRun l n (wtS l s) (xs ++ [wtQ l s])
def xRun (l : List UInt8) : Nat → Rs → List Ik → List Ik × Rs
  | 0, s, xs => (xs, s)
  | n + 1, s, xs => bif s.bad then (xs, s) else xRun l n (xtS l s) (xs ++ [xtQ l s])
theorem wRun_bad {l : List UInt8} {n : Nat} {s : Rs} {xs : List Wk} (h : s.bad = true) : wRun l n s xs = (xs, s) := by
  cases n with
  | zero => rfl
  | succ n => unfold wRun; rw [h]; rfl
theorem xRun_bad {l : List UInt8} {n : Nat} {s : Rs} {xs : List Ik} (h : s.bad = true) : xRun l n s xs = (xs, s) := by
  cases n with
  | zero => rfl
  | succ n => unfold xRun; rw [h]; rfl
theorem wRun_step {l : List UInt8} {n : Nat} {s : Rs} {xs : List Wk} (h : s.bad = false) : wRun l (n + 1) s xs = wRun l n (wtS l s) (xs ++ [wtQ l s]) := by
  rw [wRun, h]; rfl
theorem xRun_step {l : List UInt8} {n : Nat} {s : Rs} {xs : List Ik} (h : s.bad = false) : xRun l (n + 1) s xs = xRun l n (xtS l s) (xs ++ [xtQ l s]) := by
  rw [xRun, h]; rfl
end Go.Proofs.YtddbiiejilcbbaaGreatDoor
namespace Go.Proofs.YtddbiiejilcbbaaGreatDoor
open Go Go.RowKit

def cO3 (rg : Int) (u v : Value) : Obj := .cells #[.int .i64 rg, u, v] 27 (0, 0)
theorem nI_i64 (l : List UInt8) (s : Rs) : I64 (nI l s) := by
  unfold nI
  cases hT : tInt l s.pos with
  | none => exact ⟨by decide, by decide⟩
  | some q => exact tInt_i64 (k := q.2) hT
section
variable {g g2 g3 cap : Nat} {a : Option Addr} {l : List UInt8} {w : World}
/-- A row stays beside the reader and two codes. -/
theorem RI.known {e size n : Nat} {v : Value} {cs : List Value} {w' : World} (h : RI g w e size v n cs w') {o : Value} {s : Rs} {r2 r3 : Int} {u2 v2 u3 v3 : Value} (h0 : w'.heap[g]? = some (rO o s)) (h2 : w'.heap[g2]? = some (cO3 r2 u2 v2)) (h3 : w'.heap[g3]? = some (cO3 r3 u3 v3)) (hg2 : w.heap.size ≤ g2) (hg3 : w.heap.size ≤ g3) (e1 : 61 ≠ e) (e2 : 27 ≠ e) : Stay [g, g2, g3] w' (RI g w e size v n cs) := h.stay fun x hx => by
  simp only [List.mem_cons, List.not_mem_nil, or_false] at hx
  rcases hx with rfl | rfl | rfl
  · exact ⟨.inl rfl, _, _, _, h0, e1⟩
  · exact ⟨.inr hg2, _, _, _, h2, e2⟩
  · exact ⟨.inr hg3, _, _, _, h3, e2⟩
/-- A call on the reader. -/
theorem RI.call {e size n : Nat} {v : Value} {cs : List Value} {w1 w2 : World} (h : RI g w e size v n cs w1) {o : Value} {s : Rs} (h0 : w1.heap[g]? = some (rO o s)) (hC : Ch [g] w1 w2) (e1 : 61 ≠ e) : RI g w e size v n cs w2 := ⟨h.1.trans hC fun x hx => .inl hx, own_ch h.2 hC fun b hb hx => by
  obtain rfl : b = g := by simpa using hx
  exact own_not h.2 h0 (fun e => e1 e.symm) hb⟩
/-- One more in the row. -/
theorem RI.more {v : Value} {xs : List Wk} {w1 : World} (h : RI g w 70 5 v xs.length (wkC xs) w1) (x : Wk) {bj c : Nat} {et ty : TypeId} {z : Nat × Nat} (hj : w1.heap[bj]? = some (.cells #[.int .i64 x.entry, .int .i64 x.day, strV x.label, .int .i64 x.first, .int .i64 x.second] et z)) (hl : xs.length + 1 ≤ 100000000) {o : Value} {s : Rs} {r2 r3 : Int} {u2 v2 u3 v3 : Value} (h0 : w1.heap[g]? = some (rO o s)) (h2 : w1.heap[g2]? = some (cO3 r2 u2 v2)) (h3 : w1.heap[g3]? = some (cO3 r3 u3 v3)) :
    ∃ b c' w', (Builtin.append_ #[24, 24] ty #[v, .slice (some ⟨bj, 0, none⟩) 1 c]).run Tryz.prog w1 = .ok (.slice (some ⟨b, 0, none⟩) (xs.length + 1) c') w' ∧ RI g w 70 5 (.slice (some ⟨b, 0, none⟩) (xs.length + 1) c') (xs ++ [x]).length (wkC (xs ++ [x])) w' ∧ w'.heap[g]? = some (rO o s) ∧ w'.heap[g2]? = some (cO3 r2 u2 v2) ∧ w'.heap[g3]? = some (cO3 r3 u3 v3) := by
  obtain ⟨b, c', w', hr, hrow, hgr, hob⟩ := Wts.add h.2 h.1.size x hj hl (ty := ty) (c := c)
  have far : ∀ {b : Nat} {c : Array Value} {e : TypeId} {z : Nat × Nat}, e ≠ 70 → w1.heap[b]? = some (.cells c e z) → w'.heap[b]? = some (.cells c e z) := fun he hi => by
    rw [hgr.block _ (lt_of_get hi) (fun e1 => own_not h.2 hi (fun e => he e.symm) e1.symm)]
    exact hi
  refine ⟨b, c', w', hr, ⟨h.1.grown hgr fun b hb => ?_, hrow⟩, far (by decide) h0, far (by decide) h2, far (by decide) h3⟩
  rcases h.2.2 with ⟨e, -⟩ | ⟨g', cap, cur, e, hb', -⟩
  · rw [e] at hb; cases hb
  · rw [e] at hb
    cases hb
    exact .inr hb'
structure LpW where
  left : Int
  s : Rs
  xs : List Wk
  u : Value
def LpW.ok (l : List UInt8) (R : List Wk × Rs) (x : LpW) : Prop := wRun l x.left.toNat x.s x.xs = R ∧ (x.s.bad = false → x.left + x.xs.length ≤ 250) ∧ I64 x.left ∧ ∃ (au : Option Addr) (nu cu : Nat), x.u = .slice au nu cu
noncomputable def rdS : St := (rn Tryz.prog [2] [] (mkSt Tryz.prog 1 (rn Tryz.prog [] [] (putM (rn Tryz.prog [] [] (mkSt Tryz.prog 2 (rn Tryz.prog [] [] (st0 Tryz.f22 #[.pointer (some ⟨0, 0, none⟩)] [(0, rO (.slice none 0 0) ⟨0, false⟩)])).st)).st (.int .i64 0) 0 0 (rO (.slice none 0 0) ⟨0, false⟩))).st)).st
noncomputable def rdL : List TI := (rn Tryz.prog [] [] (putM rdS (.int .i64 0) 0 0 (rO (.slice none 0 0) ⟨0, false⟩))).st.todo
noncomputable def rdK : List TI := (rn Tryz.prog [0, 0, 0] [] ⟨rdL, fr 50 [(0, .pointer (some ⟨0, 0, none⟩)), (2, .pointer (some ⟨1, 0, none⟩)), (3, .pointer (some ⟨2, 0, none⟩)), (4, .int .i64 0)] (fun _ => undef), [(0, rO (.slice none 0 0) ⟨0, false⟩)]⟩).st.todo
set_option maxHeartbeats 2000000 in
set_option maxRecDepth 100000 in
seal rn rnN rnS Goes ans atEnd put0 put putM opened openedY putA0 putA oneSt st0 keep mkSt newSt rdL rdK in
theorem rloopW {s0 : Rs} {rg n0 : Int} {R : List Wk × Rs} {Q : Ending → World → Prop} (hS : Stay [g] w (fun w' => Sl w' (.slice a l.length cap) l)) (hn : l.length ≤ 281474976710656) (hg2 : w.heap.size ≤ g2) (hg3 : w.heap.size ≤ g3) (h0 : LpW.ok l R ⟨n0, s0, [], .slice none 0 0⟩)
    (rest : ∀ u, (∃ (au : Option Addr) (nu cu : Nat), u = .slice au nu cu) → ∀ J, Goes Tryz.prog (bodyPost Tryz.prog Tryz.f22 Q) (RI g w 70 5 u R.1.length (wkC R.1)) ⟨rdK, fr 50 [(0, .pointer (some ⟨g, 0, none⟩)), (2, .pointer (some ⟨g2, 0, none⟩)), (3, .pointer (some ⟨g3, 0, none⟩)), (29, .pointer (some ⟨g, 0, none⟩))] J, [(g, rO (.slice a l.length cap) R.2), (g2, cO3 0 (.slice none 0 0) (.slice none 0 0)), (g3, cO3 rg u (.slice none 0 0))]⟩) (J0 : Nat → Value) :
    Goes Tryz.prog (bodyPost Tryz.prog Tryz.f22 Q) (RI g w 70 5 (.slice none 0 0) 0 []) ⟨rdL, fr 50 [(0, .pointer (some ⟨g, 0, none⟩)), (2, .pointer (some ⟨g2, 0, none⟩)), (3, .pointer (some ⟨g3, 0, none⟩)), (4, .int .i64 n0)] J0, [(g, rO (.slice a l.length cap) s0), (g2, cO3 0 (.slice none 0 0) (.slice none 0 0)), (g3, cO3 rg (.slice none 0 0) (.slice none 0 0))]⟩ := by
  refine Goes.loop (α := LpW) 50 (fun x => [(0, .pointer (some ⟨g, 0, none⟩)), (2, .pointer (some ⟨g2, 0, none⟩)), (3, .pointer (some ⟨g3, 0, none⟩)), (4, .int .i64 x.left)]) (fun x => [(g, rO (.slice a l.length cap) x.s), (g2, cO3 0 (.slice none 0 0) (.slice none 0 0)), (g3, cO3 rg x.u (.slice none 0 0))]) (fun x => RI g w 70 5 x.u x.xs.length (wkC x.xs)) (LpW.ok l R) (fun x => x.left.toNat) ⟨n0, s0, [], .slice none 0 0⟩ h0 (fun w' h => h) ?_
  rintro ⟨left, ⟨p, b⟩, xs, u⟩ J ⟨hR, hle, hI64, hu⟩ back
  replace hR : wRun l left.toNat ⟨p, b⟩ xs = R := hR
  replace hle : b = false → left + (xs.length : Int) ≤ 250 := hle
  show Goes _ _ (RI g w 70 5 u xs.length (wkC xs)) ⟨_, fr 50 [(0, .pointer (some ⟨g, 0, none⟩)), (2, .pointer (some ⟨g2, 0, none⟩)), (3, .pointer (some ⟨g3, 0, none⟩)), (4, .int .i64 left)] J, [(g, rO (.slice a l.length cap) ⟨p, b⟩), (g2, cO3 0 (.slice none 0 0) (.slice none 0 0)), (g3, cO3 rg u (.slice none 0 0))]⟩
  cases hlt : decide (left > 0) with
  | false =>
    have h1 : left.toNat = 0 := by have := of_decide_eq_false hlt; omega
    rw [h1] at hR
    obtain rfl : (xs, (⟨p, b⟩ : Rs)) = R := hR
    refine Goes.run [0, 0, 0] [(false, false), (decide (left > 0), false)] ⟨rfl, hlt, trivial⟩ ?_
    exact Goes.at (K := rdK) (n := 50) (S := [(0, .pointer (some ⟨g, 0, none⟩)), (2, .pointer (some ⟨g2, 0, none⟩)), (3, .pointer (some ⟨g3, 0, none⟩)), (29, .pointer (some ⟨g, 0, none⟩))]) (m := [(g, rO (.slice a l.length cap) ⟨p, b⟩), (g2, cO3 0 (.slice none 0 0) (.slice none 0 0)), (g3, cO3 rg u (.slice none 0 0))]) (fun J => rest u hu J) (by kernel_rfl) (by kernel_rfl) (by kernel_rfl)
  | true =>
  have hpos := of_decide_eq_true hlt
  cases b with
  | true =>
    rw [wRun_bad rfl] at hR
    obtain rfl := hR
    refine Goes.run [0, 1, 0, 0] [(false, false), (decide (left > 0), true)] ⟨rfl, hlt, trivial⟩ ?_
    exact Goes.at (K := rdK) (n := 50) (S := [(0, .pointer (some ⟨g, 0, none⟩)), (2, .pointer (some ⟨g2, 0, none⟩)), (3, .pointer (some ⟨g3, 0, none⟩)), (29, .pointer (some ⟨g, 0, none⟩))]) (m := [(g, rO (.slice a l.length cap) ⟨p, true⟩), (g2, cO3 0 (.slice none 0 0) (.slice none 0 0)), (g3, cO3 rg u (.slice none 0 0))]) (fun J => rest u hu J) (by kernel_rfl) (by kernel_rfl) (by kernel_rfl)
  | false =>
  have hle := hle rfl
  obtain ⟨k, hk⟩ : ∃ k, left.toNat = k + 1 := ⟨left.toNat - 1, by omega⟩
  rw [hk, wRun_step rfl] at hR
  obtain ⟨s2, hs2⟩ : ∃ s2, wtS l ⟨p, false⟩ = s2 := ⟨_, rfl⟩
  obtain ⟨x, hx⟩ : ∃ x, wtQ l ⟨p, false⟩ = x := ⟨_, rfl⟩
  rw [hs2, hx] at hR
  have callq : ∀ w1, RI g w 70 5 u xs.length (wkC xs) w1 → w1.heap[g]? = some (rO (.slice a l.length cap) ⟨p, false⟩) → Calls Tryz.prog 55 #[.pointer (some ⟨g, 0, none⟩)] w1 (RQ g w1 (.slice a l.length cap) (wV x) s2) := fun w1 hI h => by
    have := rwait_any h (fun w3 hc => hS w3 (hI.1.trans hc fun x hx => .inl hx)) hn
    rw [hs2, hx] at this
    exact this
  refine Goes.run [0, 1, 0, 1] [(true, true), (decide (left > 0), true)] ⟨rfl, hlt, trivial⟩ ?_
  refine Goes.open [] ?_
  refine Goes.run [0, 2] [] trivial ?_
  refine Goes.two 1 3 ?_ ?_
  · refine TookS.run 1 2 ?_
    refine Goes.lone1 3 ?_
    refine TookS.call 3 55 #[.pointer (some ⟨g, 0, none⟩)] fun w1 hm1 hn1 hI1 => (callq w1 hI1.now (hm1.get 0)).mono fun e w2 ⟨he, hC, hg'⟩ => ?_
    have hd : [g, g2, g3].Nodup := Nodup.of_ids hn1
    have k1 : w1.heap[g]? = some (rO (.slice a l.length cap) ⟨p, false⟩) := hm1.get 0
    have k2 : w1.heap[g2]? = some (cO3 0 (.slice none 0 0) (.slice none 0 0)) := hm1.get 1
    have k3 : w1.heap[g3]? = some (cO3 rg u (.slice none 0 0)) := hm1.get 2
    have q2 : w2.heap[g2]? = some (cO3 0 (.slice none 0 0) (.slice none 0 0)) := (hC.block g2 (lt_of_get k2) (fun hx => (List.nodup_cons.1 hd).1 (by have e := List.mem_singleton.1 hx; simp [e]))).trans k2
    have q3 : w2.heap[g3]? = some (cO3 rg u (.slice none 0 0)) := (hC.block g3 (lt_of_get k3) (fun hx => (List.nodup_cons.1 hd).1 (by have e := List.mem_singleton.1 hx; simp [e]))).trans k3
    refine ⟨wV x, _, [(g, rO (.slice a l.length cap) s2), (g2, cO3 0 (.slice none 0 0) (.slice none 0 0)), (g3, cO3 rg u (.slice none 0 0))], he, fun j b o h => by match j, h with | 0, h => (cases h; exact hg') | 1, h => (cases h; exact q2) | 2, h => (cases h; exact q3), hd, (hI1.now.call k1 hC (by decide)).known hg' q2 q3 hg2 hg3 (by decide) (by decide), ?_⟩
    refine Goes.lone1 4 ?_
    refine TookS.new1 4 0 [] (fun _ _ => Nat.zero_le _) fun gb _ => ?_
    refine Goes.lone1 5 (TookS.eff 5 (Builtin.append_ #[24, 24] 24 #[u, .slice (some ⟨gb, 0, none⟩) 1 1]) fun w5 hm5 hn5 hI5 => ?_)
    have z1 : w5.heap[gb]? = some (.cells #[.int .i64 x.entry, .int .i64 x.day, strV x.label, .int .i64 x.first, .int .i64 x.second] 70 (0, 0)) := hm5.get 3
    have y1 : w5.heap[g]? = some (rO (.slice a l.length cap) s2) := hm5.get 0
    have y2 : w5.heap[g2]? = some (cO3 0 (.slice none 0 0) (.slice none 0 0)) := hm5.get 1
    have y3 : w5.heap[g3]? = some (cO3 rg u (.slice none 0 0)) := hm5.get 2
    obtain ⟨b, c', w6, hr, hI6, h60, h62, h63⟩ := hI5.now.more x z1 (by omega) (ty := 24) (c := 1) y1 y2 y3
    refine ⟨_, w6, _, [(g, rO (.slice a l.length cap) s2), (g2, cO3 0 (.slice none 0 0) (.slice none 0 0)), (g3, cO3 rg u (.slice none 0 0))], hr, fun j b o h => by match j, h with | 0, h => (cases h; exact h60) | 1, h => (cases h; exact h62) | 2, h => (cases h; exact h63), hd, hI6.known h60 h62 h63 hg2 hg3 (by decide) (by decide), ?_⟩
    refine Goes.run [6] [] trivial ?_
    refine Goes.lone1 7 (TookS.run 7 2 ?_)
    refine Goes.run [] [] trivial ?_
    refine Goes.slot 4 (.int .i64 (left - 1)) (u := .int .i64 (IntKind.i64.wrap (left - 1))) (congrArg _ (IntWalk.i64_in _ ⟨by omega, by have := hI64.2; omega⟩)) ?_
    refine back ⟨left - 1, s2, xs ++ [x], .slice (some ⟨b, 0, none⟩) (xs.length + 1) c'⟩ _ ⟨by show wRun l (left - 1).toNat s2 (xs ++ [x]) = R; rw [show (left - 1).toNat = k by omega]; exact hR, fun _ => by show left - 1 + ((xs ++ [x]).length : Int) ≤ 250; rw [List.length_append]; simp; omega, ⟨by show _ ≤ left - 1; omega, by show left - 1 ≤ _; have := hI64.2; omega⟩, ⟨_, _, _, rfl⟩⟩ (by show (left - 1).toNat < left.toNat; omega) (by kernel_rfl) (by kernel_rfl) (by kernel_rfl)
  · skip
    refine TookS.call 3 55 #[.pointer (some ⟨g, 0, none⟩)] fun w1 hm1 hn1 hI1 => (callq w1 hI1.now (hm1.get 0)).mono fun e w2 ⟨he, hC, hg'⟩ => ?_
    have hd : [g, g2, g3].Nodup := Nodup.of_ids hn1
    have k1 : w1.heap[g]? = some (rO (.slice a l.length cap) ⟨p, false⟩) := hm1.get 0
    have k2 : w1.heap[g2]? = some (cO3 0 (.slice none 0 0) (.slice none 0 0)) := hm1.get 1
    have k3 : w1.heap[g3]? = some (cO3 rg u (.slice none 0 0)) := hm1.get 2
    have q2 : w2.heap[g2]? = some (cO3 0 (.slice none 0 0) (.slice none 0 0)) := (hC.block g2 (lt_of_get k2) (fun hx => (List.nodup_cons.1 hd).1 (by have e := List.mem_singleton.1 hx; simp [e]))).trans k2
    have q3 : w2.heap[g3]? = some (cO3 rg u (.slice none 0 0)) := (hC.block g3 (lt_of_get k3) (fun hx => (List.nodup_cons.1 hd).1 (by have e := List.mem_singleton.1 hx; simp [e]))).trans k3
    refine ⟨wV x, _, [(g, rO (.slice a l.length cap) s2), (g2, cO3 0 (.slice none 0 0) (.slice none 0 0)), (g3, cO3 rg u (.slice none 0 0))], he, fun j b o h => by match j, h with | 0, h => (cases h; exact hg') | 1, h => (cases h; exact q2) | 2, h => (cases h; exact q3), hd, (hI1.now.call k1 hC (by decide)).known hg' q2 q3 hg2 hg3 (by decide) (by decide), ?_⟩
    refine Goes.two 1 4 ?_ ?_
    · refine TookS.run 1 2 ?_
      refine Goes.lone1 4 ?_
      refine TookS.new1 4 0 [] (fun _ _ => Nat.zero_le _) fun gb _ => ?_
      refine Goes.lone1 5 (TookS.eff 5 (Builtin.append_ #[24, 24] 24 #[u, .slice (some ⟨gb, 0, none⟩) 1 1]) fun w5 hm5 hn5 hI5 => ?_)
      have z1 : w5.heap[gb]? = some (.cells #[.int .i64 x.entry, .int .i64 x.day, strV x.label, .int .i64 x.first, .int .i64 x.second] 70 (0, 0)) := hm5.get 3
      have y1 : w5.heap[g]? = some (rO (.slice a l.length cap) s2) := hm5.get 0
      have y2 : w5.heap[g2]? = some (cO3 0 (.slice none 0 0) (.slice none 0 0)) := hm5.get 1
      have y3 : w5.heap[g3]? = some (cO3 rg u (.slice none 0 0)) := hm5.get 2
      obtain ⟨b, c', w6, hr, hI6, h60, h62, h63⟩ := hI5.now.more x z1 (by omega) (ty := 24) (c := 1) y1 y2 y3
      refine ⟨_, w6, _, [(g, rO (.slice a l.length cap) s2), (g2, cO3 0 (.slice none 0 0) (.slice none 0 0)), (g3, cO3 rg u (.slice none 0 0))], hr, fun j b o h => by match j, h with | 0, h => (cases h; exact h60) | 1, h => (cases h; exact h62) | 2, h => (cases h; exact h63), hd, hI6.known h60 h62 h63 hg2 hg3 (by decide) (by decide), ?_⟩
      refine Goes.run [6] [] trivial ?_
      refine Goes.lone1 7 (TookS.run 7 2 ?_)
      refine Goes.run [] [] trivial ?_
      refine Goes.slot 4 (.int .i64 (left - 1)) (u := .int .i64 (IntKind.i64.wrap (left - 1))) (congrArg _ (IntWalk.i64_in _ ⟨by omega, by have := hI64.2; omega⟩)) ?_
      refine back ⟨left - 1, s2, xs ++ [x], .slice (some ⟨b, 0, none⟩) (xs.length + 1) c'⟩ _ ⟨by show wRun l (left - 1).toNat s2 (xs ++ [x]) = R; rw [show (left - 1).toNat = k by omega]; exact hR, fun _ => by show left - 1 + ((xs ++ [x]).length : Int) ≤ 250; rw [List.length_append]; simp; omega, ⟨by show _ ≤ left - 1; omega, by show left - 1 ≤ _; have := hI64.2; omega⟩, ⟨_, _, _, rfl⟩⟩ (by show (left - 1).toNat < left.toNat; omega) (by kernel_rfl) (by kernel_rfl) (by kernel_rfl)
    · skip
      refine TookS.new1 4 0 [] (fun _ _ => Nat.zero_le _) fun gb _ => ?_
      refine Goes.lone1 1 (TookS.run 1 2 ?_)
      refine Goes.lone1 5 (TookS.eff 5 (Builtin.append_ #[24, 24] 24 #[u, .slice (some ⟨gb, 0, none⟩) 1 1]) fun w5 hm5 hn5 hI5 => ?_)
      have z1 : w5.heap[gb]? = some (.cells #[.int .i64 x.entry, .int .i64 x.day, strV x.label, .int .i64 x.first, .int .i64 x.second] 70 (0, 0)) := hm5.get 3
      have y1 : w5.heap[g]? = some (rO (.slice a l.length cap) s2) := hm5.get 0
      have y2 : w5.heap[g2]? = some (cO3 0 (.slice none 0 0) (.slice none 0 0)) := hm5.get 1
      have y3 : w5.heap[g3]? = some (cO3 rg u (.slice none 0 0)) := hm5.get 2
      obtain ⟨b, c', w6, hr, hI6, h60, h62, h63⟩ := hI5.now.more x z1 (by omega) (ty := 24) (c := 1) y1 y2 y3
      refine ⟨_, w6, _, [(g, rO (.slice a l.length cap) s2), (g2, cO3 0 (.slice none 0 0) (.slice none 0 0)), (g3, cO3 rg u (.slice none 0 0))], hr, fun j b o h => by match j, h with | 0, h => (cases h; exact h60) | 1, h => (cases h; exact h62) | 2, h => (cases h; exact h63), hd, hI6.known h60 h62 h63 hg2 hg3 (by decide) (by decide), ?_⟩
      refine Goes.run [6] [] trivial ?_
      refine Goes.lone1 7 (TookS.run 7 2 ?_)
      refine Goes.run [] [] trivial ?_
      refine Goes.slot 4 (.int .i64 (left - 1)) (u := .int .i64 (IntKind.i64.wrap (left - 1))) (congrArg _ (IntWalk.i64_in _ ⟨by omega, by have := hI64.2; omega⟩)) ?_
      refine back ⟨left - 1, s2, xs ++ [x], .slice (some ⟨b, 0, none⟩) (xs.length + 1) c'⟩ _ ⟨by show wRun l (left - 1).toNat s2 (xs ++ [x]) = R; rw [show (left - 1).toNat = k by omega]; exact hR, fun _ => by show left - 1 + ((xs ++ [x]).length : Int) ≤ 250; rw [List.length_append]; simp; omega, ⟨by show _ ≤ left - 1; omega, by show left - 1 ≤ _; have := hI64.2; omega⟩, ⟨_, _, _, rfl⟩⟩ (by show (left - 1).toNat < left.toNat; omega) (by kernel_rfl) (by kernel_rfl) (by kernel_rfl)
end
end Go.Proofs.YtddbiiejilcbbaaGreatDoor
