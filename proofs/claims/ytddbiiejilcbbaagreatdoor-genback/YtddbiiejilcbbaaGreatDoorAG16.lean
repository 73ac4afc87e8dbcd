/- texts put together: GRd8 GRd9 GQd GQe GQf GDc GQg GSm GRun GShown GBk GEnP GFit GRigW -/
import Derived.Test.YtddbiiejilcbbaaGreatDoorAG15
import Derived.Test.DevTool
import Derived.Test.YtddbiiejilcbbaaGreatDoorAG2
import Derived.Laws.MakeOwn
namespace Go.Proofs.YtddbiiejilcbbaaGreatDoor
open Go Go.RowKit

section
variable {g g2 g3 cap : Nat} {a : Option Addr} {l : List UInt8} {w : World}
/-- The row of instructions grows beside that of the waits. -/
def RJ (g : Nat) (w : World) (uw : Value) (nw : Nat) (cw : List Value) (v : Value) (n : Nat) (cs : List Value) (w' : World) : Prop := RI g w 72 7 v n cs w' ∧ RI g w 70 5 uw nw cw w'
section
variable {uw v : Value} {nw n : Nat} {cw cs : List Value}
theorem RJ.known {w' : World} (h : RJ g w uw nw cw v n cs w') {o : Value} {s : Rs} {r2 r3 : Int} {u2 v2 u3 v3 : Value} (h0 : w'.heap[g]? = some (rO o s)) (h2 : w'.heap[g2]? = some (cO3 r2 u2 v2)) (h3 : w'.heap[g3]? = some (cO3 r3 u3 v3)) (hg2 : w.heap.size ≤ g2) (hg3 : w.heap.size ≤ g3) : Stay [g, g2, g3] w' (RJ g w uw nw cw v n cs) :=
  (h.1.known h0 h2 h3 hg2 hg3 (by decide) (by decide)).and (h.2.known h0 h2 h3 hg2 hg3 (by decide) (by decide))
theorem RJ.call {w1 w2 : World} (h : RJ g w uw nw cw v n cs w1) {o : Value} {s : Rs} (h0 : w1.heap[g]? = some (rO o s)) (hC : Ch [g] w1 w2) : RJ g w uw nw cw v n cs w2 := ⟨h.1.call h0 hC (by decide), h.2.call h0 hC (by decide)⟩
theorem RJ.more {xs : List Ik} {w1 : World} (h : RJ g w uw nw cw v xs.length (inC xs) w1) (x : Ik) {bj c : Nat} {et ty : TypeId} {z : Nat × Nat} (hj : w1.heap[bj]? = some (.cells #[.int .i64 x.op, .int .i64 x.a, .int .i64 x.b, .int .i64 x.c, .int .i64 x.n, strV x.s, .int .i64 x.to] et z)) (hl : xs.length + 1 ≤ 100000000) {o : Value} {s : Rs} {r2 r3 : Int} {u2 v2 u3 v3 : Value} (h0 : w1.heap[g]? = some (rO o s)) (h2 : w1.heap[g2]? = some (cO3 r2 u2 v2)) (h3 : w1.heap[g3]? = some (cO3 r3 u3 v3)) :
    ∃ b c' w', (Builtin.append_ #[25, 25] ty #[v, .slice (some ⟨bj, 0, none⟩) 1 c]).run Tryz.prog w1 = .ok (.slice (some ⟨b, 0, none⟩) (xs.length + 1) c') w' ∧ RJ g w uw nw cw (.slice (some ⟨b, 0, none⟩) (xs.length + 1) c') (xs ++ [x]).length (inC (xs ++ [x])) w' ∧ w'.heap[g]? = some (rO o s) ∧ w'.heap[g2]? = some (cO3 r2 u2 v2) ∧ w'.heap[g3]? = some (cO3 r3 u3 v3) := by
  obtain ⟨b, c', w', hr, hrow, hgr, hob⟩ := Ins.add h.1.2 h.1.1.size x hj hl (ty := ty) (c := c)
  have far : ∀ {b : Nat} {c : Array Value} {e : TypeId} {z : Nat × Nat}, e ≠ 72 → w1.heap[b]? = some (.cells c e z) → w'.heap[b]? = some (.cells c e z) := fun he hi => by
    rw [hgr.block _ (lt_of_get hi) (fun e1 => own_not h.1.2 hi (fun e => he e.symm) e1.symm)]
    exact hi
  have hC : Ch [g] w w' := h.1.1.grown hgr fun b hb => by
    rcases h.1.2.2 with ⟨e, -⟩ | ⟨g', cap, cur, e, hb', -⟩
    · rw [e] at hb; cases hb
    · rw [e] at hb
      cases hb
      exact .inr hb'
  refine ⟨b, c', w', hr, ⟨⟨hC, hrow⟩, hC, h.2.2.1, ?_⟩, far (by decide) h0, far (by decide) h2, far (by decide) h3⟩
  rcases h.2.2.2 with h4 | ⟨g', cap, cur, e1, e2, e3, e4⟩
  · exact .inl h4
  · exact .inr ⟨g', cap, cur, e1, e2, far (by decide) e3, e4⟩
end
structure LpX where
  left : Int
  s : Rs
  xs : List Ik
  u : Value
def LpX.ok (l : List UInt8) (R : List Ik × Rs) (x : LpX) : Prop := xRun l x.left.toNat x.s x.xs = R ∧ (x.s.bad = false → x.left + x.xs.length ≤ 16384) ∧ I64 x.left ∧ ∃ (au : Option Addr) (nu cu : Nat), x.u = .slice au nu cu
noncomputable def rdM : List TI := (rn Tryz.prog [] [] (putM ⟨rdK, fr 50 [(0, .pointer (some ⟨0, 0, none⟩)), (2, .pointer (some ⟨1, 0, none⟩)), (3, .pointer (some ⟨2, 0, none⟩))] (fun _ => undef), [(0, rO (.slice none 0 0) ⟨0, false⟩)]⟩ (.int .i64 0) 0 0 (rO (.slice none 0 0) ⟨0, false⟩))).st.todo
noncomputable def rdN : List TI := (rn Tryz.prog [0, 0, 0] [] ⟨rdM, fr 50 [(0, .pointer (some ⟨0, 0, none⟩)), (2, .pointer (some ⟨1, 0, none⟩)), (3, .pointer (some ⟨2, 0, none⟩)), (5, .int .i64 0)] (fun _ => undef), [(0, rO (.slice none 0 0) ⟨0, false⟩)]⟩).st.todo
set_option maxHeartbeats 2000000 in
set_option maxRecDepth 100000 in
seal rn rnN rnS Goes ans atEnd put0 put putM opened openedY putA0 putA oneSt st0 keep mkSt newSt rdM rdN in
theorem rloopX {uw : Value} {nw : Nat} {cw : List Value} {s0 : Rs} {rg n0 : Int} {R : List Ik × Rs} {Q : Ending → World → Prop} (hS : Stay [g] w (fun w' => Sl w' (.slice a l.length cap) l)) (hn : l.length ≤ 281474976710656) (hg2 : w.heap.size ≤ g2) (hg3 : w.heap.size ≤ g3) (h0 : LpX.ok l R ⟨n0, s0, [], .slice none 0 0⟩)
    (rest : ∀ u, (∃ (au : Option Addr) (nu cu : Nat), u = .slice au nu cu) → ∀ J, Goes Tryz.prog (bodyPost Tryz.prog Tryz.f22 Q) (RJ g w uw nw cw u R.1.length (inC R.1)) ⟨rdN, fr 50 [(0, .pointer (some ⟨g, 0, none⟩)), (2, .pointer (some ⟨g2, 0, none⟩)), (3, .pointer (some ⟨g3, 0, none⟩))] J, [(g, rO (.slice a l.length cap) R.2), (g2, cO3 0 (.slice none 0 0) (.slice none 0 0)), (g3, cO3 rg uw u)]⟩) (J0 : Nat → Value) :
    Goes Tryz.prog (bodyPost Tryz.prog Tryz.f22 Q) (RJ g w uw nw cw (.slice none 0 0) 0 []) ⟨rdM, fr 50 [(0, .pointer (some ⟨g, 0, none⟩)), (2, .pointer (some ⟨g2, 0, none⟩)), (3, .pointer (some ⟨g3, 0, none⟩)), (5, .int .i64 n0)] J0, [(g, rO (.slice a l.length cap) s0), (g2, cO3 0 (.slice none 0 0) (.slice none 0 0)), (g3, cO3 rg uw (.slice none 0 0))]⟩ := by
  refine Goes.loop (α := LpX) 50 (fun x => [(0, .pointer (some ⟨g, 0, none⟩)), (2, .pointer (some ⟨g2, 0, none⟩)), (3, .pointer (some ⟨g3, 0, none⟩)), (5, .int .i64 x.left)]) (fun x => [(g, rO (.slice a l.length cap) x.s), (g2, cO3 0 (.slice none 0 0) (.slice none 0 0)), (g3, cO3 rg uw x.u)]) (fun x => RJ g w uw nw cw x.u x.xs.length (inC x.xs)) (LpX.ok l R) (fun x => x.left.toNat) ⟨n0, s0, [], .slice none 0 0⟩ h0 (fun w' h => h) ?_
  rintro ⟨left, ⟨p, b⟩, xs, u⟩ J ⟨hR, hle, hI64, hu⟩ back
  replace hR : xRun l left.toNat ⟨p, b⟩ xs = R := hR
  replace hle : b = false → left + (xs.length : Int) ≤ 16384 := hle
  show Goes _ _ (RJ g w uw nw cw u xs.length (inC xs)) ⟨_, fr 50 [(0, .pointer (some ⟨g, 0, none⟩)), (2, .pointer (some ⟨g2, 0, none⟩)), (3, .pointer (some ⟨g3, 0, none⟩)), (5, .int .i64 left)] J, [(g, rO (.slice a l.length cap) ⟨p, b⟩), (g2, cO3 0 (.slice none 0 0) (.slice none 0 0)), (g3, cO3 rg uw u)]⟩
  cases hlt : decide (left > 0) with
  | false =>
    have h1 : left.toNat = 0 := by have := of_decide_eq_false hlt; omega
    rw [h1] at hR
    obtain rfl : (xs, (⟨p, b⟩ : Rs)) = R := hR
    refine Goes.run [0, 0, 0] [(false, false), (decide (left > 0), false)] ⟨rfl, hlt, trivial⟩ ?_
    exact Goes.at (K := rdN) (n := 50) (S := [(0, .pointer (some ⟨g, 0, none⟩)), (2, .pointer (some ⟨g2, 0, none⟩)), (3, .pointer (some ⟨g3, 0, none⟩))]) (m := [(g, rO (.slice a l.length cap) ⟨p, b⟩), (g2, cO3 0 (.slice none 0 0) (.slice none 0 0)), (g3, cO3 rg uw u)]) (fun J => rest u hu J) (by kernel_rfl) (by kernel_rfl) (by kernel_rfl)
  | true =>
  have hpos := of_decide_eq_true hlt
  cases b with
  | true =>
    rw [xRun_bad rfl] at hR
    obtain rfl := hR
    refine Goes.run [0, 1, 0, 0] [(false, false), (decide (left > 0), true)] ⟨rfl, hlt, trivial⟩ ?_
    exact Goes.at (K := rdN) (n := 50) (S := [(0, .pointer (some ⟨g, 0, none⟩)), (2, .pointer (some ⟨g2, 0, none⟩)), (3, .pointer (some ⟨g3, 0, none⟩))]) (m := [(g, rO (.slice a l.length cap) ⟨p, true⟩), (g2, cO3 0 (.slice none 0 0) (.slice none 0 0)), (g3, cO3 rg uw u)]) (fun J => rest u hu J) (by kernel_rfl) (by kernel_rfl) (by kernel_rfl)
  | false =>
  have hle := hle rfl
  obtain ⟨k, hk⟩ : ∃ k, left.toNat = k + 1 := ⟨left.toNat - 1, by omega⟩
  rw [hk, xRun_step rfl] at hR
  obtain ⟨s2, hs2⟩ : ∃ s2, xtS l ⟨p, false⟩ = s2 := ⟨_, rfl⟩
  obtain ⟨x, hx⟩ : ∃ x, xtQ l ⟨p, false⟩ = x := ⟨_, rfl⟩
  rw [hs2, hx] at hR
  have callq : ∀ w1, RJ g w uw nw cw u xs.length (inC xs) w1 → w1.heap[g]? = some (rO (.slice a l.length cap) ⟨p, false⟩) → Calls Tryz.prog 56 #[.pointer (some ⟨g, 0, none⟩)] w1 (RQ g w1 (.slice a l.length cap) (iV x) s2) := fun w1 hI h => by
    have := rinstr_any h (fun w3 hc => hS w3 (hI.1.1.trans hc fun x hx => .inl hx)) hn
    rw [hs2, hx] at this
    exact this
  refine Goes.run [0, 1, 0, 1] [(true, true), (decide (left > 0), true)] ⟨rfl, hlt, trivial⟩ ?_
  refine Goes.open [] ?_
  refine Goes.run [0, 2] [] trivial ?_
  refine Goes.two 1 3 ?_ ?_
  · refine TookS.run 1 2 ?_
    refine Goes.lone1 3 ?_
    refine TookS.call 3 56 #[.pointer (some ⟨g, 0, none⟩)] fun w1 hm1 hn1 hI1 => (callq w1 hI1.now (hm1.get 0)).mono fun e w2 ⟨he, hC, hg'⟩ => ?_
    have hd : [g, g2, g3].Nodup := Nodup.of_ids hn1
    have k1 : w1.heap[g]? = some (rO (.slice a l.length cap) ⟨p, false⟩) := hm1.get 0
    have k2 : w1.heap[g2]? = some (cO3 0 (.slice none 0 0) (.slice none 0 0)) := hm1.get 1
    have k3 : w1.heap[g3]? = some (cO3 rg uw u) := hm1.get 2
    have q2 : w2.heap[g2]? = some (cO3 0 (.slice none 0 0) (.slice none 0 0)) := (hC.block g2 (lt_of_get k2) (fun hx => (List.nodup_cons.1 hd).1 (by have e := List.mem_singleton.1 hx; simp [e]))).trans k2
    have q3 : w2.heap[g3]? = some (cO3 rg uw u) := (hC.block g3 (lt_of_get k3) (fun hx => (List.nodup_cons.1 hd).1 (by have e := List.mem_singleton.1 hx; simp [e]))).trans k3
    refine ⟨iV x, _, [(g, rO (.slice a l.length cap) s2), (g2, cO3 0 (.slice none 0 0) (.slice none 0 0)), (g3, cO3 rg uw u)], he, fun j b o h => by match j, h with | 0, h => (cases h; exact hg') | 1, h => (cases h; exact q2) | 2, h => (cases h; exact q3), hd, (hI1.now.call k1 hC).known hg' q2 q3 hg2 hg3, ?_⟩
    refine Goes.lone1 4 ?_
    refine TookS.new1 4 0 [] (fun _ _ => Nat.zero_le _) fun gb _ => ?_
    refine Goes.lone1 5 (TookS.eff 5 (Builtin.append_ #[25, 25] 25 #[u, .slice (some ⟨gb, 0, none⟩) 1 1]) fun w5 hm5 hn5 hI5 => ?_)
    have z1 : w5.heap[gb]? = some (.cells #[.int .i64 x.op, .int .i64 x.a, .int .i64 x.b, .int .i64 x.c, .int .i64 x.n, strV x.s, .int .i64 x.to] 72 (0, 0)) := hm5.get 3
    have y1 : w5.heap[g]? = some (rO (.slice a l.length cap) s2) := hm5.get 0
    have y2 : w5.heap[g2]? = some (cO3 0 (.slice none 0 0) (.slice none 0 0)) := hm5.get 1
    have y3 : w5.heap[g3]? = some (cO3 rg uw u) := hm5.get 2
    obtain ⟨b, c', w6, hr, hI6, h60, h62, h63⟩ := hI5.now.more x z1 (by omega) (ty := 25) (c := 1) y1 y2 y3
    refine ⟨_, w6, _, [(g, rO (.slice a l.length cap) s2), (g2, cO3 0 (.slice none 0 0) (.slice none 0 0)), (g3, cO3 rg uw u)], hr, fun j b o h => by match j, h with | 0, h => (cases h; exact h60) | 1, h => (cases h; exact h62) | 2, h => (cases h; exact h63), hd, hI6.known h60 h62 h63 hg2 hg3, ?_⟩
    refine Goes.run [6] [] trivial ?_
    refine Goes.lone1 7 (TookS.run 7 2 ?_)
    refine Goes.run [] [] trivial ?_
    refine Goes.slot 5 (.int .i64 (left - 1)) (u := .int .i64 (IntKind.i64.wrap (left - 1))) (congrArg _ (IntWalk.i64_in _ ⟨by omega, by have := hI64.2; omega⟩)) ?_
    refine back ⟨left - 1, s2, xs ++ [x], .slice (some ⟨b, 0, none⟩) (xs.length + 1) c'⟩ _ ⟨by show xRun l (left - 1).toNat s2 (xs ++ [x]) = R; rw [show (left - 1).toNat = k by omega]; exact hR, fun _ => by show left - 1 + ((xs ++ [x]).length : Int) ≤ 16384; rw [List.length_append]; simp; omega, ⟨by show _ ≤ left - 1; omega, by show left - 1 ≤ _; have := hI64.2; omega⟩, ⟨_, _, _, rfl⟩⟩ (by show (left - 1).toNat < left.toNat; omega) (by kernel_rfl) (by kernel_rfl) (by kernel_rfl)
  · skip
    refine TookS.call 3 56 #[.pointer (some ⟨g, 0, none⟩)] fun w1 hm1 hn1 hI1 => (callq w1 hI1.now (hm1.get 0)).mono fun e w2 ⟨he, hC, hg'⟩ => ?_
    have hd : [g, g2, g3].Nodup := Nodup.of_ids hn1
    have k1 : w1.heap[g]? = some (rO (.slice a l.length cap) ⟨p, false⟩) := hm1.get 0
    have k2 : w1.heap[g2]? = some (cO3 0 (.slice none 0 0) (.slice none 0 0)) := hm1.get 1
    have k3 : w1.heap[g3]? = some (cO3 rg uw u) := hm1.get 2
    have q2 : w2.heap[g2]? = some (cO3 0 (.slice none 0 0) (.slice none 0 0)) := (hC.block g2 (lt_of_get k2) (fun hx => (List.nodup_cons.1 hd).1 (by have e := List.mem_singleton.1 hx; simp [e]))).trans k2
    have q3 : w2.heap[g3]? = some (cO3 rg uw u) := (hC.block g3 (lt_of_get k3) (fun hx => (List.nodup_cons.1 hd).1 (by have e := List.mem_singleton.1 hx; simp [e]))).trans k3
    refine ⟨iV x, _, [(g, rO (.slice a l.length cap) s2), (g2, cO3 0 (.slice none 0 0) (.slice none 0 0)), (g3, cO3 rg uw u)], he, fun j b o h => by match j, h with | 0, h => (cases h; exact hg') | 1, h => (cases h; exact q2) | 2, h => (cases h; exact q3), hd, (hI1.now.call k1 hC).known hg' q2 q3 hg2 hg3, ?_⟩
    refine Goes.two 1 4 ?_ ?_
    · refine TookS.run 1 2 ?_
      refine Goes.lone1 4 ?_
      refine TookS.new1 4 0 [] (fun _ _ => Nat.zero_le _) fun gb _ => ?_
      refine Goes.lone1 5 (TookS.eff 5 (Builtin.append_ #[25, 25] 25 #[u, .slice (some ⟨gb, 0, none⟩) 1 1]) fun w5 hm5 hn5 hI5 => ?_)
      have z1 : w5.heap[gb]? = some (.cells #[.int .i64 x.op, .int .i64 x.a, .int .i64 x.b, .int .i64 x.c, .int .i64 x.n, strV x.s, .int .i64 x.to] 72 (0, 0)) := hm5.get 3
      have y1 : w5.heap[g]? = some (rO (.slice a l.length cap) s2) := hm5.get 0
      have y2 : w5.heap[g2]? = some (cO3 0 (.slice none 0 0) (.slice none 0 0)) := hm5.get 1
      have y3 : w5.heap[g3]? = some (cO3 rg uw u) := hm5.get 2
      obtain ⟨b, c', w6, hr, hI6, h60, h62, h63⟩ := hI5.now.more x z1 (by omega) (ty := 25) (c := 1) y1 y2 y3
      refine ⟨_, w6, _, [(g, rO (.slice a l.length cap) s2), (g2, cO3 0 (.slice none 0 0) (.slice none 0 0)), (g3, cO3 rg uw u)], hr, fun j b o h => by match j, h with | 0, h => (cases h; exact h60) | 1, h => (cases h; exact h62) | 2, h => (cases h; exact h63), hd, hI6.known h60 h62 h63 hg2 hg3, ?_⟩
      refine Goes.run [6] [] trivial ?_
      refine Goes.lone1 7 (TookS.run 7 2 ?_)
      refine Goes.run [] [] trivial ?_
      refine Goes.slot 5 (.int .i64 (left - 1)) (u := .int .i64 (IntKind.i64.wrap (left - 1))) (congrArg _ (IntWalk.i64_in _ ⟨by omega, by have := hI64.2; omega⟩)) ?_
      refine back ⟨left - 1, s2, xs ++ [x], .slice (some ⟨b, 0, none⟩) (xs.length + 1) c'⟩ _ ⟨by show xRun l (left - 1).toNat s2 (xs ++ [x]) = R; rw [show (left - 1).toNat = k by omega]; exact hR, fun _ => by show left - 1 + ((xs ++ [x]).length : Int) ≤ 16384; rw [List.length_append]; simp; omega, ⟨by show _ ≤ left - 1; omega, by show left - 1 ≤ _; have := hI64.2; omega⟩, ⟨_, _, _, rfl⟩⟩ (by show (left - 1).toNat < left.toNat; omega) (by kernel_rfl) (by kernel_rfl) (by kernel_rfl)
    · skip
      refine TookS.new1 4 0 [] (fun _ _ => Nat.zero_le _) fun gb _ => ?_
      refine Goes.lone1 1 (TookS.run 1 2 ?_)
      refine Goes.lone1 5 (TookS.eff 5 (Builtin.append_ #[25, 25] 25 #[u, .slice (some ⟨gb, 0, none⟩) 1 1]) fun w5 hm5 hn5 hI5 => ?_)
      have z1 : w5.heap[gb]? = some (.cells #[.int .i64 x.op, .int .i64 x.a, .int .i64 x.b, .int .i64 x.c, .int .i64 x.n, strV x.s, .int .i64 x.to] 72 (0, 0)) := hm5.get 3
      have y1 : w5.heap[g]? = some (rO (.slice a l.length cap) s2) := hm5.get 0
      have y2 : w5.heap[g2]? = some (cO3 0 (.slice none 0 0) (.slice none 0 0)) := hm5.get 1
      have y3 : w5.heap[g3]? = some (cO3 rg uw u) := hm5.get 2
      obtain ⟨b, c', w6, hr, hI6, h60, h62, h63⟩ := hI5.now.more x z1 (by omega) (ty := 25) (c := 1) y1 y2 y3
      refine ⟨_, w6, _, [(g, rO (.slice a l.length cap) s2), (g2, cO3 0 (.slice none 0 0) (.slice none 0 0)), (g3, cO3 rg uw u)], hr, fun j b o h => by match j, h with | 0, h => (cases h; exact h60) | 1, h => (cases h; exact h62) | 2, h => (cases h; exact h63), hd, hI6.known h60 h62 h63 hg2 hg3, ?_⟩
      refine Goes.run [6] [] trivial ?_
      refine Goes.lone1 7 (TookS.run 7 2 ?_)
      refine Goes.run [] [] trivial ?_
      refine Goes.slot 5 (.int .i64 (left - 1)) (u := .int .i64 (IntKind.i64.wrap (left - 1))) (congrArg _ (IntWalk.i64_in _ ⟨by omega, by have := hI64.2; omega⟩)) ?_
      refine back ⟨left - 1, s2, xs ++ [x], .slice (some ⟨b, 0, none⟩) (xs.length + 1) c'⟩ _ ⟨by show xRun l (left - 1).toNat s2 (xs ++ [x]) = R; rw [show (left - 1).toNat = k by omega]; exact hR, fun _ => by show left - 1 + ((xs ++ [x]).length : Int) ≤ 16384; rw [List.length_append]; simp; omega, ⟨by show _ ≤ left - 1; omega, by show left - 1 ≤ _; have := hI64.2; omega⟩, ⟨_, _, _, rfl⟩⟩ (by show (left - 1).toNat < left.toNat; omega) (by kernel_rfl) (by kernel_rfl) (by kernel_rfl)
end
end Go.Proofs.YtddbiiejilcbbaaGreatDoor
namespace Go.Proofs.YtddbiiejilcbbaaGreatDoor
open Go Go.RowKit

/-- What the bytes say from a state on. -/
def cdW (l : List UInt8) (s : Rs) : List Wk × Rs := wRun l (nI l (iS l s)).toNat (nS l 0 250 (iS l s)) []
def cdX (l : List UInt8) (s : Rs) : List Ik × Rs := xRun l (nI l (cdW l s).2).toNat (nS l 0 16384 (cdW l s).2) []
def cdG (l : List UInt8) (s : Rs) : Kd := ⟨nI l s, (cdW l s).1, (cdX l s).1⟩
section
variable {g cap : Nat} {a : Option Addr} {l : List UInt8} {w : World}
set_option maxHeartbeats 2000000 in
set_option maxRecDepth 100000 in
seal rn rnN rnS Goes ans atEnd put0 put putM opened openedY putA0 putA oneSt st0 keep mkSt newSt rdL rdK rdM rdN in
theorem rcode_any {s : Rs} (hg : w.heap[g]? = some (rO (.slice a l.length cap) s)) (hS : Stay [g] w (fun w' => Sl w' (.slice a l.length cap) l)) (hn : l.length ≤ 281474976710656) : Calls Tryz.prog 22 #[.pointer (some ⟨g, 0, none⟩)] w (fun e w' => ∃ u v, e = .returned (.agg #[.int .i64 (nI l s), u, v]) ∧ w'.heap[g]? = some (rO (.slice a l.length cap) (cdX l s).2) ∧ RJ g w u (cdW l s).1.length (wkC (cdW l s).1) v (cdX l s).1.length (inC (cdX l s).1) w') := by
  refine Goes.begin Tryz.func22 [(g, rO (.slice a l.length cap) s)] (fun w' => Sl w' (.slice a l.length cap) l) (hold1 hg) (by simp [Mem.ids]) hS ?_
  refine Goes.run [] [] trivial ?_
  refine Goes.new1 w.heap.size (fun w' h => h.1.size) fun g2 hg2 => ?_
  refine Goes.run [] [] trivial ?_
  refine Goes.call2 0 g 53 #[.pointer (some ⟨g, 0, none⟩)] (.int .i64 (nI l s)) (rO (.slice a l.length cap) (iS l s)) (fun w' hm hI => (rint_any (hm.get 0) (fun w3 hc => (hI w3 (hc.mono fun x hx => mem_eq (l := [g, g2]) (by simp at hx; simp [hx]))).2) hn).mono fun _ _ h => h) ?_
  refine Goes.run [] [] trivial ?_
  refine Goes.new1 w.heap.size (fun w' h => h.1.size) fun g3 hg3 => ?_
  refine Goes.run [2] [] trivial ?_
  refine Goes.call2 0 g 54 #[.pointer (some ⟨g, 0, none⟩), .int .i64 250] (.int .i64 (nI l (iS l s))) (rO (.slice a l.length cap) (nS l 0 250 (iS l s))) (fun w' hm hI => (rcount_any (hm.get 0) (fun w3 hc => (hI w3 (hc.mono fun x hx => mem_eq (l := [g, g2, g3]) (by simp at hx; simp [hx]))).2) hn 250).mono fun _ _ h => h) ?_
  refine Goes.run [] [] trivial ?_
  refine Goes.inv (Inv' := RI g w 70 5 (.slice none 0 0) 0 []) (fun w' h => ⟨h.1, w'.ownsRow_nil _ _ _⟩) ?_
  refine Goes.at (K := rdL) (n := 50) (S := [(0, .pointer (some ⟨g, 0, none⟩)), (2, .pointer (some ⟨g2, 0, none⟩)), (3, .pointer (some ⟨g3, 0, none⟩)), (4, .int .i64 (nI l (iS l s)))]) (m := [(g, rO (.slice a l.length cap) (nS l 0 250 (iS l s))), (g2, cO3 0 (.slice none 0 0) (.slice none 0 0)), (g3, cO3 (nI l s) (.slice none 0 0) (.slice none 0 0))]) (fun J => rloopW (R := cdW l s) hS hn hg2 hg3 ⟨rfl, fun hb => ?_, nI_i64 l _, ⟨_, _, _, rfl⟩⟩ (fun u hu J => ?_) J) (by kernel_rfl) (by kernel_rfl) (by kernel_rfl)
  · have h := count_ok (most := 250) hb
    show nI l (iS l s) + ((0 : Nat) : Int) ≤ 250
    omega
  · obtain ⟨au, nu, cu, rfl⟩ := hu
    refine Goes.call2 0 g 54 #[.pointer (some ⟨g, 0, none⟩), .int .i64 16384] (.int .i64 (nI l (cdW l s).2)) (rO (.slice a l.length cap) (nS l 0 16384 (cdW l s).2)) (fun w' hm hI => (rcount_any (hm.get 0) (fun w3 hc => hS w3 (hI.now.1.trans hc fun x hx => .inl hx)) hn 16384).mono fun _ _ h => h) ?_
    refine Goes.run [] [] trivial ?_
    refine Goes.inv (Inv' := RJ g w (.slice au nu cu) (cdW l s).1.length (wkC (cdW l s).1) (.slice none 0 0) 0 []) (fun w' h => ⟨⟨h.1, w'.ownsRow_nil _ _ _⟩, h⟩) ?_
    refine Goes.at (K := rdM) (n := 50) (S := [(0, .pointer (some ⟨g, 0, none⟩)), (2, .pointer (some ⟨g2, 0, none⟩)), (3, .pointer (some ⟨g3, 0, none⟩)), (5, .int .i64 (nI l (cdW l s).2))]) (m := [(g, rO (.slice a l.length cap) (nS l 0 16384 (cdW l s).2)), (g2, cO3 0 (.slice none 0 0) (.slice none 0 0)), (g3, cO3 (nI l s) (.slice au nu cu) (.slice none 0 0))]) (fun J => rloopX (R := cdX l s) hS hn hg2 hg3 ⟨rfl, fun hb => ?_, nI_i64 l _, ⟨_, _, _, rfl⟩⟩ (fun u2 hu2 J => ?_) J) (by kernel_rfl) (by kernel_rfl) (by kernel_rfl)
    · have h := count_ok (most := 16384) hb
      show nI l (cdW l s).2 + ((0 : Nat) : Int) ≤ 16384
      omega
    · obtain ⟨av, nv, cv', rfl⟩ := hu2
      refine Goes.run [2, 1] [] trivial ?_
      exact Goes.ret [1] (.agg #[.int .i64 (nI l s), .slice au nu cu, .slice av nv cv']) fun w' hm hI => ⟨_, _, rfl, hm.get 0, hI.now⟩
end
end Go.Proofs.YtddbiiejilcbbaaGreatDoor
namespace Go.Proofs.YtddbiiejilcbbaaGreatDoor
open Go Go.RowKit

theorem wRun_nb {l : List UInt8} : ∀ {n : Nat} {s : Rs} {xs : List Wk}, (wRun l n s xs).2.bad = false → s.bad = false
  | 0, s, xs, h => h
  | n + 1, s, xs, h => by
    cases hb : s.bad with
    | true => rw [wRun_bad hb] at h; exact hb.symm.trans h
    | false => rfl
theorem xRun_nb {l : List UInt8} : ∀ {n : Nat} {s : Rs} {xs : List Ik}, (xRun l n s xs).2.bad = false → s.bad = false
  | 0, s, xs, h => h
  | n + 1, s, xs, h => by
    cases hb : s.bad with
    | true => rw [xRun_bad hb] at h; exact hb.symm.trans h
    | false => rfl
/-- Its lengths, texts and numbers. -/
theorem tI_len (l : List UInt8) (s : Rs) : (tI l s).length ≤ 24 := by
  unfold tI tText
  cases hT : tInt l s.pos with
  | none => simp
  | some q =>
    obtain ⟨n, k⟩ := q
    dsimp only
    split
    · rename_i h
      split at h
      · rename_i hc
        simp only [Option.some.injEq, Prod.mk.injEq] at h
        rw [← h.1, List.length_take]
        omega
      · cases h
    · simp
def cdE (l : List UInt8) : Rs := (cdX l ⟨0, false⟩).2
def k0 : Kd := ⟨0, [], []⟩
def decK (l : List UInt8) : Kd := bif (cdE l).bad || decide ((cdE l).pos < l.length) then k0 else bif rightR (cdG l ⟨0, false⟩) then cdG l ⟨0, false⟩ else k0
def decA (l : List UInt8) : Int := bif (cdE l).bad || decide ((cdE l).pos < l.length) then (cdE l).pos else 0
def decE (l : List UInt8) : Int := bif (cdE l).bad || decide ((cdE l).pos < l.length) then 172 else bif rightR (cdG l ⟨0, false⟩) then 0 else 170
end Go.Proofs.YtddbiiejilcbbaaGreatDoor
namespace Go.Proofs.YtddbiiejilcbbaaGreatDoor
open Go Go.RowKit

/-- A row grows, and nothing that was there has changed. -/
def RK (w : World) (e size : Nat) (v : Value) (n : Nat) (cs : List Value) (w' : World) : Prop := Ch [] w w' ∧ w'.ownsRow w.heap.size e size v n cs
theorem RK.stay {w w' : World} {e size n : Nat} {v : Value} {cs : List Value} {L : List Nat} (h : RK w e size v n cs w') (hL : ∀ x ∈ L, w.heap.size ≤ x ∧ ∃ c t z, w'.heap[x]? = some (.cells c t z) ∧ t ≠ e) : Stay L w' (RK w e size v n cs) := by
  have key : ∀ b, v.ownBlock = some b → b ∉ L := by
    intro b hb hm
    obtain ⟨-, c, t, z, hx, h4⟩ := hL b hm
    exact own_not h.2 hx (fun e => h4 e.symm) hb
  exact fun _ hc => ⟨h.1.trans hc fun x hx => .inr (hL x hx).1, own_ch h.2 hc key⟩
section
variable {g2 g5 g6 cap : Nat} {a : Option Addr} {l : List UInt8} {w : World}
abbrev qz : Value := .slice none 0 0
abbrev qm (g2 g5 g6 : Nat) (o : Value) (s : Rs) (rg : Int) (u v : Value) : Mem := [(g2, cO3 0 qz qz), (g5, qO o s), (g6, cO3 rg u v)]
abbrev qS (g2 g5 g6 : Nat) (o : Value) : List (Nat × Value) := [(0, o), (2, .pointer (some ⟨g2, 0, none⟩)), (5, .pointer (some ⟨g5, 0, none⟩)), (6, .pointer (some ⟨g6, 0, none⟩))]
noncomputable def qdS : St := (rn Tryz.prog [2] [] (mkSt Tryz.prog 6 (rn Tryz.prog [] [] (putM (rn Tryz.prog [] [] (mkSt Tryz.prog 5 (rn Tryz.prog [] [] (mkSt Tryz.prog 2 (rn Tryz.prog [] [] (st0 Tryz.f9 #[qz] [])).st)).st)).st (.int .i64 0) 1 5 (qO qz ⟨0, false⟩))).st)).st
noncomputable def qdL : List TI := (rn Tryz.prog [] [] (putM qdS (.int .i64 0) 1 5 (qO qz ⟨0, false⟩))).st.todo
noncomputable def qdK : List TI := (rn Tryz.prog [0, 0, 0] [] ⟨qdL, fr 129 (qS 2 5 6 qz ++ [(7, .int .i64 0), (8, .int .i64 0)]) (fun _ => undef), qm 2 5 6 qz ⟨0, false⟩ 0 qz qz⟩).st.todo
end
end Go.Proofs.YtddbiiejilcbbaaGreatDoor
namespace Go.Proofs.YtddbiiejilcbbaaGreatDoor
open Go Go.RowKit

section
variable {g2 g5 g6 cap : Nat} {a : Option Addr} {l : List UInt8} {w : World}
/-- The row of instructions grows beside that of the waits. -/
def RL (w : World) (uw : Value) (nw : Nat) (cw : List Value) (v : Value) (n : Nat) (cs : List Value) (w' : World) : Prop := RK w 72 7 v n cs w' ∧ RK w 70 5 uw nw cw w'
section
variable {uw v : Value} {nw n : Nat} {cw cs : List Value}
end
noncomputable def qdM : List TI := (rn Tryz.prog [] [] (putM ⟨qdK, fr 129 (qS 2 5 6 qz ++ [(64, .pointer (some ⟨5, 0, none⟩))]) (fun _ => undef), qm 2 5 6 qz ⟨0, false⟩ 0 qz qz⟩ (.int .i64 0) 1 5 (qO qz ⟨0, false⟩))).st.todo
noncomputable def qdN : List TI := (rn Tryz.prog [0, 0, 0] [] ⟨qdM, fr 129 (qS 2 5 6 qz ++ [(7, .int .i64 0), (14, .int .i64 0)]) (fun _ => undef), qm 2 5 6 qz ⟨0, false⟩ 0 qz qz⟩).st.todo
end
end Go.Proofs.YtddbiiejilcbbaaGreatDoor
namespace Go.Proofs.YtddbiiejilcbbaaGreatDoor
open Go Go.RowKit

theorem wC_len (x : Wk) : (wC x).length = 5 := rfl
theorem wkC_at : ∀ {xs : List Wk} {i : Nat} {x : Wk} {j : Nat} {u : Value}, xs[i]? = some x → (wC x)[j]? = some u → (wkC xs)[i * 5 + j]? = some u
  | [], i, x, j, u, h, _ => by simp at h
  | y :: r, 0, x, j, u, h, hj => by
    simp at h
    subst h
    unfold wkC
    rw [List.flatMap_cons, List.getElem?_append_left (by have := (List.getElem?_eq_some_iff.1 hj).1; omega)]
    simpa using hj
  | y :: r, i + 1, x, j, u, h, hj => by
    have ih := wkC_at (xs := r) (i := i) (by simpa using h) hj
    unfold wkC at ih ⊢
    rw [List.flatMap_cons, List.getElem?_append_right (by rw [wC_len]; omega), wC_len]
    rw [← ih]
    congr 1
    omega
/-- A row of one's own, at its cells. -/
theorem row_cells {w : World} {base e size n : Nat} {v : Value} {cs : List Value} (h : w.ownsRow base e size v n cs) : ∃ a c, v = .slice a n c ∧ (n ≤ c ∧ c ≤ 9223372036854775807) ∧ (∀ x, a = some x → base ≤ x.block) ∧ (0 < n → ∃ b, a = some ⟨b, 0, none⟩ ∧ b < w.heap.size ∧ ∀ j u, cs[j]? = some u → w.cell? ⟨b, j, none⟩ = some u) := by
  rcases h.2 with ⟨e, h0⟩ | ⟨g, cap, cur, e, hbg, hg, h1, h2, -, ht⟩
  · refine ⟨none, 0, by rw [e, h0], by omega, fun x hx => (by cases hx), fun h => by omega⟩
  · have hm : maxLen = 9223372036854775807 := by decide
    refine ⟨_, cap, e, ⟨h1, by omega⟩, fun x hx => (by cases hx; exact hbg), fun _ => ⟨g, rfl, lt_of_get hg, fun j u hj => ?_⟩⟩
    have hl : j < n * size := by rw [← h.1]; exact (List.getElem?_eq_some_iff.1 hj).1
    unfold World.cell?
    rw [hg]
    rw [← ht, List.getElem?_take_of_lt hl] at hj
    simpa using hj
/-- Two rows are a bytecode. -/
theorem cdm_of {w : World} {base : Nat} {rg : Int} {u v : Value} {ws : List Wk} {xs : List Ik} (hu : w.ownsRow base 70 5 u ws.length (wkC ws)) (hv : w.ownsRow base 72 7 v xs.length (inC xs)) (hw : ∀ x ∈ ws, x.label.length ≤ 24) (hx : ∀ x ∈ xs, x.s.length ≤ 24) : ∃ aW cW aI cI, u = .slice aW ws.length cW ∧ v = .slice aI xs.length cI ∧ ((∀ x, aW = some x → base ≤ x.block) ∧ ∀ x, aI = some x → base ≤ x.block) ∧ CdM w aW ws.length cW aI xs.length cI ⟨rg, ws, xs⟩ := by
  obtain ⟨aW, cW, e1, h1, f1, k1⟩ := row_cells hu
  obtain ⟨aI, cI, e2, h2, f2, k2⟩ := row_cells hv
  refine ⟨aW, cW, aI, cI, e1, e2, ⟨f1, f2⟩, rfl, rfl, h1, h2, fun i x hi => ?_, fun i x hi => ?_⟩
  · have hl : i < ws.length := (List.getElem?_eq_some_iff.1 hi).1
    obtain ⟨b, rfl, hb, hc⟩ := k1 (by omega)
    refine ⟨by have := hw x (List.mem_of_getElem? hi); omega, b, 0, rfl, hb, fun j u hj => ?_⟩
    rw [Nat.zero_add]
    exact hc _ _ (wkC_at hi hj)
  · have hl : i < xs.length := (List.getElem?_eq_some_iff.1 hi).1
    obtain ⟨b, rfl, hb, hc⟩ := k2 (by omega)
    refine ⟨by have := hx x (List.mem_of_getElem? hi); omega, b, 0, rfl, hb, fun j u hj => ?_⟩
    rw [Nat.zero_add]
    exact hc _ _ (inC_at hi hj)
theorem wRun_lab {l : List UInt8} : ∀ {n : Nat} {s : Rs} {xs : List Wk}, (∀ x ∈ xs, x.label.length ≤ 24) → ∀ x ∈ (wRun l n s xs).1, x.label.length ≤ 24
  | 0, s, xs, h => h
  | n + 1, s, xs, h => by
    cases hb : s.bad with
    | true => rw [wRun_bad hb]; exact h
    | false =>
      rw [wRun_step hb]
      refine wRun_lab fun x hx => ?_
      rcases List.mem_append.1 hx with hx | hx
      · exact h x hx
      · rw [List.mem_singleton] at hx; subst hx; exact tI_len l _
theorem xRun_lab {l : List UInt8} : ∀ {n : Nat} {s : Rs} {xs : List Ik}, (∀ x ∈ xs, x.s.length ≤ 24 ∧ I64 x.n) → ∀ x ∈ (xRun l n s xs).1, x.s.length ≤ 24 ∧ I64 x.n
  | 0, s, xs, h => h
  | n + 1, s, xs, h => by
    cases hb : s.bad with
    | true => rw [xRun_bad hb]; exact h
    | false =>
      rw [xRun_step hb]
      refine xRun_lab fun x hx => ?_
      rcases List.mem_append.1 hx with hx | hx
      · exact h x hx
      · rw [List.mem_singleton] at hx; subst hx; exact ⟨tI_len l _, nI_i64 l _⟩
theorem cdG_lab (l : List UInt8) (s : Rs) : (∀ x ∈ (cdW l s).1, x.label.length ≤ 24) ∧ ∀ x ∈ (cdX l s).1, x.s.length ≤ 24 ∧ I64 x.n := ⟨wRun_lab (by simp), xRun_lab (by simp)⟩
theorem cdG_wf (l : List UInt8) (s : Rs) : (cdG l s).wf := fun x hx => ((cdG_lab l s).2 x hx).2
theorem row_low {w : World} {base base' e size n : Nat} {v : Value} {cs : List Value} (h : w.ownsRow base e size v n cs) (hb : base' ≤ base) : w.ownsRow base' e size v n cs := ⟨h.1, by
  rcases h.2 with h0 | ⟨g, cap, cur, e1, e2, e3⟩
  · exact .inl h0
  · exact .inr ⟨g, cap, cur, e1, Nat.le_trans hb e2, e3⟩⟩
theorem RL.stay {w w' : World} {uw v : Value} {nw n : Nat} {cw cs : List Value} {L : List Nat} (h : RL w uw nw cw v n cs w') (hL : ∀ x ∈ L, w.heap.size ≤ x ∧ ∃ c t z, w'.heap[x]? = some (.cells c t z) ∧ t ≠ 70 ∧ t ≠ 72) : Stay L w' (RL w uw nw cw v n cs) :=
  (h.1.stay fun x hx => by obtain ⟨h1, c, t, z, h2, h3, h4⟩ := hL x hx; exact ⟨h1, c, t, z, h2, h4⟩).and (h.2.stay fun x hx => by obtain ⟨h1, c, t, z, h2, h3, h4⟩ := hL x hx; exact ⟨h1, c, t, z, h2, h3⟩)
/-- What decoding answers: a bytecode in memory. -/
def DQ (w : World) (l : List UInt8) (e : Ending) (w' : World) : Prop := ∃ rg aW nW cW aI nI cI, e = .returned (.tuple #[cdV rg aW nW cW aI nI cI, .int .i64 (decA l), .int .i64 (decE l)]) ∧ CdM w' aW nW cW aI nI cI (decK l) ∧ (decK l).regs = rg ∧ ((∀ x, aW = some x → w.heap.size ≤ x.block) ∧ ∀ x, aI = some x → w.heap.size ≤ x.block) ∧ Below w.heap.size w w'
/-- It stays where its rows are left alone. -/
theorem CdM.away {w w' : World} {aW aI : Option Addr} {nW cW nI cI : Nat} {k : Kd} {L : List Nat} (h : CdM w aW nW cW aI nI cI k) (hW : ∀ x, aW = some x → x.block ∉ L) (hI : ∀ x, aI = some x → x.block ∉ L) (hc : Ch L w w') : CdM w' aW nW cW aI nI cI k := ⟨h.lw, h.li, h.cw, h.ci, fun i x hx => by
  obtain ⟨h0, b, o, e, hb, hcl⟩ := h.waits i x hx
  exact ⟨h0, b, o, e, Nat.lt_of_lt_of_le hb hc.size, fun j u hj => by
    have h1 := hcl j u hj
    unfold World.cell? at h1 ⊢
    rw [hc.block b hb (hW _ e)]
    exact h1⟩, fun i x hx => by
  obtain ⟨h0, b, o, e, hb, hcl⟩ := h.ins i x hx
  exact ⟨h0, b, o, e, Nat.lt_of_lt_of_le hb hc.size, fun j u hj => by
    have h1 := hcl j u hj
    unfold World.cell? at h1 ⊢
    rw [hc.block b hb (hI _ e)]
    exact h1⟩⟩
theorem cdm_none (w : World) : CdM w none 0 0 none 0 0 k0 := ⟨rfl, rfl, by omega, by omega, fun i x h => by simp [k0] at h, fun i x h => by simp [k0] at h⟩
section
variable {cap : Nat} {a : Option Addr} {l : List UInt8} {w : World}
theorem dec_bad (h : ((cdE l).bad || decide ((cdE l).pos < l.length)) = true) : decK l = k0 ∧ decA l = (cdE l).pos ∧ decE l = 172 := by unfold decK decA decE; rw [h]; exact ⟨rfl, rfl, rfl⟩
theorem dec_form (h : ((cdE l).bad || decide ((cdE l).pos < l.length)) = false) (hr : rightR (cdG l ⟨0, false⟩) = false) : decK l = k0 ∧ decA l = 0 ∧ decE l = 170 := by unfold decK decA decE; rw [h, hr]; exact ⟨rfl, rfl, rfl⟩
theorem dec_ok (h : ((cdE l).bad || decide ((cdE l).pos < l.length)) = false) (hr : rightR (cdG l ⟨0, false⟩) = true) : decK l = cdG l ⟨0, false⟩ ∧ decA l = 0 ∧ decE l = 0 := by unfold decK decA decE; rw [h, hr]; exact ⟨rfl, rfl, rfl⟩
theorem dq_none (h : decK l = k0) {A E : Int} (hA : decA l = A) (hE : decE l = E) {w' : World} (hB : Below w.heap.size w w') : DQ w l (.returned (.tuple #[cdV 0 none 0 0 none 0 0, .int .i64 A, .int .i64 E])) w' := ⟨0, none, 0, 0, none, 0, 0, by rw [hA, hE], by rw [h]; exact cdm_none w', by rw [h]; rfl, ⟨fun x hx => (by cases hx), fun x hx => by cases hx⟩, hB⟩
set_option maxHeartbeats 2000000 in
set_option maxRecDepth 100000 in
seal rn rnN rnS Goes ans atEnd put0 put putM opened openedY putA0 putA oneSt st0 keep mkSt newSt in
theorem pdec_any (hU : TabU w) (hS : Stay [] w (fun w' => Sl w' (.slice a l.length cap) l)) (hn : l.length ≤ 281474976710656) : Calls Tryz.prog 8 #[.slice a l.length cap] w (DQ w l) := by
  obtain ⟨E, hE⟩ : ∃ E, cdE l = E := ⟨_, rfl⟩
  have hE' : (cdX l ⟨0, false⟩).2 = E := hE
  obtain ⟨p, bad⟩ := E
  refine Goes.begin Tryz.func8 [] (fun _ => True) Holds.nil (by simp [Mem.ids]) (fun _ _ => trivial) ?_
  refine Goes.run [] [] trivial ?_
  refine Goes.new1 w.heap.size (fun w' h => h.1.size) fun g2 hg2 => ?_
  refine Goes.run [] [] trivial ?_
  refine Goes.new1 w.heap.size (fun w' h => h.1.size) fun g5 hg5 => ?_
  refine Goes.run [1] [] trivial ?_
  refine Goes.call 22 #[.pointer (some ⟨g5, 0, none⟩)] fun w1 hm1 hn1 hI1 => (rcode_any (s := ⟨0, false⟩) (hm1.get 1) (fun w3 hc => hS w3 (hI1.now.1.trans hc fun x hx => by rw [List.mem_singleton] at hx; subst hx; exact .inr hg5)) hn).mono fun e w2 ⟨u, v, he, hg', hR⟩ => ?_
  rw [hE'] at hg'
  have y2 : w1.heap[g2]? = some (cO3 0 qz qz) := hm1.get 0
  have q2 : w2.heap[g2]? = some (cO3 0 qz qz) := (hR.1.1.block g2 (lt_of_get y2) (fun hx => by
    have hd := Nodup.of_ids (l := [g2, g5]) hn1
    rw [List.mem_singleton] at hx
    subst hx
    simp at hd)).trans y2
  have hRL : RL w u (cdW l ⟨0, false⟩).1.length (wkC (cdW l ⟨0, false⟩).1) v (cdX l ⟨0, false⟩).1.length (inC (cdX l ⟨0, false⟩).1) w2 := by
    have hC : Ch [] w w2 := hI1.now.1.trans hR.1.1 fun x hx => by rw [List.mem_singleton] at hx; subst hx; exact .inr hg5
    exact ⟨⟨hC, row_low hR.1.2 hI1.now.1.size⟩, hC, row_low hR.2.2 hI1.now.1.size⟩
  obtain ⟨aW, cW, aI, cI, rfl, rfl, hfr, -⟩ := cdm_of (rg := 0) hRL.2.2 hRL.1.2 (cdG_lab l ⟨0, false⟩).1 (fun x hx => ((cdG_lab l ⟨0, false⟩).2 x hx).1)
  refine ⟨_, _, [(g2, cO3 0 qz qz), (g5, rO (.slice a l.length cap) ⟨p, bad⟩)], he, fun j b o h => by match j, h with | 0, h => (cases h; exact q2) | 1, h => (cases h; exact hg'), by have := Nodup.of_ids (l := [g2, g5]) hn1; exact this, hRL.stay fun x hx => by
    simp only [Mem.ids, List.map_cons, List.map_nil, List.mem_cons, List.not_mem_nil, or_false] at hx
    rcases hx with rfl | rfl
    · exact ⟨hg2, _, _, _, q2, by decide, by decide⟩
    · exact ⟨hg5, _, _, _, hg', by decide, by decide⟩, ?_⟩
  have bel : ∀ {w'}, RL w (.slice aW (cdW l ⟨0, false⟩).1.length cW) (cdW l ⟨0, false⟩).1.length (wkC (cdW l ⟨0, false⟩).1) (.slice aI (cdX l ⟨0, false⟩).1.length cI) (cdX l ⟨0, false⟩).1.length (inC (cdX l ⟨0, false⟩).1) w' → Below w.heap.size w w' := fun h => h.1.1.toB (fun x hx => by cases hx)
  have cdm : ∀ {w'}, RL w (.slice aW (cdW l ⟨0, false⟩).1.length cW) (cdW l ⟨0, false⟩).1.length (wkC (cdW l ⟨0, false⟩).1) (.slice aI (cdX l ⟨0, false⟩).1.length cI) (cdX l ⟨0, false⟩).1.length (inC (cdX l ⟨0, false⟩).1) w' → CdM w' aW (cdW l ⟨0, false⟩).1.length cW aI (cdX l ⟨0, false⟩).1.length cI (cdG l ⟨0, false⟩) := fun h => by
    obtain ⟨aW', cW', aI', cI', e1, e2, -, h3⟩ := cdm_of (rg := nI l ⟨0, false⟩) h.2.2 h.1.2 (cdG_lab l ⟨0, false⟩).1 (fun x hx => ((cdG_lab l ⟨0, false⟩).2 x hx).1)
    cases e1
    cases e2
    exact h3
  clear hm1 hn1 hI1 hR hRL he hg' q2 y2
  obtain ⟨NW, hNW⟩ : ∃ NW, (cdW l ⟨0, false⟩).1.length = NW := ⟨_, rfl⟩
  obtain ⟨NX, hNX⟩ : ∃ NX, (cdX l ⟨0, false⟩).1.length = NX := ⟨_, rfl⟩
  obtain ⟨rg, hrg⟩ : ∃ rg, nI l ⟨0, false⟩ = rg := ⟨_, rfl⟩
  rw [hNW, hNX] at bel cdm ⊢
  rw [hrg]
  have fin : (bad || decide (p < (l.length : Int))) = ((cdE l).bad || decide ((cdE l).pos < l.length)) := by rw [hE]
  refine Goes.run1 [2] [] trivial fun g6 => ?_
  cases bad with
  | true =>
    obtain ⟨d1, d2, d3⟩ := dec_bad (l := l) (by rw [hE]; rfl)
    rw [hE] at d2
    refine Goes.run [1, 1, 1] [(true, true), (true, true)] ⟨rfl, rfl, trivial⟩ ?_
    refine Goes.open [1] ?_
    refine Goes.run [0, 1, 2, 0] [] trivial ?_
    refine Goes.oneA 3 0 [1] ?_
    refine Goes.run [4, 5] [] trivial ?_
    exact Goes.ret [0] (.tuple #[cdV 0 none 0 0 none 0 0, .int .i64 p, .int .i64 172]) fun w' hm hI => dq_none d1 d2 d3 (bel hI.now)
  | false =>
  cases hlt : decide (p < (l.length : Int)) with
  | true =>
    obtain ⟨d1, d2, d3⟩ := dec_bad (l := l) (by rw [hE]; simpa using of_decide_eq_true hlt)
    rw [hE] at d2
    refine Goes.run [1, 0, 1, 1] [(decide (p < (l.length : Int)), true), (false, false)] ⟨hlt, rfl, trivial⟩ ?_
    refine Goes.open [1] ?_
    refine Goes.run [0, 1, 2, 0] [] trivial ?_
    refine Goes.oneA 3 0 [1] ?_
    refine Goes.run [4, 5] [] trivial ?_
    exact Goes.ret [0] (.tuple #[cdV 0 none 0 0 none 0 0, .int .i64 p, .int .i64 172]) fun w' hm hI => dq_none d1 d2 d3 (bel hI.now)
  | false =>
  have hfin : ((cdE l).bad || decide ((cdE l).pos < l.length)) = false := by rw [← fin, hlt]; rfl
  refine Goes.run [1, 0, 1, 0, 2] [(decide (p < (l.length : Int)), false), (false, false)] ⟨hlt, rfl, trivial⟩ ?_
  refine Goes.call0 23 #[cdV rg aW NW cW aI NX cI] (.bool (rightR (cdG l ⟨0, false⟩))) (fun w' hm hI => by rw [← right_eq]; exact gright_any (hU.below (bel hI.now)) (cdm hI.now) hrg (cdG_wf l _)) ?_
  cases hr : rightR (cdG l ⟨0, false⟩) with
  | false =>
    obtain ⟨d1, d2, d3⟩ := dec_form hfin hr
    refine Goes.run [1, 0] [(true, true)] ⟨rfl, trivial⟩ ?_
    exact Goes.ret [0] (.tuple #[cdV 0 none 0 0 none 0 0, .int .i64 0, .int .i64 170]) fun w' hm hI => dq_none d1 d2 d3 (bel hI.now)
  | true =>
    obtain ⟨d1, d2, d3⟩ := dec_ok hfin hr
    refine Goes.run [0, 2, 0] [(false, false)] ⟨rfl, trivial⟩ ?_
    exact Goes.ret [0] (.tuple #[cdV rg aW NW cW aI NX cI, .int .i64 0, .int .i64 0]) fun w' hm hI => ⟨rg, aW, NW, cW, aI, NX, cI, by rw [d2, d3], by rw [d1]; exact cdm hI.now, by rw [d1]; exact hrg, hfr, bel hI.now⟩
end
end Go.Proofs.YtddbiiejilcbbaaGreatDoor
namespace Go.Proofs.YtddbiiejilcbbaaGreatDoor
open Go Go.RowKit

section
variable {cap : Nat} {a : Option Addr} {l : List UInt8} {w : World}
end
end Go.Proofs.YtddbiiejilcbbaaGreatDoor
namespace Go.Proofs.YtddbiiejilcbbaaGreatDoor
open Go Go.RowKit

theorem eqWk (x : Wk) (w : World) : (Op.equalIn 10000 70 (wV x) (wV x)).run Tryz.prog w = .ok true w := by
  have u3 := Tryz.underlying3
  have a3 := Tryz.isAgg3
  have z3 := Tryz.sizeOf3
  have u2 := Tryz.underlying9
  have a2 := Tryz.isAgg9
  have z2 := Tryz.sizeOf9
  have hS : Tryz.prog.underlying 70 = some (.struct (Tryz.prog.fieldsOf 70)) := by kernel_chk
  unfold wV
  rw [show (10000 : Nat) = 9999 + 1 from rfl, run_equalIn_agg w 9999 70 _ _ hS (by kernel_chk)]
  simp only [Program.fieldsOf, Tryz.underlying70]
  unfold strV
  go_simp
theorem eqIk (x : Ik) (w : World) : (Op.equalIn 10000 72 (iV x) (iV x)).run Tryz.prog w = .ok true w := by
  have u3 := Tryz.underlying3
  have a3 := Tryz.isAgg3
  have z3 := Tryz.sizeOf3
  have u2 := Tryz.underlying9
  have a2 := Tryz.isAgg9
  have z2 := Tryz.sizeOf9
  have u1 := Tryz.underlying2
  have a1 := Tryz.isAgg2
  have z1 := Tryz.sizeOf2
  have hS : Tryz.prog.underlying 72 = some (.struct (Tryz.prog.fieldsOf 72)) := by kernel_chk
  unfold iV
  rw [show (10000 : Nat) = 9999 + 1 from rfl, run_equalIn_agg w 9999 72 _ _ hS (by kernel_chk)]
  simp only [Program.fieldsOf, Tryz.underlying72]
  unfold strV
  go_simp
theorem WcAt.obj {w w' : World} {b o : Nat} {x : Wk} (h : WcAt w b o x) {ob : Obj} (h0 : w.heap[b]? = some ob) (h1 : w'.heap[b]? = some ob) : WcAt w' b o x := fun j u hj => by
  have := h j u hj
  unfold World.cell? at this ⊢
  rw [h1]
  rw [h0] at this
  exact this
theorem IcAt.obj {w w' : World} {b o : Nat} {x : Ik} (h : IcAt w b o x) {ob : Obj} (h0 : w.heap[b]? = some ob) (h1 : w'.heap[b]? = some ob) : IcAt w' b o x := fun j u hj => by
  have := h j u hj
  unfold World.cell? at this ⊢
  rw [h1]
  rw [h0] at this
  exact this
theorem obj_of {w : World} {b : Nat} (h : b < w.heap.size) : ∃ ob, w.heap[b]? = some ob := ⟨w.heap[b], by simp [h]⟩
theorem holds2 {w : World} {b b' : Nat} {ob ob' : Obj} (h : w.heap[b]? = some ob) (h' : w.heap[b']? = some ob') : Holds [(b, ob), (b', ob')] w := fun j c o hj => by match j, hj with | 0, hj => (cases hj; exact h) | 1, hj => (cases hj; exact h')
section
variable {w : World} {rg : Int} {aW aI aW' aI' : Option Addr} {nW cW nI cI nW' cW' nI' cI' : Nat}
set_option maxHeartbeats 2000000 in
set_option maxRecDepth 100000 in
seal rn rnN rnS Goes ans atEnd put0 put putM opened openedY putA0 putA oneSt st0 keep mkSt newSt in
theorem samecode_any {k : Kd} (h : CdM w aW nW cW aI nI cI k) (h' : CdM w aW' nW' cW' aI' nI' cI' k) (hn : nW ≤ 1000000000000 ∧ nI ≤ 1000000000000) : Calls Tryz.prog 10 #[cdV rg aW nW cW aI nI cI, cdV rg aW' nW' cW' aI' nI' cI'] w fun e w' => e = .returned (.bool true) ∧ Below w.heap.size w w' := by
  obtain rfl : nW' = nW := h'.lw.symm.trans h.lw
  obtain rfl : nI' = nI := h'.li.symm.trans h.li
  refine Goes.begin Tryz.func10 [] (fun _ => True) Holds.nil (by simp [Mem.ids]) (fun _ _ => trivial) ?_
  refine Goes.run2 [0, 1, 0, 0, 1, 0, 0, 1, 0] [((nI' : Int) != (nI' : Int), false), ((nW' : Int) != (nW' : Int), false), (rg != rg, false)] ⟨by simp, by simp, by simp, trivial⟩ fun g2 g3 => ?_
  refine Goes.loop0 (α := Nat) 66 (fun i => [(2, .pointer (some ⟨g2, 0, none⟩)), (3, .pointer (some ⟨g3, 0, none⟩)), (5, .int .i64 i)]) [(g2, cO3 rg (.slice aW nW' cW) (.slice aI nI' cI)), (g3, cO3 rg (.slice aW' nW' cW') (.slice aI' nI' cI'))] (fun i => i ≤ nW') (fun i => nW' - i) 0 (Nat.zero_le _) ?_
  rintro i J hi back
  cases hlt : decide ((i : Int) < (nW' : Int)) with
  | true =>
    have hil : i < nW' := by have := of_decide_eq_true hlt; omega
    obtain ⟨x, hx⟩ : ∃ x, k.waits[i]? = some x := ⟨k.waits[i]'(by rw [h.lw]; exact hil), by simp⟩
    obtain ⟨-, b, o, rfl, hb, hc⟩ := h.waits i x hx
    obtain ⟨-, b', o', rfl, hb', hc'⟩ := h'.waits i x hx
    obtain ⟨ob, hob⟩ := obj_of hb
    obtain ⟨ob', hob'⟩ := obj_of hb'
    refine Goes.run [0, 0, 1] [(decide ((i : Int) < (nW' : Int)), true)] ⟨hlt, trivial⟩ ?_
    refine Goes.openY [0, 1] [(b, ob), (b', ob')] (fun w' hI => holds2 (((hI.1.toB (fun x hx => by cases hx)).block b hb).trans hob) (((hI.1.toB (fun x hx => by cases hx)).block b' hb').trans hob')) ?_
    refine Goes.run [0, 1, 0, 2] [] trivial ?_
    refine Goes.valA 3 (Instr.indexAt 24 (.slice (some ⟨b, o, none⟩) nW' cW) (.int .i64 i)) (.pointer (some ⟨b, o + i * 5, none⟩)) (fun w' _ => idxWk b o nW' cW i hil w') ?_
    refine Goes.valA 4 (Instr.loadAt 70 (.pointer (some ⟨b, o + i * 5, none⟩))) (wV x) (fun w' hm => loadW (hc.obj hob (hm.get 2))) ?_
    refine Goes.run [5, 6, 1, 7] [] trivial ?_
    refine Goes.valA 8 (Instr.indexAt 24 (.slice (some ⟨b', o', none⟩) nW' cW') (.int .i64 i)) (.pointer (some ⟨b', o' + i * 5, none⟩)) (fun w' _ => idxWk b' o' nW' cW' i hil w') ?_
    refine Goes.valA 9 (Instr.loadAt 70 (.pointer (some ⟨b', o' + i * 5, none⟩))) (wV x) (fun w' hm => loadW (hc'.obj hob' (hm.get 3))) ?_
    refine Goes.valA 10 (do eqGuard .neq 70 (.tmp 41) (.tmp 46) (wV x) (wV x); binOp .neq 70 (wV x) (wV x)) (.bool false) (fun w' _ => neq_agg (t := 70) (.tmp 41) (.tmp 46) (by kernel_chk) (eqWk x w')) ?_
    refine Goes.run [0] [(false, false)] ⟨rfl, trivial⟩ ?_
    refine Goes.slot 5 (.int .i64 (i + 1 : Nat)) (u := .int .i64 (IntKind.i64.wrap ((i : Int) + 1))) (congrArg _ (wrap_nat (by omega))) ?_
    exact back (i + 1) _ hil (by omega) (by kernel_chk) (by kernel_chk) (by kernel_chk)
  | false =>
  refine Goes.run [0, 0, 0] [(decide ((i : Int) < (nW' : Int)), false)] ⟨hlt, trivial⟩ ?_
  clear back hi hlt
  refine Goes.loop0 (α := Nat) 66 (fun i => [(2, .pointer (some ⟨g2, 0, none⟩)), (3, .pointer (some ⟨g3, 0, none⟩)), (6, .int .i64 i)]) [(g2, cO3 rg (.slice aW nW' cW) (.slice aI nI' cI)), (g3, cO3 rg (.slice aW' nW' cW') (.slice aI' nI' cI'))] (fun i => i ≤ nI') (fun i => nI' - i) 0 (Nat.zero_le _) ?_
  rintro i J hi back
  cases hlt : decide ((i : Int) < (nI' : Int)) with
  | false =>
    refine Goes.run [0, 0, 0] [(decide ((i : Int) < (nI' : Int)), false)] ⟨hlt, trivial⟩ ?_
    exact Goes.ret [] (.bool true) fun w' hm hI => ⟨rfl, bel0 hI⟩
  | true =>
    have hil : i < nI' := by have := of_decide_eq_true hlt; omega
    obtain ⟨x, hx⟩ : ∃ x, k.ins[i]? = some x := ⟨k.ins[i]'(by rw [h.li]; exact hil), by simp⟩
    obtain ⟨-, b, o, rfl, hb, hc⟩ := h.ins i x hx
    obtain ⟨-, b', o', rfl, hb', hc'⟩ := h'.ins i x hx
    obtain ⟨ob, hob⟩ := obj_of hb
    obtain ⟨ob', hob'⟩ := obj_of hb'
    refine Goes.run [0, 0, 1] [(decide ((i : Int) < (nI' : Int)), true)] ⟨hlt, trivial⟩ ?_
    refine Goes.openY [0, 1] [(b, ob), (b', ob')] (fun w' hI => holds2 (((hI.1.toB (fun x hx => by cases hx)).block b hb).trans hob) (((hI.1.toB (fun x hx => by cases hx)).block b' hb').trans hob')) ?_
    refine Goes.run [0, 1, 0, 2] [] trivial ?_
    refine Goes.valA 3 (Instr.indexAt 25 (.slice (some ⟨b, o, none⟩) nI' cI) (.int .i64 i)) (.pointer (some ⟨b, o + i * 7, none⟩)) (fun w' _ => idxIk b o nI' cI i hil w') ?_
    refine Goes.valA 4 (Instr.loadAt 72 (.pointer (some ⟨b, o + i * 7, none⟩))) (iV x) (fun w' hm => loadI (hc.obj hob (hm.get 2))) ?_
    refine Goes.run [5, 6, 1, 7] [] trivial ?_
    refine Goes.valA 8 (Instr.indexAt 25 (.slice (some ⟨b', o', none⟩) nI' cI') (.int .i64 i)) (.pointer (some ⟨b', o' + i * 7, none⟩)) (fun w' _ => idxIk b' o' nI' cI' i hil w') ?_
    refine Goes.valA 9 (Instr.loadAt 72 (.pointer (some ⟨b', o' + i * 7, none⟩))) (iV x) (fun w' hm => loadI (hc'.obj hob' (hm.get 3))) ?_
    refine Goes.valA 10 (do eqGuard .neq 72 (.tmp 59) (.tmp 64) (iV x) (iV x); binOp .neq 72 (iV x) (iV x)) (.bool false) (fun w' _ => neq_agg (t := 72) (.tmp 59) (.tmp 64) (by kernel_chk) (eqIk x w')) ?_
    refine Goes.run [0] [(false, false)] ⟨rfl, trivial⟩ ?_
    refine Goes.slot 6 (.int .i64 (i + 1 : Nat)) (u := .int .i64 (IntKind.i64.wrap ((i : Int) + 1))) (congrArg _ (wrap_nat (by omega))) ?_
    exact back (i + 1) _ hil (by omega) (by kernel_chk) (by kernel_chk) (by kernel_chk)
end
end Go.Proofs.YtddbiiejilcbbaaGreatDoor
namespace Go.Proofs.YtddbiiejilcbbaaGreatDoor
open Go Go.RowKit

abbrev runO (day : Int) (fv hv ov : Value) (st : Int) (ovr : Bool) : Obj := .cells #[.int .i64 day, fv, hv, ov, .int .i64 st, .bool ovr] 56 (0, 0)
theorem holdR {w : World} {b : Nat} {ob : Obj} (h : w.heap[b]? = some ob) : Holds [(b, ob)] w := fun j c o hj => by match j, hj with | 0, hj => (cases hj; exact h)
theorem infoI64 : (Tryz.prog.info? 2).map (fun i => (i.zero, i.size, i.bytes)) = some (some (.int .i64 0), 1, 8) := by kernel_rfl
theorem makeR (w : World) : ∃ w1 v, (Instr.makeSlice 101 (.int .i64 256) (.int .i64 256)).run Tryz.prog w = .ok v w1 ∧ Below w.heap.size w w1 := by
  cases hie : Tryz.prog.info? 2 with
  | none => have := infoI64; rw [hie] at this; cases this
  | some i0 =>
    have hi := infoI64
    rw [hie] at hi
    simp only [Option.map_some, Option.some.injEq, Prod.mk.injEq] at hi
    obtain ⟨hz0, hz1, hz2⟩ := hi
    have hr := run_make (P := Tryz.prog) w 101 2 i0 (.int .i64 0) Tryz.underlying101 hie hz0 .i64 .i64 256 256 (by omega) (by omega) (by rw [hz2]; omega) (by omega)
    exact ⟨_, _, hr, (Below.refl _ _).alloc (Nat.le_refl _) _⟩
/-- A transfer is put to a row of none. -/
def FromR (w : World) (r : Nat) (s : List UInt8) (e : Ending) (w' : World) : Prop := e = .returned (.tuple #[]) ∧ ∃ b c, w'.heap[r]? = some (runO 3 (.slice none 0 0) (.slice none 0 0) (.slice (some ⟨b, 0, none⟩) 1 c) 2 false) ∧ Trs w.heap.size 3 w' (.slice (some ⟨b, 0, none⟩) 1 c) [(s, 1000000)] ∧ Ch [r] w w'
set_option maxRecDepth 100000 in
seal rn rnN rnS Goes ans atEnd put0 put putM opened openedY putA0 putA oneSt st0 keep mkSt newSt in
theorem from1_any {w : World} {r b c : Nat} {s : List UInt8} (at0 : IcAt w b (0 + 0 * 7) (iPay s)) (at1 : IcAt w b (0 + 1 * 7) iEnd) (hb : b < w.heap.size) (hbr : b ≠ r) (hr : w.heap[r]? = some (runO 3 (.slice none 0 0) (.slice none 0 0) (.slice none 0 0) 0 false)) : Calls Tryz.prog 21 #[.pointer (some ⟨r, 0, none⟩), cdV 0 none 0 0 (some ⟨b, 0, none⟩) 2 c, .int .i64 0, .int .i64 1000000] w (FromR w r s) := by
  have stay : ∀ {w' : World} {o : Nat} {x : Ik}, Ch [r] w w' → IcAt w b o x → IcAt w' b o x := fun {w' o x} hc h j u hj => by
    have h1 := h j u hj
    unfold World.cell? at h1 ⊢
    rw [hc.block b hb (by simpa using hbr)]
    exact h1
  refine Goes.enter Tryz.func21 [(r, runO 3 (.slice none 0 0) (.slice none 0 0) (.slice none 0 0) 0 false)] (fun w' => Ch [r] w w' ∧ Trs w.heap.size 3 w' (.slice none 0 0) []) (holdR hr) (by simp [Mem.ids]) (fun w' hc => ⟨hc.mono (fun x hx => by simpa [Mem.ids] using hx), Trs.nil⟩) ?_
  refine Goes.run1 [] [] trivial fun g5 => ?_
  refine Goes.eff (Instr.makeSlice 101 (.int .i64 256) (.int .i64 256)) fun w1 hm1 hn1 hI1 => ?_
  obtain ⟨w2, rv, h2, hB12⟩ := makeR w1
  refine ⟨rv, w2, _, _, h2, hm1.bel hB12, hn1, hI1.bel hB12, ?_⟩
  refine Goes.run [0, 0, 1, 1] [(true, true)] ⟨rfl, trivial⟩ ?_
  refine Goes.val (Instr.indexAt 25 (.slice (some ⟨b, 0, none⟩) 2 c) (.int .i64 (0 : Nat))) (.pointer (some ⟨b, 0 + 0 * 7, none⟩)) (fun w' _ _ => idxIk b 0 2 c 0 (by omega) w') ?_
  refine Goes.val (Instr.loadAt 72 (.pointer (some ⟨b, 0 + 0 * 7, none⟩))) (iV (iPay s)) (fun w' hm hI => loadI (stay hI.now.1 at0)) ?_
  refine Goes.run1 [2, 0, 0, 0, 0, 2, 0, 0, 0, 0, 0, 0, 0, 0, 0, 0, 0, 0, 1, 1] [(true, true), (true, true), (false, false), (false, false), (false, false), (false, false), (false, false), (false, false), (false, false), (false, false), (false, false), (false, false), (false, false), (false, false), (false, false)] ⟨rfl, rfl, rfl, rfl, rfl, rfl, rfl, rfl, rfl, rfl, rfl, rfl, rfl, rfl, rfl, trivial⟩ fun g9 => ?_
  refine Goes.open [] ?_
  refine Goes.run [0, 1, 2, 3, 5, 6, 7, 9, 11] [] trivial ?_
  refine Goes.three 4 8 10 ?_ ?_ ?_
  · skip
    refine TookS.run 4 0 ?_
    refine Goes.two 8 10 ?_ ?_
    · skip
      refine TookS.run 8 0 ?_
      refine Goes.lone1 10 ?_
      refine TookS.run 10 2 ?_
      refine Goes.run [12] [] trivial ?_
      refine Goes.lone1 13 ?_
      refine TookS.new1 13 0 [] (fun _ _ => Nat.zero_le _) fun gb _ => ?_
      refine Goes.lone1 14 (TookS.eff 14 (Builtin.append_ #[38, 38] 38 #[.slice none 0 0, .slice (some ⟨gb, 0, none⟩) 1 1]) fun w3 hm3 hn3 hI3 => ?_)
      have z1 : w3.heap[gb]? = some (.cells #[.int .i64 3, strV s, .int .i64 1000000] 59 (0, 0)) := hm3.get 3
      obtain ⟨b2, c2, w4, hr4, hT4, hgr, hob⟩ := hI3.now.2.add hI3.now.1.size (s, 1000000) z1 (by simp) (ty := 38) (c := 1)
      have hkept : ∀ (q : Nat) (ob : Obj), w3.heap[q]? = some ob → w4.heap[q]? = some ob := fun q ob hq => (hgr.block q (lt_of_get hq) (by simp [Value.ownBlock])).trans hq
      have hd : [r, g5, g9].Nodup := by have := Nodup.of_ids (l := [r, g5, g9, gb]) hn3; simp at this ⊢; exact ⟨⟨this.1.1, this.1.2.1⟩, this.2.1.1⟩
      have hb2 : w3.heap.size ≤ b2 := hob.elim (fun h => by cases h) (fun h => by omega)
      have hlow : ∀ x ∈ [r, g5, g9], x ≠ b2 := fun x hx e => by
        have h1 := holds_lt hm3 x (mem_eq (l := [r, g5, g9, gb]) (by simp at hx ⊢; rcases hx with h | h | h <;> simp [h]))
        omega
      refine ⟨_, w4, fun w' => Ch [r] w w' ∧ Trs w.heap.size 3 w' (.slice (some ⟨b2, 0, none⟩) 1 c2) [(s, 1000000)], [(r, runO 3 (.slice none 0 0) (.slice none 0 0) (.slice none 0 0) 1 false), (g5, .cells #[.int .i64 0, .slice none 0 0, .slice (some ⟨b, 0, none⟩) 2 c] 27 (0, 0)), (g9, .cells #[.int .i64 27, .int .i64 0, .int .i64 0, .int .i64 0, .int .i64 0, strV s, .int .i64 0] 72 (0, 0))], hr4, fun j q ob hj => ?_, hd, fun w5 h5 => ⟨?_, own_ch hT4 h5 fun q hq hm => ?_⟩, ?_⟩
      · match j, hj with
        | 0, hj => cases hj; exact hkept _ _ (hm3.get 0)
        | 1, hj => cases hj; exact hkept _ _ (hm3.get 1)
        | 2, hj => cases hj; exact hkept _ _ (hm3.get 2)
      · exact (hI3 w5 (Ch.trans ⟨hgr.os, hgr.tape, hgr.output, hgr.size, fun i hi _ => hgr.block i hi (by simp [Value.ownBlock])⟩ (h5.mono (L' := [r, g5, g9]) fun x hx => mem_eq hx) (fun x hx => .inl (mem_eq (l := [r, g5, g9, gb]) (by simp at hx ⊢; rcases hx with h | h | h <;> simp [h]))))).1
      · have e2 : b2 = q := by simpa [Value.ownBlock] using hq
        exact hlow q (mem_eq hm) e2.symm
      refine Goes.run [15, 16] [] trivial ?_
      refine Goes.lone1 17 (TookS.run 17 0 ?_)
      refine Goes.run [0, 0, 0, 1, 1] [(true, true), (false, false)] ⟨rfl, rfl, trivial⟩ ?_
      refine Goes.val (Instr.indexAt 25 (.slice (some ⟨b, 0, none⟩) 2 c) (.int .i64 (1 : Nat))) (.pointer (some ⟨b, 0 + 1 * 7, none⟩)) (fun w' _ _ => idxIk b 0 2 c 1 (by omega) w') ?_
      refine Goes.val (Instr.loadAt 72 (.pointer (some ⟨b, 0 + 1 * 7, none⟩))) (iV iEnd) (fun w' hm hI => loadI (stay hI.now.1 at1)) ?_
      refine Goes.run1 [3, 0, 0, 0, 0, 3, 1] [(true, true), (false, false)] ⟨rfl, rfl, trivial⟩ fun g10 => ?_
      exact Goes.ret [] (.tuple #[]) fun w' hm hI => ⟨rfl, b2, c2, hm.get 0, hI.now.2, hI.now.1⟩
    · skip
      refine TookS.run 10 2 ?_
      refine Goes.lone1 8 ?_
      refine TookS.run 8 0 ?_
      refine Goes.run [12] [] trivial ?_
      refine Goes.lone1 13 ?_
      refine TookS.new1 13 0 [] (fun _ _ => Nat.zero_le _) fun gb _ => ?_
      refine Goes.lone1 14 (TookS.eff 14 (Builtin.append_ #[38, 38] 38 #[.slice none 0 0, .slice (some ⟨gb, 0, none⟩) 1 1]) fun w3 hm3 hn3 hI3 => ?_)
      have z1 : w3.heap[gb]? = some (.cells #[.int .i64 3, strV s, .int .i64 1000000] 59 (0, 0)) := hm3.get 3
      obtain ⟨b2, c2, w4, hr4, hT4, hgr, hob⟩ := hI3.now.2.add hI3.now.1.size (s, 1000000) z1 (by simp) (ty := 38) (c := 1)
      have hkept : ∀ (q : Nat) (ob : Obj), w3.heap[q]? = some ob → w4.heap[q]? = some ob := fun q ob hq => (hgr.block q (lt_of_get hq) (by simp [Value.ownBlock])).trans hq
      have hd : [r, g5, g9].Nodup := by have := Nodup.of_ids (l := [r, g5, g9, gb]) hn3; simp at this ⊢; exact ⟨⟨this.1.1, this.1.2.1⟩, this.2.1.1⟩
      have hb2 : w3.heap.size ≤ b2 := hob.elim (fun h => by cases h) (fun h => by omega)
      have hlow : ∀ x ∈ [r, g5, g9], x ≠ b2 := fun x hx e => by
        have h1 := holds_lt hm3 x (mem_eq (l := [r, g5, g9, gb]) (by simp at hx ⊢; rcases hx with h | h | h <;> simp [h]))
        omega
      refine ⟨_, w4, fun w' => Ch [r] w w' ∧ Trs w.heap.size 3 w' (.slice (some ⟨b2, 0, none⟩) 1 c2) [(s, 1000000)], [(r, runO 3 (.slice none 0 0) (.slice none 0 0) (.slice none 0 0) 1 false), (g5, .cells #[.int .i64 0, .slice none 0 0, .slice (some ⟨b, 0, none⟩) 2 c] 27 (0, 0)), (g9, .cells #[.int .i64 27, .int .i64 0, .int .i64 0, .int .i64 0, .int .i64 0, strV s, .int .i64 0] 72 (0, 0))], hr4, fun j q ob hj => ?_, hd, fun w5 h5 => ⟨?_, own_ch hT4 h5 fun q hq hm => ?_⟩, ?_⟩
      · match j, hj with
        | 0, hj => cases hj; exact hkept _ _ (hm3.get 0)
        | 1, hj => cases hj; exact hkept _ _ (hm3.get 1)
        | 2, hj => cases hj; exact hkept _ _ (hm3.get 2)
      · exact (hI3 w5 (Ch.trans ⟨hgr.os, hgr.tape, hgr.output, hgr.size, fun i hi _ => hgr.block i hi (by simp [Value.ownBlock])⟩ (h5.mono (L' := [r, g5, g9]) fun x hx => mem_eq hx) (fun x hx => .inl (mem_eq (l := [r, g5, g9, gb]) (by simp at hx ⊢; rcases hx with h | h | h <;> simp [h]))))).1
      · have e2 : b2 = q := by simpa [Value.ownBlock] using hq
        exact hlow q (mem_eq hm) e2.symm
      refine Goes.run [15, 16] [] trivial ?_
      refine Goes.lone1 17 (TookS.run 17 0 ?_)
      refine Goes.run [0, 0, 0, 1, 1] [(true, true), (false, false)] ⟨rfl, rfl, trivial⟩ ?_
      refine Goes.val (Instr.indexAt 25 (.slice (some ⟨b, 0, none⟩) 2 c) (.int .i64 (1 : Nat))) (.pointer (some ⟨b, 0 + 1 * 7, none⟩)) (fun w' _ _ => idxIk b 0 2 c 1 (by omega) w') ?_
      refine Goes.val (Instr.loadAt 72 (.pointer (some ⟨b, 0 + 1 * 7, none⟩))) (iV iEnd) (fun w' hm hI => loadI (stay hI.now.1 at1)) ?_
      refine Goes.run1 [3, 0, 0, 0, 0, 3, 1] [(true, true), (false, false)] ⟨rfl, rfl, trivial⟩ fun g10 => ?_
      exact Goes.ret [] (.tuple #[]) fun w' hm hI => ⟨rfl, b2, c2, hm.get 0, hI.now.2, hI.now.1⟩
  · skip
    refine TookS.run 8 0 ?_
    refine Goes.two 4 10 ?_ ?_
    · skip
      refine TookS.run 4 0 ?_
      refine Goes.lone1 10 ?_
      refine TookS.run 10 2 ?_
      refine Goes.run [12] [] trivial ?_
      refine Goes.lone1 13 ?_
      refine TookS.new1 13 0 [] (fun _ _ => Nat.zero_le _) fun gb _ => ?_
      refine Goes.lone1 14 (TookS.eff 14 (Builtin.append_ #[38, 38] 38 #[.slice none 0 0, .slice (some ⟨gb, 0, none⟩) 1 1]) fun w3 hm3 hn3 hI3 => ?_)
      have z1 : w3.heap[gb]? = some (.cells #[.int .i64 3, strV s, .int .i64 1000000] 59 (0, 0)) := hm3.get 3
      obtain ⟨b2, c2, w4, hr4, hT4, hgr, hob⟩ := hI3.now.2.add hI3.now.1.size (s, 1000000) z1 (by simp) (ty := 38) (c := 1)
      have hkept : ∀ (q : Nat) (ob : Obj), w3.heap[q]? = some ob → w4.heap[q]? = some ob := fun q ob hq => (hgr.block q (lt_of_get hq) (by simp [Value.ownBlock])).trans hq
      have hd : [r, g5, g9].Nodup := by have := Nodup.of_ids (l := [r, g5, g9, gb]) hn3; simp at this ⊢; exact ⟨⟨this.1.1, this.1.2.1⟩, this.2.1.1⟩
      have hb2 : w3.heap.size ≤ b2 := hob.elim (fun h => by cases h) (fun h => by omega)
      have hlow : ∀ x ∈ [r, g5, g9], x ≠ b2 := fun x hx e => by
        have h1 := holds_lt hm3 x (mem_eq (l := [r, g5, g9, gb]) (by simp at hx ⊢; rcases hx with h | h | h <;> simp [h]))
        omega
      refine ⟨_, w4, fun w' => Ch [r] w w' ∧ Trs w.heap.size 3 w' (.slice (some ⟨b2, 0, none⟩) 1 c2) [(s, 1000000)], [(r, runO 3 (.slice none 0 0) (.slice none 0 0) (.slice none 0 0) 1 false), (g5, .cells #[.int .i64 0, .slice none 0 0, .slice (some ⟨b, 0, none⟩) 2 c] 27 (0, 0)), (g9, .cells #[.int .i64 27, .int .i64 0, .int .i64 0, .int .i64 0, .int .i64 0, strV s, .int .i64 0] 72 (0, 0))], hr4, fun j q ob hj => ?_, hd, fun w5 h5 => ⟨?_, own_ch hT4 h5 fun q hq hm => ?_⟩, ?_⟩
      · match j, hj with
        | 0, hj => cases hj; exact hkept _ _ (hm3.get 0)
        | 1, hj => cases hj; exact hkept _ _ (hm3.get 1)
        | 2, hj => cases hj; exact hkept _ _ (hm3.get 2)
      · exact (hI3 w5 (Ch.trans ⟨hgr.os, hgr.tape, hgr.output, hgr.size, fun i hi _ => hgr.block i hi (by simp [Value.ownBlock])⟩ (h5.mono (L' := [r, g5, g9]) fun x hx => mem_eq hx) (fun x hx => .inl (mem_eq (l := [r, g5, g9, gb]) (by simp at hx ⊢; rcases hx with h | h | h <;> simp [h]))))).1
      · have e2 : b2 = q := by simpa [Value.ownBlock] using hq
        exact hlow q (mem_eq hm) e2.symm
      refine Goes.run [15, 16] [] trivial ?_
      refine Goes.lone1 17 (TookS.run 17 0 ?_)
      refine Goes.run [0, 0, 0, 1, 1] [(true, true), (false, false)] ⟨rfl, rfl, trivial⟩ ?_
      refine Goes.val (Instr.indexAt 25 (.slice (some ⟨b, 0, none⟩) 2 c) (.int .i64 (1 : Nat))) (.pointer (some ⟨b, 0 + 1 * 7, none⟩)) (fun w' _ _ => idxIk b 0 2 c 1 (by omega) w') ?_
      refine Goes.val (Instr.loadAt 72 (.pointer (some ⟨b, 0 + 1 * 7, none⟩))) (iV iEnd) (fun w' hm hI => loadI (stay hI.now.1 at1)) ?_
      refine Goes.run1 [3, 0, 0, 0, 0, 3, 1] [(true, true), (false, false)] ⟨rfl, rfl, trivial⟩ fun g10 => ?_
      exact Goes.ret [] (.tuple #[]) fun w' hm hI => ⟨rfl, b2, c2, hm.get 0, hI.now.2, hI.now.1⟩
    · skip
      refine TookS.run 10 2 ?_
      refine Goes.run [12] [] trivial ?_
      refine Goes.two 4 13 ?_ ?_
      · skip
        refine TookS.run 4 0 ?_
        refine Goes.lone1 13 ?_
        refine TookS.new1 13 0 [] (fun _ _ => Nat.zero_le _) fun gb _ => ?_
        refine Goes.lone1 14 (TookS.eff 14 (Builtin.append_ #[38, 38] 38 #[.slice none 0 0, .slice (some ⟨gb, 0, none⟩) 1 1]) fun w3 hm3 hn3 hI3 => ?_)
        have z1 : w3.heap[gb]? = some (.cells #[.int .i64 3, strV s, .int .i64 1000000] 59 (0, 0)) := hm3.get 3
        obtain ⟨b2, c2, w4, hr4, hT4, hgr, hob⟩ := hI3.now.2.add hI3.now.1.size (s, 1000000) z1 (by simp) (ty := 38) (c := 1)
        have hkept : ∀ (q : Nat) (ob : Obj), w3.heap[q]? = some ob → w4.heap[q]? = some ob := fun q ob hq => (hgr.block q (lt_of_get hq) (by simp [Value.ownBlock])).trans hq
        have hd : [r, g5, g9].Nodup := by have := Nodup.of_ids (l := [r, g5, g9, gb]) hn3; simp at this ⊢; exact ⟨⟨this.1.1, this.1.2.1⟩, this.2.1.1⟩
        have hb2 : w3.heap.size ≤ b2 := hob.elim (fun h => by cases h) (fun h => by omega)
        have hlow : ∀ x ∈ [r, g5, g9], x ≠ b2 := fun x hx e => by
          have h1 := holds_lt hm3 x (mem_eq (l := [r, g5, g9, gb]) (by simp at hx ⊢; rcases hx with h | h | h <;> simp [h]))
          omega
        refine ⟨_, w4, fun w' => Ch [r] w w' ∧ Trs w.heap.size 3 w' (.slice (some ⟨b2, 0, none⟩) 1 c2) [(s, 1000000)], [(r, runO 3 (.slice none 0 0) (.slice none 0 0) (.slice none 0 0) 1 false), (g5, .cells #[.int .i64 0, .slice none 0 0, .slice (some ⟨b, 0, none⟩) 2 c] 27 (0, 0)), (g9, .cells #[.int .i64 27, .int .i64 0, .int .i64 0, .int .i64 0, .int .i64 0, strV s, .int .i64 0] 72 (0, 0))], hr4, fun j q ob hj => ?_, hd, fun w5 h5 => ⟨?_, own_ch hT4 h5 fun q hq hm => ?_⟩, ?_⟩
        · match j, hj with
          | 0, hj => cases hj; exact hkept _ _ (hm3.get 0)
          | 1, hj => cases hj; exact hkept _ _ (hm3.get 1)
          | 2, hj => cases hj; exact hkept _ _ (hm3.get 2)
        · exact (hI3 w5 (Ch.trans ⟨hgr.os, hgr.tape, hgr.output, hgr.size, fun i hi _ => hgr.block i hi (by simp [Value.ownBlock])⟩ (h5.mono (L' := [r, g5, g9]) fun x hx => mem_eq hx) (fun x hx => .inl (mem_eq (l := [r, g5, g9, gb]) (by simp at hx ⊢; rcases hx with h | h | h <;> simp [h]))))).1
        · have e2 : b2 = q := by simpa [Value.ownBlock] using hq
          exact hlow q (mem_eq hm) e2.symm
        refine Goes.run [15, 16] [] trivial ?_
        refine Goes.lone1 17 (TookS.run 17 0 ?_)
        refine Goes.run [0, 0, 0, 1, 1] [(true, true), (false, false)] ⟨rfl, rfl, trivial⟩ ?_
        refine Goes.val (Instr.indexAt 25 (.slice (some ⟨b, 0, none⟩) 2 c) (.int .i64 (1 : Nat))) (.pointer (some ⟨b, 0 + 1 * 7, none⟩)) (fun w' _ _ => idxIk b 0 2 c 1 (by omega) w') ?_
        refine Goes.val (Instr.loadAt 72 (.pointer (some ⟨b, 0 + 1 * 7, none⟩))) (iV iEnd) (fun w' hm hI => loadI (stay hI.now.1 at1)) ?_
        refine Goes.run1 [3, 0, 0, 0, 0, 3, 1] [(true, true), (false, false)] ⟨rfl, rfl, trivial⟩ fun g10 => ?_
        exact Goes.ret [] (.tuple #[]) fun w' hm hI => ⟨rfl, b2, c2, hm.get 0, hI.now.2, hI.now.1⟩
      · skip
        refine TookS.new1 13 0 [] (fun _ _ => Nat.zero_le _) fun gb _ => ?_
        refine Goes.lone1 4 ?_
        refine TookS.run 4 0 ?_
        refine Goes.lone1 14 (TookS.eff 14 (Builtin.append_ #[38, 38] 38 #[.slice none 0 0, .slice (some ⟨gb, 0, none⟩) 1 1]) fun w3 hm3 hn3 hI3 => ?_)
        have z1 : w3.heap[gb]? = some (.cells #[.int .i64 3, strV s, .int .i64 1000000] 59 (0, 0)) := hm3.get 3
        obtain ⟨b2, c2, w4, hr4, hT4, hgr, hob⟩ := hI3.now.2.add hI3.now.1.size (s, 1000000) z1 (by simp) (ty := 38) (c := 1)
        have hkept : ∀ (q : Nat) (ob : Obj), w3.heap[q]? = some ob → w4.heap[q]? = some ob := fun q ob hq => (hgr.block q (lt_of_get hq) (by simp [Value.ownBlock])).trans hq
        have hd : [r, g5, g9].Nodup := by have := Nodup.of_ids (l := [r, g5, g9, gb]) hn3; simp at this ⊢; exact ⟨⟨this.1.1, this.1.2.1⟩, this.2.1.1⟩
        have hb2 : w3.heap.size ≤ b2 := hob.elim (fun h => by cases h) (fun h => by omega)
        have hlow : ∀ x ∈ [r, g5, g9], x ≠ b2 := fun x hx e => by
          have h1 := holds_lt hm3 x (mem_eq (l := [r, g5, g9, gb]) (by simp at hx ⊢; rcases hx with h | h | h <;> simp [h]))
          omega
        refine ⟨_, w4, fun w' => Ch [r] w w' ∧ Trs w.heap.size 3 w' (.slice (some ⟨b2, 0, none⟩) 1 c2) [(s, 1000000)], [(r, runO 3 (.slice none 0 0) (.slice none 0 0) (.slice none 0 0) 1 false), (g5, .cells #[.int .i64 0, .slice none 0 0, .slice (some ⟨b, 0, none⟩) 2 c] 27 (0, 0)), (g9, .cells #[.int .i64 27, .int .i64 0, .int .i64 0, .int .i64 0, .int .i64 0, strV s, .int .i64 0] 72 (0, 0))], hr4, fun j q ob hj => ?_, hd, fun w5 h5 => ⟨?_, own_ch hT4 h5 fun q hq hm => ?_⟩, ?_⟩
        · match j, hj with
          | 0, hj => cases hj; exact hkept _ _ (hm3.get 0)
          | 1, hj => cases hj; exact hkept _ _ (hm3.get 1)
          | 2, hj => cases hj; exact hkept _ _ (hm3.get 2)
        · exact (hI3 w5 (Ch.trans ⟨hgr.os, hgr.tape, hgr.output, hgr.size, fun i hi _ => hgr.block i hi (by simp [Value.ownBlock])⟩ (h5.mono (L' := [r, g5, g9]) fun x hx => mem_eq hx) (fun x hx => .inl (mem_eq (l := [r, g5, g9, gb]) (by simp at hx ⊢; rcases hx with h | h | h <;> simp [h]))))).1
        · have e2 : b2 = q := by simpa [Value.ownBlock] using hq
          exact hlow q (mem_eq hm) e2.symm
        refine Goes.run [15, 16] [] trivial ?_
        refine Goes.lone1 17 (TookS.run 17 0 ?_)
        refine Goes.run [0, 0, 0, 1, 1] [(true, true), (false, false)] ⟨rfl, rfl, trivial⟩ ?_
        refine Goes.val (Instr.indexAt 25 (.slice (some ⟨b, 0, none⟩) 2 c) (.int .i64 (1 : Nat))) (.pointer (some ⟨b, 0 + 1 * 7, none⟩)) (fun w' _ _ => idxIk b 0 2 c 1 (by omega) w') ?_
        refine Goes.val (Instr.loadAt 72 (.pointer (some ⟨b, 0 + 1 * 7, none⟩))) (iV iEnd) (fun w' hm hI => loadI (stay hI.now.1 at1)) ?_
        refine Goes.run1 [3, 0, 0, 0, 0, 3, 1] [(true, true), (false, false)] ⟨rfl, rfl, trivial⟩ fun g10 => ?_
        exact Goes.ret [] (.tuple #[]) fun w' hm hI => ⟨rfl, b2, c2, hm.get 0, hI.now.2, hI.now.1⟩
  · skip
    refine TookS.run 10 2 ?_
    refine Goes.two 4 8 ?_ ?_
    · skip
      refine TookS.run 4 0 ?_
      refine Goes.lone1 8 ?_
      refine TookS.run 8 0 ?_
      refine Goes.run [12] [] trivial ?_
      refine Goes.lone1 13 ?_
      refine TookS.new1 13 0 [] (fun _ _ => Nat.zero_le _) fun gb _ => ?_
      refine Goes.lone1 14 (TookS.eff 14 (Builtin.append_ #[38, 38] 38 #[.slice none 0 0, .slice (some ⟨gb, 0, none⟩) 1 1]) fun w3 hm3 hn3 hI3 => ?_)
      have z1 : w3.heap[gb]? = some (.cells #[.int .i64 3, strV s, .int .i64 1000000] 59 (0, 0)) := hm3.get 3
      obtain ⟨b2, c2, w4, hr4, hT4, hgr, hob⟩ := hI3.now.2.add hI3.now.1.size (s, 1000000) z1 (by simp) (ty := 38) (c := 1)
      have hkept : ∀ (q : Nat) (ob : Obj), w3.heap[q]? = some ob → w4.heap[q]? = some ob := fun q ob hq => (hgr.block q (lt_of_get hq) (by simp [Value.ownBlock])).trans hq
      have hd : [r, g5, g9].Nodup := by have := Nodup.of_ids (l := [r, g5, g9, gb]) hn3; simp at this ⊢; exact ⟨⟨this.1.1, this.1.2.1⟩, this.2.1.1⟩
      have hb2 : w3.heap.size ≤ b2 := hob.elim (fun h => by cases h) (fun h => by omega)
      have hlow : ∀ x ∈ [r, g5, g9], x ≠ b2 := fun x hx e => by
        have h1 := holds_lt hm3 x (mem_eq (l := [r, g5, g9, gb]) (by simp at hx ⊢; rcases hx with h | h | h <;> simp [h]))
        omega
      refine ⟨_, w4, fun w' => Ch [r] w w' ∧ Trs w.heap.size 3 w' (.slice (some ⟨b2, 0, none⟩) 1 c2) [(s, 1000000)], [(r, runO 3 (.slice none 0 0) (.slice none 0 0) (.slice none 0 0) 1 false), (g5, .cells #[.int .i64 0, .slice none 0 0, .slice (some ⟨b, 0, none⟩) 2 c] 27 (0, 0)), (g9, .cells #[.int .i64 27, .int .i64 0, .int .i64 0, .int .i64 0, .int .i64 0, strV s, .int .i64 0] 72 (0, 0))], hr4, fun j q ob hj => ?_, hd, fun w5 h5 => ⟨?_, own_ch hT4 h5 fun q hq hm => ?_⟩, ?_⟩
      · match j, hj with
        | 0, hj => cases hj; exact hkept _ _ (hm3.get 0)
        | 1, hj => cases hj; exact hkept _ _ (hm3.get 1)
        | 2, hj => cases hj; exact hkept _ _ (hm3.get 2)
      · exact (hI3 w5 (Ch.trans ⟨hgr.os, hgr.tape, hgr.output, hgr.size, fun i hi _ => hgr.block i hi (by simp [Value.ownBlock])⟩ (h5.mono (L' := [r, g5, g9]) fun x hx => mem_eq hx) (fun x hx => .inl (mem_eq (l := [r, g5, g9, gb]) (by simp at hx ⊢; rcases hx with h | h | h <;> simp [h]))))).1
      · have e2 : b2 = q := by simpa [Value.ownBlock] using hq
        exact hlow q (mem_eq hm) e2.symm
      refine Goes.run [15, 16] [] trivial ?_
      refine Goes.lone1 17 (TookS.run 17 0 ?_)
      refine Goes.run [0, 0, 0, 1, 1] [(true, true), (false, false)] ⟨rfl, rfl, trivial⟩ ?_
      refine Goes.val (Instr.indexAt 25 (.slice (some ⟨b, 0, none⟩) 2 c) (.int .i64 (1 : Nat))) (.pointer (some ⟨b, 0 + 1 * 7, none⟩)) (fun w' _ _ => idxIk b 0 2 c 1 (by omega) w') ?_
      refine Goes.val (Instr.loadAt 72 (.pointer (some ⟨b, 0 + 1 * 7, none⟩))) (iV iEnd) (fun w' hm hI => loadI (stay hI.now.1 at1)) ?_
      refine Goes.run1 [3, 0, 0, 0, 0, 3, 1] [(true, true), (false, false)] ⟨rfl, rfl, trivial⟩ fun g10 => ?_
      exact Goes.ret [] (.tuple #[]) fun w' hm hI => ⟨rfl, b2, c2, hm.get 0, hI.now.2, hI.now.1⟩
    · skip
      refine TookS.run 8 0 ?_
      refine Goes.run [12] [] trivial ?_
      refine Goes.two 4 13 ?_ ?_
      · skip
        refine TookS.run 4 0 ?_
        refine Goes.lone1 13 ?_
        refine TookS.new1 13 0 [] (fun _ _ => Nat.zero_le _) fun gb _ => ?_
        refine Goes.lone1 14 (TookS.eff 14 (Builtin.append_ #[38, 38] 38 #[.slice none 0 0, .slice (some ⟨gb, 0, none⟩) 1 1]) fun w3 hm3 hn3 hI3 => ?_)
        have z1 : w3.heap[gb]? = some (.cells #[.int .i64 3, strV s, .int .i64 1000000] 59 (0, 0)) := hm3.get 3
        obtain ⟨b2, c2, w4, hr4, hT4, hgr, hob⟩ := hI3.now.2.add hI3.now.1.size (s, 1000000) z1 (by simp) (ty := 38) (c := 1)
        have hkept : ∀ (q : Nat) (ob : Obj), w3.heap[q]? = some ob → w4.heap[q]? = some ob := fun q ob hq => (hgr.block q (lt_of_get hq) (by simp [Value.ownBlock])).trans hq
        have hd : [r, g5, g9].Nodup := by have := Nodup.of_ids (l := [r, g5, g9, gb]) hn3; simp at this ⊢; exact ⟨⟨this.1.1, this.1.2.1⟩, this.2.1.1⟩
        have hb2 : w3.heap.size ≤ b2 := hob.elim (fun h => by cases h) (fun h => by omega)
        have hlow : ∀ x ∈ [r, g5, g9], x ≠ b2 := fun x hx e => by
          have h1 := holds_lt hm3 x (mem_eq (l := [r, g5, g9, gb]) (by simp at hx ⊢; rcases hx with h | h | h <;> simp [h]))
          omega
        refine ⟨_, w4, fun w' => Ch [r] w w' ∧ Trs w.heap.size 3 w' (.slice (some ⟨b2, 0, none⟩) 1 c2) [(s, 1000000)], [(r, runO 3 (.slice none 0 0) (.slice none 0 0) (.slice none 0 0) 1 false), (g5, .cells #[.int .i64 0, .slice none 0 0, .slice (some ⟨b, 0, none⟩) 2 c] 27 (0, 0)), (g9, .cells #[.int .i64 27, .int .i64 0, .int .i64 0, .int .i64 0, .int .i64 0, strV s, .int .i64 0] 72 (0, 0))], hr4, fun j q ob hj => ?_, hd, fun w5 h5 => ⟨?_, own_ch hT4 h5 fun q hq hm => ?_⟩, ?_⟩
        · match j, hj with
          | 0, hj => cases hj; exact hkept _ _ (hm3.get 0)
          | 1, hj => cases hj; exact hkept _ _ (hm3.get 1)
          | 2, hj => cases hj; exact hkept _ _ (hm3.get 2)
        · exact (hI3 w5 (Ch.trans ⟨hgr.os, hgr.tape, hgr.output, hgr.size, fun i hi _ => hgr.block i hi (by simp [Value.ownBlock])⟩ (h5.mono (L' := [r, g5, g9]) fun x hx => mem_eq hx) (fun x hx => .inl (mem_eq (l := [r, g5, g9, gb]) (by simp at hx ⊢; rcases hx with h | h | h <;> simp [h]))))).1
        · have e2 : b2 = q := by simpa [Value.ownBlock] using hq
          exact hlow q (mem_eq hm) e2.symm
        refine Goes.run [15, 16] [] trivial ?_
        refine Goes.lone1 17 (TookS.run 17 0 ?_)
        refine Goes.run [0, 0, 0, 1, 1] [(true, true), (false, false)] ⟨rfl, rfl, trivial⟩ ?_
        refine Goes.val (Instr.indexAt 25 (.slice (some ⟨b, 0, none⟩) 2 c) (.int .i64 (1 : Nat))) (.pointer (some ⟨b, 0 + 1 * 7, none⟩)) (fun w' _ _ => idxIk b 0 2 c 1 (by omega) w') ?_
        refine Goes.val (Instr.loadAt 72 (.pointer (some ⟨b, 0 + 1 * 7, none⟩))) (iV iEnd) (fun w' hm hI => loadI (stay hI.now.1 at1)) ?_
        refine Goes.run1 [3, 0, 0, 0, 0, 3, 1] [(true, true), (false, false)] ⟨rfl, rfl, trivial⟩ fun g10 => ?_
        exact Goes.ret [] (.tuple #[]) fun w' hm hI => ⟨rfl, b2, c2, hm.get 0, hI.now.2, hI.now.1⟩
      · skip
        refine TookS.new1 13 0 [] (fun _ _ => Nat.zero_le _) fun gb _ => ?_
        refine Goes.lone1 4 ?_
        refine TookS.run 4 0 ?_
        refine Goes.lone1 14 (TookS.eff 14 (Builtin.append_ #[38, 38] 38 #[.slice none 0 0, .slice (some ⟨gb, 0, none⟩) 1 1]) fun w3 hm3 hn3 hI3 => ?_)
        have z1 : w3.heap[gb]? = some (.cells #[.int .i64 3, strV s, .int .i64 1000000] 59 (0, 0)) := hm3.get 3
        obtain ⟨b2, c2, w4, hr4, hT4, hgr, hob⟩ := hI3.now.2.add hI3.now.1.size (s, 1000000) z1 (by simp) (ty := 38) (c := 1)
        have hkept : ∀ (q : Nat) (ob : Obj), w3.heap[q]? = some ob → w4.heap[q]? = some ob := fun q ob hq => (hgr.block q (lt_of_get hq) (by simp [Value.ownBlock])).trans hq
        have hd : [r, g5, g9].Nodup := by have := Nodup.of_ids (l := [r, g5, g9, gb]) hn3; simp at this ⊢; exact ⟨⟨this.1.1, this.1.2.1⟩, this.2.1.1⟩
        have hb2 : w3.heap.size ≤ b2 := hob.elim (fun h => by cases h) (fun h => by omega)
        have hlow : ∀ x ∈ [r, g5, g9], x ≠ b2 := fun x hx e => by
          have h1 := holds_lt hm3 x (mem_eq (l := [r, g5, g9, gb]) (by simp at hx ⊢; rcases hx with h | h | h <;> simp [h]))
          omega
        refine ⟨_, w4, fun w' => Ch [r] w w' ∧ Trs w.heap.size 3 w' (.slice (some ⟨b2, 0, none⟩) 1 c2) [(s, 1000000)], [(r, runO 3 (.slice none 0 0) (.slice none 0 0) (.slice none 0 0) 1 false), (g5, .cells #[.int .i64 0, .slice none 0 0, .slice (some ⟨b, 0, none⟩) 2 c] 27 (0, 0)), (g9, .cells #[.int .i64 27, .int .i64 0, .int .i64 0, .int .i64 0, .int .i64 0, strV s, .int .i64 0] 72 (0, 0))], hr4, fun j q ob hj => ?_, hd, fun w5 h5 => ⟨?_, own_ch hT4 h5 fun q hq hm => ?_⟩, ?_⟩
        · match j, hj with
          | 0, hj => cases hj; exact hkept _ _ (hm3.get 0)
          | 1, hj => cases hj; exact hkept _ _ (hm3.get 1)
          | 2, hj => cases hj; exact hkept _ _ (hm3.get 2)
        · exact (hI3 w5 (Ch.trans ⟨hgr.os, hgr.tape, hgr.output, hgr.size, fun i hi _ => hgr.block i hi (by simp [Value.ownBlock])⟩ (h5.mono (L' := [r, g5, g9]) fun x hx => mem_eq hx) (fun x hx => .inl (mem_eq (l := [r, g5, g9, gb]) (by simp at hx ⊢; rcases hx with h | h | h <;> simp [h]))))).1
        · have e2 : b2 = q := by simpa [Value.ownBlock] using hq
          exact hlow q (mem_eq hm) e2.symm
        refine Goes.run [15, 16] [] trivial ?_
        refine Goes.lone1 17 (TookS.run 17 0 ?_)
        refine Goes.run [0, 0, 0, 1, 1] [(true, true), (false, false)] ⟨rfl, rfl, trivial⟩ ?_
        refine Goes.val (Instr.indexAt 25 (.slice (some ⟨b, 0, none⟩) 2 c) (.int .i64 (1 : Nat))) (.pointer (some ⟨b, 0 + 1 * 7, none⟩)) (fun w' _ _ => idxIk b 0 2 c 1 (by omega) w') ?_
        refine Goes.val (Instr.loadAt 72 (.pointer (some ⟨b, 0 + 1 * 7, none⟩))) (iV iEnd) (fun w' hm hI => loadI (stay hI.now.1 at1)) ?_
        refine Goes.run1 [3, 0, 0, 0, 0, 3, 1] [(true, true), (false, false)] ⟨rfl, rfl, trivial⟩ fun g10 => ?_
        exact Goes.ret [] (.tuple #[]) fun w' hm hI => ⟨rfl, b2, c2, hm.get 0, hI.now.2, hI.now.1⟩
end Go.Proofs.YtddbiiejilcbbaaGreatDoor
namespace Go.Proofs.YtddbiiejilcbbaaGreatDoor
open Go Go.RowKit

abbrev EUR3 : List UInt8 := [69, 85, 82]
abbrev k1 : Kd := ⟨0, [], [iPay EUR3, iEnd]⟩
theorem sizeTr3 : (Tryz.prog.info? 59).map (·.size) = some 3 := by kernel_rfl
theorem idxTr (b c : Nat) (w : World) : (Instr.indexAt 38 (.slice (some ⟨b, 0, none⟩) 1 c) (.int .i64 (0 : Nat))).run Tryz.prog w = .ok (.pointer (some ⟨b, 0, none⟩)) w := by go_simp
theorem k1_right : rightR k1 = true := by kernel_rfl
theorem Ins.cd {n0 b c : Nat} {w : World} {s : List UInt8} (h : Ins n0 w (.slice (some ⟨b, 0, none⟩) 2 c) [iPay s, iEnd]) (hs : s.length ≤ 100) (rg : Int) : CdM w none 0 0 (some ⟨b, 0, none⟩) 2 c ⟨rg, [], [iPay s, iEnd]⟩ := by
  obtain ⟨b', c', e, -, hb⟩ := Ins.two h
  cases e
  have hcap : 2 ≤ c ∧ c ≤ 9223372036854775807 := by
    rcases h.2 with ⟨e, -⟩ | ⟨g, cap, cur, e, -, -, h1, h2, -⟩
    · cases e
    · cases e
      exact ⟨h1, by unfold maxLen at h2; omega⟩
  refine ⟨rfl, rfl, by omega, hcap, fun i x hx => by simp at hx, fun i x hx => ?_⟩
  refine ⟨?_, b, 0, rfl, hb, h.at rfl hx⟩
  match i, hx with
  | 0, hx => cases hx; show s.length ≤ _; omega
  | 1, hx => cases hx; show 0 ≤ _; omega
set_option maxRecDepth 100000 in
seal rn rnN rnS Goes ans atEnd put0 put putM opened openedY putA0 putA oneSt st0 keep mkSt newSt in
theorem shown17_any {w : World} (hT : Tab w) (hU : TabU w) : Calls Tryz.prog 7 #[] w fun e w' => e = .returned (.bool true) ∧ Below w.heap.size w w' := by
  refine Goes.begin Tryz.func7 [] (fun _ => True) Holds.nil (by simp [Mem.ids]) (fun _ _ => trivial) ?_
  refine Goes.run [] [] trivial ?_
  refine Goes.call 19 #[cv 24 0 EUR3 (.slice none 0 0), .int .i64 0] fun w1 hm1 hn1 hI1 => (compile1_any (hT.below (bel0 hI1)) (hU.below (bel0 hI1))).mono fun e w2 ⟨n0, b, c, hn0, he, hi2, hB12⟩ => ?_
  have hB02 : Below w.heap.size w w2 := (bel0 hI1).trans (hB12.mono (bel0 hI1).size)
  have hcd := Ins.cd hi2 (by decide) 0
  refine ⟨_, fun w' => Ch (Mem.ids []) w w' ∧ Below w2.heap.size w2 w', [], he, Holds.nil, by simp [Mem.ids], fun w3 h3 => ⟨(hI1.now.1.trans (L' := []) ⟨hB12.os, hB12.tape, hB12.output, hB12.size, fun i hi _ => hB12.block i hi⟩ (by simp)).trans h3 (by simp [Mem.ids]), h3.toB (by simp [Mem.ids])⟩, ?_⟩
  refine Goes.run1 [0, 0] [] trivial fun g1 => ?_
  refine Goes.call0 20 #[cdV 0 none 0 0 (some ⟨b, 0, none⟩) 2 c] (.bool true) (fun w' _ hI => by have := rright_any (hcd.below hI.now.2) rfl; rw [k1_right] at this; exact this) ?_
  refine Goes.run1 [0, 0, 0] [(false, false), (false, false)] ⟨rfl, rfl, trivial⟩ fun g4 => ?_
  refine Goes.call 21 #[.pointer (some ⟨g4, 0, none⟩), cdV 0 none 0 0 (some ⟨b, 0, none⟩) 2 c, .int .i64 0, .int .i64 1000000] fun w3 hm3 hn3 hI3 => ?_
  have hfr : w2.heap.size ≤ g4 := fresh_of (L := []) (Q := fun _ => True) (hI3.mono fun w' h => ⟨⟨h.2.os, h.2.tape, h.2.output, h.2.size, fun i hi _ => h.2.block i hi⟩, trivial⟩) (mem_eq (l := [g1, g4]) (by simp)) (by simp)
  obtain ⟨b', c', e', -, hb2⟩ := Ins.two hi2
  cases e'
  have hb3 : b < w3.heap.size := Nat.lt_of_lt_of_le hb2 hI3.now.2.size
  have a0 : IcAt w3 b (0 + 0 * 7) (iPay EUR3) := (hi2.at rfl (i := 0) rfl).below hb2 hI3.now.2
  have a1 : IcAt w3 b (0 + 1 * 7) iEnd := (hi2.at rfl (i := 1) rfl).below hb2 hI3.now.2
  have e1 : w3.heap[g1]? = some (codeO 0 (.slice none 0 0) (.slice (some ⟨b, 0, none⟩) 2 c)) := hm3.get 0
  have hd : [g1, g4].Nodup := Nodup.of_ids hn3
  have hlt : ∀ x ∈ [g1, g4], x < w3.heap.size := fun x hx => holds_lt hm3 x (mem_eq hx)
  refine (from1_any a0 a1 hb3 (by omega) (hm3.get 1)).mono fun e w4 ⟨he4, b2, c2, hr4, hT4, hC4⟩ => ?_
  refine ⟨_, fun w' => Ch (Mem.ids []) w w' ∧ Trs w3.heap.size 3 w' (.slice (some ⟨b2, 0, none⟩) 1 c2) [(EUR3, 1000000)], [(g1, codeO 0 (.slice none 0 0) (.slice (some ⟨b, 0, none⟩) 2 c)), (g4, runO 3 (.slice none 0 0) (.slice none 0 0) (.slice (some ⟨b2, 0, none⟩) 1 c2) 2 false)], he4, fun j q ob hj => ?_, hd, fun w5 h5 => ⟨(hI3 w5 (Ch.trans (hC4.mono fun x hx => ?_) (h5.mono (L' := [g1, g4]) fun x hx => mem_eq hx) fun x hx => .inl (mem_eq hx))).1, own_ch hT4 h5 fun q hq hm => ?_⟩, ?_⟩
  · match j, hj with
    | 0, hj =>
      cases hj
      exact (hC4.block g1 (lt_of_get e1) (fun hx => by
        rw [List.mem_singleton] at hx
        rw [hx] at hd
        simp at hd)).trans e1
    | 1, hj => cases hj; exact hr4
  · have hx : x = g4 := by simpa using hx
    exact mem_eq (l := [g1, g4]) (by simp [hx])
  · have e2 : b2 = q := by simpa [Value.ownBlock] using hq
    have := hlt q (mem_eq hm)
    rcases hT4.2 with ⟨e, -⟩ | ⟨g, cap, cur, e, hbb, -⟩
    · cases e
    · cases e; omega
  · refine Goes.run [1, 1, 1, 1, 1] [(true, true), (true, true)] ⟨rfl, rfl, trivial⟩ ?_
    refine Goes.val (Instr.indexAt 38 (.slice (some ⟨b2, 0, none⟩) 1 c2) (.int .i64 (0 : Nat))) (.pointer (some ⟨b2, 0, none⟩)) (fun w' _ _ => idxTr b2 c2 w') ?_
    refine Goes.val (Instr.loadAt 59 (.pointer (some ⟨b2, 0, none⟩))) (.agg #[.int .i64 3, strV EUR3, .int .i64 1000000]) (fun w' hm hI => loadAgg Tryz.isAgg59 sizeTr3 [.int .i64 3, strV EUR3, .int .i64 1000000] rfl fun j u hu => by rw [Nat.zero_add]; exact (own_cell hI.now.2 (by simpa [trC] using hu)).1) ?_
    refine Goes.upto 45 [] [] trivial ?_
    refine Goes.val (do eqGuard .eql 59 (.tmp 43) (.tmp 44) (.agg #[.int .i64 3, strV EUR3, .int .i64 1000000]) (.agg #[.int .i64 3, strV EUR3, .int .i64 1000000]); binOp .eql 59 (.agg #[.int .i64 3, strV EUR3, .int .i64 1000000]) (.agg #[.int .i64 3, strV EUR3, .int .i64 1000000])) (.bool true) (fun w' _ _ => by have := eql_agg (t := 59) (.tmp 43) (.tmp 44) (by kernel_rfl) (eqTr 3 EUR3 1000000 3 EUR3 1000000 w'); simpa using this) ?_
    refine Goes.run [] [] trivial ?_
    exact Goes.ret [] (.bool true) fun w' hm hI => ⟨rfl, hI.now.1.toB (fun x hx => by cases hx)⟩
end Go.Proofs.YtddbiiejilcbbaaGreatDoor
namespace Go.Proofs.YtddbiiejilcbbaaGreatDoor
open Go Go.RowKit

/-- A reader stands ahead of these bytes. -/
def AtB (l : List UInt8) (s : Rs) (r : List UInt8) : Prop := s.bad = false ∧ 0 ≤ s.pos ∧ s.pos ≤ l.length ∧ l.drop s.pos.toNat = r
theorem AtB.behind {l : List UInt8} {s : Rs} {x r : List UInt8} (h : AtB l s (x ++ r)) : AtB l ⟨s.pos + x.length, false⟩ r := by
  obtain ⟨h1, h2, h3, h4⟩ := h
  have hl := congrArg List.length h4
  rw [List.length_drop, List.length_append] at hl
  refine ⟨rfl, by show 0 ≤ s.pos + (x.length : Int); omega, by show s.pos + (x.length : Int) ≤ _; omega, ?_⟩
  show l.drop (s.pos + (x.length : Int)).toNat = r
  rw [show (s.pos + (x.length : Int)).toNat = s.pos.toNat + x.length by omega, ← List.drop_drop, h4, List.drop_left]
theorem atB_tInt {l : List UInt8} {s : Rs} {r : List UInt8} (h : AtB l s r) : tInt l s.pos = takeI r := by
  obtain ⟨h1, h2, h3, h4⟩ := h
  unfold tInt
  rw [if_pos ⟨h2, h3⟩, h4]
theorem nS_go {l : List UInt8} {s : Rs} {lo hi n : Int} {k : Nat} (hb : s.bad = false) (h : tInt l s.pos = some (n, k)) : nS l lo hi s = ⟨bif decide (lo ≤ n) && decide (n ≤ hi) then s.pos + k else s.pos, !(decide (lo ≤ n) && decide (n ≤ hi))⟩ := by
  unfold nS
  rw [h]
  simp only [goS, hb, Bool.false_or]
  cases (decide (lo ≤ n) && decide (n ≤ hi)) <;> rfl
theorem num_fwd {l : List UInt8} {s : Rs} {r : List UInt8} {lo hi n : Int} (h : AtB l s (bB n ++ r)) (hn : I64 n) (h0 : lo ≤ n) (h1 : n ≤ hi) : nI l s = n ∧ AtB l (nS l lo hi s) r := by
  have hT : tInt l s.pos = some (n, (bB n).length) := by
    rw [atB_tInt h]
    exact (takeI_iff _ _ _).2 ⟨hn, ⟨r, rfl⟩, rfl⟩
  refine ⟨by unfold nI; rw [hT], ?_⟩
  rw [nS_go h.1 hT, decide_eq_true h0, decide_eq_true h1]
  exact h.behind
theorem num_bwd {l : List UInt8} {s : Rs} {r : List UInt8} {lo hi : Int} (h : AtB l s r) (hb : (nS l lo hi s).bad = false) : lo ≤ nI l s ∧ nI l s ≤ hi ∧ I64 (nI l s) ∧ ∃ r', r = bB (nI l s) ++ r' ∧ AtB l (nS l lo hi s) r' := by
  cases hT : tInt l s.pos with
  | none =>
    unfold nS at hb
    rw [hT] at hb
    simp only [goS, h.1] at hb
    cases hb
  | some q =>
    obtain ⟨n, k⟩ := q
    have e : nI l s = n := by unfold nI; rw [hT]
    rw [nS_go h.1 hT] at hb ⊢
    rw [e]
    have hT' := hT
    rw [atB_tInt h] at hT'
    obtain ⟨hn, ⟨r', hr⟩, hk⟩ := (takeI_iff _ _ _).1 hT'
    cases hd : (decide (lo ≤ n) && decide (n ≤ hi)) with
    | false => rw [hd] at hb; cases hb
    | true =>
      have hd2 := hd
      simp only [Bool.and_eq_true, decide_eq_true_eq] at hd2
      refine ⟨hd2.1, hd2.2, hn, r', hr.symm, ?_⟩
      rw [hk]
      exact (show AtB l s (bB n ++ r') from hr ▸ h).behind
theorem int_fwd {l : List UInt8} {s : Rs} {r : List UInt8} {n : Int} (h : AtB l s (bB n ++ r)) (hn : I64 n) : nI l s = n ∧ AtB l (iS l s) r := num_fwd h hn hn.1 hn.2
theorem int_bwd {l : List UInt8} {s : Rs} {r : List UInt8} (h : AtB l s r) (hb : (iS l s).bad = false) : I64 (nI l s) ∧ ∃ r', r = bB (nI l s) ++ r' ∧ AtB l (iS l s) r' := (num_bwd h hb).2.2
theorem text_fwd {l : List UInt8} {s : Rs} {t r : List UInt8} (h : AtB l s (tB t ++ r)) (ht : t.length ≤ 24) : tI l s = t ∧ AtB l (tS l s) r := by
  have h' : AtB l s (bB (t.length : Int) ++ (t ++ r)) := by unfold tB at h; rw [List.append_assoc] at h; exact h
  have hT : tInt l s.pos = some ((t.length : Int), (bB (t.length : Int)).length) := by
    rw [atB_tInt h']
    exact (takeI_iff _ _ _).2 ⟨⟨by omega, by omega⟩, ⟨t ++ r, rfl⟩, rfl⟩
  have hl := congrArg List.length h'.2.2.2
  rw [List.length_drop, List.length_append, List.length_append] at hl
  have h2 := h'.2.1
  have h3 := h'.2.2.1
  have hX : tText l s.pos 24 = some (t, (bB (t.length : Int)).length + t.length) := by
    unfold tText
    rw [hT]
    dsimp only
    rw [if_pos (by omega)]
    rw [← List.drop_drop, h'.2.2.2, List.drop_left, Int.toNat_natCast, List.take_left]
  refine ⟨by unfold tI; rw [hX], ?_⟩
  unfold tS
  rw [hX]
  simp only [goS, h.1, Bool.false_or, Bool.not_true, cond_false]
  have := h.behind
  rwa [show (tB t).length = (bB (t.length : Int)).length + t.length by unfold tB bB; rw [List.length_append]] at this
theorem text_bwd {l : List UInt8} {s : Rs} {r : List UInt8} (h : AtB l s r) (hb : (tS l s).bad = false) : ∃ r', r = tB (tI l s) ++ r' ∧ AtB l (tS l s) r' := by
  cases hX : tText l s.pos 24 with
  | none =>
    unfold tS at hb
    rw [hX] at hb
    simp only [goS, h.1] at hb
    cases hb
  | some q =>
    obtain ⟨t, m⟩ := q
    have e : tI l s = t := by unfold tI; rw [hX]
    have e2 : tS l s = ⟨s.pos + m, false⟩ := by unfold tS; rw [hX]; simp only [goS, h.1]; rfl
    rw [e, e2]
    unfold tText at hX
    cases hT : tInt l s.pos with
    | none => rw [hT] at hX; cases hX
    | some q2 =>
      obtain ⟨n, k⟩ := q2
      rw [hT] at hX
      dsimp only at hX
      split at hX
      · rename_i hc
        simp only [Option.some.injEq, Prod.mk.injEq] at hX
        obtain ⟨ht, hm⟩ := hX
        have hT' := hT
        rw [atB_tInt h] at hT'
        obtain ⟨hn, ⟨r1, hr⟩, hk⟩ := (takeI_iff _ _ _).1 hT'
        have hl := congrArg List.length h.2.2.2
        have hp := h.2.1
        have hp2 := h.2.2.1
        rw [List.length_drop] at hl
        have hr1 : l.drop (s.pos.toNat + k) = r1 := by rw [← List.drop_drop, h.2.2.2, ← hr, hk, List.drop_left]
        rw [hr1] at ht
        have hrl := congrArg List.length hr1
        rw [List.length_drop] at hrl
        have htl : t.length = n.toNat := by rw [← ht, List.length_take]; omega
        have htn : (t.length : Int) = n := by omega
        have er : r = tB t ++ r1.drop n.toNat := by
          unfold tB
          rw [htn, List.append_assoc, ← ht, List.take_append_drop]
          exact hr.symm
        refine ⟨r1.drop n.toNat, er, ?_⟩
        have := (show AtB l s (tB t ++ r1.drop n.toNat) from er ▸ h).behind
        rwa [show ((tB t).length : Int) = (m : Int) by unfold tB; rw [List.length_append, htn, ← hk]; omega] at this
      · cases hX
theorem wt_fwd {l : List UInt8} {s : Rs} {r : List UInt8} {x : Wk} (h : AtB l s (wB x ++ r)) (hx : I64 x.entry ∧ I64 x.day ∧ I64 x.first ∧ I64 x.second ∧ x.label.length ≤ 24) : wtQ l s = x ∧ AtB l (wtS l s) r := by
  unfold wB at h
  simp only [List.append_assoc] at h
  obtain ⟨e1, h⟩ := int_fwd h hx.1
  obtain ⟨e2, h⟩ := int_fwd h hx.2.1
  obtain ⟨e3, h⟩ := text_fwd h hx.2.2.2.2
  obtain ⟨e4, h⟩ := int_fwd h hx.2.2.1
  obtain ⟨e5, h⟩ := int_fwd h hx.2.2.2.1
  exact ⟨by unfold wtQ; rw [e1, e2, e3, e4, e5], h⟩
theorem xt_fwd {l : List UInt8} {s : Rs} {r : List UInt8} {x : Ik} (h : AtB l s (xB x ++ r)) (hx : I64 x.op ∧ I64 x.a ∧ I64 x.b ∧ I64 x.c ∧ I64 x.n ∧ I64 x.to ∧ x.s.length ≤ 24) : xtQ l s = x ∧ AtB l (xtS l s) r := by
  unfold xB at h
  simp only [List.append_assoc] at h
  obtain ⟨e1, h⟩ := int_fwd h hx.1
  obtain ⟨e2, h⟩ := int_fwd h hx.2.1
  obtain ⟨e3, h⟩ := int_fwd h hx.2.2.1
  obtain ⟨e4, h⟩ := int_fwd h hx.2.2.2.1
  obtain ⟨e5, h⟩ := int_fwd h hx.2.2.2.2.1
  obtain ⟨e6, h⟩ := text_fwd h hx.2.2.2.2.2.2
  obtain ⟨e7, h⟩ := int_fwd h hx.2.2.2.2.2.1
  exact ⟨by unfold xtQ; rw [e1, e2, e3, e4, e5, e6, e7], h⟩
theorem wt_bwd {l : List UInt8} {s : Rs} {r : List UInt8} (h : AtB l s r) (hb : (wtS l s).bad = false) : ∃ r', r = wB (wtQ l s) ++ r' ∧ AtB l (wtS l s) r' := by
  unfold wtS at hb
  have b4 := (int_ok hb).1
  have b3 := (int_ok b4).1
  have b2 := (text_ok b3).1
  have b1 := (int_ok b2).1
  obtain ⟨-, r1, e1, h1⟩ := int_bwd h b1
  obtain ⟨-, r2, e2, h2⟩ := int_bwd h1 b2
  obtain ⟨r3, e3, h3⟩ := text_bwd h2 b3
  obtain ⟨-, r4, e4, h4⟩ := int_bwd h3 b4
  obtain ⟨-, r5, e5, h5⟩ := int_bwd h4 hb
  refine ⟨r5, ?_, h5⟩
  rw [e1, e2, e3, e4, e5]
  unfold wB wtQ
  simp only [List.append_assoc]
theorem xt_bwd {l : List UInt8} {s : Rs} {r : List UInt8} (h : AtB l s r) (hb : (xtS l s).bad = false) : ∃ r', r = xB (xtQ l s) ++ r' ∧ AtB l (xtS l s) r' := by
  unfold xtS at hb
  have b6 := (int_ok hb).1
  have b5 := (text_ok b6).1
  have b4 := (int_ok b5).1
  have b3 := (int_ok b4).1
  have b2 := (int_ok b3).1
  have b1 := (int_ok b2).1
  obtain ⟨-, r1, e1, h1⟩ := int_bwd h b1
  obtain ⟨-, r2, e2, h2⟩ := int_bwd h1 b2
  obtain ⟨-, r3, e3, h3⟩ := int_bwd h2 b3
  obtain ⟨-, r4, e4, h4⟩ := int_bwd h3 b4
  obtain ⟨-, r5, e5, h5⟩ := int_bwd h4 b5
  obtain ⟨r6, e6, h6⟩ := text_bwd h5 b6
  obtain ⟨-, r7, e7, h7⟩ := int_bwd h6 hb
  refine ⟨r7, ?_, h7⟩
  rw [e1, e2, e3, e4, e5, e6, e7]
  unfold xB xtQ
  simp only [List.append_assoc]
theorem wRun_fwd {l : List UInt8} : ∀ {xs ys : List Wk} {s : Rs} {r : List UInt8}, AtB l s (xs.flatMap wB ++ r) → (∀ x ∈ xs, I64 x.entry ∧ I64 x.day ∧ I64 x.first ∧ I64 x.second ∧ x.label.length ≤ 24) → (wRun l xs.length s ys).1 = ys ++ xs ∧ AtB l (wRun l xs.length s ys).2 r
  | [], ys, s, r, h, _ => ⟨by simp [wRun], by simpa [wRun] using h⟩
  | x :: xs, ys, s, r, h, hx => by
    rw [List.flatMap_cons, List.append_assoc] at h
    obtain ⟨e, h2⟩ := wt_fwd h (hx x List.mem_cons_self)
    rw [List.length_cons, wRun_step h.1, e]
    obtain ⟨a, b⟩ := wRun_fwd (ys := ys ++ [x]) h2 fun y hy => hx y (List.mem_cons_of_mem _ hy)
    exact ⟨by rw [a]; simp, b⟩
theorem xRun_fwd {l : List UInt8} : ∀ {xs ys : List Ik} {s : Rs} {r : List UInt8}, AtB l s (xs.flatMap xB ++ r) → (∀ x ∈ xs, I64 x.op ∧ I64 x.a ∧ I64 x.b ∧ I64 x.c ∧ I64 x.n ∧ I64 x.to ∧ x.s.length ≤ 24) → (xRun l xs.length s ys).1 = ys ++ xs ∧ AtB l (xRun l xs.length s ys).2 r
  | [], ys, s, r, h, _ => ⟨by simp [xRun], by simpa [xRun] using h⟩
  | x :: xs, ys, s, r, h, hx => by
    rw [List.flatMap_cons, List.append_assoc] at h
    obtain ⟨e, h2⟩ := xt_fwd h (hx x List.mem_cons_self)
    rw [List.length_cons, xRun_step h.1, e]
    obtain ⟨a, b⟩ := xRun_fwd (ys := ys ++ [x]) h2 fun y hy => hx y (List.mem_cons_of_mem _ hy)
    exact ⟨by rw [a]; simp, b⟩
theorem wRun_bwd {l : List UInt8} : ∀ {n : Nat} {ys : List Wk} {s : Rs} {r : List UInt8}, AtB l s r → (wRun l n s ys).2.bad = false → ∃ zs r', zs.length = n ∧ (wRun l n s ys).1 = ys ++ zs ∧ r = zs.flatMap wB ++ r' ∧ AtB l (wRun l n s ys).2 r'
  | 0, ys, s, r, h, _ => ⟨[], r, rfl, by simp [wRun], by simp, by simpa [wRun] using h⟩
  | n + 1, ys, s, r, h, hb => by
    rw [wRun_step h.1] at hb ⊢
    obtain ⟨r1, rfl, h1⟩ := wt_bwd h (wRun_nb hb)
    obtain ⟨zs, r', e1, e2, rfl, h2⟩ := wRun_bwd h1 hb
    exact ⟨wtQ l s :: zs, r', by rw [List.length_cons, e1], by rw [e2]; simp, by rw [List.flatMap_cons, List.append_assoc], h2⟩
theorem xRun_bwd {l : List UInt8} : ∀ {n : Nat} {ys : List Ik} {s : Rs} {r : List UInt8}, AtB l s r → (xRun l n s ys).2.bad = false → ∃ zs r', zs.length = n ∧ (xRun l n s ys).1 = ys ++ zs ∧ r = zs.flatMap xB ++ r' ∧ AtB l (xRun l n s ys).2 r'
  | 0, ys, s, r, h, _ => ⟨[], r, rfl, by simp [xRun], by simp, by simpa [xRun] using h⟩
  | n + 1, ys, s, r, h, hb => by
    rw [xRun_step h.1] at hb ⊢
    obtain ⟨r1, rfl, h1⟩ := xt_bwd h (xRun_nb hb)
    obtain ⟨zs, r', e1, e2, rfl, h2⟩ := xRun_bwd h1 hb
    exact ⟨xtQ l s :: zs, r', by rw [List.length_cons, e1], by rw [e2]; simp, by rw [List.flatMap_cons, List.append_assoc], h2⟩
theorem atB_0 (l : List UInt8) : AtB l ⟨0, false⟩ l := ⟨rfl, Int.le_refl _, by show (0 : Int) ≤ _; omega, rfl⟩
/-- What is written is read as it was. -/
theorem enc_dec {k : Kd} (hf : k.Fit) : cdG (encB k) ⟨0, false⟩ = k ∧ (cdE (encB k)).bad = false ∧ (cdE (encB k)).pos = (encB k).length := by
  obtain ⟨L, hL⟩ : ∃ L, encB k = L := ⟨_, rfl⟩
  have h := atB_0 L
  rw [hL]
  have hw := hf.wn
  have hx := hf.xn
  have h' : AtB L ⟨0, false⟩ (bB k.regs ++ (bB (k.waits.length : Int) ++ (k.waits.flatMap wB ++ (bB (k.ins.length : Int) ++ (k.ins.flatMap xB ++ []))))) := by
    have e : L = bB k.regs ++ (bB (k.waits.length : Int) ++ (k.waits.flatMap wB ++ (bB (k.ins.length : Int) ++ (k.ins.flatMap xB ++ [])))) := by rw [← hL]; unfold encB hdB; simp only [List.append_assoc, List.append_nil]
    exact e ▸ h
  obtain ⟨e1, h1⟩ := int_fwd h' hf.regs
  obtain ⟨e2, h2⟩ := num_fwd (lo := 0) (hi := 250) h1 ⟨by omega, by omega⟩ (by omega) (by omega)
  obtain ⟨e3, h3⟩ := wRun_fwd (ys := []) h2 hf.waits
  have eW : cdW L ⟨0, false⟩ = wRun L k.waits.length (nS L 0 250 (iS L ⟨0, false⟩)) [] := by unfold cdW; rw [e2, Int.toNat_natCast]
  rw [← eW] at e3 h3
  obtain ⟨e4, h4⟩ := num_fwd (lo := 0) (hi := 16384) h3 ⟨by omega, by omega⟩ (by omega) (by omega)
  obtain ⟨e5, h5⟩ := xRun_fwd (ys := []) h4 hf.ins
  have eX : cdX L ⟨0, false⟩ = xRun L k.ins.length (nS L 0 16384 (cdW L ⟨0, false⟩).2) [] := by unfold cdX; rw [e4, Int.toNat_natCast]
  rw [← eX] at e5 h5
  refine ⟨?_, h5.1, ?_⟩
  · unfold cdG
    rw [e1, e3, e5]
    simp
  · have hd := congrArg List.length h5.2.2.2
    rw [List.length_drop] at hd
    have a := h5.2.1
    have b := h5.2.2.1
    show (cdX L ⟨0, false⟩).2.pos = _
    simp at hd
    omega
/-- What is read has just these bytes. -/
theorem dec_enc {l : List UInt8} (hb : (cdE l).bad = false) (he : ¬ (cdE l).pos < l.length) : encB (cdG l ⟨0, false⟩) = l := by
  unfold cdE at hb he
  have h1 : (nS l 0 16384 (cdW l ⟨0, false⟩).2).bad = false := xRun_nb (by unfold cdX at hb; exact hb)
  obtain ⟨h2, -⟩ := count_ok h1
  have h3 : (nS l 0 250 (iS l ⟨0, false⟩)).bad = false := wRun_nb (by unfold cdW at h2; exact h2)
  obtain ⟨h4, -⟩ := count_ok h3
  obtain ⟨-, r1, e1, a1⟩ := int_bwd (atB_0 l) h4
  obtain ⟨c0, -, -, r2, e2, a2⟩ := num_bwd a1 h3
  obtain ⟨zs, r3, n3, g3, e3, a3⟩ := wRun_bwd (ys := []) (n := (nI l (iS l ⟨0, false⟩)).toNat) a2 (by unfold cdW at h2; exact h2)
  have a3' : AtB l (cdW l ⟨0, false⟩).2 r3 := a3
  have g3' : (cdW l ⟨0, false⟩).1 = zs := by rw [List.nil_append] at g3; exact g3
  obtain ⟨d0, -, -, r4, e4, a4⟩ := num_bwd a3' h1
  obtain ⟨ws, r5, n5, g5, e5, a5⟩ := xRun_bwd (ys := []) (n := (nI l (cdW l ⟨0, false⟩).2).toNat) a4 (by unfold cdX at hb; exact hb)
  have a5' : AtB l (cdX l ⟨0, false⟩).2 r5 := a5
  have g5' : (cdX l ⟨0, false⟩).1 = ws := by rw [List.nil_append] at g5; exact g5
  have hr5 : r5 = [] := by
    have := congrArg List.length a5'.2.2.2
    rw [List.length_drop] at this
    have p := a5'.2.1
    exact List.eq_nil_of_length_eq_zero (by omega)
  unfold encB hdB cdG
  simp only
  rw [g3', g5', n3, n5, show (((nI l (iS l ⟨0, false⟩)).toNat : Nat) : Int) = nI l (iS l ⟨0, false⟩) by omega, show (((nI l (cdW l ⟨0, false⟩).2).toNat : Nat) : Int) = nI l (cdW l ⟨0, false⟩).2 by omega]
  conv => rhs; rw [e1, e2, e3, e4, e5, hr5]
  simp only [List.append_assoc, List.append_nil]
end Go.Proofs.YtddbiiejilcbbaaGreatDoor
namespace Go.Proofs.YtddbiiejilcbbaaGreatDoor
open Go Go.RowKit

theorem WrI.bel {n0 g : Nat} {w w' : World} {v1 : Value} {l : List UInt8} (h : WrI n0 g w (.slice none 0 0) v1 l w') (hg : w.heap.size ≤ g) : Below w.heap.size w w' := h.1.toB fun x hx => by
  have : x = g := by simpa [OoW, Value.ownBlock] using hx
  omega
noncomputable def peK : List TI := (rn Tryz.prog [0] [1] (put0 (rn Tryz.prog [0] [0] (st0 Tryz.f11 #[cdV 0 none 0 0 none 0 0] [])).st (.bool true))).st.todo
section
variable {w : World} {rg : Int} {aW aI : Option Addr} {nW cW nI cI : Nat}
set_option maxHeartbeats 2000000 in
set_option maxRecDepth 100000 in
seal rn rnN rnS Goes ans atEnd put0 put putM opened openedY putA0 putA oneSt st0 keep mkSt newSt peK in
theorem penc_rest {k : Kd} (hM : CdM w aW nW cW aI nI cI k) (hrg : k.regs = rg) (hF : k.Fit) {g1 g4 : Nat} (hg1 : w.heap.size ≤ g1) (hg4 : w.heap.size ≤ g4) (J0 : Nat → Value) :
    Goes Tryz.prog (bodyPost Tryz.prog Tryz.f11 (fun e w' => (bif true then ∃ v, e = .returned (.tuple #[v, .int .i64 0]) ∧ By w.heap.size w' v (encB k) else e = .returned (.tuple #[.slice none 0 0, .int .i64 170])) ∧ Below w.heap.size w w')) (WrI w.heap.size g4 w (.slice none 0 0) (.slice none 0 0) []) ⟨peK, fr 77 [(1, .pointer (some ⟨g1, 0, none⟩)), (4, .pointer (some ⟨g4, 0, none⟩)), (12, .pointer (some ⟨g1, 0, none⟩))] J0, [(g4, wO (.slice none 0 0)), (g1, .cells #[.int .i64 rg, .slice aW nW cW, .slice aI nI cI] 27 (0, 0))]⟩ := by
  have hi0 := hM.li
  have hw0 := hM.lw
  have hnW := hF.wn
  have hnI := hF.xn
  rw [hw0] at hnW
  rw [hi0] at hnI
  have hrg0 : I64 rg := hrg ▸ hF.regs
  have hnW0 : I64 (nW : Int) := ⟨by omega, by omega⟩
  have hnI0 : I64 (nI : Int) := ⟨by omega, by omega⟩
  refine Goes.run [1, 1] [] trivial ?_
  refine Goes.new1 w.heap.size (fun w' h => h.1.size) fun g17 hg17 => ?_
  refine Goes.run [] [] trivial ?_
  refine Goes.callWQ (g := g4) 27 #[.pointer (some ⟨g4, 0, none⟩), .slice (some ⟨g17, 0, none⟩) 2 2] (.tuple #[]) ([] ++ bL [rg, (nW : Int)]) [(g1, .cells #[.int .i64 rg, .slice aW nW cW, .slice aI nI cI] 27 (0, 0)), (g17, .cells #[.int .i64 rg, .int .i64 (nW : Int)] 3 (0, 0))] (fun q hq => by
          simp only [List.mem_cons, List.not_mem_nil, or_false] at hq
          rcases hq with rfl | rfl
          · exact ⟨hg1, _, _, _, rfl, by decide, by decide⟩
          · exact ⟨hg17, _, _, _, rfl, by decide, by decide⟩) (fun w1 hm1 hI1 => wints_any (ns := [rg, (nW : Int)]) rfl (by omega) hI1.2.1 (hm1.get 0) hI1.1.size (by intro n hn; simp only [List.mem_cons, List.not_mem_nil, or_false] at hn; rcases hn with rfl | rfl <;> first | exact hrg0 | exact hnW0) (hm1.get 2) (by simp)) fun v0 => ?_
  refine Goes.inv (Inv' := WrI w.heap.size g4 w (.slice none 0 0) v0 (hdB k)) (fun w' h => by
    have e : hdB k = [] ++ bL [rg, (nW : Int)] := by unfold hdB bL; rw [hrg, hw0]; simp
    rw [e]; exact h) ?_
  refine Goes.run [1] [] trivial ?_
  refine Goes.keep 2 ?_
  refine Goes.loop (α := Value × Nat) 77 (fun a => [(1, .pointer (some ⟨g1, 0, none⟩)), (4, .pointer (some ⟨g4, 0, none⟩)), (20, .slice aW nW cW), (21, .int .i64 nW), (22, .int .i64 a.2)]) (fun a => [(g4, wO a.1), (g1, .cells #[.int .i64 rg, .slice aW nW cW, .slice aI nI cI] 27 (0, 0))]) (fun a w' => WrI w.heap.size g4 w (.slice none 0 0) a.1 (preW k a.2) w') (fun a => a.2 ≤ nW) (fun a => nW - a.2) (v0, 0) (Nat.zero_le _) (fun w' h => by simpa [preW] using h) ?_
  rintro ⟨v, j⟩ J hj2 back
  replace hj2 : j ≤ nW := hj2
  show Goes _ _ (WrI w.heap.size g4 w (.slice none 0 0) v (preW k j)) ⟨_, fr 77 [(1, .pointer (some ⟨g1, 0, none⟩)), (4, .pointer (some ⟨g4, 0, none⟩)), (20, .slice aW nW cW), (21, .int .i64 nW), (22, .int .i64 j)] J, [(g4, wO v), (g1, .cells #[.int .i64 rg, .slice aW nW cW, .slice aI nI cI] 27 (0, 0))]⟩
  have hpl := preW_len hF j
  cases hlt : decide ((j : Int) < (nW : Int)) with
  | true =>
    have hjl : j < nW := by have := of_decide_eq_true hlt; omega
    obtain ⟨x, hx⟩ : ∃ x, k.waits[j]? = some x := ⟨k.waits[j]'(by rw [hw0]; exact hjl), by simp⟩
    obtain ⟨hlab, bW, oW, haW, hbW, hcx⟩ := hM.waits j x hx
    obtain ⟨i1, i2, i3, i4, i5⟩ := hF.waits x (List.mem_of_getElem? hx)
    have a1 := bB_len i1
    have a2 := bB_len i2
    have a5 := tB_len i5
    have c1 : (bL [x.entry, x.day]).length ≤ 20 := by unfold bL; simp only [List.flatMap_cons, List.flatMap_nil, List.length_append, List.length_nil]; omega
    refine Goes.run [0, 1] [(decide ((j : Int) < (nW : Int)), true)] ⟨hlt, trivial⟩ ?_
    refine Goes.val (Instr.indexAt 24 (.slice aW nW cW) (.int .i64 j)) (.pointer (some ⟨bW, oW + j * 5, none⟩)) (fun w' _ _ => by rw [haW]; exact idxWk bW oW nW cW j hjl w') ?_
    refine Goes.val (Instr.loadAt 70 (.pointer (some ⟨bW, oW + j * 5, none⟩))) (wV x) (fun w' hm hI => loadW (hcx.below hbW (hI.now.bel hg4))) ?_
    refine Goes.new1 w.heap.size (fun w' h => h.1.size) fun g6 hg6 => ?_
    refine Goes.run [2, 2, 2] [] trivial ?_
    refine Goes.new1 w.heap.size (fun w' h => h.1.size) fun g30 hg30 => ?_
    refine Goes.run [] [] trivial ?_
    refine Goes.callWQ (g := g4) 27 #[.pointer (some ⟨g4, 0, none⟩), .slice (some ⟨g30, 0, none⟩) 2 2] (.tuple #[]) (preW k j ++ bL [x.entry, x.day]) [(g1, .cells #[.int .i64 rg, .slice aW nW cW, .slice aI nI cI] 27 (0, 0)), (g6, .cells #[.int .i64 x.entry, .int .i64 x.day, strV x.label, .int .i64 x.first, .int .i64 x.second] 70 (0, 0)), (g30, .cells #[.int .i64 x.entry, .int .i64 x.day] 3 (0, 0))] (fun q hq => by
          simp only [List.mem_cons, List.not_mem_nil, or_false] at hq
          rcases hq with rfl | rfl | rfl
          · exact ⟨hg1, _, _, _, rfl, by decide, by decide⟩
          · exact ⟨hg6, _, _, _, rfl, by decide, by decide⟩
          · exact ⟨hg30, _, _, _, rfl, by decide, by decide⟩) (fun w1 hm1 hI1 => wints_any (ns := [x.entry, x.day]) rfl (by omega) hI1.2.1 (hm1.get 0) hI1.1.size (by intro n hn; simp only [List.mem_cons, List.not_mem_nil, or_false] at hn; rcases hn with rfl | rfl <;> first | exact i1 | exact i2) (hm1.get 3) (by omega)) fun v2 => ?_
    refine Goes.run [2] [] trivial ?_
    refine Goes.callWQ (g := g4) 28 #[.pointer (some ⟨g4, 0, none⟩), strV x.label] (.tuple #[]) (preW k j ++ bL [x.entry, x.day] ++ tB x.label) [(g1, .cells #[.int .i64 rg, .slice aW nW cW, .slice aI nI cI] 27 (0, 0)), (g6, .cells #[.int .i64 x.entry, .int .i64 x.day, strV x.label, .int .i64 x.first, .int .i64 x.second] 70 (0, 0)), (g30, .cells #[.int .i64 x.entry, .int .i64 x.day] 3 (0, 0))] (fun q hq => by
          simp only [List.mem_cons, List.not_mem_nil, or_false] at hq
          rcases hq with rfl | rfl | rfl
          · exact ⟨hg1, _, _, _, rfl, by decide, by decide⟩
          · exact ⟨hg6, _, _, _, rfl, by decide, by decide⟩
          · exact ⟨hg30, _, _, _, rfl, by decide, by decide⟩) (fun w1 hm1 hI1 => wtext_any hI1.2.1 (hm1.get 0) hI1.1.size (by omega) (by (try simp only [List.length_append]); omega)) fun v3 => ?_
    refine Goes.run [2, 2] [] trivial ?_
    refine Goes.new1 w.heap.size (fun w' h => h.1.size) fun g39 hg39 => ?_
    refine Goes.run [] [] trivial ?_
    refine Goes.callWQ (g := g4) 27 #[.pointer (some ⟨g4, 0, none⟩), .slice (some ⟨g39, 0, none⟩) 2 2] (.tuple #[]) (preW k j ++ bL [x.entry, x.day] ++ tB x.label ++ bL [x.first, x.second]) [(g1, .cells #[.int .i64 rg, .slice aW nW cW, .slice aI nI cI] 27 (0, 0)), (g6, .cells #[.int .i64 x.entry, .int .i64 x.day, strV x.label, .int .i64 x.first, .int .i64 x.second] 70 (0, 0)), (g30, .cells #[.int .i64 x.entry, .int .i64 x.day] 3 (0, 0)), (g39, .cells #[.int .i64 x.first, .int .i64 x.second] 3 (0, 0))] (fun q hq => by
          simp only [List.mem_cons, List.not_mem_nil, or_false] at hq
          rcases hq with rfl | rfl | rfl | rfl
          · exact ⟨hg1, _, _, _, rfl, by decide, by decide⟩
          · exact ⟨hg6, _, _, _, rfl, by decide, by decide⟩
          · exact ⟨hg30, _, _, _, rfl, by decide, by decide⟩
          · exact ⟨hg39, _, _, _, rfl, by decide, by decide⟩) (fun w1 hm1 hI1 => wints_any (ns := [x.first, x.second]) rfl (by omega) hI1.2.1 (hm1.get 0) hI1.1.size (by intro n hn; simp only [List.mem_cons, List.not_mem_nil, or_false] at hn; rcases hn with rfl | rfl <;> first | exact i3 | exact i4) (hm1.get 4) (by (try simp only [List.length_append]); omega)) fun v4 => ?_
    refine Goes.run [] [] trivial ?_
    refine Goes.keep 2 ?_
    refine Goes.slot 22 (.int .i64 (j + 1 : Nat)) (u := .int .i64 (IntKind.i64.wrap ((j : Int) + 1))) (congrArg _ (wrap_nat (by omega))) ?_
    refine Goes.inv (Inv' := WrI w.heap.size g4 w (.slice none 0 0) v4 (preW k (j + 1))) (fun w' h => by
      have e : preW k (j + 1) = preW k j ++ bL [x.entry, x.day] ++ tB x.label ++ bL [x.first, x.second] := by
        unfold preW
        rw [take_snoc hx]
        unfold wB bL
        simp only [List.append_assoc, List.flatMap_cons, List.flatMap_nil, List.append_nil]
      rw [e]
      exact h) ?_
    exact back (v4, j + 1) _ (by show j + 1 ≤ nW; omega) (by show nW - (j + 1) < nW - j; omega) (by kernel_rfl) (by kernel_rfl) (by kernel_rfl)
  | false =>
    have hjN : j = nW := by have := of_decide_eq_false hlt; omega
    have e0 : preX k 0 = preW k j ++ bL [(nI : Int)] := by
      unfold preX preW bL
      rw [hjN, List.take_of_length_le (l := k.waits) (by omega), hi0]
      simp
    refine Goes.run [0, 0, 1] [(decide ((j : Int) < (nW : Int)), false)] ⟨hlt, trivial⟩ ?_
    refine Goes.new1 w.heap.size (fun w' h => h.1.size) fun g45 hg45 => ?_
    refine Goes.run [] [] trivial ?_
    refine Goes.callWQ (g := g4) 27 #[.pointer (some ⟨g4, 0, none⟩), .slice (some ⟨g45, 0, none⟩) 1 1] (.tuple #[]) (preW k j ++ bL [(nI : Int)]) [(g1, .cells #[.int .i64 rg, .slice aW nW cW, .slice aI nI cI] 27 (0, 0)), (g45, .cells #[.int .i64 (nI : Int)] 3 (0, 0))] (fun q hq => by
          simp only [List.mem_cons, List.not_mem_nil, or_false] at hq
          rcases hq with rfl | rfl
          · exact ⟨hg1, _, _, _, rfl, by decide, by decide⟩
          · exact ⟨hg45, _, _, _, rfl, by decide, by decide⟩) (fun w1 hm1 hI1 => wints_any (ns := [(nI : Int)]) rfl (by omega) hI1.2.1 (hm1.get 0) hI1.1.size (by intro n hn; simp only [List.mem_cons, List.not_mem_nil, or_false] at hn; rcases hn with rfl <;> first | exact hnI0) (hm1.get 2) (by omega)) fun v1 => ?_
    refine Goes.inv (Inv' := WrI w.heap.size g4 w (.slice none 0 0) v1 (preX k 0)) (fun w' h => by rw [e0]; exact h) ?_
    refine Goes.run [1] [] trivial ?_
    refine Goes.keep 2 ?_
    clear back hpl
    refine Goes.loop (α := Value × Nat) 77 (fun a => [(1, .pointer (some ⟨g1, 0, none⟩)), (4, .pointer (some ⟨g4, 0, none⟩)), (48, .slice aI nI cI), (49, .int .i64 nI), (50, .int .i64 a.2)]) (fun a => [(g4, wO a.1), (g1, .cells #[.int .i64 rg, .slice aW nW cW, .slice aI nI cI] 27 (0, 0))]) (fun a w' => WrI w.heap.size g4 w (.slice none 0 0) a.1 (preX k a.2) w') (fun a => a.2 ≤ nI) (fun a => nI - a.2) (v1, 0) (Nat.zero_le _) (fun w' h => h) ?_
    rintro ⟨v, i⟩ J2 hi2 back
    replace hi2 : i ≤ nI := hi2
    show Goes _ _ (WrI w.heap.size g4 w (.slice none 0 0) v (preX k i)) ⟨_, fr 77 [(1, .pointer (some ⟨g1, 0, none⟩)), (4, .pointer (some ⟨g4, 0, none⟩)), (48, .slice aI nI cI), (49, .int .i64 nI), (50, .int .i64 i)] J2, [(g4, wO v), (g1, .cells #[.int .i64 rg, .slice aW nW cW, .slice aI nI cI] 27 (0, 0))]⟩
    have hpl := preX_len hF i
    cases hlt2 : decide ((i : Int) < (nI : Int)) with
    | false =>
      have hiN : i = nI := by have := of_decide_eq_false hlt2; omega
      have ee : preX k i = encB k := by unfold preX encB; rw [hiN, List.take_of_length_le (l := k.ins) (by omega)]
      rw [ee]
      refine Goes.run [0, 0, 0] [(decide ((i : Int) < (nI : Int)), false)] ⟨hlt2, trivial⟩ ?_
      exact Goes.ret [] (.tuple #[v, .int .i64 0]) fun w' hm hI => ⟨⟨v, rfl, hI.now.2.1⟩, hI.now.bel hg4⟩
    | true =>
      have hil : i < nI := by have := of_decide_eq_true hlt2; omega
      obtain ⟨x, hx⟩ : ∃ x, k.ins[i]? = some x := ⟨k.ins[i]'(by rw [hi0]; exact hil), by simp⟩
      obtain ⟨-, bI, oI, haI, hbI, hcx⟩ := hM.ins i x hx
      obtain ⟨i1, i2, i3, i4, i5, i6, i7⟩ := hF.ins x (List.mem_of_getElem? hx)
      have a1 := bB_len i1
      have a2 := bB_len i2
      have a3 := bB_len i3
      have a4 := bB_len i4
      have a5 := bB_len i5
      have a6 := bB_len i6
      have a7 := tB_len i7
      have c1 : (bL [x.op, x.a, x.b, x.c]).length ≤ 40 := by unfold bL; simp only [List.flatMap_cons, List.flatMap_nil, List.length_append, List.length_nil]; omega
      refine Goes.run [0, 1] [(decide ((i : Int) < (nI : Int)), true)] ⟨hlt2, trivial⟩ ?_
      refine Goes.val (Instr.indexAt 25 (.slice aI nI cI) (.int .i64 i)) (.pointer (some ⟨bI, oI + i * 7, none⟩)) (fun w' _ _ => by rw [haI]; exact idxIk bI oI nI cI i hil w') ?_
      refine Goes.val (Instr.loadAt 72 (.pointer (some ⟨bI, oI + i * 7, none⟩))) (iV x) (fun w' hm hI => loadI (hcx.below hbI (hI.now.bel hg4))) ?_
      refine Goes.new1 w.heap.size (fun w' h => h.1.size) fun g8 hg8 => ?_
      refine Goes.run [2, 2, 2, 2, 2] [] trivial ?_
      refine Goes.new1 w.heap.size (fun w' h => h.1.size) fun g62 hg62 => ?_
      refine Goes.run [] [] trivial ?_
      refine Goes.callWQ (g := g4) 27 #[.pointer (some ⟨g4, 0, none⟩), .slice (some ⟨g62, 0, none⟩) 4 4] (.tuple #[]) (preX k i ++ bL [x.op, x.a, x.b, x.c]) [(g1, .cells #[.int .i64 rg, .slice aW nW cW, .slice aI nI cI] 27 (0, 0)), (g8, .cells #[.int .i64 x.op, .int .i64 x.a, .int .i64 x.b, .int .i64 x.c, .int .i64 x.n, strV x.s, .int .i64 x.to] 72 (0, 0)), (g62, .cells #[.int .i64 x.op, .int .i64 x.a, .int .i64 x.b, .int .i64 x.c] 3 (0, 0))] (fun q hq => by
          simp only [List.mem_cons, List.not_mem_nil, or_false] at hq
          rcases hq with rfl | rfl | rfl
          · exact ⟨hg1, _, _, _, rfl, by decide, by decide⟩
          · exact ⟨hg8, _, _, _, rfl, by decide, by decide⟩
          · exact ⟨hg62, _, _, _, rfl, by decide, by decide⟩) (fun w1 hm1 hI1 => wints_any (ns := [x.op, x.a, x.b, x.c]) rfl (by omega) hI1.2.1 (hm1.get 0) hI1.1.size (by intro n hn; simp only [List.mem_cons, List.not_mem_nil, or_false] at hn; rcases hn with rfl | rfl | rfl | rfl <;> first | exact i1 | exact i2 | exact i3 | exact i4) (hm1.get 3) (by omega)) fun v2 => ?_
      refine Goes.run [2] [] trivial ?_
      refine Goes.callWQ (g := g4) 29 #[.pointer (some ⟨g4, 0, none⟩), .int .i64 x.n] (.tuple #[]) (preX k i ++ bL [x.op, x.a, x.b, x.c] ++ bB x.n) [(g1, .cells #[.int .i64 rg, .slice aW nW cW, .slice aI nI cI] 27 (0, 0)), (g8, .cells #[.int .i64 x.op, .int .i64 x.a, .int .i64 x.b, .int .i64 x.c, .int .i64 x.n, strV x.s, .int .i64 x.to] 72 (0, 0)), (g62, .cells #[.int .i64 x.op, .int .i64 x.a, .int .i64 x.b, .int .i64 x.c] 3 (0, 0))] (fun q hq => by
          simp only [List.mem_cons, List.not_mem_nil, or_false] at hq
          rcases hq with rfl | rfl | rfl
          · exact ⟨hg1, _, _, _, rfl, by decide, by decide⟩
          · exact ⟨hg8, _, _, _, rfl, by decide, by decide⟩
          · exact ⟨hg62, _, _, _, rfl, by decide, by decide⟩) (fun w1 hm1 hI1 => wnumber_any hI1.2.1 (hm1.get 0) hI1.1.size i5 (by (try simp only [List.length_append]); omega)) fun v3 => ?_
      refine Goes.run [2] [] trivial ?_
      refine Goes.callWQ (g := g4) 28 #[.pointer (some ⟨g4, 0, none⟩), strV x.s] (.tuple #[]) (preX k i ++ bL [x.op, x.a, x.b, x.c] ++ bB x.n ++ tB x.s) [(g1, .cells #[.int .i64 rg, .slice aW nW cW, .slice aI nI cI] 27 (0, 0)), (g8, .cells #[.int .i64 x.op, .int .i64 x.a, .int .i64 x.b, .int .i64 x.c, .int .i64 x.n, strV x.s, .int .i64 x.to] 72 (0, 0)), (g62, .cells #[.int .i64 x.op, .int .i64 x.a, .int .i64 x.b, .int .i64 x.c] 3 (0, 0))] (fun q hq => by
          simp only [List.mem_cons, List.not_mem_nil, or_false] at hq
          rcases hq with rfl | rfl | rfl
          · exact ⟨hg1, _, _, _, rfl, by decide, by decide⟩
          · exact ⟨hg8, _, _, _, rfl, by decide, by decide⟩
          · exact ⟨hg62, _, _, _, rfl, by decide, by decide⟩) (fun w1 hm1 hI1 => wtext_any hI1.2.1 (hm1.get 0) hI1.1.size (by omega) (by (try simp only [List.length_append]); omega)) fun v4 => ?_
      refine Goes.run [2] [] trivial ?_
      refine Goes.new1 w.heap.size (fun w' h => h.1.size) fun g72 hg72 => ?_
      refine Goes.run [] [] trivial ?_
      refine Goes.callWQ (g := g4) 27 #[.pointer (some ⟨g4, 0, none⟩), .slice (some ⟨g72, 0, none⟩) 1 1] (.tuple #[]) (preX k i ++ bL [x.op, x.a, x.b, x.c] ++ bB x.n ++ tB x.s ++ bL [x.to]) [(g1, .cells #[.int .i64 rg, .slice aW nW cW, .slice aI nI cI] 27 (0, 0)), (g8, .cells #[.int .i64 x.op, .int .i64 x.a, .int .i64 x.b, .int .i64 x.c, .int .i64 x.n, strV x.s, .int .i64 x.to] 72 (0, 0)), (g62, .cells #[.int .i64 x.op, .int .i64 x.a, .int .i64 x.b, .int .i64 x.c] 3 (0, 0)), (g72, .cells #[.int .i64 x.to] 3 (0, 0))] (fun q hq => by
          simp only [List.mem_cons, List.not_mem_nil, or_false] at hq
          rcases hq with rfl | rfl | rfl | rfl
          · exact ⟨hg1, _, _, _, rfl, by decide, by decide⟩
          · exact ⟨hg8, _, _, _, rfl, by decide, by decide⟩
          · exact ⟨hg62, _, _, _, rfl, by decide, by decide⟩
          · exact ⟨hg72, _, _, _, rfl, by decide, by decide⟩) (fun w1 hm1 hI1 => wints_any (ns := [x.to]) rfl (by omega) hI1.2.1 (hm1.get 0) hI1.1.size (by intro n hn; simp only [List.mem_cons, List.not_mem_nil, or_false] at hn; rcases hn with rfl <;> first | exact i6) (hm1.get 4) (by (try simp only [List.length_append]); omega)) fun v5 => ?_
      refine Goes.run [] [] trivial ?_
      refine Goes.keep 2 ?_
      refine Goes.slot 50 (.int .i64 (i + 1 : Nat)) (u := .int .i64 (IntKind.i64.wrap ((i : Int) + 1))) (congrArg _ (wrap_nat (by omega))) ?_
      refine Goes.inv (Inv' := WrI w.heap.size g4 w (.slice none 0 0) v5 (preX k (i + 1))) (fun w' h => by
        have e : preX k (i + 1) = preX k i ++ bL [x.op, x.a, x.b, x.c] ++ bB x.n ++ tB x.s ++ bL [x.to] := by
          unfold preX
          rw [take_snoc hx]
          unfold xB bL
          simp only [List.append_assoc, List.flatMap_cons, List.flatMap_nil, List.append_nil]
        rw [e]
        exact h) ?_
      exact back (v5, i + 1) _ (by show i + 1 ≤ nI; omega) (by show nI - (i + 1) < nI - i; omega) (by kernel_rfl) (by kernel_rfl) (by kernel_rfl)
set_option maxHeartbeats 2000000 in
set_option maxRecDepth 100000 in
seal rn rnN rnS Goes ans atEnd put0 put putM opened openedY putA0 putA oneSt st0 keep mkSt newSt peK in
theorem penc_any {k : Kd} (hU : TabU w) (hM : CdM w aW nW cW aI nI cI k) (hrg : k.regs = rg) (hwf : k.wf) (hF : rightQ k = true → k.Fit) : Calls Tryz.prog 11 #[cdV rg aW nW cW aI nI cI] w fun e w' => (bif rightQ k then ∃ v, e = .returned (.tuple #[v, .int .i64 0]) ∧ By w.heap.size w' v (encB k) else e = .returned (.tuple #[.slice none 0 0, .int .i64 170])) ∧ Below w.heap.size w w' := by
  refine Goes.begin Tryz.func11 [] (fun _ => True) Holds.nil (by simp [Mem.ids]) (fun _ _ => trivial) ?_
  refine Goes.run [] [] trivial ?_
  refine Goes.new1 w.heap.size (fun w' h => h.1.size) fun g1 hg1 => ?_
  refine Goes.run [0] [] trivial ?_
  refine Goes.call0 23 #[cdV rg aW nW cW aI nI cI] (.bool (rightQ k)) (fun w' _ hI => gright_any (hU.below (bel0 hI)) (hM.below (bel0 hI)) hrg hwf) ?_
  cases hR : rightQ k with
  | false =>
    refine Goes.run [1] [(true, true)] ⟨rfl, trivial⟩ ?_
    exact Goes.ret [] (.tuple #[.slice none 0 0, .int .i64 170]) fun w' hm hI => ⟨rfl, bel0 hI⟩
  | true =>
    refine Goes.run [0] [(false, false)] ⟨rfl, trivial⟩ ?_
    refine Goes.new1 w.heap.size (fun w' h => h.1.size) fun g4 hg4 => ?_
    refine Goes.run [] [] trivial ?_
    refine Goes.inv (Inv' := WrI w.heap.size g4 w (.slice none 0 0) (.slice none 0 0) []) (fun w' h => ⟨h.1.mono (fun x hx => by cases hx), By.nil, by simp [Value.ownBlock]⟩) ?_
    exact Goes.at (K := peK) (n := 77) (S := [(1, .pointer (some ⟨g1, 0, none⟩)), (4, .pointer (some ⟨g4, 0, none⟩)), (12, .pointer (some ⟨g1, 0, none⟩))]) (m := [(g1, .cells #[.int .i64 rg, .slice aW nW cW, .slice aI nI cI] 27 (0, 0)), (g4, wO (.slice none 0 0))]) (fun J => Goes.perm (List.Perm.swap _ _ _) (penc_rest hM hrg (hF hR) hg1 hg4 J)) (by kernel_rfl) (by kernel_rfl) (by kernel_rfl)
end
end Go.Proofs.YtddbiiejilcbbaaGreatDoor
namespace Go.Proofs.YtddbiiejilcbbaaGreatDoor
open Go Go.RowKit

theorem nam_len {l : List UInt8} (h : namP l = true) : l.length ≤ 24 := by
  unfold namP at h
  simp only [Bool.and_eq_true, decide_eq_true_eq] at h
  omega
theorem cur_len {l : List UInt8} (h : curP l = true) : l.length ≤ 24 := by
  unfold curP at h
  simp only [Bool.and_eq_true, beq_iff_eq] at h
  omega
theorem reg_fit {n regs : Int} {u : Bool} (h : regR n u regs = true) (hr : regs ≤ 256) : 0 ≤ n ∧ n ≤ 256 := by
  unfold regR at h
  cases u with
  | true => simp only [cond_true, Bool.and_eq_true, decide_eq_true_eq] at h; omega
  | false => simp only [cond_false, beq_iff_eq] at h; omega
theorem pla_fit {k : Kd} {n : Int} (h : plaR k n = true) (hr : k.ins.length ≤ 16384) : I64 n := by
  unfold plaR at h
  simp only [Bool.and_eq_true, decide_eq_true_eq] at h
  exact ⟨by omega, by omega⟩
theorem i64_of {n : Int} (h1 : -1000000000000000 ≤ n) (h2 : n ≤ 1000000000000000) : I64 n := ⟨by omega, by omega⟩
theorem num_fit {k : Kd} {at' : Int} {x : Ik} (h : numR k at' x = true) (hw : k.waits.length ≤ 250) : I64 x.n := by
  unfold numR at h
  cases h1 : (x.op == 1) with
  | true => rw [h1] at h; simp only [cond_true, Bool.and_eq_true, decide_eq_true_eq] at h; exact i64_of (by omega) (by omega)
  | false =>
  rw [h1] at h
  cases h2 : (x.op == 2 || x.op == 3) with
  | true => rw [h2] at h; simp only [cond_true, cond_false, Bool.and_eq_true, decide_eq_true_eq] at h; exact i64_of (by omega) (by omega)
  | false =>
  rw [h2] at h
  cases h3 : (x.op == 21 || x.op == 22) with
  | true => rw [h3] at h; simp only [cond_true, cond_false, Bool.and_eq_true, decide_eq_true_eq] at h; exact i64_of (by omega) (by omega)
  | false =>
  rw [h3] at h
  cases h4 : (x.op == 28) with
  | true => rw [h4] at h; simp only [cond_true, cond_false, Bool.and_eq_true, decide_eq_true_eq] at h; exact i64_of (by omega) (by omega)
  | false =>
  rw [h4] at h
  cases h5 : (x.op == 29) with
  | true => rw [h5] at h; simp only [cond_true, cond_false, Bool.and_eq_true, decide_eq_true_eq] at h; exact i64_of (by omega) (by omega)
  | false =>
  rw [h5] at h
  simp only [cond_false, beq_iff_eq] at h
  exact i64_of (by omega) (by omega)
theorem txt_fit {x : Ik} (h : txtR x = true) : x.s.length ≤ 24 := by
  unfold txtR at h
  cases h1 : (x.op == 2) with
  | true => rw [h1] at h; exact nam_len h
  | false =>
  rw [h1] at h
  cases h2 : (x.op == 27) with
  | true => rw [h2] at h; exact cur_len h
  | false =>
  rw [h2] at h
  simp only [cond_false, decide_eq_true_eq] at h
  rw [h]
  simp
theorem to_fit {k : Kd} {at' : Int} {x : Ik} (h : toR k at' x = true) (ha : 0 ≤ at') (hr : k.ins.length ≤ 16384) : I64 x.to := by
  unfold toR at h
  cases h1 : hasR (usesR x.op).1 84 with
  | true => rw [h1] at h; simp only [cond_true, Bool.and_eq_true, decide_eq_true_eq] at h; exact i64_of (by omega) (by omega)
  | false => rw [h1] at h; simp only [cond_false, beq_iff_eq] at h; exact i64_of (by omega) (by omega)
theorem op_fit {op : Int} (h : (usesR op).2 = true) : I64 op := by
  by_cases hb : 1 ≤ op ∧ op ≤ 30
  · exact i64_of (by omega) (by omega)
  · exfalso
    have n1 : (op == 1) = false := by simpa using (by omega : op ≠ 1)
    have n2 : (op == 2) = false := by simpa using (by omega : op ≠ 2)
    have n3 : (op == 3) = false := by simpa using (by omega : op ≠ 3)
    have n4 : (op == 4) = false := by simpa using (by omega : op ≠ 4)
    have n5 : (op == 5) = false := by simpa using (by omega : op ≠ 5)
    have n6 : (op == 6) = false := by simpa using (by omega : op ≠ 6)
    have n7 : (op == 7) = false := by simpa using (by omega : op ≠ 7)
    have n8 : (op == 8) = false := by simpa using (by omega : op ≠ 8)
    have n9 : (op == 9) = false := by simpa using (by omega : op ≠ 9)
    have n10 : (op == 10) = false := by simpa using (by omega : op ≠ 10)
    have n11 : (op == 11) = false := by simpa using (by omega : op ≠ 11)
    have n12 : (op == 12) = false := by simpa using (by omega : op ≠ 12)
    have n13 : (op == 13) = false := by simpa using (by omega : op ≠ 13)
    have n14 : (op == 14) = false := by simpa using (by omega : op ≠ 14)
    have n15 : (op == 15) = false := by simpa using (by omega : op ≠ 15)
    have n16 : (op == 16) = false := by simpa using (by omega : op ≠ 16)
    have n17 : (op == 17) = false := by simpa using (by omega : op ≠ 17)
    have n18 : (op == 18) = false := by simpa using (by omega : op ≠ 18)
    have n19 : (op == 19) = false := by simpa using (by omega : op ≠ 19)
    have n20 : (op == 20) = false := by simpa using (by omega : op ≠ 20)
    have n21 : (op == 21) = false := by simpa using (by omega : op ≠ 21)
    have n22 : (op == 22) = false := by simpa using (by omega : op ≠ 22)
    have n23 : (op == 23) = false := by simpa using (by omega : op ≠ 23)
    have n24 : (op == 24) = false := by simpa using (by omega : op ≠ 24)
    have n25 : (op == 25) = false := by simpa using (by omega : op ≠ 25)
    have n26 : (op == 26) = false := by simpa using (by omega : op ≠ 26)
    have n27 : (op == 27) = false := by simpa using (by omega : op ≠ 27)
    have n28 : (op == 28) = false := by simpa using (by omega : op ≠ 28)
    have n29 : (op == 29) = false := by simpa using (by omega : op ≠ 29)
    have n30 : (op == 30) = false := by simpa using (by omega : op ≠ 30)
    unfold usesR at h
    rw [n1, n2, n3, n4, n5, n6, n7, n8, n9, n10, n11, n12, n13, n14, n15, n16, n17, n18, n19, n20, n21, n22, n23, n24, n25, n26, n27, n28, n29, n30] at h
    cases h
theorem insL_mem {k : Kd} : ∀ {l : List Ik} {i : Int}, insL k i l = true → 0 ≤ i → ∀ x ∈ l, ∃ j, 0 ≤ j ∧ insR k j x = true
  | [], _, _, _, x, hx => by cases hx
  | y :: r, i, h, hi, x, hx => by
    have h2 : (insR k i y && insL k (i + 1) r) = true := h
    rw [Bool.and_eq_true] at h2
    rcases List.mem_cons.1 hx with rfl | hx
    · exact ⟨i, hi, h2.1⟩
    · exact insL_mem h2.2 (by omega) x hx
/-- What is right is small. -/
theorem right_fit {k : Kd} (h : rightR k = true) : k.Fit := by
  unfold rightR at h
  rw [Bool.and_eq_true, Bool.and_eq_true] at h
  obtain ⟨⟨hh, hw⟩, hi⟩ := h
  unfold headR at hh
  simp only [Bool.and_eq_true, decide_eq_true_eq] at hh
  obtain ⟨⟨⟨⟨⟨r0, r1⟩, w1⟩, i1⟩, i2⟩, -⟩ := hh
  refine ⟨i64_of (by omega) (by omega), w1, i2, fun x hx => ?_, fun x hx => ?_⟩
  · have h1 := List.all_eq_true.1 hw x hx
    unfold waiR at h1
    simp only [Bool.and_eq_true, decide_eq_true_eq] at h1
    obtain ⟨⟨⟨p0, d0⟩, d1⟩, hl⟩ := h1
    refine ⟨pla_fit p0 i2, i64_of (by omega) (by omega), ?_⟩
    cases he : decide (x.label = []) with
    | true =>
      rw [he] at hl
      simp only [cond_true, Bool.and_eq_true, beq_iff_eq] at hl
      have := of_decide_eq_true he
      exact ⟨i64_of (by omega) (by omega), i64_of (by omega) (by omega), by rw [this]; simp⟩
    | false =>
      rw [he] at hl
      simp only [cond_false, Bool.and_eq_true] at hl
      exact ⟨pla_fit hl.1.2 i2, pla_fit hl.2 i2, nam_len hl.1.1⟩
  · obtain ⟨j, hj, h1⟩ := insL_mem hi (Int.le_refl 0) x hx
    unfold insR at h1
    simp only [Bool.and_eq_true] at h1
    obtain ⟨⟨⟨⟨⟨⟨g1, g2⟩, g3⟩, g4⟩, g5⟩, g6⟩, g7⟩ := h1
    have a1 := reg_fit g2 r1
    have a2 := reg_fit g3 r1
    have a3 := reg_fit g4 r1
    exact ⟨op_fit g1, i64_of (by omega) (by omega), i64_of (by omega) (by omega), i64_of (by omega) (by omega), num_fit g5 w1, to_fit g7 hj i2, txt_fit g6⟩
end Go.Proofs.YtddbiiejilcbbaaGreatDoor
namespace Go.Proofs.YtddbiiejilcbbaaGreatDoor
open Go Go.RowKit

theorem By.sl {base : Nat} {w : World} {v : Value} {l : List UInt8} (h : By base w v l) : Sl w v l := by
  have h0 := h
  unfold By at h0
  rcases h.2 with ⟨e, hz⟩ | ⟨g, cap, cur, e, -⟩
  · have hl : l = [] := List.eq_nil_of_length_eq_zero hz
    rw [e, hl]
    exact Sl.nil w
  · rw [e] at h0 ⊢
    exact owns_sl h0
theorem conv_by {base : Nat} {w : World} {v : Value} {l : List UInt8} (h : By base w v l) : (convert 22 9 v).run Tryz.prog w = .ok (strV l) w := conv_sl h.sl
def eR (r : Bool) : Int := bif r then 0 else 170
def lR (k : Kd) : List UInt8 := bif rightR k then encB k else []
section
variable {w : World} {rg : Int} {aW aI : Option Addr} {nW cW nI cI : Nat}
theorem penc_two {k : Kd} (hU : TabU w) (hM : CdM w aW nW cW aI nI cI k) (hrg : k.regs = rg) (hwf : k.wf) : Calls Tryz.prog 11 #[cdV rg aW nW cW aI nI cI] w fun e w' => (∃ v, e = .returned (.tuple #[v, .int .i64 (eR (rightR k))]) ∧ By w.heap.size w' v (lR k)) ∧ Below w.heap.size w w' :=
  (penc_any hU hM hrg hwf fun h => right_fit (by rw [right_eq] at h; exact h)).mono fun e w' ⟨h, hB⟩ => ⟨by
    rw [right_eq] at h
    unfold lR
    cases hR : rightR k with
    | true => rw [hR] at h; exact h
    | false => rw [hR] at h; exact ⟨_, h, By.nil⟩, hB⟩
/-- A call that answers bytes of its own. -/
theorem by_next {Q : World → Prop} {m : Mem} {w1 w2 : World} {u : Value} {l : List UInt8} (hm : Holds m w1) (hI : Stay m.ids w1 Q) (hB : Below w1.heap.size w1 w2) (hu : By w1.heap.size w2 u l) : Stay m.ids w2 (fun w' => Q w' ∧ ∃ b, By b w' u l) := fun w3 hc => ⟨hI.bel hB w3 hc, w1.heap.size, own_ch hu hc fun b hb hx => by
    have h1 := holds_lt hm b hx
    rcases hu.2 with ⟨e, -⟩ | ⟨g, cap, cur, e, h7, -⟩
    · rw [e] at hb; cases hb
    · rw [e] at hb
      cases hb
      have h8 : g < w1.heap.size := h1
      omega⟩
end
end Go.Proofs.YtddbiiejilcbbaaGreatDoor
