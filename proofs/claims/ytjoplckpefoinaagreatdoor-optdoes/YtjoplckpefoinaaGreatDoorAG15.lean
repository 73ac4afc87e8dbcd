/- texts put together: ONB ONC OND ODoA ODoU ODoB OTwM ODoP ODoN ODoG ODoH ODoI ODoJ ODoK ODoL ODoQ ODoR ODoS ODoT OTwW ODoV ODoW ODoX ODoY ODoZ -/
import Derived.Test.YtjoplckpefoinaaGreatDoorAG14
import Derived.Test.YtjoplckpefoinaaGreatDoorAG12
import Derived.Test.YtjoplckpefoinaaGreatDoorAG3
namespace Go.Proofs.YtjoplckpefoinaaGreatDoor
open Go Go.RowKit

/-- From here on, told by the world that is here. -/
theorem Goes.here {P : Program} {F : Exit → Act → World → Prop} {Inv : World → Prop} {s : St} (Inv' : World → World → Prop) (h : ∀ w, Holds s.mem w → s.mem.ids.Nodup → Stay s.mem.ids w Inv → Stay s.mem.ids w (Inv' w) ∧ Goes P F (Inv' w) s) : Goes P F Inv s := fun w hm hn hI => (h w hm hn hI).2 w hm hn (h w hm hn hI).1
theorem ok_kid {z d op k : Int} {s : List UInt8} {kids : List Co} (hz : tyOk z) (h : okT z d (.mk op k s kids) = true) {i : Nat} {x : Co} (hx : kids[i]? = some x) : ∃ zx, tyOk zx ∧ okT zx (d + 1) x = true := by
  obtain ⟨ks, hl, -, -, hk, hr⟩ := ok_inv hz h
  obtain ⟨zx, h1, h2⟩ := okTs_at hk hx
  refine ⟨zx, ?_, h2⟩
  have hm := List.mem_of_getElem? h1
  rcases hr with ⟨-, -, rfl⟩ | hr
  · simp only [List.mem_cons, List.not_mem_nil, or_false] at hm
    rcases hm with e | e | e
    · rw [e]; exact t1
    · rw [e]; exact hz
    · rw [e]; exact hz
  · exact (rk_tys hr).2 zx hm
theorem ok_three {z d op k : Int} {s : List UInt8} {kids : List Co} (hz : tyOk z) (h : okT z d (.mk op k s kids) = true) : kids.length ≤ 3 := by
  obtain ⟨ks, hl, -, -, -, hr⟩ := ok_inv hz h
  rw [hl]
  rcases hr with ⟨-, -, rfl⟩ | hr
  · simp
  · obtain ⟨o0, o1⟩ := op_small hr
    have key : ∀ n : Fin 32, (match rkP ((n : Nat) : Int) with | some (l, _) => decide (l.length ≤ 3) | none => true) = true := by decide
    have := key ⟨op.toNat, by omega⟩
    rw [show ((op.toNat : Nat) : Int) = op by omega, hr] at this
    simpa using this
theorem NcS.cells {A : Nat → Prop} {w : World} {v : Value} {c : Co} (h : NcS A w v c) : ∃ op k s a N cc, v = cv op k s (.slice a N cc) := by
  cases h with
  | mk op k s kids a c vs => exact ⟨_, _, _, _, _, _, rfl⟩
/-- What rewriting answers. -/
def RwR (w : World) (A : Nat → Prop) (t : Co) (e : Ending) (w' : World) : Prop := ∃ v', e = .returned v' ∧ NcS (Since A w w') w' v' t ∧ Below w.heap.size w w'
/-- No block. -/
abbrev F0 : Nat → Prop := fun _ => False
/-- What is rewritten lies in blocks of its own. -/
def RwNew (rs : List Rl) (c : Co) : Prop := ∀ (z d : Int) (v : Value) (w : World) (A : Nat → Prop) (b kN : Nat), tyOk z → okT z d c = true → (∀ x, A x → x < w.heap.size) → NcS A w v c → RulesAt w b kN rs → Tab w → Calls Tryz.prog 9 #[v, .slice (some ⟨b, 0, none⟩) kN 27] w (RwR w F0 (rwP rs c))
/-- A term under rules. -/
structure FSt where
  op : Int
  k : Int
  s : List UInt8
  kids : List Co
  a : Option Addr
  n : Nat
  cc : Nat
  B : Nat → Prop
  wf : World
abbrev FSt.c (f : FSt) : Co := .mk f.op f.k f.s f.kids
/-- The row of kids becomes a block that stays. -/
theorem KI.rest {w : World} {B : Nat → Prop} {wf : World} {rv : Value} {n : Nat} {X : List Value} {w1 : World} {L : List Nat} (h : Stay L w1 (KI w B wf rv n X)) (hL : ∀ x ∈ L, x < w1.heap.size) : Stay L w1 (KI w (fun x => B x ∨ rv.ownBlock = some x) w1 (.slice none 0 0) 0 []) := by
  have hk := KI.known h hL
  intro w2 hc
  have h2 := h w2 hc
  refine ⟨h2.ch, w2.ownsRow_nil _ _ _, fun x hx => ?_, fun r hr => by cases hr⟩
  rcases hx with hx | hx
  · have e1 := h2.stay x hx
    have e2 := h.now.stay x hx
    exact ⟨e1.1.trans e2.1.symm, e1.2⟩
  · rcases h.now.row.2 with ⟨e, -⟩ | ⟨g, cap, cur, e, hb, hg, -⟩
    · rw [e] at hx; cases hx
    · rw [e] at hx
      cases hx
      have hlt := lt_of_get hg
      have he := hc.block g hlt (fun hm => (hk g hm).2.2 (by rw [e]; rfl))
      exact ⟨he, hb, Unf.same ⟨_, _, hg⟩ he⟩
theorem mem_eq {l l' : List Nat} {x : Nat} (hx : x ∈ l) (e : l = l' := by kernel_rfl) : x ∈ l' := e ▸ hx
theorem Goes.three {P : Program} {F : Exit → Act → World → Prop} {Inv : World → Prop} {s : St} (i j k : Nat) (h : TookS P F Inv i s) (h' : TookS P F Inv j s) (h'' : TookS P F Inv k s) (hr : anyReady s = [i, j, k] := by kernel_rfl) : Goes P F Inv s := Goes.each [i, j, k] (by simp) (fun a ha => by
  simp only [List.mem_cons, List.not_mem_nil, or_false] at ha
  rcases ha with rfl | rfl | rfl
  · exact h
  · exact h'
  · exact h'') hr
set_option maxRecDepth 100000 in
seal rn rnN rnS Goes ans atEnd put0 putM opened openedY putA0 putA oneSt st0 keep put newOS rwK rwHead rwFix rwR0 in
theorem rw_kid {b kN g2 g4 go N cc : Nat} {ak : Option Addr} {op k : Int} {s : List UInt8} {R : Ending → World → Prop} {w : World} {A : Nat → Prop} {rs : List Rl} {kids : List Co} {j : Nat} {va : Option Addr} {vc : Nat} {us : List Value} {B : Nat → Prop} {wf : World} {g7 : Nat} {op1 k1 : Int} {s1 : List UInt8} {a1 : Option Addr} {N1 cc1 : Nat} {c1 : Co} {J : Nat → Value}
    (hA : ∀ x, A x → x < w.heap.size) (hj9 : j < 1000) (hus : us.length = j) (hP : KPr w A rs kids us B wf) (hc1 : kids[j]? = some c1)
    (hcall : ∀ w1, Below w.heap.size w w1 → Calls Tryz.prog 9 #[cv op1 k1 s1 (.slice a1 N1 cc1), .slice (some ⟨b, 0, none⟩) kN 27] w1 (RwR w1 A (rwP rs c1)))
    (back2 : ∀ (us' : List Value) (B2 : Nat → Prop) (wf2 : World), us'.length = j + 1 → KPr w A rs kids us' B2 wf2 → ∀ (a' : KSt) (s' : St), a'.j = j + 1 → a'.us = us' → a'.B = B2 → a'.wf = wf2 → s'.todo = rwHead → s'.tmps = fr 48 [(1, .slice (some ⟨b, 0, none⟩) kN 27), (2, .pointer (some ⟨g2, 0, none⟩)), (4, .pointer (some ⟨g4, 0, none⟩)), (5, .pointer (some ⟨go, 0, none⟩)), (18, .slice ak N cc), (19, .int .i64 N), (20, .int .i64 (j + 1 : Nat))] (jk s') → s'.mem = [(g2, cO4 op k s ak N cc), (g4, cO4 0 0 [] none 0 0), (go, cO4 op k s a'.va a'.j a'.vc)] → Goes Tryz.prog (bodyPost Tryz.prog Tryz.f9 R) (KI w a'.B a'.wf (.slice a'.va a'.j a'.vc) a'.j (flatV a'.us)) s') :
    Goes Tryz.prog (bodyPost Tryz.prog Tryz.f9 R) (KI w B wf (.slice va j vc) j (flatV us)) ⟨rwR0, fr 48 [(1, .slice (some ⟨b, 0, none⟩) kN 27), (2, .pointer (some ⟨g2, 0, none⟩)), (4, .pointer (some ⟨g4, 0, none⟩)), (5, .pointer (some ⟨go, 0, none⟩)), (18, .slice ak N cc), (19, .int .i64 N), (20, .int .i64 j), (7, .pointer (some ⟨g7, 0, none⟩))] J, [(g2, cO4 op k s ak N cc), (g4, cO4 0 0 [] none 0 0), (go, cO4 op k s va j vc), (g7, cO4 op1 k1 s1 a1 N1 cc1)]⟩ := by
  refine Goes.open [] ?_
  refine Goes.run [0, 3] [] trivial ?_
  refine Goes.three 1 2 6 ?_ ?_ ?_
  · refine TookS.run 1 2 ?_
    refine Goes.run [5] [] trivial ?_
    refine Goes.two 2 6 ?_ ?_
    · refine TookS.run 2 3 ?_
      refine Goes.two 4 6 ?_ ?_
      · refine TookS.call 4 9 #[cv op1 k1 s1 (.slice a1 N1 cc1), .slice (some ⟨b, 0, none⟩) kN 27] fun w1 hm1 hn1 hI1 => (hcall w1 hI1.now.bel).mono fun e w2 ⟨v2, he, hNv, hB12⟩ => ?_
        obtain ⟨op2, k2, s2, a2, n2, c2, rfl⟩ := hNv.cells
        have hP2 := hP.more hA hI1.now hB12 (by rw [hus]; exact hc1) hNv ⟨_, _, _, _, _, _, rfl⟩
        refine ⟨_, _, _, he, hm1.bel hB12, hn1, KI.call hI1 (holds_lt hm1) hB12, ?_⟩
        refine Goes.lone1 6 ?_
        refine TookS.newI 6 fun g30 => ?_
        refine Goes.at (K := rwK) (n := 48) (S := [(1, .slice (some ⟨b, 0, none⟩) kN 27), (2, .pointer (some ⟨g2, 0, none⟩)), (4, .pointer (some ⟨g4, 0, none⟩)), (5, .pointer (some ⟨go, 0, none⟩)), (18, .slice ak N cc), (19, .int .i64 N), (20, .int .i64 j), (25, .slice va j vc), (28, cv op2 k2 s2 (.slice a2 n2 c2)), (29, .int .i64 j), (30, .slice (some ⟨g30, 0, none⟩) 1 1)]) (m := [(g2, cO4 op k s ak N cc), (g4, cO4 0 0 [] none 0 0), (go, cO4 op k s va j vc), (g7, cO4 op1 k1 s1 a1 N1 cc1), (g30, .cells zero4.toArray 24 (0, 0))]) (fun J => ?_) ?_ ?_ ?_
        · exact rw_tail (by omega) hus hP2 (back2 _ _ _ (by simp [hus]) hP2)
        · kernel_rfl
        · kernel_rfl
        · kernel_rfl
      · refine TookS.newI 6 fun g30 => ?_
        refine Goes.lone1 4 ?_
        refine TookS.call 4 9 #[cv op1 k1 s1 (.slice a1 N1 cc1), .slice (some ⟨b, 0, none⟩) kN 27] fun w1 hm1 hn1 hI1 => (hcall w1 hI1.now.bel).mono fun e w2 ⟨v2, he, hNv, hB12⟩ => ?_
        obtain ⟨op2, k2, s2, a2, n2, c2, rfl⟩ := hNv.cells
        have hP2 := hP.more hA hI1.now hB12 (by rw [hus]; exact hc1) hNv ⟨_, _, _, _, _, _, rfl⟩
        refine ⟨_, _, _, he, hm1.bel hB12, hn1, KI.call hI1 (holds_lt hm1) hB12, ?_⟩
        refine Goes.at (K := rwK) (n := 48) (S := [(1, .slice (some ⟨b, 0, none⟩) kN 27), (2, .pointer (some ⟨g2, 0, none⟩)), (4, .pointer (some ⟨g4, 0, none⟩)), (5, .pointer (some ⟨go, 0, none⟩)), (18, .slice ak N cc), (19, .int .i64 N), (20, .int .i64 j), (25, .slice va j vc), (28, cv op2 k2 s2 (.slice a2 n2 c2)), (29, .int .i64 j), (30, .slice (some ⟨g30, 0, none⟩) 1 1)]) (m := [(g2, cO4 op k s ak N cc), (g4, cO4 0 0 [] none 0 0), (go, cO4 op k s va j vc), (g7, cO4 op1 k1 s1 a1 N1 cc1), (g30, .cells zero4.toArray 24 (0, 0))]) (fun J => ?_) ?_ ?_ ?_
        · exact rw_tail (by omega) hus hP2 (back2 _ _ _ (by simp [hus]) hP2)
        · kernel_rfl
        · kernel_rfl
        · kernel_rfl
    · refine TookS.newI 6 fun g30 => ?_
      refine Goes.lone1 2 ?_
      refine TookS.run 2 3 ?_
      refine Goes.lone1 4 ?_
      refine TookS.call 4 9 #[cv op1 k1 s1 (.slice a1 N1 cc1), .slice (some ⟨b, 0, none⟩) kN 27] fun w1 hm1 hn1 hI1 => (hcall w1 hI1.now.bel).mono fun e w2 ⟨v2, he, hNv, hB12⟩ => ?_
      obtain ⟨op2, k2, s2, a2, n2, c2, rfl⟩ := hNv.cells
      have hP2 := hP.more hA hI1.now hB12 (by rw [hus]; exact hc1) hNv ⟨_, _, _, _, _, _, rfl⟩
      refine ⟨_, _, _, he, hm1.bel hB12, hn1, KI.call hI1 (holds_lt hm1) hB12, ?_⟩
      refine Goes.at (K := rwK) (n := 48) (S := [(1, .slice (some ⟨b, 0, none⟩) kN 27), (2, .pointer (some ⟨g2, 0, none⟩)), (4, .pointer (some ⟨g4, 0, none⟩)), (5, .pointer (some ⟨go, 0, none⟩)), (18, .slice ak N cc), (19, .int .i64 N), (20, .int .i64 j), (25, .slice va j vc), (28, cv op2 k2 s2 (.slice a2 n2 c2)), (29, .int .i64 j), (30, .slice (some ⟨g30, 0, none⟩) 1 1)]) (m := [(g2, cO4 op k s ak N cc), (g4, cO4 0 0 [] none 0 0), (go, cO4 op k s va j vc), (g7, cO4 op1 k1 s1 a1 N1 cc1), (g30, .cells zero4.toArray 24 (0, 0))]) (fun J => ?_) ?_ ?_ ?_
      · exact rw_tail (by omega) hus hP2 (back2 _ _ _ (by simp [hus]) hP2)
      · kernel_rfl
      · kernel_rfl
      · kernel_rfl
  · refine TookS.run 2 3 ?_
    refine Goes.three 1 4 6 ?_ ?_ ?_
    · refine TookS.run 1 2 ?_
      refine Goes.run [5] [] trivial ?_
      refine Goes.two 4 6 ?_ ?_
      · refine TookS.call 4 9 #[cv op1 k1 s1 (.slice a1 N1 cc1), .slice (some ⟨b, 0, none⟩) kN 27] fun w1 hm1 hn1 hI1 => (hcall w1 hI1.now.bel).mono fun e w2 ⟨v2, he, hNv, hB12⟩ => ?_
        obtain ⟨op2, k2, s2, a2, n2, c2, rfl⟩ := hNv.cells
        have hP2 := hP.more hA hI1.now hB12 (by rw [hus]; exact hc1) hNv ⟨_, _, _, _, _, _, rfl⟩
        refine ⟨_, _, _, he, hm1.bel hB12, hn1, KI.call hI1 (holds_lt hm1) hB12, ?_⟩
        refine Goes.lone1 6 ?_
        refine TookS.newI 6 fun g30 => ?_
        refine Goes.at (K := rwK) (n := 48) (S := [(1, .slice (some ⟨b, 0, none⟩) kN 27), (2, .pointer (some ⟨g2, 0, none⟩)), (4, .pointer (some ⟨g4, 0, none⟩)), (5, .pointer (some ⟨go, 0, none⟩)), (18, .slice ak N cc), (19, .int .i64 N), (20, .int .i64 j), (25, .slice va j vc), (28, cv op2 k2 s2 (.slice a2 n2 c2)), (29, .int .i64 j), (30, .slice (some ⟨g30, 0, none⟩) 1 1)]) (m := [(g2, cO4 op k s ak N cc), (g4, cO4 0 0 [] none 0 0), (go, cO4 op k s va j vc), (g7, cO4 op1 k1 s1 a1 N1 cc1), (g30, .cells zero4.toArray 24 (0, 0))]) (fun J => ?_) ?_ ?_ ?_
        · exact rw_tail (by omega) hus hP2 (back2 _ _ _ (by simp [hus]) hP2)
        · kernel_rfl
        · kernel_rfl
        · kernel_rfl
      · refine TookS.newI 6 fun g30 => ?_
        refine Goes.lone1 4 ?_
        refine TookS.call 4 9 #[cv op1 k1 s1 (.slice a1 N1 cc1), .slice (some ⟨b, 0, none⟩) kN 27] fun w1 hm1 hn1 hI1 => (hcall w1 hI1.now.bel).mono fun e w2 ⟨v2, he, hNv, hB12⟩ => ?_
        obtain ⟨op2, k2, s2, a2, n2, c2, rfl⟩ := hNv.cells
        have hP2 := hP.more hA hI1.now hB12 (by rw [hus]; exact hc1) hNv ⟨_, _, _, _, _, _, rfl⟩
        refine ⟨_, _, _, he, hm1.bel hB12, hn1, KI.call hI1 (holds_lt hm1) hB12, ?_⟩
        refine Goes.at (K := rwK) (n := 48) (S := [(1, .slice (some ⟨b, 0, none⟩) kN 27), (2, .pointer (some ⟨g2, 0, none⟩)), (4, .pointer (some ⟨g4, 0, none⟩)), (5, .pointer (some ⟨go, 0, none⟩)), (18, .slice ak N cc), (19, .int .i64 N), (20, .int .i64 j), (25, .slice va j vc), (28, cv op2 k2 s2 (.slice a2 n2 c2)), (29, .int .i64 j), (30, .slice (some ⟨g30, 0, none⟩) 1 1)]) (m := [(g2, cO4 op k s ak N cc), (g4, cO4 0 0 [] none 0 0), (go, cO4 op k s va j vc), (g7, cO4 op1 k1 s1 a1 N1 cc1), (g30, .cells zero4.toArray 24 (0, 0))]) (fun J => ?_) ?_ ?_ ?_
        · exact rw_tail (by omega) hus hP2 (back2 _ _ _ (by simp [hus]) hP2)
        · kernel_rfl
        · kernel_rfl
        · kernel_rfl
    · refine TookS.call 4 9 #[cv op1 k1 s1 (.slice a1 N1 cc1), .slice (some ⟨b, 0, none⟩) kN 27] fun w1 hm1 hn1 hI1 => (hcall w1 hI1.now.bel).mono fun e w2 ⟨v2, he, hNv, hB12⟩ => ?_
      obtain ⟨op2, k2, s2, a2, n2, c2, rfl⟩ := hNv.cells
      have hP2 := hP.more hA hI1.now hB12 (by rw [hus]; exact hc1) hNv ⟨_, _, _, _, _, _, rfl⟩
      refine ⟨_, _, _, he, hm1.bel hB12, hn1, KI.call hI1 (holds_lt hm1) hB12, ?_⟩
      refine Goes.two 1 6 ?_ ?_
      · refine TookS.run 1 2 ?_
        refine Goes.run [5] [] trivial ?_
        refine Goes.lone1 6 ?_
        refine TookS.newI 6 fun g30 => ?_
        refine Goes.at (K := rwK) (n := 48) (S := [(1, .slice (some ⟨b, 0, none⟩) kN 27), (2, .pointer (some ⟨g2, 0, none⟩)), (4, .pointer (some ⟨g4, 0, none⟩)), (5, .pointer (some ⟨go, 0, none⟩)), (18, .slice ak N cc), (19, .int .i64 N), (20, .int .i64 j), (25, .slice va j vc), (28, cv op2 k2 s2 (.slice a2 n2 c2)), (29, .int .i64 j), (30, .slice (some ⟨g30, 0, none⟩) 1 1)]) (m := [(g2, cO4 op k s ak N cc), (g4, cO4 0 0 [] none 0 0), (go, cO4 op k s va j vc), (g7, cO4 op1 k1 s1 a1 N1 cc1), (g30, .cells zero4.toArray 24 (0, 0))]) (fun J => ?_) ?_ ?_ ?_
        · exact rw_tail (by omega) hus hP2 (back2 _ _ _ (by simp [hus]) hP2)
        · kernel_rfl
        · kernel_rfl
        · kernel_rfl
      · refine TookS.newI 6 fun g30 => ?_
        refine Goes.lone1 1 ?_
        refine TookS.run 1 2 ?_
        refine Goes.run [5] [] trivial ?_
        refine Goes.at (K := rwK) (n := 48) (S := [(1, .slice (some ⟨b, 0, none⟩) kN 27), (2, .pointer (some ⟨g2, 0, none⟩)), (4, .pointer (some ⟨g4, 0, none⟩)), (5, .pointer (some ⟨go, 0, none⟩)), (18, .slice ak N cc), (19, .int .i64 N), (20, .int .i64 j), (25, .slice va j vc), (28, cv op2 k2 s2 (.slice a2 n2 c2)), (29, .int .i64 j), (30, .slice (some ⟨g30, 0, none⟩) 1 1)]) (m := [(g2, cO4 op k s ak N cc), (g4, cO4 0 0 [] none 0 0), (go, cO4 op k s va j vc), (g7, cO4 op1 k1 s1 a1 N1 cc1), (g30, .cells zero4.toArray 24 (0, 0))]) (fun J => ?_) ?_ ?_ ?_
        · exact rw_tail (by omega) hus hP2 (back2 _ _ _ (by simp [hus]) hP2)
        · kernel_rfl
        · kernel_rfl
        · kernel_rfl
    · refine TookS.newI 6 fun g30 => ?_
      refine Goes.two 1 4 ?_ ?_
      · refine TookS.run 1 2 ?_
        refine Goes.run [5] [] trivial ?_
        refine Goes.lone1 4 ?_
        refine TookS.call 4 9 #[cv op1 k1 s1 (.slice a1 N1 cc1), .slice (some ⟨b, 0, none⟩) kN 27] fun w1 hm1 hn1 hI1 => (hcall w1 hI1.now.bel).mono fun e w2 ⟨v2, he, hNv, hB12⟩ => ?_
        obtain ⟨op2, k2, s2, a2, n2, c2, rfl⟩ := hNv.cells
        have hP2 := hP.more hA hI1.now hB12 (by rw [hus]; exact hc1) hNv ⟨_, _, _, _, _, _, rfl⟩
        refine ⟨_, _, _, he, hm1.bel hB12, hn1, KI.call hI1 (holds_lt hm1) hB12, ?_⟩
        refine Goes.at (K := rwK) (n := 48) (S := [(1, .slice (some ⟨b, 0, none⟩) kN 27), (2, .pointer (some ⟨g2, 0, none⟩)), (4, .pointer (some ⟨g4, 0, none⟩)), (5, .pointer (some ⟨go, 0, none⟩)), (18, .slice ak N cc), (19, .int .i64 N), (20, .int .i64 j), (25, .slice va j vc), (28, cv op2 k2 s2 (.slice a2 n2 c2)), (29, .int .i64 j), (30, .slice (some ⟨g30, 0, none⟩) 1 1)]) (m := [(g2, cO4 op k s ak N cc), (g4, cO4 0 0 [] none 0 0), (go, cO4 op k s va j vc), (g7, cO4 op1 k1 s1 a1 N1 cc1), (g30, .cells zero4.toArray 24 (0, 0))]) (fun J => ?_) ?_ ?_ ?_
        · exact rw_tail (by omega) hus hP2 (back2 _ _ _ (by simp [hus]) hP2)
        · kernel_rfl
        · kernel_rfl
        · kernel_rfl
      · refine TookS.call 4 9 #[cv op1 k1 s1 (.slice a1 N1 cc1), .slice (some ⟨b, 0, none⟩) kN 27] fun w1 hm1 hn1 hI1 => (hcall w1 hI1.now.bel).mono fun e w2 ⟨v2, he, hNv, hB12⟩ => ?_
        obtain ⟨op2, k2, s2, a2, n2, c2, rfl⟩ := hNv.cells
        have hP2 := hP.more hA hI1.now hB12 (by rw [hus]; exact hc1) hNv ⟨_, _, _, _, _, _, rfl⟩
        refine ⟨_, _, _, he, hm1.bel hB12, hn1, KI.call hI1 (holds_lt hm1) hB12, ?_⟩
        refine Goes.lone1 1 ?_
        refine TookS.run 1 2 ?_
        refine Goes.run [5] [] trivial ?_
        refine Goes.at (K := rwK) (n := 48) (S := [(1, .slice (some ⟨b, 0, none⟩) kN 27), (2, .pointer (some ⟨g2, 0, none⟩)), (4, .pointer (some ⟨g4, 0, none⟩)), (5, .pointer (some ⟨go, 0, none⟩)), (18, .slice ak N cc), (19, .int .i64 N), (20, .int .i64 j), (25, .slice va j vc), (28, cv op2 k2 s2 (.slice a2 n2 c2)), (29, .int .i64 j), (30, .slice (some ⟨g30, 0, none⟩) 1 1)]) (m := [(g2, cO4 op k s ak N cc), (g4, cO4 0 0 [] none 0 0), (go, cO4 op k s va j vc), (g7, cO4 op1 k1 s1 a1 N1 cc1), (g30, .cells zero4.toArray 24 (0, 0))]) (fun J => ?_) ?_ ?_ ?_
        · exact rw_tail (by omega) hus hP2 (back2 _ _ _ (by simp [hus]) hP2)
        · kernel_rfl
        · kernel_rfl
        · kernel_rfl
  · refine TookS.newI 6 fun g30 => ?_
    refine Goes.two 1 2 ?_ ?_
    · refine TookS.run 1 2 ?_
      refine Goes.run [5] [] trivial ?_
      refine Goes.lone1 2 ?_
      refine TookS.run 2 3 ?_
      refine Goes.lone1 4 ?_
      refine TookS.call 4 9 #[cv op1 k1 s1 (.slice a1 N1 cc1), .slice (some ⟨b, 0, none⟩) kN 27] fun w1 hm1 hn1 hI1 => (hcall w1 hI1.now.bel).mono fun e w2 ⟨v2, he, hNv, hB12⟩ => ?_
      obtain ⟨op2, k2, s2, a2, n2, c2, rfl⟩ := hNv.cells
      have hP2 := hP.more hA hI1.now hB12 (by rw [hus]; exact hc1) hNv ⟨_, _, _, _, _, _, rfl⟩
      refine ⟨_, _, _, he, hm1.bel hB12, hn1, KI.call hI1 (holds_lt hm1) hB12, ?_⟩
      refine Goes.at (K := rwK) (n := 48) (S := [(1, .slice (some ⟨b, 0, none⟩) kN 27), (2, .pointer (some ⟨g2, 0, none⟩)), (4, .pointer (some ⟨g4, 0, none⟩)), (5, .pointer (some ⟨go, 0, none⟩)), (18, .slice ak N cc), (19, .int .i64 N), (20, .int .i64 j), (25, .slice va j vc), (28, cv op2 k2 s2 (.slice a2 n2 c2)), (29, .int .i64 j), (30, .slice (some ⟨g30, 0, none⟩) 1 1)]) (m := [(g2, cO4 op k s ak N cc), (g4, cO4 0 0 [] none 0 0), (go, cO4 op k s va j vc), (g7, cO4 op1 k1 s1 a1 N1 cc1), (g30, .cells zero4.toArray 24 (0, 0))]) (fun J => ?_) ?_ ?_ ?_
      · exact rw_tail (by omega) hus hP2 (back2 _ _ _ (by simp [hus]) hP2)
      · kernel_rfl
      · kernel_rfl
      · kernel_rfl
    · refine TookS.run 2 3 ?_
      refine Goes.two 1 4 ?_ ?_
      · refine TookS.run 1 2 ?_
        refine Goes.run [5] [] trivial ?_
        refine Goes.lone1 4 ?_
        refine TookS.call 4 9 #[cv op1 k1 s1 (.slice a1 N1 cc1), .slice (some ⟨b, 0, none⟩) kN 27] fun w1 hm1 hn1 hI1 => (hcall w1 hI1.now.bel).mono fun e w2 ⟨v2, he, hNv, hB12⟩ => ?_
        obtain ⟨op2, k2, s2, a2, n2, c2, rfl⟩ := hNv.cells
        have hP2 := hP.more hA hI1.now hB12 (by rw [hus]; exact hc1) hNv ⟨_, _, _, _, _, _, rfl⟩
        refine ⟨_, _, _, he, hm1.bel hB12, hn1, KI.call hI1 (holds_lt hm1) hB12, ?_⟩
        refine Goes.at (K := rwK) (n := 48) (S := [(1, .slice (some ⟨b, 0, none⟩) kN 27), (2, .pointer (some ⟨g2, 0, none⟩)), (4, .pointer (some ⟨g4, 0, none⟩)), (5, .pointer (some ⟨go, 0, none⟩)), (18, .slice ak N cc), (19, .int .i64 N), (20, .int .i64 j), (25, .slice va j vc), (28, cv op2 k2 s2 (.slice a2 n2 c2)), (29, .int .i64 j), (30, .slice (some ⟨g30, 0, none⟩) 1 1)]) (m := [(g2, cO4 op k s ak N cc), (g4, cO4 0 0 [] none 0 0), (go, cO4 op k s va j vc), (g7, cO4 op1 k1 s1 a1 N1 cc1), (g30, .cells zero4.toArray 24 (0, 0))]) (fun J => ?_) ?_ ?_ ?_
        · exact rw_tail (by omega) hus hP2 (back2 _ _ _ (by simp [hus]) hP2)
        · kernel_rfl
        · kernel_rfl
        · kernel_rfl
      · refine TookS.call 4 9 #[cv op1 k1 s1 (.slice a1 N1 cc1), .slice (some ⟨b, 0, none⟩) kN 27] fun w1 hm1 hn1 hI1 => (hcall w1 hI1.now.bel).mono fun e w2 ⟨v2, he, hNv, hB12⟩ => ?_
        obtain ⟨op2, k2, s2, a2, n2, c2, rfl⟩ := hNv.cells
        have hP2 := hP.more hA hI1.now hB12 (by rw [hus]; exact hc1) hNv ⟨_, _, _, _, _, _, rfl⟩
        refine ⟨_, _, _, he, hm1.bel hB12, hn1, KI.call hI1 (holds_lt hm1) hB12, ?_⟩
        refine Goes.lone1 1 ?_
        refine TookS.run 1 2 ?_
        refine Goes.run [5] [] trivial ?_
        refine Goes.at (K := rwK) (n := 48) (S := [(1, .slice (some ⟨b, 0, none⟩) kN 27), (2, .pointer (some ⟨g2, 0, none⟩)), (4, .pointer (some ⟨g4, 0, none⟩)), (5, .pointer (some ⟨go, 0, none⟩)), (18, .slice ak N cc), (19, .int .i64 N), (20, .int .i64 j), (25, .slice va j vc), (28, cv op2 k2 s2 (.slice a2 n2 c2)), (29, .int .i64 j), (30, .slice (some ⟨g30, 0, none⟩) 1 1)]) (m := [(g2, cO4 op k s ak N cc), (g4, cO4 0 0 [] none 0 0), (go, cO4 op k s va j vc), (g7, cO4 op1 k1 s1 a1 N1 cc1), (g30, .cells zero4.toArray 24 (0, 0))]) (fun J => ?_) ?_ ?_ ?_
        · exact rw_tail (by omega) hus hP2 (back2 _ _ _ (by simp [hus]) hP2)
        · kernel_rfl
        · kernel_rfl
        · kernel_rfl
set_option maxRecDepth 100000 in
seal rn rnN rnS Goes ans atEnd put0 putM opened openedY putA0 putA oneSt st0 keep put newOS rwK rwHead rwFix rwR0 in
theorem rewrite_new {rs : List Rl} (hrs : ∀ r ∈ rs, r ∈ rulesP) (c : Co) : RwNew rs c := by
  induction c using Co.ind with
  | h op k s kids ih =>
  intro z d v w A b kN hz hok hA hN hR hT
  have hF : ∀ x, F0 x → x < w.heap.size := fun x hx => hx.elim
  have hok2 := (rw_kids (rs := rs) hz (fun c _ => rw_good hrs c) hok).1.ok
  have h3 := ok_three hz hok
  obtain ⟨ak, cc, rfl, hfit, hcap, hkids⟩ := hN.open
  obtain ⟨N, hL⟩ : ∃ N, kids.length = N := ⟨_, rfl⟩
  rw [hL] at hcap h3 ⊢
  refine Goes.begin Tryz.func9 [] (fun _ => True) Holds.nil (by simp [Mem.ids]) (fun _ _ => trivial) ?_
  refine Goes.run3 [0, 0, 0, 2, 0] [] trivial fun g2 g4 go => ?_
  refine Goes.loop (α := KSt) 48 (fun a => [(1, .slice (some ⟨b, 0, none⟩) kN 27), (2, .pointer (some ⟨g2, 0, none⟩)), (4, .pointer (some ⟨g4, 0, none⟩)), (5, .pointer (some ⟨go, 0, none⟩)), (18, .slice ak N cc), (19, .int .i64 N), (20, .int .i64 a.j)]) (fun a => [(g2, cO4 op k s ak N cc), (g4, cO4 0 0 [] none 0 0), (go, cO4 op k s a.va a.j a.vc)]) (fun a w' => KI w a.B a.wf (.slice a.va a.j a.vc) a.j (flatV a.us) w') (fun a => a.us.length = a.j ∧ a.j ≤ N ∧ KPr w F0 rs kids a.us a.B a.wf) (fun a => N - a.j) ⟨0, none, 0, [], fun _ => False, w⟩ ⟨rfl, Nat.zero_le _, ⟨fun _ _ => rfl, by simp, by simp⟩⟩ (fun w' hI => ⟨hI.1, w'.ownsRow_nil _ _ _, fun x hx => hx.elim, fun r hr => by cases hr⟩) ?_
  rintro ⟨j, va, vc, us, B, wf⟩ J ⟨hus, hjN, hP⟩ back
  replace hus : us.length = j := hus
  replace hjN : j ≤ N := hjN
  replace hP : KPr w F0 rs kids us B wf := hP
  show Goes _ _ (KI w B wf (.slice va j vc) j (flatV us)) ⟨_, fr 48 [(1, .slice (some ⟨b, 0, none⟩) kN 27), (2, .pointer (some ⟨g2, 0, none⟩)), (4, .pointer (some ⟨g4, 0, none⟩)), (5, .pointer (some ⟨go, 0, none⟩)), (18, .slice ak N cc), (19, .int .i64 N), (20, .int .i64 j)] J, [(g2, cO4 op k s ak N cc), (g4, cO4 0 0 [] none 0 0), (go, cO4 op k s va j vc)]⟩
  cases hlt : decide ((j : Int) < (N : Int)) with
  | true =>
    have hjl : j < N := by have := of_decide_eq_true hlt; omega
    have back2 : ∀ (us' : List Value) (B2 : Nat → Prop) (wf2 : World), us'.length = j + 1 → KPr w F0 rs kids us' B2 wf2 → ∀ (a' : KSt) (s' : St), a'.j = j + 1 → a'.us = us' → a'.B = B2 → a'.wf = wf2 → s'.todo = rwHead → s'.tmps = fr 48 [(1, .slice (some ⟨b, 0, none⟩) kN 27), (2, .pointer (some ⟨g2, 0, none⟩)), (4, .pointer (some ⟨g4, 0, none⟩)), (5, .pointer (some ⟨go, 0, none⟩)), (18, .slice ak N cc), (19, .int .i64 N), (20, .int .i64 (j + 1 : Nat))] (jk s') → s'.mem = [(g2, cO4 op k s ak N cc), (g4, cO4 0 0 [] none 0 0), (go, cO4 op k s a'.va a'.j a'.vc)] → Goes Tryz.prog (bodyPost Tryz.prog Tryz.f9 (RwR w F0 (rwP rs (.mk op k s kids)))) (KI w a'.B a'.wf (.slice a'.va a'.j a'.vc) a'.j (flatV a'.us)) s' := by
      rintro us' B2 wf2 hl2 hP2 ⟨j', va', vc', us1, B1, wf1⟩ s' e1 e2 e3 e4 h1 h2 h3'
      simp only at e1 e2 e3 e4
      subst e1 e2 e3 e4
      exact back ⟨j + 1, va', vc', us1, B1, wf1⟩ s' ⟨hl2, by show j + 1 ≤ N; omega, hP2⟩ (by show N - (j + 1) < N - j; omega) (h1.trans (by kernel_rfl)) h2 h3'
    obtain ⟨c1, hc1⟩ : ∃ c1, kids[j]? = some c1 := ⟨kids[j]'(by omega), by simp⟩
    obtain ⟨zx, hzx, hokx⟩ := ok_kid hz hok hc1
    refine Goes.run [0, 1] [(decide ((j : Int) < (N : Int)), true)] ⟨hlt, trivial⟩ ?_
    obtain ⟨bk, ok, u1, hak, hbk', hcl, hNu⟩ := hkids j c1 hc1
    have hbk := hA _ hbk'
    obtain ⟨op1, k1, s1, a1, N1, cc1, rfl⟩ := hNu.cells
    have hcall : ∀ w1, Below w.heap.size w w1 → Calls Tryz.prog 9 #[cv op1 k1 s1 (.slice a1 N1 cc1), .slice (some ⟨b, 0, none⟩) kN 27] w1 (RwR w1 F0 (rwP rs c1)) := fun w1 hB => ih c1 (List.mem_of_getElem? hc1) zx (d + 1) _ w1 A b kN hzx hokx (fun x hx => Nat.lt_of_lt_of_le (hA x hx) hB.size) (hNu.bel hA hB) (hR.later hB) (hT.below hB)
    refine Goes.val (Instr.indexAt 22 (.slice ak N cc) (.int .i64 j)) (.pointer (some ⟨bk, ok + j * 4, none⟩)) (fun w' _ _ => by rw [hak]; exact idxC bk ok N cc j hjl w') ?_
    refine Goes.val (Instr.loadAt 24 (.pointer (some ⟨bk, ok + j * 4, none⟩))) (cv op1 k1 s1 (.slice a1 N1 cc1)) (fun w' hm hI => loadC (hcl.below hbk hI.now.bel)) ?_
    refine Goes.run1 [3] [] trivial fun g7 => ?_
    refine Goes.at (K := rwR0) (n := 48) (S := [(1, .slice (some ⟨b, 0, none⟩) kN 27), (2, .pointer (some ⟨g2, 0, none⟩)), (4, .pointer (some ⟨g4, 0, none⟩)), (5, .pointer (some ⟨go, 0, none⟩)), (18, .slice ak N cc), (19, .int .i64 N), (20, .int .i64 j), (7, .pointer (some ⟨g7, 0, none⟩))]) (m := [(g2, cO4 op k s ak N cc), (g4, cO4 0 0 [] none 0 0), (go, cO4 op k s va j vc), (g7, cO4 op1 k1 s1 a1 N1 cc1)]) (fun J => ?_) ?_ ?_ ?_
    · exact rw_kid hF (by omega) hus hP hc1 hcall back2
    · kernel_rfl
    · kernel_rfl
    · kernel_rfl
  | false =>
    have hjN' : j = N := by have := of_decide_eq_false hlt; omega
    refine Goes.run [0, 0] [(decide ((j : Int) < (N : Int)), false)] ⟨hlt, trivial⟩ ?_
    refine Goes.here (fun w1 => KI w (fun x => B x ∨ (Value.slice va j vc).ownBlock = some x) w1 (.slice none 0 0) 0 []) fun w1 hm1 hn1 hI1 => ⟨KI.rest hI1 (holds_lt hm1), ?_⟩
    have hk1 := hI1.now
    have hrl : (rwL rs kids).length = N := by rw [rwL_len, hL]
    have hN1 : NcS (fun x => F0 x ∨ (B x ∨ (Value.slice va j vc).ownBlock = some x)) w1 (cv op k s (.slice va N vc)) (.mk op k s (rwL rs kids)) := by
      have hold : ∀ x, F0 x ∨ B x → w1.heap[x]? = wf.heap[x]? := fun x hx => by
        rcases hx with hx | hx
        · rw [hP.old x hx, hk1.bel.block x (hF x hx)]
        · exact (hk1.stay x hx).1
      have hcp : N ≤ vc ∧ vc ≤ 9223372036854775807 := by
        rcases hk1.row.2 with ⟨e, h0⟩ | ⟨g, cap, cur, e, -, -, h1, h2, -⟩
        · cases e; omega
        · cases e; exact ⟨by omega, by unfold maxLen at h2; omega⟩
      rw [← hrl] at hcp ⊢
      refine .mk op k s (rwL rs kids) va vc (fun i => us.getD i undef) hfit hcp (fun i hi => ?_) (fun i t ht => ?_)
      · obtain ⟨u, hu⟩ : ∃ u, us[i]? = some u := ⟨us[i]'(by omega), by simp⟩
        obtain ⟨o3, k3, s3, a3, n3, c3, rfl⟩ := hP.four u (List.mem_of_getElem? hu)
        have hjpos : 0 < j := by have := (List.getElem?_eq_some_iff.1 hu).1; omega
        rcases hk1.row.2 with ⟨-, h0⟩ | ⟨g, cap, cur, e, -, -⟩
        · omega
        · cases e
          have hrow := hk1.row
          refine ⟨g, 0, rfl, .inr (.inr rfl), ⟨o3, k3, s3, .slice a3 n3 c3, by simp [List.getD, hu], ?_, ?_, ?_, ?_⟩⟩
          · have := row_cell hrow (flatV_at hP.len4 hu (j := 0) (v := .int .i64 o3) rfl); simpa using this
          · have := row_cell hrow (flatV_at hP.len4 hu (j := 1) (v := .int .i64 k3) rfl); simpa using this
          · have := row_cell hrow (flatV_at hP.len4 hu (j := 2) (v := strV s3) rfl); simpa using this
          · have := row_cell hrow (flatV_at hP.len4 hu (j := 3) (v := .slice a3 n3 c3) rfl); simpa using this
      · obtain ⟨c1, hc1⟩ : ∃ c1, kids[i]? = some c1 := by
          have := (List.getElem?_eq_some_iff.1 ht).1
          exact ⟨kids[i]'(by omega), by simp⟩
        rw [rwL_at rs hc1] at ht
        cases ht
        obtain ⟨u, hu⟩ : ∃ u, us[i]? = some u := ⟨us[i]'(by have := (List.getElem?_eq_some_iff.1 hc1).1; omega), by simp⟩
        have e : us.getD i undef = u := by simp [List.getD, hu]
        rw [e]
        exact ((hP.kids i u c1 hu hc1).later hold).mono fun x hx => hx.elim .inl fun hx => .inr (.inl hx)
    refine Goes.loop (α := FSt) 48 (fun _ => [(1, .slice (some ⟨b, 0, none⟩) kN 27), (2, .pointer (some ⟨g2, 0, none⟩)), (4, .pointer (some ⟨g4, 0, none⟩)), (5, .pointer (some ⟨go, 0, none⟩))])
      (fun f => [(g2, cO4 op k s ak N cc), (g4, cO4 0 0 [] none 0 0), (go, cO4 f.op f.k f.s f.a f.n f.cc)]) (fun f w' => KI w f.B f.wf (.slice none 0 0) 0 [] w')
      (fun f => okT z d f.c = true ∧ fixP rs f.c = rwP rs (.mk op k s kids) ∧ f.kids.length = f.n ∧ NcS (fun x => F0 x ∨ f.B x) f.wf (cv f.op f.k f.s (.slice f.a f.n f.cc)) f.c ∧ ∀ x, F0 x → f.wf.heap[x]? = w.heap[x]?) (fun f => (mu f.c).toNat)
      ⟨op, k, s, rwL rs kids, va, j, vc, fun x => B x ∨ (Value.slice va j vc).ownBlock = some x, w1⟩ ⟨hok2, by rw [rwP], by show (rwL rs kids).length = j; omega, by show NcS _ w1 (cv op k s (.slice va j vc)) _; rw [hjN'] at hN1 ⊢; exact hN1, fun x hx => hk1.bel.block x (hF x hx)⟩ (fun w' h => h) ?_
    clear hN1 hk1 hI1 hm1 hn1 w1 back hP
    rintro ⟨op', k', s', kids', a', n', cc', B', wf'⟩ J ⟨hok', hfix, hn', hNc, hAw⟩ back
    replace hok' : okT z d (.mk op' k' s' kids') = true := hok'
    replace hfix : fixP rs (.mk op' k' s' kids') = rwP rs (.mk op k s kids) := hfix
    replace hn' : kids'.length = n' := hn'
    replace hNc : NcS (fun x => F0 x ∨ B' x) wf' (cv op' k' s' (.slice a' n' cc')) (.mk op' k' s' kids') := hNc
    replace hAw : ∀ x, F0 x → wf'.heap[x]? = w.heap[x]? := hAw
    show Goes _ _ (KI w B' wf' (.slice none 0 0) 0 []) ⟨_, fr 48 [(1, .slice (some ⟨b, 0, none⟩) kN 27), (2, .pointer (some ⟨g2, 0, none⟩)), (4, .pointer (some ⟨g4, 0, none⟩)), (5, .pointer (some ⟨go, 0, none⟩))] J, [(g2, cO4 op k s ak N cc), (g4, cO4 0 0 [] none 0 0), (go, cO4 op' k' s' a' n' cc')]⟩
    have now : ∀ {w1 : World}, KI w B' wf' (.slice none 0 0) 0 [] w1 → NcS (fun x => F0 x ∨ B' x) w1 (cv op' k' s' (.slice a' n' cc')) (.mk op' k' s' kids') ∧ ∀ x, (F0 x ∨ B' x) → x < w1.heap.size := fun {w1} hI => by
      refine ⟨hNc.later fun x hx => ?_, fun x hx => ?_⟩
      · rcases hx with hx | hx
        · rw [hAw x hx, hI.bel.block x (hF x hx)]
        · exact (hI.stay x hx).1
      · rcases hx with hx | hx
        · exact Nat.lt_of_lt_of_le (hF x hx) hI.ch.size
        · exact (hI.stay x hx).2.2.lt
    have hDom : Dom (.mk op' k' s' kids') := ⟨z, d, hz, hok'⟩
    refine Goes.run [0] [] trivial ?_
    refine Goes.call 17 #[.slice (some ⟨b, 0, none⟩) kN 27, .func (.func 18) #[] #[.pointer (some ⟨go, 0, none⟩)]] fun w1 hm1 hn1 hI1 => (first_any (op := op') (k := k') (s := s') (a := a') (N := n') (cc := cc') (fun j b o hj => by match j, hj with | 0, hj => cases hj; exact hm1.get 2) (hR.later hI1.now.bel) hDom ((now hI1.now).1.toN (now hI1.now).2)).mono fun e w2 ⟨hc, hB12⟩ => ?_
    rcases hc with ⟨r, x, hf, hx, rfl⟩ | ⟨hf, rfl⟩
    · obtain ⟨hrin, hfit2⟩ := found_in hf
      obtain ⟨hst, hok4, hmu⟩ := fix_step hrs hz hok' hf
      have hM1 : Holds [(g2, cO4 op k s ak N cc), (g4, cO4 0 0 [] none 0 0), (go, cO4 op' k' s' a' n' cc')] w1 := fun j b o hj => by
        match j, hj with
        | 0, hj => cases hj; exact hm1.get 0
        | 1, hj => cases hj; exact hm1.get 1
        | 2, hj => cases hj; exact hm1.get 2
      refine ⟨_, fun w' => KI w B' wf' (.slice none 0 0) 0 [] w' ∧ Ch [g2, g4, go] w1 w', _, rfl, hm1.bel hB12, hn1, (hI1.bel hB12).and (fun w' hc => Ch.trans ⟨hB12.os, hB12.tape, hB12.output, hB12.size, fun i hi _ => hB12.block i hi⟩ hc (fun x hx => .inl (mem_eq hx))), ?_⟩
      refine Goes.run1 [3, 0, 3, 2] [(false, false)] ⟨rfl, trivial⟩ fun g8 => ?_
      refine Goes.callV x.g #[] #[cv op' k' s' (.slice a' n' cc')] x.gc hx.makes.1 fun w3 hm3 hn3 hI3 => ?_
      have hB13 : Below w1.heap.size w1 w3 := below_end hM1 hI3.now.2 hm3 (by kernel_rfl)
      refine (hx.makes.2 w3 hB13 (hT.below hI3.now.1.bel) _ _ (fun x => F0 x ∨ B' x) (now hI3.now.1).2 hDom hfit2 (now hI3.now.1).1).mono fun e w4 ⟨v4, he, hN4, hB34⟩ => ?_
      obtain ⟨op4, k4, s4, kids4, hc4⟩ : ∃ op4 k4 s4 kids4, r.becomes (.mk op' k' s' kids') = .mk op4 k4 s4 kids4 := by
        cases r.becomes (.mk op' k' s' kids') with
        | mk a b c d => exact ⟨a, b, c, d, rfl⟩
      rw [hc4] at hN4 hst hok4 hmu
      obtain ⟨a4, cc4, rfl, -, -, -⟩ := hN4.open
      refine ⟨_, _, _, he, hm3.bel hB34, hn3, KI.call (hI3.mono fun w' h => h.1) (holds_lt hm3) hB34, ?_⟩
      obtain ⟨n4, hn4⟩ : ∃ n4, kids4.length = n4 := ⟨_, rfl⟩
      rw [hn4] at hN4 ⊢
      refine Goes.run [2] [] trivial ?_
      refine Goes.keep 3 ?_
      exact back ⟨op4, k4, s4, kids4, a4, n4, cc4, fun x => B' x ∨ New w3 w4 x, w4⟩ _ ⟨hok4, hst.symm.trans hfix, hn4, hN4.mono fun x hx => by
        rcases hx with (hx | hx) | hx
        · exact .inl hx
        · exact .inr (.inl hx)
        · exact .inr (.inr hx), fun x hx => by
        rw [hB34.block x (Nat.lt_of_lt_of_le (hF x hx) hI3.now.1.ch.size), hI3.now.1.bel.block x (hF x hx)]⟩ hmu (Eq.trans (b := rwFix) (by kernel_rfl) (by kernel_rfl)) (by kernel_rfl) (by kernel_rfl)
    · refine ⟨_, _, _, rfl, hm1.bel hB12, hn1, hI1.bel hB12, ?_⟩
      refine Goes.run1 [3, 1, 2, 1] [(true, true)] ⟨rfl, trivial⟩ fun g8 => ?_
      refine Goes.ret [1] (cv op' k' s' (.slice a' n' cc')) fun w' hm hI => ⟨_, rfl, ?_, hI.now.bel⟩
      rw [← hfix, fix_none hf]
      refine (now hI.now).1.mono fun x hx => ?_
      rcases hx with hx | hx
      · exact .inl hx
      · exact .inr ⟨⟨(hI.now.stay x hx).2.1, (hI.now.stay x hx).2.2.lt⟩, (hI.now.stay x hx).2.2⟩
end Go.Proofs.YtjoplckpefoinaaGreatDoor
namespace Go.Proofs.YtjoplckpefoinaaGreatDoor
open Go Go.RowKit

/-- Are passes none? -/
def badP (n : Int) : Bool := !(IntKind.i64.wrap ((BitVec.ofInt 64 n &&& ~~~(BitVec.ofInt 64 15)).toNat : Nat) == 0)
theorem wrap_zero {x : Nat} (h : x < 18446744073709551616) : (IntKind.i64.wrap (x : Int) == 0) = (x == 0) := by
  rcases Nat.lt_or_ge x 9223372036854775808 with hl | hl
  · rw [IntWalk.i64_in _ ⟨by omega, by omega⟩]
    cases h0 : (x == 0) with
    | true => rw [eq_of_beq h0]; rfl
    | false =>
      rw [beq_eq_false_iff_ne] at h0 ⊢
      omega
  · have e : IntKind.i64.wrap (x : Int) = (x : Int) - 18446744073709551616 := by
      rw [IntKind.wrap_i64]
      omega
    rw [e]
    have h1 : ((x : Int) - 18446744073709551616 == 0) = false := by rw [beq_eq_false_iff_ne]; omega
    have h2 : (x == 0) = false := by rw [beq_eq_false_iff_ne]; omega
    rw [h1, h2]
theorem and_low (b : BitVec 64) : (b &&& ~~~(BitVec.ofInt 64 15)).toNat = 0 ↔ b.toNat < 16 := by
  constructor
  · intro h
    have hb : ∀ i, 4 ≤ i → b.toNat.testBit i = false := by
      intro i hi
      by_cases h64 : i < 64
      · have e : (b &&& ~~~(BitVec.ofInt 64 15)).getLsbD i = false := by
          show (b &&& ~~~(BitVec.ofInt 64 15)).toNat.testBit i = false
          rw [h]
          simp
        rw [BitVec.getLsbD_and, BitVec.getLsbD_not] at e
        have h15 : (BitVec.ofInt 64 15).getLsbD i = false := by
          show (15 : Nat).testBit i = false
          exact Nat.testBit_lt_two_pow (Nat.lt_of_lt_of_le (show 15 < 2 ^ 4 by decide) (Nat.pow_le_pow_right (by decide) hi))
        rw [h15] at e
        simp [h64] at e
        exact e
      · exact Nat.testBit_lt_two_pow (Nat.lt_of_lt_of_le b.isLt (Nat.pow_le_pow_right (by decide) (by omega)))
    exact Nat.lt_pow_two_of_testBit (n := 4) b.toNat hb
  · intro h
    apply Nat.eq_of_testBit_eq
    intro i
    rw [Nat.zero_testBit]
    show (b &&& ~~~(BitVec.ofInt 64 15)).getLsbD i = false
    rw [BitVec.getLsbD_and, BitVec.getLsbD_not]
    by_cases hi : 4 ≤ i
    · have : b.getLsbD i = false := Nat.testBit_lt_two_pow (Nat.lt_of_lt_of_le (show b.toNat < 2 ^ 4 from h) (Nat.pow_le_pow_right (by decide) hi))
      rw [this]
      rfl
    · have : (BitVec.ofInt 64 15).getLsbD i = true := by
        show (15 : Nat).testBit i = true
        have : i = 0 ∨ i = 1 ∨ i = 2 ∨ i = 3 := by omega
        rcases this with rfl | rfl | rfl | rfl <;> decide
      rw [this]
      simp
theorem bad_eq {n : Int} (h : -9223372036854775808 ≤ n ∧ n ≤ 9223372036854775807) : badP n = !(decide (0 ≤ n) && decide (n ≤ 15)) := by
  unfold badP
  rw [wrap_zero (BitVec.isLt _)]
  have h1 := and_low (BitVec.ofInt 64 n)
  have h2 : ((BitVec.ofInt 64 n).toNat : Int) = n % 18446744073709551616 := by
    rw [BitVec.toNat_ofInt]
    have := Int.emod_nonneg n (show (18446744073709551616 : Int) ≠ 0 by decide)
    show ((n % 18446744073709551616).toNat : Int) = _
    omega
  congr 1
  rw [Bool.eq_iff_iff, beq_iff_eq, h1]
  simp only [Bool.and_eq_true, decide_eq_true_eq]
  omega
theorem rules_sub (n : Int) : ∀ r ∈ rulesN n, r ∈ rulesP := fun _ hr => (List.mem_filter.1 hr).1
theorem chk_ok {c : Co} (h : (chkP c == 0) = true) : okT 4 1 c = true ∧ szC c ≤ 2000 ∧ ahC c = false := by
  have h := eq_of_beq h
  cases h4 : isOfP 4 c with
  | false => rw [chk_no h4] at h; cases h
  | true =>
    rw [chk_yes h4] at h
    have := (isOfP_eq 4 c).1 h4
    refine ⟨this.1, this.2, ?_⟩
    cases ha : ahC c with
    | false => rfl
    | true => rw [ha] at h; cases h
/-- What passes make of a contract. -/
noncomputable def doP (c : Co) (n : Int) : Option Co := bif badP n || !(chkP c == 0) then none else some (rwP (rulesN n) c)
/-- What is answered. -/
def DoR (w : World) (A : Nat → Prop) (r : Option Co) (e : Ending) (w' : World) : Prop := (match r with
  | none => e = .returned (.tuple #[cv 0 0 [] (.slice none 0 0), .int .i64 160])
  | some t => ∃ v', e = .returned (.tuple #[v', .int .i64 0]) ∧ NcS (Since A w w') w' v' t) ∧ Below w.heap.size w w'
set_option maxRecDepth 100000 in
seal rn rnN rnS Goes ans atEnd put0 putM opened openedY putA0 putA oneSt st0 keep put in
theorem do_new {c : Co} {v : Value} {w : World} {A : Nat → Prop} (n : Int) (hA : ∀ x, A x → x < w.heap.size) (hN : NcS A w v c) (hT : Tab w) : Calls Tryz.prog 5 #[v, .int .i64 n] w (DoR w F0 (doP c n)) := by
  obtain ⟨op, k, s, kids⟩ := c
  obtain ⟨ak, cc, rfl, -, -, -⟩ := hN.open
  obtain ⟨N, hL⟩ : ∃ N, kids.length = N := ⟨_, rfl⟩
  rw [hL] at hN ⊢
  refine Goes.begin Tryz.func5 [] (fun _ => True) Holds.nil (by simp [Mem.ids]) (fun _ _ => trivial) ?_
  cases hb : badP n with
  | true =>
    refine Goes.run2 [1, 1, 1] [(true, true), (badP n, true)] ⟨rfl, hb, trivial⟩ fun g2 g4 => ?_
    exact Goes.ret [1] (.tuple #[cv 0 0 [] (.slice none 0 0), .int .i64 160]) fun w' hm hI => ⟨by unfold doP; rw [hb]; rfl, bel0 hI⟩
  | false =>
    refine Goes.run2 [0, 0] [(badP n, false)] ⟨hb, trivial⟩ fun g2 g4 => ?_
    refine Goes.call0 8 #[cv op k s (.slice ak N cc)] (.int .i64 (chkP (.mk op k s kids))) (fun w' hm hI => check_any ((hN.bel hA (bel0 hI)).toN fun x hx => Nat.lt_of_lt_of_le (hA x hx) (bel0 hI).size)) ?_
    cases hc : (chkP (.mk op k s kids) == 0) with
    | false =>
      refine Goes.run [1, 1] [(!(chkP (.mk op k s kids) == 0), true)] ⟨by rw [hc]; rfl, trivial⟩ ?_
      exact Goes.ret [1] (.tuple #[cv 0 0 [] (.slice none 0 0), .int .i64 160]) fun w' hm hI => ⟨by unfold doP; rw [hb, hc]; rfl, bel0 hI⟩
    | true =>
      obtain ⟨hok, -, -⟩ := chk_ok hc
      refine Goes.run [0] [(!(chkP (.mk op k s kids) == 0), false)] ⟨by rw [hc]; rfl, trivial⟩ ?_
      refine Goes.open [0] ?_
      refine Goes.run [0, 0, 1] [] trivial ?_
      refine Goes.lone1 2 (TookS.callM 2 10 #[.int .i64 n] fun w1 hm1 hn1 hI1 h01 => (rulesOf_any n w1).mono fun e w2 ⟨kN, b, he, hR, hB12⟩ => ⟨_, fun w' => Ch [] w w' ∧ Ch [g2, g4] w2 w', _, he, h01.bel hB12, hm1.bel hB12, hn1, fun w3 hc3 => ⟨((hI1.bel hB12) w3 hc3).1, hc3.mono fun x hx => mem_eq hx⟩, ?_⟩)
      have hM2 : Holds [(g2, cO4 op k s ak N cc), (g4, cO4 0 0 [] none 0 0)] w2 := fun j b o hj => by
        match j, hj with
        | 0, hj => cases hj; exact (hm1.bel hB12).get 0
        | 1, hj => cases hj; exact (hm1.bel hB12).get 1
      refine Goes.lone1 3 (TookS.callM 3 9 #[cv op k s (.slice ak N cc), .slice (some ⟨b, 0, none⟩) kN 27] fun w3 hm3 hn3 hI3 h03 => ?_)
      have hB03 : Below w.heap.size w w3 := hI3.now.1.toB (fun x hx => by cases hx)
      refine (rewrite_new (rules_sub n) (.mk op k s kids) 4 1 (cv op k s (.slice ak N cc)) w3 A b kN (by unfold tyOk; omega) hok (fun x hx => Nat.lt_of_lt_of_le (hA x hx) hB03.size) (hN.bel hA hB03) (hR.later (below_end hM2 hI3.now.2 hm3 (by kernel_rfl))) (hT.below hB03)).mono fun e w4 ⟨v4, he4, hN4, hB34⟩ => ?_
      obtain ⟨op4, k4, s4, a4, n4, c4, rfl⟩ := hN4.cells
      refine ⟨_, fun w' => Ch [] w w' ∧ Ch [g2, g4] w4 w', _, he4, h03.bel hB34, hm3.bel hB34, hn3, fun w5 hc5 => ⟨((hI3.bel hB34) w5 hc5).1, hc5.mono fun x hx => mem_eq hx⟩, ?_⟩
      have hk3 : ∀ x ∈ [g2, g4], w.heap.size ≤ x ∧ x < w3.heap.size := fun x hx => ⟨fresh_of (L := []) (Q := fun _ => True) (hI3.mono fun w' h => ⟨h.1, trivial⟩) (mem_eq hx) (by simp), holds_lt hm3 x (mem_eq hx)⟩
      refine Goes.oneA 4 1 [0] ?_
      refine Goes.run [5] [] trivial ?_
      refine Goes.ret [1] (.tuple #[cv op4 k4 s4 (.slice a4 n4 c4), .int .i64 0]) fun w' hm hI => ⟨?_, hI.now.1.toB (fun x hx => by cases hx)⟩
      unfold doP
      rw [hb, hc]
      refine ⟨_, rfl, (hN4.later fun x hx => ?_).mono fun x hx => ?_⟩
      · refine hI.now.2.block x ?_ fun hm => ?_
        · exact (hx.resolve_left id).1.2
        · have := hk3 x hm
          have := (hx.resolve_left id).1
          omega
      · have := hx.resolve_left id
        have he := hI.now.2.block x this.1.2 fun hm => by have h3 := (hk3 x hm).2; have h4 := this.1.1; omega
        exact .inr ⟨⟨Nat.le_trans hB03.size this.1.1, Nat.lt_of_lt_of_le this.1.2 hI.now.2.size⟩, this.2.same he⟩
theorem do_any {c : Co} {v : Value} {w : World} {A : Nat → Prop} (n : Int) (hA : ∀ x, A x → x < w.heap.size) (hN : NcS A w v c) (hT : Tab w) : Calls Tryz.prog 5 #[v, .int .i64 n] w (DoR w A (doP c n)) := (do_new n hA hN hT).mono fun e w' ⟨h1, h2⟩ => by
  refine ⟨?_, h2⟩
  cases hd : doP c n with
  | none => rw [hd] at h1; exact h1
  | some t =>
    rw [hd] at h1
    obtain ⟨v', e1, h3⟩ := h1
    exact ⟨v', e1, h3.mono fun _ hx => .inr (hx.resolve_left id)⟩
end Go.Proofs.YtjoplckpefoinaaGreatDoor
namespace Go.Proofs.YtjoplckpefoinaaGreatDoor
open Go Go.RowKit

abbrev oneC0 : Co := .mk 26 0 [] [.mk 7 0 [] [numC 400000, numC 600000], .mk 24 0 [69, 85, 82] []]
theorem one_do : doP oneC0 3 = some (.mk 24 0 [69, 85, 82] []) := by kernel_rfl
theorem cell8 {w : World} {g : Nat} {cs : Array Value} {t : TypeId} (h : w.heap[g]? = some (.cells cs t (0, 0))) {i : Nat} {v : Value} (hv : cs[i]? = some v) : w.cell? ⟨g, i, none⟩ = some v := by
  unfold World.cell?
  rw [h]
  simpa using hv
/-- Two terms in a row make one. -/
theorem NcS.pair {A : Nat → Prop} {w : World} {g : Nat} {op k op1 k1 op2 k2 : Int} {s s1 s2 : List UInt8} {u1 u2 : Value} {c1 c2 : Co} {T : TypeId} (hg : w.heap[g]? = some (.cells #[.int .i64 op1, .int .i64 k1, strV s1, u1, .int .i64 op2, .int .i64 k2, strV s2, u2] T (0, 0))) (hA : A g) (hf : Fits op k s) (h1 : NcS A w (cv op1 k1 s1 u1) c1) (h2 : NcS A w (cv op2 k2 s2 u2) c2) : NcS A w (cv op k s (.slice (some ⟨g, 0, none⟩) 2 2)) (.mk op k s [c1, c2]) := by
  refine .mk op k s [c1, c2] (some ⟨g, 0, none⟩) 2 (fun i => match i with | 0 => cv op1 k1 s1 u1 | _ => cv op2 k2 s2 u2) hf ⟨by simp, by omega⟩ (fun i hi => ⟨g, 0, rfl, hA, ?_⟩) (fun i t ht => ?_)
  · match i, hi with
    | 0, _ => exact ⟨op1, k1, s1, u1, rfl, cell8 hg (i := 0) rfl, cell8 hg (i := 1) rfl, cell8 hg (i := 2) rfl, cell8 hg (i := 3) rfl⟩
    | 1, _ => exact ⟨op2, k2, s2, u2, rfl, cell8 hg (i := 4) rfl, cell8 hg (i := 5) rfl, cell8 hg (i := 6) rfl, cell8 hg (i := 7) rfl⟩
  · match i, ht with
    | 0, ht => cases ht; exact h1
    | 1, ht => cases ht; exact h2
theorem fit24 {A : Nat → Prop} (w : World) : NcS A w (cv 24 0 [69, 85, 82] (.slice none 0 0)) (.mk 24 0 [69, 85, 82] []) := .mk 24 0 [69, 85, 82] [] none 0 (fun _ => undef) ⟨by omega, by omega, by simp⟩ ⟨by simp, by omega⟩ (fun i hi => by simp at hi) (fun i t ht => by simp at ht)
set_option maxRecDepth 100000 in
seal rn rnN rnS Goes ans atEnd put0 putM opened openedY putA0 putA oneSt st0 keep put in
theorem shown16_any {w : World} (hT : Tab w) : Calls Tryz.prog 4 #[] w fun e w' => e = .returned (.bool true) ∧ Below w.heap.size w w' := by
  refine Goes.begin Tryz.func4 [] (fun _ => True) Holds.nil (by simp [Mem.ids]) (fun _ _ => trivial) ?_
  refine Goes.run3 [2, 2] [] trivial fun g6 g9 g1 => ?_
  refine Goes.call 5 #[cv 26 0 [] (.slice (some ⟨g9, 0, none⟩) 2 2), .int .i64 3] fun w1 hm1 hn1 hI1 => ?_
  have h6 : w1.heap[g6]? = some (.cells #[.int .i64 1, .int .i64 400000, strV [], .slice none 0 0, .int .i64 1, .int .i64 600000, strV [], .slice none 0 0] 24 (0, 0)) := hm1.get 0
  have h9 : w1.heap[g9]? = some (.cells #[.int .i64 7, .int .i64 0, strV [], .slice (some ⟨g6, 0, none⟩) 2 2, .int .i64 24, .int .i64 0, strV [69, 85, 82], .slice none 0 0] 24 (0, 0)) := hm1.get 1
  have hN : NcS (fun x => x = g6 ∨ x = g9) w1 (cv 26 0 [] (.slice (some ⟨g9, 0, none⟩) 2 2)) oneC0 := .pair h9 (.inr rfl) (show Fits 26 0 [] from ⟨by omega, by omega, by simp⟩) (.pair h6 (.inl rfl) (show Fits 7 0 [] from ⟨by omega, by omega, by simp⟩) (.leaf (show Fits 1 400000 [] from ⟨by omega, by omega, by simp⟩)) (.leaf (show Fits 1 600000 [] from ⟨by omega, by omega, by simp⟩))) (fit24 _)
  have hA : ∀ x, (x = g6 ∨ x = g9) → x < w1.heap.size := fun x hx => by
    rcases hx with rfl | rfl
    · exact lt_of_get h6
    · exact lt_of_get h9
  refine (do_any 3 hA hN (hT.below (bel0 hI1))).mono fun e w2 ⟨he, hB⟩ => ?_
  rw [one_do] at he
  obtain ⟨v', he, hN2⟩ := he
  obtain ⟨a, cc, rfl, -, -, -⟩ := hN2.open
  refine ⟨_, _, _, he, hm1.bel hB, hn1, hI1.bel hB, ?_⟩
  refine Goes.run1 [3, 1, 3, 1, 3] [(true, true), (true, true)] ⟨rfl, rfl, trivial⟩ fun g => ?_
  exact Goes.ret [] (.bool true) fun w' hm hI => ⟨rfl, bel0 hI⟩
end Go.Proofs.YtjoplckpefoinaaGreatDoor
namespace Go.Proofs.YtjoplckpefoinaaGreatDoor
open Go Go.RowKit

set_option maxRecDepth 100000 in
seal rn rnN rnS Goes ans atEnd put0 putM opened openedY putA0 putA oneSt st0 keep put in
theorem rnumber_any (op k n : Int) (s : List UInt8) (v : Value) (w : World) : Calls Tryz.prog 78 #[cv op k s v, .int .i64 n] w fun e w' => e = .returned (.bool (op == 1 && k == n)) ∧ Below w.heap.size w w' := by
  refine Goes.begin Tryz.func78 [] (fun _ => True) Holds.nil (by simp [Mem.ids]) (fun _ _ => trivial) ?_
  cases h : (op == 1) with
  | false =>
    refine Goes.run1 [0, 0] [((op == 1), false)] ⟨h, trivial⟩ fun g => ?_
    exact Goes.ret [] (.bool false) fun w' hm hI => ⟨rfl, bel0 hI⟩
  | true =>
    refine Goes.run1 [0, 1, 0] [((op == 1), true)] ⟨h, trivial⟩ fun g => ?_
    exact Goes.ret [] (.bool (k == n)) fun w' hm hI => ⟨rfl, bel0 hI⟩
set_option maxRecDepth 100000 in
seal rn rnN rnS Goes ans atEnd put0 putM opened openedY putA0 putA oneSt st0 keep put in
theorem rtruth_any (op k n : Int) (s : List UInt8) (v : Value) (w : World) : Calls Tryz.prog 79 #[cv op k s v, .int .i64 n] w fun e w' => e = .returned (.bool (op == 2 && k == n)) ∧ Below w.heap.size w w' := by
  refine Goes.begin Tryz.func79 [] (fun _ => True) Holds.nil (by simp [Mem.ids]) (fun _ _ => trivial) ?_
  cases h : (op == 2) with
  | false =>
    refine Goes.run1 [0, 0] [((op == 2), false)] ⟨h, trivial⟩ fun g => ?_
    exact Goes.ret [] (.bool false) fun w' hm hI => ⟨rfl, bel0 hI⟩
  | true =>
    refine Goes.run1 [0, 1, 0] [((op == 2), true)] ⟨h, trivial⟩ fun g => ?_
    exact Goes.ret [] (.bool (k == n)) fun w' hm hI => ⟨rfl, bel0 hI⟩
set_option maxRecDepth 100000 in
seal rn rnN rnS Goes ans atEnd put0 putM opened openedY putA0 putA oneSt st0 keep put in
theorem rconstant_any (op k : Int) (s : List UInt8) (v : Value) (w : World) : Calls Tryz.prog 76 #[cv op k s v] w fun e w' => e = .returned (.bool (op == 1 || op == 2 || op == 3)) ∧ Below w.heap.size w w' := by
  refine Goes.begin Tryz.func76 [] (fun _ => True) Holds.nil (by simp [Mem.ids]) (fun _ _ => trivial) ?_
  cases h : (op == 1) with
  | true =>
    refine Goes.run1 [0, 1, 1] [(true, true), ((op == 1), true)] ⟨rfl, h, trivial⟩ fun g => ?_
    exact Goes.ret [] (.bool true) fun w' hm hI => ⟨rfl, bel0 hI⟩
  | false =>
    cases h2 : (op == 2) with
    | true =>
      refine Goes.run1 [0, 0, 0, 1] [((op == 2), true), ((op == 1), false)] ⟨h2, h, trivial⟩ fun g => ?_
      exact Goes.ret [] (.bool true) fun w' hm hI => ⟨rfl, bel0 hI⟩
    | false =>
      refine Goes.run1 [0, 0, 0, 0, 0] [((op == 2), false), ((op == 1), false)] ⟨h2, h, trivial⟩ fun g => ?_
      exact Goes.ret [] (.bool (op == 3)) fun w' hm hI => ⟨rfl, bel0 hI⟩
end Go.Proofs.YtjoplckpefoinaaGreatDoor
namespace Go.Proofs.YtjoplckpefoinaaGreatDoor
open Go Go.RowKit

/-- A term's own value. -/
def Four (v : Value) : Prop := ∃ op k s a n c, v = cv op k s (.slice a n c)
theorem four_cv {op k : Int} {s : List UInt8} {a : Option Addr} {n c : Nat} : Four (cv op k s (.slice a n c)) := ⟨op, k, s, a, n, c, rfl⟩
/-- What a rule of the document's answers: a term, and whether it fits. -/
def OnR (w : World) (A : Nat → Prop) (r : Option Co) (e : Ending) (w' : World) : Prop := (match r with
  | none => ∃ v', e = .returned (.tuple #[v', .bool false]) ∧ Four v'
  | some t => ∃ v', e = .returned (.tuple #[v', .bool true]) ∧ NcS A w' v' t) ∧ Below w.heap.size w w'
set_option maxRecDepth 100000 in
seal rn rnN rnS Goes ans atEnd put0 putM opened openedY putA0 putA oneSt st0 keep put in
theorem robs_un_any {z d op k : Int} {s : List UInt8} {kids : List Co} {v : Value} {w : World} {A : Nat → Prop} (hA : ∀ x, A x → x < w.heap.size) (ho : op = 6 ∨ op = 14) (hz : tyOk z) (hok : okT z d (.mk op k s kids) = true) (hN : NcS A w v (.mk op k s kids)) : Calls Tryz.prog 44 #[v] w (OnR w A (obsQ (.mk op k s kids))) := by
  have hsh : ∃ t, rkP op = some ([t], t) := by rcases ho with rfl | rfl <;> exact ⟨_, rfl⟩
  obtain ⟨t, hr⟩ := hsh
  obtain ⟨rfl, -, -, hl, hk⟩ := shape hz hok hr (by rcases ho with rfl | rfl <;> omega)
  obtain ⟨c1, rfl, hc1⟩ := ok1 hk (by simpa using hl)
  obtain ⟨op1, k1, s1, kids1⟩ := c1
  obtain ⟨ak, cc, rfl, -, hcap, hkids⟩ := hN.open
  obtain ⟨bk, ok, u, rfl, hbk', hcl, hNu⟩ := hkids 0 _ rfl
  have hbk := hA _ hbk'
  obtain ⟨a1, cc1, rfl, hfit1, hcap1, hkids1⟩ := hNu.open
  obtain ⟨N1, hN1⟩ : ∃ N1, kids1.length = N1 := ⟨_, rfl⟩
  rw [hN1] at hcl hNu hcap1
  show Calls Tryz.prog 44 #[cv op k s (.slice (some ⟨bk, ok, none⟩) 1 cc)] w _
  refine Goes.begin Tryz.func44 [] (fun _ => True) Holds.nil (by simp [Mem.ids]) (fun _ _ => trivial) ?_
  refine Goes.run2 [0] [] trivial fun g r => ?_
  refine Goes.val (Instr.indexAt 22 (.slice (some ⟨bk, ok, none⟩) 1 cc) (.int .i64 (0 : Nat))) (.pointer (some ⟨bk, ok + 0 * 4, none⟩)) (fun w' _ _ => idxC bk ok 1 cc 0 (by omega) w') ?_
  refine Goes.val (Instr.loadAt 24 (.pointer (some ⟨bk, ok + 0 * 4, none⟩))) (cv op1 k1 s1 (.slice a1 N1 cc1)) (fun w' hm hI => loadC (hcl.below hbk (bel0 hI))) ?_
  have fin : ∀ (o : Int), op = o → (o = 6 ∨ o = 14) → (op1 == o) = true → ∃ b2 o2 x v2, a1 = some ⟨b2, o2, none⟩ ∧ b2 < w.heap.size ∧ 0 < N1 ∧ Cl4 w b2 (o2 + 0 * 4) v2 ∧ NcS A w v2 x ∧ kidC (kidC (.mk op k s [.mk op1 k1 s1 kids1]) 0) 0 = x ∧ ∃ q1 q2 q3 q4 q5 q6, v2 = cv q1 q2 q3 (.slice q4 q5 q6) := by
    intro o e1 e2 e3
    have e4 := eq_of_beq e3
    subst e1
    subst e4
    obtain ⟨-, -, -, hl1, hk1⟩ := shape hz hc1 hr (by omega)
    obtain ⟨x, rfl, -⟩ := ok1 hk1 (by simpa using hl1)
    obtain ⟨b2, o2, v2, e5, h1, h2, h3⟩ := hkids1 0 x rfl
    have hN1' : N1 = 1 := by rw [← hN1]; rfl
    obtain ⟨q1, q2, q3, q4⟩ := x
    obtain ⟨q5, q6, rfl, -⟩ := h3.open
    exact ⟨b2, o2, _, _, e5, hA _ h1, by omega, h2, h3, rfl, q1, q2, q3, q5, _, q6, rfl⟩
  rcases ho with rfl | rfl
  · cases hq : (op1 == 6) with
    | true =>
      obtain ⟨b2, o2, x, v2, rfl, hb2, h0, hcl2, hN2, hkx, q1, q2, q3, q4, q5, q6, rfl⟩ := fin 6 rfl (.inl rfl) hq
      refine Goes.run1 [2, 0, 1, 1, 2, 0, 1, 2] [((op1 == 6), true), (true, true), (true, true)] ⟨hq, rfl, rfl, trivial⟩ fun g4 => ?_
      refine Goes.val (Instr.indexAt 22 (.slice (some ⟨b2, o2, none⟩) N1 cc1) (.int .i64 (0 : Nat))) (.pointer (some ⟨b2, o2 + 0 * 4, none⟩)) (fun w' _ _ => idxC b2 o2 N1 cc1 0 h0 w') ?_
      refine Goes.val (Instr.loadAt 24 (.pointer (some ⟨b2, o2 + 0 * 4, none⟩))) (cv q1 q2 q3 (.slice q4 q5 q6)) (fun w' hm hI => loadC (hcl2.below hb2 (bel0 hI))) ?_
      refine Goes.run [1] [] trivial ?_
      refine Goes.ret [1] (.tuple #[cv q1 q2 q3 (.slice q4 q5 q6), .bool true]) fun w' hm hI => ⟨?_, bel0 hI⟩
      have e : obsQ (.mk 6 k s [.mk op1 k1 s1 kids1]) = some x := by
        rw [← hkx]
        show (bif (op1 == 6) then _ else _) = _
        rw [hq]
        rfl
      rw [e]
      exact ⟨_, rfl, hN2.bel hA (bel0 hI)⟩
    | false =>
      refine Goes.run1 [2, 0, 1, 1, 2, 0, 0, 0, 1] [((op1 == 6), false), (true, true), (true, true)] ⟨hq, rfl, rfl, trivial⟩ fun g4 => ?_
      refine Goes.ret [1] (.tuple #[cv 6 k s (.slice (some ⟨bk, ok, none⟩) 1 cc), .bool false]) fun w' hm hI => ⟨?_, bel0 hI⟩
      have e : obsQ (.mk 6 k s [.mk op1 k1 s1 kids1]) = none := by
        show (bif (op1 == 6) then _ else _) = _
        rw [hq]
        rfl
      rw [e]
      exact ⟨_, rfl, four_cv⟩
  · cases hq : (op1 == 14) with
    | true =>
      obtain ⟨b2, o2, x, v2, rfl, hb2, h0, hcl2, hN2, hkx, q1, q2, q3, q4, q5, q6, rfl⟩ := fin 14 rfl (.inr rfl) hq
      refine Goes.run1 [2, 0, 0, 0, 1, 2, 0, 1, 2] [((op1 == 14), true), (true, true), (false, false)] ⟨hq, rfl, rfl, trivial⟩ fun g4 => ?_
      refine Goes.val (Instr.indexAt 22 (.slice (some ⟨b2, o2, none⟩) N1 cc1) (.int .i64 (0 : Nat))) (.pointer (some ⟨b2, o2 + 0 * 4, none⟩)) (fun w' _ _ => idxC b2 o2 N1 cc1 0 h0 w') ?_
      refine Goes.val (Instr.loadAt 24 (.pointer (some ⟨b2, o2 + 0 * 4, none⟩))) (cv q1 q2 q3 (.slice q4 q5 q6)) (fun w' hm hI => loadC (hcl2.below hb2 (bel0 hI))) ?_
      refine Goes.run [1] [] trivial ?_
      refine Goes.ret [1] (.tuple #[cv q1 q2 q3 (.slice q4 q5 q6), .bool true]) fun w' hm hI => ⟨?_, bel0 hI⟩
      have e : obsQ (.mk 14 k s [.mk op1 k1 s1 kids1]) = some x := by
        rw [← hkx]
        show (bif (op1 == 14) then _ else _) = _
        rw [hq]
        rfl
      rw [e]
      exact ⟨_, rfl, hN2.bel hA (bel0 hI)⟩
    | false =>
      refine Goes.run1 [2, 0, 0, 0, 1, 2, 0, 0, 0, 1] [((op1 == 14), false), (true, true), (false, false)] ⟨hq, rfl, rfl, trivial⟩ fun g4 => ?_
      refine Goes.ret [1] (.tuple #[cv 14 k s (.slice (some ⟨bk, ok, none⟩) 1 cc), .bool false]) fun w' hm hI => ⟨?_, bel0 hI⟩
      have e : obsQ (.mk 14 k s [.mk op1 k1 s1 kids1]) = none := by
        show (bif (op1 == 14) then _ else _) = _
        rw [hq]
        rfl
      rw [e]
      exact ⟨_, rfl, four_cv⟩
end Go.Proofs.YtjoplckpefoinaaGreatDoor
namespace Go.Proofs.YtjoplckpefoinaaGreatDoor
open Go Go.RowKit
set_option maxRecDepth 100000 in
seal rn rnN rnS Goes ans atEnd put0 putM opened openedY putA0 putA oneSt st0 keep put in
theorem robs_7_any {z d k : Int} {s : List UInt8} {kids : List Co} {v : Value} {w : World} {A : Nat → Prop} (hA : ∀ x, A x → x < w.heap.size) (hz : tyOk z) (hok : okT z d (.mk 7 k s kids) = true) (hN : NcS A w v (.mk 7 k s kids)) : Calls Tryz.prog 44 #[v] w (OnR w A (obsQ (.mk 7 k s kids))) := by
  obtain ⟨rfl, -, -, hl, hk⟩ := shape hz hok (ks := [0, 0]) (t := 0) rfl (by omega)
  obtain ⟨c1, c2, rfl, hc1, hc2⟩ := ok2 hk (by simpa using hl)
  obtain ⟨op1, k1, s1, kids1⟩ := c1
  obtain ⟨op2, k2, s2, kids2⟩ := c2
  obtain ⟨ak, cc, rfl, -, hcap, hkids⟩ := hN.open
  obtain ⟨bk, ok, u, rfl, hbk', hcl, hNu⟩ := hkids 0 _ rfl
  obtain ⟨bk2, ok2', u2, e2, -, hcl2, hNu2⟩ := hkids 1 _ rfl
  cases e2
  have hbk := hA _ hbk'
  obtain ⟨a1, cc1, rfl, -⟩ := hNu.open
  obtain ⟨a2, cc2, rfl, -⟩ := hNu2.open
  obtain ⟨N1, hN1⟩ : ∃ N1, kids1.length = N1 := ⟨_, rfl⟩
  obtain ⟨N2, hN2⟩ : ∃ N2, kids2.length = N2 := ⟨_, rfl⟩
  rw [hN1] at hcl hNu
  rw [hN2] at hcl2 hNu2
  show Calls Tryz.prog 44 #[cv 7 k s (.slice (some ⟨bk, ok, none⟩) 2 cc)] w _
  refine Goes.begin Tryz.func44 [] (fun _ => True) Holds.nil (by simp [Mem.ids]) (fun _ _ => trivial) ?_
  refine Goes.run2 [0] [] trivial fun g r => ?_
  refine Goes.val (Instr.indexAt 22 (.slice (some ⟨bk, ok, none⟩) 2 cc) (.int .i64 (0 : Nat))) (.pointer (some ⟨bk, ok + 0 * 4, none⟩)) (fun w' _ _ => idxC bk ok 2 cc 0 (by omega) w') ?_
  refine Goes.val (Instr.loadAt 24 (.pointer (some ⟨bk, ok + 0 * 4, none⟩))) (cv op1 k1 s1 (.slice a1 N1 cc1)) (fun w' hm hI => loadC (hcl.below hbk (bel0 hI))) ?_
  refine Goes.run1 [2, 0, 0, 0, 0, 0] [(false, false), (false, false)] ⟨rfl, rfl, trivial⟩ fun g4 => ?_
  refine Goes.val (Instr.indexAt 22 (.slice (some ⟨bk, ok, none⟩) 2 cc) (.int .i64 (1 : Nat))) (.pointer (some ⟨bk, ok + 1 * 4, none⟩)) (fun w' _ _ => idxC bk ok 2 cc 1 (by omega) w') ?_
  refine Goes.val (Instr.loadAt 24 (.pointer (some ⟨bk, ok + 1 * 4, none⟩))) (cv op2 k2 s2 (.slice a2 N2 cc2)) (fun w' hm hI => loadC (hcl2.below hbk (bel0 hI))) ?_
  refine Goes.run1 [3, 0, 1, 3] [(true, true)] ⟨rfl, trivial⟩ fun g5 => ?_
  cases h1 : (op2 == 1 && k2 == 0) with
  | true =>
    refine Goes.call0 78 #[cv op2 k2 s2 (.slice a2 N2 cc2), .int .i64 0] (.bool true) (fun w' _ _ => by have := rnumber_any op2 k2 0 s2 (.slice a2 N2 cc2) w'; rw [h1] at this; exact this) ?_
    refine Goes.run [1, 2, 1] [(true, true)] ⟨rfl, trivial⟩ ?_
    refine Goes.ret [1] (.tuple #[cv op1 k1 s1 (.slice a1 N1 cc1), .bool true]) fun w' hm hI => ⟨?_, bel0 hI⟩
    have e : obsQ (.mk 7 k s [.mk op1 k1 s1 kids1, .mk op2 k2 s2 kids2]) = some (.mk op1 k1 s1 kids1) := by
      show (bif (op2 == 1 && k2 == 0) then _ else _) = _
      rw [h1]
      rfl
    rw [e]
    exact ⟨_, rfl, hNu.bel hA (bel0 hI)⟩
  | false =>
    refine Goes.call0 78 #[cv op2 k2 s2 (.slice a2 N2 cc2), .int .i64 0] (.bool false) (fun w' _ _ => by have := rnumber_any op2 k2 0 s2 (.slice a2 N2 cc2) w'; rw [h1] at this; exact this) ?_
    refine Goes.run [0] [(false, false)] ⟨rfl, trivial⟩ ?_
    cases h2 : (op1 == 1 && k1 == 0) with
    | true =>
      refine Goes.open [3, 2] ?_
      refine Goes.run [0, 0, 1, 1] [] trivial ?_
      refine Goes.callA0 2 78 #[cv op1 k1 s1 (.slice a1 N1 cc1), .int .i64 0] (.bool true) (fun w' _ _ => by have := rnumber_any op1 k1 0 s1 (.slice a1 N1 cc1) w'; rw [h2] at this; exact this) ?_
      refine Goes.oneA 3 1 [3, 2] ?_
      refine Goes.run [4] [] trivial ?_
      refine Goes.ret [1] (.tuple #[cv op2 k2 s2 (.slice a2 N2 cc2), .bool true]) fun w' hm hI => ⟨?_, bel0 hI⟩
      have e : obsQ (.mk 7 k s [.mk op1 k1 s1 kids1, .mk op2 k2 s2 kids2]) = some (.mk op2 k2 s2 kids2) := by
        show (bif (op2 == 1 && k2 == 0) then _ else _) = _
        rw [h1]
        show (bif (op1 == 1 && k1 == 0) then _ else _) = _
        rw [h2]
        rfl
      rw [e]
      exact ⟨_, rfl, hNu2.bel hA (bel0 hI)⟩
    | false =>
      refine Goes.open [3, 2] ?_
      refine Goes.run [0, 0, 1, 1] [] trivial ?_
      refine Goes.callA0 2 78 #[cv op1 k1 s1 (.slice a1 N1 cc1), .int .i64 0] (.bool false) (fun w' _ _ => by have := rnumber_any op1 k1 0 s1 (.slice a1 N1 cc1) w'; rw [h2] at this; exact this) ?_
      refine Goes.oneA 3 1 [3, 2] ?_
      refine Goes.run [4] [] trivial ?_
      refine Goes.ret [1] (.tuple #[cv op2 k2 s2 (.slice a2 N2 cc2), .bool false]) fun w' hm hI => ⟨?_, bel0 hI⟩
      have e : obsQ (.mk 7 k s [.mk op1 k1 s1 kids1, .mk op2 k2 s2 kids2]) = none := by
        show (bif (op2 == 1 && k2 == 0) then _ else _) = _
        rw [h1]
        show (bif (op1 == 1 && k1 == 0) then _ else _) = _
        rw [h2]
        rfl
      rw [e]
      exact ⟨_, rfl, four_cv⟩
set_option maxRecDepth 100000 in
seal rn rnN rnS Goes ans atEnd put0 putM opened openedY putA0 putA oneSt st0 keep put in
theorem robs_8_any {z d k : Int} {s : List UInt8} {kids : List Co} {v : Value} {w : World} {A : Nat → Prop} (hA : ∀ x, A x → x < w.heap.size) (hz : tyOk z) (hok : okT z d (.mk 8 k s kids) = true) (hN : NcS A w v (.mk 8 k s kids)) : Calls Tryz.prog 44 #[v] w (OnR w A (obsQ (.mk 8 k s kids))) := by
  obtain ⟨rfl, -, -, hl, hk⟩ := shape hz hok (ks := [0, 0]) (t := 0) rfl (by omega)
  obtain ⟨c1, c2, rfl, hc1, hc2⟩ := ok2 hk (by simpa using hl)
  obtain ⟨op1, k1, s1, kids1⟩ := c1
  obtain ⟨op2, k2, s2, kids2⟩ := c2
  obtain ⟨ak, cc, rfl, -, hcap, hkids⟩ := hN.open
  obtain ⟨bk, ok, u, rfl, hbk', hcl, hNu⟩ := hkids 0 _ rfl
  obtain ⟨bk2, ok2', u2, e2, -, hcl2, hNu2⟩ := hkids 1 _ rfl
  cases e2
  have hbk := hA _ hbk'
  obtain ⟨a1, cc1, rfl, -⟩ := hNu.open
  obtain ⟨a2, cc2, rfl, -⟩ := hNu2.open
  obtain ⟨N1, hN1⟩ : ∃ N1, kids1.length = N1 := ⟨_, rfl⟩
  obtain ⟨N2, hN2⟩ : ∃ N2, kids2.length = N2 := ⟨_, rfl⟩
  rw [hN1] at hcl hNu
  rw [hN2] at hcl2 hNu2
  show Calls Tryz.prog 44 #[cv 8 k s (.slice (some ⟨bk, ok, none⟩) 2 cc)] w _
  refine Goes.begin Tryz.func44 [] (fun _ => True) Holds.nil (by simp [Mem.ids]) (fun _ _ => trivial) ?_
  refine Goes.run2 [0] [] trivial fun g r => ?_
  refine Goes.val (Instr.indexAt 22 (.slice (some ⟨bk, ok, none⟩) 2 cc) (.int .i64 (0 : Nat))) (.pointer (some ⟨bk, ok + 0 * 4, none⟩)) (fun w' _ _ => idxC bk ok 2 cc 0 (by omega) w') ?_
  refine Goes.val (Instr.loadAt 24 (.pointer (some ⟨bk, ok + 0 * 4, none⟩))) (cv op1 k1 s1 (.slice a1 N1 cc1)) (fun w' hm hI => loadC (hcl.below hbk (bel0 hI))) ?_
  refine Goes.run1 [2, 0, 0, 0, 0, 0] [(false, false), (false, false)] ⟨rfl, rfl, trivial⟩ fun g4 => ?_
  refine Goes.val (Instr.indexAt 22 (.slice (some ⟨bk, ok, none⟩) 2 cc) (.int .i64 (1 : Nat))) (.pointer (some ⟨bk, ok + 1 * 4, none⟩)) (fun w' _ _ => idxC bk ok 2 cc 1 (by omega) w') ?_
  refine Goes.val (Instr.loadAt 24 (.pointer (some ⟨bk, ok + 1 * 4, none⟩))) (cv op2 k2 s2 (.slice a2 N2 cc2)) (fun w' hm hI => loadC (hcl2.below hbk (bel0 hI))) ?_
  refine Goes.run1 [3, 0, 0, 1] [(true, true), (false, false)] ⟨rfl, rfl, trivial⟩ fun g5 => ?_
  cases h1 : (op2 == 1 && k2 == 0) with
  | true =>
    refine Goes.open [2, 3] ?_
    refine Goes.run [0, 0, 1, 1] [] trivial ?_
    refine Goes.callA0 2 78 #[cv op2 k2 s2 (.slice a2 N2 cc2), .int .i64 0] (.bool true) (fun w' _ _ => by have := rnumber_any op2 k2 0 s2 (.slice a2 N2 cc2) w'; rw [h1] at this; exact this) ?_
    refine Goes.oneA 3 1 [2, 3] ?_
    refine Goes.run [4] [] trivial ?_
    refine Goes.ret [1] (.tuple #[cv op1 k1 s1 (.slice a1 N1 cc1), .bool true]) fun w' hm hI => ⟨?_, bel0 hI⟩
    have e : obsQ (.mk 8 k s [.mk op1 k1 s1 kids1, .mk op2 k2 s2 kids2]) = some (.mk op1 k1 s1 kids1) := by
      show (bif (op2 == 1 && k2 == 0) then _ else _) = _
      rw [h1]
      rfl
    rw [e]
    exact ⟨_, rfl, hNu.bel hA (bel0 hI)⟩
  | false =>
    refine Goes.open [2, 3] ?_
    refine Goes.run [0, 0, 1, 1] [] trivial ?_
    refine Goes.callA0 2 78 #[cv op2 k2 s2 (.slice a2 N2 cc2), .int .i64 0] (.bool false) (fun w' _ _ => by have := rnumber_any op2 k2 0 s2 (.slice a2 N2 cc2) w'; rw [h1] at this; exact this) ?_
    refine Goes.oneA 3 1 [2, 3] ?_
    refine Goes.run [4] [] trivial ?_
    refine Goes.ret [1] (.tuple #[cv op1 k1 s1 (.slice a1 N1 cc1), .bool false]) fun w' hm hI => ⟨?_, bel0 hI⟩
    have e : obsQ (.mk 8 k s [.mk op1 k1 s1 kids1, .mk op2 k2 s2 kids2]) = none := by
      show (bif (op2 == 1 && k2 == 0) then _ else _) = _
      rw [h1]
      rfl
    rw [e]
    exact ⟨_, rfl, four_cv⟩
set_option maxRecDepth 100000 in
seal rn rnN rnS Goes ans atEnd put0 putM opened openedY putA0 putA oneSt st0 keep put in
theorem robs_9_any {z d k : Int} {s : List UInt8} {kids : List Co} {v : Value} {w : World} {A : Nat → Prop} (hA : ∀ x, A x → x < w.heap.size) (hz : tyOk z) (hok : okT z d (.mk 9 k s kids) = true) (hN : NcS A w v (.mk 9 k s kids)) : Calls Tryz.prog 44 #[v] w (OnR w A (obsQ (.mk 9 k s kids))) := by
  obtain ⟨rfl, -, -, hl, hk⟩ := shape hz hok (ks := [0, 0]) (t := 0) rfl (by omega)
  obtain ⟨c1, c2, rfl, hc1, hc2⟩ := ok2 hk (by simpa using hl)
  obtain ⟨op1, k1, s1, kids1⟩ := c1
  obtain ⟨op2, k2, s2, kids2⟩ := c2
  obtain ⟨ak, cc, rfl, -, hcap, hkids⟩ := hN.open
  obtain ⟨bk, ok, u, rfl, hbk', hcl, hNu⟩ := hkids 0 _ rfl
  obtain ⟨bk2, ok2', u2, e2, -, hcl2, hNu2⟩ := hkids 1 _ rfl
  cases e2
  have hbk := hA _ hbk'
  obtain ⟨a1, cc1, rfl, -⟩ := hNu.open
  obtain ⟨a2, cc2, rfl, -⟩ := hNu2.open
  obtain ⟨N1, hN1⟩ : ∃ N1, kids1.length = N1 := ⟨_, rfl⟩
  obtain ⟨N2, hN2⟩ : ∃ N2, kids2.length = N2 := ⟨_, rfl⟩
  rw [hN1] at hcl hNu
  rw [hN2] at hcl2 hNu2
  show Calls Tryz.prog 44 #[cv 9 k s (.slice (some ⟨bk, ok, none⟩) 2 cc)] w _
  refine Goes.begin Tryz.func44 [] (fun _ => True) Holds.nil (by simp [Mem.ids]) (fun _ _ => trivial) ?_
  refine Goes.run2 [0] [] trivial fun g r => ?_
  refine Goes.val (Instr.indexAt 22 (.slice (some ⟨bk, ok, none⟩) 2 cc) (.int .i64 (0 : Nat))) (.pointer (some ⟨bk, ok + 0 * 4, none⟩)) (fun w' _ _ => idxC bk ok 2 cc 0 (by omega) w') ?_
  refine Goes.val (Instr.loadAt 24 (.pointer (some ⟨bk, ok + 0 * 4, none⟩))) (cv op1 k1 s1 (.slice a1 N1 cc1)) (fun w' hm hI => loadC (hcl.below hbk (bel0 hI))) ?_
  refine Goes.run1 [2, 0, 0, 0, 0, 0] [(false, false), (false, false)] ⟨rfl, rfl, trivial⟩ fun g4 => ?_
  refine Goes.val (Instr.indexAt 22 (.slice (some ⟨bk, ok, none⟩) 2 cc) (.int .i64 (1 : Nat))) (.pointer (some ⟨bk, ok + 1 * 4, none⟩)) (fun w' _ _ => idxC bk ok 2 cc 1 (by omega) w') ?_
  refine Goes.val (Instr.loadAt 24 (.pointer (some ⟨bk, ok + 1 * 4, none⟩))) (cv op2 k2 s2 (.slice a2 N2 cc2)) (fun w' hm hI => loadC (hcl2.below hbk (bel0 hI))) ?_
  refine Goes.run1 [3, 0, 0, 0, 1, 3] [(true, true), (false, false), (false, false)] ⟨rfl, rfl, rfl, trivial⟩ fun g5 => ?_
  cases h1 : (op2 == 1 && k2 == 1000000) with
  | true =>
    refine Goes.call0 78 #[cv op2 k2 s2 (.slice a2 N2 cc2), .int .i64 1000000] (.bool true) (fun w' _ _ => by have := rnumber_any op2 k2 1000000 s2 (.slice a2 N2 cc2) w'; rw [h1] at this; exact this) ?_
    refine Goes.run [1, 2, 1] [(true, true)] ⟨rfl, trivial⟩ ?_
    refine Goes.ret [1] (.tuple #[cv op1 k1 s1 (.slice a1 N1 cc1), .bool true]) fun w' hm hI => ⟨?_, bel0 hI⟩
    have e : obsQ (.mk 9 k s [.mk op1 k1 s1 kids1, .mk op2 k2 s2 kids2]) = some (.mk op1 k1 s1 kids1) := by
      show (bif (op2 == 1 && k2 == 1000000) then _ else _) = _
      rw [h1]
      rfl
    rw [e]
    exact ⟨_, rfl, hNu.bel hA (bel0 hI)⟩
  | false =>
    refine Goes.call0 78 #[cv op2 k2 s2 (.slice a2 N2 cc2), .int .i64 1000000] (.bool false) (fun w' _ _ => by have := rnumber_any op2 k2 1000000 s2 (.slice a2 N2 cc2) w'; rw [h1] at this; exact this) ?_
    refine Goes.run [0] [(false, false)] ⟨rfl, trivial⟩ ?_
    cases h2 : (op1 == 1 && k1 == 1000000) with
    | true =>
      refine Goes.open [3, 2] ?_
      refine Goes.run [0, 0, 1, 1] [] trivial ?_
      refine Goes.callA0 2 78 #[cv op1 k1 s1 (.slice a1 N1 cc1), .int .i64 1000000] (.bool true) (fun w' _ _ => by have := rnumber_any op1 k1 1000000 s1 (.slice a1 N1 cc1) w'; rw [h2] at this; exact this) ?_
      refine Goes.oneA 3 1 [3, 2] ?_
      refine Goes.run [4] [] trivial ?_
      refine Goes.ret [1] (.tuple #[cv op2 k2 s2 (.slice a2 N2 cc2), .bool true]) fun w' hm hI => ⟨?_, bel0 hI⟩
      have e : obsQ (.mk 9 k s [.mk op1 k1 s1 kids1, .mk op2 k2 s2 kids2]) = some (.mk op2 k2 s2 kids2) := by
        show (bif (op2 == 1 && k2 == 1000000) then _ else _) = _
        rw [h1]
        show (bif (op1 == 1 && k1 == 1000000) then _ else _) = _
        rw [h2]
        rfl
      rw [e]
      exact ⟨_, rfl, hNu2.bel hA (bel0 hI)⟩
    | false =>
      refine Goes.open [3, 2] ?_
      refine Goes.run [0, 0, 1, 1] [] trivial ?_
      refine Goes.callA0 2 78 #[cv op1 k1 s1 (.slice a1 N1 cc1), .int .i64 1000000] (.bool false) (fun w' _ _ => by have := rnumber_any op1 k1 1000000 s1 (.slice a1 N1 cc1) w'; rw [h2] at this; exact this) ?_
      refine Goes.oneA 3 1 [3, 2] ?_
      refine Goes.run [4] [] trivial ?_
      refine Goes.ret [1] (.tuple #[cv op2 k2 s2 (.slice a2 N2 cc2), .bool false]) fun w' hm hI => ⟨?_, bel0 hI⟩
      have e : obsQ (.mk 9 k s [.mk op1 k1 s1 kids1, .mk op2 k2 s2 kids2]) = none := by
        show (bif (op2 == 1 && k2 == 1000000) then _ else _) = _
        rw [h1]
        show (bif (op1 == 1 && k1 == 1000000) then _ else _) = _
        rw [h2]
        rfl
      rw [e]
      exact ⟨_, rfl, four_cv⟩
set_option maxRecDepth 100000 in
seal rn rnN rnS Goes ans atEnd put0 putM opened openedY putA0 putA oneSt st0 keep put in
theorem robs_10_any {z d k : Int} {s : List UInt8} {kids : List Co} {v : Value} {w : World} {A : Nat → Prop} (hA : ∀ x, A x → x < w.heap.size) (hz : tyOk z) (hok : okT z d (.mk 10 k s kids) = true) (hN : NcS A w v (.mk 10 k s kids)) : Calls Tryz.prog 44 #[v] w (OnR w A (obsQ (.mk 10 k s kids))) := by
  obtain ⟨rfl, -, -, hl, hk⟩ := shape hz hok (ks := [0, 0]) (t := 0) rfl (by omega)
  obtain ⟨c1, c2, rfl, hc1, hc2⟩ := ok2 hk (by simpa using hl)
  obtain ⟨op1, k1, s1, kids1⟩ := c1
  obtain ⟨op2, k2, s2, kids2⟩ := c2
  obtain ⟨ak, cc, rfl, -, hcap, hkids⟩ := hN.open
  obtain ⟨bk, ok, u, rfl, hbk', hcl, hNu⟩ := hkids 0 _ rfl
  obtain ⟨bk2, ok2', u2, e2, -, hcl2, hNu2⟩ := hkids 1 _ rfl
  cases e2
  have hbk := hA _ hbk'
  obtain ⟨a1, cc1, rfl, -⟩ := hNu.open
  obtain ⟨a2, cc2, rfl, -⟩ := hNu2.open
  obtain ⟨N1, hN1⟩ : ∃ N1, kids1.length = N1 := ⟨_, rfl⟩
  obtain ⟨N2, hN2⟩ : ∃ N2, kids2.length = N2 := ⟨_, rfl⟩
  rw [hN1] at hcl hNu
  rw [hN2] at hcl2 hNu2
  show Calls Tryz.prog 44 #[cv 10 k s (.slice (some ⟨bk, ok, none⟩) 2 cc)] w _
  refine Goes.begin Tryz.func44 [] (fun _ => True) Holds.nil (by simp [Mem.ids]) (fun _ _ => trivial) ?_
  refine Goes.run2 [0] [] trivial fun g r => ?_
  refine Goes.val (Instr.indexAt 22 (.slice (some ⟨bk, ok, none⟩) 2 cc) (.int .i64 (0 : Nat))) (.pointer (some ⟨bk, ok + 0 * 4, none⟩)) (fun w' _ _ => idxC bk ok 2 cc 0 (by omega) w') ?_
  refine Goes.val (Instr.loadAt 24 (.pointer (some ⟨bk, ok + 0 * 4, none⟩))) (cv op1 k1 s1 (.slice a1 N1 cc1)) (fun w' hm hI => loadC (hcl.below hbk (bel0 hI))) ?_
  refine Goes.run1 [2, 0, 0, 0, 0, 0] [(false, false), (false, false)] ⟨rfl, rfl, trivial⟩ fun g4 => ?_
  refine Goes.val (Instr.indexAt 22 (.slice (some ⟨bk, ok, none⟩) 2 cc) (.int .i64 (1 : Nat))) (.pointer (some ⟨bk, ok + 1 * 4, none⟩)) (fun w' _ _ => idxC bk ok 2 cc 1 (by omega) w') ?_
  refine Goes.val (Instr.loadAt 24 (.pointer (some ⟨bk, ok + 1 * 4, none⟩))) (cv op2 k2 s2 (.slice a2 N2 cc2)) (fun w' hm hI => loadC (hcl2.below hbk (bel0 hI))) ?_
  refine Goes.run1 [3, 0, 0, 0, 0, 1] [(true, true), (false, false), (false, false), (false, false)] ⟨rfl, rfl, rfl, rfl, trivial⟩ fun g5 => ?_
  cases h1 : (op2 == 1 && k2 == 1000000) with
  | true =>
    refine Goes.open [2, 3] ?_
    refine Goes.run [0, 0, 1, 1] [] trivial ?_
    refine Goes.callA0 2 78 #[cv op2 k2 s2 (.slice a2 N2 cc2), .int .i64 1000000] (.bool true) (fun w' _ _ => by have := rnumber_any op2 k2 1000000 s2 (.slice a2 N2 cc2) w'; rw [h1] at this; exact this) ?_
    refine Goes.oneA 3 1 [2, 3] ?_
    refine Goes.run [4] [] trivial ?_
    refine Goes.ret [1] (.tuple #[cv op1 k1 s1 (.slice a1 N1 cc1), .bool true]) fun w' hm hI => ⟨?_, bel0 hI⟩
    have e : obsQ (.mk 10 k s [.mk op1 k1 s1 kids1, .mk op2 k2 s2 kids2]) = some (.mk op1 k1 s1 kids1) := by
      show (bif (op2 == 1 && k2 == 1000000) then _ else _) = _
      rw [h1]
      rfl
    rw [e]
    exact ⟨_, rfl, hNu.bel hA (bel0 hI)⟩
  | false =>
    refine Goes.open [2, 3] ?_
    refine Goes.run [0, 0, 1, 1] [] trivial ?_
    refine Goes.callA0 2 78 #[cv op2 k2 s2 (.slice a2 N2 cc2), .int .i64 1000000] (.bool false) (fun w' _ _ => by have := rnumber_any op2 k2 1000000 s2 (.slice a2 N2 cc2) w'; rw [h1] at this; exact this) ?_
    refine Goes.oneA 3 1 [2, 3] ?_
    refine Goes.run [4] [] trivial ?_
    refine Goes.ret [1] (.tuple #[cv op1 k1 s1 (.slice a1 N1 cc1), .bool false]) fun w' hm hI => ⟨?_, bel0 hI⟩
    have e : obsQ (.mk 10 k s [.mk op1 k1 s1 kids1, .mk op2 k2 s2 kids2]) = none := by
      show (bif (op2 == 1 && k2 == 1000000) then _ else _) = _
      rw [h1]
      rfl
    rw [e]
    exact ⟨_, rfl, four_cv⟩
set_option maxRecDepth 100000 in
seal rn rnN rnS Goes ans atEnd put0 putM opened openedY putA0 putA oneSt st0 keep put in
theorem robs_15_any {z d k : Int} {s : List UInt8} {kids : List Co} {v : Value} {w : World} {A : Nat → Prop} (hA : ∀ x, A x → x < w.heap.size) (hz : tyOk z) (hok : okT z d (.mk 15 k s kids) = true) (hN : NcS A w v (.mk 15 k s kids)) : Calls Tryz.prog 44 #[v] w (OnR w A (obsQ (.mk 15 k s kids))) := by
  obtain ⟨rfl, -, -, hl, hk⟩ := shape hz hok (ks := [1, 1]) (t := 1) rfl (by omega)
  obtain ⟨c1, c2, rfl, hc1, hc2⟩ := ok2 hk (by simpa using hl)
  obtain ⟨op1, k1, s1, kids1⟩ := c1
  obtain ⟨op2, k2, s2, kids2⟩ := c2
  obtain ⟨ak, cc, rfl, -, hcap, hkids⟩ := hN.open
  obtain ⟨bk, ok, u, rfl, hbk', hcl, hNu⟩ := hkids 0 _ rfl
  obtain ⟨bk2, ok2', u2, e2, -, hcl2, hNu2⟩ := hkids 1 _ rfl
  cases e2
  have hbk := hA _ hbk'
  obtain ⟨a1, cc1, rfl, -⟩ := hNu.open
  obtain ⟨a2, cc2, rfl, -⟩ := hNu2.open
  obtain ⟨N1, hN1⟩ : ∃ N1, kids1.length = N1 := ⟨_, rfl⟩
  obtain ⟨N2, hN2⟩ : ∃ N2, kids2.length = N2 := ⟨_, rfl⟩
  rw [hN1] at hcl hNu
  rw [hN2] at hcl2 hNu2
  show Calls Tryz.prog 44 #[cv 15 k s (.slice (some ⟨bk, ok, none⟩) 2 cc)] w _
  refine Goes.begin Tryz.func44 [] (fun _ => True) Holds.nil (by simp [Mem.ids]) (fun _ _ => trivial) ?_
  refine Goes.run2 [0] [] trivial fun g r => ?_
  refine Goes.val (Instr.indexAt 22 (.slice (some ⟨bk, ok, none⟩) 2 cc) (.int .i64 (0 : Nat))) (.pointer (some ⟨bk, ok + 0 * 4, none⟩)) (fun w' _ _ => idxC bk ok 2 cc 0 (by omega) w') ?_
  refine Goes.val (Instr.loadAt 24 (.pointer (some ⟨bk, ok + 0 * 4, none⟩))) (cv op1 k1 s1 (.slice a1 N1 cc1)) (fun w' hm hI => loadC (hcl.below hbk (bel0 hI))) ?_
  refine Goes.run1 [2, 0, 0, 0, 0, 0] [(false, false), (false, false)] ⟨rfl, rfl, trivial⟩ fun g4 => ?_
  refine Goes.val (Instr.indexAt 22 (.slice (some ⟨bk, ok, none⟩) 2 cc) (.int .i64 (1 : Nat))) (.pointer (some ⟨bk, ok + 1 * 4, none⟩)) (fun w' _ _ => idxC bk ok 2 cc 1 (by omega) w') ?_
  refine Goes.val (Instr.loadAt 24 (.pointer (some ⟨bk, ok + 1 * 4, none⟩))) (cv op2 k2 s2 (.slice a2 N2 cc2)) (fun w' hm hI => loadC (hcl2.below hbk (bel0 hI))) ?_
  refine Goes.run1 [3, 0, 0, 0, 0, 0, 1, 2] [(true, true), (false, false), (false, false), (false, false), (false, false)] ⟨rfl, rfl, rfl, rfl, rfl, trivial⟩ fun g5 => ?_
  cases h1 : (op1 == 2 && k1 == 1) with
  | true =>
    refine Goes.call0 79 #[cv op1 k1 s1 (.slice a1 N1 cc1), .int .i64 1] (.bool true) (fun w' _ _ => by have := rtruth_any op1 k1 1 s1 (.slice a1 N1 cc1) w'; rw [h1] at this; exact this) ?_
    refine Goes.run [1, 3, 1] [(true, true)] ⟨rfl, trivial⟩ ?_
    refine Goes.ret [1] (.tuple #[cv op2 k2 s2 (.slice a2 N2 cc2), .bool true]) fun w' hm hI => ⟨?_, bel0 hI⟩
    have e : obsQ (.mk 15 k s [.mk op1 k1 s1 kids1, .mk op2 k2 s2 kids2]) = some (.mk op2 k2 s2 kids2) := by
      show (bif (op1 == 2 && k1 == 1) then _ else _) = _
      rw [h1]
      rfl
    rw [e]
    exact ⟨_, rfl, hNu2.bel hA (bel0 hI)⟩
  | false =>
    refine Goes.call0 79 #[cv op1 k1 s1 (.slice a1 N1 cc1), .int .i64 1] (.bool false) (fun w' _ _ => by have := rtruth_any op1 k1 1 s1 (.slice a1 N1 cc1) w'; rw [h1] at this; exact this) ?_
    refine Goes.run [0, 3] [(false, false)] ⟨rfl, trivial⟩ ?_
    cases h2 : (op2 == 2 && k2 == 1) with
    | true =>
      refine Goes.call0 79 #[cv op2 k2 s2 (.slice a2 N2 cc2), .int .i64 1] (.bool true) (fun w' _ _ => by have := rtruth_any op2 k2 1 s2 (.slice a2 N2 cc2) w'; rw [h2] at this; exact this) ?_
      refine Goes.run [1, 2, 1] [(true, true)] ⟨rfl, trivial⟩ ?_
      refine Goes.ret [1] (.tuple #[cv op1 k1 s1 (.slice a1 N1 cc1), .bool true]) fun w' hm hI => ⟨?_, bel0 hI⟩
      have e : obsQ (.mk 15 k s [.mk op1 k1 s1 kids1, .mk op2 k2 s2 kids2]) = some (.mk op1 k1 s1 kids1) := by
        show (bif (op1 == 2 && k1 == 1) then _ else _) = _
        rw [h1]
        show (bif (op2 == 2 && k2 == 1) then _ else _) = _
        rw [h2]
        rfl
      rw [e]
      exact ⟨_, rfl, hNu.bel hA (bel0 hI)⟩
    | false =>
      refine Goes.call0 79 #[cv op2 k2 s2 (.slice a2 N2 cc2), .int .i64 1] (.bool false) (fun w' _ _ => by have := rtruth_any op2 k2 1 s2 (.slice a2 N2 cc2) w'; rw [h2] at this; exact this) ?_
      refine Goes.run [0] [(false, false)] ⟨rfl, trivial⟩ ?_
      cases h3 : (op1 == 2 && k1 == 0) with
      | true =>
        refine Goes.open [2] ?_
        refine Goes.run [0, 0, 1, 0] [] trivial ?_
        refine Goes.callA0 2 79 #[cv op1 k1 s1 (.slice a1 N1 cc1), .int .i64 0] (.bool true) (fun w' _ _ => by have := rtruth_any op1 k1 0 s1 (.slice a1 N1 cc1) w'; rw [h3] at this; exact this) ?_
        refine Goes.oneA 3 1 [2] ?_
        refine Goes.run [4] [] trivial ?_
        refine Goes.ret [1] (.tuple #[cv op1 k1 s1 (.slice a1 N1 cc1), .bool true]) fun w' hm hI => ⟨?_, bel0 hI⟩
        have e : obsQ (.mk 15 k s [.mk op1 k1 s1 kids1, .mk op2 k2 s2 kids2]) = some (.mk op1 k1 s1 kids1) := by
          show (bif (op1 == 2 && k1 == 1) then _ else _) = _
          rw [h1]
          show (bif (op2 == 2 && k2 == 1) then _ else _) = _
          rw [h2]
          show (bif (op1 == 2 && k1 == 0) then _ else _) = _
          rw [h3]
          rfl
        rw [e]
        exact ⟨_, rfl, hNu.bel hA (bel0 hI)⟩
      | false =>
        refine Goes.open [2] ?_
        refine Goes.run [0, 0, 1, 0] [] trivial ?_
        refine Goes.callA0 2 79 #[cv op1 k1 s1 (.slice a1 N1 cc1), .int .i64 0] (.bool false) (fun w' _ _ => by have := rtruth_any op1 k1 0 s1 (.slice a1 N1 cc1) w'; rw [h3] at this; exact this) ?_
        refine Goes.oneA 3 1 [2] ?_
        refine Goes.run [4] [] trivial ?_
        refine Goes.ret [1] (.tuple #[cv op1 k1 s1 (.slice a1 N1 cc1), .bool false]) fun w' hm hI => ⟨?_, bel0 hI⟩
        have e : obsQ (.mk 15 k s [.mk op1 k1 s1 kids1, .mk op2 k2 s2 kids2]) = none := by
          show (bif (op1 == 2 && k1 == 1) then _ else _) = _
          rw [h1]
          show (bif (op2 == 2 && k2 == 1) then _ else _) = _
          rw [h2]
          show (bif (op1 == 2 && k1 == 0) then _ else _) = _
          rw [h3]
          rfl
        rw [e]
        exact ⟨_, rfl, four_cv⟩
set_option maxRecDepth 100000 in
seal rn rnN rnS Goes ans atEnd put0 putM opened openedY putA0 putA oneSt st0 keep put in
theorem robs_16_any {z d k : Int} {s : List UInt8} {kids : List Co} {v : Value} {w : World} {A : Nat → Prop} (hA : ∀ x, A x → x < w.heap.size) (hz : tyOk z) (hok : okT z d (.mk 16 k s kids) = true) (hN : NcS A w v (.mk 16 k s kids)) : Calls Tryz.prog 44 #[v] w (OnR w A (obsQ (.mk 16 k s kids))) := by
  obtain ⟨rfl, -, -, hl, hk⟩ := shape hz hok (ks := [1, 1]) (t := 1) rfl (by omega)
  obtain ⟨c1, c2, rfl, hc1, hc2⟩ := ok2 hk (by simpa using hl)
  obtain ⟨op1, k1, s1, kids1⟩ := c1
  obtain ⟨op2, k2, s2, kids2⟩ := c2
  obtain ⟨ak, cc, rfl, -, hcap, hkids⟩ := hN.open
  obtain ⟨bk, ok, u, rfl, hbk', hcl, hNu⟩ := hkids 0 _ rfl
  obtain ⟨bk2, ok2', u2, e2, -, hcl2, hNu2⟩ := hkids 1 _ rfl
  cases e2
  have hbk := hA _ hbk'
  obtain ⟨a1, cc1, rfl, -⟩ := hNu.open
  obtain ⟨a2, cc2, rfl, -⟩ := hNu2.open
  obtain ⟨N1, hN1⟩ : ∃ N1, kids1.length = N1 := ⟨_, rfl⟩
  obtain ⟨N2, hN2⟩ : ∃ N2, kids2.length = N2 := ⟨_, rfl⟩
  rw [hN1] at hcl hNu
  rw [hN2] at hcl2 hNu2
  show Calls Tryz.prog 44 #[cv 16 k s (.slice (some ⟨bk, ok, none⟩) 2 cc)] w _
  refine Goes.begin Tryz.func44 [] (fun _ => True) Holds.nil (by simp [Mem.ids]) (fun _ _ => trivial) ?_
  refine Goes.run2 [0] [] trivial fun g r => ?_
  refine Goes.val (Instr.indexAt 22 (.slice (some ⟨bk, ok, none⟩) 2 cc) (.int .i64 (0 : Nat))) (.pointer (some ⟨bk, ok + 0 * 4, none⟩)) (fun w' _ _ => idxC bk ok 2 cc 0 (by omega) w') ?_
  refine Goes.val (Instr.loadAt 24 (.pointer (some ⟨bk, ok + 0 * 4, none⟩))) (cv op1 k1 s1 (.slice a1 N1 cc1)) (fun w' hm hI => loadC (hcl.below hbk (bel0 hI))) ?_
  refine Goes.run1 [2, 0, 0, 0, 0, 0] [(false, false), (false, false)] ⟨rfl, rfl, trivial⟩ fun g4 => ?_
  refine Goes.val (Instr.indexAt 22 (.slice (some ⟨bk, ok, none⟩) 2 cc) (.int .i64 (1 : Nat))) (.pointer (some ⟨bk, ok + 1 * 4, none⟩)) (fun w' _ _ => idxC bk ok 2 cc 1 (by omega) w') ?_
  refine Goes.val (Instr.loadAt 24 (.pointer (some ⟨bk, ok + 1 * 4, none⟩))) (cv op2 k2 s2 (.slice a2 N2 cc2)) (fun w' hm hI => loadC (hcl2.below hbk (bel0 hI))) ?_
  refine Goes.run1 [3, 0, 0, 0, 0, 0, 0, 1, 2] [(true, true), (false, false), (false, false), (false, false), (false, false), (false, false)] ⟨rfl, rfl, rfl, rfl, rfl, rfl, trivial⟩ fun g5 => ?_
  cases h1 : (op1 == 2 && k1 == 0) with
  | true =>
    refine Goes.call0 79 #[cv op1 k1 s1 (.slice a1 N1 cc1), .int .i64 0] (.bool true) (fun w' _ _ => by have := rtruth_any op1 k1 0 s1 (.slice a1 N1 cc1) w'; rw [h1] at this; exact this) ?_
    refine Goes.run [1, 3, 1] [(true, true)] ⟨rfl, trivial⟩ ?_
    refine Goes.ret [1] (.tuple #[cv op2 k2 s2 (.slice a2 N2 cc2), .bool true]) fun w' hm hI => ⟨?_, bel0 hI⟩
    have e : obsQ (.mk 16 k s [.mk op1 k1 s1 kids1, .mk op2 k2 s2 kids2]) = some (.mk op2 k2 s2 kids2) := by
      show (bif (op1 == 2 && k1 == 0) then _ else _) = _
      rw [h1]
      rfl
    rw [e]
    exact ⟨_, rfl, hNu2.bel hA (bel0 hI)⟩
  | false =>
    refine Goes.call0 79 #[cv op1 k1 s1 (.slice a1 N1 cc1), .int .i64 0] (.bool false) (fun w' _ _ => by have := rtruth_any op1 k1 0 s1 (.slice a1 N1 cc1) w'; rw [h1] at this; exact this) ?_
    refine Goes.run [0, 3] [(false, false)] ⟨rfl, trivial⟩ ?_
    cases h2 : (op2 == 2 && k2 == 0) with
    | true =>
      refine Goes.call0 79 #[cv op2 k2 s2 (.slice a2 N2 cc2), .int .i64 0] (.bool true) (fun w' _ _ => by have := rtruth_any op2 k2 0 s2 (.slice a2 N2 cc2) w'; rw [h2] at this; exact this) ?_
      refine Goes.run [1, 2, 1] [(true, true)] ⟨rfl, trivial⟩ ?_
      refine Goes.ret [1] (.tuple #[cv op1 k1 s1 (.slice a1 N1 cc1), .bool true]) fun w' hm hI => ⟨?_, bel0 hI⟩
      have e : obsQ (.mk 16 k s [.mk op1 k1 s1 kids1, .mk op2 k2 s2 kids2]) = some (.mk op1 k1 s1 kids1) := by
        show (bif (op1 == 2 && k1 == 0) then _ else _) = _
        rw [h1]
        show (bif (op2 == 2 && k2 == 0) then _ else _) = _
        rw [h2]
        rfl
      rw [e]
      exact ⟨_, rfl, hNu.bel hA (bel0 hI)⟩
    | false =>
      refine Goes.call0 79 #[cv op2 k2 s2 (.slice a2 N2 cc2), .int .i64 0] (.bool false) (fun w' _ _ => by have := rtruth_any op2 k2 0 s2 (.slice a2 N2 cc2) w'; rw [h2] at this; exact this) ?_
      refine Goes.run [0] [(false, false)] ⟨rfl, trivial⟩ ?_
      cases h3 : (op1 == 2 && k1 == 1) with
      | true =>
        refine Goes.open [2] ?_
        refine Goes.run [0, 0, 1, 0] [] trivial ?_
        refine Goes.callA0 2 79 #[cv op1 k1 s1 (.slice a1 N1 cc1), .int .i64 1] (.bool true) (fun w' _ _ => by have := rtruth_any op1 k1 1 s1 (.slice a1 N1 cc1) w'; rw [h3] at this; exact this) ?_
        refine Goes.oneA 3 1 [2] ?_
        refine Goes.run [4] [] trivial ?_
        refine Goes.ret [1] (.tuple #[cv op1 k1 s1 (.slice a1 N1 cc1), .bool true]) fun w' hm hI => ⟨?_, bel0 hI⟩
        have e : obsQ (.mk 16 k s [.mk op1 k1 s1 kids1, .mk op2 k2 s2 kids2]) = some (.mk op1 k1 s1 kids1) := by
          show (bif (op1 == 2 && k1 == 0) then _ else _) = _
          rw [h1]
          show (bif (op2 == 2 && k2 == 0) then _ else _) = _
          rw [h2]
          show (bif (op1 == 2 && k1 == 1) then _ else _) = _
          rw [h3]
          rfl
        rw [e]
        exact ⟨_, rfl, hNu.bel hA (bel0 hI)⟩
      | false =>
        refine Goes.open [2] ?_
        refine Goes.run [0, 0, 1, 0] [] trivial ?_
        refine Goes.callA0 2 79 #[cv op1 k1 s1 (.slice a1 N1 cc1), .int .i64 1] (.bool false) (fun w' _ _ => by have := rtruth_any op1 k1 1 s1 (.slice a1 N1 cc1) w'; rw [h3] at this; exact this) ?_
        refine Goes.oneA 3 1 [2] ?_
        refine Goes.run [4] [] trivial ?_
        refine Goes.ret [1] (.tuple #[cv op1 k1 s1 (.slice a1 N1 cc1), .bool false]) fun w' hm hI => ⟨?_, bel0 hI⟩
        have e : obsQ (.mk 16 k s [.mk op1 k1 s1 kids1, .mk op2 k2 s2 kids2]) = none := by
          show (bif (op1 == 2 && k1 == 0) then _ else _) = _
          rw [h1]
          show (bif (op2 == 2 && k2 == 0) then _ else _) = _
          rw [h2]
          show (bif (op1 == 2 && k1 == 1) then _ else _) = _
          rw [h3]
          rfl
        rw [e]
        exact ⟨_, rfl, four_cv⟩
end Go.Proofs.YtjoplckpefoinaaGreatDoor
namespace Go.Proofs.YtjoplckpefoinaaGreatDoor
open Go

end Go.Proofs.YtjoplckpefoinaaGreatDoor
namespace Go.Proofs.YtjoplckpefoinaaGreatDoor
open Go

theorem del_bits {n : Int} (h0 : 0 ≤ n) (h1 : n ≤ 15) : (!delP 1 n) = (n.tmod 2 == 1) ∧ (!delP 2 n) = ((IntKind.i64.wrap (n.tdiv 2)).tmod 2 == 1) ∧ (!delP 4 n) = ((IntKind.i64.wrap (n.tdiv 4)).tmod 2 == 1) := by
  have : n = 0 ∨ n = 1 ∨ n = 2 ∨ n = 3 ∨ n = 4 ∨ n = 5 ∨ n = 6 ∨ n = 7 ∨ n = 8 ∨ n = 9 ∨ n = 10 ∨ n = 11 ∨ n = 12 ∨ n = 13 ∨ n = 14 ∨ n = 15 := by omega
  rcases this with rfl | rfl | rfl | rfl | rfl | rfl | rfl | rfl | rfl | rfl | rfl | rfl | rfl | rfl | rfl | rfl <;> decide
def leafy (op : Int) : Bool := !asksP op && !(op == 15 || op == 16 || op == 25 || op == 27 || op == 26 || op == 29 || op == 22 || op == 28 || op == 30)
theorem leaf_key {op z : Int} (h : rkP op = some ([], z)) : leafy op = true := by
  obtain ⟨o0, o1⟩ := op_small h
  have key : ∀ n : Fin 32, (match rkP ((n : Nat) : Int) with | some ([], _) => leafy ((n : Nat) : Int) | _ => true) = true := by decide
  have := key ⟨op.toNat, by omega⟩
  rw [show ((op.toNat : Nat) : Int) = op by omega] at this
  rw [h] at this
  exact this
/-- A term without kids is left as it is. -/
theorem once_leaf {z d op k : Int} {s : List UInt8} (hz : tyOk z) (h : okT z d (.mk op k s []) = true) (n : Int) : onceQ n (.mk op k s []) = none := by
  obtain ⟨ks, hl, -, -, -, hr⟩ := ok_inv hz h
  have hks : ks = [] := List.eq_nil_of_length_eq_zero hl.symm
  subst hks
  rcases hr with ⟨-, -, e⟩ | hr
  · cases e
  have hk := leaf_key hr
  unfold leafy at hk
  simp only [Bool.and_eq_true, Bool.not_eq_true', Bool.or_eq_false_iff] at hk
  obtain ⟨ha, hb⟩ := hk
  have ha' := ha
  unfold asksP at ha'
  simp only [Bool.or_eq_false_iff, Bool.and_eq_false_iff, decide_eq_false_iff_not, beq_eq_false_iff_ne] at ha'
  have n7 : ∀ o : Int, 7 ≤ o → o ≤ 13 → (op == o) = false := fun o h1 h2 => by rw [beq_eq_false_iff_ne]; omega
  have n6 : (op == 6) = false := by rw [beq_eq_false_iff_ne]; omega
  have n14 : (op == 14) = false := by rw [beq_eq_false_iff_ne]; omega
  unfold onceQ
  have hrk : rkdP (.mk op k s []) = false := by unfold rkdP; rw [show (Co.mk op k s []).op = op from rfl, ha]; rfl
  rw [hrk]
  simp only [obsQ, agrQ, braQ, Co.op, n6, n14, n7 7 (by omega) (by omega), n7 8 (by omega) (by omega), n7 9 (by omega) (by omega), n7 10 (by omega) (by omega), hb, Bool.or_self, cond_false, Bool.and_false, orQ]
  have hn : ∀ b : Bool, (bif b then (none : Option Co) else none) = none := fun b => by cases b <;> rfl
  simp only [hn]
end Go.Proofs.YtjoplckpefoinaaGreatDoor
namespace Go.Proofs.YtjoplckpefoinaaGreatDoor
open Go Go.RowKit

set_option maxRecDepth 100000 in
seal rn rnN rnS Goes ans atEnd put0 putM opened openedY putA0 putA oneSt st0 keep put in
theorem robs_no_any {op k : Int} {s : List UInt8} {kids : List Co} {v : Value} {w : World} {A : Nat → Prop} (hA : ∀ x, A x → x < w.heap.size) (h6 : (op == 6) = false) (h14 : (op == 14) = false) (h7 : (op == 7) = false) (h8 : (op == 8) = false) (h9 : (op == 9) = false) (h10 : (op == 10) = false) (h15 : (op == 15) = false) (h16 : (op == 16) = false) (h2 : 2 ≤ kids.length) (hN : NcS A w v (.mk op k s kids)) : Calls Tryz.prog 44 #[v] w (OnR w A (obsQ (.mk op k s kids))) := by
  obtain ⟨N, hL⟩ : ∃ N, kids.length = N := ⟨_, rfl⟩
  obtain ⟨x0, hx0⟩ : ∃ x, kids[0]? = some x := ⟨kids[0]'(by omega), by simp⟩
  obtain ⟨x1, hx1⟩ : ∃ x, kids[1]? = some x := ⟨kids[1]'(by omega), by simp⟩
  obtain ⟨op1, k1, s1, kids1⟩ := x0
  obtain ⟨op2, k2, s2, kids2⟩ := x1
  obtain ⟨ak, cc, rfl, -, hcap, hkids⟩ := hN.open
  obtain ⟨bk, ok, u, rfl, hbk', hcl, hNu⟩ := hkids 0 _ hx0
  obtain ⟨bk2, ok2', u2, e2, -, hcl2, hNu2⟩ := hkids 1 _ hx1
  cases e2
  have hbk := hA _ hbk'
  obtain ⟨a1, cc1, rfl, -⟩ := hNu.open
  obtain ⟨a2, cc2, rfl, -⟩ := hNu2.open
  obtain ⟨N1, hN1⟩ : ∃ N1, kids1.length = N1 := ⟨_, rfl⟩
  obtain ⟨N2, hN2⟩ : ∃ N2, kids2.length = N2 := ⟨_, rfl⟩
  rw [hN1] at hcl hNu
  rw [hN2] at hcl2 hNu2
  rw [hL] at h2 ⊢
  refine Goes.begin Tryz.func44 [] (fun _ => True) Holds.nil (by simp [Mem.ids]) (fun _ _ => trivial) ?_
  refine Goes.run2 [0] [] trivial fun g r => ?_
  refine Goes.val (Instr.indexAt 22 (.slice (some ⟨bk, ok, none⟩) N cc) (.int .i64 (0 : Nat))) (.pointer (some ⟨bk, ok + 0 * 4, none⟩)) (fun w' _ _ => idxC bk ok N cc 0 (by omega) w') ?_
  refine Goes.val (Instr.loadAt 24 (.pointer (some ⟨bk, ok + 0 * 4, none⟩))) (cv op1 k1 s1 (.slice a1 N1 cc1)) (fun w' hm hI => loadC (hcl.below hbk (bel0 hI))) ?_
  refine Goes.run1 [2, 0, 0, 0, 0, 0] [((op == 14), false), ((op == 6), false)] ⟨h14, h6, trivial⟩ fun g4 => ?_
  refine Goes.val (Instr.indexAt 22 (.slice (some ⟨bk, ok, none⟩) N cc) (.int .i64 (1 : Nat))) (.pointer (some ⟨bk, ok + 1 * 4, none⟩)) (fun w' _ _ => idxC bk ok N cc 1 (by omega) w') ?_
  refine Goes.val (Instr.loadAt 24 (.pointer (some ⟨bk, ok + 1 * 4, none⟩))) (cv op2 k2 s2 (.slice a2 N2 cc2)) (fun w' hm hI => loadC (hcl2.below hbk (bel0 hI))) ?_
  refine Goes.run1 [3, 0, 0, 0, 0, 0, 0, 0, 0, 1] [((op == 16), false), ((op == 15), false), ((op == 10), false), ((op == 9), false), ((op == 8), false), ((op == 7), false)] ⟨h16, h15, h10, h9, h8, h7, trivial⟩ fun g5 => ?_
  refine Goes.ret [1] (.tuple #[cv op k s (.slice (some ⟨bk, ok, none⟩) N cc), .bool false]) fun w' hm hI => ⟨?_, bel0 hI⟩
  have e : obsQ (.mk op k s kids) = none := by
    unfold obsQ
    simp only [Co.op, h6, h14, h7, h8, h9, h10, h15, h16, Bool.or_self, cond_false]
  rw [e]
  exact ⟨_, rfl, four_cv⟩
/-- The document's rules of observables. -/
theorem robs_any {z d op k : Int} {s : List UInt8} {kids : List Co} {v : Value} {w : World} {A : Nat → Prop} (hA : ∀ x, A x → x < w.heap.size) (hz : tyOk z) (hok : okT z d (.mk op k s kids) = true) (h23 : op < 23) (hk : kids ≠ []) (hN : NcS A w v (.mk op k s kids)) : Calls Tryz.prog 44 #[v] w (OnR w A (obsQ (.mk op k s kids))) := by
  have F : ∀ {o : Int}, ¬ op = o → (op == o) = false := fun {o} ho => by rw [beq_eq_false_iff_ne]; exact ho
  by_cases e6 : op = 6
  · exact robs_un_any hA (.inl e6) hz hok hN
  by_cases e14 : op = 14
  · exact robs_un_any hA (.inr e14) hz hok hN
  by_cases e7 : op = 7
  · subst e7; exact robs_7_any hA hz hok hN
  by_cases e8 : op = 8
  · subst e8; exact robs_8_any hA hz hok hN
  by_cases e9 : op = 9
  · subst e9; exact robs_9_any hA hz hok hN
  by_cases e10 : op = 10
  · subst e10; exact robs_10_any hA hz hok hN
  by_cases e15 : op = 15
  · subst e15; exact robs_15_any hA hz hok hN
  by_cases e16 : op = 16
  · subst e16; exact robs_16_any hA hz hok hN
  refine robs_no_any hA (F e6) (F e14) (F e7) (F e8) (F e9) (F e10) (F e15) (F e16) ?_ hN
  obtain ⟨ks, hl, -, -, -, hr⟩ := ok_inv hz hok
  rcases hr with ⟨-, -, e⟩ | hr
  · rw [hl, e]; simp
  · obtain ⟨o0, o1⟩ := op_small hr
    have key : ∀ n : Fin 23, (match rkP ((n : Nat) : Int) with | some (l, _) => l.isEmpty || decide (2 ≤ l.length) || ((n : Nat) : Int) == 6 || ((n : Nat) : Int) == 14 | none => true) = true := by decide
    have := key ⟨op.toNat, by omega⟩
    rw [show ((op.toNat : Nat) : Int) = op by omega] at this
    rw [hr] at this
    simp only [F e6, F e14, Bool.or_false, Bool.or_eq_true, decide_eq_true_eq, List.isEmpty_iff] at this
    rcases this with e | e
    · subst e; exact absurd (List.eq_nil_of_length_eq_zero hl) hk
    · omega
end Go.Proofs.YtjoplckpefoinaaGreatDoor
namespace Go.Proofs.YtjoplckpefoinaaGreatDoor
open Go Go.RowKit

theorem hold1 {w : World} {b : Nat} {ob : Obj} (h : w.heap[b]? = some ob) : Holds [(b, ob)] w := fun j b o hj => by
  match j, hj with
  | 0, hj => cases hj; exact h
set_option maxRecDepth 100000 in
seal rn rnN rnS Goes ans atEnd put0 putM opened openedY putA0 putA oneSt st0 keep put in
theorem ragr_25_any {z d k : Int} {s : List UInt8} {kids : List Co} {v : Value} {w : World} {A : Nat → Prop} (hA : ∀ x, A x → x < w.heap.size) (hz : tyOk z) (hok : okT z d (.mk 25 k s kids) = true) (hN : NcS A w v (.mk 25 k s kids)) : Calls Tryz.prog 45 #[v] w (OnR w A (agrQ (.mk 25 k s kids))) := by
  obtain ⟨rfl, -, -, hl, hk⟩ := shape hz hok (ks := [4]) (t := 4) rfl (by omega)
  obtain ⟨c1, rfl, hc1⟩ := ok1 hk (by simpa using hl)
  obtain ⟨op1, k1, s1, kids1⟩ := c1
  obtain ⟨ak, cc, rfl, -, hcap, hkids⟩ := hN.open
  obtain ⟨bk, ok, u, rfl, hbk', hcl, hNu⟩ := hkids 0 _ rfl
  have hbk := hA _ hbk'
  obtain ⟨a1, cc1, rfl, hfit1, hcap1, hkids1⟩ := hNu.open
  obtain ⟨N1, hN1⟩ : ∃ N1, kids1.length = N1 := ⟨_, rfl⟩
  rw [hN1] at hcl hNu hcap1
  show Calls Tryz.prog 45 #[cv 25 k s (.slice (some ⟨bk, ok, none⟩) 1 cc)] w _
  refine Goes.begin Tryz.func45 [] (fun _ => True) Holds.nil (by simp [Mem.ids]) (fun _ _ => trivial) ?_
  refine Goes.run2 [0] [] trivial fun g r => ?_
  refine Goes.val (Instr.indexAt 22 (.slice (some ⟨bk, ok, none⟩) 1 cc) (.int .i64 (0 : Nat))) (.pointer (some ⟨bk, ok + 0 * 4, none⟩)) (fun w' _ _ => idxC bk ok 1 cc 0 (by omega) w') ?_
  refine Goes.val (Instr.loadAt 24 (.pointer (some ⟨bk, ok + 0 * 4, none⟩))) (cv op1 k1 s1 (.slice a1 N1 cc1)) (fun w' hm hI => loadC (hcl.below hbk (bel0 hI))) ?_
  cases hq : (op1 == 25) with
  | true =>
    have e4 := eq_of_beq hq
    subst e4
    obtain ⟨-, -, -, hl1, hk1⟩ := shape hz hc1 (ks := [4]) (t := 4) rfl (by omega)
    obtain ⟨x, rfl, -⟩ := ok1 hk1 (by simpa using hl1)
    obtain ⟨b2, o2, v2, rfl, h1, hcl2, hN2⟩ := hkids1 0 x rfl
    have hN1' : N1 = 1 := by rw [← hN1]; rfl
    subst hN1'
    have hb2 := hA _ h1
    obtain ⟨q1, q2, q3, q4⟩ := x
    obtain ⟨q5, q6, rfl, -⟩ := hN2.open
    refine Goes.run1 [2, 0, 1, 2, 1, 2] [(true, true), (true, true)] ⟨rfl, rfl, trivial⟩ fun g4 => ?_
    refine Goes.val (Instr.indexAt 22 (.slice (some ⟨b2, o2, none⟩) 1 cc1) (.int .i64 (0 : Nat))) (.pointer (some ⟨b2, o2 + 0 * 4, none⟩)) (fun w' _ _ => idxC b2 o2 1 cc1 0 (by omega) w') ?_
    refine Goes.val (Instr.loadAt 24 (.pointer (some ⟨b2, o2 + 0 * 4, none⟩))) (cv q1 q2 q3 (.slice q5 q4.length q6)) (fun w' hm hI => loadC (hcl2.below hb2 (bel0 hI))) ?_
    refine Goes.run [1] [] trivial ?_
    refine Goes.ret [1] (.tuple #[cv q1 q2 q3 (.slice q5 q4.length q6), .bool true]) fun w' hm hI => ⟨?_, bel0 hI⟩
    exact ⟨_, rfl, hN2.bel hA (bel0 hI)⟩
  | false =>
    cases hr : (op1 == 23) with
    | true =>
      refine Goes.run1 [2, 0, 1, 2, 0] [((op1 == 25), false), (true, true)] ⟨hq, rfl, trivial⟩ fun g4 => ?_
      refine Goes.open [2] ?_
      refine Goes.run [0, 0, 1, 2, 0, 3] [] trivial ?_
      refine Goes.slot 24 (.bool true) (u := .bool (op1 == 23)) (congrArg _ hr) ?_
      refine Goes.oneA 4 1 [2] ?_
      refine Goes.run [5] [] trivial ?_
      refine Goes.ret [1] (.tuple #[cv op1 k1 s1 (.slice a1 N1 cc1), .bool true]) fun w' hm hI => ⟨?_, bel0 hI⟩
      have e : agrQ (.mk 25 k s [.mk op1 k1 s1 kids1]) = some (.mk op1 k1 s1 kids1) := by
        show (bif (op1 == 25) then _ else bif (op1 == 23) then _ else _) = _
        rw [hq, hr]
        rfl
      rw [e]
      exact ⟨_, rfl, hNu.bel hA (bel0 hI)⟩
    | false =>
      refine Goes.run1 [2, 0, 1, 2, 0] [((op1 == 25), false), (true, true)] ⟨hq, rfl, trivial⟩ fun g4 => ?_
      refine Goes.open [2] ?_
      refine Goes.run [0, 0, 1, 2, 0, 3] [] trivial ?_
      refine Goes.slot 24 (.bool false) (u := .bool (op1 == 23)) (congrArg _ hr) ?_
      refine Goes.oneA 4 1 [2] ?_
      refine Goes.run [5] [] trivial ?_
      refine Goes.ret [1] (.tuple #[cv op1 k1 s1 (.slice a1 N1 cc1), .bool false]) fun w' hm hI => ⟨?_, bel0 hI⟩
      have e : agrQ (.mk 25 k s [.mk op1 k1 s1 kids1]) = none := by
        show (bif (op1 == 25) then _ else bif (op1 == 23) then _ else _) = _
        rw [hq, hr]
        rfl
      rw [e]
      exact ⟨_, rfl, four_cv⟩
end Go.Proofs.YtjoplckpefoinaaGreatDoor
namespace Go.Proofs.YtjoplckpefoinaaGreatDoor
open Go Go.RowKit

theorem op_of {w : World} {b o : Nat} {op k : Int} {s : List UInt8} {u : Value} (h : Cl4 w b o (cv op k s u)) : w.cell? ⟨b, o, none⟩ = some (.int .i64 op) := by
  obtain ⟨_, _, _, _, e, h, -⟩ := h
  cases e
  exact h
set_option maxRecDepth 100000 in
seal rn rnN rnS Goes ans atEnd put0 putM opened openedY putA0 putA oneSt st0 keep put in
theorem ragr_27_any {z d k : Int} {s : List UInt8} {kids : List Co} {v : Value} {w : World} {A : Nat → Prop} (hA : ∀ x, A x → x < w.heap.size) (hz : tyOk z) (hok : okT z d (.mk 27 k s kids) = true) (hN : NcS A w v (.mk 27 k s kids)) : Calls Tryz.prog 45 #[v] w (OnR w A (agrQ (.mk 27 k s kids))) := by
  obtain ⟨rfl, -, -, hl, hk⟩ := shape hz hok (ks := [4, 4]) (t := 4) rfl (by omega)
  obtain ⟨c1, c2, rfl, hc1, hc2⟩ := ok2 hk (by simpa using hl)
  obtain ⟨op1, k1, s1, kids1⟩ := c1
  obtain ⟨op2, k2, s2, kids2⟩ := c2
  obtain ⟨ak, cc, rfl, -, hcap, hkids⟩ := hN.open
  obtain ⟨bk, ok, u, rfl, hbk', hcl, hNu⟩ := hkids 0 _ rfl
  obtain ⟨bk2, ok2', u2, e2, -, hcl2, hNu2⟩ := hkids 1 _ rfl
  cases e2
  have hbk := hA _ hbk'
  obtain ⟨a1, cc1, rfl, -⟩ := hNu.open
  obtain ⟨a2, cc2, rfl, -⟩ := hNu2.open
  obtain ⟨N1, hN1⟩ : ∃ N1, kids1.length = N1 := ⟨_, rfl⟩
  obtain ⟨N2, hN2⟩ : ∃ N2, kids2.length = N2 := ⟨_, rfl⟩
  rw [hN1] at hcl hNu
  rw [hN2] at hcl2 hNu2
  obtain ⟨ob, hob⟩ := blk_of hbk
  have hM := hold1 hob
  show Calls Tryz.prog 45 #[cv 27 k s (.slice (some ⟨bk, ok, none⟩) 2 cc)] w _
  refine Goes.begin Tryz.func45 [(bk, ob)] (fun _ => True) hM (by simp [Mem.ids]) (fun _ _ => trivial) ?_
  refine Goes.run2 [1] [] trivial fun g r => ?_
  refine Goes.val (Instr.indexAt 22 (.slice (some ⟨bk, ok, none⟩) 2 cc) (.int .i64 (0 : Nat))) (.pointer (some ⟨bk, ok + 0 * 4, none⟩)) (fun w' _ _ => idxC bk ok 2 cc 0 (by omega) w') ?_
  refine Goes.val (Instr.loadAt 24 (.pointer (some ⟨bk, ok + 0 * 4, none⟩))) (cv op1 k1 s1 (.slice a1 N1 cc1)) (fun w' hm hI => loadC (hcl.same ((hm.get 0).trans hob.symm))) ?_
  cases hq : (op1 == 23) with
  | true =>
    refine Goes.run1 [3, 1, 0, 1, 3, 1, 1] [((op1 == 23), true), (true, true), (false, false)] ⟨hq, rfl, rfl, trivial⟩ fun g4 => ?_
    refine Goes.val (Instr.indexAt 22 (.slice (some ⟨bk, ok, none⟩) 2 cc) (.int .i64 (1 : Nat))) (.pointer (some ⟨bk, ok + 1 * 4, none⟩)) (fun w' _ _ => idxC bk ok 2 cc 1 (by omega) w') ?_
    refine Goes.val (Instr.loadAt 24 (.pointer (some ⟨bk, ok + 1 * 4, none⟩))) (cv op2 k2 s2 (.slice a2 N2 cc2)) (fun w' hm hI => loadC (hcl2.same ((hm.get 0).trans hob.symm))) ?_
    refine Goes.run [2] [] trivial ?_
    refine Goes.ret [2] (.tuple #[cv op2 k2 s2 (.slice a2 N2 cc2), .bool true]) fun w' hm hI => ⟨?_, below_end hM hI.now.1 hm (by kernel_rfl)⟩
    have hB := below_end hM hI.now.1 hm (by kernel_rfl)
    have e : agrQ (.mk 27 k s [.mk op1 k1 s1 kids1, .mk op2 k2 s2 kids2]) = some (.mk op2 k2 s2 kids2) := by
      show (bif (op1 == 23) then _ else _) = _
      rw [hq]
      rfl
    rw [e]
    exact ⟨_, rfl, hNu2.bel hA hB⟩
  | false =>
    cases hr : (op2 == 23) with
    | true =>
      refine Goes.run1 [3, 1, 0, 1, 3, 0] [((op1 == 23), false), (true, true), (false, false)] ⟨hq, rfl, rfl, trivial⟩ fun g4 => ?_
      refine Goes.open [3, 1, 0] ?_
      refine Goes.run [0, 0, 1, 2, 1] [] trivial ?_
      refine Goes.valA 3 (Instr.indexAt 22 (.slice (some ⟨bk, ok, none⟩) 2 cc) (.int .i64 (1 : Nat))) (.pointer (some ⟨bk, ok + 1 * 4, none⟩)) (fun w' _ => idxC bk ok 2 cc 1 (by omega) w') ?_
      refine Goes.run [4] [] trivial ?_
      refine Goes.valA 5 (Instr.loadAt 3 (.pointer (some ⟨bk, ok + 1 * 4, none⟩))) (.int .i64 op2) (fun w' hm => load1 Tryz.isAgg3 (op_of (hcl2.same ((hm.get 2).trans hob.symm)))) ?_
      refine Goes.run [6] [] trivial ?_
      refine Goes.slot 40 (.bool true) (u := .bool (op2 == 23)) (congrArg _ hr) ?_
      refine Goes.oneA 7 2 [3, 1, 0] ?_
      refine Goes.run [8] [] trivial ?_
      refine Goes.ret [2] (.tuple #[cv op1 k1 s1 (.slice a1 N1 cc1), .bool true]) fun w' hm hI => ⟨?_, below_end hM hI.now.1 hm (by kernel_rfl)⟩
      have hB := below_end hM hI.now.1 hm (by kernel_rfl)
      have e : agrQ (.mk 27 k s [.mk op1 k1 s1 kids1, .mk op2 k2 s2 kids2]) = some (.mk op1 k1 s1 kids1) := by
        show (bif (op1 == 23) then _ else bif (op2 == 23) then _ else _) = _
        rw [hq, hr]
        rfl
      rw [e]
      exact ⟨_, rfl, hNu.bel hA hB⟩
    | false =>
      refine Goes.run1 [3, 1, 0, 1, 3, 0] [((op1 == 23), false), (true, true), (false, false)] ⟨hq, rfl, rfl, trivial⟩ fun g4 => ?_
      refine Goes.open [3, 1, 0] ?_
      refine Goes.run [0, 0, 1, 2, 1] [] trivial ?_
      refine Goes.valA 3 (Instr.indexAt 22 (.slice (some ⟨bk, ok, none⟩) 2 cc) (.int .i64 (1 : Nat))) (.pointer (some ⟨bk, ok + 1 * 4, none⟩)) (fun w' _ => idxC bk ok 2 cc 1 (by omega) w') ?_
      refine Goes.run [4] [] trivial ?_
      refine Goes.valA 5 (Instr.loadAt 3 (.pointer (some ⟨bk, ok + 1 * 4, none⟩))) (.int .i64 op2) (fun w' hm => load1 Tryz.isAgg3 (op_of (hcl2.same ((hm.get 2).trans hob.symm)))) ?_
      refine Goes.run [6] [] trivial ?_
      refine Goes.slot 40 (.bool false) (u := .bool (op2 == 23)) (congrArg _ hr) ?_
      refine Goes.oneA 7 2 [3, 1, 0] ?_
      refine Goes.run [8] [] trivial ?_
      refine Goes.ret [2] (.tuple #[cv op1 k1 s1 (.slice a1 N1 cc1), .bool false]) fun w' hm hI => ⟨?_, below_end hM hI.now.1 hm (by kernel_rfl)⟩
      have e : agrQ (.mk 27 k s [.mk op1 k1 s1 kids1, .mk op2 k2 s2 kids2]) = none := by
        show (bif (op1 == 23) then _ else bif (op2 == 23) then _ else _) = _
        rw [hq, hr]
        rfl
      rw [e]
      exact ⟨_, rfl, four_cv⟩
end Go.Proofs.YtjoplckpefoinaaGreatDoor
namespace Go.Proofs.YtjoplckpefoinaaGreatDoor
open Go Go.RowKit

set_option maxRecDepth 100000 in
seal rn rnN rnS Goes ans atEnd put0 putM opened openedY putA0 putA oneSt st0 keep put in
theorem ragr_29_any {z d k : Int} {s : List UInt8} {kids : List Co} {v : Value} {w : World} {A : Nat → Prop} (hA : ∀ x, A x → x < w.heap.size) (hz : tyOk z) (hok : okT z d (.mk 29 k s kids) = true) (hN : NcS A w v (.mk 29 k s kids)) : Calls Tryz.prog 45 #[v] w (OnR w A (agrQ (.mk 29 k s kids))) := by
  obtain ⟨rfl, -, -, hl, hk⟩ := shape hz hok (ks := [4]) (t := 4) rfl (by omega)
  obtain ⟨c1, rfl, hc1⟩ := ok1 hk (by simpa using hl)
  obtain ⟨op1, k1, s1, kids1⟩ := c1
  obtain ⟨ak, cc, rfl, -, hcap, hkids⟩ := hN.open
  obtain ⟨bk, ok, u, rfl, hbk', hcl, hNu⟩ := hkids 0 _ rfl
  have hbk := hA _ hbk'
  obtain ⟨a1, cc1, rfl, hfit1, hcap1, hkids1⟩ := hNu.open
  obtain ⟨N1, hN1⟩ : ∃ N1, kids1.length = N1 := ⟨_, rfl⟩
  rw [hN1] at hcl hNu hcap1
  show Calls Tryz.prog 45 #[cv 29 k s (.slice (some ⟨bk, ok, none⟩) 1 cc)] w _
  refine Goes.begin Tryz.func45 [] (fun _ => True) Holds.nil (by simp [Mem.ids]) (fun _ _ => trivial) ?_
  refine Goes.run2 [0] [] trivial fun g r => ?_
  refine Goes.val (Instr.indexAt 22 (.slice (some ⟨bk, ok, none⟩) 1 cc) (.int .i64 (0 : Nat))) (.pointer (some ⟨bk, ok + 0 * 4, none⟩)) (fun w' _ _ => idxC bk ok 1 cc 0 (by omega) w') ?_
  refine Goes.val (Instr.loadAt 24 (.pointer (some ⟨bk, ok + 0 * 4, none⟩))) (cv op1 k1 s1 (.slice a1 N1 cc1)) (fun w' hm hI => loadC (hcl.below hbk (bel0 hI))) ?_
  have e : (if k1 > k then k1 else k) = max k k1 := by rw [Int.max_def]; split <;> split <;> omega
  cases hq : (op1 == 29) with
  | true =>
    refine Goes.run2 [2, 0, 0, 0, 0, 1, 0, 2, 0, 2, 3] [(true, true), (false, false), (false, false), (false, false)] ⟨rfl, rfl, rfl, rfl, trivial⟩ fun g4 g5 => ?_
    refine Goes.open [3, 2] ?_
    refine Goes.run [0, 0, 1, 2, 1, 3] [] trivial ?_
    refine Goes.slot 77 (.bool true) (u := .bool (op1 == 29)) (congrArg _ hq) ?_
    refine Goes.oneA 4 1 [3, 2] ?_
    refine Goes.run [5] [] trivial ?_
    refine Goes.ret [1] (.tuple #[cv 29 (if k1 > k then k1 else k) [] (.slice a1 N1 cc1), .bool true]) fun w' hm hI => ⟨?_, bel0 hI⟩
    have e1 : agrQ (.mk 29 k s [.mk op1 k1 s1 kids1]) = some (.mk 29 (max k k1) [] kids1) := by
      show (bif (op1 == 29) then _ else _) = _
      rw [hq]
      rfl
    rw [e1, e]
    have e4 := eq_of_beq hq
    subst e4
    have hgood : okT 4 d (.mk 29 (max k k1) [] kids1) = true := (g_29 hz hok rfl).1.ok
    exact ⟨_, rfl, (hNu.bel hA (bel0 hI)).rehead (ok_fits t4 hgood)⟩
  | false =>
    refine Goes.run2 [2, 0, 0, 0, 0, 1, 0, 2, 0, 2, 3] [(true, true), (false, false), (false, false), (false, false)] ⟨rfl, rfl, rfl, rfl, trivial⟩ fun g4 g5 => ?_
    refine Goes.open [3, 2] ?_
    refine Goes.run [0, 0, 1, 2, 1, 3] [] trivial ?_
    refine Goes.slot 77 (.bool false) (u := .bool (op1 == 29)) (congrArg _ hq) ?_
    refine Goes.oneA 4 1 [3, 2] ?_
    refine Goes.run [5] [] trivial ?_
    refine Goes.ret [1] (.tuple #[cv 29 (if k1 > k then k1 else k) [] (.slice a1 N1 cc1), .bool false]) fun w' hm hI => ⟨?_, bel0 hI⟩
    have e1 : agrQ (.mk 29 k s [.mk op1 k1 s1 kids1]) = none := by
      show (bif (op1 == 29) then _ else _) = _
      rw [hq]
      rfl
    rw [e1]
    exact ⟨_, rfl, four_cv⟩
set_option maxRecDepth 100000 in
seal rn rnN rnS Goes ans atEnd put0 putM opened openedY putA0 putA oneSt st0 keep put in
theorem ragr_no_any {op k : Int} {s : List UInt8} {kids : List Co} {v : Value} {w : World} {A : Nat → Prop} (hA : ∀ x, A x → x < w.heap.size) (h25 : (op == 25) = false) (h27 : (op == 27) = false) (h26 : (op == 26) = false) (h29 : (op == 29) = false) (h1 : 1 ≤ kids.length) (hN : NcS A w v (.mk op k s kids)) : Calls Tryz.prog 45 #[v] w (OnR w A (agrQ (.mk op k s kids))) := by
  obtain ⟨N, hL⟩ : ∃ N, kids.length = N := ⟨_, rfl⟩
  obtain ⟨x0, hx0⟩ : ∃ x, kids[0]? = some x := ⟨kids[0]'(by omega), by simp⟩
  obtain ⟨op1, k1, s1, kids1⟩ := x0
  obtain ⟨ak, cc, rfl, -, hcap, hkids⟩ := hN.open
  obtain ⟨bk, ok, u, rfl, hbk', hcl, hNu⟩ := hkids 0 _ hx0
  have hbk := hA _ hbk'
  obtain ⟨a1, cc1, rfl, -⟩ := hNu.open
  obtain ⟨N1, hN1⟩ : ∃ N1, kids1.length = N1 := ⟨_, rfl⟩
  rw [hN1] at hcl hNu
  rw [hL] at h1 ⊢
  refine Goes.begin Tryz.func45 [] (fun _ => True) Holds.nil (by simp [Mem.ids]) (fun _ _ => trivial) ?_
  refine Goes.run2 [0] [] trivial fun g r => ?_
  refine Goes.val (Instr.indexAt 22 (.slice (some ⟨bk, ok, none⟩) N cc) (.int .i64 (0 : Nat))) (.pointer (some ⟨bk, ok + 0 * 4, none⟩)) (fun w' _ _ => idxC bk ok N cc 0 (by omega) w') ?_
  refine Goes.val (Instr.loadAt 24 (.pointer (some ⟨bk, ok + 0 * 4, none⟩))) (cv op1 k1 s1 (.slice a1 N1 cc1)) (fun w' hm hI => loadC (hcl.below hbk (bel0 hI))) ?_
  refine Goes.run1 [2, 0, 0, 0, 0, 0, 0, 1] [((op == 29), false), ((op == 26), false), ((op == 27), false), ((op == 25), false)] ⟨h29, h26, h27, h25, trivial⟩ fun g4 => ?_
  refine Goes.ret [1] (.tuple #[cv op k s (.slice (some ⟨bk, ok, none⟩) N cc), .bool false]) fun w' hm hI => ⟨?_, bel0 hI⟩
  have e : agrQ (.mk op k s kids) = none := by
    unfold agrQ
    simp only [Co.op, h25, h27, h26, h29, cond_false]
  rw [e]
  exact ⟨_, rfl, four_cv⟩
end Go.Proofs.YtjoplckpefoinaaGreatDoor
namespace Go.Proofs.YtjoplckpefoinaaGreatDoor
open Go Go.RowKit

set_option maxRecDepth 100000 in
seal rn rnN rnS Goes ans atEnd put0 putM opened openedY putA0 putA oneSt st0 keep put in
theorem ragr_26_any {z d k : Int} {s : List UInt8} {kids : List Co} {v : Value} {w : World} {A : Nat → Prop} (hA : ∀ x, A x → x < w.heap.size) (hz : tyOk z) (hok : okT z d (.mk 26 k s kids) = true) (hN : NcS A w v (.mk 26 k s kids)) : Calls Tryz.prog 45 #[v] w (OnR w A (agrQ (.mk 26 k s kids))) := by
  obtain ⟨rfl, -, -, hl, hk⟩ := shape hz hok (ks := [0, 4]) (t := 4) rfl (by omega)
  obtain ⟨c1, c2, rfl, hc1, hc2⟩ := ok2 hk (by simpa using hl)
  obtain ⟨op1, k1, s1, kids1⟩ := c1
  obtain ⟨op2, k2, s2, kids2⟩ := c2
  obtain ⟨ak, cc, rfl, -, hcap, hkids⟩ := hN.open
  obtain ⟨bk, ok, u, rfl, hbk', hcl, hNu⟩ := hkids 0 _ rfl
  obtain ⟨bk2, ok2', u2, e2, -, hcl2, hNu2⟩ := hkids 1 _ rfl
  cases e2
  have hbk := hA _ hbk'
  obtain ⟨a1, cc1, rfl, -⟩ := hNu.open
  obtain ⟨a2, cc2, rfl, -⟩ := hNu2.open
  obtain ⟨N1, hN1⟩ : ∃ N1, kids1.length = N1 := ⟨_, rfl⟩
  obtain ⟨N2, hN2⟩ : ∃ N2, kids2.length = N2 := ⟨_, rfl⟩
  rw [hN1] at hcl hNu
  rw [hN2] at hcl2 hNu2
  obtain ⟨ob, hob⟩ := blk_of hbk
  have hM := hold1 hob
  show Calls Tryz.prog 45 #[cv 26 k s (.slice (some ⟨bk, ok, none⟩) 2 cc)] w _
  refine Goes.begin Tryz.func45 [(bk, ob)] (fun _ => True) hM (by simp [Mem.ids]) (fun _ _ => trivial) ?_
  refine Goes.run2 [1] [] trivial fun g r => ?_
  refine Goes.val (Instr.indexAt 22 (.slice (some ⟨bk, ok, none⟩) 2 cc) (.int .i64 (0 : Nat))) (.pointer (some ⟨bk, ok + 0 * 4, none⟩)) (fun w' _ _ => idxC bk ok 2 cc 0 (by omega) w') ?_
  refine Goes.val (Instr.loadAt 24 (.pointer (some ⟨bk, ok + 0 * 4, none⟩))) (cv op1 k1 s1 (.slice a1 N1 cc1)) (fun w' hm hI => loadC (hcl.same ((hm.get 0).trans hob.symm))) ?_
  refine Goes.run1 [3, 1, 0, 0, 1, 3] [(true, true), (false, false), (false, false)] ⟨rfl, rfl, rfl, trivial⟩ fun g4 => ?_
  cases hq : (op1 == 1 && k1 == 1000000) with
  | true =>
    refine Goes.call0 78 #[cv op1 k1 s1 (.slice a1 N1 cc1), .int .i64 1000000] (.bool true) (fun w' _ _ => by have := rnumber_any op1 k1 1000000 s1 (.slice a1 N1 cc1) w'; rw [hq] at this; exact this) ?_
    refine Goes.run [1, 1] [(true, true)] ⟨rfl, trivial⟩ ?_
    refine Goes.val (Instr.indexAt 22 (.slice (some ⟨bk, ok, none⟩) 2 cc) (.int .i64 (1 : Nat))) (.pointer (some ⟨bk, ok + 1 * 4, none⟩)) (fun w' _ _ => idxC bk ok 2 cc 1 (by omega) w') ?_
    refine Goes.val (Instr.loadAt 24 (.pointer (some ⟨bk, ok + 1 * 4, none⟩))) (cv op2 k2 s2 (.slice a2 N2 cc2)) (fun w' hm hI => loadC (hcl2.same ((hm.get 0).trans hob.symm))) ?_
    refine Goes.run [2] [] trivial ?_
    refine Goes.ret [2] (.tuple #[cv op2 k2 s2 (.slice a2 N2 cc2), .bool true]) fun w' hm hI => ⟨?_, below_end hM hI.now.1 hm (by kernel_rfl)⟩
    have hB := below_end hM hI.now.1 hm (by kernel_rfl)
    have e : agrQ (.mk 26 k s [.mk op1 k1 s1 kids1, .mk op2 k2 s2 kids2]) = some (.mk op2 k2 s2 kids2) := by
      show (bif (op1 == 1 && k1 == 1000000) then _ else _) = _
      rw [hq]
      rfl
    rw [e]
    exact ⟨_, rfl, hNu2.bel hA hB⟩
  | false =>
    refine Goes.call0 78 #[cv op1 k1 s1 (.slice a1 N1 cc1), .int .i64 1000000] (.bool false) (fun w' _ _ => by have := rnumber_any op1 k1 1000000 s1 (.slice a1 N1 cc1) w'; rw [hq] at this; exact this) ?_
    refine Goes.run [0] [(false, false)] ⟨rfl, trivial⟩ ?_
    refine Goes.open [3, 1, 0] ?_
    refine Goes.run [0, 1, 1] [] trivial ?_
    refine Goes.valA 2 (Instr.indexAt 22 (.slice (some ⟨bk, ok, none⟩) 2 cc) (.int .i64 (1 : Nat))) (.pointer (some ⟨bk, ok + 1 * 4, none⟩)) (fun w' _ => idxC bk ok 2 cc 1 (by omega) w') ?_
    refine Goes.valA 3 (Instr.loadAt 24 (.pointer (some ⟨bk, ok + 1 * 4, none⟩))) (cv op2 k2 s2 (.slice a2 N2 cc2)) (fun w' hm => loadC (hcl2.same ((hm.get 2).trans hob.symm))) ?_
    refine Goes.run [4, 5, 0, 6] [] trivial ?_
    cases hr : (op1 == 1) with
    | false =>
      refine Goes.slot 55 (.bool false) (u := .bool (op1 == 1)) (congrArg _ hr) ?_
      refine Goes.run [7, 8, 9, 10, 11, 12, 13, 14] [] trivial ?_
      refine Goes.oneA 15 2 [3, 1, 0] ?_
      refine Goes.run [16] [] trivial ?_
      refine Goes.ret [2] (.tuple #[cv op2 k2 s2 (.slice a2 N2 cc2), .bool false]) fun w' hm hI => ⟨?_, below_end hM hI.now.1 hm (by kernel_rfl)⟩
      have e : agrQ (.mk 26 k s [.mk op1 k1 s1 kids1, .mk op2 k2 s2 kids2]) = none := by
        show (bif (op1 == 1 && k1 == 1000000) then _ else bif (op1 == 1) && (op2 == 23) then _ else _) = _
        rw [hq, hr]
        rfl
      rw [e]
      exact ⟨_, rfl, four_cv⟩
    | true =>
      refine Goes.slot 55 (.bool true) (u := .bool (op1 == 1)) (congrArg _ hr) ?_
      refine Goes.run [7, 8, 9, 1] [] trivial ?_
      refine Goes.valA 10 (Instr.indexAt 22 (.slice (some ⟨bk, ok, none⟩) 2 cc) (.int .i64 (1 : Nat))) (.pointer (some ⟨bk, ok + 1 * 4, none⟩)) (fun w' _ => idxC bk ok 2 cc 1 (by omega) w') ?_
      refine Goes.run [11] [] trivial ?_
      refine Goes.valA 12 (Instr.loadAt 3 (.pointer (some ⟨bk, ok + 1 * 4, none⟩))) (.int .i64 op2) (fun w' hm => load1 Tryz.isAgg3 (op_of (hcl2.same ((hm.get 2).trans hob.symm)))) ?_
      refine Goes.run [13, 14] [] trivial ?_
      refine Goes.slot 63 (.bool (op2 == 23)) (u := .bool (op2 == 23)) rfl ?_
      refine Goes.oneA 15 2 [3, 1, 0] ?_
      refine Goes.run [16] [] trivial ?_
      refine Goes.ret [2] (.tuple #[cv op2 k2 s2 (.slice a2 N2 cc2), .bool (op2 == 23)]) fun w' hm hI => ⟨?_, below_end hM hI.now.1 hm (by kernel_rfl)⟩
      have hB := below_end hM hI.now.1 hm (by kernel_rfl)
      have e : agrQ (.mk 26 k s [.mk op1 k1 s1 kids1, .mk op2 k2 s2 kids2]) = bif (op2 == 23) then some (.mk op2 k2 s2 kids2) else none := by
        show (bif (op1 == 1 && k1 == 1000000) then _ else bif (op1 == 1) && (op2 == 23) then _ else _) = _
        rw [hq, hr]
        rfl
      rw [e]
      cases (op2 == 23) with
      | true => exact ⟨_, rfl, hNu2.bel hA hB⟩
      | false => exact ⟨_, rfl, four_cv⟩
/-- The document's rules of contracts. -/
theorem ragr_any {z d op k : Int} {s : List UInt8} {kids : List Co} {v : Value} {w : World} {A : Nat → Prop} (hA : ∀ x, A x → x < w.heap.size) (hz : tyOk z) (hok : okT z d (.mk op k s kids) = true) (hk : kids ≠ []) (hN : NcS A w v (.mk op k s kids)) : Calls Tryz.prog 45 #[v] w (OnR w A (agrQ (.mk op k s kids))) := by
  have F : ∀ {o : Int}, ¬ op = o → (op == o) = false := fun {o} ho => by rw [beq_eq_false_iff_ne]; exact ho
  by_cases e25 : op = 25
  · subst e25; exact ragr_25_any hA hz hok hN
  by_cases e27 : op = 27
  · subst e27; exact ragr_27_any hA hz hok hN
  by_cases e26 : op = 26
  · subst e26; exact ragr_26_any hA hz hok hN
  by_cases e29 : op = 29
  · subst e29; exact ragr_29_any hA hz hok hN
  refine ragr_no_any hA (F e25) (F e27) (F e26) (F e29) ?_ hN
  cases kids with
  | nil => exact absurd rfl hk
  | cons x r => simp
end Go.Proofs.YtjoplckpefoinaaGreatDoor
namespace Go.Proofs.YtjoplckpefoinaaGreatDoor
open Go Go.RowKit

set_option maxRecDepth 100000 in
seal rn rnN rnS Goes ans atEnd put0 putM opened openedY putA0 putA oneSt st0 keep put in
theorem rbra_not_any {op k op1 k1 : Int} {s s1 : List UInt8} {kids kids1 : List Co} {v : Value} {w : World} {A : Nat → Prop} (hA : ∀ x, A x → x < w.heap.size) (hx0 : kids[0]? = some (.mk op1 k1 s1 kids1)) (h2 : (op1 == 2) = false) (hN : NcS A w v (.mk op k s kids)) : Calls Tryz.prog 46 #[v] w (OnR w A (braQ (.mk op k s kids))) := by
  obtain ⟨N, hL⟩ : ∃ N, kids.length = N := ⟨_, rfl⟩
  have h1 : 1 ≤ kids.length := by have := (List.getElem?_eq_some_iff.1 hx0).1; omega
  obtain ⟨ak, cc, rfl, -, hcap, hkids⟩ := hN.open
  obtain ⟨bk, ok, u, rfl, hbk', hcl, hNu⟩ := hkids 0 _ hx0
  have hbk := hA _ hbk'
  obtain ⟨a1, cc1, rfl, -⟩ := hNu.open
  obtain ⟨N1, hN1⟩ : ∃ N1, kids1.length = N1 := ⟨_, rfl⟩
  rw [hN1] at hcl hNu
  rw [hL] at h1 ⊢
  have hne : (op1 != 2) = true := by unfold bne; rw [h2]; rfl
  refine Goes.begin Tryz.func46 [] (fun _ => True) Holds.nil (by simp [Mem.ids]) (fun _ _ => trivial) ?_
  refine Goes.run2 [0] [] trivial fun g r => ?_
  refine Goes.val (Instr.indexAt 22 (.slice (some ⟨bk, ok, none⟩) N cc) (.int .i64 (0 : Nat))) (.pointer (some ⟨bk, ok + 0 * 4, none⟩)) (fun w' _ _ => idxC bk ok N cc 0 (by omega) w') ?_
  refine Goes.val (Instr.loadAt 24 (.pointer (some ⟨bk, ok + 0 * 4, none⟩))) (cv op1 k1 s1 (.slice a1 N1 cc1)) (fun w' hm hI => loadC (hcl.below hbk (bel0 hI))) ?_
  refine Goes.run1 [2, 2, 1, 0, 1] [((op1 != 2), true)] ⟨hne, trivial⟩ fun g4 => ?_
  refine Goes.ret [1] (.tuple #[cv op k s (.slice (some ⟨bk, ok, none⟩) N cc), .bool false]) fun w' hm hI => ⟨?_, bel0 hI⟩
  have hk0 : kidC (.mk op k s kids) 0 = .mk op1 k1 s1 kids1 := by simp [kidC, Co.kids, List.getD, hx0]
  have ht : ∀ n, truIs n (.mk op1 k1 s1 kids1) = false := fun n => by show (op1 == 2 && k1 == n) = false; rw [h2]; rfl
  have e : braQ (.mk op k s kids) = none := by
    unfold braQ
    rw [hk0, ht, ht]
    simp
  rw [e]
  exact ⟨_, rfl, four_cv⟩
set_option maxRecDepth 100000 in
seal rn rnN rnS Goes ans atEnd put0 putM opened openedY putA0 putA oneSt st0 keep put in
theorem rbra_if_any {op k k1 : Int} {s s1 : List UInt8} {kids1 : List Co} {b e : Co} {v : Value} {w : World} {A : Nat → Prop} (hA : ∀ x, A x → x < w.heap.size) (ho : op = 22 ∨ op = 28) (hk1 : k1 = 0 ∨ k1 = 1) (hN : NcS A w v (.mk op k s [.mk 2 k1 s1 kids1, b, e])) : Calls Tryz.prog 46 #[v] w (OnR w A (braQ (.mk op k s [.mk 2 k1 s1 kids1, b, e]))) := by
  obtain ⟨op2, k2, s2, kids2⟩ := b
  obtain ⟨op3, k3, s3, kids3⟩ := e
  obtain ⟨ak, cc, rfl, -, hcap, hkids⟩ := hN.open
  obtain ⟨bk, ok, u, rfl, hbk', hcl, hNu⟩ := hkids 0 _ rfl
  obtain ⟨bk2, ok2', u2, e2, -, hcl2, hNu2⟩ := hkids 1 _ rfl
  cases e2
  obtain ⟨bk3, ok3', u3, e3, -, hcl3, hNu3⟩ := hkids 2 _ rfl
  cases e3
  have hbk := hA _ hbk'
  obtain ⟨a1, cc1, rfl, -⟩ := hNu.open
  obtain ⟨a2, cc2, rfl, -⟩ := hNu2.open
  obtain ⟨a3, cc3, rfl, -⟩ := hNu3.open
  obtain ⟨N1, hN1⟩ : ∃ N1, kids1.length = N1 := ⟨_, rfl⟩
  obtain ⟨N2, hN2⟩ : ∃ N2, kids2.length = N2 := ⟨_, rfl⟩
  obtain ⟨N3, hN3⟩ : ∃ N3, kids3.length = N3 := ⟨_, rfl⟩
  rw [hN1] at hcl hNu
  rw [hN2] at hcl2 hNu2
  rw [hN3] at hcl3 hNu3
  show Calls Tryz.prog 46 #[cv op k s (.slice (some ⟨bk, ok, none⟩) 3 cc)] w _
  refine Goes.begin Tryz.func46 [] (fun _ => True) Holds.nil (by simp [Mem.ids]) (fun _ _ => trivial) ?_
  refine Goes.run2 [0] [] trivial fun g r => ?_
  refine Goes.val (Instr.indexAt 22 (.slice (some ⟨bk, ok, none⟩) 3 cc) (.int .i64 (0 : Nat))) (.pointer (some ⟨bk, ok + 0 * 4, none⟩)) (fun w' _ _ => idxC bk ok 3 cc 0 (by omega) w') ?_
  refine Goes.val (Instr.loadAt 24 (.pointer (some ⟨bk, ok + 0 * 4, none⟩))) (cv 2 k1 s1 (.slice a1 N1 cc1)) (fun w' hm hI => loadC (hcl.below hbk (bel0 hI))) ?_
  rcases ho with rfl | rfl <;> rcases hk1 with rfl | rfl
  · refine Goes.run1 [2, 2, 0, 0, 1, 1, 0, 2] [(true, true), (true, true), (false, false)] ⟨rfl, rfl, rfl, trivial⟩ fun g4 => ?_
    refine Goes.val (Instr.indexAt 22 (.slice (some ⟨bk, ok, none⟩) 3 cc) (.int .i64 (2 : Nat))) (.pointer (some ⟨bk, ok + 2 * 4, none⟩)) (fun w' _ _ => idxC bk ok 3 cc 2 (by omega) w') ?_
    refine Goes.val (Instr.loadAt 24 (.pointer (some ⟨bk, ok + 2 * 4, none⟩))) (cv op3 k3 s3 (.slice a3 N3 cc3)) (fun w' hm hI => loadC (hcl3.below hbk (bel0 hI))) ?_
    refine Goes.run [1] [] trivial ?_
    exact Goes.ret [1] (.tuple #[cv op3 k3 s3 (.slice a3 N3 cc3), .bool true]) fun w' hm hI => ⟨⟨_, rfl, hNu3.bel hA (bel0 hI)⟩, bel0 hI⟩
  · refine Goes.run1 [2, 2, 0, 0, 1, 1, 0, 2] [(true, true), (true, true), (false, false)] ⟨rfl, rfl, rfl, trivial⟩ fun g4 => ?_
    refine Goes.val (Instr.indexAt 22 (.slice (some ⟨bk, ok, none⟩) 3 cc) (.int .i64 (1 : Nat))) (.pointer (some ⟨bk, ok + 1 * 4, none⟩)) (fun w' _ _ => idxC bk ok 3 cc 1 (by omega) w') ?_
    refine Goes.val (Instr.loadAt 24 (.pointer (some ⟨bk, ok + 1 * 4, none⟩))) (cv op2 k2 s2 (.slice a2 N2 cc2)) (fun w' hm hI => loadC (hcl2.below hbk (bel0 hI))) ?_
    refine Goes.run [1] [] trivial ?_
    exact Goes.ret [1] (.tuple #[cv op2 k2 s2 (.slice a2 N2 cc2), .bool true]) fun w' hm hI => ⟨⟨_, rfl, hNu2.bel hA (bel0 hI)⟩, bel0 hI⟩
  · refine Goes.run1 [2, 2, 0, 0, 0, 0, 1, 0, 2] [(true, true), (false, false), (false, false)] ⟨rfl, rfl, rfl, trivial⟩ fun g4 => ?_
    refine Goes.val (Instr.indexAt 22 (.slice (some ⟨bk, ok, none⟩) 3 cc) (.int .i64 (2 : Nat))) (.pointer (some ⟨bk, ok + 2 * 4, none⟩)) (fun w' _ _ => idxC bk ok 3 cc 2 (by omega) w') ?_
    refine Goes.val (Instr.loadAt 24 (.pointer (some ⟨bk, ok + 2 * 4, none⟩))) (cv op3 k3 s3 (.slice a3 N3 cc3)) (fun w' hm hI => loadC (hcl3.below hbk (bel0 hI))) ?_
    refine Goes.run [1] [] trivial ?_
    exact Goes.ret [1] (.tuple #[cv op3 k3 s3 (.slice a3 N3 cc3), .bool true]) fun w' hm hI => ⟨⟨_, rfl, hNu3.bel hA (bel0 hI)⟩, bel0 hI⟩
  · refine Goes.run1 [2, 2, 0, 0, 0, 0, 1, 0, 2] [(true, true), (false, false), (false, false)] ⟨rfl, rfl, rfl, trivial⟩ fun g4 => ?_
    refine Goes.val (Instr.indexAt 22 (.slice (some ⟨bk, ok, none⟩) 3 cc) (.int .i64 (1 : Nat))) (.pointer (some ⟨bk, ok + 1 * 4, none⟩)) (fun w' _ _ => idxC bk ok 3 cc 1 (by omega) w') ?_
    refine Goes.val (Instr.loadAt 24 (.pointer (some ⟨bk, ok + 1 * 4, none⟩))) (cv op2 k2 s2 (.slice a2 N2 cc2)) (fun w' hm hI => loadC (hcl2.below hbk (bel0 hI))) ?_
    refine Goes.run [1] [] trivial ?_
    exact Goes.ret [1] (.tuple #[cv op2 k2 s2 (.slice a2 N2 cc2), .bool true]) fun w' hm hI => ⟨⟨_, rfl, hNu2.bel hA (bel0 hI)⟩, bel0 hI⟩
end Go.Proofs.YtjoplckpefoinaaGreatDoor
namespace Go.Proofs.YtjoplckpefoinaaGreatDoor
open Go Go.RowKit

set_option maxRecDepth 100000 in
seal rn rnN rnS Goes ans atEnd put0 putM opened openedY putA0 putA oneSt st0 keep put in
theorem rbra_no_any {op k k1 : Int} {s s1 : List UInt8} {kids kids1 : List Co} {v : Value} {w : World} {A : Nat → Prop} (hA : ∀ x, A x → x < w.heap.size) (hx0 : kids[0]? = some (.mk 2 k1 s1 kids1)) (h22 : (op == 22) = false) (h28 : (op == 28) = false) (h30 : (op == 30) = false) (hN : NcS A w v (.mk op k s kids)) : Calls Tryz.prog 46 #[v] w (OnR w A (braQ (.mk op k s kids))) := by
  obtain ⟨N, hL⟩ : ∃ N, kids.length = N := ⟨_, rfl⟩
  have h1 : 1 ≤ kids.length := by have := (List.getElem?_eq_some_iff.1 hx0).1; omega
  obtain ⟨ak, cc, rfl, -, hcap, hkids⟩ := hN.open
  obtain ⟨bk, ok, u, rfl, hbk', hcl, hNu⟩ := hkids 0 _ hx0
  have hbk := hA _ hbk'
  obtain ⟨a1, cc1, rfl, -⟩ := hNu.open
  obtain ⟨N1, hN1⟩ : ∃ N1, kids1.length = N1 := ⟨_, rfl⟩
  rw [hN1] at hcl hNu
  rw [hL] at h1 ⊢
  refine Goes.begin Tryz.func46 [] (fun _ => True) Holds.nil (by simp [Mem.ids]) (fun _ _ => trivial) ?_
  refine Goes.run2 [0] [] trivial fun g r => ?_
  refine Goes.val (Instr.indexAt 22 (.slice (some ⟨bk, ok, none⟩) N cc) (.int .i64 (0 : Nat))) (.pointer (some ⟨bk, ok + 0 * 4, none⟩)) (fun w' _ _ => idxC bk ok N cc 0 (by omega) w') ?_
  refine Goes.val (Instr.loadAt 24 (.pointer (some ⟨bk, ok + 0 * 4, none⟩))) (cv 2 k1 s1 (.slice a1 N1 cc1)) (fun w' hm hI => loadC (hcl.below hbk (bel0 hI))) ?_
  refine Goes.run1 [2, 2, 0, 0, 0, 0, 0, 0, 0, 0, 0, 0, 1] [(false, false), (false, false), ((op == 30), false), ((op == 28), false), ((op == 22), false), (false, false)] ⟨rfl, rfl, h30, h28, h22, rfl, trivial⟩ fun g4 => ?_
  refine Goes.ret [1] (.tuple #[cv op k s (.slice (some ⟨bk, ok, none⟩) N cc), .bool false]) fun w' hm hI => ⟨?_, bel0 hI⟩
  have e : braQ (.mk op k s kids) = none := by
    unfold braQ
    simp only [Co.op, h22, h28, h30, Bool.or_self, cond_false]
  rw [e]
  exact ⟨_, rfl, four_cv⟩
end Go.Proofs.YtjoplckpefoinaaGreatDoor
namespace Go.Proofs.YtjoplckpefoinaaGreatDoor
open Go Go.RowKit

set_option maxRecDepth 100000 in
seal rn rnN rnS Goes ans atEnd put0 putM opened openedY putA0 putA oneSt st0 keep put in
theorem rbra_30_no_any {k k1 : Int} {s s1 : List UInt8} {kids1 : List Co} {b : Co} {v : Value} {w : World} {A : Nat → Prop} (hA : ∀ x, A x → x < w.heap.size) (hk1 : k1 = 1 ∨ k1 = 0 ∧ (b.op == 23) = true) (hN : NcS A w v (.mk 30 k s [.mk 2 k1 s1 kids1, b])) : Calls Tryz.prog 46 #[v] w (OnR w A (braQ (.mk 30 k s [.mk 2 k1 s1 kids1, b]))) := by
  obtain ⟨op2, k2, s2, kids2⟩ := b
  obtain ⟨ak, cc, rfl, -, hcap, hkids⟩ := hN.open
  obtain ⟨bk, ok, u, rfl, hbk', hcl, hNu⟩ := hkids 0 _ rfl
  obtain ⟨bk2, ok2', u2, e2, -, hcl2, hNu2⟩ := hkids 1 _ rfl
  cases e2
  have hbk := hA _ hbk'
  obtain ⟨a1, cc1, rfl, -⟩ := hNu.open
  obtain ⟨a2, cc2, rfl, -⟩ := hNu2.open
  obtain ⟨N1, hN1⟩ : ∃ N1, kids1.length = N1 := ⟨_, rfl⟩
  obtain ⟨N2, hN2⟩ : ∃ N2, kids2.length = N2 := ⟨_, rfl⟩
  rw [hN1] at hcl hNu
  rw [hN2] at hcl2 hNu2
  show Calls Tryz.prog 46 #[cv 30 k s (.slice (some ⟨bk, ok, none⟩) 2 cc)] w _
  refine Goes.begin Tryz.func46 [] (fun _ => True) Holds.nil (by simp [Mem.ids]) (fun _ _ => trivial) ?_
  refine Goes.run2 [0] [] trivial fun g r => ?_
  refine Goes.val (Instr.indexAt 22 (.slice (some ⟨bk, ok, none⟩) 2 cc) (.int .i64 (0 : Nat))) (.pointer (some ⟨bk, ok + 0 * 4, none⟩)) (fun w' _ _ => idxC bk ok 2 cc 0 (by omega) w') ?_
  refine Goes.val (Instr.loadAt 24 (.pointer (some ⟨bk, ok + 0 * 4, none⟩))) (cv 2 k1 s1 (.slice a1 N1 cc1)) (fun w' hm hI => loadC (hcl.below hbk (bel0 hI))) ?_
  rcases hk1 with rfl | ⟨rfl, hq⟩
  · refine Goes.run1 [2, 2, 0, 0, 0, 0, 0, 0, 1, 2, 0, 0, 0, 1] [(false, false), (false, false), (true, true), (false, false), (false, false), (false, false)] ⟨rfl, rfl, rfl, rfl, rfl, rfl, trivial⟩ fun g4 => ?_
    refine Goes.ret [1] (.tuple #[cv 30 k s (.slice (some ⟨bk, ok, none⟩) 2 cc), .bool false]) fun w' hm hI => ⟨?_, bel0 hI⟩
    exact ⟨_, rfl, four_cv⟩
  · replace hq : (op2 == 23) = true := hq
    have hne : (op2 != 23) = false := by unfold bne; rw [hq]; rfl
    refine Goes.run1 [2, 2, 0, 0, 0, 0, 0, 0, 1, 2, 1, 0] [(true, true), (true, true), (false, false), (false, false), (false, false)] ⟨rfl, rfl, rfl, rfl, rfl, trivial⟩ fun g4 => ?_
    refine Goes.val (Instr.indexAt 22 (.slice (some ⟨bk, ok, none⟩) 2 cc) (.int .i64 (1 : Nat))) (.pointer (some ⟨bk, ok + 1 * 4, none⟩)) (fun w' _ _ => idxC bk ok 2 cc 1 (by omega) w') ?_
    refine Goes.run [] [] trivial ?_
    refine Goes.val (Instr.loadAt 3 (.pointer (some ⟨bk, ok + 1 * 4, none⟩))) (.int .i64 op2) (fun w' hm hI => load1 Tryz.isAgg3 (op_of (hcl2.below hbk (bel0 hI)))) ?_
    refine Goes.run [0, 0, 1] [((op2 != 23), false)] ⟨hne, trivial⟩ ?_
    refine Goes.ret [1] (.tuple #[cv 30 k s (.slice (some ⟨bk, ok, none⟩) 2 cc), .bool false]) fun w' hm hI => ⟨?_, bel0 hI⟩
    have e : braQ (.mk 30 k s [.mk 2 0 s1 kids1, .mk op2 k2 s2 kids2]) = none := by
      show (bif (truIs 0 (.mk 2 0 s1 kids1) && (op2 != 23)) then _ else _) = _
      rw [hne, Bool.and_false]
      rfl
    rw [e]
    exact ⟨_, rfl, four_cv⟩
end Go.Proofs.YtjoplckpefoinaaGreatDoor
namespace Go.Proofs.YtjoplckpefoinaaGreatDoor
open Go Go.RowKit

/-- What a rule of the document's answers, where it may be made anew. -/
def OnS (w : World) (A : Nat → Prop) (r : Option Co) (e : Ending) (w' : World) : Prop := (match r with
  | none => ∃ v', e = .returned (.tuple #[v', .bool false]) ∧ Four v'
  | some t => ∃ v', e = .returned (.tuple #[v', .bool true]) ∧ NcS (Since A w w') w' v' t) ∧ Below w.heap.size w w'
theorem OnR.s {w : World} {A : Nat → Prop} {r : Option Co} {e : Ending} {w' : World} (h : OnR w A r e w') : OnS w A r e w' := by
  refine ⟨?_, h.2⟩
  have h1 := h.1
  cases r with
  | none => exact h1
  | some t => obtain ⟨v', e1, h2⟩ := h1; exact ⟨v', e1, h2.mono fun x hx => .inl hx⟩
set_option maxRecDepth 100000 in
seal rn rnN rnS Goes ans atEnd put0 putM opened openedY putA0 putA oneSt st0 keep put in
theorem rbra_30_any {z d k : Int} {s s1 : List UInt8} {kids1 : List Co} {b : Co} {v : Value} {w : World} {A : Nat → Prop} (hA : ∀ x, A x → x < w.heap.size) (hz : tyOk z) (hok : okT z d (.mk 30 k s [.mk 2 0 s1 kids1, b]) = true) (hb : (b.op != 23) = true) (hN : NcS A w v (.mk 30 k s [.mk 2 0 s1 kids1, b])) : Calls Tryz.prog 46 #[v] w (OnS w A (braQ (.mk 30 k s [.mk 2 0 s1 kids1, b]))) := by
  have hT : isP 30 [truIs 0, notP 23] (.mk 30 k s [.mk 2 0 s1 kids1, b]) = true := by
    show (true && (true && ((b.op != 23) && true))) = true
    rw [hb]
    rfl
  have hgood : okT z d (.mk 30 k [] [.mk 2 0 s1 kids1, czC]) = true := (g_30 hz hok hT).1.ok
  obtain ⟨op2, k2, s2, kids2⟩ := b
  obtain ⟨ak, cc, rfl, -, hcap, hkids⟩ := hN.open
  obtain ⟨bk, ok, u, rfl, hbk', hcl, hNu⟩ := hkids 0 _ rfl
  obtain ⟨bk2, ok2', u2, e2, -, hcl2, hNu2⟩ := hkids 1 _ rfl
  cases e2
  have hbk := hA _ hbk'
  obtain ⟨a1, cc1, rfl, -⟩ := hNu.open
  obtain ⟨a2, cc2, rfl, -⟩ := hNu2.open
  obtain ⟨N1, hN1⟩ : ∃ N1, kids1.length = N1 := ⟨_, rfl⟩
  obtain ⟨N2, hN2⟩ : ∃ N2, kids2.length = N2 := ⟨_, rfl⟩
  rw [hN1] at hcl hNu
  rw [hN2] at hcl2 hNu2
  replace hb : (op2 != 23) = true := hb
  show Calls Tryz.prog 46 #[cv 30 k s (.slice (some ⟨bk, ok, none⟩) 2 cc)] w _
  refine Goes.begin Tryz.func46 [] (fun _ => True) Holds.nil (by simp [Mem.ids]) (fun _ _ => trivial) ?_
  refine Goes.run2 [0] [] trivial fun g r => ?_
  refine Goes.val (Instr.indexAt 22 (.slice (some ⟨bk, ok, none⟩) 2 cc) (.int .i64 (0 : Nat))) (.pointer (some ⟨bk, ok + 0 * 4, none⟩)) (fun w' _ _ => idxC bk ok 2 cc 0 (by omega) w') ?_
  refine Goes.val (Instr.loadAt 24 (.pointer (some ⟨bk, ok + 0 * 4, none⟩))) (cv 2 0 s1 (.slice a1 N1 cc1)) (fun w' hm hI => loadC (hcl.below hbk (bel0 hI))) ?_
  refine Goes.run1 [2, 2, 0, 0, 0, 0, 0, 0, 1, 2, 1, 0] [(true, true), (true, true), (false, false), (false, false), (false, false)] ⟨rfl, rfl, rfl, rfl, rfl, trivial⟩ fun g4 => ?_
  refine Goes.val (Instr.indexAt 22 (.slice (some ⟨bk, ok, none⟩) 2 cc) (.int .i64 (1 : Nat))) (.pointer (some ⟨bk, ok + 1 * 4, none⟩)) (fun w' _ _ => idxC bk ok 2 cc 1 (by omega) w') ?_
  refine Goes.run [] [] trivial ?_
  refine Goes.val (Instr.loadAt 3 (.pointer (some ⟨bk, ok + 1 * 4, none⟩))) (.int .i64 op2) (fun w' hm hI => load1 Tryz.isAgg3 (op_of (hcl2.below hbk (bel0 hI)))) ?_
  refine Goes.run1 [1, 0, 2, 1] [((op2 != 23), true)] ⟨hb, trivial⟩ fun g6 => ?_
  refine Goes.ret [1] (.tuple #[cv 30 k [] (.slice (some ⟨g6, 0, none⟩) 2 2), .bool true]) fun w' hm hI => ⟨?_, bel0 hI⟩
  have hB := bel0 hI
  have e : braQ (.mk 30 k s [.mk 2 0 s1 kids1, .mk op2 k2 s2 kids2]) = some (.mk 30 k [] [.mk 2 0 s1 kids1, czC]) := by
    show (bif (truIs 0 (.mk 2 0 s1 kids1) && (op2 != 23)) then _ else _) = _
    rw [hb]
    rfl
  rw [e]
  refine ⟨_, rfl, ?_⟩
  have hg2 : w'.heap[g6]? = some (.cells #[.int .i64 2, .int .i64 0, strV s1, .slice a1 N1 cc1, .int .i64 23, .int .i64 0, strV [], .slice none 0 0] 24 (0, 0)) := hm.get 3
  have hg2n : w.heap.size ≤ g6 := fresh_of hI (g := g6) (ids_get (j := 3) (o := .cells #[.int .i64 2, .int .i64 0, strV s1, .slice a1 N1 cc1, .int .i64 23, .int .i64 0, strV [], .slice none 0 0] 24 (0, 0)) (by kernel_rfl)) (by simp [Mem.ids])
  have hc : ∀ (i : Nat) (v : Value), (#[Value.int .i64 2, .int .i64 0, strV s1, .slice a1 N1 cc1, .int .i64 23, .int .i64 0, strV [], .slice none 0 0] : Array Value)[i]? = some v → w'.cell? ⟨g6, i, none⟩ = some v := fun i v h => by
    unfold World.cell?
    rw [hg2]
    simpa using h
  refine .mk 30 k [] [.mk 2 0 s1 kids1, czC] (some ⟨g6, 0, none⟩) 2 (fun i => match i with | 0 => cv 2 0 s1 (.slice a1 N1 cc1) | _ => cv 23 0 [] (.slice none 0 0)) (ok_fits hz hgood) ⟨by simp, by omega⟩ (fun i hi => ⟨g6, 0, rfl, .inr ⟨⟨hg2n, lt_of_get hg2⟩, _, _, hg2⟩, ?_⟩) (fun i t ht => ?_)
  · match i, hi with
    | 0, _ => exact ⟨2, 0, s1, _, rfl, hc 0 _ rfl, hc 1 _ rfl, hc 2 _ rfl, hc 3 _ rfl⟩
    | 1, _ => exact ⟨23, 0, [], _, rfl, hc 4 _ rfl, hc 5 _ rfl, hc 6 _ rfl, hc 7 _ rfl⟩
  · match i, ht with
    | 0, ht => cases ht; exact (hNu.bel hA hB).mono fun x hx => .inl hx
    | 1, ht => cases ht; exact NcS.leaf ⟨by omega, by omega, by simp⟩
end Go.Proofs.YtjoplckpefoinaaGreatDoor
namespace Go.Proofs.YtjoplckpefoinaaGreatDoor
open Go Go.RowKit

theorem tru_k {z d k : Int} {s : List UInt8} {kids : List Co} (hz : tyOk z) (h : okT z d (.mk 2 k s kids) = true) : k = 0 ∨ k = 1 := by
  obtain ⟨ks, -, ho, -⟩ := ok_inv hz h
  unfold ownC at ho
  rw [Bool.and_eq_true] at ho
  have h2 := ho.1
  unfold ownN at h2
  simp only [show ((2 : Int) == 1) = false from rfl, show ((2 : Int) == 2) = true from rfl, cond_false, cond_true] at h2
  unfold inW at h2
  simp only [Bool.and_eq_true, decide_eq_true_eq] at h2
  omega
theorem rbra_any {z d op k : Int} {s : List UInt8} {kids : List Co} {v : Value} {w : World} {A : Nat → Prop} (hA : ∀ x, A x → x < w.heap.size) (hz : tyOk z) (hok : okT z d (.mk op k s kids) = true) (hk : kids ≠ []) (hN : NcS A w v (.mk op k s kids)) : Calls Tryz.prog 46 #[v] w (OnS w A (braQ (.mk op k s kids))) := by
  have F : ∀ {o : Int}, ¬ op = o → (op == o) = false := fun {o} ho => by rw [beq_eq_false_iff_ne]; exact ho
  obtain ⟨ks, hl, -, -, hks, hr⟩ := ok_inv hz hok
  obtain ⟨a, r, rfl⟩ := List.exists_cons_of_ne_nil hk
  obtain ⟨op1, k1, s1, kids1⟩ := a
  cases h2 : (op1 == 2) with
  | false => exact (rbra_not_any hA rfl h2 hN).mono fun _ _ h => h.s
  | true =>
  have e := eq_of_beq h2
  subst e
  obtain ⟨za, hza, hoka⟩ := okTs_at hks (i := 0) rfl
  have hta : tyOk za := by
    rcases hr with ⟨-, -, rfl⟩ | hr
    · cases hza; unfold tyOk; omega
    · exact (rk_tys hr).2 _ (List.mem_of_getElem? hza)
  have hk1 := tru_k hta hoka
  by_cases e30 : op = 30
  · subst e30
    obtain ⟨rfl, -, -, hl2, -⟩ := shape hz hok (ks := [1, 4]) (t := 4) rfl (by omega)
    match r, hl2 with
    | [b], _ =>
      rcases hk1 with rfl | rfl
      · cases hb : (b.op == 23) with
        | true => exact (rbra_30_no_any hA (.inr ⟨rfl, hb⟩) hN).mono fun _ _ h => h.s
        | false => exact rbra_30_any hA hz hok (by unfold bne; rw [hb]; rfl) hN
      · exact (rbra_30_no_any hA (.inl rfl) hN).mono fun _ _ h => h.s
  by_cases e22 : op = 22 ∨ op = 28
  · have h3 : r.length = 2 := by
      rcases hr with ⟨-, -, rfl⟩ | hr
      · simpa using hl
      · rcases e22 with rfl | rfl
        · cases hr
        · cases hr; simpa using hl
    match r, h3 with
    | [b, e], _ => exact (rbra_if_any hA e22 hk1 hN).mono fun _ _ h => h.s
  · exact (rbra_no_any hA rfl (F fun h => e22 (.inl h)) (F fun h => e22 (.inr h)) (F e30) hN).mono fun _ _ h => h.s
end Go.Proofs.YtjoplckpefoinaaGreatDoor
namespace Go.Proofs.YtjoplckpefoinaaGreatDoor
open Go Go.RowKit

theorem typ_one {c : Co} (h : (typP c).2 = true) : typF 1 c = ((typP c).1, true) := by
  have h1 := (typ_right h).1
  have h2 := rty_eq c
  unfold rtyP at h2
  cases hs : smaP c with
  | false => rw [hs] at h2; rw [← h2] at h; cases h
  | true =>
    rw [hs, cond_true, h1, cond_true] at h2
    rw [← h2, ← h1]
theorem okT_first {z : Int} {c : Co} : ∀ n : Nat, okT z (1 + (n : Int)) c = true → okT z 1 c = true
  | 0, h => by simpa using h
  | n + 1, h => okT_first n (okT_up z _ c (by rw [show (1 + (n : Int)) + 1 = 1 + ((n + 1 : Nat) : Int) by omega]; exact h))
theorem szL_const {d : Int} : ∀ {ks : List Int} {l : List Co}, (∀ x ∈ ks, tyOk x) → okTs d ks l = true → l.all constP = true → szL l = (l.length : Int)
  | _, [], _, _, _ => by rw [szL]; rfl
  | [], c :: r, _, h, _ => by simp [okTs] at h
  | x :: xs, c :: r, hk, h, hc => by
    simp only [okTs, Bool.and_eq_true] at h
    simp only [List.all_cons, Bool.and_eq_true] at hc
    have h1 := (val_const (hk x (by simp)) h.1 hc.1 [] 0).2.2
    have h2 := szL_const (ks := xs) (fun y hy => hk y (by simp [hy])) h.2 hc.2
    obtain ⟨o, k, s, l⟩ := c
    replace h1 : l = [] := h1
    subst h1
    rw [szL, h2, sz_leaf]
    simp only [List.length_cons]
    omega
/-- What the document reckons is what the rule says. -/
theorem fold_facts {z d op k : Int} {s : List UInt8} {kids : List Co} (hz : tyOk z) (hd1 : 1 ≤ d) (h : okT z d (.mk op k s kids) = true) (hf : rkdP (.mk op k s kids) = true) : ∃ v, typP (.mk op k s kids) = (z, true) ∧ (z = 0 ∨ z = 1 ∨ z = 2) ∧ reckP (.mk op k s kids) = .mk (z + 1) v [] [] ∧ valP [] 0 (.mk op k s kids) = some v ∧ obP (.mk op k s kids) = true := by
  have hf0 := hf
  unfold rkdP at hf
  rw [Bool.and_eq_true] at hf
  have ha := asks_op hf.1
  have hc := hf.2
  replace hc : kids.all constP = true := hc
  have h6 : 6 ≤ op := by show 6 ≤ (Co.mk op k s kids).op; omega
  change op = 6 ∨ op = 14 ∨ _ at ha
  obtain ⟨ks, t, hr, ht, hne, h22⟩ : ∃ ks t, rkP op = some (ks, t) ∧ (t = 0 ∨ t = 1 ∨ t = 2) ∧ ks ≠ [] ∧ op ≠ 22 := by
    rcases ha with rfl | rfl | ⟨h7, h21, h14, -, -⟩
    · exact ⟨[0], 0, by decide, .inl rfl, by simp, by omega⟩
    · exact ⟨[1], 1, by decide, .inr (.inl rfl), by simp, by omega⟩
    · obtain ⟨x, y, t, h1, h2⟩ := rk_bin h7 h21 h14
      exact ⟨[x, y], t, h1, h2, by simp, by change op ≤ 21 at h21; omega⟩
  have h3 := ok_three hz h
  obtain ⟨rfl, ho, hd, hl, hk⟩ := shape hz h hr h22
  have hvs := valL_const (rk_tys hr).2 hk hc
  have hkn : kids ≠ [] := by intro e; rw [e] at hl; exact hne (List.eq_nil_of_length_eq_zero hl.symm)
  have hval : ∀ fs day, valP fs day (.mk op k s kids) = valC [] 0 op k [] (kids.map fun x => some x.k) := fun fs day => by
    rw [valP, hvs fs day]
    exact valC_same h6
  obtain ⟨v, hv⟩ : ∃ v, valC [] 0 op k [] (kids.map fun x => some x.k) = some v := by
    have n : ∀ c : Int, op ≠ c → (op == c) = false := fun c hc => by rw [beq_eq_false_iff_ne]; exact hc
    obtain ⟨a, r, rfl⟩ := List.exists_cons_of_ne_nil hkn
    rcases ha with rfl | rfl | ⟨h7, h21, h14, h15, h16⟩
    · exact ⟨_, rfl⟩
    · exact ⟨_, rfl⟩
    · change 7 ≤ op at h7
      obtain ⟨x, y, t, h1, h2⟩ := rk_bin h7 h21 h14
      rw [h1] at hr
      cases hr
      obtain ⟨a', b', e, -, -⟩ := ok2 hk (by simpa using hl)
      cases e
      unfold valC
      simp only [n 1 (by omega), n 2 (by omega), n 3 (by omega), n 4 (by omega), n 5 (by omega), n 6 (by omega), n 14 h14, n 15 h15, n 16 h16, n 22 h22, Bool.or_self, cond_false]
      exact ⟨_, rfl⟩
  have he : reckP (.mk op k s kids) = .mk (z + 1) v [] [] := by
    show Co.mk ((match rkP op with | some q => q.2 | none => 0) + 1) ((valC [] 0 op k [] (kids.map fun x => some x.k)).getD 0) [] [] = _
    rw [hr, hv]
    rfl
  have h1 : okT z 1 (.mk op k s kids) = true := okT_first (d - 1).toNat (by rw [show 1 + ((d - 1).toNat : Int) = d by omega]; exact h)
  have hsz : szC (.mk op k s kids) ≤ 2000 := by
    rw [szC, szL_const (rk_tys hr).2 hk hc]
    omega
  have ht2 := typ_of hz ((isOfP_eq z _).2 ⟨h1, hsz⟩)
  have hF := ((tp_all (.mk op k s kids) 1).1 z hz).1 h1
  have ht1 : (typP (.mk op k s kids)).1 = z := by
    have := typ_one ht2
    rw [hF] at this
    cases this
    rfl
  exact ⟨v, by rw [← ht1, ← ht2], ht, he, (hval [] 0).trans hv, ob_right _ 1 z hF (by omega)⟩
end Go.Proofs.YtjoplckpefoinaaGreatDoor
namespace Go.Proofs.YtjoplckpefoinaaGreatDoor
open Go Go.RowKit

abbrev nilV : Value := .slice none 0 0
theorem KI.begin {w : World} {m : World → Prop} : ∀ w', (Ch (Mem.ids []) w w' ∧ m w') → KI w (fun _ => False) w nilV 0 [] w' := fun w' h => ⟨h.1, w'.ownsRow_nil _ _ _, fun x hx => hx.elim, fun r hr => by cases hr⟩
section
variable {A B : Nat → Prop} {w wf w1 w2 : World} {v : Value} {c : Co} (hA : ∀ x, A x → x < w.heap.size) (hAw : ∀ x, A x → wf.heap[x]? = w.heap[x]?) (hI : KI w B wf nilV 0 [] w1)
include hA hI
theorem KI.lt : ∀ x, (A x ∨ B x) → x < w1.heap.size := fun x hx => by
  rcases hx with hx | hx
  · exact Nat.lt_of_lt_of_le (hA x hx) hI.ch.size
  · exact (hI.stay x hx).2.2.lt
include hAw
/-- A term that stays is there. -/
theorem KI.nc (h : NcS (fun x => A x ∨ B x) wf v c) : NcS (fun x => A x ∨ B x) w1 v c := h.later fun x hx => by
  rcases hx with hx | hx
  · rw [hAw x hx, hI.bel.block x (hA x hx)]
  · exact (hI.stay x hx).1
theorem KI.nc' (h : NcS (fun x => A x ∨ B x) wf v c) : Nc w1.heap.size w1 v c := (KI.nc hA hAw hI h).toN (KI.lt hA hI)
/-- It stays behind a call. -/
theorem KI.lift (hB : Below w1.heap.size w1 w2) (h : NcS (fun x => A x ∨ B x) wf v c) : NcS (fun x => A x ∨ (B x ∨ New w1 w2 x)) w2 v c := ((KI.nc hA hAw hI h).bel (KI.lt hA hI) hB).mono fun _ hx => hx.elim .inl fun hx => .inr (.inl hx)
omit hAw in
theorem KI.old (hB : Below w1.heap.size w1 w2) : ∀ x, A x → w2.heap[x]? = w.heap[x]? := fun x hx => by
  rw [hB.block x (Nat.lt_of_lt_of_le (hA x hx) hI.ch.size), hI.bel.block x (hA x hx)]
omit hA hAw hI in
theorem since_lift (h : NcS (Since (fun x => A x ∨ B x) w1 w2) w2 v c) : NcS (fun x => A x ∨ (B x ∨ New w1 w2 x)) w2 v c := h.mono fun x hx => by
  rcases hx with (hx | hx) | hx
  · exact .inl hx
  · exact .inr (.inl hx)
  · exact .inr (.inr hx)
end
end Go.Proofs.YtjoplckpefoinaaGreatDoor
namespace Go.Proofs.YtjoplckpefoinaaGreatDoor
open Go Go.RowKit

noncomputable def foldK : List TI := (rn Tryz.prog [0, 1, 1, 1] [0, 1] (st0 Tryz.f43 #[cv 6 0 [] (.slice none 0 0)] [])).st.todo
theorem asks_is (op : Int) : asksP op = (op == 6 || op == 14 || (decide (7 ≤ op) && decide (op ≤ 13)) || (decide (17 ≤ op) && decide (op ≤ 21))) := rfl
theorem all_take {l : List Co} {j : Nat} {x : Co} (hx : l[j]? = some x) : (l.take (j + 1)).all constP = ((l.take j).all constP && constP x) := by
  rw [List.take_add_one, hx]
  simp
theorem fds_nil {n : Nat} {w : World} : Fds n w (.slice none 0 0) [] := ⟨none, 0, rfl, ⟨by simp, by omega⟩, fun i f h => by simp at h⟩
set_option maxRecDepth 100000 in
seal rn rnN rnS Goes ans atEnd put0 putM opened openedY putA0 putA oneSt st0 keep put foldK in
theorem rfold_any {z d op k : Int} {s : List UInt8} {kids : List Co} {v : Value} {w : World} {A : Nat → Prop} (hA : ∀ x, A x → x < w.heap.size) (hz : tyOk z) (hd1 : 1 ≤ d) (hok : okT z d (.mk op k s kids) = true) (hN : NcS A w v (.mk op k s kids)) : Calls Tryz.prog 43 #[v] w (OnS w A (bif rkdP (.mk op k s kids) then some (reckP (.mk op k s kids)) else none)) := by
  have h3 := ok_three hz hok
  obtain ⟨ak, cc, rfl, hfit, hcap, hkids⟩ := hN.open
  obtain ⟨N, hL⟩ : ∃ N, kids.length = N := ⟨_, rfl⟩
  rw [hL] at hcap h3 hN ⊢
  have hNc : ∀ {w' : World}, Below w.heap.size w w' → Nc w'.heap.size w' (cv op k s (.slice ak N cc)) (.mk op k s kids) := fun hB => (hN.bel hA hB).toN fun x hx => Nat.lt_of_lt_of_le (hA x hx) hB.size
  have hrk : rkdP (.mk op k s kids) = (asksP op && kids.all constP) := rfl
  refine Goes.begin Tryz.func43 [] (fun _ => True) Holds.nil (by simp [Mem.ids]) (fun _ _ => trivial) ?_
  have start : ∀ (b : Bool) (g r : Nat), asksP op = b → (∀ J, Goes Tryz.prog (bodyPost Tryz.prog Tryz.f43 (OnS w A (bif rkdP (.mk op k s kids) then some (reckP (.mk op k s kids)) else none))) (fun w' => Ch (Mem.ids []) w w' ∧ True) ⟨foldK, fr 75 [(1, .pointer (some ⟨g, 0, none⟩)), (2, .pointer (some ⟨r, 0, none⟩)), (3, .bool false), (4, .bool b), (5, .int .i64 (0 : Nat))] J, [(g, cO4 op k s ak N cc), (r, cO4 0 0 [] none 0 0)]⟩) := by
    intro b g r hb J0
    refine Goes.slot 4 (.bool (b && (kids.take 0).all constP)) (u := .bool b) (congrArg _ (by simp)) ?_
    refine Goes.loop0 (α := Nat) 75 (fun j => [(1, .pointer (some ⟨g, 0, none⟩)), (2, .pointer (some ⟨r, 0, none⟩)), (3, .bool false), (4, .bool (b && (kids.take j).all constP)), (5, .int .i64 j)]) [(g, cO4 op k s ak N cc), (r, cO4 0 0 [] none 0 0)] (fun j => j ≤ N) (fun j => N - j) 0 (Nat.zero_le _) ?_
    rintro j J hj2 back
    cases hlt : decide ((j : Int) < (N : Int)) with
    | true =>
      have hjl : j < N := by have := of_decide_eq_true hlt; omega
      obtain ⟨x, hx⟩ : ∃ x, kids[j]? = some x := ⟨kids[j]'(by omega), by simp⟩
      obtain ⟨bb, o, u, ha, hb', hcl, hNx⟩ := hkids j x hx
      obtain ⟨op1, k1, s1, kids1⟩ := x
      obtain ⟨a1, cc1, rfl, -⟩ := hNx.open
      obtain ⟨N1, hN1⟩ : ∃ N1, kids1.length = N1 := ⟨_, rfl⟩
      rw [hN1] at hcl
      have hbb := hA _ hb'
      have htk := all_take hx
      refine Goes.run [0, 0, 1, 0] [(decide ((j : Int) < (N : Int)), true)] ⟨hlt, trivial⟩ ?_
      refine Goes.val (Instr.indexAt 22 (.slice ak N cc) (.int .i64 j)) (.pointer (some ⟨bb, o + j * 4, none⟩)) (fun w' _ _ => by rw [ha]; exact idxC bb o N cc j hjl w') ?_
      refine Goes.val (Instr.loadAt 24 (.pointer (some ⟨bb, o + j * 4, none⟩))) (cv op1 k1 s1 (.slice a1 N1 cc1)) (fun w' hm hI => loadC (hcl.below hbb (bel0 hI))) ?_
      refine Goes.call0 76 #[cv op1 k1 s1 (.slice a1 N1 cc1)] (.bool (op1 == 1 || op1 == 2 || op1 == 3)) (fun w' _ _ => rconstant_any op1 k1 s1 (.slice a1 N1 cc1) w') ?_
      cases hF : (b && (kids.take j).all constP) with
      | true =>
        refine Goes.run [1] [(true, true)] ⟨rfl, trivial⟩ ?_
        refine Goes.slot 4 (.bool (b && (kids.take (j + 1)).all constP)) (u := .bool (op1 == 1 || op1 == 2 || op1 == 3)) (congrArg _ (by rw [htk, ← Bool.and_assoc, hF]; rfl)) ?_
        refine Goes.slot 5 (.int .i64 (j + 1 : Nat)) (u := .int .i64 (IntKind.i64.wrap ((j : Int) + 1))) (congrArg _ (wrap_nat (by omega))) ?_
        exact back (j + 1) _ (by omega) (by omega) (by kernel_rfl) (by kernel_rfl) (by kernel_rfl)
      | false =>
        refine Goes.run [0] [(false, false)] ⟨rfl, trivial⟩ ?_
        refine Goes.slot 4 (.bool (b && (kids.take (j + 1)).all constP)) (u := .bool false) (congrArg _ (by rw [htk, ← Bool.and_assoc, hF]; rfl)) ?_
        refine Goes.slot 5 (.int .i64 (j + 1 : Nat)) (u := .int .i64 (IntKind.i64.wrap ((j : Int) + 1))) (congrArg _ (wrap_nat (by omega))) ?_
        exact back (j + 1) _ (by omega) (by omega) (by kernel_rfl) (by kernel_rfl) (by kernel_rfl)
    | false =>
      have hjN : j = N := by have := of_decide_eq_false hlt; omega
      have hta : (kids.take j).all constP = kids.all constP := by rw [List.take_of_length_le (by omega)]
      cases hF : (b && (kids.take j).all constP) with
      | false =>
        refine Goes.run [0, 0, 0, 1, 0, 1] [(true, true), (decide ((j : Int) < (N : Int)), false)] ⟨rfl, hlt, trivial⟩ ?_
        refine Goes.ret [1] (.tuple #[cv op k s (.slice ak N cc), .bool false]) fun w' hm hI => ⟨?_, bel0 hI⟩
        rw [hrk, hb, ← hta, hF]
        exact ⟨_, rfl, four_cv⟩
      | true =>
        have hf : rkdP (.mk op k s kids) = true := by rw [hrk, hb, ← hta, hF]
        obtain ⟨v0, hty, hz3, hre, hval, hob⟩ := fold_facts hz hd1 hok hf
        have hgood : okT z d (reckP (.mk op k s kids)) = true := (rule_good (r := ⟨1, rkdP, reckP⟩) (by simp [rulesP]) hz hok hf).1.ok
        rw [hf, cond_true]
        rw [hre] at hgood ⊢
        refine Goes.run [0, 0, 0, 0, 0] [(false, false), (decide ((j : Int) < (N : Int)), false)] ⟨rfl, hlt, trivial⟩ ?_
        refine Goes.call0 77 #[cv op k s (.slice ak N cc), .int .i64 0, .slice none 0 0] (.tuple #[.int .i64 v0, .bool true]) (fun w' _ hI => by have := val_any (fs := []) 0 (.mk op k s kids) _ w' hob (hNc (bel0 hI)) fds_nil; rw [hval] at this; exact this) ?_
        refine Goes.run [0] [] trivial ?_
        refine Goes.call0 22 #[cv op k s (.slice ak N cc)] (.tuple #[.int .i64 z, .bool true]) (fun w' _ hI => by have := rtype_any (hNc (bel0 hI)); rw [hty] at this; exact this) ?_
        have fin : ∀ n : Int, n = z → ∀ w' : World, Ch (Mem.ids []) w w' ∧ True → OnS w A (some (.mk (z + 1) v0 [] [])) (.returned (.tuple #[cv (n + 1) v0 [] (.slice none 0 0), .bool true])) w' := by
          rintro n rfl w' hI
          exact ⟨⟨_, rfl, NcS.leaf (ok_fits hz hgood)⟩, hI.1.toB (fun x hx => by cases hx)⟩
        rcases hz3 with e | e | e
        · subst e
          refine Goes.run1 [2, 2, 1] [] trivial fun g3 => ?_
          exact Goes.ret [1] (.tuple #[cv 1 v0 [] (.slice none 0 0), .bool true]) fun w' hm hI => fin 0 rfl w' hI.now
        · subst e
          refine Goes.run1 [2, 2, 1] [] trivial fun g3 => ?_
          exact Goes.ret [1] (.tuple #[cv 2 v0 [] (.slice none 0 0), .bool true]) fun w' hm hI => fin 1 rfl w' hI.now
        · subst e
          refine Goes.run1 [2, 2, 1] [] trivial fun g3 => ?_
          exact Goes.ret [1] (.tuple #[cv 3 v0 [] (.slice none 0 0), .bool true]) fun w' hm hI => fin 2 rfl w' hI.now
  cases h6 : (op == 6) with
  | true =>
    refine Goes.run2 [0, 1, 1, 1] [(true, true), (true, true), (op == 6, true)] ⟨rfl, rfl, h6, trivial⟩ fun g r => ?_
    refine Goes.at (K := foldK) (n := 75) (S := [(1, .pointer (some ⟨g, 0, none⟩)), (2, .pointer (some ⟨r, 0, none⟩)), (3, .bool false), (4, .bool true), (5, .int .i64 (0 : Nat))]) (m := [(g, cO4 op k s ak N cc), (r, cO4 0 0 [] none 0 0)]) (start true g r (by rw [asks_is, h6]; rfl)) ?_ ?_ ?_
    · kernel_rfl
    · kernel_rfl
    · kernel_rfl
  | false =>
  cases h14 : (op == 14) with
  | true =>
    refine Goes.run2 [0, 0, 0, 1, 1] [(true, true), (op == 14, true), (op == 6, false)] ⟨rfl, h14, h6, trivial⟩ fun g r => ?_
    refine Goes.at (K := foldK) (n := 75) (S := [(1, .pointer (some ⟨g, 0, none⟩)), (2, .pointer (some ⟨r, 0, none⟩)), (3, .bool false), (4, .bool true), (5, .int .i64 (0 : Nat))]) (m := [(g, cO4 op k s ak N cc), (r, cO4 0 0 [] none 0 0)]) (start true g r (by rw [asks_is, h6, h14]; rfl)) ?_ ?_ ?_
    · kernel_rfl
    · kernel_rfl
    · kernel_rfl
  | false =>
  cases h7 : decide (7 ≤ op) with
  | true =>
    cases h13 : decide (op ≤ 13) with
    | true =>
      refine Goes.run2 [0, 0, 0, 0, 0, 1, 0, 1] [(decide (op ≤ 13), true), (decide (7 ≤ op), true), (op == 14, false), (op == 6, false)] ⟨h13, h7, h14, h6, trivial⟩ fun g r => ?_
      refine Goes.at (K := foldK) (n := 75) (S := [(1, .pointer (some ⟨g, 0, none⟩)), (2, .pointer (some ⟨r, 0, none⟩)), (3, .bool false), (4, .bool true), (5, .int .i64 (0 : Nat))]) (m := [(g, cO4 op k s ak N cc), (r, cO4 0 0 [] none 0 0)]) (start true g r (by rw [asks_is, h6, h14, h7, h13]; rfl)) ?_ ?_ ?_
      · kernel_rfl
      · kernel_rfl
      · kernel_rfl
    | false =>
      cases h17 : decide (17 ≤ op) with
      | true =>
        refine Goes.run2 [0, 0, 0, 0, 0, 1, 0, 0, 0, 1, 0] [(decide (17 ≤ op), true), (decide (op ≤ 13), false), (decide (7 ≤ op), true), (op == 14, false), (op == 6, false)] ⟨h17, h13, h7, h14, h6, trivial⟩ fun g r => ?_
        refine Goes.at (K := foldK) (n := 75) (S := [(1, .pointer (some ⟨g, 0, none⟩)), (2, .pointer (some ⟨r, 0, none⟩)), (3, .bool false), (4, .bool (decide (op ≤ 21))), (5, .int .i64 (0 : Nat))]) (m := [(g, cO4 op k s ak N cc), (r, cO4 0 0 [] none 0 0)]) (start (decide (op ≤ 21)) g r (by rw [asks_is, h6, h14, h7, h13, h17]; rfl)) ?_ ?_ ?_
        · kernel_rfl
        · kernel_rfl
        · kernel_rfl
      | false =>
        refine Goes.run2 [0, 0, 0, 0, 0, 1, 0, 0, 0, 0] [(decide (17 ≤ op), false), (decide (op ≤ 13), false), (decide (7 ≤ op), true), (op == 14, false), (op == 6, false)] ⟨h17, h13, h7, h14, h6, trivial⟩ fun g r => ?_
        refine Goes.at (K := foldK) (n := 75) (S := [(1, .pointer (some ⟨g, 0, none⟩)), (2, .pointer (some ⟨r, 0, none⟩)), (3, .bool false), (4, .bool false), (5, .int .i64 (0 : Nat))]) (m := [(g, cO4 op k s ak N cc), (r, cO4 0 0 [] none 0 0)]) (start false g r (by rw [asks_is, h6, h14, h7, h13, h17]; rfl)) ?_ ?_ ?_
        · kernel_rfl
        · kernel_rfl
        · kernel_rfl
  | false =>
    have h17 : decide (17 ≤ op) = false := by have := of_decide_eq_false h7; exact decide_eq_false (by omega)
    refine Goes.run2 [0, 0, 0, 0, 0, 0, 0, 0, 0] [(decide (17 ≤ op), false), (false, false), (decide (7 ≤ op), false), (op == 14, false), (op == 6, false)] ⟨h17, rfl, h7, h14, h6, trivial⟩ fun g r => ?_
    refine Goes.at (K := foldK) (n := 75) (S := [(1, .pointer (some ⟨g, 0, none⟩)), (2, .pointer (some ⟨r, 0, none⟩)), (3, .bool false), (4, .bool false), (5, .int .i64 (0 : Nat))]) (m := [(g, cO4 op k s ak N cc), (r, cO4 0 0 [] none 0 0)]) (start false g r (by rw [asks_is, h6, h14, h7, h17]; rfl)) ?_ ?_ ?_
    · kernel_rfl
    · kernel_rfl
    · kernel_rfl
end Go.Proofs.YtjoplckpefoinaaGreatDoor
namespace Go.Proofs.YtjoplckpefoinaaGreatDoor
open Go Go.RowKit

/-- What stays is there, of what was there and what was made since. -/
theorem KI.since {A B : Nat → Prop} {w wf w1 : World} {v : Value} {c : Co} (hA : ∀ x, A x → x < w.heap.size) (hAw : ∀ x, A x → wf.heap[x]? = w.heap[x]?) (hI : KI w B wf nilV 0 [] w1) (h : NcS (fun x => A x ∨ B x) wf v c) : NcS (Since A w w1) w1 v c := (KI.nc hA hAw hI h).mono fun x hx => by
  rcases hx with hx | hx
  · exact .inl hx
  · exact .inr ⟨⟨(hI.stay x hx).2.1, (hI.stay x hx).2.2.lt⟩, (hI.stay x hx).2.2⟩
noncomputable def onceS1 : St := (rnS Tryz.prog 25 [0, 0] [] (rn Tryz.prog [0] [0, 1] (st0 Tryz.f24 #[cv 1 0 [] (.slice (some ⟨0, 0, none⟩) 1 1), .int .i64 0] [])).st).st
noncomputable def onceK1 : List TI := onceS1.todo
noncomputable def onceK2 : List TI := (rnS Tryz.prog 45 [0] [] onceS1).st.todo
noncomputable def q2P (n : Int) (c : Co) : Option Co := bif !delP 4 n then braQ c else none
noncomputable def q1P (n : Int) (c : Co) : Option Co := orQ (bif !delP 2 n then (bif decide (c.op < 23) then obsQ c else agrQ c) else none) (q2P n c)
section
variable {z d op k n : Int} {s : List UInt8} {kids : List Co} {w : World} {A : Nat → Prop} {ak : Option Addr} {N cc g r : Nat} {R : Ending → World → Prop}
set_option maxRecDepth 100000 in
seal rn rnN rnS Goes ans atEnd put0 putM opened openedY putA0 putA oneSt st0 keep put onceS1 onceK1 onceK2 in
theorem once_k2 (h0 : 0 ≤ n) (h15 : n ≤ 15) (hA : ∀ x, A x → x < w.heap.size) (hz : tyOk z) (hok : okT z d (.mk op k s kids) = true) (hk : kids ≠ []) {B : Nat → Prop} {wf : World} (hAw : ∀ x, A x → wf.heap[x]? = w.heap[x]?) (hS : NcS (fun x => A x ∨ B x) wf (cv op k s (.slice ak N cc)) (.mk op k s kids)) (J : Nat → Value) :
    Goes Tryz.prog (bodyPost Tryz.prog Tryz.f24 (OnS w A (q2P n (.mk op k s kids)))) (KI w B wf nilV 0 []) ⟨onceK2, fr 54 [(1, .int .i64 n), (2, .pointer (some ⟨g, 0, none⟩)), (4, .pointer (some ⟨r, 0, none⟩)), (5, .bool false)] J, [(g, cO4 op k s ak N cc), (r, cO4 0 0 [] none 0 0)]⟩ := by
  have hb := (del_bits h0 h15).2.2
  cases h4 : (!delP 4 n) with
  | false =>
    rw [h4] at hb
    refine Goes.run [0, 0, 1] [(((IntKind.i64.wrap (n.tdiv 4)).tmod 2 == 1), false)] ⟨hb.symm, trivial⟩ ?_
    refine Goes.ret [1] (.tuple #[cv op k s (.slice ak N cc), .bool false]) fun w' hm hI => ⟨?_, hI.now.bel⟩
    unfold q2P
    rw [h4]
    exact ⟨_, rfl, four_cv⟩
  | true =>
    rw [h4] at hb
    have e : q2P n (.mk op k s kids) = braQ (.mk op k s kids) := by unfold q2P; rw [h4]; rfl
    rw [e]
    refine Goes.run [1, 0] [(((IntKind.i64.wrap (n.tdiv 4)).tmod 2 == 1), true)] ⟨hb.symm, trivial⟩ ?_
    refine Goes.call 46 #[cv op k s (.slice ak N cc)] fun w1 hm1 hn1 hI1 => (rbra_any (A := fun x => A x ∨ B x) (KI.lt hA hI1.now) hz hok hk (KI.nc hA hAw hI1.now hS)).mono fun e w2 ⟨he, hB12⟩ => ?_
    cases hq : braQ (.mk op k s kids) with
    | none =>
      rw [hq] at he
      obtain ⟨v2, he, o2, k2, s2, a2, n2, c2, rfl⟩ := he
      refine ⟨_, _, _, he, hm1.bel hB12, hn1, KI.call hI1 (holds_lt hm1) hB12, ?_⟩
      refine Goes.run [1] [] trivial ?_
      exact Goes.ret [1] (.tuple #[cv o2 k2 s2 (.slice a2 n2 c2), .bool false]) fun w' hm hI => ⟨⟨_, rfl, four_cv⟩, hI.now.bel⟩
    | some t =>
      rw [hq] at he
      obtain ⟨v2, he, hN2⟩ := he
      obtain ⟨o2, k2, s2, a2, n2, c2, rfl⟩ := hN2.cells
      have hT1 := since_lift hN2
      have hw2 := KI.old hA hI1.now hB12
      refine ⟨_, _, _, he, hm1.bel hB12, hn1, KI.call hI1 (holds_lt hm1) hB12, ?_⟩
      refine Goes.run [1] [] trivial ?_
      exact Goes.ret [1] (.tuple #[cv o2 k2 s2 (.slice a2 n2 c2), .bool true]) fun w' hm hI => ⟨⟨_, rfl, KI.since hA hw2 hI.now hT1⟩, hI.now.bel⟩
set_option maxRecDepth 100000 in
seal rn rnN rnS Goes ans atEnd put0 putM opened openedY putA0 putA oneSt st0 keep put onceS1 onceK1 onceK2 in
theorem once_k1 (h0 : 0 ≤ n) (h15 : n ≤ 15) (hA : ∀ x, A x → x < w.heap.size) (hz : tyOk z) (hok : okT z d (.mk op k s kids) = true) (hk : kids ≠ []) {B : Nat → Prop} {wf : World} (hAw : ∀ x, A x → wf.heap[x]? = w.heap[x]?) (hS : NcS (fun x => A x ∨ B x) wf (cv op k s (.slice ak N cc)) (.mk op k s kids)) (J : Nat → Value) :
    Goes Tryz.prog (bodyPost Tryz.prog Tryz.f24 (OnS w A (q1P n (.mk op k s kids)))) (KI w B wf nilV 0 []) ⟨onceK1, fr 54 [(1, .int .i64 n), (2, .pointer (some ⟨g, 0, none⟩)), (4, .pointer (some ⟨r, 0, none⟩)), (5, .bool false)] J, [(g, cO4 op k s ak N cc), (r, cO4 0 0 [] none 0 0)]⟩ := by
  have hb := (del_bits h0 h15).2.1
  cases h4 : (!delP 2 n) with
  | false =>
    rw [h4] at hb
    have e : q1P n (.mk op k s kids) = q2P n (.mk op k s kids) := by unfold q1P; rw [h4]; rfl
    rw [e]
    refine Goes.upto 45 [0] [(((IntKind.i64.wrap (n.tdiv 2)).tmod 2 == 1), false)] ⟨hb.symm, trivial⟩ ?_
    refine Goes.at (K := onceK2) (n := 54) (S := [(1, .int .i64 n), (2, .pointer (some ⟨g, 0, none⟩)), (4, .pointer (some ⟨r, 0, none⟩)), (5, .bool false)]) (m := [(g, cO4 op k s ak N cc), (r, cO4 0 0 [] none 0 0)]) (once_k2 h0 h15 hA hz hok hk hAw hS) ?_ ?_ ?_
    · kernel_rfl
    · kernel_rfl
    · kernel_rfl
  | true =>
    rw [h4] at hb
    cases h23 : decide (op < 23) with
    | true =>
      refine Goes.run1 [1, 0, 2, 0, 1, 0] [(decide (op < 23), true), (((IntKind.i64.wrap (n.tdiv 2)).tmod 2 == 1), true)] ⟨h23, hb.symm, trivial⟩ fun g8 => ?_
      refine Goes.call 44 #[cv op k s (.slice ak N cc)] fun w1 hm1 hn1 hI1 => ((robs_any (A := fun x => A x ∨ B x) (KI.lt hA hI1.now) hz hok (of_decide_eq_true h23) hk (KI.nc hA hAw hI1.now hS)).mono fun _ _ h => h.s).mono fun e w2 ⟨he, hB12⟩ => ?_
      have e : q1P n (.mk op k s kids) = orQ (obsQ (.mk op k s kids)) (q2P n (.mk op k s kids)) := by unfold q1P; rw [h4]; show orQ (bif true then (bif decide (op < 23) then _ else _) else _) _ = _; rw [h23]; rfl
      rw [e]
      cases hq : obsQ (.mk op k s kids) with
      | none =>
        rw [hq] at he
        obtain ⟨v2, he, o2, k2, s2, a2, n2, c2, rfl⟩ := he
        have hS1 := KI.lift hA hAw hI1.now hB12 hS
        have hw2 := KI.old hA hI1.now hB12
        refine ⟨_, _, _, he, hm1.bel hB12, hn1, KI.call hI1 (holds_lt hm1) hB12, ?_⟩
        refine Goes.upto 45 [2, 0] [(false, false)] ⟨rfl, trivial⟩ ?_
        refine Goes.keep 2 ?_
        refine Goes.at (K := onceK2) (n := 54) (S := [(1, .int .i64 n), (2, .pointer (some ⟨g, 0, none⟩)), (4, .pointer (some ⟨r, 0, none⟩)), (5, .bool false)]) (m := [(g, cO4 op k s ak N cc), (r, cO4 0 0 [] none 0 0)]) (once_k2 h0 h15 hA hz hok hk hw2 hS1) ?_ ?_ ?_
        · kernel_rfl
        · kernel_rfl
        · kernel_rfl
      | some t =>
        rw [hq] at he
        obtain ⟨v2, he, hN2⟩ := he
        obtain ⟨o2, k2, s2, a2, n2, c2, rfl⟩ := hN2.cells
        have hT1 := since_lift hN2
        have hw2 := KI.old hA hI1.now hB12
        refine ⟨_, _, _, he, hm1.bel hB12, hn1, KI.call hI1 (holds_lt hm1) hB12, ?_⟩
        refine Goes.run [2, 1, 2, 1] [(true, true)] ⟨rfl, trivial⟩ ?_
        exact Goes.ret [1] (.tuple #[cv o2 k2 s2 (.slice a2 n2 c2), .bool true]) fun w' hm hI => ⟨⟨_, rfl, KI.since hA hw2 hI.now hT1⟩, hI.now.bel⟩
    | false =>
      refine Goes.run1 [1, 0, 2, 0, 0, 0] [(decide (op < 23), false), (((IntKind.i64.wrap (n.tdiv 2)).tmod 2 == 1), true)] ⟨h23, hb.symm, trivial⟩ fun g8 => ?_
      refine Goes.call 45 #[cv op k s (.slice ak N cc)] fun w1 hm1 hn1 hI1 => ((ragr_any (A := fun x => A x ∨ B x) (KI.lt hA hI1.now) hz hok hk (KI.nc hA hAw hI1.now hS)).mono fun _ _ h => h.s).mono fun e w2 ⟨he, hB12⟩ => ?_
      have e : q1P n (.mk op k s kids) = orQ (agrQ (.mk op k s kids)) (q2P n (.mk op k s kids)) := by unfold q1P; rw [h4]; show orQ (bif true then (bif decide (op < 23) then _ else _) else _) _ = _; rw [h23]; rfl
      rw [e]
      cases hq : agrQ (.mk op k s kids) with
      | none =>
        rw [hq] at he
        obtain ⟨v2, he, o2, k2, s2, a2, n2, c2, rfl⟩ := he
        have hS1 := KI.lift hA hAw hI1.now hB12 hS
        have hw2 := KI.old hA hI1.now hB12
        refine ⟨_, _, _, he, hm1.bel hB12, hn1, KI.call hI1 (holds_lt hm1) hB12, ?_⟩
        refine Goes.upto 45 [2, 0] [(false, false)] ⟨rfl, trivial⟩ ?_
        refine Goes.keep 2 ?_
        refine Goes.at (K := onceK2) (n := 54) (S := [(1, .int .i64 n), (2, .pointer (some ⟨g, 0, none⟩)), (4, .pointer (some ⟨r, 0, none⟩)), (5, .bool false)]) (m := [(g, cO4 op k s ak N cc), (r, cO4 0 0 [] none 0 0)]) (once_k2 h0 h15 hA hz hok hk hw2 hS1) ?_ ?_ ?_
        · kernel_rfl
        · kernel_rfl
        · kernel_rfl
      | some t =>
        rw [hq] at he
        obtain ⟨v2, he, hN2⟩ := he
        obtain ⟨o2, k2, s2, a2, n2, c2, rfl⟩ := hN2.cells
        have hT1 := since_lift hN2
        have hw2 := KI.old hA hI1.now hB12
        refine ⟨_, _, _, he, hm1.bel hB12, hn1, KI.call hI1 (holds_lt hm1) hB12, ?_⟩
        refine Goes.run [2, 1, 2, 1] [(true, true)] ⟨rfl, trivial⟩ ?_
        exact Goes.ret [1] (.tuple #[cv o2 k2 s2 (.slice a2 n2 c2), .bool true]) fun w' hm hI => ⟨⟨_, rfl, KI.since hA hw2 hI.now hT1⟩, hI.now.bel⟩
set_option maxRecDepth 100000 in
seal rn rnN rnS Goes ans atEnd put0 putM opened openedY putA0 putA oneSt st0 keep put onceS1 onceK1 onceK2 in
/-- The document's first rule that fits. -/
theorem ronce_any {v : Value} (h0 : 0 ≤ n) (h15 : n ≤ 15) (hA : ∀ x, A x → x < w.heap.size) (hz : tyOk z) (hd1 : 1 ≤ d) (hok : okT z d (.mk op k s kids) = true) (hN : NcS A w v (.mk op k s kids)) : Calls Tryz.prog 24 #[v, .int .i64 n] w (OnS w A (onceQ n (.mk op k s kids))) := by
  have hb := (del_bits h0 h15).1
  obtain ⟨ak, cc, rfl, -, -, -⟩ := hN.open
  obtain ⟨N, hL⟩ : ∃ N, kids.length = N := ⟨_, rfl⟩
  rw [hL] at hN ⊢
  have hS0 : NcS (fun x => A x ∨ False) w (cv op k s (.slice ak N cc)) (.mk op k s kids) := hN.mono fun x hx => .inl hx
  refine Goes.begin Tryz.func24 [] (fun _ => True) Holds.nil (by simp [Mem.ids]) (fun _ _ => trivial) ?_
  refine Goes.inv KI.begin ?_
  cases hN0 : ((N : Int) == 0) with
  | true =>
    have hk : kids = [] := List.eq_nil_of_length_eq_zero (by have := eq_of_beq hN0; omega)
    subst hk
    refine Goes.run2 [0, 1, 0, 1] [((N : Int) == 0, true)] ⟨hN0, trivial⟩ fun g r => ?_
    refine Goes.ret [1] (.tuple #[cv op k s (.slice ak N cc), .bool false]) fun w' hm hI => ⟨?_, hI.now.bel⟩
    rw [once_leaf hz hok]
    exact ⟨_, rfl, four_cv⟩
  | false =>
    have hk : kids ≠ [] := by
      intro e
      rw [e] at hL
      rw [beq_eq_false_iff_ne] at hN0
      simp at hL
      omega
    have e0 : onceQ n (.mk op k s kids) = orQ (bif !delP 1 n && rkdP (.mk op k s kids) then some (reckP (.mk op k s kids)) else none) (q1P n (.mk op k s kids)) := rfl
    rw [e0]
    cases h1 : (!delP 1 n) with
    | false =>
      rw [h1] at hb
      refine Goes.run2 [0] [] trivial fun g r => ?_
      refine Goes.upto 25 [0, 0] [((n.tmod 2 == 1), false), ((N : Int) == 0, false)] ⟨hb.symm, hN0, trivial⟩ ?_
      refine Goes.at (K := onceK1) (n := 54) (S := [(1, .int .i64 n), (2, .pointer (some ⟨g, 0, none⟩)), (4, .pointer (some ⟨r, 0, none⟩)), (5, .bool false)]) (m := [(g, cO4 op k s ak N cc), (r, cO4 0 0 [] none 0 0)]) (once_k1 h0 h15 hA hz hok hk (fun _ _ => rfl) hS0) ?_ ?_ ?_
      · kernel_rfl
      · kernel_rfl
      · kernel_rfl
    | true =>
      rw [h1] at hb
      refine Goes.run2 [0, 0, 1, 0] [((n.tmod 2 == 1), true), ((N : Int) == 0, false)] ⟨hb.symm, hN0, trivial⟩ fun g r => ?_
      refine Goes.call 43 #[cv op k s (.slice ak N cc)] fun w1 hm1 hn1 hI1 => (rfold_any (A := fun x => A x ∨ False) (KI.lt hA hI1.now) hz hd1 hok (KI.nc hA (fun _ _ => rfl) hI1.now hS0)).mono fun e w2 ⟨he, hB12⟩ => ?_
      have hw2 := KI.old hA hI1.now hB12
      cases hq : rkdP (.mk op k s kids) with
      | false =>
        rw [hq] at he
        obtain ⟨v2, he, o2, k2, s2, a2, n2, c2, rfl⟩ := he
        have hS1 := KI.lift hA (fun _ _ => rfl) hI1.now hB12 hS0
        refine ⟨_, _, _, he, hm1.bel hB12, hn1, KI.call hI1 (holds_lt hm1) hB12, ?_⟩
        refine Goes.upto1 25 [2, 0] [(false, false)] ⟨rfl, trivial⟩ fun g6 => ?_
        refine Goes.keep 2 ?_
        refine Goes.at (K := onceK1) (n := 54) (S := [(1, .int .i64 n), (2, .pointer (some ⟨g, 0, none⟩)), (4, .pointer (some ⟨r, 0, none⟩)), (5, .bool false)]) (m := [(g, cO4 op k s ak N cc), (r, cO4 0 0 [] none 0 0)]) (once_k1 h0 h15 hA hz hok hk hw2 hS1) ?_ ?_ ?_
        · kernel_rfl
        · kernel_rfl
        · kernel_rfl
      | true =>
        rw [hq] at he
        obtain ⟨v2, he, hN2⟩ := he
        obtain ⟨o2, k2, s2, a2, n2, c2, rfl⟩ := hN2.cells
        have hT1 := since_lift hN2
        refine ⟨_, _, _, he, hm1.bel hB12, hn1, KI.call hI1 (holds_lt hm1) hB12, ?_⟩
        refine Goes.run1 [2, 1, 2, 1] [(true, true)] ⟨rfl, trivial⟩ fun g6 => ?_
        exact Goes.ret [1] (.tuple #[cv o2 k2 s2 (.slice a2 n2 c2), .bool true]) fun w' hm hI => ⟨⟨_, rfl, KI.since hA hw2 hI.now hT1⟩, hI.now.bel⟩
end
end Go.Proofs.YtjoplckpefoinaaGreatDoor
namespace Go.Proofs.YtjoplckpefoinaaGreatDoor
open Go Go.RowKit

noncomputable def rdSt : St := (rn Tryz.prog [0, 2, 2] [1, 2, 3] (st0 Tryz.f12 #[cv 0 0 [] (.slice (some ⟨0, 0, none⟩) 1 1), .int .i64 0] [])).st
noncomputable def rdHead : List TI := rdSt.todo
noncomputable def rdR0 : List TI := (rn Tryz.prog [0, 0, 1] [] rdSt).st.todo
noncomputable def rdReg : List TI := (opened [] ⟨rdR0, [], []⟩).todo
noncomputable def rdK : List TI := match rdReg with
  | .any ops m _ _ :: k => .any ops m 3 #[true, true, true, true, true, true, true, true, true, true, false, false, false] :: k
  | k => k
set_option maxRecDepth 100000 in
seal rn rnN rnS Goes ans atEnd put0 putM opened openedY putA0 putA oneSt st0 keep put newOS rdSt rdK rdHead rdR0 in
theorem rd_tail {g2 g4 go N cc : Nat} {ak : Option Addr} {op k n : Int} {s : List UInt8} {R : Ending → World → Prop} {w : World} {A : Nat → Prop} {rs : List Rl} {kids : List Co} {j : Nat} {va : Option Addr} {vc : Nat} {us : List Value} {B : Nat → Prop} {wf : World} {g27 : Nat} {op2 k2 : Int} {s2 : List UInt8} {a2 : Option Addr} {n2 c2 : Nat} {J : Nat → Value}
    (hj9 : j < 1000) (hus : us.length = j) (hP : KPr w A rs kids (us ++ [cv op2 k2 s2 (.slice a2 n2 c2)]) B wf)
    (back : ∀ (a' : KSt) (s' : St), a'.j = j + 1 → a'.us = (us ++ [cv op2 k2 s2 (.slice a2 n2 c2)]) → a'.B = B → a'.wf = wf → s'.todo = rdHead → s'.tmps = fr 40 [(1, .int .i64 n), (2, .pointer (some ⟨g2, 0, none⟩)), (4, .pointer (some ⟨g4, 0, none⟩)), (5, .pointer (some ⟨go, 0, none⟩)), (6, .int .i64 (j + 1 : Nat))] (jk s') → s'.mem = [(g2, cO4 op k s ak N cc), (g4, cO4 0 0 [] none 0 0), (go, cO4 op k s a'.va a'.j a'.vc)] → Goes Tryz.prog (bodyPost Tryz.prog Tryz.f12 R) (KI w a'.B a'.wf (.slice a'.va a'.j a'.vc) a'.j (flatV a'.us)) s') :
    Goes Tryz.prog (bodyPost Tryz.prog Tryz.f12 R) (KI w B wf (.slice va j vc) j (flatV us)) ⟨rdK, fr 40 [(1, .int .i64 n), (2, .pointer (some ⟨g2, 0, none⟩)), (4, .pointer (some ⟨g4, 0, none⟩)), (5, .pointer (some ⟨go, 0, none⟩)), (6, .int .i64 j), (19, .slice va j vc), (27, .slice (some ⟨g27, 0, none⟩) 1 1)] J, [(g2, cO4 op k s ak N cc), (g4, cO4 0 0 [] none 0 0), (go, cO4 op k s va j vc), (g27, cO4 op2 k2 s2 a2 n2 c2)]⟩ := by
  have hX4 : (flatV us).length = j * 4 := by
    rw [flatV_len us (fun u hu => hP.len4 u (by simp [hu])), hus]
  refine Goes.lone1 10 (TookS.eff 10 (Builtin.append_ #[22, 22] 22 #[.slice va j vc, .slice (some ⟨g27, 0, none⟩) 1 1]) fun w3 hm3 hn3 hI3 => ?_)
  obtain ⟨a', c', w4, hr, hown', hgr, hob⟩ := append_core (P := Tryz.prog) (t := 22) (e := 24) (ty := 22) (size := 4) (bytes := 56) (c := 1) (j := 3) (bj := g27) (m := 1) (news := cellsV (cv op2 k2 s2 (.slice a2 n2 c2))) (et := 24) (z := (0, 0)) hm3 hI3.now.row hI3.now.ch.size rfl (by intro u hu; simp only [cellsV, cv, List.mem_cons, List.not_mem_nil, or_false] at hu; rcases hu with rfl | rfl | rfl | rfl <;> rfl) (by omega) (by unfold maxLen; omega) (by omega) (by kernel_rfl) (by kernel_rfl)
  have hk3 := KI.known hI3 (holds_lt hm3)
  refine ⟨_, w4, _, _, hr, holds_grow hm3 (fun x hx => (hk3 x hx).2.2) hgr, hn3, KI.grow hI3 (holds_lt hm3) hown' hgr hob, ?_⟩
  refine Goes.run [11] [] trivial ?_
  refine Goes.lone1 12 (TookS.run 12 2 ?_)
  refine Goes.run [] [] trivial ?_
  refine Goes.keep 3 ?_
  refine Goes.slot 6 (.int .i64 (j + 1 : Nat)) (u := .int .i64 (IntKind.i64.wrap ((j : Int) + 1))) (congrArg _ (wrap_nat (by omega))) ?_
  refine Goes.inv (Inv' := KI w B wf (.slice a' (j + 1) c') (j + 1) (flatV (us ++ [cv op2 k2 s2 (.slice a2 n2 c2)]))) (fun w' h => by rw [flatV_snoc]; exact h) ?_
  exact back ⟨j + 1, a', c', (us ++ [cv op2 k2 s2 (.slice a2 n2 c2)]), B, wf⟩ _ rfl rfl rfl rfl (by kernel_rfl) (by kernel_rfl) (by kernel_rfl)
set_option maxRecDepth 100000 in
seal rn rnN rnS Goes ans atEnd put0 putM opened openedY putA0 putA oneSt st0 keep put newOS rdSt rdK rdHead rdR0 in
theorem rd_kid {g2 g4 go N cc : Nat} {ak : Option Addr} {op k n : Int} {s : List UInt8} {R : Ending → World → Prop} {w : World} {A : Nat → Prop} {rs : List Rl} {kids : List Co} {j : Nat} {va : Option Addr} {vc : Nat} {us : List Value} {B : Nat → Prop} {wf : World} {bk ok : Nat} {op1 k1 : Int} {s1 : List UInt8} {a1 : Option Addr} {N1 cc1 : Nat} {c1 : Co} {J : Nat → Value}
    (hA : ∀ x, A x → x < w.heap.size) (hj9 : j < 1000) (hjN : j < N) (hus : us.length = j) (hP : KPr w A rs kids us B wf) (hc1 : kids[j]? = some c1) (hak : ak = some ⟨bk, ok, none⟩) (hbk : bk < w.heap.size) (hcl : Cl4 w bk (ok + j * 4) (cv op1 k1 s1 (.slice a1 N1 cc1)))
    (hcall : ∀ w1, Below w.heap.size w w1 → Calls Tryz.prog 12 #[cv op1 k1 s1 (.slice a1 N1 cc1), .int .i64 n] w1 (RwR w1 A (rwP rs c1)))
    (back2 : ∀ (us' : List Value) (B2 : Nat → Prop) (wf2 : World), us'.length = j + 1 → KPr w A rs kids us' B2 wf2 → ∀ (a' : KSt) (s' : St), a'.j = j + 1 → a'.us = us' → a'.B = B2 → a'.wf = wf2 → s'.todo = rdHead → s'.tmps = fr 40 [(1, .int .i64 n), (2, .pointer (some ⟨g2, 0, none⟩)), (4, .pointer (some ⟨g4, 0, none⟩)), (5, .pointer (some ⟨go, 0, none⟩)), (6, .int .i64 (j + 1 : Nat))] (jk s') → s'.mem = [(g2, cO4 op k s ak N cc), (g4, cO4 0 0 [] none 0 0), (go, cO4 op k s a'.va a'.j a'.vc)] → Goes Tryz.prog (bodyPost Tryz.prog Tryz.f12 R) (KI w a'.B a'.wf (.slice a'.va a'.j a'.vc) a'.j (flatV a'.us)) s') :
    Goes Tryz.prog (bodyPost Tryz.prog Tryz.f12 R) (KI w B wf (.slice va j vc) j (flatV us)) ⟨rdR0, fr 40 [(1, .int .i64 n), (2, .pointer (some ⟨g2, 0, none⟩)), (4, .pointer (some ⟨g4, 0, none⟩)), (5, .pointer (some ⟨go, 0, none⟩)), (6, .int .i64 j)] J, [(g2, cO4 op k s ak N cc), (g4, cO4 0 0 [] none 0 0), (go, cO4 op k s va j vc)]⟩ := by
  refine Goes.open [] ?_
  refine Goes.run [0, 2, 4, 7] [] trivial ?_
  refine Goes.two 1 3 ?_ ?_
  · refine TookS.run 1 2 ?_
    refine Goes.lone1 3 ?_
    refine TookS.run 3 0 ?_
    refine Goes.valA 5 (Instr.indexAt 22 (.slice ak N cc) (.int .i64 j)) (.pointer (some ⟨bk, ok + j * 4, none⟩)) (fun w' _ => by rw [hak]; exact idxC bk ok N cc j hjN w') ?_
    refine Goes.lone1 6 ?_
    refine TookS.eff 6 (Instr.loadAt 24 (.pointer (some ⟨bk, ok + j * 4, none⟩))) fun w1 hm1 hn1 hI1 => ⟨cv op1 k1 s1 (.slice a1 N1 cc1), w1, _, _, loadC (hcl.below hbk hI1.now.bel), hm1, hn1, hI1, ?_⟩
    refine Goes.lone1 8 ?_
    refine TookS.call 8 12 #[cv op1 k1 s1 (.slice a1 N1 cc1), .int .i64 n] fun w1 hm1 hn1 hI1 => (hcall w1 hI1.now.bel).mono fun e w2 ⟨v2, he, hNv, hB12⟩ => ?_
    obtain ⟨op2, k2, s2, a2, n2, c2, rfl⟩ := hNv.cells
    have hP2 := hP.more hA hI1.now hB12 (by rw [hus]; exact hc1) hNv ⟨_, _, _, _, _, _, rfl⟩
    refine ⟨_, _, _, he, hm1.bel hB12, hn1, KI.call hI1 (holds_lt hm1) hB12, ?_⟩
    refine Goes.lone1 9 ?_
    refine TookS.newI 9 fun g27 => ?_
    refine Goes.at (K := rdK) (n := 40) (S := [(1, .int .i64 n), (2, .pointer (some ⟨g2, 0, none⟩)), (4, .pointer (some ⟨g4, 0, none⟩)), (5, .pointer (some ⟨go, 0, none⟩)), (6, .int .i64 j), (19, .slice va j vc), (27, .slice (some ⟨g27, 0, none⟩) 1 1)]) (m := [(g2, cO4 op k s ak N cc), (g4, cO4 0 0 [] none 0 0), (go, cO4 op k s va j vc), (g27, cO4 op2 k2 s2 a2 n2 c2)]) (fun J => ?_) ?_ ?_ ?_
    · exact rd_tail (by omega) hus hP2 (back2 _ _ _ (by simp [hus]) hP2)
    · kernel_rfl
    · kernel_rfl
    · kernel_rfl
  · skip
    refine TookS.run 3 0 ?_
    refine Goes.valA 5 (Instr.indexAt 22 (.slice ak N cc) (.int .i64 j)) (.pointer (some ⟨bk, ok + j * 4, none⟩)) (fun w' _ => by rw [hak]; exact idxC bk ok N cc j hjN w') ?_
    refine Goes.two 1 6 ?_ ?_
    · refine TookS.run 1 2 ?_
      refine Goes.lone1 6 ?_
      refine TookS.eff 6 (Instr.loadAt 24 (.pointer (some ⟨bk, ok + j * 4, none⟩))) fun w1 hm1 hn1 hI1 => ⟨cv op1 k1 s1 (.slice a1 N1 cc1), w1, _, _, loadC (hcl.below hbk hI1.now.bel), hm1, hn1, hI1, ?_⟩
      refine Goes.lone1 8 ?_
      refine TookS.call 8 12 #[cv op1 k1 s1 (.slice a1 N1 cc1), .int .i64 n] fun w1 hm1 hn1 hI1 => (hcall w1 hI1.now.bel).mono fun e w2 ⟨v2, he, hNv, hB12⟩ => ?_
      obtain ⟨op2, k2, s2, a2, n2, c2, rfl⟩ := hNv.cells
      have hP2 := hP.more hA hI1.now hB12 (by rw [hus]; exact hc1) hNv ⟨_, _, _, _, _, _, rfl⟩
      refine ⟨_, _, _, he, hm1.bel hB12, hn1, KI.call hI1 (holds_lt hm1) hB12, ?_⟩
      refine Goes.lone1 9 ?_
      refine TookS.newI 9 fun g27 => ?_
      refine Goes.at (K := rdK) (n := 40) (S := [(1, .int .i64 n), (2, .pointer (some ⟨g2, 0, none⟩)), (4, .pointer (some ⟨g4, 0, none⟩)), (5, .pointer (some ⟨go, 0, none⟩)), (6, .int .i64 j), (19, .slice va j vc), (27, .slice (some ⟨g27, 0, none⟩) 1 1)]) (m := [(g2, cO4 op k s ak N cc), (g4, cO4 0 0 [] none 0 0), (go, cO4 op k s va j vc), (g27, cO4 op2 k2 s2 a2 n2 c2)]) (fun J => ?_) ?_ ?_ ?_
      · exact rd_tail (by omega) hus hP2 (back2 _ _ _ (by simp [hus]) hP2)
      · kernel_rfl
      · kernel_rfl
      · kernel_rfl
    · skip
      refine TookS.eff 6 (Instr.loadAt 24 (.pointer (some ⟨bk, ok + j * 4, none⟩))) fun w1 hm1 hn1 hI1 => ⟨cv op1 k1 s1 (.slice a1 N1 cc1), w1, _, _, loadC (hcl.below hbk hI1.now.bel), hm1, hn1, hI1, ?_⟩
      refine Goes.two 1 8 ?_ ?_
      · refine TookS.run 1 2 ?_
        refine Goes.lone1 8 ?_
        refine TookS.call 8 12 #[cv op1 k1 s1 (.slice a1 N1 cc1), .int .i64 n] fun w1 hm1 hn1 hI1 => (hcall w1 hI1.now.bel).mono fun e w2 ⟨v2, he, hNv, hB12⟩ => ?_
        obtain ⟨op2, k2, s2, a2, n2, c2, rfl⟩ := hNv.cells
        have hP2 := hP.more hA hI1.now hB12 (by rw [hus]; exact hc1) hNv ⟨_, _, _, _, _, _, rfl⟩
        refine ⟨_, _, _, he, hm1.bel hB12, hn1, KI.call hI1 (holds_lt hm1) hB12, ?_⟩
        refine Goes.lone1 9 ?_
        refine TookS.newI 9 fun g27 => ?_
        refine Goes.at (K := rdK) (n := 40) (S := [(1, .int .i64 n), (2, .pointer (some ⟨g2, 0, none⟩)), (4, .pointer (some ⟨g4, 0, none⟩)), (5, .pointer (some ⟨go, 0, none⟩)), (6, .int .i64 j), (19, .slice va j vc), (27, .slice (some ⟨g27, 0, none⟩) 1 1)]) (m := [(g2, cO4 op k s ak N cc), (g4, cO4 0 0 [] none 0 0), (go, cO4 op k s va j vc), (g27, cO4 op2 k2 s2 a2 n2 c2)]) (fun J => ?_) ?_ ?_ ?_
        · exact rd_tail (by omega) hus hP2 (back2 _ _ _ (by simp [hus]) hP2)
        · kernel_rfl
        · kernel_rfl
        · kernel_rfl
      · skip
        refine TookS.call 8 12 #[cv op1 k1 s1 (.slice a1 N1 cc1), .int .i64 n] fun w1 hm1 hn1 hI1 => (hcall w1 hI1.now.bel).mono fun e w2 ⟨v2, he, hNv, hB12⟩ => ?_
        obtain ⟨op2, k2, s2, a2, n2, c2, rfl⟩ := hNv.cells
        have hP2 := hP.more hA hI1.now hB12 (by rw [hus]; exact hc1) hNv ⟨_, _, _, _, _, _, rfl⟩
        refine ⟨_, _, _, he, hm1.bel hB12, hn1, KI.call hI1 (holds_lt hm1) hB12, ?_⟩
        refine Goes.two 1 9 ?_ ?_
        · refine TookS.run 1 2 ?_
          refine Goes.lone1 9 ?_
          refine TookS.newI 9 fun g27 => ?_
          refine Goes.at (K := rdK) (n := 40) (S := [(1, .int .i64 n), (2, .pointer (some ⟨g2, 0, none⟩)), (4, .pointer (some ⟨g4, 0, none⟩)), (5, .pointer (some ⟨go, 0, none⟩)), (6, .int .i64 j), (19, .slice va j vc), (27, .slice (some ⟨g27, 0, none⟩) 1 1)]) (m := [(g2, cO4 op k s ak N cc), (g4, cO4 0 0 [] none 0 0), (go, cO4 op k s va j vc), (g27, cO4 op2 k2 s2 a2 n2 c2)]) (fun J => ?_) ?_ ?_ ?_
          · exact rd_tail (by omega) hus hP2 (back2 _ _ _ (by simp [hus]) hP2)
          · kernel_rfl
          · kernel_rfl
          · kernel_rfl
        · skip
          refine TookS.newI 9 fun g27 => ?_
          refine Goes.lone1 1 ?_
          refine TookS.run 1 2 ?_
          refine Goes.at (K := rdK) (n := 40) (S := [(1, .int .i64 n), (2, .pointer (some ⟨g2, 0, none⟩)), (4, .pointer (some ⟨g4, 0, none⟩)), (5, .pointer (some ⟨go, 0, none⟩)), (6, .int .i64 j), (19, .slice va j vc), (27, .slice (some ⟨g27, 0, none⟩) 1 1)]) (m := [(g2, cO4 op k s ak N cc), (g4, cO4 0 0 [] none 0 0), (go, cO4 op k s va j vc), (g27, cO4 op2 k2 s2 a2 n2 c2)]) (fun J => ?_) ?_ ?_ ?_
          · exact rd_tail (by omega) hus hP2 (back2 _ _ _ (by simp [hus]) hP2)
          · kernel_rfl
          · kernel_rfl
          · kernel_rfl
end Go.Proofs.YtjoplckpefoinaaGreatDoor
namespace Go.Proofs.YtjoplckpefoinaaGreatDoor
open Go Go.RowKit

/-- What the rules find, and what the document finds. -/
theorem once_some {n : Int} {c t : Co} (h : onceQ n c = some t) : ∃ r, findP (rulesN n) c = some r ∧ r.becomes c = t := by
  rw [← once_eq] at h
  cases hf : findP (rulesN n) c with
  | none => rw [hf] at h; cases h
  | some r => rw [hf] at h; cases h; exact ⟨r, rfl, rfl⟩
theorem once_none {n : Int} {c : Co} (h : onceQ n c = none) : findP (rulesN n) c = none := by
  rw [← once_eq] at h
  cases hf : findP (rulesN n) c with
  | none => rfl
  | some r => rw [hf] at h; cases h
set_option maxRecDepth 100000 in
seal rn rnN rnS Goes ans atEnd put0 putM opened openedY putA0 putA oneSt st0 keep put newOS rdSt rdK rdHead rdR0 in
theorem rewritten_any {n : Int} (h0 : 0 ≤ n) (h15 : n ≤ 15) (c : Co) : ∀ (z d : Int) (v : Value) (w : World) (A : Nat → Prop), tyOk z → 1 ≤ d → okT z d c = true → (∀ x, A x → x < w.heap.size) → NcS A w v c → Calls Tryz.prog 12 #[v, .int .i64 n] w (RwR w A (rwP (rulesN n) c)) := by
  induction c using Co.ind with
  | h op k s kids ih =>
  intro z d v w A hz hd1 hok hA hN
  have hrs := rules_sub n
  have hok2 := (rw_kids (rs := rulesN n) hz (fun c _ => rw_good hrs c) hok).1.ok
  have h3 := ok_three hz hok
  obtain ⟨ak, cc, rfl, hfit, hcap, hkids⟩ := hN.open
  obtain ⟨N, hL⟩ : ∃ N, kids.length = N := ⟨_, rfl⟩
  rw [hL] at hcap h3 ⊢
  refine Goes.begin Tryz.func12 [] (fun _ => True) Holds.nil (by simp [Mem.ids]) (fun _ _ => trivial) ?_
  refine Goes.run3 [0, 2, 2] [] trivial fun g2 g4 go => ?_
  refine Goes.loop (α := KSt) 40 (fun a => [(1, .int .i64 n), (2, .pointer (some ⟨g2, 0, none⟩)), (4, .pointer (some ⟨g4, 0, none⟩)), (5, .pointer (some ⟨go, 0, none⟩)), (6, .int .i64 a.j)]) (fun a => [(g2, cO4 op k s ak N cc), (g4, cO4 0 0 [] none 0 0), (go, cO4 op k s a.va a.j a.vc)]) (fun a w' => KI w a.B a.wf (.slice a.va a.j a.vc) a.j (flatV a.us) w') (fun a => a.us.length = a.j ∧ a.j ≤ N ∧ KPr w A (rulesN n) kids a.us a.B a.wf) (fun a => N - a.j) ⟨0, none, 0, [], fun _ => False, w⟩ ⟨rfl, Nat.zero_le _, ⟨fun _ _ => rfl, by simp, by simp⟩⟩ (fun w' hI => ⟨hI.1, w'.ownsRow_nil _ _ _, fun x hx => hx.elim, fun r hr => by cases hr⟩) ?_
  rintro ⟨j, va, vc, us, B, wf⟩ J ⟨hus, hjN, hP⟩ back
  replace hus : us.length = j := hus
  replace hjN : j ≤ N := hjN
  replace hP : KPr w A (rulesN n) kids us B wf := hP
  show Goes _ _ (KI w B wf (.slice va j vc) j (flatV us)) ⟨_, fr 40 [(1, .int .i64 n), (2, .pointer (some ⟨g2, 0, none⟩)), (4, .pointer (some ⟨g4, 0, none⟩)), (5, .pointer (some ⟨go, 0, none⟩)), (6, .int .i64 j)] J, [(g2, cO4 op k s ak N cc), (g4, cO4 0 0 [] none 0 0), (go, cO4 op k s va j vc)]⟩
  cases hlt : decide ((j : Int) < (N : Int)) with
  | true =>
    have hjl : j < N := by have := of_decide_eq_true hlt; omega
    have back2 : ∀ (us' : List Value) (B2 : Nat → Prop) (wf2 : World), us'.length = j + 1 → KPr w A (rulesN n) kids us' B2 wf2 → ∀ (a' : KSt) (s' : St), a'.j = j + 1 → a'.us = us' → a'.B = B2 → a'.wf = wf2 → s'.todo = rdHead → s'.tmps = fr 40 [(1, .int .i64 n), (2, .pointer (some ⟨g2, 0, none⟩)), (4, .pointer (some ⟨g4, 0, none⟩)), (5, .pointer (some ⟨go, 0, none⟩)), (6, .int .i64 (j + 1 : Nat))] (jk s') → s'.mem = [(g2, cO4 op k s ak N cc), (g4, cO4 0 0 [] none 0 0), (go, cO4 op k s a'.va a'.j a'.vc)] → Goes Tryz.prog (bodyPost Tryz.prog Tryz.f12 (RwR w A (rwP (rulesN n) (.mk op k s kids)))) (KI w a'.B a'.wf (.slice a'.va a'.j a'.vc) a'.j (flatV a'.us)) s' := by
      rintro us' B2 wf2 hl2 hP2 ⟨j', va', vc', us1, B1, wf1⟩ s' e1 e2 e3 e4 h1 h2 h3'
      simp only at e1 e2 e3 e4
      subst e1 e2 e3 e4
      exact back ⟨j + 1, va', vc', us1, B1, wf1⟩ s' ⟨hl2, by show j + 1 ≤ N; omega, hP2⟩ (by show N - (j + 1) < N - j; omega) (h1.trans (by kernel_rfl)) h2 h3'
    obtain ⟨c1, hc1⟩ : ∃ c1, kids[j]? = some c1 := ⟨kids[j]'(by omega), by simp⟩
    obtain ⟨zx, hzx, hokx⟩ := ok_kid hz hok hc1
    obtain ⟨bk, ok, u1, hak, hbk', hcl, hNu⟩ := hkids j c1 hc1
    have hbk := hA _ hbk'
    obtain ⟨op1, k1, s1, a1, N1, cc1, rfl⟩ := hNu.cells
    have hcall : ∀ w1, Below w.heap.size w w1 → Calls Tryz.prog 12 #[cv op1 k1 s1 (.slice a1 N1 cc1), .int .i64 n] w1 (RwR w1 A (rwP (rulesN n) c1)) := fun w1 hB => ih c1 (List.mem_of_getElem? hc1) zx (d + 1) _ w1 A hzx (by omega) hokx (fun x hx => Nat.lt_of_lt_of_le (hA x hx) hB.size) (hNu.bel hA hB)
    refine Goes.run [0, 0, 1] [(decide ((j : Int) < (N : Int)), true)] ⟨hlt, trivial⟩ ?_
    refine Goes.at (K := rdR0) (n := 40) (S := [(1, .int .i64 n), (2, .pointer (some ⟨g2, 0, none⟩)), (4, .pointer (some ⟨g4, 0, none⟩)), (5, .pointer (some ⟨go, 0, none⟩)), (6, .int .i64 j)]) (m := [(g2, cO4 op k s ak N cc), (g4, cO4 0 0 [] none 0 0), (go, cO4 op k s va j vc)]) (fun J => ?_) ?_ ?_ ?_
    · exact rd_kid hA (by omega) hjl hus hP hc1 hak hbk hcl hcall back2
    · kernel_rfl
    · kernel_rfl
    · kernel_rfl
  | false =>
    have hjN' : j = N := by have := of_decide_eq_false hlt; omega
    refine Goes.run [0, 0, 0] [(decide ((j : Int) < (N : Int)), false)] ⟨hlt, trivial⟩ ?_
    refine Goes.here (fun w1 => KI w (fun x => B x ∨ (Value.slice va j vc).ownBlock = some x) w1 (.slice none 0 0) 0 []) fun w1 hm1 hn1 hI1 => ⟨KI.rest hI1 (holds_lt hm1), ?_⟩
    have hk1 := hI1.now
    have hrl : (rwL (rulesN n) kids).length = N := by rw [rwL_len, hL]
    have hN1 : NcS (fun x => A x ∨ (B x ∨ (Value.slice va j vc).ownBlock = some x)) w1 (cv op k s (.slice va N vc)) (.mk op k s (rwL (rulesN n) kids)) := by
      have hold : ∀ x, A x ∨ B x → w1.heap[x]? = wf.heap[x]? := fun x hx => by
        rcases hx with hx | hx
        · rw [hP.old x hx, hk1.bel.block x (hA x hx)]
        · exact (hk1.stay x hx).1
      have hcp : N ≤ vc ∧ vc ≤ 9223372036854775807 := by
        rcases hk1.row.2 with ⟨e, h0⟩ | ⟨g, cap, cur, e, -, -, h1, h2, -⟩
        · cases e; omega
        · cases e; exact ⟨by omega, by unfold maxLen at h2; omega⟩
      rw [← hrl] at hcp ⊢
      refine .mk op k s (rwL (rulesN n) kids) va vc (fun i => us.getD i undef) hfit hcp (fun i hi => ?_) (fun i t ht => ?_)
      · obtain ⟨u, hu⟩ : ∃ u, us[i]? = some u := ⟨us[i]'(by omega), by simp⟩
        obtain ⟨o3, k3, s3, a3, n3, c3, rfl⟩ := hP.four u (List.mem_of_getElem? hu)
        have hjpos : 0 < j := by have := (List.getElem?_eq_some_iff.1 hu).1; omega
        rcases hk1.row.2 with ⟨-, h0⟩ | ⟨g, cap, cur, e, -, -⟩
        · omega
        · cases e
          have hrow := hk1.row
          refine ⟨g, 0, rfl, .inr (.inr rfl), ⟨o3, k3, s3, .slice a3 n3 c3, by simp [List.getD, hu], ?_, ?_, ?_, ?_⟩⟩
          · have := row_cell hrow (flatV_at hP.len4 hu (j := 0) (v := .int .i64 o3) rfl); simpa using this
          · have := row_cell hrow (flatV_at hP.len4 hu (j := 1) (v := .int .i64 k3) rfl); simpa using this
          · have := row_cell hrow (flatV_at hP.len4 hu (j := 2) (v := strV s3) rfl); simpa using this
          · have := row_cell hrow (flatV_at hP.len4 hu (j := 3) (v := .slice a3 n3 c3) rfl); simpa using this
      · obtain ⟨c1, hc1⟩ : ∃ c1, kids[i]? = some c1 := by
          have := (List.getElem?_eq_some_iff.1 ht).1
          exact ⟨kids[i]'(by omega), by simp⟩
        rw [rwL_at (rulesN n) hc1] at ht
        cases ht
        obtain ⟨u, hu⟩ : ∃ u, us[i]? = some u := ⟨us[i]'(by have := (List.getElem?_eq_some_iff.1 hc1).1; omega), by simp⟩
        have e : us.getD i undef = u := by simp [List.getD, hu]
        rw [e]
        exact ((hP.kids i u c1 hu hc1).later hold).mono fun x hx => hx.elim .inl fun hx => .inr (.inl hx)
    refine Goes.loop (α := FSt) 40 (fun _ => [(1, .int .i64 n), (2, .pointer (some ⟨g2, 0, none⟩)), (4, .pointer (some ⟨g4, 0, none⟩)), (5, .pointer (some ⟨go, 0, none⟩))])
      (fun f => [(g2, cO4 op k s ak N cc), (g4, cO4 0 0 [] none 0 0), (go, cO4 f.op f.k f.s f.a f.n f.cc)]) (fun f w' => KI w f.B f.wf (.slice none 0 0) 0 [] w')
      (fun f => okT z d f.c = true ∧ fixP (rulesN n) f.c = rwP (rulesN n) (.mk op k s kids) ∧ f.kids.length = f.n ∧ NcS (fun x => A x ∨ f.B x) f.wf (cv f.op f.k f.s (.slice f.a f.n f.cc)) f.c ∧ ∀ x, A x → f.wf.heap[x]? = w.heap[x]?) (fun f => (mu f.c).toNat)
      ⟨op, k, s, rwL (rulesN n) kids, va, j, vc, fun x => B x ∨ (Value.slice va j vc).ownBlock = some x, w1⟩ ⟨hok2, by rw [rwP], by show (rwL (rulesN n) kids).length = j; omega, by show NcS _ w1 (cv op k s (.slice va j vc)) _; rw [hjN'] at hN1 ⊢; exact hN1, fun x hx => hk1.bel.block x (hA x hx)⟩ (fun w' h => h) ?_
    clear hN1 hk1 hI1 hm1 hn1 w1 back hP
    rintro ⟨op', k', s', kids', a', n', cc', B', wf'⟩ J ⟨hok', hfix, hn', hNc, hAw⟩ back
    replace hok' : okT z d (.mk op' k' s' kids') = true := hok'
    replace hfix : fixP (rulesN n) (.mk op' k' s' kids') = rwP (rulesN n) (.mk op k s kids) := hfix
    replace hn' : kids'.length = n' := hn'
    replace hNc : NcS (fun x => A x ∨ B' x) wf' (cv op' k' s' (.slice a' n' cc')) (.mk op' k' s' kids') := hNc
    replace hAw : ∀ x, A x → wf'.heap[x]? = w.heap[x]? := hAw
    show Goes _ _ (KI w B' wf' (.slice none 0 0) 0 []) ⟨_, fr 40 [(1, .int .i64 n), (2, .pointer (some ⟨g2, 0, none⟩)), (4, .pointer (some ⟨g4, 0, none⟩)), (5, .pointer (some ⟨go, 0, none⟩))] J, [(g2, cO4 op k s ak N cc), (g4, cO4 0 0 [] none 0 0), (go, cO4 op' k' s' a' n' cc')]⟩
    refine Goes.run [0, 2] [] trivial ?_
    refine Goes.call 24 #[cv op' k' s' (.slice a' n' cc'), .int .i64 n] fun w1 hm1 hn1 hI1 => (ronce_any (A := fun x => A x ∨ B' x) h0 h15 (KI.lt hA hI1.now) hz hd1 hok' (KI.nc hA hAw hI1.now hNc)).mono fun e w2 ⟨he, hB12⟩ => ?_
    have hS1 := KI.lift hA hAw hI1.now hB12 hNc
    have hw2 := KI.old hA hI1.now hB12
    cases hq : onceQ n (.mk op' k' s' kids') with
    | none =>
      rw [hq] at he
      obtain ⟨v2, he, o2, k2, s2, a2, n2, c2, rfl⟩ := he
      refine ⟨_, _, _, he, hm1.bel hB12, hn1, KI.call hI1 (holds_lt hm1) hB12, ?_⟩
      refine Goes.run1 [3, 1, 2, 1] [(true, true)] ⟨rfl, trivial⟩ fun g7 => ?_
      refine Goes.ret [1] (cv op' k' s' (.slice a' n' cc')) fun w' hm hI => ⟨_, rfl, ?_, hI.now.bel⟩
      rw [← hfix, fix_none (once_none hq)]
      exact KI.since hA hw2 hI.now hS1
    | some t =>
      obtain ⟨r, hf, rfl⟩ := once_some hq
      obtain ⟨hst, hok4, hmu⟩ := fix_step hrs hz hok' hf
      rw [hq] at he
      obtain ⟨v2, he, hN2⟩ := he
      obtain ⟨op4, k4, s4, kids4, hc4⟩ : ∃ op4 k4 s4 kids4, r.becomes (.mk op' k' s' kids') = .mk op4 k4 s4 kids4 := by
        cases r.becomes (.mk op' k' s' kids') with
        | mk a b c d => exact ⟨a, b, c, d, rfl⟩
      rw [hc4] at hN2 hst hok4 hmu
      obtain ⟨a4, cc4, rfl, -, -, -⟩ := hN2.open
      obtain ⟨n4, hn4⟩ : ∃ n4, kids4.length = n4 := ⟨_, rfl⟩
      rw [hn4] at hN2 he
      have hT1 := since_lift hN2
      refine ⟨_, _, _, he, hm1.bel hB12, hn1, KI.call hI1 (holds_lt hm1) hB12, ?_⟩
      refine Goes.run1 [3, 0, 3, 2] [(false, false)] ⟨rfl, trivial⟩ fun g7 => ?_
      refine Goes.keep 3 ?_
      exact back ⟨op4, k4, s4, kids4, a4, n4, cc4, fun x => B' x ∨ New w1 w2 x, w2⟩ _ ⟨hok4, hst.symm.trans hfix, hn4, hT1, hw2⟩ hmu (by kernel_rfl) (by kernel_rfl) (by kernel_rfl)
end Go.Proofs.YtjoplckpefoinaaGreatDoor
namespace Go.Proofs.YtjoplckpefoinaaGreatDoor
open Go Go.RowKit

set_option maxRecDepth 100000 in
seal rn rnN rnS Goes ans atEnd put0 putM opened openedY putA0 putA oneSt st0 keep put in
theorem rdo_any {c : Co} {v : Value} {w : World} {A : Nat → Prop} (n : Int) (hn : -9223372036854775808 ≤ n ∧ n ≤ 9223372036854775807) (hA : ∀ x, A x → x < w.heap.size) (hN : NcS A w v c) : Calls Tryz.prog 6 #[v, .int .i64 n] w (DoR w A (doP c n)) := by
  obtain ⟨op, k, s, kids⟩ := c
  obtain ⟨ak, cc, rfl, -, -, -⟩ := hN.open
  obtain ⟨N, hL⟩ : ∃ N, kids.length = N := ⟨_, rfl⟩
  rw [hL] at hN ⊢
  have hS0 : NcS (fun x => A x ∨ False) w (cv op k s (.slice ak N cc)) (.mk op k s kids) := hN.mono fun x hx => .inl hx
  refine Goes.begin Tryz.func6 [] (fun _ => True) Holds.nil (by simp [Mem.ids]) (fun _ _ => trivial) ?_
  refine Goes.inv KI.begin ?_
  refine Goes.run2 [0] [] trivial fun g2 g4 => ?_
  refine Goes.call0 11 #[cv op k s (.slice ak N cc)] (.int .i64 (chkP (.mk op k s kids))) (fun w' hm hI => rcheck_any (KI.nc' hA (fun _ _ => rfl) hI.now hS0)) ?_
  have e0 : doP (.mk op k s kids) n = bif !(decide (0 ≤ n) && decide (n ≤ 15)) || !(chkP (.mk op k s kids) == 0) then none else some (rwP (rulesN n) (.mk op k s kids)) := by unfold doP; rw [bad_eq hn]
  cases hc : (chkP (.mk op k s kids) == 0) with
  | false =>
    refine Goes.run [1, 1, 1, 1] [(true, true), (true, true), (!(chkP (.mk op k s kids) == 0), true)] ⟨rfl, rfl, by rw [hc]; rfl, trivial⟩ ?_
    exact Goes.ret [1] (.tuple #[cv 0 0 [] (.slice none 0 0), .int .i64 160]) fun w' hm hI => ⟨by rw [e0, hc, Bool.not_false, Bool.or_true]; rfl, hI.now.bel⟩
  | true =>
  cases hlo : decide (n < 0) with
  | true =>
    refine Goes.run [0, 1, 1, 1] [(true, true), (decide (n < 0), true), (!(chkP (.mk op k s kids) == 0), false)] ⟨rfl, hlo, by rw [hc]; rfl, trivial⟩ ?_
    have h0 : decide (0 ≤ n) = false := decide_eq_false (by have := of_decide_eq_true hlo; omega)
    exact Goes.ret [1] (.tuple #[cv 0 0 [] (.slice none 0 0), .int .i64 160]) fun w' hm hI => ⟨by rw [e0, h0]; rfl, hI.now.bel⟩
  | false =>
  have h0 : 0 ≤ n := by have := of_decide_eq_false hlo; omega
  cases hhi : decide (n > 15) with
  | true =>
    refine Goes.run [0, 0, 1, 1] [(decide (n > 15), true), (decide (n < 0), false), (!(chkP (.mk op k s kids) == 0), false)] ⟨hhi, hlo, by rw [hc]; rfl, trivial⟩ ?_
    have h1 : decide (n ≤ 15) = false := decide_eq_false (by have := of_decide_eq_true hhi; omega)
    exact Goes.ret [1] (.tuple #[cv 0 0 [] (.slice none 0 0), .int .i64 160]) fun w' hm hI => ⟨by rw [e0, h1, Bool.and_false]; rfl, hI.now.bel⟩
  | false =>
    have h15 : n ≤ 15 := by have := of_decide_eq_false hhi; omega
    have e1 : doP (.mk op k s kids) n = some (rwP (rulesN n) (.mk op k s kids)) := by rw [e0, hc, decide_eq_true h0, decide_eq_true h15]; rfl
    rw [e1]
    refine Goes.run [0, 0, 0, 0] [(decide (n > 15), false), (decide (n < 0), false), (!(chkP (.mk op k s kids) == 0), false)] ⟨hhi, hlo, by rw [hc]; rfl, trivial⟩ ?_
    refine Goes.call 12 #[cv op k s (.slice ak N cc), .int .i64 n] fun w1 hm1 hn1 hI1 => (rewritten_any h0 h15 (.mk op k s kids) 4 1 _ w1 (fun x => A x ∨ False) (by unfold tyOk; omega) (by omega) (chk_ok hc).1 (KI.lt hA hI1.now) (KI.nc hA (fun _ _ => rfl) hI1.now hS0)).mono fun e w2 ⟨v2, he, hN2, hB12⟩ => ?_
    obtain ⟨o2, k2, s2, a2, n2, c2, rfl⟩ := hN2.cells
    have hT1 := since_lift hN2
    have hw2 := KI.old hA hI1.now hB12
    refine ⟨_, _, _, he, hm1.bel hB12, hn1, KI.call hI1 (holds_lt hm1) hB12, ?_⟩
    refine Goes.run [1] [] trivial ?_
    exact Goes.ret [1] (.tuple #[cv o2 k2 s2 (.slice a2 n2 c2), .int .i64 0]) fun w' hm hI => ⟨⟨_, rfl, KI.since hA hw2 hI.now hT1⟩, hI.now.bel⟩
end Go.Proofs.YtjoplckpefoinaaGreatDoor
