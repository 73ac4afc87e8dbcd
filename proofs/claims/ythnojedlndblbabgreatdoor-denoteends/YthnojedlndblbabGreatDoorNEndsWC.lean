/- the text NEndsW -/
import Derived.Test.YthnojedlndblbabGreatDoorNGm
import Derived.Test.YthnojedlndblbabGreatDoorNGk
import Derived.Test.YthnojedlndblbabGreatDoorNGj
namespace Go.Proofs.YthnojedlndblbabGreatDoor
open Go Go.RowKit

section
variable {P : Program} {F : Exit → Act → World → Prop} {Inv : World → Prop} {s : St}
/-- Begin or Step is called in a drawn region. -/
theorem Goes.callLTA (i : Nat) (f : FuncId) (args : Array Value) (day : Int) (r : R2 × Int) (n0 : Nat) (hr : ∀ w1, Holds s.mem w1 → Stay s.mem.ids w1 Inv → Calls P f args w1 (LTQ day w1 r)) (hsz : ∀ w', Inv w' → n0 ≤ w'.heap.size)
    (h : ∀ aL cL aT cT, Goes P F (fun w' => Inv w' ∧ (Lvs n0 w' (.slice aL r.1.1.length cL) r.1.1 ∧ Trs n0 day w' (.slice aT r.1.2.length cT) r.1.2)) (putA i s (.tuple #[.slice aL r.1.1.length cL, .slice aT r.1.2.length cT, .int .i64 r.2]) s.mem))
    (ha : askA i s = some (f, args) := by kernel_rfl) (hw : anyLone i s = true := by kernel_rfl) (hf : okf P f = true := by kernel_rfl) : Goes P F Inv s :=
  Goes.callA i f args (fun ops m0 n l k ht w1 hm hn hI h0 => (hr w1 hm hI).mono fun e w2 ⟨lv, tv, he, hl, ht, hB⟩ => by
    obtain ⟨aL, cL, rfl⟩ := own_form hl
    obtain ⟨aT, cT, rfl⟩ := own_form ht
    have hn1 := hsz w1 hI.now
    have key : ∀ {b1 e1 s1 n1 : Nat} {v1 : Value} {x1 : List Value}, w2.ownsRow w1.heap.size e1 s1 v1 n1 x1 → ∀ b, v1.ownBlock = some b → b ∉ s.mem.ids := fun hr b hb hmem => by
      have h1 := (hr.lt b hb).1
      obtain ⟨q, hq, rfl⟩ := List.mem_map.1 hmem
      have := lt_of_get (in_holds hm q hq)
      omega
    exact ⟨_, _, s.mem, he, h0.bel hB, hm.bel hB, hn, fun w3 hc => ⟨hI.bel hB w3 hc, own_more (own_ch hl hc (key (b1 := 0) hl)) hn1, own_more (own_ch ht hc (key (b1 := 0) ht)) hn1⟩, h aL cL aT cT⟩) ha hw hf
end
def enKof1 (b : Option Code) : List TI := match b with | some (.seq _ (.seq _ (.seq _ (.seq _ (.seq _ (.seq _ k)))))) => [.code k] | _ => []
def enKof2 (b : Option Code) : List TI := match b with | some (.seq _ (.seq _ (.seq _ (.seq _ (.seq _ (.seq _ (.seq _ k))))))) => [.code k] | _ => []
noncomputable def enK1 : List TI := (rnS Tryz.prog 14 [] [] ⟨enKof1 Tryz.f4.body, [], []⟩).st.todo
noncomputable def enK2 : List TI := (rnS Tryz.prog 18 [] [] ⟨enKof2 Tryz.f4.body, [], []⟩).st.todo
theorem idxEv (b o n cap k : Nat) (h : k < n) (w : World) : (Instr.indexAt 40 (.slice (some ⟨b, o, none⟩) n cap) (.int .i64 k)).run Tryz.prog w = .ok (.pointer (some ⟨b, o + k * 4, none⟩)) w := by go_simp
theorem sizeCh : (Tryz.prog.info? 44).map (·.size) = some 2 := by kernel_rfl
theorem loadCh {w : World} {b o : Nat} {x y : Value} (h0 : w.cell? ⟨b, o, none⟩ = some x) (h1 : w.cell? ⟨b, o + 1, none⟩ = some y) : (Instr.loadAt 44 (.pointer (some ⟨b, o, none⟩))).run Tryz.prog w = .ok (.agg #[x, y]) w :=
  loadAgg Tryz.isAgg44 sizeCh [x, y] rfl (cells2 h0 h1)
theorem StR.one {w : World} {base b : Nat} {d n : Int} (hb : w.heap[b]? = some (.cells #[.int .i64 d, .int .i64 n] 50 (0, 0))) (h : base ≤ b) : StR base w (.slice (some ⟨b, 0, none⟩) 1 1) [(d, n)] := by
  refine ⟨rfl, .inr ⟨b, 1, #[.int .i64 d, .int .i64 n], rfl, h, hb, Nat.le_refl _, by unfold maxLen; omega, by simp, by simp [lvC]⟩⟩
theorem cl_of {w : World} {g : Nat} {op k : Int} {s : List UInt8} {v : Value} (h : w.heap[g]? = some (cO op k s v)) : Cl4 w g 0 (cv op k s v) := by
  refine ⟨op, k, s, v, rfl, ?_, ?_, ?_, ?_⟩ <;> (unfold World.cell?; rw [h]; rfl)
theorem fsF_mem : ∀ {l : List (List UInt8)} {i : Nat} {f : List UInt8 × List (Int × Int)}, f ∈ fsF i l → f.1 ∈ l
  | [], _, _, h => by rw [fsF] at h; simp at h
  | x :: r, i, f, h => by
    rw [fsF] at h
    rcases List.mem_cons.1 h with rfl | h
    · simp
    · exact List.mem_cons_of_mem _ (fsF_mem h)
theorem FdW.chN {base : Nat} {w w' : World} {v : Value} {X : List (Fx × Value)} (h : FdW base w v X) (hc : Ch (Mem.ids []) w w') : FdW base w' v X :=
  ⟨own_ch h.row hc (by simp [Mem.ids]), fun x hx => own_ch (h.kid x hx) hc (by simp [Mem.ids])⟩
structure ES where
  i : Nat
  l : List (Int × Int)
  a : Option Addr
  c : Nat
structure EF where
  i : Nat
  X : List (Fx × Value)
  a : Option Addr
  c : Nat
set_option maxRecDepth 100000 in
set_option maxHeartbeats 8000000 in
seal rn rnN rnS Goes ans atEnd put0 put putM opened openedY putA0 putA oneSt st0 keep mkSt newSt in
theorem ends_tail {c : Co} {w : World} {op k : Int} {t : List UInt8} {a : Option Addr} {N cc g4 : Nat} {last : Int} (hT : Tab w) (htl : 3 < w.heap.size) (hN : Nc w.heap.size w (cv op k t (.slice a N cc)) c) (hc : chkP c = 0) (hb : lbC c = false) (h0 : 0 ≤ last) (h1 : last ≤ 73048) (hh : max 0 (hzC c) < last) (l : List (Int × Int)) (a1 : Option Addr) (c1 : Nat) (hgd : Gd c l) (hfc : ∀ x ∈ l, inM x.2) (J : Nat → Value) :
    Goes Tryz.prog (bodyPost Tryz.prog Tryz.f4 fun e w' => e = .returned (.bool true) ∧ Below w.heap.size w w') (fun w' => (Ch (Mem.ids []) w w' ∧ True) ∧ Lvs w.heap.size w' (.slice a1 l.length c1) l) ⟨enK2, fr 136 [(3, .int .i64 last), (4, .pointer (some ⟨g4, 0, none⟩)), (9, .bool true), (10, .slice a1 l.length c1)] J, [(g4, cO op k t (.slice a N cc))]⟩ := by
  have hc0 : (chkP c == 0) = true := by rw [hc]; rfl
  have hok : (typP c).2 = true := by
    obtain ⟨h1, -⟩ := chk_iff.1 hc
    exact typ4 h1
  obtain ⟨htyp, hszc, -⟩ := chk_typ hc0
  obtain ⟨NN, hNN⟩ : ∃ NN, (nmsP c).length = NN := ⟨_, rfl⟩
  have hNb : NN ≤ 2000 := by
    have := fdF_len c []
    unfold nmsP at hNN
    rw [hNN] at this
    simp at this
    omega
  have hnam : ∀ f ∈ fsF 0 (nmsP c), f.1.length ≤ 9223372036854775807 := fun f hf => by
    have h2 := fds_nam c 1 (by rw [htyp]) f.1 (((nms_mem c).2 _).1 (fsF_mem hf))
    unfold namP at h2
    simp only [Bool.and_eq_true, decide_eq_true_eq] at h2
    omega
  refine Goes.run [0] [] trivial ?_
  refine Goes.call 14 #[cv op k t (.slice a N cc)] fun w1 hm1 hn1 hI1 => (rfeeds_any (hN.at (bel0 (hI1.mono fun _ h => h.1)))).mono fun e w2 ⟨v', he, hR, hB⟩ => ?_
  rw [hok, cond_true] at hR
  have hB1 : Below w.heap.size w w1 := bel0 (hI1.mono fun _ h => h.1)
  have hB2 : Below w.heap.size w w2 := hB1.trans (hB.mono hB1.size)
  obtain ⟨aN, cN, rfl⟩ := own_form hR
  have hlen : (fdF [] c).length = NN := hNN
  rw [hlen] at he
  have hRw : Rws w1.heap.size w2 (.slice aN NN cN) (nmsP c) := by rw [hlen] at hR; exact hR
  have hLv2 : Lvs w.heap.size w2 (.slice a1 l.length c1) l := (hI1.bel hB).now.2
  have y4 : w2.heap[g4]? = some (cO op k t (.slice a N cc)) := (hm1.bel hB).get 0
  refine ⟨_, fun w' => Ch (Mem.ids []) w2 w' ∧ FdW w2.heap.size w' (.slice none 0 0) [], [], he, Holds.nil, by simp [Mem.ids], fun w' h => ⟨h, FdW.nil⟩, ?_⟩
  refine Goes.run [] [] trivial ?_
  refine Goes.loop (α := EF) 136 (fun q => [(3, .int .i64 last), (4, .pointer (some ⟨g4, 0, none⟩)), (9, .bool true), (10, .slice a1 l.length c1), (18, .slice q.a q.X.length q.c), (19, .slice aN NN cN), (20, .int .i64 q.i)]) (fun _ => []) (fun q w' => Ch (Mem.ids []) w2 w' ∧ FdW w2.heap.size w' (.slice q.a q.X.length q.c) q.X) (fun q => q.i ≤ NN ∧ q.X.map (·.1) = fsF 0 ((nmsP c).take q.i)) (fun q => NN - q.i) ⟨0, [], none, 0⟩ ⟨Nat.zero_le _, by simp [fsF]⟩ (fun w' h => h) ?_
  rintro ⟨i, X, a2, c2⟩ J2 ⟨hi, hX⟩ back
  simp only at hi hX back ⊢
  cases hlt : decide ((i : Int) < (NN : Int)) with
  | false =>
    obtain rfl : i = NN := by have := of_decide_eq_false hlt; omega
    rw [List.take_of_length_le (by omega)] at hX
    refine Goes.run [0, 0] [(decide ((i : Int) < (i : Int)), false)] ⟨hlt, trivial⟩ ?_
    refine Goes.val (Instr.loadAt 24 (.pointer (some ⟨g4, 0, none⟩))) (cv op k t (.slice a N cc)) (fun w' _ hI => loadC (cl_of ((hI.now.1.block g4 (lt_of_get y4) (by simp [Mem.ids])).trans y4))) ?_
    refine Goes.run [] [] trivial ?_
    obtain ⟨hS1, hS2⟩ := ste_ends hc0 hgd hfc hb h0 h1 hh
    have step2 : ∀ w', Ch (Mem.ids []) w2 w' → FdW w2.heap.size w' (.slice a2 X.length c2) X → Calls Tryz.prog 13 #[cv op k t (.slice a N cc), .slice a1 l.length c1, .int .i64 last, .slice a2 X.length c2, chV [] 0] w' (LTQ last w' (steR (fsF 0 (nmsP c)) last [] 0 c l)) := fun w' hc2 hF => by
      have hB3 : Below w2.heap.size w2 w' := hc2.toB (by simp [Mem.ids])
      have hB4 := hB2.trans (hB3.mono hB2.size)
      have hfd := hF.fds
      rw [hX] at hfd
      exact step_any last [] 0 (hT.below hB4) (Nat.lt_of_lt_of_le htl hB4.size) (hN.at hB4) (Lvs.sts (own_ch hLv2 hc2 (by simp [Mem.ids]))) hfd hnam (by simp)
    cases hn64 : decide ((i : Int) > 64) with
    | true =>
      have hr := hS1 (by have := of_decide_eq_true hn64; omega)
      rw [hr] at step2
      refine Goes.callLT 13 #[cv op k t (.slice a N cc), .slice a1 l.length c1, .int .i64 last, .slice a2 X.length c2, chV [] 0] last (r0, 150) w.heap.size (fun w1 hm hI => step2 w1 hI.now.1 hI.now.2) (fun w' h => Nat.le_trans hB2.size h.1.size) fun a3 c3 b3 d3 => ?_
      refine Goes.run [1, 1] [(true, true), (decide ((i : Int) > 64), true)] ⟨rfl, hn64, trivial⟩ ?_
      exact Goes.ret [] (.bool true) fun w' hm hI => ⟨rfl, hB2.trans ((hI.now.1.1.toB (by simp [Mem.ids])).mono hB2.size)⟩
    | false =>
      obtain ⟨tt, hr⟩ := hS2 (by have := of_decide_eq_false hn64; omega)
      rw [hr] at step2
      refine Goes.callLT 13 #[cv op k t (.slice a N cc), .slice a1 l.length c1, .int .i64 last, .slice a2 X.length c2, chV [] 0] last (([], tt), 0) w.heap.size (fun w1 hm hI => step2 w1 hI.now.1 hI.now.2) (fun w' h => Nat.le_trans hB2.size h.1.size) fun a3 c3 b3 d3 => ?_
      refine Goes.run [0, 1, 1] [(true, true), (true, true), (decide ((i : Int) > 64), false)] ⟨rfl, rfl, hn64, trivial⟩ ?_
      exact Goes.ret [] (.bool true) fun w' hm hI => ⟨rfl, hB2.trans ((hI.now.1.1.toB (by simp [Mem.ids])).mono hB2.size)⟩
  | true =>
    have hil : i < NN := by have := of_decide_eq_true hlt; omega
    obtain ⟨nm, hnm⟩ : ∃ nm, (nmsP c)[i]? = some nm := ⟨(nmsP c)[i]'(by omega), by simp⟩
    have hXl : X.length = i := by
      have := congrArg List.length hX
      rw [List.length_map, fsF_len, List.length_take] at this
      omega
    rcases hRw.form with ⟨-, e⟩ | ⟨bN, capN, rN, e, -, hbN, -⟩
    · rw [e] at hNN; simp at hNN; omega
    rw [hNN] at e
    cases e
    refine Goes.run [0, 1] [(decide ((i : Int) < (NN : Int)), true)] ⟨hlt, trivial⟩ ?_
    refine Goes.val (Instr.indexAt 47 (.slice (some ⟨bN, 0, none⟩) NN cN) (.int .i64 i)) (.pointer (some ⟨bN, i, none⟩)) (fun w' _ _ => idxS bN NN cN i hil w') ?_
    refine Goes.val (Instr.loadAt 9 (.pointer (some ⟨bN, i, none⟩))) (strV nm) (fun w' _ hI => loadS ((hI.now.1.block bN (lt_of_get hbN) (by simp [Mem.ids])).trans hbN) hnm) ?_
    refine Goes.upto 103 [] [] trivial ?_
    refine Goes.slot 102 (.int .i64 ((i : Int) * 500000)) (u := .int .i64 (IntKind.i64.wrap ((i : Int) * 500000))) (congrArg _ (IntWalk.i64_in _ ⟨by omega, by omega⟩)) ?_
    refine Goes.run2 [] [] trivial fun gs gf => ?_
    refine Goes.eff (Builtin.append_ #[25, 25] 25 #[.slice a2 X.length c2, .slice (some ⟨gf, 0, none⟩) 1 1]) fun w3 hm3 hn3 hI3 => ?_
    have zs : w3.heap[gs]? = some (.cells #[.int .i64 0, .int .i64 ((i : Int) * 500000)] 50 (0, 0)) := hm3.get 0
    have zf : w3.heap[gf]? = some (.cells #[strV nm, .slice (some ⟨gs, 0, none⟩) 1 1] 53 (0, 0)) := hm3.get 1
    have fs0 : w2.heap.size ≤ gs := fresh_of (hI3.mono fun _ h => ⟨h.1, trivial⟩) (g := gs) (ids_get (j := 0) (o := .cells #[.int .i64 0, .int .i64 ((i : Int) * 500000)] 50 (0, 0)) (by kernel_rfl)) (by simp [Mem.ids])
    obtain ⟨b, c', w4, hr, hF4, hgr, hob⟩ := hI3.now.2.add (hI3.now.1.size) (nm, [(0, (i : Int) * 500000)]) (StR.one zs fs0) zf (by omega) (ty := 25) (c := 1)
    have hc4 : Ch (Mem.ids []) w2 w4 := hI3.now.1.grown hgr fun b hb => by
      have := (hI3.now.2.row.lt b hb).1
      exact .inr this
    refine ⟨_, w4, fun w' => Ch (Mem.ids []) w2 w' ∧ FdW w2.heap.size w' (.slice (some ⟨b, 0, none⟩) (X.length + 1) c') (X ++ [((nm, [(0, (i : Int) * 500000)]), .slice (some ⟨gs, 0, none⟩) 1 1)]), [], hr, Holds.nil, by simp [Mem.ids], fun w' h => ⟨hc4.trans h (fun _ hx => .inl hx), hF4.chN h⟩, ?_⟩
    refine Goes.run [] [] trivial ?_
    refine Goes.slot 20 (.int .i64 (i + 1 : Nat)) (u := .int .i64 (IntKind.i64.wrap ((i : Int) + 1))) (congrArg _ (wrap_nat (by omega))) ?_
    have eL : (X ++ [((nm, [(0, (i : Int) * 500000)]), Value.slice (some ⟨gs, 0, none⟩) 1 1)]).length = X.length + 1 := by simp
    refine Goes.slot 18 (.slice (some ⟨b, 0, none⟩) (X ++ [((nm, [(0, (i : Int) * 500000)]), Value.slice (some ⟨gs, 0, none⟩) 1 1)]).length c') (u := .slice (some ⟨b, 0, none⟩) (X.length + 1) c') (by rw [eL]) ?_
    refine Goes.inv (Inv' := fun w' => Ch (Mem.ids []) w2 w' ∧ FdW w2.heap.size w' (.slice (some ⟨b, 0, none⟩) (X ++ [((nm, [(0, (i : Int) * 500000)]), Value.slice (some ⟨gs, 0, none⟩) 1 1)]).length c') (X ++ [((nm, [(0, (i : Int) * 500000)]), .slice (some ⟨gs, 0, none⟩) 1 1)])) (fun w' h => by rw [eL]; exact h) ?_
    have hX2 : (X ++ [((nm, [(0, (i : Int) * 500000)]), Value.slice (some ⟨gs, 0, none⟩) 1 1)] : List (Fx × Value)).map (fun x : Fx × Value => x.1) = fsF 0 ((nmsP c).take (i + 1)) := by
      rw [List.map_append, hX, take_more hnm, fsF_snoc, List.length_take, Nat.min_eq_left (by omega)]
      simp
    refine back ⟨i + 1, X ++ [((nm, [(0, (i : Int) * 500000)]), .slice (some ⟨gs, 0, none⟩) 1 1)], some ⟨b, 0, none⟩, c'⟩ _ ⟨hil, hX2⟩ (by simp only; omega) ?_ ?_ ?_
    · kernel_rfl
    · kernel_rfl
    · kernel_rfl
set_option maxRecDepth 100000 in
set_option maxHeartbeats 8000000 in
seal rn rnN rnS Goes ans atEnd put0 put putM opened openedY putA0 putA oneSt st0 keep mkSt newSt in
theorem ends_walk {es : List Ev} {ev u : Value} {c : Co} {w : World} (day last : Int) (hT : Tab w) (htl : 3 < w.heap.size) (hN : Nc w.heap.size w u c) (hE : Evs w.heap.size w ev es) (hl : ∀ e ∈ es, EvOk e) : Calls Tryz.prog 4 #[u, .int .i64 day, ev, .int .i64 last] w fun e w' => e = .returned (.bool true) ∧ Below w.heap.size w w' := by
  obtain ⟨op, k, t, a, N, cc, rfl⟩ := hN.cells
  obtain ⟨aE, cE, rfl, hcE, hev⟩ := hE
  obtain ⟨NE, hNE⟩ : ∃ NE, es.length = NE := ⟨_, rfl⟩
  rw [hNE] at hcE ⊢
  refine Goes.begin Tryz.func4 [] (fun _ => True) Holds.nil (by simp [Mem.ids]) (fun _ _ => trivial) ?_
  refine Goes.run1 [] [] trivial fun g4 => ?_
  refine Goes.call0 6 #[] (.bool true) (fun w' _ hI => shownd_any w' (hT.below (bel0 hI)) (Nat.lt_of_lt_of_le htl (bel0 hI).size)) ?_
  refine Goes.run [0] [] trivial ?_
  rcases (beg_cases [] day c).symm with ⟨hb, -⟩ | ⟨hb, hk⟩
  · refine Goes.callLT 7 #[cv op k t (.slice a N cc), .int .i64 day, .slice none 0 0] day (r0, 150) w.heap.size (fun w1 hm hI => by have := begin_any (fs := []) day (hT.below (bel0 hI)) (Nat.lt_of_lt_of_le htl (bel0 hI).size) (hN.at (bel0 hI)) Fds.nil0 (by simp); rwa [hb] at this) (fun w' h => h.1.size) fun aL cL aT cT => ?_
    refine Goes.run [1] [(true, true)] ⟨rfl, trivial⟩ ?_
    exact Goes.ret [] (.bool true) fun w' hm hI => ⟨rfl, bel0 (hI.mono fun _ h => h.1)⟩
  have hgd := gd_acq [] day c 1000000
  have hfc := acq_fac [] day c 0 1000000 inM_one
  obtain ⟨l0, t0, hr⟩ : ∃ l t0, acq [] day c 0 1000000 = (l, t0) := ⟨_, _, rfl⟩
  rw [hr] at hb hgd hfc
  simp only [Bool.and_eq_true] at hk
  have hc : chkP c = 0 := eq_of_beq hk.1
  have hok : (typP c).2 = true := typ4 (chk_iff.1 hc).1
  refine Goes.callLT 7 #[cv op k t (.slice a N cc), .int .i64 day, .slice none 0 0] day ((l0, t0), 0) w.heap.size (fun w1 hm hI => by have := begin_any (fs := []) day (hT.below (bel0 hI)) (Nat.lt_of_lt_of_le htl (bel0 hI).size) (hN.at (bel0 hI)) Fds.nil0 (by simp); rwa [hb] at this) (fun w' h => h.1.size) fun aL cL aT cT => ?_
  refine Goes.run [0, 0] [(false, false)] ⟨rfl, trivial⟩ ?_
  refine Goes.call0 11 #[cv op k t (.slice a N cc)] (.bool (lbC c)) (fun w' _ hI => lback_any c _ w' (hN.at (bel0 (hI.mono fun _ h => h.1)))) ?_
  cases hlb : lbC c with
  | true =>
    refine Goes.run [1, 1, 1, 1] [(true, true), (true, true), (true, true), (true, true)] ⟨rfl, rfl, rfl, rfl, trivial⟩ ?_
    exact Goes.ret [] (.bool true) fun w' hm hI => ⟨rfl, bel0 (hI.mono fun _ h => h.1)⟩
  | false =>
  cases h1 : decide (last < 0) with
  | true =>
    refine Goes.upto 41 [0] [(false, false)] ⟨rfl, trivial⟩ ?_
    refine Goes.slot 40 (.bool true) (u := .bool (decide (last < 0))) (congrArg _ h1) ?_
    refine Goes.run [1, 1, 1] [(true, true), (true, true), (true, true)] ⟨rfl, rfl, rfl, trivial⟩ ?_
    exact Goes.ret [] (.bool true) fun w' hm hI => ⟨rfl, bel0 (hI.mono fun _ h => h.1)⟩
  | false =>
  refine Goes.upto 41 [0] [(false, false)] ⟨rfl, trivial⟩ ?_
  refine Goes.slot 40 (.bool false) (u := .bool (decide (last < 0))) (congrArg _ h1) ?_
  cases h2 : decide (last > 73048) with
  | true =>
    refine Goes.upto 45 [0] [(false, false)] ⟨rfl, trivial⟩ ?_
    refine Goes.slot 44 (.bool true) (u := .bool (decide (last > 73048))) (congrArg _ h2) ?_
    refine Goes.run [1, 1] [(true, true), (true, true)] ⟨rfl, rfl, trivial⟩ ?_
    exact Goes.ret [] (.bool true) fun w' hm hI => ⟨rfl, bel0 (hI.mono fun _ h => h.1)⟩
  | false =>
  refine Goes.upto 45 [0] [(false, false)] ⟨rfl, trivial⟩ ?_
  refine Goes.slot 44 (.bool false) (u := .bool (decide (last > 73048))) (congrArg _ h2) ?_
  obtain ⟨H, hH⟩ : ∃ H, askP hzF 0 c = H := ⟨_, rfl⟩
  refine Goes.run [0, 0] [(false, false)] ⟨rfl, trivial⟩ ?_
  refine Goes.call0 12 #[cv op k t (.slice a N cc)] (.int .i64 H) (fun w' _ hI => by have := rhorizon_any (hN.at (bel0 (hI.mono fun _ h => h.1))); rwa [hH] at this) ?_
  cases h3 : decide (last ≤ H) with
  | true =>
    refine Goes.run [1] [(decide (last ≤ H), true)] ⟨h3, trivial⟩ ?_
    exact Goes.ret [] (.bool true) fun w' hm hI => ⟨rfl, bel0 (hI.mono fun _ h => h.1)⟩
  | false =>
  have hla : 0 ≤ last := by have := of_decide_eq_false h1; omega
  have hlb2 : last ≤ 73048 := by have := of_decide_eq_false h2; omega
  have hlc : max 0 (hzC c) < last := by
    rw [hz_eq hok] at hH
    have := of_decide_eq_false h3
    omega
  refine Goes.upto 14 [0] [(decide (last ≤ H), false)] ⟨h3, trivial⟩ ?_
  refine Goes.at (K := enK1) (n := 136) (S := [(2, .slice aE NE cE), (3, .int .i64 last), (4, .pointer (some ⟨g4, 0, none⟩)), (9, .bool true), (10, .slice aL l0.length cL)]) (m := [(g4, cO op k t (.slice a N cc))]) (fun J0 => ?_)
  refine Goes.run [] [] trivial ?_
  refine Goes.loop (α := ES) 136 (fun q => [(2, .slice aE NE cE), (3, .int .i64 last), (4, .pointer (some ⟨g4, 0, none⟩)), (9, .bool true), (10, .slice q.a q.l.length q.c), (14, .int .i64 q.i)]) (fun _ => [(g4, cO op k t (.slice a N cc))]) (fun q w' => (Ch (Mem.ids []) w w' ∧ True) ∧ Lvs w.heap.size w' (.slice q.a q.l.length q.c) q.l) (fun q => q.i ≤ NE ∧ Gd c q.l ∧ ∀ x ∈ q.l, inM x.2) (fun q => NE - q.i) ⟨0, l0, aL, cL⟩ ⟨Nat.zero_le _, hgd, hfc⟩ (fun w' h => ⟨h.1, h.2.1⟩) ?_
  rintro ⟨i, l, a1, c1⟩ J ⟨hi, hg1, hf1⟩ back
  simp only at hi hg1 hf1 back ⊢
  cases hlt : decide ((i : Int) < (NE : Int)) with
  | false =>
    refine Goes.upto 18 [0, 0, 0] [(false, false), (decide ((i : Int) < (NE : Int)), false)] ⟨rfl, hlt, trivial⟩ ?_
    exact Goes.at (K := enK2) (n := 136) (S := [(3, .int .i64 last), (4, .pointer (some ⟨g4, 0, none⟩)), (9, .bool true), (10, .slice a1 l.length c1)]) (m := [(g4, cO op k t (.slice a N cc))]) (fun J1 => ends_tail hT htl hN hc hlb hla hlb2 hlc l a1 c1 hg1 hf1 J1)
  | true =>
  cases hl3 : decide ((i : Int) < 50) with
  | false =>
    refine Goes.upto 18 [0, 1, 0] [(decide ((i : Int) < 50), false), (decide ((i : Int) < (NE : Int)), true)] ⟨hl3, hlt, trivial⟩ ?_
    exact Goes.at (K := enK2) (n := 136) (S := [(3, .int .i64 last), (4, .pointer (some ⟨g4, 0, none⟩)), (9, .bool true), (10, .slice a1 l.length c1)]) (m := [(g4, cO op k t (.slice a N cc))]) (fun J1 => ends_tail hT htl hN hc hlb hla hlb2 hlc l a1 c1 hg1 hf1 J1)
  | true =>
  have hil : i < NE := by have := of_decide_eq_true hlt; omega
  obtain ⟨e, he⟩ : ∃ e, es[i]? = some e := ⟨es[i]'(by omega), by simp⟩
  obtain ⟨be, oe, ue, rfl, hbe, x1, x2, hFe, x3, x4⟩ := hev i e he
  obtain ⟨aF, NF, cF, rfl⟩ : ∃ aF NF cF, ue = .slice aF NF cF := by obtain ⟨x, y, e, -⟩ := hFe; exact ⟨x, _, y, e⟩
  obtain ⟨ok1, ok2⟩ := hl e (List.mem_of_getElem? he)
  obtain ⟨obe, hobe⟩ := blk_of (w := w) (b := be) hbe
  refine Goes.run [0, 1, 1] [(decide ((i : Int) < 50), true), (decide ((i : Int) < (NE : Int)), true)] ⟨hl3, hlt, trivial⟩ ?_
  refine Goes.openY [0] [(be, obe)] (fun w' hI => holds1 ((hI.1.1.block be hbe (by simp [Mem.ids])).trans hobe)) ?_
  refine Goes.run [0, 0, 1, 2, 3] [] trivial ?_
  refine Goes.valA 4 (Instr.indexAt 40 (.slice (some ⟨be, oe, none⟩) NE cE) (.int .i64 i)) (.pointer (some ⟨be, oe + i * 4, none⟩)) (fun w' _ => idxEv be oe NE cE i hil w') ?_
  refine Goes.run [5] [] trivial ?_
  refine Goes.valA 6 (Instr.loadAt 3 (.pointer (some ⟨be, oe + i * 4, none⟩))) (.int .i64 e.day) (fun w' hm => load1 Tryz.isAgg3 (Cel.same x1 hobe (hm.get 1))) ?_
  refine Goes.run [7, 8] [] trivial ?_
  refine Goes.valA 9 (Instr.indexAt 40 (.slice (some ⟨be, oe, none⟩) NE cE) (.int .i64 i)) (.pointer (some ⟨be, oe + i * 4, none⟩)) (fun w' _ => idxEv be oe NE cE i hil w') ?_
  refine Goes.run [10] [] trivial ?_
  refine Goes.valA 11 (Instr.loadAt 25 (.pointer (some ⟨be, oe + i * 4 + 1, none⟩))) (.slice aF NF cF) (fun w' hm => load1 Tryz.isAgg25 (Cel.same x2 hobe (hm.get 1))) ?_
  refine Goes.run [12, 13] [] trivial ?_
  refine Goes.valA 14 (Instr.indexAt 40 (.slice (some ⟨be, oe, none⟩) NE cE) (.int .i64 i)) (.pointer (some ⟨be, oe + i * 4, none⟩)) (fun w' _ => idxEv be oe NE cE i hil w') ?_
  refine Goes.run [15] [] trivial ?_
  refine Goes.valA 16 (Instr.loadAt 44 (.pointer (some ⟨be, oe + i * 4 + 2, none⟩))) (chV e.lab e.k) (fun w' hm => loadCh (Cel.same x3 hobe (hm.get 1)) (Cel.same x4 hobe (hm.get 1))) ?_
  obtain ⟨m, t1, e1, hr1⟩ : ∃ m t0 e0, steR e.fs e.day e.lab e.k c l = ((m, t0), e0) := ⟨_, _, _, rfl⟩
  refine Goes.callLTA 17 13 #[cv op k t (.slice a N cc), .slice a1 l.length c1, .int .i64 e.day, .slice aF NF cF, chV e.lab e.k] e.day ((m, t1), e1) w.heap.size (fun w1 hm hI => by have hB := bel0 (hI.mono fun _ h => h.1); have := step_any e.day e.lab e.k (hT.below hB) (Nat.lt_of_lt_of_le htl hB.size) (hN.at hB) (Lvs.sts hI.now.2) (hFe.at hB) ok1 ok2; rwa [hr1] at this) (fun w' h => h.1.1.size) fun a3 c3 b3 d3 => ?_
  rcases ste_cases e.fs e.day e.lab e.k c l with ⟨h5, -⟩ | ⟨h5, -⟩
  · have hm := gd_step e.fs e.day e.lab e.k hg1
    have hmf := step_fac e.fs e.day e.lab e.k c hf1
    rw [h5] at hr1
    have e5 : e1 = 0 := (congrArg Prod.snd hr1).symm
    have e6 : stepP e.fs e.day e.lab e.k c l = (m, t1) := congrArg Prod.fst hr1
    subst e5
    rw [e6] at hm hmf
    refine Goes.run [18, 19, 20, 21, 22, 23, 24, 1] [(true, true)] ⟨rfl, trivial⟩ ?_
    refine Goes.slot 14 (.int .i64 (i + 1 : Nat)) (u := .int .i64 (IntKind.i64.wrap ((i : Int) + 1))) (congrArg _ (wrap_nat (by omega))) ?_
    refine Goes.inv (Inv' := fun w' => (Ch (Mem.ids []) w w' ∧ True) ∧ Lvs w.heap.size w' (.slice a3 m.length c3) m) (fun w' h => ⟨h.1.1, h.2.1⟩) ?_
    exact back ⟨i + 1, m, a3, c3⟩ _ ⟨hil, hm, hmf⟩ (by simp only; omega) (by kernel_rfl) (by kernel_rfl) (by kernel_rfl)
  · rw [h5] at hr1
    have e5 : e1 = 150 := (congrArg Prod.snd hr1).symm
    subst e5
    refine Goes.run [18, 19, 20, 21, 22, 23, 24, 0] [(false, false)] ⟨rfl, trivial⟩ ?_
    refine Goes.slot 14 (.int .i64 (i + 1 : Nat)) (u := .int .i64 (IntKind.i64.wrap ((i : Int) + 1))) (congrArg _ (wrap_nat (by omega))) ?_
    refine Goes.inv (Inv' := fun w' => (Ch (Mem.ids []) w w' ∧ True) ∧ Lvs w.heap.size w' (.slice a1 l.length c1) l) (fun w' h => h.1) ?_
    exact back ⟨i + 1, l, a1, c1⟩ _ ⟨hil, hg1, hf1⟩ (by simp only; omega) (by kernel_rfl) (by kernel_rfl) (by kernel_rfl)
end Go.Proofs.YthnojedlndblbabGreatDoor
