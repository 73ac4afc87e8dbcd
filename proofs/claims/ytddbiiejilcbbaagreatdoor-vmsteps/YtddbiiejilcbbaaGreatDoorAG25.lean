/- texts put together: VmS1 VmS2 VmS3 VmL2 MFrame -/
import Derived.Test.YtddbiiejilcbbaaGreatDoorAG24
import Derived.Test.YtddbiiejilcbbaaGreatDoorAG5
import Derived.Test.YtddbiiejilcbbaaGreatDoorAG14
import Derived.Test.YtddbiiejilcbbaaGreatDoorAG7
import Derived.Test.YtddbiiejilcbbaaGreatDoorAG20
import Derived.Test.YtddbiiejilcbbaaGreatDoorTie
import Derived.Lib.LaidTab
namespace Go.Proofs.YtddbiiejilcbbaaGreatDoor
open Go Go.RowKit

def plcK (k : Kd) (lab : List UInt8) (wh n : Int) : Int := match k.waits[n.toNat]? with | some y => plcW lab wh y | none => 0
theorem plc_in {k : Kd} (h : rightR k = true) {i : Nat} {y : Wk} (hy : k.waits[i]? = some y) (lab : List UInt8) (wh : Int) : 0 ≤ plcW lab wh y ∧ plcW lab wh y < (k.ins.length : Int) := by
  have hw := right_waits h hy
  have he := wai_entry hw
  unfold plcW
  cases h1 : decide (lab = []) with
  | true => exact he
  | false =>
  cases h2 : decide (lab = y.label) with
  | false => exact he
  | true =>
    have e1 := of_decide_eq_true h2
    have e2 := of_decide_eq_false h1
    have e3 : decide (y.label = []) = false := decide_eq_false (by rw [← e1]; exact e2)
    unfold waiR plaR at hw
    rw [e3] at hw
    simp only [cond_false, Bool.and_eq_true, decide_eq_true_eq] at hw
    cases h3 : (wh == 1) with
    | true => exact hw.2.1.2
    | false => exact hw.2.2
noncomputable def vstP (k : Kd) (fs : Fs) (day : Int) (lab : List UInt8) (wh : Int) : List (Int × Int) → Ms → Ms
  | [], s => s
  | q :: r, s => vstP k fs day lab wh r (runP k fs day 65538 ⟨zeros, plcK k lab wh q.1, q.2⟩ s)
noncomputable def vstD (k : Kd) (fs : Fs) (day : Int) (lab : List UInt8) (wh : Int) : List (Int × Int) → Ms × Bool → Ms × Bool
  | [], D => D
  | q :: r, D => vstD k fs day lab wh r (bif D.2 then D else runD k fs day 65538 ⟨zeros, plcK k lab wh q.1, q.2⟩ D.1)
theorem stp_fit (k : Kd) (fs : Fs) (day : Int) (lab : List UInt8) (wh : Int) : ∀ (l : List (Int × Int)) (s : Ms), s.Fit → (vstP k fs day lab wh l s).Fit
  | [], s, h => h
  | q :: r, s, h => by rw [vstP]; exact stp_fit k fs day lab wh r _ (runP_fit k fs day 65538 _ s h)
theorem stp_same (k : Kd) (fs : Fs) (day : Int) (lab : List UInt8) (wh : Int) : ∀ (l : List (Int × Int)) (S : Ms) (D : Ms × Bool), D.2 = overM S → (D.2 = false → D.1 = S) → (vstD k fs day lab wh l D).2 = overM (vstP k fs day lab wh l S) ∧ ((vstD k fs day lab wh l D).2 = false → (vstD k fs day lab wh l D).1 = vstP k fs day lab wh l S)
  | [], S, D, h1, h2 => by rw [vstP, vstD]; exact ⟨h1, h2⟩
  | q :: r, S, D, h1, h2 => by
    rw [vstP, vstD]
    cases hb : D.2 with
    | true =>
      have ho : overM S = true := by rw [← h1]; exact hb
      rw [runP_over ho]
      exact stp_same k fs day lab wh r S D h1 h2
    | false =>
      have ho : overM S = false := by rw [← h1]; exact hb
      have e := h2 hb
      obtain ⟨i1, i2⟩ := run_same k fs day 65538 ⟨zeros, plcK k lab wh q.1, q.2⟩ S ho
      rw [e]
      exact stp_same k fs day lab wh r _ _ i1 i2
def stOkP (k : Kd) (fs : Fs) (day : Int) (lab : List UInt8) (wh : Int) (l : List (Int × Int)) : Bool := rgt k fs day && hlP k.waits.length l && rcP lab wh
noncomputable def steP (k : Kd) (fs : Fs) (day : Int) (lab : List UInt8) (wh : Int) (l : List (Int × Int)) : R4 := outP (stOkP k fs day lab wh l) (vstP k fs day lab wh l s0Ms) (overM (vstP k fs day lab wh l s0Ms))
abbrev vchO (lab : List UInt8) (wh : Int) : Obj := .cells #[strV lab, .int .i64 wh] 45 (0, 0)
theorem all_at {n : Int} : ∀ {l : List (Int × Int)} {i : Nat} {q : Int × Int}, allH n l = true → l[i]? = some q → 0 ≤ q.1 ∧ q.1 < n ∧ inM q.2
  | [], i, q, h, hq => by simp at hq
  | y :: r, 0, q, h, hq => by
    simp at hq
    subst hq
    unfold allH at h
    simp only [Bool.and_eq_true, Bool.not_eq_true', decide_eq_false_iff_not] at h
    exact ⟨by omega, by omega, numP_in.1 h.1.2⟩
  | y :: r, i + 1, q, h, hq => by
    unfold allH at h
    rw [Bool.and_eq_true] at h
    exact all_at h.2 (by simpa using hq)
structure LpT where
  i : Nat
  s : Ms
  hv : Value
  tv : Value
structure LpT.ok (k : Kd) (fs : Fs) (day : Int) (lab : List UInt8) (wh : Int) (l : List (Int × Int)) (R : Ms) (x : LpT) : Prop where
  le : x.i ≤ l.length
  run : vstP k fs day lab wh (l.drop x.i) x.s = R
  fit : x.s.Fit
def topL (n : Nat) : List Nat → Nat
  | [] => n
  | x :: r => max (x + 1) (topL n r)
theorem top_le {n b : Nat} (hn : n ≤ b) : ∀ {L : List Nat}, (∀ x ∈ L, x < b) → topL n L ≤ b
  | [], _ => hn
  | x :: r, h => by
    unfold topL
    have h1 := h x (by simp)
    have h2 := top_le hn (L := r) (fun y hy => h y (by simp [hy]))
    omega
theorem top_lt {n : Nat} : ∀ {L : List Nat} {x : Nat}, x ∈ L → x < topL n L
  | y :: r, x, h => by
    unfold topL
    rcases List.mem_cons.1 h with rfl | h
    · omega
    · have := top_lt (n := n) h
      omega
theorem top_base {n : Nat} : ∀ {L : List Nat}, n ≤ topL n L
  | [] => Nat.le_refl _
  | y :: r => by
    unfold topL
    have := top_base (n := n) (L := r)
    omega
section
variable {P : Program} {F : Exit → Act → World → Prop} {s : St} {n0 g : Nat} {day : Int} {lv tv lv1 tv1 : Value} {ls1 : List (Int × Int)} {ts1 : List (List UInt8 × Int)} {w : World}
theorem Goes.callVQC (i : Nat) (f : FuncId) (args : Array Value) (u : Value) (ob1 ob2 : Value → Value → Obj) (ho1 : IsM ob1) (ho2 : IsM ob2) (ls2 : List (Int × Int)) (ts2 : List (List UInt8 × Int)) (loc : Mem) (hloc : Loc5 w loc) (m0 : Mem) (hm0 : ∀ q ∈ m0, q.1 < n0 ∨ (∃ c e z, q.2 = .cells c e z ∧ ty5 e = false) ∨ q.1 ∉ Oo g lv1 tv1) (hg0 : n0 ≤ g) (hn : n0 ≤ w.heap.size)
    (hr : ∀ w1, Holds s.mem w1 → McI n0 g day w lv tv lv1 tv1 ls1 ts1 w1 → Calls P f args w1 (VQ n0 g day ob2 w1 lv1 tv1 u ls2 ts2))
    (h : ∀ lv2 tv2, Goes P F (McI n0 g day w lv tv lv2 tv2 ls2 ts2) (putA i s u ((g, ob2 lv2 tv2) :: loc)))
    (hM : anyM s = m0 := by kernel_rfl) (hmem : s.mem = (g, ob1 lv1 tv1) :: loc := by kernel_rfl) (ha : askA i s = some (f, args) := by kernel_rfl) (hw : anyLone i s = true := by kernel_rfl) (hf : okf P f = true := by kernel_rfl) : Goes P F (McI n0 g day w lv tv lv1 tv1 ls1 ts1) s :=
  Goes.callA i f args (fun ops m1 n l k ht w1 hm hnd hI h0 => (hr w1 hm hI.now).mono fun e w2 ⟨lv2, tv2, he, hg2, hA⟩ => by
    obtain ⟨h1, h2, h3⟩ := vq_next hloc ho1 ho2 hmem hm hI.now hg2 hA
    have hB : Below n0 w1 w2 := mcB hI.now.2.1 hI.now.2.2.1 hg0 (Nat.le_trans hn hI.now.1.size) hA
    refine ⟨u, _, _, he, hold_in fun q hq => ?_, h1, by rw [hmem] at hnd; exact hnd, h2, h lv2 tv2⟩
    have hq' : q ∈ m0 := by rw [← hM]; unfold anyM; rw [ht]; exact hq
    have := in_hold h0 q hq
    rcases hm0 q hq' with hl | ⟨c, e, z, e1, e2⟩ | hno
    · exact (hB.block q.1 hl).trans this
    · rw [e1] at this ⊢
      exact h3 _ _ _ _ this e2
    · exact (hA.1.block q.1 (lt_of_get this) hno).trans this) ha hw hf
end
abbrev sS (gm gc gh : Nat) (v : Value) (N i : Nat) : List (Nat × Value) := [(5, .pointer (some ⟨gc, 0, none⟩)), (9, .pointer (some ⟨gh, 0, none⟩)), (14, .pointer (some ⟨gm, 0, none⟩)), (37, v), (38, .int .i64 N), (39, .int .i64 i)]
noncomputable def stH : List TI := (rn Tryz.prog [0] [] (put0 (rn Tryz.prog [0, 1] [] (put0 (rn Tryz.prog [0, 0] [] (put0 (rn Tryz.prog [2] [] (mkSt Tryz.prog 3 (rn Tryz.prog [0] [] (mkSt Tryz.prog 2 (rn Tryz.prog [] [] (mkSt Tryz.prog 1 (rn Tryz.prog [] [] (st0 Tryz.f17 #[cdV 0 none 0 0 none 0 0, nl, .int .i64 0, nl, chV [] 0] [])).st)).st)).st)).st (.bool true))).st (.bool true))).st (.bool true))).st.todo
section
variable {w : World} {k : Kd} {fs : Fs} {fa aW aI : Option Addr} {fN fc nW cW nI cI : Nat} {rg day wh : Int} {lab : List UInt8} {l : List (Int × Int)} {v : Value}
set_option maxHeartbeats 4000000 in
set_option maxRecDepth 100000 in
seal rn rnN rnS Goes ans atEnd put0 put putM opened openedY putA0 putA oneSt st0 keep mkSt newSt stH in
theorem pstep_any (hM : CdM w aW nW cW aI nI cI k) (hrg : k.regs = rg) (hwf : k.wf) (hS : Sts w.heap.size w v l) (hF : Fds w.heap.size w (.slice fa fN fc) fs) (hl : ∀ f ∈ fs, f.1.length ≤ 9223372036854775807) (hlab : lab.length ≤ 9223372036854775807) (hU : TabU w) (hT : Tab w) : Calls Tryz.prog 17 #[cdV rg aW nW cW aI nI cI, v, .int .i64 day, (.slice fa fN fc), chV lab wh] w (BgQ day w (steP k fs day lab wh l)) := by
  obtain ⟨R, hR⟩ : ∃ R, vstP k fs day lab wh l s0Ms = R := ⟨_, rfl⟩
  obtain ⟨a, c, rfl, hc, hst⟩ := id hS
  obtain ⟨N, hN⟩ : ∃ N, l.length = N := ⟨_, rfl⟩
  have hlw := hM.lw
  unfold steP stOkP
  rw [hR, hlw]
  rw [hN] at hc
  refine Goes.begin Tryz.func17 [] (fun _ => True) Holds.nil (by simp [Mem.ids]) (fun _ _ => trivial) ?_
  rw [hN]
  refine Goes.run [] [] trivial ?_
  refine Goes.new1 w.heap.size (fun w' h => h.1.size) fun gc hgc => ?_
  refine Goes.run [] [] trivial ?_
  refine Goes.new1 w.heap.size (fun w' h => h.1.size) fun gh hgh => ?_
  refine Goes.run [0] [] trivial ?_
  refine Goes.new1 w.heap.size (fun w' h => h.1.size) fun gm hgm => ?_
  refine Goes.run [2] [] trivial ?_
  refine Goes.call0 30 #[.pointer (some ⟨gm, 0, none⟩)] (.bool (rgt k fs day)) (fun w' hm hI => vmright_any (show w'.heap[gm]? = some (vmO day (.slice fa fN fc) rg (.slice aW nW cW) (.slice aI nI cI) nl nl 0) from hm.get 2) (hF.at (bel0 hI)) hl (hU.below (bel0 hI)) (hM.below (bel0 hI)) hrg hwf) ?_
  cases hr : rgt k fs day with
  | false =>
    refine Goes.run [1, 1, 1] [(true, true), (true, true), (true, true)] ⟨rfl, rfl, rfl, trivial⟩ ?_
    exact Goes.ret [] (.tuple #[nl, nl, .int .i64 0, .int .i64 180]) fun w' hm hI => ⟨nl, nl, rfl, Hds.nil, Trs.nil, bel0 hI⟩
  | true =>
  refine Goes.run [0, 0] [(false, false)] ⟨rfl, trivial⟩ ?_
  refine Goes.call0 35 #[.slice a N c, .int .i64 nW] (.bool (hlP nW l)) (fun w' hm hI => by have := vholds_any ((hS.later (bel0 hI)).more (bel0 hI).size) (nW : Int); rw [hN] at this; exact this) ?_
  cases hh : hlP (nW : Int) l with
  | false =>
    refine Goes.run [1, 1] [(true, true), (true, true)] ⟨rfl, rfl, trivial⟩ ?_
    exact Goes.ret [] (.tuple #[nl, nl, .int .i64 0, .int .i64 180]) fun w' hm hI => ⟨nl, nl, rfl, Hds.nil, Trs.nil, bel0 hI⟩
  | true =>
  refine Goes.run [0, 1] [(false, false)] ⟨rfl, trivial⟩ ?_
  refine Goes.call0 36 #[chV lab wh] (.bool (rcP lab wh)) (fun w' hm hI => vchoice_any lab wh w' hlab (hU.below (bel0 hI))) ?_
  cases hch : rcP lab wh with
  | false =>
    refine Goes.run [1] [(true, true)] ⟨rfl, trivial⟩ ?_
    exact Goes.ret [] (.tuple #[nl, nl, .int .i64 0, .int .i64 180]) fun w' hm hI => ⟨nl, nl, rfl, Hds.nil, Trs.nil, bel0 hI⟩
  | true =>
  have h0 := rn0_of hM hrg hF hT hr
  have hall : allH nW l = true := by unfold hlP at hh; rw [Bool.and_eq_true] at hh; exact hh.2
  have hlen : N ≤ 250 := by unfold hlP at hh; rw [Bool.and_eq_true, decide_eq_true_eq] at hh; omega
  refine Goes.run [0] [(false, false)] ⟨rfl, trivial⟩ ?_
  refine Goes.at (K := stH) (n := 60) (S := sS gm gc gh (.slice a N c) N 0) (m := [(gc, cdO rg (.slice aW nW cW) (.slice aI nI cI)), (gh, vchO lab wh), (gm, vmO day (.slice fa fN fc) rg (.slice aW nW cW) (.slice aI nI cI) nl nl 0)]) (fun J0 => ?_) (by kernel_rfl) (by kernel_rfl) (by kernel_rfl)
  refine Goes.perm (m' := [(gm, vmO day (.slice fa fN fc) rg (.slice aW nW cW) (.slice aI nI cI) nl nl 0), (gc, cdO rg (.slice aW nW cW) (.slice aI nI cI)), (gh, vchO lab wh)]) ((List.Perm.swap _ _ _).cons _ |>.trans (List.Perm.swap _ _ _)) ?_
  refine Goes.inv (Inv' := McI w.heap.size gm day w nl nl nl nl [] []) (fun w' h => ⟨h.1.mono (fun x hx => by simp [Mem.ids] at hx), Hds.nil, Trs.nil, fun x hx => by simp [Value.ownBlock] at hx⟩) ?_
  have fin : ∀ {w' : World} {a1 b1 : Value} {h1 : List (Int × Int)} {t1 : List (List UInt8 × Int)}, McI w.heap.size gm day w nl nl a1 b1 h1 t1 w' → Below w.heap.size w w' := fun h => mcB Hds.nil Trs.nil hgm (Nat.le_refl _) h
  refine Goes.loop (α := LpT) 60 (fun x => sS gm gc gh (.slice a N c) N x.i) (fun x => [(gm, vmO day (.slice fa fN fc) rg (.slice aW nW cW) (.slice aI nI cI) x.hv x.tv x.s.steps), (gc, cdO rg (.slice aW nW cW) (.slice aI nI cI)), (gh, vchO lab wh)]) (fun x => McI w.heap.size gm day w nl nl x.hv x.tv x.s.holds x.s.out) (LpT.ok k fs day lab wh l R) (fun x => N - x.i) ⟨0, s0Ms, nl, nl⟩ ⟨Nat.zero_le _, hR, s0_fit⟩ (fun w' h => h) ?_
  rintro ⟨i, s, hv, tv⟩ J ⟨hi, hRun, hFit⟩ back
  replace hi : i ≤ N := hN ▸ hi
  replace hRun : vstP k fs day lab wh (l.drop i) s = R := hRun
  replace hFit : s.Fit := hFit
  show Goes _ _ (McI w.heap.size gm day w nl nl hv tv s.holds s.out) ⟨stH, fr 60 (sS gm gc gh (.slice a N c) N i) J, [(gm, vmO day (.slice fa fN fc) rg (.slice aW nW cW) (.slice aI nI cI) hv tv s.steps), (gc, cdO rg (.slice aW nW cW) (.slice aI nI cI)), (gh, vchO lab wh)]⟩
  cases hlt : decide ((i : Int) < (N : Int)) with
  | false =>
    have hd : l.drop i = [] := List.drop_of_length_le (by have := of_decide_eq_false hlt; omega)
    rw [hd, vstP] at hRun
    subst hRun
    refine Goes.run [0, 0] [(decide ((i : Int) < (N : Int)), false)] ⟨hlt, trivial⟩ ?_
    refine Goes.pure (Q := ∃ aL cL aT cT, hv = .slice aL s.holds.length cL ∧ tv = .slice aT s.out.length cT) (fun w' h => by obtain ⟨aL, cL, e1⟩ := own_form h.2.1; obtain ⟨aT, cT, e2⟩ := own_form h.2.2.1; exact ⟨aL, cL, aT, cT, e1, e2⟩) ?_
    rintro ⟨aL, cL, aT, cT, rfl, rfl⟩
    cases hov : overM s with
    | true =>
      refine Goes.call0 32 #[.pointer (some ⟨gm, 0, none⟩)] (.tuple #[nl, nl, .int .i64 0, .int .i64 180]) (fun w' hm hI => by have := vdone_any (show w'.heap[gm]? = some (vmO day (.slice fa fN fc) rg (.slice aW nW cW) (.slice aI nI cI) (.slice aL s.holds.length cL) (.slice aT s.out.length cT) s.steps) from hm.get 0); rw [show (decide (s.steps > 65536) || decide ((s.holds.length : Int) > 250)) = true from hov] at this; exact this) ?_
      refine Goes.run [] [] trivial ?_
      exact Goes.ret [] (.tuple #[nl, nl, .int .i64 0, .int .i64 180]) fun w' hm hI => ⟨nl, nl, rfl, Hds.nil, Trs.nil, fin hI.now⟩
    | false =>
      refine Goes.call0 32 #[.pointer (some ⟨gm, 0, none⟩)] (.tuple #[.slice aL s.holds.length cL, .slice aT s.out.length cT, .int .i64 s.steps, .int .i64 0]) (fun w' hm hI => by have := vdone_any (show w'.heap[gm]? = some (vmO day (.slice fa fN fc) rg (.slice aW nW cW) (.slice aI nI cI) (.slice aL s.holds.length cL) (.slice aT s.out.length cT) s.steps) from hm.get 0); rw [show (decide (s.steps > 65536) || decide ((s.holds.length : Int) > 250)) = false from hov] at this; exact this) ?_
      refine Goes.run [] [] trivial ?_
      exact Goes.ret [] (.tuple #[.slice aL s.holds.length cL, .slice aT s.out.length cT, .int .i64 s.steps, .int .i64 0]) fun w' hm hI => ⟨_, _, rfl, hI.now.2.1, hI.now.2.2.1, fin hI.now⟩
  | true =>
  have hil : i < N := by have := of_decide_eq_true hlt; omega
  obtain ⟨q, hq⟩ : ∃ q, l[i]? = some q := ⟨l[i]'(by omega), by simp⟩
  obtain ⟨b, o, rfl, hb, x1, x2⟩ := hst i q hq
  rw [drop_any hq, vstP] at hRun
  obtain ⟨q1, q2, -⟩ := all_at hall hq
  obtain ⟨qn, qf⟩ := q
  replace q1 : 0 ≤ qn := q1
  replace q2 : qn < (nW : Int) := q2
  obtain ⟨m, rfl⟩ : ∃ m : Nat, qn = (m : Int) := ⟨qn.toNat, by omega⟩
  have hmW : m < nW := by omega
  obtain ⟨y, hy⟩ : ∃ y, k.waits[m]? = some y := ⟨k.waits[m]'(by omega), by simp⟩
  have hpl : plcK k lab wh (m : Int) = plcW lab wh y := by unfold plcK; rw [Int.toNat_natCast, hy]
  obtain ⟨pl0, pl1⟩ := plc_in h0.right hy lab wh
  obtain ⟨at', hat⟩ : ∃ a : Nat, plcW lab wh y = (a : Int) := ⟨(plcW lab wh y).toNat, by omega⟩
  replace hRun : vstP k fs day lab wh (l.drop (i + 1)) (runP k fs day 65538 ⟨zeros, plcK k lab wh (m : Int), qf⟩ s) = R := hRun
  rw [hpl, hat] at hRun
  rw [hat] at pl1
  obtain ⟨-, bW, oW, rfl, hbW, hcW⟩ := hM.waits m y hy
  obtain ⟨obW, hobW⟩ := obj_ofV hbW
  refine Goes.run [0, 1] [(decide ((i : Int) < (N : Int)), true)] ⟨hlt, trivial⟩ ?_
  refine Goes.val (Instr.indexAt 37 (.slice (some ⟨b, o, none⟩) N c) (.int .i64 i)) (.pointer (some ⟨b, o + i * 2, none⟩)) (fun w' _ _ => idxHd b o N c i hil w') ?_
  refine Goes.val (Instr.loadAt 86 (.pointer (some ⟨b, o + i * 2, none⟩))) (.agg #[.int .i64 m, .int .i64 qf]) (fun w' _ hI => loadHd (((fin hI.now).cell (p := ⟨b, o + i * 2, none⟩) hb).trans x1) (((fin hI.now).cell (p := ⟨b, o + i * 2 + 1, none⟩) hb).trans x2)) ?_
  refine Goes.new1 (topL w.heap.size (hv.ownBlock.toList ++ tv.ownBlock.toList)) (fun w' h => top_le h.1.size fun x hx => by
    rcases List.mem_append.1 hx with hx | hx
    · exact (h.2.1.lt x (own_mem.2 hx)).2
    · exact (h.2.2.1.lt x (own_mem.2 hx)).2) fun g16 hg16t => ?_
  have hg16 : w.heap.size ≤ g16 := Nat.le_trans top_base hg16t
  refine Goes.run [3] [] trivial ?_
  refine Goes.nd [gm, gc, gh, g16] (fun hnd => ?_)
  have hno : g16 ∉ Oo gm hv tv := fun hx => by
    rcases List.mem_cons.1 hx with rfl | hx
    · simp at hnd
    · have := top_lt (n := w.heap.size) hx
      omega
  refine Goes.openY [1, 2, 3] [(bW, obW)] (fun w' hI => hold1v (((fin hI).block bW hbW).trans hobW)) ?_
  refine Goes.run [0, 1, 0, 2, 3, 2, 6, 1, 8, 9, 2] [] trivial ?_
  refine Goes.valA 4 (Instr.indexAt 24 (.slice (some ⟨bW, oW, none⟩) nW cW) (.int .i64 m)) (.pointer (some ⟨bW, oW + m * 5, none⟩)) (fun w' _ => idxWk bW oW nW cW m hmW w') ?_
  refine Goes.valA 5 (Instr.loadAt 70 (.pointer (some ⟨bW, oW + m * 5, none⟩))) (wV y) (fun w' hm => loadW (hcW.objV hobW (hm.get 3))) ?_
  refine Goes.callA0 7 37 #[wV y, chV lab wh] (.int .i64 (at' : Int)) (fun w' _ _ => by rw [← hat]; exact ppl_any lab wh y w') ?_
  obtain ⟨S2, hS2⟩ : ∃ S2, runP k fs day 65538 ⟨zeros, (at' : Int), qf⟩ s = S2 := ⟨_, rfl⟩
  rw [hS2] at hRun
  have hfit2 : S2.Fit := by rw [← hS2]; exact runP_fit k fs day 65538 _ s hFit
  refine Goes.keep 3 ?_
  refine Goes.callVQC 10 31 #[.pointer (some ⟨gm, 0, none⟩), .int .i64 at', .int .i64 qf] (.tuple #[]) (vmB day (.slice fa fN fc) rg (.slice (some ⟨bW, oW, none⟩) nW cW) (.slice aI nI cI) s.steps) (vmB day (.slice fa fN fc) rg (.slice (some ⟨bW, oW, none⟩) nW cW) (.slice aI nI cI) S2.steps) (vmB_is _ _ _ _ _ _) (vmB_is _ _ _ _ _ _) S2.holds S2.out [(gc, cdO rg (.slice (some ⟨bW, oW, none⟩) nW cW) (.slice aI nI cI)), (gh, vchO lab wh)] (fun q hq => by
    simp only [List.mem_cons, List.not_mem_nil, or_false] at hq
    rcases hq with rfl | rfl
    · exact ⟨hgc, _, _, _, rfl, by decide⟩
    · exact ⟨hgh, _, _, _, rfl, by decide⟩) [(gc, cdO rg (.slice (some ⟨bW, oW, none⟩) nW cW) (.slice aI nI cI)), (gh, vchO lab wh), (g16, .cells #[.int .i64 m, .int .i64 qf] 86 (0, 0)), (bW, obW)] (fun q hq => by
    simp only [List.mem_cons, List.not_mem_nil, or_false] at hq
    rcases hq with rfl | rfl | rfl | rfl
    · exact .inr (.inl ⟨_, _, _, rfl, by decide⟩)
    · exact .inr (.inl ⟨_, _, _, rfl, by decide⟩)
    · exact .inr (.inr hno)
    · exact .inl hbW) hgm (Nat.le_refl _) (fun w1 hm1 hI1 => by have := run_all h0 hgm 65538 at' qf w1 hv tv s (fin hI1) hI1.2.1 hI1.2.2.1 (hm1.get 0) (by omega) hFit (by have := hFit.lo; omega); rw [hS2] at this; exact this) fun hv2 tv2 => ?_
  refine Goes.run [] [] trivial ?_
  refine Goes.slot 39 (.int .i64 ((i + 1 : Nat) : Int)) (u := .int .i64 (IntKind.i64.wrap ((i : Int) + 1))) (congrArg _ (wrap_nat (by omega))) ?_
  refine Goes.keep 3 ?_
  exact back ⟨i + 1, S2, hv2, tv2⟩ _ ⟨by show i + 1 ≤ l.length; omega, hRun, hfit2⟩ (by show N - (i + 1) < N - i; omega) (by kernel_rfl) (by kernel_rfl) (by kernel_rfl)
end
end Go.Proofs.YtddbiiejilcbbaaGreatDoor
namespace Go.Proofs.YtddbiiejilcbbaaGreatDoor
open Go Go.RowKit

section
variable {w : World} {k : Kd} {aW aI : Option Addr} {nW cW nI cI : Nat} {rg : Int} {l : List (Int × Int)} {v : Value}
set_option maxHeartbeats 4000000 in
set_option maxRecDepth 100000 in
seal rn rnN rnS Goes ans atEnd put0 put putM opened openedY putA0 putA oneSt st0 keep mkSt newSt in
theorem dholds_any (hS : Sts w.heap.size w v l) : Calls Tryz.prog 39 #[cdV rg aW nW cW aI nI cI, v] w fun e w' => e = .returned (.bool (hlP nW l)) ∧ Below w.heap.size w w' := by
  obtain ⟨a, c, rfl, hc, hst⟩ := hS
  obtain ⟨N, hN⟩ : ∃ N, l.length = N := ⟨_, rfl⟩
  rw [hN] at hc ⊢
  refine Goes.begin Tryz.func39 [] (fun _ => True) Holds.nil (by simp [Mem.ids]) (fun _ _ => trivial) ?_
  refine Goes.run [] [] trivial ?_
  refine Goes.new1 w.heap.size (fun w' h => h.1.size) fun gc hgc => ?_
  cases h0 : decide ((N : Int) > 250) with
  | true =>
    refine Goes.run [1] [(decide ((N : Int) > 250), true)] ⟨h0, trivial⟩ ?_
    exact Goes.ret [] (.bool false) fun w' hm hI => ⟨by unfold hlP; rw [hN, decide_eq_false (by have := of_decide_eq_true h0; omega)]; rfl, bel0 hI⟩
  | false =>
    have hW : hlP (nW : Int) l = allH nW l := by unfold hlP; rw [hN, decide_eq_true (by have := of_decide_eq_false h0; omega), Bool.true_and]
    rw [hW]
    refine Goes.run [0] [(decide ((N : Int) > 250), false)] ⟨h0, trivial⟩ ?_
    refine Goes.loop0 (α := Nat) 48 (fun i => [(1, .slice a N c), (2, .pointer (some ⟨gc, 0, none⟩)), (5, .int .i64 i)]) [(gc, cdO rg (.slice aW nW cW) (.slice aI nI cI))] (fun i => i ≤ N ∧ allH nW l = allH nW (l.drop i)) (fun i => N - i) 0 ⟨Nat.zero_le _, rfl⟩ ?_
    rintro i J ⟨hi, hrest⟩ back
    cases hlt : decide ((i : Int) < (N : Int)) with
    | false =>
      refine Goes.run [0, 0] [(decide ((i : Int) < (N : Int)), false)] ⟨hlt, trivial⟩ ?_
      exact Goes.ret [] (.bool true) fun w' hm hI => ⟨by rw [hrest, List.drop_of_length_le (by have := of_decide_eq_false hlt; omega)]; rfl, bel0 hI⟩
    | true =>
      have hil : i < N := by have := of_decide_eq_true hlt; omega
      obtain ⟨q, hq⟩ : ∃ q, l[i]? = some q := ⟨l[i]'(by omega), by simp⟩
      obtain ⟨b, o, rfl, hb, x1, x2⟩ := hst i q hq
      obtain ⟨ob, hob⟩ := obj_ofV hb
      have z1 : ∀ {w' : World}, w'.heap[b]? = some ob → w'.cell? ⟨b, o + i * 2, none⟩ = some (.int .i64 q.1) := fun h => by
        have := x1
        unfold World.cell? at this ⊢
        rw [h]
        rw [hob] at this
        exact this
      have z2 : ∀ {w' : World}, w'.heap[b]? = some ob → w'.cell? ⟨b, o + i * 2 + 1, none⟩ = some (.int .i64 q.2) := fun h => by
        have := x2
        unfold World.cell? at this ⊢
        rw [h]
        rw [hob] at this
        exact this
      have hd := drop_any hq
      have hR : allH (nW : Int) l = ((!decide (q.1 < 0) && !decide (q.1 ≥ (nW : Int)) && numP q.2) && allH nW (l.drop (i + 1))) := by rw [hrest, hd, allH]
      refine Goes.run [0, 1] [(decide ((i : Int) < (N : Int)), true)] ⟨hlt, trivial⟩ ?_
      refine Goes.openY [0] [(b, ob)] (fun w' hI => hold1v ((hI.1.block b hb (by simp [Mem.ids])).trans hob)) ?_
      refine Goes.run [0, 1] [] trivial ?_
      refine Goes.valA 2 (Instr.indexAt 37 (.slice (some ⟨b, o, none⟩) N c) (.int .i64 i)) (.pointer (some ⟨b, o + i * 2, none⟩)) (fun w' _ => idxHd b o N c i hil w') ?_
      refine Goes.run [3] [] trivial ?_
      refine Goes.valA 4 (Instr.loadAt 3 (.pointer (some ⟨b, o + i * 2, none⟩))) (.int .i64 q.1) (fun w' hm => load1 Tryz.isAgg3 (z1 (hm.get 1))) ?_
      refine Goes.run [5, 6] [] trivial ?_
      cases h1 : decide (q.1 < 0) with
      | true =>
        refine Goes.slot 21 (.bool true) (u := .bool (decide (q.1 < 0))) (congrArg _ h1) ?_
        refine Goes.run [7, 8, 9, 10, 11, 12, 13, 14, 15, 16, 17, 18, 19, 20, 21, 22, 23, 24, 25, 26, 27, 28, 29, 30, 31, 32] [] trivial ?_
        refine Goes.run [1] [(true, true)] ⟨rfl, trivial⟩ ?_
        exact Goes.ret [] (.bool false) fun w' hm hI => ⟨by rw [hR, h1]; rfl, bel0 hI⟩
      | false =>
      refine Goes.slot 21 (.bool false) (u := .bool (decide (q.1 < 0))) (congrArg _ h1) ?_
      refine Goes.run [7, 8] [] trivial ?_
      refine Goes.valA 9 (Instr.indexAt 37 (.slice (some ⟨b, o, none⟩) N c) (.int .i64 i)) (.pointer (some ⟨b, o + i * 2, none⟩)) (fun w' _ => idxHd b o N c i hil w') ?_
      refine Goes.run [10] [] trivial ?_
      refine Goes.valA 11 (Instr.loadAt 3 (.pointer (some ⟨b, o + i * 2, none⟩))) (.int .i64 q.1) (fun w' hm => load1 Tryz.isAgg3 (z1 (hm.get 1))) ?_
      refine Goes.run [12, 13, 0, 14, 15, 16, 17] [] trivial ?_
      cases h2 : decide (q.1 ≥ (nW : Int)) with
      | true =>
        refine Goes.slot 32 (.bool true) (u := .bool (decide (q.1 ≥ (nW : Int)))) (congrArg _ h2) ?_
        refine Goes.run [18, 19, 20, 21, 22, 23, 24, 25, 26, 27, 28, 29, 30, 31, 32] [] trivial ?_
        refine Goes.run [1] [(true, true)] ⟨rfl, trivial⟩ ?_
        exact Goes.ret [] (.bool false) fun w' hm hI => ⟨by rw [hR, h1, h2]; rfl, bel0 hI⟩
      | false =>
      refine Goes.slot 32 (.bool false) (u := .bool (decide (q.1 ≥ (nW : Int)))) (congrArg _ h2) ?_
      refine Goes.run [18, 19] [] trivial ?_
      refine Goes.valA 20 (Instr.indexAt 37 (.slice (some ⟨b, o, none⟩) N c) (.int .i64 i)) (.pointer (some ⟨b, o + i * 2, none⟩)) (fun w' _ => idxHd b o N c i hil w') ?_
      refine Goes.run [21] [] trivial ?_
      refine Goes.valA 22 (Instr.loadAt 2 (.pointer (some ⟨b, o + i * 2 + 1, none⟩))) (.int .i64 q.2) (fun w' hm => load1 Tryz.isAgg2 (z2 (hm.get 1))) ?_
      refine Goes.run [23, 24, 25] [] trivial ?_
      have hnum : numP q.2 = (!decide (q.2 < -1000000000000000) && !decide (q.2 > 1000000000000000)) := by
        unfold numP
        by_cases e1 : q.2 < -1000000000000000
        · rw [decide_eq_false (by omega), decide_eq_true e1]; rfl
        · by_cases e2 : q.2 > 1000000000000000
          · rw [decide_eq_true (by omega), decide_eq_false (by omega), decide_eq_true e2, decide_eq_false e1]; rfl
          · rw [decide_eq_true (by omega), decide_eq_true (by omega), decide_eq_false e1, decide_eq_false e2]; rfl
      cases h3 : decide (q.2 < -1000000000000000) with
      | true =>
        refine Goes.slot 40 (.bool true) (u := .bool (decide (q.2 < -1000000000000000))) (congrArg _ h3) ?_
        refine Goes.run [26, 27, 28, 29, 30, 31, 32] [] trivial ?_
        refine Goes.run [1] [(true, true)] ⟨rfl, trivial⟩ ?_
        exact Goes.ret [] (.bool false) fun w' hm hI => ⟨by rw [hR, h1, h2, hnum, h3]; rfl, bel0 hI⟩
      | false =>
      refine Goes.slot 40 (.bool false) (u := .bool (decide (q.2 < -1000000000000000))) (congrArg _ h3) ?_
      refine Goes.run [26, 27] [] trivial ?_
      refine Goes.valA 28 (Instr.indexAt 37 (.slice (some ⟨b, o, none⟩) N c) (.int .i64 i)) (.pointer (some ⟨b, o + i * 2, none⟩)) (fun w' _ => idxHd b o N c i hil w') ?_
      refine Goes.run [29] [] trivial ?_
      refine Goes.valA 30 (Instr.loadAt 2 (.pointer (some ⟨b, o + i * 2 + 1, none⟩))) (.int .i64 q.2) (fun w' hm => load1 Tryz.isAgg2 (z2 (hm.get 1))) ?_
      refine Goes.run [31, 32] [] trivial ?_
      cases h4 : decide (q.2 > 1000000000000000) with
      | true =>
        refine Goes.run [1] [(decide (q.2 > 1000000000000000), true)] ⟨h4, trivial⟩ ?_
        exact Goes.ret [] (.bool false) fun w' hm hI => ⟨by rw [hR, h1, h2, hnum, h3, h4]; rfl, bel0 hI⟩
      | false =>
        refine Goes.run [0] [(decide (q.2 > 1000000000000000), false)] ⟨h4, trivial⟩ ?_
        refine Goes.slot 5 (.int .i64 (i + 1 : Nat)) (u := .int .i64 (IntKind.i64.wrap ((i : Int) + 1))) (congrArg _ (wrap_nat (by omega))) ?_
        exact back (i + 1) _ ⟨hil, by rw [hR, h1, h2, hnum, h3, h4]; rfl⟩ (by omega) (by kernel_rfl) (by kernel_rfl) (by kernel_rfl)
end
end Go.Proofs.YtddbiiejilcbbaaGreatDoor
namespace Go.Proofs.YtddbiiejilcbbaaGreatDoor
open Go Go.RowKit

theorem eq2E (l m : List UInt8) (i j : Nat) (w : World) : (do eqGuard .eql 9 (.tmp i) (.tmp j) (strV l) (strV m); binOp .eql 9 (strV l) (strV m) : Sem Value).run Tryz.prog w = .ok (.bool (decide (l = m))) w := by
  have : (eqGuard .eql 9 (.tmp i) (.tmp j) (strV l) (strV m)).run Tryz.prog w = .ok () w := by unfold eqGuard strV; go_simp
  simp only [Sem.run_bind, this, Result.andThen_ok, eqlS l m _ rfl w]
structure LpV where
  i : Nat
  D : Ms × Bool
  hv : Value
  tv : Value
structure LpV.ok (k : Kd) (fs : Fs) (day : Int) (lab : List UInt8) (wh : Int) (l : List (Int × Int)) (R : Ms × Bool) (x : LpV) : Prop where
  le : x.i ≤ l.length
  run : vstD k fs day lab wh (l.drop x.i) x.D = R
  fine : x.D.2 = false → x.D.1.Fit ∧ overM x.D.1 = false
abbrev sVv (g gc gh : Nat) (v : Value) (i : Nat) : List (Nat × Value) := [(0, .pointer (some ⟨g, 0, none⟩)), (2, v), (5, .pointer (some ⟨gc, 0, none⟩)), (7, .pointer (some ⟨gh, 0, none⟩)), (8, .int .i64 i)]
noncomputable def vsH : List TI := (rn Tryz.prog [] [] (mkSt Tryz.prog 3 (rn Tryz.prog [] [] (mkSt Tryz.prog 2 (rn Tryz.prog [] [] (st0 Tryz.f40 #[.pointer (some ⟨1, 0, none⟩), cdV 0 none 0 0 none 0 0, nl, chV [] 0] [(1, dmO 0 nl nl nl 0 false)])).st)).st)).st.todo
noncomputable def vsA : St := (rn Tryz.prog [0, 1, 0, 2, 3] [] (openedY [1] [] (rn Tryz.prog [0, 1] [] ⟨vsH, fr 55 (sVv 1 2 3 (.slice (some ⟨9, 0, none⟩) 1 1) 0) (fun _ => undef), [(1, dmO 0 nl nl nl 0 false), (2, cdO 0 nl nl), (3, vchO [] 0)]⟩).st)).st
noncomputable def vsB : St := oneSt Tryz.prog 10 3 (newSt Tryz.prog 9 4 (putA0 8 (putA0 7 (putA0 6 (rn Tryz.prog [5] [] (putA0 4 vsA (.pointer (some ⟨9, 0, none⟩)))).st (.int .i64 0)) (.pointer (some ⟨8, 0, none⟩))) (wV ⟨0, 0, [], 0, 0⟩)))
noncomputable def vsR : List TI := (rn Tryz.prog [0, 0] [] (put0 (rnS Tryz.prog 30 [3, 2] [] vsB).st (.bool false))).st.todo
section
variable {w0 w : World} {k : Kd} {fs : Fs} {fa aW aI : Option Addr} {fN fc nW cW nI cI : Nat} {rg day wh : Int} {lab : List UInt8} {l : List (Int × Int)} {v : Value} {g : Nat}
set_option maxHeartbeats 4000000 in
set_option maxRecDepth 100000 in
seal rn rnN rnS Goes ans atEnd put0 put putM opened openedY putA0 putA oneSt st0 keep mkSt newSt rgO vsH vsR in
theorem der_bad {hv tv : Value} {s : Ms} (hl : Hds w0.heap.size w hv s.holds) (ht : Trs w0.heap.size day w tv s.out) (hg : w.heap[g]? = some (dmO day (.slice fa fN fc) hv tv s.steps true)) (at' f : Int) : Calls Tryz.prog 21 #[.pointer (some ⟨g, 0, none⟩), cdV rg aW nW cW aI nI cI, .int .i64 at', .int .i64 f] w (VQ w0.heap.size g day (dmB day (.slice fa fN fc) s.steps true) w hv tv (.tuple #[]) s.holds s.out) := by
  have hge : g < w.heap.size := lt_of_get hg
  refine Goes.enter Tryz.func21 [(g, dmO day (.slice fa fN fc) hv tv s.steps true)] (McI w0.heap.size g day w hv tv hv tv s.holds s.out) (hold1v hg) (by simp [Mem.ids]) ((McI.refl hl ht).stay ⟨_, _, _, hg, by decide, by decide⟩ (fun x hx => .inl (by simpa [Mem.ids] using hx))) ?_
  refine Goes.run [] [] trivial ?_
  refine Goes.new1 w.heap.size (fun w' h => h.1.size) fun gc hgc => ?_
  refine Goes.run [] [] trivial ?_
  refine Goes.eff (Instr.makeSlice 101 (.int .i64 256) (.int .i64 256)) fun w1 hm1 hn1 hI1 => ?_
  have y0 : w1.heap[g]? = some (dmO day (.slice fa fN fc) hv tv s.steps true) := hm1.get 0
  have hB1 : Below w1.heap.size w1 (w1.alloc (rgO zeros)) := (Below.refl _ _).alloc (Nat.le_refl _) _
  have k0 : (w1.alloc (rgO zeros)).heap[g]? = some (dmO day (.slice fa fN fc) hv tv s.steps true) := (hB1.block g (lt_of_get y0)).trans y0
  refine ⟨slG w1.heap.size, w1.alloc (rgO zeros), McI w0.heap.size g day w hv tv hv tv s.holds s.out, [(g, dmO day (.slice fa fN fc) hv tv s.steps true)], makeG w1, hold1v k0, by simp [Mem.ids], (hI1.bel hB1).now.stay ⟨_, _, _, k0, by decide, by decide⟩ (fun y hy => .inl (by simpa [Mem.ids] using hy)), ?_⟩
  refine Goes.run [0, 0, 0] [(false, false)] ⟨rfl, trivial⟩ ?_
  exact Goes.ret [] (.tuple #[]) fun w' hm hI => ⟨hv, tv, rfl, hm.get 0, hI.now⟩
set_option maxHeartbeats 4000000 in
set_option maxRecDepth 100000 in
seal rn rnN rnS Goes ans atEnd put0 put putM opened openedY putA0 putA oneSt st0 keep mkSt newSt rgO vsH vsR in
theorem dsteps_any (h0 : Rn0 w0 k fs fa fN fc rg aW nW cW aI nI cI day) (hg0 : w0.heap.size ≤ g) (hS : Sts w0.heap.size w0 v l) (hall : allH nW l = true) (hN0 : l.length ≤ 250) (hrc : rcP lab wh = true) (hBw : Below w0.heap.size w0 w) (hg : w.heap[g]? = some (dmO day (.slice fa fN fc) nl nl 0 false)) : Calls Tryz.prog 40 #[.pointer (some ⟨g, 0, none⟩), cdV rg aW nW cW aI nI cI, v, chV lab wh] w (VQ w0.heap.size g day (dmB day (.slice fa fN fc) (vstD k fs day lab wh l (s0Ms, false)).1.steps (vstD k fs day lab wh l (s0Ms, false)).2) w nl nl (.tuple #[]) (vstD k fs day lab wh l (s0Ms, false)).1.holds (vstD k fs day lab wh l (s0Ms, false)).1.out) := by
  obtain ⟨R, hR⟩ : ∃ R, vstD k fs day lab wh l (s0Ms, false) = R := ⟨_, rfl⟩
  rw [hR]
  obtain ⟨a, c, rfl, hc, hst⟩ := id hS
  obtain ⟨N, hN⟩ : ∃ N, l.length = N := ⟨_, rfl⟩
  have hlw := h0.code.lw
  rw [hN] at hc ⊢
  have hge : g < w.heap.size := lt_of_get hg
  have hwh : lab ≠ [] → wh = 1 ∨ wh = 2 := fun hne => by
    unfold rcP at hrc
    rw [decide_eq_false hne, Bool.false_and, Bool.or_false, Bool.and_eq_true, Bool.or_eq_true, beq_iff_eq, beq_iff_eq] at hrc
    exact hrc.2
  refine Goes.enter Tryz.func40 [(g, dmO day (.slice fa fN fc) nl nl 0 false)] (McI w0.heap.size g day w nl nl nl nl [] []) (hold1v hg) (by simp [Mem.ids]) ((McI.refl Hds.nil Trs.nil).stay ⟨_, _, _, hg, by decide, by decide⟩ (fun x hx => .inl (by simpa [Mem.ids] using hx))) ?_
  refine Goes.run [] [] trivial ?_
  refine Goes.new1 w.heap.size (fun w' h => h.1.size) fun gc hgc => ?_
  refine Goes.run [] [] trivial ?_
  refine Goes.new1 w.heap.size (fun w' h => h.1.size) fun gh hgh => ?_
  refine Goes.run [] [] trivial ?_
  refine Goes.at (K := vsH) (n := 55) (S := sVv g gc gh (.slice a N c) 0) (m := [(g, dmO day (.slice fa fN fc) nl nl 0 false), (gc, cdO rg (.slice aW nW cW) (.slice aI nI cI)), (gh, vchO lab wh)]) (fun J0 => ?_) (by kernel_rfl) (by kernel_rfl) (by kernel_rfl)
  refine Goes.loop (α := LpV) 55 (fun x => sVv g gc gh (.slice a N c) x.i) (fun x => [(g, dmO day (.slice fa fN fc) x.hv x.tv x.D.1.steps x.D.2), (gc, cdO rg (.slice aW nW cW) (.slice aI nI cI)), (gh, vchO lab wh)]) (fun x => McI w0.heap.size g day w nl nl x.hv x.tv x.D.1.holds x.D.1.out) (LpV.ok k fs day lab wh l R) (fun x => N - x.i) ⟨0, (s0Ms, false), nl, nl⟩ ⟨Nat.zero_le _, hR, fun _ => ⟨s0_fit, s0_over⟩⟩ (fun w' h => h) ?_
  rintro ⟨i, ⟨s, bd⟩, hv, tv⟩ J ⟨hi, hRun, hfine⟩ back
  replace hi : i ≤ N := hN ▸ hi
  replace hRun : vstD k fs day lab wh (l.drop i) (s, bd) = R := hRun
  replace hfine : bd = false → s.Fit ∧ overM s = false := hfine
  have bel : ∀ {w' : World} {a1 b1 : Value} {h1 : List (Int × Int)} {t1 : List (List UInt8 × Int)}, McI w0.heap.size g day w nl nl a1 b1 h1 t1 w' → Below w0.heap.size w0 w' := fun h => hBw.trans (mcB Hds.nil Trs.nil hg0 hBw.size h)
  show Goes _ _ (McI w0.heap.size g day w nl nl hv tv s.holds s.out) ⟨vsH, fr 55 (sVv g gc gh (.slice a N c) i) J, [(g, dmO day (.slice fa fN fc) hv tv s.steps bd), (gc, cdO rg (.slice aW nW cW) (.slice aI nI cI)), (gh, vchO lab wh)]⟩
  cases hlt : decide ((i : Int) < (N : Int)) with
  | false =>
    have hd : l.drop i = [] := List.drop_of_length_le (by have := of_decide_eq_false hlt; omega)
    rw [hd, vstD] at hRun
    subst hRun
    refine Goes.run [0, 0] [(decide ((i : Int) < (N : Int)), false)] ⟨hlt, trivial⟩ ?_
    exact Goes.ret [] (.tuple #[]) fun w' hm hI => ⟨hv, tv, rfl, hm.get 0, hI.now⟩
  | true =>
  have hil : i < N := by have := of_decide_eq_true hlt; omega
  obtain ⟨q, hq⟩ : ∃ q, l[i]? = some q := ⟨l[i]'(by omega), by simp⟩
  obtain ⟨b, o, rfl, hb, x1, x2⟩ := hst i q hq
  obtain ⟨ob, hob⟩ := obj_ofV hb
  rw [drop_any hq, vstD] at hRun
  obtain ⟨q1, q2, -⟩ := all_at hall hq
  obtain ⟨qn, qf⟩ := q
  replace q1 : 0 ≤ qn := q1
  replace q2 : qn < (nW : Int) := q2
  obtain ⟨m, rfl⟩ : ∃ m : Nat, qn = (m : Int) := ⟨qn.toNat, by omega⟩
  have z1 : ∀ {w' : World}, w'.heap[b]? = some ob → w'.cell? ⟨b, o + i * 2, none⟩ = some (.int .i64 m) := fun h => by
    have := x1
    unfold World.cell? at this ⊢
    rw [h]
    rw [hob] at this
    exact this
  have z2 : ∀ {w' : World}, w'.heap[b]? = some ob → w'.cell? ⟨b, o + i * 2 + 1, none⟩ = some (.int .i64 qf) := fun h => by
    have := x2
    unfold World.cell? at this ⊢
    rw [h]
    rw [hob] at this
    exact this
  have hmW : m < nW := by omega
  obtain ⟨y, hy⟩ : ∃ y, k.waits[m]? = some y := ⟨k.waits[m]'(by omega), by simp⟩
  have hpl : plcK k lab wh (m : Int) = plcW lab wh y := by unfold plcK; rw [Int.toNat_natCast, hy]
  obtain ⟨pl0, pl1⟩ := plc_in h0.right hy lab wh
  obtain ⟨at', hat⟩ : ∃ a : Nat, plcW lab wh y = (a : Int) := ⟨(plcW lab wh y).toNat, by omega⟩
  replace hRun : vstD k fs day lab wh (l.drop (i + 1)) (bif bd then (s, bd) else runD k fs day 65538 ⟨zeros, plcK k lab wh (m : Int), qf⟩ s) = R := hRun
  rw [hpl, hat] at hRun
  rw [hat] at pl1
  obtain ⟨-, bW, oW, rfl, hbW, hcW⟩ := h0.code.waits m y hy
  obtain ⟨obW, hobW⟩ := obj_ofV hbW
  have hexq : ∀ {L : List Nat}, (∀ x ∈ L, w0.heap.size ≤ x) → ∀ q ∈ [(bW, obW), (b, ob)], q.1 ∉ L := fun hL q hq hm => by
    simp only [List.mem_cons, List.not_mem_nil, or_false] at hq
    have h1 := hL _ hm
    rcases hq with rfl | rfl
    · exact absurd hbW (by simp only at h1; omega)
    · exact absurd hb (by simp only at h1; omega)
  have hgc0 : w0.heap.size ≤ gc := Nat.le_trans hBw.size hgc
  have hgh0 : w0.heap.size ≤ gh := Nat.le_trans hBw.size hgh
  obtain ⟨D2, hD2⟩ : ∃ D2, (bif bd then (s, bd) else runD k fs day 65538 ⟨zeros, (at' : Int), qf⟩ s) = D2 := ⟨_, rfl⟩
  rw [hD2] at hRun
  have tl : ∀ g9, w.heap.size ≤ g9 → ∀ J, Goes Tryz.prog (bodyPost Tryz.prog Tryz.f40 (VQ w0.heap.size g day (dmB day (.slice fa fN fc) R.1.steps R.2) w nl nl (.tuple #[]) R.1.holds R.1.out)) (McI w0.heap.size g day w nl nl hv tv s.holds s.out) ⟨vsR, fr 55 (sVv g gc gh (.slice (some ⟨b, o, none⟩) N c) i ++ [(10, .int .i64 (at' : Int))]) J, [(g, dmO day (.slice fa fN fc) hv tv s.steps bd), (gc, cdO rg (.slice (some ⟨bW, oW, none⟩) nW cW) (.slice aI nI cI)), (gh, vchO lab wh), (g9, .cells (wC y).toArray 70 (0, 0))]⟩ := fun g9 hg9 J => by
    refine Goes.openY [1] [(b, ob)] (fun w' hI => hold1v (((bel hI).block b hb).trans hob)) ?_
    refine Goes.run [0, 1, 0, 2, 3, 4] [] trivial ?_
    refine Goes.valA 5 (Instr.indexAt 37 (.slice (some ⟨b, o, none⟩) N c) (.int .i64 i)) (.pointer (some ⟨b, o + i * 2, none⟩)) (fun w' _ => idxHd b o N c i hil w') ?_
    refine Goes.run [6] [] trivial ?_
    refine Goes.valA 7 (Instr.loadAt 2 (.pointer (some ⟨b, o + i * 2 + 1, none⟩))) (.int .i64 qf) (fun w' hm => load1 Tryz.isAgg2 (z2 (hm.get 1))) ?_
    refine Goes.keep 3 ?_
    refine Goes.callVQA 8 21 #[.pointer (some ⟨g, 0, none⟩), cdV rg (some ⟨bW, oW, none⟩) nW cW aI nI cI, .int .i64 at', .int .i64 qf] (.tuple #[]) (dmB day (.slice fa fN fc) s.steps bd) (dmB day (.slice fa fN fc) D2.1.steps D2.2) (dmB_is _ _ _ _) (dmB_is _ _ _ _) D2.1.holds D2.1.out [(gc, cdO rg (.slice (some ⟨bW, oW, none⟩) nW cW) (.slice aI nI cI)), (gh, vchO lab wh)] (fun q hq => by
      simp only [List.mem_cons, List.not_mem_nil, or_false] at hq
      rcases hq with rfl | rfl
      · exact ⟨hgc, _, _, _, rfl, by decide⟩
      · exact ⟨hgh, _, _, _, rfl, by decide⟩) [(gc, cdO rg (.slice (some ⟨bW, oW, none⟩) nW cW) (.slice aI nI cI)), (b, ob)] (fun q hq => by
      simp only [List.mem_cons, List.not_mem_nil, or_false] at hq
      rcases hq with rfl | rfl
      · exact .inr ⟨_, _, _, rfl, by decide⟩
      · exact .inl hb) hg0 hBw.size (fun w1 hm1 hI1 => by
        cases bd with
        | true =>
          have e : D2 = (s, true) := hD2.symm
          rw [e]
          exact der_bad hI1.2.1 hI1.2.2.1 (hm1.get 0) at' qf
        | false =>
          obtain ⟨hFit, hov⟩ := hfine rfl
          have e : runD k fs day 65538 ⟨zeros, (at' : Int), qf⟩ s = D2 := hD2
          have := der_all h0 hg0 65538 at' qf w1 hv tv s (bel hI1) hI1.2.1 hI1.2.2.1 (hm1.get 0) (by omega) hFit hov (by have := hFit.lo; omega)
          rw [e] at this
          exact this) fun hv2 tv2 => ?_
    refine Goes.run [] [] trivial ?_
    refine Goes.slot 8 (.int .i64 ((i + 1 : Nat) : Int)) (u := .int .i64 (IntKind.i64.wrap ((i : Int) + 1))) (congrArg _ (wrap_nat (by omega))) ?_
    refine Goes.keep 3 ?_
    refine back ⟨i + 1, D2, hv2, tv2⟩ _ ⟨by show i + 1 ≤ l.length; omega, hRun, fun hb2 => ?_⟩ (by show N - (i + 1) < N - i; omega) (by kernel_rfl) (by kernel_rfl) (by kernel_rfl)
    replace hb2 : D2.2 = false := hb2
    show D2.1.Fit ∧ overM D2.1 = false
    cases bd with
    | true =>
      have e : D2 = (s, true) := hD2.symm
      rw [e] at hb2
      cases hb2
    | false =>
      obtain ⟨hFit, hov⟩ := hfine rfl
      have e : runD k fs day 65538 ⟨zeros, (at' : Int), qf⟩ s = D2 := hD2
      obtain ⟨e1, e2⟩ := run_same k fs day 65538 ⟨zeros, (at' : Int), qf⟩ s hov
      rw [e] at e1 e2
      rw [e2 hb2]
      exact ⟨runP_fit k fs day 65538 _ s hFit, by rw [← e1]; exact hb2⟩
  refine Goes.run [0, 1] [(decide ((i : Int) < (N : Int)), true)] ⟨hlt, trivial⟩ ?_
  refine Goes.openY [1] [(bW, obW), (b, ob)] (fun w' hI => holds2v (((bel hI).block bW hbW).trans hobW) (((bel hI).block b hb).trans hob)) ?_
  refine Goes.run [0, 1, 0, 2, 3] [] trivial ?_
  refine Goes.valA 4 (Instr.indexAt 37 (.slice (some ⟨b, o, none⟩) N c) (.int .i64 i)) (.pointer (some ⟨b, o + i * 2, none⟩)) (fun w' _ => idxHd b o N c i hil w') ?_
  refine Goes.run [5] [] trivial ?_
  refine Goes.valA 6 (Instr.loadAt 3 (.pointer (some ⟨b, o + i * 2, none⟩))) (.int .i64 m) (fun w' hm => load1 Tryz.isAgg3 (z1 (hm.get 2))) ?_
  refine Goes.valA 7 (Instr.indexAt 24 (.slice (some ⟨bW, oW, none⟩) nW cW) (.int .i64 m)) (.pointer (some ⟨bW, oW + m * 5, none⟩)) (fun w' _ => idxWk bW oW nW cW m hmW w') ?_
  refine Goes.valA 8 (Instr.loadAt 70 (.pointer (some ⟨bW, oW + m * 5, none⟩))) (wV y) (fun w' hm => loadW (hcW.objV hobW (hm.get 1))) ?_
  refine Goes.lone1 9 (TookS.new1V 9 w.heap.size [1] [(bW, obW), (b, ob)] [g, gc, gh] (hexq (by simp; omega)) (fun w' h => h.1.size) fun g9 hg9 => ?_)
  refine Goes.lone1 10 (TookS.runV 10 3 [1] [(bW, obW), (b, ob)] [g, gc, gh, g9] (hexq (by simp; have := hBw.size; omega)) ?_)
  refine Goes.upto 30 [3, 2] [] trivial ?_
  refine Goes.val (do eqGuard .neq 9 (.tmp 29) (.const (strV [])) (strV lab) (strV []); binOp .neq 9 (strV lab) (strV [])) (.bool (!decide (lab = []))) (fun w' _ _ => neEmp lab 29 _ (by simp) w') ?_
  unfold plcW at hat
  have fin : ∀ J, _ := tl g9 hg9
  cases h1 : decide (lab = []) with
  | true =>
    rw [h1] at hat
    replace hat : y.entry = (at' : Int) := hat
    refine Goes.run [0, 0] [(false, false), (false, false)] ⟨rfl, rfl, trivial⟩ ?_
    refine Goes.slot 10 (.int .i64 (at' : Int)) (u := .int .i64 y.entry) (congrArg _ hat) ?_
    exact Goes.at (K := vsR) (n := 55) (S := sVv g gc gh (.slice (some ⟨b, o, none⟩) N c) i ++ [(10, .int .i64 (at' : Int))]) (m := [(g, dmO day (.slice fa fN fc) hv tv s.steps bd), (gc, cdO rg (.slice (some ⟨bW, oW, none⟩) nW cW) (.slice aI nI cI)), (gh, vchO lab wh), (g9, .cells (wC y).toArray 70 (0, 0))]) fin (by kernel_rfl) (by kernel_rfl) (by kernel_rfl)
  | false =>
    refine Goes.upto 36 [1, 2, 3] [(true, true)] ⟨rfl, trivial⟩ ?_
    refine Goes.val (do eqGuard .eql 9 (.tmp 33) (.tmp 35) (strV lab) (strV y.label); binOp .eql 9 (strV lab) (strV y.label)) (.bool (decide (lab = y.label))) (fun w' _ _ => eq2E lab y.label 33 35 w') ?_
    rw [h1] at hat
    cases h2 : decide (lab = y.label) with
    | false =>
      rw [h2] at hat
      replace hat : y.entry = (at' : Int) := hat
      refine Goes.run [0] [(false, false)] ⟨rfl, trivial⟩ ?_
      refine Goes.slot 10 (.int .i64 (at' : Int)) (u := .int .i64 y.entry) (congrArg _ hat) ?_
      exact Goes.at (K := vsR) (n := 55) (S := sVv g gc gh (.slice (some ⟨b, o, none⟩) N c) i ++ [(10, .int .i64 (at' : Int))]) (m := [(g, dmO day (.slice fa fN fc) hv tv s.steps bd), (gc, cdO rg (.slice (some ⟨bW, oW, none⟩) nW cW) (.slice aI nI cI)), (gh, vchO lab wh), (g9, .cells (wC y).toArray 70 (0, 0))]) fin (by kernel_rfl) (by kernel_rfl) (by kernel_rfl)
    | true =>
      rw [h2] at hat
      rcases hwh (of_decide_eq_false h1) with rfl | rfl
      · replace hat : y.first = (at' : Int) := hat
        refine Goes.run [1, 3, 3, 2, 0] [(true, true)] ⟨rfl, trivial⟩ ?_
        refine Goes.slot 10 (.int .i64 (at' : Int)) (u := .int .i64 y.first) (congrArg _ hat) ?_
        exact Goes.at (K := vsR) (n := 55) (S := sVv g gc gh (.slice (some ⟨b, o, none⟩) N c) i ++ [(10, .int .i64 (at' : Int))]) (m := [(g, dmO day (.slice fa fN fc) hv tv s.steps bd), (gc, cdO rg (.slice (some ⟨bW, oW, none⟩) nW cW) (.slice aI nI cI)), (gh, vchO lab 1), (g9, .cells (wC y).toArray 70 (0, 0))]) fin (by kernel_rfl) (by kernel_rfl) (by kernel_rfl)
      · replace hat : y.second = (at' : Int) := hat
        refine Goes.run [1, 3, 3, 2, 0] [(true, true)] ⟨rfl, trivial⟩ ?_
        refine Goes.slot 10 (.int .i64 (at' : Int)) (u := .int .i64 y.second) (congrArg _ hat) ?_
        exact Goes.at (K := vsR) (n := 55) (S := sVv g gc gh (.slice (some ⟨b, o, none⟩) N c) i ++ [(10, .int .i64 (at' : Int))]) (m := [(g, dmO day (.slice fa fN fc) hv tv s.steps bd), (gc, cdO rg (.slice (some ⟨bW, oW, none⟩) nW cW) (.slice aI nI cI)), (gh, vchO lab 2), (g9, .cells (wC y).toArray 70 (0, 0))]) fin (by kernel_rfl) (by kernel_rfl) (by kernel_rfl)
end
end Go.Proofs.YtddbiiejilcbbaaGreatDoor
namespace Go.Proofs.YtddbiiejilcbbaaGreatDoor
open Go Go.RowKit

def EURv : List UInt8 := [69, 85, 82]
def k18 : Kd := ⟨0, [], [⟨27, 0, 0, 0, 0, EURv, 0⟩, ⟨30, 0, 0, 0, 0, [], 0⟩]⟩
theorem shown_run : runP k18 [] 3 65538 ⟨zeros, ((0 : Nat) : Int), 1000000⟩ s0Ms = ⟨[], [(EURv, 1000000)], 2⟩ := by
  rw [show (65538 : Nat) = 65537 + 1 from rfl, runP_at (i := 0) (x := ⟨27, 0, 0, 0, 0, EURv, 0⟩) s0_over rfl rfl]
  show runP k18 [] 3 65537 ⟨zeros, ((1 : Nat) : Int), 1000000⟩ ⟨[], [(EURv, 1000000)], 1⟩ = _
  rw [show (65537 : Nat) = 65536 + 1 from rfl, runP_at (i := 1) (x := ⟨30, 0, 0, 0, 0, [], 0⟩) (by decide) rfl rfl]
  rfl
theorem shown_rgt : rgt k18 [] 3 = true := by kernel_rfl
theorem shown_beg : begP k18 [] 3 = ⟨[], [(EURv, 1000000)], 2, 0⟩ := by
  unfold begP
  rw [shown_run, shown_rgt]
  rfl
theorem cdm18 {w : World} {g : Nat} (h : w.heap[g]? = some (.cells (iC ⟨27, 0, 0, 0, 0, EURv, 0⟩ ++ iC ⟨30, 0, 0, 0, 0, [], 0⟩).toArray 72 (0, 0))) : CdM w none 0 0 (some ⟨g, 0, none⟩) 2 2 k18 := by
  refine ⟨rfl, rfl, by omega, by omega, fun i x hx => by simp [k18] at hx, fun i x hx => ?_⟩
  match i, hx with
  | 0, hx =>
    cases hx
    refine ⟨by decide, g, 0, rfl, lt_of_get h, fun j u hj => ?_⟩
    unfold World.cell?
    rw [h]
    match j, hj with
    | 0, hj | 1, hj | 2, hj | 3, hj | 4, hj | 5, hj | 6, hj => cases hj; rfl
  | 1, hx =>
    cases hx
    refine ⟨by decide, g, 0, rfl, lt_of_get h, fun j u hj => ?_⟩
    unfold World.cell?
    rw [h]
    match j, hj with
    | 0, hj | 1, hj | 2, hj | 3, hj | 4, hj | 5, hj | 6, hj => cases hj; rfl
theorem fds_nil18 {n : Nat} {w : World} : Fds n w (.slice none 0 0) [] := ⟨none, 0, rfl, ⟨by simp, by omega⟩, fun i f h => by simp at h⟩
set_option maxHeartbeats 4000000 in
set_option maxRecDepth 100000 in
seal rn rnN rnS Goes ans atEnd put0 put putM opened openedY putA0 putA oneSt st0 keep mkSt newSt in
theorem shown18_any {w : World} (hT : Tab w) (hU : TabU w) : Calls Tryz.prog 12 #[] w fun e w' => e = .returned (.bool true) ∧ Below w.heap.size w w' := by
  refine Goes.begin Tryz.func12 [] (fun _ => True) Holds.nil (by simp [Mem.ids]) (fun _ _ => trivial) ?_
  refine Goes.run2 [1, 1] [] trivial fun gI g1 => ?_
  refine Goes.callBg 13 #[cdV 0 none 0 0 (some ⟨gI, 0, none⟩) 2 2, .int .i64 3, .slice none 0 0] 3 ⟨[], [(EURv, 1000000)], 2, 0⟩ w.heap.size (fun w1 hm hI => by have := pbegin_any (k := k18) (fs := []) (day := 3) (cdm18 (show w1.heap[gI]? = some (.cells (iC ⟨27, 0, 0, 0, 0, EURv, 0⟩ ++ iC ⟨30, 0, 0, 0, 0, [], 0⟩).toArray 72 (0, 0)) from hm.get 0)) rfl (fun x hx => by simp [k18] at hx; rcases hx with rfl | rfl <;> exact ⟨by decide, by decide⟩) fds_nil18 (by simp) (hU.below (bel0 hI)) (hT.below (bel0 hI)); rwa [shown_beg] at this) (fun w' h => h.1.size) fun aL cL aT cT => ?_
  refine Goes.run [1, 1, 1] [(true, true), (true, true), (true, true)] ⟨rfl, rfl, rfl, trivial⟩ ?_
  refine Goes.pure (Q := ∃ gU, aT = some ⟨gU, 0, none⟩) (fun w' hI => by obtain ⟨g, cap, cur, he, -⟩ := own_open hI.2.2 (by simp); cases he; exact ⟨g, rfl⟩) fun ⟨gU, hgU⟩ => ?_
  subst hgU
  refine Goes.val (Instr.indexAt 38 (.slice (some ⟨gU, 0, none⟩) 1 cT) (.int .i64 ((0 : Nat) : Int))) (.pointer (some ⟨gU, 0 * 3, none⟩)) (fun w' _ _ => idxTr gU 1 cT 0 (by omega) w') ?_
  refine Goes.val (Instr.loadAt 59 (.pointer (some ⟨gU, 0 * 3, none⟩))) (.agg #[.int .i64 3, strV EURv, .int .i64 1000000]) (fun w' _ hI => by
    obtain ⟨g, cap, cur, he, hg, -, -, hc⟩ := own_open hI.now.2.2 (by simp)
    cases he
    exact loadTr (ts := [(EURv, 1000000)]) (i := 0) hg hc rfl) ?_
  refine Goes.upto 34 [] [] trivial ?_
  refine Goes.val (do eqGuard .eql 59 (.tmp 32) (.tmp 33) (.agg #[.int .i64 3, strV EURv, .int .i64 1000000]) (.agg #[.int .i64 3, strV EURv, .int .i64 1000000]); binOp .eql 59 (.agg #[.int .i64 3, strV EURv, .int .i64 1000000]) (.agg #[.int .i64 3, strV EURv, .int .i64 1000000])) (.bool true) (fun w' _ _ => by have := eql_agg (t := 59) (.tmp 32) (.tmp 33) (by kernel_rfl) (eqTr 3 EURv 1000000 3 EURv 1000000 w'); simpa using this) ?_
  refine Goes.run [1] [(true, true)] ⟨rfl, trivial⟩ ?_
  exact Goes.ret [] (.bool true) fun w' hm hI => ⟨rfl, bel0 (hI.mono fun _ h => h.1)⟩
section
variable {w : World} {k : Kd} {fs : Fs} {fa aW aI : Option Addr} {fN fc nW cW nI cI : Nat} {rg day : Int}
end
end Go.Proofs.YtddbiiejilcbbaaGreatDoor
namespace Go.Proofs.YtddbiiejilcbbaaGreatDoor
open Go Go.ChangeShapes Go.WideShapes Go.ChangeAt Go.WideMaps Go.WideElems Go.RowKit Go.ChangeMaps Go.Deep

/-- The rows' list of tables. -/
def laid1 : List (String × DataW Unit) := [("usance/date.monthDays", Rows.laid_usance_date_monthDays), ("usance/gen.uses", Rows.laid_usance_gen_uses)]
theorem laid_met (os : Os) (args : Array Value) : laidMetH Tryz.prog laid1 ((World.doorLaid Tryz.prog 24 os).forCall (fun _ _ => 0) ⟨#[], args, []⟩).memory :=
  laidMetH_of_parts3 (fuel := 8) (laidMet_of_run' 8 (by kernel_rfl) (by kernel_rfl)) (by kernel_rfl) (by kernel_rfl)
def monthTab : List Int := [31, 28, 31, 30, 31, 30, 31, 31, 30, 31, 30, 31]
theorem month_datum : (Rows.laid_usance_date_monthDays : DataW Unit) = Lib.tabData .i64 monthTab := by kernel_rfl
theorem uses_datum : (Rows.laid_usance_gen_uses : DataW Unit) = Lib.tabData .i64 usesT := by kernel_rfl
theorem tab_of_laid {W : World} (h : laidMetH Tryz.prog laid1 W) : Tab W := by
  rw [MakeChecks.laidMetH_plain _ _ _ (by kernel_rfl)] at h
  unfold laid1 at h
  rw [month_datum] at h
  have ht := Lib.tabIs_of_head (g := 1) (t := 205) (e := 3) (n := 12) (by kernel_rfl) (by kernel_rfl) Tryz.underlying205 Tryz.underlying3 (by kernel_rfl) (by kernel_rfl) h
  intro k hk
  have hc := Lib.TabIs.cell ht (g := 1) (by kernel_rfl) k hk
  rw [hc]
  match k, hk with
  | 0, _ | 1, _ | 2, _ | 3, _ | 4, _ | 5, _ | 6, _ | 7, _ | 8, _ | 9, _ | 10, _ | 11, _ => rfl
theorem tabU_of_laid {W : World} (h : laidMetH Tryz.prog laid1 W) : TabU W := by
  rw [MakeChecks.laidMetH_plain _ _ _ (by kernel_rfl)] at h
  have h3 := h.tail
  rw [uses_datum] at h3
  have ht := Lib.tabIs_of_head (g := 0) (t := 140) (e := 3) (n := 31) (by kernel_rfl) (by kernel_rfl) Tryz.underlying140 Tryz.underlying3 (by kernel_rfl) (by kernel_rfl) h3
  exact fun k hk => Lib.TabIs.cell ht (g := 0) (by kernel_rfl) k hk
end Go.Proofs.YtddbiiejilcbbaaGreatDoor
