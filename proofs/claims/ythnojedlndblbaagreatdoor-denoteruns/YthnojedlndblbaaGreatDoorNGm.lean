/- texts put together: NPure NRac0 NRac -/
import Derived.Test.YthnojedlndblbaaGreatDoorNGj
import Derived.Test.YthnojedlndblbaaGreatDoorNGi
import Derived.Test.YthnojedlndblbaaGreatDoorNGd
namespace Go.Proofs.YthnojedlndblbaaGreatDoor
open Go Go.RowKit

theorem num_in {n : Int} : numP n = true ↔ inM n := by unfold numP inM; simp
theorem beg_cases (fs : Fs) (day : Int) (c : Co) : (begR fs day c = (acq fs day c 0 1000000, 0) ∧ (chkP c == 0 && (dayP day && rfP fs)) = true) ∨ (begR fs day c = (r0, 150) ∧ (chkP c == 0 && (dayP day && rfP fs)) = false) := by
  unfold begR
  cases (chkP c == 0 && (dayP day && rfP fs)) with
  | true => exact .inl ⟨rfl, rfl⟩
  | false => exact .inr ⟨rfl, rfl⟩
theorem ste_cases (fs : Fs) (day : Int) (lab : List UInt8) (which : Int) (c : Co) (l : List (Int × Int)) : (steR fs day lab which c l = (stepP fs day lab which c l, 0) ∧ (chkP c == 0 && (dayP day && rfP fs)) = true ∧ rlP c l = true) ∨ (steR fs day lab which c l = (r0, 150) ∧ ((chkP c == 0 && (dayP day && rfP fs) && rcP lab which) && rlP c l) = false) := by
  unfold steR
  cases h : ((chkP c == 0 && (dayP day && rfP fs) && rcP lab which) && rlP c l) with
  | true =>
    simp only [Bool.and_eq_true] at h
    exact .inl ⟨rfl, by simp only [Bool.and_eq_true]; exact h.1.1, h.2⟩
  | false => exact .inr ⟨rfl, rfl⟩
end Go.Proofs.YthnojedlndblbaaGreatDoor
namespace Go.Proofs.YthnojedlndblbaaGreatDoor
open Go Go.RowKit

def rO (day : Int) (fv lv tv : Value) : Obj := .cells #[.int .i64 day, fv, lv, tv] 67 (0, 0)
theorem rO_ty {w : World} {g : Nat} {day : Int} {fv lv tv : Value} (h : w.heap[g]? = some (rO day fv lv tv)) : Ty4 w g := ⟨_, _, _, h, by decide⟩
def RQ (n0 g : Nat) (day : Int) (fv : Value) (w : World) (lv tv : Value) (u : Value) (ls' : List (Int × Int)) (ts' : List (List UInt8 × Int)) (e : Ending) (w' : World) : Prop := ∃ lv' tv', e = .returned u ∧ w'.heap[g]? = some (rO day fv lv' tv') ∧ AcI n0 g day w lv tv lv' tv' ls' ts' w'
section
variable {P : Program} {F : Exit → Act → World → Prop} {s : St} {n0 g : Nat} {day : Int} {fv lv tv lv1 tv1 : Value} {ls1 : List (Int × Int)} {ts1 : List (List UInt8 × Int)} {w : World}
theorem rq_next {loc : Mem} (hloc : Loc w loc) {m : Mem} (hmem : m = (g, rO day fv lv1 tv1) :: loc) {w1 w2 : World} (hm : Holds m w1) (hI : AcI n0 g day w lv tv lv1 tv1 ls1 ts1 w1) {lv2 tv2 : Value} {ls2 : List (Int × Int)} {ts2 : List (List UInt8 × Int)} (hg2 : w2.heap[g]? = some (rO day fv lv2 tv2)) (hA : AcI n0 g day w1 lv1 tv1 lv2 tv2 ls2 ts2 w2) :
    Holds ((g, rO day fv lv2 tv2) :: loc) w2 ∧ Stay (Mem.ids ((g, rO day fv lv2 tv2) :: loc)) w2 (AcI n0 g day w lv tv lv2 tv2 ls2 ts2) ∧ ∀ (i : Nat) (c : Array Value) (e : TypeId) (z : Nat × Nat), w1.heap[i]? = some (.cells c e z) → ty4 e = false → w2.heap[i]? = some (.cells c e z) := by
  subst hmem
  have hall := in_holds hm
  have hT := oo_ty hI.2.1 hI.2.2.1 (rO_ty (hall _ List.mem_cons_self))
  have hoth : ∀ (i : Nat) (c : Array Value) (e : TypeId) (z : Nat × Nat), w1.heap[i]? = some (.cells c e z) → ty4 e = false → w2.heap[i]? = some (.cells c e z) := fun i c e z hi he => ch_other hA.1 hT hi he
  have hl : ∀ q ∈ loc, w2.heap[q.1]? = some q.2 := fun q hq => by
    obtain ⟨-, c, e, z, h1, h2⟩ := hloc q hq
    have := hall q (List.mem_cons_of_mem _ hq)
    rw [h1] at this ⊢
    exact hoth _ _ _ _ this h2
  refine ⟨holds_in fun q hq => ?_, (hI.trans hA).stay ⟨_, _, _, hg2, by decide, by decide⟩ fun x hx => ?_, hoth⟩
  · rcases List.mem_cons.1 hq with rfl | hq
    · exact hg2
    · exact hl q hq
  · unfold Mem.ids at hx
    rw [List.map_cons] at hx
    rcases List.mem_cons.1 hx with rfl | hx
    · exact .inl rfl
    · obtain ⟨q, hq, rfl⟩ := List.mem_map.1 hx
      obtain ⟨h0, c, e, z, h1, h2⟩ := hloc q hq
      exact .inr ⟨h0, c, e, z, by rw [hl q hq, h1], h2⟩
/-- A part of acquiring is called. -/
theorem Goes.callRQ (f : FuncId) (args : Array Value) (u : Value) (ls2 : List (Int × Int)) (ts2 : List (List UInt8 × Int)) (loc : Mem) (hloc : Loc w loc)
    (hr : ∀ w1, Holds s.mem w1 → AcI n0 g day w lv tv lv1 tv1 ls1 ts1 w1 → Calls P f args w1 (RQ n0 g day fv w1 lv1 tv1 u ls2 ts2))
    (h : ∀ lv2 tv2, Goes P F (AcI n0 g day w lv tv lv2 tv2 ls2 ts2) (put s u ((g, rO day fv lv2 tv2) :: loc)))
    (hmem : s.mem = (g, rO day fv lv1 tv1) :: loc := by kernel_rfl) (ha : ask s = some (f, args) := by kernel_rfl) (hw : wants s = true := by kernel_rfl) (hf : okf P f = true := by kernel_rfl) : Goes P F (AcI n0 g day w lv tv lv1 tv1 ls1 ts1) s :=
  Goes.call f args (fun w1 hm hn hI => (hr w1 hm hI.now).mono fun e w2 ⟨lv2, tv2, he, hg2, hA⟩ => by
    obtain ⟨h1, h2, -⟩ := rq_next hloc hmem hm hI.now hg2 hA
    exact ⟨u, _, _, he, h1, by rw [hmem] at hn; exact hn, h2, h lv2 tv2⟩) ha hw hf
/-- The same, in a drawn region that reads other blocks besides. -/
theorem Goes.callRQA (i : Nat) (f : FuncId) (args : Array Value) (u : Value) (ls2 : List (Int × Int)) (ts2 : List (List UInt8 × Int)) (loc : Mem) (hloc : Loc w loc) (m0 : Mem) (hm0 : ∀ q ∈ m0, ∃ c e z, q.2 = .cells c e z ∧ ty4 e = false)
    (hr : ∀ w1, Holds s.mem w1 → AcI n0 g day w lv tv lv1 tv1 ls1 ts1 w1 → Calls P f args w1 (RQ n0 g day fv w1 lv1 tv1 u ls2 ts2))
    (h : ∀ lv2 tv2, Goes P F (AcI n0 g day w lv tv lv2 tv2 ls2 ts2) (putA i s u ((g, rO day fv lv2 tv2) :: loc)))
    (hM : anyM s = m0 := by kernel_rfl) (hmem : s.mem = (g, rO day fv lv1 tv1) :: loc := by kernel_rfl) (ha : askA i s = some (f, args) := by kernel_rfl) (hw : anyLone i s = true := by kernel_rfl) (hf : okf P f = true := by kernel_rfl) : Goes P F (AcI n0 g day w lv tv lv1 tv1 ls1 ts1) s :=
  Goes.callA i f args (fun ops m1 n l k ht w1 hm hn hI h0 => (hr w1 hm hI.now).mono fun e w2 ⟨lv2, tv2, he, hg2, hA⟩ => by
    obtain ⟨h1, h2, h3⟩ := rq_next hloc hmem hm hI.now hg2 hA
    refine ⟨u, _, _, he, holds_in fun q hq => ?_, h1, by rw [hmem] at hn; exact hn, h2, h lv2 tv2⟩
    have hq' : q ∈ m0 := by rw [← hM]; unfold anyM; rw [ht]; exact hq
    obtain ⟨c, e, z, e1, e2⟩ := hm0 q hq'
    have := in_holds h0 q hq
    rw [e1] at this ⊢
    exact h3 _ _ _ _ this e2) ha hw hf
end
section
variable {P : Program} {F : Exit → Act → World → Prop} {Inv : World → Prop} {s : St}
theorem TookS.runM (i j : Nat) (js : List Nat) (h : Goes P F Inv (oneSt P i j s)) (hS : anyM s = sub js (oneSt P i j s).mem := by kernel_rfl) (hw : anyWant i s = true := by kernel_rfl) (hN : ((oneA P i j s).map fun q => q.2.map (·.1)) = (oneA P i j s).map fun q => q.2.map (·.2) := by kernel_rfl) (hk : (oneA P i j s).isSome = true := by kernel_rfl) : TookS P F Inv i s := by
  intro ops m0 n l k ht w h1 h2 h3 _
  unfold oneSt at h hS
  cases hq : Go.Proofs.YthnojedlndblbaaGreatDoor.oneA P i j s with
  | none => rw [hq] at hk; cases hk
  | some q =>
    rw [hq] at h hN hS
    simp only [Option.map_some, Option.some.injEq] at h hN hS
    obtain ⟨st, on⟩ := q
    unfold Go.Proofs.YthnojedlndblbaaGreatDoor.oneA at hq
    unfold anyWant at hw
    unfold anyM at hS
    rw [ht] at hw hS
    simp only at hw hS
    cases ho : ops[i]? with
    | none => rw [ho] at hw; simp at hw
    | some o =>
      have hoo : anyOp i s = some o := by unfold anyOp; rw [ht]; exact ho
      rw [ho] at hw
      simp only at hw
      rw [hoo] at hq
      simp only at hq
      unfold wpOp
      rw [ho]
      simp only [hw, if_true]
      unfold Oper.wp
      rw [evalL_eq]
      split at hq
      · rename_i v m on' d hs
        cases hq
        obtain ⟨w', D⟩ := srun_did P _ _ _ _ _ _ _ w hs (all_of_map hN) h1 h2 (by simp)
        have h9 := h w'
        unfold putA at h9 hS
        rw [ht] at h9 hS
        simp only [ho] at h9 hS
        rw [D.run, Oper.upon_value, putL_eq]
        have hm' : Holds m0 w' := by rw [hS]; exact sub_holds D.holds
        exact .inl ⟨hm', h9 D.holds D.nd (h3.ch D.ch D.new) hm'⟩
      · rename_i m on' d hs
        cases hq
        obtain ⟨w', D⟩ := srun_did P _ _ _ _ _ _ _ w hs (all_of_map hN) h1 h2 (by simp)
        have h9 := h w'
        unfold putA at h9 hS
        rw [ht] at h9 hS
        simp only [ho] at h9 hS
        rw [D.run, Oper.upon_skip, putL_eq]
        have hm' : Holds m0 w' := by rw [hS]; exact sub_holds D.holds
        exact .inl ⟨hm', h9 D.holds D.nd (h3.ch D.ch D.new) hm'⟩
      · cases hq
theorem TookS.effM (i : Nat) (I : Sem Value) (hr : ∀ w, Holds s.mem w → s.mem.ids.Nodup → Stay s.mem.ids w Inv → Holds (anyM s) w → ∃ v w' Inv' m, I.run P w = .ok v w' ∧ Holds (anyM s) w' ∧ Holds m w' ∧ m.ids.Nodup ∧ Stay m.ids w' Inv' ∧ Goes P F Inv' (putA i s v m)) (hw : anyWant i s = true := by kernel_rfl) (ho' : (anyOp i s).map (execOp (evalL s.tmps)) = some (vS I) := by kernel_rfl) : TookS P F Inv i s := by
  intro ops m0 n l k ht w h1 h2 h3 h0
  unfold anyWant at hw
  unfold anyM at hr
  unfold anyOp at ho'
  rw [ht] at hw hr ho'
  simp only at hw hr ho'
  cases ho : ops[i]? with
  | none => rw [ho] at hw; simp at hw
  | some o =>
    rw [ho] at hw ho'
    simp only [Option.map_some, Option.some.injEq] at hw ho'
    obtain ⟨v, w', Inv', m, he, h10, h4, h5, h6, h7⟩ := hr w h1 h2 h3 h0
    have h9 := h7 w'
    unfold putA at h9
    rw [ht] at h9
    simp only [ho] at h9
    unfold wpOp
    rw [ho]
    simp only [hw, if_true]
    unfold Oper.wp
    rw [evalL_eq, ho', vS_run he, Oper.upon_value, putL_eq]
    exact .inl ⟨h10, h9 h4 h5 h6 h10⟩
end
set_option maxRecDepth 100000 in
seal rn rnN rnS Goes ans atEnd put0 put putM opened openedY putA0 putA oneSt st0 keep mkSt newSt in
theorem waits_any {n0 g : Nat} {day : Int} {fv lv tv : Value} {ls : List (Int × Int)} {ts : List (List UInt8 × Int)} {w : World} (hl : Lvs n0 w lv ls) (ht : Trs n0 day w tv ts) (hg : w.heap[g]? = some (rO day fv lv tv)) (hn : n0 ≤ w.heap.size) (p f : Int) (hlen : ls.length + 1 ≤ 100000000) : Calls Tryz.prog 62 #[.pointer (some ⟨g, 0, none⟩), .int .i64 p, .int .i64 f] w (RQ n0 g day fv w lv tv (.tuple #[]) (ls ++ [(p, f)]) ts) := by
  refine Goes.enter Tryz.func62 [(g, rO day fv lv tv)] (AcI n0 g day w lv tv lv tv ls ts) (holds1 hg) (by simp [Mem.ids]) ((AcI.refl hl ht).stay ⟨_, _, _, hg, by decide, by decide⟩ (fun x hx => .inl (by simpa [Mem.ids] using hx))) ?_
  refine Goes.run1 [0] [] trivial fun gb => ?_
  refine Goes.eff (Builtin.append_ #[31, 31] 31 #[lv, .slice (some ⟨gb, 0, none⟩) 1 1]) fun w1 hm1 hn1 hI1 => ?_
  have z1 : w1.heap[gb]? = some (.cells #[.int .i64 p, .int .i64 f] 70 (0, 0)) := hm1.get 1
  obtain ⟨b, c', w2, hr, hI2, hk2⟩ := hI1.now.live (Nat.le_trans hn hI1.now.1.size) (p, f) z1 hlen (ty := 31) (c := 1)
  have z2 : w2.heap[g]? = some (rO day fv lv tv) := hk2 g _ _ _ (hm1.get 0) (by decide)
  refine ⟨_, w2, _, [(g, rO day fv lv tv)], hr, holds1 z2, by simp [Mem.ids], hI2.stay ⟨_, _, _, z2, by decide, by decide⟩ (fun x hx => .inl (by simpa [Mem.ids] using hx)), ?_⟩
  refine Goes.run [0] [] trivial ?_
  exact Goes.ret [] (.tuple #[]) fun w' hm hI => ⟨_, tv, rfl, hm.get 0, hI.now⟩
/-- Acquiring a term, by the document. -/
def ROk (n0 g : Nat) (fs : Fs) (day : Int) (fv : Value) (t : Co) : Prop := ∀ (d p f : Int) (v lv tv : Value) (ls : List (Int × Int)) (ts : List (List UInt8 × Int)) (w : World), typF d t = (4, true) → 0 ≤ p → p + szC t ≤ 100000 → szC t ≤ 2000 → Nc n0 w v t → Fds n0 w fv fs → n0 ≤ w.heap.size → Lvs n0 w lv ls → Trs n0 day w tv ts → w.heap[g]? = some (rO day fv lv tv) → ((ls.length + ts.length : Nat) : Int) + szC t ≤ 10000000 → Calls Tryz.prog 31 #[.pointer (some ⟨g, 0, none⟩), v, .int .i64 p, .int .i64 f] w (RQ n0 g day fv w lv tv (.tuple #[]) (ls ++ (acq fs day t p f).1) (ts ++ (acq fs day t p f).2))
set_option maxRecDepth 100000 in
seal rn rnN rnS Goes ans atEnd put0 put putM opened openedY putA0 putA oneSt st0 keep mkSt newSt in
theorem rbranch_any {n0 g : Nat} {fs : Fs} {day : Int} {fv : Value} (hg0 : n0 ≤ g) {d op k : Int} {s : List UInt8} {kids : List Co} {i : Nat} {u : Co} (hu : kids[i]? = some u) (hty : typF d u = (4, true)) (ih : ROk n0 g fs day fv u) {v lv tv : Value} {ls : List (Int × Int)} {ts : List (List UInt8 × Int)} {w : World} (hN : Nc n0 w v (.mk op k s kids)) (hF : Fds n0 w fv fs) (hn : n0 ≤ w.heap.size) (hl : Lvs n0 w lv ls) (ht : Trs n0 day w tv ts) (hg : w.heap[g]? = some (rO day fv lv tv)) {p : Int} (hp0 : 0 ≤ p) (hp1 : p + szC (.mk op k s kids) ≤ 100000) (hsz : szC (.mk op k s kids) ≤ 2000) (f : Int) (hlen : ((ls.length + ts.length : Nat) : Int) + szC u ≤ 10000000) : Calls Tryz.prog 37 #[.pointer (some ⟨g, 0, none⟩), v, .int .i64 p, .int .i64 (i : Int), .int .i64 f] w (RQ n0 g day fv w lv tv (.tuple #[]) (ls ++ (brA (acqL fs day kids (p + 1)) i f).1) (ts ++ (brA (acqL fs day kids (p + 1)) i f).2)) := by
  rw [acq_get fs day (p + 1) f hu]
  obtain ⟨a, cc, rfl, hfit, hcap, hkids⟩ := hN.open
  obtain ⟨N, hL⟩ : ∃ N, kids.length = N := ⟨_, rfl⟩
  rw [hL] at hcap ⊢
  have hiN : i < N := by rw [← hL]; exact (List.getElem?_eq_some_iff.1 hu).1
  have hcut := szL_cut hu
  rw [szC] at hp1 hsz
  have hbel : ∀ {w' : World} {lv1 tv1 : Value} {ls1 : List (Int × Int)} {ts1 : List (List UInt8 × Int)}, AcI n0 g day w lv tv lv1 tv1 ls1 ts1 w' → Below n0 w w' := fun h => hexA hl ht hg0 hn h
  refine Goes.enter Tryz.func37 [(g, rO day fv lv tv)] (AcI n0 g day w lv tv lv tv ls ts) (holds1 hg) (by simp [Mem.ids]) ((AcI.refl hl ht).stay ⟨_, _, _, hg, by decide, by decide⟩ (fun x hx => .inl (by simpa [Mem.ids] using hx))) ?_
  refine Goes.run [] [] trivial ?_
  refine Goes.new1 w.heap.size (fun w' h => h.1.size) fun g6 hg6 => ?_
  have hloc : Loc w [(g6, cO op k s (.slice a N cc))] := fun q hq => by rw [List.mem_singleton] at hq; subst hq; exact ⟨hg6, _, _, _, rfl, by decide⟩
  refine Goes.upto 11 [] [] trivial ?_
  have hposK := szL_pos kids
  refine Goes.slot 10 (.int .i64 (p + 1)) (u := .int .i64 (IntKind.i64.wrap (p + 1))) (congrArg _ (IntWalk.i64_in _ ⟨by omega, by omega⟩)) ?_
  refine Goes.run [] [] trivial ?_
  refine Goes.loop0 (α := Nat) 36 (fun m => [(0, .pointer (some ⟨g, 0, none⟩)), (3, .int .i64 (i : Int)), (4, .int .i64 f), (6, .pointer (some ⟨g6, 0, none⟩)), (10, .int .i64 (p + 1 + szL (kids.take m))), (11, .int .i64 (m : Int))]) [(g, rO day fv lv tv), (g6, cO op k s (.slice a N cc))] (fun m => m ≤ i) (fun m => i - m) 0 (Nat.zero_le _) ?_ (by rw [List.take_zero, szL, Int.add_zero]; kernel_rfl)
  rintro m J hm back
  have kidOf : ∀ (m : Nat) (y : Co), kids[m]? = some y → ∃ b o z, a = some ⟨b, o, none⟩ ∧ b < n0 ∧ Cl4 w b (o + m * 4) z ∧ Nc n0 w z y := fun m y hy => hkids m y hy
  cases hlt : decide ((m : Int) < (i : Int)) with
  | false =>
    obtain rfl : m = i := by have := of_decide_eq_false hlt; omega
    obtain ⟨b, o, y, rfl, hb, hcl, hy⟩ := kidOf m u hu
    obtain ⟨op', k', t', a', N', c', rfl⟩ := hy.cells
    refine Goes.run [0, 0, 1] [(decide ((m : Int) < (m : Int)), false)] ⟨hlt, trivial⟩ ?_
    refine Goes.val (Instr.indexAt 22 (.slice (some ⟨b, o, none⟩) N cc) (.int .i64 m)) (.pointer (some ⟨b, o + m * 4, none⟩)) (fun w' _ _ => idxC b o N cc m hiN w') ?_
    refine Goes.val (Instr.loadAt 24 (.pointer (some ⟨b, o + m * 4, none⟩))) (cv op' k' t' (.slice a' N' c')) (fun w' _ hI => loadC (hcl.below hb (hbel hI.now))) ?_
    refine Goes.run [] [] trivial ?_
    refine Goes.callRQ 31 #[.pointer (some ⟨g, 0, none⟩), cv op' k' t' (.slice a' N' c'), .int .i64 (p + 1 + szL (kids.take m)), .int .i64 f] (.tuple #[]) _ _ [(g6, cO op k s (.slice (some ⟨b, o, none⟩) N cc))] hloc (fun w1 hm1 hI1 => ih d _ f _ lv tv ls ts w1 hty (by omega) (by omega) (by omega) (hy.later (hbel hI1)) (hF.later (hbel hI1)) (Nat.le_trans hn hI1.1.size) hI1.2.1 hI1.2.2.1 (hm1.get 0) hlen) fun lv2 tv2 => ?_
    refine Goes.run [] [] trivial ?_
    exact Goes.ret [] (.tuple #[]) fun w' hm hI => ⟨lv2, tv2, rfl, hm.get 0, hI.now⟩
  | true =>
    have hmi : m < i := by have := of_decide_eq_true hlt; omega
    obtain ⟨x, hx⟩ : ∃ x, kids[m]? = some x := ⟨kids[m]'(by omega), by simp⟩
    obtain ⟨b, o, y, rfl, hb, hcl, hy⟩ := kidOf m x hx
    obtain ⟨op', k', t', a', N', c', rfl⟩ := hy.cells
    have hcx := szL_cut hx
    have htk := take_more hx
    have hpx := szC_pos x
    refine Goes.run [0, 1, 1] [(decide ((m : Int) < (i : Int)), true)] ⟨hlt, trivial⟩ ?_
    refine Goes.val (Instr.indexAt 22 (.slice (some ⟨b, o, none⟩) N cc) (.int .i64 m)) (.pointer (some ⟨b, o + m * 4, none⟩)) (fun w' _ _ => idxC b o N cc m (by omega) w') ?_
    refine Goes.val (Instr.loadAt 24 (.pointer (some ⟨b, o + m * 4, none⟩))) (cv op' k' t' (.slice a' N' c')) (fun w' _ hI => loadC (hcl.below hb (hbel hI.now))) ?_
    refine Goes.call0 66 #[cv op' k' t' (.slice a' N' c')] (.int .i64 (szC x)) (fun w' _ hI => rsizeC_any x _ w' (by omega) ((hy.later (hbel hI.now)).more (Nat.le_trans hn hI.now.1.size))) ?_
    refine Goes.run [] [] trivial ?_
    refine Goes.slot 10 (.int .i64 (p + 1 + szL (kids.take (m + 1)))) (u := .int .i64 (IntKind.i64.wrap (p + 1 + szL (kids.take m) + szC x))) (congrArg _ (by rw [IntWalk.i64_in _ ⟨by omega, by omega⟩, htk, szL_snoc]; omega)) ?_
    refine Goes.slot 11 (.int .i64 (m + 1 : Nat)) (u := .int .i64 (IntKind.i64.wrap ((m : Int) + 1))) (congrArg _ (wrap_nat (by omega))) ?_
    exact back (m + 1) _ hmi (by omega) (by kernel_rfl) (by kernel_rfl) (by kernel_rfl)
end Go.Proofs.YthnojedlndblbaaGreatDoor
namespace Go.Proofs.YthnojedlndblbaaGreatDoor
open Go Go.RowKit

theorem nd_pre {m m' : Mem} {r : List Nat} (h : m.ids.Nodup) (e : m.ids = m'.ids ++ r) : m'.ids.Nodup := by rw [e] at h; exact (List.nodup_append.1 h).1
theorem st2 {w w' : World} {g g5 : Nat} {o o' : Obj} (h : w.heap.size ≤ g5) (h' : ∃ c e z, w'.heap[g5]? = some (.cells c e z) ∧ ty4 e = false) : ∀ x ∈ Mem.ids [(g, o), (g5, o')], x = g ∨ (w.heap.size ≤ x ∧ ∃ c e z, w'.heap[x]? = some (.cells c e z) ∧ ty4 e = false) := by
  intro x hx
  simp only [Mem.ids, List.map_cons, List.map_nil, List.mem_cons, List.not_mem_nil, or_false] at hx
  rcases hx with rfl | rfl
  · exact .inl rfl
  · exact .inr ⟨h, h'⟩
set_option maxRecDepth 100000 in
seal rn rnN rnS Goes ans atEnd put0 put putM opened openedY putA0 putA oneSt st0 keep mkSt newSt in
theorem racquire_any {n0 g : Nat} {fs : Fs} {day : Int} {fv : Value} (hR : RFd fs) (hg0 : n0 ≤ g) (t : Co) : ROk n0 g fs day fv t := by
  induction t using Co.ind with
  | h op k s kids ihs =>
    intro d p f v lv tv ls ts w htyp hp0 hp1 hsz hN hF hn hl ht hg hlen
    have hN0 := hN
    obtain ⟨a, cc, rfl, hfit, hcap, hkids⟩ := hN.open
    obtain ⟨N, hL⟩ : ∃ N, kids.length = N := ⟨_, rfl⟩
    rw [hL] at hN0 ⊢
    have hbel : ∀ {w' : World} {lv1 tv1 : Value} {ls1 : List (Int × Int)} {ts1 : List (List UInt8 × Int)}, AcI n0 g day w lv tv lv1 tv1 ls1 ts1 w' → Below n0 w w' := fun h => hexA hl ht hg0 hn h
    have hpos := szC_pos (.mk op k s kids)
    refine Goes.enter Tryz.func31 [(g, rO day fv lv tv)] (AcI n0 g day w lv tv lv tv ls ts) (holds1 hg) (by simp [Mem.ids]) ((AcI.refl hl ht).stay ⟨_, _, _, hg, by decide, by decide⟩ (fun x hx => .inl (by simpa [Mem.ids] using hx))) ?_
    refine Goes.run [] [] trivial ?_
    refine Goes.new1 w.heap.size (fun w' h => h.1.size) fun g5 hg5 => ?_
    have hloc : Loc w [(g5, cO op k s (.slice a N cc))] := fun q hq => by rw [List.mem_singleton] at hq; subst hq; exact ⟨hg5, _, _, _, rfl, by decide⟩
    rcases con_cases htyp with ⟨rfl, rfl⟩ | ⟨rfl, rfl⟩ | ⟨rfl, c0, rfl, ht0⟩ | ⟨rfl, c0, c1, rfl, ht0, ht1⟩ | ⟨rfl, c0, c1, rfl, ht0, ht1⟩ | ⟨rfl, c0, c1, c2, rfl, ht0, ht1, ht2⟩ | ⟨rfl, c0, rfl, ht0⟩ | ⟨rfl, c0, c1, rfl, ht0, ht1⟩ | ⟨rfl, c0, c1, rfl, ht0, ht1⟩
    · -- 23
      have hacq : acq fs day (.mk 23 k s []) p f = r0 := by rw [acq]; rfl
      refine Goes.run [1, 0, 0, 0, 0, 0, 0, 0, 0] [(false, false), (false, false), (false, false), (false, false), (false, false), (false, false), (false, false), (false, false)] ⟨rfl, rfl, rfl, rfl, rfl, rfl, rfl, rfl, trivial⟩ ?_
      exact Goes.ret [] (.tuple #[]) fun w' hm hI => ⟨lv, tv, rfl, hm.get 0, by rw [hacq]; simpa [r0] using hI.now⟩
    · -- 24
      obtain rfl : N = 0 := hL.symm
      have hacq : acq fs day (.mk 24 k s []) p f = bif f == 0 then r0 else ([], [(s, f)]) := by rw [acq]; rfl
      cases h0 : (f == 0) with
      | true =>
        rw [h0, cond_true] at hacq
        refine Goes.run [1, 1, 0] [(f != 0, false), (true, true)] ⟨by rw [bne, h0]; rfl, rfl, trivial⟩ ?_
        exact Goes.ret [] (.tuple #[]) fun w' hm hI => ⟨lv, tv, rfl, hm.get 0, by rw [hacq]; simpa [r0] using hI.now⟩
      | false =>
        rw [h0, cond_false] at hacq
        refine Goes.run [1, 1, 1] [(f != 0, true), (true, true)] ⟨by rw [bne, h0]; rfl, rfl, trivial⟩ ?_
        refine Goes.open [1] ?_
        refine Goes.run [0, 1, 2, 3, 5, 6, 7, 9, 10, 0, 11] [] trivial ?_
        refine Goes.two 4 8 (TookS.runM 4 0 [1] ?_) (TookS.runM 8 0 [1] ?_)
        · refine Goes.lone1 8 (TookS.runM 8 0 [1] ?_)
          refine Goes.run [12] [] trivial ?_
          refine Goes.lone1 13 (TookS.new1 13 0 [1] (fun _ _ => Nat.zero_le _) fun gb _ => ?_)
          refine Goes.lone1 14 (TookS.effM 14 (Builtin.append_ #[32, 32] 32 #[tv, .slice (some ⟨gb, 0, none⟩) 1 1]) fun w1 hm1 hn1 hI1 h01 => ?_)
          have z1 : w1.heap[gb]? = some (.cells #[.int .i64 day, strV s, .int .i64 f] 50 (0, 0)) := hm1.get 2
          obtain ⟨b, c', w2, hr, hI2, hk⟩ := hI1.now.pay (Nat.le_trans hn hI1.now.1.size) (s, f) z1 (by omega) (ty := 32) (c := 1)
          have z2 : w2.heap[g]? = some (rO day fv lv tv) := hk g _ _ _ (hm1.get 0) (by decide)
          have z3 : w2.heap[g5]? = some (cO 24 k s (.slice a 0 cc)) := hk g5 _ _ _ (hm1.get 1) (by decide)
          refine ⟨_, w2, _, [(g, rO day fv lv tv), (g5, cO 24 k s (.slice a 0 cc))], hr, holds_of (by kernel_rfl) (holds1 z3), (fun j b o h => by match j, h with | 0, h => (cases h; exact z2) | 1, h => (cases h; exact z3)), nd_pre (r := [gb]) hn1 (by kernel_rfl), hI2.stay ⟨_, _, _, z2, by decide, by decide⟩ (st2 hg5 ⟨_, _, _, z3, by decide⟩), ?_⟩
          refine Goes.run [15, 16] [] trivial ?_
          refine Goes.lone1 17 (TookS.runM 17 0 [1] ?_)
          refine Goes.run [] [] trivial ?_
          exact Goes.ret [] (.tuple #[]) fun w' hm hI => ⟨lv, _, rfl, hm.get 0, by rw [hacq]; simpa using hI.now⟩
        · refine Goes.run [12] [] trivial ?_
          refine Goes.two 4 13 (TookS.runM 4 0 [1] ?_) (TookS.new1 13 0 [1] (fun _ _ => Nat.zero_le _) fun gb _ => ?_)
          · refine Goes.lone1 13 (TookS.new1 13 0 [1] (fun _ _ => Nat.zero_le _) fun gb _ => ?_)
            refine Goes.lone1 14 (TookS.effM 14 (Builtin.append_ #[32, 32] 32 #[tv, .slice (some ⟨gb, 0, none⟩) 1 1]) fun w1 hm1 hn1 hI1 h01 => ?_)
            have z1 : w1.heap[gb]? = some (.cells #[.int .i64 day, strV s, .int .i64 f] 50 (0, 0)) := hm1.get 2
            obtain ⟨b, c', w2, hr, hI2, hk⟩ := hI1.now.pay (Nat.le_trans hn hI1.now.1.size) (s, f) z1 (by omega) (ty := 32) (c := 1)
            have z2 : w2.heap[g]? = some (rO day fv lv tv) := hk g _ _ _ (hm1.get 0) (by decide)
            have z3 : w2.heap[g5]? = some (cO 24 k s (.slice a 0 cc)) := hk g5 _ _ _ (hm1.get 1) (by decide)
            refine ⟨_, w2, _, [(g, rO day fv lv tv), (g5, cO 24 k s (.slice a 0 cc))], hr, holds_of (by kernel_rfl) (holds1 z3), (fun j b o h => by match j, h with | 0, h => (cases h; exact z2) | 1, h => (cases h; exact z3)), nd_pre (r := [gb]) hn1 (by kernel_rfl), hI2.stay ⟨_, _, _, z2, by decide, by decide⟩ (st2 hg5 ⟨_, _, _, z3, by decide⟩), ?_⟩
            refine Goes.run [15, 16] [] trivial ?_
            refine Goes.lone1 17 (TookS.runM 17 0 [1] ?_)
            refine Goes.run [] [] trivial ?_
            exact Goes.ret [] (.tuple #[]) fun w' hm hI => ⟨lv, _, rfl, hm.get 0, by rw [hacq]; simpa using hI.now⟩
          · refine Goes.lone1 4 (TookS.runM 4 0 [1] ?_)
            refine Goes.lone1 14 (TookS.effM 14 (Builtin.append_ #[32, 32] 32 #[tv, .slice (some ⟨gb, 0, none⟩) 1 1]) fun w1 hm1 hn1 hI1 h01 => ?_)
            have z1 : w1.heap[gb]? = some (.cells #[.int .i64 day, strV s, .int .i64 f] 50 (0, 0)) := hm1.get 2
            obtain ⟨b, c', w2, hr, hI2, hk⟩ := hI1.now.pay (Nat.le_trans hn hI1.now.1.size) (s, f) z1 (by omega) (ty := 32) (c := 1)
            have z2 : w2.heap[g]? = some (rO day fv lv tv) := hk g _ _ _ (hm1.get 0) (by decide)
            have z3 : w2.heap[g5]? = some (cO 24 k s (.slice a 0 cc)) := hk g5 _ _ _ (hm1.get 1) (by decide)
            refine ⟨_, w2, _, [(g, rO day fv lv tv), (g5, cO 24 k s (.slice a 0 cc))], hr, holds_of (by kernel_rfl) (holds1 z3), (fun j b o h => by match j, h with | 0, h => (cases h; exact z2) | 1, h => (cases h; exact z3)), nd_pre (r := [gb]) hn1 (by kernel_rfl), hI2.stay ⟨_, _, _, z2, by decide, by decide⟩ (st2 hg5 ⟨_, _, _, z3, by decide⟩), ?_⟩
            refine Goes.run [15, 16] [] trivial ?_
            refine Goes.lone1 17 (TookS.runM 17 0 [1] ?_)
            refine Goes.run [] [] trivial ?_
            exact Goes.ret [] (.tuple #[]) fun w' hm hI => ⟨lv, _, rfl, hm.get 0, by rw [hacq]; simpa using hI.now⟩
    · -- 25
      obtain rfl : N = 1 := hL.symm
      have hacq : acq fs day (.mk 25 k s [c0]) p f = brA (acqL fs day [c0] (p + 1)) 0 (- clampI f) := by rw [acq]; rfl
      refine Goes.run [1, 0, 1] [(true, true), (false, false)] ⟨rfl, rfl, trivial⟩ ?_
      refine Goes.open [1] ?_
      refine Goes.run [0, 1, 0, 2, 3] [] trivial ?_
      refine Goes.callA0 4 50 #[.int .i64 f] (.int .i64 (- clampI f)) (fun w' _ _ => (rneg_any f w').mono fun _ _ h => ⟨h.1, by rw [h.2]; exact Below.refl _ _⟩) ?_
      refine Goes.callRQA 5 37 #[.pointer (some ⟨g, 0, none⟩), cv 25 k s (.slice a 1 cc), .int .i64 p, .int .i64 (0 : Nat), .int .i64 (- clampI f)] (.tuple #[]) (ls ++ (brA (acqL fs day [c0] (p + 1)) 0 (- clampI f)).1) (ts ++ (brA (acqL fs day [c0] (p + 1)) 0 (- clampI f)).2) [(g5, cO 25 k s (.slice a 1 cc))] hloc [(g5, cO 25 k s (.slice a 1 cc))] (fun q hq => by rw [List.mem_singleton] at hq; subst hq; exact ⟨_, _, _, rfl, by decide⟩) (fun w1 hm1 hI1 => rbranch_any hg0 (i := 0) (u := c0) rfl ht0 (ihs c0 (by simp)) (hN0.later (hbel hI1)) (hF.later (hbel hI1)) (Nat.le_trans hn hI1.1.size) hI1.2.1 hI1.2.2.1 (hm1.get 0) hp0 hp1 hsz (- clampI f) (by simp only [szC, szL] at hlen; have := szC_pos c0; omega)) fun lv2 tv2 => ?_
      refine Goes.run [] [] trivial ?_
      exact Goes.ret [] (.tuple #[]) fun w' hm hI => ⟨lv2, tv2, rfl, hm.get 0, by rw [hacq]; exact hI.now⟩
    · -- 26
      obtain rfl : N = 2 := hL.symm
      obtain ⟨bk, ok, y0, rfl, hbk, hcl0, hy0⟩ := hkids 0 c0 rfl
      obtain ⟨p0, k0, t0, a0, N0, c0', rfl⟩ := hy0.cells
      obtain ⟨ob, hob⟩ := blk_of (w := w) (b := bk) (Nat.lt_of_lt_of_le hbk hn)
      have hacq : acq fs day (.mk 26 k s [c0, c1]) p f = match valP fs day c0 with | some n => brA (acqL fs day [c0, c1] (p + 1)) 1 (mulI f n) | none => wt p f := by rw [acq, valL]; rfl
      refine Goes.run [1, 0, 0, 0, 1] [(true, true), (false, false), (false, false), (false, false)] ⟨rfl, rfl, rfl, rfl, trivial⟩ ?_
      refine Goes.openY [0, 1] [(bk, ob)] (fun w' hI => holds1 (((hbel hI).block bk hbk).trans hob)) ?_
      refine Goes.run [0, 1, 1, 2, 0, 4, 5, 6, 7, 0, 8, 9, 10, 11, 0] [] trivial ?_
      refine Goes.valA 3 (Instr.loadAt 24 (.pointer (some ⟨bk, ok + 0 * 4, none⟩))) (cv p0 k0 t0 (.slice a0 N0 c0')) (fun w' hm => loadC (hcl0.same ((hm.get 2).trans hob.symm))) ?_
      refine Goes.callA0 12 26 #[cv p0 k0 t0 (.slice a0 N0 c0'), .int .i64 day, fv] (oV (valP fs day c0)) (fun w' _ hI => val_any day c0 _ w' (ob_right c0 _ _ ht0 (by decide)) ((hy0.later (hbel hI.now)).more (Nat.le_trans hn hI.now.1.size)) ((hF.later (hbel hI.now)).more (Nat.le_trans hn hI.now.1.size))) ?_
      cases hv : valP fs day c0 with
      | none =>
        rw [hv] at hacq
        refine Goes.run [13, 14, 15, 16, 17, 0] [(false, false)] ⟨rfl, trivial⟩ ?_
        refine Goes.callRQ 62 #[.pointer (some ⟨g, 0, none⟩), .int .i64 p, .int .i64 f] (.tuple #[]) (ls ++ [(p, f)]) ts [(g5, cO 26 k s (.slice (some ⟨bk, ok, none⟩) 2 cc))] hloc (fun w1 hm1 hI1 => waits_any (fv := fv) hI1.2.1 hI1.2.2.1 (hm1.get 0) (Nat.le_trans hn hI1.1.size) p f (by omega)) fun lv2 tv2 => ?_
        refine Goes.run [] [] trivial ?_
        exact Goes.ret [] (.tuple #[]) fun w' hm hI => ⟨lv2, tv2, rfl, hm.get 0, by rw [hacq]; have := hI.now; simpa [wt] using this⟩
      | some n =>
        rw [hv] at hacq
        refine Goes.run [13, 14, 15, 16, 17, 1] [(true, true)] ⟨rfl, trivial⟩ ?_
        refine Goes.open [1] ?_
        refine Goes.run [0, 1, 0, 2, 3, 4] [] trivial ?_
        refine Goes.callA0 5 61 #[.int .i64 f, .int .i64 n] (.int .i64 (mulI f n)) (fun w' _ _ => (rmul_any f n w').mono fun _ _ h => ⟨h.1, by rw [h.2]; exact Below.refl _ _⟩) ?_
        refine Goes.callRQA 6 37 #[.pointer (some ⟨g, 0, none⟩), cv 26 k s (.slice (some ⟨bk, ok, none⟩) 2 cc), .int .i64 p, .int .i64 (1 : Nat), .int .i64 (mulI f n)] (.tuple #[]) (ls ++ (brA (acqL fs day [c0, c1] (p + 1)) 1 (mulI f n)).1) (ts ++ (brA (acqL fs day [c0, c1] (p + 1)) 1 (mulI f n)).2) [(g5, cO 26 k s (.slice (some ⟨bk, ok, none⟩) 2 cc))] hloc [(g5, cO 26 k s (.slice (some ⟨bk, ok, none⟩) 2 cc))] (fun q hq => by rw [List.mem_singleton] at hq; subst hq; exact ⟨_, _, _, rfl, by decide⟩) (fun w1 hm1 hI1 => rbranch_any hg0 (i := 1) (u := c1) rfl ht1 (ihs c1 (by simp)) (hN0.later (hbel hI1)) (hF.later (hbel hI1)) (Nat.le_trans hn hI1.1.size) hI1.2.1 hI1.2.2.1 (hm1.get 0) hp0 hp1 hsz (mulI f n) (by simp only [szC, szL] at hlen; have := szC_pos c0; have := szC_pos c1; omega)) fun lv2 tv2 => ?_
        refine Goes.run [] [] trivial ?_
        exact Goes.ret [] (.tuple #[]) fun w' hm hI => ⟨lv2, tv2, rfl, hm.get 0, by rw [hacq]; exact hI.now⟩
    · -- 27
      obtain rfl : N = 2 := hL.symm
      have hacq : acq fs day (.mk 27 k s [c0, c1]) p f = R2.cat (brA (acqL fs day [c0, c1] (p + 1)) 0 f) (brA (acqL fs day [c0, c1] (p + 1)) 1 f) := by rw [acq]; rfl
      have hlen0 := acq_len fs day c0 (p + 1 + szL ([c0, c1].take 0)) f
      rw [← acq_get fs day (p + 1) f (l := [c0, c1]) (i := 0) (c := c0) rfl] at hlen0
      refine Goes.run [1, 0, 0, 1, 1] [(true, true), (false, false), (false, false)] ⟨rfl, rfl, rfl, trivial⟩ ?_
      refine Goes.callRQ 37 #[.pointer (some ⟨g, 0, none⟩), cv 27 k s (.slice a 2 cc), .int .i64 p, .int .i64 (0 : Nat), .int .i64 (f)] (.tuple #[]) (ls ++ (brA (acqL fs day [c0, c1] (p + 1)) 0 (f)).1) (ts ++ (brA (acqL fs day [c0, c1] (p + 1)) 0 (f)).2) [(g5, cO 27 k s (.slice a 2 cc))] hloc (fun w1 hm1 hI1 => rbranch_any hg0 (i := 0) (u := c0) rfl ht0 (ihs c0 (by simp)) (hN0.later (hbel hI1)) (hF.later (hbel hI1)) (Nat.le_trans hn hI1.1.size) hI1.2.1 hI1.2.2.1 (hm1.get 0) hp0 hp1 hsz (f) (by simp only [szC, szL] at hlen; have := szC_pos c0; have := szC_pos c1; omega)) fun lv2 tv2 => ?_
      refine Goes.run [1] [] trivial ?_
      refine Goes.callRQ 37 #[.pointer (some ⟨g, 0, none⟩), cv 27 k s (.slice a 2 cc), .int .i64 p, .int .i64 (1 : Nat), .int .i64 (f)] (.tuple #[]) ((ls ++ (brA (acqL fs day [c0, c1] (p + 1)) 0 f).1) ++ (brA (acqL fs day [c0, c1] (p + 1)) 1 (f)).1) ((ts ++ (brA (acqL fs day [c0, c1] (p + 1)) 0 f).2) ++ (brA (acqL fs day [c0, c1] (p + 1)) 1 (f)).2) [(g5, cO 27 k s (.slice a 2 cc))] hloc (fun w1 hm1 hI1 => rbranch_any hg0 (i := 1) (u := c1) rfl ht1 (ihs c1 (by simp)) (hN0.later (hbel hI1)) (hF.later (hbel hI1)) (Nat.le_trans hn hI1.1.size) hI1.2.1 hI1.2.2.1 (hm1.get 0) hp0 hp1 hsz (f) (by simp only [szC, szL] at hlen; rw [List.length_append, List.length_append]; omega)) fun lv3 tv3 => ?_
      refine Goes.run [] [] trivial ?_
      exact Goes.ret [] (.tuple #[]) fun w' hm hI => ⟨lv3, tv3, rfl, hm.get 0, by rw [hacq]; have := hI.now; simpa [R2.cat] using this⟩
    · -- 28
      obtain rfl : N = 3 := hL.symm
      obtain ⟨bk, ok, y0, rfl, hbk, hcl0, hy0⟩ := hkids 0 c0 rfl
      obtain ⟨p0, k0, t0, a0, N0, c0', rfl⟩ := hy0.cells
      obtain ⟨ob, hob⟩ := blk_of (w := w) (b := bk) (Nat.lt_of_lt_of_le hbk hn)
      have hacq : acq fs day (.mk 28 k s [c0, c1, c2]) p f = match valP fs day c0 with | some n => brA (acqL fs day [c0, c1, c2] (p + 1)) (2 - n).toNat f | none => wt p f := by rw [acq, valL]; rfl
      refine Goes.run [1, 0, 0, 0, 0, 1] [(true, true), (false, false), (false, false), (false, false), (false, false)] ⟨rfl, rfl, rfl, rfl, rfl, trivial⟩ ?_
      refine Goes.openY [0, 1] [(bk, ob)] (fun w' hI => holds1 (((hbel hI).block bk hbk).trans hob)) ?_
      refine Goes.run [0, 1, 1, 2, 0, 4, 5, 6, 7, 0, 8, 9, 10, 11, 0] [] trivial ?_
      refine Goes.valA 3 (Instr.loadAt 24 (.pointer (some ⟨bk, ok + 0 * 4, none⟩))) (cv p0 k0 t0 (.slice a0 N0 c0')) (fun w' hm => loadC (hcl0.same ((hm.get 2).trans hob.symm))) ?_
      refine Goes.callA0 12 26 #[cv p0 k0 t0 (.slice a0 N0 c0'), .int .i64 day, fv] (oV (valP fs day c0)) (fun w' _ hI => val_any day c0 _ w' (ob_right c0 _ _ ht0 (by decide)) ((hy0.later (hbel hI.now)).more (Nat.le_trans hn hI.now.1.size)) ((hF.later (hbel hI.now)).more (Nat.le_trans hn hI.now.1.size))) ?_
      cases hv : valP fs day c0 with
      | none =>
        rw [hv] at hacq
        refine Goes.run [13, 14, 15, 16, 17, 0] [(false, false)] ⟨rfl, trivial⟩ ?_
        refine Goes.callRQ 62 #[.pointer (some ⟨g, 0, none⟩), .int .i64 p, .int .i64 f] (.tuple #[]) (ls ++ [(p, f)]) ts [(g5, cO 28 k s (.slice (some ⟨bk, ok, none⟩) 3 cc))] hloc (fun w1 hm1 hI1 => waits_any (fv := fv) hI1.2.1 hI1.2.2.1 (hm1.get 0) (Nat.le_trans hn hI1.1.size) p f (by omega)) fun lv2 tv2 => ?_
        refine Goes.run [] [] trivial ?_
        exact Goes.ret [] (.tuple #[]) fun w' hm hI => ⟨lv2, tv2, rfl, hm.get 0, by rw [hacq]; have := hI.now; simpa [wt] using this⟩
      | some n =>
        rw [hv] at hacq
        rcases (val_kd hR.rf c0 _ _ _ ht0 (by omega) hv).2.1 rfl with rfl | rfl
        · refine Goes.run [13, 14, 15, 16, 17, 1, 1] [(true, true)] ⟨rfl, trivial⟩ ?_
          refine Goes.callRQ 37 #[.pointer (some ⟨g, 0, none⟩), cv 28 k s (.slice (some ⟨bk, ok, none⟩) 3 cc), .int .i64 p, .int .i64 (2 : Nat), .int .i64 (f)] (.tuple #[]) (ls ++ (brA (acqL fs day [c0, c1, c2] (p + 1)) 2 (f)).1) (ts ++ (brA (acqL fs day [c0, c1, c2] (p + 1)) 2 (f)).2) [(g5, cO 28 k s (.slice (some ⟨bk, ok, none⟩) 3 cc))] hloc (fun w1 hm1 hI1 => rbranch_any hg0 (i := 2) (u := c2) rfl ht2 (ihs c2 (by simp)) (hN0.later (hbel hI1)) (hF.later (hbel hI1)) (Nat.le_trans hn hI1.1.size) hI1.2.1 hI1.2.2.1 (hm1.get 0) hp0 hp1 hsz (f) (by simp only [szC, szL] at hlen; have := szC_pos c0; have := szC_pos c1; have := szC_pos c2; omega)) fun lv2 tv2 => ?_
          refine Goes.run [] [] trivial ?_
          exact Goes.ret [] (.tuple #[]) fun w' hm hI => ⟨lv2, tv2, rfl, hm.get 0, by rw [hacq]; exact hI.now⟩
        · refine Goes.run [13, 14, 15, 16, 17, 1, 1] [(true, true)] ⟨rfl, trivial⟩ ?_
          refine Goes.callRQ 37 #[.pointer (some ⟨g, 0, none⟩), cv 28 k s (.slice (some ⟨bk, ok, none⟩) 3 cc), .int .i64 p, .int .i64 (1 : Nat), .int .i64 (f)] (.tuple #[]) (ls ++ (brA (acqL fs day [c0, c1, c2] (p + 1)) 1 (f)).1) (ts ++ (brA (acqL fs day [c0, c1, c2] (p + 1)) 1 (f)).2) [(g5, cO 28 k s (.slice (some ⟨bk, ok, none⟩) 3 cc))] hloc (fun w1 hm1 hI1 => rbranch_any hg0 (i := 1) (u := c1) rfl ht1 (ihs c1 (by simp)) (hN0.later (hbel hI1)) (hF.later (hbel hI1)) (Nat.le_trans hn hI1.1.size) hI1.2.1 hI1.2.2.1 (hm1.get 0) hp0 hp1 hsz (f) (by simp only [szC, szL] at hlen; have := szC_pos c0; have := szC_pos c1; have := szC_pos c2; omega)) fun lv2 tv2 => ?_
          refine Goes.run [] [] trivial ?_
          exact Goes.ret [] (.tuple #[]) fun w' hm hI => ⟨lv2, tv2, rfl, hm.get 0, by rw [hacq]; exact hI.now⟩
    · -- 29
      obtain rfl : N = 1 := hL.symm
      have hacq : acq fs day (.mk 29 k s [c0]) p f = bif decide (k ≤ day) then brA (acqL fs day [c0] (p + 1)) 0 f else wt p f := by rw [acq]; rfl
      refine Goes.run [1, 0, 0, 0, 0, 0, 1] [(true, true), (false, false), (false, false), (false, false), (false, false), (false, false)] ⟨rfl, rfl, rfl, rfl, rfl, rfl, trivial⟩ ?_
      refine Goes.open [0, 1] ?_
      cases hd : decide (k ≤ day) with
      | true =>
        rw [hd, cond_true] at hacq
        refine Goes.run [0, 1, 2, 3, 0, 4, 5, 1, 6, 1, 1] [(decide (k ≤ day), true)] ⟨hd, trivial⟩ ?_
        refine Goes.callRQ 37 #[.pointer (some ⟨g, 0, none⟩), cv 29 k s (.slice a 1 cc), .int .i64 p, .int .i64 (0 : Nat), .int .i64 (f)] (.tuple #[]) (ls ++ (brA (acqL fs day [c0] (p + 1)) 0 (f)).1) (ts ++ (brA (acqL fs day [c0] (p + 1)) 0 (f)).2) [(g5, cO 29 k s (.slice a 1 cc))] hloc (fun w1 hm1 hI1 => rbranch_any hg0 (i := 0) (u := c0) rfl ht0 (ihs c0 (by simp)) (hN0.later (hbel hI1)) (hF.later (hbel hI1)) (Nat.le_trans hn hI1.1.size) hI1.2.1 hI1.2.2.1 (hm1.get 0) hp0 hp1 hsz (f) (by simp only [szC, szL] at hlen; have := szC_pos c0; omega)) fun lv2 tv2 => ?_
        refine Goes.run [] [] trivial ?_
        exact Goes.ret [] (.tuple #[]) fun w' hm hI => ⟨lv2, tv2, rfl, hm.get 0, by rw [hacq]; exact hI.now⟩
      | false =>
        rw [hd, cond_false] at hacq
        refine Goes.run [0, 1, 2, 3, 0, 4, 5, 1, 6, 0] [(decide (k ≤ day), false)] ⟨hd, trivial⟩ ?_
        refine Goes.callRQ 62 #[.pointer (some ⟨g, 0, none⟩), .int .i64 p, .int .i64 f] (.tuple #[]) (ls ++ [(p, f)]) ts [(g5, cO 29 k s (.slice a 1 cc))] hloc (fun w1 hm1 hI1 => waits_any (fv := fv) hI1.2.1 hI1.2.2.1 (hm1.get 0) (Nat.le_trans hn hI1.1.size) p f (by omega)) fun lv2 tv2 => ?_
        refine Goes.run [] [] trivial ?_
        exact Goes.ret [] (.tuple #[]) fun w' hm hI => ⟨lv2, tv2, rfl, hm.get 0, by rw [hacq]; have := hI.now; simpa [wt] using this⟩
    · -- 30
      obtain rfl : N = 2 := hL.symm
      obtain ⟨bk, ok, y0, rfl, hbk, hcl0, hy0⟩ := hkids 0 c0 rfl
      obtain ⟨p0, k0, t0, a0, N0, c0', rfl⟩ := hy0.cells
      obtain ⟨ob, hob⟩ := blk_of (w := w) (b := bk) (Nat.lt_of_lt_of_le hbk hn)
      have hacq : acq fs day (.mk 30 k s [c0, c1]) p f = bif decide (k < day) then r0 else match valP fs day c0 with | some b => (bif b == 1 then brA (acqL fs day [c0, c1] (p + 1)) 1 f else wt p f) | none => wt p f := by rw [acq, valL]; rfl
      refine Goes.run [1, 0, 0, 0, 0, 0, 0, 1] [(true, true), (false, false), (false, false), (false, false), (false, false), (false, false), (false, false)] ⟨rfl, rfl, rfl, rfl, rfl, rfl, rfl, trivial⟩ ?_
      refine Goes.open [0, 1] ?_
      cases hd : decide (k < day) with
      | true =>
        rw [hd, cond_true] at hacq
        refine Goes.run [0, 1, 2, 3, 0, 4, 5, 1, 6, 1] [(decide (k < day), true)] ⟨hd, trivial⟩ ?_
        exact Goes.ret [] (.tuple #[]) fun w' hm hI => ⟨lv, tv, rfl, hm.get 0, by rw [hacq]; simpa [r0] using hI.now⟩
      | false =>
        rw [hd, cond_false] at hacq
        refine Goes.run [0, 1, 2, 3, 0, 4, 5, 1, 6, 0] [(decide (k < day), false)] ⟨hd, trivial⟩ ?_
        refine Goes.openY [0, 1] [(bk, ob)] (fun w' hI => holds1 (((hbel hI).block bk hbk).trans hob)) ?_
        refine Goes.run [0, 1, 1, 2, 0, 4, 5, 6, 7, 0, 8, 9, 10, 11, 0] [] trivial ?_
        refine Goes.valA 3 (Instr.loadAt 24 (.pointer (some ⟨bk, ok + 0 * 4, none⟩))) (cv p0 k0 t0 (.slice a0 N0 c0')) (fun w' hm => loadC (hcl0.same ((hm.get 2).trans hob.symm))) ?_
        refine Goes.callA0 12 26 #[cv p0 k0 t0 (.slice a0 N0 c0'), .int .i64 day, fv] (oV (valP fs day c0)) (fun w' _ hI => val_any day c0 _ w' (ob_right c0 _ _ ht0 (by decide)) ((hy0.later (hbel hI.now)).more (Nat.le_trans hn hI.now.1.size)) ((hF.later (hbel hI.now)).more (Nat.le_trans hn hI.now.1.size))) ?_
        cases hv : valP fs day c0 with
        | none =>
          rw [hv] at hacq
          refine Goes.run [13, 14, 15, 16, 17, 0, 0] [(false, false), (false, false)] ⟨rfl, rfl, trivial⟩ ?_
          refine Goes.callRQ 62 #[.pointer (some ⟨g, 0, none⟩), .int .i64 p, .int .i64 f] (.tuple #[]) (ls ++ [(p, f)]) ts [(g5, cO 30 k s (.slice (some ⟨bk, ok, none⟩) 2 cc))] hloc (fun w1 hm1 hI1 => waits_any (fv := fv) hI1.2.1 hI1.2.2.1 (hm1.get 0) (Nat.le_trans hn hI1.1.size) p f (by omega)) fun lv2 tv2 => ?_
          refine Goes.run [] [] trivial ?_
          exact Goes.ret [] (.tuple #[]) fun w' hm hI => ⟨lv2, tv2, rfl, hm.get 0, by rw [hacq]; have := hI.now; simpa [wt] using this⟩
        | some n =>
          rw [hv] at hacq
          rcases (val_kd hR.rf c0 _ _ _ ht0 (by omega) hv).2.1 rfl with rfl | rfl
          · refine Goes.run [13, 14, 15, 16, 17, 1, 0] [(false, false), (true, true)] ⟨rfl, rfl, trivial⟩ ?_
            refine Goes.callRQ 62 #[.pointer (some ⟨g, 0, none⟩), .int .i64 p, .int .i64 f] (.tuple #[]) (ls ++ [(p, f)]) ts [(g5, cO 30 k s (.slice (some ⟨bk, ok, none⟩) 2 cc))] hloc (fun w1 hm1 hI1 => waits_any (fv := fv) hI1.2.1 hI1.2.2.1 (hm1.get 0) (Nat.le_trans hn hI1.1.size) p f (by omega)) fun lv2 tv2 => ?_
            refine Goes.run [] [] trivial ?_
            exact Goes.ret [] (.tuple #[]) fun w' hm hI => ⟨lv2, tv2, rfl, hm.get 0, by rw [hacq]; have := hI.now; simpa [wt] using this⟩
          · refine Goes.run [13, 14, 15, 16, 17, 1, 1, 1] [(true, true), (true, true)] ⟨rfl, rfl, trivial⟩ ?_
            refine Goes.callRQ 37 #[.pointer (some ⟨g, 0, none⟩), cv 30 k s (.slice (some ⟨bk, ok, none⟩) 2 cc), .int .i64 p, .int .i64 (1 : Nat), .int .i64 (f)] (.tuple #[]) (ls ++ (brA (acqL fs day [c0, c1] (p + 1)) 1 (f)).1) (ts ++ (brA (acqL fs day [c0, c1] (p + 1)) 1 (f)).2) [(g5, cO 30 k s (.slice (some ⟨bk, ok, none⟩) 2 cc))] hloc (fun w1 hm1 hI1 => rbranch_any hg0 (i := 1) (u := c1) rfl ht1 (ihs c1 (by simp)) (hN0.later (hbel hI1)) (hF.later (hbel hI1)) (Nat.le_trans hn hI1.1.size) hI1.2.1 hI1.2.2.1 (hm1.get 0) hp0 hp1 hsz (f) (by simp only [szC, szL] at hlen; have := szC_pos c0; have := szC_pos c1; omega)) fun lv2 tv2 => ?_
            refine Goes.run [] [] trivial ?_
            exact Goes.ret [] (.tuple #[]) fun w' hm hI => ⟨lv2, tv2, rfl, hm.get 0, by rw [hacq]; exact hI.now⟩
    · -- 31
      obtain rfl : N = 2 := hL.symm
      have hacq : acq fs day (.mk 31 k s [c0, c1]) p f = bif decide (k < day) then brA (acqL fs day [c0, c1] (p + 1)) 1 f else wt p f := by rw [acq]; rfl
      refine Goes.run [1, 0, 0, 0, 0, 0, 0, 0, 1] [(true, true), (false, false), (false, false), (false, false), (false, false), (false, false), (false, false), (false, false)] ⟨rfl, rfl, rfl, rfl, rfl, rfl, rfl, rfl, trivial⟩ ?_
      refine Goes.open [0, 1] ?_
      cases hd : decide (k < day) with
      | true =>
        rw [hd, cond_true] at hacq
        refine Goes.run [0, 1, 2, 3, 0, 4, 5, 1, 6, 1, 1] [(decide (k < day), true)] ⟨hd, trivial⟩ ?_
        refine Goes.callRQ 37 #[.pointer (some ⟨g, 0, none⟩), cv 31 k s (.slice a 2 cc), .int .i64 p, .int .i64 (1 : Nat), .int .i64 (f)] (.tuple #[]) (ls ++ (brA (acqL fs day [c0, c1] (p + 1)) 1 (f)).1) (ts ++ (brA (acqL fs day [c0, c1] (p + 1)) 1 (f)).2) [(g5, cO 31 k s (.slice a 2 cc))] hloc (fun w1 hm1 hI1 => rbranch_any hg0 (i := 1) (u := c1) rfl ht1 (ihs c1 (by simp)) (hN0.later (hbel hI1)) (hF.later (hbel hI1)) (Nat.le_trans hn hI1.1.size) hI1.2.1 hI1.2.2.1 (hm1.get 0) hp0 hp1 hsz (f) (by simp only [szC, szL] at hlen; have := szC_pos c0; have := szC_pos c1; omega)) fun lv2 tv2 => ?_
        refine Goes.run [] [] trivial ?_
        exact Goes.ret [] (.tuple #[]) fun w' hm hI => ⟨lv2, tv2, rfl, hm.get 0, by rw [hacq]; exact hI.now⟩
      | false =>
        rw [hd, cond_false] at hacq
        refine Goes.run [0, 1, 2, 3, 0, 4, 5, 1, 6, 0] [(decide (k < day), false)] ⟨hd, trivial⟩ ?_
        refine Goes.callRQ 62 #[.pointer (some ⟨g, 0, none⟩), .int .i64 p, .int .i64 f] (.tuple #[]) (ls ++ [(p, f)]) ts [(g5, cO 31 k s (.slice a 2 cc))] hloc (fun w1 hm1 hI1 => waits_any (fv := fv) hI1.2.1 hI1.2.2.1 (hm1.get 0) (Nat.le_trans hn hI1.1.size) p f (by omega)) fun lv2 tv2 => ?_
        refine Goes.run [] [] trivial ?_
        exact Goes.ret [] (.tuple #[]) fun w' hm hI => ⟨lv2, tv2, rfl, hm.get 0, by rw [hacq]; have := hI.now; simpa [wt] using this⟩
end Go.Proofs.YthnojedlndblbaaGreatDoor
