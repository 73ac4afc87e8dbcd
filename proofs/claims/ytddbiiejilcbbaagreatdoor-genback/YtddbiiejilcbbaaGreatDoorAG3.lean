/- texts put together: CAsk2 CQ CKidsM CBothM CRefL CRefM CStr NCell ESto EAnyM ENew CNcs GWTakeInt GWTakeText CFrame -/
import Derived.Test.YtddbiiejilcbbaaGreatDoorAG2
import Derived.Laws.MakeOwn
import Derived.Sort.Walk0
import Derived.Test.YtddbiiejilcbbaaGreatDoorRows
import Derived.ProofKit
import Derived.LaidMore
import Derived.OpenShut
import Derived.ShutString
import Derived.ChangeMaps5
import Derived.Stop.Joined
import Derived.Stop.LaidErr
import Derived.Lib.LaidTab
import Derived.Deep.DeepHandedRow
import Derived.Deep.Slices
import Derived.Deep.Matrix
namespace Go.Proofs.YtddbiiejilcbbaaGreatDoor
open Go Go.RowKit

mutual
theorem safe_true {σ : Type} (f : σ → Int → Co → σ × Bool) (s : σ) (d : Int) : ∀ c : Co, safeP f (fun _ => True) s d c
  | .mk op k t kids => by
    unfold safeP
    refine ⟨trivial, ?_⟩
    split
    · trivial
    · exact safe_trueK f _ _ kids
theorem safe_trueK {σ : Type} (f : σ → Int → Co → σ × Bool) (s : σ) (d : Int) : ∀ l : List Co, safeK f (fun _ => True) s d l
  | [] => by unfold safeK; trivial
  | c :: r => by
    unfold safeK
    refine ⟨safe_true f s d c, ?_⟩
    split
    · trivial
    · exact safe_trueK f _ _ r
end
theorem Below.toCh {w w' : World} (h : Below w.heap.size w w') : Ch [] w w' := ⟨h.os, h.tape, h.output, h.size, fun i hi _ => h.block i hi⟩
set_option maxRecDepth 100000 in
seal rn rnN rnS Goes ans atEnd put0 putM opened putA0 putA oneSt st0 orT orG in
theorem ask_any {n₀ qf gq : Nat} {ty : TypeId} {f : Int → Co → Int} {x : Int} {c : Co} {v : Value} {w : World} (hq : Qn n₀ qf gq ty f) (hqf : okf Tryz.prog qf = true) (hx : w.heap[gq]? = some (.cells #[.int .i64 x] ty (0, 0))) (hge : n₀ ≤ gq) (hN : Nc n₀ w v c) (hn : n₀ ≤ w.heap.size) :
    Calls Tryz.prog 120 #[v, askV qf gq] w fun e w' => e = .returned (.tuple #[]) ∧ Ch [gq] w w' ∧ w'.heap[gq]? = some (.cells #[.int .i64 (askP f x c)] ty (0, 0)) := by
  obtain ⟨op, k, t, a, N, cc, rfl⟩ := hN.cells
  have hgq := lt_of_get hx
  refine Goes.enterM Tryz.func120 [] (fun w' => Ch [] w w' ∧ True) Holds.nil (by simp [Mem.ids]) (fun w' hc => ⟨hc, trivial⟩) ?_
  refine Goes.runN2 bpM_noP 2000 [0] [] trivial fun g2 g3 => ?_
  refine Goes.call0 142 #[cv op k t (.slice a N cc)] (.tuple #[.int .i64 (typP c).1, .bool (typP c).2]) (fun w' _ hI => type_any ((hN.later (hI.now.1.low (fun x hx => by cases hx) hn)).more (Nat.le_trans hn hI.now.1.size))) ?_
  cases hb : (typP c).2 with
  | false =>
    refine Goes.runN bpM_noP 2000 [1] [(true, true)] ⟨rfl, trivial⟩ ?_
    exact Goes.retM [] (.tuple #[]) fun w' hm hI => ⟨rfl, hI.now.1.mono (fun x hx => by cases hx), by unfold askP; rw [hb]; exact (hI.now.1.block gq hgq (by simp)).trans hx⟩
  | true =>
    refine Goes.runN bpM_noP 2000 [0, 0] [(false, false)] ⟨rfl, trivial⟩ ?_
    refine Goes.call 160 #[cv op k t (.slice a N cc)] fun w3 hm3 hn3 hI3 => (terms_any op k t a N cc w3).mono fun e w4 ⟨gt, he4, hgt, hgtn, hB4⟩ => ?_
    have x2 : w3.heap[g2]? = some (cO op k t (.slice a N cc)) := hm3.get 0
    have x3 : w3.heap[g3]? = some (.cells #[askV qf gq] 97 (0, 0)) := hm3.get 1
    have f2 : w.heap.size ≤ g2 := fresh_of hI3 (g := g2) (ids_get (j := 0) (o := cO op k t (.slice a N cc)) (by kernel_rfl)) (by simp)
    have f3 : w.heap.size ≤ g3 := fresh_of hI3 (g := g3) (ids_get (j := 1) (o := .cells #[askV qf gq] 97 (0, 0)) (by kernel_rfl)) (by simp)
    have hids3 : [g2, g3].Nodup := Nodup.of_ids hn3
    have l2' := lt_of_get x2
    have l3' := lt_of_get x3
    have y2 := (hB4.block g2 l2').trans x2
    have y3 := (hB4.block g3 l3').trans x3
    have hC4 : Ch [] w w4 := hI3.now.1.trans (Below.toCh hB4) (fun x hx => by cases hx)
    refine ⟨_, fun w' => Ch [] w w' ∧ w'.heap[gt]? = some (cO op k t (.slice a N cc)), [(g2, cO op k t (.slice a N cc)), (g3, .cells #[askV qf gq] 97 (0, 0))], he4, fun j b o h => by match j, h with | 0, h => (cases h; exact y2) | 1, h => (cases h; exact y3), hids3, fun w5 hc => ⟨hC4.trans hc (fun x hx => .inr ?_), (hc.block gt (lt_of_get hgt) (fun hm => ?_)).trans hgt⟩, ?_⟩
    · simp only [Mem.ids, List.map_cons, List.map_nil, List.mem_cons, List.not_mem_nil, or_false] at hx
      rcases hx with rfl | rfl <;> assumption
    · simp only [Mem.ids, List.map_cons, List.map_nil, List.mem_cons, List.not_mem_nil, or_false] at hm
      rcases hm with h | h <;> omega
    refine Goes.runN bpM_noP 2000 [] [] trivial ?_
    refine Goes.named (akT (cv op k t (.slice a N cc)) qf gq g2 g3 gt (typP c).1 undef undef) [(g2, cO op k t (.slice a N cc)), (g3, .cells #[askV qf gq] 97 (0, 0))] #[17, 18] akA akB [.blk 0] fun s0 hT hm0 hps hA hBo hk hev hat => ?_
    refine Goes.range 204 #[.pointer (some ⟨gt, 0, none⟩)] (fun fid w5 hm5 hn5 hI5 W1 hL hD hBW => ?_) (hat.trans (by kernel_rfl)) (hev.trans (by kernel_rfl)) (by kernel_rfl)
    rw [hm0] at hm5 hn5 hI5
    obtain ⟨hC5, hgt5⟩ := hI5.now
    have u3 : w5.heap[g3]? = some (.cells #[askV qf gq] 97 (0, 0)) := hm5.get 1
    have v3 := lt_of_get u3
    have uq : w5.heap[gq]? = some (.cells #[.int .i64 x] ty (0, 0)) := (hC5.block gq hgq (by simp)).trans hx
    have hs5 := hC5.size
    have hJW : AkJ n₀ (w5.heap.size + 1) w5.heap.size g3 gq qf ty fid s0 true x [w5.heap.size + 1, w5.heap.size, g3, gq] W1 := by
      refine ⟨rfl, hL, hD, (hBW.block g3 v3).trans u3, (hBW.block gq (lt_of_get uq)).trans uq, rfl, ?_, ?_⟩
      · simp only [List.nodup_cons, List.mem_cons, List.not_mem_nil, or_false, not_or]
        exact ⟨⟨by omega, by omega, by omega⟩, ⟨by omega, by omega⟩, by omega, by simp, by simp⟩
      · intro y hy
        simp only [List.mem_cons, List.not_mem_nil, or_false] at hy
        rcases hy with rfl | rfl | rfl | rfl <;> omega
    have hCW : Ch [] w W1 := hC5.trans (Below.toCh hBW) (fun x hx => by cases hx)
    have hBwW : Below n₀ w W1 := hCW.low (fun x hx => by cases hx) hn
    show Calls Tryz.prog 204 #[.func (.yield (w5.heap.size + 1)) #[] #[], .pointer (some ⟨gt, 0, none⟩)] W1 _
    refine (iter_any (ask_round hq hqf hT hps hA hBo) (safe_true _ _ _ _) hJW (hN.later hBwW) (Nat.le_trans hn hBwW.size) ((hBW.block gt (lt_of_get hgt5)).trans hgt5)).mono fun e w6 ⟨he, O2, hJ2, hC6, hS6⟩ => ?_
    subst he
    obtain ⟨p0, p1, p2, p3, p4, rfl, p6, p7⟩ := hJ2
    have hC6' : Ch [gq] w w6 := (hCW.mono (fun x hx => by cases hx)).trans hC6 (fun y hy => by
      simp only [List.mem_cons, List.not_mem_nil, or_false] at hy ⊢
      rcases hy with rfl | rfl | rfl | rfl
      · exact .inr (by omega)
      · exact .inr (by omega)
      · exact .inr f3
      · exact .inl rfl)
    refine ⟨none, _, run_endLoop p1 (by simp [recOf]), ?_⟩
    have hC7 : Ch [gq] w (w6.putObj (w5.heap.size + 1) (.loop { recOf fid w5.heap.size s0 .ready none with state := .exhausted })) := hC6'.trans (Ch.put _ _ _) (fun y hy => .inr (by rw [List.mem_singleton] at hy; omega))
    have zq : (w6.putObj (w5.heap.size + 1) (.loop { recOf fid w5.heap.size s0 .ready none with state := .exhausted })).heap[gq]? = some (.cells #[.int .i64 (walkP (askF f) x 1 c).1] ty (0, 0)) := (World.putObj_heap_other (by omega)).trans p4
    have zD : (w6.putObj (w5.heap.size + 1) (.loop { recOf fid w5.heap.size s0 .ready none with state := .exhausted })).heap[w5.heap.size]? = some (.deferred (some [])) := (World.putObj_heap_other (by omega)).trans p2
    generalize w6.putObj (w5.heap.size + 1) (.loop { recOf fid w5.heap.size s0 .ready none with state := .exhausted }) = w7 at hC7 zq zD ⊢
    show QK _ _ s0.todo.tail _ _ _
    rw [hk, hT]
    show LeavesInM _ _ _ _ _ _ _ _ _
    refine leave_mark [] (.tuple #[]) [] zD Holds.nil (by simp [Mem.ids]) ⟨rfl, hC7.trans (Ch.put _ _ _) (fun y hy => .inr (by rw [List.mem_singleton] at hy; omega)), ?_⟩
    unfold askP
    rw [hb]
    exact (World.putObj_heap_other (by omega)).trans zq
end Go.Proofs.YtddbiiejilcbbaaGreatDoor
namespace Go.Proofs.YtddbiiejilcbbaaGreatDoor
open Go Go.RowKit

def hzF (x : Int) : Co → Int
  | .mk op k _ _ => bif dateP op then (if k > x then k else x) else x
def ckF (x : Int) : Co → Int
  | .mk op k _ _ => bif lookP op then (bif decide (k < 0) then 141 else x) else x
set_option maxRecDepth 100000 in
seal rn rnN rnS Goes ans atEnd put0 putM opened putA0 oneSt st0 orT orG in
theorem ckQ (n₀ gq : Nat) : Qn n₀ 121 gq 28 ckF := by
  intro x w v c hx hN hn
  cases c with
  | mk op k t kids =>
  obtain ⟨a, cc, rfl, hf, -, -⟩ := hN.open
  refine Goes.begin Tryz.func121 [(gq, .cells #[.int .i64 x] 28 (0, 0))] (fun _ => True) (fun j b o h => by match j, h with | 0, h => (cases h; exact hx)) (by simp [Mem.ids]) (fun _ _ => trivial) ?_
  refine Goes.run1 [1] [] trivial fun g => ?_
  refine Goes.call0 122 #[cv op k t (.slice a kids.length cc)] (.bool (lookP op)) (fun w' _ _ => look_any op k t a kids.length cc w') ?_
  cases h : lookP op with
  | true =>
    cases h2 : decide (k < 0) with
    | true =>
      refine Goes.run [1, 1, 1, 0] [(decide (k < 0), true), (true, true)] ⟨h2, rfl, trivial⟩ ?_
      exact Goes.ret [] (.tuple #[]) fun w' hm hI => ⟨rfl, hI.now.1, (hm.get 0 (o := .cells #[.int .i64 141] 28 (0, 0))).trans (by simp only [ckF, h, h2, cond_true])⟩
    | false =>
      refine Goes.run [1, 1, 0] [(decide (k < 0), false), (true, true)] ⟨h2, rfl, trivial⟩ ?_
      exact Goes.ret [] (.tuple #[]) fun w' hm hI => ⟨rfl, hI.now.1, (hm.get 0 (o := .cells #[.int .i64 x] 28 (0, 0))).trans (by simp only [ckF, h, h2, cond_true, cond_false])⟩
  | false =>
    refine Goes.run [0, 0] [(false, false), (false, false)] ⟨rfl, rfl, trivial⟩ ?_
    exact Goes.ret [] (.tuple #[]) fun w' hm hI => ⟨rfl, hI.now.1, (hm.get 0 (o := .cells #[.int .i64 x] 28 (0, 0))).trans (by simp only [ckF, h, cond_false])⟩
def chkP (c : Co) : Int := bif isOfP 4 c then askP ckF 0 c else 140
set_option maxRecDepth 100000 in
seal rn rnN rnS Goes ans atEnd put0 putM opened putA0 oneSt st0 orT orG in
theorem check_any {c : Co} {v : Value} {w : World} (hN : Nc w.heap.size w v c) : Calls Tryz.prog 72 #[v] w fun e w' => e = .returned (.int .i64 (chkP c)) ∧ Below w.heap.size w w' := by
  obtain ⟨op, k, t, a, N, cc, rfl⟩ := hN.cells
  refine Goes.begin Tryz.func72 [] (fun _ => True) Holds.nil (by simp [Mem.ids]) (fun _ _ => trivial) ?_
  refine Goes.run1 [0] [] trivial fun g => ?_
  refine Goes.call0 119 #[cv op k t (.slice a N cc), .int .i64 4] (.bool (isOfP 4 c)) (fun w' _ hI => isOf0 4 hN (bel0 hI)) ?_
  cases h : isOfP 4 c with
  | false =>
    refine Goes.run [1] [(true, true)] ⟨rfl, trivial⟩ ?_
    exact Goes.ret [] (.int .i64 140) fun w' hm hI => ⟨by unfold chkP; rw [h] <;> rfl, bel0 hI⟩
  | true =>
    refine Goes.run1 [0, 1, 0] [(false, false)] ⟨rfl, trivial⟩ fun gq => ?_
    refine Goes.call2 1 gq 120 #[cv op k t (.slice a N cc), askV 121 gq] (.tuple #[]) (.cells #[.int .i64 (askP ckF 0 c)] 28 (0, 0)) (fun w' hm hI => ask_any (n₀ := w.heap.size) (ckQ _ gq) (by kernel_rfl) (hm.get 1) (fresh_of hI (g := gq) (ids_get (j := 1) (o := .cells #[.int .i64 0] 28 (0, 0)) (by kernel_rfl)) (by simp [Mem.ids])) (hN.later (bel0 hI)) (bel0 hI).size) ?_
    refine Goes.run [1] [] trivial ?_
    exact Goes.ret [] (.int .i64 (askP ckF 0 c)) fun w' hm hI => ⟨by unfold chkP; rw [h] <;> rfl, bel0 hI⟩
end Go.Proofs.YtddbiiejilcbbaaGreatDoor
namespace Go.Proofs.YtddbiiejilcbbaaGreatDoor
open Go

theorem isOfP_eq (want : Int) (c : Co) : isOfP want c = true ↔ (okT want 1 c = true ∧ szC c ≤ 2000) := by
  have h := (spec c want [] 0 1 (by omega) (by omega) (by omega) (by omega) (by simp)).2.1
  unfold isOfP
  rw [h]
  simp
mutual
theorem okT_up (want d : Int) : ∀ c : Co, okT want (d + 1) c = true → okT want d c = true
  | .mk op k t kids => by
    unfold okT
    cases kOf op want with
    | none => simp
    | some ks =>
      simp only [Bool.and_eq_true, decide_eq_true_eq]
      rintro ⟨⟨h1, h2⟩, h3⟩
      exact ⟨⟨h1, by omega⟩, okTs_up (d + 1) ks kids h3⟩
theorem okTs_up (d : Int) (ks : List Int) : ∀ l : List Co, okTs (d + 1) ks l = true → okTs d ks l = true
  | [] => by unfold okTs; simp
  | c :: r => by
    unfold okTs
    cases ks with
    | nil => simp
    | cons x xs =>
      simp only [Bool.and_eq_true]
      rintro ⟨h1, h2⟩
      exact ⟨okT_up x d c h1, okTs_up d xs r h2⟩
end
theorem ty_cond {b : Bool} {x y : Option (List Int)} (hx : ∀ l, x = some l → ∀ z ∈ l, tyOk z) (hy : ∀ l, y = some l → ∀ z ∈ l, tyOk z) : ∀ l, (bif b then x else y) = some l → ∀ z ∈ l, tyOk z := by
  cases b <;> assumption
theorem ty_some {l0 : List Int} (h : ∀ z ∈ l0, tyOk z) : ∀ l, some l0 = some l → ∀ z ∈ l, tyOk z := by rintro l ⟨⟩; exact h
theorem ty_none : ∀ l : List Int, none = some l → ∀ z ∈ l, tyOk z := by intro l h; cases h
theorem kOf_ty {op want : Int} (hw : tyOk want) : ∀ l, kOf op want = some l → ∀ z ∈ l, tyOk z := by
  unfold kOf kContract kNumber kTruth kDay
  unfold tyOk at hw
  repeat' first | exact ty_none | refine ty_cond ?_ ?_ | (refine ty_some ?_; intro z hz; simp only [List.mem_cons, List.not_mem_nil, or_false] at hz; done) | (refine ty_some ?_; intro z hz; simp only [List.mem_cons, List.not_mem_nil, or_false] at hz; unfold tyOk; omega)
theorem okTs_at {d : Int} : ∀ {l : List Co} {ks : List Int} {i : Nat} {c : Co}, okTs d ks l = true → l[i]? = some c → ∃ x, ks[i]? = some x ∧ okT x d c = true
  | [], ks, i, c, _, h => by simp at h
  | y :: r, ks, i, c, h, hc => by
    unfold okTs at h
    cases ks with
    | nil => simp at h
    | cons x xs =>
      simp only [Bool.and_eq_true] at h
      cases i with
      | zero => simp at hc; subst hc; exact ⟨x, rfl, h.1⟩
      | succ i => exact okTs_at (i := i) h.2 (by simpa using hc)
theorem szL_at : ∀ {l : List Co} {i : Nat} {c : Co}, l[i]? = some c → szC c ≤ szL l
  | [], i, c, h => by simp at h
  | y :: r, 0, c, h => by simp at h; subst h; unfold szL; have := szL_pos r; omega
  | y :: r, i + 1, c, h => by have := szL_at (i := i) (show r[i]? = some c by simpa using h); unfold szL; have := szC_pos y; omega
theorem typ_of {want : Int} (hw : tyOk want) {c : Co} (h : isOfP want c = true) : (typP c).2 = true := by
  unfold typP
  cases h0 : isOfP 0 c with
  | true => rfl
  | false =>
    cases h1 : isOfP 1 c with
    | true => rfl
    | false =>
      cases h2 : isOfP 2 c with
      | true => rfl
      | false =>
        cases h4 : isOfP 4 c with
        | true => rfl
        | false =>
          exfalso
          rcases hw with rfl | rfl | rfl | rfl
          · rw [h0] at h; cases h
          · rw [h1] at h; cases h
          · rw [h2] at h; cases h
          · rw [h4] at h; cases h
theorem typ_ex {c : Co} (h : (typP c).2 = true) : ∃ want, tyOk want ∧ isOfP want c = true := by
  unfold typP at h
  cases h0 : isOfP 0 c with
  | true => exact ⟨0, .inl rfl, h0⟩
  | false =>
    cases h1 : isOfP 1 c with
    | true => exact ⟨1, .inr (.inl rfl), h1⟩
    | false =>
      cases h2 : isOfP 2 c with
      | true => exact ⟨2, .inr (.inr (.inl rfl)), h2⟩
      | false =>
        cases h4 : isOfP 4 c with
        | true => exact ⟨4, .inr (.inr (.inr rfl)), h4⟩
        | false => rw [h0, h1, h2, h4] at h; cases h
mutual
def hzC : Co → Int
  | .mk op k _ kids => max (bif dateP op then k else 0) (hzL kids)
def hzL : List Co → Int
  | [] => 0
  | c :: r => max (hzC c) (hzL r)
end
mutual
theorem hz_walk (d x : Int) : ∀ c : Co, 0 ≤ x → walkP (askF hzF) x d c = (max x (hzC c), true)
  | .mk op k t kids, h0 => by
    unfold hzC
    unfold walkP askF hzF
    have hh := hzL_pos kids
    cases hd : dateP op with
    | true =>
      simp only [hd, cond_true]
      have := hz_walkK (IntKind.i64.wrap (d + 1)) (if k > x then k else x) kids (by split <;> omega)
      unfold askF hzF at this
      rw [this]
      congr 1
      split <;> omega
    | false =>
      simp only [hd, cond_false]
      have := hz_walkK (IntKind.i64.wrap (d + 1)) x kids h0
      unfold askF hzF at this
      rw [this]
      congr 1
      omega
theorem hz_walkK (d x : Int) : ∀ l : List Co, 0 ≤ x → walkK (askF hzF) x d l = (max x (hzL l), true)
  | [], h0 => by unfold walkK hzL; congr 1; omega
  | c :: r, h0 => by
    unfold hzL
    unfold walkK
    rw [hz_walk d x c h0]
    simp only
    rw [hz_walkK d _ r (by omega)]
    congr 1
    omega
theorem hzL_pos : ∀ l : List Co, 0 ≤ hzL l
  | [] => by unfold hzL; omega
  | c :: r => by unfold hzL; have := hzL_pos r; omega
end
theorem hzL_at : ∀ {l : List Co} {i : Nat} {c : Co}, l[i]? = some c → hzC c ≤ hzL l
  | [], i, c, h => by simp at h
  | y :: r, 0, c, h => by simp at h; subst h; unfold hzL; omega
  | y :: r, i + 1, c, h => by have := hzL_at (i := i) (show r[i]? = some c by simpa using h); unfold hzL; omega
end Go.Proofs.YtddbiiejilcbbaaGreatDoor
namespace Go.Proofs.YtddbiiejilcbbaaGreatDoor
open Go

mutual
def dpC : Co → Int
  | .mk _ _ _ kids => 1 + dpL kids
def dpL : List Co → Int
  | [] => 0
  | c :: r => max (dpC c) (dpL r)
end
theorem dpL_pos : ∀ l : List Co, 0 ≤ dpL l
  | [] => by unfold dpL; omega
  | c :: r => by unfold dpL; have := dpL_pos r; omega
mutual
theorem okT_dp (want d : Int) : ∀ c : Co, okT want (d + 1) c = true ↔ (okT want d c = true ∧ d + dpC c ≤ 200)
  | .mk op k t kids => by
    unfold okT dpC
    have hp := dpL_pos kids
    cases kOf op want with
    | none => simp
    | some ks =>
      simp only [Bool.and_eq_true, decide_eq_true_eq]
      constructor
      · rintro ⟨⟨h1, h2⟩, h3⟩
        have := (okTs_dp (d + 1) ks kids (by omega)).1 h3
        exact ⟨⟨⟨h1, by omega⟩, this.1⟩, by omega⟩
      · rintro ⟨⟨⟨h1, h2⟩, h3⟩, h4⟩
        exact ⟨⟨h1, by omega⟩, (okTs_dp (d + 1) ks kids (by omega)).2 ⟨h3, by omega⟩⟩
theorem okTs_dp (d : Int) (ks : List Int) : ∀ l : List Co, d ≤ 200 → (okTs (d + 1) ks l = true ↔ (okTs d ks l = true ∧ d + dpL l ≤ 200))
  | [], h => by unfold okTs dpL; simp; omega
  | c :: r, h => by
    unfold okTs dpL
    cases ks with
    | nil => simp
    | cons x xs =>
      simp only [Bool.and_eq_true]
      rw [okT_dp x d c, okTs_dp d xs r h]
      constructor
      · rintro ⟨⟨h1, h2⟩, h3, h4⟩; exact ⟨⟨h1, h3⟩, by omega⟩
      · rintro ⟨⟨h1, h2⟩, h3⟩; exact ⟨⟨h1, by omega⟩, h2, by omega⟩
end
mutual
/-- Does it look ahead? -/
def ahC : Co → Bool
  | .mk op k _ kids => (lookP op && decide (k < 0)) || ahL kids
def ahL : List Co → Bool
  | [] => false
  | c :: r => ahC c || ahL r
end
mutual
theorem ck_walk (d x : Int) : ∀ c : Co, walkP (askF ckF) x d c = (bif ahC c then 141 else x, true)
  | .mk op k t kids => by
    unfold ahC
    unfold walkP askF ckF
    cases h1 : lookP op with
    | true =>
      cases h2 : decide (k < 0) with
      | true =>
        have := ck_walkK (IntKind.i64.wrap (d + 1)) 141 kids
        unfold askF ckF at this
        simp only [h1, h2, cond_true, this, Bool.true_and, Bool.true_or]
        cases ahL kids <;> rfl
      | false =>
        have := ck_walkK (IntKind.i64.wrap (d + 1)) x kids
        unfold askF ckF at this
        simp only [h1, h2, cond_true, cond_false, this, Bool.true_and, Bool.false_or]
    | false =>
      have := ck_walkK (IntKind.i64.wrap (d + 1)) x kids
      unfold askF ckF at this
      simp only [h1, cond_false, this, Bool.false_and, Bool.false_or]
theorem ck_walkK (d x : Int) : ∀ l : List Co, walkK (askF ckF) x d l = (bif ahL l then 141 else x, true)
  | [] => by unfold walkK ahL; rfl
  | c :: r => by
    unfold ahL
    unfold walkK
    rw [ck_walk d x c]
    simp only
    rw [ck_walkK d _ r]
    cases ahC c <;> cases ahL r <;> rfl
end
theorem typ4 {c : Co} (h : isOfP 4 c = true) : (typP c).2 = true := typ_of (.inr (.inr (.inr rfl))) h
theorem chk_no {c : Co} (h : isOfP 4 c = false) : chkP c = 140 := by unfold chkP; rw [h]; rfl
theorem chk_yes {c : Co} (h : isOfP 4 c = true) : chkP c = bif ahC c then 141 else 0 := by
  unfold chkP askP
  rw [h, typ4 h, ck_walk 1 0 c]
  rfl
end Go.Proofs.YtddbiiejilcbbaaGreatDoor
namespace Go.Proofs.YtddbiiejilcbbaaGreatDoor
open Go Go.RowKit

mutual
def lefF (m d : Int) : Co → Int
  | .mk _ _ _ kids => bif decide (d > 200) then -1 else lefL (m - 1) (d + 1) kids
def lefL (m d : Int) : List Co → Int
  | [] => m
  | c :: r => bif decide (m ≥ 0) then lefL (lefF m d c) d r else m
end
mutual
theorem lef_low : ∀ (c : Co) (m d : Int), 0 ≤ m → -1 ≤ lefF m d c ∧ lefF m d c ≤ m
  | .mk _ _ _ kids, m, d, h => by
    rw [lefF]
    cases decide (d > 200) with
    | true => exact ⟨by simp, by simp; omega⟩
    | false => have := lef_lowL kids (m - 1) (d + 1) (by omega); simp only [cond_false]; omega
theorem lef_lowL : ∀ (l : List Co) (m d : Int), -1 ≤ m → -1 ≤ lefL m d l ∧ lefL m d l ≤ m
  | [], m, d, h => by rw [lefL]; omega
  | c :: r, m, d, h => by
    rw [lefL]
    cases hm : decide (m ≥ 0) with
    | true =>
      have h1 := lef_low c m d (of_decide_eq_true hm)
      have h2 := lef_lowL r (lefF m d c) d h1.1
      simp only [cond_true]; omega
    | false => simp only [cond_false]; omega
end
def smaP (c : Co) : Bool := decide (lefF 2000 1 c ≥ 0)
end Go.Proofs.YtddbiiejilcbbaaGreatDoor
namespace Go.Proofs.YtddbiiejilcbbaaGreatDoor
open Go Go.RowKit

def TP (c : Co) : Prop := ∀ d : Int, (∀ z, tyOk z → (okT z d c = true ↔ typF d c = (z, true))) ∧ ((typF d c).2 = true → tyOk (typF d c).1)
theorem tys_ok : ∀ (kids : List Co), (∀ c ∈ kids, TP c) → ∀ (d : Int) (l : List Int), (tysF d kids = some l ↔ l.length = kids.length ∧ (∀ z ∈ l, tyOk z) ∧ okTs d l kids = true)
  | [], _, d, l => by
    rw [tysF]
    unfold okTs
    constructor
    · rintro ⟨⟩; simp
    · rintro ⟨h, -⟩; rw [List.eq_nil_of_length_eq_zero h]
  | c :: r, ih, d, l => by
    obtain ⟨h1, h2⟩ := ih c (by simp) d
    have h3 := tys_ok r (fun c hc => ih c (by simp [hc])) d
    rw [tysF]
    cases hc : typF d c with
    | mk z b =>
    rw [hc] at h2
    cases b with
    | false =>
      simp only [cond_false]
      constructor
      · intro h; cases h
      · rintro ⟨e, ht, ho⟩
        cases l with
        | nil => cases e
        | cons x xs =>
          unfold okTs at ho
          simp only [Bool.and_eq_true] at ho
          have := (h1 x (ht x (by simp))).1 ho.1
          rw [hc] at this
          cases this
    | true =>
      simp only [cond_true]
      have hz := h2 rfl
      cases hr : tysF d r with
      | none =>
        constructor
        · intro h; cases h
        · rintro ⟨e, ht, ho⟩
          cases l with
          | nil => cases e
          | cons x xs =>
            unfold okTs at ho
            simp only [Bool.and_eq_true] at ho
            have := (h3 xs).2 ⟨by simpa using e, fun z hz => ht z (by simp [hz]), ho.2⟩
            rw [hr] at this
            cases this
      | some q =>
        have hq := (h3 q).1 hr
        constructor
        · intro h
          simp only [Option.map_some, Option.some.injEq] at h
          subst h
          refine ⟨by simp [hq.1], fun y hy => ?_, ?_⟩
          · rcases List.mem_cons.1 hy with e | e
            · rw [e]; exact hz
            · exact hq.2.1 y e
          · unfold okTs
            show (okT z d c && okTs d q r) = true
            rw [(h1 z hz).2 hc, hq.2.2]
            rfl
        · rintro ⟨e, ht, ho⟩
          cases l with
          | nil => cases e
          | cons x xs =>
            unfold okTs at ho
            simp only [Bool.and_eq_true] at ho
            have e1 := (h1 x (ht x (by simp))).1 ho.1
            rw [hc] at e1
            cases e1
            have e2 := (h3 xs).2 ⟨by simpa using e, fun z hz => ht z (by simp [hz]), ho.2⟩
            rw [hr] at e2
            cases e2
            rfl
theorem tp_all (c : Co) : TP c := by
  induction c using Co.ind with
  | h op k t kids ih =>
    intro d
    have hk := tys_ok kids ih (d + 1)
    refine ⟨fun z hz => ?_, fun h => ?_⟩
    · rw [typ_parts]
      constructor
      · intro ho
        unfold okT at ho
        cases hko : kOf op z with
        | none => rw [hko] at ho; cases ho
        | some ks =>
          rw [hko] at ho
          simp only [Bool.and_eq_true, beq_iff_eq, decide_eq_true_eq] at ho
          obtain ⟨⟨⟨h1, h2⟩, h3⟩, h4⟩ := ho
          have hl3 := kOf_len op z ks hko
          refine ⟨h2, h3, by omega, ks, (hk ks).2 ⟨by omega, kOf_ty hz ks hko, h4⟩, ?_⟩
          unfold endF
          cases h22 : (op == 22) with
          | true =>
            have e := eq_of_beq h22
            subst e
            rw [k22] at hko
            cases hz4 : (z == 4) with
            | true => rw [hz4] at hko; cases hko
            | false =>
              rw [hz4] at hko
              cases hko
              have : (z != 4) = true := by simp only [bne, hz4, Bool.not_false]
              simp only [cond_true, lastZ, ifF, beq_self_eq_true, Bool.true_and, this]
          | false =>
            rw [rk_op hz h22] at hko
            cases hr : rkP op with
            | none => rw [hr] at hko; cases hko
            | some q =>
              obtain ⟨ks', t'⟩ := q
              rw [hr] at hko
              simp only at hko
              cases ht' : (t' == z) with
              | false => rw [ht'] at hko; cases hko
              | true =>
                rw [ht'] at hko
                cases hko
                have := eq_of_beq ht'
                subst this
                simp
      · rintro ⟨h1, h2, h3, l, hl, he⟩
        obtain ⟨e1, e2, e3⟩ := (hk l).1 hl
        have fin : kOf op z = some l → okT z d (.mk op k t kids) = true := by
          intro hko
          unfold okT
          rw [hko]
          simp only [h1, e3, Bool.and_true, Bool.and_eq_true, beq_iff_eq, decide_eq_true_eq]
          exact ⟨by omega, h2⟩
        unfold endF at he
        cases h22 : (op == 22) with
        | true =>
          rw [h22, cond_true] at he
          simp only [Prod.mk.injEq] at he
          obtain ⟨y, rfl, hy⟩ := if_shape he.2
          have hyz : y = z := he.1
          subst hyz
          have e := eq_of_beq h22
          subst e
          refine fin ?_
          rw [k22]
          have : (y == 4) = false := by simpa using hy
          rw [this]
          rfl
        | false =>
          rw [h22, cond_false] at he
          refine fin ?_
          rw [rk_op hz h22]
          cases hr : rkP op with
          | none => rw [hr] at he; cases he
          | some q =>
            obtain ⟨ks', t'⟩ := q
            rw [hr] at he
            simp only at he
            cases hlen : ((ks'.length : Int) != (l.length : Int)) with
            | true => rw [hlen] at he; cases he
            | false =>
              rw [hlen, cond_false] at he
              cases hq : (ks' == l) with
              | false => rw [hq] at he; cases he
              | true =>
                rw [hq] at he
                cases he
                have := eq_of_beq hq
                subst this
                simp
    · cases hc : typF d (.mk op k t kids) with
      | mk z b =>
      rw [hc] at h
      have hb : b = true := h
      subst hb
      obtain ⟨-, -, -, l, hl, he⟩ := typ_parts.1 hc
      obtain ⟨e1, e2, e3⟩ := (hk l).1 hl
      unfold endF at he
      cases h22 : (op == 22) with
      | true =>
        rw [h22, cond_true] at he
        simp only [Prod.mk.injEq] at he
        obtain ⟨y, rfl, hy⟩ := if_shape he.2
        have hyz : y = z := he.1
        subst hyz
        exact e2 y (by simp)
      | false =>
        rw [h22, cond_false] at he
        cases hr : rkP op with
        | none => rw [hr] at he; cases he
        | some q =>
          obtain ⟨ks', t'⟩ := q
          rw [hr] at he
          simp only at he
          cases hlen : ((ks'.length : Int) != (l.length : Int)) with
          | true => rw [hlen] at he; cases he
          | false =>
            rw [hlen, cond_false] at he
            cases hq : (ks' == l) with
            | false => rw [hq] at he; cases he
            | true =>
              rw [hq] at he
              cases he
              exact rk_tyOk hr
def LP (c : Co) : Prop := ∀ (d m : Int), (typF d c).2 = true → 0 ≤ m → (szC c ≤ m → lefF m d c = m - szC c) ∧ (m < szC c → lefF m d c < 0)
theorem lef_row : ∀ (l : List Co), (∀ c ∈ l, LP c) → ∀ (d m : Int), (∀ c ∈ l, (typF d c).2 = true) → -1 ≤ m → (szL l ≤ m → lefL m d l = m - szL l) ∧ (m < szL l → lefL m d l < 0)
  | [], _, d, m, _, hm => by rw [lefL, szL]; omega
  | c :: r, ih, d, m, hk, hm => by
    have hp := szC_pos c
    have hq := szL_pos r
    rw [lefL, szL]
    cases hd : decide (m ≥ 0) with
    | false =>
      have := of_decide_eq_false hd
      simp only [cond_false]
      omega
    | true =>
      have hm0 := of_decide_eq_true hd
      obtain ⟨h1, h2⟩ := ih c (by simp) d m (hk c (by simp)) hm0
      have hlow := lef_low c m d hm0
      have h3 := lef_row r (fun c hc => ih c (by simp [hc])) d (lefF m d c) (fun c hc => hk c (by simp [hc])) hlow.1
      have h4 := lef_lowL r (lefF m d c) d hlow.1
      simp only [cond_true]
      by_cases hs : szC c ≤ m
      · rw [h1 hs] at h3 ⊢
        omega
      · have := h2 (by omega)
        omega
theorem lef_all (c : Co) : LP c := by
  induction c using Co.ind with
  | h op k t kids ih =>
    intro d m ht hm
    obtain ⟨-, hd, hk⟩ := typ_kids ht
    have h := lef_row kids ih (d + 1) (m - 1) hk (by omega)
    rw [lefF, szC, decide_eq_false (by omega), cond_false]
    omega
def rtyP (c : Co) : Int × Bool := bif smaP c then (bif (typF 1 c).2 then ((typF 1 c).1, true) else (0, false)) else (0, false)
theorem rty_eq (c : Co) : rtyP c = typP c := by
  obtain ⟨h1, h2⟩ := tp_all c 1
  have no : (∀ z, tyOk z → isOfP z c = false) → typP c = (0, false) := by
    intro h
    unfold typP
    rw [h 0 (.inl rfl), h 1 (.inr (.inl rfl)), h 2 (.inr (.inr (.inl rfl))), h 4 (.inr (.inr (.inr rfl)))]
    rfl
  cases hc : typF 1 c with
  | mk z b =>
  rw [hc] at h1 h2
  cases b with
  | false =>
    have : typP c = (0, false) := no fun x hx => by
      cases hi : isOfP x c with
      | false => rfl
      | true =>
        have := (h1 x hx).1 ((isOfP_eq x c).1 hi).1
        cases this
    rw [this]
    unfold rtyP
    rw [hc]
    cases smaP c <;> rfl
  | true =>
    have hz := h2 rfl
    have hl := lef_all c 1 2000 (by rw [hc]) (by omega)
    have hs : smaP c = decide (szC c ≤ 2000) := by
      unfold smaP
      by_cases h : szC c ≤ 2000
      · rw [hl.1 h, decide_eq_true h, decide_eq_true (by omega)]
      · rw [decide_eq_false h, decide_eq_false (by have := hl.2 (by omega); omega)]
    unfold rtyP
    rw [hs, hc]
    by_cases h : szC c ≤ 2000
    · have hi : ∀ x, tyOk x → isOfP x c = (x == z) := by
        intro x hx
        rw [Bool.eq_iff_iff, isOfP_eq, h1 x hx, beq_iff_eq]
        simp only [Prod.mk.injEq, and_true]
        exact ⟨fun h => h.1.symm, fun e => ⟨e.symm, h⟩⟩
      rw [decide_eq_true h]
      unfold typP
      rw [hi 0 (.inl rfl), hi 1 (.inr (.inl rfl)), hi 2 (.inr (.inr (.inl rfl))), hi 4 (.inr (.inr (.inr rfl)))]
      rcases hz with e | e | e | e <;> (have e' : z = _ := e; subst e'; rfl)
    · rw [decide_eq_false h]
      exact (no fun x hx => by
        cases hi : isOfP x c with
        | false => rfl
        | true => exact absurd ((isOfP_eq x c).1 hi).2 h).symm
theorem typ_right {c : Co} (h : (typP c).2 = true) : (typF 1 c).2 = true ∧ szC c ≤ 2000 := by
  obtain ⟨want, -, hi⟩ := typ_ex h
  refine ⟨?_, ((isOfP_eq want c).1 hi).2⟩
  rw [← rty_eq] at h
  unfold rtyP at h
  cases hs : smaP c with
  | false => rw [hs] at h; cases h
  | true =>
    rw [hs, cond_true] at h
    cases hc : (typF 1 c).2 with
    | true => rfl
    | false => rw [hc] at h; cases h
end Go.Proofs.YtddbiiejilcbbaaGreatDoor
namespace Go.Proofs.YtddbiiejilcbbaaGreatDoor
open Go Go.RowKit

section
variable {P : Program} {F : Exit → Act → World → Prop} {Inv : World → Prop} {s : St}
/-- What an append of cells that are known does. -/
theorem append_coreA {base : Nat} {t e ty : TypeId} {size bytes : Nat} {v : Value} {n : Nat} {xs : List Value} {a : Addr} {m c : Nat} {news : List Value} {w : World}
    (hown : w.ownsRow base e size v n xs) (hbase : base ≤ w.heap.size) (hl : news.length = m * size) (hnews : ∀ j u, news[j]? = some u → w.cell? (a.add j) = some u) (h1 : ∀ u ∈ news, u.oneCell' = true) (hm0 : v ≠ .slice none 0 0 ∨ 0 < m) (h63 : n + m ≤ maxLen) (hbytes : (n + m) * bytes ≤ 140737488355328)
    (hel : elOk P t e size bytes = true) : ∃ b c' w', (Builtin.append_ #[t, t] ty #[v, .slice (some a) m c]).run P w = .ok (.slice (some ⟨b, 0, none⟩) (n + m) c') w' ∧ w'.ownsRow base e size (.slice (some ⟨b, 0, none⟩) (n + m) c') (n + m) (xs ++ news) ∧ w.grownBy w' v.ownBlock ∧ ((Value.slice (some ⟨b, 0, none⟩) (n + m) c').ownBlock = v.ownBlock ∨ (Value.slice (some ⟨b, 0, none⟩) (n + m) c').ownBlock = some w.heap.size) := by
  unfold elOk at hel
  simp only [Bool.and_eq_true, decide_eq_true_eq] at hel
  obtain ⟨⟨hu, hi⟩, hsz⟩ := hel
  cases hu1 : P.underlying t with
  | none => rw [hu1] at hu; cases hu
  | some d =>
    rw [hu1] at hu
    obtain rfl : d = .slice e := by
      cases d <;> simp at hu
      rw [hu]
    cases hi1 : P.info? e with
    | none => rw [hi1] at hi; cases hi
    | some i =>
      rw [hi1] at hi
      simp only [Bool.and_eq_true, beq_iff_eq] at hi
      cases hz1 : i.zero with
      | none => rw [hz1] at hi; simp at hi
      | some z0 =>
        rw [hz1] at hi
        obtain ⟨v', w', hrun, hown', hgr, hnil, hob⟩ := run_append_own_at (P := P) (w := w) base t ty e i z0 size bytes hu1 hi1 hz1 hi.1.1 hi.1.2 (eq_of_beq hi.2) hsz v n xs hown a m c news hl hnews h1 h63 hbytes hbase
        obtain ⟨b, c', rfl⟩ : ∃ b c', v' = .slice (some ⟨b, 0, none⟩) (n + m) c' := by
          rcases hown'.2 with ⟨h0, -⟩ | ⟨g, cap, cur, e, -⟩
          · obtain ⟨h2, h3⟩ := hnil.1 h0
            rcases hm0 with h4 | h4
            · exact absurd h2 h4
            · omega
          · exact ⟨_, _, e⟩
        exact ⟨b, c', w', hrun, hown', hgr, hob⟩
end
end Go.Proofs.YtddbiiejilcbbaaGreatDoor
namespace Go.Proofs.YtddbiiejilcbbaaGreatDoor
open Go Go.RowKit

theorem cell_same {w w' : World} {b o : Nat} (h : w'.heap[b]? = w.heap[b]?) : w'.cell? ⟨b, o, none⟩ = w.cell? ⟨b, o, none⟩ := by
  unfold World.cell?
  rw [h]
theorem Cl4.same {w w' : World} {b o : Nat} {v : Value} (h : Cl4 w b o v) (e : w'.heap[b]? = w.heap[b]?) : Cl4 w' b o v := by
  obtain ⟨op, k, s, u, h1, h2, h3, h4, h5⟩ := h
  exact ⟨op, k, s, u, h1, (cell_same e).trans h2, (cell_same e).trans h3, (cell_same e).trans h4, (cell_same e).trans h5⟩
theorem blk_of {w : World} {b : Nat} (h : b < w.heap.size) : ∃ ob, w.heap[b]? = some ob := ⟨w.heap[b], by simp [h]⟩
end Go.Proofs.YtddbiiejilcbbaaGreatDoor
namespace Go.Proofs.YtddbiiejilcbbaaGreatDoor
open Go Go.RowKit

section
variable {P : Program} {F : Exit → Act → World → Prop} {Inv : World → Prop} {s : St}
def skS (I : Sem Unit) : Sem Next := do I; pure .skip
theorem skS_run {I : Sem Unit} {w w' : World} (h : I.run P w = .ok () w') : (skS I).run P w = .ok .skip w' := by
  unfold skS
  simp only [Sem.run_bind, h, Result.andThen_ok, Sem.run_pure]
/-- A store that is known otherwise. -/
theorem Goes.sto (I : Sem Unit)
 (hr : ∀ w, Holds s.mem w → s.mem.ids.Nodup → Stay s.mem.ids w Inv → ∃ w' Inv' m, I.run P w = .ok () w' ∧ Holds m w' ∧ m.ids.Nodup ∧ Stay m.ids w' Inv' ∧ Goes P F Inv' (put s undef m)) (ho : (nextOp s).map (fun q => execOp (evalL s.tmps) q.2.1) = some (skS I) := by kernel_rfl) (hw : wants s = true := by kernel_rfl) : Goes P F Inv s := by
  intro w hm hn hI
  cases hno : nextOp s with
  | none => rw [hno] at ho; cases ho
  | some q =>
    obtain ⟨ops, o', rest, res, k⟩ := q
    rw [hno] at ho
    have ho : execOp (evalL s.tmps) o' = skS I := by simpa using ho
    rw [nextOp_todo hno]
    show wpList P ops (QK P F k) (o' :: rest) ⟨s.tmps.toArray, []⟩ w
    refine wpList_step fun K hK => ?_
    rw [if_pos (wants_ok hno hw)]
    unfold Oper.wp
    obtain ⟨w', Inv', m, he, h1, h2, h3, h4⟩ := hr w hm hn hI
    have h5 := h4 w'
    unfold put at h5
    rw [hno] at h5
    rw [evalL_eq, ho, skS_run he, Oper.upon_skip]
    refine hK _ _ ?_
    rw [putL_eq]
    exact h5 h1 h2 h3
/-- What lies in the known blocks is spelt otherwise. -/
theorem Goes.objs (m : Mem) (h : ∀ w, Holds s.mem w → Holds m w) (G : Goes P F Inv ⟨s.todo, s.tmps, m⟩) (hi : s.mem.ids = m.ids := by kernel_rfl) : Goes P F Inv s := fun w hm hn hI => G w (h w hm) (hi ▸ hn) (hi ▸ hI)
end
end Go.Proofs.YtddbiiejilcbbaaGreatDoor
namespace Go.Proofs.YtddbiiejilcbbaaGreatDoor
open Go Go.RowKit

section
variable {P : Program} {F : Exit → Act → World → Prop} {Inv : World → Prop} {s : St}
/-- The operation i of a drawn region makes a block. -/
def newA (P : Program) (i g : Nat) (s : St) : Option St :=
  match anyOp i s with
  | some o =>
    match srun P (execOp (evalL s.tmps) o) [0] (some g) s.mem [] false with
    | some ⟨.value v, m, [], _⟩ => some (putA i s v m)
    | _ => none
  | none => none
def newSt (P : Program) (i g : Nat) (s : St) : St := (newA P i g s).getD s
theorem TookS.new1 (i n1 : Nat) (js : List Nat) (hn1 : ∀ w, Inv w → n1 ≤ w.heap.size) (h : ∀ g, n1 ≤ g → Goes P F Inv (newSt P i g s)) (h0 : ∀ g, (newA P i g s).map (fun st => sub js st.mem) = some (anyM s) := by intro g; kernel_rfl) (hw : anyWant i s = true := by kernel_rfl) : TookS P F Inv i s := by
  intro ops m0 n l k ht w h1 h2 h3 h4
  have hG := h w.heap.size (hn1 w h3.now)
  have hk := h0 w.heap.size
  unfold newSt at hG
  cases hq : newA P i w.heap.size s with
  | none => rw [hq] at hk; cases hk
  | some st =>
    rw [hq] at hG hk
    simp only [Option.getD_some] at hG
    simp only [Option.map_some, Option.some.injEq] at hk
    have hst := hq
    unfold newA at hq
    unfold anyWant at hw
    unfold anyM at hk
    rw [ht] at hw hk
    simp only at hw hk
    cases ho : ops[i]? with
    | none => rw [ho] at hw; simp at hw
    | some o =>
      have hoo : anyOp i s = some o := by unfold anyOp; rw [ht]; exact ho
      rw [ho] at hw
      simp only at hw
      rw [hoo] at hq
      simp only at hq
      unfold wpOp
      rw [ho]
      simp only [hw, if_true]
      unfold Oper.wp
      rw [evalL_eq]
      split at hq
      · rename_i v m d hs
        cases hq
        obtain ⟨w', D⟩ := srun_did P _ _ _ _ _ _ _ w hs (by simp) h1 h2 (by simp)
        have h9 := hG w'
        unfold putA at h9 hk
        rw [ht] at h9 hk
        simp only [ho] at h9 hk
        rw [D.run, Oper.upon_value, putL_eq]
        have hm' : Holds m0 w' := by rw [← hk]; exact sub_holds D.holds
        exact .inl ⟨hm', h9 D.holds D.nd (h3.ch D.ch D.new) hm'⟩
      · cases hq
/-- It is a call; other blocks are read besides. -/
theorem TookS.callM (i : Nat) (f : FuncId) (args : Array Value) (hr : ∀ w, Holds s.mem w → s.mem.ids.Nodup → Stay s.mem.ids w Inv → Holds (anyM s) w → Calls P f args w fun e w' => ∃ v Inv' m, e = .returned v ∧ Holds (anyM s) w' ∧ Holds m w' ∧ m.ids.Nodup ∧ Stay m.ids w' Inv' ∧ Goes P F Inv' (putA i s v m)) (hw : anyWant i s = true := by kernel_rfl) (ha : askA i s = some (f, args) := by kernel_rfl) (hf : okf P f = true := by kernel_rfl) : TookS P F Inv i s := by
  intro ops m0 n l k ht w h1 h2 h3 h4
  unfold anyWant at hw
  unfold askA anyOp at ha
  unfold anyM at hr
  rw [ht] at hw ha hr
  simp only at hw ha hr
  cases ho : ops[i]? with
  | none => rw [ho] at hw; simp at hw
  | some o =>
    rw [ho] at hw ha
    simp only at hw ha
    unfold wpOp
    rw [ho]
    simp only [hw, if_true]
    unfold Oper.wp
    rw [evalL_eq]
    have he : (execOp (evalL s.tmps) o).run P w = .ok (.enter f args) w := by
      split at ha
      · rename_i x xs ats hop
        split at ha
        · rename_i g first captured hv
          cases ha
          have e : execOp (evalL s.tmps) o = callFunc f (first ++ xs.map (evalL s.tmps) ++ captured) := by
            unfold execOp; rw [hop]; simp only [resolve, hv]; rfl
          rw [e, okf_run hf]
        · cases ha
      · cases ha
    rw [he, Oper.upon_enter]
    refine .inl ?_
    refine (hr w h1 h2 h3 h4).mono fun e w' ⟨v, Inv', m, he, h10, h5, h6, h7, h8⟩ => ?_
    subst he
    have h9 := h8 w'
    unfold putA at h9
    rw [ht] at h9
    simp only [ho] at h9
    show Holds m0 w' ∧ _
    rw [putL_eq]
    exact ⟨h10, h9 h5 h6 h7 h10⟩
end
end Go.Proofs.YtddbiiejilcbbaaGreatDoor
namespace Go.Proofs.YtddbiiejilcbbaaGreatDoor
open Go Go.RowKit

section
variable {P : Program} {F : Exit → Act → World → Prop} {Inv : World → Prop} {s : St}
def newO (P : Program) (i g : Nat) (s : St) : Option St :=
  match anyOp i s with
  | some o =>
    match srun P (execOp (evalL s.tmps) o) [0] (some g) s.mem [] false with
    | some ⟨.value v, m, [], _⟩ => some (putA i s v m)
    | _ => none
  | none => none
def newOS (P : Program) (i g : Nat) (s : St) : St := (newO P i g s).getD s
theorem TookS.newI (i : Nat) (h : ∀ g, Goes P F Inv (newOS P i g s)) (h0 : ∀ g, (newO P i g s).map (fun st => st.mem.take s.mem.length) = some s.mem := by intro g; kernel_rfl) (hw : anyWant i s = true := by kernel_rfl) : TookS P F Inv i s := by
  intro ops m0 n l k ht w h1 h2 h3 h4
  have hG := h w.heap.size
  have hk := h0 w.heap.size
  unfold newOS at hG
  cases hq : newO P i w.heap.size s with
  | none => rw [hq] at hk; cases hk
  | some st =>
    rw [hq] at hG hk
    simp only [Option.getD_some] at hG
    simp only [Option.map_some, Option.some.injEq] at hk
    unfold newO at hq
    unfold anyWant at hw
    rw [ht] at hw
    simp only at hw
    cases ho : ops[i]? with
    | none => rw [ho] at hw; simp at hw
    | some o =>
      have hoo : anyOp i s = some o := by unfold anyOp; rw [ht]; exact ho
      rw [ho] at hw
      simp only at hw
      rw [hoo] at hq
      simp only at hq
      unfold wpOp
      rw [ho]
      simp only [hw, if_true]
      unfold Oper.wp
      rw [evalL_eq]
      split at hq
      · rename_i v m d hs
        cases hq
        obtain ⟨w', D⟩ := srun_did P _ _ _ _ _ _ _ w hs (by simp) h1 h2 (by simp)
        have h9 := hG w'
        unfold putA at h9 hk
        rw [ht] at h9 hk
        simp only [ho] at h9 hk
        rw [D.run, Oper.upon_value, putL_eq]
        have hm' : Holds m0 w' := by
          intro j b ob hj
          have hb := h4.at hj
          by_cases hx : b ∈ s.mem.ids
          · obtain ⟨q, hq, e⟩ := List.mem_map.1 hx
            obtain ⟨j', hj'⟩ := List.getElem?_of_mem hq
            have hl : j' < s.mem.length := (List.getElem?_eq_some_iff.1 hj').1
            have e1 := h1.at (b := q.1) (o := q.2) hj'
            have e2 : m[j']? = some (q.1, q.2) := by rw [← hk, List.getElem?_take_of_lt hl] at hj'; exact hj'
            have e3 := D.holds.at e2
            have e : q.1 = b := e
            rw [e] at e1 e3
            rw [hb] at e1
            cases e1
            exact e3
          · rw [D.ch.block b (lt_of_get hb) hx]
            exact hb
        exact .inl ⟨hm', h9 D.holds D.nd (h3.ch D.ch D.new) hm'⟩
      · cases hq
end
end Go.Proofs.YtddbiiejilcbbaaGreatDoor
namespace Go.Proofs.YtddbiiejilcbbaaGreatDoor
open Go Go.RowKit

/-- The value v is the term c, all the way down, in blocks of the set A. -/
inductive NcS (A : Nat → Prop) (w : World) : Value → Co → Prop
  | mk (op k : Int) (s : List UInt8) (kids : List Co) (a : Option Addr) (c : Nat) (vs : Nat → Value) (hf : Fits op k s) (hl : kids.length ≤ c ∧ c ≤ 9223372036854775807)
      (hc : ∀ i, i < kids.length → ∃ b o, a = some ⟨b, o, none⟩ ∧ A b ∧ Cl4 w b (o + i * 4) (vs i)) (hk : ∀ i t, kids[i]? = some t → NcS A w (vs i) t) : NcS A w (cv op k s (.slice a kids.length c)) (.mk op k s kids)
theorem NcS.toN {A : Nat → Prop} {n : Nat} {w : World} {v : Value} {t : Co} (h : NcS A w v t) (hA : ∀ x, A x → x < n) : Nc n w v t := by
  induction h with
  | mk op k s kids a c vs hf hl hc hk ih =>
    refine .mk op k s kids a c vs hf hl (fun i hi => ?_) ih
    obtain ⟨b, o, e, hb, h⟩ := hc i hi
    exact ⟨b, o, e, hA b hb, h⟩
theorem NcS.mono {A A' : Nat → Prop} {w : World} {v : Value} {t : Co} (h : NcS A w v t) (hA : ∀ x, A x → A' x) : NcS A' w v t := by
  induction h with
  | mk op k s kids a c vs hf hl hc hk ih =>
    refine .mk op k s kids a c vs hf hl (fun i hi => ?_) ih
    obtain ⟨b, o, e, hb, h⟩ := hc i hi
    exact ⟨b, o, e, hA b hb, h⟩
theorem NcS.later {A : Nat → Prop} {w w' : World} {v : Value} {t : Co} (h : NcS A w v t) (hA : ∀ x, A x → w'.heap[x]? = w.heap[x]?) : NcS A w' v t := by
  induction h with
  | mk op k s kids a c vs hf hl hc hk ih =>
    refine .mk op k s kids a c vs hf hl (fun i hi => ?_) ih
    obtain ⟨b, o, e, hb, h⟩ := hc i hi
    exact ⟨b, o, e, hb, h.same (hA b hb)⟩
theorem NcS.open {A : Nat → Prop} {w : World} {v : Value} {op k : Int} {s : List UInt8} {kids : List Co} (h : NcS A w v (.mk op k s kids)) : ∃ a c, v = cv op k s (.slice a kids.length c) ∧ Fits op k s ∧ (kids.length ≤ c ∧ c ≤ 9223372036854775807) ∧ ∀ i t, kids[i]? = some t → ∃ b o u, a = some ⟨b, o, none⟩ ∧ A b ∧ Cl4 w b (o + i * 4) u ∧ NcS A w u t := by
  cases h with
  | mk _ _ _ _ a c vs hf hl hc hk =>
    refine ⟨a, c, rfl, hf, hl, fun i t ht => ?_⟩
    obtain ⟨b, o, e, hb, h⟩ := hc i (List.getElem?_eq_some_iff.1 ht).1
    exact ⟨b, o, vs i, e, hb, h, hk i t ht⟩
theorem NcS.rehead {A : Nat → Prop} {w : World} {op k op' k' : Int} {s s' : List UInt8} {kids : List Co} {u : Value} (h : NcS A w (cv op k s u) (.mk op k s kids)) (hf : Fits op' k' s') : NcS A w (cv op' k' s' u) (.mk op' k' s' kids) := by
  generalize hv : cv op k s u = v at h
  generalize hc : Co.mk op k s kids = c at h
  cases h with
  | mk _ _ _ _ a c vs _ hl hcl hk =>
    cases hc
    unfold cv at hv
    simp only [Value.agg.injEq, Array.mk.injEq, List.cons.injEq, and_true] at hv
    obtain ⟨-, -, -, rfl⟩ := hv
    exact .mk op' k' s' kids a c vs hf hl hcl hk
theorem NcS.leaf {A : Nat → Prop} {w : World} {op k : Int} (hf : Fits op k []) : NcS A w (cv op k [] (.slice none 0 0)) (.mk op k [] []) := .mk op k [] [] none 0 (fun _ => undef) hf ⟨by simp, by omega⟩ (fun i hi => by simp at hi) (fun i t ht => by simp at ht)
/-- A row that may be written. -/
def Unf (w : World) (b : Nat) : Prop := ∃ cs t, w.heap[b]? = some (.cells cs t (0, 0))
theorem Unf.lt {w : World} {b : Nat} (h : Unf w b) : b < w.heap.size := by
  obtain ⟨cs, t, h⟩ := h
  exact (Array.getElem?_eq_some_iff.1 h).1
theorem Unf.same {w w' : World} {b : Nat} (h : Unf w b) (e : w'.heap[b]? = w.heap[b]?) : Unf w' b := by
  obtain ⟨cs, t, h⟩ := h
  exact ⟨cs, t, e.trans h⟩
/-- A row that was made in between. -/
def New (w w' : World) (x : Nat) : Prop := (w.heap.size ≤ x ∧ x < w'.heap.size) ∧ Unf w' x
/-- What was made since. -/
def Since (A : Nat → Prop) (w w' : World) : Nat → Prop := fun x => A x ∨ New w w' x
theorem NcS.bel {A : Nat → Prop} {w w' : World} {v : Value} {t : Co} (h : NcS A w v t) (hA : ∀ x, A x → x < w.heap.size) (hB : Below w.heap.size w w') : NcS A w' v t := h.later fun x hx => hB.block x (hA x hx)
end Go.Proofs.YtddbiiejilcbbaaGreatDoor
namespace Go.Proofs.YtddbiiejilcbbaaGreatDoor
open Go Go.RowKit

/-- Three results. -/
def tri (n : Int) (k : Int) (b : Bool) : Value := .tuple #[.int .i64 n, .int .i64 k, .bool b]
/-- What is taken, and where it ends. -/
def outI : Option (Int × Nat) → Int → Value
  | some (n, k), at_ => tri n (at_ + k) true
  | none, _ => tri 0 0 false
def tInt (l : List UInt8) (at_ : Int) : Option (Int × Nat) := if 0 ≤ at_ ∧ at_ ≤ l.length then takeI (l.drop at_.toNat) else none

set_option maxHeartbeats 400000 in
theorem takeInt_out (a : Option Addr) (n cap : Nat) (at_ : Int) (w : World) (h : at_ < 0 ∨ (n : Int) < at_) :
    Calls Tryz.prog 139 #[.slice a n cap, .int .i64 at_] w fun e w' => e = .returned (tri 0 0 false) ∧ w' = w := by
  by_cases h0 : at_ < 0
  · have hb : decide (at_ < 0) = true := decide_eq_true h0
    go_enter Tryz.func139, Tryz.ntmps139
    go_wp2
    go_ret3
    exact ⟨rfl, rfl⟩
  · have hb : decide (at_ < 0) = false := decide_eq_false h0
    have hb2 : decide ((n : Int) < at_) = true := decide_eq_true (by omega)
    go_enter Tryz.func139, Tryz.ntmps139
    go_wp2
    go_ret3
    exact ⟨rfl, rfl⟩

set_option maxHeartbeats 400000 in
theorem takeInt_end (a : Option Addr) (n cap : Nat) (w : World) (hn : n ≤ 281474976710656) (hc : n ≤ cap) :
    Calls Tryz.prog 139 #[.slice a n cap, .int .i64 n] w fun e w' => e = .returned (tri 0 0 false) ∧ w' = w := by
  have hb : decide ((n : Int) < 0) = false := decide_eq_false (by omega)
  have hb2 : decide ((n : Int) < (n : Int)) = false := decide_eq_false (by omega)
  go_enter Tryz.func139, Tryz.ntmps139
  go_wp2
  all_goals
    have hM : (min ((n : Int) + 10) (n : Int)).toNat - n = 0 := by omega
    rw [hM]
    refine wp_loop_rounds 1 ?_
    rw [rounds_succ]
    go_wp2
    go_ret3
    exact ⟨rfl, rfl⟩

set_option maxRecDepth 100000 in
set_option maxHeartbeats 800000 in
theorem takeInt_in (b off cap j : Nat) (l : List UInt8) (w : World) (hr : Rd w b off l) (hn : l.length ≤ 281474976710656) (hc : l.length ≤ cap) (hj : j < l.length) :
    Calls Tryz.prog 139 #[.slice (some ⟨b, off, none⟩) l.length cap, .int .i64 j] w fun e w' => e = .returned (outI (takeI (l.drop j)) j) ∧ w' = w := by
  have hb : decide ((j : Int) < 0) = false := decide_eq_false (by omega)
  have hb2 : decide ((l.length : Int) < (j : Int)) = false := decide_eq_false (by omega)
  go_enter Tryz.func139, Tryz.ntmps139
  go_wp2
  generalize hMd : (min ((j : Int) + 10) (l.length : Int)).toNat - j = M
  have hM1 : M ≤ 10 := by omega
  have hM2 : j + M ≤ l.length := by omega
  have hM3 : M = 10 ∨ j + M = l.length := by omega
  have HM3 := hid hM3
  clear hMd hM3
  have HR := hid hr
  clear hr
  go_loop [7, 27] (fun q i => ∃ k u : Nat, k ≤ M ∧ i = .int .i64 k ∧ q = .int .u64 u ∧ u < 128 ^ k ∧ u < 18446744073709551616 ∧ dec 0 0 (l.drop j) = dec k u (l.drop (j + k))) (fun _ i => M - (intOf i).toNat)
  case atStart => exact ⟨0, 0, by omega, rfl, rfl, by simp, by omega, rfl⟩
  case round =>
    obtain ⟨k, u, hk, rfl, rfl, hu, hu64, hd⟩ := hrel
    have HD := hid hd
    have HU := hid hu
    clear hd hu
    by_cases hlt : k < M
    · have hcell : w.cell? ⟨b, off + j + k, none⟩ = some (.int .u8 (at8 l (j + k))) := by rw [Nat.add_assoc]; exact HR.out (j + k) (by omega)
      have hbyte := drop_cons8 l (j + k) (by omega)
      have hx1 := (l.getD (j + k) 0).toNat_lt
      unfold at8 at hcell
      have hdec : ∀ r, dec k u (l.getD (j + k) 0 :: r) = if 128 ≤ (l.getD (j + k) 0).toNat then dec (k + 1) ((u + (l.getD (j + k) 0).toNat % 128 * 128 ^ k) % 18446744073709551616) r
          else if mayEndB k ((l.getD (j + k) 0).toNat : Int) then some ((u + (l.getD (j + k) 0).toNat % 128 * 128 ^ k) % 18446744073709551616, k + 1) else none := fun r => by rw [dec, if_neg (by omega)]
      have HB := hid hbyte
      have HDE := hid hdec
      clear hbyte hdec
      generalize (l.getD (j + k) 0).toNat = x at *
      have hor := or_seven u (x % 128) k (by omega) HU.out
      have hU' : (u + x % 128 * 128 ^ k) % 18446744073709551616 < 128 ^ (k + 1) := by
        have h1 : (u + x % 128 * 128 ^ k) % 18446744073709551616 ≤ u + x % 128 * 128 ^ k := Nat.mod_le _ _
        have h2 : x % 128 * 128 ^ k ≤ 127 * 128 ^ k := Nat.mul_le_mul_right _ (by omega)
        have h3 : (128 : Nat) ^ (k + 1) = 128 * 128 ^ k := by rw [Nat.pow_succ]; omega
        have := HU.out
        omega
      have hU2 : (u + x % 128 * 128 ^ k) % 18446744073709551616 < 18446744073709551616 := Nat.mod_lt _ (by decide)
      generalize (u + x % 128 * 128 ^ k) % 18446744073709551616 = U at *
      rw [Int.natCast_emod, show ((128 : Nat) : Int) = 128 from rfl] at hor
      have HOR := hid hor
      have HU1 := hid hU'
      clear hor hU'
      by_cases h128 : 128 ≤ x
      · go_wp2_with fail
        refine ⟨⟨k + 1, U, by omega, by go_num, congrArg (Value.int .u64) HOR.out, HU1.out, hU2, ?_⟩, by simp [intOf]; omega⟩
        rw [HD.out, HB.out, HDE.out, if_pos h128]; rfl
      · cases hme : mayEndB k (x : Int) with
        | false =>
          have hD : dec 0 0 (l.drop j) = none := by rw [HD.out, HB.out, HDE.out, if_neg h128, hme]; rfl
          have HF := hid hD
          clear hD
          go_wp2_with (go_at_call 184; refine (mayEnd_any k (x : Int) _).mono ?_; rintro e w' ⟨rfl, rfl⟩; rw [hme])
          go_ret3
          exact ⟨by unfold takeI; rw [HF.out]; rfl, rfl⟩
        | true =>
          have hD : dec 0 0 (l.drop j) = some (U, k + 1) := by rw [HD.out, HB.out, HDE.out, if_neg h128, hme]; rfl
          have HF := hid hD
          clear hD
          go_wp2_with (first
            | (go_at_call 184; refine (mayEnd_any k (x : Int) _).mono ?_; rintro e w' ⟨rfl, rfl⟩; rw [hme])
            | (go_at_call 185; rw [HOR.out]; refine (unfold_any U hU2 _).mono ?_; rintro e w' ⟨rfl, rfl⟩))
          go_ret3
          refine ⟨?_, rfl⟩
          unfold takeI
          rw [HF.out]
          show Ending.returned (tri (unzig U) ((j : Int) + k + 1) true) = Ending.returned (tri (unzig U) ((j : Int) + ((k + 1 : Nat) : Int)) true)
          rw [Int.natCast_add, ← Int.add_assoc]; rfl
    · obtain rfl : k = M := by omega
      have hD : dec 0 0 (l.drop j) = none := by
        rw [HD.out]
        rcases HM3.out with h | h
        · rw [h]; exact dec_ten _ _
        · rw [h, List.drop_length]; rfl
      have HF := hid hD
      clear hD
      go_wp2
      go_ret3
      exact ⟨by unfold takeI; rw [HF.out]; rfl, rfl⟩

/-- TakeInt, whatever it is given. -/
theorem takeInt_any (a : Option Addr) (l : List UInt8) (cap : Nat) (at_ : Int) (w : World) (hv : Sl w (.slice a l.length cap) l) (hn : l.length ≤ 281474976710656) :
    Calls Tryz.prog 139 #[.slice a l.length cap, .int .i64 at_] w fun e w' => e = .returned (outI (tInt l at_) at_) ∧ w' = w := by
  obtain ⟨a', cap', he, h2, h3, h4⟩ := hv
  cases he
  unfold tInt
  by_cases h : 0 ≤ at_ ∧ at_ ≤ l.length
  · rw [if_pos h]
    obtain ⟨j, rfl⟩ := Int.eq_ofNat_of_zero_le h.1
    rw [Int.toNat_natCast]
    by_cases hj : j < l.length
    · obtain ⟨b, off, rfl, hr⟩ := h4 (by intro e; rw [e] at hj; simp at hj)
      exact takeInt_in b off cap j l w hr hn h2 hj
    · obtain rfl : j = l.length := by omega
      rw [List.drop_length]
      exact takeInt_end a l.length cap w hn h2
  · rw [if_neg h]
    exact takeInt_out a l.length cap at_ w (by omega)
end Go.Proofs.YtddbiiejilcbbaaGreatDoor
namespace Go.Proofs.YtddbiiejilcbbaaGreatDoor
open Go Go.RowKit

def triS (t : List UInt8) (k : Int) (b : Bool) : Value := .tuple #[.string ⟨t.toArray⟩, .int .i64 k, .bool b]
def outS : Option (List UInt8 × Nat) → Int → Value
  | some (t, k), at_ => triS t (at_ + k) true
  | none, _ => triS [] 0 false
/-- What is taken of a text's bytes. -/
def tText (l : List UInt8) (at_ most : Int) : Option (List UInt8 × Nat) :=
  match tInt l at_ with
  | some (n, k) => if 0 ≤ n ∧ n ≤ most ∧ n ≤ (l.length : Int) - (at_ + k) then some ((l.drop (at_.toNat + k)).take n.toNat, k + n.toNat) else none
  | none => none

theorem Rd.sub {w : World} {b off : Nat} {l : List UInt8} (h : Rd w b off l) (i m : Nat) (hm : i + m ≤ l.length) : Rd w b (off + i) ((l.drop i).take m) := fun k hk => by
  have hk' : k < m := by simp at hk; omega
  rw [at8_take _ _ _ hk', at8_drop, Nat.add_assoc]
  exact h (i + k) (by omega)
theorem conv_sub {w : World} {b off cap c : Nat} {l : List UInt8} (h : Rd w b off l) (i m : Nat) (hm : i + m ≤ l.length) (_ : l.length ≤ cap) (hc : m ≤ c) :
    (convert 22 9 (.slice (some ⟨b, off + i, none⟩) m c)).run Tryz.prog w = .ok (.string ⟨((l.drop i).take m).toArray⟩) w := by
  have hl : ((l.drop i).take m).length = m := by simp; omega
  have := conv_sl (Sl.mk (h.sub i m hm) (cap := c) (by omega))
  rwa [hl] at this
theorem conv_empty {w : World} (a : Option Addr) (c : Nat) (ha : a = none → c = 0) : (convert 22 9 (.slice a 0 c)).run Tryz.prog w = .ok (.string ⟨#[]⟩) w :=
  conv_sl (l := []) ⟨a, c, rfl, Nat.zero_le _, ha, fun h => absurd rfl h⟩

set_option maxHeartbeats 400000 in
theorem takeText_no (a : Option Addr) (l : List UInt8) (cap : Nat) (at_ most : Int) (w : World) (hv : Sl w (.slice a l.length cap) l) (hn : l.length ≤ 281474976710656) (h : tInt l at_ = none) :
    Calls Tryz.prog 141 #[.slice a l.length cap, .int .i64 at_, .int .i64 most] w fun e w' => e = .returned (triS [] 0 false) ∧ w' = w := by
  have HV := hid hv
  have HH := hid h
  clear hv h
  go_enter Tryz.func141, Tryz.ntmps141
  go_wp2_with (go_at_call 139; refine (takeInt_any a l cap at_ _ HV.out hn).mono ?_; rintro e w' ⟨rfl, rfl⟩; rw [HH.out]; unfold outI tri)
  go_ret3
  exact ⟨rfl, rfl⟩

set_option maxHeartbeats 400000 in
theorem takeText_bad (a : Option Addr) (l : List UInt8) (cap : Nat) (at_ most n : Int) (k : Nat) (w : World) (hv : Sl w (.slice a l.length cap) l) (hn : l.length ≤ 281474976710656) (h : tInt l at_ = some (n, k))
    (hj : 0 ≤ at_) (hjk : at_ + k ≤ l.length) (hbad : n < 0 ∨ most < n ∨ (l.length : Int) - (at_ + k) < n) :
    Calls Tryz.prog 141 #[.slice a l.length cap, .int .i64 at_, .int .i64 most] w fun e w' => e = .returned (triS [] 0 false) ∧ w' = w := by
  have HV := hid hv
  have HH := hid h
  clear hv h
  by_cases h1 : n < 0
  · have b1 : decide (n < 0) = true := decide_eq_true h1
    go_enter Tryz.func141, Tryz.ntmps141
    go_wp2_with (go_at_call 139; refine (takeInt_any a l cap at_ _ HV.out hn).mono ?_; rintro e w' ⟨rfl, rfl⟩; rw [HH.out]; unfold outI tri)
    go_ret3
    exact ⟨rfl, rfl⟩
  · have b1 : decide (n < 0) = false := decide_eq_false h1
    by_cases h2 : most < n
    · have b2 : decide (most < n) = true := decide_eq_true h2
      go_enter Tryz.func141, Tryz.ntmps141
      go_wp2_with (go_at_call 139; refine (takeInt_any a l cap at_ _ HV.out hn).mono ?_; rintro e w' ⟨rfl, rfl⟩; rw [HH.out]; unfold outI tri)
      go_ret3
      exact ⟨rfl, rfl⟩
    · have b2 : decide (most < n) = false := decide_eq_false h2
      have b3 : decide ((l.length : Int) - (at_ + k) < n) = true := decide_eq_true (by omega)
      go_enter Tryz.func141, Tryz.ntmps141
      go_wp2_with (go_at_call 139; refine (takeInt_any a l cap at_ _ HV.out hn).mono ?_; rintro e w' ⟨rfl, rfl⟩; rw [HH.out]; unfold outI tri)
      go_ret3
      exact ⟨rfl, rfl⟩

set_option maxHeartbeats 400000 in
theorem takeText_ok0 (b off : Nat) (l : List UInt8) (j k : Nat) (most : Int) (w : World) (hr : Rd w b off l) (hc : l.length ≤ j + k) (hn : l.length ≤ 281474976710656) (h : tInt l (j : Int) = some ((0 : Int), k))
    (hm : (0 : Int) ≤ most) (hl : j + k ≤ l.length) :
    Calls Tryz.prog 141 #[.slice (some ⟨b, off, none⟩) l.length (j + k), .int .i64 j, .int .i64 most] w fun e w' => e = .returned (triS [] ((j : Int) + (k : Int)) true) ∧ w' = w := by
  have HR := hid hr
  have HH := hid h
  clear hr h
  have b2 : decide (most < (0 : Int)) = false := decide_eq_false (by omega)
  have b3 : decide ((l.length : Int) - ((j : Int) + k) < 0) = false := decide_eq_false (by omega)
  have hcv := conv_empty (w := w) (some ⟨b, off, none⟩) 0 (fun h => by cases h)
  go_enter Tryz.func141, Tryz.ntmps141
  go_wp2_with (go_at_call 139; refine (takeInt_any _ l (j + k) j _ (Sl.mk HR.out hc) hn).mono ?_; rintro e w' ⟨rfl, rfl⟩; rw [HH.out]; unfold outI tri)
  go_ret3
  exact ⟨rfl, rfl⟩

set_option maxHeartbeats 400000 in
theorem takeText_ok1 (b off : Nat) (l : List UInt8) (cap j k n : Nat) (most : Int) (w : World) (hr : Rd w b off l) (hc : l.length ≤ cap) (hn : l.length ≤ 281474976710656) (h : tInt l (j : Int) = some ((n : Int), k))
    (hm : (n : Int) ≤ most) (hl : j + k + n ≤ l.length) (hcap : j + k < cap) :
    Calls Tryz.prog 141 #[.slice (some ⟨b, off, none⟩) l.length cap, .int .i64 j, .int .i64 most] w fun e w' => e = .returned (triS ((l.drop (j + k)).take n) ((j : Int) + ((k + n : Nat) : Int)) true) ∧ w' = w := by
  have HR := hid hr
  have HH := hid h
  clear hr h
  have b1 : decide ((n : Int) < 0) = false := decide_eq_false (by omega)
  have b2 : decide (most < (n : Int)) = false := decide_eq_false (by omega)
  have b3 : decide ((l.length : Int) - ((j : Int) + k) < n) = false := decide_eq_false (by omega)
  have hcv := conv_sub HR.out (j + k) n (by omega) hc (c := cap - (j + k)) (by omega)
  go_enter Tryz.func141, Tryz.ntmps141
  go_wp2_with (go_at_call 139; refine (takeInt_any _ l cap j _ (Sl.mk HR.out hc) hn).mono ?_; rintro e w' ⟨rfl, rfl⟩; rw [HH.out]; unfold outI tri)
  go_ret3
  refine ⟨?_, rfl⟩
  show Ending.returned (triS ((l.drop (j + k)).take n) ((j : Int) + k + n) true) = _
  rw [Int.natCast_add, Int.add_assoc]

theorem tInt_len {l : List UInt8} {at_ n : Int} {k : Nat} (h : tInt l at_ = some (n, k)) : 0 ≤ at_ ∧ at_ + k ≤ l.length ∧ takeI (l.drop at_.toNat) = some (n, k) ∧ l ≠ [] := by
  unfold tInt at h
  by_cases hc : 0 ≤ at_ ∧ at_ ≤ l.length
  · rw [if_pos hc] at h
    have := takeI_len h
    rw [List.length_drop] at this
    exact ⟨hc.1, by omega, h, by intro e; rw [e] at this; simp at this; omega⟩
  · rw [if_neg hc] at h; cases h

/-- TakeText, whatever it is given. -/
theorem takeText_any (a : Option Addr) (l : List UInt8) (cap : Nat) (at_ most : Int) (w : World) (hv : Sl w (.slice a l.length cap) l) (hn : l.length ≤ 281474976710656) :
    Calls Tryz.prog 141 #[.slice a l.length cap, .int .i64 at_, .int .i64 most] w fun e w' => e = .returned (outS (tText l at_ most) at_) ∧ w' = w := by
  unfold tText
  cases hT : tInt l at_ with
  | none => exact takeText_no a l cap at_ most w hv hn hT
  | some p =>
    obtain ⟨n, k⟩ := p
    obtain ⟨h0, h1, _, hne⟩ := tInt_len hT
    dsimp only
    by_cases hc : 0 ≤ n ∧ n ≤ most ∧ n ≤ (l.length : Int) - (at_ + k)
    · rw [if_pos hc]
      obtain ⟨j, rfl⟩ := Int.eq_ofNat_of_zero_le h0
      obtain ⟨m, rfl⟩ := Int.eq_ofNat_of_zero_le hc.1
      rw [Int.toNat_natCast, Int.toNat_natCast]
      obtain ⟨a', cap', he, h2, h3, h4⟩ := hv
      cases he
      obtain ⟨b, off, rfl, hr⟩ := h4 hne
      by_cases hcap : j + k < cap
      · exact takeText_ok1 b off l cap j k m most w hr h2 hn hT hc.2.1 (by omega) hcap
      · obtain rfl : cap = j + k := by omega
        obtain rfl : m = 0 := by omega
        exact takeText_ok0 b off l j k most w hr h2 hn hT hc.2.1 (by omega)
    · rw [if_neg hc]
      exact takeText_bad a l cap at_ most n k w hv hn hT h0 h1 (by omega)
end Go.Proofs.YtddbiiejilcbbaaGreatDoor
namespace Go.Proofs.YtddbiiejilcbbaaGreatDoor
open Go Go.ChangeShapes Go.WideShapes Go.ChangeAt Go.WideMaps Go.WideElems Go.RowKit Go.ChangeMaps Go.Deep

theorem own : ownKnob Tryz.prog.godebug = none := by kernel_rfl
theorem laidOut : laidOutB Tryz.prog = true := by kernel_rfl
theorem spot_none {w : World} {ad : Addr} {v : Value} (h : w.cell? (ad.add 0) = some v) : ad.spot = none := by
  simpa [Addr.add] using World.cell?_spot h
end Go.Proofs.YtddbiiejilcbbaaGreatDoor
