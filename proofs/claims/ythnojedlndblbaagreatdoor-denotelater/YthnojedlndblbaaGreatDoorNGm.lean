/- texts put together: NPure NRac0 NRac NPure2 NFw -/
import Derived.Test.YthnojedlndblbaaGreatDoorNGj
import Derived.Test.YthnojedlndblbaaGreatDoorNGi
import Derived.Test.YthnojedlndblbaaGreatDoorNGd
import Derived.Test.DevTool
namespace Go.Proofs.YthnojedlndblbaaGreatDoor
open Go Go.RowKit

theorem beg_cases (fs : Fs) (day : Int) (c : Co) : (begR fs day c = (acq fs day c 0 1000000, 0) ∧ (chkP c == 0 && (dayP day && rfP fs)) = true) ∨ (begR fs day c = (r0, 150) ∧ (chkP c == 0 && (dayP day && rfP fs)) = false) := by
  unfold begR
  cases (chkP c == 0 && (dayP day && rfP fs)) with
  | true => exact .inl ⟨rfl, rfl⟩
  | false => exact .inr ⟨rfl, rfl⟩
theorem ste_cases (fs : Fs) (day : Int) (lab : List UInt8) (which : Int) (c : Co) (l : List (Int × Int)) : (steR fs day lab which c l = (stepP fs day lab which c l, 0) ∧ (chkP c == 0 && (dayP day && rfP fs)) = true ∧ rlP c l = true) ∨ (steR fs day lab which c l = (r0, 150) ∧ ((chkP c == 0 && (dayP day && rfP fs) && rcP lab which) && rlP c l) = false) := by
  unfold steR
  cases h : ((chkP c == 0 && (dayP day && rfP fs) && rcP lab which) && rlP c l) with
  | true =>
    simp only [Bool.and_eq_true] at h
    exact .inl ⟨rfl, by simp only [Bool.and_eq_true]; exact h.1.1, h.2⟩
  | false => exact .inr ⟨rfl, rfl⟩
end Go.Proofs.YthnojedlndblbaaGreatDoor
namespace Go.Proofs.YthnojedlndblbaaGreatDoor
open Go Go.RowKit

section
variable {P : Program} {F : Exit → Act → World → Prop} {s : St} {n0 g : Nat} {day : Int} {fv lv tv lv1 tv1 : Value} {ls1 : List (Int × Int)} {ts1 : List (List UInt8 × Int)} {w : World}
end
section
variable {P : Program} {F : Exit → Act → World → Prop} {Inv : World → Prop} {s : St}
theorem TookS.effM (i : Nat) (I : Sem Value) (hr : ∀ w, Holds s.mem w → s.mem.ids.Nodup → Stay s.mem.ids w Inv → Holds (anyM s) w → ∃ v w' Inv' m, I.run P w = .ok v w' ∧ Holds (anyM s) w' ∧ Holds m w' ∧ m.ids.Nodup ∧ Stay m.ids w' Inv' ∧ Goes P F Inv' (putA i s v m)) (hw : anyWant i s = true := by kernel_rfl) (ho' : (anyOp i s).map (execOp (evalL s.tmps)) = some (vS I) := by kernel_rfl) : TookS P F Inv i s := by
  intro ops m0 n l k ht w h1 h2 h3 h0
  unfold anyWant at hw
  unfold anyM at hr
  unfold anyOp at ho'
  rw [ht] at hw hr ho'
  simp only at hw hr ho'
  cases ho : ops[i]? with
  | none => rw [ho] at hw; simp at hw
  | some o =>
    rw [ho] at hw ho'
    simp only [Option.map_some, Option.some.injEq] at hw ho'
    obtain ⟨v, w', Inv', m, he, h10, h4, h5, h6, h7⟩ := hr w h1 h2 h3 h0
    have h9 := h7 w'
    unfold putA at h9
    rw [ht] at h9
    simp only [ho] at h9
    unfold wpOp
    rw [ho]
    simp only [hw, if_true]
    unfold Oper.wp
    rw [evalL_eq, ho', vS_run he, Oper.upon_value, putL_eq]
    exact .inl ⟨h10, h9 h4 h5 h6 h10⟩
end
end Go.Proofs.YthnojedlndblbaaGreatDoor
namespace Go.Proofs.YthnojedlndblbaaGreatDoor
open Go Go.RowKit

end Go.Proofs.YthnojedlndblbaaGreatDoor
namespace Go.Proofs.YthnojedlndblbaaGreatDoor
open Go Go.RowKit

theorem st_less {a b : Int} (h : b ≤ a) : ∀ {l : List (Int × Int)}, stOk a l = true → stOk b l = true
  | [], _ => rfl
  | q :: r, h1 => by
    rw [stOk] at h1 ⊢
    simp only [Bool.and_eq_true, Bool.not_eq_true', decide_eq_false_iff_not] at h1 ⊢
    exact ⟨⟨⟨by omega, h1.1.1.2⟩, h1.1.2⟩, h1.2⟩
theorem st_told {day : Int} : ∀ {l : List (Int × Int)} {last : Int}, stOk last l = true → stOk last (l.filter fun q => decide (q.1 ≤ day)) = true
  | [], _, _ => rfl
  | q :: r, last, h => by
    rw [stOk] at h
    simp only [Bool.and_eq_true, Bool.not_eq_true', decide_eq_false_iff_not] at h
    by_cases hq : q.1 ≤ day
    · rw [List.filter_cons, if_pos (by simpa using hq), stOk, st_told h.2, h.1.1.2, h.1.2, decide_eq_false h.1.1.1]
      rfl
    · rw [List.filter_cons, if_neg (by simpa using hq)]
      exact st_less (by omega) (st_told h.2)
theorem stm_told {day : Int} {l : List (Int × Int)} (h : stmP l = true) : stmP (l.filter fun q => decide (q.1 ≤ day)) = true := by
  unfold stmP at h ⊢
  simp only [Bool.and_eq_true, decide_eq_true_eq] at h ⊢
  exact ⟨Nat.le_trans (List.length_filter_le _ _) h.1, st_told h.2⟩
theorem fd_told {day : Int} : ∀ {fs : Fs} {last : List UInt8}, fdOk last fs = true → fdOk last (toldP day fs) = true
  | [], _, _ => rfl
  | f :: r, last, h => by
    rw [fdOk] at h
    simp only [Bool.and_eq_true] at h
    have ih := fd_told (day := day) h.2
    unfold toldP at ih ⊢
    rw [List.map_cons, fdOk, ih]
    simp only [h.1.1.1, h.1.1.2, stm_told h.1.2, Bool.and_self]
theorem rf_told {day : Int} {fs : Fs} (h : rfP fs = true) : rfP (toldP day fs) = true := by
  unfold rfP at h ⊢
  simp only [Bool.and_eq_true, decide_eq_true_eq] at h ⊢
  exact ⟨by unfold toldP; simpa using h.1, fd_told h.2⟩
mutual
/-- A right term that does not look ahead. -/
theorem no_ahead : ∀ (c : Co) (d : Int), (typF d c).2 = true → ahC c = false → allN noAh c = true
  | .mk op k t kids, d, h, ha => by
    obtain ⟨ho, -, hk⟩ := typ_kids h
    rw [ahC, Bool.or_eq_false_iff] at ha
    rw [allN, no_aheadL kids (d + 1) hk ha.2, Bool.and_true, noAh]
    cases h4 : (op == 4) with
    | false => rfl
    | true =>
      have := eq_of_beq h4
      subst this
      have hn : ownN 4 k = true := by unfold ownC at ho; simp only [Bool.and_eq_true] at ho; exact ho.1
      have hi : inW k (-3660) 3660 = true := hn
      unfold inW at hi
      have hk0 : decide (k < 0) = false := ha.1
      simp only [Bool.and_eq_true, decide_eq_true_eq, decide_eq_false_iff_not] at hi hk0
      simp only [cond_true, Bool.and_eq_true, decide_eq_true_eq]
      omega
theorem no_aheadL : ∀ (l : List Co) (d : Int), (∀ c ∈ l, (typF d c).2 = true) → ahL l = false → allK noAh l = true
  | [], _, _, _ => rfl
  | c :: r, d, h, ha => by
    rw [ahL, Bool.or_eq_false_iff] at ha
    rw [allK, no_ahead c d (h c (by simp)) ha.1, no_aheadL r d (fun x hx => h x (by simp [hx])) ha.2]
    rfl
end
theorem chk_noah {c : Co} (h : (chkP c == 0) = true) : allN noAh c = true := by
  obtain ⟨h1, -, h3⟩ := chk_typ h
  exact no_ahead c 1 (by rw [h1]) h3
theorem day_in {day : Int} (h : dayP day = true) : 0 ≤ day ∧ day ≤ 73048 := by
  unfold dayP at h
  simpa using h
theorem beg_told {fs : Fs} {day : Int} {c : Co} (hR : rfP fs = true) : begR (toldP day fs) day c = begR fs day c := by
  unfold begR
  rw [rf_told hR, hR]
  cases hc : (chkP c == 0) with
  | false => rfl
  | true =>
    cases hd : dayP day with
    | false => rfl
    | true =>
      simp only [Bool.and_self, cond_true]
      rw [acq_told (day_in hd).1 (day_in hd).2 c (chk_noah hc)]
theorem ste_told {fs : Fs} {day : Int} {lab : List UInt8} {which : Int} {c : Co} {l : List (Int × Int)} (hR : rfP fs = true) : steR (toldP day fs) day lab which c l = steR fs day lab which c l := by
  unfold steR
  rw [rf_told hR, hR]
  cases hc : (chkP c == 0) with
  | false => rfl
  | true =>
    cases hd : dayP day with
    | false => rfl
    | true => rw [step_told (day_in hd).1 (day_in hd).2 lab which (chk_noah hc)]
end Go.Proofs.YthnojedlndblbaaGreatDoor
namespace Go.Proofs.YthnojedlndblbaaGreatDoor
open Go Go.RowKit

def StR (base : Nat) (w : World) (v : Value) (l : List (Int × Int)) : Prop := w.ownsRow base 81 2 v l.length (lvC l)
theorem StR.nil {base : Nat} {w : World} : StR base w (.slice none 0 0) [] := w.ownsRow_nil _ _ _
theorem StR.sts {base : Nat} {w : World} {v : Value} {l : List (Int × Int)} (h : StR base w v l) : Sts w.heap.size w v l := by
  by_cases h0 : l.length = 0
  · obtain ⟨a, cap, e⟩ := own_form h
    have hl := List.eq_nil_of_length_eq_zero h0
    subst hl
    rcases h.2 with ⟨e2, -⟩ | ⟨g, cap', cur, e2, -, -, h1, h2, -⟩
    · exact ⟨none, 0, e2, ⟨by simp, by omega⟩, fun i q hq => by simp at hq⟩
    · exact ⟨_, cap', e2, ⟨h1, by unfold maxLen at h2; omega⟩, fun i q hq => by simp at hq⟩
  · obtain ⟨g, cap, cur, e, hg, h1, h2, hc⟩ := own_open h h0
    refine ⟨some ⟨g, 0, none⟩, cap, e, ⟨h1, by unfold maxLen at h2; omega⟩, fun i q hq => ⟨g, 0, rfl, lt_of_get hg, ?_, ?_⟩⟩
    · rw [Nat.zero_add]; exact cell_obj hg (hc _ _ (lvC_at hq).1)
    · rw [Nat.zero_add]; exact cell_obj hg (hc _ _ (lvC_at hq).2)
theorem StR.add {base : Nat} {w : World} {v : Value} {ls : List (Int × Int)} (h : StR base w v ls) (hb : base ≤ w.heap.size) (x : Int × Int) {bj c : Nat} {et ty : TypeId} {z : Nat × Nat} (hj : w.heap[bj]? = some (.cells #[.int .i64 x.1, .int .i64 x.2] et z)) (hl : (ls.length + 1) * 16 ≤ 140737488355328) :
    ∃ b c' w', (Builtin.append_ #[77, 77] ty #[v, .slice (some ⟨bj, 0, none⟩) 1 c]).run Tryz.prog w = .ok (.slice (some ⟨b, 0, none⟩) (ls.length + 1) c') w' ∧ StR base w' (.slice (some ⟨b, 0, none⟩) (ls.length + 1) c') (ls ++ [x]) ∧ w.grownBy w' v.ownBlock ∧ (v.ownBlock = some b ∨ b = w.heap.size) := by
  obtain ⟨b, c', w', hr, hrow, hgr, hob⟩ := append_coreA (P := Tryz.prog) (t := 77) (e := 81) (ty := ty) (size := 2) (bytes := 16) (a := ⟨bj, 0, none⟩) (m := 1) (c := c) (news := [.int .i64 x.1, .int .i64 x.2]) h hb (by simp) (cell_row hj) (by simp [Value.oneCell']) (.inr (by omega)) (by unfold maxLen; omega) (by omega) (by kernel_chk)
  refine ⟨b, c', w', hr, ?_, hgr, ?_⟩
  · unfold StR
    rw [lvC_app, List.length_append]
    exact hrow
  · rcases hob with h | h
    · exact .inl h.symm
    · refine .inr ?_
      simp [Value.ownBlock] at h
      exact h
abbrev Fx := List UInt8 × List (Int × Int)
def fdC (X : List (Fx × Value)) : List Value := X.flatMap fun x => [strV x.1.1, x.2]
theorem fdC_at : ∀ {X : List (Fx × Value)} {i : Nat} {q : Fx × Value}, X[i]? = some q → (fdC X)[i * 2]? = some (strV q.1.1) ∧ (fdC X)[i * 2 + 1]? = some q.2
  | [], i, q, h => by simp at h
  | x :: r, 0, q, h => by simp at h; subst h; exact ⟨rfl, rfl⟩
  | x :: r, i + 1, q, h => by
    have := fdC_at (X := r) (i := i) (by simpa using h)
    unfold fdC at this ⊢
    rw [List.flatMap_cons, show (i + 1) * 2 = i * 2 + 2 by omega]
    simpa using this
/-- Feeds in a row of one's own, their stamps too. -/
structure FdW (base : Nat) (w : World) (v : Value) (X : List (Fx × Value)) : Prop where
  row : w.ownsRow base 79 2 v X.length (fdC X)
  kid : ∀ x ∈ X, StR base w x.2 x.1.2
theorem FdW.nil {base : Nat} {w : World} : FdW base w (.slice none 0 0) [] := ⟨w.ownsRow_nil _ _ _, by simp⟩
theorem FdW.fds {base : Nat} {w : World} {v : Value} {X : List (Fx × Value)} (h : FdW base w v X) : Fds w.heap.size w v (X.map (·.1)) := by
  by_cases h0 : X.length = 0
  · have hl := List.eq_nil_of_length_eq_zero h0
    subst hl
    rcases h.row.2 with ⟨e2, -⟩ | ⟨g, cap', cur, e2, -, -, h1, h2, -⟩
    · exact ⟨none, 0, e2, ⟨by simp, by omega⟩, fun i q hq => by simp at hq⟩
    · exact ⟨_, cap', e2, ⟨h1, by unfold maxLen at h2; omega⟩, fun i q hq => by simp at hq⟩
  · obtain ⟨g, cap, cur, e, hg, h1, h2, hc⟩ := own_open h.row h0
    refine ⟨some ⟨g, 0, none⟩, cap, by rw [List.length_map]; exact e, ⟨by rw [List.length_map]; exact h1, by unfold maxLen at h2; omega⟩, fun i f hf => ?_⟩
    rw [List.getElem?_map] at hf
    obtain ⟨q, hq, rfl⟩ := Option.map_eq_some_iff.1 hf
    obtain ⟨c0, c1⟩ := fdC_at hq
    refine ⟨g, 0, q.2, rfl, lt_of_get hg, ?_, ?_, (h.kid q (List.mem_of_getElem? hq)).sts⟩
    · rw [Nat.zero_add]; exact cell_obj hg (hc _ _ c0)
    · rw [Nat.zero_add]; exact cell_obj hg (hc _ _ c1)
theorem FdW.add {base : Nat} {w : World} {v : Value} {X : List (Fx × Value)} (h : FdW base w v X) (hb : base ≤ w.heap.size) (x : Fx) {u : Value} (hu : StR base w u x.2) {bj c : Nat} {et ty : TypeId} {z : Nat × Nat} (hj : w.heap[bj]? = some (.cells #[strV x.1, u] et z)) (hl : (X.length + 1) * 40 ≤ 140737488355328) :
    ∃ b c' w', (Builtin.append_ #[25, 25] ty #[v, .slice (some ⟨bj, 0, none⟩) 1 c]).run Tryz.prog w = .ok (.slice (some ⟨b, 0, none⟩) (X.length + 1) c') w' ∧ FdW base w' (.slice (some ⟨b, 0, none⟩) (X.length + 1) c') (X ++ [(x, u)]) ∧ w.grownBy w' v.ownBlock ∧ (v.ownBlock = some b ∨ b = w.heap.size) := by
  obtain ⟨a, cu, rfl⟩ := own_form hu
  obtain ⟨b, c', w', hr, hrow, hgr, hob⟩ := append_coreA (P := Tryz.prog) (t := 25) (e := 79) (ty := ty) (size := 2) (bytes := 40) (a := ⟨bj, 0, none⟩) (m := 1) (c := c) (news := [strV x.1, .slice a x.2.length cu]) h.row hb (by simp) (cell_row hj) (by simp [Value.oneCell', strV]) (.inr (by omega)) (by unfold maxLen; omega) (by omega) (by kernel_chk)
  refine ⟨b, c', w', hr, ⟨?_, fun y hy => ?_⟩, hgr, ?_⟩
  · rw [show fdC (X ++ [(x, Value.slice a x.2.length cu)]) = fdC X ++ [strV x.1, .slice a x.2.length cu] by unfold fdC; simp, List.length_append, List.length_singleton]
    exact hrow
  · rcases List.mem_append.1 hy with hy | hy
    · exact own_kept (h.kid y hy) hgr fun b hb => own_ne (h.kid y hy) h.row (by decide) hb
    · rw [List.mem_singleton] at hy
      subst hy
      exact own_kept hu hgr fun b hb => own_ne hu h.row (by decide) hb
  · rcases hob with h | h
    · exact .inl h.symm
    · refine .inr ?_
      simp [Value.ownBlock] at h
      exact h
end Go.Proofs.YthnojedlndblbaaGreatDoor
