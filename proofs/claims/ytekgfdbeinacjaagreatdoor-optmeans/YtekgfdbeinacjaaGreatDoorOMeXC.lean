/- the text OMeX -/
import Derived.Test.YtekgfdbeinacjaaGreatDoorOMeMC
import Derived.Test.YtekgfdbeinacjaaGreatDoorAG15
import Derived.Test.YtekgfdbeinacjaaGreatDoorAG16
namespace Go.Proofs.YtekgfdbeinacjaaGreatDoor
open Go

/-- What waits in both, side by side. -/
structure Lk (c e : Co) (l m : List (Int × Int)) : Prop where
  pair : F2 (Lv c 0 e 0) l m
  gl : Gd c l
  gm : Gd e m
  fl : ∀ x ∈ l, inM x.2
  fm : ∀ x ∈ m, inM x.2
theorem Lk.nil {c e : Co} : Lk c e [] [] := ⟨.nil, ⟨by simp, by simp⟩, ⟨by simp, by simp⟩, by simp, by simp⟩
theorem Lk.len {c e : Co} {l m : List (Int × Int)} (h : Lk c e l m) : m.length = l.length := h.pair.len.symm
theorem Lk.fac {c e : Co} {l m : List (Int × Int)} (h : Lk c e l m) (i : Nat) (x y : Int × Int) (hx : l[i]? = some x) (hy : m[i]? = some y) : y.2 = x.2 := (h.pair.at hx hy).1
theorem do_rw {c e : Co} {n : Int} (h : doP c n = some e) : okT 4 1 c = true ∧ Rw false 4 1 c e := by
  obtain ⟨-, hc, rfl⟩ := do_some h
  obtain ⟨q1, -, -⟩ := chk_ok hc
  exact ⟨q1, (rw_good (rules_sub n) c 4 1 (.inr (.inr (.inr rfl))) q1).2⟩
theorem RF.nil : RF [] := fun f hf => by cases hf
theorem beg_pair {c e : Co} {n : Int} (h : doP c n = some e) (day : Int) : ∃ l m t z, begR [] day c = ((l, t), z) ∧ begR [] day e = ((m, t), z) ∧ (z = 0 ∨ z = 150) ∧ Lk c e l m := by
  obtain ⟨q1, q2⟩ := do_rw h
  have hc := (do_some h).2.1
  have he : (chkP e == 0) = true := by rw [(do_chk h).1]; rfl
  unfold begR
  rw [hc, he]
  cases (true && (dayP day && rfP [])) with
  | false => exact ⟨[], [], [], 150, rfl, rfl, .inr rfl, .nil⟩
  | true =>
    have hr := (rw_means q2 (.inr (.inr (.inr rfl))) q1).2.1 rfl [] day 0 0 1000000 RF.nil inM_one
    refine ⟨_, _, _, 0, rfl, ?_, .inl rfl, hr.lives, gd_acq [] day c 1000000, gd_acq [] day e 1000000, acq_fac [] day c 0 1000000 inM_one, acq_fac [] day e 0 1000000 inM_one⟩
    simp only [cond_true]
    rw [← hr.paid]
theorem ste_pair {c e : Co} {n : Int} (h : doP c n = some e) {l m : List (Int × Int)} (hk : Lk c e l m) (fs : Fs) (day : Int) (lab : List UInt8) (which : Int) : ∃ l' m' t z, steR fs day lab which c l = ((l', t), z) ∧ steR fs day lab which e m = ((m', t), z) ∧ (z = 0 ∨ z = 150) ∧ (z = 0 → Lk c e l' m') ∧ m'.length = l'.length ∧ ∀ (i : Nat) x y, l'[i]? = some x → m'[i]? = some y → y.2 = x.2 := by
  have hc := (do_some h).2.1
  have he : (chkP e == 0) = true := by rw [(do_chk h).1]; rfl
  unfold steR
  rw [hc, he, gd_rl hk.gl hk.fl, gd_rl hk.gm hk.fm]
  cases hb : ((true && (dayP day && rfP fs) && rcP lab which) && true) with
  | false => exact ⟨[], [], [], 150, rfl, rfl, .inr rfl, fun h => absurd h (by decide), rfl, fun i x y hx => by simp at hx⟩
  | true =>
    simp only [Bool.and_eq_true] at hb
    have hF : RF fs := (rf_right hb.1.1.2.2).rf
    have hr := steps_rel (c := c) (e := e) hF day lab which hk.pair hk.fl
    have hL : Lk c e (stepP fs day lab which c l).1 (stepP fs day lab which e m).1 := ⟨hr.lives, gd_step fs day lab which hk.gl, gd_step fs day lab which hk.gm, step_fac fs day lab which c hk.fl, step_fac fs day lab which e hk.fm⟩
    refine ⟨_, _, _, 0, rfl, ?_, .inl rfl, fun _ => hL, hL.len, hL.fac⟩
    simp only [cond_true]
    rw [← hr.paid]
end Go.Proofs.YtekgfdbeinacjaaGreatDoor
