/- the text SPartsM -/
import Derived.Test.YtmdpccjhjhkpgaaGreatDoorSGj
namespace Go.Proofs.YtmdpccjhjhkpgaaGreatDoor
open Go Go.RowKit

theorem showT_len (a : Int) : (showL a).length ≤ 100 := by
  have h1 := clampI_le a
  have h2 := clampI_ge a
  have hp : ∀ c : Int, 0 ≤ c → c ≤ 1000000000000000 → (showPos c).length ≤ 50 := fun c c0 c1 => by
    unfold showPos
    have l1 := itoa_len (n := c / 1000000) (by omega) (by omega)
    have l2 := putN_len ([], c % 1000000, 1000000) 6
    have l3 : (fracDigits (c % 1000000)).length ≤ 6 := by unfold fracDigits; simpa using l2
    split <;> simp <;> omega
  unfold showL
  split
  · have := hp (- clampI a) (by omega) (by omega); simp; omega
  · have := hp (clampI a) (by omega) (by omega); omega
theorem headD_len : ∀ (l : List (List UInt8)), (∀ x ∈ l, x.length ≤ 10) → (l.headD []).length ≤ 10
  | [], _ => by simp
  | x :: _, h => h x (by simp)
theorem dsh_len (n : Nat) : (dsh n).length ≤ 10 := by
  unfold dsh
  refine headD_len _ (fun x hx => ?_)
  simp only [List.mem_flatMap, List.mem_filterMap, List.mem_range] at hx
  obtain ⟨y, _, m, _, d, _, he⟩ := hx
  split at he
  · cases he; simp [shL, dg_len]
  · cases he
/-- What parts take in a text, at most. -/
def sumW : List Wr → Nat
  | [] => 0
  | x :: r => (fw x).length + 10 + sumW r
theorem fwl_sum : ∀ (b : Bool) (ks : List Wr), (fwl b ks).length ≤ sumW ks
  | _, [] => by simp [fwl]
  | b, x :: r => by
    have := fwl_sum false r
    rw [fwl, sumW]
    cases b <;> simp <;> omega
theorem prn_len (b : Bool) (l : List UInt8) : (prn b l).length ≤ l.length + 2 := by cases b <;> simp [prn]
theorem tru_len (n : Int) : (tru n).length ≤ 5 := by unfold tru; cases n == 0 <;> simp
theorem ahd_len (s : List UInt8) : (ahd s).length ≤ s.length + 1 := by unfold ahd; cases nam s <;> simp
theorem mkW_len {k : Int} {tx : List UInt8} {n : Int} {ks : List Wr} (ho : own k tx n = true) (hk : kidsOk k ks.length = true) : (fw (mkW k tx n ks)).length ≤ 150 + sumW ks := by
  have h0 := own_len ho
  unfold mkW
  by_cases e : k = 5
  · subst e
    have := showT_len n
    show (fw (.word (showL n))).length ≤ _
    rw [fw]; omega
  by_cases e : k = 6
  · subst e
    have := dsh_len n.toNat
    show (fw (.word (dsh n.toNat))).length ≤ _
    rw [fw]; omega
  by_cases e : k = 8
  · subst e
    have := tru_len n
    show (fw (.word (tru n))).length ≤ _
    rw [fw]; omega
  by_cases e : k = 9
  · subst e
    show (fw (.word (quo _ tx))).length ≤ _
    rw [fw]; simp [quo]; omega
  by_cases e : k = 11
  · subst e
    have := fwl_sum true ks
    show (fw (.list tx ks)).length ≤ _
    rw [fw]; simp; omega
  by_cases e : k = 15
  · subst e
    have := fwl_sum true ks
    show (fw (.list (quo _ tx) ks)).length ≤ _
    rw [fw]; simp [quo]; omega
  by_cases e : k = 12
  · subst e
    obtain ⟨a, rfl⟩ : ∃ a, ks = [a] := by
      match ks, hk with
      | [a], _ => exact ⟨a, rfl⟩
      | [], h => exact absurd h (by decide)
      | _ :: _ :: r, h => simp [kidsOk, kidsOf] at h; omega
    have h1 := prn_len a.isOp (fw a)
    have h2 := ahd_len tx
    show (fw (.unary (ahd tx) a)).length ≤ _
    rw [fw]; simp [sumW]; omega
  by_cases e : k = 13
  · subst e
    obtain ⟨a, b, rfl⟩ : ∃ a b, ks = [a, b] := by
      match ks, hk with
      | [a, b], _ => exact ⟨a, b, rfl⟩
      | [], h => exact absurd h (by decide)
      | [_], h => exact absurd h (by simp [kidsOk, kidsOf])
      | _ :: _ :: _ :: r, h => simp [kidsOk, kidsOf] at h; omega
    have h1 := prn_len a.isOp (fw a)
    have h2 := prn_len b.isOp (fw b)
    show (fw (.binary tx a b)).length ≤ _
    rw [fw]; simp [sumW]; omega
  by_cases e : k = 14
  · subst e
    obtain ⟨a, b, c, rfl⟩ : ∃ a b c, ks = [a, b, c] := by
      match ks, hk with
      | [a, b, c], _ => exact ⟨a, b, c, rfl⟩
      | [], h => exact absurd h (by decide)
      | [_], h => exact absurd h (by simp [kidsOk, kidsOf])
      | [_, _], h => exact absurd h (by simp [kidsOk, kidsOf])
      | _ :: _ :: _ :: _ :: r, h => simp [kidsOk, kidsOf] at h; omega
    show (fw (.choice a b c)).length ≤ _
    rw [fw]; simp [sumW]; omega
  rw [beq_false_of_ne ‹k ≠ 5›, beq_false_of_ne ‹k ≠ 6›, beq_false_of_ne ‹k ≠ 8›, beq_false_of_ne ‹k ≠ 9›, beq_false_of_ne ‹k ≠ 11›, beq_false_of_ne ‹k ≠ 15›, beq_false_of_ne ‹k ≠ 12›, beq_false_of_ne ‹k ≠ 13›, beq_false_of_ne ‹k ≠ 14›]
  show (fw (.word tx)).length ≤ _
  rw [fw]; omega
theorem lfts_cons_nn {t : Tr} {r : List Tr} {m : Int} (h : 0 ≤ lfts (t :: r) m) : 0 ≤ m ∧ 0 ≤ lft t m ∧ lfts (t :: r) m = lfts r (lft t m) := by
  rw [lfts] at h ⊢
  by_cases hm : 0 ≤ m
  · rw [if_pos hm] at h ⊢
    refine ⟨hm, ?_, rfl⟩
    by_cases h1 : 0 ≤ lft t m
    · exact h1
    · rw [lfts_neg r _ (by omega)] at h; exact h
  · rw [if_neg hm] at h; exact absurd h hm
theorem sumW_le (ks : List Tr) (d : Nat) (ih : ∀ t ∈ ks, ∀ (d : Nat) (m : Int), rt d t = true → 0 ≤ lft t m → ((fw (wrOf t)).length : Int) + 10 + 200 * lft t m ≤ 200 * m) : ∀ m : Int, ks.all (rt d) = true → 0 ≤ lfts ks m → (sumW (wrsOf ks) : Int) + 200 * lfts ks m ≤ 200 * m := by
  induction ks with
  | nil => intro m _ _; simp [wrsOf, sumW, lfts]
  | cons t r ihr =>
    intro m ha h
    simp only [List.all_cons, Bool.and_eq_true] at ha
    obtain ⟨h0, h1, h2⟩ := lfts_cons_nn h
    rw [h2] at h ⊢
    have q1 := ih t (by simp) d m ha.1 h1
    have q2 := ihr (fun s hs => ih s (by simp [hs])) (lft t m) ha.2 h
    rw [wrsOf, sumW]
    omega
theorem fw_sum (t : Tr) : ∀ (d : Nat) (m : Int), rt d t = true → 0 ≤ lft t m → ((fw (wrOf t)).length : Int) + 10 + 200 * lft t m ≤ 200 * m := by
  refine Tr.ind (P := fun t => ∀ (d : Nat) (m : Int), rt d t = true → 0 ≤ lft t m → ((fw (wrOf t)).length : Int) + 10 + 200 * lft t m ≤ 200 * m) ?_ t
  intro k tx n kids at_ ih d m hr hl
  cases d with
  | zero => rw [rt] at hr; cases hr
  | succ d =>
    rw [rt] at hr
    simp only [Bool.and_eq_true] at hr
    rw [lft] at hl ⊢
    have q1 := sumW_le kids d ih (m - 1) hr.2 hl
    have q2 := mkW_len (ks := wrsOf kids) hr.1.1 (by rw [wrsOf_len]; exact hr.1.2)
    rw [wrOf]
    omega
theorem fw_len {t : Tr} (h : (rt 100 t && decide (0 ≤ lft t 8192)) = true) : (fw (wrOf t)).length ≤ 140737488355328 := by
  simp only [Bool.and_eq_true, decide_eq_true_eq] at h
  have := fw_sum t 100 8192 h.1 h.2
  omega
/-- The program's Expr. -/
theorem sexpr_any {t : Tr} {w : World} {v : Value} (hok : t.Ok) (htb : Tb w.heap.size w) (hnd : Nd w v t) : Calls Tryz.prog 10 #[v] w fun e w' =>
    ((rt 100 t && decide (0 ≤ lft t 8192)) = true ∧ e = .returned (.tuple #[strV (fw (wrOf t)), .int .i64 0]) ∧ Below w.heap.size w w') ∨ ((rt 100 t && decide (0 ≤ lft t 8192)) = false ∧ e = .returned (.tuple #[strV [], .int .i64 90]) ∧ Below w.heap.size w w') := by
  refine (expr12_any hok htb hnd (fun h => fw_len h)).mono fun e w' h => ?_
  rcases Bool.eq_false_or_eq_true (rt 100 t && decide (0 ≤ lft t 8192)) with hb | hb
  · rw [hb] at h; exact .inl ⟨hb, h⟩
  · rw [hb] at h; exact .inr ⟨hb, h⟩
theorem wr_if {tx : List UInt8} {n : Int} {a b c : Tr} {at_ : Int} : fw (wrOf (.mk 14 tx n [a, b, c] at_)) = [105, 102, 32] ++ fw (wrOf a) ++ [32, 116, 104, 101, 110, 32] ++ fw (wrOf b) ++ [32, 101, 108, 115, 101, 32] ++ fw (wrOf c) := by
  have h : wrOf (.mk 14 tx n [a, b, c] at_) = .choice (wrOf a) (wrOf b) (wrOf c) := by rw [wrOf, wrsOf_map]; rfl
  rw [h, fw]
end Go.Proofs.YtmdpccjhjhkpgaaGreatDoor
