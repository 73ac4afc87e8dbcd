/- texts put together: SPartsM SNumM SApartM RatioPlain RatioMath RefRatio SRShow DRef DParse DRefC -/
import Derived.Test.YtgpkcjpanpbhdaaGreatDoorSGj
import Derived.Test.YtgpkcjpanpbhdaaGreatDoorSGd
import Derived.Lib.Strings
import Derived.Lib.IndexMore
import Derived.Lib.IndexBytes
import Derived.Laws.Concat
import Derived.WalkSpells
import Derived.WalkLawsBesides
import Derived.Lib.SlBytesConst
set_option maxRecDepth 100000
set_option maxHeartbeats 4000000
namespace Go.Proofs.YtgpkcjpanpbhdaaGreatDoor
open Go Go.RowKit
theorem showT_len (a : Int) : (showL a).length ≤ 100 := by
 have h1 := clampI_le a
 have h2 := clampI_ge a
 have hp : ∀ c : Int, 0 ≤ c → c ≤ 1000000000000000 → (showPos c).length ≤ 50 := fun c c0 c1 => by
  unfold showPos
  have l1 := itoa_len (n := c / 1000000) (by omega) (by omega)
  have l2 := putN_len ([], c % 1000000, 1000000) 6
  have l3 : (fracDigits (c % 1000000)).length ≤ 6 := by unfold fracDigits; simpa using l2
  split <;> simp <;> omega
 unfold showL
 split
 ·have := hp (- clampI a) (by omega) (by omega); simp; omega
 ·have := hp (clampI a) (by omega) (by omega); omega
theorem headD_len : ∀ (l : List (List UInt8)), (∀ x ∈ l, x.length ≤ 10) → (l.headD []).length ≤ 10
 | [], _ => by simp
 | x :: _, h => h x (by simp)
theorem dsh_len (n : Nat) : (dsh n).length ≤ 10 := by
 unfold dsh
 refine headD_len _ (fun x hx => ?_)
 simp only [List.mem_flatMap, List.mem_filterMap, List.mem_range] at hx
 obtain ⟨y, _, m, _, d, _, he⟩ := hx
 split at he
 ·cases he; simp [shL, dg_len]
 ·cases he
def sumW : List Wr → Nat
 | [] => 0
 | x :: r => (fw x).length + 10 + sumW r
theorem fwl_sum : ∀ (b : Bool) (ks : List Wr), (fwl b ks).length ≤ sumW ks
 | _, [] => by simp [fwl]
 | b, x :: r => by
  have := fwl_sum false r
  rw [fwl, sumW]
  cases b <;> simp <;> omega
theorem prn_len (b : Bool) (l : List UInt8) : (prn b l).length ≤ l.length + 2 := by cases b <;> simp [prn]
theorem tru_len (n : Int) : (tru n).length ≤ 5 := by unfold tru; cases n == 0 <;> simp
theorem ahd_len (s : List UInt8) : (ahd s).length ≤ s.length + 1 := by unfold ahd; cases nam s <;> simp
theorem mkW_len {k : Int} {tx : List UInt8} {n : Int} {ks : List Wr} (ho : own k tx n = true) (hk : kidsOk k ks.length = true) : (fw (mkW k tx n ks)).length ≤ 150 + sumW ks := by
 have h0 := own_len ho
 unfold mkW
 by_cases e : k = 5
 ·subst e
  have := showT_len n
  show (fw (.word (showL n))).length ≤ _
  rw [fw]; omega
 by_cases e : k = 6
 ·subst e
  have := dsh_len n.toNat
  show (fw (.word (dsh n.toNat))).length ≤ _
  rw [fw]; omega
 by_cases e : k = 8
 ·subst e
  have := tru_len n
  show (fw (.word (tru n))).length ≤ _
  rw [fw]; omega
 by_cases e : k = 9
 ·subst e
  show (fw (.word (quo _ tx))).length ≤ _
  rw [fw]; simp [quo]; omega
 by_cases e : k = 11
 ·subst e
  have := fwl_sum true ks
  show (fw (.list tx ks)).length ≤ _
  rw [fw]; simp; omega
 by_cases e : k = 15
 ·subst e
  have := fwl_sum true ks
  show (fw (.list (quo _ tx) ks)).length ≤ _
  rw [fw]; simp [quo]; omega
 by_cases e : k = 12
 ·subst e
  obtain ⟨a, rfl⟩ : ∃ a, ks = [a] := by
   match ks, hk with
   | [a], _ => exact ⟨a, rfl⟩
   | [], h => exact absurd h (by decide)
   | _ :: _ :: r, h => simp [kidsOk, kidsOf] at h; omega
  have h1 := prn_len a.isOp (fw a)
  have h2 := ahd_len tx
  show (fw (.unary (ahd tx) a)).length ≤ _
  rw [fw]; simp [sumW]; omega
 by_cases e : k = 13
 ·subst e
  obtain ⟨a, b, rfl⟩ : ∃ a b, ks = [a, b] := by
   match ks, hk with
   | [a, b], _ => exact ⟨a, b, rfl⟩
   | [], h => exact absurd h (by decide)
   | [_], h => exact absurd h (by simp [kidsOk, kidsOf])
   | _ :: _ :: _ :: r, h => simp [kidsOk, kidsOf] at h; omega
  have h1 := prn_len a.isOp (fw a)
  have h2 := prn_len b.isOp (fw b)
  show (fw (.binary tx a b)).length ≤ _
  rw [fw]; simp [sumW]; omega
 by_cases e : k = 14
 ·subst e
  obtain ⟨a, b, c, rfl⟩ : ∃ a b c, ks = [a, b, c] := by
   match ks, hk with
   | [a, b, c], _ => exact ⟨a, b, c, rfl⟩
   | [], h => exact absurd h (by decide)
   | [_], h => exact absurd h (by simp [kidsOk, kidsOf])
   | [_, _], h => exact absurd h (by simp [kidsOk, kidsOf])
   | _ :: _ :: _ :: _ :: r, h => simp [kidsOk, kidsOf] at h; omega
  show (fw (.choice a b c)).length ≤ _
  rw [fw]; simp [sumW]; omega
 rw [beq_false_of_ne ‹k ≠ 5›, beq_false_of_ne ‹k ≠ 6›, beq_false_of_ne ‹k ≠ 8›, beq_false_of_ne ‹k ≠ 9›, beq_false_of_ne ‹k ≠ 11›, beq_false_of_ne ‹k ≠ 15›, beq_false_of_ne ‹k ≠ 12›, beq_false_of_ne ‹k ≠ 13›, beq_false_of_ne ‹k ≠ 14›]
 show (fw (.word tx)).length ≤ _
 rw [fw]; omega
theorem lfts_cons_nn {t : Tr} {r : List Tr} {m : Int} (h : 0 ≤ lfts (t :: r) m) : 0 ≤ m ∧ 0 ≤ lft t m ∧ lfts (t :: r) m = lfts r (lft t m) := by
 rw [lfts] at h ⊢
 by_cases hm : 0 ≤ m
 ·rw [if_pos hm] at h ⊢
  refine ⟨hm, ?_, rfl⟩
  by_cases h1 : 0 ≤ lft t m
  ·exact h1
  ·rw [lfts_neg r _ (by omega)] at h; exact h
 ·rw [if_neg hm] at h; exact absurd h hm
theorem sumW_le (ks : List Tr) (d : Nat) (ih : ∀ t ∈ ks, ∀ (d : Nat) (m : Int), rt d t = true → 0 ≤ lft t m → ((fw (wrOf t)).length : Int) + 10 + 200 * lft t m ≤ 200 * m) : ∀ m : Int, ks.all (rt d) = true → 0 ≤ lfts ks m → (sumW (wrsOf ks) : Int) + 200 * lfts ks m ≤ 200 * m := by
 induction ks with
 | nil => intro m _ _; simp [wrsOf, sumW, lfts]
 | cons t r ihr =>
  intro m ha h
  simp only [List.all_cons, Bool.and_eq_true] at ha
  obtain ⟨h0, h1, h2⟩ := lfts_cons_nn h
  rw [h2] at h ⊢
  have q1 := ih t (by simp) d m ha.1 h1
  have q2 := ihr (fun s hs => ih s (by simp [hs])) (lft t m) ha.2 h
  rw [wrsOf, sumW]
  omega
theorem fw_sum (t : Tr) : ∀ (d : Nat) (m : Int), rt d t = true → 0 ≤ lft t m → ((fw (wrOf t)).length : Int) + 10 + 200 * lft t m ≤ 200 * m := by
 refine Tr.ind (P := fun t => ∀ (d : Nat) (m : Int), rt d t = true → 0 ≤ lft t m → ((fw (wrOf t)).length : Int) + 10 + 200 * lft t m ≤ 200 * m) ?_ t
 intro k tx n kids at_ ih d m hr hl
 cases d with
 | zero => rw [rt] at hr; cases hr
 | succ d =>
  rw [rt] at hr
  simp only [Bool.and_eq_true] at hr
  rw [lft] at hl ⊢
  have q1 := sumW_le kids d ih (m - 1) hr.2 hl
  have q2 := mkW_len (ks := wrsOf kids) hr.1.1 (by rw [wrsOf_len]; exact hr.1.2)
  rw [wrOf]
  omega
theorem fw_len {t : Tr} (h : (rt 100 t && decide (0 ≤ lft t 8192)) = true) : (fw (wrOf t)).length ≤ 140737488355328 := by
 simp only [Bool.and_eq_true, decide_eq_true_eq] at h
 have := fw_sum t 100 8192 h.1 h.2
 omega
theorem lfts_up (ks : List Tr) (ih : ∀ t ∈ ks, ∀ m m' : Int, m' ≤ m → 0 ≤ lft t m' → lft t m = lft t m' + (m - m')) : ∀ m m' : Int, m' ≤ m → 0 ≤ lfts ks m' → lfts ks m = lfts ks m' + (m - m') := by
 induction ks with
 | nil => intro m m' _ _; rw [lfts, lfts]; omega
 | cons t r ihr =>
  intro m m' hm h
  obtain ⟨h0, h1, h2⟩ := lfts_cons_nn h
  rw [h2] at h ⊢
  have q := ih t (by simp) m m' hm h1
  rw [lfts, if_pos (by omega), ihr (fun s hs => ih s (by simp [hs])) (lft t m) (lft t m') (by omega) h]
  omega
theorem lft_up (t : Tr) : ∀ m m' : Int, m' ≤ m → 0 ≤ lft t m' → lft t m = lft t m' + (m - m') := by
 refine Tr.ind (P := fun t => ∀ m m' : Int, m' ≤ m → 0 ≤ lft t m' → lft t m = lft t m' + (m - m')) ?_ t
 intro k tx n kids at_ ih m m' hm h
 rw [lft] at h ⊢
 rw [lft, lfts_up kids ih (m - 1) (m' - 1) (by omega) h]
 omega
theorem wr_if {tx : List UInt8} {n : Int} {a b c : Tr} {at_ : Int} : fw (wrOf (.mk 14 tx n [a, b, c] at_)) = [105, 102, 32] ++ fw (wrOf a) ++ [32, 116, 104, 101, 110, 32] ++ fw (wrOf b) ++ [32, 101, 108, 115, 101, 32] ++ fw (wrOf c) := by
 have h : wrOf (.mk 14 tx n [a, b, c] at_) = .choice (wrOf a) (wrOf b) (wrOf c) := by rw [wrOf, wrsOf_map]; rfl
 rw [h, fw]
end Go.Proofs.YtgpkcjpanpbhdaaGreatDoor
namespace Go.Proofs.YtgpkcjpanpbhdaaGreatDoor.Nm
def isD (c : UInt8) : Bool := decide (48 ≤ c.toNat) && decide (c.toNat ≤ 57)
def dv (c : UInt8) : Nat := c.toNat - 48
def valW (n : Nat) (l : List UInt8) : Nat := l.foldl (fun n c => n * 10 + dv c) n
theorem isD_iff (c : UInt8) : isD c = true ↔ 48 ≤ c.toNat ∧ c.toNat ≤ 57 := by unfold isD; simp
theorem dv_le {c : UInt8} (h : isD c = true) : dv c ≤ 9 := by unfold dv; rw [isD_iff] at h; omega
theorem valW_snoc (n : Nat) (l : List UInt8) (c : UInt8) : valW n (l ++ [c]) = valW n l * 10 + dv c := by simp [valW]
theorem valW_lt : ∀ (l : List UInt8) (n : Nat), l.all isD = true → valW n l < (n + 1) * 10 ^ l.length
 | [], n, _ => by simp [valW]
 | c :: l, n, h => by
  simp only [List.all_cons, Bool.and_eq_true] at h
  have := valW_lt l (n * 10 + dv c) h.2
  have hd := dv_le h.1
  show valW (n * 10 + dv c) l < (n + 1) * 10 ^ (l.length + 1)
  rw [Nat.pow_succ, Nat.mul_comm (10 ^ l.length), ← Nat.mul_assoc]
  refine Nat.lt_of_lt_of_le this (Nat.mul_le_mul_right _ (by omega))
theorem cut_none {l sep : List UInt8} (h : (Lib.cut l sep).2.2 = false) : (Lib.cut l sep).2.1 = [] := by
 unfold Lib.cut at *; split <;> simp_all
end Go.Proofs.YtgpkcjpanpbhdaaGreatDoor.Nm
namespace Go.Proofs.YtgpkcjpanpbhdaaGreatDoor.Nm
theorem ofNat_digit {k : Nat} (h : k ≤ 9) : (UInt8.ofNat (48 + k)).toNat = 48 + k := by
 rw [UInt8.toNat_ofNat_of_lt' (by show 48 + k < 256; omega)]
theorem isD_ofNat {k : Nat} (h : k ≤ 9) : isD (UInt8.ofNat (48 + k)) = true := by rw [isD_iff, ofNat_digit h]; omega
theorem dv_ofNat {k : Nat} (h : k ≤ 9) : dv (UInt8.ofNat (48 + k)) = k := by unfold dv; rw [ofNat_digit h]; omega
theorem dec_small {u : Nat} (h : u < 10) : Lib.decDigits u = [UInt8.ofNat (48 + u)] := by unfold Lib.decDigits; rw [dif_pos h]
theorem dec_big {u : Nat} (h : ¬ u < 10) : Lib.decDigits u = Lib.decDigits (u / 10) ++ [UInt8.ofNat (48 + u % 10)] := by
 rw [Lib.decDigits, dif_neg h]
theorem dec_all (u : Nat) : (Lib.decDigits u).all isD = true := by
 induction u using Nat.strongRecOn with
 | _ u ih =>
  by_cases h : u < 10
  ·rw [dec_small h]; simp only [List.all_cons, List.all_nil, isD_ofNat (show u ≤ 9 by omega), Bool.and_true]
  ·rw [dec_big h, List.all_append, ih (u / 10) (by omega)]; simp only [List.all_cons, List.all_nil, isD_ofNat (show u % 10 ≤ 9 by omega), Bool.and_true]
theorem dec_val (u : Nat) : valW 0 (Lib.decDigits u) = u := by
 induction u using Nat.strongRecOn with
 | _ u ih =>
  by_cases h : u < 10
  ·rw [dec_small h]; show 0 * 10 + dv (UInt8.ofNat (48 + u)) = u; rw [dv_ofNat (show u ≤ 9 by omega)]; omega
  ·rw [dec_big h, valW_snoc, ih (u / 10) (by omega), dv_ofNat (show u % 10 ≤ 9 by omega)]; omega
theorem dec_ne (u : Nat) : Lib.decDigits u ≠ [] := by
 by_cases h : u < 10
 ·rw [dec_small h]; simp
 ·rw [dec_big h]; simp
theorem index_app : ∀ (x y : List UInt8), (∀ c ∈ x, c ≠ 46) → Lib.index (x ++ 46 :: y) [46] = x.length
 | [], y, _ => by simp [Lib.index, List.isPrefixOf]
 | c :: x, y, h => by
  have hc : c ≠ 46 := h c (by simp)
  have ih := index_app x y (fun d hd => h d (by simp [hd]))
  simp only [List.cons_append, Lib.index]
  rw [ih, if_neg (by simp [List.isPrefixOf, Ne.symm hc]), if_neg (by simp)]
  simp
theorem index_no : ∀ (x : List UInt8), (∀ c ∈ x, c ≠ 46) → Lib.index x [46] = -1
 | [], _ => by simp [Lib.index]
 | c :: x, h => by
  have hc : c ≠ 46 := h c (by simp)
  have ih := index_no x (fun d hd => h d (by simp [hd]))
  simp only [Lib.index]
  rw [ih, if_neg (by simp [List.isPrefixOf, Ne.symm hc])]
  simp
theorem valW_split : ∀ (l : List UInt8) (n : Nat), valW n l = n * 10 ^ l.length + valW 0 l
 | [], n => by simp [valW]
 | c :: l, n => by
  show valW (n * 10 + dv c) l = n * 10 ^ (l.length + 1) + valW (0 * 10 + dv c) l
  rw [valW_split l (n * 10 + dv c), valW_split l (0 * 10 + dv c), Nat.pow_succ, Nat.add_mul, Nat.mul_assoc n 10, Nat.mul_comm 10]
  simp; omega
def FInv (r : Nat) (k : Nat) (s : List UInt8 × Int × Int) : Prop :=
 s.1.all isD = true ∧ s.1.length ≤ 6 ∧ s.1.length ≤ k ∧ 0 ≤ s.2.1 ∧ (r : Int) = ((valW 0 s.1 * 10 ^ (6 - s.1.length) : Nat) : Int) + s.2.1 ∧
  (s.2.1 ≠ 0 → s.1.length = k ∧ s.2.2 = ((10 ^ (6 - k) : Nat) : Int) ∧ s.2.1 < ((10 ^ (6 - k) : Nat) : Int))
theorem FInv.next {r k : Nat} {s : List UInt8 × Int × Int} (h : FInv r k s) (hk : k < 6) : FInv r (k + 1) (putF s) := by
 obtain ⟨ds, l, u⟩ := s
 obtain ⟨h1, h2, h3, h4, h5, h6⟩ := h
 simp only at h1 h2 h3 h4 h5 h6
 unfold putF
 by_cases hl : l = 0
 ·rw [if_pos (by exact hl)]
  exact ⟨h1, h2, by simp only; omega, h4, h5, fun h => absurd hl h⟩
 ·rw [if_neg (by exact hl)]
  obtain ⟨e1, e2, e3⟩ := h6 hl
  have ep : 10 ^ (6 - k) = 10 * 10 ^ (6 - (k + 1)) := by rw [show 6 - k = (6 - (k + 1)) + 1 by omega, Nat.pow_succ, Nat.mul_comm]
  have hu : u / 10 = ((10 ^ (6 - (k + 1)) : Nat) : Int) := by rw [e2, ep]; push_cast; omega
  have hpos : 0 < 10 ^ (6 - (k + 1)) := Nat.pow_pos (by omega)
  simp only [hu]
  rw [ep] at e3
  obtain ⟨L, rfl⟩ : ∃ L : Nat, l = (L : Int) := ⟨l.toNat, by omega⟩
  have hq : (L : Int) / ((10 ^ (6 - (k + 1)) : Nat) : Int) = ((L / 10 ^ (6 - (k + 1)) : Nat) : Int) := (Int.natCast_ediv _ _).symm
  have hm : (L : Int) % ((10 ^ (6 - (k + 1)) : Nat) : Int) = ((L % 10 ^ (6 - (k + 1)) : Nat) : Int) := (Int.natCast_emod _ _).symm
  have hdm := Nat.div_add_mod' L (10 ^ (6 - (k + 1)))
  have hml := Nat.mod_lt L hpos
  have hq9 : L / 10 ^ (6 - (k + 1)) ≤ 9 := by
   have : L / 10 ^ (6 - (k + 1)) < 10 := by rw [Nat.div_lt_iff_lt_mul hpos]; omega
   omega
  rw [hq, hm, Int.toNat_natCast]
  refine ⟨?_, ?_, ?_, ?_, ?_, ?_⟩
  ·show (ds ++ [_]).all isD = true
   rw [List.all_append, h1]; simp only [List.all_cons, List.all_nil, isD_ofNat hq9, Bool.and_true]
  ·simp; omega
  ·simp; omega
  ·exact Int.natCast_nonneg _
  ·simp only [List.length_append, List.length_cons, List.length_nil, valW_snoc, dv_ofNat hq9]
   rw [e1] at h5 ⊢
   rw [h5, ep]
   generalize 10 ^ (6 - (0 + 1 + k)) = z at *
   rw [show 6 - (k + (0 + 1)) = 6 - (k + 1) by omega]
   generalize 10 ^ (6 - (k + 1)) = P at *
   rw [Nat.add_mul, ← Nat.mul_assoc, Nat.mul_right_comm]
   generalize L / P * P = X at *
   generalize valW 0 ds * P = Y at *
   omega
  ·intro _
   exact ⟨by simp; omega, rfl, Int.ofNat_lt.2 hml⟩
theorem finv_all {r : Nat} (hr : r < 1000000) : ∀ k, k ≤ 6 → FInv r k (putN k ([], (r : Int), 1000000))
 | 0, _ => ⟨rfl, by simp [putN], by simp [putN], by simp [putN], by simp [putN, valW], fun _ => ⟨by simp [putN], by simp [putN], by simp [putN]; omega⟩⟩
 | k + 1, h => (finv_all hr k (by omega)).next (by omega)
end Go.Proofs.YtgpkcjpanpbhdaaGreatDoor.Nm
namespace Go.Proofs.YtgpkcjpanpbhdaaGreatDoor
open Go Go.RowKit
theorem btw_iff {a b z : Int} : btw a b z = true ↔ a ≤ z ∧ z ≤ b := by simp [btw]
theorem twAll (p : UInt8 → Bool) : ∀ l : List UInt8, (l.takeWhile p).all p = true
 | [] => rfl
 | c :: l => by
  by_cases h : p c = true
  ·rw [List.takeWhile_cons_of_pos h, List.all_cons, h, twAll p l]; rfl
  ·rw [List.takeWhile_cons_of_neg h]; rfl
theorem spnAll {l : List UInt8} (h : spn l = l.length) : l.all inr8 = true := by
 cases l with
 | nil => rfl
 | cons c r =>
  rw [spn] at h
  split at h
  ·rename_i hc
   have h1 : (r.takeWhile inr8).length = r.length := by simp at h; omega
   have h2 : r.takeWhile inr8 = r := (List.takeWhile_prefix inr8).eq_of_length h1
   have h3 := twAll inr8 r
   rw [h2] at h3
   rw [List.all_cons, h3, inr8, inr, hc]
   rfl
  ·simp at h
theorem nam_all {l : List UInt8} (h : nam l = true) : l.all inr8 = true := by
 simp only [nam, Bool.and_eq_true, decide_eq_true_eq] at h
 exact spnAll h.2
theorem cut_join (l : List UInt8) (h : (Lib.cut l [46]).2.2 = true) : l = (Lib.cut l [46]).1 ++ 46 :: (Lib.cut l [46]).2.1 := by
 rcases Lib.index_spec l [46] with ⟨h1, -⟩ | ⟨i, h1, h2, h3, -⟩
 ·unfold Lib.cut at h; rw [h1] at h; simp at h
 ·unfold Lib.cut
  rw [h1]
  simp only [Int.natCast_nonneg, if_true, Int.toNat_natCast, List.length_cons, List.length_nil]
  unfold Lib.occAt at h3
  cases hd : l.drop i with
  | nil => rw [hd] at h3; cases h3
  | cons c q =>
   rw [hd] at h3
   have hc : (46 : UInt8) = c := by simpa [List.isPrefixOf] using h3
   have h4 : l.drop (i + 1) = q := by rw [← List.drop_drop, hd]; rfl
   rw [Nat.zero_add, h4, hc, ← hd, List.take_append_drop]
end Go.Proofs.YtgpkcjpanpbhdaaGreatDoor
namespace Go.Proofs.YtgpkcjpanpbhdaaGreatDoor
end Go.Proofs.YtgpkcjpanpbhdaaGreatDoor
namespace Go.Proofs.YtgpkcjpanpbhdaaGreatDoor
end Go.Proofs.YtgpkcjpanpbhdaaGreatDoor
namespace Go.Proofs.YtgpkcjpanpbhdaaGreatDoor
open Go.RowKit
theorem rsize_any (a : Int) (w : World) (h0 : -1000000000000000 ≤ a) (h1 : a ≤ 1000000000000000) :
  Calls Tryz.prog 75 #[.int .i64 a] w fun e w' => e = .returned (.int .i64 (a.natAbs : Int)) ∧ w' = w := by
 by_cases hn : a < 0
 ·have e : Hid ((a.natAbs : Int) = -a) := by show (a.natAbs : Int) = -a; omega
  go_enter Tryz.func75, Tryz.ntmps75
  go_wp2
  go_ret
  exact ⟨ret_int e.out.symm, rfl⟩
 ·have e : Hid ((a.natAbs : Int) = a) := by show (a.natAbs : Int) = a; omega
  go_enter Tryz.func75, Tryz.ntmps75
  go_wp2
  go_ret
  exact ⟨ret_int e.out.symm, rfl⟩
end Go.Proofs.YtgpkcjpanpbhdaaGreatDoor
namespace Go.Proofs.YtgpkcjpanpbhdaaGreatDoor.Nm
theorem valW_inj : ∀ (a b : List UInt8), a.length = b.length → a.all isD = true → b.all isD = true → valW 0 a = valW 0 b → a = b
 | [], [], _, _, _, _ => rfl
 | [], _ :: _, h, _, _, _ => by simp at h
 | _ :: _, [], h, _, _, _ => by simp at h
 | x :: a, y :: b, h, ha, hb, hv => by
  simp only [List.all_cons, Bool.and_eq_true] at ha hb
  simp only [List.length_cons, Nat.add_right_cancel_iff] at h
  have e1 : valW 0 (x :: a) = dv x * 10 ^ a.length + valW 0 a := by
   show valW (0 * 10 + dv x) a = _; rw [valW_split]; simp
  have e2 : valW 0 (y :: b) = dv y * 10 ^ b.length + valW 0 b := by
   show valW (0 * 10 + dv y) b = _; rw [valW_split]; simp
  have l1 := valW_lt a 0 ha.2
  have l2 := valW_lt b 0 hb.2
  rw [e1, e2, ← h] at hv
  rw [← h] at l2
  simp only [Nat.zero_add, Nat.one_mul] at l1 l2
  have hd : dv x = dv y := by
   have q1 : (dv x * 10 ^ a.length + valW 0 a) / 10 ^ a.length = dv x := by
    rw [Nat.mul_comm, Nat.mul_add_div (Nat.pow_pos (by omega)), Nat.div_eq_of_lt l1]; rfl
   have q2 : (dv y * 10 ^ a.length + valW 0 b) / 10 ^ a.length = dv y := by
    rw [Nat.mul_comm, Nat.mul_add_div (Nat.pow_pos (by omega)), Nat.div_eq_of_lt l2]; rfl
   rw [← q1, hv, q2]
  have hxy : x = y := by
   have h1 := (isD_iff x).1 ha.1
   have h2 := (isD_iff y).1 hb.1
   unfold dv at hd
   exact UInt8.toNat_inj.1 (by omega)
  rw [hd] at hv
  rw [hxy, valW_inj a b h ha.2 hb.2 (by omega)]
theorem valW_zeros (l : List UInt8) : ∀ j n, valW n (l ++ List.replicate j 48) = valW n l * 10 ^ j
 | 0, n => by simp
 | j + 1, n => by
  rw [List.replicate_succ', ← List.append_assoc, valW_snoc, valW_zeros l j n, Nat.pow_succ, ← Nat.mul_assoc]
  simp [dv]
def LInv (s : List UInt8 × Int × Int) : Prop := s.2.1 = 0 → s.1 = [] ∨ ∃ t c, s.1 = t ++ [c] ∧ c ≠ 48
theorem LInv.next {s : List UInt8 × Int × Int} (h : LInv s) (hg : Good s) : LInv (putF s) := by
 unfold putF
 by_cases hz : s.2.1 = 0
 ·rw [if_pos hz]; exact h
 ·rw [if_neg hz]
  intro h0
  right
  refine ⟨s.1, _, rfl, ?_⟩
  obtain ⟨a1, a2, a3, a4, a5, a6, _⟩ := hg.step hz
  simp only at h0
  have hq : s.2.1 / (s.2.2 / 10) ≠ 0 := fun e => by
   have := Int.emod_add_mul_ediv s.2.1 (s.2.2 / 10)
   rw [e, h0] at this
   simp at this
   exact hz this.symm
  intro e
  have := congrArg UInt8.toNat e
  rw [ofNat_digit (show (s.2.1 / (s.2.2 / 10)).toNat ≤ 9 by omega)] at this
  have h48 : (48 : UInt8).toNat = 48 := rfl
  rw [h48] at this
  omega
theorem linv_all {r : Nat} (hr : r < 1000000) (h0 : 0 < r) : ∀ k, LInv (putN k ([], (r : Int), 1000000)) ∧ Good (putN k ([], (r : Int), 1000000))
 | 0 => ⟨fun _ => Or.inl rfl, Or.inr ⟨6, by omega, by omega, by simp [putN], by simp [putN]; omega, by simp [putN]; omega⟩⟩
 | k + 1 => ⟨(linv_all hr h0 k).1.next (linv_all hr h0 k).2, (linv_all hr h0 k).2.next⟩
theorem tail_eq {r : Nat} (hr : r < 1000000) (h0 : 0 < r) :
  ∃ t c j, fracDigits (r : Int) = t ++ [c] ∧ c ≠ 48 ∧ j ≤ 5 ∧ Lib.decDigits (1000000 + r) = 49 :: (fracDigits (r : Int) ++ List.replicate j 48) := by
 obtain ⟨h1, h2, _, h4, h5, h6⟩ := finv_all hr 6 (Nat.le_refl _)
 obtain ⟨g1, g2⟩ := linv_all hr h0 6
 have hl : (putN 6 ([], (r : Int), 1000000)).2.1 = 0 := by
  rcases Int.lt_or_le 0 (putN 6 ([], (r : Int), 1000000)).2.1 with h | h
  ·have := (h6 (by omega)).2.2; simp at this; omega
  ·omega
 rw [hl] at h5
 have g := g1 hl
 clear g1 g2 h6 h4 hl
 show ∃ t c j, (putN 6 ([], (r : Int), 1000000)).1 = t ++ [c] ∧ c ≠ 48 ∧ j ≤ 5 ∧ Lib.decDigits (1000000 + r) = 49 :: ((putN 6 ([], (r : Int), 1000000)).1 ++ List.replicate j 48)
 generalize (putN 6 ([], (r : Int), 1000000)).1 = d at *
 have h5' : r = valW 0 d * 10 ^ (6 - d.length) := by omega
 rcases g with g | ⟨t, c, e, hc⟩
 ·rw [g] at h5'; simp [valW] at h5'; omega
 ·have hdl : 1 ≤ d.length := by rw [e]; simp
  refine ⟨t, c, 6 - d.length, e, hc, by omega, ?_⟩
  have hL : (Lib.decDigits (1000000 + r)).length = 7 := by
   have e1 : ∀ k u, 10 ^ k ≤ u → k + 1 ≤ (Lib.decDigits u).length := fun k => by
    induction k with
    | zero => intro u _; have := dec_ne u; cases hx : Lib.decDigits u; exact absurd hx this; simp
    | succ k ih =>
     intro u hu
     have hp : 1 ≤ 10 ^ k := Nat.pow_pos (by omega)
     rw [Nat.pow_succ] at hu
     rw [dec_big (by omega)]
     have := ih (u / 10) (by omega)
     simp; omega
   have a1 := e1 6 (1000000 + r) (by omega)
   have a2 := decDigits_len 6 (1000000 + r) (by omega)
   omega
  apply valW_inj
  ·simp; omega
  ·exact dec_all _
  ·rw [List.all_cons, List.all_append, h1]
   have : (List.replicate (6 - d.length) (48 : UInt8)).all isD = true := by
    rw [List.all_eq_true]; intro x hx; rw [List.eq_of_mem_replicate hx]; decide
   rw [this]; rfl
  ·rw [dec_val]
   show _ = valW (0 * 10 + dv 49) (d ++ List.replicate (6 - d.length) 48)
   rw [valW_zeros, valW_split d, Nat.add_mul, ← h5', Nat.mul_assoc, ← Nat.pow_add, show d.length + (6 - d.length) = 6 by omega]
   rfl
open Go.RowKit
def DInv (N m : Nat) (l : List UInt8) : Prop := ((0 < m ∨ l = []) ∧ Lib.decDigits N = Lib.decDigits m ++ l) ∨ (m = 0 ∧ l ≠ [] ∧ Lib.decDigits N = l)
theorem DInv.next {N m : Nat} {l : List UInt8} (h : DInv N m l) (hc : 0 < m ∨ l = []) : DInv N (m / 10) (UInt8.ofNat (48 + m % 10) :: l) := by
 have h1 : Lib.decDigits N = Lib.decDigits m ++ l := by
  rcases h with ⟨_, h⟩ | ⟨h0, h1, _⟩
  ·exact h
  ·rcases hc with h | h
   ·omega
   ·exact absurd h h1
 by_cases hm : m < 10
 ·right
  rw [dec_small hm] at h1
  refine ⟨by omega, by simp, ?_⟩
  rw [h1, show m % 10 = m by omega]; rfl
 ·left
  rw [dec_big hm] at h1
  refine ⟨Or.inl (by omega), ?_⟩
  rw [h1, List.append_assoc]; rfl
def strZ : Value → Nat
 | .string s => if s.size = 0 then 1 else 0
 | _ => 0
theorem strZ_cons (c : UInt8) (l : List UInt8) : strZ (.string ⟨(c :: l).toArray⟩) = 0 := by
 show (if (⟨(c :: l).toArray⟩ : ByteArray).size = 0 then 1 else 0) = 0
 rw [Lib.size_eq]; simp
theorem strZ_ne {l : List UInt8} (h : l ≠ []) : strZ (.string ⟨l.toArray⟩) = 0 := by
 cases l
 ·exact absurd rfl h
 ·exact strZ_cons _ _
theorem dig_cat : ∀ (d : Nat) (_ : d < 10) (l : List UInt8), (⟨#[48, 49, 50, 51, 52, 53, 54, 55, 56, 57]⟩ : ByteArray).extract d (d + 1) ++ ⟨l.toArray⟩ = ⟨(UInt8.ofNat (48 + d) :: l).toArray⟩ := fun d hd l => by
 have e : (⟨#[48, 49, 50, 51, 52, 53, 54, 55, 56, 57]⟩ : ByteArray).extract d (d + 1) = ⟨#[UInt8.ofNat (48 + d)]⟩ := by
  rw [Lib.extract_eq]
  have : d = 0 ∨ d = 1 ∨ d = 2 ∨ d = 3 ∨ d = 4 ∨ d = 5 ∨ d = 6 ∨ d = 7 ∨ d = 8 ∨ d = 9 := by omega
  rcases this with rfl | rfl | rfl | rfl | rfl | rfl | rfl | rfl | rfl | rfl <;> rfl
 rw [e]
 apply ByteArray.ext
 apply Array.ext'
 simp
theorem DInv.len {N m : Nat} {l : List UInt8} (h : DInv N m l) : l.length ≤ (Lib.decDigits N).length := by
 rcases h with ⟨_, h⟩ | ⟨_, _, h⟩ <;> rw [h] <;> simp
theorem rdigits_any (N : Nat) (w : World) (hN : N ≤ 1000000000000000) :
  Calls Tryz.prog 74 #[.int .i64 N] w fun e w' => e = .returned (.string ⟨(Lib.decDigits N).toArray⟩) ∧ w' = w := by
 have HL : Hid ((Lib.decDigits N).length ≤ 16) := decDigits_len 15 N (by omega)
 have H0 : Hid (DInv N N []) := Or.inl ⟨Or.inr rfl, by simp⟩
 generalize hD : (⟨(Lib.decDigits N).toArray⟩ : ByteArray) = D
 have HD : Hid ((⟨(Lib.decDigits N).toArray⟩ : ByteArray) = D) := hD
 clear hD
 go_enter Tryz.func74, Tryz.ntmps74
 go_wp2
 go_loop [0, 3] (fun a b => ∃ (m : Nat) (l : List UInt8), m ≤ N ∧ a = .int .i64 m ∧ b = .string ⟨l.toArray⟩ ∧ DInv N m l) (fun a b => 2 * (intOf a).toNat + strZ b)
 case atStart => exact ⟨N, [], Nat.le_refl _, rfl, rfl, H0.out⟩
 case round =>
  obtain ⟨m, l, hm, rfl, rfl, hI⟩ := hrel
  have hlen := hI.len
  have hl16 := HL.out
  have HC : Hid (∀ l : List UInt8, (⟨#[48, 49, 50, 51, 52, 53, 54, 55, 56, 57]⟩ : ByteArray).extract (m % 10) (m % 10 + 1) ++ ⟨l.toArray⟩ = ⟨(UInt8.ofNat (48 + m % 10) :: l).toArray⟩) := fun l => dig_cat (m % 10) (by omega) l
  have hmi : (m : Int) ≤ 1000000000000000 := by omega
  by_cases hl : l = []
  ·subst hl
   have HI : Hid (DInv N (m / 10) [UInt8.ofNat (48 + m % 10)]) := hI.next (Or.inr rfl)
   clear hlen hl16 hI
   go_wp2
   go_round
   case rel =>
    refine ⟨m / 10, _, by omega, by go_num, ?_, HI.out⟩
    rw [← HC.out]
   case measure =>
    show 2 * ((m : Int) / 10).toNat + strZ (.string ((⟨#[48, 49, 50, 51, 52, 53, 54, 55, 56, 57]⟩ : ByteArray).extract (m % 10) (m % 10 + 1) ++ ⟨([] : List UInt8).toArray⟩)) < 2 * ((m : Int)).toNat + 1
    rw [HC.out, strZ_cons]; omega
  ·have e1 : l.isEmpty = false := by cases l <;> simp_all
   have ll : min (m % 10 + 1) 10 - m % 10 + l.length ≤ 9223372036854775807 := by omega
   by_cases h0 : 0 < m
   ·have HI : Hid (DInv N (m / 10) (UInt8.ofNat (48 + m % 10) :: l)) := hI.next (Or.inl h0)
    clear hlen hl16 hI
    go_wp2
    go_round
    case rel =>
     refine ⟨m / 10, _, by omega, by go_num, ?_, HI.out⟩
     rw [← HC.out]
    case measure =>
     show 2 * ((m : Int) / 10).toNat + strZ (.string ((⟨#[48, 49, 50, 51, 52, 53, 54, 55, 56, 57]⟩ : ByteArray).extract (m % 10) (m % 10 + 1) ++ ⟨l.toArray⟩)) < 2 * ((m : Int)).toNat + strZ (.string ⟨l.toArray⟩)
     rw [HC.out, strZ_cons, strZ_ne hl]; omega
   ·have HI : Hid (Lib.decDigits N = l) := by
     rcases hI with ⟨h | h, _⟩ | ⟨_, _, h⟩
     ·omega
     ·exact absurd h hl
     ·exact h
    have HE : Hid ((⟨l.toArray⟩ : ByteArray) = D) := by show (⟨l.toArray⟩ : ByteArray) = D; rw [← HI.out, HD.out]
    clear hlen hl16 hI HI
    go_wp2
    go_ret
    exact ⟨by rw [← HE.out]; rfl, rfl⟩
open Go.RowKit
theorem cat_lists (a b : List UInt8) : (⟨a.toArray⟩ : ByteArray) ++ ⟨b.toArray⟩ = ⟨(a ++ b).toArray⟩ := by
 apply ByteArray.ext
 apply Array.ext'
 simp
theorem size_list (l : List UInt8) : (⟨l.toArray⟩ : ByteArray).size = l.length := by rw [Lib.size_eq]
theorem cut_first (c : UInt8) (l : List UInt8) : (⟨(c :: l).toArray⟩ : ByteArray).extract 1 (⟨(c :: l).toArray⟩ : ByteArray).size = ⟨l.toArray⟩ := by
 rw [Lib.extract_eq, size_list]
 simp
theorem cut_last (l : List UInt8) (c : UInt8) : (⟨(l ++ [c]).toArray⟩ : ByteArray).extract 0 l.length = ⟨l.toArray⟩ := by
 rw [Lib.extract_eq]
 simp
theorem rshow_whole (a : Int) (w : World) (h1 : (clampI a).natAbs % 1000000 = 0) :
  Calls Tryz.prog 48 #[.int .i64 a] w fun e w' => e = .returned (.string ⟨(showL a).toArray⟩) ∧ w' = w := by
 have l0 := clampI_le a
 have l1 := clampI_ge a
 have HC : Hid (∀ w : World, Calls Tryz.prog 75 #[.int .i64 (clampI a)] w fun e w' => e = .returned (.int .i64 ((clampI a).natAbs : Int)) ∧ w' = w) := fun w => rsize_any _ w l1 l0
 have HL : Hid (showL a = (if clampI a < 0 then [45] else []) ++ Lib.decDigits ((clampI a).natAbs / 1000000)) := by
  show showL a = _
  unfold showL showPos
  by_cases h : clampI a < 0
  ·rw [if_pos h, if_pos h, itoa_nonneg (by omega), if_pos (by omega), show (-clampI a / 1000000).toNat = (clampI a).natAbs / 1000000 by omega]; simp
  ·rw [if_neg h, if_neg h, itoa_nonneg (by omega), if_pos (by omega), show (clampI a / 1000000).toNat = (clampI a).natAbs / 1000000 by omega]; simp
 generalize hS : showL a = SL at *
 generalize hn : (clampI a).natAbs = n at *
 have HD : Hid (∀ w : World, Calls Tryz.prog 74 #[.int .i64 ((n / 1000000 : Nat) : Int)] w fun e w' => e = .returned (.string ⟨(Lib.decDigits (n / 1000000)).toArray⟩) ∧ w' = w) := fun w => rdigits_any _ w (by omega)
 have hlen := decDigits_len 9 (n / 1000000) (by omega)
 have rq : (n : Int) / 1000000 = ((n / 1000000 : Nat) : Int) := by omega
 have rr : ((n : Int) % 1000000 == 0) = true := by simp; omega
 have ni : (n : Int) ≤ 1000000000000000 := by omega
 generalize hE : Lib.decDigits (n / 1000000) = E at *
 by_cases hneg : clampI a < 0
 ·have hL := HL.out
  rw [if_pos hneg] at hL
  have HF : Hid (SL = 45 :: E) := hL
  have hadd : ∀ w1 : World, (Op.stringOp .add ⟨#[45]⟩ ⟨E.toArray⟩).run Tryz.prog w1 = .ok (.string ⟨(45 :: E).toArray⟩) w1 := fun w1 => by
   have z1 : (⟨#[45]⟩ : ByteArray).size = 1 := rfl
   have z2 := size_list E
   have := run_string_add_sum (P := Tryz.prog) w1 ⟨#[45]⟩ ⟨E.toArray⟩ (by omega)
   rw [show (⟨#[45]⟩ : ByteArray) ++ ⟨E.toArray⟩ = ⟨(45 :: E).toArray⟩ from cat_lists [45] E] at this; exact this
  clear hS hn hE HL hlen l0 l1 h1 hL
  generalize n / 1000000 = q at *
  go_enter Tryz.func48, Tryz.ntmps48
  go_wp2_with (first | (go_at_call 73; refine (rclamp_any _ _).mono ?_; rintro e w ⟨rfl, rfl⟩) | (go_at_call 75; refine (HC.out _).mono ?_; rintro e w ⟨rfl, rfl⟩) | (go_at_call 74; refine (HD.out _).mono ?_; rintro e w ⟨rfl, rfl⟩))
  go_ret
  exact ⟨by rw [HF.out]; rfl, rfl⟩
 ·have hL := HL.out
  rw [if_neg hneg] at hL
  have HF : Hid (SL = E) := hL
  clear hS hn hE HL hlen l0 l1 h1 hL
  generalize n / 1000000 = q at *
  go_enter Tryz.func48, Tryz.ntmps48
  go_wp2_with (first | (go_at_call 73; refine (rclamp_any _ _).mono ?_; rintro e w ⟨rfl, rfl⟩) | (go_at_call 75; refine (HC.out _).mono ?_; rintro e w ⟨rfl, rfl⟩) | (go_at_call 74; refine (HD.out _).mono ?_; rintro e w ⟨rfl, rfl⟩))
  go_ret
  exact ⟨by rw [HF.out]; rfl, rfl⟩
theorem last_at (u : List UInt8) (d : UInt8) (h : u.length < (⟨(u ++ [d]).toArray⟩ : ByteArray).size) : (⟨(u ++ [d]).toArray⟩ : ByteArray)[u.length]'h = d := by
 show ((u ++ [d]).toArray)[u.length]'_ = d
 simp
def strL : Value → Nat
 | .string s => s.size
 | _ => 0
theorem rshow_frac (a : Int) (w : World) (h1 : (clampI a).natAbs % 1000000 ≠ 0) :
  Calls Tryz.prog 48 #[.int .i64 a] w fun e w' => e = .returned (.string ⟨(showL a).toArray⟩) ∧ w' = w := by
 have l0 := clampI_le a
 have l1 := clampI_ge a
 have HC : Hid (∀ w : World, Calls Tryz.prog 75 #[.int .i64 (clampI a)] w fun e w' => e = .returned (.int .i64 ((clampI a).natAbs : Int)) ∧ w' = w) := fun w => rsize_any _ w l1 l0
 have HL : showL a = ((if clampI a < 0 then [45] else []) ++ Lib.decDigits ((clampI a).natAbs / 1000000)) ++ 46 :: fracDigits (((clampI a).natAbs % 1000000 : Nat) : Int) := by
  unfold showL showPos
  by_cases h : clampI a < 0
  ·rw [if_pos h, if_pos h, itoa_nonneg (by omega), if_neg (by omega), show (-clampI a / 1000000).toNat = (clampI a).natAbs / 1000000 by omega, show (-clampI a) % 1000000 = (((clampI a).natAbs % 1000000 : Nat) : Int) by omega]; simp
  ·rw [if_neg h, if_neg h, itoa_nonneg (by omega), if_neg (by omega), show (clampI a / 1000000).toNat = (clampI a).natAbs / 1000000 by omega, show clampI a % 1000000 = (((clampI a).natAbs % 1000000 : Nat) : Int) by omega]; simp
 generalize hS : showL a = SL at *
 generalize hn : (clampI a).natAbs = n at *
 have HD : Hid (∀ w : World, Calls Tryz.prog 74 #[.int .i64 ((n / 1000000 : Nat) : Int)] w fun e w' => e = .returned (.string ⟨(Lib.decDigits (n / 1000000)).toArray⟩) ∧ w' = w) := fun w => rdigits_any _ w (by omega)
 have hlen := decDigits_len 9 (n / 1000000) (by omega)
 have rq : (n : Int) / 1000000 = ((n / 1000000 : Nat) : Int) := by omega
 have rm : (n : Int) % 1000000 = ((n % 1000000 : Nat) : Int) := by omega
 have rr : (((n % 1000000 : Nat) : Int) == 0) = false := by simp; omega
 have ni : (n : Int) ≤ 1000000000000000 := by omega
 obtain ⟨t, c, j, hx, hc, hj, hdec⟩ := tail_eq (show n % 1000000 < 1000000 by omega) (show 0 < n % 1000000 by omega)
 have HE : Hid (∀ w : World, Calls Tryz.prog 74 #[.int .i64 (1000000 + ((n % 1000000 : Nat) : Int))] w fun e w' => e = .returned (.string ⟨(49 :: (fracDigits ((n % 1000000 : Nat) : Int) ++ List.replicate j 48)).toArray⟩) ∧ w' = w) := fun w => by
  have := rdigits_any (1000000 + n % 1000000) w (by omega)
  rw [hdec] at this
  exact this
 have rmi : ((n % 1000000 : Nat) : Int) ≤ 999999 := by omega
 have hxl : (fracDigits ((n % 1000000 : Nat) : Int)).length ≤ 6 := by unfold fracDigits; simpa using putN_len ([], ((n % 1000000 : Nat) : Int), 1000000) 6
 generalize fracDigits ((n % 1000000 : Nat) : Int) = x at *
 have hcut := cut_first 49 (x ++ List.replicate j 48)
 have hvs := size_list (49 :: (x ++ List.replicate j 48))
 generalize hV : (⟨(49 :: (x ++ List.replicate j 48)).toArray⟩ : ByteArray) = V at *
 have v1 : (1 : Int) ≤ (V.size : Int) := by rw [hvs]; simp; omega
 generalize hEE : Lib.decDigits (n / 1000000) = E at *
 generalize n / 1000000 = q at *
 generalize n % 1000000 = r at *
 by_cases hneg : clampI a < 0
 ·rw [if_pos hneg] at HL
  have HF : Hid (SL = ((45 :: E) ++ [46]) ++ x) := by show SL = _; rw [HL]; simp
  have hadd : ∀ w1 : World, (Op.stringOp .add ⟨#[45]⟩ ⟨E.toArray⟩).run Tryz.prog w1 = .ok (.string ⟨(45 :: E).toArray⟩) w1 := fun w1 => by
   have z1 : (⟨#[45]⟩ : ByteArray).size = 1 := rfl
   have z2 := size_list E
   have := run_string_add_sum (P := Tryz.prog) w1 ⟨#[45]⟩ ⟨E.toArray⟩ (by omega)
   rw [show (⟨#[45]⟩ : ByteArray) ++ ⟨E.toArray⟩ = ⟨(45 :: E).toArray⟩ from cat_lists [45] E] at this; exact this
  have hadd2 : ∀ w1 : World, (Op.stringOp .add ⟨(45 :: E).toArray⟩ ⟨#[46]⟩).run Tryz.prog w1 = .ok (.string ⟨((45 :: E) ++ [46]).toArray⟩) w1 := fun w1 => by
   have z1 : (⟨#[46]⟩ : ByteArray).size = 1 := rfl
   have z2 := size_list (45 :: E)
   have z3 : (45 :: E).length ≤ 11 := by simp; omega
   have := run_string_add_sum (P := Tryz.prog) w1 ⟨(45 :: E).toArray⟩ ⟨#[46]⟩ (by omega)
   rw [cat_lists _ [46]] at this; exact this
  have hadd3 : ∀ w1 : World, (Op.stringOp .add ⟨((45 :: E) ++ [46]).toArray⟩ ⟨x.toArray⟩).run Tryz.prog w1 = .ok (.string ⟨SL.toArray⟩) w1 := fun w1 => by
   have z1 := size_list x
   have z2 := size_list ((45 :: E) ++ [46])
   have z3 : ((45 :: E) ++ [46]).length ≤ 12 := by simp; omega
   have := run_string_add_sum (P := Tryz.prog) w1 ⟨((45 :: E) ++ [46]).toArray⟩ ⟨x.toArray⟩ (by omega)
   rw [cat_lists] at this; rw [this, HF.out]
  have HX : Hid (x = t ++ [c]) := hx
  clear hS hn hlen l0 l1 hEE hdec hV hvs HL HF h1 hx
  generalize (⟨(45 :: E).toArray⟩ : ByteArray) = G at *
  generalize (⟨((45 :: E) ++ [46]).toArray⟩ : ByteArray) = G2 at *
  generalize (⟨E.toArray⟩ : ByteArray) = EB at *
  generalize (⟨SL.toArray⟩ : ByteArray) = SB at *
  go_enter Tryz.func48, Tryz.ntmps48
  go_wp2_with (first | (go_at_call 73; refine (rclamp_any _ _).mono ?_; rintro e w ⟨rfl, rfl⟩) | (go_at_call 75; refine (HC.out _).mono ?_; rintro e w ⟨rfl, rfl⟩))
  refine (HD.out _).mono ?_
  rintro e w ⟨rfl, rfl⟩
  go_wp2_with (first | (go_at_call 75; refine (HC.out _).mono ?_; rintro e w ⟨rfl, rfl⟩))
  refine (HE.out _).mono ?_
  rintro e w ⟨rfl, rfl⟩
  go_wp2
  go_loop [5] (fun b => ∃ i : Nat, i ≤ j ∧ b = .string ⟨(x ++ List.replicate i 48).toArray⟩) (fun b => strL b)
  case atStart => exact ⟨j, Nat.le_refl _, rfl⟩
  case round =>
   obtain ⟨i, hi, rfl⟩ := hrel
   obtain ⟨u, d, hud, hcase⟩ : ∃ u d, x ++ List.replicate i 48 = u ++ [d] ∧ ((i = 0 ∧ d ≠ 48) ∨ (∃ i', i = i' + 1 ∧ d = 48 ∧ u = x ++ List.replicate i' 48)) := by
    cases i with
    | zero => exact ⟨t, c, by rw [HX.out]; simp, Or.inl ⟨rfl, hc⟩⟩
    | succ i' => exact ⟨x ++ List.replicate i' 48, 48, by rw [List.replicate_succ', ← List.append_assoc], Or.inr ⟨i', rfl, rfl, rfl⟩⟩
   have hul : u.length ≤ 20 := by have := congrArg List.length hud; simp at this; omega
   have hsz : (⟨(u ++ [d]).toArray⟩ : ByteArray).size = u.length + 1 := by rw [size_list]; simp
   have hla := last_at u d
   have hex := cut_last u d
   have HU : Hid ((⟨(x ++ List.replicate i 48).toArray⟩ : ByteArray) = ⟨(u ++ [d]).toArray⟩) := by show (⟨(x ++ List.replicate i 48).toArray⟩ : ByteArray) = _; rw [hud]
   rw [HU.out]
   have HZ : Hid (i = 0 → (⟨(u ++ [d]).toArray⟩ : ByteArray) = ⟨x.toArray⟩) := fun h => by rw [← HU.out, h]; simp
   have HV : Hid (∀ i', u = x ++ List.replicate i' 48 → (⟨u.toArray⟩ : ByteArray) = ⟨(x ++ List.replicate i' 48).toArray⟩) := fun i' h => by rw [h]
   clear hud HU
   generalize (⟨(u ++ [d]).toArray⟩ : ByteArray) = T at *
   generalize hUU : (⟨u.toArray⟩ : ByteArray) = U at *
   have HUs : Hid (U.size = u.length) := by show U.size = _; rw [← hUU, size_list]
   generalize u.length = k at *
   have hki : (k : Int) ≤ 20 := by omega
   have hlt : k < T.size := by omega
   have hla' := hla hlt
   clear hla hUU
   rcases hcase with ⟨h0, hd⟩ | ⟨i', h0, hd, hu⟩
   ·have d1 : (((T[k]'hlt).toNat : Int) == 48) = false := by
     rw [hla']
     have : d.toNat ≠ 48 := fun e => hd (UInt8.toNat_inj.1 e)
     simp; omega
    have HT := HZ.out h0
    subst HT
    clear hla' HV HUs hex
    go_wp2
    go_ret
    exact ⟨rfl, rfl⟩
   ·have d1 : (((T[k]'hlt).toNat : Int) == 48) = true := by rw [hla', hd]; rfl
    have HT : Hid (U = ⟨(x ++ List.replicate i' 48).toArray⟩) := HV.out i' hu
    clear hla' HV hu HZ
    go_wp2
    go_round
    case rel => exact ⟨i', by omega, by rw [← HT.out]⟩
    case measure =>
     show U.size < T.size
     rw [HUs.out]; omega
 ·rw [if_neg hneg] at HL
  have HF : Hid (SL = (E ++ [46]) ++ x) := by show SL = _; rw [HL]; simp
  have hadd2 : ∀ w1 : World, (Op.stringOp .add ⟨E.toArray⟩ ⟨#[46]⟩).run Tryz.prog w1 = .ok (.string ⟨(E ++ [46]).toArray⟩) w1 := fun w1 => by
   have z1 : (⟨#[46]⟩ : ByteArray).size = 1 := rfl
   have z2 := size_list E
   have z3 : E.length ≤ 11 := by omega
   have := run_string_add_sum (P := Tryz.prog) w1 ⟨E.toArray⟩ ⟨#[46]⟩ (by omega)
   rw [cat_lists _ [46]] at this; exact this
  have hadd3 : ∀ w1 : World, (Op.stringOp .add ⟨(E ++ [46]).toArray⟩ ⟨x.toArray⟩).run Tryz.prog w1 = .ok (.string ⟨SL.toArray⟩) w1 := fun w1 => by
   have z1 := size_list x
   have z2 := size_list (E ++ [46])
   have z3 : (E ++ [46]).length ≤ 12 := by simp; omega
   have := run_string_add_sum (P := Tryz.prog) w1 ⟨(E ++ [46]).toArray⟩ ⟨x.toArray⟩ (by omega)
   rw [cat_lists] at this; rw [this, HF.out]
  have HX : Hid (x = t ++ [c]) := hx
  clear hS hn hlen l0 l1 hEE hdec hV hvs HL HF h1 hx
  generalize (⟨(E ++ [46]).toArray⟩ : ByteArray) = G2 at *
  generalize (⟨E.toArray⟩ : ByteArray) = EB at *
  generalize (⟨SL.toArray⟩ : ByteArray) = SB at *
  go_enter Tryz.func48, Tryz.ntmps48
  go_wp2_with (first | (go_at_call 73; refine (rclamp_any _ _).mono ?_; rintro e w ⟨rfl, rfl⟩) | (go_at_call 75; refine (HC.out _).mono ?_; rintro e w ⟨rfl, rfl⟩))
  refine (HD.out _).mono ?_
  rintro e w ⟨rfl, rfl⟩
  go_wp2_with (first | (go_at_call 75; refine (HC.out _).mono ?_; rintro e w ⟨rfl, rfl⟩))
  refine (HE.out _).mono ?_
  rintro e w ⟨rfl, rfl⟩
  go_wp2
  go_loop [5] (fun b => ∃ i : Nat, i ≤ j ∧ b = .string ⟨(x ++ List.replicate i 48).toArray⟩) (fun b => strL b)
  case atStart => exact ⟨j, Nat.le_refl _, rfl⟩
  case round =>
   obtain ⟨i, hi, rfl⟩ := hrel
   obtain ⟨u, d, hud, hcase⟩ : ∃ u d, x ++ List.replicate i 48 = u ++ [d] ∧ ((i = 0 ∧ d ≠ 48) ∨ (∃ i', i = i' + 1 ∧ d = 48 ∧ u = x ++ List.replicate i' 48)) := by
    cases i with
    | zero => exact ⟨t, c, by rw [HX.out]; simp, Or.inl ⟨rfl, hc⟩⟩
    | succ i' => exact ⟨x ++ List.replicate i' 48, 48, by rw [List.replicate_succ', ← List.append_assoc], Or.inr ⟨i', rfl, rfl, rfl⟩⟩
   have hul : u.length ≤ 20 := by have := congrArg List.length hud; simp at this; omega
   have hsz : (⟨(u ++ [d]).toArray⟩ : ByteArray).size = u.length + 1 := by rw [size_list]; simp
   have hla := last_at u d
   have hex := cut_last u d
   have HU : Hid ((⟨(x ++ List.replicate i 48).toArray⟩ : ByteArray) = ⟨(u ++ [d]).toArray⟩) := by show (⟨(x ++ List.replicate i 48).toArray⟩ : ByteArray) = _; rw [hud]
   rw [HU.out]
   have HZ : Hid (i = 0 → (⟨(u ++ [d]).toArray⟩ : ByteArray) = ⟨x.toArray⟩) := fun h => by rw [← HU.out, h]; simp
   have HV : Hid (∀ i', u = x ++ List.replicate i' 48 → (⟨u.toArray⟩ : ByteArray) = ⟨(x ++ List.replicate i' 48).toArray⟩) := fun i' h => by rw [h]
   clear hud HU
   generalize (⟨(u ++ [d]).toArray⟩ : ByteArray) = T at *
   generalize hUU : (⟨u.toArray⟩ : ByteArray) = U at *
   have HUs : Hid (U.size = u.length) := by show U.size = _; rw [← hUU, size_list]
   generalize u.length = k at *
   have hki : (k : Int) ≤ 20 := by omega
   have hlt : k < T.size := by omega
   have hla' := hla hlt
   clear hla hUU
   rcases hcase with ⟨h0, hd⟩ | ⟨i', h0, hd, hu⟩
   ·have d1 : (((T[k]'hlt).toNat : Int) == 48) = false := by
     rw [hla']
     have : d.toNat ≠ 48 := fun e => hd (UInt8.toNat_inj.1 e)
     simp; omega
    have HT := HZ.out h0
    subst HT
    clear hla' HV HUs hex
    go_wp2
    go_ret
    exact ⟨rfl, rfl⟩
   ·have d1 : (((T[k]'hlt).toNat : Int) == 48) = true := by rw [hla', hd]; rfl
    have HT : Hid (U = ⟨(x ++ List.replicate i' 48).toArray⟩) := HV.out i' hu
    clear hla' HV hu HZ
    go_wp2
    go_round
    case rel => exact ⟨i', by omega, by rw [← HT.out]⟩
    case measure =>
     show U.size < T.size
     rw [HUs.out]; omega
end Go.Proofs.YtgpkcjpanpbhdaaGreatDoor.Nm
namespace Go.Proofs.YtgpkcjpanpbhdaaGreatDoor
open Go Go.RowKit
theorem rleap_any (y : Nat) (h : y ≤ 10000) (w : World) :
  Calls Tryz.prog 149 #[.int .i64 y] w fun e w' => e = .returned (.bool (decide (lpN y = 1))) ∧ w' = w := by
 by_cases h4 : y % 4 = 0
 ·by_cases h100 : y % 100 = 0
  ·by_cases h400 : y % 400 = 0
   ·go_enter Tryz.func149, Tryz.ntmps149
    go_wp2
    go_ret
    refine ⟨ret_bool ?_, rfl⟩
    unfold lpN; rw [if_pos (by omega)]; simp; omega
   ·go_enter Tryz.func149, Tryz.ntmps149
    go_wp2
    go_ret
    refine ⟨ret_bool ?_, rfl⟩
    unfold lpN; rw [if_neg (by omega)]; simp; omega
  ·go_enter Tryz.func149, Tryz.ntmps149
   go_wp2
   go_ret
   refine ⟨ret_bool ?_, rfl⟩
   unfold lpN; rw [if_pos (by omega)]; rfl
 ·go_enter Tryz.func149, Tryz.ntmps149
  go_wp2
  go_ret
  refine ⟨ret_bool ?_, rfl⟩
  unfold lpN; rw [if_neg (by omega)]; rfl
theorem rlength_any (y m : Nat) (h : y ≤ 5000) (hm : m < 12) (w : World) :
  Calls Tryz.prog 114 #[.int .i64 y, .int .i64 ((m : Int) + 1)] w fun e w' => e = .returned (.int .i64 (ml y m : Nat)) ∧ Below w.heap.size w w' := by
 have HL := hid (rleap_any y (by omega))
 have hl := lpN_le y
 by_cases hm1 : m = 1
 ·subst hm1
  by_cases h1 : lpN y = 1
  ·rw [decide_eq_true h1] at HL
   go_enter Tryz.func114, Tryz.ntmps114
   go_wp2_with fail
   refine (HL.out _).mono ?_
   rintro e w1 ⟨rfl, rfl⟩
   go_wp2
   go_ret
   refine ⟨ret_intD ?_, ?_⟩
   ·unfold ml; simp [h1]
   ·exact (Below.refl _ _).alloc (Nat.le_refl _) _
  ·rw [decide_eq_false h1] at HL
   go_enter Tryz.func114, Tryz.ntmps114
   go_wp2_with fail
   refine (HL.out _).mono ?_
   rintro e w1 ⟨rfl, rfl⟩
   go_wp2
   go_ret
   refine ⟨ret_intD ?_, (Below.refl _ _).alloc (Nat.le_refl _) _⟩
   have h0 : lpN y = 0 := by omega
   unfold ml; simp [h0]
 ·go_enter Tryz.func114, Tryz.ntmps114
  go_wp2_with fail
  refine (HL.out _).mono ?_
  rintro e w1 ⟨rfl, rfl⟩
  go_wp2
  go_ret
  have hcase : m = 0 ∨ m = 2 ∨ m = 3 ∨ m = 4 ∨ m = 5 ∨ m = 6 ∨ m = 7 ∨ m = 8 ∨ m = 9 ∨ m = 10 ∨ m = 11 := by omega
  rcases hcase with rfl | rfl | rfl | rfl | rfl | rfl | rfl | rfl | rfl | rfl | rfl <;> exact ⟨rfl, (Below.refl _ _).alloc (Nat.le_refl _) _⟩
theorem rparts_yes (n : Nat) (hn : n ≤ 73048) (w : World) :
  Calls Tryz.prog 76 #[.int .i64 n] w fun e w' => ∃ y m d : Nat, Dt y m d ∧ dn y m d = n ∧ e = .returned (.tuple #[.int .i64 (1900 + (y : Int)), .int .i64 ((m : Int) + 1), .int .i64 d, .int .i64 0]) ∧ Below w.heap.size w w' := by
 have HL := hid (fun (y m : Nat) (hy : y < 200) (hm : m < 12) => rlength_any (1900 + y) m (by omega) hm)
 simp only [show ∀ k : Nat, ((1900 + k : Nat) : Int) = 1900 + (k : Int) from fun k => by omega] at HL
 go_enter Tryz.func76, Tryz.ntmps76
 go_wp2_with fail
 go_loopw [0, 6, 7] (fun a b c wr => ∃ y m l : Nat, y ≤ 200 ∧ m < 12 ∧ a = .int .i64 l ∧ b = .int .i64 (1900 + (y : Int)) ∧ c = .int .i64 ((m : Int) + 1) ∧ yd y + md (1900 + y) m + l = n ∧ Below w.heap.size w wr) (fun a _ _ _ => (intOf a).toNat)
 case atStart => exact ⟨0, 0, n, by omega, by omega, rfl, rfl, rfl, by simp [yd, md], Below.refl _ _⟩
 case round =>
  obtain ⟨y, m, l, hy, hm, rfl, rfl, rfl, hk, hB⟩ := hrel
  have hy2 : y < 200 := by
   rcases Nat.lt_or_ge y 200 with h | h
   ·exact h
   ·have : y = 200 := by omega
    subst this
    rw [yd_all] at hk; omega
  have hml := ml_le (1900 + y) hm
  have hmg := ml_ge (1900 + y) hm
  have hl : l ≤ 73048 := by omega
  have HK := hid hk
  clear hk hy
  by_cases hlt : ml (1900 + y) m ≤ l
  ·go_wp2_with fail
   refine (HL.out y m hy2 hm _).mono ?_
   rintro e w1 ⟨rfl, hB1⟩
   have hB1 := Below.next hB hB1
   clear hB
   go_wp2_with fail
   refine (HL.out y m hy2 hm _).mono ?_
   rintro e w2 ⟨rfl, hB2⟩
   have hB2 := Below.next hB1 hB2
   clear hB1
   by_cases h12 : m = 11
   ·subst h12
    have h13 : ((11 : Nat) : Int) + 1 + 1 = 13 := by omega
    go_wp2
    go_roundw
    case rel =>
     refine ⟨y + 1, 0, l - ml (1900 + y) 11, by omega, by omega, ?_, ?_, rfl, ?_, hB2⟩
     ·congr 1 <;> omega
     ·congr 1 <;> omega
     ·have h1 := HK.out
      have h2 := md_twelve (1900 + y)
      rw [md_step] at h2
      rw [yd_step]
      show yd y + yl (1900 + y) + 0 + _ = n
      omega
    case measure =>
     simp [intOf]; omega
   ·have h13 : ¬ (m : Int) + 1 + 1 = 13 := by omega
    go_wp2
    go_roundw
    case rel =>
     refine ⟨y, m + 1, l - ml (1900 + y) m, by omega, by omega, ?_, rfl, ?_, ?_, hB2⟩
     ·congr 1 <;> omega
     ·congr 1 <;> omega
     ·have h1 := HK.out
      rw [md_step]
      omega
    case measure =>
     simp [intOf]; omega
  ·go_wp2_with fail
   refine (HL.out y m hy2 hm _).mono ?_
   rintro e w1 ⟨rfl, hB1⟩
   have hB1 := Below.next hB hB1
   clear hB
   go_wp2
   go_returns
   exact ⟨y, m, l + 1, ⟨hy2, hm, by omega, by omega⟩, by have := HK.out; unfold dn; omega, by rfl, hB1⟩
theorem lit_rd (w : World) (cs : Array Value) (fr : Nat × Nat) (l : List UInt8) (h : cs.toList = cells8 l) : Rd (w.alloc (.cells cs 5 fr)) w.heap.size 0 l := fun k hk => by
 rw [Nat.zero_add, World.cell?_alloc_mark, ← Array.getElem?_toList, h, cells8_get l k hk]
theorem lit_sl (w : World) (cs : Array Value) (fr : Nat × Nat) (l : List UInt8) (h : cs.toList = cells8 l) : Sl (w.alloc (.cells cs 5 fr)) (.slice (some ⟨w.heap.size, 0, none⟩) l.length l.length) l := Sl.mk (lit_rd w cs fr l h) (Nat.le_refl _)
theorem dg_two (n : Nat) : dg 2 n = [UInt8.ofNat (48 + n / 10 % 10), UInt8.ofNat (48 + n % 10)] := rfl
theorem dg_four (n : Nat) : dg 2 (n / 100) ++ dg 2 (n % 100) = dg 4 n := by
 rw [dg_two, dg_two]
 show _ = [UInt8.ofNat (48 + n / 10 / 10 / 10 % 10), UInt8.ofNat (48 + n / 10 / 10 % 10), UInt8.ofNat (48 + n / 10 % 10), UInt8.ofNat (48 + n % 10)]
 have e1 : n / 100 / 10 % 10 = n / 10 / 10 / 10 % 10 := by omega
 have e2 : n / 100 % 10 = n / 10 / 10 % 10 := by omega
 have e3 : n % 100 / 10 % 10 = n / 10 % 10 := by omega
 have e4 : n % 100 % 10 = n % 10 := by omega
 rw [e1, e2, e3, e4]; rfl
theorem two_any (n : Nat) (hn : n < 100) (w : World) :
  Calls Tryz.prog 77 #[.int .i64 n] w fun e w' => e = .returned (.string ⟨(dg 2 n).toArray⟩) ∧ Below w.heap.size w w' := by
 have hcs : (#[Value.int .u8 (48 + (n : Int) / 10), Value.int .u8 (48 + (n : Int) % 10)] : Array Value).toList = cells8 (dg 2 n) := by
  rw [dg_two]
  have h1 : (UInt8.ofNat (48 + n / 10 % 10)).toNat = 48 + n / 10 % 10 := u8_ofNat (by omega)
  have h2 : (UInt8.ofNat (48 + n % 10)).toNat = 48 + n % 10 := u8_ofNat (by omega)
  simp only [cells8, List.map_cons, List.map_nil, cb, h1, h2]
  congr 2
  ·congr 1; omega
 have hcv := conv_sl (lit_sl w _ (0, 0) (dg 2 n) hcs)
 rw [dg_len] at hcv
 have hB := (Below.refl w.heap.size w).alloc (Nat.le_refl _) (.cells #[Value.int .u8 (48 + (n : Int) / 10), Value.int .u8 (48 + (n : Int) % 10)] 5)
 have HB := hid hB
 clear hB hcs
 generalize hL : (⟨(dg 2 n).toArray⟩ : ByteArray) = L at *
 clear hL
 go_enter Tryz.func77, Tryz.ntmps77
 go_wp2
 go_ret
 exact ⟨rfl, HB.out⟩
theorem rshow_yes (n : Nat) (hn : n ≤ 73048) (w : World) :
  Calls Tryz.prog 49 #[.int .i64 n] w fun e w' => ∃ y m d : Nat, Dt y m d ∧ dn y m d = n ∧ e = .returned (.tuple #[.string ⟨(shL y m d).toArray⟩, .int .i64 0]) ∧ Below w.heap.size w w' := by
 go_enter Tryz.func49, Tryz.ntmps49
 go_wp2_with fail
 refine (rparts_yes n hn _).mono ?_
 rintro e w1 ⟨y, m, d, hd, hdn, rfl, hB1⟩
 have HD := hid hd
 have HDN := hid hdn
 have hd31 := hd.dle
 have hm := hd.2.1
 have hy := hd.1
 clear hd hdn
 have HA := hid (two_any ((1900 + y) / 100) (by omega))
 have HBb := hid (two_any ((1900 + y) % 100) (by omega))
 have HM := hid (two_any (m + 1) (by omega))
 have HDd := hid (two_any d (by omega))
 rw [show (((1900 + y) / 100 : Nat) : Int) = (1900 + (y : Int)) / 100 by omega] at HA
 rw [show (((1900 + y) % 100 : Nat) : Int) = (1900 + (y : Int)) % 100 by omega] at HBb
 rw [show ((m + 1 : Nat) : Int) = (m : Int) + 1 by omega] at HM
 have hsh : shL y m d = dg 2 ((1900 + y) / 100) ++ dg 2 ((1900 + y) % 100) ++ [45] ++ dg 2 (m + 1) ++ [45] ++ dg 2 d := by unfold shL; rw [dg_four]
 have HSH := hid hsh
 clear hsh
 have z1 : (⟨(dg 2 ((1900 + y) / 100)).toArray⟩ : ByteArray).size = 2 := by show (dg 2 ((1900 + y) / 100)).toArray.size = 2; simp [dg_len]
 have z2 : (⟨(dg 2 ((1900 + y) % 100)).toArray⟩ : ByteArray).size = 2 := by show (dg 2 ((1900 + y) % 100)).toArray.size = 2; simp [dg_len]
 have z3 : (⟨(dg 2 (m + 1)).toArray⟩ : ByteArray).size = 2 := by show (dg 2 (m + 1)).toArray.size = 2; simp [dg_len]
 have z4 : (⟨(dg 2 d).toArray⟩ : ByteArray).size = 2 := by show (dg 2 d).toArray.size = 2; simp [dg_len]
 generalize dg 2 ((1900 + y) / 100) = L1 at *
 generalize dg 2 ((1900 + y) % 100) = L2 at *
 generalize dg 2 (m + 1) = L3 at *
 generalize dg 2 d = L4 at *
 have hfin : (⟨L1.toArray⟩ ++ ⟨L2.toArray⟩ ++ ⟨#[45]⟩ ++ ⟨L3.toArray⟩ ++ ⟨#[45]⟩ ++ ⟨L4.toArray⟩ : ByteArray) = ⟨(shL y m d).toArray⟩ := by
  rw [HSH.out]
  apply ByteArray.ext
  simp
 have HF := hid hfin
 clear hfin HSH
 generalize (⟨L1.toArray⟩ : ByteArray) = B1 at *
 generalize (⟨L2.toArray⟩ : ByteArray) = B2 at *
 generalize (⟨L3.toArray⟩ : ByteArray) = B3 at *
 generalize (⟨L4.toArray⟩ : ByteArray) = B4 at *
 go_wp2_with fail
 refine (HA.out _).mono ?_
 rintro e w2 ⟨rfl, hB2⟩
 have hB2 := Below.next hB1 hB2
 go_wp2_with fail
 refine (HBb.out _).mono ?_
 rintro e w3 ⟨rfl, hB3⟩
 have hB3 := Below.next hB2 hB3
 go_wp2_with fail
 refine (HM.out _).mono ?_
 rintro e w4 ⟨rfl, hB4⟩
 have hB4 := Below.next hB3 hB4
 go_wp2_with fail
 refine (HDd.out _).mono ?_
 rintro e w5 ⟨rfl, hB5⟩
 have hB5 := Below.next hB4 hB5
 go_wp2
 go_ret2
 refine ⟨y, m, d, HD.out, HDN.out, ?_, hB5⟩
 rw [← HF.out]
 rfl
end Go.Proofs.YtgpkcjpanpbhdaaGreatDoor
