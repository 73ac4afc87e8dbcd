/- the text SPartsM -/
import Derived.Test.YtmdpccjhjhkpgaaGreatDoorSGj
namespace Go.Proofs.YtmdpccjhjhkpgaaGreatDoor
open Go Go.RowKit

theorem showT_len (a : Int) : (showL a).length ≤ 100 := by
  have h1 := clampI_le a
  have h2 := clampI_ge a
  have hp : ∀ c : Int, 0 ≤ c → c ≤ 1000000000000000 → (showPos c).length ≤ 50 := fun c c0 c1 => by
    unfold showPos
    have l1 := itoa_len (n := c / 1000000) (by omega) (by omega)
    have l2 := putN_len ([], c % 1000000, 1000000) 6
    have l3 : (fracDigits (c % 1000000)).length ≤ 6 := by unfold fracDigits; simpa using l2
    split <;> simp <;> omega
  unfold showL
  split
  · have := hp (- clampI a) (by omega) (by omega); simp; omega
  · have := hp (clampI a) (by omega) (by omega); omega
theorem headD_len : ∀ (l : List (List UInt8)), (∀ x ∈ l, x.length ≤ 10) → (l.headD []).length ≤ 10
  | [], _ => by simp
  | x :: _, h => h x (by simp)
theorem dsh_len (n : Nat) : (dsh n).length ≤ 10 := by
  unfold dsh
  refine headD_len _ (fun x hx => ?_)
  simp only [List.mem_flatMap, List.mem_filterMap, List.mem_range] at hx
  obtain ⟨y, _, m, _, d, _, he⟩ := hx
  split at he
  · cases he; simp [shL, dg_len]
  · cases he
/-- What parts take in a text, at most. -/
def sumW : List Wr → Nat
  | [] => 0
  | x :: r => (fw x).length + 10 + sumW r
theorem fwl_sum : ∀ (b : Bool) (ks : List Wr), (fwl b ks).length ≤ sumW ks
  | _, [] => by simp [fwl]
  | b, x :: r => by
    have := fwl_sum false r
    rw [fwl, sumW]
    cases b <;> simp <;> omega
theorem prn_len (b : Bool) (l : List UInt8) : (prn b l).length ≤ l.length + 2 := by cases b <;> simp [prn]
theorem tru_len (n : Int) : (tru n).length ≤ 5 := by unfold tru; cases n == 0 <;> simp
theorem ahd_len (s : List UInt8) : (ahd s).length ≤ s.length + 1 := by unfold ahd; cases nam s <;> simp
theorem mkW_len {k : Int} {tx : List UInt8} {n : Int} {ks : List Wr} (ho : own k tx n = true) (hk : kidsOk k ks.length = true) : (fw (mkW k tx n ks)).length ≤ 150 + sumW ks := by
  have h0 := own_len ho
  unfold mkW
  by_cases e : k = 5
  · subst e
    have := showT_len n
    show (fw (.word (showL n))).length ≤ _
    rw [fw]; omega
  by_cases e : k = 6
  · subst e
    have := dsh_len n.toNat
    show (fw (.word (dsh n.toNat))).length ≤ _
    rw [fw]; omega
  by_cases e : k = 8
  · subst e
    have := tru_len n
    show (fw (.word (tru n))).length ≤ _
    rw [fw]; omega
  by_cases e : k = 9
  · subst e
    show (fw (.word (quo _ tx))).length ≤ _
    rw [fw]; simp [quo]; omega
  by_cases e : k = 11
  · subst e
    have := fwl_sum true ks
    show (fw (.list tx ks)).length ≤ _
    rw [fw]; simp; omega
  by_cases e : k = 15
  · subst e
    have := fwl_sum true ks
    show (fw (.list (quo _ tx) ks)).length ≤ _
    rw [fw]; simp [quo]; omega
  by_cases e : k = 12
  · subst e
    obtain ⟨a, rfl⟩ : ∃ a, ks = [a] := by
      match ks, hk with
      | [a], _ => exact ⟨a, rfl⟩
      | [], h => exact absurd h (by decide)
      | _ :: _ :: r, h => simp [kidsOk, kidsOf] at h; omega
    have h1 := prn_len a.isOp (fw a)
    have h2 := ahd_len tx
    show (fw (.unary (ahd tx) a)).length ≤ _
    rw [fw]; simp [sumW]; omega
  by_cases e : k = 13
  · subst e
    obtain ⟨a, b, rfl⟩ : ∃ a b, ks = [a, b] := by
      match ks, hk with
      | [a, b], _ => exact ⟨a, b, rfl⟩
      | [], h => exact absurd h (by decide)
      | [_], h => exact absurd h (by simp [kidsOk, kidsOf])
      | _ :: _ :: _ :: r, h => simp [kidsOk, kidsOf] at h; omega
    have h1 := prn_len a.isOp (fw a)
    have h2 := prn_len b.isOp (fw b)
    show (fw (.binary tx a b)).length ≤ _
    rw [fw]; simp [sumW]; omega
  by_cases e : k = 14
  · subst e
    obtain ⟨a, b, c, rfl⟩ : ∃ a b c, ks = [a, b, c] := by
      match ks, hk with
      | [a, b, c], _ => exact ⟨a, b, c, rfl⟩
      | [], h => exact absurd h (by decide)
      | [_], h => exact absurd h (by simp [kidsOk, kidsOf])
      | [_, _], h => exact absurd h (by simp [kidsOk, kidsOf])
      | _ :: _ :: _ :: _ :: r, h => simp [kidsOk, kidsOf] at h; omega
    show (fw (.choice a b c)).length ≤ _
    rw [fw]; simp [sumW]; omega
  rw [beq_false_of_ne ‹k ≠ 5›, beq_false_of_ne ‹k ≠ 6›, beq_false_of_ne ‹k ≠ 8›, beq_false_of_ne ‹k ≠ 9›, beq_false_of_ne ‹k ≠ 11›, beq_false_of_ne ‹k ≠ 15›, beq_false_of_ne ‹k ≠ 12›, beq_false_of_ne ‹k ≠ 13›, beq_false_of_ne ‹k ≠ 14›]
  show (fw (.word tx)).length ≤ _
  rw [fw]; omega
theorem lfts_cons_nn {t : Tr} {r : List Tr} {m : Int} (h : 0 ≤ lfts (t :: r) m) : 0 ≤ m ∧ 0 ≤ lft t m ∧ lfts (t :: r) m = lfts r (lft t m) := by
  rw [lfts] at h ⊢
  by_cases hm : 0 ≤ m
  · rw [if_pos hm] at h ⊢
    refine ⟨hm, ?_, rfl⟩
    by_cases h1 : 0 ≤ lft t m
    · exact h1
    · rw [lfts_neg r _ (by omega)] at h; exact h
  · rw [if_neg hm] at h; exact absurd h hm
theorem sumW_le (ks : List Tr) (d : Nat) (ih : ∀ t ∈ ks, ∀ (d : Nat) (m : Int), rt d t = true → 0 ≤ lft t m → ((fw (wrOf t)).length : Int) + 10 + 200 * lft t m ≤ 200 * m) : ∀ m : Int, ks.all (rt d) = true → 0 ≤ lfts ks m → (sumW (wrsOf ks) : Int) + 200 * lfts ks m ≤ 200 * m := by
  induction ks with
  | nil => intro m _ _; simp [wrsOf, sumW, lfts]
  | cons t r ihr =>
    intro m ha h
    simp only [List.all_cons, Bool.and_eq_true] at ha
    obtain ⟨h0, h1, h2⟩ := lfts_cons_nn h
    rw [h2] at h ⊢
    have q1 := ih t (by simp) d m ha.1 h1
    have q2 := ihr (fun s hs => ih s (by simp [hs])) (lft t m) ha.2 h
    rw [wrsOf, sumW]
    omega
theorem fw_sum (t : Tr) : ∀ (d : Nat) (m : Int), rt d t = true → 0 ≤ lft t m → ((fw (wrOf t)).length : Int) + 10 + 200 * lft t m ≤ 200 * m := by
  refine Tr.ind (P := fun t => ∀ (d : Nat) (m : Int), rt d t = true → 0 ≤ lft t m → ((fw (wrOf t)).length : Int) + 10 + 200 * lft t m ≤ 200 * m) ?_ t
  intro k tx n kids at_ ih d m hr hl
  cases d with
  | zero => rw [rt] at hr; cases hr
  | succ d =>
    rw [rt] at hr
    simp only [Bool.and_eq_true] at hr
    rw [lft] at hl ⊢
    have q1 := sumW_le kids d ih (m - 1) hr.2 hl
    have q2 := mkW_len (ks := wrsOf kids) hr.1.1 (by rw [wrsOf_len]; exact hr.1.2)
    rw [wrOf]
    omega
theorem fw_len {t : Tr} (h : (rt 100 t && decide (0 ≤ lft t 8192)) = true) : (fw (wrOf t)).length ≤ 140737488355328 := by
  simp only [Bool.and_eq_true, decide_eq_true_eq] at h
  have := fw_sum t 100 8192 h.1 h.2
  omega
theorem rt_up : ∀ (d : Nat) (t : Tr), rt d t = true → rt (d + 1) t = true
  | 0, t, h => by rw [rt] at h; cases h
  | d + 1, .mk k tx n ks at_, h => by
    rw [rt] at h ⊢
    simp only [Bool.and_eq_true, List.all_eq_true] at h ⊢
    exact ⟨h.1, fun t ht => rt_up d t (h.2 t ht)⟩
theorem lfts_up (ks : List Tr) (ih : ∀ t ∈ ks, ∀ m m' : Int, m' ≤ m → 0 ≤ lft t m' → lft t m = lft t m' + (m - m')) : ∀ m m' : Int, m' ≤ m → 0 ≤ lfts ks m' → lfts ks m = lfts ks m' + (m - m') := by
  induction ks with
  | nil => intro m m' _ _; rw [lfts, lfts]; omega
  | cons t r ihr =>
    intro m m' hm h
    obtain ⟨h0, h1, h2⟩ := lfts_cons_nn h
    rw [h2] at h ⊢
    have q := ih t (by simp) m m' hm h1
    rw [lfts, if_pos (by omega), ihr (fun s hs => ih s (by simp [hs])) (lft t m) (lft t m') (by omega) h]
    omega
theorem lft_up (t : Tr) : ∀ m m' : Int, m' ≤ m → 0 ≤ lft t m' → lft t m = lft t m' + (m - m') := by
  refine Tr.ind (P := fun t => ∀ m m' : Int, m' ≤ m → 0 ≤ lft t m' → lft t m = lft t m' + (m - m')) ?_ t
  intro k tx n kids at_ ih m m' hm h
  rw [lft] at h ⊢
  rw [lft, lfts_up kids ih (m - 1) (m' - 1) (by omega) h]
  omega
theorem right_kid {k : Int} {tx : List UInt8} {n : Int} {ks : List Tr} {at_ : Int} (h : (rt 100 (.mk k tx n ks at_) && decide (0 ≤ lft (.mk k tx n ks at_) 8192)) = true) {j : Nat} {t : Tr} (ht : ks[j]? = some t) : (rt 100 t && decide (0 ≤ lft t 8192)) = true := by
  simp only [Bool.and_eq_true, decide_eq_true_eq] at h ⊢
  obtain ⟨h1, h2⟩ := h
  rw [rt] at h1
  simp only [Bool.and_eq_true, List.all_eq_true] at h1
  rw [lft] at h2
  refine ⟨rt_up 99 t (h1.2 t (List.mem_of_getElem? ht)), ?_⟩
  have q1 := lfts_take_nn ks j _ h2
  have q2 := lfts_take_nn ks (j + 1) _ h2
  rw [take_next ht, lfts_snoc _ _ _ q1] at q2
  have q3 := (lfts_le (ks.take j) (fun t _ => lft_le t) (8192 - 1) (by omega)).2
  rw [lft_up t 8192 (lfts (ks.take j) (8192 - 1)) (by omega) q2]
  omega
theorem sexpr_yes {t : Tr} {w : World} {v : Value} (hok : t.Ok) (htb : Tb w.heap.size w) (hnd : Nd w v t) (hr : (rt 100 t && decide (0 ≤ lft t 8192)) = true) : Calls Tryz.prog 10 #[v] w fun e w' => e = .returned (.tuple #[strV (fw (wrOf t)), .int .i64 0]) ∧ Below w.heap.size w w' := by
  refine (expr12_any hok htb hnd (fun h => fw_len h)).mono fun e w' h => ?_
  rw [hr] at h
  exact h
/-- A row of texts of one's own, that lies from n on. -/
def So (n : Nat) (w : World) (v : Value) (ls : List (List UInt8)) : Prop := w.ownsRow n 9 1 v ls.length (ls.map strV)
theorem So.nil (n : Nat) (w : World) : So n w (.slice none 0 0) [] := ⟨rfl, .inl ⟨rfl, rfl⟩⟩
theorem So.below {n : Nat} {w w' : World} {v : Value} {ls : List (List UInt8)} (h : So n w v ls) (hB : Below w.heap.size w w') : So n w' v ls := by
  refine ⟨h.1, ?_⟩
  rcases h.2 with h | ⟨g, cap, cur, a, b, hg, r⟩
  · exact .inl h
  · exact .inr ⟨g, cap, cur, a, b, below_at hB hg (heap_lt hg), r⟩
theorem So.own_lt {n : Nat} {w : World} {v : Value} {ls : List (List UInt8)} (h : So n w v ls) {b : Nat} (hb : v.ownBlock = some b) : ∃ c, w.heap[b]? = some (.cells c 9 (0, 0)) ∧ n ≤ b := by
  rcases h.2 with ⟨h, h0⟩ | ⟨g, cap, cur, e, hn, hg, r⟩
  · rw [h] at hb; cases hb
  · rw [e] at hb; cases hb; exact ⟨cur, hg, hn⟩
theorem infS : ∃ i, Tryz.prog.info? 9 = some i ∧ i.zero = some (strV []) ∧ i.size = 1 ∧ i.bytes = 16 := info_parts (by kernel_rfl)
theorem So.app {n : Nat} {w : World} {v : Value} {ls : List (List UInt8)} {s : List UInt8} (h : So n w v ls) (hlen : ls.length + 1 ≤ 10000) (hn : n ≤ w.heap.size) {g : Nat} (hg : w.heap[g]? = some (.cells #[strV s] 9 (0, 0))) :
    ∃ v' w', (∀ ty, (Builtin.append_ #[34, 34] ty #[v, .slice (some ⟨g, 0, none⟩) 1 1]).run Tryz.prog w = .ok v' w') ∧ So n w' v' (ls ++ [s]) ∧ Fr v.ownBlock.toList w w' := by
  obtain ⟨i0, hi, hz0, hz1, hz2⟩ := infS
  have key := fun ty => run_append_own_at (P := Tryz.prog) (w := w) n 34 ty 9 i0 (strV []) 1 16 (by kernel_rfl) hi hz0 hz1 hz2 rfl (by decide) v _ _ h ⟨g, 0, none⟩ 1 1 [strV s] rfl (fun j u hj => by
    match j, hj with
    | 0, hj => cases hj; rw [add_lit]; exact cell_at hg 0 rfl) (fun u hu => by simp at hu; subst hu; rfl) (by unfold maxLen; omega) (by omega) hn
  obtain ⟨v', w', h1, h2, h3, -, h5⟩ := key 0
  exact ⟨v', w', fun ty => h1, by unfold So; rw [List.length_append, List.map_append]; exact h2, grown_fr h3⟩
theorem wr_call {tx : List UInt8} {n : Int} {ks : List Tr} {at_ : Int} : fw (wrOf (.mk 11 tx n ks at_)) = tx ++ [40] ++ fwl true (wrsOf ks) ++ [41] := by
  have h : wrOf (.mk 11 tx n ks at_) = .list tx (wrsOf ks) := by rw [wrOf]; rfl
  rw [h, fw]
theorem if_kids {tx : List UInt8} {n : Int} {ks : List Tr} {at_ : Int} (h : (rt 100 (.mk 14 tx n ks at_) && decide (0 ≤ lft (.mk 14 tx n ks at_) 8192)) = true) : ∃ a b c, ks = [a, b, c] := by
  simp only [Bool.and_eq_true] at h
  have h1 := h.1
  rw [rt] at h1
  simp only [Bool.and_eq_true] at h1
  match ks, h1.1.2 with
  | [a, b, c], _ => exact ⟨a, b, c, rfl⟩
  | [], h => exact absurd h (by decide)
  | [_], h => exact absurd h (by simp [kidsOk, kidsOf])
  | [_, _], h => exact absurd h (by simp [kidsOk, kidsOf])
  | _ :: _ :: _ :: _ :: r, h => simp [kidsOk, kidsOf] at h; omega
theorem call_kids {k : Int} {tx : List UInt8} {n : Int} {ks : List Tr} {at_ : Int} (h : (rt 100 (.mk k tx n ks at_) && decide (0 ≤ lft (.mk k tx n ks at_) 8192)) = true) : ks.length ≤ 8 := by
  simp only [Bool.and_eq_true] at h
  have h1 := h.1
  rw [rt] at h1
  simp only [Bool.and_eq_true] at h1
  exact kids_le h1.1.2
theorem wr_if {tx : List UInt8} {n : Int} {a b c : Tr} {at_ : Int} : fw (wrOf (.mk 14 tx n [a, b, c] at_)) = [105, 102, 32] ++ fw (wrOf a) ++ [32, 116, 104, 101, 110, 32] ++ fw (wrOf b) ++ [32, 101, 108, 115, 101, 32] ++ fw (wrOf c) := by
  have h : wrOf (.mk 14 tx n [a, b, c] at_) = .choice (wrOf a) (wrOf b) (wrOf c) := by rw [wrOf, wrsOf_map]; rfl
  rw [h, fw]
end Go.Proofs.YtmdpccjhjhkpgaaGreatDoor
