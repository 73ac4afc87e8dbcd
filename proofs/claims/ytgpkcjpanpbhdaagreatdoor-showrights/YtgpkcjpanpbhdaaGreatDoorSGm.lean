/- texts put together: SModM SSplit SRForm -/
import Derived.Test.YtgpkcjpanpbhdaaGreatDoorSGl
import Derived.Test.YtgpkcjpanpbhdaaGreatDoorSGk
import Derived.Test.YtgpkcjpanpbhdaaGreatDoorSGj
set_option maxRecDepth 100000
set_option maxHeartbeats 4000000
namespace Go.Proofs.YtgpkcjpanpbhdaaGreatDoor
open Go Go.RowKit
def letS : Tr → Bool
 | .mk k tx n ks _ => nmd 3 k tx n && (decide (ldg 4 ks ≤ 8) && (ks.length == ldg 4 ks + 1)) && ((ks.take (ldg 4 ks)).all (brT 4) && (ks[ldg 4 ks]?.map (rt 100)).getD false)
def modS : Tr → Bool
 | .mk k tx n ks _ => nmd 1 k tx n && (decide (ldg 2 ks ≤ 100) && decide (ks.length - ldg 2 ks ≤ 200)) && ((ks.take (ldg 2 ks)).all (brT 2) && (ks.drop (ldg 2 ks)).all letS)
def modR : Tr → Bool
 | .mk k tx n ks at_ => sml (.mk k tx n ks at_) && (k == 1) && fre tx && (n == (0 : Int)) && (ks.take (ldg 2 ks)).all (brT 2) && (decide (ldg 2 ks ≤ 100) && decide (ks.length - ldg 2 ks ≤ 200)) && (ks.drop (ldg 2 ks)).all letR
def prmW : Tr → Wr
 | .mk _ tx _ _ _ => .word tx
def headW (tx : List UInt8) (ps : List Tr) : Wr := bif ps.isEmpty then .word tx else .list tx (ps.map prmW)
def letW : Tr → Wr
 | .mk _ tx _ ks _ => .row [.word [108, 101, 116, 32], headW tx (ks.take (ldg 4 ks)), .word [32, 61, 32], wrOf (ks.getD (ldg 4 ks) (.mk 0 [] 0 [] 0))]
def impW : Tr → Wr
 | .mk _ tx _ _ _ => .row [.word [105, 109, 112, 111, 114, 116, 32], .word tx]
def modW : Tr → Wr
 | .mk _ tx _ ks _ => .rows (.row [.word [109, 111, 100, 117, 108, 101, 32], .word tx] :: ((ks.take (ldg 2 ks)).map impW ++ (ks.drop (ldg 2 ks)).map letW))
theorem brT_kd {kd : Int} {t : Tr} (h : brT kd t = true) : (t.kd == kd) = true := by
 obtain ⟨k, tx, n, ks, at_⟩ := t
 simp only [brT, Bool.and_eq_true] at h
 exact h.1.1.1
theorem brT_all {kd : Int} {l : List Tr} (h : l.all (brT kd) = true) : l.all (fun t => t.kd == kd) = true := by
 rw [List.all_eq_true] at h ⊢
 exact fun t ht => brT_kd (h t ht)
theorem rt_no4 {d : Nat} {t : Tr} (h : rt d t = true) : (t.kd == 4) = false := by
 obtain ⟨k, tx, n, ks, at_⟩ := t
 cases d with
 | zero => rw [rt] at h; cases h
 | succ d =>
  cases hk : (k == 4) with
  | false => exact hk
  | true =>
   have : k = 4 := by simpa using hk
   subst this
   rw [rt] at h
   simp only [Bool.and_eq_true] at h
   have h1 := h.1.1
   simp [own, ownT] at h1
theorem lft_small {t : Tr} {m : Int} (h : 0 ≤ lft t m) (hm : m ≤ 8192) : sml t = true := by
 unfold sml
 rw [decide_eq_true_eq, lft_up t 8192 m hm h]
 omega
theorem kid_small {k : Int} {tx : List UInt8} {n : Int} {ks : List Tr} {at_ : Int} (h : sml (.mk k tx n ks at_) = true) {j : Nat} {t : Tr} (ht : ks[j]? = some t) : sml t = true := by
 unfold sml at h
 rw [decide_eq_true_eq, lft] at h
 have h1 := lfts_take_nn ks j _ h
 have h2 := lfts_take_nn ks (j + 1) _ h
 rw [take_next ht, lfts_snoc _ _ _ h1] at h2
 refine lft_small h2 ?_
 have := (lfts_le (ks.take j) (fun t _ => lft_le t) (8192 - 1) (by omega)).2
 omega
theorem letS_R {t : Tr} (h : sml t = true) : letS t = letR t := by
 obtain ⟨k, tx, n, ks, at_⟩ := t
 have hsm : ∀ {j : Nat} {x : Tr}, ks[j]? = some x → sml x = true := fun hx => kid_small h hx
 rw [Bool.eq_iff_iff]
 constructor
 ·intro hl
  simp only [letS, nmd, Bool.and_eq_true, decide_eq_true_eq, beq_iff_eq] at hl
  obtain ⟨⟨⟨h1, h2, h3⟩, h4, h5⟩, h6, h7⟩ := hl
  simp only [letR, Bool.and_eq_true, decide_eq_true_eq, beq_iff_eq]
  refine ⟨⟨⟨⟨h1, h3⟩, h2⟩, by omega, by omega⟩, ?_, ?_⟩
  ·rw [show ks.length - 1 = ldg 4 ks by omega]; exact h6
  ·rw [show ks.length - 1 = ldg 4 ks by omega]
   cases hx : ks[ldg 4 ks]? with
   | none => rw [hx] at h7; cases h7
   | some x =>
    rw [hx] at h7
    show rxT x = true
    rw [rxT, hsm hx, Bool.and_true]
    exact h7
 ·intro hl
  simp only [letR, Bool.and_eq_true, decide_eq_true_eq, beq_iff_eq] at hl
  obtain ⟨⟨⟨⟨h1, h3⟩, h2⟩, h4, h5⟩, h6, h7⟩ := hl
  have hx : ∃ x, ks[ks.length - 1]? = some x := ⟨_, List.getElem?_eq_getElem (by omega)⟩
  obtain ⟨x, hx⟩ := hx
  rw [hx] at h7
  have h7 : rxT x = true := h7
  rw [rxT, Bool.and_eq_true] at h7
  have hld : ldg 4 ks = ks.length - 1 := ldg_at (brT_all h6) (by omega) (fun t ht => by rw [hx] at ht; cases ht; exact rt_no4 h7.1)
  simp only [letS, nmd, Bool.and_eq_true, decide_eq_true_eq, beq_iff_eq]
  rw [hld]
  refine ⟨⟨⟨h1, h2, h3⟩, by omega, by omega⟩, h6, ?_⟩
  rw [hx]
  exact h7.1
theorem modS_R (t : Tr) : (modS t && decide (0 ≤ lft t 8192)) = modR t := by
 obtain ⟨k, tx, n, ks, at_⟩ := t
 cases hs : sml (.mk k tx n ks at_) with
 | false =>
  have : decide (0 ≤ lft (.mk k tx n ks at_) 8192) = false := hs
  rw [this, Bool.and_false, modR, hs]
  rfl
 | true =>
  have : decide (0 ≤ lft (.mk k tx n ks at_) 8192) = true := hs
  have hl : (ks.drop (ldg 2 ks)).all letS = (ks.drop (ldg 2 ks)).all letR := by
   rw [Bool.eq_iff_iff, List.all_eq_true, List.all_eq_true]
   have key : ∀ x ∈ ks.drop (ldg 2 ks), letS x = letR x := fun x hx => by
    obtain ⟨j, hj⟩ := List.getElem?_of_mem (List.mem_of_mem_drop hx)
    exact letS_R (kid_small hs hj)
   constructor
   ·intro h x hx; rw [← key x hx]; exact h x hx
   ·intro h x hx; rw [key x hx]; exact h x hx
  rw [this, Bool.and_true, modR, hs, modS, hl, nmd]
  cases k == 1 <;> cases (n == 0) <;> cases fre tx <;> cases (ks.take (ldg 2 ks)).all (brT 2) <;> simp
theorem fws_bound {B : Nat} : ∀ (xs : List Wr), (∀ x ∈ xs, (fw x).length ≤ B) → (fws xs).length ≤ xs.length * B
 | [], _ => by simp [fws]
 | x :: r, h => by
  rw [fws, List.length_append, List.length_cons]
  have h1 := h x (by simp)
  have h2 := fws_bound r (fun y hy => h y (by simp [hy]))
  rw [Nat.add_mul]
  omega
theorem fwl_bound {B : Nat} : ∀ (b : Bool) (xs : List Wr), (∀ x ∈ xs, (fw x).length ≤ B) → (fwl b xs).length ≤ xs.length * (B + 2)
 | _, [], _ => by simp [fwl]
 | b, x :: r, h => by
  rw [fwl, List.length_append, List.length_append, List.length_cons]
  have h1 := h x (by simp)
  have h2 := fwl_bound false r (fun y hy => h y (by simp [hy]))
  have h3 : (bif b then ([] : List UInt8) else [44, 32]).length ≤ 2 := by cases b <;> simp
  rw [Nat.add_mul]
  omega
theorem brT_len {kd : Int} {t : Tr} (h : brT kd t = true) : (fw (prmW t)).length ≤ 24 := by
 obtain ⟨k, tx, n, ks, at_⟩ := t
 simp only [brT, Bool.and_eq_true] at h
 rw [prmW, fw]
 exact fre_len h.1.1.2
theorem headW_len {tx : List UInt8} {ps : List Tr} (ht : tx.length ≤ 24) (hp : ps.length ≤ 8) (h : ps.all (brT 4) = true) : (fw (headW tx ps)).length ≤ 300 := by
 unfold headW
 cases ps.isEmpty with
 | true => rw [cond_true, fw]; omega
 | false =>
  rw [cond_false, fw]
  have := fwl_bound (B := 24) true (ps.map prmW) (fun x hx => by
   obtain ⟨y, hy, rfl⟩ := List.mem_map.1 hx
   exact brT_len (List.all_eq_true.1 h y hy))
  rw [List.length_map] at this
  have h2 : ps.length * (24 + 2) ≤ 8 * 26 := Nat.mul_le_mul_right _ hp
  simp only [List.length_append, List.length_cons, List.length_nil]
  omega
theorem letW_len {t : Tr} (h : letS t = true) (hs : sml t = true) : (fw (letW t)).length ≤ 1639000 := by
 obtain ⟨k, tx, n, ks, at_⟩ := t
 have hsm : ∀ {j : Nat} {x : Tr}, ks[j]? = some x → sml x = true := fun hx => kid_small hs hx
 simp only [letS, nmd, Bool.and_eq_true, decide_eq_true_eq, beq_iff_eq] at h
 obtain ⟨⟨⟨h1, h2, h3⟩, h4, h5⟩, h6, h7⟩ := h
 cases hx : ks[ldg 4 ks]? with
 | none => rw [hx] at h7; cases h7
 | some x =>
  rw [hx] at h7
  have h7 : rt 100 x = true := h7
  have h8 := hsm hx
  unfold sml at h8
  rw [decide_eq_true_eq] at h8
  have h9 := fw_sum x 100 8192 h7 h8
  have hd : ks.getD (ldg 4 ks) (.mk 0 [] 0 [] 0) = x := by rw [List.getD_eq_getElem?_getD, hx]; rfl
  have hh := headW_len (tx := tx) (ps := ks.take (ldg 4 ks)) (fre_len h3) (by rw [List.length_take]; omega) h6
  rw [letW, hd]
  simp only [fw, fws, List.length_append, List.length_cons, List.length_nil]
  omega
theorem modW_len {t : Tr} (h : (modS t && decide (0 ≤ lft t 8192)) = true) : (fw (modW t)).length ≤ 140737488355328 := by
 obtain ⟨k, tx, n, ks, at_⟩ := t
 rw [Bool.and_eq_true] at h
 have hs : sml (.mk k tx n ks at_) = true := h.2
 have h := h.1
 simp only [modS, nmd, Bool.and_eq_true, decide_eq_true_eq, beq_iff_eq] at h
 obtain ⟨⟨⟨h1, h2, h3⟩, h4, h5⟩, h6, h7⟩ := h
 have ht := fre_len h3
 have ha := fws_bound (B := 100) ((ks.take (ldg 2 ks)).map impW) (fun x hx => by
  obtain ⟨y, hy, rfl⟩ := List.mem_map.1 hx
  have := List.all_eq_true.1 h6 y hy
  obtain ⟨k', tx', n', ks', at'⟩ := y
  simp only [brT, Bool.and_eq_true] at this
  have := fre_len this.1.1.2
  simp only [impW, fw, fws, List.length_append, List.length_cons, List.length_nil]
  omega)
 have hb := fws_bound (B := 1639000) ((ks.drop (ldg 2 ks)).map letW) (fun x hx => by
  obtain ⟨y, hy, rfl⟩ := List.mem_map.1 hx
  obtain ⟨j, hj⟩ := List.getElem?_of_mem (List.mem_of_mem_drop hy)
  exact letW_len (List.all_eq_true.1 h7 y hy) (kid_small hs hj))
 rw [List.length_map, List.length_take] at ha
 rw [List.length_map, List.length_drop] at hb
 have h8 : (min (ldg 2 ks) ks.length) * 100 ≤ 100 * 100 := Nat.mul_le_mul_right _ (by omega)
 have h9 : (ks.length - ldg 2 ks) * 1639000 ≤ 200 * 1639000 := Nat.mul_le_mul_right _ h5
 have happ : ∀ (xs ys : List Wr), fws (xs ++ ys) = fws xs ++ fws ys := by
  intro xs ys
  induction xs with
  | nil => simp [fws]
  | cons x r ih => rw [List.cons_append, fws, fws, ih, List.append_assoc]
 rw [modW, fw, fws, happ]
 simp only [fw, fws, List.length_append, List.length_cons, List.length_nil]
 omega
theorem slice_to (ad : Addr) (n c L : Nat) (h : L ≤ n) (h2 : n ≤ c) (w : World) : (Instr.sliceAt 22 (.slice (some ad) n c) none (some (.int .i64 L)) none).run Tryz.prog w = .ok (.slice (some ad) L c) w := by
 have h1 : (L : Int) ≤ (c : Int) := by omega
 go_simp
theorem slice_from (b o n c L : Nat) (h : L ≤ n) (h2 : n ≤ c) (w : World) : (Instr.sliceAt 22 (.slice (some ⟨b, o, none⟩) n c) (some (.int .i64 L)) none none).run Tryz.prog w = .ok (.slice (if c = L then some ⟨b, o, none⟩ else some ⟨b, o + L * 5, none⟩) (n - L) (c - L)) w := by
 have h1 : (L : Int) ≤ (n : Int) := by omega
 have h2 : (n : Int) ≤ (c : Int) := by omega
 go_simp
theorem slice_fromE (ad : Addr) (c : Nat) (w : World) : (Instr.sliceAt 22 (.slice (some ad) 0 c) (some (.int .i64 0)) none none).run Tryz.prog w = .ok (.slice (some ad) 0 c) w := by
 have h2 : (0 : Int) ≤ (c : Int) := by omega
 go_simp
theorem slice_0 (c : Nat) (w : World) : (Instr.sliceAt 22 (.slice none 0 c) none (some (.int .i64 0)) none).run Tryz.prog w = .ok (.slice none 0 c) w ∧ (Instr.sliceAt 22 (.slice none 0 c) (some (.int .i64 0)) none none).run Tryz.prog w = .ok (.slice none 0 c) w := by
 have h2 : (0 : Int) ≤ (c : Int) := by omega
 constructor <;> go_simp
theorem Kds.split {w : World} {v : Value} {ks : List Tr} (h : Kds w v ks) {L : Nat} (hL : L ≤ ks.length) : ∃ a1 c1 a2 c2, (∀ w', (Instr.sliceAt 22 v none (some (.int .i64 L)) none).run Tryz.prog w' = .ok (.slice a1 L c1) w') ∧ (∀ w', (Instr.sliceAt 22 v (some (.int .i64 L)) none none).run Tryz.prog w' = .ok (.slice a2 (ks.length - L) c2) w') ∧ ∀ w2, Kds w2 v ks → Kds w2 (.slice a1 L c1) (ks.take L) ∧ Kds w2 (.slice a2 (ks.length - L) c2) (ks.drop L) := by
 obtain ⟨a, c, rfl, hc, hk⟩ := h
 cases ks with
 | nil =>
  obtain rfl : L = 0 := by simpa using hL
  have key : ∀ (a : Option Addr) (c : Nat), (([] : List Tr).length ≤ c ∧ c ≤ 9223372036854775807) → ∀ w2, Kds w2 (.slice a 0 c) [] := fun a c hc w2 => ⟨a, c, rfl, hc, fun i t ht => by simp at ht⟩
  cases a with
  | none => exact ⟨none, c, none, c, fun w' => (slice_0 c w').1, fun w' => (slice_0 c w').2, fun w2 _ => ⟨key _ _ hc w2, key _ _ hc w2⟩⟩
  | some ad => exact ⟨some ad, c, some ad, c, fun w' => slice_to ad 0 c 0 (Nat.le_refl _) (Nat.zero_le _) w', fun w' => slice_fromE ad c w', fun w2 _ => ⟨key _ _ hc w2, key _ _ hc w2⟩⟩
 | cons x r =>
  obtain ⟨b, o, u, rfl, -, -⟩ := hk 0 x rfl
  refine ⟨_, _, _, _, fun w' => slice_to _ _ c L hL hc.1 w', fun w' => slice_from b o _ c L hL hc.1 w', fun w2 h2 => ?_⟩
  obtain ⟨a2, c2, e, hc2, hk2⟩ := h2
  injection e with e1 e2 e3
  subst e1 e3
  refine ⟨⟨_, c, by rw [List.length_take, Nat.min_eq_left hL], by rw [List.length_take]; omega, fun i t ht => ?_⟩, ⟨_, _, by rw [List.length_drop], by rw [List.length_drop]; omega, fun i t ht => ?_⟩⟩
  ·have hi : i < L := by have := (List.getElem?_eq_some_iff.1 ht).1; rw [List.length_take] at this; omega
   rw [List.getElem?_take_of_lt hi] at ht
   exact hk2 i t ht
  ·have hi := (List.getElem?_eq_some_iff.1 ht).1
   rw [List.length_drop] at hi
   rw [List.getElem?_drop] at ht
   obtain ⟨b', o', u', e', h3, h4⟩ := hk2 (L + i) t ht
   injection e' with e'
   injection e' with e4 e5
   subst e4 e5
   rw [if_neg (by omega)]
   exact ⟨b, o + L * 5, u', rfl, by rw [show o + L * 5 + i * 5 = o + (L + i) * 5 by omega]; exact h3, h4⟩
def FP (t : Tr) : Prop := ∀ (w : World) (v : Value), Nd w v t → Calls Tryz.prog 29 #[v] w fun e w' => e = .returned (strV (fw (wrOf t))) ∧ Below w.heap.size w w'
theorem isOp_kd (k : Int) (tx : List UInt8) (n : Int) (ks : List Tr) (at_ : Int) : (wrOf (.mk k tx n ks at_)).isOp = (k == 12 || k == 13 || k == 14) := by
 rw [wrOf, mkW]
 by_cases h5 : k = 5
 ·subst h5; rfl
 by_cases h6 : k = 6
 ·subst h6; rfl
 by_cases h8 : k = 8
 ·subst h8; rfl
 by_cases h9 : k = 9
 ·subst h9; rfl
 by_cases h11 : k = 11
 ·subst h11; rfl
 by_cases h15 : k = 15
 ·subst h15; rfl
 by_cases h12 : k = 12
 ·subst h12; rfl
 by_cases h13 : k = 13
 ·subst h13; rfl
 by_cases h14 : k = 14
 ·subst h14; rfl
 simp only [show (k == 5) = false by simpa using h5, show (k == 6) = false by simpa using h6, show (k == 8) = false by simpa using h8, show (k == 9) = false by simpa using h9, show (k == 11) = false by simpa using h11, show (k == 15) = false by simpa using h15, show (k == 12) = false by simpa using h12, show (k == 13) = false by simpa using h13, show (k == 14) = false by simpa using h14, cond_false, Wr.isOp, Bool.or_self]
theorem rnum_any (n : Int) (w : World) : Calls Tryz.prog 48 #[.int .i64 n] w fun e w' => e = .returned (strV (showL n)) ∧ w' = w := by
 by_cases h : (clampI n).natAbs % 1000000 = 0
 ·exact Nm.rshow_whole n w h
 ·exact Nm.rshow_frac n w h
theorem rday_any {n : Int} (h : btw 0 73048 n = true) (w : World) : Calls Tryz.prog 49 #[.int .i64 n] w fun e w' => e = .returned (.tuple #[strV (dsh n.toNat), .int .i64 0]) ∧ Below w.heap.size w w' := by
 have h1 := btw_iff.1 h
 obtain ⟨m, rfl⟩ := Int.eq_ofNat_of_zero_le h1.1
 refine (rshow_yes m (by omega) w).mono ?_
 rintro e w' ⟨y, mo, d, hd, hdn, rfl, hB⟩
 refine ⟨?_, hB⟩
 have : dsh ((m : Int).toNat) = shL y mo d := by rw [Int.toNat_natCast, ← hdn]; exact dsh_eq hd
 rw [this]
 rfl
seal wpList in
theorem rpart_any {k : Int} {tx : List UInt8} {n : Int} {kids : List Tr} {at_ : Int} (hf : FP (.mk k tx n kids at_)) (hl : (fw (wrOf (.mk k tx n kids at_))).length ≤ 4611686018427387904) {w : World} {v : Value} (hn : Nd w v (.mk k tx n kids at_)) : Calls Tryz.prog 50 #[v] w fun e w' => e = .returned (strV (prn (wrOf (.mk k tx n kids at_)).isOp (fw (wrOf (.mk k tx n kids at_))))) ∧ Below w.heap.size w w' := by
 have HFP := hid hf
 have HN := hid hn
 obtain ⟨sx, hsx⟩ : ∃ sx, fw (wrOf (.mk k tx n kids at_)) = sx := ⟨_, rfl⟩
 rw [hsx] at hl
 have HLW := hid hl
 have HSX := hid hsx
 have HB0 := hid (Below.refl w.heap.size w)
 obtain ⟨a, c, rfl, -, -⟩ := hn.open
 clear hf hn hl hsx
 obtain ⟨N, hN⟩ : ∃ N, kids.length = N := ⟨_, rfl⟩
 rw [hN] at HN ⊢
 clear hN
 go_enter Tryz.func50, Tryz.ntmps50
 go_upto_region 0 with fail
 refine rl ?_
 obtain ⟨w3, g1, (HX : Hid _), (K2 : Hid _), (HB4 : Hid _)⟩ := box_x 24 w #[(.int .i64 k), (strV tx), (.int .i64 n), (.slice a N c), (.int .i64 at_)]
 refine wp_run (v := (.pointer (some ⟨g1, 0, none⟩))) rfl rfl (run_boxOp rfl (by kernel_rfl) HX.out) rfl ?_
 try simp only [nA, nB, nC]
 replace HN := hid (HN.out.later HB4.out)
 replace HB0 := kb HB0 HB4
 refine qv (strV []) ?_
 simp only [nA, nB, nC]
 refine we ?_
 go_upto_region 1 with fail
 refine rl ?_
 refine qf (fa_api_Node_0 g1 0) ?_
 refine ql (.int .i64 k) Tryz.isAgg3 0 K2 ?_
 simp only [nA, nB, nC]
 rcases bt ((k == (12 : Int))) with Hhb5 | Hhb5
 ·refine wp_y (v := (.bool true)) rfl rfl (y_bin (k := .i64) (k' := .i64) (m := k) (n := 12) rfl (hr := beql_int k 12 true Hhb5.out)) rfl ?_
  try simp only [nA, nB, nC]
  refine qv (.bool true) ?_
  simp only [nA, nB, nC]
  refine qs rfl ?_
  simp only [nA, nB, nC]
  refine qs rfl ?_
  simp only [nA, nB, nC]
  refine qs rfl ?_
  simp only [nA, nB, nC]
  refine qv (.bool true) ?_
  refine qv (.bool true) ?_
  simp only [nA, nB, nC]
  refine qs rfl ?_
  simp only [nA, nB, nC]
  refine qs rfl ?_
  simp only [nA, nB, nC]
  refine qs rfl ?_
  simp only [nA, nB, nC]
  refine qv (.bool true) ?_
  simp only [nA, nB, nC]
  refine we ?_
  go_upto_region 2 with fail
  refine rl ?_
  refine qk (nv k tx n (.slice a N c) at_) Tryz.isAgg24 K2 ?_
  simp only [nA, nB, nC]
  refine qc #[(nv k tx n (.slice a N c) at_)] ?_
  have HCA := hid (HFP.out w3 _ HN.out)
  refine HCA.out.mono ?_
  rintro e w6 ⟨he, hq⟩
  rw [HSX.out] at he
  subst he
  refine ⟨_, rfl, ?_⟩
  have HB7 := hid hq
  clear hq
  replace K2 := ka HB7 K2
  replace HN := hid (HN.out.later HB7.out)
  replace HB0 := kb HB0 HB7
  try simp only [Act.put, nA, nB, nC]
  refine wp_y (v := (strV ([40] ++ sx))) rfl rfl (y_addS (l := [40]) (m := sx) rfl (by kernel_rfl) (by kernel_rfl) (by kernel_rfl) (by have := HLW.out; first | omega | (simp only [List.length_cons, List.length_nil] at this ⊢; omega))) rfl ?_
  simp only [nA, nB, nC]
  refine wp_y (v := (strV ([40] ++ sx ++ [41]))) rfl rfl (y_addS (l := [40] ++ sx) (m := [41]) rfl (by kernel_rfl) (by kernel_rfl) (by kernel_rfl) (by have := HLW.out; first | omega | (simp only [List.length_append, List.length_cons, List.length_nil] at this ⊢; omega))) rfl ?_
  simp only [nA, nB, nC]
  refine qv (strV ([40] ++ sx ++ [41])) ?_
  simp only [nA, nB, nC]
  refine we ?_
  go_wp2_with fail
  go_ret
  refine ⟨congrArg (fun l => Ending.returned (strV l)) ?_, HB0.out⟩
  rw [isOp_kd, HSX.out, Hhb5.out]
  first | rfl | simp [prn]
 ·refine wp_y (v := (.bool false)) rfl rfl (y_bin (k := .i64) (k' := .i64) (m := k) (n := 12) rfl (hr := beql_int k 12 false Hhb5.out)) rfl ?_
  try simp only [nA, nB, nC]
  refine qv (.bool false) ?_
  simp only [nA, nB, nC]
  refine wp_yg (v := (.pointer (some ⟨g1, 0, none⟩))) rfl (y_faddr rfl (hf := fa_api_Node_0 g1 0)) rfl ?_
  try simp only [nA, nB, nC]
  refine wp_yg (v := (.int .i64 k)) rfl (y_load rfl (hl := fun w' h => by rw [h]; exact load1 Tryz.isAgg3 (cell_at K2.out 0 rfl))) rfl ?_
  try simp only [nA, nB, nC]
  rcases bt ((k == (13 : Int))) with Hhb8 | Hhb8
  ·refine wp_yg (v := (.bool true)) rfl (y_bin (k := .i64) (k' := .i64) (m := k) (n := 13) rfl (hr := beql_int k 13 true Hhb8.out)) rfl ?_
   try simp only [nA, nB, nC]
   refine qv (.bool true) ?_
   refine qv (.bool true) ?_
   simp only [nA, nB, nC]
   refine qs rfl ?_
   simp only [nA, nB, nC]
   refine qs rfl ?_
   simp only [nA, nB, nC]
   refine qs rfl ?_
   simp only [nA, nB, nC]
   refine qv (.bool true) ?_
   simp only [nA, nB, nC]
   refine we ?_
   go_upto_region 2 with fail
   refine rl ?_
   refine qk (nv k tx n (.slice a N c) at_) Tryz.isAgg24 K2 ?_
   simp only [nA, nB, nC]
   refine qc #[(nv k tx n (.slice a N c) at_)] ?_
   have HCA := hid (HFP.out w3 _ HN.out)
   refine HCA.out.mono ?_
   rintro e w9 ⟨he, hq⟩
   rw [HSX.out] at he
   subst he
   refine ⟨_, rfl, ?_⟩
   have HB10 := hid hq
   clear hq
   replace K2 := ka HB10 K2
   replace HN := hid (HN.out.later HB10.out)
   replace HB0 := kb HB0 HB10
   try simp only [Act.put, nA, nB, nC]
   refine wp_y (v := (strV ([40] ++ sx))) rfl rfl (y_addS (l := [40]) (m := sx) rfl (by kernel_rfl) (by kernel_rfl) (by kernel_rfl) (by have := HLW.out; first | omega | (simp only [List.length_cons, List.length_nil] at this ⊢; omega))) rfl ?_
   simp only [nA, nB, nC]
   refine wp_y (v := (strV ([40] ++ sx ++ [41]))) rfl rfl (y_addS (l := [40] ++ sx) (m := [41]) rfl (by kernel_rfl) (by kernel_rfl) (by kernel_rfl) (by have := HLW.out; first | omega | (simp only [List.length_append, List.length_cons, List.length_nil] at this ⊢; omega))) rfl ?_
   simp only [nA, nB, nC]
   refine qv (strV ([40] ++ sx ++ [41])) ?_
   simp only [nA, nB, nC]
   refine we ?_
   go_wp2_with fail
   go_ret
   refine ⟨congrArg (fun l => Ending.returned (strV l)) ?_, HB0.out⟩
   rw [isOp_kd, HSX.out, Hhb5.out, Hhb8.out]
   first | rfl | simp [prn]
  ·refine wp_yg (v := (.bool false)) rfl (y_bin (k := .i64) (k' := .i64) (m := k) (n := 13) rfl (hr := beql_int k 13 false Hhb8.out)) rfl ?_
   try simp only [nA, nB, nC]
   refine qv (.bool false) ?_
   refine qv (.bool false) ?_
   simp only [nA, nB, nC]
   refine wp_yg (v := (.pointer (some ⟨g1, 0, none⟩))) rfl (y_faddr rfl (hf := fa_api_Node_0 g1 0)) rfl ?_
   try simp only [nA, nB, nC]
   refine wp_yg (v := (.int .i64 k)) rfl (y_load rfl (hl := fun w' h => by rw [h]; exact load1 Tryz.isAgg3 (cell_at K2.out 0 rfl))) rfl ?_
   try simp only [nA, nB, nC]
   rcases bt ((k == (14 : Int))) with Hhb11 | Hhb11
   ·refine wp_yg (v := (.bool true)) rfl (y_bin (k := .i64) (k' := .i64) (m := k) (n := 14) rfl (hr := beql_int k 14 true Hhb11.out)) rfl ?_
    try simp only [nA, nB, nC]
    refine qv (.bool true) ?_
    simp only [nA, nB, nC]
    refine we ?_
    go_upto_region 2 with fail
    refine rl ?_
    refine qk (nv k tx n (.slice a N c) at_) Tryz.isAgg24 K2 ?_
    simp only [nA, nB, nC]
    refine qc #[(nv k tx n (.slice a N c) at_)] ?_
    have HCA := hid (HFP.out w3 _ HN.out)
    refine HCA.out.mono ?_
    rintro e w12 ⟨he, hq⟩
    rw [HSX.out] at he
    subst he
    refine ⟨_, rfl, ?_⟩
    have HB13 := hid hq
    clear hq
    replace K2 := ka HB13 K2
    replace HN := hid (HN.out.later HB13.out)
    replace HB0 := kb HB0 HB13
    try simp only [Act.put, nA, nB, nC]
    refine wp_y (v := (strV ([40] ++ sx))) rfl rfl (y_addS (l := [40]) (m := sx) rfl (by kernel_rfl) (by kernel_rfl) (by kernel_rfl) (by have := HLW.out; first | omega | (simp only [List.length_cons, List.length_nil] at this ⊢; omega))) rfl ?_
    simp only [nA, nB, nC]
    refine wp_y (v := (strV ([40] ++ sx ++ [41]))) rfl rfl (y_addS (l := [40] ++ sx) (m := [41]) rfl (by kernel_rfl) (by kernel_rfl) (by kernel_rfl) (by have := HLW.out; first | omega | (simp only [List.length_append, List.length_cons, List.length_nil] at this ⊢; omega))) rfl ?_
    simp only [nA, nB, nC]
    refine qv (strV ([40] ++ sx ++ [41])) ?_
    simp only [nA, nB, nC]
    refine we ?_
    go_wp2_with fail
    go_ret
    refine ⟨congrArg (fun l => Ending.returned (strV l)) ?_, HB0.out⟩
    rw [isOp_kd, HSX.out, Hhb5.out, Hhb8.out, Hhb11.out]
    first | rfl | simp [prn]
   ·refine wp_yg (v := (.bool false)) rfl (y_bin (k := .i64) (k' := .i64) (m := k) (n := 14) rfl (hr := beql_int k 14 false Hhb11.out)) rfl ?_
    try simp only [nA, nB, nC]
    refine qv (.bool false) ?_
    simp only [nA, nB, nC]
    refine we ?_
    go_upto_region 3 with fail
    refine rl ?_
    refine qk (nv k tx n (.slice a N c) at_) Tryz.isAgg24 K2 ?_
    simp only [nA, nB, nC]
    refine qc #[(nv k tx n (.slice a N c) at_)] ?_
    have HCA := hid (HFP.out w3 _ HN.out)
    refine HCA.out.mono ?_
    rintro e w14 ⟨he, hq⟩
    rw [HSX.out] at he
    subst he
    refine ⟨_, rfl, ?_⟩
    have HB15 := hid hq
    clear hq
    replace K2 := ka HB15 K2
    replace HN := hid (HN.out.later HB15.out)
    replace HB0 := kb HB0 HB15
    try simp only [Act.put, nA, nB, nC]
    refine qv (strV sx) ?_
    simp only [nA, nB, nC]
    refine we ?_
    go_wp2_with fail
    go_ret
    refine ⟨congrArg (fun l => Ending.returned (strV l)) ?_, HB0.out⟩
    rw [isOp_kd, HSX.out, Hhb5.out, Hhb8.out, Hhb11.out]
    first | rfl | simp [prn]
seal wpList in
theorem rlist_any {ks : List Tr} (hf : ∀ t ∈ ks, FP t) (hl : (fwl true (wrsOf ks)).length ≤ 4611686018427387904) {w : World} {sv : Value} (hk : Kds w sv ks) : Calls Tryz.prog 28 #[sv] w fun e w' => e = .returned (strV ([40] ++ fwl true (wrsOf ks) ++ [41])) ∧ Below w.heap.size w w' := by
 obtain ⟨a, c, rfl, hc, hk⟩ := hk
 obtain ⟨N, hN⟩ : ∃ N, ks.length = N := ⟨_, rfl⟩
 rw [hN] at hc ⊢
 have HNN := hid hN
 have HNM : Hid (N ≤ 9223372036854775807) := hid (Nat.le_trans hc.1 hc.2)
 have HK := hid hk
 have HFP := hid hf
 have HLA := hid hl
 have HB0 := hid (Below.refl w.heap.size w)
 clear hN hc hk hf hl
 go_enter Tryz.func28, Tryz.ntmps28
 go_upto_region 0 with fail
 refine rl ?_
 refine qv (strV []) ?_
 simp only [nA, nB, nC]
 refine we ?_
 go_upto_region 1 with fail
 refine rl ?_
 refine qv (strV [40]) ?_
 simp only [nA, nB, nC]
 refine we ?_
 go_upto_region 2 with fail
 refine rl ?_
 refine qv (.int .i64 0) ?_
 simp only [nA, nB, nC]
 refine we ?_
 go_wp2_with fail
 go_loopw [4, 3] (fun v4 v3 wr => ∃ j : Nat, j ≤ N ∧ v4 = .int .i64 j ∧ v3 = strV ([40] ++ fwl true (wrsOf (ks.take j))) ∧ Below w.heap.size w wr) (fun v4 _ _ => N - (intOf v4).toNat)
 case atStart =>
  exact ⟨0, Nat.zero_le _, rfl, by simp [wrsOf, fwl], HB0.out⟩
 case round =>
  obtain ⟨j, hj, rfl, rfl, hB⟩ := hrel
  clear HB0
  have HB0 := hid hB
  have HJJ := hid hj
  clear hB hj
  go_upto_region 3 with fail
  refine rl ?_
  refine qv (.int .i64 (((j : Nat) : Int))) ?_
  refine qv (.slice a N c) ?_
  simp only [nA, nB, nC]
  refine wp_y (v := (.int .i64 (((N : Nat) : Int)))) rfl rfl (y_lenT len_Sapi_Node (p := a) (n := N) (c := c) rfl (by kernel_rfl) (by kernel_rfl)) rfl ?_
  simp only [nA, nB, nC]
  rcases bt (decide (((j : Nat) : Int) < ((N : Nat) : Int))) with Hhb1 | Hhb1
  ·have hlt : j < N := by have := of_decide_eq_true Hhb1.out; omega
   obtain ⟨t, ht⟩ : ∃ t, ks[j]? = some t := ⟨_, List.getElem?_eq_getElem (by rw [HNN.out]; exact hlt)⟩
   obtain ⟨b, o, u, rfl, hcl, hnd⟩ := HK.out j t ht
   obtain ⟨k', tx', n', ks', at'⟩ := t
   obtain ⟨a', c', rfl, -, -⟩ := hnd.open
   have HFK := hid (HFP.out _ (List.mem_of_getElem? ht))
   have HJ := hid ht
   have HLT := hid hlt
   have HCL := hid (load24 (hcl.below HB0.out))
   have HNK := hid (hnd.later HB0.out)
   have HS1 := hid (wrap_next (N := N) hlt HNM.out)
   obtain ⟨N', hN'⟩ : ∃ x, ks'.length = x := ⟨_, rfl⟩
   rw [hN'] at HCL HNK
   clear hlt ht hcl hnd hN'
   obtain ⟨sk, hsk⟩ : ∃ x, fw (wrOf (.mk k' tx' n' ks' at')) = x := ⟨_, rfl⟩
   have HSK := hid hsk
   clear hsk
   have HNX : Hid (fwl true (wrsOf (ks.take (j + 1))) = fwl true (wrsOf (ks.take j)) ++ (bif decide (0 < j) then [44, 32] else []) ++ sk) := hid (by rw [take_next HJ.out, wrsOf_snoc, fwl_snoc, HSK.out, Bool.true_and]; congr 2; cases j with | zero => rfl | succ j => (cases hq : (wrsOf (ks.take (j + 1))).isEmpty with | false => rfl | true => (rw [List.isEmpty_iff] at hq; have h8 := congrArg List.length hq; rw [wrsOf_len, List.length_take, HNN.out] at h8; have := HLT.out; simp at h8; omega)))
   have HLW : Hid ((fwl true (wrsOf (ks.take j)) ++ (bif decide (0 < j) then [44, 32] else []) ++ sk).length ≤ 4611686018427387904) := hid (by rw [← HNX.out]; refine Nat.le_trans ?_ HLA.out; rw [wrsOf_map, wrsOf_map, List.map_take]; exact fwl_le true _ _)
   refine qb (blss_int ((j : Nat) : Int) ((N : Nat) : Int) true Hhb1.out) ?_
   simp only [nA, nB, nC]
   refine we ?_
   go_upto_region 5 with fail
   refine rl ?_
   refine qv (.int .i64 (((j : Nat) : Int))) ?_
   simp only [nA, nB, nC]
   rcases bt (decide ((0 : Int) < ((j : Nat) : Int))) with Hhb2 | Hhb2
   ·have HDJ : Hid (decide (0 < j) = true) := hid (by rw [← Hhb2.out]; exact decide_eq_decide.2 (by omega))
    rw [HDJ.out] at HNX HLW
    refine qb (bgtr_int ((j : Nat) : Int) 0 true Hhb2.out) ?_
    simp only [nA, nB, nC]
    refine we ?_
    go_upto_region 6 with fail
    refine rl ?_
    refine qv (strV ([40] ++ fwl true (wrsOf (ks.take j)))) ?_
    simp only [nA, nB, nC]
    refine wp_y (v := (strV ([40] ++ fwl true (wrsOf (ks.take j)) ++ [44, 32]))) rfl rfl (y_addS (l := [40] ++ fwl true (wrsOf (ks.take j))) (m := [44, 32]) rfl (by kernel_rfl) (by kernel_rfl) (by kernel_rfl) (by have := HLW.out; simp only [List.length_append, List.length_cons, List.length_nil, cond_true] at this ⊢; omega)) rfl ?_
    simp only [nA, nB, nC]
    refine qv (strV ([40] ++ fwl true (wrsOf (ks.take j)) ++ [44, 32])) ?_
    simp only [nA, nB, nC]
    refine we ?_
    go_upto_region 7 with fail
    refine rl ?_
    refine qv (strV ([40] ++ fwl true (wrsOf (ks.take j)) ++ [44, 32])) ?_
    refine qv (.slice (some ⟨b, o, none⟩) N c) ?_
    refine qv (.int .i64 (((j : Nat) : Int))) ?_
    simp only [nA, nB, nC]
    refine wp_y (v := (.pointer (some ⟨b, o + j * 5, none⟩))) rfl rfl (y_index (p := (.slice (some ⟨b, o, none⟩) N c)) (k := (.int .i64 (((j : Nat) : Int)))) rfl (by kernel_rfl) (by kernel_rfl) (by kernel_rfl) (idx24 b o N c j HLT.out)) rfl ?_
    simp only [nA, nB, nC]
    refine wp_y (v := (nv k' tx' n' (.slice a' N' c') at')) rfl rfl (y_load rfl (hl := fun w' h => by rw [h]; exact HCL.out)) rfl ?_
    simp only [nA, nB, nC]
    refine qc #[(nv k' tx' n' (.slice a' N' c') at')] ?_
    have HCA := hid (HFK.out wr _ HNK.out)
    refine HCA.out.mono ?_
    rintro e w3 ⟨he, hq⟩
    rw [HSK.out] at he
    subst he
    refine ⟨_, rfl, ?_⟩
    have HB4 := hid hq
    clear hq
    replace HNK := hid (HNK.out.later HB4.out)
    replace HB0 := kb HB0 HB4
    try simp only [Act.put, nA, nB, nC]
    refine wp_y (v := (strV ([40] ++ fwl true (wrsOf (ks.take j)) ++ [44, 32] ++ sk))) rfl rfl (y_addS (l := [40] ++ fwl true (wrsOf (ks.take j)) ++ [44, 32]) (m := sk) rfl (by kernel_rfl) (by kernel_rfl) (by kernel_rfl) (by have := HLW.out; simp only [List.length_append, List.length_cons, List.length_nil, cond_true] at this ⊢; omega)) rfl ?_
    simp only [nA, nB, nC]
    refine qv (strV ([40] ++ fwl true (wrsOf (ks.take j)) ++ [44, 32] ++ sk)) ?_
    simp only [nA, nB, nC]
    refine we ?_
    go_upto_region 4 with fail
    refine rl ?_
    refine qv (.int .i64 (((j : Nat) : Int))) ?_
    refine qb (badd_int ((j : Nat) : Int) 1 ((j + 1 : Nat) : Int) HS1.out) ?_
    refine qv (.int .i64 (((j + 1 : Nat) : Int))) ?_
    simp only [nA, nB, nC]
    refine we ?_
    go_wp2_with fail
    exact ⟨⟨j + 1, HLT.out, rfl, congrArg strV (by rw [HNX.out]; simp), HB0.out⟩, by have := HLT.out; simp [intOf]; omega⟩
   ·have HDJ : Hid (decide (0 < j) = false) := hid (by rw [← Hhb2.out]; exact decide_eq_decide.2 (by omega))
    rw [HDJ.out] at HNX HLW
    refine qb (bgtr_int ((j : Nat) : Int) 0 false Hhb2.out) ?_
    simp only [nA, nB, nC]
    refine we ?_
    go_upto_region 7 with fail
    refine rl ?_
    refine qv (strV ([40] ++ fwl true (wrsOf (ks.take j)))) ?_
    refine qv (.slice (some ⟨b, o, none⟩) N c) ?_
    refine qv (.int .i64 (((j : Nat) : Int))) ?_
    simp only [nA, nB, nC]
    refine wp_y (v := (.pointer (some ⟨b, o + j * 5, none⟩))) rfl rfl (y_index (p := (.slice (some ⟨b, o, none⟩) N c)) (k := (.int .i64 (((j : Nat) : Int)))) rfl (by kernel_rfl) (by kernel_rfl) (by kernel_rfl) (idx24 b o N c j HLT.out)) rfl ?_
    simp only [nA, nB, nC]
    refine wp_y (v := (nv k' tx' n' (.slice a' N' c') at')) rfl rfl (y_load rfl (hl := fun w' h => by rw [h]; exact HCL.out)) rfl ?_
    simp only [nA, nB, nC]
    refine qc #[(nv k' tx' n' (.slice a' N' c') at')] ?_
    have HCA := hid (HFK.out wr _ HNK.out)
    refine HCA.out.mono ?_
    rintro e w5 ⟨he, hq⟩
    rw [HSK.out] at he
    subst he
    refine ⟨_, rfl, ?_⟩
    have HB6 := hid hq
    clear hq
    replace HNK := hid (HNK.out.later HB6.out)
    replace HB0 := kb HB0 HB6
    try simp only [Act.put, nA, nB, nC]
    refine wp_y (v := (strV ([40] ++ fwl true (wrsOf (ks.take j)) ++ sk))) rfl rfl (y_addS (l := [40] ++ fwl true (wrsOf (ks.take j))) (m := sk) rfl (by kernel_rfl) (by kernel_rfl) (by kernel_rfl) (by have := HLW.out; simp only [List.length_append, List.length_cons, List.length_nil, cond_false] at this ⊢; omega)) rfl ?_
    simp only [nA, nB, nC]
    refine qv (strV ([40] ++ fwl true (wrsOf (ks.take j)) ++ sk)) ?_
    simp only [nA, nB, nC]
    refine we ?_
    go_upto_region 4 with fail
    refine rl ?_
    refine qv (.int .i64 (((j : Nat) : Int))) ?_
    refine qb (badd_int ((j : Nat) : Int) 1 ((j + 1 : Nat) : Int) HS1.out) ?_
    refine qv (.int .i64 (((j + 1 : Nat) : Int))) ?_
    simp only [nA, nB, nC]
    refine we ?_
    go_wp2_with fail
    exact ⟨⟨j + 1, HLT.out, rfl, congrArg strV (by rw [HNX.out]; simp), HB0.out⟩, by have := HLT.out; simp [intOf]; omega⟩
  ·have hlt : j = N := by have := of_decide_eq_false Hhb1.out; have := HJJ.out; omega
   have htk : ks.take j = ks := by rw [hlt, List.take_of_length_le (by rw [HNN.out]; exact Nat.le_refl _)]
   have HTK := hid htk
   have HLW : Hid ((fwl true (wrsOf (ks.take j))).length ≤ 4611686018427387904) := hid (by rw [htk]; exact HLA.out)
   clear hlt htk
   refine qb (blss_int ((j : Nat) : Int) ((N : Nat) : Int) false Hhb1.out) ?_
   simp only [nA, nB, nC]
   refine we ?_
   go_upto_region 8 with fail
   refine rl ?_
   refine qv (strV ([40] ++ fwl true (wrsOf (ks.take j)))) ?_
   simp only [nA, nB, nC]
   refine wp_y (v := (strV ([40] ++ fwl true (wrsOf (ks.take j)) ++ [41]))) rfl rfl (y_addS (l := [40] ++ fwl true (wrsOf (ks.take j))) (m := [41]) rfl (by kernel_rfl) (by kernel_rfl) (by kernel_rfl) (by have := HLW.out; simp only [List.length_append, List.length_cons, List.length_nil] at this ⊢; omega)) rfl ?_
   simp only [nA, nB, nC]
   refine qv (strV ([40] ++ fwl true (wrsOf (ks.take j)) ++ [41])) ?_
   simp only [nA, nB, nC]
   refine we ?_
   go_wp2_with fail
   go_ret
   exact ⟨congrArg (fun l => Ending.returned (strV ([40] ++ fwl true (wrsOf l) ++ [41]))) HTK.out, HB0.out⟩
seal wpList in
theorem form_5 {tx : List UInt8} {n : Int} {kids : List Tr} {at_ : Int} {w : World} {v : Value}  (hn : Nd w v (.mk 5 tx n kids at_)) : Calls Tryz.prog 29 #[v] w fun e w' => e = .returned (strV (showL n)) ∧ Below w.heap.size w w' := by
 have HN := hid hn
 have HN0 := hid hn
 have HB0 := hid (Below.refl w.heap.size w)
 obtain ⟨a, c, rfl, -, -⟩ := hn.open
 clear hn
 obtain ⟨N, hN⟩ : ∃ N, kids.length = N := ⟨_, rfl⟩
 rw [hN] at HN HN0 ⊢
 have HNN := hid hN
 clear hN
 go_enter Tryz.func29, Tryz.ntmps29
 go_upto_region 0 with fail
 refine rl ?_
 obtain ⟨w3, g1, (HX : Hid _), (K2 : Hid _), (HB4 : Hid _)⟩ := box_x 24 w #[(.int .i64 5), (strV tx), (.int .i64 n), (.slice a N c), (.int .i64 at_)]
 refine wp_run (v := (.pointer (some ⟨g1, 0, none⟩))) rfl rfl (run_boxOp rfl (by kernel_rfl) HX.out) rfl ?_
 try simp only [nA, nB, nC]
 replace HB0 := kb HB0 HB4
 refine qv (strV []) ?_
 simp only [nA, nB, nC]
 refine we ?_
 go_upto_region 1 with fail
 refine rl ?_
 refine qf (fa_api_Node_0 g1 0) ?_
 refine ql (.int .i64 5) Tryz.isAgg3 0 K2 ?_
 simp only [nA, nB, nC]
 refine we ?_
 go_upto_region 2 with fail
 refine rl ?_
 refine qb (beql_int 5 5 true (by decide)) ?_
 refine qv (.bool true) ?_
 simp only [nA, nB, nC]
 refine we ?_
 go_upto_region 3 with fail
 refine rl ?_
 refine qf (fa_api_Node_2 g1 0) ?_
 refine ql (.int .i64 n) Tryz.isAgg2 2 K2 ?_
 simp only [nA, nB, nC]
 refine qc #[(.int .i64 n)] ?_
 have HCA := hid (rnum_any n w3)
 refine HCA.out.mono ?_
 rintro e wz ⟨rfl, hwz⟩
 refine ⟨_, rfl, ?_⟩
 obtain rfl := hwz.symm
 try simp only [Act.put, nA, nB, nC]
 refine qv (strV (showL n)) ?_
 simp only [nA, nB, nC]
 refine we ?_
 go_wp2_with fail
 go_ret
 exact ⟨rfl, HB0.out⟩
seal wpList in
theorem form_6 {tx : List UInt8} {n : Int} {kids : List Tr} {at_ : Int} {w : World} {v : Value} (hd : btw 0 73048 n = true) (hn : Nd w v (.mk 6 tx n kids at_)) : Calls Tryz.prog 29 #[v] w fun e w' => e = .returned (strV (dsh n.toNat)) ∧ Below w.heap.size w w' := by
 have HD := hid hd
 clear hd
 have HN := hid hn
 have HN0 := hid hn
 have HB0 := hid (Below.refl w.heap.size w)
 obtain ⟨a, c, rfl, -, -⟩ := hn.open
 clear hn
 obtain ⟨N, hN⟩ : ∃ N, kids.length = N := ⟨_, rfl⟩
 rw [hN] at HN HN0 ⊢
 have HNN := hid hN
 clear hN
 go_enter Tryz.func29, Tryz.ntmps29
 go_upto_region 0 with fail
 refine rl ?_
 obtain ⟨w3, g1, (HX : Hid _), (K2 : Hid _), (HB4 : Hid _)⟩ := box_x 24 w #[(.int .i64 6), (strV tx), (.int .i64 n), (.slice a N c), (.int .i64 at_)]
 refine wp_run (v := (.pointer (some ⟨g1, 0, none⟩))) rfl rfl (run_boxOp rfl (by kernel_rfl) HX.out) rfl ?_
 try simp only [nA, nB, nC]
 replace HB0 := kb HB0 HB4
 refine qv (strV []) ?_
 simp only [nA, nB, nC]
 refine we ?_
 go_upto_region 1 with fail
 refine rl ?_
 refine qf (fa_api_Node_0 g1 0) ?_
 refine ql (.int .i64 6) Tryz.isAgg3 0 K2 ?_
 simp only [nA, nB, nC]
 refine we ?_
 go_upto_region 2 with fail
 refine rl ?_
 refine qb (beql_int 6 5 false (by decide)) ?_
 refine qv (.bool false) ?_
 simp only [nA, nB, nC]
 refine we ?_
 go_upto_region 4 with fail
 refine rl ?_
 refine qb (beql_int 6 6 true (by decide)) ?_
 refine qv (.bool true) ?_
 simp only [nA, nB, nC]
 refine we ?_
 go_upto_region 5 with fail
 refine rl ?_
 refine qf (fa_api_Node_2 g1 0) ?_
 refine ql (.int .i64 n) Tryz.isAgg2 2 K2 ?_
 simp only [nA, nB, nC]
 refine qc #[(.int .i64 n)] ?_
 have HCA := hid (rday_any HD.out w3)
 refine HCA.out.mono ?_
 rintro e w5 ⟨rfl, (HB6 : Hid _)⟩
 refine ⟨_, rfl, ?_⟩
 replace K2 := ka HB6 K2
 replace HB0 := kb HB0 HB6
 try simp only [Act.put, nA, nB, nC]
 refine qv (.tuple #[(strV (dsh n.toNat)), (.int .i64 0)]) ?_
 refine qv (strV (dsh n.toNat)) ?_
 refine qv (.int .i64 0) ?_
 refine qv (strV (dsh n.toNat)) ?_
 simp only [nA, nB, nC]
 refine qv (.int .i64 0) ?_
 simp only [nA, nB, nC]
 refine we ?_
 go_upto_region 6 with fail
 refine rl ?_
 refine qv (strV (dsh n.toNat)) ?_
 refine qv (strV (dsh n.toNat)) ?_
 simp only [nA, nB, nC]
 refine we ?_
 go_wp2_with fail
 go_ret
 exact ⟨rfl, HB0.out⟩
seal wpList in
theorem form_80 {tx : List UInt8} {kids : List Tr} {at_ : Int} {w : World} {v : Value}  (hn : Nd w v (.mk 8 tx 0 kids at_)) : Calls Tryz.prog 29 #[v] w fun e w' => e = .returned (strV (tru 0)) ∧ Below w.heap.size w w' := by
 have HN := hid hn
 have HN0 := hid hn
 have HB0 := hid (Below.refl w.heap.size w)
 obtain ⟨a, c, rfl, -, -⟩ := hn.open
 clear hn
 obtain ⟨N, hN⟩ : ∃ N, kids.length = N := ⟨_, rfl⟩
 rw [hN] at HN HN0 ⊢
 have HNN := hid hN
 clear hN
 go_enter Tryz.func29, Tryz.ntmps29
 go_upto_region 0 with fail
 refine rl ?_
 obtain ⟨w3, g1, (HX : Hid _), (K2 : Hid _), (HB4 : Hid _), (GV : Hid _)⟩ := box_g 24 w #[(.int .i64 8), (strV tx), (.int .i64 0), (.slice a N c), (.int .i64 at_)]
 have GE_g1 := kh HB0 GV
 refine wp_run (v := (.pointer (some ⟨g1, 0, none⟩))) rfl rfl (run_boxOp rfl (by kernel_rfl) HX.out) rfl ?_
 try simp only [nA, nB, nC]
 replace HB0 := kb HB0 HB4
 refine qv (strV []) ?_
 simp only [nA, nB, nC]
 refine we ?_
 go_upto_region 1 with fail
 refine rl ?_
 refine qf (fa_api_Node_0 g1 0) ?_
 refine ql (.int .i64 8) Tryz.isAgg3 0 K2 ?_
 simp only [nA, nB, nC]
 refine we ?_
 go_upto_region 2 with fail
 refine rl ?_
 refine qb (beql_int 8 5 false (by decide)) ?_
 refine qv (.bool false) ?_
 simp only [nA, nB, nC]
 refine we ?_
 go_upto_region 4 with fail
 refine rl ?_
 refine qb (beql_int 8 6 false (by decide)) ?_
 refine qv (.bool false) ?_
 simp only [nA, nB, nC]
 refine we ?_
 go_upto_region 7 with fail
 refine rl ?_
 refine qb (beql_int 8 8 true (by decide)) ?_
 refine qv (.bool true) ?_
 simp only [nA, nB, nC]
 refine we ?_
 go_upto_region 8 with fail
 refine rl ?_
 obtain ⟨w7, g5, (HX : Hid _), (K6 : Hid _), (HB8 : Hid _), (GV : Hid _)⟩ := bsg_Sstring_2 w3 [102, 97, 108, 115, 101] [116, 114, 117, 101]
 have NE_g1_g5 := kn K2 GV
 have GE_g5 := kh HB0 GV
 refine wp_run (v := (.slice (some ⟨g5, 0, none⟩) 2 2)) rfl rfl (run_bsOp rfl (by kernel_rfl) HX.out) rfl ?_
 try simp only [nA, nB, nC]
 replace K2 := ka HB8 K2
 replace HB0 := kb HB0 HB8
 refine qf (fa_api_Node_2 g1 0) ?_
 refine ql (.int .i64 0) Tryz.isAgg2 2 K2 ?_
 simp only [nA, nB, nC]
 refine wp_y (v := (.pointer (some ⟨g5, 0, none⟩))) rfl rfl (y_index (p := (.slice (some ⟨g5, 0, none⟩) 2 2)) (k := (.int .i64 0)) rfl (by kernel_rfl) (by kernel_rfl) (by kernel_rfl) (idxS0 g5 2 2 0 (by decide))) rfl ?_
 simp only [nA, nB, nC]
 refine ql (strV [102, 97, 108, 115, 101]) Tryz.isAgg9 0 K6 ?_
 refine qv (strV [102, 97, 108, 115, 101]) ?_
 simp only [nA, nB, nC]
 refine we ?_
 go_wp2_with fail
 go_ret
 exact ⟨rfl, HB0.out⟩
seal wpList in
theorem form_81 {tx : List UInt8} {kids : List Tr} {at_ : Int} {w : World} {v : Value}  (hn : Nd w v (.mk 8 tx 1 kids at_)) : Calls Tryz.prog 29 #[v] w fun e w' => e = .returned (strV (tru 1)) ∧ Below w.heap.size w w' := by
 have HN := hid hn
 have HN0 := hid hn
 have HB0 := hid (Below.refl w.heap.size w)
 obtain ⟨a, c, rfl, -, -⟩ := hn.open
 clear hn
 obtain ⟨N, hN⟩ : ∃ N, kids.length = N := ⟨_, rfl⟩
 rw [hN] at HN HN0 ⊢
 have HNN := hid hN
 clear hN
 go_enter Tryz.func29, Tryz.ntmps29
 go_upto_region 0 with fail
 refine rl ?_
 obtain ⟨w3, g1, (HX : Hid _), (K2 : Hid _), (HB4 : Hid _), (GV : Hid _)⟩ := box_g 24 w #[(.int .i64 8), (strV tx), (.int .i64 1), (.slice a N c), (.int .i64 at_)]
 have GE_g1 := kh HB0 GV
 refine wp_run (v := (.pointer (some ⟨g1, 0, none⟩))) rfl rfl (run_boxOp rfl (by kernel_rfl) HX.out) rfl ?_
 try simp only [nA, nB, nC]
 replace HB0 := kb HB0 HB4
 refine qv (strV []) ?_
 simp only [nA, nB, nC]
 refine we ?_
 go_upto_region 1 with fail
 refine rl ?_
 refine qf (fa_api_Node_0 g1 0) ?_
 refine ql (.int .i64 8) Tryz.isAgg3 0 K2 ?_
 simp only [nA, nB, nC]
 refine we ?_
 go_upto_region 2 with fail
 refine rl ?_
 refine qb (beql_int 8 5 false (by decide)) ?_
 refine qv (.bool false) ?_
 simp only [nA, nB, nC]
 refine we ?_
 go_upto_region 4 with fail
 refine rl ?_
 refine qb (beql_int 8 6 false (by decide)) ?_
 refine qv (.bool false) ?_
 simp only [nA, nB, nC]
 refine we ?_
 go_upto_region 7 with fail
 refine rl ?_
 refine qb (beql_int 8 8 true (by decide)) ?_
 refine qv (.bool true) ?_
 simp only [nA, nB, nC]
 refine we ?_
 go_upto_region 8 with fail
 refine rl ?_
 obtain ⟨w7, g5, (HX : Hid _), (K6 : Hid _), (HB8 : Hid _), (GV : Hid _)⟩ := bsg_Sstring_2 w3 [102, 97, 108, 115, 101] [116, 114, 117, 101]
 have NE_g1_g5 := kn K2 GV
 have GE_g5 := kh HB0 GV
 refine wp_run (v := (.slice (some ⟨g5, 0, none⟩) 2 2)) rfl rfl (run_bsOp rfl (by kernel_rfl) HX.out) rfl ?_
 try simp only [nA, nB, nC]
 replace K2 := ka HB8 K2
 replace HB0 := kb HB0 HB8
 refine qf (fa_api_Node_2 g1 0) ?_
 refine ql (.int .i64 1) Tryz.isAgg2 2 K2 ?_
 simp only [nA, nB, nC]
 refine wp_y (v := (.pointer (some ⟨g5, 1, none⟩))) rfl rfl (y_index (p := (.slice (some ⟨g5, 0, none⟩) 2 2)) (k := (.int .i64 1)) rfl (by kernel_rfl) (by kernel_rfl) (by kernel_rfl) (idxS0 g5 2 2 1 (by decide))) rfl ?_
 simp only [nA, nB, nC]
 refine ql (strV [116, 114, 117, 101]) Tryz.isAgg9 1 K6 ?_
 refine qv (strV [116, 114, 117, 101]) ?_
 simp only [nA, nB, nC]
 refine we ?_
 go_wp2_with fail
 go_ret
 exact ⟨rfl, HB0.out⟩
seal wpList in
theorem form_9 {tx : List UInt8} {n : Int} {kids : List Tr} {at_ : Int} {w : World} {v : Value} (hl : tx.length ≤ 1000) (hn : Nd w v (.mk 9 tx n kids at_)) : Calls Tryz.prog 29 #[v] w fun e w' => e = .returned (strV (quo [102, 101, 101, 100] tx)) ∧ Below w.heap.size w w' := by
 have HLW := hid hl
 clear hl
 have HN := hid hn
 have HN0 := hid hn
 have HB0 := hid (Below.refl w.heap.size w)
 obtain ⟨a, c, rfl, -, -⟩ := hn.open
 clear hn
 obtain ⟨N, hN⟩ : ∃ N, kids.length = N := ⟨_, rfl⟩
 rw [hN] at HN HN0 ⊢
 have HNN := hid hN
 clear hN
 go_enter Tryz.func29, Tryz.ntmps29
 go_upto_region 0 with fail
 refine rl ?_
 obtain ⟨w3, g1, (HX : Hid _), (K2 : Hid _), (HB4 : Hid _)⟩ := box_x 24 w #[(.int .i64 9), (strV tx), (.int .i64 n), (.slice a N c), (.int .i64 at_)]
 refine wp_run (v := (.pointer (some ⟨g1, 0, none⟩))) rfl rfl (run_boxOp rfl (by kernel_rfl) HX.out) rfl ?_
 try simp only [nA, nB, nC]
 replace HB0 := kb HB0 HB4
 refine qv (strV []) ?_
 simp only [nA, nB, nC]
 refine we ?_
 go_upto_region 1 with fail
 refine rl ?_
 refine qf (fa_api_Node_0 g1 0) ?_
 refine ql (.int .i64 9) Tryz.isAgg3 0 K2 ?_
 simp only [nA, nB, nC]
 refine we ?_
 go_upto_region 2 with fail
 refine rl ?_
 refine qb (beql_int 9 5 false (by decide)) ?_
 refine qv (.bool false) ?_
 simp only [nA, nB, nC]
 refine we ?_
 go_upto_region 4 with fail
 refine rl ?_
 refine qb (beql_int 9 6 false (by decide)) ?_
 refine qv (.bool false) ?_
 simp only [nA, nB, nC]
 refine we ?_
 go_upto_region 7 with fail
 refine rl ?_
 refine qb (beql_int 9 8 false (by decide)) ?_
 refine qv (.bool false) ?_
 simp only [nA, nB, nC]
 refine we ?_
 go_upto_region 9 with fail
 refine rl ?_
 refine qb (beql_int 9 9 true (by decide)) ?_
 refine qv (.bool true) ?_
 simp only [nA, nB, nC]
 refine we ?_
 go_upto_region 10 with fail
 refine rl ?_
 refine qf (fa_api_Node_1 g1 0) ?_
 refine ql (strV tx) Tryz.isAgg9 1 K2 ?_
 simp only [nA, nB, nC]
 refine wp_y (v := (strV ([102, 101, 101, 100, 32, 34] ++ tx))) rfl rfl (y_addS (l := [102, 101, 101, 100, 32, 34]) (m := tx) rfl (by kernel_rfl) (by kernel_rfl) (by kernel_rfl) (by have := HLW.out; first | omega | (simp only [List.length_cons, List.length_nil] at this ⊢; omega))) rfl ?_
 simp only [nA, nB, nC]
 refine wp_y (v := (strV ([102, 101, 101, 100, 32, 34] ++ tx ++ [34]))) rfl rfl (y_addS (l := [102, 101, 101, 100, 32, 34] ++ tx) (m := [34]) rfl (by kernel_rfl) (by kernel_rfl) (by kernel_rfl) (by have := HLW.out; first | omega | (simp only [List.length_append, List.length_cons, List.length_nil] at this ⊢; omega))) rfl ?_
 simp only [nA, nB, nC]
 refine qv (strV ([102, 101, 101, 100, 32, 34] ++ tx ++ [34])) ?_
 simp only [nA, nB, nC]
 refine we ?_
 go_wp2_with fail
 go_ret
 exact ⟨congrArg (fun l => Ending.returned (strV l)) (by simp [quo]), HB0.out⟩
seal wpList in
theorem form_11 {tx : List UInt8} {n : Int} {kids : List Tr} {at_ : Int} {w : World} {v : Value} (ht : tx.length ≤ 100) (hf : ∀ t ∈ kids, FP t) (hl : (fwl true (wrsOf kids)).length ≤ 4611686018427387904) (hn : Nd w v (.mk 11 tx n kids at_)) : Calls Tryz.prog 29 #[v] w fun e w' => e = .returned (strV (tx ++ [40] ++ fwl true (wrsOf kids) ++ [41])) ∧ Below w.heap.size w w' := by
 obtain ⟨sl, hsl⟩ : ∃ sl, [40] ++ fwl true (wrsOf kids) ++ [41] = sl := ⟨_, rfl⟩
 have HSL := hid hsl
 have HLW : Hid (tx.length + sl.length ≤ 4611686018427388904) := hid (by rw [← hsl]; simp only [List.length_append, List.length_cons, List.length_nil]; omega)
 have HFP := hid hf
 have HLL := hid hl
 clear hsl hf hl ht
 have HN := hid hn
 have HN0 := hid hn
 have HB0 := hid (Below.refl w.heap.size w)
 obtain ⟨a, c, rfl, -, -⟩ := hn.open
 clear hn
 obtain ⟨N, hN⟩ : ∃ N, kids.length = N := ⟨_, rfl⟩
 rw [hN] at HN HN0 ⊢
 have HNN := hid hN
 clear hN
 go_enter Tryz.func29, Tryz.ntmps29
 go_upto_region 0 with fail
 refine rl ?_
 obtain ⟨w3, g1, (HX : Hid _), (K2 : Hid _), (HB4 : Hid _)⟩ := box_x 24 w #[(.int .i64 11), (strV tx), (.int .i64 n), (.slice a N c), (.int .i64 at_)]
 refine wp_run (v := (.pointer (some ⟨g1, 0, none⟩))) rfl rfl (run_boxOp rfl (by kernel_rfl) HX.out) rfl ?_
 try simp only [nA, nB, nC]
 replace HN := hid (HN.out.later HB4.out)
 replace HB0 := kb HB0 HB4
 refine qv (strV []) ?_
 simp only [nA, nB, nC]
 refine we ?_
 go_upto_region 1 with fail
 refine rl ?_
 refine qf (fa_api_Node_0 g1 0) ?_
 refine ql (.int .i64 11) Tryz.isAgg3 0 K2 ?_
 simp only [nA, nB, nC]
 refine we ?_
 go_upto_region 2 with fail
 refine rl ?_
 refine qb (beql_int 11 5 false (by decide)) ?_
 refine qv (.bool false) ?_
 simp only [nA, nB, nC]
 refine we ?_
 go_upto_region 4 with fail
 refine rl ?_
 refine qb (beql_int 11 6 false (by decide)) ?_
 refine qv (.bool false) ?_
 simp only [nA, nB, nC]
 refine we ?_
 go_upto_region 7 with fail
 refine rl ?_
 refine qb (beql_int 11 8 false (by decide)) ?_
 refine qv (.bool false) ?_
 simp only [nA, nB, nC]
 refine we ?_
 go_upto_region 9 with fail
 refine rl ?_
 refine qb (beql_int 11 9 false (by decide)) ?_
 refine qv (.bool false) ?_
 simp only [nA, nB, nC]
 refine we ?_
 go_upto_region 11 with fail
 refine rl ?_
 refine qb (beql_int 11 11 true (by decide)) ?_
 refine qv (.bool true) ?_
 simp only [nA, nB, nC]
 refine we ?_
 go_upto_region 12 with fail
 obtain ⟨w5, hwd⟩ : ∃ x, x = w3.drew := ⟨_, rfl⟩
 have HB6 : Hid (Below w3.heap.size w3 w5) := hid (by rw [hwd]; exact ⟨rfl, rfl, rfl, Nat.le_refl _, fun _ _ => rfl⟩)
 refine h_openL (S := fun x => Below w5.heap.size w5 x) (by kernel_rfl) (by kernel_rfl) (fun _ _ _ _ _ h => h) (L := #[false, false, false, false, false, false, false]) (by kernel_rfl) ?_
 intro Q' hns hP hN
 rw [← hwd]
 clear hwd
 replace K2 := ka HB6 K2
 replace HN := hid (HN.out.later HB6.out)
 replace HB0 := kb HB0 HB6
 have hS : Below w5.heap.size w5 w5 := Below.refl _ _
 refine h_takeL (i := 0) (v := (.pointer (some ⟨g1, 1, none⟩))) hns rfl rfl (by kernel_rfl) (by kernel_rfl) hP (y_faddr rfl (hf := fa_api_Node_1 g1 0)) hS rfl (L' := #[true, false, false, false, false, false, false]) (by kernel_rfl) ?_
 try simp only [nA, nB, nC]
 refine h_takeL (i := 1) (v := (strV tx)) hns rfl rfl (by kernel_rfl) (by kernel_rfl) hP (y_load rfl (hl := fun w' h => load1 Tryz.isAgg9 (cell_at (below_at h K2.out (heap_lt K2.out)) 1 rfl))) hS rfl (L' := #[true, true, false, false, false, false, false]) (by kernel_rfl) ?_
 try simp only [nA, nB, nC]
 refine h_takeL (i := 2) (v := (.pointer (some ⟨g1, 3, none⟩))) hns rfl rfl (by kernel_rfl) (by kernel_rfl) hP (y_faddr rfl (hf := fa_api_Node_3 g1 0)) hS rfl (L' := #[true, true, true, false, false, false, false]) (by kernel_rfl) ?_
 try simp only [nA, nB, nC]
 refine h_takeL (i := 3) (v := (.slice a N c)) hns rfl rfl (by kernel_rfl) (by kernel_rfl) hP (y_load rfl (hl := fun w' h => load1 Tryz.isAgg22 (cell_at (below_at h K2.out (heap_lt K2.out)) 3 rfl))) hS rfl (L' := #[true, true, true, true, false, false, false]) (by kernel_rfl) ?_
 try simp only [nA, nB, nC]
 refine h_callL (i := 4) (f := 28) (args := #[(.slice a N c)]) (by kernel_rfl) rfl rfl (by kernel_rfl) (enter_go rfl (by kernel_rfl) (fun w => by go_simp)) (L' := #[true, true, true, true, true, false, false]) (by kernel_rfl) ?_
 have HCA := hid (rlist_any HFP.out HLL.out (HN.out.kds))
 refine HCA.out.mono ?_
 rintro e w7 ⟨he, hq⟩
 rw [HSL.out] at he
 subst he
 replace hS := hS.trans (hq.mono hS.size)
 refine ⟨_, rfl, hS, ?_⟩
 have HB8 := hid hq
 clear hq
 replace K2 := ka HB8 K2
 replace HN := hid (HN.out.later HB8.out)
 replace HB0 := kb HB0 HB8
 try simp only [nA, nB, nC]
 refine h_takeL (i := 5) (v := (strV (tx ++ sl))) hns rfl rfl (by kernel_rfl) (by kernel_rfl) hP (y_addS (l := tx) (m := sl) rfl (by kernel_rfl) (by kernel_rfl) (by kernel_rfl) (by have := HLW.out; first | omega | (simp only [List.length_append, List.length_cons, List.length_nil] at this ⊢; omega))) hS rfl (L' := #[true, true, true, true, true, true, false]) (by kernel_rfl) ?_
 try simp only [nA, nB, nC]
 refine h_takeL (i := 6) (v := (strV (tx ++ sl))) hns rfl rfl (by kernel_rfl) (by kernel_rfl) hP (y_assign rfl) hS rfl (L' := #[true, true, true, true, true, true, true]) (by kernel_rfl) ?_
 try simp only [nA, nB, nC]
 refine wpAnyH_done (by kernel_rfl) ?_ _
 refine hN _ _ ?_
 clear hP hN hns hS
 go_wp2_with fail
 go_ret
 exact ⟨congrArg (fun l => Ending.returned (strV l)) (by rw [← HSL.out]; try simp), HB0.out⟩
seal wpList in
theorem form_15 {tx : List UInt8} {n : Int} {kids : List Tr} {at_ : Int} {w : World} {v : Value} (ht : tx.length ≤ 100) (hf : ∀ t ∈ kids, FP t) (hl : (fwl true (wrsOf kids)).length ≤ 4611686018427387904) (hn : Nd w v (.mk 15 tx n kids at_)) : Calls Tryz.prog 29 #[v] w fun e w' => e = .returned (strV (quo [112, 105, 99, 107] tx ++ [40] ++ fwl true (wrsOf kids) ++ [41])) ∧ Below w.heap.size w w' := by
 obtain ⟨sl, hsl⟩ : ∃ sl, [40] ++ fwl true (wrsOf kids) ++ [41] = sl := ⟨_, rfl⟩
 have HSL := hid hsl
 have HLW : Hid (tx.length + sl.length ≤ 4611686018427388904) := hid (by rw [← hsl]; simp only [List.length_append, List.length_cons, List.length_nil]; omega)
 have HFP := hid hf
 have HLL := hid hl
 clear hsl hf hl ht
 have HN := hid hn
 have HN0 := hid hn
 have HB0 := hid (Below.refl w.heap.size w)
 obtain ⟨a, c, rfl, -, -⟩ := hn.open
 clear hn
 obtain ⟨N, hN⟩ : ∃ N, kids.length = N := ⟨_, rfl⟩
 rw [hN] at HN HN0 ⊢
 have HNN := hid hN
 clear hN
 go_enter Tryz.func29, Tryz.ntmps29
 go_upto_region 0 with fail
 refine rl ?_
 obtain ⟨w3, g1, (HX : Hid _), (K2 : Hid _), (HB4 : Hid _)⟩ := box_x 24 w #[(.int .i64 15), (strV tx), (.int .i64 n), (.slice a N c), (.int .i64 at_)]
 refine wp_run (v := (.pointer (some ⟨g1, 0, none⟩))) rfl rfl (run_boxOp rfl (by kernel_rfl) HX.out) rfl ?_
 try simp only [nA, nB, nC]
 replace HN := hid (HN.out.later HB4.out)
 replace HB0 := kb HB0 HB4
 refine qv (strV []) ?_
 simp only [nA, nB, nC]
 refine we ?_
 go_upto_region 1 with fail
 refine rl ?_
 refine qf (fa_api_Node_0 g1 0) ?_
 refine ql (.int .i64 15) Tryz.isAgg3 0 K2 ?_
 simp only [nA, nB, nC]
 refine we ?_
 go_upto_region 2 with fail
 refine rl ?_
 refine qb (beql_int 15 5 false (by decide)) ?_
 refine qv (.bool false) ?_
 simp only [nA, nB, nC]
 refine we ?_
 go_upto_region 4 with fail
 refine rl ?_
 refine qb (beql_int 15 6 false (by decide)) ?_
 refine qv (.bool false) ?_
 simp only [nA, nB, nC]
 refine we ?_
 go_upto_region 7 with fail
 refine rl ?_
 refine qb (beql_int 15 8 false (by decide)) ?_
 refine qv (.bool false) ?_
 simp only [nA, nB, nC]
 refine we ?_
 go_upto_region 9 with fail
 refine rl ?_
 refine qb (beql_int 15 9 false (by decide)) ?_
 refine qv (.bool false) ?_
 simp only [nA, nB, nC]
 refine we ?_
 go_upto_region 11 with fail
 refine rl ?_
 refine qb (beql_int 15 11 false (by decide)) ?_
 refine qv (.bool false) ?_
 simp only [nA, nB, nC]
 refine we ?_
 go_upto_region 13 with fail
 refine rl ?_
 refine qb (beql_int 15 15 true (by decide)) ?_
 refine qv (.bool true) ?_
 simp only [nA, nB, nC]
 refine we ?_
 go_upto_region 14 with fail
 obtain ⟨w5, hwd⟩ : ∃ x, x = w3.drew := ⟨_, rfl⟩
 have HB6 : Hid (Below w3.heap.size w3 w5) := hid (by rw [hwd]; exact ⟨rfl, rfl, rfl, Nat.le_refl _, fun _ _ => rfl⟩)
 refine h_openL (S := fun x => Below w5.heap.size w5 x) (by kernel_rfl) (by kernel_rfl) (fun _ _ _ _ _ h => h) (L := #[false, false, false, false, false, false, false, false, false]) (by kernel_rfl) ?_
 intro Q' hns hP hN
 rw [← hwd]
 clear hwd
 replace K2 := ka HB6 K2
 replace HN := hid (HN.out.later HB6.out)
 replace HB0 := kb HB0 HB6
 have hS : Below w5.heap.size w5 w5 := Below.refl _ _
 refine h_takeL (i := 0) (v := (.pointer (some ⟨g1, 1, none⟩))) hns rfl rfl (by kernel_rfl) (by kernel_rfl) hP (y_faddr rfl (hf := fa_api_Node_1 g1 0)) hS rfl (L' := #[true, false, false, false, false, false, false, false, false]) (by kernel_rfl) ?_
 try simp only [nA, nB, nC]
 refine h_takeL (i := 1) (v := (strV tx)) hns rfl rfl (by kernel_rfl) (by kernel_rfl) hP (y_load rfl (hl := fun w' h => load1 Tryz.isAgg9 (cell_at (below_at h K2.out (heap_lt K2.out)) 1 rfl))) hS rfl (L' := #[true, true, false, false, false, false, false, false, false]) (by kernel_rfl) ?_
 try simp only [nA, nB, nC]
 refine h_takeL (i := 2) (v := (strV ([112, 105, 99, 107, 32, 34] ++ tx))) hns rfl rfl (by kernel_rfl) (by kernel_rfl) hP (y_addS (l := [112, 105, 99, 107, 32, 34]) (m := tx) rfl (by kernel_rfl) (by kernel_rfl) (by kernel_rfl) (by have := HLW.out; first | omega | (simp only [List.length_cons, List.length_nil] at this ⊢; omega))) hS rfl (L' := #[true, true, true, false, false, false, false, false, false]) (by kernel_rfl) ?_
 try simp only [nA, nB, nC]
 refine h_takeL (i := 3) (v := (strV ([112, 105, 99, 107, 32, 34] ++ tx ++ [34]))) hns rfl rfl (by kernel_rfl) (by kernel_rfl) hP (y_addS (l := [112, 105, 99, 107, 32, 34] ++ tx) (m := [34]) rfl (by kernel_rfl) (by kernel_rfl) (by kernel_rfl) (by have := HLW.out; first | omega | (simp only [List.length_append, List.length_cons, List.length_nil] at this ⊢; omega))) hS rfl (L' := #[true, true, true, true, false, false, false, false, false]) (by kernel_rfl) ?_
 try simp only [nA, nB, nC]
 refine h_takeL (i := 4) (v := (.pointer (some ⟨g1, 3, none⟩))) hns rfl rfl (by kernel_rfl) (by kernel_rfl) hP (y_faddr rfl (hf := fa_api_Node_3 g1 0)) hS rfl (L' := #[true, true, true, true, true, false, false, false, false]) (by kernel_rfl) ?_
 try simp only [nA, nB, nC]
 refine h_takeL (i := 5) (v := (.slice a N c)) hns rfl rfl (by kernel_rfl) (by kernel_rfl) hP (y_load rfl (hl := fun w' h => load1 Tryz.isAgg22 (cell_at (below_at h K2.out (heap_lt K2.out)) 3 rfl))) hS rfl (L' := #[true, true, true, true, true, true, false, false, false]) (by kernel_rfl) ?_
 try simp only [nA, nB, nC]
 refine h_callL (i := 6) (f := 28) (args := #[(.slice a N c)]) (by kernel_rfl) rfl rfl (by kernel_rfl) (enter_go rfl (by kernel_rfl) (fun w => by go_simp)) (L' := #[true, true, true, true, true, true, true, false, false]) (by kernel_rfl) ?_
 have HCA := hid (rlist_any HFP.out HLL.out (HN.out.kds))
 refine HCA.out.mono ?_
 rintro e w7 ⟨he, hq⟩
 rw [HSL.out] at he
 subst he
 replace hS := hS.trans (hq.mono hS.size)
 refine ⟨_, rfl, hS, ?_⟩
 have HB8 := hid hq
 clear hq
 replace K2 := ka HB8 K2
 replace HN := hid (HN.out.later HB8.out)
 replace HB0 := kb HB0 HB8
 try simp only [nA, nB, nC]
 refine h_takeL (i := 7) (v := (strV ([112, 105, 99, 107, 32, 34] ++ tx ++ [34] ++ sl))) hns rfl rfl (by kernel_rfl) (by kernel_rfl) hP (y_addS (l := [112, 105, 99, 107, 32, 34] ++ tx ++ [34]) (m := sl) rfl (by kernel_rfl) (by kernel_rfl) (by kernel_rfl) (by have := HLW.out; first | omega | (simp only [List.length_append, List.length_cons, List.length_nil] at this ⊢; omega))) hS rfl (L' := #[true, true, true, true, true, true, true, true, false]) (by kernel_rfl) ?_
 try simp only [nA, nB, nC]
 refine h_takeL (i := 8) (v := (strV ([112, 105, 99, 107, 32, 34] ++ tx ++ [34] ++ sl))) hns rfl rfl (by kernel_rfl) (by kernel_rfl) hP (y_assign rfl) hS rfl (L' := #[true, true, true, true, true, true, true, true, true]) (by kernel_rfl) ?_
 try simp only [nA, nB, nC]
 refine wpAnyH_done (by kernel_rfl) ?_ _
 refine hN _ _ ?_
 clear hP hN hns hS
 go_wp2_with fail
 go_ret
 exact ⟨congrArg (fun l => Ending.returned (strV l)) (by rw [← HSL.out]; simp [quo]), HB0.out⟩
seal wpList in
theorem form_14 {tx : List UInt8} {n : Int} {t0 t1 t2 : Tr} {at_ : Int} {w : World} {v : Value} (ht : tx.length ≤ 100) (hf : ∀ t ∈ [t0, t1, t2], FP t) (hl : ∀ t ∈ [t0, t1, t2], (fw (wrOf t)).length ≤ 1638400) (hn : Nd w v (.mk 14 tx n [t0, t1, t2] at_)) : Calls Tryz.prog 29 #[v] w fun e w' => e = .returned (strV ([105, 102, 32] ++ fw (wrOf t0) ++ [32, 116, 104, 101, 110, 32] ++ fw (wrOf t1) ++ [32, 101, 108, 115, 101, 32] ++ fw (wrOf t2))) ∧ Below w.heap.size w w' := by
 have HN0 := hid hn
 have HFP := hid hf
 have HLL := hid hl
 have HB0 := hid (Below.refl w.heap.size w)
 obtain ⟨a, c, rfl, -, -⟩ := hn.open
 clear hn hf hl
 rw [show [t0, t1, t2].length = 3 from rfl] at HN0 ⊢
 have hk0 : [t0, t1, t2][0]? = some t0 := rfl
 have hk1 : [t0, t1, t2][1]? = some t1 := rfl
 have hk2 : [t0, t1, t2][2]? = some t2 := rfl
 obtain ⟨b0, o0, k'0, tx'0, n'0, ks'0, at'0, a'0, c'0, e0, f0, hcl0, hnd0⟩ := Nd.kid HN0.out hk0
 obtain ⟨b, hb⟩ : ∃ x, b0 = x := ⟨_, rfl⟩
 obtain ⟨o, ho⟩ : ∃ x, o0 = x := ⟨_, rfl⟩
 rw [hb, ho] at e0 hcl0
 subst a
 clear hb ho
 subst f0
 have HFK0 := hid (HFP.out _ (List.mem_of_getElem? hk0))
 have HCL0 := hid hcl0
 have HNK0 := hid hnd0
 have HJ0 := hid hk0
 obtain ⟨N'0, hN0⟩ : ∃ x, ks'0.length = x := ⟨_, rfl⟩
 rw [hN0] at HCL0 HNK0
 clear hcl0 hnd0 hN0 hk0
 obtain ⟨b1, o1, k'1, tx'1, n'1, ks'1, at'1, a'1, c'1, e1, f1, hcl1, hnd1⟩ := Nd.kid HN0.out hk1
 injection e1 with e1
 injection e1 with eb1 eo1
 rw [← eb1, ← eo1] at hcl1
 clear eb1 eo1
 subst f1
 have HFK1 := hid (HFP.out _ (List.mem_of_getElem? hk1))
 have HCL1 := hid hcl1
 have HNK1 := hid hnd1
 have HJ1 := hid hk1
 obtain ⟨N'1, hN1⟩ : ∃ x, ks'1.length = x := ⟨_, rfl⟩
 rw [hN1] at HCL1 HNK1
 clear hcl1 hnd1 hN1 hk1
 obtain ⟨b2, o2, k'2, tx'2, n'2, ks'2, at'2, a'2, c'2, e2, f2, hcl2, hnd2⟩ := Nd.kid HN0.out hk2
 injection e2 with e2
 injection e2 with eb2 eo2
 rw [← eb2, ← eo2] at hcl2
 clear eb2 eo2
 subst f2
 have HFK2 := hid (HFP.out _ (List.mem_of_getElem? hk2))
 have HCL2 := hid hcl2
 have HNK2 := hid hnd2
 have HJ2 := hid hk2
 obtain ⟨N'2, hN2⟩ : ∃ x, ks'2.length = x := ⟨_, rfl⟩
 rw [hN2] at HCL2 HNK2
 clear hcl2 hnd2 hN2 hk2
 have HM0 : Hid ((fw (wrOf (.mk k'0 tx'0 n'0 ks'0 at'0))).length ≤ 1638402) := hid (Nat.le_trans (HLL.out _ (List.mem_of_getElem? HJ0.out)) (by decide))
 obtain ⟨s0, hs0⟩ : ∃ x, fw (wrOf (.mk k'0 tx'0 n'0 ks'0 at'0)) = x := ⟨_, rfl⟩
 rw [hs0] at HM0
 have HS0 := hid hs0
 clear hs0
 have HM1 : Hid ((fw (wrOf (.mk k'1 tx'1 n'1 ks'1 at'1))).length ≤ 1638402) := hid (Nat.le_trans (HLL.out _ (List.mem_of_getElem? HJ1.out)) (by decide))
 obtain ⟨s1, hs1⟩ : ∃ x, fw (wrOf (.mk k'1 tx'1 n'1 ks'1 at'1)) = x := ⟨_, rfl⟩
 rw [hs1] at HM1
 have HS1 := hid hs1
 clear hs1
 have HM2 : Hid ((fw (wrOf (.mk k'2 tx'2 n'2 ks'2 at'2))).length ≤ 1638402) := hid (Nat.le_trans (HLL.out _ (List.mem_of_getElem? HJ2.out)) (by decide))
 obtain ⟨s2, hs2⟩ : ∃ x, fw (wrOf (.mk k'2 tx'2 n'2 ks'2 at'2)) = x := ⟨_, rfl⟩
 rw [hs2] at HM2
 have HS2 := hid hs2
 clear hs2
 have HLW : Hid ((s0 : List UInt8).length ≤ 1638402 ∧ (s1 : List UInt8).length ≤ 1638402 ∧ (s2 : List UInt8).length ≤ 1638402 ∧ tx.length ≤ 100) := hid ⟨HM0.out, HM1.out, HM2.out, ht⟩
 clear ht
 go_enter Tryz.func29, Tryz.ntmps29
 go_upto_region 0 with fail
 refine rl ?_
 obtain ⟨w3, g1, (HX : Hid _), (K2 : Hid _), (HB4 : Hid _)⟩ := box_x 24 w #[(.int .i64 14), (strV tx), (.int .i64 n), (.slice (some ⟨b, o, none⟩) 3 c), (.int .i64 at_)]
 refine wp_run (v := (.pointer (some ⟨g1, 0, none⟩))) rfl rfl (run_boxOp rfl (by kernel_rfl) HX.out) rfl ?_
 try simp only [nA, nB, nC]
 replace HCL0 := hid (Cl.below HCL0.out HB4.out)
 replace HNK0 := hid (HNK0.out.later HB4.out)
 replace HCL1 := hid (Cl.below HCL1.out HB4.out)
 replace HNK1 := hid (HNK1.out.later HB4.out)
 replace HCL2 := hid (Cl.below HCL2.out HB4.out)
 replace HNK2 := hid (HNK2.out.later HB4.out)
 replace HB0 := kb HB0 HB4
 refine qv (strV []) ?_
 simp only [nA, nB, nC]
 refine we ?_
 go_upto_region 1 with fail
 refine rl ?_
 refine qf (fa_api_Node_0 g1 0) ?_
 refine ql (.int .i64 14) Tryz.isAgg3 0 K2 ?_
 simp only [nA, nB, nC]
 refine we ?_
 go_upto_region 2 with fail
 refine rl ?_
 refine qb (beql_int 14 5 false (by decide)) ?_
 refine qv (.bool false) ?_
 simp only [nA, nB, nC]
 refine we ?_
 go_upto_region 4 with fail
 refine rl ?_
 refine qb (beql_int 14 6 false (by decide)) ?_
 refine qv (.bool false) ?_
 simp only [nA, nB, nC]
 refine we ?_
 go_upto_region 7 with fail
 refine rl ?_
 refine qb (beql_int 14 8 false (by decide)) ?_
 refine qv (.bool false) ?_
 simp only [nA, nB, nC]
 refine we ?_
 go_upto_region 9 with fail
 refine rl ?_
 refine qb (beql_int 14 9 false (by decide)) ?_
 refine qv (.bool false) ?_
 simp only [nA, nB, nC]
 refine we ?_
 go_upto_region 11 with fail
 refine rl ?_
 refine qb (beql_int 14 11 false (by decide)) ?_
 refine qv (.bool false) ?_
 simp only [nA, nB, nC]
 refine we ?_
 go_upto_region 13 with fail
 refine rl ?_
 refine qb (beql_int 14 15 false (by decide)) ?_
 refine qv (.bool false) ?_
 simp only [nA, nB, nC]
 refine we ?_
 go_upto_region 15 with fail
 refine rl ?_
 refine qb (beql_int 14 14 true (by decide)) ?_
 refine qv (.bool true) ?_
 simp only [nA, nB, nC]
 refine we ?_
 go_upto_region 16 with fail
 obtain ⟨w5, hwd⟩ : ∃ x, x = w3.drew := ⟨_, rfl⟩
 have HB6 : Hid (Below w3.heap.size w3 w5) := hid (by rw [hwd]; exact ⟨rfl, rfl, rfl, Nat.le_refl _, fun _ _ => rfl⟩)
 refine h_openL (S := fun x => Below w5.heap.size w5 x) (by kernel_rfl) (by kernel_rfl) (fun _ _ _ _ _ h => h) (L := #[false, false, false, false, false, false, false, false, false, false, false, false, false, false, false, false, false, false, false, false, false]) (by kernel_rfl) ?_
 intro Q' hns hP hN
 rw [← hwd]
 clear hwd
 replace K2 := ka HB6 K2
 replace HCL0 := hid (Cl.below HCL0.out HB6.out)
 replace HNK0 := hid (HNK0.out.later HB6.out)
 replace HCL1 := hid (Cl.below HCL1.out HB6.out)
 replace HNK1 := hid (HNK1.out.later HB6.out)
 replace HCL2 := hid (Cl.below HCL2.out HB6.out)
 replace HNK2 := hid (HNK2.out.later HB6.out)
 replace HB0 := kb HB0 HB6
 have hS : Below w5.heap.size w5 w5 := Below.refl _ _
 refine h_takeL (i := 0) (v := (.pointer (some ⟨g1, 3, none⟩))) hns rfl rfl (by kernel_rfl) (by kernel_rfl) hP (y_faddr rfl (hf := fa_api_Node_3 g1 0)) hS rfl (L' := #[true, false, false, false, false, false, false, false, false, false, false, false, false, false, false, false, false, false, false, false, false]) (by kernel_rfl) ?_
 try simp only [nA, nB, nC]
 refine h_takeL (i := 1) (v := (.slice (some ⟨b, o, none⟩) 3 c)) hns rfl rfl (by kernel_rfl) (by kernel_rfl) hP (y_load rfl (hl := fun w' h => load1 Tryz.isAgg22 (cell_at (below_at h K2.out (heap_lt K2.out)) 3 rfl))) hS rfl (L' := #[true, true, false, false, false, false, false, false, false, false, false, false, false, false, false, false, false, false, false, false, false]) (by kernel_rfl) ?_
 try simp only [nA, nB, nC]
 refine h_takeL (i := 2) (v := (.pointer (some ⟨b, o + 0 * 5, none⟩))) hns rfl rfl (by kernel_rfl) (by kernel_rfl) hP (y_index (p := (.slice (some ⟨b, o, none⟩) 3 c)) (k := (.int .i64 0)) rfl (by kernel_rfl) (by kernel_rfl) (by kernel_rfl) (idx24 b o 3 c 0 (by decide))) hS rfl (L' := #[true, true, true, false, false, false, false, false, false, false, false, false, false, false, false, false, false, false, false, false, false]) (by kernel_rfl) ?_
 try simp only [nA, nB, nC]
 refine h_takeL (i := 3) (v := (nv k'0 tx'0 n'0 (.slice a'0 N'0 c'0) at'0)) hns rfl rfl (by kernel_rfl) (by kernel_rfl) hP (y_load rfl (hl := fun w' h => load24 (Cl.below HCL0.out h))) hS rfl (L' := #[true, true, true, true, false, false, false, false, false, false, false, false, false, false, false, false, false, false, false, false, false]) (by kernel_rfl) ?_
 try simp only [nA, nB, nC]
 refine h_takeL (i := 7) (v := (.pointer (some ⟨g1, 3, none⟩))) hns rfl rfl (by kernel_rfl) (by kernel_rfl) hP (y_faddr rfl (hf := fa_api_Node_3 g1 0)) hS rfl (L' := #[true, true, true, true, false, false, false, true, false, false, false, false, false, false, false, false, false, false, false, false, false]) (by kernel_rfl) ?_
 try simp only [nA, nB, nC]
 refine h_takeL (i := 8) (v := (.slice (some ⟨b, o, none⟩) 3 c)) hns rfl rfl (by kernel_rfl) (by kernel_rfl) hP (y_load rfl (hl := fun w' h => load1 Tryz.isAgg22 (cell_at (below_at h K2.out (heap_lt K2.out)) 3 rfl))) hS rfl (L' := #[true, true, true, true, false, false, false, true, true, false, false, false, false, false, false, false, false, false, false, false, false]) (by kernel_rfl) ?_
 try simp only [nA, nB, nC]
 refine h_takeL (i := 9) (v := (.pointer (some ⟨b, o + 1 * 5, none⟩))) hns rfl rfl (by kernel_rfl) (by kernel_rfl) hP (y_index (p := (.slice (some ⟨b, o, none⟩) 3 c)) (k := (.int .i64 1)) rfl (by kernel_rfl) (by kernel_rfl) (by kernel_rfl) (idx24 b o 3 c 1 (by decide))) hS rfl (L' := #[true, true, true, true, false, false, false, true, true, true, false, false, false, false, false, false, false, false, false, false, false]) (by kernel_rfl) ?_
 try simp only [nA, nB, nC]
 refine h_takeL (i := 10) (v := (nv k'1 tx'1 n'1 (.slice a'1 N'1 c'1) at'1)) hns rfl rfl (by kernel_rfl) (by kernel_rfl) hP (y_load rfl (hl := fun w' h => load24 (Cl.below HCL1.out h))) hS rfl (L' := #[true, true, true, true, false, false, false, true, true, true, true, false, false, false, false, false, false, false, false, false, false]) (by kernel_rfl) ?_
 try simp only [nA, nB, nC]
 refine h_takeL (i := 14) (v := (.pointer (some ⟨g1, 3, none⟩))) hns rfl rfl (by kernel_rfl) (by kernel_rfl) hP (y_faddr rfl (hf := fa_api_Node_3 g1 0)) hS rfl (L' := #[true, true, true, true, false, false, false, true, true, true, true, false, false, false, true, false, false, false, false, false, false]) (by kernel_rfl) ?_
 try simp only [nA, nB, nC]
 refine h_takeL (i := 15) (v := (.slice (some ⟨b, o, none⟩) 3 c)) hns rfl rfl (by kernel_rfl) (by kernel_rfl) hP (y_load rfl (hl := fun w' h => load1 Tryz.isAgg22 (cell_at (below_at h K2.out (heap_lt K2.out)) 3 rfl))) hS rfl (L' := #[true, true, true, true, false, false, false, true, true, true, true, false, false, false, true, true, false, false, false, false, false]) (by kernel_rfl) ?_
 try simp only [nA, nB, nC]
 refine h_takeL (i := 16) (v := (.pointer (some ⟨b, o + 2 * 5, none⟩))) hns rfl rfl (by kernel_rfl) (by kernel_rfl) hP (y_index (p := (.slice (some ⟨b, o, none⟩) 3 c)) (k := (.int .i64 2)) rfl (by kernel_rfl) (by kernel_rfl) (by kernel_rfl) (idx24 b o 3 c 2 (by decide))) hS rfl (L' := #[true, true, true, true, false, false, false, true, true, true, true, false, false, false, true, true, true, false, false, false, false]) (by kernel_rfl) ?_
 try simp only [nA, nB, nC]
 refine h_takeL (i := 17) (v := (nv k'2 tx'2 n'2 (.slice a'2 N'2 c'2) at'2)) hns rfl rfl (by kernel_rfl) (by kernel_rfl) hP (y_load rfl (hl := fun w' h => load24 (Cl.below HCL2.out h))) hS rfl (L' := #[true, true, true, true, false, false, false, true, true, true, true, false, false, false, true, true, true, true, false, false, false]) (by kernel_rfl) ?_
 try simp only [nA, nB, nC]
 refine h_callL (i := 4) (f := 29) (args := #[(nv k'0 tx'0 n'0 (.slice a'0 N'0 c'0) at'0)]) (by kernel_rfl) rfl rfl (by kernel_rfl) (enter_go rfl (by kernel_rfl) (fun w => by go_simp)) (L' := #[true, true, true, true, true, false, false, true, true, true, true, false, false, false, true, true, true, true, false, false, false]) (by kernel_rfl) ?_
 have HCA := hid (HFK0.out w5 _ HNK0.out)
 refine HCA.out.mono ?_
 rintro e w7 ⟨he, hq⟩
 rw [HS0.out] at he
 subst he
 replace hS := hS.trans (hq.mono hS.size)
 refine ⟨_, rfl, hS, ?_⟩
 have HB8 := hid hq
 clear hq
 replace K2 := ka HB8 K2
 replace HCL0 := hid (Cl.below HCL0.out HB8.out)
 replace HNK0 := hid (HNK0.out.later HB8.out)
 replace HCL1 := hid (Cl.below HCL1.out HB8.out)
 replace HNK1 := hid (HNK1.out.later HB8.out)
 replace HCL2 := hid (Cl.below HCL2.out HB8.out)
 replace HNK2 := hid (HNK2.out.later HB8.out)
 replace HB0 := kb HB0 HB8
 try simp only [nA, nB, nC]
 refine h_takeL (i := 5) (v := (strV ([105, 102, 32] ++ s0))) hns rfl rfl (by kernel_rfl) (by kernel_rfl) hP (y_addS (l := [105, 102, 32]) (m := s0) rfl (by kernel_rfl) (by kernel_rfl) (by kernel_rfl) (by have := HLW.out; simp only [List.length_cons, List.length_nil]; omega)) hS rfl (L' := #[true, true, true, true, true, true, false, true, true, true, true, false, false, false, true, true, true, true, false, false, false]) (by kernel_rfl) ?_
 try simp only [nA, nB, nC]
 refine h_takeL (i := 6) (v := (strV ([105, 102, 32] ++ s0 ++ [32, 116, 104, 101, 110, 32]))) hns rfl rfl (by kernel_rfl) (by kernel_rfl) hP (y_addS (l := [105, 102, 32] ++ s0) (m := [32, 116, 104, 101, 110, 32]) rfl (by kernel_rfl) (by kernel_rfl) (by kernel_rfl) (by have := HLW.out; simp only [List.length_append, List.length_cons, List.length_nil]; omega)) hS rfl (L' := #[true, true, true, true, true, true, true, true, true, true, true, false, false, false, true, true, true, true, false, false, false]) (by kernel_rfl) ?_
 try simp only [nA, nB, nC]
 refine h_callL (i := 11) (f := 29) (args := #[(nv k'1 tx'1 n'1 (.slice a'1 N'1 c'1) at'1)]) (by kernel_rfl) rfl rfl (by kernel_rfl) (enter_go rfl (by kernel_rfl) (fun w => by go_simp)) (L' := #[true, true, true, true, true, true, true, true, true, true, true, true, false, false, true, true, true, true, false, false, false]) (by kernel_rfl) ?_
 have HCA := hid (HFK1.out w7 _ HNK1.out)
 refine HCA.out.mono ?_
 rintro e w9 ⟨he, hq⟩
 rw [HS1.out] at he
 subst he
 replace hS := hS.trans (hq.mono hS.size)
 refine ⟨_, rfl, hS, ?_⟩
 have HB10 := hid hq
 clear hq
 replace K2 := ka HB10 K2
 replace HCL0 := hid (Cl.below HCL0.out HB10.out)
 replace HNK0 := hid (HNK0.out.later HB10.out)
 replace HCL1 := hid (Cl.below HCL1.out HB10.out)
 replace HNK1 := hid (HNK1.out.later HB10.out)
 replace HCL2 := hid (Cl.below HCL2.out HB10.out)
 replace HNK2 := hid (HNK2.out.later HB10.out)
 replace HB0 := kb HB0 HB10
 try simp only [nA, nB, nC]
 refine h_takeL (i := 12) (v := (strV ([105, 102, 32] ++ s0 ++ [32, 116, 104, 101, 110, 32] ++ s1))) hns rfl rfl (by kernel_rfl) (by kernel_rfl) hP (y_addS (l := [105, 102, 32] ++ s0 ++ [32, 116, 104, 101, 110, 32]) (m := s1) rfl (by kernel_rfl) (by kernel_rfl) (by kernel_rfl) (by have := HLW.out; simp only [List.length_append, List.length_cons, List.length_nil]; omega)) hS rfl (L' := #[true, true, true, true, true, true, true, true, true, true, true, true, true, false, true, true, true, true, false, false, false]) (by kernel_rfl) ?_
 try simp only [nA, nB, nC]
 refine h_takeL (i := 13) (v := (strV ([105, 102, 32] ++ s0 ++ [32, 116, 104, 101, 110, 32] ++ s1 ++ [32, 101, 108, 115, 101, 32]))) hns rfl rfl (by kernel_rfl) (by kernel_rfl) hP (y_addS (l := [105, 102, 32] ++ s0 ++ [32, 116, 104, 101, 110, 32] ++ s1) (m := [32, 101, 108, 115, 101, 32]) rfl (by kernel_rfl) (by kernel_rfl) (by kernel_rfl) (by have := HLW.out; simp only [List.length_append, List.length_cons, List.length_nil]; omega)) hS rfl (L' := #[true, true, true, true, true, true, true, true, true, true, true, true, true, true, true, true, true, true, false, false, false]) (by kernel_rfl) ?_
 try simp only [nA, nB, nC]
 refine h_callL (i := 18) (f := 29) (args := #[(nv k'2 tx'2 n'2 (.slice a'2 N'2 c'2) at'2)]) (by kernel_rfl) rfl rfl (by kernel_rfl) (enter_go rfl (by kernel_rfl) (fun w => by go_simp)) (L' := #[true, true, true, true, true, true, true, true, true, true, true, true, true, true, true, true, true, true, true, false, false]) (by kernel_rfl) ?_
 have HCA := hid (HFK2.out w9 _ HNK2.out)
 refine HCA.out.mono ?_
 rintro e w11 ⟨he, hq⟩
 rw [HS2.out] at he
 subst he
 replace hS := hS.trans (hq.mono hS.size)
 refine ⟨_, rfl, hS, ?_⟩
 have HB12 := hid hq
 clear hq
 replace K2 := ka HB12 K2
 replace HCL0 := hid (Cl.below HCL0.out HB12.out)
 replace HNK0 := hid (HNK0.out.later HB12.out)
 replace HCL1 := hid (Cl.below HCL1.out HB12.out)
 replace HNK1 := hid (HNK1.out.later HB12.out)
 replace HCL2 := hid (Cl.below HCL2.out HB12.out)
 replace HNK2 := hid (HNK2.out.later HB12.out)
 replace HB0 := kb HB0 HB12
 try simp only [nA, nB, nC]
 refine h_takeL (i := 19) (v := (strV ([105, 102, 32] ++ s0 ++ [32, 116, 104, 101, 110, 32] ++ s1 ++ [32, 101, 108, 115, 101, 32] ++ s2))) hns rfl rfl (by kernel_rfl) (by kernel_rfl) hP (y_addS (l := [105, 102, 32] ++ s0 ++ [32, 116, 104, 101, 110, 32] ++ s1 ++ [32, 101, 108, 115, 101, 32]) (m := s2) rfl (by kernel_rfl) (by kernel_rfl) (by kernel_rfl) (by have := HLW.out; simp only [List.length_append, List.length_cons, List.length_nil]; omega)) hS rfl (L' := #[true, true, true, true, true, true, true, true, true, true, true, true, true, true, true, true, true, true, true, true, false]) (by kernel_rfl) ?_
 try simp only [nA, nB, nC]
 refine h_takeL (i := 20) (v := (strV ([105, 102, 32] ++ s0 ++ [32, 116, 104, 101, 110, 32] ++ s1 ++ [32, 101, 108, 115, 101, 32] ++ s2))) hns rfl rfl (by kernel_rfl) (by kernel_rfl) hP (y_assign rfl) hS rfl (L' := #[true, true, true, true, true, true, true, true, true, true, true, true, true, true, true, true, true, true, true, true, true]) (by kernel_rfl) ?_
 try simp only [nA, nB, nC]
 refine wpAnyH_done (by kernel_rfl) ?_ _
 refine hN _ _ ?_
 clear hP hN hns hS
 go_wp2_with fail
 go_ret
 exact ⟨congrArg (fun l => Ending.returned (strV l)) (by rw [HS0.out, HS1.out, HS2.out]; try simp), HB0.out⟩
seal wpList in
theorem form_12m {n : Int} {t0 : Tr} {at_ : Int} {w : World} {v : Value} (hf : ∀ t ∈ [t0], FP t) (hl : ∀ t ∈ [t0], (fw (wrOf t)).length ≤ 1638400) (hn : Nd w v (.mk 12 [45] n [t0] at_)) : Calls Tryz.prog 29 #[v] w fun e w' => e = .returned (strV ([45] ++ prn (wrOf t0).isOp (fw (wrOf t0)))) ∧ Below w.heap.size w w' := by
 have HN0 := hid hn
 have HFP := hid hf
 have HLL := hid hl
 have HB0 := hid (Below.refl w.heap.size w)
 obtain ⟨a, c, rfl, -, -⟩ := hn.open
 clear hn hf hl
 rw [show [t0].length = 1 from rfl] at HN0 ⊢
 have hk0 : [t0][0]? = some t0 := rfl
 obtain ⟨b0, o0, k'0, tx'0, n'0, ks'0, at'0, a'0, c'0, e0, f0, hcl0, hnd0⟩ := Nd.kid HN0.out hk0
 obtain ⟨b, hb⟩ : ∃ x, b0 = x := ⟨_, rfl⟩
 obtain ⟨o, ho⟩ : ∃ x, o0 = x := ⟨_, rfl⟩
 rw [hb, ho] at e0 hcl0
 subst a
 clear hb ho
 subst f0
 have HFK0 := hid (HFP.out _ (List.mem_of_getElem? hk0))
 have HCL0 := hid hcl0
 have HNK0 := hid hnd0
 have HJ0 := hid hk0
 obtain ⟨N'0, hN0⟩ : ∃ x, ks'0.length = x := ⟨_, rfl⟩
 rw [hN0] at HCL0 HNK0
 clear hcl0 hnd0 hN0 hk0
 have HBL0 : Hid ((fw (wrOf (.mk k'0 tx'0 n'0 ks'0 at'0))).length ≤ 4611686018427387904) := hid (Nat.le_trans (HLL.out _ (List.mem_of_getElem? HJ0.out)) (by decide))
 have HM0 : Hid ((prn (wrOf (.mk k'0 tx'0 n'0 ks'0 at'0)).isOp (fw (wrOf (.mk k'0 tx'0 n'0 ks'0 at'0)))).length ≤ 1638402) := hid (Nat.le_trans (prn_len _ _) (Nat.add_le_add_right (HLL.out _ (List.mem_of_getElem? HJ0.out)) 2))
 obtain ⟨s0, hs0⟩ : ∃ x, prn (wrOf (.mk k'0 tx'0 n'0 ks'0 at'0)).isOp (fw (wrOf (.mk k'0 tx'0 n'0 ks'0 at'0))) = x := ⟨_, rfl⟩
 rw [hs0] at HM0
 have HS0 := hid hs0
 clear hs0
 have HLW : Hid ((s0 : List UInt8).length ≤ 1638402 ∧ True) := hid ⟨HM0.out, trivial⟩
 go_enter Tryz.func29, Tryz.ntmps29
 go_upto_region 0 with fail
 refine rl ?_
 obtain ⟨w3, g1, (HX : Hid _), (K2 : Hid _), (HB4 : Hid _)⟩ := box_x 24 w #[(.int .i64 12), (strV [45]), (.int .i64 n), (.slice (some ⟨b, o, none⟩) 1 c), (.int .i64 at_)]
 refine wp_run (v := (.pointer (some ⟨g1, 0, none⟩))) rfl rfl (run_boxOp rfl (by kernel_rfl) HX.out) rfl ?_
 try simp only [nA, nB, nC]
 replace HCL0 := hid (Cl.below HCL0.out HB4.out)
 replace HNK0 := hid (HNK0.out.later HB4.out)
 replace HB0 := kb HB0 HB4
 refine qv (strV []) ?_
 simp only [nA, nB, nC]
 refine we ?_
 go_upto_region 1 with fail
 refine rl ?_
 refine qf (fa_api_Node_0 g1 0) ?_
 refine ql (.int .i64 12) Tryz.isAgg3 0 K2 ?_
 simp only [nA, nB, nC]
 refine we ?_
 go_upto_region 2 with fail
 refine rl ?_
 refine qb (beql_int 12 5 false (by decide)) ?_
 refine qv (.bool false) ?_
 simp only [nA, nB, nC]
 refine we ?_
 go_upto_region 4 with fail
 refine rl ?_
 refine qb (beql_int 12 6 false (by decide)) ?_
 refine qv (.bool false) ?_
 simp only [nA, nB, nC]
 refine we ?_
 go_upto_region 7 with fail
 refine rl ?_
 refine qb (beql_int 12 8 false (by decide)) ?_
 refine qv (.bool false) ?_
 simp only [nA, nB, nC]
 refine we ?_
 go_upto_region 9 with fail
 refine rl ?_
 refine qb (beql_int 12 9 false (by decide)) ?_
 refine qv (.bool false) ?_
 simp only [nA, nB, nC]
 refine we ?_
 go_upto_region 11 with fail
 refine rl ?_
 refine qb (beql_int 12 11 false (by decide)) ?_
 refine qv (.bool false) ?_
 simp only [nA, nB, nC]
 refine we ?_
 go_upto_region 13 with fail
 refine rl ?_
 refine qb (beql_int 12 15 false (by decide)) ?_
 refine qv (.bool false) ?_
 simp only [nA, nB, nC]
 refine we ?_
 go_upto_region 15 with fail
 refine rl ?_
 refine qb (beql_int 12 14 false (by decide)) ?_
 refine qv (.bool false) ?_
 simp only [nA, nB, nC]
 refine we ?_
 go_upto_region 17 with fail
 refine rl ?_
 refine qb (beql_int 12 12 true (by decide)) ?_
 refine qv (.bool true) ?_
 simp only [nA, nB, nC]
 refine we ?_
 go_upto_region 18 with fail
 refine rl ?_
 refine qf (fa_api_Node_1 g1 0) ?_
 refine ql (strV [45]) Tryz.isAgg9 1 K2 ?_
 simp only [nA, nB, nC]
 refine wp_y (v := (.bool true)) rfl rfl (y_eqlS (l := [45]) (m := [45]) rfl (by kernel_rfl) (by kernel_rfl) (by kernel_rfl) (by decide)) rfl ?_
 simp only [nA, nB, nC]
 refine we ?_
 go_upto_region 19 with fail
 refine rl ?_
 refine qf (fa_api_Node_3 g1 0) ?_
 refine ql (.slice (some ⟨b, o, none⟩) 1 c) Tryz.isAgg22 3 K2 ?_
 simp only [nA, nB, nC]
 refine wp_y (v := (.pointer (some ⟨b, o + 0 * 5, none⟩))) rfl rfl (y_index (p := (.slice (some ⟨b, o, none⟩) 1 c)) (k := (.int .i64 0)) rfl (by kernel_rfl) (by kernel_rfl) (by kernel_rfl) (idx24 b o 1 c 0 (by decide))) rfl ?_
 simp only [nA, nB, nC]
 refine wp_y (v := (nv k'0 tx'0 n'0 (.slice a'0 N'0 c'0) at'0)) rfl rfl (y_load rfl (hl := fun w' h => by rw [h]; exact load24 HCL0.out)) rfl ?_
 simp only [nA, nB, nC]
 refine qc #[(nv k'0 tx'0 n'0 (.slice a'0 N'0 c'0) at'0)] ?_
 have HCA := hid (rpart_any HFK0.out HBL0.out HNK0.out)
 refine HCA.out.mono ?_
 rintro e w5 ⟨he, hq⟩
 rw [HS0.out] at he
 subst he
 refine ⟨_, rfl, ?_⟩
 have HB6 := hid hq
 clear hq
 replace K2 := ka HB6 K2
 replace HCL0 := hid (Cl.below HCL0.out HB6.out)
 replace HNK0 := hid (HNK0.out.later HB6.out)
 replace HB0 := kb HB0 HB6
 try simp only [Act.put, nA, nB, nC]
 refine wp_y (v := (strV ([45] ++ s0))) rfl rfl (y_addS (l := [45]) (m := s0) rfl (by kernel_rfl) (by kernel_rfl) (by kernel_rfl) (by have := HLW.out; simp only [List.length_cons, List.length_nil]; omega)) rfl ?_
 simp only [nA, nB, nC]
 refine qv (strV ([45] ++ s0)) ?_
 simp only [nA, nB, nC]
 refine we ?_
 go_wp2_with fail
 go_ret
 exact ⟨congrArg (fun l => Ending.returned (strV l)) (by rw [HS0.out]; try simp), HB0.out⟩
seal wpList in
theorem form_12n {n : Int} {t0 : Tr} {at_ : Int} {w : World} {v : Value} (hf : ∀ t ∈ [t0], FP t) (hl : ∀ t ∈ [t0], (fw (wrOf t)).length ≤ 1638400) (hn : Nd w v (.mk 12 [110, 111, 116] n [t0] at_)) : Calls Tryz.prog 29 #[v] w fun e w' => e = .returned (strV ([110, 111, 116, 32] ++ prn (wrOf t0).isOp (fw (wrOf t0)))) ∧ Below w.heap.size w w' := by
 have HN0 := hid hn
 have HFP := hid hf
 have HLL := hid hl
 have HB0 := hid (Below.refl w.heap.size w)
 obtain ⟨a, c, rfl, -, -⟩ := hn.open
 clear hn hf hl
 rw [show [t0].length = 1 from rfl] at HN0 ⊢
 have hk0 : [t0][0]? = some t0 := rfl
 obtain ⟨b0, o0, k'0, tx'0, n'0, ks'0, at'0, a'0, c'0, e0, f0, hcl0, hnd0⟩ := Nd.kid HN0.out hk0
 obtain ⟨b, hb⟩ : ∃ x, b0 = x := ⟨_, rfl⟩
 obtain ⟨o, ho⟩ : ∃ x, o0 = x := ⟨_, rfl⟩
 rw [hb, ho] at e0 hcl0
 subst a
 clear hb ho
 subst f0
 have HFK0 := hid (HFP.out _ (List.mem_of_getElem? hk0))
 have HCL0 := hid hcl0
 have HNK0 := hid hnd0
 have HJ0 := hid hk0
 obtain ⟨N'0, hN0⟩ : ∃ x, ks'0.length = x := ⟨_, rfl⟩
 rw [hN0] at HCL0 HNK0
 clear hcl0 hnd0 hN0 hk0
 have HBL0 : Hid ((fw (wrOf (.mk k'0 tx'0 n'0 ks'0 at'0))).length ≤ 4611686018427387904) := hid (Nat.le_trans (HLL.out _ (List.mem_of_getElem? HJ0.out)) (by decide))
 have HM0 : Hid ((prn (wrOf (.mk k'0 tx'0 n'0 ks'0 at'0)).isOp (fw (wrOf (.mk k'0 tx'0 n'0 ks'0 at'0)))).length ≤ 1638402) := hid (Nat.le_trans (prn_len _ _) (Nat.add_le_add_right (HLL.out _ (List.mem_of_getElem? HJ0.out)) 2))
 obtain ⟨s0, hs0⟩ : ∃ x, prn (wrOf (.mk k'0 tx'0 n'0 ks'0 at'0)).isOp (fw (wrOf (.mk k'0 tx'0 n'0 ks'0 at'0))) = x := ⟨_, rfl⟩
 rw [hs0] at HM0
 have HS0 := hid hs0
 clear hs0
 have HLW : Hid ((s0 : List UInt8).length ≤ 1638402 ∧ True) := hid ⟨HM0.out, trivial⟩
 go_enter Tryz.func29, Tryz.ntmps29
 go_upto_region 0 with fail
 refine rl ?_
 obtain ⟨w3, g1, (HX : Hid _), (K2 : Hid _), (HB4 : Hid _)⟩ := box_x 24 w #[(.int .i64 12), (strV [110, 111, 116]), (.int .i64 n), (.slice (some ⟨b, o, none⟩) 1 c), (.int .i64 at_)]
 refine wp_run (v := (.pointer (some ⟨g1, 0, none⟩))) rfl rfl (run_boxOp rfl (by kernel_rfl) HX.out) rfl ?_
 try simp only [nA, nB, nC]
 replace HCL0 := hid (Cl.below HCL0.out HB4.out)
 replace HNK0 := hid (HNK0.out.later HB4.out)
 replace HB0 := kb HB0 HB4
 refine qv (strV []) ?_
 simp only [nA, nB, nC]
 refine we ?_
 go_upto_region 1 with fail
 refine rl ?_
 refine qf (fa_api_Node_0 g1 0) ?_
 refine ql (.int .i64 12) Tryz.isAgg3 0 K2 ?_
 simp only [nA, nB, nC]
 refine we ?_
 go_upto_region 2 with fail
 refine rl ?_
 refine qb (beql_int 12 5 false (by decide)) ?_
 refine qv (.bool false) ?_
 simp only [nA, nB, nC]
 refine we ?_
 go_upto_region 4 with fail
 refine rl ?_
 refine qb (beql_int 12 6 false (by decide)) ?_
 refine qv (.bool false) ?_
 simp only [nA, nB, nC]
 refine we ?_
 go_upto_region 7 with fail
 refine rl ?_
 refine qb (beql_int 12 8 false (by decide)) ?_
 refine qv (.bool false) ?_
 simp only [nA, nB, nC]
 refine we ?_
 go_upto_region 9 with fail
 refine rl ?_
 refine qb (beql_int 12 9 false (by decide)) ?_
 refine qv (.bool false) ?_
 simp only [nA, nB, nC]
 refine we ?_
 go_upto_region 11 with fail
 refine rl ?_
 refine qb (beql_int 12 11 false (by decide)) ?_
 refine qv (.bool false) ?_
 simp only [nA, nB, nC]
 refine we ?_
 go_upto_region 13 with fail
 refine rl ?_
 refine qb (beql_int 12 15 false (by decide)) ?_
 refine qv (.bool false) ?_
 simp only [nA, nB, nC]
 refine we ?_
 go_upto_region 15 with fail
 refine rl ?_
 refine qb (beql_int 12 14 false (by decide)) ?_
 refine qv (.bool false) ?_
 simp only [nA, nB, nC]
 refine we ?_
 go_upto_region 17 with fail
 refine rl ?_
 refine qb (beql_int 12 12 true (by decide)) ?_
 refine qv (.bool true) ?_
 simp only [nA, nB, nC]
 refine we ?_
 go_upto_region 18 with fail
 refine rl ?_
 refine qf (fa_api_Node_1 g1 0) ?_
 refine ql (strV [110, 111, 116]) Tryz.isAgg9 1 K2 ?_
 simp only [nA, nB, nC]
 refine wp_y (v := (.bool false)) rfl rfl (y_eqlS (l := [110, 111, 116]) (m := [45]) rfl (by kernel_rfl) (by kernel_rfl) (by kernel_rfl) (by decide)) rfl ?_
 simp only [nA, nB, nC]
 refine we ?_
 go_upto_region 20 with fail
 refine rl ?_
 refine qf (fa_api_Node_3 g1 0) ?_
 refine ql (.slice (some ⟨b, o, none⟩) 1 c) Tryz.isAgg22 3 K2 ?_
 simp only [nA, nB, nC]
 refine wp_y (v := (.pointer (some ⟨b, o + 0 * 5, none⟩))) rfl rfl (y_index (p := (.slice (some ⟨b, o, none⟩) 1 c)) (k := (.int .i64 0)) rfl (by kernel_rfl) (by kernel_rfl) (by kernel_rfl) (idx24 b o 1 c 0 (by decide))) rfl ?_
 simp only [nA, nB, nC]
 refine wp_y (v := (nv k'0 tx'0 n'0 (.slice a'0 N'0 c'0) at'0)) rfl rfl (y_load rfl (hl := fun w' h => by rw [h]; exact load24 HCL0.out)) rfl ?_
 simp only [nA, nB, nC]
 refine qc #[(nv k'0 tx'0 n'0 (.slice a'0 N'0 c'0) at'0)] ?_
 have HCA := hid (rpart_any HFK0.out HBL0.out HNK0.out)
 refine HCA.out.mono ?_
 rintro e w5 ⟨he, hq⟩
 rw [HS0.out] at he
 subst he
 refine ⟨_, rfl, ?_⟩
 have HB6 := hid hq
 clear hq
 replace K2 := ka HB6 K2
 replace HCL0 := hid (Cl.below HCL0.out HB6.out)
 replace HNK0 := hid (HNK0.out.later HB6.out)
 replace HB0 := kb HB0 HB6
 try simp only [Act.put, nA, nB, nC]
 refine wp_y (v := (strV ([110, 111, 116, 32] ++ s0))) rfl rfl (y_addS (l := [110, 111, 116, 32]) (m := s0) rfl (by kernel_rfl) (by kernel_rfl) (by kernel_rfl) (by have := HLW.out; simp only [List.length_cons, List.length_nil]; omega)) rfl ?_
 simp only [nA, nB, nC]
 refine qv (strV ([110, 111, 116, 32] ++ s0)) ?_
 simp only [nA, nB, nC]
 refine we ?_
 go_wp2_with fail
 go_ret
 exact ⟨congrArg (fun l => Ending.returned (strV l)) (by rw [HS0.out]; try simp), HB0.out⟩
seal wpList in
theorem form_13 {tx : List UInt8} {n : Int} {t0 t1 : Tr} {at_ : Int} {w : World} {v : Value} (ht : tx.length ≤ 100) (hf : ∀ t ∈ [t0, t1], FP t) (hl : ∀ t ∈ [t0, t1], (fw (wrOf t)).length ≤ 1638400) (hn : Nd w v (.mk 13 tx n [t0, t1] at_)) : Calls Tryz.prog 29 #[v] w fun e w' => e = .returned (strV (prn (wrOf t0).isOp (fw (wrOf t0)) ++ [32] ++ tx ++ [32] ++ prn (wrOf t1).isOp (fw (wrOf t1)))) ∧ Below w.heap.size w w' := by
 have HN0 := hid hn
 have HFP := hid hf
 have HLL := hid hl
 have HB0 := hid (Below.refl w.heap.size w)
 obtain ⟨a, c, rfl, -, -⟩ := hn.open
 clear hn hf hl
 rw [show [t0, t1].length = 2 from rfl] at HN0 ⊢
 have hk0 : [t0, t1][0]? = some t0 := rfl
 have hk1 : [t0, t1][1]? = some t1 := rfl
 obtain ⟨b0, o0, k'0, tx'0, n'0, ks'0, at'0, a'0, c'0, e0, f0, hcl0, hnd0⟩ := Nd.kid HN0.out hk0
 obtain ⟨b, hb⟩ : ∃ x, b0 = x := ⟨_, rfl⟩
 obtain ⟨o, ho⟩ : ∃ x, o0 = x := ⟨_, rfl⟩
 rw [hb, ho] at e0 hcl0
 subst a
 clear hb ho
 subst f0
 have HFK0 := hid (HFP.out _ (List.mem_of_getElem? hk0))
 have HCL0 := hid hcl0
 have HNK0 := hid hnd0
 have HJ0 := hid hk0
 obtain ⟨N'0, hN0⟩ : ∃ x, ks'0.length = x := ⟨_, rfl⟩
 rw [hN0] at HCL0 HNK0
 clear hcl0 hnd0 hN0 hk0
 obtain ⟨b1, o1, k'1, tx'1, n'1, ks'1, at'1, a'1, c'1, e1, f1, hcl1, hnd1⟩ := Nd.kid HN0.out hk1
 injection e1 with e1
 injection e1 with eb1 eo1
 rw [← eb1, ← eo1] at hcl1
 clear eb1 eo1
 subst f1
 have HFK1 := hid (HFP.out _ (List.mem_of_getElem? hk1))
 have HCL1 := hid hcl1
 have HNK1 := hid hnd1
 have HJ1 := hid hk1
 obtain ⟨N'1, hN1⟩ : ∃ x, ks'1.length = x := ⟨_, rfl⟩
 rw [hN1] at HCL1 HNK1
 clear hcl1 hnd1 hN1 hk1
 have HBL0 : Hid ((fw (wrOf (.mk k'0 tx'0 n'0 ks'0 at'0))).length ≤ 4611686018427387904) := hid (Nat.le_trans (HLL.out _ (List.mem_of_getElem? HJ0.out)) (by decide))
 have HM0 : Hid ((prn (wrOf (.mk k'0 tx'0 n'0 ks'0 at'0)).isOp (fw (wrOf (.mk k'0 tx'0 n'0 ks'0 at'0)))).length ≤ 1638402) := hid (Nat.le_trans (prn_len _ _) (Nat.add_le_add_right (HLL.out _ (List.mem_of_getElem? HJ0.out)) 2))
 obtain ⟨s0, hs0⟩ : ∃ x, prn (wrOf (.mk k'0 tx'0 n'0 ks'0 at'0)).isOp (fw (wrOf (.mk k'0 tx'0 n'0 ks'0 at'0))) = x := ⟨_, rfl⟩
 rw [hs0] at HM0
 have HS0 := hid hs0
 clear hs0
 have HBL1 : Hid ((fw (wrOf (.mk k'1 tx'1 n'1 ks'1 at'1))).length ≤ 4611686018427387904) := hid (Nat.le_trans (HLL.out _ (List.mem_of_getElem? HJ1.out)) (by decide))
 have HM1 : Hid ((prn (wrOf (.mk k'1 tx'1 n'1 ks'1 at'1)).isOp (fw (wrOf (.mk k'1 tx'1 n'1 ks'1 at'1)))).length ≤ 1638402) := hid (Nat.le_trans (prn_len _ _) (Nat.add_le_add_right (HLL.out _ (List.mem_of_getElem? HJ1.out)) 2))
 obtain ⟨s1, hs1⟩ : ∃ x, prn (wrOf (.mk k'1 tx'1 n'1 ks'1 at'1)).isOp (fw (wrOf (.mk k'1 tx'1 n'1 ks'1 at'1))) = x := ⟨_, rfl⟩
 rw [hs1] at HM1
 have HS1 := hid hs1
 clear hs1
 have HLW : Hid ((s0 : List UInt8).length ≤ 1638402 ∧ (s1 : List UInt8).length ≤ 1638402 ∧ tx.length ≤ 100) := hid ⟨HM0.out, HM1.out, ht⟩
 clear ht
 go_enter Tryz.func29, Tryz.ntmps29
 go_upto_region 0 with fail
 refine rl ?_
 obtain ⟨w3, g1, (HX : Hid _), (K2 : Hid _), (HB4 : Hid _)⟩ := box_x 24 w #[(.int .i64 13), (strV tx), (.int .i64 n), (.slice (some ⟨b, o, none⟩) 2 c), (.int .i64 at_)]
 refine wp_run (v := (.pointer (some ⟨g1, 0, none⟩))) rfl rfl (run_boxOp rfl (by kernel_rfl) HX.out) rfl ?_
 try simp only [nA, nB, nC]
 replace HCL0 := hid (Cl.below HCL0.out HB4.out)
 replace HNK0 := hid (HNK0.out.later HB4.out)
 replace HCL1 := hid (Cl.below HCL1.out HB4.out)
 replace HNK1 := hid (HNK1.out.later HB4.out)
 replace HB0 := kb HB0 HB4
 refine qv (strV []) ?_
 simp only [nA, nB, nC]
 refine we ?_
 go_upto_region 1 with fail
 refine rl ?_
 refine qf (fa_api_Node_0 g1 0) ?_
 refine ql (.int .i64 13) Tryz.isAgg3 0 K2 ?_
 simp only [nA, nB, nC]
 refine we ?_
 go_upto_region 2 with fail
 refine rl ?_
 refine qb (beql_int 13 5 false (by decide)) ?_
 refine qv (.bool false) ?_
 simp only [nA, nB, nC]
 refine we ?_
 go_upto_region 4 with fail
 refine rl ?_
 refine qb (beql_int 13 6 false (by decide)) ?_
 refine qv (.bool false) ?_
 simp only [nA, nB, nC]
 refine we ?_
 go_upto_region 7 with fail
 refine rl ?_
 refine qb (beql_int 13 8 false (by decide)) ?_
 refine qv (.bool false) ?_
 simp only [nA, nB, nC]
 refine we ?_
 go_upto_region 9 with fail
 refine rl ?_
 refine qb (beql_int 13 9 false (by decide)) ?_
 refine qv (.bool false) ?_
 simp only [nA, nB, nC]
 refine we ?_
 go_upto_region 11 with fail
 refine rl ?_
 refine qb (beql_int 13 11 false (by decide)) ?_
 refine qv (.bool false) ?_
 simp only [nA, nB, nC]
 refine we ?_
 go_upto_region 13 with fail
 refine rl ?_
 refine qb (beql_int 13 15 false (by decide)) ?_
 refine qv (.bool false) ?_
 simp only [nA, nB, nC]
 refine we ?_
 go_upto_region 15 with fail
 refine rl ?_
 refine qb (beql_int 13 14 false (by decide)) ?_
 refine qv (.bool false) ?_
 simp only [nA, nB, nC]
 refine we ?_
 go_upto_region 17 with fail
 refine rl ?_
 refine qb (beql_int 13 12 false (by decide)) ?_
 refine qv (.bool false) ?_
 simp only [nA, nB, nC]
 refine we ?_
 go_upto_region 21 with fail
 refine rl ?_
 refine qb (beql_int 13 13 true (by decide)) ?_
 refine qv (.bool true) ?_
 simp only [nA, nB, nC]
 refine we ?_
 go_upto_region 22 with fail
 obtain ⟨w5, hwd⟩ : ∃ x, x = w3.drew := ⟨_, rfl⟩
 have HB6 : Hid (Below w3.heap.size w3 w5) := hid (by rw [hwd]; exact ⟨rfl, rfl, rfl, Nat.le_refl _, fun _ _ => rfl⟩)
 refine h_openL (S := fun x => Below w5.heap.size w5 x) (by kernel_rfl) (by kernel_rfl) (fun _ _ _ _ _ h => h) (L := #[false, false, false, false, false, false, false, false, false, false, false, false, false, false, false, false, false]) (by kernel_rfl) ?_
 intro Q' hns hP hN
 rw [← hwd]
 clear hwd
 replace K2 := ka HB6 K2
 replace HCL0 := hid (Cl.below HCL0.out HB6.out)
 replace HNK0 := hid (HNK0.out.later HB6.out)
 replace HCL1 := hid (Cl.below HCL1.out HB6.out)
 replace HNK1 := hid (HNK1.out.later HB6.out)
 replace HB0 := kb HB0 HB6
 have hS : Below w5.heap.size w5 w5 := Below.refl _ _
 refine h_takeL (i := 0) (v := (.pointer (some ⟨g1, 3, none⟩))) hns rfl rfl (by kernel_rfl) (by kernel_rfl) hP (y_faddr rfl (hf := fa_api_Node_3 g1 0)) hS rfl (L' := #[true, false, false, false, false, false, false, false, false, false, false, false, false, false, false, false, false]) (by kernel_rfl) ?_
 try simp only [nA, nB, nC]
 refine h_takeL (i := 1) (v := (.slice (some ⟨b, o, none⟩) 2 c)) hns rfl rfl (by kernel_rfl) (by kernel_rfl) hP (y_load rfl (hl := fun w' h => load1 Tryz.isAgg22 (cell_at (below_at h K2.out (heap_lt K2.out)) 3 rfl))) hS rfl (L' := #[true, true, false, false, false, false, false, false, false, false, false, false, false, false, false, false, false]) (by kernel_rfl) ?_
 try simp only [nA, nB, nC]
 refine h_takeL (i := 2) (v := (.pointer (some ⟨b, o + 0 * 5, none⟩))) hns rfl rfl (by kernel_rfl) (by kernel_rfl) hP (y_index (p := (.slice (some ⟨b, o, none⟩) 2 c)) (k := (.int .i64 0)) rfl (by kernel_rfl) (by kernel_rfl) (by kernel_rfl) (idx24 b o 2 c 0 (by decide))) hS rfl (L' := #[true, true, true, false, false, false, false, false, false, false, false, false, false, false, false, false, false]) (by kernel_rfl) ?_
 try simp only [nA, nB, nC]
 refine h_takeL (i := 3) (v := (nv k'0 tx'0 n'0 (.slice a'0 N'0 c'0) at'0)) hns rfl rfl (by kernel_rfl) (by kernel_rfl) hP (y_load rfl (hl := fun w' h => load24 (Cl.below HCL0.out h))) hS rfl (L' := #[true, true, true, true, false, false, false, false, false, false, false, false, false, false, false, false, false]) (by kernel_rfl) ?_
 try simp only [nA, nB, nC]
 refine h_takeL (i := 6) (v := (.pointer (some ⟨g1, 1, none⟩))) hns rfl rfl (by kernel_rfl) (by kernel_rfl) hP (y_faddr rfl (hf := fa_api_Node_1 g1 0)) hS rfl (L' := #[true, true, true, true, false, false, true, false, false, false, false, false, false, false, false, false, false]) (by kernel_rfl) ?_
 try simp only [nA, nB, nC]
 refine h_takeL (i := 7) (v := (strV tx)) hns rfl rfl (by kernel_rfl) (by kernel_rfl) hP (y_load rfl (hl := fun w' h => load1 Tryz.isAgg9 (cell_at (below_at h K2.out (heap_lt K2.out)) 1 rfl))) hS rfl (L' := #[true, true, true, true, false, false, true, true, false, false, false, false, false, false, false, false, false]) (by kernel_rfl) ?_
 try simp only [nA, nB, nC]
 refine h_takeL (i := 10) (v := (.pointer (some ⟨g1, 3, none⟩))) hns rfl rfl (by kernel_rfl) (by kernel_rfl) hP (y_faddr rfl (hf := fa_api_Node_3 g1 0)) hS rfl (L' := #[true, true, true, true, false, false, true, true, false, false, true, false, false, false, false, false, false]) (by kernel_rfl) ?_
 try simp only [nA, nB, nC]
 refine h_takeL (i := 11) (v := (.slice (some ⟨b, o, none⟩) 2 c)) hns rfl rfl (by kernel_rfl) (by kernel_rfl) hP (y_load rfl (hl := fun w' h => load1 Tryz.isAgg22 (cell_at (below_at h K2.out (heap_lt K2.out)) 3 rfl))) hS rfl (L' := #[true, true, true, true, false, false, true, true, false, false, true, true, false, false, false, false, false]) (by kernel_rfl) ?_
 try simp only [nA, nB, nC]
 refine h_takeL (i := 12) (v := (.pointer (some ⟨b, o + 1 * 5, none⟩))) hns rfl rfl (by kernel_rfl) (by kernel_rfl) hP (y_index (p := (.slice (some ⟨b, o, none⟩) 2 c)) (k := (.int .i64 1)) rfl (by kernel_rfl) (by kernel_rfl) (by kernel_rfl) (idx24 b o 2 c 1 (by decide))) hS rfl (L' := #[true, true, true, true, false, false, true, true, false, false, true, true, true, false, false, false, false]) (by kernel_rfl) ?_
 try simp only [nA, nB, nC]
 refine h_takeL (i := 13) (v := (nv k'1 tx'1 n'1 (.slice a'1 N'1 c'1) at'1)) hns rfl rfl (by kernel_rfl) (by kernel_rfl) hP (y_load rfl (hl := fun w' h => load24 (Cl.below HCL1.out h))) hS rfl (L' := #[true, true, true, true, false, false, true, true, false, false, true, true, true, true, false, false, false]) (by kernel_rfl) ?_
 try simp only [nA, nB, nC]
 refine h_callL (i := 4) (f := 50) (args := #[(nv k'0 tx'0 n'0 (.slice a'0 N'0 c'0) at'0)]) (by kernel_rfl) rfl rfl (by kernel_rfl) (enter_go rfl (by kernel_rfl) (fun w => by go_simp)) (L' := #[true, true, true, true, true, false, true, true, false, false, true, true, true, true, false, false, false]) (by kernel_rfl) ?_
 have HCA := hid (rpart_any HFK0.out HBL0.out HNK0.out)
 refine HCA.out.mono ?_
 rintro e w7 ⟨he, hq⟩
 rw [HS0.out] at he
 subst he
 replace hS := hS.trans (hq.mono hS.size)
 refine ⟨_, rfl, hS, ?_⟩
 have HB8 := hid hq
 clear hq
 replace K2 := ka HB8 K2
 replace HCL0 := hid (Cl.below HCL0.out HB8.out)
 replace HNK0 := hid (HNK0.out.later HB8.out)
 replace HCL1 := hid (Cl.below HCL1.out HB8.out)
 replace HNK1 := hid (HNK1.out.later HB8.out)
 replace HB0 := kb HB0 HB8
 try simp only [nA, nB, nC]
 refine h_takeL (i := 5) (v := (strV (s0 ++ [32]))) hns rfl rfl (by kernel_rfl) (by kernel_rfl) hP (y_addS (l := s0) (m := [32]) rfl (by kernel_rfl) (by kernel_rfl) (by kernel_rfl) (by have := HLW.out; simp only [List.length_cons, List.length_nil]; omega)) hS rfl (L' := #[true, true, true, true, true, true, true, true, false, false, true, true, true, true, false, false, false]) (by kernel_rfl) ?_
 try simp only [nA, nB, nC]
 refine h_takeL (i := 8) (v := (strV (s0 ++ [32] ++ tx))) hns rfl rfl (by kernel_rfl) (by kernel_rfl) hP (y_addS (l := s0 ++ [32]) (m := tx) rfl (by kernel_rfl) (by kernel_rfl) (by kernel_rfl) (by have := HLW.out; simp only [List.length_append, List.length_cons, List.length_nil]; omega)) hS rfl (L' := #[true, true, true, true, true, true, true, true, true, false, true, true, true, true, false, false, false]) (by kernel_rfl) ?_
 try simp only [nA, nB, nC]
 refine h_takeL (i := 9) (v := (strV (s0 ++ [32] ++ tx ++ [32]))) hns rfl rfl (by kernel_rfl) (by kernel_rfl) hP (y_addS (l := s0 ++ [32] ++ tx) (m := [32]) rfl (by kernel_rfl) (by kernel_rfl) (by kernel_rfl) (by have := HLW.out; simp only [List.length_append, List.length_cons, List.length_nil]; omega)) hS rfl (L' := #[true, true, true, true, true, true, true, true, true, true, true, true, true, true, false, false, false]) (by kernel_rfl) ?_
 try simp only [nA, nB, nC]
 refine h_callL (i := 14) (f := 50) (args := #[(nv k'1 tx'1 n'1 (.slice a'1 N'1 c'1) at'1)]) (by kernel_rfl) rfl rfl (by kernel_rfl) (enter_go rfl (by kernel_rfl) (fun w => by go_simp)) (L' := #[true, true, true, true, true, true, true, true, true, true, true, true, true, true, true, false, false]) (by kernel_rfl) ?_
 have HCA := hid (rpart_any HFK1.out HBL1.out HNK1.out)
 refine HCA.out.mono ?_
 rintro e w9 ⟨he, hq⟩
 rw [HS1.out] at he
 subst he
 replace hS := hS.trans (hq.mono hS.size)
 refine ⟨_, rfl, hS, ?_⟩
 have HB10 := hid hq
 clear hq
 replace K2 := ka HB10 K2
 replace HCL0 := hid (Cl.below HCL0.out HB10.out)
 replace HNK0 := hid (HNK0.out.later HB10.out)
 replace HCL1 := hid (Cl.below HCL1.out HB10.out)
 replace HNK1 := hid (HNK1.out.later HB10.out)
 replace HB0 := kb HB0 HB10
 try simp only [nA, nB, nC]
 refine h_takeL (i := 15) (v := (strV (s0 ++ [32] ++ tx ++ [32] ++ s1))) hns rfl rfl (by kernel_rfl) (by kernel_rfl) hP (y_addS (l := s0 ++ [32] ++ tx ++ [32]) (m := s1) rfl (by kernel_rfl) (by kernel_rfl) (by kernel_rfl) (by have := HLW.out; simp only [List.length_append, List.length_cons, List.length_nil]; omega)) hS rfl (L' := #[true, true, true, true, true, true, true, true, true, true, true, true, true, true, true, true, false]) (by kernel_rfl) ?_
 try simp only [nA, nB, nC]
 refine h_takeL (i := 16) (v := (strV (s0 ++ [32] ++ tx ++ [32] ++ s1))) hns rfl rfl (by kernel_rfl) (by kernel_rfl) hP (y_assign rfl) hS rfl (L' := #[true, true, true, true, true, true, true, true, true, true, true, true, true, true, true, true, true]) (by kernel_rfl) ?_
 try simp only [nA, nB, nC]
 refine wpAnyH_done (by kernel_rfl) ?_ _
 refine hN _ _ ?_
 clear hP hN hns hS
 go_wp2_with fail
 go_ret
 exact ⟨congrArg (fun l => Ending.returned (strV l)) (by rw [HS0.out, HS1.out]; try simp), HB0.out⟩
seal wpList in
theorem form_else {tx : List UInt8} {n : Int} {kids : List Tr} {at_ : Int} {k : Int} {w : World} {v : Value} (h5 : (k == (5 : Int)) = false) (h6 : (k == (6 : Int)) = false) (h8 : (k == (8 : Int)) = false) (h9 : (k == (9 : Int)) = false) (h11 : (k == (11 : Int)) = false) (h15 : (k == (15 : Int)) = false) (h14 : (k == (14 : Int)) = false) (h12 : (k == (12 : Int)) = false) (h13 : (k == (13 : Int)) = false) (hn : Nd w v (.mk k tx n kids at_)) : Calls Tryz.prog 29 #[v] w fun e w' => e = .returned (strV (tx)) ∧ Below w.heap.size w w' := by
 have H5 := hid h5
 have H6 := hid h6
 have H8 := hid h8
 have H9 := hid h9
 have H11 := hid h11
 have H15 := hid h15
 have H14 := hid h14
 have H12 := hid h12
 have H13 := hid h13
 clear h5 h6 h8 h9 h11 h15 h14 h12 h13
 have HN := hid hn
 have HN0 := hid hn
 have HB0 := hid (Below.refl w.heap.size w)
 obtain ⟨a, c, rfl, -, -⟩ := hn.open
 clear hn
 obtain ⟨N, hN⟩ : ∃ N, kids.length = N := ⟨_, rfl⟩
 rw [hN] at HN HN0 ⊢
 have HNN := hid hN
 clear hN
 go_enter Tryz.func29, Tryz.ntmps29
 go_upto_region 0 with fail
 refine rl ?_
 obtain ⟨w3, g1, (HX : Hid _), (K2 : Hid _), (HB4 : Hid _)⟩ := box_x 24 w #[(.int .i64 k), (strV tx), (.int .i64 n), (.slice a N c), (.int .i64 at_)]
 refine wp_run (v := (.pointer (some ⟨g1, 0, none⟩))) rfl rfl (run_boxOp rfl (by kernel_rfl) HX.out) rfl ?_
 try simp only [nA, nB, nC]
 replace HB0 := kb HB0 HB4
 refine qv (strV []) ?_
 simp only [nA, nB, nC]
 refine we ?_
 go_upto_region 1 with fail
 refine rl ?_
 refine qf (fa_api_Node_0 g1 0) ?_
 refine ql (.int .i64 k) Tryz.isAgg3 0 K2 ?_
 simp only [nA, nB, nC]
 refine we ?_
 go_upto_region 2 with fail
 refine rl ?_
 refine qb (beql_int k 5 false H5.out) ?_
 refine qv (.bool false) ?_
 simp only [nA, nB, nC]
 refine we ?_
 go_upto_region 4 with fail
 refine rl ?_
 refine qb (beql_int k 6 false H6.out) ?_
 refine qv (.bool false) ?_
 simp only [nA, nB, nC]
 refine we ?_
 go_upto_region 7 with fail
 refine rl ?_
 refine qb (beql_int k 8 false H8.out) ?_
 refine qv (.bool false) ?_
 simp only [nA, nB, nC]
 refine we ?_
 go_upto_region 9 with fail
 refine rl ?_
 refine qb (beql_int k 9 false H9.out) ?_
 refine qv (.bool false) ?_
 simp only [nA, nB, nC]
 refine we ?_
 go_upto_region 11 with fail
 refine rl ?_
 refine qb (beql_int k 11 false H11.out) ?_
 refine qv (.bool false) ?_
 simp only [nA, nB, nC]
 refine we ?_
 go_upto_region 13 with fail
 refine rl ?_
 refine qb (beql_int k 15 false H15.out) ?_
 refine qv (.bool false) ?_
 simp only [nA, nB, nC]
 refine we ?_
 go_upto_region 15 with fail
 refine rl ?_
 refine qb (beql_int k 14 false H14.out) ?_
 refine qv (.bool false) ?_
 simp only [nA, nB, nC]
 refine we ?_
 go_upto_region 17 with fail
 refine rl ?_
 refine qb (beql_int k 12 false H12.out) ?_
 refine qv (.bool false) ?_
 simp only [nA, nB, nC]
 refine we ?_
 go_upto_region 21 with fail
 refine rl ?_
 refine qb (beql_int k 13 false H13.out) ?_
 refine qv (.bool false) ?_
 simp only [nA, nB, nC]
 refine we ?_
 go_upto_region 23 with fail
 refine rl ?_
 refine qf (fa_api_Node_1 g1 0) ?_
 refine ql (strV tx) Tryz.isAgg9 1 K2 ?_
 refine qv (strV tx) ?_
 simp only [nA, nB, nC]
 refine we ?_
 go_wp2_with fail
 go_ret
 exact ⟨rfl, HB0.out⟩
theorem fw_small {d : Nat} {t : Tr} (h : rt d t = true) (hs : sml t = true) : (fw (wrOf t)).length ≤ 1638400 := by
 unfold sml at hs
 rw [decide_eq_true_eq] at hs
 have := fw_sum t d 8192 h hs
 omega
theorem kids_of {k : Int} {ks : List Tr} {lo hi : Nat} (h : kidsOk k ks.length = true) (he : kidsOf k = ((lo : Int), (hi : Int))) : lo ≤ ks.length ∧ ks.length ≤ hi := kidsOk_of h he
theorem rform_any (t : Tr) : ∀ d, rt d t = true → sml t = true → FP t := by
 refine Tr.ind (P := fun t => ∀ d, rt d t = true → sml t = true → FP t) ?_ t
 intro k tx n kids at_ ih d h hs w v hn
 cases d with
 | zero => rw [rt] at h; cases h
 | succ d =>
  rw [rt] at h
  simp only [Bool.and_eq_true] at h
  obtain ⟨⟨ho, hk⟩, ha⟩ := h
  have hf : ∀ t ∈ kids, FP t := fun t ht => by
   obtain ⟨j, hj⟩ := List.getElem?_of_mem ht
   exact ih t ht d (List.all_eq_true.1 ha t ht) (kid_small hs hj)
  have hb : ∀ t ∈ kids, (fw (wrOf t)).length ≤ 1638400 := fun t ht => by
   obtain ⟨j, hj⟩ := List.getElem?_of_mem ht
   exact fw_small (List.all_eq_true.1 ha t ht) (kid_small hs hj)
  have hl : (fwl true (wrsOf kids)).length ≤ 4611686018427387904 := by
   have h1 := fwl_bound (B := 1638400) true (wrsOf kids) (fun x hx => by
    rw [wrsOf_map] at hx
    obtain ⟨y, hy, rfl⟩ := List.mem_map.1 hx
    exact hb y hy)
   rw [wrsOf_len] at h1
   have h2 : kids.length * (1638400 + 2) ≤ 8 * 1638402 := Nat.mul_le_mul_right _ (kids_le hk)
   omega
  have htx := own_len ho
  by_cases h5 : k = 5
  ·subst h5; exact form_5 hn
  by_cases h6 : k = 6
  ·subst h6
   have h6 : btw 0 73048 n = true := by
    simp [own] at ho
    exact ho.2
   exact form_6 h6 hn
  by_cases h8 : k = 8
  ·subst h8
   have h8 : btw 0 1 n = true := by
    simp [own] at ho
    exact ho.2
   have h9 := btw_iff.1 h8
   by_cases hz : n = 0
   ·subst hz; exact form_80 hn
   ·have : n = 1 := by omega
    subst this; exact form_81 hn
  by_cases h9 : k = 9
  ·subst h9; exact form_9 (by omega) hn
  by_cases h11 : k = 11
  ·subst h11; exact form_11 (by omega) hf hl hn
  by_cases h15 : k = 15
  ·subst h15; exact form_15 (by omega) hf hl hn
  by_cases h14 : k = 14
  ·subst h14
   have := kids_of (lo := 3) (hi := 3) hk rfl
   match kids, this with
   | [a, b, c], _ => rw [wr_if]; exact form_14 (by omega) hf hb hn
  by_cases h12 : k = 12
  ·subst h12
   have := kids_of (lo := 1) (hi := 1) hk rfl
   have hu : tx = [45] ∨ tx = [110, 111, 116] := by
    simp [own, ownT, uns] at ho
    exact ho.2
   match kids, this with
   | [a], _ =>
    rcases hu with rfl | rfl
    ·exact form_12m hf hb hn
    ·exact form_12n hf hb hn
  by_cases h13 : k = 13
  ·subst h13
   have := kids_of (lo := 2) (hi := 2) hk rfl
   match kids, this with
   | [a, b], _ => exact form_13 (by omega) hf hb hn
  have e : fw (wrOf (.mk k tx n kids at_)) = tx := by rw [wrOf, mkW]; simp only [show (k == 5) = false by simpa using h5, show (k == 6) = false by simpa using h6, show (k == 8) = false by simpa using h8, show (k == 9) = false by simpa using h9, show (k == 11) = false by simpa using h11, show (k == 15) = false by simpa using h15, show (k == 12) = false by simpa using h12, show (k == 13) = false by simpa using h13, show (k == 14) = false by simpa using h14, cond_false, fw]
  rw [e]
  exact form_else (by simpa using h5) (by simpa using h6) (by simpa using h8) (by simpa using h9) (by simpa using h11) (by simpa using h15) (by simpa using h14) (by simpa using h12) (by simpa using h13) hn
theorem rparam_any {t : Tr} (h : brT 4 t = true) : FP t := by
 obtain ⟨k, tx, n, ks, at_⟩ := t
 have : k = 4 := by simpa [Tr.kd] using brT_kd h
 subst this
 intro w v hn
 exact form_else rfl rfl rfl rfl rfl rfl rfl rfl rfl hn
end Go.Proofs.YtgpkcjpanpbhdaaGreatDoor
