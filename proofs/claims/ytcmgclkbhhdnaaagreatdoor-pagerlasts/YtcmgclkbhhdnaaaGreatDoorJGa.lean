/- texts put together: WMath WRow KOps KMem KHeld KDisk KLay KRead KBuild KWrite KFlush KClone KIter KCrash KState -/
import Derived.WalkKit
import Derived.Test.YtcmgclkbhhdnaaaGreatDoorChecked
import Derived.WalkSpells
import Derived.WalkLawsBesides
import Derived.OwnWalk
import Derived.Room.AppendFits
import Derived.Deep.AppendSrc
import Derived.Deep.AppendLies
import Derived.Laws.IdiomStrings
import Derived.Laws.Bits64b
import Derived.Deep.WholeRow
import Derived.Laws.CopyRow
import Derived.Laws.IdiomCopy
import Derived.Deep.QuietTactic
import Derived.BigQuiet
import Derived.MapKept
import Derived.ChangeMaps5
import Derived.OrdersHeld
import Derived.BigRegion
import Derived.Deep.Cut
import Derived.Lib.SliceRun
import Derived.Lib.Walk
import Derived.Test.YtcmgclkbhhdnaaaGreatDoorShelf
import Derived.RangeFuncBox
import Derived.RangeFuncLeaves
import Derived.Shelf.Abstract
import Derived.OwnWalkIn
import Derived.TacticsInMore
import Derived.LoopNIn
import Derived.LoopIn
import Derived.Maps.AppendAt
import Derived.Lib.SlKeysI
namespace Go.Proofs.YtcmgclkbhhdnaaaGreatDoor
open Go Go.RowKit

/-- The byte at a place, as a number. -/
def at8 (l : List UInt8) (k : Nat) : Int := ((l.getD k 0).toNat : Int)
theorem drop_cons8 (l : List UInt8) (k : Nat) (h : k < l.length) : l.drop k = l.getD k 0 :: l.drop (k + 1) := by
  rw [List.drop_eq_getElem_cons h]; simp [List.getD, h]

/-- A number as one from 0 on. -/
def zig (n : Int) : Nat := if n < 0 then (-2 * n - 1).toNat else (2 * n).toNat
def unzig (u : Nat) : Int := if u % 2 = 1 then -((u / 2 : Nat) : Int) - 1 else ((u / 2 : Nat) : Int)
theorem unzig_zig (n : Int) : unzig (zig n) = n := by
  unfold unzig zig
  split <;> split <;> omega
theorem zig_unzig (u : Nat) : zig (unzig u) = u := by
  unfold unzig zig
  split <;> split <;> omega
theorem zig_lt {n : Int} (h0 : -9223372036854775808 ≤ n) (h1 : n ≤ 9223372036854775807) : zig n < 18446744073709551616 := by
  unfold zig; split <;> omega
theorem unzig_ge {u : Nat} (h : u < 18446744073709551616) : -9223372036854775808 ≤ unzig u := by unfold unzig; split <;> omega
theorem unzig_le {u : Nat} (h : u < 18446744073709551616) : unzig u ≤ 9223372036854775807 := by unfold unzig; split <;> omega
theorem zig_neg {n : Int} (h : n < 0) : (zig n : Int) = -2 * n - 1 := by unfold zig; rw [if_pos h]; omega
theorem zig_pos {n : Int} (h : ¬ n < 0) : (zig n : Int) = 2 * n := by unfold zig; rw [if_neg h]; omega

/-- A number's bytes. -/
def vb (u : Nat) : List UInt8 := if u < 128 then [UInt8.ofNat u] else UInt8.ofNat (u % 128 + 128) :: vb (u / 128)
termination_by u
theorem vb_lt {u : Nat} (h : u < 128) : vb u = [UInt8.ofNat u] := by rw [vb, if_pos h]
theorem vb_ge {u : Nat} (h : ¬ u < 128) : vb u = UInt8.ofNat (u % 128 + 128) :: vb (u / 128) := by rw [vb, if_neg h]
theorem vb_ne (u : Nat) : vb u ≠ [] := by rw [vb]; split <;> simp
theorem vb_pos (u : Nat) : 0 < (vb u).length := by rw [vb]; split <;> simp
theorem vb_len : ∀ (k u : Nat), u < 128 ^ (k + 1) → (vb u).length ≤ k + 1
  | 0, u, h => by rw [vb_lt (by simpa using h)]; simp
  | k + 1, u, h => by
    by_cases hu : u < 128
    · rw [vb_lt hu]; simp
    · rw [vb_ge hu, List.length_cons]
      have := vb_len k (u / 128) (by rw [Nat.div_lt_iff_lt_mul (by decide)]; rw [Nat.pow_succ] at h; exact h)
      omega
theorem vb_len10 {u : Nat} (h : u < 18446744073709551616) : (vb u).length ≤ 10 := vb_len 9 u (by have : (128 : Nat) ^ (9 + 1) = 1180591620717411303424 := by decide
                                                                                                 omega)
theorem zvb_len {n : Int} (h0 : -9223372036854775808 ≤ n) (h1 : n ≤ 9223372036854775807) : (vb (zig n)).length ≤ 10 := vb_len10 (zig_lt h0 h1)

theorem u8_ofNat {k : Nat} (h : k < 256) : (UInt8.ofNat k).toNat = k := by simp; omega
theorem u8_ext {a b : UInt8} (h : a.toNat = b.toNat) : a = b := UInt8.toNat_inj.1 h

/-- May a byte end a number, so many ahead of it? -/
def mayEndB (i : Nat) (c : Int) : Bool := if i = 9 then decide (c = 1) else (decide (0 < c) || decide (i = 0))

/-- What bytes say: the reading loop. -/
def dec (i u : Nat) : List UInt8 → Option (Nat × Nat)
  | [] => none
  | c :: r => if 10 ≤ i then none else
      if 128 ≤ c.toNat then dec (i + 1) ((u + c.toNat % 128 * 128 ^ i) % 18446744073709551616) r
      else if mayEndB i (c.toNat : Int) then some ((u + c.toNat % 128 * 128 ^ i) % 18446744073709551616, i + 1) else none
theorem dec_ten (u : Nat) (l : List UInt8) : dec 10 u l = none := by cases l <;> simp [dec]

theorem pow128_le {i : Nat} (h : i ≤ 8) : 128 ^ (i + 1) ≤ 9223372036854775808 := by
  have : (128 : Nat) ^ (i + 1) ≤ 128 ^ 9 := Nat.pow_le_pow_right (by decide) (by omega)
  have e : (128 : Nat) ^ 9 = 9223372036854775808 := by decide
  omega

theorem dec_iff : ∀ (l : List UInt8) (i u U k : Nat), i ≤ 9 → u < 128 ^ i →
    (dec i u l = some (U, k) ↔ ∃ q, U = u + 128 ^ i * q ∧ (i = 0 ∨ 1 ≤ q) ∧ U < 18446744073709551616 ∧ vb q <+: l ∧ k = i + (vb q).length)
  | [], i, u, U, k, hi, hu => by
    simp only [dec, List.prefix_nil]
    exact ⟨fun h => (by cases h), fun ⟨q, _, _, _, h, _⟩ => absurd h (vb_ne q)⟩
  | c :: r, i, u, U, k, hi, hu => by
    have hc : c.toNat < 256 := c.toNat_lt
    rw [dec, if_neg (by omega)]
    by_cases h128 : 128 ≤ c.toNat
    · rw [if_pos h128]
      have hcm : c.toNat % 128 = c.toNat - 128 := by omega
      by_cases h9 : i = 9
      · subst h9
        rw [dec_ten]
        refine ⟨fun h => (by cases h), ?_⟩
        rintro ⟨q, rfl, _, hU, hp, rfl⟩
        exfalso
        have e9 : (128 : Nat) ^ 9 = 9223372036854775808 := by decide
        rw [e9] at hU
        have hq : q < 128 := by omega
        rw [vb_lt hq] at hp
        obtain ⟨t, ht⟩ := hp
        simp at ht
        have := u8_ofNat (show q < 256 by omega)
        rw [ht.1] at this
        omega
      · have hp1 := pow128_le (i := i) (by omega)
        have hps : (128 : Nat) ^ (i + 1) = 128 * 128 ^ i := by rw [Nat.pow_succ]; omega
        have hub : u + c.toNat % 128 * 128 ^ i < 128 ^ (i + 1) := by
          have : c.toNat % 128 * 128 ^ i ≤ 127 * 128 ^ i := Nat.mul_le_mul_right _ (by omega)
          omega
        rw [Nat.mod_eq_of_lt (by omega)]
        rw [dec_iff r (i + 1) _ U k (by omega) hub]
        constructor
        · rintro ⟨q', rfl, h1, hU, hp, rfl⟩
          have h1' : 1 ≤ q' := by omega
          refine ⟨c.toNat % 128 + 128 * q', ?_, .inr (by omega), hU, ?_, ?_⟩
          · rw [hps, Nat.mul_add, Nat.mul_comm (128 ^ i) (c.toNat % 128)]
            have : 128 ^ i * (128 * q') = 128 * 128 ^ i * q' := by rw [← Nat.mul_assoc, Nat.mul_comm (128 ^ i) 128]
            omega
          · rw [vb_ge (by omega)]
            have e1 : (c.toNat % 128 + 128 * q') % 128 + 128 = c.toNat := by omega
            have e2 : (c.toNat % 128 + 128 * q') / 128 = q' := by omega
            rw [e1, e2]
            have : UInt8.ofNat c.toNat = c := by simp
            rw [this]
            exact List.cons_prefix_cons.2 ⟨rfl, hp⟩
          · rw [vb_ge (u := c.toNat % 128 + 128 * q') (by omega)]
            have e2 : (c.toNat % 128 + 128 * q') / 128 = q' := by omega
            rw [e2, List.length_cons]; omega
        · rintro ⟨q, rfl, h1, hU, hp, rfl⟩
          have hq : ¬ q < 128 := by
            intro hq
            rw [vb_lt hq] at hp
            have := (List.cons_prefix_cons.1 hp).1
            have h' := u8_ofNat (show q < 256 by omega)
            rw [this] at h'
            omega
          rw [vb_ge hq] at hp
          obtain ⟨hc', hp'⟩ := List.cons_prefix_cons.1 hp
          have hcq : q % 128 + 128 = c.toNat := by rw [← hc', u8_ofNat (by omega)]
          refine ⟨q / 128, ?_, .inr (by omega), hU, hp', ?_⟩
          · rw [hps]
            have e : q = c.toNat % 128 + 128 * (q / 128) := by omega
            conv => lhs; rw [e]
            rw [Nat.mul_add, Nat.mul_comm (128 ^ i) (c.toNat % 128)]
            have : 128 ^ i * (128 * (q / 128)) = 128 * 128 ^ i * (q / 128) := by rw [← Nat.mul_assoc, Nat.mul_comm (128 ^ i) 128]
            omega
          · rw [vb_ge hq, List.length_cons]; omega
    · rw [if_neg h128]
      have hcm : c.toNat % 128 = c.toNat := by omega
      have hcc : UInt8.ofNat c.toNat = c := by simp
      rw [hcm]
      have hU : mayEndB i (c.toNat : Int) = true → u + c.toNat * 128 ^ i < 18446744073709551616 := by
        unfold mayEndB
        intro h
        by_cases h9 : i = 9
        · subst h9
          simp at h
          have e9 : (128 : Nat) ^ 9 = 9223372036854775808 := by decide
          have : c.toNat = 1 := by omega
          rw [this]; rw [e9] at hu ⊢; omega
        · have hp1 := pow128_le (i := i) (by omega)
          have hps : (128 : Nat) ^ (i + 1) = 128 * 128 ^ i := by rw [Nat.pow_succ]; omega
          have : c.toNat * 128 ^ i ≤ 127 * 128 ^ i := Nat.mul_le_mul_right _ (by omega)
          omega
      constructor
      · intro h
        by_cases hm : mayEndB i (c.toNat : Int) = true
        · rw [if_pos hm] at h
          have hu' := hU hm
          rw [Nat.mod_eq_of_lt hu'] at h
          injection h with h
          injection h with hA hB
          subst hA; subst hB
          refine ⟨c.toNat, by rw [Nat.mul_comm], ?_, hu', ?_, ?_⟩
          · unfold mayEndB at hm
            by_cases h9 : i = 9
            · subst h9; simp at hm; right; omega
            · simp [h9] at hm; rcases hm with h | h
              · right; omega
              · left; exact h
          · rw [vb_lt (by omega), hcc]; exact List.cons_prefix_cons.2 ⟨rfl, List.nil_prefix⟩
          · rw [vb_lt (by omega)]; rfl
        · rw [if_neg hm] at h; cases h
      · rintro ⟨q, rfl, h1, hU', hp, rfl⟩
        have hq : q < 128 := by
          apply Classical.byContradiction
          intro hq
          rw [vb_ge hq] at hp
          have := (List.cons_prefix_cons.1 hp).1
          have h' := u8_ofNat (show q % 128 + 128 < 256 by omega)
          rw [this] at h'
          omega
        rw [vb_lt hq] at hp ⊢
        have hqc : c.toNat = q := by rw [← (List.cons_prefix_cons.1 hp).1, u8_ofNat (by omega)]
        rw [hqc]
        have hm : mayEndB i (q : Int) = true := by
          unfold mayEndB
          by_cases h9 : i = 9
          · subst h9
            have e9 : (128 : Nat) ^ 9 = 9223372036854775808 := by decide
            rw [e9] at hU'
            simp; omega
          · simp [h9]; omega
        rw [if_pos hm, Nat.mul_comm q, Nat.mod_eq_of_lt hU']
        rfl

/-- What bytes say, from their beginning. -/
def takeI (l : List UInt8) : Option (Int × Nat) := (dec 0 0 l).map fun p => (unzig p.1, p.2)
theorem dec0_iff (l : List UInt8) (U k : Nat) : dec 0 0 l = some (U, k) ↔ U < 18446744073709551616 ∧ vb U <+: l ∧ k = (vb U).length := by
  rw [dec_iff l 0 0 U k (by omega) (by simp)]
  constructor
  · rintro ⟨q, rfl, _, h1, h2, h3⟩
    simp at h1 h2 h3 ⊢
    exact ⟨h1, h2, h3⟩
  · rintro ⟨h1, h2, h3⟩
    exact ⟨U, by simp, .inl rfl, h1, h2, by omega⟩
theorem takeI_iff (l : List UInt8) (n : Int) (k : Nat) : takeI l = some (n, k) ↔ (-9223372036854775808 ≤ n ∧ n ≤ 9223372036854775807) ∧ vb (zig n) <+: l ∧ k = (vb (zig n)).length := by
  unfold takeI
  constructor
  · intro h
    obtain ⟨⟨U, k'⟩, h1, h2⟩ := Option.map_eq_some_iff.1 h
    obtain ⟨a, b, c⟩ := (dec0_iff l U k').1 h1
    simp only [Prod.mk.injEq] at h2
    obtain ⟨rfl, rfl⟩ := h2
    rw [zig_unzig]
    exact ⟨⟨unzig_ge a, unzig_le a⟩, b, c⟩
  · rintro ⟨⟨h0, h1⟩, h2, rfl⟩
    rw [(dec0_iff l (zig n) _).2 ⟨zig_lt h0 h1, h2, rfl⟩]
    simp [unzig_zig]
theorem takeI_put {n : Int} (h0 : -9223372036854775808 ≤ n) (h1 : n ≤ 9223372036854775807) (r : List UInt8) : takeI (vb (zig n) ++ r) = some (n, (vb (zig n)).length) :=
  (takeI_iff _ _ _).2 ⟨⟨h0, h1⟩, List.prefix_append _ _, rfl⟩
end Go.Proofs.YtcmgclkbhhdnaaaGreatDoor
namespace Go.Proofs.YtcmgclkbhhdnaaaGreatDoor
open Go Go.RowKit

theorem info8 : (Tryz.prog.info? 5).map (fun i => (i.zero, i.size, i.bytes)) = some (some (.int .u8 0), 1, 1) := by kernel_rfl

theorem hid {p : Prop} (h : p) : Hid p := h

/-- A byte as a cell. -/
def cb (b : UInt8) : Value := .int .u8 (b.toNat : Int)
def cells8 (l : List UInt8) : List Value := l.map cb
theorem cells8_len (l : List UInt8) : (cells8 l).length = l.length := by simp [cells8]
theorem cells8_one (l : List UInt8) : ∀ u ∈ cells8 l, u.oneCell' = true := by
  intro u hu
  obtain ⟨_, _, rfl⟩ := List.mem_map.1 hu
  rfl
theorem cells8_append (a b : List UInt8) : cells8 a ++ cells8 b = cells8 (a ++ b) := by simp [cells8]
theorem cells8_get (l : List UInt8) (k : Nat) (h : k < l.length) : (cells8 l)[k]? = some (.int .u8 (at8 l k)) := by
  simp [cells8, at8, List.getD, h, cb]
theorem cells8_ofInt (x : Int) (h0 : 0 ≤ x) (h1 : x ≤ 255) : [Value.int .u8 x] = cells8 [UInt8.ofNat x.toNat] := by
  have : (UInt8.ofNat x.toNat).toNat = x.toNat := u8_ofNat (by omega)
  simp [cells8, cb]; omega

/-- The bytes l lie in block b from off on. -/
def Rd (w : World) (b off : Nat) (l : List UInt8) : Prop := ∀ k, k < l.length → w.cell? ⟨b, off + k, none⟩ = some (.int .u8 (at8 l k))
/-- The slice v reads as the bytes l. -/
def Sl (w : World) (v : Value) (l : List UInt8) : Prop :=
  ∃ a cap, v = .slice a l.length cap ∧ l.length ≤ cap ∧ (a = none → cap = 0) ∧ (l ≠ [] → ∃ b off, a = some ⟨b, off, none⟩ ∧ Rd w b off l)

theorem Rd.below {w w' : World} {b off : Nat} {l : List UInt8} (h : Rd w b off l) (hB : Below w.heap.size w w') : Rd w' b off l := fun k hk => by
  rw [hB.cell (p := ⟨b, off + k, none⟩) (World.block_lt_of_cell? w _ (h k hk))]; exact h k hk
theorem Sl.below {w w' : World} {v : Value} {l : List UInt8} (h : Sl w v l) (hB : Below w.heap.size w w') : Sl w' v l := by
  obtain ⟨a, cap, h1, h2, h3, h4⟩ := h
  exact ⟨a, cap, h1, h2, h3, fun hl => by obtain ⟨b, off, e, hr⟩ := h4 hl; exact ⟨b, off, e, hr.below hB⟩⟩
theorem Sl.nil (w : World) : Sl w (.slice none 0 0) [] := ⟨none, 0, rfl, Nat.le_refl _, fun _ => rfl, fun h => absurd rfl h⟩
theorem Sl.mk {w : World} {b off cap : Nat} {l : List UInt8} (h : Rd w b off l) (hc : l.length ≤ cap) : Sl w (.slice (some ⟨b, off, none⟩) l.length cap) l :=
  ⟨_, _, rfl, hc, fun h => (by cases h), fun _ => ⟨b, off, rfl, h⟩⟩

/-- What a call owns reads as its bytes. -/
theorem owns_rd {w : World} {B g n cap : Nat} {l : List UInt8} (h : w.ownsRow B 5 1 (.slice (some ⟨g, 0, none⟩) n cap) n (cells8 l)) : Rd w g 0 l := fun k hk => by
  have := h.cells (g := g) rfl k _ (cells8_get l k hk)
  rwa [Addr.add_lit] at this
theorem owns_cap {w : World} {B g n cap : Nat} {xs : List Value} (h : w.ownsRow B 5 1 (.slice (some ⟨g, 0, none⟩) n cap) n xs) : n ≤ cap ∧ cap ≤ maxLen ∧ B ≤ g ∧ g < w.heap.size := by
  have hl := h.lt g rfl
  rcases h.2 with ⟨h, _⟩ | ⟨g', cap', cur, hv, hb, hg, h1, h2, _⟩
  · cases h
  · cases hv
    exact ⟨h1, h2, hl⟩
theorem owns_sl {w : World} {B g cap : Nat} {l : List UInt8} (h : w.ownsRow B 5 1 (.slice (some ⟨g, 0, none⟩) l.length cap) l.length (cells8 l)) : Sl w (.slice (some ⟨g, 0, none⟩) l.length cap) l :=
  Sl.mk (owns_rd h) (owns_cap h).1

theorem owns_base {w : World} {B B' : Nat} {e : TypeId} {size : Nat} {v : Value} {n : Nat} {xs : List Value} (h : w.ownsRow B e size v n xs) (hB : B' ≤ B) : w.ownsRow B' e size v n xs := by
  obtain ⟨h1, h2⟩ := h
  refine ⟨h1, ?_⟩
  rcases h2 with h2 | ⟨g, cap, cur, hv, hb, r⟩
  · exact .inl h2
  · exact .inr ⟨g, cap, cur, hv, by omega, r⟩

/-- 'string(b)'. -/
theorem conv_sl {w : World} {v : Value} {l : List UInt8} (h : Sl w v l) : (convert 49 9 v).run Tryz.prog w = .ok (.string ⟨l.toArray⟩) w := by
  obtain ⟨a, cap, rfl, h2, h3, h4⟩ := h
  cases l with
  | nil =>
    rw [run_convert_bytes_string w _ _ 5 a _ cap Tryz.underlying49 Tryz.underlying5 Tryz.underlying9]
    cases a with
    | none => rfl
    | some ad => rw [run_bytesToString w ad _ cap [] (by simpa using run_loadCells_list (P := Tryz.prog) w ad [] (fun j v hj => by simp at hj))]; rfl
  | cons c r =>
    obtain ⟨b, off, rfl, hr⟩ := h4 (by simp)
    refine run_convert_bytes_back w _ _ 5 ⟨b, off, none⟩ cap (c :: r) Tryz.underlying49 Tryz.underlying5 Tryz.underlying9 (fun j hj => ?_)
    rw [Addr.add_lit, hr j hj]
    simp only [at8, List.getD, List.getElem?_eq_getElem hj, Option.getD_some]
end Go.Proofs.YtcmgclkbhhdnaaaGreatDoor
namespace Go.Proofs.YtcmgclkbhhdnaaaGreatDoor
open Go Go.RowKit

section
variable {P : Program} {w w' : World} {ops : Array Oper} {rest : List Oper} {a : Act} {Q : Exit → Act → World → Prop} {dst : Option Nat} {ty : TypeId} {pos : String} {after : Array Edge}

theorem wp_end (h : Q .normal a w) : wpList P ops Q [] a w := h
theorem wp_move {x : Operand} {v : Value} (hx : a.eval x = v) (hK : wpList P ops Q rest (a.put dst v) w) : wpList P ops Q (⟨dst, .move x, ty, pos, after, none⟩ :: rest) a w := by
  refine wpList_plain rfl fun K hK' => ?_
  unfold Oper.wp
  subst hx
  simp only [execOp, Sem.run_pure]
  exact hK' _ _ hK
theorem wp_assign {x : Operand} {v : Value} (hx : a.eval x = v) (hK : wpList P ops Q rest (a.put dst v) w) : wpList P ops Q (⟨dst, .assign x, ty, pos, after, none⟩ :: rest) a w := by
  refine wpList_plain rfl fun K hK' => ?_
  unfold Oper.wp
  subst hx
  simp only [execOp, Sem.run_pure]
  exact hK' _ _ hK
theorem wp_nil {x : Operand} {v : Addr} (hx : a.eval x = .pointer (some v)) (hK : wpList P ops Q rest (a.put dst (.pointer (some v))) w) : wpList P ops Q (⟨dst, .nilCheck x, ty, pos, after, none⟩ :: rest) a w := by
  refine wpList_plain rfl fun K hK' => ?_
  unfold Oper.wp
  simp only [execOp, hx, Sem.run_pure]
  exact hK' _ _ hK
theorem wp_faddr {t f : Nat} {x : Operand} {p v : Value} (hx : a.eval x = p) (hr : (Instr.fieldAt t p f).run P w = .ok v w) (hK : wpList P ops Q rest (a.put dst v) w) : wpList P ops Q (⟨dst, .fieldAddr t x f, ty, pos, after, none⟩ :: rest) a w := by
  refine wpList_plain rfl fun K hK' => ?_
  unfold Oper.wp
  simp only [execOp, hx, Sem.run_bind, hr, Result.andThen_ok]
  exact hK' _ _ hK
theorem wp_addi {p q : Operand} {x y z : Int} (hp : a.eval p = .int .i64 x) (hq : a.eval q = .int .i64 y) (hz : IntKind.i64.wrap (x + y) = z) (hK : wpList Tryz.prog ops Q rest (a.put dst (.int .i64 z)) w) : wpList Tryz.prog ops Q (⟨dst, .binOp .add 3 p q 3, ty, pos, after, none⟩ :: rest) a w := by
  refine wpList_plain rfl fun K hK' => ?_
  have e : (execOp a.eval (⟨dst, .binOp .add 3 p q 3, ty, pos, after, none⟩ : Oper)).run Tryz.prog w = .ok (.value (.int .i64 z)) w := by
    subst hz
    unfold execOp; simp only [hp, hq]; go_simp
  unfold Oper.wp
  rw [e]
  exact hK' _ _ hK
theorem wp_load {t : TypeId} {p : Operand} {x v : Value} (hp : a.eval p = x) (hr : (Instr.loadAt t x).run P w = .ok v w')
    (hK : wpList P ops Q rest (a.put dst v) w') : wpList P ops Q (⟨dst, .load t p, ty, pos, after, none⟩ :: rest) a w := by
  refine wpList_plain rfl fun K hK' => ?_
  unfold Oper.wp
  simp [execOp, hp, hr, Result.andThen]
  exact hK' _ _ hK

theorem wp_store {t : TypeId} {p q : Operand} {x y : Value} (hp : a.eval p = x) (hq : a.eval q = y) (hr : (Instr.storeAt t x y).run P w = .ok () w')
    (hK : wpList P ops Q rest (a.put dst undef) w') : wpList P ops Q (⟨dst, .store t p q, ty, pos, after, none⟩ :: rest) a w := by
  refine wpList_plain rfl fun K hK' => ?_
  unfold Oper.wp
  simp [execOp, hp, hq, hr, Result.andThen]
  exact hK' _ _ hK

theorem wp_alloc {t : TypeId} {v : Value} (hr : (Instr.alloc t true (.tuple #[])).run P w = .ok v w')
    (hK : wpList P ops Q rest (a.put dst v) w') : wpList P ops Q (⟨dst, .alloc t, ty, pos, after, none⟩ :: rest) a w := by
  refine wpList_plain rfl fun K hK' => ?_
  unfold Oper.wp
  simp [execOp, hr, Result.andThen]
  exact hK' _ _ hK

theorem wp_build {t : TypeId} {p q : Operand} {i j : Nat} {x y v : Value} (hp : a.eval p = x) (hq : a.eval q = y) (hr : (Instr.build t #[(i, x), (j, y)]).run P w = .ok v w')
    (hK : wpList P ops Q rest (a.put dst v) w') : wpList P ops Q (⟨dst, .build t #[(i, p), (j, q)], ty, pos, after, none⟩ :: rest) a w := by
  refine wpList_plain rfl fun K hK' => ?_
  have e : (#[(i, p), (j, q)] : Array (Nat × Operand)).map (fun (i, x) => (i, a.eval x)) = #[(i, x), (j, y)] := by simp [hp, hq]
  unfold Oper.wp
  simp only [execOp, e, Sem.run_bind, hr, Result.andThen_ok]
  exact hK' _ _ hK

theorem wp_lookup {t : TypeId} {p q : Operand} {ok : Bool} {x y v : Value} (hp : a.eval p = x) (hq : a.eval q = y) (hr : (Instr.lookup t x y ok).run P w = .ok v w')
    (hK : wpList P ops Q rest (a.put dst v) w') : wpList P ops Q (⟨dst, .lookup t p q ok, ty, pos, after, none⟩ :: rest) a w := by
  refine wpList_plain rfl fun K hK' => ?_
  unfold Oper.wp
  simp [execOp, hp, hq, hr, Result.andThen]
  exact hK' _ _ hK

theorem wp_makeMap {t : TypeId} {v : Value} (hr : (Instr.makeMap t none).run P w = .ok v w')
    (hK : wpList P ops Q rest (a.put dst v) w') : wpList P ops Q (⟨dst, .makeMap t none, ty, pos, after, none⟩ :: rest) a w := by
  refine wpList_plain rfl fun K hK' => ?_
  unfold Oper.wp
  simp [execOp, hr, Result.andThen]
  exact hK' _ _ hK

theorem wp_extract {p : Operand} {i : Nat} {x v : Value} (hp : a.eval p = x) (hr : (Instr.extract x i).run P w = .ok v w)
    (hK : wpList P ops Q rest (a.put dst v) w) : wpList P ops Q (⟨dst, .extract p i, ty, pos, after, none⟩ :: rest) a w := by
  refine wpList_plain rfl fun K hK' => ?_
  unfold Oper.wp
  simp [execOp, hp, hr, Result.andThen]
  exact hK' _ _ hK

theorem wp_call {f : FuncId} {xs : Array Operand} {ats : Array TypeId} {args : Array Value} (hxs : #[] ++ xs.map a.eval ++ #[] = args) (hf : ∀ w, (callFunc f args).run P w = .ok (.enter f args) w)
    (h : Calls P f args w fun e w' => ∃ v, e = .returned v ∧ wpList P ops Q rest (a.put dst v) w') : wpList P ops Q (⟨dst, .call { callee := .value (.func f), args := xs, argTypes := ats }, ty, pos, after, none⟩ :: rest) a w := by
  refine wpList_plain rfl fun K hK' => ?_
  have e : (execOp a.eval (⟨dst, .call { callee := .value (.func f), args := xs, argTypes := ats }, ty, pos, after, none⟩ : Oper)).run P w = .ok (.enter f args) w := by
    have e1 : execOp a.eval (⟨dst, .call { callee := .value (.func f), args := xs, argTypes := ats }, ty, pos, after, none⟩ : Oper) = callFunc f (#[] ++ xs.map a.eval ++ #[]) := by unfold execOp; rfl
    rw [e1, hxs, hf w]
  unfold Oper.wp
  rw [e, Oper.upon_enter]
  refine h.mono fun e w' ⟨v, he, h2⟩ => ?_
  subst he
  exact hK' _ _ h2

theorem wp_arrayAt {t : TypeId} {p : Operand} {x v : Value} (hp : a.eval p = x) (hr : (Instr.arrayAt t x).run P w = .ok v w')
    (hK : wpList P ops Q rest (a.put dst v) w') : wpList P ops Q (⟨dst, .sliceToArrayPointer t p, ty, pos, after, none⟩ :: rest) a w := by
  refine wpList_plain rfl fun K hK' => ?_
  unfold Oper.wp
  simp [execOp, hp, hr, Result.andThen]
  exact hK' _ _ hK
end

theorem add_lit (b o j : Nat) : (⟨b, o, none⟩ : Addr).add j = ⟨b, o + j, none⟩ := by unfold Addr.add; split <;> simp_all

/-- k cells out of a row of cells. -/
theorem loads (P : Program) (w : World) (b o k : Nat) (cur : Array Value) (t : TypeId) (z : Nat × Nat) (cs : List Value) (hk : cs.length = k) (hg : w.heap[b]? = some (.cells cur t z)) (hc : ∀ j v, cs[j]? = some v → cur[o + j]? = some v) :
    (loadCellsFrom ⟨b, o, none⟩ 0 k #[]).run P w = .ok cs.toArray w := by
  subst hk
  have := run_loadCells_list (P := P) w ⟨b, o, none⟩ cs (fun j v hv => by
    rw [add_lit, World.cell?, hg]; simpa using hc j v hv)
  simpa [loadCells] using this

/-- A row of cells with some of them laid anew. -/
def relaid (cur : Array Value) (o : Nat) (cs : List Value) : Array Value := (cur.toList.take o ++ cs ++ cur.toList.drop (o + cs.length)).toArray

theorem stores (P : Program) (w : World) (b o : Nat) (cur : Array Value) (t : TypeId) (cs : List Value) (hg : w.heap[b]? = some (.cells cur t (0, 0))) (hl : o + cs.length ≤ cur.size) (h1 : ∀ v ∈ cs, v.oneCell' = true) :
    (storeCells ⟨b, o, none⟩ cs 0).run P w = .ok () (w.setRow b (relaid cur o cs)) := by
  have := run_storeCells_at (P := P) b o t cs 0 cur w hg (by simpa using hl) h1
  simpa [relaid] using this

theorem size70 : (Tryz.prog.info? 120).map (·.size) = some 128 := by kernel_rfl
theorem size76 : (Tryz.prog.info? 126).map (·.size) = some 129 := by kernel_rfl
theorem run_size {P : Program} {t : TypeId} {n : Nat} (h : (P.info? t).map (·.size) = some n) (w : World) : (Go.sizeOf t).run P w = .ok n w := by
  cases hq : P.info? t with
  | none => simp [hq] at h
  | some i => simp [hq] at h; simp [Go.sizeOf, typeInfo, hq, h]

theorem agg70 (w : World) : (isAgg 120).run Tryz.prog w = .ok true w := by simp [isAgg, run_underlying Tryz.underlying120]
theorem agg76 (w : World) : (isAgg 126).run Tryz.prog w = .ok true w := by simp [isAgg, run_underlying Tryz.underlying126]

/-- A value of k cells is loaded. -/
theorem loadAt_k {P : Program} {t : TypeId} {k : Nat} (ha : ∀ w, (isAgg t).run P w = .ok true w) (hz : (P.info? t).map (·.size) = some k) (w : World) (b o : Nat) (cur : Array Value) (e : TypeId) (z : Nat × Nat) (cs : List Value) (hk : cs.length = k) (hg : w.heap[b]? = some (.cells cur e z)) (hc : ∀ j v, cs[j]? = some v → cur[o + j]? = some v) :
    (Instr.loadAt t (.pointer (some ⟨b, o, none⟩))).run P w = .ok (.agg cs.toArray) w := by
  simp only [Instr.loadAt, Instr.sureAddr, Sem.run_bind, Sem.run_pure, Result.andThen, loadVar, ha, run_size hz, loadCells, loads P w b o k cur e z cs hk hg hc, if_true]

theorem storeAt_k {P : Program} {t : TypeId} {k : Nat} (hz : (P.info? t).map (·.size) = some k) (w : World) (b o : Nat) (cur : Array Value) (e : TypeId) (cs : List Value) (hk : cs.length = k) (hg : w.heap[b]? = some (.cells cur e (0, 0))) (hl : o + cs.length ≤ cur.size) (h1 : ∀ v ∈ cs, v.oneCell' = true) :
    (Instr.storeAt t (.pointer (some ⟨b, o, none⟩)) (.agg cs.toArray)).run P w = .ok () (w.setRow b (relaid cur o cs)) := by
  simp only [Instr.storeAt, Instr.sureAddr, Sem.run_bind, Sem.run_pure, Result.andThen, storeVar, run_size hz, Value.cells, List.size_toArray, hk, ne_eq, not_true_eq_false, if_false, List.toList_toArray, stores P w b o cur e cs hg hl h1]
end Go.Proofs.YtcmgclkbhhdnaaaGreatDoor
namespace Go.Proofs.YtcmgclkbhhdnaaaGreatDoor
open Go Go.RowKit

/-- What lay there is as it was, but for the blocks X. -/
structure Fr (X : List Nat) (w w' : World) : Prop where
  os : w'.os = w.os
  tape : w'.tape = w.tape
  output : w'.output = w.output
  size : w.heap.size ≤ w'.heap.size
  block : ∀ k, k < w.heap.size → k ∉ X → w'.heap[k]? = w.heap[k]?
theorem Fr.refl (X : List Nat) (w : World) : Fr X w w := ⟨rfl, rfl, rfl, Nat.le_refl _, fun _ _ _ => rfl⟩
theorem Fr.trans {X Y : List Nat} {w a b : World} (h : Fr X w a) (k : Fr Y a b) (hY : ∀ x ∈ Y, x ∈ X ∨ w.heap.size ≤ x) : Fr X w b :=
  ⟨k.os.trans h.os, k.tape.trans h.tape, k.output.trans h.output, Nat.le_trans h.size k.size, fun i hi hX => (k.block i (Nat.lt_of_lt_of_le hi h.size) (fun hm => by rcases hY i hm with h | h; exact hX h; omega)).trans (h.block i hi hX)⟩
theorem Fr.mono {X Y : List Nat} {w a : World} (h : Fr X w a) (hY : ∀ x ∈ X, x ∈ Y ∨ w.heap.size ≤ x) : Fr Y w a :=
  ⟨h.os, h.tape, h.output, h.size, fun i hi hX => h.block i hi (fun hm => by rcases hY i hm with h | h; exact hX h; omega)⟩
theorem Fr.below {X : List Nat} {w a : World} (h : Fr X w a) {B : Nat} (hB : B ≤ w.heap.size) (hX : ∀ x ∈ X, B ≤ x) : Below B w a :=
  ⟨h.os, h.tape, h.output, h.size, fun i hi => h.block i (by omega) (fun hm => by have := hX i hm; omega)⟩
theorem Fr.of_below {X : List Nat} {w a : World} (h : Below w.heap.size w a) : Fr X w a := ⟨h.os, h.tape, h.output, h.size, fun i hi _ => h.block i hi⟩
theorem Fr.setCell (w : World) (p i : Nat) (v : Value) : Fr [p] w (w.setCell ⟨p, i, none⟩ v) :=
  ⟨rfl, rfl, rfl, by simp, fun k _ hk => Below.heap_setCell w _ v k (by simpa using hk)⟩
theorem Fr.setRow (w : World) (p : Nat) (c : Array Value) : Fr [p] w (w.setRow p c) :=
  ⟨rfl, rfl, rfl, by simp, fun k _ hk => setRow_other w p k c (by simpa using hk)⟩
theorem Fr.alloc (w : World) (o : Obj) : Fr [] w (w.alloc o) := Fr.of_below ((Below.refl _ w).alloc (Nat.le_refl _) o)
theorem Fr.drew (w : World) : Fr [] w w.drew := ⟨rfl, rfl, rfl, Nat.le_refl _, fun _ _ _ => rfl⟩

theorem Fr.undrew {X : List Nat} {w a : World} (h : Fr X w.drew a) : Fr X w a := ⟨h.os, h.tape, h.output, h.size, h.block⟩

theorem heap_lt {w : World} {k : Nat} {o : Obj} (h : w.heap[k]? = some o) : k < w.heap.size := (Array.getElem?_eq_some_iff.1 h).1
theorem Fr.at {X : List Nat} {w a : World} (h : Fr X w a) {k : Nat} {o : Obj} (hk : w.heap[k]? = some o) (hX : k ∉ X) : a.heap[k]? = some o := (h.block k (heap_lt hk) hX).trans hk
theorem below_at {B : Nat} {w a : World} (h : Below B w a) {k : Nat} {o : Obj} (hk : w.heap[k]? = some o) (hB : k < B) : a.heap[k]? = some o := (h.block k hB).trans hk

/-- A cell of a block. -/
theorem cell_at {w : World} {p : Nat} {c : Array Value} {t : TypeId} {z : Nat × Nat} (h : w.heap[p]? = some (.cells c t z)) (i : Nat) {v : Value} (hi : c[i]? = some v) : w.cell? ⟨p, i, none⟩ = some v := by simp [World.cell?, h, hi]
theorem open_at {w : World} {p : Nat} {c : Array Value} {t : TypeId} (h : w.heap[p]? = some (.cells c t (0, 0))) (i : Nat) : w.frozen? ⟨p, i, none⟩ = false := by simp [World.frozen?, h]
theorem heap_setCell {w : World} {p : Nat} {c : Array Value} {t : TypeId} {z : Nat × Nat} (h : w.heap[p]? = some (.cells c t z)) (i : Nat) (v : Value) : (w.setCell ⟨p, i, none⟩ v).heap[p]? = some (.cells (c.setIfInBounds i v) t z) := by
  have hl := heap_lt h
  unfold World.setCell
  simp only [Array.getElem?_modify, if_true, h, Option.map_some]
  simp

theorem relaid_size (cur : Array Value) (o : Nat) (cs : List Value) (h : o + cs.length ≤ cur.size) : (relaid cur o cs).size = cur.size := by
  simp only [relaid, List.size_toArray, List.length_append, List.length_take, List.length_drop, Array.length_toList]
  omega
theorem relaid_in (cur : Array Value) (o : Nat) (cs : List Value) (h : o + cs.length ≤ cur.size) (j : Nat) (hj : j < cs.length) : (relaid cur o cs)[o + j]? = cs[j]? := by
  simp only [relaid, List.getElem?_toArray, List.append_assoc]
  rw [List.getElem?_append_right (by simp; omega), List.getElem?_append_left (by simp; omega)]
  congr 1
  simp; omega
theorem relaid_out (cur : Array Value) (o : Nat) (cs : List Value) (h : o + cs.length ≤ cur.size) (k : Nat) (hk : k < o ∨ o + cs.length ≤ k) : (relaid cur o cs)[k]? = cur[k]? := by
  simp only [relaid, List.getElem?_toArray, List.append_assoc]
  rcases hk with hk | hk
  · rw [List.getElem?_append_left (by simp; omega), List.getElem?_take_of_lt hk, Array.getElem?_toList]
  · rw [List.getElem?_append_right (by simp; omega), List.getElem?_append_right (by simp; omega), List.getElem?_drop, Array.getElem?_toList]
    congr 1
    simp; omega

/-- A row of sectors, in block g. -/
def Row (w : World) (g cap : Nat) (ss : List (List UInt8)) : Prop :=
  ∃ cur, w.heap[g]? = some (.cells cur 120 (0, 0)) ∧ ss.length * 128 ≤ cur.size ∧ ss.length ≤ cap ∧ cap ≤ maxLen ∧ ∀ i s, ss[i]? = some s → s.length = 128 ∧ ∀ j v, (cells8 s)[j]? = some v → cur[i * 128 + j]? = some v
theorem Row.lt {w : World} {g cap : Nat} {ss : List (List UInt8)} (h : Row w g cap ss) : g < w.heap.size := by
  obtain ⟨cur, hg, _⟩ := h; exact heap_lt hg
theorem Row.fr {X : List Nat} {w a : World} {g cap : Nat} {ss : List (List UInt8)} (h : Row w g cap ss) (hF : Fr X w a) (hX : g ∉ X) : Row a g cap ss := by
  obtain ⟨cur, hg, r⟩ := h; exact ⟨cur, hF.at hg hX, r⟩
theorem Row.below {B : Nat} {w a : World} {g cap : Nat} {ss : List (List UInt8)} (h : Row w g cap ss) (hF : Below B w a) (hX : g < B) : Row a g cap ss := by
  obtain ⟨cur, hg, r⟩ := h; exact ⟨cur, below_at hF hg hX, r⟩
/-- A sector is laid. -/
theorem row_laid {w : World} {g cap : Nat} {ss : List (List UInt8)} {cur : Array Value} (hg : w.heap[g]? = some (.cells cur 120 (0, 0))) (hs : ss.length * 128 ≤ cur.size) (hc : ss.length ≤ cap) (hm : cap ≤ maxLen)
    (h : ∀ i s, ss[i]? = some s → s.length = 128 ∧ ∀ j v, (cells8 s)[j]? = some v → cur[i * 128 + j]? = some v) (i : Nat) (hi : i < ss.length) (s : List UInt8) (h128 : s.length = 128) :
    Row (w.setRow g (relaid cur (i * 128) (cells8 s))) g cap (ss.set i s) := by
  have hl : i * 128 + (cells8 s).length ≤ cur.size := by rw [cells8_len]; omega
  refine ⟨_, setRow_heap w g cur _ _ _ hg, by rw [relaid_size _ _ _ hl]; simpa using hs, by simpa using hc, hm, fun k t hk => ?_⟩
  by_cases e : i = k
  · subst e
    rw [List.getElem?_set_self hi] at hk
    cases hk
    refine ⟨h128, fun j v hj => ?_⟩
    rw [relaid_in _ _ _ hl j (by have := (List.getElem?_eq_some_iff.1 hj).1; exact this)]
    exact hj
  · rw [List.getElem?_set_ne e] at hk
    obtain ⟨h1, h2⟩ := h k t hk
    refine ⟨h1, fun j v hj => ?_⟩
    have hj' : j < 128 := by have := (List.getElem?_eq_some_iff.1 hj).1; rw [cells8_len] at this; omega
    rw [relaid_out _ _ _ hl _ (by rw [cells8_len]; omega)]
    exact h2 j v hj

/-- A loose write: where, and what. -/
def wv (x : Nat × List UInt8) : Value := .agg (.int .i64 x.1 :: cells8 x.2).toArray
def entL : Nat → List (Nat × List UInt8) → List MapEntry
  | _, [] => []
  | i, x :: r => ⟨.int .i64 i, wv x, i⟩ :: entL (i + 1) r
theorem entL_len : ∀ (i : Nat) (L : List (Nat × List UInt8)), (entL i L).length = L.length
  | _, [] => rfl
  | i, x :: r => by simp [entL, entL_len (i + 1) r]
theorem entL_append : ∀ (i : Nat) (L : List (Nat × List UInt8)) (x : Nat × List UInt8), entL i (L ++ [x]) = entL i L ++ [⟨.int .i64 ((i + L.length : Nat) : Int), wv x, i + L.length⟩]
  | i, [], x => by simp [entL]
  | i, y :: r, x => by simp [entL, entL_append (i + 1) r x]; omega
theorem find_in : ∀ (L : List (Nat × List UInt8)) (i j n : Nat) (x : Nat × List UInt8), L[n]? = some x → Instr.findNow (.int .i64) (.int .i64 ((i + n : Nat) : Int)) (entL i L) j = some (some (j + n, wv x))
  | [], _, _, _, _, h => by simp at h
  | y :: r, i, j, 0, x, h => by
    simp at h; subst h
    simp [entL, Instr.findNow, Instr.sameNow]
  | y :: r, i, j, n + 1, x, h => by
    simp only [List.getElem?_cons_succ] at h
    have ih := find_in r (i + 1) (j + 1) n x h
    have e : ((i + (n + 1) : Nat) : Int) = ((i + 1 + n : Nat) : Int) := by omega
    have hb : (((i + 1 + n : Nat) : Int) == (i : Int)) = false := by rw [beq_eq_false_iff_ne]; omega
    simp only [entL, Instr.findNow, Instr.sameNow, if_true, e, hb, ih]
    congr 3; omega
theorem find_out : ∀ (L : List (Nat × List UInt8)) (i j : Nat) (k : Int), (k < i ∨ ((i + L.length : Nat) : Int) ≤ k) → Instr.findNow (.int .i64) (.int .i64 k) (entL i L) j = some none
  | [], _, _, _, _ => rfl
  | y :: r, i, j, k, h => by
    have ih := find_out r (i + 1) (j + 1) k (by simp at h; omega)
    have hb : (k == (i : Int)) = false := by rw [beq_eq_false_iff_ne]; simp at h; omega
    simp only [entL, Instr.findNow, Instr.sameNow, if_true, hb, ih]

theorem check_int (w : World) (em : Bool) (k : Int) : (Instr.checkKey em 10000 3 (.int .i64 k)).run Tryz.prog w = .ok () w := by
  have h : ∀ n, (Instr.checkKey em (n + 1) 3 (.int .i64 k)).run Tryz.prog w = .ok () w := fun n => by
    simp only [Instr.checkKey, Sem.run_bind, run_underlying Tryz.underlying3, Result.andThen_ok]
    rfl
  exact h 9999

def zw : Value := .agg (.int .i64 0 :: List.replicate 128 (.int .u8 0)).toArray
theorem zero76 (w : World) : (zeroValue 126).run Tryz.prog w = .ok zw w := (zero_of_info (n := 129) (by kernel_rfl)).1 w

/-- The loose writes, in block m. -/
def Mp (w : World) (m : Nat) (L : List (Nat × List UInt8)) : Prop := w.heap[m]? = some (.map (entL 0 L).toArray L.length)

theorem look_in {w : World} {m : Nat} {L : List (Nat × List UInt8)} (h : Mp w m L) (n : Nat) (x : Nat × List UInt8) (hx : L[n]? = some x) (ok : Bool) :
    (Instr.lookup 100 (.map (some m)) (.int .i64 n) ok).run Tryz.prog w = .ok (if ok then .tuple #[wv x, .bool true] else wv x) w := by
  have hf := find_in L 0 0 n x hx
  rw [Nat.zero_add] at hf
  have hn : Instr.findKey 3 (.int .i64 (n : Int)) (entL 0 L) = (do
      match Instr.findNow (← underlying 3) (.int .i64 (n : Int)) (entL 0 L) 0 with
      | some r => pure r
      | none => Instr.findAsking 3 (.int .i64 (n : Int)) (entL 0 L)) := rfl
  simp only [Instr.lookup, Sem.run_bind, run_underlying Tryz.underlying100, Result.andThen_ok, MapKept.run_getObj_map h, Sem.run_pure, check_int, hn, run_underlying Tryz.underlying3, hf]
theorem look_out {w : World} {m : Nat} {L : List (Nat × List UInt8)} (h : Mp w m L) (k : Int) (hk : k < 0 ∨ (L.length : Int) ≤ k) :
    (Instr.lookup 100 (.map (some m)) (.int .i64 k) true).run Tryz.prog w = .ok (.tuple #[zw, .bool false]) w := by
  have hf := find_out L 0 0 k (by simpa using hk)
  have hn : Instr.findKey 3 (.int .i64 k) (entL 0 L) = (do
      match Instr.findNow (← underlying 3) (.int .i64 k) (entL 0 L) 0 with
      | some r => pure r
      | none => Instr.findAsking 3 (.int .i64 k) (entL 0 L)) := rfl
  simp only [Instr.lookup, Sem.run_bind, run_underlying Tryz.underlying100, Result.andThen_ok, MapKept.run_getObj_map h, Sem.run_pure, check_int, hn, run_underlying Tryz.underlying3, hf, zero76]
  try rfl

theorem len_map {w : World} {m : Nat} {L : List (Nat × List UInt8)} (h : Mp w m L) (ty : TypeId) : (Builtin.len_ #[100] ty #[.map (some m)]).run Tryz.prog w = .ok (.int .i64 L.length) w := by
  simp [Builtin.len_, run_underlying Tryz.underlying100, MapKept.run_getObj_map h, goInt, Result.andThen, entL_len]

def reMap (w : World) (m : Nat) (L : List (Nat × List UInt8)) : World := { w with heap := w.heap.setIfInBounds m (.map (entL 0 L).toArray L.length) }
theorem reMap_at {w : World} {m : Nat} {o : Obj} (h : w.heap[m]? = some o) (L : List (Nat × List UInt8)) : Mp (reMap w m L) m L := by
  have := heap_lt h
  simp [Mp, reMap, this]
theorem Fr.reMap (w : World) (m : Nat) (L : List (Nat × List UInt8)) : Fr [m] w (reMap w m L) :=
  ⟨rfl, rfl, rfl, by simp [Go.Proofs.YtcmgclkbhhdnaaaGreatDoor.reMap], fun k _ hk => by
    have : m ≠ k := fun e => hk (by simp [e])
    simp [Go.Proofs.YtcmgclkbhhdnaaaGreatDoor.reMap, this]⟩

theorem put_new {w : World} {m : Nat} {L : List (Nat × List UInt8)} (h : Mp w m L) (x : Nat × List UInt8) :
    (Instr.mapUpdate 100 (.map (some m)) (.int .i64 L.length) (wv x)).run Tryz.prog w = .ok () (reMap w m (L ++ [x])) := by
  have hf := find_out L 0 0 (L.length : Int) (by simp)
  have hn : Instr.findKey 3 (.int .i64 (L.length : Int)) (entL 0 L) = (do
      match Instr.findNow (← underlying 3) (.int .i64 (L.length : Int)) (entL 0 L) 0 with
      | some r => pure r
      | none => Instr.findAsking 3 (.int .i64 (L.length : Int)) (entL 0 L)) := rfl
  simp only [Instr.mapUpdate, Sem.run_bind, run_underlying Tryz.underlying100, Result.andThen_ok, MapKept.run_getObj_map h, Sem.run_pure, check_int, hn, run_underlying Tryz.underlying3, hf, MapKept.run_setObj_map _ h]
  simp [reMap, entL_append]

theorem stays_int (w : World) (k : Int) : (Instr.keyThatStays (.int .i64 k) (.int .i64 k)).run Tryz.prog w = .ok (.int .i64 k) w := by
  have h : ∀ n, Instr.sameBits n (.int .i64 k) (.int .i64 k) = true := fun n => by cases n <;> simp [Instr.sameBits]
  simp only [Instr.keyThatStays, h, if_true, Sem.run_pure]

theorem zv76 (w : World) : (zeroValue 126).run Tryz.prog w = .ok (.agg Tryz.zeroCells126) w := (zero_of_info (n := 129) (by kernel_rfl)).1 w
theorem alloc76 (w : World) : (Instr.alloc 126 true (.tuple #[])).run Tryz.prog w = .ok (.pointer (some ⟨w.heap.size, 0, none⟩)) (w.alloc (.cells Tryz.zeroCells126 126)) := by
  simp only [Instr.alloc, Sem.run_bind, zv76, Result.andThen_ok]
  rfl
theorem zc70 : Tryz.zeroCells120.size = 128 := by kernel_rfl
theorem zc76 : Tryz.zeroCells126.size = 129 := by kernel_rfl
/-- A sector's or a write's cells are stored over a new block. -/
theorem store_new (P : Program) (w : World) (t : TypeId) (k : Nat) (hz : (P.info? t).map (·.size) = some k) (c : Array Value) (cs : List Value) (hc : c.size = k) (hk : cs.length = k) (h1 : ∀ v ∈ cs, v.oneCell' = true) :
    (Instr.storeAt t (.pointer (some ⟨w.heap.size, 0, none⟩)) (.agg cs.toArray)).run P (w.alloc (.cells c t)) = .ok () (w.alloc (.cells cs.toArray t)) :=
  run_storeAt_new w t c cs.toArray (by rw [hz]; simp [hk]) (by simp [hc, hk]) (by simpa using h1)
end Go.Proofs.YtcmgclkbhhdnaaaGreatDoor
namespace Go.Proofs.YtcmgclkbhhdnaaaGreatDoor
open Go Go.RowKit

variable {ops : Array Oper} {S : World → Prop} {o : Oper} {a : Act}

theorem y_move {x : Operand} {v : Value} (hop : o.op = .move x) (hw : Region.wanted o (yielded ops a.tmps) = true := by kernel_rfl) (hv : a.eval x = v := by kernel_rfl) : YieldsIf Tryz.prog ops S o v a :=
  .inl ⟨hw, fun w _ => hv ▸ BigFrame.run_move x hop w⟩
theorem y_assign {x : Operand} {v : Value} (hop : o.op = .assign x) (hw : Region.wanted o (yielded ops a.tmps) = true := by kernel_rfl) (hv : a.eval x = v := by kernel_rfl) : YieldsIf Tryz.prog ops S o v a :=
  .inl ⟨hw, fun w _ => hv ▸ BigFrame.run_assign x hop w⟩
theorem y_pick {c x y : Operand} {b : Bool} {v : Value} (hop : o.op = .pick c x y) (hw : Region.wanted o (yielded ops a.tmps) = true := by kernel_rfl) (hc : a.eval c = .bool b := by kernel_rfl) (hv : (if b then a.eval x else a.eval y) = v := by kernel_rfl) :
    YieldsIf Tryz.prog ops S o v a :=
  .inl ⟨hw, fun w _ => by unfold execOp; rw [hop]; simp only [hc]; cases b <;> (simp at hv; simp [asBool, hv])⟩
theorem y_skip {v : Value} (hw : Region.wanted o (yielded ops a.tmps) = false) (hv : v = undef) : YieldsIf Tryz.prog ops S o v a := .inr ⟨hw, hv⟩

theorem y_nil {x : Operand} {p : Addr} (hop : o.op = .nilCheck x) (hw : Region.wanted o (yielded ops a.tmps) = true := by kernel_rfl) (hx : a.eval x = .pointer (some p) := by kernel_rfl) : YieldsIf Tryz.prog ops S o (.pointer (some p)) a :=
  .inl ⟨hw, fun w _ => by unfold execOp; rw [hop]; simp only [hx]; rfl⟩
theorem y_faddr {x : Operand} {t f : Nat} {b i j : Nat} (hop : o.op = .fieldAddr t x f) (hw : Region.wanted o (yielded ops a.tmps) = true := by kernel_rfl) (hx : a.eval x = .pointer (some ⟨b, i, none⟩) := by kernel_rfl)
    (hf : ∀ w, (Instr.fieldAt t (.pointer (some ⟨b, i, none⟩)) f).run Tryz.prog w = .ok (.pointer (some ⟨b, j, none⟩)) w) : YieldsIf Tryz.prog ops S o (.pointer (some ⟨b, j, none⟩)) a :=
  .inl ⟨hw, fun w _ => by unfold execOp; rw [hop]; simp only [hx, Sem.run_bind, hf w, Result.andThen_ok]; rfl⟩
theorem y_load {x : Operand} {t : TypeId} {p v : Value} (hop : o.op = .load t x) (hw : Region.wanted o (yielded ops a.tmps) = true := by kernel_rfl) (hx : a.eval x = p := by kernel_rfl)
    (hl : ∀ w, S w → (Instr.loadAt t p).run Tryz.prog w = .ok v w) : YieldsIf Tryz.prog ops S o v a :=
  .inl ⟨hw, fun w h => by unfold execOp; rw [hop]; simp only [hx, Sem.run_bind, hl w h, Result.andThen_ok]; rfl⟩
theorem y_look {x y : Operand} {t : TypeId} {ok : Bool} {p k v : Value} (hop : o.op = .lookup t x y ok) (hw : Region.wanted o (yielded ops a.tmps) = true) (hx : a.eval x = p) (hy : a.eval y = k)
    (hl : ∀ w, S w → (Instr.lookup t p k ok).run Tryz.prog w = .ok v w) : YieldsIf Tryz.prog ops S o v a :=
  .inl ⟨hw, fun w h => by unfold execOp; rw [hop]; simp only [hx, hy, Sem.run_bind, hl w h, Result.andThen_ok]; rfl⟩
theorem y_leq {x y : Operand} {m n : Int} {r : Bool} (hop : o.op = .binOp .leq 3 x y 3) (hw : Region.wanted o (yielded ops a.tmps) = true) (hx : a.eval x = .int .i64 m) (hy : a.eval y = .int .i64 n) (hr : decide (m ≤ n) = r) :
    YieldsIf Tryz.prog ops S o (.bool r) a :=
  .inl ⟨hw, fun w _ => by subst hr; unfold execOp; rw [hop]; simp only [hx, hy]; go_simp⟩

variable {Q : Exit → Act → World → Prop} {md : Region.Mode} {fuel : Nat} {listed : Array Bool} {w w1 : World} {i : Nat} {L L' : Array Bool}

/-- The one operation that may come up. -/
theorem h_one (hr : Region.ready md ops listed = [i]) (hi : ops[i]? = some o) (hw : Region.wanted o (yielded ops a.tmps) = true)
    (h : o.wp Tryz.prog a w (fun a' w' => S w' ∧ wpAnyH Tryz.prog md ops Q S fuel (listed.setIfInBounds i true) a' w') Q) : wpAnyH Tryz.prog md ops Q S (fuel + 1) listed a w := by
  refine wpAnyH_all hr (by simp) (fun j hj => ?_)
  obtain rfl : j = i := by simpa using hj
  unfold wpOp
  rw [hi]
  simp only [hw, if_true]
  exact .inl h
/-- .. a call of a Go function. -/
theorem h_call {f : FuncId} {args : Array Value} (hr : Region.ready md ops listed = [i]) (hi : ops[i]? = some o) (hw : Region.wanted o (yielded ops a.tmps) = true)
    (he : ∀ w, (execOp a.eval o).run Tryz.prog w = .ok (.enter f args) w)
    (h : Calls Tryz.prog f args w fun e w' => ∃ v, e = .returned v ∧ S w' ∧ wpAnyH Tryz.prog md ops Q S fuel (listed.setIfInBounds i true) (a.put o.dst v) w') : wpAnyH Tryz.prog md ops Q S (fuel + 1) listed a w := by
  refine h_one hr hi hw ?_
  unfold Oper.wp
  rw [he w, Oper.upon_enter]
  refine h.mono fun e w' ⟨v, he, h1, h2⟩ => ?_
  subst he
  exact ⟨h1, h2⟩
/-- .. one operation, its slot named, the frame behind it written out. -/
theorem h_take {d : Nat} {v : Value} {tmps T : Array Value} {ds : List Deferred} (hi : ops[i]? = some o) (hd : o.dst = some d)
    (hs : Region.noSelect ops = true) (hf : Region.free md ops listed i = true) (hr : (Region.ready md ops listed).contains i = true)
    (hP : ∀ c T T' ds w, Q (.panic c) ⟨T, ds⟩ w → Q (.panic c) ⟨T', ds⟩ w) (hy : YieldsIf Tryz.prog ops S o v ⟨tmps, ds⟩) (hS : S w) (hT : tmps.setIfInBounds d v = T)
    (h : wpAnyH Tryz.prog md ops Q S fuel (listed.setIfInBounds i true) ⟨T, ds⟩ w) : wpAnyH Tryz.prog md ops Q S (fuel + 1) listed ⟨tmps, ds⟩ w := by
  refine wpAnyH_take hi hs hf hr (fun c a w h => by rw [hd] at h; exact hP c (a.tmps.setIfInBounds d v) a.tmps a.defers w h) hy hS ?_
  rw [hd]
  subst hT
  exact h
theorem h_call2 {d : Nat} {f : FuncId} {args : Array Value} {tmps : Array Value} {ds : List Deferred} (hr : Region.ready md ops listed = [i]) (hi : ops[i]? = some o) (hd : o.dst = some d) (hw : Region.wanted o (yielded ops tmps) = true)
    (he : ∀ w, (execOp (Act.mk tmps ds).eval o).run Tryz.prog w = .ok (.enter f args) w)
    (h : Calls Tryz.prog f args w fun e w' => ∃ v, e = .returned v ∧ S w' ∧ wpAnyH Tryz.prog md ops Q S fuel (listed.setIfInBounds i true) ⟨tmps.setIfInBounds d v, ds⟩ w') : wpAnyH Tryz.prog md ops Q S (fuel + 1) listed ⟨tmps, ds⟩ w := by
  refine h_call hr hi hw he (h.mono fun e w' ⟨v, he, h1, h2⟩ => ⟨v, he, h1, ?_⟩)
  rw [hd]
  exact h2
/-- The beginning, what stands behind it under a name. -/
theorem h_open {id : Nat} {a : Act} (hm : Tryz.prog.follows .mixedOrders = true) (hP : ∀ c T T' ds w, Q (.panic c) ⟨T, ds⟩ w → Q (.panic c) ⟨T', ds⟩ w)
    (h : ∀ Q' : Exit → Act → World → Prop, (∀ c T T' ds w, Q' (.panic c) ⟨T, ds⟩ w → Q' (.panic c) ⟨T', ds⟩ w) → (∀ a w, Q .normal a w → Q' .normal a w) →
      wpAnyH Tryz.prog .any ops Q' S ops.size (Array.replicate ops.size false) a w.drew) : (Code.region id ops true).wp Tryz.prog Q a w :=
  wp_region_held hm (h Q hP fun _ _ h => h)
theorem enter_go {f : FuncId} {xs : Array Operand} {ats : Array TypeId} {args : Array Value} (hop : o.op = .call { callee := .value (.func f), args := xs, argTypes := ats }) (hxs : #[] ++ xs.map a.eval ++ #[] = args)
    (hf : ∀ w, (callFunc f args).run Tryz.prog w = .ok (.enter f args) w) : ∀ w, (execOp a.eval o).run Tryz.prog w = .ok (.enter f args) w := by
  intro w
  have e : execOp a.eval o = callFunc f (#[] ++ xs.map a.eval ++ #[]) := by unfold execOp; rw [hop]; rfl
  rw [e, hxs, hf w]
theorem h_openL {id : Nat} (hm : Tryz.prog.follows .mixedOrders = true) (hns : Region.noSelect ops = true) (hP : ∀ c T T' ds w, Q (.panic c) ⟨T, ds⟩ w → Q (.panic c) ⟨T', ds⟩ w) (hL : Array.replicate ops.size false = L)
    (h : ∀ Q' : Exit → Act → World → Prop, Region.noSelect ops = true → (∀ c T T' ds w, Q' (.panic c) ⟨T, ds⟩ w → Q' (.panic c) ⟨T', ds⟩ w) → (∀ a w, Q .normal a w → Q' .normal a w) →
      wpAnyH Tryz.prog .any ops Q' S ops.size L a w.drew) : (Code.region id ops true).wp Tryz.prog Q a w := by
  refine h_open (S := S) hm hP fun Q' hP' hN => ?_
  rw [hL]
  exact h Q' hns hP' hN
theorem h_takeL {d : Nat} {v : Value} {tmps T : Array Value} {ds : List Deferred} (hns : Region.noSelect ops = true) (hi : ops[i]? = some o) (hd : o.dst = some d)
    (hf : Region.free md ops L i = true) (hr : (Region.ready md ops L).contains i = true)
    (hP : ∀ c T T' ds w, Q (.panic c) ⟨T, ds⟩ w → Q (.panic c) ⟨T', ds⟩ w) (hy : YieldsIf Tryz.prog ops S o v ⟨tmps, ds⟩) (hS : S w) (hT : tmps.setIfInBounds d v = T) (hL : L.setIfInBounds i true = L')
    (h : wpAnyH Tryz.prog md ops Q S fuel L' ⟨T, ds⟩ w) : wpAnyH Tryz.prog md ops Q S (fuel + 1) L ⟨tmps, ds⟩ w := by
  subst hL
  exact h_take hi hd hns hf hr hP hy hS hT h
theorem h_callL {d : Nat} {f : FuncId} {args : Array Value} {tmps : Array Value} {ds : List Deferred} (hr : Region.ready md ops L = [i]) (hi : ops[i]? = some o) (hd : o.dst = some d) (hw : Region.wanted o (yielded ops tmps) = true)
    (he : ∀ w, (execOp (Act.mk tmps ds).eval o).run Tryz.prog w = .ok (.enter f args) w) (hL : L.setIfInBounds i true = L')
    (h : Calls Tryz.prog f args w fun e w' => ∃ v, e = .returned v ∧ S w' ∧ wpAnyH Tryz.prog md ops Q S fuel L' ⟨tmps.setIfInBounds d v, ds⟩ w') : wpAnyH Tryz.prog md ops Q S (fuel + 1) L ⟨tmps, ds⟩ w := by
  subst hL
  exact h_call2 hr hi hd hw he h
/-- The one operation that may come up, by its run. -/
theorem h_valL {d : Nat} {v : Value} {tmps T : Array Value} {ds : List Deferred} (hr : Region.ready md ops L = [i]) (hi : ops[i]? = some o) (hd : o.dst = some d) (hw : Region.wanted o (yielded ops tmps) = true)
    (he : (execOp (Act.mk tmps ds).eval o).run Tryz.prog w = .ok (.value v) w1) (hS : S w1) (hT : tmps.setIfInBounds d v = T) (hL : L.setIfInBounds i true = L')
    (h : wpAnyH Tryz.prog md ops Q S fuel L' ⟨T, ds⟩ w1) : wpAnyH Tryz.prog md ops Q S (fuel + 1) L ⟨tmps, ds⟩ w := by
  subst hL
  subst hT
  refine h_one hr hi hw ?_
  unfold Oper.wp
  rw [he, Oper.upon_value, hd]
  exact ⟨hS, h⟩
theorem h_skipL {tmps : Array Value} {ds : List Deferred} (hr : Region.ready md ops L = [i]) (hi : ops[i]? = some o) (hd : o.dst = none) (hw : Region.wanted o (yielded ops tmps) = true)
    (he : (execOp (Act.mk tmps ds).eval o).run Tryz.prog w = .ok .skip w1) (hS : S w1) (hL : L.setIfInBounds i true = L')
    (h : wpAnyH Tryz.prog md ops Q S fuel L' ⟨tmps, ds⟩ w1) : wpAnyH Tryz.prog md ops Q S (fuel + 1) L ⟨tmps, ds⟩ w := by
  subst hL
  refine h_one hr hi hw ?_
  unfold Oper.wp
  rw [he]
  simp only [Oper.upon, hd]
  exact ⟨hS, h⟩
theorem run_mapUpdate {t : TypeId} {p q r : Operand} {x y z : Value} (hop : o.op = .mapUpdate t p q r) (hp : a.eval p = x) (hq : a.eval q = y) (hz : a.eval r = z) (hr : (Instr.mapUpdate t x y z).run Tryz.prog w = .ok () w1) :
    (execOp a.eval o).run Tryz.prog w = .ok .skip w1 := by
  unfold execOp; rw [hop]; simp only [hp, hq, hz, Sem.run_bind, hr, Result.andThen_ok]; rfl
theorem run_storeOp {t : TypeId} {p q : Operand} {x y : Value} (hop : o.op = .store t p q) (hp : a.eval p = x) (hq : a.eval q = y) (hr : (Instr.storeAt t x y).run Tryz.prog w = .ok () w1) :
    (execOp a.eval o).run Tryz.prog w = .ok .skip w1 := by
  unfold execOp; rw [hop]; simp only [hp, hq, Sem.run_bind, hr, Result.andThen_ok]; rfl
theorem run_lenOp {x : Operand} {v p : Value} (hop : o.op = .call { callee := .builtin .len, args := #[x], argTypes := #[100] }) (hx : a.eval x = p) (hr : ∀ ty, (Builtin.len_ #[100] ty #[p]).run Tryz.prog w = .ok v w) :
    (execOp a.eval o).run Tryz.prog w = .ok (.value v) w := by
  unfold execOp; rw [hop]
  have h1 : (Builtin.len_ #[100] o.type #[a.eval x]).run Tryz.prog w = .ok v w := by rw [hx]; exact hr _
  simp [resolve, invoke, go_sem, -Array.getD_eq_getD_getElem?] at h1 ⊢
  rw [h1]; rfl
end Go.Proofs.YtcmgclkbhhdnaaaGreatDoor
namespace Go.Proofs.YtcmgclkbhhdnaaaGreatDoor
open Go Go.RowKit

def dcells (vn vk : Value) (m : Nat) (ops : Int) (cut : Int) (gone : Bool) : Array Value := #[vn, vk, .map (some m), .int .i64 ops, .int .i64 cut, .bool gone]
/-- A disk's own block. -/
def Dc (w : World) (p : Nat) (vn vk : Value) (m : Nat) (ops : Int) (cut : Int) (gone : Bool) : Prop := w.heap[p]? = some (.cells (dcells vn vk m ops cut gone) 102 (0, 0))
section
variable {w : World} {p : Nat} {vn vk : Value} {m : Nat} {ops : Int} {cut : Int} {gone : Bool} (h : Dc w p vn vk m ops cut gone)
include h
theorem Dc.c0 : w.cell? ⟨p, 0, none⟩ = some vn := cell_at h 0 rfl
theorem Dc.c1 : w.cell? ⟨p, 1, none⟩ = some vk := cell_at h 1 rfl
theorem Dc.c2 : w.cell? ⟨p, 2, none⟩ = some (.map (some m)) := cell_at h 2 rfl
theorem Dc.c3 : w.cell? ⟨p, 3, none⟩ = some (.int .i64 ops) := cell_at h 3 rfl
theorem Dc.c4 : w.cell? ⟨p, 4, none⟩ = some (.int .i64 cut) := cell_at h 4 rfl
theorem Dc.c5 : w.cell? ⟨p, 5, none⟩ = some (.bool gone) := cell_at h 5 rfl
theorem Dc.f (i : Nat) : w.frozen? ⟨p, i, none⟩ = false := open_at h i
end
theorem Dc.fr {X : List Nat} {w w' : World} {p : Nat} {vn vk : Value} {m : Nat} {ops : Int} {cut : Int} {gone : Bool} (h : Dc w p vn vk m ops cut gone) (hF : Fr X w w') (hX : p ∉ X) : Dc w' p vn vk m ops cut gone := hF.at h hX

theorem fa67_0 (b : Nat) (w : World) : (Instr.fieldAt 102 (.pointer (some ⟨b, 0, none⟩)) 0).run Tryz.prog w = .ok (.pointer (some ⟨b, 0, none⟩)) w := by go_simp
theorem fa67_1 (b : Nat) (w : World) : (Instr.fieldAt 102 (.pointer (some ⟨b, 0, none⟩)) 1).run Tryz.prog w = .ok (.pointer (some ⟨b, 1, none⟩)) w := by go_simp
theorem fa67_2 (b : Nat) (w : World) : (Instr.fieldAt 102 (.pointer (some ⟨b, 0, none⟩)) 2).run Tryz.prog w = .ok (.pointer (some ⟨b, 2, none⟩)) w := by go_simp
theorem fa67_3 (b : Nat) (w : World) : (Instr.fieldAt 102 (.pointer (some ⟨b, 0, none⟩)) 3).run Tryz.prog w = .ok (.pointer (some ⟨b, 3, none⟩)) w := by go_simp
theorem fa67_4 (b : Nat) (w : World) : (Instr.fieldAt 102 (.pointer (some ⟨b, 0, none⟩)) 4).run Tryz.prog w = .ok (.pointer (some ⟨b, 4, none⟩)) w := by go_simp
theorem fa67_5 (b : Nat) (w : World) : (Instr.fieldAt 102 (.pointer (some ⟨b, 0, none⟩)) 5).run Tryz.prog w = .ok (.pointer (some ⟨b, 5, none⟩)) w := by go_simp

theorem load1 {t : TypeId} (ha : ∀ w, (isAgg t).run Tryz.prog w = .ok false w) {w : World} {p i : Nat} {v : Value} (hc : w.cell? ⟨p, i, none⟩ = some v) : (Instr.loadAt t (.pointer (some ⟨p, i, none⟩))).run Tryz.prog w = .ok v w := by
  simp only [Instr.loadAt, Instr.sureAddr, Sem.run_bind, Sem.run_pure, Result.andThen, loadVar, ha]
  go_simp
theorem store1 {t : TypeId} (hz : ∀ w, (Go.sizeOf t).run Tryz.prog w = .ok 1 w) {w : World} {p i : Nat} {old : Value} (v : Value) (h1 : v.oneCell' = true) (hv : v.cells = #[v]) (hc : w.cell? ⟨p, i, none⟩ = some old) (hf : w.frozen? ⟨p, i, none⟩ = false) :
    (Instr.storeAt t (.pointer (some ⟨p, i, none⟩)) v).run Tryz.prog w = .ok () (w.setCell ⟨p, i, none⟩ v) := by
  simp only [Instr.storeAt, Instr.sureAddr, Sem.run_bind, Sem.run_pure, Result.andThen, storeVar, hz, hv]
  simp [storeCells, add_lit, run_store _ w _ v _ h1, hc, hf]

def lost (cut ops : Int) : Bool := decide (0 ≤ cut) && decide (cut ≤ ops)
theorem SL (w : World) (p : Nat) (cut ops : Int) (r : Bool) (h : w.cell? ⟨p, 4, none⟩ = some (.int .i64 cut) ∧ w.cell? ⟨p, 3, none⟩ = some (.int .i64 ops)) :
    (w.drew.setCell ⟨p, 5, none⟩ (.bool r)).cell? ⟨p, 4, none⟩ = some (.int .i64 cut) ∧ (w.drew.setCell ⟨p, 5, none⟩ (.bool r)).cell? ⟨p, 3, none⟩ = some (.int .i64 ops) := by
  rw [World.cell?_setCell_other _ _ _ _ (by simp), World.cell?_setCell_other _ _ _ _ (by simp)]
  exact h

set_option maxRecDepth 100000 in
set_option maxHeartbeats 800000 in
theorem loses_any (w : World) (p : Nat) (vn vk : Value) (m : Nat) (ops : Int) (cut : Int) (gone : Bool) (h : Dc w p vn vk m ops cut gone) :
    Calls Tryz.prog 126 #[.pointer (some ⟨p, 0, none⟩)] w fun e w' => e = .returned (.bool (lost cut ops)) ∧ Dc w' p vn vk m ops cut (lost cut ops) ∧ Fr [p] w w' := by
  have h3 := h.c3
  have h4 := h.c4
  have h5 := h.c5
  have f5 := h.f 5
  have H := hid h
  clear h
  by_cases h0 : 0 ≤ cut
  · by_cases h1 : cut ≤ ops
    · skip
      go_enter Tryz.func126, Tryz.ntmps126
      go_wp2_with fail
      refine h_openL (S := fun w => w.cell? ⟨p, 4, none⟩ = some (.int .i64 cut) ∧ w.cell? ⟨p, 3, none⟩ = some (.int .i64 ops)) (by kernel_rfl) (by kernel_rfl) (fun _ _ _ _ _ h => h) (L := #[false, false, false, false, false, false, false, false, false, false, false, false, false, false, false, false, false, false, false, false]) (by kernel_rfl) ?_
      intro Q' hns hP hN
      have hS := (show w.drew.cell? ⟨p, 4, none⟩ = some (.int .i64 cut) ∧ w.drew.cell? ⟨p, 3, none⟩ = some (.int .i64 ops) from ⟨h4, h3⟩)
      refine h_takeL (i := 0) (v := .pointer (some ⟨p, 0, none⟩)) hns rfl rfl (by kernel_rfl) (by kernel_rfl) hP (y_move rfl) hS rfl (L' := #[true, false, false, false, false, false, false, false, false, false, false, false, false, false, false, false, false, false, false, false]) (by kernel_rfl) ?_
      refine h_takeL (i := 1) (v := .pointer (some ⟨p, 0, none⟩)) hns rfl rfl (by kernel_rfl) (by kernel_rfl) hP (y_move rfl) hS rfl (L' := #[true, true, false, false, false, false, false, false, false, false, false, false, false, false, false, false, false, false, false, false]) (by kernel_rfl) ?_
      refine h_takeL (i := 2) (v := .pointer (some ⟨p, 0, none⟩)) hns rfl rfl (by kernel_rfl) (by kernel_rfl) hP (y_nil rfl) hS rfl (L' := #[true, true, true, false, false, false, false, false, false, false, false, false, false, false, false, false, false, false, false, false]) (by kernel_rfl) ?_
      refine h_takeL (i := 3) (v := .pointer (some ⟨p, 4, none⟩)) hns rfl rfl (by kernel_rfl) (by kernel_rfl) hP (y_faddr rfl (hf := fa67_4 (p))) hS rfl (L' := #[true, true, true, true, false, false, false, false, false, false, false, false, false, false, false, false, false, false, false, false]) (by kernel_rfl) ?_
      refine h_takeL (i := 4) (v := .int .i64 cut) hns rfl rfl (by kernel_rfl) (by kernel_rfl) hP (y_load rfl (hl := fun w h => load1 Tryz.isAgg3 h.1)) hS rfl (L' := #[true, true, true, true, true, false, false, false, false, false, false, false, false, false, false, false, false, false, false, false]) (by kernel_rfl) ?_
      refine h_takeL (i := 5) (v := (.bool true)) hns rfl rfl (by kernel_rfl) (by kernel_rfl) hP (y_leq rfl (by kernel_rfl) (by kernel_rfl) (by kernel_rfl) (decide_eq_true h0)) hS rfl (L' := #[true, true, true, true, true, true, false, false, false, false, false, false, false, false, false, false, false, false, false, false]) (by kernel_rfl) ?_
      refine h_takeL (i := 6) (v := (.bool true)) hns rfl rfl (by kernel_rfl) (by kernel_rfl) hP (y_move rfl) hS rfl (L' := #[true, true, true, true, true, true, true, false, false, false, false, false, false, false, false, false, false, false, false, false]) (by kernel_rfl) ?_
      simp only [List.setIfInBounds_toArray, List.set_cons_zero, List.set_cons_succ]
      refine h_takeL (i := 7) (v := .pointer (some ⟨p, 0, none⟩)) hns rfl rfl (by kernel_rfl) (by kernel_rfl) hP (y_move rfl) hS rfl (L' := #[true, true, true, true, true, true, true, true, false, false, false, false, false, false, false, false, false, false, false, false]) (by kernel_rfl) ?_
      refine h_takeL (i := 8) (v := .pointer (some ⟨p, 0, none⟩)) hns rfl rfl (by kernel_rfl) (by kernel_rfl) hP (y_nil rfl) hS rfl (L' := #[true, true, true, true, true, true, true, true, true, false, false, false, false, false, false, false, false, false, false, false]) (by kernel_rfl) ?_
      refine h_takeL (i := 9) (v := .pointer (some ⟨p, 4, none⟩)) hns rfl rfl (by kernel_rfl) (by kernel_rfl) hP (y_faddr rfl (hf := fa67_4 (p))) hS rfl (L' := #[true, true, true, true, true, true, true, true, true, true, false, false, false, false, false, false, false, false, false, false]) (by kernel_rfl) ?_
      refine h_takeL (i := 10) (v := .int .i64 cut) hns rfl rfl (by kernel_rfl) (by kernel_rfl) hP (y_load rfl (hl := fun w h => load1 Tryz.isAgg3 h.1)) hS rfl (L' := #[true, true, true, true, true, true, true, true, true, true, true, false, false, false, false, false, false, false, false, false]) (by kernel_rfl) ?_
      refine h_takeL (i := 11) (v := .pointer (some ⟨p, 0, none⟩)) hns rfl rfl (by kernel_rfl) (by kernel_rfl) hP (y_move rfl) hS rfl (L' := #[true, true, true, true, true, true, true, true, true, true, true, true, false, false, false, false, false, false, false, false]) (by kernel_rfl) ?_
      refine h_takeL (i := 12) (v := .pointer (some ⟨p, 0, none⟩)) hns rfl rfl (by kernel_rfl) (by kernel_rfl) hP (y_nil rfl) hS rfl (L' := #[true, true, true, true, true, true, true, true, true, true, true, true, true, false, false, false, false, false, false, false]) (by kernel_rfl) ?_
      refine h_takeL (i := 13) (v := .pointer (some ⟨p, 3, none⟩)) hns rfl rfl (by kernel_rfl) (by kernel_rfl) hP (y_faddr rfl (hf := fa67_3 (p))) hS rfl (L' := #[true, true, true, true, true, true, true, true, true, true, true, true, true, true, false, false, false, false, false, false]) (by kernel_rfl) ?_
      refine h_takeL (i := 14) (v := .int .i64 ops) hns rfl rfl (by kernel_rfl) (by kernel_rfl) hP (y_load rfl (hl := fun w h => load1 Tryz.isAgg3 h.2)) hS rfl (L' := #[true, true, true, true, true, true, true, true, true, true, true, true, true, true, true, false, false, false, false, false]) (by kernel_rfl) ?_
      simp only [List.setIfInBounds_toArray, List.set_cons_zero, List.set_cons_succ]
      refine h_takeL (i := 15) (v := (.bool true)) hns rfl rfl (by kernel_rfl) (by kernel_rfl) hP (y_leq rfl (by kernel_rfl) (by kernel_rfl) (by kernel_rfl) (decide_eq_true h1)) hS rfl (L' := #[true, true, true, true, true, true, true, true, true, true, true, true, true, true, true, true, false, false, false, false]) (by kernel_rfl) ?_
      refine h_takeL (i := 16) (v := (.bool true)) hns rfl rfl (by kernel_rfl) (by kernel_rfl) hP (y_pick (b := true) rfl) hS rfl (L' := #[true, true, true, true, true, true, true, true, true, true, true, true, true, true, true, true, true, false, false, false]) (by kernel_rfl) ?_
      refine h_takeL (i := 17) (v := .pointer (some ⟨p, 0, none⟩)) hns rfl rfl (by kernel_rfl) (by kernel_rfl) hP (y_nil rfl) hS rfl (L' := #[true, true, true, true, true, true, true, true, true, true, true, true, true, true, true, true, true, true, false, false]) (by kernel_rfl) ?_
      refine h_takeL (i := 18) (v := .pointer (some ⟨p, 5, none⟩)) hns rfl rfl (by kernel_rfl) (by kernel_rfl) hP (y_faddr rfl (hf := fa67_5 (p))) hS rfl (L' := #[true, true, true, true, true, true, true, true, true, true, true, true, true, true, true, true, true, true, true, false]) (by kernel_rfl) ?_
      refine h_skipL (i := 19) (by kernel_rfl) rfl rfl (by kernel_rfl) (run_storeOp rfl (by kernel_rfl) (by kernel_rfl) (store1 (t := 4) Tryz.sizeOf4 (.bool true) rfl rfl h5 f5)) (SL w p cut ops true ⟨h4, h3⟩) (L' := #[true, true, true, true, true, true, true, true, true, true, true, true, true, true, true, true, true, true, true, true]) (by kernel_rfl) ?_
      simp only [List.setIfInBounds_toArray, List.set_cons_zero, List.set_cons_succ]
      refine wpAnyH_done (by kernel_rfl) ?_ _
      refine hN _ _ ?_
      clear hP hN hns
      have hl : lost cut ops = true := by unfold lost; simp; omega
      have hD : Dc (w.drew.setCell ⟨p, 5, none⟩ (.bool true)) p vn vk m ops cut true := heap_setCell (w := w.drew) H.out 5 (.bool true)
      have hF : Fr [p] w (w.drew.setCell ⟨p, 5, none⟩ (.bool true)) := (Fr.setCell w.drew p 5 _).undrew
      generalize w.drew.setCell ⟨p, 5, none⟩ (.bool true) = w1 at hD hF ⊢
      have c5 := hD.c5
      clear hS h3 h4 h5 f5
      go_wp2
      go_ret
      rw [hl]
      exact ⟨rfl, hD, hF⟩
    · skip
      go_enter Tryz.func126, Tryz.ntmps126
      go_wp2_with fail
      refine h_openL (S := fun w => w.cell? ⟨p, 4, none⟩ = some (.int .i64 cut) ∧ w.cell? ⟨p, 3, none⟩ = some (.int .i64 ops)) (by kernel_rfl) (by kernel_rfl) (fun _ _ _ _ _ h => h) (L := #[false, false, false, false, false, false, false, false, false, false, false, false, false, false, false, false, false, false, false, false]) (by kernel_rfl) ?_
      intro Q' hns hP hN
      have hS := (show w.drew.cell? ⟨p, 4, none⟩ = some (.int .i64 cut) ∧ w.drew.cell? ⟨p, 3, none⟩ = some (.int .i64 ops) from ⟨h4, h3⟩)
      refine h_takeL (i := 0) (v := .pointer (some ⟨p, 0, none⟩)) hns rfl rfl (by kernel_rfl) (by kernel_rfl) hP (y_move rfl) hS rfl (L' := #[true, false, false, false, false, false, false, false, false, false, false, false, false, false, false, false, false, false, false, false]) (by kernel_rfl) ?_
      refine h_takeL (i := 1) (v := .pointer (some ⟨p, 0, none⟩)) hns rfl rfl (by kernel_rfl) (by kernel_rfl) hP (y_move rfl) hS rfl (L' := #[true, true, false, false, false, false, false, false, false, false, false, false, false, false, false, false, false, false, false, false]) (by kernel_rfl) ?_
      refine h_takeL (i := 2) (v := .pointer (some ⟨p, 0, none⟩)) hns rfl rfl (by kernel_rfl) (by kernel_rfl) hP (y_nil rfl) hS rfl (L' := #[true, true, true, false, false, false, false, false, false, false, false, false, false, false, false, false, false, false, false, false]) (by kernel_rfl) ?_
      refine h_takeL (i := 3) (v := .pointer (some ⟨p, 4, none⟩)) hns rfl rfl (by kernel_rfl) (by kernel_rfl) hP (y_faddr rfl (hf := fa67_4 (p))) hS rfl (L' := #[true, true, true, true, false, false, false, false, false, false, false, false, false, false, false, false, false, false, false, false]) (by kernel_rfl) ?_
      refine h_takeL (i := 4) (v := .int .i64 cut) hns rfl rfl (by kernel_rfl) (by kernel_rfl) hP (y_load rfl (hl := fun w h => load1 Tryz.isAgg3 h.1)) hS rfl (L' := #[true, true, true, true, true, false, false, false, false, false, false, false, false, false, false, false, false, false, false, false]) (by kernel_rfl) ?_
      refine h_takeL (i := 5) (v := (.bool true)) hns rfl rfl (by kernel_rfl) (by kernel_rfl) hP (y_leq rfl (by kernel_rfl) (by kernel_rfl) (by kernel_rfl) (decide_eq_true h0)) hS rfl (L' := #[true, true, true, true, true, true, false, false, false, false, false, false, false, false, false, false, false, false, false, false]) (by kernel_rfl) ?_
      refine h_takeL (i := 6) (v := (.bool true)) hns rfl rfl (by kernel_rfl) (by kernel_rfl) hP (y_move rfl) hS rfl (L' := #[true, true, true, true, true, true, true, false, false, false, false, false, false, false, false, false, false, false, false, false]) (by kernel_rfl) ?_
      simp only [List.setIfInBounds_toArray, List.set_cons_zero, List.set_cons_succ]
      refine h_takeL (i := 7) (v := .pointer (some ⟨p, 0, none⟩)) hns rfl rfl (by kernel_rfl) (by kernel_rfl) hP (y_move rfl) hS rfl (L' := #[true, true, true, true, true, true, true, true, false, false, false, false, false, false, false, false, false, false, false, false]) (by kernel_rfl) ?_
      refine h_takeL (i := 8) (v := .pointer (some ⟨p, 0, none⟩)) hns rfl rfl (by kernel_rfl) (by kernel_rfl) hP (y_nil rfl) hS rfl (L' := #[true, true, true, true, true, true, true, true, true, false, false, false, false, false, false, false, false, false, false, false]) (by kernel_rfl) ?_
      refine h_takeL (i := 9) (v := .pointer (some ⟨p, 4, none⟩)) hns rfl rfl (by kernel_rfl) (by kernel_rfl) hP (y_faddr rfl (hf := fa67_4 (p))) hS rfl (L' := #[true, true, true, true, true, true, true, true, true, true, false, false, false, false, false, false, false, false, false, false]) (by kernel_rfl) ?_
      refine h_takeL (i := 10) (v := .int .i64 cut) hns rfl rfl (by kernel_rfl) (by kernel_rfl) hP (y_load rfl (hl := fun w h => load1 Tryz.isAgg3 h.1)) hS rfl (L' := #[true, true, true, true, true, true, true, true, true, true, true, false, false, false, false, false, false, false, false, false]) (by kernel_rfl) ?_
      refine h_takeL (i := 11) (v := .pointer (some ⟨p, 0, none⟩)) hns rfl rfl (by kernel_rfl) (by kernel_rfl) hP (y_move rfl) hS rfl (L' := #[true, true, true, true, true, true, true, true, true, true, true, true, false, false, false, false, false, false, false, false]) (by kernel_rfl) ?_
      refine h_takeL (i := 12) (v := .pointer (some ⟨p, 0, none⟩)) hns rfl rfl (by kernel_rfl) (by kernel_rfl) hP (y_nil rfl) hS rfl (L' := #[true, true, true, true, true, true, true, true, true, true, true, true, true, false, false, false, false, false, false, false]) (by kernel_rfl) ?_
      refine h_takeL (i := 13) (v := .pointer (some ⟨p, 3, none⟩)) hns rfl rfl (by kernel_rfl) (by kernel_rfl) hP (y_faddr rfl (hf := fa67_3 (p))) hS rfl (L' := #[true, true, true, true, true, true, true, true, true, true, true, true, true, true, false, false, false, false, false, false]) (by kernel_rfl) ?_
      refine h_takeL (i := 14) (v := .int .i64 ops) hns rfl rfl (by kernel_rfl) (by kernel_rfl) hP (y_load rfl (hl := fun w h => load1 Tryz.isAgg3 h.2)) hS rfl (L' := #[true, true, true, true, true, true, true, true, true, true, true, true, true, true, true, false, false, false, false, false]) (by kernel_rfl) ?_
      simp only [List.setIfInBounds_toArray, List.set_cons_zero, List.set_cons_succ]
      refine h_takeL (i := 15) (v := (.bool false)) hns rfl rfl (by kernel_rfl) (by kernel_rfl) hP (y_leq rfl (by kernel_rfl) (by kernel_rfl) (by kernel_rfl) (decide_eq_false (show ¬ cut ≤ ops by omega))) hS rfl (L' := #[true, true, true, true, true, true, true, true, true, true, true, true, true, true, true, true, false, false, false, false]) (by kernel_rfl) ?_
      refine h_takeL (i := 16) (v := (.bool false)) hns rfl rfl (by kernel_rfl) (by kernel_rfl) hP (y_pick (b := true) rfl) hS rfl (L' := #[true, true, true, true, true, true, true, true, true, true, true, true, true, true, true, true, true, false, false, false]) (by kernel_rfl) ?_
      refine h_takeL (i := 17) (v := .pointer (some ⟨p, 0, none⟩)) hns rfl rfl (by kernel_rfl) (by kernel_rfl) hP (y_nil rfl) hS rfl (L' := #[true, true, true, true, true, true, true, true, true, true, true, true, true, true, true, true, true, true, false, false]) (by kernel_rfl) ?_
      refine h_takeL (i := 18) (v := .pointer (some ⟨p, 5, none⟩)) hns rfl rfl (by kernel_rfl) (by kernel_rfl) hP (y_faddr rfl (hf := fa67_5 (p))) hS rfl (L' := #[true, true, true, true, true, true, true, true, true, true, true, true, true, true, true, true, true, true, true, false]) (by kernel_rfl) ?_
      refine h_skipL (i := 19) (by kernel_rfl) rfl rfl (by kernel_rfl) (run_storeOp rfl (by kernel_rfl) (by kernel_rfl) (store1 (t := 4) Tryz.sizeOf4 (.bool false) rfl rfl h5 f5)) (SL w p cut ops false ⟨h4, h3⟩) (L' := #[true, true, true, true, true, true, true, true, true, true, true, true, true, true, true, true, true, true, true, true]) (by kernel_rfl) ?_
      simp only [List.setIfInBounds_toArray, List.set_cons_zero, List.set_cons_succ]
      refine wpAnyH_done (by kernel_rfl) ?_ _
      refine hN _ _ ?_
      clear hP hN hns
      have hl : lost cut ops = false := by unfold lost; simp; omega
      have hD : Dc (w.drew.setCell ⟨p, 5, none⟩ (.bool false)) p vn vk m ops cut false := heap_setCell (w := w.drew) H.out 5 (.bool false)
      have hF : Fr [p] w (w.drew.setCell ⟨p, 5, none⟩ (.bool false)) := (Fr.setCell w.drew p 5 _).undrew
      generalize w.drew.setCell ⟨p, 5, none⟩ (.bool false) = w1 at hD hF ⊢
      have c5 := hD.c5
      clear hS h3 h4 h5 f5
      go_wp2
      go_ret
      rw [hl]
      exact ⟨rfl, hD, hF⟩
  · skip
    go_enter Tryz.func126, Tryz.ntmps126
    go_wp2_with fail
    refine h_openL (S := fun w => w.cell? ⟨p, 4, none⟩ = some (.int .i64 cut) ∧ w.cell? ⟨p, 3, none⟩ = some (.int .i64 ops)) (by kernel_rfl) (by kernel_rfl) (fun _ _ _ _ _ h => h) (L := #[false, false, false, false, false, false, false, false, false, false, false, false, false, false, false, false, false, false, false, false]) (by kernel_rfl) ?_
    intro Q' hns hP hN
    have hS := (show w.drew.cell? ⟨p, 4, none⟩ = some (.int .i64 cut) ∧ w.drew.cell? ⟨p, 3, none⟩ = some (.int .i64 ops) from ⟨h4, h3⟩)
    refine h_takeL (i := 0) (v := .pointer (some ⟨p, 0, none⟩)) hns rfl rfl (by kernel_rfl) (by kernel_rfl) hP (y_move rfl) hS rfl (L' := #[true, false, false, false, false, false, false, false, false, false, false, false, false, false, false, false, false, false, false, false]) (by kernel_rfl) ?_
    refine h_takeL (i := 1) (v := .pointer (some ⟨p, 0, none⟩)) hns rfl rfl (by kernel_rfl) (by kernel_rfl) hP (y_move rfl) hS rfl (L' := #[true, true, false, false, false, false, false, false, false, false, false, false, false, false, false, false, false, false, false, false]) (by kernel_rfl) ?_
    refine h_takeL (i := 2) (v := .pointer (some ⟨p, 0, none⟩)) hns rfl rfl (by kernel_rfl) (by kernel_rfl) hP (y_nil rfl) hS rfl (L' := #[true, true, true, false, false, false, false, false, false, false, false, false, false, false, false, false, false, false, false, false]) (by kernel_rfl) ?_
    refine h_takeL (i := 3) (v := .pointer (some ⟨p, 4, none⟩)) hns rfl rfl (by kernel_rfl) (by kernel_rfl) hP (y_faddr rfl (hf := fa67_4 (p))) hS rfl (L' := #[true, true, true, true, false, false, false, false, false, false, false, false, false, false, false, false, false, false, false, false]) (by kernel_rfl) ?_
    refine h_takeL (i := 4) (v := .int .i64 cut) hns rfl rfl (by kernel_rfl) (by kernel_rfl) hP (y_load rfl (hl := fun w h => load1 Tryz.isAgg3 h.1)) hS rfl (L' := #[true, true, true, true, true, false, false, false, false, false, false, false, false, false, false, false, false, false, false, false]) (by kernel_rfl) ?_
    refine h_takeL (i := 5) (v := (.bool false)) hns rfl rfl (by kernel_rfl) (by kernel_rfl) hP (y_leq rfl (by kernel_rfl) (by kernel_rfl) (by kernel_rfl) (decide_eq_false (show ¬ (0 : Int) ≤ cut by omega))) hS rfl (L' := #[true, true, true, true, true, true, false, false, false, false, false, false, false, false, false, false, false, false, false, false]) (by kernel_rfl) ?_
    refine h_takeL (i := 6) (v := (.bool false)) hns rfl rfl (by kernel_rfl) (by kernel_rfl) hP (y_move rfl) hS rfl (L' := #[true, true, true, true, true, true, true, false, false, false, false, false, false, false, false, false, false, false, false, false]) (by kernel_rfl) ?_
    simp only [List.setIfInBounds_toArray, List.set_cons_zero, List.set_cons_succ]
    refine h_takeL (i := 7) (v := undef) hns rfl rfl (by kernel_rfl) (by kernel_rfl) hP (y_skip (by kernel_rfl) rfl) hS rfl (L' := #[true, true, true, true, true, true, true, true, false, false, false, false, false, false, false, false, false, false, false, false]) (by kernel_rfl) ?_
    refine h_takeL (i := 8) (v := undef) hns rfl rfl (by kernel_rfl) (by kernel_rfl) hP (y_skip (by kernel_rfl) rfl) hS rfl (L' := #[true, true, true, true, true, true, true, true, true, false, false, false, false, false, false, false, false, false, false, false]) (by kernel_rfl) ?_
    refine h_takeL (i := 9) (v := undef) hns rfl rfl (by kernel_rfl) (by kernel_rfl) hP (y_skip (by kernel_rfl) rfl) hS rfl (L' := #[true, true, true, true, true, true, true, true, true, true, false, false, false, false, false, false, false, false, false, false]) (by kernel_rfl) ?_
    refine h_takeL (i := 10) (v := undef) hns rfl rfl (by kernel_rfl) (by kernel_rfl) hP (y_skip (by kernel_rfl) rfl) hS rfl (L' := #[true, true, true, true, true, true, true, true, true, true, true, false, false, false, false, false, false, false, false, false]) (by kernel_rfl) ?_
    refine h_takeL (i := 11) (v := undef) hns rfl rfl (by kernel_rfl) (by kernel_rfl) hP (y_skip (by kernel_rfl) rfl) hS rfl (L' := #[true, true, true, true, true, true, true, true, true, true, true, true, false, false, false, false, false, false, false, false]) (by kernel_rfl) ?_
    refine h_takeL (i := 12) (v := undef) hns rfl rfl (by kernel_rfl) (by kernel_rfl) hP (y_skip (by kernel_rfl) rfl) hS rfl (L' := #[true, true, true, true, true, true, true, true, true, true, true, true, true, false, false, false, false, false, false, false]) (by kernel_rfl) ?_
    refine h_takeL (i := 13) (v := undef) hns rfl rfl (by kernel_rfl) (by kernel_rfl) hP (y_skip (by kernel_rfl) rfl) hS rfl (L' := #[true, true, true, true, true, true, true, true, true, true, true, true, true, true, false, false, false, false, false, false]) (by kernel_rfl) ?_
    refine h_takeL (i := 14) (v := undef) hns rfl rfl (by kernel_rfl) (by kernel_rfl) hP (y_skip (by kernel_rfl) rfl) hS rfl (L' := #[true, true, true, true, true, true, true, true, true, true, true, true, true, true, true, false, false, false, false, false]) (by kernel_rfl) ?_
    simp only [List.setIfInBounds_toArray, List.set_cons_zero, List.set_cons_succ]
    refine h_takeL (i := 15) (v := undef) hns rfl rfl (by kernel_rfl) (by kernel_rfl) hP (y_skip (by kernel_rfl) rfl) hS rfl (L' := #[true, true, true, true, true, true, true, true, true, true, true, true, true, true, true, true, false, false, false, false]) (by kernel_rfl) ?_
    refine h_takeL (i := 16) (v := (.bool false)) hns rfl rfl (by kernel_rfl) (by kernel_rfl) hP (y_pick (b := false) rfl) hS rfl (L' := #[true, true, true, true, true, true, true, true, true, true, true, true, true, true, true, true, true, false, false, false]) (by kernel_rfl) ?_
    refine h_takeL (i := 17) (v := .pointer (some ⟨p, 0, none⟩)) hns rfl rfl (by kernel_rfl) (by kernel_rfl) hP (y_nil rfl) hS rfl (L' := #[true, true, true, true, true, true, true, true, true, true, true, true, true, true, true, true, true, true, false, false]) (by kernel_rfl) ?_
    refine h_takeL (i := 18) (v := .pointer (some ⟨p, 5, none⟩)) hns rfl rfl (by kernel_rfl) (by kernel_rfl) hP (y_faddr rfl (hf := fa67_5 (p))) hS rfl (L' := #[true, true, true, true, true, true, true, true, true, true, true, true, true, true, true, true, true, true, true, false]) (by kernel_rfl) ?_
    refine h_skipL (i := 19) (by kernel_rfl) rfl rfl (by kernel_rfl) (run_storeOp rfl (by kernel_rfl) (by kernel_rfl) (store1 (t := 4) Tryz.sizeOf4 (.bool false) rfl rfl h5 f5)) (SL w p cut ops false ⟨h4, h3⟩) (L' := #[true, true, true, true, true, true, true, true, true, true, true, true, true, true, true, true, true, true, true, true]) (by kernel_rfl) ?_
    simp only [List.setIfInBounds_toArray, List.set_cons_zero, List.set_cons_succ]
    refine wpAnyH_done (by kernel_rfl) ?_ _
    refine hN _ _ ?_
    clear hP hN hns
    have hl : lost cut ops = false := by unfold lost; simp; omega
    have hD : Dc (w.drew.setCell ⟨p, 5, none⟩ (.bool false)) p vn vk m ops cut false := heap_setCell (w := w.drew) H.out 5 (.bool false)
    have hF : Fr [p] w (w.drew.setCell ⟨p, 5, none⟩ (.bool false)) := (Fr.setCell w.drew p 5 _).undrew
    generalize w.drew.setCell ⟨p, 5, none⟩ (.bool false) = w1 at hD hF ⊢
    have c5 := hD.c5
    clear hS h3 h4 h5 f5
    go_wp2
    go_ret
    rw [hl]
    exact ⟨rfl, hD, hF⟩

def hasB (at_ : Int) (n : Nat) : Bool := decide (0 ≤ at_) && decide (at_ < (n : Int))
set_option maxRecDepth 100000 in
set_option maxHeartbeats 400000 in
theorem has_any (w : World) (p : Nat) (vn : Value) (b n cb m : Nat) (ops : Int) (cut : Int) (gone : Bool) (at_ : Int) (h : Dc w p vn (.slice (some ⟨b, 0, none⟩) n cb) m ops cut gone) :
    Calls Tryz.prog 127 #[.pointer (some ⟨p, 0, none⟩), .int .i64 at_] w fun e w' => e = .returned (.bool (hasB at_ n)) ∧ w' = w := by
  have h1 := h.c1
  clear h
  by_cases h0 : 0 ≤ at_
  · have d0 : decide (0 ≤ at_) = true := decide_eq_true h0
    by_cases hn : at_ < (n : Int)
    · have d1 : decide (at_ < (n : Int)) = true := decide_eq_true hn
      go_enter Tryz.func127, Tryz.ntmps127
      go_wp2
      go_ret
      exact ⟨by unfold hasB; rw [d0, d1]; rfl, rfl⟩
    · have d1 : decide (at_ < (n : Int)) = false := decide_eq_false hn
      go_enter Tryz.func127, Tryz.ntmps127
      go_wp2
      go_ret
      exact ⟨by unfold hasB; rw [d0, d1]; rfl, rfl⟩
  · have d0 : decide (0 ≤ at_) = false := decide_eq_false h0
    go_enter Tryz.func127, Tryz.ntmps127
    go_wp2
    go_ret
    exact ⟨by unfold hasB; rw [d0]; rfl, rfl⟩

set_option maxHeartbeats 400000 in
theorem ops_any (w : World) (p : Nat) (vn vk : Value) (m : Nat) (ops : Int) (cut : Int) (gone : Bool) (h : Dc w p vn vk m ops cut gone) :
    Calls Tryz.prog 18 #[.pointer (some ⟨p, 0, none⟩)] w fun e w' => e = .returned (.int .i64 ops) ∧ w' = w := by
  have h3 := h.c3
  clear h
  go_enter Tryz.func18, Tryz.ntmps18
  go_wp2
  go_ret
  exact ⟨rfl, rfl⟩
set_option maxHeartbeats 400000 in
theorem sectors_any (w : World) (p : Nat) (vn : Value) (b n cb m : Nat) (ops : Int) (cut : Int) (gone : Bool) (h : Dc w p vn (.slice (some ⟨b, 0, none⟩) n cb) m ops cut gone) :
    Calls Tryz.prog 99 #[.pointer (some ⟨p, 0, none⟩)] w fun e w' => e = .returned (.int .i64 n) ∧ w' = w := by
  have h1 := h.c1
  clear h
  go_enter Tryz.func99, Tryz.ntmps99
  go_wp2
  go_ret
  exact ⟨rfl, rfl⟩
set_option maxHeartbeats 400000 in
theorem loose_any (w : World) (p : Nat) (vn vk : Value) (m : Nat) (ops : Int) (cut : Int) (gone : Bool) (L : List (Nat × List UInt8)) (h : Dc w p vn vk m ops cut gone) (hm : Mp w m L) :
    Calls Tryz.prog 105 #[.pointer (some ⟨p, 0, none⟩)] w fun e w' => e = .returned (.int .i64 L.length) ∧ w' = w := by
  have h2 := h.c2
  have hl := len_map hm
  clear h
  go_enter Tryz.func105, Tryz.ntmps105
  go_wp2
  go_ret
  exact ⟨rfl, rfl⟩
set_option maxHeartbeats 400000 in
theorem cutAt_any (w : World) (p : Nat) (vn vk : Value) (m : Nat) (ops : Int) (cut : Int) (gone : Bool) (n : Int) (h : Dc w p vn vk m ops cut gone) :
    Calls Tryz.prog 17 #[.pointer (some ⟨p, 0, none⟩), .int .i64 n] w fun e w' => e = .returned (.tuple #[]) ∧ Dc w' p vn vk m ops n false ∧ Fr [p] w w' := by
  have h4 := h.c4
  have h5 := h.c5
  have f4 := h.f 4
  have f5 := h.f 5
  have H := hid h
  clear h
  go_enter Tryz.func17, Tryz.ntmps17
  go_wp2
  go_end0
  refine ⟨rfl, ?_, ?_⟩
  · exact heap_setCell (heap_setCell H.out 4 _) 5 _
  · exact (Fr.setCell w p 4 _).trans (Fr.setCell _ p 5 _) (fun x hx => .inl hx)
end Go.Proofs.YtcmgclkbhhdnaaaGreatDoor
namespace Go.Proofs.YtcmgclkbhhdnaaaGreatDoor
open Go Go.RowKit

set_option maxRecDepth 100000 in
set_option maxHeartbeats 400000 in
theorem lay_any (i : Nat) (cs : List Value) (b n cap : Nat) (cur : Array Value) (w : World) (h128 : cs.length = 128) (h1 : ∀ v ∈ cs, v.oneCell' = true)
    (hi : i < n) (hg : w.heap[b]? = some (.cells cur 120 (0, 0))) (hs : n * 128 ≤ cur.size) :
    Calls Tryz.prog 66 #[.agg (.int .i64 i :: cs).toArray, .slice (some ⟨b, 0, none⟩) n cap] w fun e w' => e = .returned (.tuple #[]) ∧
      w' = (w.alloc (.cells (.int .i64 i :: cs).toArray 126)).setRow b (relaid cur (i * 128) cs) := by
  have hL := loadAt_k agg70 size70 (w.alloc (.cells (.int .i64 i :: cs).toArray 126)) w.heap.size 1 (.int .i64 i :: cs).toArray 126 (0, 0) cs h128 (heap_alloc_last _ _) (fun j v h => by simpa [Nat.add_comm] using h)
  have hS := storeAt_k size70 (w.alloc (.cells (.int .i64 i :: cs).toArray 126)) b (i * 128) cur 120 cs h128 ((Below.heap_alloc _ _ b (Array.getElem?_eq_some_iff.1 hg).1).trans hg) (by omega) h1
  have hi' : (i : Int) < n := by omega
  have HL := hid hL
  have HS := hid hS
  clear hL hS
  go_enter Tryz.func66, Tryz.ntmps66
  go_wp2_with (first | (refine wp_load (t := 120) (p := .tmp 7) rfl HL.out ?_) | (refine wp_store (t := 120) (p := .tmp 9) (q := .tmp 8) rfl rfl HS.out ?_))
  go_end0
  exact ⟨rfl, rfl⟩
end Go.Proofs.YtcmgclkbhhdnaaaGreatDoor
namespace Go.Proofs.YtcmgclkbhhdnaaaGreatDoor
open Go Go.RowKit

theorem hasB_in {i n : Nat} (h : i < n) : hasB (i : Int) n = true := by unfold hasB; simp; omega
theorem hasB_out {x : Int} {n : Nat} (h : x < 0 ∨ (n : Int) ≤ x) : hasB x n = false := by unfold hasB; simp; omega

set_option maxRecDepth 100000 in
set_option maxHeartbeats 400000 in
theorem read_ok (w : World) (p a ca : Nat) (b n cb m : Nat) (ops cut : Int) (ss : List (List UInt8)) (i : Nat) (s : List UInt8) (h : Dc w p (.slice (some ⟨a, 0, none⟩) n ca) (.slice (some ⟨b, 0, none⟩) n cb) m ops cut false) (hr : Row w a ca ss) (hn : ss.length = n) (hs : ss[i]? = some s) :
    Calls Tryz.prog 121 #[.pointer (some ⟨p, 0, none⟩), .int .i64 i] w fun e w' => e = .returned (.tuple #[.slice (some ⟨w.heap.size, 0, none⟩) 128 128, .int .i64 0]) ∧ w' = w.alloc (.cells (cells8 s).toArray 120) := by
  have hi : i < n := by rw [← hn]; exact (List.getElem?_eq_some_iff.1 hs).1
  have hi' : (i : Int) < n := by omega
  have h5 := h.c5
  have h0 := h.c0
  have H := hid (has_any w p _ b n cb m ops cut false i h)
  rw [hasB_in hi] at H
  obtain ⟨cur, hg, hz, _, _, hcs⟩ := hr
  obtain ⟨h128, hc⟩ := hcs i s hs
  have HL := hid (loadAt_k agg70 size70 w a (i * 128) cur 120 (0, 0) (cells8 s) (by rw [cells8_len]; exact h128) hg hc)
  have HS := hid (store_new Tryz.prog w 120 128 size70 Tryz.zeroCells120 (cells8 s) zc70 (by rw [cells8_len]; exact h128) (cells8_one s))
  clear h hg hz hcs hc
  generalize (cells8 s).toArray = S at *
  go_enter Tryz.func121, Tryz.ntmps121
  go_wp2_with fail
  refine H.out.mono ?_
  rintro e w ⟨rfl, rfl⟩
  go_wp2_with (first | (refine wp_load (t := 120) (p := .tmp 22) rfl HL.out ?_) | (refine wp_store (t := 120) (p := .tmp 6) (q := .tmp 23) rfl rfl HS.out ?_))
  go_ret2
  exact ⟨rfl, rfl⟩
end Go.Proofs.YtcmgclkbhhdnaaaGreatDoor
namespace Go.Proofs.YtcmgclkbhhdnaaaGreatDoor
open Go Go.RowKit

theorem fold_get : ∀ (vs : List Value) (k : Nat) (off : Nat) (cells : Array Value) (i : Nat), off + k + vs.length ≤ cells.size →
    ((vs.zipIdx k).foldl (fun (cs : Array Value) (x : Value × Nat) => cs.setIfInBounds (off + x.2) x.1) cells)[i]? = if off + k ≤ i ∧ i < off + k + vs.length then vs[i - (off + k)]? else cells[i]?
  | [], k, off, cells, i, _ => by
    have : ¬ (off + k ≤ i ∧ i < off + k + ([] : List Value).length) := by simp
    rw [if_neg this]; rfl
  | v :: r, k, off, cells, i, h => by
    have ih := fold_get r (k + 1) off (cells.setIfInBounds (off + k) v) i (by simp at h ⊢; omega)
    simp only [List.zipIdx_cons, List.foldl_cons]
    rw [ih]
    simp only [List.length_cons] at h ⊢
    by_cases e : i = off + k
    · subst e
      rw [if_neg (by omega), if_pos (by omega), Array.getElem?_setIfInBounds_self_of_lt (by omega)]
      simp
    · by_cases hin : off + (k + 1) ≤ i ∧ i < off + (k + 1) + r.length
      · rw [if_pos hin, if_pos (by omega)]
        have : i - (off + k) = (i - (off + (k + 1))) + 1 := by omega
        rw [this, List.getElem?_cons_succ]
      · rw [if_neg hin, if_neg (by omega)]
        rw [Array.getElem?_setIfInBounds_ne (by omega)]

theorem fold_size : ∀ (vs : List Value) (k : Nat) (off : Nat) (cells : Array Value), ((vs.zipIdx k).foldl (fun (cs : Array Value) (x : Value × Nat) => cs.setIfInBounds (off + x.2) x.1) cells).size = cells.size
  | [], _, _, _ => rfl
  | v :: r, k, off, cells => by simp [List.zipIdx_cons, fold_size r (k + 1) off]

theorem fill_two (z : Array Value) (hz : z.size = 129) (x : Value) (hx : x.cells = #[x]) (cs : List Value) (hc : cs.length = 128) (pl : Nat → Option (Nat × Nat)) (h0 : pl 0 = some (0, 1)) (h1 : pl 1 = some (1, 128)) :
    Instr.fill pl z [(0, x), (1, .agg cs.toArray)] = some (x :: cs).toArray := by
  have hs : (z.setIfInBounds 0 x).size = 129 := by simp [hz]
  unfold Instr.fill
  rw [h0]
  simp only [hx, List.size_toArray, List.length_cons, List.length_nil, hz]
  rw [if_neg (by simp)]
  unfold Instr.fill
  rw [h1]
  have e0' : ((#[x] : Array Value).zipIdx.foldl (fun (cs : Array Value) (y : Value × Nat) => match y with | (c, j) => cs.setIfInBounds (0 + j) c) z) = z.setIfInBounds 0 x := by simp
  simp only [Value.cells, List.size_toArray, hc, e0', hs]
  rw [if_neg (by simp)]
  unfold Instr.fill
  congr 1
  apply Array.ext_getElem?
  intro i
  have := fold_get cs 0 1 (z.setIfInBounds 0 x) i (by rw [hs, hc]; omega)
  rw [← Array.foldl_toList, Array.toList_zipIdx]
  simp only at this ⊢
  rw [this]
  rcases i with _ | i
  · simp [hz]
  · by_cases hi : i < 128
    · rw [if_pos (by omega)]; simp
    · rw [if_neg (by omega), Array.getElem?_eq_none (by simp [hz]; omega), List.getElem?_toArray, List.getElem?_eq_none (by simp [hc]; omega)]

theorem build76 (w : World) (n : Int) (cs : List Value) (hc : cs.length = 128) :
    (Instr.build 126 #[(0, .int .i64 n), (1, .agg cs.toArray)]).run Tryz.prog w = .ok (.agg (.int .i64 n :: cs).toArray) w := by
  unfold Instr.build
  simp only [Sem.run_bind, zero76, Result.andThen_ok, run_underlying Tryz.underlying126]
  have e : ∀ a : Array (Nat × Nat), a = #[(0, 1), (1, 128)] → Instr.fill (fun x => a[x]?) zw.cells [(0, .int .i64 n), (1, .agg cs.toArray)] = some (.int .i64 n :: cs).toArray := fun a ha => by
    subst ha
    exact fill_two zw.cells (by decide +kernel) _ rfl cs hc _ rfl rfl
  have hm := fun (w : World) => run_size size70 w
  have hmm : ∀ f g : Field, f.type = 3 → f.offset = 0 → g.type = 120 → g.offset = 1 → Sem.run Tryz.prog (Array.mapM (fun f => do
      let s ← Go.sizeOf f.type
      pure (f.offset, s)) #[f, g]) w = .ok #[(0, 1), (1, 128)] w := fun f g h1 h2 h3 h4 => by
    simp [h1, h2, h3, h4, hm, Tryz.sizeOf3]
  rw [hmm _ _ rfl rfl rfl rfl, Result.andThen_ok, e _ rfl]
  rfl
end Go.Proofs.YtcmgclkbhhdnaaaGreatDoor
namespace Go.Proofs.YtcmgclkbhhdnaaaGreatDoor
open Go Go.RowKit

def wc (x : Nat × List UInt8) : Array Value := (.int .i64 x.1 :: cells8 x.2).toArray
theorem wc_len (x : Nat × List UInt8) (h : x.2.length = 128) : (Value.int .i64 x.1 :: cells8 x.2).length = 129 := by simp [cells8_len, h]
theorem wc_one (x : Nat × List UInt8) : ∀ v ∈ (Value.int .i64 x.1 :: cells8 x.2), v.oneCell' = true := by
  intro v hv
  rcases List.mem_cons.1 hv with rfl | hv
  · rfl
  · exact cells8_one _ v hv
theorem load_w {x : Nat × List UInt8} (h : x.2.length = 128) {w : World} {q : Nat} (hq : w.heap[q]? = some (.cells (wc x) 126 (0, 0))) :
    (Instr.loadAt 126 (.pointer (some ⟨q, 0, none⟩))).run Tryz.prog w = .ok (wv x) w :=
  loadAt_k agg76 size76 w q 0 (wc x) 126 (0, 0) (.int .i64 x.1 :: cells8 x.2) (wc_len x h) hq (fun j v hv => by simpa [wc] using hv)
/-- Where the sector's bytes lie among others' cells. -/
theorem load_s {w : World} {b off : Nat} {l : List UInt8} (hl : l.length = 128) (hr : Rd w b off l) :
    (Instr.loadAt 120 (.pointer (some ⟨b, off, none⟩))).run Tryz.prog w = .ok (.agg (cells8 l).toArray) w := by
  have := run_loadCells_list (P := Tryz.prog) w ⟨b, off, none⟩ (cells8 l) (fun j v hv => by
    have hj : j < l.length := by have := (List.getElem?_eq_some_iff.1 hv).1; rwa [cells8_len] at this
    rw [cells8_get l j hj] at hv
    cases hv
    rw [add_lit]
    exact hr j hj)
  simp only [cells8_len, hl] at this
  simp only [Instr.loadAt, Instr.sureAddr, Sem.run_bind, Sem.run_pure, Result.andThen, loadVar, agg70, run_size size70, this, if_true]
def laidW (w : World) (a : Nat) (cur : Array Value) (i : Nat) (l : List UInt8) : World := (w.alloc (.cells (wc (i, l)) 126)).setRow a (relaid cur (i * 128) (cells8 l))
theorem lay_w (i : Nat) (l : List UInt8) (a n ca : Nat) (cur : Array Value) (w : World) (hl : l.length = 128) (hi : i < n) (hg : w.heap[a]? = some (.cells cur 120 (0, 0))) (hz : n * 128 ≤ cur.size) :
    Calls Tryz.prog 66 #[wv (i, l), .slice (some ⟨a, 0, none⟩) n ca] w fun e w' => e = .returned (.tuple #[]) ∧ w' = laidW w a cur i l :=
  lay_any i (cells8 l) a n ca cur w (by rw [cells8_len]; exact hl) (cells8_one l) hi hg hz
theorem lay_fr (w : World) (a : Nat) (cur : Array Value) (i : Nat) (l : List UInt8) : Fr [a] w (laidW w.drew a cur i l) :=
  ((Fr.alloc w.drew _).mono (Y := [a]) (by simp)).trans (Fr.setRow _ a _) (fun x hx => .inl hx) |>.undrew
theorem lay_fr' (w : World) (a : Nat) (cur : Array Value) (i : Nat) (l : List UInt8) : Fr [a] w (laidW w a cur i l) :=
  ((Fr.alloc w _).mono (Y := [a]) (by simp)).trans (Fr.setRow _ a _) (fun x hx => .inl hx)
theorem lay_row {w : World} {a cap : Nat} {ss : List (List UInt8)} {cur : Array Value} (hg : w.heap[a]? = some (.cells cur 120 (0, 0))) (hs : ss.length * 128 ≤ cur.size) (hc : ss.length ≤ cap) (hm : cap ≤ maxLen)
    (h : ∀ i s, ss[i]? = some s → s.length = 128 ∧ ∀ j v, (cells8 s)[j]? = some v → cur[i * 128 + j]? = some v) (i : Nat) (hi : i < ss.length) (l : List UInt8) (hl : l.length = 128) :
    Row (laidW w a cur i l) a cap (ss.set i l) :=
  row_laid ((Fr.alloc w _).at hg (by simp)) hs hc hm h i hi l hl

theorem rd_ne_p {w : World} {b off p : Nat} {l : List UInt8} (hr : Rd w b off l) (hl : l.length = 128) {c : Array Value} {t : TypeId} {z : Nat × Nat} (hp : w.heap[p]? = some (.cells c t z)) (hc : c.size < 100) : b ≠ p := by
  rintro rfl
  have := hr 127 (by omega)
  simp only [World.cell?, hp] at this
  have h2 := (Array.getElem?_eq_some_iff.1 (by simpa using this : c[off + 127]? = _)).1
  omega
theorem rd_fr {X : List Nat} {w w' : World} {b off : Nat} {l : List UInt8} (hr : Rd w b off l) (hF : Fr X w w') (hb : b ∉ X) : Rd w' b off l := fun k hk => by
  have h := hr k hk
  rw [← h]
  exact World.cell?_of_block (w := w) (hF.block b (World.block_lt_of_cell? w _ h) hb)

theorem arr70 (b off cap : Nat) (w : World) : (Instr.arrayAt 120 (.slice (some ⟨b, off, none⟩) 128 cap)).run Tryz.prog w = .ok (.pointer (some ⟨b, off, none⟩)) w := by
  simp only [Instr.arrayAt, Sem.run_bind, run_underlying Tryz.underlying120, Result.andThen_ok]
  rfl

set_option maxRecDepth 100000 in
set_option maxHeartbeats 1600000 in
theorem write_ok (w : World) (p a ca b n cb m : Nat) (ops cut : Int) (gone : Bool) (ss : List (List UInt8)) (L : List (Nat × List UInt8)) (i : Nat) (bb off cap : Nat) (l : List UInt8)
    (h : Dc w p (.slice (some ⟨a, 0, none⟩) n ca) (.slice (some ⟨b, 0, none⟩) n cb) m ops cut gone) (hr : Row w a ca ss) (hn : ss.length = n) (hm : Mp w m L) (hi : i < n) (hl : l.length = 128) (hb : Rd w bb off l)
    (hlost : lost cut ops = false) (hops0 : 0 ≤ ops) (hops : ops < 1048576) :
    Calls Tryz.prog 111 #[.pointer (some ⟨p, 0, none⟩), .int .i64 i, .slice (some ⟨bb, off, none⟩) 128 cap] w fun e w' => e = .returned (.int .i64 0) ∧
      Dc w' p (.slice (some ⟨a, 0, none⟩) n ca) (.slice (some ⟨b, 0, none⟩) n cb) m (ops + 1) cut false ∧ Row w' a ca (ss.set i l) ∧ Mp w' m (L ++ [(i, l)]) ∧ Fr [p, a, m] w w' := by
  have hpm : p ≠ m := fun e => by subst e; rw [Mp] at hm; rw [Dc] at h; rw [hm] at h; cases h
  have hpa : p ≠ a := fun e => by obtain ⟨cur, hg, _⟩ := hr; subst e; rw [Dc] at h; rw [hg] at h; cases h
  have ham : a ≠ m := fun e => by obtain ⟨cur, hg, _⟩ := hr; subst e; rw [Mp] at hm; rw [hg] at hm; cases hm
  have hbp : bb ≠ p := rd_ne_p hb hl h (by simp [dcells])
  have hi' : (i : Int) < n := by omega
  have hops' : decide ((1048576 : Int) ≤ ops) = false := decide_eq_false (by omega)
  have hwr : wrap64 (ops + 1) = ops + 1 := by unfold wrap64; omega
  have H1 := hid (loses_any w p _ _ m ops cut gone h)
  rw [hlost] at H1
  have HR := hid hr
  have HM := hid hm
  have HB := hid hb
  clear h hr hm hb
  go_enter Tryz.func111, Tryz.ntmps111
  go_wp2_with fail
  refine H1.out.mono ?_
  clear H1
  rintro e w1 ⟨rfl, hD1, hF1⟩
  have HR1 := hid (HR.out.fr hF1 (by simpa using hpa.symm))
  have HM1 : Hid (Mp w1 m L) := hid (hF1.at HM.out (by simpa using hpm.symm))
  have HB1 := hid (rd_fr HB.out hF1 (by simpa using hbp))
  have H2 := hid (has_any w1 p _ b n cb m ops cut false i hD1)
  rw [hasB_in hi] at H2
  have H3 := hid hD1.c3
  have HD1 := hid hD1
  have HF1 := hid hF1
  clear HR HM HB hD1 hF1
  go_wp2_with fail
  refine H2.out.mono ?_
  clear H2
  rintro e w1 ⟨rfl, rfl⟩
  have h3 := H3.out
  have HL := hid (load_s hl HB1.out)
  have HU := hid (build76 w1 i (cells8 l) (by rw [cells8_len]; exact hl))
  have HS := hid (store_new Tryz.prog w1 126 129 size76 Tryz.zeroCells126 (.int .i64 i :: cells8 l) zc76 (wc_len (i, l) hl) (wc_one (i, l)))
  change Hid (_ = Result.ok (wv (i, l)) w1) at HU
  change Hid (Sem.run Tryz.prog (Instr.storeAt 126 _ (wv (i, l))) _ = Result.ok () (w1.alloc (.cells (wc (i, l)) 126))) at HS
  go_upto_region 11 with fail
  refine wp_region_lit ?_
  refine wp_move (v := .int .i64 i) (by kernel_rfl) ?_
  refine wp_move (v := .slice (some ⟨bb, off, none⟩) 128 cap) (by kernel_rfl) ?_
  refine wp_arrayAt (by kernel_rfl) (arr70 bb off cap w1) ?_
  refine wp_load (by kernel_rfl) HL.out ?_
  refine wp_build (by kernel_rfl) (by kernel_rfl) HU.out ?_
  refine wp_alloc (alloc76 w1) ?_
  refine wp_store (by kernel_rfl) (by kernel_rfl) HS.out ?_
  dsimp only [Act.put]
  simp only [List.setIfInBounds_toArray, List.set_cons_zero, List.set_cons_succ]
  refine wp_end ?_
  clear HL HU HS H3 h3
  have hF2 : Fr [] w1 (w1.alloc (.cells (wc (i, l)) 126)) := Fr.alloc _ _
  have hq2 : (w1.alloc (.cells (wc (i, l)) 126)).heap[w1.heap.size]? = some (.cells (wc (i, l)) 126 (0, 0)) := heap_alloc_last _ _
  have hqs : ∀ k o, w1.heap[k]? = some o → w1.heap.size ≠ k := fun k o hk => by have := heap_lt hk; omega
  have hqm := hqs m _ HM1.out
  have hqa : w1.heap.size ≠ a := by obtain ⟨cur, hg, _⟩ := HR1.out; exact hqs a _ hg
  have hqp := hqs p _ HD1.out
  have hD2 := HD1.out.fr hF2 (by simp)
  have hm2 : Mp _ m L := hF2.at HM1.out (by simp)
  have hr2 := HR1.out.fr hF2 (by simp)
  have hF2' : Fr [p] w _ := HF1.out.trans hF2 (by simp)
  have hqw : w.heap.size ≤ w1.heap.size := HF1.out.size
  clear HD1 HM1 HR1 HB1 HF1 hF2 hqs
  generalize w1.heap.size = q at *
  generalize w1.alloc (.cells (wc (i, l)) 126) = w2 at *
  go_wp2_with fail
  refine h_openL (S := fun w' => w'.heap[p]? = w2.heap[p]? ∧ w'.heap[q]? = w2.heap[q]?) (by kernel_rfl) (by kernel_rfl) (fun _ _ _ _ _ h => h) (L := #[false, false, false, false, false, false, false, false, false, false, false]) (by kernel_rfl) ?_
  intro Q' hns hP hN
  have hS := (show w2.drew.heap[p]? = w2.heap[p]? ∧ w2.drew.heap[q]? = w2.heap[q]? from ⟨rfl, rfl⟩)
  refine h_takeL (i := 0) (v := .pointer (some ⟨p, 0, none⟩)) hns rfl rfl (by kernel_rfl) (by kernel_rfl) hP (y_move rfl) hS rfl (L' := #[true, false, false, false, false, false, false, false, false, false, false]) (by kernel_rfl) ?_
  refine h_takeL (i := 1) (v := .pointer (some ⟨p, 0, none⟩)) hns rfl rfl (by kernel_rfl) (by kernel_rfl) hP (y_nil rfl) hS rfl (L' := #[true, true, false, false, false, false, false, false, false, false, false]) (by kernel_rfl) ?_
  refine h_takeL (i := 2) (v := .pointer (some ⟨p, 2, none⟩)) hns rfl rfl (by kernel_rfl) (by kernel_rfl) hP (y_faddr rfl (hf := fa67_2 (p))) hS rfl (L' := #[true, true, true, false, false, false, false, false, false, false, false]) (by kernel_rfl) ?_
  refine h_takeL (i := 3) (v := .map (some m)) hns rfl rfl (by kernel_rfl) (by kernel_rfl) hP (y_load rfl (hl := fun w h => load1 Tryz.isAgg100 (cell_at (h.1.trans hD2) 2 rfl))) hS rfl (L' := #[true, true, true, true, false, false, false, false, false, false, false]) (by kernel_rfl) ?_
  refine h_takeL (i := 4) (v := .pointer (some ⟨p, 0, none⟩)) hns rfl rfl (by kernel_rfl) (by kernel_rfl) hP (y_move rfl) hS rfl (L' := #[true, true, true, true, true, false, false, false, false, false, false]) (by kernel_rfl) ?_
  refine h_takeL (i := 5) (v := .pointer (some ⟨p, 0, none⟩)) hns rfl rfl (by kernel_rfl) (by kernel_rfl) hP (y_nil rfl) hS rfl (L' := #[true, true, true, true, true, true, false, false, false, false, false]) (by kernel_rfl) ?_
  refine h_takeL (i := 6) (v := .pointer (some ⟨p, 2, none⟩)) hns rfl rfl (by kernel_rfl) (by kernel_rfl) hP (y_faddr rfl (hf := fa67_2 (p))) hS rfl (L' := #[true, true, true, true, true, true, true, false, false, false, false]) (by kernel_rfl) ?_
  simp only [List.setIfInBounds_toArray, List.set_cons_zero, List.set_cons_succ]
  refine h_takeL (i := 7) (v := .map (some m)) hns rfl rfl (by kernel_rfl) (by kernel_rfl) hP (y_load rfl (hl := fun w h => load1 Tryz.isAgg100 (cell_at (h.1.trans hD2) 2 rfl))) hS rfl (L' := #[true, true, true, true, true, true, true, true, false, false, false]) (by kernel_rfl) ?_
  refine h_takeL (i := 9) (v := wv (i, l)) hns rfl rfl (by kernel_rfl) (by kernel_rfl) hP (y_load rfl (hl := fun w h => load_w hl (h.2.trans hq2))) hS rfl (L' := #[true, true, true, true, true, true, true, true, false, true, false]) (by kernel_rfl) ?_
  refine h_valL (i := 8) (v := .int .i64 L.length) (by kernel_rfl) rfl rfl (by kernel_rfl) (run_lenOp rfl (by kernel_rfl) (fun ty => len_map (w := w2.drew) hm2 ty)) hS rfl (L' := #[true, true, true, true, true, true, true, true, true, true, false]) (by kernel_rfl) ?_
  refine h_skipL (i := 10) (by kernel_rfl) rfl rfl (by kernel_rfl) (run_mapUpdate rfl (by kernel_rfl) (by kernel_rfl) (by kernel_rfl) (put_new (w := w2.drew) hm2 (i, l))) ⟨(Fr.reMap w2.drew m _).block p (heap_lt hD2) (by simpa using hpm), (Fr.reMap w2.drew m _).block q (heap_lt hq2) (by simpa using hqm)⟩ (L' := #[true, true, true, true, true, true, true, true, true, true, true]) (by kernel_rfl) ?_
  simp only [List.setIfInBounds_toArray, List.set_cons_zero, List.set_cons_succ]
  refine wpAnyH_done (by kernel_rfl) ?_ _
  refine hN _ _ ?_
  clear hP hN hns
  have hD3 := hD2.fr ((Fr.reMap w2.drew m (L ++ [(i, l)])).undrew) (by simpa using hpm)
  have hq3 := ((Fr.reMap w2.drew m (L ++ [(i, l)])).undrew).at hq2 (by simpa using hqm)
  have hr3 := hr2.fr ((Fr.reMap w2.drew m (L ++ [(i, l)])).undrew) (by simpa using ham)
  have hm3 : Mp (reMap w2.drew m (L ++ [(i, l)])) m (L ++ [(i, l)]) := reMap_at (w := w2.drew) hm2 _
  have hF3 : Fr [p, m] w (reMap w2.drew m (L ++ [(i, l)])) := (hF2'.mono (by simp)).trans ((Fr.reMap w2.drew m (L ++ [(i, l)])).undrew) (by simp)
  clear hD2 hq2 hr2 hm2 hF2' hS
  generalize reMap w2.drew m (L ++ [(i, l)]) = w3 at *
  obtain ⟨cur, hg3, hz3, hc3, hx3, hcs3⟩ := hr3
  rw [hn] at hz3
  go_wp2_with fail
  refine h_openL (S := fun w' => w'.heap[p]? = w3.heap[p]? ∧ w'.heap[q]? = w3.heap[q]?) (by kernel_rfl) (by kernel_rfl) (fun _ _ _ _ _ h => h) (L := #[false, false, false, false, false, false]) (by kernel_rfl) ?_
  intro Q' hns hP hN
  have hS := (show w3.drew.heap[p]? = w3.heap[p]? ∧ w3.drew.heap[q]? = w3.heap[q]? from ⟨rfl, rfl⟩)
  refine h_takeL (i := 0) (v := wv (i, l)) hns rfl rfl (by kernel_rfl) (by kernel_rfl) hP (y_load rfl (hl := fun w h => load_w hl (h.2.trans hq3))) hS rfl (L' := #[true, false, false, false, false, false]) (by kernel_rfl) ?_
  refine h_takeL (i := 1) (v := .pointer (some ⟨p, 0, none⟩)) hns rfl rfl (by kernel_rfl) (by kernel_rfl) hP (y_move rfl) hS rfl (L' := #[true, true, false, false, false, false]) (by kernel_rfl) ?_
  refine h_takeL (i := 2) (v := .pointer (some ⟨p, 0, none⟩)) hns rfl rfl (by kernel_rfl) (by kernel_rfl) hP (y_nil rfl) hS rfl (L' := #[true, true, true, false, false, false]) (by kernel_rfl) ?_
  refine h_takeL (i := 3) (v := .pointer (some ⟨p, 0, none⟩)) hns rfl rfl (by kernel_rfl) (by kernel_rfl) hP (y_faddr rfl (hf := fa67_0 (p))) hS rfl (L' := #[true, true, true, true, false, false]) (by kernel_rfl) ?_
  refine h_takeL (i := 4) (v := .slice (some ⟨a, 0, none⟩) n ca) hns rfl rfl (by kernel_rfl) (by kernel_rfl) hP (y_load rfl (hl := fun w h => load1 Tryz.isAgg99 (cell_at (h.1.trans hD3) 0 rfl))) hS rfl (L' := #[true, true, true, true, true, false]) (by kernel_rfl) ?_
  refine h_callL (i := 5) (f := 66) (args := #[wv (i, l), .slice (some ⟨a, 0, none⟩) n ca]) (by kernel_rfl) rfl rfl (by kernel_rfl) (enter_go rfl (by kernel_rfl) (fun w => by go_simp)) (L' := #[true, true, true, true, true, true]) (by kernel_rfl) ?_
  refine (lay_w i l a n ca cur w3.drew hl hi hg3 hz3).mono ?_
  rintro e w4 ⟨rfl, rfl⟩
  have hF4 := lay_fr w3 a cur i l
  refine ⟨.tuple #[], rfl, ⟨hF4.block p (heap_lt hD3) (by simpa using hpa), hF4.block q (heap_lt hq3) (by simpa using hqa)⟩, ?_⟩
  simp only [List.setIfInBounds_toArray, List.set_cons_zero, List.set_cons_succ]
  refine wpAnyH_done (by kernel_rfl) ?_ _
  refine hN _ _ ?_
  clear hP hN hns
  have hD4 := hD3.fr hF4 (by simpa using hpa)
  have hr4 := lay_row (w := w3.drew) (ss := ss) hg3 (by rw [hn]; exact hz3) hc3 hx3 hcs3 i (by rw [hn]; exact hi) l hl
  have hm4 : Mp (laidW w3.drew a cur i l) m (L ++ [(i, l)]) := hF4.at hm3 (by simpa using ham.symm)
  have hF4' : Fr [p, a, m] w (laidW w3.drew a cur i l) := (hF3.mono (by simp)).trans hF4 (by simp)
  clear hD3 hq3 hm3 hF3 hF4 hS hg3 hz3 hc3 hx3 hcs3
  generalize laidW w3.drew a cur i l = w4 at *
  have h3 := hD4.c3
  have f3 := hD4.f 3
  go_wp2
  go_ret
  refine ⟨rfl, heap_setCell hD4 3 _, hr4.fr (Fr.setCell w4 p 3 _) (by simpa using hpa.symm), (Fr.setCell w4 p 3 _).at hm4 (by simpa using hpm.symm), hF4'.trans (Fr.setCell w4 p 3 _) (by simp)⟩
end Go.Proofs.YtcmgclkbhhdnaaaGreatDoor
namespace Go.Proofs.YtcmgclkbhhdnaaaGreatDoor
open Go Go.RowKit

theorem look_in0 {w : World} {m : Nat} {L : List (Nat × List UInt8)} (h : Mp w m L) (n : Nat) (x : Nat × List UInt8) (hx : L[n]? = some x) :
    (Instr.lookup 100 (.map (some m)) (.int .i64 n) false).run Tryz.prog w = .ok (wv x) w := look_in h n x hx false
theorem look_in1 {w : World} {m : Nat} {L : List (Nat × List UInt8)} (h : Mp w m L) (n : Nat) (x : Nat × List UInt8) (hx : L[n]? = some x) :
    (Instr.lookup 100 (.map (some m)) (.int .i64 n) true).run Tryz.prog w = .ok (.tuple #[wv x, .bool true]) w := look_in h n x hx true

theorem makeMap65 (w : World) : (Instr.makeMap 100 none).run Tryz.prog w = .ok (.map (some w.heap.size)) (w.alloc (.map #[] 0)) := by
  simp only [Instr.makeMap, Sem.run_bind]
  rfl
/-- Writes laid over sectors, in order. -/
def layAll (ss : List (List UInt8)) (L : List (Nat × List UInt8)) : List (List UInt8) := L.foldl (fun ss x => ss.set x.1 x.2) ss
theorem layAll_len (L : List (Nat × List UInt8)) : ∀ ss, (layAll ss L).length = ss.length := by
  induction L with
  | nil => intro ss; rfl
  | cons x r ih => intro ss; show (layAll (ss.set x.1 x.2) r).length = _; rw [ih]; simp
theorem layAll_snoc (ss : List (List UInt8)) (L : List (Nat × List UInt8)) (x : Nat × List UInt8) : layAll ss (L ++ [x]) = (layAll ss L).set x.1 x.2 := by simp [layAll]
theorem layAll_take (ss : List (List UInt8)) (L : List (Nat × List UInt8)) (k : Nat) (x : Nat × List UInt8) (hx : L[k]? = some x) : layAll ss (L.take (k + 1)) = (layAll ss (L.take k)).set x.1 x.2 := by
  rw [List.take_add_one, hx]; exact layAll_snoc _ _ _

section
variable (w : World) (p : Nat) (ops cut : Int) (gone : Bool) (m : Nat)
set_option maxRecDepth 100000 in
set_option maxHeartbeats 400000 in
theorem write_gone (vn vk v x : Value) (h : Dc w p vn vk m ops cut gone) (hl : lost cut ops = true) :
    Calls Tryz.prog 111 #[.pointer (some ⟨p, 0, none⟩), x, v] w fun e w' => e = .returned (.int .i64 43) ∧ Dc w' p vn vk m ops cut true ∧ Fr [p] w w' := by
  have H1 := hid (loses_any w p _ _ m ops cut gone h)
  rw [hl] at H1
  clear h
  go_enter Tryz.func111, Tryz.ntmps111
  go_wp2_with fail
  refine H1.out.mono ?_
  rintro e w1 ⟨rfl, hD1, hF1⟩
  go_wp2
  go_ret
  exact ⟨rfl, hD1, hF1⟩
set_option maxRecDepth 100000 in
set_option maxHeartbeats 400000 in
theorem write_at (b n cb : Nat) (vn v : Value) (x : Int) (h : Dc w p vn (.slice (some ⟨b, 0, none⟩) n cb) m ops cut gone) (hl : lost cut ops = false) (hx : x < 0 ∨ (n : Int) ≤ x) :
    Calls Tryz.prog 111 #[.pointer (some ⟨p, 0, none⟩), .int .i64 x, v] w fun e w' => e = .returned (.int .i64 41) ∧ Dc w' p vn (.slice (some ⟨b, 0, none⟩) n cb) m ops cut false ∧ Fr [p] w w' := by
  have H1 := hid (loses_any w p _ _ m ops cut gone h)
  rw [hl] at H1
  clear h
  go_enter Tryz.func111, Tryz.ntmps111
  go_wp2_with fail
  refine H1.out.mono ?_
  clear H1
  rintro e w1 ⟨rfl, hD1, hF1⟩
  have H2 := hid (has_any w1 p _ b n cb m ops cut false x hD1)
  rw [hasB_out hx] at H2
  have HD1 := hid hD1
  have HF1 := hid hF1
  clear hD1 hF1
  go_wp2_with fail
  refine H2.out.mono ?_
  rintro e w1 ⟨rfl, rfl⟩
  go_wp2
  go_ret
  exact ⟨rfl, HD1.out, HF1.out⟩
set_option maxRecDepth 100000 in
set_option maxHeartbeats 400000 in
theorem write_len (b n cb : Nat) (vn : Value) (i : Nat) (a : Option Addr) (len cap : Nat) (h : Dc w p vn (.slice (some ⟨b, 0, none⟩) n cb) m ops cut gone) (hl : lost cut ops = false) (hx : i < n) (hn : len ≠ 128) :
    Calls Tryz.prog 111 #[.pointer (some ⟨p, 0, none⟩), .int .i64 i, .slice a len cap] w fun e w' => e = .returned (.int .i64 42) ∧ Dc w' p vn (.slice (some ⟨b, 0, none⟩) n cb) m ops cut false ∧ Fr [p] w w' := by
  have H1 := hid (loses_any w p _ _ m ops cut gone h)
  rw [hl] at H1
  have hne : ((len : Int) == 128) = false := by rw [beq_eq_false_iff_ne]; omega
  clear h
  go_enter Tryz.func111, Tryz.ntmps111
  go_wp2_with fail
  refine H1.out.mono ?_
  clear H1
  rintro e w1 ⟨rfl, hD1, hF1⟩
  have H2 := hid (has_any w1 p _ b n cb m ops cut false i hD1)
  rw [hasB_in hx] at H2
  have HD1 := hid hD1
  have HF1 := hid hF1
  clear hD1 hF1
  go_wp2_with fail
  refine H2.out.mono ?_
  rintro e w1 ⟨rfl, rfl⟩
  go_wp2
  go_ret
  exact ⟨rfl, HD1.out, HF1.out⟩
set_option maxRecDepth 100000 in
set_option maxHeartbeats 400000 in
theorem write_full (b n cb : Nat) (vn : Value) (i : Nat) (a : Option Addr) (cap : Nat) (h : Dc w p vn (.slice (some ⟨b, 0, none⟩) n cb) m ops cut gone) (hl : lost cut ops = false) (hx : i < n) (ho : 1048576 ≤ ops) :
    Calls Tryz.prog 111 #[.pointer (some ⟨p, 0, none⟩), .int .i64 i, .slice a 128 cap] w fun e w' => e = .returned (.int .i64 44) ∧ Dc w' p vn (.slice (some ⟨b, 0, none⟩) n cb) m ops cut false ∧ Fr [p] w w' := by
  have H1 := hid (loses_any w p _ _ m ops cut gone h)
  rw [hl] at H1
  have hops' : decide ((1048576 : Int) ≤ ops) = true := decide_eq_true ho
  clear h ho
  go_enter Tryz.func111, Tryz.ntmps111
  go_wp2_with fail
  refine H1.out.mono ?_
  clear H1
  rintro e w1 ⟨rfl, hD1, hF1⟩
  have H2 := hid (has_any w1 p _ b n cb m ops cut false i hD1)
  rw [hasB_in hx] at H2
  have H3 := hid hD1.c3
  have HD1 := hid hD1
  have HF1 := hid hF1
  clear hD1 hF1
  go_wp2_with fail
  refine H2.out.mono ?_
  rintro e w1 ⟨rfl, rfl⟩
  have h3 := H3.out
  go_wp2
  go_ret
  exact ⟨rfl, HD1.out, HF1.out⟩
set_option maxRecDepth 100000 in
set_option maxHeartbeats 400000 in
theorem flush_gone (vn vk : Value) (h : Dc w p vn vk m ops cut gone) (hl : lost cut ops = true) :
    Calls Tryz.prog 112 #[.pointer (some ⟨p, 0, none⟩)] w fun e w' => e = .returned (.int .i64 43) ∧ Dc w' p vn vk m ops cut true ∧ Fr [p] w w' := by
  have H1 := hid (loses_any w p _ _ m ops cut gone h)
  rw [hl] at H1
  clear h
  go_enter Tryz.func112, Tryz.ntmps112
  go_wp2_with fail
  refine H1.out.mono ?_
  rintro e w1 ⟨rfl, hD1, hF1⟩
  go_wp2
  go_ret
  exact ⟨rfl, hD1, hF1⟩
set_option maxRecDepth 100000 in
set_option maxHeartbeats 400000 in
theorem flush_full (vn vk : Value) (h : Dc w p vn vk m ops cut gone) (hl : lost cut ops = false) (ho : 1048576 ≤ ops) :
    Calls Tryz.prog 112 #[.pointer (some ⟨p, 0, none⟩)] w fun e w' => e = .returned (.int .i64 44) ∧ Dc w' p vn vk m ops cut false ∧ Fr [p] w w' := by
  have H1 := hid (loses_any w p _ _ m ops cut gone h)
  rw [hl] at H1
  have hops' : decide ((1048576 : Int) ≤ ops) = true := decide_eq_true ho
  clear h ho
  go_enter Tryz.func112, Tryz.ntmps112
  go_wp2_with fail
  refine H1.out.mono ?_
  clear H1
  rintro e w1 ⟨rfl, hD1, hF1⟩
  have h3 := hD1.c3
  go_wp2
  go_ret
  exact ⟨rfl, hD1, hF1⟩
end

set_option maxRecDepth 100000 in
set_option maxHeartbeats 1600000 in
theorem flush_ok (w : World) (p a ca b n cb m : Nat) (ops cut : Int) (gone : Bool) (now kept : List (List UInt8)) (L : List (Nat × List UInt8))
    (h : Dc w p (.slice (some ⟨a, 0, none⟩) n ca) (.slice (some ⟨b, 0, none⟩) n cb) m ops cut gone) (hra : Row w a ca now) (hrb : Row w b cb kept) (hm : Mp w m L) (hn : kept.length = n) (hab : a ≠ b)
    (hL : ∀ x ∈ L, x.1 < n ∧ x.2.length = 128) (hlost : lost cut ops = false) (hops0 : 0 ≤ ops) (hops : ops < 1048576) (hLn : L.length ≤ 1048576) :
    Calls Tryz.prog 112 #[.pointer (some ⟨p, 0, none⟩)] w fun e w' => e = .returned (.int .i64 0) ∧ ∃ m', w.heap.size ≤ m' ∧
      Dc w' p (.slice (some ⟨a, 0, none⟩) n ca) (.slice (some ⟨b, 0, none⟩) n cb) m' (ops + 1) cut false ∧ Row w' a ca now ∧ Row w' b cb (layAll kept L) ∧ Mp w' m' [] ∧ Fr [p, b] w w' := by
  have hpm : p ≠ m := fun e => by subst e; rw [Mp] at hm; rw [Dc] at h; rw [hm] at h; cases h
  have hpa : p ≠ a := fun e => by obtain ⟨cur, hg, _⟩ := hra; subst e; rw [Dc] at h; rw [hg] at h; cases h
  have hpb : p ≠ b := fun e => by obtain ⟨cur, hg, _⟩ := hrb; subst e; rw [Dc] at h; rw [hg] at h; cases h
  have hmb : m ≠ b := fun e => by obtain ⟨cur, hg, _⟩ := hrb; subst e; rw [Mp] at hm; rw [hg] at hm; cases hm
  have hops' : decide ((1048576 : Int) ≤ ops) = false := decide_eq_false (by omega)
  have hwr : wrap64 (ops + 1) = ops + 1 := by unfold wrap64; omega
  have H1 := hid (loses_any w p _ _ m ops cut gone h)
  rw [hlost] at H1
  have HRa := hid hra
  have HRb := hid hrb
  have HM := hid hm
  have HL := hid hL
  have HLn := hid hLn
  clear h hra hrb hm hL hLn hops hops0
  go_enter Tryz.func112, Tryz.ntmps112
  go_wp2_with fail
  refine H1.out.mono ?_
  clear H1
  rintro e w1 ⟨rfl, hD1, hF1⟩
  have HRa1 := hid (HRa.out.fr hF1 (by simpa using hpa.symm))
  have HRb1 := hid (HRb.out.fr hF1 (by simpa using hpb.symm))
  have HM1 : Hid (Mp w1 m L) := hid (hF1.at HM.out (by simpa using hpm.symm))
  have h2 := hD1.c2
  have h3 := hD1.c3
  have hlen := len_map HM1.out
  have HD1 := hid hD1
  have HF1 := hid hF1
  clear HRa HRb HM hD1 hF1
  go_upto_region 8 with fail
  go_loopw [18, 3] (fun x _ wr => ∃ k : Nat, k ≤ L.length ∧ x = .int .i64 k ∧ Dc wr p (.slice (some ⟨a, 0, none⟩) n ca) (.slice (some ⟨b, 0, none⟩) n cb) m ops cut false ∧ Row wr a ca now ∧ Row wr b cb (layAll kept (L.take k)) ∧ Mp wr m L ∧ Fr [p, b] w wr) (fun x _ _ => L.length - (intOf x).toNat)
  case atStart => exact ⟨0, Nat.zero_le _, rfl, HD1.out, HRa1.out, HRb1.out, HM1.out, HF1.out.mono (by simp)⟩
  case round =>
    obtain ⟨k, hk, rfl, hDr, hRar, hRbr, hmr, hFr⟩ := hrel
    have HLn' := HLn.out
    have hwk : IntKind.i64.wrap ((k : Int) + 1) = ((k + 1 : Nat) : Int) := by rw [IntWalk.i64_in _ ⟨by omega, by omega⟩]; omega
    clear HLn' h2 h3 hlen
    by_cases hlt : k < L.length
    · have hmes : L.length - ((k + 1 : Nat) : Int).toNat < L.length - (k : Int).toNat := by omega
      obtain ⟨⟨i, l⟩, hx⟩ : ∃ x, L[k]? = some x := ⟨_, List.getElem?_eq_getElem hlt⟩
      obtain ⟨hi, hl⟩ := HL.out (i, l) (List.mem_of_getElem? hx)
      obtain ⟨cur, hgr, hzr, hcr, hxr, hcsr⟩ := hRbr
      have hlen : (layAll kept (L.take k)).length = n := by rw [layAll_len, hn]
      have hlt' : (k : Int) < (L.length : Int) := by omega
      have H := And.intro hcr (And.intro hxr hcsr)
      have HH := hid H
      have Hmr := hid hmr
      have HFr := hid hFr
      have HRar := hid hRar
      clear H hcr hxr hcsr hFr hRar
      go_upto_region 10 with fail
      refine h_openL (S := fun w' => w'.heap[p]? = wr.heap[p]? ∧ w'.heap[m]? = wr.heap[m]?) (by kernel_rfl) (by kernel_rfl) (fun _ _ _ _ _ h => h) (L := #[false, false, false, false, false, false, false, false, false, false, false]) (by kernel_rfl) ?_
      intro Q' hns hP hN
      have hS := (show wr.drew.heap[p]? = wr.heap[p]? ∧ wr.drew.heap[m]? = wr.heap[m]? from ⟨rfl, rfl⟩)
      refine h_takeL (i := 0) (v := .pointer (some ⟨p, 0, none⟩)) hns rfl rfl (by kernel_rfl) (by kernel_rfl) hP (y_move rfl) hS rfl (L' := #[true, false, false, false, false, false, false, false, false, false, false]) (by kernel_rfl) ?_
      refine h_takeL (i := 1) (v := .pointer (some ⟨p, 0, none⟩)) hns rfl rfl (by kernel_rfl) (by kernel_rfl) hP (y_nil rfl) hS rfl (L' := #[true, true, false, false, false, false, false, false, false, false, false]) (by kernel_rfl) ?_
      refine h_takeL (i := 2) (v := .pointer (some ⟨p, 2, none⟩)) hns rfl rfl (by kernel_rfl) (by kernel_rfl) hP (y_faddr rfl (hf := fa67_2 (p))) hS rfl (L' := #[true, true, true, false, false, false, false, false, false, false, false]) (by kernel_rfl) ?_
      refine h_takeL (i := 3) (v := .map (some m)) hns rfl rfl (by kernel_rfl) (by kernel_rfl) hP (y_load rfl (hl := fun w h => load1 Tryz.isAgg100 (cell_at (h.1.trans hDr) 2 rfl))) hS rfl (L' := #[true, true, true, true, false, false, false, false, false, false, false]) (by kernel_rfl) ?_
      refine h_takeL (i := 4) (v := .int .i64 k) hns rfl rfl (by kernel_rfl) (by kernel_rfl) hP (y_move rfl) hS rfl (L' := #[true, true, true, true, true, false, false, false, false, false, false]) (by kernel_rfl) ?_
      refine h_takeL (i := 5) (v := wv (i, l)) hns rfl rfl (by kernel_rfl) (by kernel_rfl) hP (y_look rfl (by kernel_rfl) (by kernel_rfl) (by kernel_rfl) (fun w' h => look_in0 (w := w') (h.2.trans hmr) k (i, l) hx)) hS rfl (L' := #[true, true, true, true, true, true, false, false, false, false, false]) (by kernel_rfl) ?_
      refine h_takeL (i := 6) (v := .pointer (some ⟨p, 0, none⟩)) hns rfl rfl (by kernel_rfl) (by kernel_rfl) hP (y_move rfl) hS rfl (L' := #[true, true, true, true, true, true, true, false, false, false, false]) (by kernel_rfl) ?_
      simp only [List.setIfInBounds_toArray, List.set_cons_zero, List.set_cons_succ]
      refine h_takeL (i := 7) (v := .pointer (some ⟨p, 0, none⟩)) hns rfl rfl (by kernel_rfl) (by kernel_rfl) hP (y_nil rfl) hS rfl (L' := #[true, true, true, true, true, true, true, true, false, false, false]) (by kernel_rfl) ?_
      refine h_takeL (i := 8) (v := .pointer (some ⟨p, 1, none⟩)) hns rfl rfl (by kernel_rfl) (by kernel_rfl) hP (y_faddr rfl (hf := fa67_1 (p))) hS rfl (L' := #[true, true, true, true, true, true, true, true, true, false, false]) (by kernel_rfl) ?_
      refine h_takeL (i := 9) (v := .slice (some ⟨b, 0, none⟩) n cb) hns rfl rfl (by kernel_rfl) (by kernel_rfl) hP (y_load rfl (hl := fun w h => load1 Tryz.isAgg99 (cell_at (h.1.trans hDr) 1 rfl))) hS rfl (L' := #[true, true, true, true, true, true, true, true, true, true, false]) (by kernel_rfl) ?_
      refine h_callL (i := 10) (f := 66) (args := #[wv (i, l), .slice (some ⟨b, 0, none⟩) n cb]) (by kernel_rfl) rfl rfl (by kernel_rfl) (enter_go rfl (by kernel_rfl) (fun w => by go_simp)) (L' := #[true, true, true, true, true, true, true, true, true, true, true]) (by kernel_rfl) ?_
      refine (lay_w i l b n cb cur wr.drew hl hi hgr (by rw [← hlen]; exact hzr)).mono ?_
      rintro e w4 ⟨rfl, rfl⟩
      have hF4 := lay_fr wr b cur i l
      refine ⟨.tuple #[], rfl, ⟨hF4.block p (heap_lt hDr) (by simpa using hpb), hF4.block m (heap_lt hmr) (by simpa using hmb)⟩, ?_⟩
      simp only [List.setIfInBounds_toArray, List.set_cons_zero, List.set_cons_succ]
      refine wpAnyH_done (by kernel_rfl) ?_ _
      refine hN _ _ ?_
      clear hP hN hns
      have hRb4 := lay_row (w := wr.drew) (ss := layAll kept (L.take k)) hgr hzr HH.out.1 HH.out.2.1 HH.out.2.2 i (by rw [hlen]; exact hi) l hl
      have hs : (layAll kept (L.take k)).set i l = layAll kept (L.take (k + 1)) := (layAll_take kept L k (i, l) hx).symm
      rw [hs] at hRb4
      have hD4 := hDr.fr hF4 (by simpa using hpb)
      have hm4 : Mp (laidW wr.drew b cur i l) m L := hF4.at Hmr.out (by simpa using hmb)
      have hRa4 := HRar.out.fr hF4 (by simpa using hab)
      have hF4' : Fr [p, b] w (laidW wr.drew b cur i l) := HFr.out.trans hF4 (by simp)
      clear hDr hmr hF4 hS hgr hzr HH Hmr HRar HFr hs
      generalize laidW wr.drew b cur i l = w4 at *
      go_upto_region 11 with fail
      refine wp_region_lit ?_
      refine wp_addi (z := ((k + 1 : Nat) : Int)) (by kernel_rfl) (by kernel_rfl) hwk ?_
      refine wp_move (v := .int .i64 (k + 1 : Nat)) (by kernel_rfl) ?_
      dsimp only [Act.put]
      simp only [List.setIfInBounds_toArray, List.set_cons_zero, List.set_cons_succ]
      refine wp_end ?_
      go_wp2_with fail
      go_roundw
      case rel => exact ⟨k + 1, hlt, rfl, hD4, hRa4, hRb4, hm4, hF4'⟩
      case measure => exact hmes
    · obtain rfl : k = L.length := by omega
      rw [List.take_length] at hRbr
      have hlt' : ¬ (L.length : Int) < (L.length : Int) := by omega
      have hFa : Fr [] wr (wr.alloc (.map #[] 0)) := Fr.alloc _ _
      have hDa := hDr.fr hFa (by simp)
      have c2' := hDa.c2
      have f2' := hDa.f 2
      go_upto_region 12 with fail
      refine wp_region_lit ?_
      refine wp_move (v := .pointer (some ⟨p, 0, none⟩)) (by kernel_rfl) ?_
      refine wp_makeMap (makeMap65 wr) ?_
      refine wp_nil (v := ⟨p, 0, none⟩) (by kernel_rfl) ?_
      refine wp_faddr (by kernel_rfl) (fa67_2 (p) _) ?_
      refine wp_store (by kernel_rfl) (by kernel_rfl) (store1 (t := 100) Tryz.sizeOf100 (.map (some wr.heap.size)) rfl rfl c2' f2') ?_
      dsimp only [Act.put]
      simp only [List.setIfInBounds_toArray, List.set_cons_zero, List.set_cons_succ]
      refine wp_end ?_
      have hDb : Dc ((wr.alloc (.map #[] 0)).setCell ⟨p, 2, none⟩ (.map (some wr.heap.size))) p (.slice (some ⟨a, 0, none⟩) n ca) (.slice (some ⟨b, 0, none⟩) n cb) wr.heap.size ops cut false := heap_setCell hDa 2 _
      have hFb : Fr [p] wr ((wr.alloc (.map #[] 0)).setCell ⟨p, 2, none⟩ (.map (some wr.heap.size))) := (hFa.mono (by simp)).trans (Fr.setCell _ p 2 _) (by simp)
      have hmp : wr.heap.size ≠ p := by have := heap_lt hDr; omega
      have hmb' : Mp ((wr.alloc (.map #[] 0)).setCell ⟨p, 2, none⟩ (.map (some wr.heap.size))) wr.heap.size [] := (Fr.setCell (wr.alloc (.map #[] 0)) p 2 (.map (some wr.heap.size))).at (heap_alloc_last wr (.map #[] 0)) (by simpa using hmp)
      have hRab := hRar.fr hFb (by simpa using hpa.symm)
      have hRbb := hRbr.fr hFb (by simpa using hpb.symm)
      have hFw := hFr.trans hFb (by simp)
      have hsz : w.heap.size ≤ wr.heap.size := hFr.size
      clear hDr hRar hRbr hmr hFr hFa hDa c2' f2' hFb
      generalize wr.heap.size = m' at *
      generalize (wr.alloc (.map #[] 0)).setCell ⟨p, 2, none⟩ (.map (some m')) = w5 at *
      have h3 := hDb.c3
      have f3 := hDb.f 3
      go_wp2
      go_ret
      exact ⟨rfl, m', hsz, heap_setCell hDb 3 _, hRab.fr (Fr.setCell w5 p 3 _) (by simpa using hpa.symm), hRbb.fr (Fr.setCell w5 p 3 _) (by simpa using hpb.symm), (Fr.setCell w5 p 3 _).at hmb' (by simpa using hmp), hFw.trans (Fr.setCell w5 p 3 _) (by simp)⟩
end Go.Proofs.YtcmgclkbhhdnaaaGreatDoor
namespace Go.Proofs.YtcmgclkbhhdnaaaGreatDoor
open Go Go.RowKit

def flat (ss : List (List UInt8)) : List Value := (ss.map cells8).flatten
theorem flat_len : ∀ (ss : List (List UInt8)), (∀ s ∈ ss, s.length = 128) → (flat ss).length = ss.length * 128
  | [], _ => rfl
  | s :: r, h => by
    have ih := flat_len r (fun x hx => h x (List.mem_cons_of_mem _ hx))
    have h0 := h s List.mem_cons_self
    simp only [flat, List.map_cons, List.flatten_cons, List.length_append, cells8_len, List.length_cons] at ih ⊢
    rw [ih, h0]; omega
theorem flat_get : ∀ (ss : List (List UInt8)), (∀ s ∈ ss, s.length = 128) → ∀ i s, ss[i]? = some s → ∀ j v, (cells8 s)[j]? = some v → (flat ss)[i * 128 + j]? = some v
  | [], _, i, s, hs, _, _, _ => by simp at hs
  | t :: r, h, i, s, hs, j, v, hj => by
    have h0 := h t List.mem_cons_self
    have hfl : flat (t :: r) = cells8 t ++ flat r := by simp [flat]
    rw [hfl]
    rcases i with _ | i
    · simp at hs; subst hs
      rw [List.getElem?_append_left (by have := (List.getElem?_eq_some_iff.1 hj).1; omega)]
      simpa using hj
    · have ih := flat_get r (fun x hx => h x (List.mem_cons_of_mem _ hx)) i s (by simpa using hs) j v hj
      rw [List.getElem?_append_right (by rw [cells8_len, h0]; omega), cells8_len, h0]
      have : (i + 1) * 128 + j - 128 = i * 128 + j := by omega
      rw [this]; exact ih
theorem flat_one (ss : List (List UInt8)) : ∀ v ∈ flat ss, v.oneCell' = true := by
  intro v hv
  obtain ⟨l, hl, hv⟩ := List.mem_flatten.1 hv
  obtain ⟨s, _, rfl⟩ := List.mem_map.1 hl
  exact cells8_one s v hv
theorem flat_at (ss : List (List UInt8)) (h : ∀ s ∈ ss, s.length = 128) (k : Nat) (v : Value) (hk : (flat ss)[k]? = some v) : ∃ i j s, k = i * 128 + j ∧ ss[i]? = some s ∧ (cells8 s)[j]? = some v := by
  have hlt : k < ss.length * 128 := by have := (List.getElem?_eq_some_iff.1 hk).1; rwa [flat_len ss h] at this
  have hi : k / 128 < ss.length := by omega
  have hs : (cells8 ss[k / 128]).length = 128 := by rw [cells8_len]; exact h _ (List.getElem_mem hi)
  have hj : k % 128 < (cells8 ss[k / 128]).length := by omega
  refine ⟨k / 128, k % 128, ss[k / 128], by omega, List.getElem?_eq_getElem hi, ?_⟩
  have hg := flat_get ss h (k / 128) _ (List.getElem?_eq_getElem hi) (k % 128) _ (List.getElem?_eq_getElem hj)
  have e : k / 128 * 128 + k % 128 = k := by omega
  rw [e, hk] at hg
  rw [hg]; exact List.getElem?_eq_getElem hj

theorem row_lens {w : World} {g cap : Nat} {ss : List (List UInt8)} (h : Row w g cap ss) : ∀ s ∈ ss, s.length = 128 := by
  obtain ⟨cur, _, _, _, _, hc⟩ := h
  intro s hs
  obtain ⟨i, hi⟩ := List.getElem?_of_mem hs
  exact (hc i s hi).1
theorem row_cells {w : World} {g cap : Nat} {ss : List (List UInt8)} (h : Row w g cap ss) : ∀ j u, (flat ss)[j]? = some u → w.cell? ⟨g, j, none⟩ = some u := by
  intro j u hj
  obtain ⟨i, k, s, rfl, hs, hv⟩ := flat_at ss (row_lens h) j u hj
  obtain ⟨cur, hg, _, _, _, hc⟩ := h
  exact cell_at hg _ ((hc i s hs).2 k u hv)
theorem row_of_owns {w : World} {B n : Nat} {v : Value} {ss : List (List UInt8)} (hl : ∀ s ∈ ss, s.length = 128) (hn : ss.length = n) (h0 : n ≠ 0) (h : w.ownsRow B 120 128 v n (flat ss)) :
    ∃ g cap, v = .slice (some ⟨g, 0, none⟩) n cap ∧ B ≤ g ∧ Row w g cap ss := by
  rcases h.2 with ⟨_, hz⟩ | ⟨g, cap, cur, rfl, hb, hg, r1, r2, r3, r4⟩
  · exact absurd hz h0
  · refine ⟨g, cap, rfl, hb, cur, hg, by rw [hn, r3]; exact Nat.mul_le_mul_right _ r1, by omega, r2, fun i s hs => ⟨hl s (List.mem_of_getElem? hs), fun j u hj => ?_⟩⟩
    have hk := flat_get ss hl i s hs j u hj
    rw [← r4, List.getElem?_take] at hk
    split at hk
    · simpa using hk
    · cases hk

theorem info70 : (Tryz.prog.info? 120).map (fun i => (i.zero, i.size, i.bytes)) = some (some (.agg Tryz.zeroCells120), 128, 128) := by kernel_rfl

set_option maxRecDepth 100000 in
set_option maxHeartbeats 1000000 in
theorem clone_any (w : World) (b n cb : Nat) (ss : List (List UInt8)) (hr : Row w b cb ss) (hn : ss.length = n) (h0 : n ≠ 0) (hb : n ≤ 16384) :
    Calls Tryz.prog 63 #[.slice (some ⟨b, 0, none⟩) n cb] w fun e w' => ∃ g cap, e = .returned (.slice (some ⟨g, 0, none⟩) n cap) ∧ w.heap.size ≤ g ∧ Row w' g cap ss ∧ Below w.heap.size w w' := by
  obtain ⟨i0, hi, hz0, hz1, hz2⟩ := info_parts info70
  have hl := row_lens hr
  have hfl := flat_len ss hl
  have HC := hid (row_cells hr)
  have q58 : ∀ (w : World) (a : Option Addr) (n c n' c' : Nat), (binOp .eql 99 (.slice a n c) (.slice none n' c')).run Tryz.prog w = .ok (.bool a.isNone) w := fun w a n c n' c' => Lib.run_eql_slice_nil w _ _ a n c n' c' Tryz.underlying99
  clear hr
  go_enter Tryz.func63, Tryz.ntmps63
  go_wp2_with (at_builtin; refine wpList_append_own _ rfl _ _ 99 rfl w.heap.size 120 i0 (.agg Tryz.zeroCells120) 128 128 Tryz.underlying99 hi hz0 hz1 hz2 zc70 (by decide) _ _ _ rfl (World.ownsRow_made w #[] 0 (Nat.le_refl _) (Nat.zero_le _) (by simp)) ⟨b, 0, none⟩ n cb (flat ss) rfl ?qc1 ?qc2 (flat_one ss) ?qc4 ?qc5 ?qc6 ?_)
  case qc1 => rw [hfl, hn]
  case qc2 =>
    intro j u hj
    rw [Addr.add_lit, Nat.zero_add]
    exact Lib.cell?_alloc_some _ (HC.out j u hj)
  case qc4 => rw [Nat.zero_add]; unfold maxLen; omega
  case qc5 => rw [Nat.zero_add]; omega
  case qc6 => simp
  intro v' w1 hown hgrow hnil
  have HB := hid (((Below.refl _ w).alloc (Nat.le_refl _) _).grown hgrow (by simp) (by intro k hk; simp [Value.ownBlock] at hk; omega))
  try simp only [Nat.zero_add, List.nil_append] at hown
  obtain ⟨g, cap, rfl, hg, hrow⟩ := row_of_owns hl hn h0 hown
  have HR := hid hrow
  clear hown hgrow hrow hnil
  go_wp2
  go_ret
  exact ⟨g, cap, rfl, hg, HR.out, HB.out⟩

set_option maxRecDepth 100000 in
set_option maxHeartbeats 1000000 in
theorem holding_any (w : World) (b n cb : Nat) (ss : List (List UInt8)) (hr : Row w b cb ss) (hn : ss.length = n) (h0 : n ≠ 0) (hb : n ≤ 16384) :
    Calls Tryz.prog 67 #[.slice (some ⟨b, 0, none⟩) n cb] w fun e w' => ∃ p a ca m, e = .returned (.pointer (some ⟨p, 0, none⟩)) ∧ Dc w' p (.slice (some ⟨a, 0, none⟩) n ca) (.slice (some ⟨b, 0, none⟩) n cb) m 0 (-1) false ∧
      Row w' a ca ss ∧ Row w' b cb ss ∧ Mp w' m [] ∧ w.heap.size ≤ p ∧ w.heap.size ≤ a ∧ w.heap.size ≤ m ∧ Below w.heap.size w w' := by
  have H := hid (clone_any w b n cb ss hr hn h0 hb)
  have HR := hid hr
  have hmk := makeMap65
  clear hr
  go_enter Tryz.func67, Tryz.ntmps67
  go_wp2_with fail
  refine H.out.mono ?_
  rintro e w1 ⟨g, cap, rfl, hg, hrow, hB⟩
  have HR1 := hid hrow
  have HB := hid hB
  clear hrow hB H
  go_wp2
  go_ret
  have hB1 : Below w1.heap.size w1 (w1.alloc (.map #[] 0)) := (Below.refl _ _).alloc (Nat.le_refl _) _
  have hs1 : (w1.alloc (.map #[] 0)).heap.size = w1.heap.size + 1 := by simp
  have hB2 : ∀ o, Below w1.heap.size w1 ((w1.alloc (.map #[] 0)).alloc o) := fun o => hB1.alloc (by rw [hs1]; omega) _
  have hsz := HB.out.size
  refine ⟨_, g, cap, w1.heap.size, rfl, ?_, HR1.out.below (hB2 _) HR1.out.lt, HR.out.below (HB.out.trans ((hB2 _).mono hsz)) HR.out.lt, ?_, ?_, hg, hsz, HB.out.trans ((hB2 _).mono hsz)⟩
  · have := heap_alloc_last (w1.alloc (.map #[] 0)) (.cells #[.slice (some ⟨g, 0, none⟩) n cap, .slice (some ⟨b, 0, none⟩) n cb, .map (some w1.heap.size), .int .i64 0, .int .i64 (-1), .bool false] 102)
    rw [hs1] at this
    exact this
  · exact (Below.heap_alloc _ _ _ (by rw [hs1]; omega)).trans (heap_alloc_last w1 (.map #[] 0))
  · omega

/-- Sectors of noughts. -/
def noughts (n : Nat) : List (List UInt8) := List.replicate n (List.replicate 128 0)
theorem zc_eq : Tryz.zeroCells120 = (List.replicate 128 (Value.int .u8 0)).toArray := by kernel_rfl
theorem made_get (n k : Nat) (h : k < n * 128) : (madeCells Tryz.zeroCells120 (n * 128)).toList[k]? = some (.int .u8 0) := by
  have hm : k % 128 < 128 := Nat.mod_lt _ (by omega)
  have h1 : Tryz.zeroCells120[k % Tryz.zeroCells120.size]! = .int .u8 0 := by
    rw [zc70, zc_eq]
    rw [getElem!_pos _ _ (by simp only [List.size_toArray, List.length_replicate]; exact hm)]
    simp only [List.getElem_toArray, List.getElem_replicate]
  have h2 : (madeCells Tryz.zeroCells120 (n * 128))[k]? = some (.int .u8 0) := by
    unfold madeCells
    rw [Array.getElem?_map, Array.getElem?_eq_getElem (by simpa using h)]
    simp only [Option.map_some, Array.getElem_range]
    rw [h1]
  simpa using h2
theorem row_made {w : World} {g n B : Nat} (h0 : n ≠ 0) (h : w.ownsRow B 120 128 (.slice (some ⟨g, 0, none⟩) n n) n (madeCells Tryz.zeroCells120 (n * 128)).toList) : Row w g n (noughts n) := by
  rcases h.2 with ⟨_, hz⟩ | ⟨g', cap, cur, he, hb, hg, r1, r2, r3, r4⟩
  · exact absurd hz h0
  · cases he
    refine ⟨cur, hg, by simp only [noughts, List.length_replicate]; exact Nat.le_of_eq r3.symm, by simp [noughts], r2, fun i s hs => ?_⟩
    have hi : i < n := by have := (List.getElem?_eq_some_iff.1 hs).1; simpa [noughts] using this
    have hs' : s = List.replicate 128 0 := by
      have := List.mem_of_getElem? hs
      exact List.eq_of_mem_replicate this
    subst hs'
    refine ⟨by simp, fun j v hj => ?_⟩
    have hj' : j < 128 := by have := (List.getElem?_eq_some_iff.1 hj).1; rw [cells8_len] at this; simpa using this
    have hv : v = .int .u8 0 := by
      have := List.mem_of_getElem? hj
      obtain ⟨x, hx, rfl⟩ := List.mem_map.1 this
      rw [List.eq_of_mem_replicate hx]; rfl
    subst hv
    have hk := made_get n (i * 128 + j) (by omega)
    rw [← r4, List.getElem?_take] at hk
    split at hk
    · simpa using hk
    · cases hk

set_option maxRecDepth 100000 in
set_option maxHeartbeats 1000000 in
theorem new_ok (w : World) (n : Nat) (h0 : n ≠ 0) (hn : n ≤ 16384) :
    Calls Tryz.prog 30 #[.int .i64 n] w fun e w' => ∃ p a ca b cb m, e = .returned (.tuple #[.pointer (some ⟨p, 0, none⟩), .int .i64 0]) ∧ Dc w' p (.slice (some ⟨a, 0, none⟩) n ca) (.slice (some ⟨b, 0, none⟩) n cb) m 0 (-1) false ∧
      Row w' a ca (noughts n) ∧ Row w' b cb (noughts n) ∧ Mp w' m [] ∧ w.heap.size ≤ p ∧ w.heap.size ≤ a ∧ w.heap.size ≤ b ∧ w.heap.size ≤ m ∧ a ≠ b ∧ Below w.heap.size w w' := by
  obtain ⟨i0, hi, hz0, hz1, hz2⟩ := info_parts info70
  obtain ⟨X, hX⟩ : ∃ X : Int, X = n := ⟨_, rfl⟩
  have d1 : decide (X < 1) = false := decide_eq_false (by omega)
  have d2 : decide (16384 < X) = false := decide_eq_false (by omega)
  have HX := hid hX
  have HN := hid hn
  rw [← hX]
  clear hX hn
  go_enter Tryz.func30, Tryz.ntmps30
  go_wp2_with (at_make; refine wpList_make_full _ rfl _ _ 99 rfl w.heap.size 120 i0 (.agg Tryz.zeroCells120) 128 Tryz.underlying99 hi hz0 hz1 _ _ _ _ n rfl rfl HX.out HX.out ?m1 ?m2 (Nat.le_refl _) ?_)
  case m1 => rw [hz2]; have := HN.out; omega
  case m2 => have := HN.out; unfold maxLen; omega
  intro w1 hown hgrow
  have hrow := row_made h0 hown
  have hg := hrow.lt
  have HB := hid ((Below.refl _ w).grown hgrow (Nat.le_refl _) (fun k hk => by cases hk))
  have H := hid (holding_any w1 w.heap.size n n (noughts n) hrow (by simp [noughts]) h0 HN.out)
  clear hown hgrow hrow
  go_wp2_with fail
  refine H.out.mono ?_
  rintro e w2 ⟨p, a, ca, m, rfl, hD, hRa, hRb, hM, h1, h2, h3, hB⟩
  have HH := hid (And.intro hD (And.intro hRa (And.intro hRb (And.intro hM hB))))
  clear hD hRa hRb hM hB H
  go_wp2
  go_ret2
  obtain ⟨hD, hRa, hRb, hM, hB⟩ := HH.out
  have hs := HB.out.size
  exact ⟨p, a, ca, w.heap.size, n, m, rfl, hD, hRa, hRb, hM, by omega, by omega, Nat.le_refl _, by omega, by omega, HB.out.trans (hB.mono hs)⟩
end Go.Proofs.YtcmgclkbhhdnaaaGreatDoor
namespace Go.Proofs.YtcmgclkbhhdnaaaGreatDoor
open Go Go.RowKit Go.Shelf Go.Sort

attribute [local go_sem] Oper.semAt_some

theorem info3 : (Tryz.prog.info? 3).map (fun i => (i.zero, i.size, i.bytes)) = some (some (.int .i64 0), 1, 8) := by kernel_rfl

/-- The slice v reads as the numbers zs, in a block below n₀. -/
def Ints (n₀ : Nat) (W : World) (a : Option Addr) (len : Nat) (zs : List Int) : Prop :=
  zs.length = len ∧ (len ≠ 0 → ∃ b off, a = some ⟨b, off, none⟩ ∧ b < n₀ ∧ ∀ j, j < zs.length → W.cell? ⟨b, off + j, none⟩ = some (.int .i64 (zs[j]?.getD 0)))
theorem Ints.below {n₀ : Nat} {A B : World} {a : Option Addr} {len : Nat} {zs : List Int} (h : Ints n₀ A a len zs) (hB : Below n₀ A B) : Ints n₀ B a len zs :=
  ⟨h.1, fun hl => by obtain ⟨b, off, e, hb, hc⟩ := h.2 hl; exact ⟨b, off, e, hb, fun j hj => (hB.cell (p := ⟨b, off + j, none⟩) hb).trans (hc j hj)⟩⟩

theorem Ints.fr {X : List Nat} {A B : World} {a : Option Addr} {len : Nat} {zs : List Int} (h : Ints A.heap.size A a len zs) (hF : Fr X A B) (hX : ∀ ad, a = some ad → ad.block ∉ X) : Ints B.heap.size B a len zs :=
  ⟨h.1, fun hl => by
    obtain ⟨b, off, e, hb, hc⟩ := h.2 hl
    exact ⟨b, off, e, Nat.lt_of_lt_of_le hb hF.size, fun j hj => by
      rw [← hc j hj]
      exact World.cell?_of_block (w := A) (hF.block b hb (hX _ e))⟩⟩

set_option maxRecDepth 100000 in
set_option maxHeartbeats 2000000 in
theorem vals1_in (F : Fence) (n : Nat) (hf : F.fn 98) (hro : F.round = none) (hn : 1 ≤ n) (l Bs n₀ : Nat) (a : Option Addr) (len cap : Nat) (zs : List Int) (hreach : len * 8 ≤ 140737488351232) (J Jx : List Int → World → Prop)
    (hY : ∀ pre x W, J pre W → pre.length < len → YieldAt F (n - 1) Tryz.prog l #[.int .i64 x] W fun e W' =>
      (e = .returned (.bool true) ∧ J (pre ++ [x]) W' ∧ Below n₀ W W') ∨ (e = .returned (.bool false) ∧ Jx (pre ++ [x]) W'))
    (W : World) (hBs : W.cell? ⟨Bs, 0, none⟩ = some (.slice a len cap)) (hI : Ints n₀ W a len zs) (h0 : J [] W) :
    CallsIn F n Tryz.prog 98 #[.func (.yield l) #[] #[], .pointer (some ⟨Bs, 0, none⟩)] W fun e W' => (∃ v, e = .returned v) ∧
      (J zs W' ∨ (∃ pre, pre <+: zs ∧ Jx pre W')) := by
  obtain ⟨hl, hc⟩ := hI
  refine callsIn_of_wp Tryz.func98 rfl hf ?_ hro
  simp only [Tryz.ntmps98, List.size_toArray, List.length_cons, List.length_nil, Nat.reduceAdd, Nat.reduceSub, Array.replicate_succ, Array.replicate_zero, List.push_toArray, List.append_toArray, List.nil_append, List.cons_append]
  gi_wp2
  gi_loopw [7] (fun i wr => ∃ k : Nat, k ≤ len ∧ i = .int .i64 k ∧ J (zs.take k) wr ∧ Below n₀ W wr)
    (fun i _ => len - (intOf i).toNat)
  case atStart => exact ⟨0, Nat.zero_le _, rfl, h0, Below.refl _ _⟩
  case round =>
    obtain ⟨k, hk, rfl, hJs, hnx⟩ := hrel
    by_cases hlt : k < len
    · obtain ⟨b, off, rfl, hb, hcs⟩ := hc (by omega)
      have hcx : wr.cell? ⟨b, off + k, none⟩ = some (.int .i64 (zs[k]?.getD 0)) := (hnx.cell (p := ⟨b, off + k, none⟩) hb).trans (hcs k (by omega))
      obtain ⟨fn, tmps, assign, body, hy, hR⟩ := hY _ (zs[k]?.getD 0) wr hJs (by rw [List.length_take]; omega)
      have hz : zs.take k ++ [zs[k]?.getD 0] = zs.take (k + 1) := by
        rw [List.take_add_one]
        have : zs[k]? = some (zs[k]?.getD 0) := by rw [List.getElem?_eq_getElem (by omega)]; rfl
        rw [this]; rfl
      rw [hz] at hR
      clear hz
      generalize zs[k]?.getD 0 = z at hcx hy hR
      gi_wp2
      refine hR.mono ?_
      rintro e W3 (⟨rfl, hJ3, hk3⟩ | ⟨rfl, hJx3⟩)
      · gi_wp2
        go_roundw
        case rel => exact ⟨k + 1, by omega, by simp, hJ3, hnx.trans hk3⟩
        case measure => simp [intOf]; omega
      · gi_wp2
        refine bodyPost_ret (results_none rfl _ _ _) rfl ?_
        exact ⟨⟨_, rfl⟩, .inr ⟨_, List.take_prefix _ _, hJx3⟩⟩
    · obtain rfl : k = len := by omega
      rw [← hl, List.take_length] at hJs
      gi_wp2
      go_end0
      exact ⟨⟨_, rfl⟩, .inl hJs⟩

theorem vals_stops (F : Fence) (n : Nat) (hf : F.fn 98) (hro : F.round = none) (hn : 1 ≤ n) (Bs n₀ : Nat) (a : Option Addr) (len cap : Nat) (zs : List Int) (hreach : len * 8 ≤ 140737488351232) (w : World) (hBs : Bs < w.heap.size) (hn₀ : n₀ ≤ w.heap.size)
    (hc : w.cell? ⟨Bs, 0, none⟩ = some (.slice a len cap)) (hI : Ints n₀ w a len zs) :
    SeqStopsK F n Tryz.prog 98 #[.pointer (some ⟨Bs, 0, none⟩)] (fun x : Int => #[Value.int .i64 x]) (Below n₀) (fun ys => ys = zs) (fun pre => pre <+: zs) len w := fun l J Jx W hW _ _ hY h0 => by
  refine (vals1_in F n hf hro hn l Bs n₀ a len cap zs hreach J Jx hY W ((hW.cell (p := ⟨Bs, 0, none⟩) hBs).trans hc) (hI.below (hW.mono hn₀)) h0).mono ?_
  rintro e W' ⟨he, hj | hj⟩
  · exact ⟨he, .inl ⟨_, rfl, hj⟩⟩
  · exact ⟨he, .inr hj⟩

set_option maxRecDepth 100000 in
set_option maxHeartbeats 2000000 in
theorem appSeq_in (F : Fence) (n : Nat) (hA : F.fn 118) (hf : F.fn 98) (hro : F.round = none) (hn : 3 ≤ n) (Bs n₀ : Nat) (a : Option Addr) (len cap : Nat) (zs : List Int) (hreach : len * 8 ≤ 140737488351232) (w : World) (hBs : Bs < w.heap.size) (hn₀ : n₀ ≤ w.heap.size)
    (hc : w.cell? ⟨Bs, 0, none⟩ = some (.slice a len cap)) (hI : Ints n₀ w a len zs) :
    CallsIn F n Tryz.prog 118 #[.slice none 0 0, .func (.func 98) #[] #[.pointer (some ⟨Bs, 0, none⟩)]] w fun e W' => ∃ v, e = .returned v ∧ W'.ownsRow w.heap.size 3 1 v zs.length (zs.map (Value.int .i64)) ∧ Below w.heap.size w W' := by
  have h1 : 1 ≤ n := by omega
  have hlen : zs.length = len := hI.1
  obtain ⟨i0, hi, hz0, hz1, hz2⟩ := info_parts info3
  refine callsIn_of_wp_marks Tryz.func118 rfl hA ?_ hro
  simp only [Tryz.ntmps118, List.size_toArray, List.length_cons, List.length_nil, Nat.reduceAdd, Nat.reduceSub, Array.replicate_succ, Array.replicate_zero, List.push_toArray, List.append_toArray, List.nil_append, List.cons_append]
  gi_wp2
  have bO := Boxed.new w 42 (.slice none 0 0)
  have hB0 : Below w.heap.size w (w.alloc (.cells #[.slice none 0 0] 42)) := (Below.refl _ w).alloc (Nat.le_refl _) _
  refine wpIn_rangeFunc_ownG hro h1 (gf := 98) (lb := #[.pointer (some ⟨Bs, 0, none⟩)]) rfl hf (enters_of Tryz.func98 (by kernel_rfl) rfl)
    (vals_stops F (n - 1) hf hro (by omega) Bs n₀ a len cap zs hreach _ (by simp; omega) (by simp; omega) ((hB0.cell (p := ⟨Bs, 0, none⟩) hBs).trans hc) (hI.below (hB0.mono hn₀))) belowK_t (belowK_b (by simp; omega)) (Below.refl _ _) (fun _ => rfl)
    (fun pre W => (∃ v, Boxed W w.heap.size 42 v ∧ W.ownsRow w.heap.size 3 1 v pre.length (pre.map (Value.int .i64)) ∧ True) ∧ Below w.heap.size w W)
    (fun _ _ _ => False)
    (OwnFrom.and (Own.from (holdsRow_own w.heap.size w.heap.size 42 3 1 (fun pre : List Int => pre.length) (fun pre => pre.map (Value.int .i64)) (fun _ _ => True)) _) (ownFrom_below (Nat.le_refl _) (by simp)))
    (fun _ _ _ _ _ hs _ _ => hs)
    ⟨⟨_, bO, World.ownsRow_nil _ _ _ _, trivial⟩, hB0⟩
    (fun x => { tmps := #[.slice none 0 0, .func (.func 98) #[] #[.pointer (some ⟨Bs, 0, none⟩)], .pointer (some ⟨w.heap.size, 0, none⟩), undef, .slice none 0 0, .int .i64 x, .func (.func 98) #[] #[.pointer (some ⟨Bs, 0, none⟩)], .int .i64 x, undef, undef, undef, undef, undef], defers := [] }) ?assign ?body ?done ?stop
  case assign =>
    intro l x W K hK
    gi_wp2
    exact hK
  case body =>
    rintro l pre x W ⟨⟨v, hv, hrow, _⟩, hB⟩ hlt
    have hc := hv.cell
    gi_wp2_with (gi_at_builtin; refine wpListIn_append_own _ rfl _ _ 42 rfl w.heap.size 3 i0 (.int .i64 0) 1 8 Tryz.underlying42 hi hz0 hz1 hz2 rfl (by decide) _ _ _ rfl (hrow.alloc _) ⟨W.heap.size, 0, none⟩ 1 1 [.int .i64 x] rfl rfl (cell_one_new _ _ _) (by simp [Value.oneCell']) (by unfold maxLen; omega) (by omega) (by have := hB.size; simp; omega) ?_; intro v' w1 hown' hgrow _; obtain ⟨g', cap', rfl⟩ := ownsRow_succ hown'; obtain ⟨hv1, hv2, hr2, hk2, hb2⟩ := hv.appended (by decide) hrow hB.size (Nat.le_refl _) hown' hgrow; have hc1 := hv1.cell; have hf1 := hv1.frozen)
    exact ⟨hk2.from _, hb2.mono hn₀, ⟨_, hv2, by simpa using hr2, trivial⟩, hB.trans hb2⟩
  case done =>
    rintro D ys W hD rfl ⟨⟨v, hv, hrow, _⟩, hB⟩ hK
    have hc := hv.cell
    gi_wp2
    refine ⟨by simp, .inl ⟨_, _, rfl, run_takeDeferred hK, ?_⟩⟩
    exact ⟨_, results_tmp rfl _ _ _, v, rfl, ownsRow_putObj hrow _ hK rfl, hB.trans (belowK_b (w := w) (Nat.le_refl _) W D _ _ (by simp at hD; omega) hK rfl rfl)⟩
  case stop =>
    rintro D c pre W _ _ h _
    exact h.elim

set_option maxHeartbeats 1000000 in
theorem collect_in (F : Fence) (n : Nat) (hC : F.fn 96) (hA : F.fn 118) (hf : F.fn 98) (hro : F.round = none) (hn : 4 ≤ n) (Bs n₀ : Nat) (a : Option Addr) (len cap : Nat) (zs : List Int) (hreach : len * 8 ≤ 140737488351232) (w : World) (hBs : Bs < w.heap.size) (hn₀ : n₀ ≤ w.heap.size)
    (hc : w.cell? ⟨Bs, 0, none⟩ = some (.slice a len cap)) (hI : Ints n₀ w a len zs) :
    CallsIn F n Tryz.prog 96 #[.func (.func 98) #[] #[.pointer (some ⟨Bs, 0, none⟩)]] w fun e W' => ∃ v, e = .returned v ∧ W'.ownsRow w.heap.size 3 1 v zs.length (zs.map (Value.int .i64)) ∧ Below w.heap.size w W' := by
  have h1 : 1 ≤ n := by omega
  have H := appSeq_in F (n - 1) hA hf hro (by omega) Bs n₀ a len cap zs hreach w hBs hn₀ hc hI
  refine callsIn_of_wp Tryz.func96 rfl hC ?_ hro
  simp only [Tryz.ntmps96, List.size_toArray, List.length_cons, List.length_nil, Nat.reduceAdd, Nat.reduceSub, Array.replicate_succ, Array.replicate_zero, List.push_toArray, List.append_toArray, List.nil_append, List.cons_append]
  gi_wp2_with (gi_at_call 118; refine H.mono ?_; rintro e w' ⟨v, rfl, hrow, hb⟩)
  go_ret
  exact ⟨v, rfl, hrow, hb⟩

/-- The numbers, in their order. -/
def sorted (zs : List Int) : List Int := zs.mergeSort fun x y => decide (x ≤ y)

theorem collect_any (Bs n₀ : Nat) (a : Option Addr) (len cap : Nat) (zs : List Int) (hreach : len * 8 ≤ 140737488351232) (w : World) (hBs : Bs < w.heap.size) (hn₀ : n₀ ≤ w.heap.size)
    (hc : w.cell? ⟨Bs, 0, none⟩ = some (.slice a len cap)) (hI : Ints n₀ w a len zs) :
    Calls Tryz.prog 96 #[.func (.func 98) #[] #[.pointer (some ⟨Bs, 0, none⟩)]] w fun e W' => ∃ v, e = .returned v ∧ W'.ownsRow w.heap.size 3 1 v zs.length (zs.map (Value.int .i64)) ∧ Below w.heap.size w W' :=
  (callsIn_wide (n := 4)).1 (collect_in Fence.wide 4 trivial trivial trivial rfl (Nat.le_refl _) Bs n₀ a len cap zs hreach w hBs hn₀ hc hI)

set_option maxHeartbeats 400000 in
theorem values_any (a : Option Addr) (len cap : Nat) (w : World) :
    Calls Tryz.prog 65 #[.slice a len cap] w fun e w' => e = .returned (.func (.func 98) #[] #[.pointer (some ⟨w.heap.size, 0, none⟩)]) ∧ w' = w.alloc (.cells #[.slice a len cap] 42) := by
  go_enter Tryz.func65, Tryz.ntmps65
  go_wp2
  go_ret
  exact ⟨rfl, rfl⟩

set_option maxHeartbeats 400000 in
theorem sorted_any (Bs n₀ : Nat) (a : Option Addr) (len cap : Nat) (zs : List Int) (hreach : len * 8 ≤ 140737488351232) (w : World) (hBs : Bs < w.heap.size) (hn₀ : n₀ ≤ w.heap.size)
    (hc : w.cell? ⟨Bs, 0, none⟩ = some (.slice a len cap)) (hI : Ints n₀ w a len zs) :
    Calls Tryz.prog 64 #[.func (.func 98) #[] #[.pointer (some ⟨Bs, 0, none⟩)]] w fun e W' => ∃ a' cap', e = .returned (.slice a' len cap') ∧ Ints W'.heap.size W' a' len (sorted zs) ∧ (∀ ad, a' = some ad → w.heap.size ≤ ad.block) ∧ Below w.heap.size w W' := by
  have H := hid (collect_any Bs n₀ a len cap zs hreach w hBs hn₀ hc hI)
  have hlen := hI.1
  clear hc hI
  go_enter Tryz.func64, Tryz.ntmps64
  go_wp2_with fail
  refine H.out.mono ?_
  rintro e W ⟨v, rfl, hrow, hb⟩
  rcases hrow.2 with ⟨rfl, hz⟩ | ⟨gb, cap', cur, rfl, hbase, hgb, r1, r2, r3, r4⟩
  · obtain rfl : len = 0 := by omega
    have hss : zs = [] := List.eq_nil_of_length_eq_zero hz
    subst hss
    go_wp2_with (go_at_call 97; refine (Tryz.slices_Sort_int_none none 0 W).mono ?_; rintro e w' ⟨rfl, rfl⟩)
    go_ret
    exact ⟨none, 0, rfl, ⟨by simp [sorted], fun h => absurd rfl h⟩, (fun ad h => by cases h), hb⟩
  · have hH : Holds (Value.int .i64) W gb 0 zs.toArray := holds_of_block_i hgb (by simpa using r4)
    have hgl : gb < W.heap.size := heap_lt hgb
    have hsz : zs.length < 4611686018427387904 := by omega
    have cS := Tryz.slices_Sort_int gb 0 cap' zs W hH hgl hsz
    have HH := hid (And.intro hrow (And.intro hb (And.intro hgb (And.intro r1 (And.intro r2 (And.intro r3 r4))))))
    rw [hlen] at cS
    rw [hlen]
    clear hrow hb hgb r1 r2 r3 r4 hH
    go_wp2_with (go_at_call 97; refine cS.mono ?_; rintro e w' ⟨rfl, nn, os, rfl⟩)
    go_ret
    obtain ⟨hrow, hb, hgb, r1, r2, r3, r4⟩ := HH.out
    have ho := ownsRow_sorted_i (ss := zs) (ts := sorted zs) (n := nn) (os := os) (by simp [sorted]) hbase hgb r1 r2 r3
    have hB := hb.grown (grownBy_sorted_i (w := W) (g := gb) (n := nn) (os := os) (sorted zs).toArray) hb.size (fun j hj => by cases hj; exact hbase)
    have hsl : (sorted zs).length = len := by simp [sorted, hlen]
    refine ⟨_, cap', rfl, ⟨hsl, fun _ => ⟨gb, 0, rfl, by have := ho.lt gb rfl; exact this.2, fun j hj => ?_⟩⟩, (fun ad h => by cases h; exact hbase), hB⟩
    have hc := ho.cells (g := gb) rfl j (.int .i64 ((sorted zs)[j]?.getD 0)) (by rw [List.getElem?_map, List.getElem?_eq_getElem hj]; rfl)
    rwa [Addr.add_lit] at hc
end Go.Proofs.YtcmgclkbhhdnaaaGreatDoor
namespace Go.Proofs.YtcmgclkbhhdnaaaGreatDoor
open Go Go.RowKit

/-- The write that the number k speaks of is laid. -/
def layOne (L : List (Nat × List UInt8)) (ss : List (List UInt8)) (k : Int) : List (List UInt8) :=
  match (if 0 ≤ k then L[k.toNat]? else none) with
  | some x => ss.set x.1 x.2
  | none => ss
theorem layOne_in {L : List (Nat × List UInt8)} {n : Nat} {x : Nat × List UInt8} (h : L[n]? = some x) (ss : List (List UInt8)) : layOne L ss (n : Int) = ss.set x.1 x.2 := by
  unfold layOne; rw [if_pos (by omega), Int.toNat_natCast, h]
theorem layOne_out {L : List (Nat × List UInt8)} {k : Int} (h : k < 0 ∨ (L.length : Int) ≤ k) (ss : List (List UInt8)) : layOne L ss k = ss := by
  unfold layOne
  by_cases h0 : 0 ≤ k
  · rw [if_pos h0, List.getElem?_eq_none (by omega)]
  · rw [if_neg h0]
theorem layOne_len (L : List (Nat × List UInt8)) (ss : List (List UInt8)) (k : Int) : (layOne L ss k).length = ss.length := by
  unfold layOne; split <;> simp
def crashed (kept : List (List UInt8)) (L : List (Nat × List UInt8)) (zs : List Int) : List (List UInt8) := (sorted zs).foldl (layOne L) kept
theorem laySome_len (L : List (Nat × List UInt8)) (ks : List Int) : ∀ ss, (ks.foldl (layOne L) ss).length = ss.length := by
  induction ks with
  | nil => intro ss; rfl
  | cons k r ih => intro ss; rw [List.foldl_cons, ih, layOne_len]
theorem laySome_take (L : List (Nat × List UInt8)) (ks : List Int) (ss : List (List UInt8)) (k : Nat) (h : k < ks.length) : (ks.take (k + 1)).foldl (layOne L) ss = layOne L ((ks.take k).foldl (layOne L) ss) (ks[k]?.getD 0) := by
  have : ks[k]? = some (ks[k]?.getD 0) := by rw [List.getElem?_eq_getElem h]; rfl
  rw [List.take_add_one, this]; simp
theorem zw_eq : zw = wv (0, List.replicate 128 0) := by
  unfold zw wv
  have : cells8 (List.replicate 128 0) = List.replicate 128 (Value.int .u8 0) := by simp only [cells8, List.map_replicate]; rfl
  rw [this]; rfl

set_option maxRecDepth 100000 in
set_option maxHeartbeats 1600000 in
theorem crash_ok (w : World) (p b n cb m : Nat) (vn : Value) (ops cut : Int) (gone : Bool) (kept : List (List UInt8)) (L : List (Nat × List UInt8)) (a : Option Addr) (len cp : Nat) (zs : List Int)
    (h : Dc w p vn (.slice (some ⟨b, 0, none⟩) n cb) m ops cut gone) (hr : Row w b cb kept) (hn : kept.length = n) (h0 : n ≠ 0) (hb : n ≤ 16384) (hm : Mp w m L) (hL : ∀ x ∈ L, x.1 < n ∧ x.2.length = 128)
    (hI : Ints w.heap.size w a len zs) (hreach : len * 8 ≤ 140737488351232) :
    Calls Tryz.prog 24 #[.pointer (some ⟨p, 0, none⟩), .slice a len cp] w fun e w' => ∃ p' a' ca' b' cb' m', e = .returned (.pointer (some ⟨p', 0, none⟩)) ∧
      Dc w' p' (.slice (some ⟨a', 0, none⟩) n ca') (.slice (some ⟨b', 0, none⟩) n cb') m' 0 (-1) false ∧ Row w' a' ca' (crashed kept L zs) ∧ Row w' b' cb' (crashed kept L zs) ∧ Mp w' m' [] ∧
      w.heap.size ≤ p' ∧ w.heap.size ≤ a' ∧ w.heap.size ≤ b' ∧ w.heap.size ≤ m' ∧ a' ≠ b' ∧ Below w.heap.size w w' := by
  have hlenz := hI.1
  have hsl : (sorted zs).length = len := by simp [sorted, hlenz]
  have c1 := h.c1
  have HD := hid h
  have HM := hid hm
  have HI := hid hI
  have HL := hid hL
  have H1 := hid (clone_any w b n cb kept hr hn h0 hb)
  clear h hr hm hI hL
  go_enter Tryz.func24, Tryz.ntmps24
  go_wp2_with fail
  refine H1.out.mono ?_
  clear H1
  rintro e w1 ⟨g, cap, rfl, hg, hrow, hB1⟩
  have HB1 := hid hB1
  have HR1 := hid hrow
  clear hrow hB1
  go_wp2_with fail
  refine (values_any a len cp w1).mono ?_
  rintro e w2 ⟨rfl, rfl⟩
  have hs2 : (w1.alloc (.cells #[.slice a len cp] 42)).heap.size = w1.heap.size + 1 := by simp
  have hB2 : Below w1.heap.size w1 (w1.alloc (.cells #[.slice a len cp] 42)) := (Below.refl _ _).alloc (Nat.le_refl _) _
  have hsz1 := HB1.out.size
  have hI2 := HI.out.below (HB1.out.trans (hB2.mono hsz1))
  have H3 := hid (sorted_any w1.heap.size w.heap.size a len cp zs hreach (w1.alloc (.cells #[.slice a len cp] 42)) (by rw [hs2]; omega) (by rw [hs2]; omega) (cell_at (heap_alloc_last w1 _) 0 rfl) hI2)
  rw [hs2] at H3
  have HB2 := hid hB2
  clear hI2 hB2 HI
  generalize w1.alloc (.cells #[.slice a len cp] 42) = w2 at *
  go_wp2_with fail
  refine H3.out.mono ?_
  clear H3
  rintro e w3 ⟨a3, cp3, rfl, hI3, hne3, hB3⟩
  have HB3 : Hid (Below w1.heap.size w1 w3) := hid (HB2.out.trans (hB3.mono (by omega)))
  have HI3 := hid hI3
  have HN3 := hid hne3
  have hR3 := HR1.out.below HB3.out HR1.out.lt
  have hgl : g < w1.heap.size := HR1.out.lt
  have hBw3 : Below w.heap.size w w3 := HB1.out.trans (HB3.out.mono hsz1)
  have hD3 : Dc w3 p vn (.slice (some ⟨b, 0, none⟩) n cb) m ops cut gone := below_at hBw3 HD.out (heap_lt HD.out)
  have hM3 : Mp w3 m L := below_at hBw3 HM.out (heap_lt HM.out)
  have hpg : p ≠ g := by have := heap_lt HD.out; omega
  have hmg : m ≠ g := by have := heap_lt HM.out; omega
  have HD3 := hid hD3
  have HM3 := hid hM3
  have HR3 := hid hR3
  have HBw3 := hid hBw3
  clear hI3 hne3 hB3 HB3 HB2 HR1 hR3 hD3 hM3 hBw3 HD HM HB1 c1
  go_upto_region 5 with fail
  go_loopw [21, 7, 8, 9] (fun x _ _ _ wr => ∃ k : Nat, k ≤ len ∧ x = .int .i64 k ∧ Row wr g cap (((sorted zs).take k).foldl (layOne L) kept) ∧ Fr [g] w3 wr) (fun x _ _ _ _ => len - (intOf x).toNat)
  case atStart => exact ⟨0, Nat.zero_le _, rfl, HR3.out, Fr.refl _ _⟩
  case round =>
    obtain ⟨k, hk, rfl, hRr, hFr⟩ := hrel
    have hwk : IntKind.i64.wrap ((k : Int) + 1) = ((k + 1 : Nat) : Int) := by rw [IntWalk.i64_in _ ⟨by omega, by omega⟩]; omega
    have hDr := HD3.out.fr hFr (by simpa using hpg)
    have hMr : Mp wr m L := hFr.at HM3.out (by simpa using hmg)
    by_cases hlt : k < len
    · have hmes : len - ((k + 1 : Nat) : Int).toNat < len - (k : Int).toNat := by omega
      have hlt' : (k : Int) < (len : Int) := by omega
      have hIr := HI3.out.fr hFr (fun ad e => by have := HN3.out ad e; simp; omega)
      obtain ⟨b3, off3, rfl, _, hcs⟩ := hIr.2 (by omega)
      have hcx := hcs k (by rw [hsl]; exact hlt)
      have hstep := laySome_take L (sorted zs) kept k (by rw [hsl]; exact hlt)
      have Hstep := hid hstep
      have HRr := hid hRr
      have HFr := hid hFr
      have HMr := hid hMr
      have HDr := hid hDr
      clear hstep hRr hFr hcs hIr hMr hDr
      generalize (sorted zs)[k]?.getD 0 = z at *
      go_upto_region 7 with fail
      by_cases hin : 0 ≤ z ∧ z < (L.length : Int)
      · obtain ⟨n', rfl⟩ : ∃ n' : Nat, z = n' := ⟨z.toNat, by omega⟩
        obtain ⟨⟨i, l⟩, hx⟩ : ∃ x, L[n']? = some x := ⟨_, List.getElem?_eq_getElem (by omega)⟩
        obtain ⟨hi, hl⟩ := HL.out (i, l) (List.mem_of_getElem? hx)
        have hlook := look_in1 HMr.out n' (i, l) hx
        have hst : (Instr.storeAt 126 (.pointer (some ⟨wr.heap.size, 0, none⟩)) (wv (i, l))).run Tryz.prog (wr.alloc (.cells Tryz.zeroCells126 126)) = .ok () (wr.alloc (.cells (wc (i, l)) 126)) :=
          store_new Tryz.prog wr 126 129 size76 Tryz.zeroCells126 (.int .i64 i :: cells8 l) zc76 (wc_len (i, l) hl) (wc_one (i, l))
        refine wp_region_lit ?_
        refine wp_move (v := .pointer (some ⟨p, 0, none⟩)) (by kernel_rfl) ?_
        refine wp_nil (v := ⟨p, 0, none⟩) (by kernel_rfl) ?_
        refine wp_faddr (by kernel_rfl) (fa67_2 (p) _) ?_
        refine wp_load (by kernel_rfl) (load1 Tryz.isAgg100 HDr.out.c2) ?_
        refine wp_move (v := .int .i64 n') (by kernel_rfl) ?_
        refine wp_lookup (by kernel_rfl) (by kernel_rfl) hlook ?_
        refine wp_move (v := .tuple #[wv (i, l), .bool true]) (by kernel_rfl) ?_
        refine wp_extract (x := .tuple #[wv (i, l), .bool true]) (v := wv (i, l)) (by kernel_rfl) (by rfl) ?_
        refine wp_extract (x := .tuple #[wv (i, l), .bool true]) (v := .bool true) (by kernel_rfl) (by rfl) ?_
        refine wp_alloc (alloc76 wr) ?_
        refine wp_store (by kernel_rfl) (by kernel_rfl) hst ?_
        refine wp_assign (v := .bool true) (by kernel_rfl) ?_
        dsimp only [Act.put]
        simp only [List.setIfInBounds_toArray, List.set_cons_zero, List.set_cons_succ]
        refine wp_end ?_
        have hFa : Fr [] wr (wr.alloc (.cells (wc (i, l)) 126)) := Fr.alloc _ _
        have hq2 : (wr.alloc (.cells (wc (i, l)) 126)).heap[wr.heap.size]? = some (.cells (wc (i, l)) 126 (0, 0)) := heap_alloc_last _ _
        obtain ⟨cur, hgq, hzq, hcq, hxq, hcsq⟩ := HRr.out.fr hFa (by simp)
        have hFq : Fr [g] w3 (wr.alloc (.cells (wc (i, l)) 126)) := HFr.out.trans hFa (by simp)
        have hlen : (((sorted zs).take k).foldl (layOne L) kept).length = n := by rw [laySome_len, hn]
        have hset := Hstep.out
        rw [layOne_in hx] at hset
        have HX := hid (And.intro hset (And.intro hcq (And.intro hxq (And.intro hcsq hFq))))
        clear hlook hst hset hcq hxq hcsq hFq hFa HFr HRr HMr HDr hcx
        generalize wr.heap.size = q at *
        generalize wr.alloc (.cells (wc (i, l)) 126) = wq at *
        go_upto_region 9 with fail
        refine wp_region_lit ?_
        refine wp_load (by kernel_rfl) (load_w hl hq2) ?_
        refine wp_move (v := .slice (some ⟨g, 0, none⟩) n cap) (by kernel_rfl) ?_
        refine wp_call (f := 66) (args := #[wv (i, l), .slice (some ⟨g, 0, none⟩) n cap]) (by kernel_rfl) (fun w => by go_simp) ?_
        refine (lay_w i l g n cap cur wq hl hi hgq (by rw [← hlen]; exact hzq)).mono ?_
        rintro e w4 ⟨rfl, rfl⟩
        refine ⟨.tuple #[], rfl, ?_⟩
        dsimp only [Act.put]
        simp only [List.setIfInBounds_toArray, List.set_cons_zero, List.set_cons_succ]
        refine wp_end ?_
        obtain ⟨hset, hcq, hxq, hcsq, hFq⟩ := HX.out
        have hR4 := lay_row (w := wq) (ss := ((sorted zs).take k).foldl (layOne L) kept) hgq hzq hcq hxq hcsq i (by rw [hlen]; exact hi) l hl
        have hR4' : Row (laidW wq g cur i l) g cap (((sorted zs).take (k + 1)).foldl (layOne L) kept) := by rw [hset]; exact hR4
        have hF4 : Fr [g] w3 (laidW wq g cur i l) := hFq.trans (lay_fr' wq g cur i l) (by simp)
        clear hR4 hset hcq hxq hcsq hFq HX hgq hzq hq2
        generalize laidW wq g cur i l = w4 at *
        go_upto_region 10 with fail
        refine wp_region_lit ?_
        refine wp_addi (z := ((k + 1 : Nat) : Int)) (by kernel_rfl) (by kernel_rfl) hwk ?_
        refine wp_move (v := .int .i64 (k + 1 : Nat)) (by kernel_rfl) ?_
        dsimp only [Act.put]
        simp only [List.setIfInBounds_toArray, List.set_cons_zero, List.set_cons_succ]
        refine wp_end ?_
        go_wp2_with fail
        go_roundw
        case rel => exact ⟨k + 1, hlt, rfl, hR4', hF4⟩
        case measure => exact hmes
      · have hlook := look_out HMr.out z (by omega)
        rw [zw_eq] at hlook
        have hst : (Instr.storeAt 126 (.pointer (some ⟨wr.heap.size, 0, none⟩)) (wv (0, List.replicate 128 0))).run Tryz.prog (wr.alloc (.cells Tryz.zeroCells126 126)) = .ok () (wr.alloc (.cells (wc (0, List.replicate 128 0)) 126)) :=
          store_new Tryz.prog wr 126 129 size76 Tryz.zeroCells126 (.int .i64 (0 : Nat) :: cells8 (List.replicate 128 0)) zc76 (wc_len (0, List.replicate 128 0) List.length_replicate) (wc_one (0, List.replicate 128 0))
        generalize (0, List.replicate 128 (0 : UInt8)) = zx at hlook hst
        refine wp_region_lit ?_
        refine wp_move (v := .pointer (some ⟨p, 0, none⟩)) (by kernel_rfl) ?_
        refine wp_nil (v := ⟨p, 0, none⟩) (by kernel_rfl) ?_
        refine wp_faddr (by kernel_rfl) (fa67_2 (p) _) ?_
        refine wp_load (by kernel_rfl) (load1 Tryz.isAgg100 HDr.out.c2) ?_
        refine wp_move (v := .int .i64 z) (by kernel_rfl) ?_
        refine wp_lookup (by kernel_rfl) (by kernel_rfl) hlook ?_
        refine wp_move (v := .tuple #[wv zx, .bool false]) (by kernel_rfl) ?_
        refine wp_extract (x := .tuple #[wv zx, .bool false]) (v := wv zx) (by kernel_rfl) (by rfl) ?_
        refine wp_extract (x := .tuple #[wv zx, .bool false]) (v := .bool false) (by kernel_rfl) (by rfl) ?_
        refine wp_alloc (alloc76 wr) ?_
        refine wp_store (by kernel_rfl) (by kernel_rfl) hst ?_
        refine wp_assign (v := .bool false) (by kernel_rfl) ?_
        dsimp only [Act.put]
        simp only [List.setIfInBounds_toArray, List.set_cons_zero, List.set_cons_succ]
        refine wp_end ?_
        have hFa : Fr [] wr (wr.alloc (.cells (wc zx) 126)) := Fr.alloc _ _
        have hRq := HRr.out.fr hFa (by simp)
        have hFq : Fr [g] w3 (wr.alloc (.cells (wc zx) 126)) := HFr.out.trans hFa (by simp)
        have hset := Hstep.out
        rw [layOne_out (by omega)] at hset
        rw [← hset] at hRq
        clear hlook hst hset hFa HFr HRr HMr HDr hcx Hstep
        generalize wr.heap.size = q at *
        generalize wr.alloc (.cells (wc zx) 126) = w4 at *
        go_upto_region 10 with fail
        refine wp_region_lit ?_
        refine wp_addi (z := ((k + 1 : Nat) : Int)) (by kernel_rfl) (by kernel_rfl) hwk ?_
        refine wp_move (v := .int .i64 (k + 1 : Nat)) (by kernel_rfl) ?_
        dsimp only [Act.put]
        simp only [List.setIfInBounds_toArray, List.set_cons_zero, List.set_cons_succ]
        refine wp_end ?_
        go_wp2_with fail
        go_roundw
        case rel => exact ⟨k + 1, hlt, rfl, hRq, hFq⟩
        case measure => exact hmes
    · obtain rfl : k = len := by omega
      rw [← hsl, List.take_length] at hRr
      have hlt' : ¬ (k : Int) < (k : Int) := by omega
      have hBf : Below w.heap.size w wr := HBw3.out.trans (hFr.below (HBw3.out.size) (by simpa using hg))
      have HBf := hid hBf
      have hgw : g < wr.heap.size := hRr.lt
      have H5 := hid (holding_any wr g n cap _ hRr (by rw [laySome_len, hn]) h0 hb)
      clear hRr hBf hDr hMr hFr
      go_wp2_with fail
      refine H5.out.mono ?_
      rintro e w5 ⟨p5, a5, ca5, m5, rfl, hD5, hRa5, hRb5, hM5, q1, q2, q3, hB5⟩
      have HH := hid (And.intro hD5 (And.intro hRa5 (And.intro hRb5 (And.intro hM5 hB5))))
      clear hD5 hRa5 hRb5 hM5 hB5 H5
      go_wp2
      go_ret
      obtain ⟨hD5, hRa5, hRb5, hM5, hB5⟩ := HH.out
      have hs := HBf.out.size
      exact ⟨p5, a5, ca5, g, cap, m5, rfl, hD5, hRa5, hRb5, hM5, by omega, by omega, hg, by omega, by omega, HBf.out.trans (hB5.mono hs)⟩
end Go.Proofs.YtcmgclkbhhdnaaaGreatDoor
namespace Go.Proofs.YtcmgclkbhhdnaaaGreatDoor
open Go Go.RowKit

/-- What a disk holds. -/
structure DS where
  n : Nat
  now : List (List UInt8)
  kept : List (List UInt8)
  loose : List (Nat × List UInt8)
  ops : Int
  cut : Int
  gone : Bool
/-- What is so of each disk. -/
structure DS.Ok (s : DS) : Prop where
  n0 : s.n ≠ 0
  n1 : s.n ≤ 16384
  nowLen : s.now.length = s.n
  keptLen : s.kept.length = s.n
  at_ : ∀ x ∈ s.loose, x.1 < s.n ∧ x.2.length = 128
  lens : ∀ l ∈ s.kept, l.length = 128
  o0 : 0 ≤ s.ops
  o1 : s.ops ≤ 1048576
  few : (s.loose.length : Int) ≤ s.ops
  same : s.now = layAll s.kept s.loose
/-- The disk s at block p; it has the blocks X. -/
def Disk (w : World) (p : Nat) (X : List Nat) (s : DS) : Prop :=
  ∃ a ca b cb m, X = [p, a, b, m] ∧ Dc w p (.slice (some ⟨a, 0, none⟩) s.n ca) (.slice (some ⟨b, 0, none⟩) s.n cb) m s.ops s.cut s.gone ∧ Row w a ca s.now ∧ Row w b cb s.kept ∧ Mp w m s.loose ∧ a ≠ b ∧ s.Ok

theorem Disk.lt {w : World} {p : Nat} {X : List Nat} {s : DS} (h : Disk w p X s) : ∀ k ∈ X, k < w.heap.size := by
  obtain ⟨a, ca, b, cb, m, rfl, hD, hA, hB, hM, _⟩ := h
  intro k hk
  simp only [List.mem_cons, List.not_mem_nil, or_false] at hk
  rcases hk with rfl | rfl | rfl | rfl
  · exact heap_lt hD
  · exact hA.lt
  · exact hB.lt
  · exact heap_lt hM
theorem Disk.fr {w w' : World} {p : Nat} {X Y : List Nat} {s : DS} (h : Disk w p X s) (hF : Fr Y w w') (hX : ∀ k ∈ X, k ∉ Y) : Disk w' p X s := by
  obtain ⟨a, ca, b, cb, m, rfl, hD, hA, hB, hM, r⟩ := h
  exact ⟨a, ca, b, cb, m, rfl, hD.fr hF (hX _ (by simp)), hA.fr hF (hX _ (by simp)), hB.fr hF (hX _ (by simp)), hF.at hM (hX _ (by simp)), r⟩
theorem Disk.below {w w' : World} {p : Nat} {X : List Nat} {s : DS} (h : Disk w p X s) (hF : Below w.heap.size w w') : Disk w' p X s := h.fr (Fr.of_below (X := []) hF) (by simp)
theorem Disk.ok {w : World} {p : Nat} {X : List Nat} {s : DS} (h : Disk w p X s) : s.Ok := by obtain ⟨_, _, _, _, _, _, _, _, _, _, _, r⟩ := h; exact r

def DS.wr (s : DS) (x : Int) (l : List UInt8) : Int × DS :=
  if lost s.cut s.ops = true then (43, { s with gone := true })
  else if x < 0 ∨ (s.n : Int) ≤ x then (41, { s with gone := false })
  else if l.length ≠ 128 then (42, { s with gone := false })
  else if 1048576 ≤ s.ops then (44, { s with gone := false })
  else (0, { s with gone := false, now := s.now.set x.toNat l, loose := s.loose ++ [(x.toNat, l)], ops := s.ops + 1 })
def DS.fl (s : DS) : Int × DS :=
  if lost s.cut s.ops = true then (43, { s with gone := true })
  else if 1048576 ≤ s.ops then (44, { s with gone := false })
  else (0, { s with gone := false, kept := s.now, loose := [], ops := s.ops + 1 })
def DS.cr (s : DS) (zs : List Int) : DS := { n := s.n, now := crashed s.kept s.loose zs, kept := crashed s.kept s.loose zs, loose := [], ops := 0, cut := -1, gone := false }
def DS.new (n : Nat) : DS := { n := n, now := noughts n, kept := noughts n, loose := [], ops := 0, cut := -1, gone := false }

theorem DS.Ok.gone {s : DS} (h : s.Ok) (g : Bool) : DS.Ok { s with gone := g } := ⟨h.n0, h.n1, h.nowLen, h.keptLen, h.at_, h.lens, h.o0, h.o1, h.few, h.same⟩
theorem DS.Ok.wr {s : DS} (h : s.Ok) (x : Int) (l : List UInt8) : (s.wr x l).2.Ok := by
  unfold DS.wr
  split
  · exact h.gone _
  split
  · exact h.gone _
  split
  · exact h.gone _
  split
  · exact h.gone _
  · rename_i h1 h2 h3 h4
    refine ⟨h.n0, h.n1, by simp [h.nowLen], h.keptLen, ?_, h.lens, by have := h.o0; show 0 ≤ s.ops + 1; omega, by show s.ops + 1 ≤ 1048576; omega, ?_, ?_⟩
    · intro y hy
      rcases List.mem_append.1 hy with hy | hy
      · exact h.at_ y hy
      · obtain rfl : y = (x.toNat, l) := by simpa using hy
        exact ⟨by show x.toNat < s.n; omega, by show l.length = 128; simpa using h3⟩
    · have := h.few
      show ((s.loose ++ [(x.toNat, l)]).length : Int) ≤ s.ops + 1
      simp; omega
    · show s.now.set x.toNat l = layAll s.kept (s.loose ++ [(x.toNat, l)])
      rw [layAll_snoc, h.same]
theorem layAll_lens (L : List (Nat × List UInt8)) (hL : ∀ x ∈ L, x.2.length = 128) : ∀ ss : List (List UInt8), (∀ l ∈ ss, l.length = 128) → ∀ l ∈ layAll ss L, l.length = 128 := by
  induction L with
  | nil => intro ss h; exact h
  | cons x r ih =>
    intro ss h
    refine ih (fun y hy => hL y (List.mem_cons_of_mem _ hy)) (ss.set x.1 x.2) (fun l hl => ?_)
    rcases List.mem_or_eq_of_mem_set hl with hl | rfl
    · exact h l hl
    · exact hL x List.mem_cons_self
theorem DS.Ok.nowLens {s : DS} (h : s.Ok) : ∀ l ∈ s.now, l.length = 128 := by rw [h.same]; exact layAll_lens _ (fun x hx => (h.at_ x hx).2) _ h.lens
theorem DS.Ok.fl {s : DS} (h : s.Ok) : s.fl.2.Ok := by
  unfold DS.fl
  split
  · exact h.gone _
  split
  · exact h.gone _
  · refine ⟨h.n0, h.n1, h.nowLen, h.nowLen, by simp, h.nowLens, by have := h.o0; show 0 ≤ s.ops + 1; omega, by show s.ops + 1 ≤ 1048576; omega, ?_, rfl⟩
    have := h.o0
    show ((0 : Nat) : Int) ≤ s.ops + 1
    omega
theorem laySome_lens (L : List (Nat × List UInt8)) (hL : ∀ x ∈ L, x.2.length = 128) (ks : List Int) : ∀ ss : List (List UInt8), (∀ l ∈ ss, l.length = 128) → ∀ l ∈ ks.foldl (layOne L) ss, l.length = 128 := by
  induction ks with
  | nil => intro ss h; exact h
  | cons k r ih =>
    intro ss h
    refine ih (layOne L ss k) (fun l hl => ?_)
    unfold layOne at hl
    split at hl
    · rename_i x hx
      rcases List.mem_or_eq_of_mem_set hl with hl | rfl
      · exact h l hl
      · split at hx
        · exact hL x (List.mem_of_getElem? hx)
        · cases hx
    · exact h l hl
theorem DS.Ok.cr {s : DS} (h : s.Ok) (zs : List Int) : (s.cr zs).Ok :=
  ⟨h.n0, h.n1, by show (crashed _ _ _).length = _; rw [crashed, laySome_len, h.keptLen]; rfl, by show (crashed _ _ _).length = _; rw [crashed, laySome_len, h.keptLen]; rfl, by intro x hx; simp [DS.cr] at hx, laySome_lens _ (fun x hx => (h.at_ x hx).2) _ _ h.lens, Int.le_refl _, by show (0 : Int) ≤ 1048576; omega, Int.le_refl _, rfl⟩
theorem DS.Ok.new {n : Nat} (h0 : n ≠ 0) (h1 : n ≤ 16384) : (DS.new n).Ok :=
  ⟨h0, h1, by simp [DS.new, noughts], by simp [DS.new, noughts], by intro x hx; simp [DS.new] at hx, by intro l hl; rw [List.eq_of_mem_replicate hl]; simp, Int.le_refl _, by show (0 : Int) ≤ 1048576; omega, Int.le_refl _, rfl⟩

theorem write_d {w : World} {p : Nat} {X : List Nat} {s : DS} (h : Disk w p X s) (x : Int) {v : Value} {l : List UInt8} (hv : Sl w v l) :
    Calls Tryz.prog 111 #[.pointer (some ⟨p, 0, none⟩), .int .i64 x, v] w fun e w' => e = .returned (.int .i64 (s.wr x l).1) ∧ Disk w' p X (s.wr x l).2 ∧ Fr X w w' := by
  have hok := h.ok
  obtain ⟨a, ca, b, cb, m, rfl, hD, hA, hB, hM, hab, _⟩ := h
  have hpm : p ≠ m := fun e => by subst e; rw [Mp] at hM; rw [Dc] at hD; rw [hM] at hD; cases hD
  have hpa : p ≠ a := fun e => by obtain ⟨cur, hg, _⟩ := hA; subst e; rw [Dc] at hD; rw [hg] at hD; cases hD
  have hpb : p ≠ b := fun e => by obtain ⟨cur, hg, _⟩ := hB; subst e; rw [Dc] at hD; rw [hg] at hD; cases hD
  have hmb : m ≠ b := fun e => by obtain ⟨cur, hg, _⟩ := hB; subst e; rw [Mp] at hM; rw [hg] at hM; cases hM
  have keep : ∀ w' g, Dc w' p (.slice (some ⟨a, 0, none⟩) s.n ca) (.slice (some ⟨b, 0, none⟩) s.n cb) m s.ops s.cut g → Fr [p] w w' → Disk w' p [p, a, b, m] { s with gone := g } ∧ Fr [p, a, b, m] w w' := fun w' g hD' hF =>
    ⟨⟨a, ca, b, cb, m, rfl, hD', hA.fr hF (by simpa using hpa.symm), hB.fr hF (by simpa using hpb.symm), hF.at hM (by simpa using hpm.symm), hab, hok.gone g⟩, hF.mono (by simp)⟩
  obtain ⟨va, cap, rfl, hc, hnil, hrd⟩ := hv
  have hokw := hok.wr x l
  unfold DS.wr at hokw ⊢
  by_cases h1 : lost s.cut s.ops = true
  · rw [if_pos h1]
    refine (write_gone w p s.ops s.cut s.gone m _ _ _ _ hD h1).mono ?_
    rintro e w' ⟨rfl, hD', hF⟩
    exact ⟨rfl, keep w' true hD' hF⟩
  have h1' : lost s.cut s.ops = false := by simpa using h1
  rw [if_neg h1] at hokw ⊢
  by_cases h2 : x < 0 ∨ (s.n : Int) ≤ x
  · rw [if_pos h2]
    refine (write_at w p s.ops s.cut s.gone m b s.n cb _ _ x hD h1' h2).mono ?_
    rintro e w' ⟨rfl, hD', hF⟩
    exact ⟨rfl, keep w' false hD' hF⟩
  rw [if_neg h2] at hokw ⊢
  obtain ⟨i, rfl⟩ : ∃ i : Nat, x = i := ⟨x.toNat, by omega⟩
  have hi : i < s.n := by omega
  by_cases h3 : l.length ≠ 128
  · rw [if_pos h3]
    refine (write_len w p s.ops s.cut s.gone m b s.n cb _ i va l.length cap hD h1' hi h3).mono ?_
    rintro e w' ⟨rfl, hD', hF⟩
    exact ⟨rfl, keep w' false hD' hF⟩
  rw [if_neg h3] at hokw ⊢
  have h3' : l.length = 128 := by simpa using h3
  have e3 := h3'
  rw [show (Value.slice va l.length cap) = .slice va 128 cap by rw [h3']]
  by_cases h4 : 1048576 ≤ s.ops
  · rw [if_pos h4]
    refine (write_full w p s.ops s.cut s.gone m b s.n cb _ i va cap hD h1' hi h4).mono ?_
    rintro e w' ⟨rfl, hD', hF⟩
    exact ⟨rfl, keep w' false hD' hF⟩
  rw [if_neg h4] at hokw ⊢
  obtain ⟨bb, off, rfl, hr⟩ := hrd (by intro h; rw [h] at e3; simp at e3)
  refine (write_ok w p a ca b s.n cb m s.ops s.cut s.gone s.now s.loose i bb off cap l hD hA hok.nowLen hM hi h3' hr h1' hok.o0 (by omega)).mono ?_
  rintro e w' ⟨rfl, hD', hA', hM', hF⟩
  rw [show ((i : Int)).toNat = i from rfl] at hokw ⊢
  exact ⟨rfl, ⟨a, ca, b, cb, m, rfl, hD', hA', hB.fr hF (by simp only [List.mem_cons, List.not_mem_nil, or_false, not_or]; exact ⟨hpb.symm, hab.symm, hmb.symm⟩), hM', hab, hokw⟩, hF.mono (by simp)⟩

theorem flush_d {w : World} {p : Nat} {X : List Nat} {s : DS} (h : Disk w p X s) :
    Calls Tryz.prog 112 #[.pointer (some ⟨p, 0, none⟩)] w fun e w' => e = .returned (.int .i64 s.fl.1) ∧ ∃ X', Disk w' p X' s.fl.2 ∧ (∀ k ∈ X', k ∈ X ∨ w.heap.size ≤ k) ∧ Fr X w w' := by
  have hok := h.ok
  obtain ⟨a, ca, b, cb, m, rfl, hD, hA, hB, hM, hab, _⟩ := h
  have hpm : p ≠ m := fun e => by subst e; rw [Mp] at hM; rw [Dc] at hD; rw [hM] at hD; cases hD
  have hpa : p ≠ a := fun e => by obtain ⟨cur, hg, _⟩ := hA; subst e; rw [Dc] at hD; rw [hg] at hD; cases hD
  have hpb : p ≠ b := fun e => by obtain ⟨cur, hg, _⟩ := hB; subst e; rw [Dc] at hD; rw [hg] at hD; cases hD
  have keep : ∀ w' g, Dc w' p (.slice (some ⟨a, 0, none⟩) s.n ca) (.slice (some ⟨b, 0, none⟩) s.n cb) m s.ops s.cut g → Fr [p] w w' → ∃ X', Disk w' p X' { s with gone := g } ∧ (∀ k ∈ X', k ∈ [p, a, b, m] ∨ w.heap.size ≤ k) ∧ Fr [p, a, b, m] w w' := fun w' g hD' hF =>
    ⟨_, ⟨a, ca, b, cb, m, rfl, hD', hA.fr hF (by simpa using hpa.symm), hB.fr hF (by simpa using hpb.symm), hF.at hM (by simpa using hpm.symm), hab, hok.gone g⟩, fun k hk => .inl hk, hF.mono (by simp)⟩
  have hokw := hok.fl
  unfold DS.fl at hokw ⊢
  by_cases h1 : lost s.cut s.ops = true
  · rw [if_pos h1]
    refine (flush_gone w p s.ops s.cut s.gone m _ _ hD h1).mono ?_
    rintro e w' ⟨rfl, hD', hF⟩
    exact ⟨rfl, keep w' true hD' hF⟩
  have h1' : lost s.cut s.ops = false := by simpa using h1
  rw [if_neg h1] at hokw ⊢
  by_cases h4 : 1048576 ≤ s.ops
  · rw [if_pos h4]
    refine (flush_full w p s.ops s.cut s.gone m _ _ hD h1' h4).mono ?_
    rintro e w' ⟨rfl, hD', hF⟩
    exact ⟨rfl, keep w' false hD' hF⟩
  rw [if_neg h4] at hokw ⊢
  have hfew := hok.few
  have ho1 := hok.o1
  refine (flush_ok w p a ca b s.n cb m s.ops s.cut s.gone s.now s.kept s.loose hD hA hB hM hok.keptLen hab hok.at_ h1' hok.o0 (by omega) (by omega)).mono ?_
  rintro e w' ⟨rfl, m', hm', hD', hA', hB', hM', hF⟩
  rw [← hok.same] at hB'
  refine ⟨rfl, [p, a, b, m'], ⟨a, ca, b, cb, m', rfl, hD', hA', hB', hM', hab, hokw⟩, ?_, hF.mono (by simp)⟩
  intro k hk
  simp only [List.mem_cons, List.not_mem_nil, or_false] at hk ⊢
  rcases hk with rfl | rfl | rfl | rfl <;> simp [hm']

theorem read_d {w : World} {p : Nat} {X : List Nat} {s : DS} (h : Disk w p X s) (hg : s.gone = false) (i : Nat) (l : List UInt8) (hl : s.now[i]? = some l) :
    Calls Tryz.prog 121 #[.pointer (some ⟨p, 0, none⟩), .int .i64 i] w fun e w' => e = .returned (.tuple #[.slice (some ⟨w.heap.size, 0, none⟩) 128 128, .int .i64 0]) ∧ w' = w.alloc (.cells (cells8 l).toArray 120) := by
  have hok := h.ok
  obtain ⟨a, ca, b, cb, m, rfl, hD, hA, hB, hM, hab, _⟩ := h
  rw [hg] at hD
  exact read_ok w p a ca b s.n cb m s.ops s.cut s.now i l hD hA hok.nowLen hl
theorem crash_d {w : World} {p : Nat} {X : List Nat} {s : DS} (h : Disk w p X s) {a : Option Addr} {len cp : Nat} {zs : List Int} (hI : Ints w.heap.size w a len zs) (hreach : len * 8 ≤ 140737488351232) :
    Calls Tryz.prog 24 #[.pointer (some ⟨p, 0, none⟩), .slice a len cp] w fun e w' => ∃ p' X', e = .returned (.pointer (some ⟨p', 0, none⟩)) ∧ Disk w' p' X' (s.cr zs) ∧ (∀ k ∈ X', w.heap.size ≤ k) ∧ Below w.heap.size w w' := by
  have hok := h.ok
  obtain ⟨a', ca, b, cb, m, rfl, hD, hA, hB, hM, hab, _⟩ := h
  refine (crash_ok w p b s.n cb m _ s.ops s.cut s.gone s.kept s.loose a len cp zs hD hB hok.keptLen hok.n0 hok.n1 hM hok.at_ hI hreach).mono ?_
  rintro e w' ⟨p', a2, ca', b', cb', m', rfl, hD', hA', hB', hM', q1, q2, q3, q4, hne, hF⟩
  refine ⟨p', [p', a2, b', m'], rfl, ⟨a2, ca', b', cb', m', rfl, hD', hA', hB', hM', hne, hok.cr zs⟩, ?_, hF⟩
  intro k hk
  simp only [List.mem_cons, List.not_mem_nil, or_false] at hk
  rcases hk with rfl | rfl | rfl | rfl <;> assumption

theorem new_d (w : World) (n : Nat) (h0 : n ≠ 0) (hn : n ≤ 16384) :
    Calls Tryz.prog 30 #[.int .i64 n] w fun e w' => ∃ p X, e = .returned (.tuple #[.pointer (some ⟨p, 0, none⟩), .int .i64 0]) ∧ Disk w' p X (DS.new n) ∧ (∀ k ∈ X, w.heap.size ≤ k) ∧ Below w.heap.size w w' := by
  refine (new_ok w n h0 hn).mono ?_
  rintro e w' ⟨p', a2, ca', b', cb', m', rfl, hD', hA', hB', hM', q1, q2, q3, q4, hne, hF⟩
  refine ⟨p', [p', a2, b', m'], rfl, ⟨a2, ca', b', cb', m', rfl, hD', hA', hB', hM', hne, DS.Ok.new h0 hn⟩, ?_, hF⟩
  intro k hk
  simp only [List.mem_cons, List.not_mem_nil, or_false] at hk
  rcases hk with rfl | rfl | rfl | rfl <;> assumption

theorem ops_d {w : World} {p : Nat} {X : List Nat} {s : DS} (h : Disk w p X s) : Calls Tryz.prog 18 #[.pointer (some ⟨p, 0, none⟩)] w fun e w' => e = .returned (.int .i64 s.ops) ∧ w' = w := by
  obtain ⟨a', ca, b, cb, m, rfl, hD, _⟩ := h
  exact ops_any w p _ _ m s.ops s.cut s.gone hD
theorem loose_d {w : World} {p : Nat} {X : List Nat} {s : DS} (h : Disk w p X s) : Calls Tryz.prog 105 #[.pointer (some ⟨p, 0, none⟩)] w fun e w' => e = .returned (.int .i64 s.loose.length) ∧ w' = w := by
  obtain ⟨a', ca, b, cb, m, rfl, hD, _, _, hM, _⟩ := h
  exact loose_any w p _ _ m s.ops s.cut s.gone s.loose hD hM
theorem sectors_d {w : World} {p : Nat} {X : List Nat} {s : DS} (h : Disk w p X s) : Calls Tryz.prog 99 #[.pointer (some ⟨p, 0, none⟩)] w fun e w' => e = .returned (.int .i64 s.n) ∧ w' = w := by
  obtain ⟨a', ca, b, cb, m, rfl, hD, _⟩ := h
  exact sectors_any w p _ b s.n cb m s.ops s.cut s.gone hD
theorem cutAt_d {w : World} {p : Nat} {X : List Nat} {s : DS} (h : Disk w p X s) (x : Int) : Calls Tryz.prog 17 #[.pointer (some ⟨p, 0, none⟩), .int .i64 x] w fun e w' => e = .returned (.tuple #[]) ∧ Disk w' p X { s with cut := x, gone := false } ∧ Fr X w w' := by
  have hok := h.ok
  obtain ⟨a, ca, b, cb, m, rfl, hD, hA, hB, hM, hab, _⟩ := h
  have hpm : p ≠ m := fun e => by subst e; rw [Mp] at hM; rw [Dc] at hD; rw [hM] at hD; cases hD
  have hpa : p ≠ a := fun e => by obtain ⟨cur, hg, _⟩ := hA; subst e; rw [Dc] at hD; rw [hg] at hD; cases hD
  have hpb : p ≠ b := fun e => by obtain ⟨cur, hg, _⟩ := hB; subst e; rw [Dc] at hD; rw [hg] at hD; cases hD
  refine (cutAt_any w p _ _ m s.ops s.cut s.gone x hD).mono ?_
  rintro e w' ⟨rfl, hD', hF⟩
  exact ⟨rfl, ⟨a, ca, b, cb, m, rfl, hD', hA.fr hF (by simpa using hpa.symm), hB.fr hF (by simpa using hpb.symm), hF.at hM (by simpa using hpm.symm), hab, ⟨hok.n0, hok.n1, hok.nowLen, hok.keptLen, hok.at_, hok.lens, hok.o0, hok.o1, hok.few, hok.same⟩⟩, hF.mono (by simp)⟩
end Go.Proofs.YtcmgclkbhhdnaaaGreatDoor
