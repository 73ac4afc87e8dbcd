/- texts put together: WMath WRow SBase SRow -/
import Derived.WalkKit
import Derived.Test.YtddbiiejilcbbaaGreatDoorChecked
import Derived.WalkSpells
import Derived.WalkLawsBesides
import Derived.OwnWalk
import Derived.Room.AppendFits
import Derived.Deep.AppendSrc
import Derived.Deep.AppendLies
import Derived.Laws.IdiomStrings
import Derived.Laws.Bits64b
import Derived.Deep.WholeRow
import Derived.Laws.CopyRow
import Derived.Laws.IdiomCopy
import Derived.Deep.QuietTactic
import Derived.BigQuiet
import Derived.MapKept
import Derived.ChangeMaps5
import Derived.OrdersHeld
import Derived.BigRegion
import Derived.Deep.Cut
namespace Go.Proofs.YtddbiiejilcbbaaGreatDoor
open Go Go.RowKit

/-- The byte at a place, as a number. -/
def at8 (l : List UInt8) (k : Nat) : Int := ((l.getD k 0).toNat : Int)
theorem at8_drop (l : List UInt8) (i k : Nat) : at8 (l.drop i) k = at8 l (i + k) := by
  unfold at8; simp [List.getD, List.getElem?_drop]
theorem at8_take (l : List UInt8) (n k : Nat) (h : k < n) : at8 (l.take n) k = at8 l k := by
  unfold at8; simp [List.getD, h]
theorem drop_cons8 (l : List UInt8) (k : Nat) (h : k < l.length) : l.drop k = l.getD k 0 :: l.drop (k + 1) := by
  rw [List.drop_eq_getElem_cons h]; simp [List.getD, h]

/-- A number as one from 0 on. -/
def zig (n : Int) : Nat := if n < 0 then (-2 * n - 1).toNat else (2 * n).toNat
def unzig (u : Nat) : Int := if u % 2 = 1 then -((u / 2 : Nat) : Int) - 1 else ((u / 2 : Nat) : Int)
theorem unzig_zig (n : Int) : unzig (zig n) = n := by
  unfold unzig zig
  split <;> split <;> omega
theorem zig_unzig (u : Nat) : zig (unzig u) = u := by
  unfold unzig zig
  split <;> split <;> omega
theorem zig_lt {n : Int} (h0 : -9223372036854775808 ≤ n) (h1 : n ≤ 9223372036854775807) : zig n < 18446744073709551616 := by
  unfold zig; split <;> omega
theorem unzig_ge {u : Nat} (h : u < 18446744073709551616) : -9223372036854775808 ≤ unzig u := by unfold unzig; split <;> omega
theorem unzig_le {u : Nat} (h : u < 18446744073709551616) : unzig u ≤ 9223372036854775807 := by unfold unzig; split <;> omega
theorem zig_neg {n : Int} (h : n < 0) : (zig n : Int) = -2 * n - 1 := by unfold zig; rw [if_pos h]; omega
theorem zig_pos {n : Int} (h : ¬ n < 0) : (zig n : Int) = 2 * n := by unfold zig; rw [if_neg h]; omega

/-- A number's bytes. -/
def vb (u : Nat) : List UInt8 := if u < 128 then [UInt8.ofNat u] else UInt8.ofNat (u % 128 + 128) :: vb (u / 128)
termination_by u
theorem vb_lt {u : Nat} (h : u < 128) : vb u = [UInt8.ofNat u] := by rw [vb, if_pos h]
theorem vb_ge {u : Nat} (h : ¬ u < 128) : vb u = UInt8.ofNat (u % 128 + 128) :: vb (u / 128) := by rw [vb, if_neg h]
theorem vb_ne (u : Nat) : vb u ≠ [] := by rw [vb]; split <;> simp
theorem vb_pos (u : Nat) : 0 < (vb u).length := by rw [vb]; split <;> simp
theorem vb_len : ∀ (k u : Nat), u < 128 ^ (k + 1) → (vb u).length ≤ k + 1
  | 0, u, h => by rw [vb_lt (by simpa using h)]; simp
  | k + 1, u, h => by
    by_cases hu : u < 128
    · rw [vb_lt hu]; simp
    · rw [vb_ge hu, List.length_cons]
      have := vb_len k (u / 128) (by rw [Nat.div_lt_iff_lt_mul (by decide)]; rw [Nat.pow_succ] at h; exact h)
      omega
theorem vb_len10 {u : Nat} (h : u < 18446744073709551616) : (vb u).length ≤ 10 := vb_len 9 u (by have : (128 : Nat) ^ (9 + 1) = 1180591620717411303424 := by decide
                                                                                                 omega)
theorem zvb_len {n : Int} (h0 : -9223372036854775808 ≤ n) (h1 : n ≤ 9223372036854775807) : (vb (zig n)).length ≤ 10 := vb_len10 (zig_lt h0 h1)

theorem u8_ofNat {k : Nat} (h : k < 256) : (UInt8.ofNat k).toNat = k := by simp; omega
/-- May a byte end a number, so many ahead of it? -/
def mayEndB (i : Nat) (c : Int) : Bool := if i = 9 then decide (c = 1) else (decide (0 < c) || decide (i = 0))

/-- What bytes say: the reading loop. -/
def dec (i u : Nat) : List UInt8 → Option (Nat × Nat)
  | [] => none
  | c :: r => if 10 ≤ i then none else
      if 128 ≤ c.toNat then dec (i + 1) ((u + c.toNat % 128 * 128 ^ i) % 18446744073709551616) r
      else if mayEndB i (c.toNat : Int) then some ((u + c.toNat % 128 * 128 ^ i) % 18446744073709551616, i + 1) else none
theorem dec_ten (u : Nat) (l : List UInt8) : dec 10 u l = none := by cases l <;> simp [dec]

theorem pow128_le {i : Nat} (h : i ≤ 8) : 128 ^ (i + 1) ≤ 9223372036854775808 := by
  have : (128 : Nat) ^ (i + 1) ≤ 128 ^ 9 := Nat.pow_le_pow_right (by decide) (by omega)
  have e : (128 : Nat) ^ 9 = 9223372036854775808 := by decide
  omega

theorem dec_iff : ∀ (l : List UInt8) (i u U k : Nat), i ≤ 9 → u < 128 ^ i →
    (dec i u l = some (U, k) ↔ ∃ q, U = u + 128 ^ i * q ∧ (i = 0 ∨ 1 ≤ q) ∧ U < 18446744073709551616 ∧ vb q <+: l ∧ k = i + (vb q).length)
  | [], i, u, U, k, hi, hu => by
    simp only [dec, List.prefix_nil]
    exact ⟨fun h => (by cases h), fun ⟨q, _, _, _, h, _⟩ => absurd h (vb_ne q)⟩
  | c :: r, i, u, U, k, hi, hu => by
    have hc : c.toNat < 256 := c.toNat_lt
    rw [dec, if_neg (by omega)]
    by_cases h128 : 128 ≤ c.toNat
    · rw [if_pos h128]
      have hcm : c.toNat % 128 = c.toNat - 128 := by omega
      by_cases h9 : i = 9
      · subst h9
        rw [dec_ten]
        refine ⟨fun h => (by cases h), ?_⟩
        rintro ⟨q, rfl, _, hU, hp, rfl⟩
        exfalso
        have e9 : (128 : Nat) ^ 9 = 9223372036854775808 := by decide
        rw [e9] at hU
        have hq : q < 128 := by omega
        rw [vb_lt hq] at hp
        obtain ⟨t, ht⟩ := hp
        simp at ht
        have := u8_ofNat (show q < 256 by omega)
        rw [ht.1] at this
        omega
      · have hp1 := pow128_le (i := i) (by omega)
        have hps : (128 : Nat) ^ (i + 1) = 128 * 128 ^ i := by rw [Nat.pow_succ]; omega
        have hub : u + c.toNat % 128 * 128 ^ i < 128 ^ (i + 1) := by
          have : c.toNat % 128 * 128 ^ i ≤ 127 * 128 ^ i := Nat.mul_le_mul_right _ (by omega)
          omega
        rw [Nat.mod_eq_of_lt (by omega)]
        rw [dec_iff r (i + 1) _ U k (by omega) hub]
        constructor
        · rintro ⟨q', rfl, h1, hU, hp, rfl⟩
          have h1' : 1 ≤ q' := by omega
          refine ⟨c.toNat % 128 + 128 * q', ?_, .inr (by omega), hU, ?_, ?_⟩
          · rw [hps, Nat.mul_add, Nat.mul_comm (128 ^ i) (c.toNat % 128)]
            have : 128 ^ i * (128 * q') = 128 * 128 ^ i * q' := by rw [← Nat.mul_assoc, Nat.mul_comm (128 ^ i) 128]
            omega
          · rw [vb_ge (by omega)]
            have e1 : (c.toNat % 128 + 128 * q') % 128 + 128 = c.toNat := by omega
            have e2 : (c.toNat % 128 + 128 * q') / 128 = q' := by omega
            rw [e1, e2]
            have : UInt8.ofNat c.toNat = c := by simp
            rw [this]
            exact List.cons_prefix_cons.2 ⟨rfl, hp⟩
          · rw [vb_ge (u := c.toNat % 128 + 128 * q') (by omega)]
            have e2 : (c.toNat % 128 + 128 * q') / 128 = q' := by omega
            rw [e2, List.length_cons]; omega
        · rintro ⟨q, rfl, h1, hU, hp, rfl⟩
          have hq : ¬ q < 128 := by
            intro hq
            rw [vb_lt hq] at hp
            have := (List.cons_prefix_cons.1 hp).1
            have h' := u8_ofNat (show q < 256 by omega)
            rw [this] at h'
            omega
          rw [vb_ge hq] at hp
          obtain ⟨hc', hp'⟩ := List.cons_prefix_cons.1 hp
          have hcq : q % 128 + 128 = c.toNat := by rw [← hc', u8_ofNat (by omega)]
          refine ⟨q / 128, ?_, .inr (by omega), hU, hp', ?_⟩
          · rw [hps]
            have e : q = c.toNat % 128 + 128 * (q / 128) := by omega
            conv => lhs; rw [e]
            rw [Nat.mul_add, Nat.mul_comm (128 ^ i) (c.toNat % 128)]
            have : 128 ^ i * (128 * (q / 128)) = 128 * 128 ^ i * (q / 128) := by rw [← Nat.mul_assoc, Nat.mul_comm (128 ^ i) 128]
            omega
          · rw [vb_ge hq, List.length_cons]; omega
    · rw [if_neg h128]
      have hcm : c.toNat % 128 = c.toNat := by omega
      have hcc : UInt8.ofNat c.toNat = c := by simp
      rw [hcm]
      have hU : mayEndB i (c.toNat : Int) = true → u + c.toNat * 128 ^ i < 18446744073709551616 := by
        unfold mayEndB
        intro h
        by_cases h9 : i = 9
        · subst h9
          simp at h
          have e9 : (128 : Nat) ^ 9 = 9223372036854775808 := by decide
          have : c.toNat = 1 := by omega
          rw [this]; rw [e9] at hu ⊢; omega
        · have hp1 := pow128_le (i := i) (by omega)
          have hps : (128 : Nat) ^ (i + 1) = 128 * 128 ^ i := by rw [Nat.pow_succ]; omega
          have : c.toNat * 128 ^ i ≤ 127 * 128 ^ i := Nat.mul_le_mul_right _ (by omega)
          omega
      constructor
      · intro h
        by_cases hm : mayEndB i (c.toNat : Int) = true
        · rw [if_pos hm] at h
          have hu' := hU hm
          rw [Nat.mod_eq_of_lt hu'] at h
          injection h with h
          injection h with hA hB
          subst hA; subst hB
          refine ⟨c.toNat, by rw [Nat.mul_comm], ?_, hu', ?_, ?_⟩
          · unfold mayEndB at hm
            by_cases h9 : i = 9
            · subst h9; simp at hm; right; omega
            · simp [h9] at hm; rcases hm with h | h
              · right; omega
              · left; exact h
          · rw [vb_lt (by omega), hcc]; exact List.cons_prefix_cons.2 ⟨rfl, List.nil_prefix⟩
          · rw [vb_lt (by omega)]; rfl
        · rw [if_neg hm] at h; cases h
      · rintro ⟨q, rfl, h1, hU', hp, rfl⟩
        have hq : q < 128 := by
          apply Classical.byContradiction
          intro hq
          rw [vb_ge hq] at hp
          have := (List.cons_prefix_cons.1 hp).1
          have h' := u8_ofNat (show q % 128 + 128 < 256 by omega)
          rw [this] at h'
          omega
        rw [vb_lt hq] at hp ⊢
        have hqc : c.toNat = q := by rw [← (List.cons_prefix_cons.1 hp).1, u8_ofNat (by omega)]
        rw [hqc]
        have hm : mayEndB i (q : Int) = true := by
          unfold mayEndB
          by_cases h9 : i = 9
          · subst h9
            have e9 : (128 : Nat) ^ 9 = 9223372036854775808 := by decide
            rw [e9] at hU'
            simp; omega
          · simp [h9]; omega
        rw [if_pos hm, Nat.mul_comm q, Nat.mod_eq_of_lt hU']
        rfl

/-- What bytes say, from their beginning. -/
def takeI (l : List UInt8) : Option (Int × Nat) := (dec 0 0 l).map fun p => (unzig p.1, p.2)
theorem dec0_iff (l : List UInt8) (U k : Nat) : dec 0 0 l = some (U, k) ↔ U < 18446744073709551616 ∧ vb U <+: l ∧ k = (vb U).length := by
  rw [dec_iff l 0 0 U k (by omega) (by simp)]
  constructor
  · rintro ⟨q, rfl, _, h1, h2, h3⟩
    simp at h1 h2 h3 ⊢
    exact ⟨h1, h2, h3⟩
  · rintro ⟨h1, h2, h3⟩
    exact ⟨U, by simp, .inl rfl, h1, h2, by omega⟩
theorem takeI_iff (l : List UInt8) (n : Int) (k : Nat) : takeI l = some (n, k) ↔ (-9223372036854775808 ≤ n ∧ n ≤ 9223372036854775807) ∧ vb (zig n) <+: l ∧ k = (vb (zig n)).length := by
  unfold takeI
  constructor
  · intro h
    obtain ⟨⟨U, k'⟩, h1, h2⟩ := Option.map_eq_some_iff.1 h
    obtain ⟨a, b, c⟩ := (dec0_iff l U k').1 h1
    simp only [Prod.mk.injEq] at h2
    obtain ⟨rfl, rfl⟩ := h2
    rw [zig_unzig]
    exact ⟨⟨unzig_ge a, unzig_le a⟩, b, c⟩
  · rintro ⟨⟨h0, h1⟩, h2, rfl⟩
    rw [(dec0_iff l (zig n) _).2 ⟨zig_lt h0 h1, h2, rfl⟩]
    simp [unzig_zig]
theorem takeI_len {l : List UInt8} {n : Int} {k : Nat} (h : takeI l = some (n, k)) : 1 ≤ k ∧ k ≤ 10 ∧ k ≤ l.length := by
  obtain ⟨⟨a, b⟩, c, rfl⟩ := (takeI_iff _ _ _).1 h
  exact ⟨vb_pos _, zvb_len a b, c.length_le⟩
end Go.Proofs.YtddbiiejilcbbaaGreatDoor
namespace Go.Proofs.YtddbiiejilcbbaaGreatDoor
open Go Go.RowKit

theorem info8 : (Tryz.prog.info? 5).map (fun i => (i.zero, i.size, i.bytes)) = some (some (.int .u8 0), 1, 1) := by kernel_rfl

theorem hid {p : Prop} (h : p) : Hid p := h

/-- A byte as a cell. -/
def cb (b : UInt8) : Value := .int .u8 (b.toNat : Int)
def cells8 (l : List UInt8) : List Value := l.map cb
theorem cells8_len (l : List UInt8) : (cells8 l).length = l.length := by simp [cells8]
theorem cells8_one (l : List UInt8) : ∀ u ∈ cells8 l, u.oneCell' = true := by
  intro u hu
  obtain ⟨_, _, rfl⟩ := List.mem_map.1 hu
  rfl
theorem cells8_append (a b : List UInt8) : cells8 a ++ cells8 b = cells8 (a ++ b) := by simp [cells8]
theorem cells8_str (s : ByteArray) : Lib.strCells s = cells8 s.data.toList := rfl
theorem cells8_get (l : List UInt8) (k : Nat) (h : k < l.length) : (cells8 l)[k]? = some (.int .u8 (at8 l k)) := by
  simp [cells8, at8, List.getD, h, cb]
theorem cells8_ofInt (x : Int) (h0 : 0 ≤ x) (h1 : x ≤ 255) : [Value.int .u8 x] = cells8 [UInt8.ofNat x.toNat] := by
  have : (UInt8.ofNat x.toNat).toNat = x.toNat := u8_ofNat (by omega)
  simp [cells8, cb]; omega

/-- The bytes l lie in block b from off on. -/
def Rd (w : World) (b off : Nat) (l : List UInt8) : Prop := ∀ k, k < l.length → w.cell? ⟨b, off + k, none⟩ = some (.int .u8 (at8 l k))
/-- The slice v reads as the bytes l. -/
def Sl (w : World) (v : Value) (l : List UInt8) : Prop :=
  ∃ a cap, v = .slice a l.length cap ∧ l.length ≤ cap ∧ (a = none → cap = 0) ∧ (l ≠ [] → ∃ b off, a = some ⟨b, off, none⟩ ∧ Rd w b off l)

theorem Rd.below {w w' : World} {b off : Nat} {l : List UInt8} (h : Rd w b off l) (hB : Below w.heap.size w w') : Rd w' b off l := fun k hk => by
  rw [hB.cell (p := ⟨b, off + k, none⟩) (World.block_lt_of_cell? w _ (h k hk))]; exact h k hk
theorem Sl.below {w w' : World} {v : Value} {l : List UInt8} (h : Sl w v l) (hB : Below w.heap.size w w') : Sl w' v l := by
  obtain ⟨a, cap, h1, h2, h3, h4⟩ := h
  exact ⟨a, cap, h1, h2, h3, fun hl => by obtain ⟨b, off, e, hr⟩ := h4 hl; exact ⟨b, off, e, hr.below hB⟩⟩
theorem Sl.nil (w : World) : Sl w (.slice none 0 0) [] := ⟨none, 0, rfl, Nat.le_refl _, fun _ => rfl, fun h => absurd rfl h⟩
theorem Sl.mk {w : World} {b off cap : Nat} {l : List UInt8} (h : Rd w b off l) (hc : l.length ≤ cap) : Sl w (.slice (some ⟨b, off, none⟩) l.length cap) l :=
  ⟨_, _, rfl, hc, fun h => (by cases h), fun _ => ⟨b, off, rfl, h⟩⟩

/-- What a call owns reads as its bytes. -/
theorem owns_rd {w : World} {B g n cap : Nat} {l : List UInt8} (h : w.ownsRow B 5 1 (.slice (some ⟨g, 0, none⟩) n cap) n (cells8 l)) : Rd w g 0 l := fun k hk => by
  have := h.cells (g := g) rfl k _ (cells8_get l k hk)
  rwa [Addr.add_lit] at this
theorem owns_cap {w : World} {B g n cap : Nat} {xs : List Value} (h : w.ownsRow B 5 1 (.slice (some ⟨g, 0, none⟩) n cap) n xs) : n ≤ cap ∧ cap ≤ maxLen ∧ B ≤ g ∧ g < w.heap.size := by
  have hl := h.lt g rfl
  rcases h.2 with ⟨h, _⟩ | ⟨g', cap', cur, hv, hb, hg, h1, h2, _⟩
  · cases h
  · cases hv
    exact ⟨h1, h2, hl⟩
theorem owns_sl {w : World} {B g cap : Nat} {l : List UInt8} (h : w.ownsRow B 5 1 (.slice (some ⟨g, 0, none⟩) l.length cap) l.length (cells8 l)) : Sl w (.slice (some ⟨g, 0, none⟩) l.length cap) l :=
  Sl.mk (owns_rd h) (owns_cap h).1

/-- 'string(b)'. -/
theorem conv_sl {w : World} {v : Value} {l : List UInt8} (h : Sl w v l) : (convert 22 9 v).run Tryz.prog w = .ok (.string ⟨l.toArray⟩) w := by
  obtain ⟨a, cap, rfl, h2, h3, h4⟩ := h
  cases l with
  | nil =>
    rw [run_convert_bytes_string w _ _ 5 a _ cap Tryz.underlying22 Tryz.underlying5 Tryz.underlying9]
    cases a with
    | none => rfl
    | some ad => rw [run_bytesToString w ad _ cap [] (by simpa using run_loadCells_list (P := Tryz.prog) w ad [] (fun j v hj => by simp at hj))]; rfl
  | cons c r =>
    obtain ⟨b, off, rfl, hr⟩ := h4 (by simp)
    refine run_convert_bytes_back w _ _ 5 ⟨b, off, none⟩ cap (c :: r) Tryz.underlying22 Tryz.underlying5 Tryz.underlying9 (fun j hj => ?_)
    rw [Addr.add_lit, hr j hj]
    simp only [at8, List.getD, List.getElem?_eq_getElem hj, Option.getD_some]
end Go.Proofs.YtddbiiejilcbbaaGreatDoor
namespace Go.Proofs.YtddbiiejilcbbaaGreatDoor
open Go Go.RowKit

section
variable {P : Program} {w w' : World} {ops : Array Oper} {rest : List Oper} {a : Act} {Q : Exit → Act → World → Prop} {dst : Option Nat} {ty : TypeId} {pos : String} {after : Array Edge}

end

theorem add_lit (b o j : Nat) : (⟨b, o, none⟩ : Addr).add j = ⟨b, o + j, none⟩ := by unfold Addr.add; split <;> simp_all

/-- A row of cells with some of them laid anew. -/
def relaid (cur : Array Value) (o : Nat) (cs : List Value) : Array Value := (cur.toList.take o ++ cs ++ cur.toList.drop (o + cs.length)).toArray

theorem stores (P : Program) (w : World) (b o : Nat) (cur : Array Value) (t : TypeId) (cs : List Value) (hg : w.heap[b]? = some (.cells cur t (0, 0))) (hl : o + cs.length ≤ cur.size) (h1 : ∀ v ∈ cs, v.oneCell' = true) :
    (storeCells ⟨b, o, none⟩ cs 0).run P w = .ok () (w.setRow b (relaid cur o cs)) := by
  have := run_storeCells_at (P := P) b o t cs 0 cur w hg (by simpa using hl) h1
  simpa [relaid] using this

theorem run_size {P : Program} {t : TypeId} {n : Nat} (h : (P.info? t).map (·.size) = some n) (w : World) : (Go.sizeOf t).run P w = .ok n w := by
  cases hq : P.info? t with
  | none => simp [hq] at h
  | some i => simp [hq] at h; simp [Go.sizeOf, typeInfo, hq, h]

end Go.Proofs.YtddbiiejilcbbaaGreatDoor
namespace Go.Proofs.YtddbiiejilcbbaaGreatDoor
open Go Go.RowKit

/-- A loose write: where, and what. -/
def wv (x : Nat × List UInt8) : Value := .agg (.int .i64 x.1 :: cells8 x.2).toArray
end Go.Proofs.YtddbiiejilcbbaaGreatDoor
namespace Go.Proofs.YtddbiiejilcbbaaGreatDoor
open Go Go.RowKit

variable {ops : Array Oper} {S : World → Prop} {o : Oper} {a : Act}

variable {Q : Exit → Act → World → Prop} {md : Region.Mode} {fuel : Nat} {listed : Array Bool} {w w1 : World} {i : Nat} {L L' : Array Bool}

end Go.Proofs.YtddbiiejilcbbaaGreatDoor
namespace Go.Proofs.YtddbiiejilcbbaaGreatDoor
open Go Go.RowKit

section
variable {ops : Array Oper} {Q : Exit → Act → World → Prop} {md : Region.Mode} {S : World → Prop} {z : Nat}
variable {o : Oper} {a : Act} {fuel : Nat} {w w1 : World} {i : Nat} {L L' : Array Bool}
end
section
variable {ops : Array Oper} {S : World → Prop} {o : Oper} {a : Act}
end
section
variable {ops : Array Oper} {Q : Exit → Act → World → Prop} {md : Region.Mode} {S : World → Prop} {z : Nat} {o : Oper} {a : Act} {fuel : Nat} {w w1 : World} {i : Nat} {L L' : Array Bool}
end
section
variable {ops : Array Oper} {o : Oper} {a : Act} {w w' : World} {rest : List Oper} {Q : Exit → Act → World → Prop}
end
section
variable {o : Oper} {a : Act} {w w1 : World}
end
section
variable {ops : Array Oper} {S : World → Prop} {o : Oper} {a : Act}
end
end Go.Proofs.YtddbiiejilcbbaaGreatDoor
namespace Go.Proofs.YtddbiiejilcbbaaGreatDoor
open Go Go.RowKit

theorem load1 {t : TypeId} (ha : ∀ w, (isAgg t).run Tryz.prog w = .ok false w) {w : World} {p i : Nat} {v : Value} (hc : w.cell? ⟨p, i, none⟩ = some v) : (Instr.loadAt t (.pointer (some ⟨p, i, none⟩))).run Tryz.prog w = .ok v w := by
  simp only [Instr.loadAt, Instr.sureAddr, Sem.run_bind, Sem.run_pure, Result.andThen, loadVar, ha]
  go_simp
def strV (b : List UInt8) : Value := .string ⟨b.toArray⟩
theorem neqS (a b : List UInt8) (r : Bool) (h : decide (a ≠ b) = r) (w : World) : (binOp .neq 9 (strV a) (strV b)).run Tryz.prog w = .ok (.bool r) w := by
  subst h
  unfold strV
  go_simp
  by_cases hab : a = b <;> simp [hab]
theorem eqlS (a b : List UInt8) (r : Bool) (h : decide (a = b) = r) (w : World) : (binOp .eql 9 (strV a) (strV b)).run Tryz.prog w = .ok (.bool r) w := by
  subst h
  unfold strV
  go_simp
  by_cases hab : a = b <;> simp [hab]
section
variable {ops : Array Oper} {o : Oper} {w : World} {rest : List Oper} {Q : Exit → Act → World → Prop}
end
end Go.Proofs.YtddbiiejilcbbaaGreatDoor
