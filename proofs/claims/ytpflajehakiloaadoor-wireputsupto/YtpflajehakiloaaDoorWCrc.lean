/- The walks of wire's crcOver and Crc. -/
import Derived.Test.YtpflajehakiloaaDoorWRow
import Derived.Test.YtpflajehakiloaaDoorWCrcMath
namespace Go.Proofs.YtpflajehakiloaaDoor
open Go Go.RowKit

/-- The table lies where the program lays it. -/
def Tab (w : World) : Prop := ∀ k, k < 16 → w.cell? ⟨0, k, none⟩ = some (.int .u32 (crcAt k : Nat))
theorem Tab.below {w w' : World} (h : Tab w) (hB : Below w.heap.size w w') : Tab w' := fun k hk => by
  rw [hB.cell (p := ⟨0, k, none⟩) (World.block_lt_of_cell? w _ (h k hk))]; exact h k hk

theorem bits_xor_u32_nat (a b : Nat) (ha : a < 4294967296) (hb : b < 4294967296) : bits .xor .u32 (a : Int) (b : Int) = ((a ^^^ b : Nat) : Int) := by
  have hx : a ^^^ b < 2 ^ 32 := Nat.xor_lt_two_pow (by omega) (by omega)
  have h1 : (BitVec.ofInt 32 (a : Int)).toNat = a := by
    rw [BitVec.ofInt_natCast, BitVec.toNat_ofNat]; exact Nat.mod_eq_of_lt (by omega)
  have h2 : (BitVec.ofInt 32 (b : Int)).toNat = b := by
    rw [BitVec.ofInt_natCast, BitVec.toNat_ofNat]; exact Nat.mod_eq_of_lt (by omega)
  show IntKind.u32.wrap ((BitVec.ofInt 32 (a : Int) ^^^ BitVec.ofInt 32 (b : Int)).toNat : Int) = _
  rw [BitVec.toNat_xor, h1, h2, IntKind.wrap_u32]
  omega
theorem nib_int (x : Nat) (h : x < 4294967296) : bits .xor .u32 ((x : Int) / 16) ((crcAt (x % 16) : Nat) : Int) = ((nib x : Nat) : Int) := by
  have e : ((x : Int) / 16) = ((x / 16 : Nat) : Int) := by omega
  rw [e, bits_xor_u32_nat _ _ (by omega) (crcAt_lt _)]; rfl

theorem crcB_snoc (s : Nat) (l : List UInt8) (k : Nat) (h : k < l.length) : crcB s (l.take (k + 1)) = nib (nib (crcB s (l.take k) ^^^ (l.getD k 0).toNat)) := by
  rw [List.take_add_one, crcB_append]
  simp [List.getD, h, crcB]

set_option maxRecDepth 100000 in
set_option maxHeartbeats 800000 in
theorem crcOver_in (b off cap s : Nat) (l : List UInt8) (w : World) (hs : s < 4294967296) (hr : Rd w b off l) (hn : l.length ≤ 281474976710656) (ht : Tab w) :
    Calls Tryd.prog 37 #[.int .u32 s, .slice (some ⟨b, off, none⟩) l.length cap] w fun e w' => e = .returned (.int .u32 (crcB s l : Nat)) ∧ w' = w := by
  have HR := hid hr
  have HT := hid ht
  clear hr ht
  go_enter Tryd.func37, Tryd.ntmps37
  go_wp2
  go_loop [0, 9] (fun q i => ∃ k x : Nat, k ≤ l.length ∧ i = .int .i64 k ∧ q = .int .u32 x ∧ x < 4294967296 ∧ x = crcB s (l.take k)) (fun _ i => l.length - (intOf i).toNat)
  case atStart => exact ⟨0, s, by omega, rfl, rfl, hs, rfl⟩
  case round =>
    obtain ⟨k, x, hk, rfl, rfl, hx, hxe⟩ := hrel
    have HX := hid hxe
    clear hxe
    by_cases hlt : k < l.length
    · have hcell := HR.out k hlt
      have hst := crcB_snoc s l k hlt
      rw [← HX.out] at hst
      have hc := (l.getD k 0).toNat_lt
      have h1 := bits_xor_u32_nat x (l.getD k 0).toNat hx (by omega)
      have hb1 := xor8_lt hx (l.getD k 0)
      unfold at8 at hcell
      have HST := hid hst
      clear hst
      generalize x ^^^ (l.getD k 0).toNat = x1 at *
      generalize (l.getD k 0).toNat = c at *
      have hb2 := nib_lt hb1
      have hb3 := nib_lt hb2
      have h2 := nib_int x1 hb1
      have h3 := nib_int (nib x1) hb2
      have ht1 := HT.out (x1 % 16) (Nat.mod_lt _ (by decide))
      have ht2 := HT.out (nib x1 % 16) (Nat.mod_lt _ (by decide))
      generalize nib (nib x1) = x3 at *
      generalize nib x1 = x2 at *
      generalize crcAt (x1 % 16) = t1 at *
      generalize crcAt (x2 % 16) = t2 at *
      go_wp2_with fail
      exact ⟨⟨k + 1, x3, by omega, by go_num, rfl, hb3, HST.out.symm⟩, by simp [intOf]; omega⟩
    · have hall : crcB s l = x := by rw [HX.out, List.take_of_length_le (by omega)]
      have HA := hid hall
      clear hall
      go_wp2
      go_ret
      exact ⟨by rw [HA.out]; rfl, rfl⟩

set_option maxHeartbeats 400000 in
theorem crcOver_nil (a : Option Addr) (cap s : Nat) (w : World) :
    Calls Tryd.prog 37 #[.int .u32 s, .slice a 0 cap] w fun e w' => e = .returned (.int .u32 s) ∧ w' = w := by
  go_enter Tryd.func37, Tryd.ntmps37
  go_wp2
  refine wp_loop_rounds 1 ?_
  rw [rounds_succ]
  go_wp2
  go_ret
  exact ⟨rfl, rfl⟩

theorem crcOver_any (a : Option Addr) (cap s : Nat) (l : List UInt8) (w : World) (hs : s < 4294967296) (hv : Sl w (.slice a l.length cap) l) (hn : l.length ≤ 281474976710656) (ht : Tab w) :
    Calls Tryd.prog 37 #[.int .u32 s, .slice a l.length cap] w fun e w' => e = .returned (.int .u32 (crcB s l : Nat)) ∧ w' = w := by
  obtain ⟨a', cap', he, h2, h3, h4⟩ := hv
  cases he
  cases l with
  | nil => exact crcOver_nil a cap s w
  | cons c r =>
    obtain ⟨b, off, rfl, hr⟩ := h4 (by simp)
    exact crcOver_in b off cap s (c :: r) w hs hr hn ht

/-- Parts that lie in memory: each a slice of its own. -/
def Parts (w : World) (a : Option Addr) (ps : List (List UInt8)) : Prop :=
  ∀ k, k < ps.length → ∃ b o ap cp, a = some ⟨b, o, none⟩ ∧ w.cell? ⟨b, o + k, none⟩ = some (.slice ap (ps.getD k []).length cp) ∧ Sl w (.slice ap (ps.getD k []).length cp) (ps.getD k [])

theorem crcB_flat (s : Nat) (ps : List (List UInt8)) (k : Nat) (h : k < ps.length) : crcB s (ps.take (k + 1)).flatten = crcB (crcB s (ps.take k).flatten) (ps.getD k []) := by
  rw [List.take_add_one, List.flatten_append, crcB_append]
  simp [List.getD, h]
theorem not_u32 (x : Nat) (h : x < 4294967296) : bits .xor .u32 IntKind.u32.max (x : Int) = ((4294967295 - x : Nat) : Int) := by
  show IntKind.u32.wrap ((BitVec.ofInt 32 4294967295 ^^^ BitVec.ofInt 32 (x : Int)).toNat : Int) = _
  have e : BitVec.ofInt 32 4294967295 = BitVec.allOnes 32 := by decide
  rw [e, BitVec.allOnes_xor, BitVec.toNat_not, BitVec.ofInt_natCast, BitVec.toNat_ofNat, IntKind.wrap_u32]
  omega

set_option maxRecDepth 100000 in
set_option maxHeartbeats 800000 in
theorem crc_any (a : Option Addr) (n cap : Nat) (ps : List (List UInt8)) (w : World) (hp : Parts w a ps) (hl : ps.length = n) (hn : n ≤ 281474976710656) (hq : ∀ l ∈ ps, l.length ≤ 281474976710656) (ht : Tab w) :
    Calls Tryd.prog 28 #[.slice a n cap] w fun e w' => e = .returned (.int .u32 (crcOf ps.flatten : Nat)) ∧ w' = w := by
  have HP := hid hp
  have HT := hid ht
  have HQ := hid hq
  have HL := hid hl
  clear hp ht hq hl
  go_enter Tryd.func28, Tryd.ntmps28
  go_wp2
  go_loop [3, 8] (fun q i => ∃ k x : Nat, k ≤ n ∧ i = .int .i64 k ∧ q = .int .u32 x ∧ x < 4294967296 ∧ x = crcB 4294967295 (ps.take k).flatten) (fun _ i => n - (intOf i).toNat)
  case atStart => exact ⟨0, 4294967295, by omega, rfl, rfl, by decide, rfl⟩
  case round =>
    obtain ⟨k, x, hk, rfl, rfl, hx, hxe⟩ := hrel
    have HX := hid hxe
    clear hxe
    by_cases hlt : k < n
    · obtain ⟨b, o, ap, cp, rfl, hcell, hsl⟩ := HP.out k (by rw [HL.out]; exact hlt)
      have hst := crcB_flat 4294967295 ps k (by rw [HL.out]; exact hlt)
      rw [← HX.out] at hst
      have hqk := HQ.out (ps.getD k []) (by have hk' : k < ps.length := by rw [HL.out]; exact hlt
                                            simp [List.getD, hk'])
      have hb3 := crcB_lt (ps.getD k []) x hx
      have HST := hid hst
      have HSL := hid hsl
      clear hst hsl
      generalize ps.getD k [] = lp at *
      go_wp2_with fail
      refine (crcOver_any ap cp x lp w hx HSL.out hqk HT.out).mono ?_
      rintro e w ⟨rfl, rfl⟩
      go_wp2_with fail
      exact ⟨⟨k + 1, _, by omega, by go_num, rfl, hb3, HST.out.symm⟩, by simp [intOf]; omega⟩
    · have hall : crcB 4294967295 ps.flatten = x := by rw [HX.out, List.take_of_length_le (by rw [HL.out]; omega)]
      have HA := hid hall
      clear hall
      go_wp2
      go_ret
      refine ⟨?_, rfl⟩
      unfold crcOf
      rw [HA.out, ← not_u32 x hx]
      rfl
end Go.Proofs.YtpflajehakiloaaDoor
