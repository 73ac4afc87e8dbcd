/- What was put is taken as it was, at any place: the plain mathematics of WireBack. -/
import Derived.Test.YtpflajehakiloaaDoorWApartW
namespace Go.Proofs.YtpflajehakiloaaDoor
open Go Go.RowKit

theorem tInt_at (p r : List UInt8) {n : Int} (h0 : -9223372036854775808 ≤ n) (h1 : n ≤ 9223372036854775807) : tInt (p ++ (vb (zig n) ++ r)) (p.length : Int) = some (n, (vb (zig n)).length) := by
  unfold tInt
  rw [if_pos (by rw [List.length_append]; omega), Int.toNat_natCast, List.drop_left]
  exact takeI_put h0 h1 r
theorem tText_at (p s r : List UInt8) (hs : s.length ≤ 140737488351232) : tText (p ++ (vb (zig s.length) ++ s ++ r)) (p.length : Int) (s.length : Int) = some (s, (vb (zig s.length)).length + s.length) := by
  unfold tText
  rw [List.append_assoc, tInt_at p _ (by omega) (by omega)]
  dsimp only
  rw [if_pos (by simp only [List.length_append]; omega)]
  simp only [Int.toNat_natCast]
  rw [← List.drop_drop, List.drop_left, List.drop_left, List.take_left]
theorem tKI_at (p r : List UInt8) {n : Int} (h0 : -9223372036854775808 ≤ n) (h1 : n ≤ 9223372036854775807) : tKI (p ++ (kb n ++ r)) (p.length : Int) = some (n, 8) := by
  unfold tKI
  rw [if_pos (by rw [List.length_append]; omega), Int.toNat_natCast, List.drop_left]
  exact takeKI_put h0 h1 r
theorem tKT_at (p s r : List UInt8) : tKT (p ++ (kt s ++ r)) (p.length : Int) = some (s, (kt s).length) := by
  unfold tKT
  rw [if_pos (by rw [List.length_append]; omega), Int.toNat_natCast, List.drop_left]
  exact takeKT_put s r

/-- What the four takes answer of what the four puts laid. -/
theorem back_puts (n m : Int) (s t : List UInt8) (n0 : -9223372036854775808 ≤ n) (n1 : n ≤ 9223372036854775807) (m0 : -9223372036854775808 ≤ m) (m1 : m ≤ 9223372036854775807) (hs : s.length ≤ 140737488351232) (ht : t.length ≤ 140737488351232)
    (X : List UInt8) (hX : X = vb (zig n) ++ vb (zig s.length) ++ s ++ vb (zig m) ++ vb (zig t.length) ++ t) :
    ∃ i j k : Int, outI (tInt X 0) 0 = .tuple #[.int .i64 n, .int .i64 i, .bool true] ∧ outS (tText X i s.length) i = .tuple #[.string ⟨s.toArray⟩, .int .i64 j, .bool true] ∧
      outI (tInt X j) j = .tuple #[.int .i64 m, .int .i64 k, .bool true] ∧ outS (tText X k t.length) k = .tuple #[.string ⟨t.toArray⟩, .int .i64 X.length, .bool true] := by
  have h1 := tInt_at [] (vb (zig s.length) ++ s ++ vb (zig m) ++ vb (zig t.length) ++ t) n0 n1
  have h2 := tText_at (vb (zig n)) s (vb (zig m) ++ vb (zig t.length) ++ t) hs
  have h3 := tInt_at (vb (zig n) ++ vb (zig s.length) ++ s) (vb (zig t.length) ++ t) m0 m1
  have h4 := tText_at (vb (zig n) ++ vb (zig s.length) ++ s ++ vb (zig m)) t [] ht
  simp only [List.append_assoc, List.nil_append, List.append_nil] at h1 h2 h3 h4 hX
  rw [← hX] at h1 h2 h3 h4
  refine ⟨(vb (zig n)).length, (vb (zig n) ++ (vb (zig s.length) ++ s)).length, (vb (zig n) ++ (vb (zig s.length) ++ (s ++ vb (zig m)))).length, ?_, ?_, ?_, ?_⟩
  · have h1' : tInt X 0 = some (n, (vb (zig n)).length) := h1
    rw [h1']; unfold outI tri; simp
  · rw [h2]; unfold outS triS; simp
  · rw [h3]; unfold outI tri; simp; omega
  · rw [h4]; unfold outS triS
    have hl : X.length = (vb (zig n) ++ (vb (zig s.length) ++ (s ++ vb (zig m)))).length + ((vb (zig t.length)).length + t.length) := by rw [hX]; simp; omega
    rw [hl, Int.natCast_add]
theorem back_keys (n : Int) (s t : List UInt8) (n0 : -9223372036854775808 ≤ n) (n1 : n ≤ 9223372036854775807) (Y : List UInt8) (hY : Y = kt s ++ kb n ++ kt t) :
    ∃ o p : Int, outS (tKT Y 0) 0 = .tuple #[.string ⟨s.toArray⟩, .int .i64 o, .bool true] ∧ outI (tKI Y o) o = .tuple #[.int .i64 n, .int .i64 p, .bool true] ∧
      outS (tKT Y p) p = .tuple #[.string ⟨t.toArray⟩, .int .i64 Y.length, .bool true] := by
  have h1 := tKT_at [] s (kb n ++ kt t)
  have h2 := tKI_at (kt s) (kt t) n0 n1
  have h3 := tKT_at (kt s ++ kb n) t []
  simp only [List.append_assoc, List.nil_append, List.append_nil] at h1 h2 h3 hY
  rw [← hY] at h1 h2 h3
  refine ⟨(kt s).length, (kt s ++ kb n).length, ?_, ?_, ?_⟩
  · have h1' : tKT Y 0 = some (s, (kt s).length) := h1
    rw [h1']; unfold outS triS; simp
  · rw [h2]; unfold outI tri; simp [kb_len]
  · rw [h3]; unfold outS triS
    have hl : Y.length = (kt s ++ kb n).length + (kt t).length := by rw [hY]; simp; omega
    rw [hl, Int.natCast_add]

theorem take_of_prefix {p l : List UInt8} {k : Nat} (h : p <+: l) (hk : k = p.length) : l.take k = p := by
  obtain ⟨r, rfl⟩ := h
  rw [hk, List.take_left]
/-- What is taken, put again, has just those bytes. -/
theorem again_int {l : List UInt8} {j : Nat} {n : Int} {k : Nat} (h : tInt l (j : Int) = some (n, k)) : (-9223372036854775808 ≤ n ∧ n ≤ 9223372036854775807) ∧ (l.drop j).take k = vb (zig n) ∧ j + k ≤ l.length ∧ 1 ≤ k := by
  obtain ⟨_, h2, h3, _⟩ := tInt_len h
  rw [Int.toNat_natCast] at h3
  obtain ⟨hb, hp, hk⟩ := (takeI_iff _ _ _).1 h3
  exact ⟨hb, take_of_prefix hp hk, by omega, (takeI_len h3).1⟩
theorem again_text {l t : List UInt8} {j : Nat} {most : Int} {k : Nat} (h : tText l (j : Int) most = some (t, k)) : (l.drop j).take k = vb (zig t.length) ++ t ∧ j + k ≤ l.length ∧ 1 ≤ k ∧ t.length ≤ l.length := by
  unfold tText at h
  cases hT : tInt l (j : Int) with
  | none => rw [hT] at h; cases h
  | some q =>
    obtain ⟨n, i⟩ := q
    rw [hT] at h
    dsimp only at h
    by_cases hc : 0 ≤ n ∧ n ≤ most ∧ n ≤ (l.length : Int) - ((j : Int) + i)
    · rw [if_pos hc] at h
      injection h with h
      injection h with hA hB
      obtain ⟨_, hv, hi, hi1⟩ := again_int hT
      rw [Int.toNat_natCast] at hA
      have hlen : t.length = n.toNat := by rw [← hA, List.length_take, List.length_drop]; omega
      have hn : ((t.length : Nat) : Int) = n := by omega
      refine ⟨?_, by omega, by omega, by omega⟩
      rw [hn, ← hv, ← hA, ← hB, List.take_add, List.drop_drop]
    · rw [if_neg hc] at h; cases h
theorem again_key {l t : List UInt8} {j : Nat} {k : Nat} (h : tKT l (j : Int) = some (t, k)) : (l.drop j).take k = kt t ∧ j + k ≤ l.length ∧ 1 ≤ k ∧ (kt t).length ≤ l.length := by
  unfold tKT at h
  by_cases hc : 0 ≤ (j : Int) ∧ (j : Int) ≤ l.length
  · rw [if_pos hc, Int.toNat_natCast] at h
    obtain ⟨hp, hk⟩ := (takeKT_iff _ _ _).1 h
    have h1 := hp.length_le
    rw [List.length_drop] at h1
    have := kt_len t
    exact ⟨take_of_prefix hp hk, by omega, by omega, by omega⟩
  · rw [if_neg hc] at h; cases h
theorem tText_nn {l t : List UInt8} {at_ most : Int} {k : Nat} (h : tText l at_ most = some (t, k)) : 0 ≤ at_ ∧ l ≠ [] := by
  unfold tText at h
  cases hT : tInt l at_ with
  | none => rw [hT] at h; cases h
  | some q => exact ⟨(tInt_len hT).1, (tInt_len hT).2.2.2⟩
theorem tKT_nn {l t : List UInt8} {at_ : Int} {k : Nat} (h : tKT l at_ = some (t, k)) : 0 ≤ at_ ∧ l ≠ [] := by
  unfold tKT at h
  by_cases hc : 0 ≤ at_ ∧ at_ ≤ l.length
  · refine ⟨hc.1, fun e => ?_⟩
    subst e
    rw [if_pos hc, List.drop_nil] at h
    cases h
  · rw [if_neg hc] at h; cases h
end Go.Proofs.YtpflajehakiloaaDoor
