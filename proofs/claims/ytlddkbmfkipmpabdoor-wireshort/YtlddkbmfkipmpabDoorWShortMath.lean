/- A beginning of what was put is none: the plain mathematics of WireShort. -/
import Derived.Test.YtlddkbmfkipmpabDoorWFrame
namespace Go.Proofs.YtlddkbmfkipmpabDoor
open Go Go.RowKit

theorem takeI_short {n : Int} (h0 : -9223372036854775808 ≤ n) (h1 : n ≤ 9223372036854775807) {k : Nat} (hk : k < (vb (zig n)).length) : takeI ((vb (zig n)).take k) = none := by
  cases h : takeI ((vb (zig n)).take k) with
  | none => rfl
  | some p =>
    exfalso
    obtain ⟨m, j⟩ := p
    obtain ⟨⟨m0, m1⟩, hp, _⟩ := (takeI_iff _ _ _).1 h
    have hp' : vb (zig m) <+: vb (zig n) := hp.trans (List.take_prefix _ _)
    have e := vb_prefix (zig_lt m0 m1) (zig_lt h0 h1) hp'
    have := hp.length_le
    rw [e, List.length_take] at this
    omega
theorem tInt_zero (l : List UInt8) : tInt l 0 = takeI l := by
  unfold tInt
  rw [if_pos (by omega)]; rfl
theorem tInt_short {n : Int} (h0 : -9223372036854775808 ≤ n) (h1 : n ≤ 9223372036854775807) {k : Nat} (hk : k < (vb (zig n)).length) : tInt ((vb (zig n)).take k) 0 = none := by
  rw [tInt_zero]; exact takeI_short h0 h1 hk
theorem tText_short (s : List UInt8) (hs : s.length ≤ 140737488351232) (most : Int) {k : Nat} (hk : k < (vb (zig s.length) ++ s).length) : tText ((vb (zig s.length) ++ s).take k) 0 most = none := by
  unfold tText
  rw [tInt_zero]
  by_cases hv : k < (vb (zig s.length)).length
  · rw [List.take_append_of_le_length (by omega), takeI_short (by omega) (by omega) hv]
  · have e : (vb (zig s.length) ++ s).take k = vb (zig s.length) ++ s.take (k - (vb (zig s.length)).length) := by
      rw [List.take_append, List.take_of_length_le (by omega)]
    rw [e, takeI_put (by omega) (by omega)]
    dsimp only
    rw [if_neg]
    rintro ⟨_, _, h3⟩
    rw [List.length_append] at hk
    simp only [List.length_append, List.length_take] at h3
    omega
theorem tText_less (s : List UInt8) (hs : s.length ≤ 140737488351232) : tText (vb (zig s.length) ++ s) 0 ((s.length : Int) - 1) = none := by
  unfold tText
  rw [tInt_zero, takeI_put (by omega) (by omega)]
  dsimp only
  rw [if_neg (by omega)]
theorem tKI_short {n : Int} {k : Nat} (hk : k < (kb n).length) : tKI ((kb n).take k) 0 = none := by
  unfold tKI takeKI
  rw [kb_len] at hk
  rw [if_pos (by omega), if_neg]
  simp only [Int.toNat_zero, List.drop_zero, List.length_take]
  omega
theorem tKT_short {s : List UInt8} {k : Nat} (hk : k < (kt s).length) : tKT ((kt s).take k) 0 = none := by
  unfold tKT
  rw [if_pos (by omega)]
  show takeKT ((kt s).take k) = none
  cases h : takeKT ((kt s).take k) with
  | none => rfl
  | some p =>
    exfalso
    obtain ⟨t, j⟩ := p
    obtain ⟨hp, _⟩ := (takeKT_iff _ _ _).1 h
    have e := kt_prefix (hp.trans (List.take_prefix _ _))
    have := hp.length_le
    rw [e, List.length_take] at this
    omega
theorem tInt_end (l : List UInt8) : tInt l (l.length : Int) = none := by
  unfold tInt
  rw [if_pos (by omega), Int.toNat_natCast, List.drop_length]; rfl
theorem kcnt_take : ∀ (s : List UInt8) (k : Nat), kcnt ((kt s).take k) ≤ s.length
  | [], k => by
    rw [kt_nil]
    match k with
    | 0 => simp [kcnt]
    | 1 => exact Nat.le_of_eq kcnt_end
    | k + 2 => simp only [List.take_succ_cons, List.take_nil]; rw [kcnt_zero]; simp
  | c :: s, k => by
    rw [kt_cons]
    unfold escB
    by_cases hc : c = 0
    · rw [if_pos hc]
      match k with
      | 0 => simp [kcnt]
      | 1 => show kcnt [0] ≤ _; rw [kcnt_end]; omega
      | k + 2 =>
        show kcnt (0 :: 255 :: (kt s).take k) ≤ _
        rw [kcnt_zero, if_neg (by decide), if_pos rfl]
        have := kcnt_take s k
        simp only [List.length_cons]; omega
    · rw [if_neg hc]
      match k with
      | 0 => simp [kcnt]
      | k + 1 =>
        show kcnt (c :: (kt s).take k) ≤ _
        rw [kcnt_ne _ _ hc]
        have := kcnt_take s k
        simp only [List.length_cons]; omega
/-- A beginning of a slice. -/
theorem Sl.take {w : World} {a : Option Addr} {cap : Nat} {l : List UInt8} (h : Sl w (.slice a l.length cap) l) (k : Nat) (hk : k ≤ l.length) : Sl w (.slice a k cap) (l.take k) := by
  obtain ⟨a', cap', he, h2, h3, h4⟩ := h
  cases he
  have hl : (l.take k).length = k := by rw [List.length_take]; omega
  refine ⟨a, cap, by rw [hl], by omega, h3, fun hne => ?_⟩
  have hk0 : 0 < k := by
    rcases Nat.eq_zero_or_pos k with h | h
    · exfalso; apply hne; rw [h]; rfl
    · exact h
  obtain ⟨b, off, e, hr⟩ := h4 (by intro e; rw [e] at hk; simp at hk; omega)
  refine ⟨b, off, e, fun j hj => ?_⟩
  rw [hl] at hj
  rw [at8_take _ _ _ hj]
  exact hr j (by omega)
end Go.Proofs.YtlddkbmfkipmpabDoor
