/- The walk of num's eachPlace over the writer: six places behind the point. -/
import Derived.Test.YtehpnhmghfpjpaaDoorPut
import Derived.Test.YtehpnhmghfpjpaaDoorDigits
namespace Go.Proofs.YtehpnhmghfpjpaaDoor
open Go.RowKit

/-- The writer lies in block p, its text's bytes are s.1, and s.2 is left. -/
def WSt (B p : Nat) (s : List UInt8 × Int × Int) (w : World) : Prop :=
  ∃ g cap, WrIs p (.slice (some ⟨g, 0, none⟩) s.1.length cap) s.2.1 s.2.2 w ∧ w.ownsRow B 5 1 (.slice (some ⟨g, 0, none⟩) s.1.length cap) s.1.length (Lib.byteCells s.1) ∧ g ≠ p

theorem byteCells_snoc (l : List UInt8) (q : Int) (h0 : 0 ≤ q) (h1 : q ≤ 9) : Lib.byteCells l ++ [.int .u8 (48 + q)] = Lib.byteCells (l ++ [UInt8.ofNat (48 + q.toNat)]) := by
  simp [Lib.byteCells]
  omega

theorem put_any (B p : Nat) (i : Int) (s : List UInt8 × Int × Int) (w : World) (hw : WSt B p s w) (hg : Good s) (hB : B ≤ p) (hn : s.1.length + 1 ≤ 1000) :
    Calls Tryd.prog 40 #[.pointer (some ⟨p, 0, none⟩), .int .i64 i] w fun e w' => e = .returned (.tuple #[]) ∧ WSt B p (putF s) w' ∧ Below B w w' := by
  obtain ⟨g, cap, h1, h2, h3⟩ := hw
  by_cases hz : s.2.1 = 0
  · refine (put_zero p i w (by rw [← hz]; exact h1.2.1)).mono ?_
    rintro e w ⟨rfl, rfl⟩
    refine ⟨rfl, ?_, Below.refl _ _⟩
    unfold putF
    rw [if_pos hz]
    exact ⟨g, cap, h1, h2, h3⟩
  · obtain ⟨a1, a2, a3, a4, a5, a6, _⟩ := hg.step hz
    refine (put_next B p s.1.length g cap i s.2.1 s.2.2 _ w h1 h2 h3 hB hn a1 a2 a3 a4 a6).mono ?_
    rintro e w' ⟨rfl, g', cap', b1, b2, b3, b4⟩
    refine ⟨rfl, ?_, b3⟩
    unfold putF
    rw [if_neg hz]
    rw [byteCells_snoc _ _ a5 a6] at b1
    have hl : (s.1 ++ [UInt8.ofNat (48 + (s.2.1 / (s.2.2 / 10)).toNat)]).length = s.1.length + 1 := by simp
    exact ⟨g', cap', by simp only [hl]; exact b4, by simp only [hl]; exact b1, b2⟩

set_option maxHeartbeats 400000 in
theorem place_put (B p : Nat) (s : List UInt8 × Int × Int) (w : World) (hw : WSt B p s w) (hg : Good s) (hB : B ≤ p) (hn : s.1.length ≤ 900) :
    Calls Tryd.prog 39 #[.func (.func 40) #[.pointer (some ⟨p, 0, none⟩)] #[]] w fun e w' => e = .returned (.tuple #[]) ∧ WSt B p (putN 6 s) w' ∧ Below B w w' := by
  go_enter Tryd.func39, Tryd.ntmps39
  go_wp2
  go_loopw [3] (fun i wr => ∃ k : Nat, k ≤ 6 ∧ i = .int .i64 k ∧ WSt B p (putN k s) wr ∧ Below B w wr) (fun i _ => 6 - (intOf i).toNat)
  case atStart => exact ⟨0, by omega, rfl, hw, Below.refl _ _⟩
  case round =>
    obtain ⟨k, hk, rfl, hst, hbel⟩ := hrel
    have hgk := hg.putN k
    have hlk := putN_len s k
    by_cases hlt : k < 6
    · have HP : Hid (∀ w' (_ : WSt B p (putN k s) w') (i : Int), Calls Tryd.prog 40 #[.pointer (some ⟨p, 0, none⟩), .int .i64 i] w' fun e w'' => e = .returned (.tuple #[]) ∧ WSt B p (putF (putN k s)) w'' ∧ Below B w' w'') := fun w' h i => put_any B p i (putN k s) w' h hgk hB (by omega)
      clear hgk hlk
      have HS : Hid (WSt B p (putN k s) wr) := hst
      clear hst
      go_wp2_with (go_at_call 40; refine (HP.out _ HS.out _).mono ?_; rintro e w2 ⟨rfl, hst2, hbel2⟩)
      go_roundw
      case rel => exact ⟨k + 1, by omega, by go_num, hst2, hbel.trans hbel2⟩
      case measure => simp [intOf]; omega
    · go_wp2
      go_end0
      obtain rfl : k = 6 := by omega
      exact ⟨rfl, hst, hbel⟩
end Go.Proofs.YtehpnhmghfpjpaaDoor
