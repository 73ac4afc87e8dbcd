/- A journal whose power may go: it writes on, or is off; what lies on its disk does not matter. -/
import Derived.Test.YtdogjicccajnkaaDoorJGh
namespace Go.Proofs.YtdogjicccajnkaaDoor
open Go Go.RowKit

theorem wr_n (s : DS) (x : Int) (l : List UInt8) : (s.wr x l).2.n = s.n := by
  unfold DS.wr
  split
  · rfl
  · split
    · rfl
    · split
      · rfl
      · split <;> rfl
theorem fl_n (s : DS) : s.fl.2.n = s.n := by
  unfold DS.fl
  split
  · rfl
  · split <;> rfl
theorem puts_n : ∀ (L : List (Nat × List UInt8)) (s : DS), (s.puts L).2.n = s.n
  | [], _ => rfl
  | x :: r, s => by
    unfold DS.puts
    split
    · rw [puts_n r, wr_n]
    · rw [wr_n]
theorem layR_n (s : DS) (nb : Nat) (ns : List (Nat × List UInt8)) : (s.layR nb ns).2.n = s.n := by
  unfold DS.layR
  split
  · rw [fl_n, puts_n]
  · rw [puts_n]
theorem comR_n (s : DS) (nb sq cnt : Nat) (ns : List (Nat × List UInt8)) : (s.comR nb sq cnt ns).2.n = s.n := by
  unfold DS.comR
  split
  · rw [puts_n]
  · split
    · rw [fl_n, puts_n]
    · split
      · rw [wr_n, fl_n, puts_n]
      · split
        · rw [fl_n, wr_n, fl_n, puts_n]
        · rw [layR_n, fl_n, wr_n, fl_n, puts_n]
/-- A journal in memory from B on; it may be off. -/
structure Ja (B : Nat) (w : World) (j p n : Nat) (X : List Nat) (s : DS) (sq : Nat) (off : Int) : Prop where
  jn : Jn w j p (nbOf n) (sq : Nat) off
  disk : Disk w p X s
  tab : Tab w
  sn : s.n = n
  lo : ∀ k ∈ X, B ≤ k
  jlo : B ≤ j
theorem Ja.below {B : Nat} {w w' : World} {j p n : Nat} {X : List Nat} {s : DS} {sq : Nat} {off : Int} (h : Ja B w j p n X s sq off) (hB : Below w.heap.size w w') : Ja B w' j p n X s sq off :=
  ⟨below_at hB h.jn (heap_lt h.jn), h.disk.below hB, h.tab.below hB, h.sn, h.lo, h.jlo⟩
theorem Ja.wr {B : Nat} {w : World} {j p n : Nat} {X : List Nat} {s : DS} {sq : Nat} {off : Int} (h : Ja B w j p n X s sq off) (hBw : B ≤ w.heap.size) (hn : n ≤ 16384) (hsq : sq < 1000000000) {va vb : Value} {zs : List Int} {ps : List (List UInt8)} (ha : Iz w va zs) (hb : Bz w vb ps) (hl : zs.length ≤ 281474976710656) :
    Calls Tryd.prog 15 #[.pointer (some ⟨j, 0, none⟩), va, vb] w fun e w' => ∃ v X' s' sq' off', e = .returned (.int .i64 v) ∧ Ja B w' j p n X' s' sq' off' ∧ sq' ≤ sq + 1 ∧ Below B w w' ∧ Kp w w' := by
  have hnb : nbOf n ≤ 1000000 := by unfold nbOf; omega
  by_cases h0 : off = 0
  · subst h0
    by_cases hf : Fit (nbOf n) zs ps
    · by_cases hz : zs = []
      · subst hz
        obtain rfl : ps = [] := List.length_eq_zero_iff.1 hf.1.symm
        refine (jwrite_none h.jn ha hb).mono ?_
        rintro e w' ⟨he, hB⟩
        exact ⟨_, X, s, sq, 0, he, h.below hB, by omega, hB.mono hBw, Kp.of_below hB⟩
      · refine (jwrite_any h.jn h.disk h.tab hnb (by omega) ha hb hf hz).mono ?_
        rintro e w' ⟨he, hj, ⟨X', hD, hX⟩, hF⟩
        have hlo : ∀ k ∈ j :: X, B ≤ k := fun k hk => by
          rcases List.mem_cons.1 hk with rfl | hk
          · exact h.jlo
          · exact h.lo k hk
        have hj2 : Jn w' j p (nbOf n) (((if (s.comR (nbOf n) (sq + 1) zs.length (nsOf ((sq + 1 : Nat) : Int) zs ps)).1 = 0 then sq + 1 else sq) : Nat) : Int) (s.comR (nbOf n) (sq + 1) zs.length (nsOf ((sq + 1 : Nat) : Int) zs ps)).1 := by
          split
          · rename_i e; rw [if_pos e] at hj; exact hj
          · rename_i e; rw [if_neg e] at hj; exact hj
        exact ⟨_, X', _, _, _, he, ⟨hj2, hD, h.tab.fr hF (tab_not h.disk h.jn h.tab), by rw [comR_n]; exact h.sn, fun k hk => (hX k hk).elim (h.lo k) (Nat.le_trans hBw), h.jlo⟩, by split <;> omega, hF.below hBw hlo, Kp.of_fr h.disk h.jn hF⟩
    · refine (jwrite_bad h.jn ha hb hl hf).mono ?_
      rintro e w' ⟨he, hB⟩
      exact ⟨_, X, s, sq, 0, he, h.below hB, by omega, hB.mono hBw, Kp.of_below hB⟩
  · refine (jwrite_off h.jn h0 va vb).mono ?_
    rintro e w' ⟨he, rfl⟩
    exact ⟨_, X, s, sq, off, he, h, by omega, Below.refl _ _, Kp.refl _⟩
end Go.Proofs.YtdogjicccajnkaaDoor
