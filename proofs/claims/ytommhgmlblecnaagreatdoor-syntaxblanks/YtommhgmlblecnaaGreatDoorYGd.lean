/- texts put together: Plain Base CutOne ParsePlain ParseA ParseB Parse DMath DApp DBase DLoops DDate DFuncs DText DShow DRef YDParse -/
import Derived.WalkKit
import Derived.Test.YtommhgmlblecnaaGreatDoorChecked
import Derived.WalkSpells
import Derived.WalkLawsBesides
import Derived.Test.YtommhgmlblecnaaGreatDoorShelf
import Derived.Lib.CutLaws
import Derived.Lib.IndexBytes
import Derived.Deep.QuietTactic
import Derived.BigQuiet
import Derived.Lib.Strings
import Derived.Lib.IndexMore
import Derived.Deep.RegionWith
import Derived.WalkSmall
import Derived.Test.YtommhgmlblecnaaGreatDoorYGa
import Derived.LoopTactic
import Derived.Below
import Derived.Handy
namespace Go.Proofs.YtommhgmlblecnaaGreatDoor
open Go Go.RowKit

end Go.Proofs.YtommhgmlblecnaaGreatDoor
namespace Go.Proofs.YtommhgmlblecnaaGreatDoor
open Go.RowKit

end Go.Proofs.YtommhgmlblecnaaGreatDoor
namespace Go.Proofs.YtommhgmlblecnaaGreatDoor
open Go.RowKit

set_option maxHeartbeats 800000 in
theorem slite_cut (s : ByteArray) (w : World) (hs : s.size ≤ maxLen) :
    Calls Tryz.prog 194 #[.string s, .string ⟨#[46]⟩] w fun e w' => e = .returned (.tuple #[.string ⟨(Lib.cut s.data.toList [46]).1.toArray⟩, .string ⟨(Lib.cut s.data.toList [46]).2.1.toArray⟩, .bool (Lib.cut s.data.toList [46]).2.2]) ∧ ∃ n, w' = w.drewN n := by
  unfold maxLen at hs
  have HI : Hid (∀ w : World, Calls Tryz.prog 208 #[.string s, .string ⟨#[46]⟩] w fun e w' => e = .returned (.int .i64 (Lib.index s.data.toList [46])) ∧ w' = w) := fun w => by
    have := Tryz.stringslite_Index_one s 46 w
    rw [← Lib.index_one] at this; exact this
  rcases Lib.indexB_cases s ⟨#[46]⟩ with hix | ⟨i, hix, hroom⟩
  · obtain ⟨e1, e2, e3⟩ := Lib.cutB_miss s ⟨#[46]⟩ hix
    have e1' : (⟨(Lib.cut s.data.toList [46]).1.toArray⟩ : ByteArray) = s := e1
    have e2' : (⟨(Lib.cut s.data.toList [46]).2.1.toArray⟩ : ByteArray) = _ := e2
    have e3' : (Lib.cut s.data.toList [46]).2.2 = _ := e3
    rw [e1', e2', e3']
    have hix' : Lib.index s.data.toList [46] = -1 := hix
    rw [hix'] at HI
    clear hix hix' e1 e2 e3 e1' e2' e3'
    go_enter Tryz.func194, Tryz.ntmps194
    go_wp2_with (go_at_call 208; refine (HI.out _).mono ?_; rintro e w ⟨rfl, rfl⟩)
    go_ret3
    exact ⟨rfl, 0, rfl⟩
  · obtain ⟨e1, e2, e3⟩ := Lib.cutB_hit s ⟨#[46]⟩ i hix
    have e1' : (⟨(Lib.cut s.data.toList [46]).1.toArray⟩ : ByteArray) = _ := e1
    have e2' : (⟨(Lib.cut s.data.toList [46]).2.1.toArray⟩ : ByteArray) = _ := e2
    have e3' : (Lib.cut s.data.toList [46]).2.2 = _ := e3
    rw [e1', e2', e3']
    have hix' : Lib.index s.data.toList [46] = (i : Int) := hix
    rw [hix'] at HI
    have hr : i + 1 ≤ s.size := hroom
    have c1 : (0 : Int) ≤ (i : Int) := by omega
    have c2 : (i : Int) ≤ (s.size : Int) := by omega
    have c3 : (0 : Int) ≤ (i : Int) + 1 := by omega
    have c4 : (i : Int) + 1 ≤ (s.size : Int) := by omega
    clear hix hix' e1 e2 e3 e1' e2' e3' hroom
    go_enter Tryz.func194, Tryz.ntmps194
    go_wp2_with (go_at_call 208; refine (HI.out _).mono ?_; rintro e w ⟨rfl, rfl⟩)
    go_quiet (fail)
    go_wp2
    go_ret3
    exact ⟨rfl, nq, rfl⟩

set_option maxHeartbeats 400000 in
theorem cut_any (s : ByteArray) (w : World) (hs : s.size ≤ maxLen) :
    Calls Tryz.prog 180 #[.string s, .string ⟨#[46]⟩] w fun e w' => e = .returned (.tuple #[.string ⟨(Lib.cut s.data.toList [46]).1.toArray⟩, .string ⟨(Lib.cut s.data.toList [46]).2.1.toArray⟩, .bool (Lib.cut s.data.toList [46]).2.2]) ∧ ∃ n, w' = w.drewN n := by
  have HI := slite_cut s w hs
  generalize (⟨(Lib.cut s.data.toList [46]).1.toArray⟩ : ByteArray) = B at *
  generalize (⟨(Lib.cut s.data.toList [46]).2.1.toArray⟩ : ByteArray) = A at *
  generalize (Lib.cut s.data.toList [46]).2.2 = f at *
  have HH : Hid (Calls Tryz.prog 194 #[.string s, .string ⟨#[46]⟩] w fun e w' => e = .returned (.tuple #[.string B, .string A, .bool f]) ∧ ∃ n, w' = w.drewN n) := HI
  clear HI hs
  go_enter Tryz.func180, Tryz.ntmps180
  go_wp2_with fail
  refine HH.out.mono ?_
  rintro e w2 ⟨rfl, n, rfl⟩
  go_wp2
  go_ret3
  exact ⟨rfl, n, rfl⟩
end Go.Proofs.YtommhgmlblecnaaGreatDoor
namespace Go.Proofs.YtommhgmlblecnaaGreatDoor

def isD (c : UInt8) : Bool := decide (48 ≤ c.toNat) && decide (c.toNat ≤ 57)
def isDigL (l : List UInt8) (most : Nat) : Bool := decide (1 ≤ l.length) && decide (l.length ≤ most) && l.all isD
def isWhL (l : List UInt8) : Bool := isDigL l 10 && (decide (l[0]?.getD 0 ≠ 48) || decide (l.length = 1))
/-- What a digit stands for. -/
def dv (c : UInt8) : Nat := c.toNat - 48
/-- The number of digits, behind n. -/
def valW (n : Nat) (l : List UInt8) : Nat := l.foldl (fun n c => n * 10 + dv c) n
/-- Six places behind the point, of which those that aren't written are noughts. -/
def frac (d : List UInt8) (n : Nat) : Nat → Nat
  | 0 => n
  | k + 1 => frac d n k * 10 + dv (d[k]?.getD 48)
def milL (whole behind : List UInt8) : Nat := frac behind (valW 0 whole) 6

theorem isD_iff (c : UInt8) : isD c = true ↔ 48 ≤ c.toNat ∧ c.toNat ≤ 57 := by unfold isD; simp
theorem dv_le {c : UInt8} (h : isD c = true) : dv c ≤ 9 := by unfold dv; rw [isD_iff] at h; omega

theorem valW_snoc (n : Nat) (l : List UInt8) (c : UInt8) : valW n (l ++ [c]) = valW n l * 10 + dv c := by simp [valW]

theorem valW_lt : ∀ (l : List UInt8) (n : Nat), l.all isD = true → valW n l < (n + 1) * 10 ^ l.length
  | [], n, _ => by simp [valW]
  | c :: l, n, h => by
    simp only [List.all_cons, Bool.and_eq_true] at h
    have := valW_lt l (n * 10 + dv c) h.2
    have hd := dv_le h.1
    show valW (n * 10 + dv c) l < (n + 1) * 10 ^ (l.length + 1)
    rw [Nat.pow_succ, Nat.mul_comm (10 ^ l.length), ← Nat.mul_assoc]
    refine Nat.lt_of_lt_of_le this (Nat.mul_le_mul_right _ (by omega))

theorem take_all {l : List UInt8} (h : l.all isD = true) (k : Nat) : (l.take k).all isD = true := by
  rw [List.all_eq_true] at *
  intro x hx
  exact h x (List.mem_of_mem_take hx)

theorem valW_take_lt {l : List UInt8} (h : l.all isD = true) (hl : l.length ≤ 10) (k : Nat) : valW 0 (l.take k) < 10000000000 := by
  have h1 := valW_lt (l.take k) 0 (take_all h k)
  have h2 : (l.take k).length ≤ 10 := by simp; omega
  have h3 : 10 ^ (l.take k).length ≤ 10 ^ 10 := Nat.pow_le_pow_right (by omega) h2
  simp only [Nat.zero_add, Nat.one_mul] at h1
  omega

theorem dv_getD {d : List UInt8} (h : d.all isD = true) (k : Nat) : dv (d[k]?.getD 48) ≤ 9 := by
  rcases Nat.lt_or_ge k d.length with hk | hk
  · rw [List.getElem?_eq_getElem hk]
    exact dv_le (List.all_eq_true.1 h _ (List.getElem_mem hk))
  · rw [List.getElem?_eq_none hk]; simp [dv]

theorem frac_lt {d : List UInt8} (h : d.all isD = true) {n : Nat} (hn : n < 10000000000) : ∀ k, frac d n k < 10000000000 * 10 ^ k
  | 0 => by simpa [frac] using hn
  | k + 1 => by
    have := frac_lt h hn k
    have hd := dv_getD h k
    simp only [frac]
    rw [Nat.pow_succ, ← Nat.mul_assoc]
    omega
theorem frac_lt6 {d : List UInt8} (h : d.all isD = true) {n : Nat} (hn : n < 10000000000) (k : Nat) (hk : k ≤ 6) : frac d n k < 10000000000000000 := by
  have h1 := frac_lt h hn k
  have h2 : 10 ^ k ≤ 10 ^ 6 := Nat.pow_le_pow_right (by omega) hk
  omega

/-- What is read: with the parts of the text under names. -/
def coreR (iw f id bl : Bool) (n : Nat) : Int × Bool :=
  if iw && (!f || id) then (if decide (1000000000000000 < n) || (bl && decide (n = 0)) then (0, false) else (if bl then -(n : Int) else (n : Int), true)) else (0, false)
def parseT (bl : Bool) (c : List UInt8 × List UInt8 × Bool) : Int × Bool := coreR (isWhL c.1) c.2.2 (isDigL c.2.1 6) bl (milL c.1 c.2.1)
def parseL (l : List UInt8) : Int × Bool := parseT (Lib.hasPrefix l [45]) (Lib.cut (Lib.trimPrefix l [45]) [46])

theorem cut_lens (l sep : List UInt8) : (Lib.cut l sep).1.length ≤ l.length ∧ (Lib.cut l sep).2.1.length ≤ l.length := by
  unfold Lib.cut; split <;> simp <;> omega
theorem cut_none {l sep : List UInt8} (h : (Lib.cut l sep).2.2 = false) : (Lib.cut l sep).2.1 = [] := by
  unfold Lib.cut at *; split <;> simp_all
theorem isDigL_all {l : List UInt8} {m : Nat} (h : isDigL l m = true) : l.all isD = true ∧ 1 ≤ l.length ∧ l.length ≤ m := by
  unfold isDigL at h; simp only [Bool.and_eq_true, decide_eq_true_eq] at h; exact ⟨h.2, h.1.1, h.1.2⟩
theorem isWhL_all {l : List UInt8} (h : isWhL l = true) : l.all isD = true ∧ 1 ≤ l.length ∧ l.length ≤ 10 := by
  unfold isWhL at h; simp only [Bool.and_eq_true] at h; exact isDigL_all h.1
theorem milL_lt {b a : List UInt8} (hb : isWhL b = true) (ha : a.all isD = true) : milL b a < 10000000000000000 := by
  obtain ⟨h1, _, h3⟩ := isWhL_all hb
  have := valW_take_lt h1 h3 b.length
  rw [List.take_length] at this
  exact frac_lt6 ha this 6 (Nat.le_refl _)
end Go.Proofs.YtommhgmlblecnaaGreatDoor
namespace Go.Proofs.YtommhgmlblecnaaGreatDoor
open Go.RowKit

set_option maxHeartbeats 400000 in
theorem digit_any (c : Int) (w : World) (h0 : 48 ≤ c) (h1 : c ≤ 57) :
    Calls Tryz.prog 200 #[.int .u8 c] w fun e w' => e = .returned (.int .i64 (c - 48)) ∧ w' = w := by
  go_enter Tryz.func200, Tryz.ntmps200
  go_wp2
  go_ret
  exact ⟨rfl, rfl⟩

theorem all_take_succ (l : List UInt8) (k : Nat) (h : k < l.length) : (l.take (k + 1)).all isD = ((l.take k).all isD && isD l[k]) := by
  rw [List.take_succ_eq_append_getElem h, List.all_append]; simp only [List.all_cons, List.all_nil, Bool.and_true]

set_option maxHeartbeats 800000 in
theorem isDigits_any (s : ByteArray) (most : Nat) (w : World) (hs : s.size ≤ maxLen) :
    Calls Tryz.prog 186 #[.string s, .int .i64 most] w fun e w' => e = .returned (.bool (isDigL s.data.toList most)) ∧ w' = w := by
  unfold maxLen at hs
  have hsz : s.data.toList.length = s.size := by rw [Array.length_toList]; rfl
  by_cases h1 : s.size < 1
  · have HE : Hid (isDigL s.data.toList most = false) := by show isDigL _ _ = false; unfold isDigL; rw [hsz]; simp [show ¬ 1 ≤ s.size by omega]
    have d1 : decide ((s.size : Int) < 1) = true := decide_eq_true (by omega)
    clear hsz
    go_enter Tryz.func186, Tryz.ntmps186
    go_wp2
    go_ret
    exact ⟨by rw [HE.out]; rfl, rfl⟩
  · have d1 : decide ((s.size : Int) < 1) = false := decide_eq_false (by omega)
    by_cases h2 : most < s.size
    · have HE : Hid (isDigL s.data.toList most = false) := by show isDigL _ _ = false; unfold isDigL; rw [hsz]; simp [show ¬ s.size ≤ most by omega]
      clear hsz
      go_enter Tryz.func186, Tryz.ntmps186
      go_wp2
      go_ret
      exact ⟨by rw [HE.out]; rfl, rfl⟩
    · have HE : Hid (isDigL s.data.toList most = s.data.toList.all isD) := by show isDigL _ _ = _; unfold isDigL; rw [hsz]; simp [show s.size ≤ most by omega, show 1 ≤ s.size by omega]
      have HSZ : Hid (s.data.toList.length = s.size) := hsz
      clear hsz
      go_enter Tryz.func186, Tryz.ntmps186
      go_wp2
      go_loop [17] (fun i => ∃ k : Nat, k ≤ s.size ∧ i = .int .i64 k ∧ (s.data.toList.take k).all isD = true) (fun i => s.size - (intOf i).toNat)
      case atStart => exact ⟨0, Nat.zero_le _, rfl, by simp⟩
      case round =>
        obtain ⟨k, hk, rfl, hall⟩ := hrel
        have HA : Hid ((s.data.toList.take k).all isD = true) := hall
        clear hall d1 h1 h2
        by_cases hlt : k < s.size
        · have hb : (s[k].toNat : Int) < 256 := by have := s[k].toNat_lt; omega
          have HS : Hid ((s.data.toList.take (k + 1)).all isD = ((s.data.toList.take k).all isD && isD s[k])) := all_take_succ _ _ (by rw [HSZ.out]; exact hlt)
          by_cases c1 : s[k].toNat < 48
          · have HF : Hid (s.data.toList.all isD = false) := by
              show s.data.toList.all isD = false
              cases h : s.data.toList.all isD
              · rfl
              · have := take_all h (k + 1)
                rw [HS.out] at this
                simp [isD] at this; omega
            have d2 : decide ((s[k].toNat : Int) < 48) = true := decide_eq_true (by omega)
            go_wp2
            go_ret
            exact ⟨by rw [HE.out, HF.out]; rfl, rfl⟩
          · have d2 : decide ((s[k].toNat : Int) < 48) = false := decide_eq_false (by omega)
            by_cases c2 : 57 < s[k].toNat
            · have HF : Hid (s.data.toList.all isD = false) := by
                show s.data.toList.all isD = false
                cases h : s.data.toList.all isD
                · rfl
                · have := take_all h (k + 1)
                  rw [HS.out] at this
                  simp [isD] at this; omega
              have d3 : decide (57 < (s[k].toNat : Int)) = true := decide_eq_true (by omega)
              go_wp2
              go_ret
              exact ⟨by rw [HE.out, HF.out]; rfl, rfl⟩
            · have d3 : decide (57 < (s[k].toNat : Int)) = false := decide_eq_false (by omega)
              have HN : Hid ((s.data.toList.take (k + 1)).all isD = true) := by
                show (s.data.toList.take (k + 1)).all isD = true
                rw [HS.out, HA.out]; simp [isD]; omega
              go_wp2
              go_round
              case rel => exact ⟨k + 1, by omega, by go_num, HN.out⟩
              case measure => simp [intOf]; omega
        · go_wp2
          go_ret
          refine ⟨?_, rfl⟩
          have h := HA.out
          rw [List.take_of_length_le (by rw [HSZ.out]; omega)] at h
          rw [HE.out, h]
          rfl

theorem getD_head (s : ByteArray) (h : 0 < s.size) : s.data.toList[0]?.getD 0 = s[0]'h := by
  rw [List.getElem?_eq_getElem (by rw [Array.length_toList]; exact h)]; rfl

set_option maxHeartbeats 400000 in
theorem isWhole_any (s : ByteArray) (w : World) (hs : s.size ≤ maxLen) :
    Calls Tryz.prog 185 #[.string s] w fun e w' => e = .returned (.bool (isWhL s.data.toList)) ∧ w' = w := by
  have HD : Hid (∀ w : World, Calls Tryz.prog 186 #[.string s, .int .i64 10] w fun e w' => e = .returned (.bool (isDigL s.data.toList 10)) ∧ w' = w) := fun w => isDigits_any s 10 w hs
  unfold maxLen at hs
  have hsz : s.data.toList.length = s.size := by rw [Array.length_toList]; rfl
  cases hd : isDigL s.data.toList 10
  · have HE : Hid (isWhL s.data.toList = false) := by show isWhL _ = _; unfold isWhL; rw [hd]; rfl
    rw [hd] at HD
    clear hsz hd
    go_enter Tryz.func185, Tryz.ntmps185
    go_wp2_with (go_at_call 186; refine (HD.out _).mono ?_; rintro e w ⟨rfl, rfl⟩)
    go_ret
    exact ⟨by rw [HE.out]; rfl, rfl⟩
  · have hp : 0 < s.size := by unfold isDigL at hd; rw [hsz] at hd; simp at hd; omega
    have HE : Hid (isWhL s.data.toList = (decide (s[0]'hp ≠ 48) || decide (s.size = 1))) := by show isWhL _ = _; unfold isWhL; rw [hd, getD_head s hp, hsz]; rfl
    rw [hd] at HD
    have hpi : (0 : Int) < (s.size : Int) := by omega
    clear hsz hd
    by_cases c1 : s[0]'hp = 48
    · have d1 : (((s[0]'hp).toNat : Int) != 48) = false := by rw [c1]; rfl
      by_cases c2 : s.size = 1
      · have d2 : ((s.size : Int) == 1) = true := by rw [c2]; rfl
        have HF : Hid (isWhL s.data.toList = true) := by show isWhL _ = _; rw [HE.out]; simp [c2]
        clear c1 c2
        go_enter Tryz.func185, Tryz.ntmps185
        go_wp2_with (go_at_call 186; refine (HD.out _).mono ?_; rintro e w ⟨rfl, rfl⟩)
        go_ret
        exact ⟨by rw [HF.out]; rfl, rfl⟩
      · have d2 : ((s.size : Int) == 1) = false := by simp; omega
        have HF : Hid (isWhL s.data.toList = false) := by show isWhL _ = _; rw [HE.out]; simp [c1, c2]
        clear c1
        go_enter Tryz.func185, Tryz.ntmps185
        go_wp2_with (go_at_call 186; refine (HD.out _).mono ?_; rintro e w ⟨rfl, rfl⟩)
        go_ret
        exact ⟨by rw [HF.out]; rfl, rfl⟩
    · have d1 : (((s[0]'hp).toNat : Int) != 48) = true := by
        have : (s[0]'hp).toNat ≠ 48 := fun h => c1 (UInt8.toNat_inj.1 h)
        simp; omega
      have HF : Hid (isWhL s.data.toList = true) := by show isWhL _ = _; rw [HE.out]; simp [c1]
      clear c1
      go_enter Tryz.func185, Tryz.ntmps185
      go_wp2_with (go_at_call 186; refine (HD.out _).mono ?_; rintro e w ⟨rfl, rfl⟩)
      go_ret
      exact ⟨by rw [HF.out]; rfl, rfl⟩

/-- The reader's two cells, and that they may be written. -/
def RdIs (p : Nat) (d : ByteArray) (n : Int) (w : World) : Prop :=
  w.cell? ⟨p, 0, none⟩ = some (.string d) ∧ w.cell? ⟨p, 1, none⟩ = some (.int .i64 n) ∧ w.frozen? ⟨p, 1, none⟩ = false
theorem RdIs.drew {p : Nat} {d : ByteArray} {n : Int} {w : World} (h : RdIs p d n w) : RdIs p d n w.drew := h
theorem RdIs.set {p : Nat} {d : ByteArray} {n : Int} {w : World} (h : RdIs p d n w) (u : Int) : RdIs p d u (w.setCell ⟨p, 1, none⟩ (.int .i64 u)) := by
  obtain ⟨a, b, c⟩ := h
  exact ⟨(World.cell?_setCell_other _ _ _ _ (by simp)).trans a, World.cell?_setCell_same _ _ _ b, by simpa using c⟩

theorem getD_at (d : ByteArray) (k : Nat) (h : k < d.size) : d.data.toList[k]?.getD 48 = d[k] := by
  rw [List.getElem?_eq_getElem (by rw [Array.length_toList]; exact h)]; rfl
theorem isD_at {d : ByteArray} (h : d.data.toList.all isD = true) (k : Nat) (hk : k < d.size) : isD d[k] = true := by
  have := List.all_eq_true.1 h d.data.toList[k] (List.getElem_mem (by rw [Array.length_toList]; exact hk))
  exact this

set_option maxHeartbeats 800000 in
theorem ntake_any (p k n : Nat) (d : ByteArray) (w : World) (hr : RdIs p d n w) (hd : d.data.toList.all isD = true) (hn : n < 100000000000000000) (hk : k ≤ 6) :
    Calls Tryz.prog 201 #[.pointer (some ⟨p, 0, none⟩), .int .i64 k] w fun e w' => e = .returned (.tuple #[]) ∧ RdIs p d ((n * 10 + dv (d.data.toList[k]?.getD 48) : Nat) : Int) w' ∧ Below p w w' := by
  generalize hV : ((n * 10 + dv (d.data.toList[k]?.getD 48) : Nat) : Int) = V
  have hr1 := hr.set ((n : Int) * 10)
  obtain ⟨c0, c1, f1⟩ := hr
  have hb1 : Below p w (w.setCell ⟨p, 1, none⟩ (.int .i64 ((n : Int) * 10))) := Below.setCell (B := p) (Below.refl p w) (p := ⟨p, 1, none⟩) (Nat.le_refl p) _
  by_cases hlt : k < d.size
  · have hD := isD_at hd k hlt
    rw [isD_iff] at hD
    have b0 : (48 : Int) ≤ (d[k].toNat : Int) := by omega
    have b1 : (d[k].toNat : Int) ≤ 57 := by omega
    have HE : Hid (V = (n : Int) * 10 + ((d[k].toNat : Int) - 48)) := by
      show V = _
      rw [← hV, getD_at d k hlt]; unfold dv; omega
    have HW : Hid (RdIs p d ((n : Int) * 10 + ((d[k].toNat : Int) - 48)) ((w.setCell ⟨p, 1, none⟩ (.int .i64 ((n : Int) * 10))).setCell ⟨p, 1, none⟩ (.int .i64 ((n : Int) * 10 + ((d[k].toNat : Int) - 48))))) := hr1.set _
    have HB : Hid (Below p w ((w.setCell ⟨p, 1, none⟩ (.int .i64 ((n : Int) * 10))).setCell ⟨p, 1, none⟩ (.int .i64 ((n : Int) * 10 + ((d[k].toNat : Int) - 48))))) := Below.setCell hb1 (p := ⟨p, 1, none⟩) (Nat.le_refl p) _
    obtain ⟨e0, e1, e2⟩ := hr1
    have hli : (k : Int) < (d.size : Int) := by omega
    have hki : (0 : Int) ≤ (k : Int) := by omega
    go_enter Tryz.func201, Tryz.ntmps201
    have hni : (n : Int) < 100000000000000000 := by omega
    have hwr : IntKind.i64.wrap ((n : Int) * 10 + ((d[k].toNat : Int) - 48)) = (n : Int) * 10 + ((d[k].toNat : Int) - 48) := IntWalk.i64_in _ ⟨by omega, by omega⟩
    clear hd hn hk hD hb1 hV
    go_wp2_with fail
    clear c0 c1 f1
    generalize w.setCell ⟨p, 1, none⟩ (.int .i64 ((n : Int) * 10)) = W at *
    go_region_with (go_at_call 200; refine (digit_any _ _ b0 b1).mono ?_; rintro e w' ⟨rfl, rfl⟩)
    all_goals
      go_end0
      rw [HE.out]
      exact ⟨rfl, HW.out.drew, HB.out.drew⟩
  · have HE : Hid (V = (n : Int) * 10) := by
      show V = _
      rw [← hV, List.getElem?_eq_none (by rw [Array.length_toList]; exact Nat.le_of_not_lt hlt)]; simp [dv]
    have HW : Hid (RdIs p d ((n : Int) * 10) (w.setCell ⟨p, 1, none⟩ (.int .i64 ((n : Int) * 10)))) := hr1
    have HB : Hid (Below p w (w.setCell ⟨p, 1, none⟩ (.int .i64 ((n : Int) * 10)))) := hb1
    obtain ⟨e0, e1, e2⟩ := hr1
    have hni : (n : Int) < 100000000000000000 := by omega
    have hli : ¬ ((k : Int) < (d.size : Int)) := by omega
    clear hd hn hk hb1 hlt hV
    go_enter Tryz.func201, Tryz.ntmps201
    go_wp2
    go_end0
    rw [HE.out]
    exact ⟨rfl, HW.out, HB.out⟩

set_option maxHeartbeats 400000 in
theorem place_take (p n : Nat) (d : ByteArray) (w : World) (hr : RdIs p d n w) (hd : d.data.toList.all isD = true) (hn : n < 10000000000) :
    Calls Tryz.prog 167 #[.func (.func 201) #[.pointer (some ⟨p, 0, none⟩)] #[]] w fun e w' => e = .returned (.tuple #[]) ∧ RdIs p d (frac d.data.toList n 6 : Int) w' ∧ Below p w w' := by
  go_enter Tryz.func167, Tryz.ntmps167
  go_wp2
  go_loopw [3] (fun i wr => ∃ k : Nat, k ≤ 6 ∧ i = .int .i64 k ∧ RdIs p d (frac d.data.toList n k : Int) wr ∧ Below p w wr) (fun i _ => 6 - (intOf i).toNat)
  case atStart => exact ⟨0, by omega, rfl, hr, Below.refl _ _⟩
  case round =>
    obtain ⟨k, hk, rfl, hst, hbel⟩ := hrel
    by_cases hlt : k < 6
    · have hb := frac_lt6 hd hn k hk
      have HP : Hid (Calls Tryz.prog 201 #[.pointer (some ⟨p, 0, none⟩), .int .i64 k] wr fun e w' => e = .returned (.tuple #[]) ∧ RdIs p d (frac d.data.toList n (k + 1) : Int) w' ∧ Below p wr w') := ntake_any p k (frac d.data.toList n k) d wr hst hd (by omega) hk
      clear hst hb hd hn hr
      go_wp2_with (go_at_call 201; refine HP.out.mono ?_; rintro e w2 ⟨rfl, hst2, hbel2⟩)
      go_roundw
      case rel => exact ⟨k + 1, by omega, by go_num, hst2, hbel.trans hbel2⟩
      case measure => simp [intOf]; omega
    · obtain rfl : k = 6 := by omega
      have HX : Hid (RdIs p d (frac d.data.toList n 6 : Int) wr ∧ Below p w wr) := ⟨hst, hbel⟩
      clear hst hbel hd hn hr hlt
      go_wp2
      go_end0
      exact ⟨rfl, HX.out.1, HX.out.2⟩
end Go.Proofs.YtommhgmlblecnaaGreatDoor
namespace Go.Proofs.YtommhgmlblecnaaGreatDoor
open Go.RowKit

theorem take_snoc (s : ByteArray) (k : Nat) (h : k < s.size) : s.data.toList.take (k + 1) = s.data.toList.take k ++ [s[k]] := by
  rw [List.take_succ_eq_append_getElem (by rw [Array.length_toList]; exact h)]; rfl

theorem rd_start (d : ByteArray) (w : World) : RdIs w.heap.size d ((0 : Nat) : Int) (w.alloc (.cells #[.string d, .int .i64 0] 188)) :=
  ⟨by simp, by simp, World.frozen?_alloc_new _ _ _ _⟩

set_option maxHeartbeats 1600000 in
theorem millionths_any (s d : ByteArray) (w : World) (hs : s.data.toList.all isD = true) (hl : s.size ≤ 10) (hd : d.data.toList.all isD = true) :
    Calls Tryz.prog 187 #[.string s, .string d] w fun e w' => e = .returned (.int .i64 (milL s.data.toList d.data.toList : Int)) ∧ Below w.heap.size w w' := by
  have hsz : s.data.toList.length = s.size := by rw [Array.length_toList]; rfl
  have HR : Hid (RdIs w.heap.size d ((0 : Nat) : Int) (w.alloc (.cells #[.string d, .int .i64 0] 188))) := rd_start d w
  have HB : Hid (Below w.heap.size w (w.alloc (.cells #[.string d, .int .i64 0] 188))) := (Below.refl _ _).alloc (Nat.le_refl _) _
  have HV : Hid (∀ k, valW 0 (s.data.toList.take k) < 10000000000) := fun k => valW_take_lt hs (by omega) k
  have HS : Hid (s.data.toList.all isD = true) := hs
  have HD : Hid (d.data.toList.all isD = true) := hd
  have HZ : Hid (s.data.toList.length = s.size) := hsz
  generalize hM : (milL s.data.toList d.data.toList : Int) = M
  have HM : Hid ((milL s.data.toList d.data.toList : Int) = M) := hM
  clear hs hd hsz hM
  go_enter Tryz.func187, Tryz.ntmps187
  go_wp2
  go_loopw [11] (fun i wr => ∃ k : Nat, k ≤ s.size ∧ i = .int .i64 k ∧ RdIs w.heap.size d (valW 0 (s.data.toList.take k) : Int) wr ∧ Below w.heap.size w wr) (fun i _ => s.size - (intOf i).toNat)
  case atStart => exact ⟨0, by omega, rfl, by simpa [valW] using HR.out, HB.out⟩
  case round =>
    obtain ⟨k, hk, rfl, hst, hbel⟩ := hrel
    clear HR HB
    by_cases hlt : k < s.size
    · have hD := isD_at HS.out k hlt
      rw [isD_iff] at hD
      have hv := HV.out k
      have HN : Hid ((valW 0 (s.data.toList.take (k + 1)) : Int) = (valW 0 (s.data.toList.take k) : Int) * 10 + ((s[k].toNat : Int) - 48)) := by
        show (valW 0 (s.data.toList.take (k + 1)) : Int) = _
        rw [take_snoc s k hlt, valW_snoc]; unfold dv; omega
      generalize hn : valW 0 (s.data.toList.take k) = n at *
      have b0 : (48 : Int) ≤ (s[k].toNat : Int) := by omega
      have b1 : (s[k].toNat : Int) ≤ 57 := by omega
      have hwr0 : IntKind.i64.wrap ((n : Int) * 10) = (n : Int) * 10 := IntWalk.i64_in _ ⟨by omega, by omega⟩
      have hwr : IntKind.i64.wrap ((n : Int) * 10 + ((s[k].toNat : Int) - 48)) = (n : Int) * 10 + ((s[k].toNat : Int) - 48) := IntWalk.i64_in _ ⟨by omega, by omega⟩
      have HW : Hid (RdIs w.heap.size d ((n : Int) * 10 + ((s[k].toNat : Int) - 48)) (wr.setCell ⟨w.heap.size, 1, none⟩ (.int .i64 ((n : Int) * 10 + ((s[k].toNat : Int) - 48))))) := hst.set _
      have HB : Hid (Below w.heap.size w (wr.setCell ⟨w.heap.size, 1, none⟩ (.int .i64 ((n : Int) * 10 + ((s[k].toNat : Int) - 48))))) := Below.setCell hbel (p := ⟨w.heap.size, 1, none⟩) (Nat.le_refl _) _
      obtain ⟨c0, c1, f1⟩ := hst
      have hli : (k : Int) < (s.size : Int) := by omega
      have hki : (0 : Int) ≤ (k : Int) := by omega
      clear hD hv hn hbel hk
      go_wp2_with fail
      go_region_with (go_at_call 200; refine (digit_any _ _ b0 b1).mono ?_; rintro e w' ⟨rfl, rfl⟩)
      all_goals
        go_wp2
        go_roundw
        case rel => exact ⟨k + 1, by omega, by go_num, by rw [HN.out]; exact HW.out.drew, HB.out.drew⟩
        case measure => simp [intOf]; omega
    · have hkk : k = s.size := by omega
      have hv := HV.out k
      have HP := fun (h : RdIs w.heap.size d (valW 0 (s.data.toList.take k) : Int) wr) => place_take w.heap.size (valW 0 (s.data.toList.take k)) d wr h HD.out hv
      have hP := HP hst
      rw [show frac d.data.toList (valW 0 (s.data.toList.take k)) 6 = milL s.data.toList d.data.toList by
        rw [List.take_of_length_le (by rw [HZ.out]; omega)]; rfl, HM.out] at hP
      have HPh : Hid (Calls Tryz.prog 167 #[.func (.func 201) #[.pointer (some ⟨w.heap.size, 0, none⟩)] #[]] wr fun e w' => e = .returned (.tuple #[]) ∧ RdIs w.heap.size d M w' ∧ Below w.heap.size wr w') := hP
      clear HP hP hv hst hkk
      go_wp2_with (go_at_call 167; refine HPh.out.mono ?_; rintro e w2 ⟨rfl, ⟨c0, c1, f1⟩, hb2⟩)
      go_ret
      exact ⟨rfl, hbel.trans hb2⟩
end Go.Proofs.YtommhgmlblecnaaGreatDoor
namespace Go.Proofs.YtommhgmlblecnaaGreatDoor
open Go.RowKit

theorem size_arr (l : List UInt8) : (⟨l.toArray⟩ : ByteArray).size = l.length := by rw [Lib.size_eq]

set_option maxHeartbeats 3200000 in
theorem parse_core (s T B A : ByteArray) (bl f iw id : Bool) (n : Nat) (w : World) (hn : n < 10000000000000000)
    (h1 : ∀ w : World, Calls Tryz.prog 184 #[.string s, .string ⟨#[45]⟩] w fun e w' => e = .returned (.tuple #[.string T, .bool bl]) ∧ w' = w)
    (h2 : Calls Tryz.prog 180 #[.string T, .string ⟨#[46]⟩] w fun e w' => e = .returned (.tuple #[.string B, .string A, .bool f]) ∧ Below w.heap.size w w')
    (h3 : ∀ w : World, Calls Tryz.prog 185 #[.string B] w fun e w' => e = .returned (.bool iw) ∧ w' = w)
    (h4 : ∀ w : World, Calls Tryz.prog 186 #[.string A, .int .i64 6] w fun e w' => e = .returned (.bool id) ∧ w' = w)
    (h5 : iw = true → (f = true → id = true) → ∀ w1 : World, Below w.heap.size w w1 → Calls Tryz.prog 187 #[.string B, .string A] w1 fun e w' => e = .returned (.int .i64 (n : Int)) ∧ Below w.heap.size w w') :
    Calls Tryz.prog 171 #[.string s] w fun e w' => e = .returned (.tuple #[.int .i64 (coreR iw f id bl n).1, .bool (coreR iw f id bl n).2]) ∧ Below w.heap.size w w' := by
  have HC1 : Hid (∀ w : World, Calls Tryz.prog 184 #[.string s, .string ⟨#[45]⟩] w fun e w' => e = .returned (.tuple #[.string T, .bool bl]) ∧ w' = w) := h1
  have HC2 : Hid (Calls Tryz.prog 180 #[.string T, .string ⟨#[46]⟩] w fun e w' => e = .returned (.tuple #[.string B, .string A, .bool f]) ∧ Below w.heap.size w w') := h2
  have HC3 : Hid (∀ w : World, Calls Tryz.prog 185 #[.string B] w fun e w' => e = .returned (.bool iw) ∧ w' = w) := h3
  have HC4 : Hid (∀ w : World, Calls Tryz.prog 186 #[.string A, .int .i64 6] w fun e w' => e = .returned (.bool id) ∧ w' = w) := h4
  clear h1 h2 h3 h4
  have rneg : IntKind.i64.wrap (-(n : Int)) = -(n : Int) := IntWalk.i64_in _ ⟨by omega, by omega⟩
  by_cases hok : iw = true ∧ (f = true → id = true)
  · have HC5 : Hid (∀ w1 : World, Below w.heap.size w w1 → Calls Tryz.prog 187 #[.string B, .string A] w1 fun e w' => e = .returned (.int .i64 (n : Int)) ∧ Below w.heap.size w w') := h5 hok.1 hok.2
    obtain ⟨rfl, hfi⟩ := hok
    have hbn : (n : Int) < 10000000000000000 := by omega
    clear h5
    by_cases hbig : 1000000000000000 < n
    · have d1 : decide ((1000000000000000 : Int) < (n : Int)) = true := decide_eq_true (by omega)
      obtain ⟨R, hR⟩ : ∃ R, R = coreR true f id bl n := ⟨_, rfl⟩
      have hR2 : R = (0, false) := by rw [hR]; unfold coreR; cases f <;> cases id <;> simp_all
      rw [← hR, hR2]
      clear hR hR2 hbig hn hbn
      cases f
      · clear hfi HC4
        go_enter Tryz.func171, Tryz.ntmps171
        go_wp2_with (first | (go_at_call 184; refine (HC1.out _).mono ?_; rintro e w ⟨rfl, rfl⟩) | (go_at_call 180; refine HC2.out.mono ?_; rintro e w1 ⟨rfl, hb1⟩) | (go_at_call 185; refine (HC3.out _).mono ?_; rintro e w2 ⟨rfl, rfl⟩) | (go_at_call 186; refine (HC4.out _).mono ?_; rintro e w2 ⟨rfl, rfl⟩) | (go_at_call 187; refine (HC5.out _ (by assumption)).mono ?_; rintro e w2 ⟨rfl, hb2⟩))
        go_ret2
        exact ⟨rfl, by assumption⟩
      · rw [hfi rfl] at HC4
        clear hfi
        go_enter Tryz.func171, Tryz.ntmps171
        go_wp2_with (first | (go_at_call 184; refine (HC1.out _).mono ?_; rintro e w ⟨rfl, rfl⟩) | (go_at_call 180; refine HC2.out.mono ?_; rintro e w1 ⟨rfl, hb1⟩) | (go_at_call 185; refine (HC3.out _).mono ?_; rintro e w2 ⟨rfl, rfl⟩) | (go_at_call 186; refine (HC4.out _).mono ?_; rintro e w2 ⟨rfl, rfl⟩) | (go_at_call 187; refine (HC5.out _ (by assumption)).mono ?_; rintro e w2 ⟨rfl, hb2⟩))
        go_ret2
        exact ⟨rfl, by assumption⟩
    · have d1 : decide ((1000000000000000 : Int) < (n : Int)) = false := decide_eq_false (by omega)
      cases bl
      · obtain ⟨R, hR⟩ : ∃ R, R = coreR true f id false n := ⟨_, rfl⟩
        have hR2 : R = ((n : Int), true) := by rw [hR]; unfold coreR; cases f <;> cases id <;> simp_all
        rw [← hR, hR2]
        clear hR hR2 hbig hn hbn
        cases f
        · clear hfi HC4
          go_enter Tryz.func171, Tryz.ntmps171
          go_wp2_with (first | (go_at_call 184; refine (HC1.out _).mono ?_; rintro e w ⟨rfl, rfl⟩) | (go_at_call 180; refine HC2.out.mono ?_; rintro e w1 ⟨rfl, hb1⟩) | (go_at_call 185; refine (HC3.out _).mono ?_; rintro e w2 ⟨rfl, rfl⟩) | (go_at_call 186; refine (HC4.out _).mono ?_; rintro e w2 ⟨rfl, rfl⟩) | (go_at_call 187; refine (HC5.out _ (by assumption)).mono ?_; rintro e w2 ⟨rfl, hb2⟩))
          go_ret2
          exact ⟨rfl, by assumption⟩
        · rw [hfi rfl] at HC4
          clear hfi
          go_enter Tryz.func171, Tryz.ntmps171
          go_wp2_with (first | (go_at_call 184; refine (HC1.out _).mono ?_; rintro e w ⟨rfl, rfl⟩) | (go_at_call 180; refine HC2.out.mono ?_; rintro e w1 ⟨rfl, hb1⟩) | (go_at_call 185; refine (HC3.out _).mono ?_; rintro e w2 ⟨rfl, rfl⟩) | (go_at_call 186; refine (HC4.out _).mono ?_; rintro e w2 ⟨rfl, rfl⟩) | (go_at_call 187; refine (HC5.out _ (by assumption)).mono ?_; rintro e w2 ⟨rfl, hb2⟩))
          go_ret2
          exact ⟨rfl, by assumption⟩
      · by_cases hz : n = 0
        · have d2 : ((n : Int) == 0) = true := by rw [hz]; rfl
          obtain ⟨R, hR⟩ : ∃ R, R = coreR true f id true n := ⟨_, rfl⟩
          have hR2 : R = (0, false) := by rw [hR]; unfold coreR; cases f <;> cases id <;> simp_all
          rw [← hR, hR2]
          clear hR hR2 hbig hn hz hbn
          cases f
          · clear hfi HC4
            go_enter Tryz.func171, Tryz.ntmps171
            go_wp2_with (first | (go_at_call 184; refine (HC1.out _).mono ?_; rintro e w ⟨rfl, rfl⟩) | (go_at_call 180; refine HC2.out.mono ?_; rintro e w1 ⟨rfl, hb1⟩) | (go_at_call 185; refine (HC3.out _).mono ?_; rintro e w2 ⟨rfl, rfl⟩) | (go_at_call 186; refine (HC4.out _).mono ?_; rintro e w2 ⟨rfl, rfl⟩) | (go_at_call 187; refine (HC5.out _ (by assumption)).mono ?_; rintro e w2 ⟨rfl, hb2⟩))
            go_ret2
            exact ⟨rfl, by assumption⟩
          · rw [hfi rfl] at HC4
            clear hfi
            go_enter Tryz.func171, Tryz.ntmps171
            go_wp2_with (first | (go_at_call 184; refine (HC1.out _).mono ?_; rintro e w ⟨rfl, rfl⟩) | (go_at_call 180; refine HC2.out.mono ?_; rintro e w1 ⟨rfl, hb1⟩) | (go_at_call 185; refine (HC3.out _).mono ?_; rintro e w2 ⟨rfl, rfl⟩) | (go_at_call 186; refine (HC4.out _).mono ?_; rintro e w2 ⟨rfl, rfl⟩) | (go_at_call 187; refine (HC5.out _ (by assumption)).mono ?_; rintro e w2 ⟨rfl, hb2⟩))
            go_ret2
            exact ⟨rfl, by assumption⟩
        · have d2 : ((n : Int) == 0) = false := by simp; omega
          obtain ⟨R, hR⟩ : ∃ R, R = coreR true f id true n := ⟨_, rfl⟩
          have hR2 : R = (-(n : Int), true) := by rw [hR]; unfold coreR; cases f <;> cases id <;> simp_all
          rw [← hR, hR2]
          clear hR hR2 hbig hn hz
          cases f
          · clear hfi HC4
            go_enter Tryz.func171, Tryz.ntmps171
            go_wp2_with (first | (go_at_call 184; refine (HC1.out _).mono ?_; rintro e w ⟨rfl, rfl⟩) | (go_at_call 180; refine HC2.out.mono ?_; rintro e w1 ⟨rfl, hb1⟩) | (go_at_call 185; refine (HC3.out _).mono ?_; rintro e w2 ⟨rfl, rfl⟩) | (go_at_call 186; refine (HC4.out _).mono ?_; rintro e w2 ⟨rfl, rfl⟩) | (go_at_call 187; refine (HC5.out _ (by assumption)).mono ?_; rintro e w2 ⟨rfl, hb2⟩))
            go_ret2
            exact ⟨rfl, by assumption⟩
          · rw [hfi rfl] at HC4
            clear hfi
            go_enter Tryz.func171, Tryz.ntmps171
            go_wp2_with (first | (go_at_call 184; refine (HC1.out _).mono ?_; rintro e w ⟨rfl, rfl⟩) | (go_at_call 180; refine HC2.out.mono ?_; rintro e w1 ⟨rfl, hb1⟩) | (go_at_call 185; refine (HC3.out _).mono ?_; rintro e w2 ⟨rfl, rfl⟩) | (go_at_call 186; refine (HC4.out _).mono ?_; rintro e w2 ⟨rfl, rfl⟩) | (go_at_call 187; refine (HC5.out _ (by assumption)).mono ?_; rintro e w2 ⟨rfl, hb2⟩))
            go_ret2
            exact ⟨rfl, by assumption⟩
  · have HC5 : Hid (∀ w1 : World, Below w.heap.size w w1 → False → True) := fun _ _ _ => trivial
    obtain ⟨R, hR⟩ : ∃ R, R = coreR iw f id bl n := ⟨_, rfl⟩
    have hR2 : R = (0, false) := by rw [hR]; unfold coreR; cases iw <;> cases f <;> cases id <;> simp_all
    rw [← hR, hR2]
    clear hR hR2 h5 hn
    cases iw
    · clear hok HC4
      go_enter Tryz.func171, Tryz.ntmps171
      go_wp2_with (first | (go_at_call 184; refine (HC1.out _).mono ?_; rintro e w ⟨rfl, rfl⟩) | (go_at_call 180; refine HC2.out.mono ?_; rintro e w1 ⟨rfl, hb1⟩) | (go_at_call 185; refine (HC3.out _).mono ?_; rintro e w2 ⟨rfl, rfl⟩) | (go_at_call 186; refine (HC4.out _).mono ?_; rintro e w2 ⟨rfl, rfl⟩) | (go_at_call 187; refine (HC5.out _ (by assumption)).mono ?_; rintro e w2 ⟨rfl, hb2⟩))
      go_ret2
      exact ⟨rfl, by assumption⟩
    · have hf : f = true := by cases f <;> simp_all
      have hi : id = false := by cases id <;> simp_all
      subst hf
      subst hi
      clear hok
      go_enter Tryz.func171, Tryz.ntmps171
      go_wp2_with (first | (go_at_call 184; refine (HC1.out _).mono ?_; rintro e w ⟨rfl, rfl⟩) | (go_at_call 180; refine HC2.out.mono ?_; rintro e w1 ⟨rfl, hb1⟩) | (go_at_call 185; refine (HC3.out _).mono ?_; rintro e w2 ⟨rfl, rfl⟩) | (go_at_call 186; refine (HC4.out _).mono ?_; rintro e w2 ⟨rfl, rfl⟩) | (go_at_call 187; refine (HC5.out _ (by assumption)).mono ?_; rintro e w2 ⟨rfl, hb2⟩))
      go_ret2
      exact ⟨rfl, by assumption⟩

theorem parse_any (s : ByteArray) (w : World) (hs : s.size ≤ maxLen) :
    Calls Tryz.prog 171 #[.string s] w fun e w' => e = .returned (.tuple #[.int .i64 (parseL s.data.toList).1, .bool (parseL s.data.toList).2]) ∧ Below w.heap.size w w' := by
  have l1 := Lib.trimPrefix_le s.data.toList [45]
  rw [← Lib.size_eq] at l1
  obtain ⟨l2, l3⟩ := cut_lens (Lib.trimPrefix s.data.toList [45]) [46]
  have hno := cut_none (l := Lib.trimPrefix s.data.toList [45]) (sep := [46])
  have h2 := cut_any ⟨(Lib.trimPrefix s.data.toList [45]).toArray⟩ w (by rw [size_arr]; omega)
  have h1 := Tryz.strings_CutPrefix s ⟨#[45]⟩
  unfold parseL parseT
  generalize hT : Lib.trimPrefix s.data.toList [45] = T at *
  generalize hC : Lib.cut T [46] = C at *
  obtain ⟨B, A, f⟩ := C
  simp only at l2 l3 hno
  have hlt : isWhL B = true → (f = true → isDigL A 6 = true) → B.all isD = true ∧ B.length ≤ 10 ∧ A.all isD = true := fun hb ha => by
    obtain ⟨a1, _, a3⟩ := isWhL_all hb
    refine ⟨a1, a3, ?_⟩
    cases f
    · rw [hno rfl]; rfl
    · exact (isDigL_all (ha rfl)).1
  by_cases hok : isWhL B = true ∧ (f = true → isDigL A 6 = true)
  · refine parse_core s ⟨T.toArray⟩ ⟨B.toArray⟩ ⟨A.toArray⟩ _ f _ _ (milL B A) w (milL_lt hok.1 (hlt hok.1 hok.2).2.2) ?_ ?_ (fun w => isWhole_any ⟨B.toArray⟩ w (by rw [size_arr]; omega)) (fun w => isDigits_any ⟨A.toArray⟩ 6 w (by rw [size_arr]; omega)) ?_
    · exact h1
    · refine h2.mono ?_
      rintro e w' ⟨rfl, k, rfl⟩
      exact ⟨rfl, below_drewN (Below.refl _ _) k⟩
    · intro hb ha w1 hw1
      obtain ⟨a1, a2, a3⟩ := hlt hb ha
      refine (millionths_any ⟨B.toArray⟩ ⟨A.toArray⟩ w1 a1 (by rw [size_arr]; exact a2) a3).mono ?_
      rintro e w' ⟨rfl, hb'⟩
      exact ⟨rfl, hw1.trans (hb'.mono hw1.size)⟩
  · have e0 : coreR (isWhL B) f (isDigL A 6) (Lib.hasPrefix s.data.toList [45]) (milL B A) = coreR (isWhL B) f (isDigL A 6) (Lib.hasPrefix s.data.toList [45]) 0 := by
      unfold coreR
      have : (isWhL B && (!f || isDigL A 6)) = false := by
        cases h1 : isWhL B <;> cases h2 : f <;> cases h3 : isDigL A 6 <;> simp_all
      rw [this]; rfl
    simp only at e0 ⊢
    rw [e0]
    refine parse_core s ⟨T.toArray⟩ ⟨B.toArray⟩ ⟨A.toArray⟩ _ f _ _ 0 w (by omega) ?_ ?_ (fun w => isWhole_any ⟨B.toArray⟩ w (by rw [size_arr]; omega)) (fun w => isDigits_any ⟨A.toArray⟩ 6 w (by rw [size_arr]; omega)) ?_
    · exact h1
    · refine h2.mono ?_
      rintro e w' ⟨rfl, k, rfl⟩
      exact ⟨rfl, below_drewN (Below.refl _ _) k⟩
    · intro hb ha
      exact absurd ⟨hb, ha⟩ hok
end Go.Proofs.YtommhgmlblecnaaGreatDoor
namespace Go.Proofs.YtommhgmlblecnaaGreatDoor
open Go

def lpN (y : Nat) : Nat := if y % 4 = 0 ∧ (y % 100 ≠ 0 ∨ y % 400 = 0) then 1 else 0
theorem lpN_le (y : Nat) : lpN y ≤ 1 := by unfold lpN; split <;> omega
/-- How many days a year has. -/
def yl (y : Nat) : Nat := 365 + lpN y
def mt (m : Nat) : Nat := [31, 28, 31, 30, 31, 30, 31, 31, 30, 31, 30, 31].getD m 0
/-- How many days a month has. -/
def ml (y m : Nat) : Nat := if m = 1 then 28 + lpN y else mt m
/-- The days ahead of the year 1900 + n. -/
def yd : Nat → Nat
  | 0 => 0
  | n + 1 => yd n + yl (1900 + n)
/-- The days ahead of a month. -/
def md (y : Nat) : Nat → Nat
  | 0 => 0
  | m + 1 => md y m + ml y m
theorem yl_ge (y : Nat) : 365 ≤ yl y := by unfold yl; omega
theorem yl_le (y : Nat) : yl y ≤ 366 := by have := lpN_le y; unfold yl; omega
theorem mt_bounds {m : Nat} (h : m < 12) : 28 ≤ mt m ∧ mt m ≤ 31 := by
  match m, h with
  | 0, _ | 1, _ | 2, _ | 3, _ | 4, _ | 5, _ | 6, _ | 7, _ | 8, _ | 9, _ | 10, _ | 11, _ => exact ⟨by decide, by decide⟩
theorem ml_ge (y : Nat) {m : Nat} (h : m < 12) : 28 ≤ ml y m := by have := mt_bounds h; unfold ml; split <;> omega
theorem ml_le (y : Nat) {m : Nat} (h : m < 12) : ml y m ≤ 31 := by have := mt_bounds h; have := lpN_le y; unfold ml; split <;> omega
theorem md_twelve (y : Nat) : md y 12 = yl y := by
  have e : ∀ m, md y (m + 1) = md y m + ml y m := fun _ => rfl
  simp only [e]
  have e0 : md y 0 = 0 := rfl
  rw [e0]
  simp [ml, mt, yl]; omega
theorem yd_step (n : Nat) : yd (n + 1) = yd n + yl (1900 + n) := rfl
theorem md_step (y m : Nat) : md y (m + 1) = md y m + ml y m := rfl
theorem yd_mono {a b : Nat} (h : a ≤ b) : yd a ≤ yd b := by
  induction h with
  | refl => exact Nat.le_refl _
  | step _ ih => rw [yd_step]; omega
theorem md_mono (y : Nat) {a b : Nat} (h : a ≤ b) : md y a ≤ md y b := by
  induction h with
  | refl => exact Nat.le_refl _
  | step _ ih => rw [md_step]; omega
theorem yd_all : yd 200 = 73049 := by decide +kernel
theorem yd_le {n : Nat} (h : n ≤ 200) : yd n ≤ 73049 := by have := yd_mono h; rw [yd_all] at this; exact this
theorem md_le (y : Nat) {m : Nat} (h : m ≤ 12) : md y m ≤ yl y := by have := md_mono y h; rw [md_twelve] at this; exact this

/-- A date of the calendar: the year from 1900 on, the month from 0 on, the day from 1 on. -/
def Dt (y m d : Nat) : Prop := y < 200 ∧ m < 12 ∧ 1 ≤ d ∧ d ≤ ml (1900 + y) m
instance (y m d : Nat) : Decidable (Dt y m d) := by unfold Dt; infer_instance
/-- Its day. -/
def dn (y m d : Nat) : Nat := yd y + md (1900 + y) m + d - 1
theorem Dt.dle {y m d : Nat} (h : Dt y m d) : d ≤ 31 := Nat.le_trans h.2.2.2 (ml_le _ h.2.1)
def clampD (n : Int) : Nat := if n < 0 then 0 else if 73048 < n then 73048 else n.toNat
theorem clampD_in {n : Nat} (h : n ≤ 73048) : clampD (n : Int) = n := by unfold clampD; rw [if_neg (by omega), if_neg (by omega)]; omega
end Go.Proofs.YtommhgmlblecnaaGreatDoor
namespace Go.Proofs.YtommhgmlblecnaaGreatDoor
open Go Go.RowKit

/-- Bytes written out, appended to what the call owns, which may grow. -/
theorem appG {ops : Array Oper} {rest : List Oper} {o : Oper} {a : Act} {Q : Exit → Act → World → Prop} {w wr : World} (news : List UInt8) (cs : Array Value) (hcs : cs.toList = cells8 news)
    (hg : o.guard = none) (s x : Operand) (hop : o.op = Op.call { callee := Callee.builtin Builtin.append, args := #[s, x], argTypes := #[80, 80] })
    (B n k c : Nat) (v : Value) (m : List UInt8) (hs : a.eval s = v) (hx : a.eval x = .slice (some ⟨wr.heap.size, 0, none⟩) k c) (hk : news.length = k) (hk0 : 0 < k)
    (ho : wr.ownsRow B 5 1 v n (cells8 m)) (hbnd : n + k ≤ 140737488355328) (hbel : Below B w wr) (hB : B ≤ wr.heap.size)
    (hK : ∀ g cap w1, w1.ownsRow B 5 1 (.slice (some ⟨g, 0, none⟩) (n + k) cap) (n + k) (cells8 (m ++ news)) → Below B w w1 → wr.heap.size < w1.heap.size → wpList Tryz.prog ops Q rest (a.put o.dst (.slice (some ⟨g, 0, none⟩) (n + k) cap)) w1) :
    wpList Tryz.prog ops Q (o :: rest) a (wr.alloc (.cells cs 5)) := by
  obtain ⟨i0, hi0, hz0, hz1, hz2⟩ := info_parts info8
  refine wpList_append_lies _ hg s x 80 hop B 5 i0 (.int .u8 0) 1 1 Tryz.underlying80 hi0 hz0 hz1 hz2 rfl (by omega) v n _ hs (ho.alloc _) ⟨wr.heap.size, 0, none⟩ k c (cells8 news) hx (by rw [cells8_len]; omega)
    (hcs ▸ World.news_of_block (fr := (0, 0)) (heap_alloc_new wr _)) (cells8_one _) hk0 (by unfold maxLen; omega) (by omega) (by simp; omega) (wr.heap.size + 1) (by simp) ?_
  intro g cap w1 ho1 hg1 _ _
  rw [cells8_append] at ho1
  have hs1 : wr.heap.size + 1 ≤ w1.heap.size := by have := hg1.size; simpa using this
  exact hK g cap w1 ho1 ((hbel.alloc hB _).grown hg1 (by simp; omega) (fun k hk => (ho.lt k hk).1)) hs1
end Go.Proofs.YtommhgmlblecnaaGreatDoor
namespace Go.Proofs.YtommhgmlblecnaaGreatDoor
open Go Go.RowKit

theorem ret_intD {k : IntKind} {a b : Int} (h : a = b) : Ending.returned (.int k a) = .returned (.int k b) := by rw [h]
theorem ret_bool {a b : Bool} (h : a = b) : Ending.returned (.bool a) = .returned (.bool b) := by rw [h]

/-- The months' days lie where the program lays them. -/
def Tab (w : World) : Prop := ∀ k, k < 12 → w.cell? ⟨1, k, none⟩ = some (.int .i64 (mt k : Nat))

set_option maxHeartbeats 400000 in
theorem leapDays_any (y : Nat) (h : y ≤ 10000) (w : World) :
    Calls Tryz.prog 213 #[.int .i64 y] w fun e w' => e = .returned (.int .i64 (lpN y : Nat)) ∧ w' = w := by
  by_cases h4 : y % 4 = 0
  · by_cases h100 : y % 100 = 0
    · by_cases h400 : y % 400 = 0
      · go_enter Tryz.func213, Tryz.ntmps213
        go_wp2
        go_ret
        refine ⟨ret_intD ?_, rfl⟩
        unfold lpN; rw [if_pos (by omega)]; rfl
      · go_enter Tryz.func213, Tryz.ntmps213
        go_wp2
        go_ret
        refine ⟨ret_intD ?_, rfl⟩
        unfold lpN; rw [if_neg (by omega)]; rfl
    · go_enter Tryz.func213, Tryz.ntmps213
      go_wp2
      go_ret
      refine ⟨ret_intD ?_, rfl⟩
      unfold lpN; rw [if_pos (by omega)]; rfl
  · go_enter Tryz.func213, Tryz.ntmps213
    go_wp2
    go_ret
    refine ⟨ret_intD ?_, rfl⟩
    unfold lpN; rw [if_neg (by omega)]; rfl

set_option maxHeartbeats 400000 in
theorem yearLater_any (y n : Nat) (h : y ≤ 5000) (hn : n ≤ 5000) (w : World) :
    Calls Tryz.prog 197 #[.int .i64 y, .int .i64 n] w fun e w' => e = .returned (.int .i64 (yl (y + n) : Nat)) ∧ w' = w := by
  have H := hid (fun w => leapDays_any (y + n) (by omega) w)
  have hl := lpN_le (y + n)
  go_enter Tryz.func197, Tryz.ntmps197
  go_wp2_with fail
  refine (H.out _).mono ?_
  rintro e w ⟨rfl, rfl⟩
  go_wp2
  go_ret
  refine ⟨ret_intD ?_, rfl⟩
  unfold yl; omega

theorem Tab.drewN {w : World} (h : Tab w) (n : Nat) : Tab (w.drewN n) := h

set_option maxHeartbeats 400000 in
theorem month_any (y m : Nat) (h : y ≤ 5000) (hm : m < 12) (w : World) (ht : Tab w) :
    Calls Tryz.prog 198 #[.int .i64 y, .int .i64 m] w fun e w' => e = .returned (.int .i64 (ml y m : Nat)) ∧ ∃ n, w' = w.drewN n := by
  have H := hid (fun w => leapDays_any y (by omega) w)
  have hl := lpN_le y
  have hc := ht m hm
  have hb := mt_bounds hm
  have hm' : (m : Int) < 12 := by omega
  clear ht
  by_cases h1 : m = 1
  · subst h1
    go_enter Tryz.func198, Tryz.ntmps198
    go_wp2_with fail
    go_quiet ((go_at_call 213; refine Calls.quiet_of_same (H.out _)))
    go_wp2
    go_ret
    refine ⟨ret_intD ?_, _, rfl⟩
    unfold ml mt; simp
  · go_enter Tryz.func198, Tryz.ntmps198
    go_wp2_with fail
    go_ret
    refine ⟨ret_intD ?_, 0, rfl⟩
    unfold ml; simp [h1]
end Go.Proofs.YtommhgmlblecnaaGreatDoor
namespace Go.Proofs.YtommhgmlblecnaaGreatDoor
open Go Go.RowKit

set_option maxHeartbeats 400000 in
theorem daysOfY_any (n : Nat) (hn : n ≤ 200) (w : World) :
    Calls Tryz.prog 214 #[.int .i64 1900, .int .i64 n, .func (.func 197) #[] #[]] w fun e w' => e = .returned (.int .i64 (yd n : Nat)) ∧ w' = w := by
  have H := hid (fun (k : Nat) (hk : k ≤ 5000) w => yearLater_any 1900 k (by omega) hk w)
  go_enter Tryz.func214, Tryz.ntmps214
  go_wp2_with fail
  go_loop [7, 10] (fun s i => ∃ k : Nat, k ≤ n ∧ i = .int .i64 k ∧ s = .int .i64 (yd k : Nat)) (fun _ i => n - (intOf i).toNat)
  case atStart => exact ⟨0, by omega, rfl, rfl⟩
  case round =>
    obtain ⟨k, hk, rfl, rfl⟩ := hrel
    have hy := yd_le (n := k) (by omega)
    have hyl := yl_le (1900 + k)
    by_cases hlt : k < n
    · go_wp2_with fail
      refine (H.out k (by omega) _).mono ?_
      rintro e w ⟨rfl, rfl⟩
      go_wp2
      refine ⟨⟨k + 1, by omega, rfl, ?_⟩, by simp [intOf]; omega⟩
      rw [yd_step]; simp
    · have : k = n := by omega
      subst this
      go_wp2
      go_ret
      exact ⟨rfl, rfl⟩

set_option maxHeartbeats 400000 in
theorem daysOfM_any (y n : Nat) (hy : y ≤ 5000) (hn : n ≤ 12) (w : World) (ht : Tab w) :
    Calls Tryz.prog 214 #[.int .i64 y, .int .i64 n, .func (.func 198) #[] #[]] w fun e w' => e = .returned (.int .i64 (md y n : Nat)) ∧ ∃ j, w' = w.drewN j := by
  have H := hid (fun (k : Nat) (hk : k < 12) (j : Nat) => month_any y k (by omega) hk (w.drewN j) (ht.drewN j))
  clear ht
  go_enter Tryz.func214, Tryz.ntmps214
  go_wp2_with fail
  go_loopw [7, 10] (fun s i wr => ∃ k j : Nat, k ≤ n ∧ i = .int .i64 k ∧ s = .int .i64 (md y k : Nat) ∧ wr = w.drewN j) (fun _ i _ => n - (intOf i).toNat)
  case atStart => exact ⟨0, 0, by omega, rfl, rfl, rfl⟩
  case round =>
    obtain ⟨k, j, hk, rfl, rfl, rfl⟩ := hrel
    have hy := md_le y (m := k) (by omega)
    have hyl := yl_le y
    by_cases hlt : k < n
    · have hm := ml_le y (m := k) (by omega)
      go_wp2_with fail
      refine (H.out k (by omega) j).mono ?_
      rintro e w1 ⟨rfl, i, rfl⟩
      go_wp2
      refine ⟨⟨k + 1, j + i, by omega, rfl, ?_, rfl⟩, by simp [intOf]; omega⟩
      rw [md_step]; simp
    · have : k = n := by omega
      subst this
      go_wp2
      go_ret
      exact ⟨rfl, _, rfl⟩

set_option maxHeartbeats 400000 in
theorem piecesInY_any (n : Nat) (hn : n ≤ 73048) (w : World) :
    Calls Tryz.prog 196 #[.int .i64 1900, .int .i64 n, .func (.func 197) #[] #[]] w fun e w' => ∃ y l : Nat, e = .returned (.tuple #[.int .i64 y, .int .i64 l]) ∧ y < 200 ∧ l < yl (1900 + y) ∧ yd y + l = n ∧ w' = w := by
  have H := hid (fun (k : Nat) (hk : k ≤ 5000) w => yearLater_any 1900 k (by omega) hk w)
  go_enter Tryz.func196, Tryz.ntmps196
  go_wp2_with fail
  go_loop [1, 8] (fun s i => ∃ k l : Nat, k ≤ 200 ∧ i = .int .i64 k ∧ s = .int .i64 l ∧ yd k + l = n) (fun s _ => (intOf s).toNat)
  case atStart => exact ⟨0, n, by omega, rfl, rfl, by simp [yd]⟩
  case round =>
    obtain ⟨k, l, hk, rfl, rfl, hkl⟩ := hrel
    have hyl := yl_le (1900 + k)
    have hyg := yl_ge (1900 + k)
    have hk2 : k < 200 := by
      rcases Nat.lt_or_ge k 200 with h | h
      · exact h
      · have : k = 200 := by omega
        subst this
        rw [yd_all] at hkl; omega
    have hst := yd_step k
    by_cases hlt : yl (1900 + k) ≤ l
    · go_wp2_with fail
      refine (H.out k (by omega) _).mono ?_
      rintro e w ⟨rfl, rfl⟩
      go_wp2_with fail
      refine (H.out k (by omega) _).mono ?_
      rintro e w ⟨rfl, rfl⟩
      go_wp2
      refine ⟨⟨k + 1, l - yl (1900 + k), by omega, rfl, ?_, by omega⟩, by simp [intOf]; omega⟩
      congr 1; omega
    · go_wp2_with fail
      refine (H.out k (by omega) _).mono ?_
      rintro e w ⟨rfl, rfl⟩
      go_wp2
      go_ret2
      exact ⟨k, l, rfl, hk2, by omega, hkl, rfl⟩

set_option maxHeartbeats 400000 in
theorem piecesInM_any (y n : Nat) (hy : y ≤ 5000) (hn : n < yl y) (w : World) (ht : Tab w) :
    Calls Tryz.prog 196 #[.int .i64 y, .int .i64 n, .func (.func 198) #[] #[]] w fun e w' => ∃ m l : Nat, e = .returned (.tuple #[.int .i64 m, .int .i64 l]) ∧ m < 12 ∧ l < ml y m ∧ md y m + l = n ∧ ∃ j, w' = w.drewN j := by
  have H := hid (fun (k : Nat) (hk : k < 12) (j : Nat) => month_any y k (by omega) hk (w.drewN j) (ht.drewN j))
  have hyy := yl_le y
  clear ht
  go_enter Tryz.func196, Tryz.ntmps196
  go_wp2_with fail
  go_loopw [1, 8] (fun s i wr => ∃ k l j : Nat, k ≤ 12 ∧ i = .int .i64 k ∧ s = .int .i64 l ∧ md y k + l = n ∧ wr = w.drewN j) (fun s _ _ => (intOf s).toNat)
  case atStart => exact ⟨0, n, 0, by omega, rfl, rfl, by simp [md], rfl⟩
  case round =>
    obtain ⟨k, l, j, hk, rfl, rfl, hkl, rfl⟩ := hrel
    have hk2 : k < 12 := by
      rcases Nat.lt_or_ge k 12 with h | h
      · exact h
      · have : k = 12 := by omega
        subst this
        rw [md_twelve] at hkl; omega
    have hyl := ml_le y hk2
    have hyg := ml_ge y hk2
    have hst := md_step y k
    by_cases hlt : ml y k ≤ l
    · go_wp2_with fail
      refine (H.out k (by omega) _).mono ?_
      rintro e w1 ⟨rfl, i1, rfl⟩
      rw [World.drewN_drewN]
      go_wp2_with fail
      refine (H.out k (by omega) _).mono ?_
      rintro e w1 ⟨rfl, i2, rfl⟩
      go_wp2
      refine ⟨⟨k + 1, l - ml y k, _, by omega, rfl, ?_, by omega, rfl⟩, by simp [intOf]; omega⟩
      congr 1; omega
    · go_wp2_with fail
      refine (H.out k (by omega) _).mono ?_
      rintro e w1 ⟨rfl, i1, rfl⟩
      go_wp2
      go_ret2
      exact ⟨k, l, rfl, hk2, by omega, hkl, _, rfl⟩
end Go.Proofs.YtommhgmlblecnaaGreatDoor
namespace Go.Proofs.YtommhgmlblecnaaGreatDoor
open Go Go.RowKit

theorem Tab.below {w w' : World} (h : Tab w) (hB : Below w.heap.size w w') : Tab w' := fun k hk => by
  rw [hB.cell (p := ⟨1, k, none⟩) (World.block_lt_of_cell? w _ (h k hk))]; exact h k hk
theorem Below.next {w w1 w2 : World} (hb : Below w.heap.size w w1) (h : Below w1.heap.size w1 w2) : Below w.heap.size w w2 := hb.trans (h.mono hb.size)
theorem drewN_below (w : World) (j : Nat) : Below w.heap.size w (w.drewN j) := by
  induction j with
  | zero => exact Below.refl _ _
  | succ j ih => exact (by have := ih.drew; exact this)

set_option maxHeartbeats 400000 in
theorem calendarDate_any (y m d : Int) (w : World) :
    Calls Tryz.prog 202 #[.int .i64 y, .int .i64 m, .int .i64 d] w fun e w' => e = .returned (.agg #[.int .i64 y, .int .i64 (wrap64 (m - 1)), .int .i64 d]) ∧ Below w.heap.size w w' := by
  go_enter Tryz.func202, Tryz.ntmps202
  go_wp2
  go_returns
  exact ⟨rfl, (Below.refl _ _).alloc (Nat.le_refl _) _⟩

set_option maxHeartbeats 400000 in
theorem clamp_day (n : Int) (w : World) :
    Calls Tryz.prog 182 #[.int .i64 n] w fun e w' => e = .returned (.int .i64 (clampD n : Nat)) ∧ w' = w := by
  unfold clampD
  by_cases h0 : n < 0
  · go_enter Tryz.func182, Tryz.ntmps182
    rw [if_pos h0]
    go_wp2
    all_goals
      go_ret
      exact ⟨ret_intD (by omega), rfl⟩
  · by_cases h1 : 73048 < n
    · go_enter Tryz.func182, Tryz.ntmps182
      rw [if_neg h0, if_pos h1]
      go_wp2
      all_goals
        go_ret
        exact ⟨ret_intD (by omega), rfl⟩
    · go_enter Tryz.func182, Tryz.ntmps182
      rw [if_neg h0, if_neg h1]
      go_wp2
      all_goals
        go_ret
        exact ⟨ret_intD (by omega), rfl⟩

set_option maxHeartbeats 400000 in
theorem dateOf_any (n : Nat) (hn : n ≤ 73048) (w : World) (ht : Tab w) :
    Calls Tryz.prog 183 #[.int .i64 n] w fun e w' => ∃ y m d : Nat, Dt y m d ∧ dn y m d = n ∧ e = .returned (.agg #[.int .i64 (1900 + (y : Int)), .int .i64 m, .int .i64 d]) ∧ Below w.heap.size w w' := by
  have H1 := hid (piecesInY_any n hn)
  have HT := hid ht
  clear ht
  go_enter Tryz.func183, Tryz.ntmps183
  go_wp2_with fail
  refine (H1.out _).mono ?_
  rintro e w1 ⟨y, l, rfl, hy, hl, hyl, rfl⟩
  go_wp2_with fail
  refine (piecesInM_any (1900 + y) l (by omega) hl _ (HT.out.below ((Below.refl _ _).alloc (Nat.le_refl _) _))).mono ?_
  rintro e w2 ⟨m, l', rfl, hm, hl', hml, j, rfl⟩
  go_wp2
  go_returns
  refine ⟨y, m, l' + 1, ⟨hy, hm, by omega, by omega⟩, by unfold dn; omega, rfl, ?_⟩
  have h0 := ((Below.refl w.heap.size w).alloc (Nat.le_refl _) (.cells #[.int .i64 0, .int .i64 0, .int .i64 0] 175))
  have h1 := Below.next h0 (drewN_below _ j)
  exact ((h1.setCell (p := ⟨w.heap.size, 0, none⟩) (Nat.le_refl _) _).setCell (p := ⟨w.heap.size, 1, none⟩) (Nat.le_refl _) _).setCell (p := ⟨w.heap.size, 2, none⟩) (Nat.le_refl _) _

/-- A struct of three numbers, laid anew. -/
theorem laid3 (w : World) (a b c : Value) : (w.alloc (.cells #[a, b, c] 175)).cell? ⟨w.heap.size, 0, none⟩ = some a ∧ (w.alloc (.cells #[a, b, c] 175)).cell? ⟨w.heap.size, 1, none⟩ = some b ∧ (w.alloc (.cells #[a, b, c] 175)).cell? ⟨w.heap.size, 2, none⟩ = some c := by
  have h := World.cell?_alloc_mark w #[a, b, c] 175 (0, 0)
  exact ⟨h 0, h 1, h 2⟩

set_option maxHeartbeats 800000 in
theorem dayNumber_any (y m d : Nat) (h : Dt y m d) (Y : Int) (hY : Y = 1900 + (y : Int)) (w : World) (ht : Tab w) :
    Calls Tryz.prog 204 #[.agg #[.int .i64 Y, .int .i64 m, .int .i64 d]] w fun e w' => e = .returned (.int .i64 (dn y m d : Nat)) ∧ Below w.heap.size w w' := by
  have hd31 := h.dle
  obtain ⟨hy, hm, hd0, hd1⟩ := h
  have hyd := yd_le (n := y) (by omega)
  have hmd := md_le (1900 + y) (m := m) (by omega)
  have hyl := yl_le (1900 + y)
  have hB := (Below.refl w.heap.size w).alloc (Nat.le_refl _) (.cells #[.int .i64 Y, .int .i64 m, .int .i64 d] 175)
  have ht' := ht.below hB
  obtain ⟨c0, c1, c2⟩ := laid3 w (.int .i64 Y) (.int .i64 m) (.int .i64 d)
  clear ht
  have HF : Hid (Below w.heap.size w (w.alloc (.cells #[.int .i64 Y, .int .i64 m, .int .i64 d] 175))) := hB
  have HYY := hid hY
  clear hB hY
  go_enter Tryz.func204, Tryz.ntmps204
  go_wp2_with fail
  generalize w.alloc (.cells #[.int .i64 Y, .int .i64 m, .int .i64 d] 175) = W at *
  have HT : Hid (Tab W) := ht'
  clear ht'
  have hY := HYY.out
  have HM := hid (fun j => daysOfM_any (1900 + y) m (by omega) (by omega) (W.drewN j) HT.out)
  have HY := hid (fun j => daysOfY_any y (by omega) (W.drewN j))
  have e19 : ((1900 + y : Nat) : Int) = Y := by omega
  rw [e19] at HM
  have v1 : IntKind.i64.wrap (Y - 1900) = (y : Int) := by rw [IntWalk.i64_in _ ⟨by omega, by omega⟩]; omega
  clear hY HYY e19
  generalize hA : yd y = A at *
  generalize hB : md (1900 + y) m = B at *
  have v2 : IntKind.i64.wrap ((A : Int) + (B : Int)) = (A : Int) + (B : Int) := IntWalk.i64_in _ ⟨by omega, by omega⟩
  have v3 : IntKind.i64.wrap ((A : Int) + (B : Int) + (d : Int)) = (A : Int) + (B : Int) + (d : Int) := IntWalk.i64_in _ ⟨by omega, by omega⟩
  have v4 : IntKind.i64.wrap ((A : Int) + (B : Int) + (d : Int) - 1) = (A : Int) + (B : Int) + (d : Int) - 1 := IntWalk.i64_in _ ⟨by omega, by omega⟩
  go_quiet (first | (go_at_call_of 214 Y; exact Calls.quiet_of (HM.out _)) | (go_at_call 214; exact Calls.quiet_of_same (HY.out _)))
  go_wp2
  go_ret
  refine ⟨ret_intD (by unfold dn; omega), Below.next HF.out (drewN_below _ _)⟩

set_option maxHeartbeats 800000 in
theorem isThere_any (y m d : Int) (w : World) (ht : Tab w) (B : Bool) (hb : B = true ↔ 1900 ≤ y ∧ 0 ≤ m ∧ 0 ≤ d ∧ Dt (y - 1900).toNat m.toNat d.toNat) :
    Calls Tryz.prog 203 #[.agg #[.int .i64 y, .int .i64 m, .int .i64 d]] w fun e w' => e = .returned (.bool B) ∧ Below w.heap.size w w' := by
  have hB := (Below.refl w.heap.size w).alloc (Nat.le_refl _) (.cells #[.int .i64 y, .int .i64 m, .int .i64 d] 175)
  have ht' := ht.below hB
  obtain ⟨c0, c1, c2⟩ := laid3 w (.int .i64 y) (.int .i64 m) (.int .i64 d)
  clear ht
  have HF : Hid (Below w.heap.size w (w.alloc (.cells #[.int .i64 y, .int .i64 m, .int .i64 d] 175))) := hB
  have HBB : Hid (B = true ↔ 1900 ≤ y ∧ 0 ≤ m ∧ 0 ≤ d ∧ Dt (y - 1900).toNat m.toNat d.toNat) := hb
  clear hB hb
  go_enter Tryz.func203, Tryz.ntmps203
  go_wp2_with fail
  generalize w.alloc (.cells #[.int .i64 y, .int .i64 m, .int .i64 d] 175) = W at *
  have HT : Hid (Tab W) := ht'
  clear ht'
  by_cases h0 : 1900 ≤ y
  · skip
    by_cases h1 : y ≤ 2099
    · skip
      by_cases h2 : 0 ≤ m
      · skip
        by_cases h3 : m < 12
        · skip
          by_cases h4 : 1 ≤ d
          · skip
            obtain ⟨y', rfl⟩ := Int.eq_ofNat_of_zero_le (a := y) (by omega)
            obtain ⟨m', rfl⟩ := Int.eq_ofNat_of_zero_le (a := m) (by omega)
            obtain ⟨d', rfl⟩ := Int.eq_ofNat_of_zero_le (a := d) (by omega)
            have hm2 := ml_le y' (m := m') (by omega)
            go_quiet ((go_at_call 198; exact Calls.quiet_of (month_any y' m' (by omega) (by omega) _ HT.out)))
            go_wp2
            go_ret
            refine ⟨ret_bool ?_, Below.next HF.out (drewN_below _ _)⟩
            have e := HBB.out
            have e2 : 1900 + ((y' : Int) - 1900).toNat = y' := by omega
            unfold Dt at e
            rw [e2] at e
            simp only [Int.toNat_natCast] at e
            rw [Bool.eq_iff_iff, e]
            simp only [decide_eq_true_eq]
            omega
          · have g4 : decide (1 ≤ d) = false := decide_eq_false h4
            go_quiet (fail)
            go_wp2
            go_ret
            refine ⟨ret_bool ?_, Below.next HF.out (drewN_below _ _)⟩
            cases B
            · rfl
            · have := HBB.out.1 rfl
              unfold Dt at this
              omega
        · have g3 : decide (m < 12) = false := decide_eq_false h3
          go_quiet (fail)
          go_wp2
          go_ret
          refine ⟨ret_bool ?_, Below.next HF.out (drewN_below _ _)⟩
          cases B
          · rfl
          · have := HBB.out.1 rfl
            unfold Dt at this
            omega
      · have g2 : decide (0 ≤ m) = false := decide_eq_false h2
        go_quiet (fail)
        go_wp2
        go_ret
        refine ⟨ret_bool ?_, Below.next HF.out (drewN_below _ _)⟩
        cases B
        · rfl
        · have := HBB.out.1 rfl
          unfold Dt at this
          omega
    · have g1 : decide (y ≤ 2099) = false := decide_eq_false h1
      go_quiet (fail)
      go_wp2
      go_ret
      refine ⟨ret_bool ?_, Below.next HF.out (drewN_below _ _)⟩
      cases B
      · rfl
      · have := HBB.out.1 rfl
        unfold Dt at this
        omega
  · have g0 : decide (1900 ≤ y) = false := decide_eq_false h0
    go_quiet (fail)
    go_wp2
    go_ret
    refine ⟨ret_bool ?_, Below.next HF.out (drewN_below _ _)⟩
    cases B
    · rfl
    · have := HBB.out.1 rfl
      unfold Dt at this
      omega
end Go.Proofs.YtommhgmlblecnaaGreatDoor
namespace Go.Proofs.YtommhgmlblecnaaGreatDoor
open Go Go.RowKit

theorem laid3_below {w w' : World} {a b c : Value} (hB : Below (w.alloc (.cells #[a, b, c] 175)).heap.size (w.alloc (.cells #[a, b, c] 175)) w') :
    w'.cell? ⟨w.heap.size, 0, none⟩ = some a ∧ w'.cell? ⟨w.heap.size, 1, none⟩ = some b ∧ w'.cell? ⟨w.heap.size, 2, none⟩ = some c := by
  obtain ⟨h0, h1, h2⟩ := laid3 w a b c
  exact ⟨by rw [hB.cell (World.block_lt_of_cell? _ _ h0)]; exact h0, by rw [hB.cell (World.block_lt_of_cell? _ _ h1)]; exact h1, by rw [hB.cell (World.block_lt_of_cell? _ _ h2)]; exact h2⟩
theorem Below.laid {w w1 : World} (h : Below w.heap.size w w1) (o : Obj) : Below w.heap.size w (w1.alloc o) := h.alloc h.size o
/-- A date as it is handed in. -/
def Valid (y m d : Int) : Prop := 1900 ≤ y ∧ 1 ≤ m ∧ 0 ≤ d ∧ Dt (y - 1900).toNat (m - 1).toNat d.toNat
instance (y m d : Int) : Decidable (Valid y m d) := by unfold Valid; infer_instance
def ofV (y m d : Int) : Value := if Valid y m d then .tuple #[.int .i64 (dn (y - 1900).toNat (m - 1).toNat d.toNat : Nat), .int .i64 0] else .tuple #[.int .i64 0, .int .i64 30]

set_option maxHeartbeats 800000 in
theorem of_any (y m d : Int) (hm : -9223372036854775808 ≤ m ∧ m ≤ 9223372036854775807) (w : World) (ht : Tab w) :
    Calls Tryz.prog 189 #[.int .i64 y, .int .i64 m, .int .i64 d] w fun e w' => e = .returned (ofV y m d) ∧ Below w.heap.size w w' := by
  have HT := hid ht
  clear ht
  unfold ofV
  by_cases hv : Valid y m d
  · rw [if_pos hv]
    have hw1 : wrap64 (m - 1) = m - 1 := IntWalk.wrap64_in _ ⟨by have := hv.2.1; omega, by omega⟩
    obtain ⟨h0, h1, h2, h3⟩ := hv
    obtain ⟨y', hy⟩ := Int.eq_ofNat_of_zero_le (a := y - 1900) (by omega)
    obtain ⟨m', hm'⟩ := Int.eq_ofNat_of_zero_le (a := m - 1) (by omega)
    obtain ⟨d', rfl⟩ := Int.eq_ofNat_of_zero_le (a := d) (by omega)
    rw [hy, hm'] at h3 ⊢
    simp only [Int.toNat_natCast] at h3 ⊢
    have HD := hid (fun w ht => dayNumber_any y' m' d' h3 y (by omega) w ht)
    have HI := hid (fun w ht => isThere_any y m' d' w ht true (by rw [hy]; simp only [Int.toNat_natCast]; simp [h3]; omega))
    rw [hm'] at hw1
    clear h0 h1 h2 h3 hy
    go_enter Tryz.func189, Tryz.ntmps189
    go_wp2_with fail
    refine (calendarDate_any y m d' _).mono ?_
    rintro e w1 ⟨rfl, hB1⟩
    rw [hm', hw1]
    clear hm' hw1
    have hB2 := Below.laid hB1 (.cells #[.int .i64 y, .int .i64 m', .int .i64 d'] 175)
    go_wp2_with fail
    refine (HI.out _ (HT.out.below hB2)).mono ?_
    rintro e w2 ⟨rfl, hB3⟩
    obtain ⟨c0, c1, c2⟩ := laid3_below hB3
    have hB4 := Below.next hB2 hB3
    clear hB1 hB2 hB3
    go_wp2_with fail
    refine (HD.out _ (HT.out.below hB4)).mono ?_
    rintro e w3 ⟨rfl, hB5⟩
    have hB6 := Below.next hB4 hB5
    go_wp2
    go_ret2
    exact ⟨rfl, hB6⟩
  · rw [if_neg hv]
    have HI := hid (fun w ht => isThere_any y (wrap64 (m - 1)) d w ht false (by
      constructor
      · intro h; cases h
      · rintro ⟨a, b, c, dd⟩
        exfalso; apply hv
        by_cases hmm : 1 ≤ m
        · rw [IntWalk.wrap64_in _ ⟨by omega, by omega⟩] at dd
          exact ⟨a, hmm, c, dd⟩
        · exfalso
          by_cases hl : m = -9223372036854775808
          · subst hl
            have e : wrap64 (-9223372036854775808 - 1) = 9223372036854775807 := by kernel_rfl
            have := dd.2.1
            rw [e] at this
            omega
          · rw [IntWalk.wrap64_in _ ⟨by omega, by omega⟩] at b; omega))
    go_enter Tryz.func189, Tryz.ntmps189
    go_wp2_with fail
    refine (calendarDate_any y m d _).mono ?_
    rintro e w1 ⟨rfl, hB1⟩
    generalize wrap64 (m - 1) = M at *
    have hB2 := Below.laid hB1 (.cells #[.int .i64 y, .int .i64 M, .int .i64 d] 175)
    go_wp2_with fail
    refine (HI.out _ (HT.out.below hB2)).mono ?_
    rintro e w2 ⟨rfl, hB3⟩
    have hB4 := Below.next hB2 hB3
    clear hB1 hB2 hB3
    go_wp2
    go_ret2
    exact ⟨rfl, hB4⟩

set_option maxHeartbeats 800000 in
theorem parts_yes (n : Nat) (hn : n ≤ 73048) (w : World) (ht : Tab w) :
    Calls Tryz.prog 169 #[.int .i64 n] w fun e w' => ∃ y m d : Nat, Dt y m d ∧ dn y m d = n ∧ e = .returned (.tuple #[.int .i64 (1900 + (y : Int)), .int .i64 ((m : Int) + 1), .int .i64 d, .int .i64 0]) ∧ Below w.heap.size w w' := by
  have HT := hid ht
  clear ht
  have HC := hid (clamp_day (n : Int))
  rw [clampD_in hn] at HC
  go_enter Tryz.func169, Tryz.ntmps169
  go_wp2_with fail
  refine (HC.out _).mono ?_
  rintro e w1 ⟨rfl, rfl⟩
  go_wp2_with fail
  refine (dateOf_any n hn _ HT.out).mono ?_
  rintro e w2 ⟨y, m, d, hd, hdn, rfl, hB⟩
  obtain ⟨c0, c1, c2⟩ := laid3 w2 (.int .i64 (1900 + (y : Int))) (.int .i64 m) (.int .i64 d)
  have HD := hid hd
  have HDN := hid hdn
  have hm := hd.2.1
  have hy := hd.1
  have hBl := hid (Below.laid hB (.cells #[.int .i64 (1900 + (y : Int)), .int .i64 m, .int .i64 d] 175))
  clear hd hdn hB
  have v1 : IntKind.i64.wrap ((m : Int) + 1) = (m : Int) + 1 := IntWalk.i64_in _ ⟨by omega, by omega⟩
  go_wp2_with fail
  generalize w2.alloc (.cells #[.int .i64 (1900 + (y : Int)), .int .i64 m, .int .i64 d] 175) = W at *
  go_quiet (fail)
  go_wp2
  go_returns
  exact ⟨y, m, d, HD.out, HDN.out, rfl, Below.next hBl.out (drewN_below _ _)⟩
end Go.Proofs.YtommhgmlblecnaaGreatDoor
namespace Go.Proofs.YtommhgmlblecnaaGreatDoor
open Go Go.RowKit

/-- A number with so many digits. -/
def dg : Nat → Nat → List UInt8
  | 0, _ => []
  | c + 1, x => dg c (x / 10) ++ [UInt8.ofNat (48 + x % 10)]
theorem dg_len : ∀ (c x : Nat), (dg c x).length = c
  | 0, _ => rfl
  | c + 1, x => by simp [dg, dg_len c]

set_option maxRecDepth 100000 in
set_option maxHeartbeats 800000 in
theorem appDigits_any : ∀ (c x : Nat) (k : Int) (B : Nat) (v : Value) (m L : List UInt8) (w : World), m ++ dg (c + 1) x = L → k = (c : Int) + 1 → c ≤ 10 → x ≤ 100000 → m.length ≤ 1000 → w.ownsRow B 5 1 v m.length (cells8 m) → B ≤ w.heap.size →
    Calls Tryz.prog 170 #[v, .int .i64 x, .int .i64 k] w fun e w' => ∃ g cap, e = .returned (.slice (some ⟨g, 0, none⟩) L.length cap) ∧
      w'.ownsRow B 5 1 (.slice (some ⟨g, 0, none⟩) L.length cap) L.length (cells8 L) ∧ Below B w w' ∧ w.heap.size ≤ w'.heap.size := by
  intro c
  induction c with
  | zero =>
    intro x k B v m L w hL hk hc hx hm ho hB
    have hk1 : k ≤ 1 := by omega
    have hcs : (#[Value.int .u8 (48 + (x : Int) % 10)] : Array Value).toList = cells8 [UInt8.ofNat (48 + x % 10)] := by
      have : (UInt8.ofNat (48 + x % 10)).toNat = 48 + x % 10 := u8_ofNat (by omega)
      simp [cells8, cb]; omega
    have hlen : m.length + 1 = L.length := by rw [← hL]; simp [dg]
    have HL := hid (show m ++ [UInt8.ofNat (48 + x % 10)] = L from hL)
    have HN := hid hlen
    have HC := hid hcs
    have HO := hid ho
    clear hcs ho hk hL hlen
    go_enter Tryz.func170, Tryz.ntmps170
    go_wp2_with (at_builtin; refine appG [UInt8.ofNat (48 + x % 10)] _ HC.out rfl _ _ rfl B m.length 1 1 v m rfl rfl rfl (by omega) HO.out (by omega) (Below.refl B w) hB ?_; intro g cap w1 ho1 hb1 hl1)
    go_ret
    rw [HL.out, HN.out] at ho1
    refine ⟨g, cap, ?_, ho1, hb1, by omega⟩
    rw [← HN.out]; rfl
  | succ c ih =>
    intro x k B v m L w hL hk hc hx hm ho hB
    have hk1 : 1 < k := by omega
    have hk2 : k ≤ 100 := by omega
    have hcs : (#[Value.int .u8 (48 + (x : Int) % 10)] : Array Value).toList = cells8 [UInt8.ofNat (48 + x % 10)] := by
      have : (UInt8.ofNat (48 + x % 10)).toNat = 48 + x % 10 := u8_ofNat (by omega)
      simp [cells8, cb]; omega
    have HC := hid hcs
    have hml : (m ++ dg (c + 1) (x / 10)).length = m.length + (c + 1) := by rw [List.length_append, dg_len]
    have hL1 : (m ++ dg (c + 1) (x / 10)).length ≤ 2000 := by omega
    have happ : (m ++ dg (c + 1) (x / 10)) ++ [UInt8.ofNat (48 + x % 10)] = L := by rw [← hL, List.append_assoc]; rfl
    have hlen : (m ++ dg (c + 1) (x / 10)).length + 1 = L.length := by rw [← happ]; simp; omega
    have HI := hid (ih (x / 10) (k - 1) B v m _ w rfl (by omega) (by omega) (by omega) hm ho hB)
    rw [show ((x / 10 : Nat) : Int) = (x : Int) / 10 by omega] at HI
    have HAP := hid happ
    have HML := hid hlen
    clear hcs ho hk ih hL hml happ hlen
    generalize m ++ dg (c + 1) (x / 10) = m1 at *
    go_enter Tryz.func170, Tryz.ntmps170
    go_wp2_with fail
    refine HI.out.mono ?_
    rintro e w1 ⟨g1, cap1, rfl, ho1, hb1, hl1⟩
    have HO := hid ho1
    have hB1 : B ≤ w1.heap.size := by omega
    clear ho1
    go_wp2_with (at_builtin; refine appG [UInt8.ofNat (48 + x % 10)] _ HC.out rfl _ _ rfl B m1.length 1 1 _ m1 rfl rfl rfl (by omega) HO.out (by omega) hb1 hB1 ?_; intro g cap w2 ho2 hb2 hl2)
    go_ret
    rw [HAP.out, HML.out] at ho2
    refine ⟨g, cap, ?_, ho2, hb2, by omega⟩
    rw [← HML.out]; rfl
end Go.Proofs.YtommhgmlblecnaaGreatDoor
namespace Go.Proofs.YtommhgmlblecnaaGreatDoor
open Go Go.RowKit

/-- A day's text. -/
def shL (y m d : Nat) : List UInt8 := dg 4 (1900 + y) ++ [45] ++ dg 2 (m + 1) ++ [45] ++ dg 2 d

theorem nil_owns (w : World) (B : Nat) : w.ownsRow B 5 1 (.slice none 0 0) 0 (cells8 []) := ⟨rfl, .inl ⟨rfl, rfl⟩⟩

set_option maxRecDepth 100000 in
set_option maxHeartbeats 800000 in
theorem show_yes (n : Nat) (hn : n ≤ 73048) (w : World) (ht : Tab w) :
    Calls Tryz.prog 131 #[.int .i64 n] w fun e w' => ∃ y m d : Nat, Dt y m d ∧ dn y m d = n ∧ e = .returned (.tuple #[.string ⟨(shL y m d).toArray⟩, .int .i64 0]) ∧ Below w.heap.size w w' := by
  go_enter Tryz.func131, Tryz.ntmps131
  go_wp2_with fail
  refine (parts_yes n hn _ ht).mono ?_
  rintro e w1 ⟨y, m, d, hd, hdn, rfl, hB1⟩
  have HD := hid hd
  have HDN := hid hdn
  have hd31 := hd.dle
  have hm := hd.2.1
  have hy := hd.1
  clear hd hdn ht
  have e19 : (1900 + (y : Int)) = ((1900 + y : Nat) : Int) := by omega
  have em1 : ((m : Int) + 1) = ((m + 1 : Nat) : Int) := by omega
  rw [e19, em1]
  have hs1 := hB1.size
  have hc45 : (#[Value.int .u8 45] : Array Value).toList = cells8 [45] := rfl
  have HC := hid hc45
  clear hc45 e19 em1
  generalize hYY : 1900 + y = YY at *
  generalize hMM : m + 1 = MM at *
  have hYb : YY ≤ 100000 := by omega
  have hMb : MM ≤ 100000 := by omega
  have HYM := hid (⟨hYY, hMM⟩ : 1900 + y = YY ∧ m + 1 = MM)
  clear hYY hMM
  go_wp2_with fail
  have l1 : (dg 4 YY).length = 4 := dg_len _ _
  generalize hL1 : dg 4 YY = L1 at *
  refine (appDigits_any 3 YY 4 w.heap.size (.slice none 0 0) [] L1 _ hL1 (by omega) (by omega) hYb (by simp) (by exact nil_owns _ _) hs1).mono ?_
  rintro e w2 ⟨g1, cap1, rfl, ho1, hb1, hl1⟩
  have HO1 := hid ho1
  have Hl1 := hid l1
  have hq1 : L1.length ≤ 100 := by omega
  clear l1
  have hb2 := hB1.trans hb1
  have hs2 : w.heap.size ≤ w2.heap.size := by omega
  clear ho1 hb1
  go_wp2_with (at_builtin; refine appG [45] _ HC.out rfl _ _ rfl w.heap.size L1.length 1 1 _ L1 rfl rfl rfl (by omega) HO1.out (by omega) hb2 hs2 ?_; intro g2 cap2 w3 ho2 hb3 hl2)
  have l2 : (L1 ++ [45]).length = L1.length + 1 := by simp
  rw [← l2] at ho2 ⊢
  have l2' : (L1 ++ [45]).length = 5 := by have := Hl1.out; omega
  have l3 : (dg 2 MM).length = 2 := dg_len _ _
  clear l2
  generalize hL2 : L1 ++ [45] = L2 at *
  have l3' : (L2 ++ dg 2 MM).length = 7 := by rw [List.length_append]; omega
  generalize hL3 : L2 ++ dg 2 MM = L3 at *
  refine (appDigits_any 1 MM 2 w.heap.size _ L2 L3 _ hL3 (by omega) (by omega) hMb (by omega) ho2 (by omega)).mono ?_
  rintro e w4 ⟨g3, cap3, rfl, ho3, hb4, hl3⟩
  have HO3 := hid ho3
  have Hl3 := hid l3'
  have hq3 : L3.length ≤ 100 := by omega
  clear l3' l2' l3
  have hb5 := hb3.trans hb4
  have hs4 : w.heap.size ≤ w4.heap.size := by omega
  clear ho3 hb4 ho2 hb3
  go_wp2_with (at_builtin; refine appG [45] _ HC.out rfl _ _ rfl w.heap.size L3.length 1 1 _ L3 rfl rfl rfl (by omega) HO3.out (by omega) hb5 hs4 ?_; intro g4 cap4 w5 ho4 hb6 hl4)
  have l4 : (L3 ++ [45]).length = L3.length + 1 := by simp
  rw [← l4] at ho4 ⊢
  have l4' : (L3 ++ [45]).length = 8 := by have := Hl3.out; omega
  have l5 : (dg 2 d).length = 2 := dg_len _ _
  clear l4
  generalize hL4 : L3 ++ [45] = L4 at *
  have l5' : (L4 ++ dg 2 d).length = 10 := by rw [List.length_append]; omega
  generalize hL5 : L4 ++ dg 2 d = L5 at *
  refine (appDigits_any 1 d 2 w.heap.size _ L4 L5 _ hL5 (by omega) (by omega) (by omega) (by omega) ho4 (by omega)).mono ?_
  rintro e w6 ⟨g5, cap5, rfl, ho5, hb7, hl5⟩
  have hcv := conv_sl (owns_sl ho5)
  clear l5 l5' l4'
  have hb8 := hb6.trans hb7
  have HL := hid (show shL y m d = L5 by unfold shL; rw [HYM.out.1, HYM.out.2, hL1, hL2, hL3, hL4, hL5])
  clear hL1 hL2 hL3 hL4 hL5 ho4 hb6 hb7
  go_wp2
  go_ret2
  refine ⟨y, m, d, HD.out, HDN.out, ?_, hb8⟩
  rw [HL.out]
  rfl
/-- What a few digits say. -/
def dgOk (l : List UInt8) : Bool := l.all fun c => decide (48 ≤ c.toNat ∧ c.toNat ≤ 57)
def dgV (l : List UInt8) : Nat := l.foldl (fun n c => n * 10 + (c.toNat - 48)) 0
theorem dgOk_take {l : List UInt8} (k : Nat) (h : k < l.length) : dgOk (l.take (k + 1)) = (dgOk (l.take k) && decide (48 ≤ (l.getD k 0).toNat ∧ (l.getD k 0).toNat ≤ 57)) := by
  unfold dgOk
  rw [List.take_add_one, List.all_append]
  simp [List.getD, h]
theorem dgV_take {l : List UInt8} (k : Nat) (h : k < l.length) : dgV (l.take (k + 1)) = dgV (l.take k) * 10 + ((l.getD k 0).toNat - 48) := by
  unfold dgV
  rw [List.take_add_one, List.foldl_append]
  simp [List.getD, h]
theorem dgV_lt : ∀ (l : List UInt8) (n : Nat), l.length ≤ n → dgOk l = true → dgV l < 10 ^ n := by
  intro l n hn ho
  have key : ∀ (l : List UInt8) (a : Nat), dgOk l = true → l.foldl (fun n c => n * 10 + (c.toNat - 48)) a < (a + 1) * 10 ^ l.length := by
    intro l
    induction l with
    | nil => intro a _; simp
    | cons c r ih =>
      intro a h
      unfold dgOk at h
      rw [List.all_cons, Bool.and_eq_true, decide_eq_true_eq] at h
      have h1 := ih (a * 10 + (c.toNat - 48)) h.2
      rw [List.foldl_cons]
      refine Nat.lt_of_lt_of_le h1 ?_
      rw [List.length_cons, Nat.pow_succ, Nat.mul_comm (10 ^ r.length) 10, ← Nat.mul_assoc]
      exact Nat.mul_le_mul_right _ (by omega)
  have h := key l 0 ho
  unfold dgV
  refine Nat.lt_of_lt_of_le h ?_
  rw [Nat.zero_add, Nat.one_mul]
  exact Nat.pow_le_pow_right (by omega) hn
theorem dgOk_all {l : List UInt8} (k : Nat) (h : k < l.length) (hn : decide (48 ≤ (l.getD k 0).toNat ∧ (l.getD k 0).toNat ≤ 57) = false) : dgOk l = false := by
  unfold dgOk
  rw [List.all_eq_false]
  refine ⟨l[k], List.getElem_mem h, ?_⟩
  simp [List.getD, h] at hn
  simpa using hn

set_option maxHeartbeats 800000 in
theorem digits_any (s : ByteArray) (hs : s.size ≤ 10) (w : World) :
    Calls Tryz.prog 188 #[.string s] w fun e w' => e = .returned (if dgOk s.data.toList then .tuple #[.int .i64 (dgV s.data.toList : Nat), .bool true] else .tuple #[.int .i64 0, .bool false]) ∧ w' = w := by
  have hsz : s.data.toList.length = s.size := by rw [Array.length_toList]; rfl
  generalize hR : (if dgOk s.data.toList then Value.tuple #[.int .i64 (dgV s.data.toList : Nat), .bool true] else .tuple #[.int .i64 0, .bool false]) = R
  have HR := hid hR
  have HZ := hid hsz
  clear hR hsz
  go_enter Tryz.func188, Tryz.ntmps188
  go_wp2_with fail
  go_loop [4, 8] (fun a b => ∃ k : Nat, k ≤ s.size ∧ b = .int .i64 k ∧ a = .int .i64 (dgV (s.data.toList.take k) : Nat) ∧ dgOk (s.data.toList.take k) = true) (fun _ b => s.size - (intOf b).toNat)
  case atStart => exact ⟨0, by omega, rfl, rfl, rfl⟩
  case round =>
    obtain ⟨k, hk, rfl, rfl, hok⟩ := hrel
    have hb := dgV_lt (s.data.toList.take k) 10 (by rw [List.length_take]; omega) hok
    have HK := hid hok
    clear hok
    by_cases hlt : k < s.size
    · have hc : s.data.toList.getD k 0 = s[k] := by
        have : k < s.data.toList.length := by rw [HZ.out]; exact hlt
        rw [List.getD, List.getElem?_eq_getElem this, Option.getD_some, Array.getElem_toList]; rfl
      have h1 := dgOk_take (l := s.data.toList) k (by rw [HZ.out]; exact hlt)
      have h2 := dgV_take (l := s.data.toList) k (by rw [HZ.out]; exact hlt)
      have h3 := dgOk_all (l := s.data.toList) k (by rw [HZ.out]; exact hlt)
      rw [hc] at h1 h2 h3
      have H1 := hid h1
      have H2 := hid h2
      have H3 := hid h3
      clear h1 h2 h3 hc
      go_wp2
      case roundEnd =>
        rename_i q0 q1
        refine ⟨⟨k + 1, by omega, rfl, ?_, ?_⟩, by simp [intOf]; omega⟩
        · have := H2.out
          congr 1; omega
        · rw [H1.out, HK.out, Bool.true_and, decide_eq_true_eq]; omega
      all_goals
        go_ret2
        refine ⟨?_, rfl⟩
        have hno := H3.out (by rw [decide_eq_false_iff_not]; omega)
        rw [← HR.out, if_neg (by rw [hno]; simp)]
        rfl
    · have : k = s.size := by omega
      subst this
      go_wp2
      go_ret2
      refine ⟨?_, rfl⟩
      have hok := HK.out
      have e : s.data.toList.take s.size = s.data.toList := by rw [← HZ.out]; exact List.take_length
      rw [e] at hok
      rw [← HR.out, if_pos hok, e]
      rfl
end Go.Proofs.YtommhgmlblecnaaGreatDoor
namespace Go.Proofs.YtommhgmlblecnaaGreatDoor
open Go Go.RowKit

set_option maxHeartbeats 400000 in
theorem rleap_any (y : Nat) (h : y ≤ 10000) (w : World) :
    Calls Tryz.prog 156 #[.int .i64 y] w fun e w' => e = .returned (.bool (decide (lpN y = 1))) ∧ w' = w := by
  by_cases h4 : y % 4 = 0
  · by_cases h100 : y % 100 = 0
    · by_cases h400 : y % 400 = 0
      · go_enter Tryz.func156, Tryz.ntmps156
        go_wp2
        go_ret
        refine ⟨ret_bool ?_, rfl⟩
        unfold lpN; rw [if_pos (by omega)]; simp; omega
      · go_enter Tryz.func156, Tryz.ntmps156
        go_wp2
        go_ret
        refine ⟨ret_bool ?_, rfl⟩
        unfold lpN; rw [if_neg (by omega)]; simp; omega
    · go_enter Tryz.func156, Tryz.ntmps156
      go_wp2
      go_ret
      refine ⟨ret_bool ?_, rfl⟩
      unfold lpN; rw [if_pos (by omega)]; rfl
  · go_enter Tryz.func156, Tryz.ntmps156
    go_wp2
    go_ret
    refine ⟨ret_bool ?_, rfl⟩
    unfold lpN; rw [if_neg (by omega)]; rfl

set_option maxHeartbeats 800000 in
theorem rlength_any (y m : Nat) (h : y ≤ 5000) (hm : m < 12) (w : World) :
    Calls Tryz.prog 155 #[.int .i64 y, .int .i64 ((m : Int) + 1)] w fun e w' => e = .returned (.int .i64 (ml y m : Nat)) ∧ Below w.heap.size w w' := by
  have HL := hid (rleap_any y (by omega))
  have hl := lpN_le y
  by_cases hm1 : m = 1
  · subst hm1
    by_cases h1 : lpN y = 1
    · rw [decide_eq_true h1] at HL
      go_enter Tryz.func155, Tryz.ntmps155
      go_wp2_with fail
      refine (HL.out _).mono ?_
      rintro e w1 ⟨rfl, rfl⟩
      go_wp2
      go_ret
      refine ⟨ret_intD ?_, ?_⟩
      · unfold ml; simp [h1]
      · exact (Below.refl _ _).alloc (Nat.le_refl _) _
    · rw [decide_eq_false h1] at HL
      go_enter Tryz.func155, Tryz.ntmps155
      go_wp2_with fail
      refine (HL.out _).mono ?_
      rintro e w1 ⟨rfl, rfl⟩
      go_wp2
      go_ret
      refine ⟨ret_intD ?_, (Below.refl _ _).alloc (Nat.le_refl _) _⟩
      have h0 : lpN y = 0 := by omega
      unfold ml; simp [h0]
  · go_enter Tryz.func155, Tryz.ntmps155
    go_wp2_with fail
    refine (HL.out _).mono ?_
    rintro e w1 ⟨rfl, rfl⟩
    go_wp2
    go_ret
    have hcase : m = 0 ∨ m = 2 ∨ m = 3 ∨ m = 4 ∨ m = 5 ∨ m = 6 ∨ m = 7 ∨ m = 8 ∨ m = 9 ∨ m = 10 ∨ m = 11 := by omega
    rcases hcase with rfl | rfl | rfl | rfl | rfl | rfl | rfl | rfl | rfl | rfl | rfl <;> exact ⟨rfl, (Below.refl _ _).alloc (Nat.le_refl _) _⟩

theorem ofV_yes {y m d : Nat} (h : Dt y m d) : ofV (1900 + (y : Int)) ((m : Int) + 1) (d : Int) = .tuple #[.int .i64 (dn y m d : Nat), .int .i64 0] := by
  have e1 : (1900 + (y : Int) - 1900).toNat = y := by omega
  have e2 : ((m : Int) + 1 - 1).toNat = m := by omega
  have e3 : ((d : Int)).toNat = d := by omega
  unfold ofV
  rw [if_pos ⟨by omega, by omega, by omega, by rw [e1, e2, e3]; exact h⟩, e1, e2, e3]
theorem ofV_no {y m d : Int} (h : ¬ Valid y m d) : ofV y m d = .tuple #[.int .i64 0, .int .i64 30] := by unfold ofV; rw [if_neg h]
theorem valid_iff {y m d : Nat} : Valid (1900 + (y : Int)) ((m : Int) + 1) (d : Int) ↔ Dt y m d := by
  unfold Valid
  rw [show (1900 + (y : Int) - 1900).toNat = y by omega, show ((m : Int) + 1 - 1).toNat = m by omega, show ((d : Int)).toNat = d by omega]
  constructor
  · exact fun h => h.2.2.2
  · exact fun h => ⟨by omega, by omega, by omega, h⟩

set_option maxRecDepth 100000 in
set_option maxHeartbeats 800000 in
theorem rof_any (y m d : Int) (w : World) :
    Calls Tryz.prog 114 #[.int .i64 y, .int .i64 m, .int .i64 d] w fun e w' => e = .returned (ofV y m d) ∧ Below w.heap.size w w' := by
  by_cases hc : 1900 ≤ y ∧ y ≤ 2099 ∧ 1 ≤ m ∧ m ≤ 12 ∧ 1 ≤ d
  · obtain ⟨h0, h1, h2, h3, h4⟩ := hc
    obtain ⟨y', hy⟩ := Int.eq_ofNat_of_zero_le (a := y - 1900) (by omega)
    obtain ⟨m', hm'⟩ := Int.eq_ofNat_of_zero_le (a := m - 1) (by omega)
    obtain ⟨d', rfl⟩ := Int.eq_ofNat_of_zero_le (a := d) (by omega)
    obtain rfl : y = 1900 + (y' : Int) := by omega
    obtain rfl : m = (m' : Int) + 1 := by omega
    have hml := ml_le (1900 + y') (m := m') (by omega)
    have HL := hid (rlength_any (1900 + y') m' (by omega) (by omega))
    rw [show ((1900 + y' : Nat) : Int) = 1900 + (y' : Int) by omega] at HL
    clear hy hm'
    have hy2 : y' < 200 := by omega
    have hm2 : m' < 12 := by omega
    have q1 : ¬ (1900 + (y' : Int) < 1900) := by omega
    have q2 : ¬ ((2099 : Int) < 1900 + (y' : Int)) := by omega
    have q3 : ¬ ((m' : Int) + 1 < 1) := by omega
    have q4 : ¬ ((12 : Int) < (m' : Int) + 1) := by omega
    have q5 : ¬ ((d' : Int) < 1) := by omega
    have hof : ofV (1900 + (y' : Int)) ((m' : Int) + 1) (d' : Int) = if d' ≤ ml (1900 + y') m' then .tuple #[.int .i64 (dn y' m' d' : Nat), .int .i64 0] else .tuple #[.int .i64 0, .int .i64 30] := by
      by_cases hd : d' ≤ ml (1900 + y') m'
      · rw [if_pos hd, ofV_yes ⟨hy2, hm2, by omega, hd⟩]
      · rw [if_neg hd, ofV_no (fun h => hd (valid_iff.1 h).2.2.2)]
    rw [hof]
    have HLE := hid (fun (k : Nat) (hk : k < 200) => rleap_any (1900 + k) (by omega))
    have HLN := hid (fun (k : Nat) (hk : k < 12) => rlength_any (1900 + y') k (by omega) hk)
    simp only [show ∀ k : Nat, ((1900 + k : Nat) : Int) = 1900 + (k : Int) from fun k => by omega] at HLE HLN
    clear hof h0 h1 h2 h3
    by_cases hd : d' ≤ ml (1900 + y') m'
    · rw [if_pos hd]
      have hdf : ¬ ml (1900 + y') m' < d' := by omega
      go_enter Tryz.func114, Tryz.ntmps114
      go_wp2_with fail
      refine (HL.out _).mono ?_
      rintro e w1 ⟨rfl, hB1⟩
      go_wp2_with fail
      go_loop [8, 9] (fun a b => ∃ k : Nat, k ≤ y' ∧ a = .int .i64 (yd k : Nat) ∧ b = .int .i64 (1900 + (k : Int))) (fun _ b => 5000 - (intOf b).toNat)
      case atStart => exact ⟨0, by omega, rfl, rfl⟩
      case round =>
        obtain ⟨k, hk, rfl, rfl⟩ := hrel
        have hyk := yd_le (n := k) (by omega)
        have hst := yd_step k
        have hlk := lpN_le (1900 + k)
        unfold yl at hst
        by_cases hlt : k < y'
        · by_cases hlp : lpN (1900 + k) = 1
          · have HE := hid (HLE.out k (by omega))
            rw [decide_eq_true hlp] at HE
            go_wp2_with fail
            refine (HE.out _).mono ?_
            rintro e w1 ⟨rfl, rfl⟩
            go_wp2
            go_round
            case rel => exact ⟨k + 1, by omega, by congr 1; omega, by congr 1⟩
            case measure => simp [intOf]; omega
          · have HE := hid (HLE.out k (by omega))
            rw [decide_eq_false hlp] at HE
            go_wp2_with fail
            refine (HE.out _).mono ?_
            rintro e w1 ⟨rfl, rfl⟩
            go_wp2
            go_round
            case rel => exact ⟨k + 1, by omega, by congr 1; omega, by congr 1⟩
            case measure => simp [intOf]; omega
        · have : k = y' := by omega
          subst this
          clear hst hlk
          go_wp2_with fail
          go_loopw [8, 11] (fun a b wr => ∃ j : Nat, j ≤ m' ∧ a = .int .i64 ((yd k : Int) + (md (1900 + k) j : Int)) ∧ b = .int .i64 ((j : Int) + 1) ∧ Below w.heap.size w wr) (fun _ b _ => 5000 - (intOf b).toNat)
          case atStart => exact ⟨0, by omega, by simp [md], rfl, hB1⟩
          case round =>
            obtain ⟨j, hj, rfl, rfl, hB⟩ := hrel
            have hmd := md_le (1900 + k) (m := j) (by omega)
            have hyl := yl_le (1900 + k)
            clear hB1
            by_cases hlt2 : j < m'
            · have hmj := ml_le (1900 + k) (m := j) (by omega)
              have hms := md_step (1900 + k) j
              go_wp2_with fail
              refine (HLN.out j (by omega) _).mono ?_
              rintro e w2 ⟨rfl, hB2⟩
              have hB2 := Below.next hB hB2
              go_wp2
              go_roundw
              case rel => exact ⟨j + 1, by omega, by congr 1; omega, by congr 1, hB2⟩
              case measure => simp [intOf]; omega
            · have : j = m' := by omega
              subst this
              go_wp2
              go_ret2
              refine ⟨?_, hB⟩
              have e : ((dn k j d' : Nat) : Int) = (yd k : Int) + (md (1900 + k) j : Int) + (d' : Int) - 1 := by unfold dn; omega
              rw [e]
              rfl
    · rw [if_neg hd]
      go_enter Tryz.func114, Tryz.ntmps114
      go_wp2_with fail
      refine (HL.out _).mono ?_
      rintro e w1 ⟨rfl, hB1⟩
      go_wp2
      go_ret2
      exact ⟨rfl, hB1⟩
  · have hof : ofV y m d = .tuple #[.int .i64 0, .int .i64 30] := by
      refine ofV_no (fun h => hc ?_)
      obtain ⟨h0, h1, h2, h3, h4, h5, _⟩ := h
      omega
    rw [hof]
    clear hof
    by_cases c1 : y < 1900
    · go_enter Tryz.func114, Tryz.ntmps114
      go_wp2
      go_ret2
      exact ⟨rfl, Below.refl _ _⟩
    · by_cases c2 : 2099 < y
      · go_enter Tryz.func114, Tryz.ntmps114
        go_wp2
        go_ret2
        exact ⟨rfl, Below.refl _ _⟩
      · by_cases c3 : m < 1
        · go_enter Tryz.func114, Tryz.ntmps114
          go_wp2
          go_ret2
          exact ⟨rfl, Below.refl _ _⟩
        · by_cases c4 : 12 < m
          · go_enter Tryz.func114, Tryz.ntmps114
            go_wp2
            go_ret2
            exact ⟨rfl, Below.refl _ _⟩
          · have c5 : d < 1 := by omega
            go_enter Tryz.func114, Tryz.ntmps114
            go_wp2
            go_ret2
            exact ⟨rfl, Below.refl _ _⟩


end Go.Proofs.YtommhgmlblecnaaGreatDoor
namespace Go.Proofs.YtommhgmlblecnaaGreatDoor
open Go Go.RowKit

/-- What a text says. -/
def parseV (l : List UInt8) : Value :=
  if l.length = 10 ∧ l.getD 4 0 = 45 ∧ l.getD 7 0 = 45 ∧ dgOk (l.take 4) = true ∧ dgOk ((l.drop 5).take 2) = true ∧ dgOk (l.drop 8) = true then
    ofV (dgV (l.take 4) : Nat) (dgV ((l.drop 5).take 2) : Nat) (dgV (l.drop 8) : Nat) else .tuple #[.int .i64 0, .int .i64 30]

theorem ext_listD (s : ByteArray) (a b : Nat) : (s.extract a b).data.toList = (s.data.toList.drop a).take (b - a) := by
  rw [ByteArray.data_extract, Array.toList_extract, List.extract_eq_take_drop]
theorem at_byte (s : ByteArray) (k : Nat) (h : k < s.size) : s.data.toList.getD k 0 = s[k] := by
  have : k < s.data.toList.length := by rw [Array.length_toList]; exact h
  rw [List.getD, List.getElem?_eq_getElem this, Option.getD_some, Array.getElem_toList]; rfl
/-- digits, with its answer taken apart. -/
theorem digits_two (s : ByteArray) (hs : s.size ≤ 10) : ∃ (n : Nat) (b : Bool), b = dgOk s.data.toList ∧ (b = true → n = dgV s.data.toList) ∧ ∀ w : World,
    Calls Tryz.prog 188 #[.string s] w fun e w' => e = .returned (.tuple #[.int .i64 n, .bool b]) ∧ w' = w := by
  by_cases h : dgOk s.data.toList = true
  · refine ⟨dgV s.data.toList, true, h.symm, fun _ => rfl, fun w => ?_⟩
    have := digits_any s hs w
    rw [if_pos h] at this
    exact this
  · refine ⟨0, false, by simpa using h, fun h => (by cases h), fun w => ?_⟩
    have := digits_any s hs w
    rw [if_neg h] at this
    exact this

set_option maxRecDepth 100000 in
set_option maxHeartbeats 800000 in
theorem dparse_any (s : ByteArray) (w : World) (ht : Tab w) :
    Calls Tryz.prog 172 #[.string s] w fun e w' => e = .returned (parseV s.data.toList) ∧ Below w.heap.size w w' := by
  have hsz : s.data.toList.length = s.size := by rw [Array.length_toList]; rfl
  have HZ := hid hsz
  have HT := hid ht
  clear hsz ht
  by_cases h10 : s.size = 10
  · have b4 := at_byte s 4 (by omega)
    have b7 := at_byte s 7 (by omega)
    by_cases h4 : (s[4].toNat : Int) = 45
    · by_cases h7 : (s[7].toNat : Int) = 45
      · have x1 := ext_listD s 0 4
        have x2 := ext_listD s 5 7
        have x3 := ext_listD s 8 10
        obtain ⟨n1, o1, ho1, hn1, D1⟩ := digits_two (s.extract 0 4) (by simp; omega)
        obtain ⟨n2, o2, ho2, hn2, D2⟩ := digits_two (s.extract 5 7) (by simp; omega)
        obtain ⟨n3, o3, ho3, hn3, D3⟩ := digits_two (s.extract 8 10) (by simp; omega)
        have e3 : (s.data.toList.drop 8).take (10 - 8) = s.data.toList.drop 8 := List.take_of_length_le (by rw [List.length_drop, HZ.out]; omega)
        rw [x1, List.drop_zero] at ho1 hn1
        rw [x2] at ho2 hn2
        rw [x3, e3] at ho3 hn3
        have c4 : s.data.toList.getD 4 0 = 45 := by rw [b4]; exact u8_ext (by have : (45 : UInt8).toNat = 45 := rfl; omega)
        have c7 : s.data.toList.getD 7 0 = 45 := by rw [b7]; exact u8_ext (by have : (45 : UInt8).toNat = 45 := rfl; omega)
        have hp : parseV s.data.toList = if o1 && o2 && o3 then ofV n1 n2 n3 else .tuple #[.int .i64 0, .int .i64 30] := by
          unfold parseV
          by_cases ho : (o1 && o2 && o3) = true
          · rw [if_pos ho]
            simp only [Bool.and_eq_true] at ho
            rw [if_pos ⟨by rw [HZ.out]; exact h10, c4, c7, by rw [← ho.1.1]; exact ho1.symm, by rw [← ho.1.2]; exact ho2.symm, by rw [← ho.2]; exact ho3.symm⟩]
            rw [← hn1 ho.1.1, ← hn2 ho.1.2, ← hn3 ho.2]
          · rw [if_neg ho, if_neg]
            rintro ⟨_, _, _, g1, g2, g3⟩
            apply ho
            rw [ho1, ho2, ho3]
            simp only [Bool.and_eq_true]
            exact ⟨⟨g1, g2⟩, g3⟩
        rw [hp]
        have HD1 := hid D1
        have HD2 := hid D2
        have HD3 := hid D3
        have n2b : n2 ≤ 9223372036854775807 ∨ o2 = false := by
          cases o2
          · exact .inr rfl
          · left
            rw [hn2 rfl]
            have := dgV_lt _ 2 (by rw [List.length_take]; omega) ho2.symm
            omega
        clear b4 b7 x1 x2 x3 D1 D2 D3 e3 c4 c7 hp ho1 ho2 ho3 hn1 hn2 hn3
        go_enter Tryz.func172, Tryz.ntmps172
        go_wp2_with fail
        refine (HD1.out _).mono ?_
        rintro e w1 ⟨rfl, rfl⟩
        go_wp2_with fail
        refine (HD2.out _).mono ?_
        rintro e w1 ⟨rfl, rfl⟩
        go_wp2_with fail
        refine (HD3.out _).mono ?_
        rintro e w1 ⟨rfl, rfl⟩
        cases o1
        · go_wp2
          go_ret2
          exact ⟨rfl, Below.refl _ _⟩
        · cases o2
          · go_wp2
            go_ret2
            exact ⟨rfl, Below.refl _ _⟩
          · cases o3
            · go_wp2
              go_ret2
              exact ⟨rfl, Below.refl _ _⟩
            · have hn2b : (n2 : Int) ≤ 9223372036854775807 := by
                rcases n2b with h | h
                · omega
                · cases h
              have hofp : ∃ x y, ofV n1 n2 n3 = .tuple #[.int .i64 x, .int .i64 y] := by
                unfold ofV
                split
                · exact ⟨_, _, rfl⟩
                · exact ⟨_, _, rfl⟩
              obtain ⟨X, Y, hXY⟩ := hofp
              have HO := hid (of_any n1 n2 n3 (by omega) w1 HT.out)
              rw [hXY] at HO
              have HE := hid hXY
              clear hXY n2b
              go_wp2_with fail
              refine HO.out.mono ?_
              rintro e w2 ⟨rfl, hB⟩
              go_wp2
              go_ret2
              refine ⟨?_, hB⟩
              rw [HE.out]
              rfl
      · go_enter Tryz.func172, Tryz.ntmps172
        go_wp2
        go_ret2
        refine ⟨?_, Below.refl _ _⟩
        unfold parseV
        rw [if_neg (by rintro ⟨_, _, h, _⟩; rw [b7] at h; apply h7; rw [h]; rfl)]
        rfl
    · go_enter Tryz.func172, Tryz.ntmps172
      go_wp2
      go_ret2
      refine ⟨?_, Below.refl _ _⟩
      unfold parseV
      rw [if_neg (by rintro ⟨_, h, _⟩; rw [b4] at h; apply h4; rw [h]; rfl)]
      rfl
  · go_enter Tryz.func172, Tryz.ntmps172
    go_wp2
    go_ret2
    refine ⟨?_, Below.refl _ _⟩
    unfold parseV
    rw [if_neg (by rw [HZ.out]; exact fun h => h10 h.1)]
    rfl
end Go.Proofs.YtommhgmlblecnaaGreatDoor
