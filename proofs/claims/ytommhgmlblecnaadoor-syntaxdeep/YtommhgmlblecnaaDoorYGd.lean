/- texts put together: Plain Base CutOne ParsePlain ParseA ParseB Parse DMath DApp DBase DLoops DDate DFuncs DText DShow DRef YDParse -/
import Derived.WalkKit
import Derived.Test.YtommhgmlblecnaaDoorChecked
import Derived.WalkSpells
import Derived.WalkLawsBesides
import Derived.Test.YtommhgmlblecnaaDoorShelf
import Derived.Lib.CutLaws
import Derived.Lib.IndexBytes
import Derived.Deep.QuietTactic
import Derived.BigQuiet
import Derived.Lib.Strings
import Derived.Lib.IndexMore
import Derived.Deep.RegionWith
import Derived.WalkSmall
import Derived.Test.YtommhgmlblecnaaDoorYGa
import Derived.LoopTactic
import Derived.Below
import Derived.Handy
namespace Go.Proofs.YtommhgmlblecnaaDoor
open Go Go.RowKit

end Go.Proofs.YtommhgmlblecnaaDoor
namespace Go.Proofs.YtommhgmlblecnaaDoor
open Go.RowKit

end Go.Proofs.YtommhgmlblecnaaDoor
namespace Go.Proofs.YtommhgmlblecnaaDoor
open Go.RowKit

set_option maxHeartbeats 800000 in
theorem slite_cut (s : ByteArray) (w : World) (hs : s.size ≤ maxLen) :
    Calls Tryd.prog 77 #[.string s, .string ⟨#[46]⟩] w fun e w' => e = .returned (.tuple #[.string ⟨(Lib.cut s.data.toList [46]).1.toArray⟩, .string ⟨(Lib.cut s.data.toList [46]).2.1.toArray⟩, .bool (Lib.cut s.data.toList [46]).2.2]) ∧ ∃ n, w' = w.drewN n := by
  unfold maxLen at hs
  have HI : Hid (∀ w : World, Calls Tryd.prog 85 #[.string s, .string ⟨#[46]⟩] w fun e w' => e = .returned (.int .i64 (Lib.index s.data.toList [46])) ∧ w' = w) := fun w => by
    have := Tryd.stringslite_Index_one s 46 w
    rw [← Lib.index_one] at this; exact this
  rcases Lib.indexB_cases s ⟨#[46]⟩ with hix | ⟨i, hix, hroom⟩
  · obtain ⟨e1, e2, e3⟩ := Lib.cutB_miss s ⟨#[46]⟩ hix
    have e1' : (⟨(Lib.cut s.data.toList [46]).1.toArray⟩ : ByteArray) = s := e1
    have e2' : (⟨(Lib.cut s.data.toList [46]).2.1.toArray⟩ : ByteArray) = _ := e2
    have e3' : (Lib.cut s.data.toList [46]).2.2 = _ := e3
    rw [e1', e2', e3']
    have hix' : Lib.index s.data.toList [46] = -1 := hix
    rw [hix'] at HI
    clear hix hix' e1 e2 e3 e1' e2' e3'
    go_enter Tryd.func77, Tryd.ntmps77
    go_wp2_with (go_at_call 85; refine (HI.out _).mono ?_; rintro e w ⟨rfl, rfl⟩)
    go_ret3
    exact ⟨rfl, 0, rfl⟩
  · obtain ⟨e1, e2, e3⟩ := Lib.cutB_hit s ⟨#[46]⟩ i hix
    have e1' : (⟨(Lib.cut s.data.toList [46]).1.toArray⟩ : ByteArray) = _ := e1
    have e2' : (⟨(Lib.cut s.data.toList [46]).2.1.toArray⟩ : ByteArray) = _ := e2
    have e3' : (Lib.cut s.data.toList [46]).2.2 = _ := e3
    rw [e1', e2', e3']
    have hix' : Lib.index s.data.toList [46] = (i : Int) := hix
    rw [hix'] at HI
    have hr : i + 1 ≤ s.size := hroom
    have c1 : (0 : Int) ≤ (i : Int) := by omega
    have c2 : (i : Int) ≤ (s.size : Int) := by omega
    have c3 : (0 : Int) ≤ (i : Int) + 1 := by omega
    have c4 : (i : Int) + 1 ≤ (s.size : Int) := by omega
    clear hix hix' e1 e2 e3 e1' e2' e3' hroom
    go_enter Tryd.func77, Tryd.ntmps77
    go_wp2_with (go_at_call 85; refine (HI.out _).mono ?_; rintro e w ⟨rfl, rfl⟩)
    go_quiet (fail)
    go_wp2
    go_ret3
    exact ⟨rfl, nq, rfl⟩

set_option maxHeartbeats 400000 in
theorem cut_any (s : ByteArray) (w : World) (hs : s.size ≤ maxLen) :
    Calls Tryd.prog 68 #[.string s, .string ⟨#[46]⟩] w fun e w' => e = .returned (.tuple #[.string ⟨(Lib.cut s.data.toList [46]).1.toArray⟩, .string ⟨(Lib.cut s.data.toList [46]).2.1.toArray⟩, .bool (Lib.cut s.data.toList [46]).2.2]) ∧ ∃ n, w' = w.drewN n := by
  have HI := slite_cut s w hs
  generalize (⟨(Lib.cut s.data.toList [46]).1.toArray⟩ : ByteArray) = B at *
  generalize (⟨(Lib.cut s.data.toList [46]).2.1.toArray⟩ : ByteArray) = A at *
  generalize (Lib.cut s.data.toList [46]).2.2 = f at *
  have HH : Hid (Calls Tryd.prog 77 #[.string s, .string ⟨#[46]⟩] w fun e w' => e = .returned (.tuple #[.string B, .string A, .bool f]) ∧ ∃ n, w' = w.drewN n) := HI
  clear HI hs
  go_enter Tryd.func68, Tryd.ntmps68
  go_wp2_with fail
  refine HH.out.mono ?_
  rintro e w2 ⟨rfl, n, rfl⟩
  go_wp2
  go_ret3
  exact ⟨rfl, n, rfl⟩
end Go.Proofs.YtommhgmlblecnaaDoor
namespace Go.Proofs.YtommhgmlblecnaaDoor

def isD (c : UInt8) : Bool := decide (48 ≤ c.toNat) && decide (c.toNat ≤ 57)
def isDigL (l : List UInt8) (most : Nat) : Bool := decide (1 ≤ l.length) && decide (l.length ≤ most) && l.all isD
def isWhL (l : List UInt8) : Bool := isDigL l 10 && (decide (l[0]?.getD 0 ≠ 48) || decide (l.length = 1))
/-- What a digit stands for. -/
def dv (c : UInt8) : Nat := c.toNat - 48
/-- The number of digits, behind n. -/
def valW (n : Nat) (l : List UInt8) : Nat := l.foldl (fun n c => n * 10 + dv c) n
/-- Six places behind the point, of which those that aren't written are noughts. -/
def frac (d : List UInt8) (n : Nat) : Nat → Nat
  | 0 => n
  | k + 1 => frac d n k * 10 + dv (d[k]?.getD 48)
def milL (whole behind : List UInt8) : Nat := frac behind (valW 0 whole) 6

theorem isD_iff (c : UInt8) : isD c = true ↔ 48 ≤ c.toNat ∧ c.toNat ≤ 57 := by unfold isD; simp
theorem dv_le {c : UInt8} (h : isD c = true) : dv c ≤ 9 := by unfold dv; rw [isD_iff] at h; omega

theorem valW_snoc (n : Nat) (l : List UInt8) (c : UInt8) : valW n (l ++ [c]) = valW n l * 10 + dv c := by simp [valW]

theorem valW_lt : ∀ (l : List UInt8) (n : Nat), l.all isD = true → valW n l < (n + 1) * 10 ^ l.length
  | [], n, _ => by simp [valW]
  | c :: l, n, h => by
    simp only [List.all_cons, Bool.and_eq_true] at h
    have := valW_lt l (n * 10 + dv c) h.2
    have hd := dv_le h.1
    show valW (n * 10 + dv c) l < (n + 1) * 10 ^ (l.length + 1)
    rw [Nat.pow_succ, Nat.mul_comm (10 ^ l.length), ← Nat.mul_assoc]
    refine Nat.lt_of_lt_of_le this (Nat.mul_le_mul_right _ (by omega))

theorem take_all {l : List UInt8} (h : l.all isD = true) (k : Nat) : (l.take k).all isD = true := by
  rw [List.all_eq_true] at *
  intro x hx
  exact h x (List.mem_of_mem_take hx)

theorem valW_take_lt {l : List UInt8} (h : l.all isD = true) (hl : l.length ≤ 10) (k : Nat) : valW 0 (l.take k) < 10000000000 := by
  have h1 := valW_lt (l.take k) 0 (take_all h k)
  have h2 : (l.take k).length ≤ 10 := by simp; omega
  have h3 : 10 ^ (l.take k).length ≤ 10 ^ 10 := Nat.pow_le_pow_right (by omega) h2
  simp only [Nat.zero_add, Nat.one_mul] at h1
  omega

theorem dv_getD {d : List UInt8} (h : d.all isD = true) (k : Nat) : dv (d[k]?.getD 48) ≤ 9 := by
  rcases Nat.lt_or_ge k d.length with hk | hk
  · rw [List.getElem?_eq_getElem hk]
    exact dv_le (List.all_eq_true.1 h _ (List.getElem_mem hk))
  · rw [List.getElem?_eq_none hk]; simp [dv]

theorem frac_lt {d : List UInt8} (h : d.all isD = true) {n : Nat} (hn : n < 10000000000) : ∀ k, frac d n k < 10000000000 * 10 ^ k
  | 0 => by simpa [frac] using hn
  | k + 1 => by
    have := frac_lt h hn k
    have hd := dv_getD h k
    simp only [frac]
    rw [Nat.pow_succ, ← Nat.mul_assoc]
    omega
theorem frac_lt6 {d : List UInt8} (h : d.all isD = true) {n : Nat} (hn : n < 10000000000) (k : Nat) (hk : k ≤ 6) : frac d n k < 10000000000000000 := by
  have h1 := frac_lt h hn k
  have h2 : 10 ^ k ≤ 10 ^ 6 := Nat.pow_le_pow_right (by omega) hk
  omega

/-- What is read: with the parts of the text under names. -/
def coreR (iw f id bl : Bool) (n : Nat) : Int × Bool :=
  if iw && (!f || id) then (if decide (1000000000000000 < n) || (bl && decide (n = 0)) then (0, false) else (if bl then -(n : Int) else (n : Int), true)) else (0, false)
def parseT (bl : Bool) (c : List UInt8 × List UInt8 × Bool) : Int × Bool := coreR (isWhL c.1) c.2.2 (isDigL c.2.1 6) bl (milL c.1 c.2.1)
def parseL (l : List UInt8) : Int × Bool := parseT (Lib.hasPrefix l [45]) (Lib.cut (Lib.trimPrefix l [45]) [46])

theorem cut_lens (l sep : List UInt8) : (Lib.cut l sep).1.length ≤ l.length ∧ (Lib.cut l sep).2.1.length ≤ l.length := by
  unfold Lib.cut; split <;> simp <;> omega
theorem cut_none {l sep : List UInt8} (h : (Lib.cut l sep).2.2 = false) : (Lib.cut l sep).2.1 = [] := by
  unfold Lib.cut at *; split <;> simp_all
theorem isDigL_all {l : List UInt8} {m : Nat} (h : isDigL l m = true) : l.all isD = true ∧ 1 ≤ l.length ∧ l.length ≤ m := by
  unfold isDigL at h; simp only [Bool.and_eq_true, decide_eq_true_eq] at h; exact ⟨h.2, h.1.1, h.1.2⟩
theorem isWhL_all {l : List UInt8} (h : isWhL l = true) : l.all isD = true ∧ 1 ≤ l.length ∧ l.length ≤ 10 := by
  unfold isWhL at h; simp only [Bool.and_eq_true] at h; exact isDigL_all h.1
theorem milL_lt {b a : List UInt8} (hb : isWhL b = true) (ha : a.all isD = true) : milL b a < 10000000000000000 := by
  obtain ⟨h1, _, h3⟩ := isWhL_all hb
  have := valW_take_lt h1 h3 b.length
  rw [List.take_length] at this
  exact frac_lt6 ha this 6 (Nat.le_refl _)
end Go.Proofs.YtommhgmlblecnaaDoor
namespace Go.Proofs.YtommhgmlblecnaaDoor
open Go.RowKit

set_option maxHeartbeats 400000 in
theorem digit_any (c : Int) (w : World) (h0 : 48 ≤ c) (h1 : c ≤ 57) :
    Calls Tryd.prog 78 #[.int .u8 c] w fun e w' => e = .returned (.int .i64 (c - 48)) ∧ w' = w := by
  go_enter Tryd.func78, Tryd.ntmps78
  go_wp2
  go_ret
  exact ⟨rfl, rfl⟩

theorem all_take_succ (l : List UInt8) (k : Nat) (h : k < l.length) : (l.take (k + 1)).all isD = ((l.take k).all isD && isD l[k]) := by
  rw [List.take_succ_eq_append_getElem h, List.all_append]; simp only [List.all_cons, List.all_nil, Bool.and_true]

set_option maxHeartbeats 800000 in
theorem isDigits_any (s : ByteArray) (most : Nat) (w : World) (hs : s.size ≤ maxLen) :
    Calls Tryd.prog 70 #[.string s, .int .i64 most] w fun e w' => e = .returned (.bool (isDigL s.data.toList most)) ∧ w' = w := by
  unfold maxLen at hs
  have hsz : s.data.toList.length = s.size := by rw [Array.length_toList]; rfl
  by_cases h1 : s.size < 1
  · have HE : Hid (isDigL s.data.toList most = false) := by show isDigL _ _ = false; unfold isDigL; rw [hsz]; simp [show ¬ 1 ≤ s.size by omega]
    have d1 : decide ((s.size : Int) < 1) = true := decide_eq_true (by omega)
    clear hsz
    go_enter Tryd.func70, Tryd.ntmps70
    go_wp2
    go_ret
    exact ⟨by rw [HE.out]; rfl, rfl⟩
  · have d1 : decide ((s.size : Int) < 1) = false := decide_eq_false (by omega)
    by_cases h2 : most < s.size
    · have HE : Hid (isDigL s.data.toList most = false) := by show isDigL _ _ = false; unfold isDigL; rw [hsz]; simp [show ¬ s.size ≤ most by omega]
      clear hsz
      go_enter Tryd.func70, Tryd.ntmps70
      go_wp2
      go_ret
      exact ⟨by rw [HE.out]; rfl, rfl⟩
    · have HE : Hid (isDigL s.data.toList most = s.data.toList.all isD) := by show isDigL _ _ = _; unfold isDigL; rw [hsz]; simp [show s.size ≤ most by omega, show 1 ≤ s.size by omega]
      have HSZ : Hid (s.data.toList.length = s.size) := hsz
      clear hsz
      go_enter Tryd.func70, Tryd.ntmps70
      go_wp2
      go_loop [17] (fun i => ∃ k : Nat, k ≤ s.size ∧ i = .int .i64 k ∧ (s.data.toList.take k).all isD = true) (fun i => s.size - (intOf i).toNat)
      case atStart => exact ⟨0, Nat.zero_le _, rfl, by simp⟩
      case round =>
        obtain ⟨k, hk, rfl, hall⟩ := hrel
        have HA : Hid ((s.data.toList.take k).all isD = true) := hall
        clear hall d1 h1 h2
        by_cases hlt : k < s.size
        · have hb : (s[k].toNat : Int) < 256 := by have := s[k].toNat_lt; omega
          have HS : Hid ((s.data.toList.take (k + 1)).all isD = ((s.data.toList.take k).all isD && isD s[k])) := all_take_succ _ _ (by rw [HSZ.out]; exact hlt)
          by_cases c1 : s[k].toNat < 48
          · have HF : Hid (s.data.toList.all isD = false) := by
              show s.data.toList.all isD = false
              cases h : s.data.toList.all isD
              · rfl
              · have := take_all h (k + 1)
                rw [HS.out] at this
                simp [isD] at this; omega
            have d2 : decide ((s[k].toNat : Int) < 48) = true := decide_eq_true (by omega)
            go_wp2
            go_ret
            exact ⟨by rw [HE.out, HF.out]; rfl, rfl⟩
          · have d2 : decide ((s[k].toNat : Int) < 48) = false := decide_eq_false (by omega)
            by_cases c2 : 57 < s[k].toNat
            · have HF : Hid (s.data.toList.all isD = false) := by
                show s.data.toList.all isD = false
                cases h : s.data.toList.all isD
                · rfl
                · have := take_all h (k + 1)
                  rw [HS.out] at this
                  simp [isD] at this; omega
              have d3 : decide (57 < (s[k].toNat : Int)) = true := decide_eq_true (by omega)
              go_wp2
              go_ret
              exact ⟨by rw [HE.out, HF.out]; rfl, rfl⟩
            · have d3 : decide (57 < (s[k].toNat : Int)) = false := decide_eq_false (by omega)
              have HN : Hid ((s.data.toList.take (k + 1)).all isD = true) := by
                show (s.data.toList.take (k + 1)).all isD = true
                rw [HS.out, HA.out]; simp [isD]; omega
              go_wp2
              go_round
              case rel => exact ⟨k + 1, by omega, by go_num, HN.out⟩
              case measure => simp [intOf]; omega
        · go_wp2
          go_ret
          refine ⟨?_, rfl⟩
          have h := HA.out
          rw [List.take_of_length_le (by rw [HSZ.out]; omega)] at h
          rw [HE.out, h]
          rfl

theorem getD_head (s : ByteArray) (h : 0 < s.size) : s.data.toList[0]?.getD 0 = s[0]'h := by
  rw [List.getElem?_eq_getElem (by rw [Array.length_toList]; exact h)]; rfl

set_option maxHeartbeats 400000 in
theorem isWhole_any (s : ByteArray) (w : World) (hs : s.size ≤ maxLen) :
    Calls Tryd.prog 69 #[.string s] w fun e w' => e = .returned (.bool (isWhL s.data.toList)) ∧ w' = w := by
  have HD : Hid (∀ w : World, Calls Tryd.prog 70 #[.string s, .int .i64 10] w fun e w' => e = .returned (.bool (isDigL s.data.toList 10)) ∧ w' = w) := fun w => isDigits_any s 10 w hs
  unfold maxLen at hs
  have hsz : s.data.toList.length = s.size := by rw [Array.length_toList]; rfl
  cases hd : isDigL s.data.toList 10
  · have HE : Hid (isWhL s.data.toList = false) := by show isWhL _ = _; unfold isWhL; rw [hd]; rfl
    rw [hd] at HD
    clear hsz hd
    go_enter Tryd.func69, Tryd.ntmps69
    go_wp2_with (go_at_call 70; refine (HD.out _).mono ?_; rintro e w ⟨rfl, rfl⟩)
    go_ret
    exact ⟨by rw [HE.out]; rfl, rfl⟩
  · have hp : 0 < s.size := by unfold isDigL at hd; rw [hsz] at hd; simp at hd; omega
    have HE : Hid (isWhL s.data.toList = (decide (s[0]'hp ≠ 48) || decide (s.size = 1))) := by show isWhL _ = _; unfold isWhL; rw [hd, getD_head s hp, hsz]; rfl
    rw [hd] at HD
    have hpi : (0 : Int) < (s.size : Int) := by omega
    clear hsz hd
    by_cases c1 : s[0]'hp = 48
    · have d1 : (((s[0]'hp).toNat : Int) != 48) = false := by rw [c1]; rfl
      by_cases c2 : s.size = 1
      · have d2 : ((s.size : Int) == 1) = true := by rw [c2]; rfl
        have HF : Hid (isWhL s.data.toList = true) := by show isWhL _ = _; rw [HE.out]; simp [c2]
        clear c1 c2
        go_enter Tryd.func69, Tryd.ntmps69
        go_wp2_with (go_at_call 70; refine (HD.out _).mono ?_; rintro e w ⟨rfl, rfl⟩)
        go_ret
        exact ⟨by rw [HF.out]; rfl, rfl⟩
      · have d2 : ((s.size : Int) == 1) = false := by simp; omega
        have HF : Hid (isWhL s.data.toList = false) := by show isWhL _ = _; rw [HE.out]; simp [c1, c2]
        clear c1
        go_enter Tryd.func69, Tryd.ntmps69
        go_wp2_with (go_at_call 70; refine (HD.out _).mono ?_; rintro e w ⟨rfl, rfl⟩)
        go_ret
        exact ⟨by rw [HF.out]; rfl, rfl⟩
    · have d1 : (((s[0]'hp).toNat : Int) != 48) = true := by
        have : (s[0]'hp).toNat ≠ 48 := fun h => c1 (UInt8.toNat_inj.1 h)
        simp; omega
      have HF : Hid (isWhL s.data.toList = true) := by show isWhL _ = _; rw [HE.out]; simp [c1]
      clear c1
      go_enter Tryd.func69, Tryd.ntmps69
      go_wp2_with (go_at_call 70; refine (HD.out _).mono ?_; rintro e w ⟨rfl, rfl⟩)
      go_ret
      exact ⟨by rw [HF.out]; rfl, rfl⟩

/-- The reader's two cells, and that they may be written. -/
def RdIs (p : Nat) (d : ByteArray) (n : Int) (w : World) : Prop :=
  w.cell? ⟨p, 0, none⟩ = some (.string d) ∧ w.cell? ⟨p, 1, none⟩ = some (.int .i64 n) ∧ w.frozen? ⟨p, 1, none⟩ = false
theorem RdIs.drew {p : Nat} {d : ByteArray} {n : Int} {w : World} (h : RdIs p d n w) : RdIs p d n w.drew := h
theorem RdIs.set {p : Nat} {d : ByteArray} {n : Int} {w : World} (h : RdIs p d n w) (u : Int) : RdIs p d u (w.setCell ⟨p, 1, none⟩ (.int .i64 u)) := by
  obtain ⟨a, b, c⟩ := h
  exact ⟨(World.cell?_setCell_other _ _ _ _ (by simp)).trans a, World.cell?_setCell_same _ _ _ b, by simpa using c⟩

theorem getD_at (d : ByteArray) (k : Nat) (h : k < d.size) : d.data.toList[k]?.getD 48 = d[k] := by
  rw [List.getElem?_eq_getElem (by rw [Array.length_toList]; exact h)]; rfl
theorem isD_at {d : ByteArray} (h : d.data.toList.all isD = true) (k : Nat) (hk : k < d.size) : isD d[k] = true := by
  have := List.all_eq_true.1 h d.data.toList[k] (List.getElem_mem (by rw [Array.length_toList]; exact hk))
  exact this

set_option maxHeartbeats 800000 in
theorem ntake_any (p k n : Nat) (d : ByteArray) (w : World) (hr : RdIs p d n w) (hd : d.data.toList.all isD = true) (hn : n < 100000000000000000) (hk : k ≤ 6) :
    Calls Tryd.prog 80 #[.pointer (some ⟨p, 0, none⟩), .int .i64 k] w fun e w' => e = .returned (.tuple #[]) ∧ RdIs p d ((n * 10 + dv (d.data.toList[k]?.getD 48) : Nat) : Int) w' ∧ Below p w w' := by
  generalize hV : ((n * 10 + dv (d.data.toList[k]?.getD 48) : Nat) : Int) = V
  have hr1 := hr.set ((n : Int) * 10)
  obtain ⟨c0, c1, f1⟩ := hr
  have hb1 : Below p w (w.setCell ⟨p, 1, none⟩ (.int .i64 ((n : Int) * 10))) := Below.setCell (B := p) (Below.refl p w) (p := ⟨p, 1, none⟩) (Nat.le_refl p) _
  by_cases hlt : k < d.size
  · have hD := isD_at hd k hlt
    rw [isD_iff] at hD
    have b0 : (48 : Int) ≤ (d[k].toNat : Int) := by omega
    have b1 : (d[k].toNat : Int) ≤ 57 := by omega
    have HE : Hid (V = (n : Int) * 10 + ((d[k].toNat : Int) - 48)) := by
      show V = _
      rw [← hV, getD_at d k hlt]; unfold dv; omega
    have HW : Hid (RdIs p d ((n : Int) * 10 + ((d[k].toNat : Int) - 48)) ((w.setCell ⟨p, 1, none⟩ (.int .i64 ((n : Int) * 10))).setCell ⟨p, 1, none⟩ (.int .i64 ((n : Int) * 10 + ((d[k].toNat : Int) - 48))))) := hr1.set _
    have HB : Hid (Below p w ((w.setCell ⟨p, 1, none⟩ (.int .i64 ((n : Int) * 10))).setCell ⟨p, 1, none⟩ (.int .i64 ((n : Int) * 10 + ((d[k].toNat : Int) - 48))))) := Below.setCell hb1 (p := ⟨p, 1, none⟩) (Nat.le_refl p) _
    obtain ⟨e0, e1, e2⟩ := hr1
    have hli : (k : Int) < (d.size : Int) := by omega
    have hki : (0 : Int) ≤ (k : Int) := by omega
    go_enter Tryd.func80, Tryd.ntmps80
    have hni : (n : Int) < 100000000000000000 := by omega
    have hwr : IntKind.i64.wrap ((n : Int) * 10 + ((d[k].toNat : Int) - 48)) = (n : Int) * 10 + ((d[k].toNat : Int) - 48) := IntWalk.i64_in _ ⟨by omega, by omega⟩
    clear hd hn hk hD hb1 hV
    go_wp2_with fail
    clear c0 c1 f1
    generalize w.setCell ⟨p, 1, none⟩ (.int .i64 ((n : Int) * 10)) = W at *
    go_region_with (go_at_call 78; refine (digit_any _ _ b0 b1).mono ?_; rintro e w' ⟨rfl, rfl⟩)
    all_goals
      go_end0
      rw [HE.out]
      exact ⟨rfl, HW.out.drew, HB.out.drew⟩
  · have HE : Hid (V = (n : Int) * 10) := by
      show V = _
      rw [← hV, List.getElem?_eq_none (by rw [Array.length_toList]; exact Nat.le_of_not_lt hlt)]; simp [dv]
    have HW : Hid (RdIs p d ((n : Int) * 10) (w.setCell ⟨p, 1, none⟩ (.int .i64 ((n : Int) * 10)))) := hr1
    have HB : Hid (Below p w (w.setCell ⟨p, 1, none⟩ (.int .i64 ((n : Int) * 10)))) := hb1
    obtain ⟨e0, e1, e2⟩ := hr1
    have hni : (n : Int) < 100000000000000000 := by omega
    have hli : ¬ ((k : Int) < (d.size : Int)) := by omega
    clear hd hn hk hb1 hlt hV
    go_enter Tryd.func80, Tryd.ntmps80
    go_wp2
    go_end0
    rw [HE.out]
    exact ⟨rfl, HW.out, HB.out⟩

set_option maxHeartbeats 400000 in
theorem place_take (p n : Nat) (d : ByteArray) (w : World) (hr : RdIs p d n w) (hd : d.data.toList.all isD = true) (hn : n < 10000000000) :
    Calls Tryd.prog 79 #[.func (.func 80) #[.pointer (some ⟨p, 0, none⟩)] #[]] w fun e w' => e = .returned (.tuple #[]) ∧ RdIs p d (frac d.data.toList n 6 : Int) w' ∧ Below p w w' := by
  go_enter Tryd.func79, Tryd.ntmps79
  go_wp2
  go_loopw [3] (fun i wr => ∃ k : Nat, k ≤ 6 ∧ i = .int .i64 k ∧ RdIs p d (frac d.data.toList n k : Int) wr ∧ Below p w wr) (fun i _ => 6 - (intOf i).toNat)
  case atStart => exact ⟨0, by omega, rfl, hr, Below.refl _ _⟩
  case round =>
    obtain ⟨k, hk, rfl, hst, hbel⟩ := hrel
    by_cases hlt : k < 6
    · have hb := frac_lt6 hd hn k hk
      have HP : Hid (Calls Tryd.prog 80 #[.pointer (some ⟨p, 0, none⟩), .int .i64 k] wr fun e w' => e = .returned (.tuple #[]) ∧ RdIs p d (frac d.data.toList n (k + 1) : Int) w' ∧ Below p wr w') := ntake_any p k (frac d.data.toList n k) d wr hst hd (by omega) hk
      clear hst hb hd hn hr
      go_wp2_with (go_at_call 80; refine HP.out.mono ?_; rintro e w2 ⟨rfl, hst2, hbel2⟩)
      go_roundw
      case rel => exact ⟨k + 1, by omega, by go_num, hst2, hbel.trans hbel2⟩
      case measure => simp [intOf]; omega
    · obtain rfl : k = 6 := by omega
      have HX : Hid (RdIs p d (frac d.data.toList n 6 : Int) wr ∧ Below p w wr) := ⟨hst, hbel⟩
      clear hst hbel hd hn hr hlt
      go_wp2
      go_end0
      exact ⟨rfl, HX.out.1, HX.out.2⟩
end Go.Proofs.YtommhgmlblecnaaDoor
namespace Go.Proofs.YtommhgmlblecnaaDoor
open Go.RowKit

theorem take_snoc (s : ByteArray) (k : Nat) (h : k < s.size) : s.data.toList.take (k + 1) = s.data.toList.take k ++ [s[k]] := by
  rw [List.take_succ_eq_append_getElem (by rw [Array.length_toList]; exact h)]; rfl

theorem rd_start (d : ByteArray) (w : World) : RdIs w.heap.size d ((0 : Nat) : Int) (w.alloc (.cells #[.string d, .int .i64 0] 94)) :=
  ⟨by simp, by simp, World.frozen?_alloc_new _ _ _ _⟩

set_option maxHeartbeats 1600000 in
theorem millionths_any (s d : ByteArray) (w : World) (hs : s.data.toList.all isD = true) (hl : s.size ≤ 10) (hd : d.data.toList.all isD = true) :
    Calls Tryd.prog 71 #[.string s, .string d] w fun e w' => e = .returned (.int .i64 (milL s.data.toList d.data.toList : Int)) ∧ Below w.heap.size w w' := by
  have hsz : s.data.toList.length = s.size := by rw [Array.length_toList]; rfl
  have HR : Hid (RdIs w.heap.size d ((0 : Nat) : Int) (w.alloc (.cells #[.string d, .int .i64 0] 94))) := rd_start d w
  have HB : Hid (Below w.heap.size w (w.alloc (.cells #[.string d, .int .i64 0] 94))) := (Below.refl _ _).alloc (Nat.le_refl _) _
  have HV : Hid (∀ k, valW 0 (s.data.toList.take k) < 10000000000) := fun k => valW_take_lt hs (by omega) k
  have HS : Hid (s.data.toList.all isD = true) := hs
  have HD : Hid (d.data.toList.all isD = true) := hd
  have HZ : Hid (s.data.toList.length = s.size) := hsz
  generalize hM : (milL s.data.toList d.data.toList : Int) = M
  have HM : Hid ((milL s.data.toList d.data.toList : Int) = M) := hM
  clear hs hd hsz hM
  go_enter Tryd.func71, Tryd.ntmps71
  go_wp2
  go_loopw [11] (fun i wr => ∃ k : Nat, k ≤ s.size ∧ i = .int .i64 k ∧ RdIs w.heap.size d (valW 0 (s.data.toList.take k) : Int) wr ∧ Below w.heap.size w wr) (fun i _ => s.size - (intOf i).toNat)
  case atStart => exact ⟨0, by omega, rfl, by simpa [valW] using HR.out, HB.out⟩
  case round =>
    obtain ⟨k, hk, rfl, hst, hbel⟩ := hrel
    clear HR HB
    by_cases hlt : k < s.size
    · have hD := isD_at HS.out k hlt
      rw [isD_iff] at hD
      have hv := HV.out k
      have HN : Hid ((valW 0 (s.data.toList.take (k + 1)) : Int) = (valW 0 (s.data.toList.take k) : Int) * 10 + ((s[k].toNat : Int) - 48)) := by
        show (valW 0 (s.data.toList.take (k + 1)) : Int) = _
        rw [take_snoc s k hlt, valW_snoc]; unfold dv; omega
      generalize hn : valW 0 (s.data.toList.take k) = n at *
      have b0 : (48 : Int) ≤ (s[k].toNat : Int) := by omega
      have b1 : (s[k].toNat : Int) ≤ 57 := by omega
      have hwr0 : IntKind.i64.wrap ((n : Int) * 10) = (n : Int) * 10 := IntWalk.i64_in _ ⟨by omega, by omega⟩
      have hwr : IntKind.i64.wrap ((n : Int) * 10 + ((s[k].toNat : Int) - 48)) = (n : Int) * 10 + ((s[k].toNat : Int) - 48) := IntWalk.i64_in _ ⟨by omega, by omega⟩
      have HW : Hid (RdIs w.heap.size d ((n : Int) * 10 + ((s[k].toNat : Int) - 48)) (wr.setCell ⟨w.heap.size, 1, none⟩ (.int .i64 ((n : Int) * 10 + ((s[k].toNat : Int) - 48))))) := hst.set _
      have HB : Hid (Below w.heap.size w (wr.setCell ⟨w.heap.size, 1, none⟩ (.int .i64 ((n : Int) * 10 + ((s[k].toNat : Int) - 48))))) := Below.setCell hbel (p := ⟨w.heap.size, 1, none⟩) (Nat.le_refl _) _
      obtain ⟨c0, c1, f1⟩ := hst
      have hli : (k : Int) < (s.size : Int) := by omega
      have hki : (0 : Int) ≤ (k : Int) := by omega
      clear hD hv hn hbel hk
      go_wp2_with fail
      go_region_with (go_at_call 78; refine (digit_any _ _ b0 b1).mono ?_; rintro e w' ⟨rfl, rfl⟩)
      all_goals
        go_wp2
        go_roundw
        case rel => exact ⟨k + 1, by omega, by go_num, by rw [HN.out]; exact HW.out.drew, HB.out.drew⟩
        case measure => simp [intOf]; omega
    · have hkk : k = s.size := by omega
      have hv := HV.out k
      have HP := fun (h : RdIs w.heap.size d (valW 0 (s.data.toList.take k) : Int) wr) => place_take w.heap.size (valW 0 (s.data.toList.take k)) d wr h HD.out hv
      have hP := HP hst
      rw [show frac d.data.toList (valW 0 (s.data.toList.take k)) 6 = milL s.data.toList d.data.toList by
        rw [List.take_of_length_le (by rw [HZ.out]; omega)]; rfl, HM.out] at hP
      have HPh : Hid (Calls Tryd.prog 79 #[.func (.func 80) #[.pointer (some ⟨w.heap.size, 0, none⟩)] #[]] wr fun e w' => e = .returned (.tuple #[]) ∧ RdIs w.heap.size d M w' ∧ Below w.heap.size wr w') := hP
      clear HP hP hv hst hkk
      go_wp2_with (go_at_call 79; refine HPh.out.mono ?_; rintro e w2 ⟨rfl, ⟨c0, c1, f1⟩, hb2⟩)
      go_ret
      exact ⟨rfl, hbel.trans hb2⟩
end Go.Proofs.YtommhgmlblecnaaDoor
namespace Go.Proofs.YtommhgmlblecnaaDoor
open Go.RowKit

theorem size_arr (l : List UInt8) : (⟨l.toArray⟩ : ByteArray).size = l.length := by rw [Lib.size_eq]

set_option maxHeartbeats 3200000 in
theorem parse_core (s T B A : ByteArray) (bl f iw id : Bool) (n : Nat) (w : World) (hn : n < 10000000000000000)
    (h1 : ∀ w : World, Calls Tryd.prog 67 #[.string s, .string ⟨#[45]⟩] w fun e w' => e = .returned (.tuple #[.string T, .bool bl]) ∧ w' = w)
    (h2 : Calls Tryd.prog 68 #[.string T, .string ⟨#[46]⟩] w fun e w' => e = .returned (.tuple #[.string B, .string A, .bool f]) ∧ Below w.heap.size w w')
    (h3 : ∀ w : World, Calls Tryd.prog 69 #[.string B] w fun e w' => e = .returned (.bool iw) ∧ w' = w)
    (h4 : ∀ w : World, Calls Tryd.prog 70 #[.string A, .int .i64 6] w fun e w' => e = .returned (.bool id) ∧ w' = w)
    (h5 : iw = true → (f = true → id = true) → ∀ w1 : World, Below w.heap.size w w1 → Calls Tryd.prog 71 #[.string B, .string A] w1 fun e w' => e = .returned (.int .i64 (n : Int)) ∧ Below w.heap.size w w') :
    Calls Tryd.prog 61 #[.string s] w fun e w' => e = .returned (.tuple #[.int .i64 (coreR iw f id bl n).1, .bool (coreR iw f id bl n).2]) ∧ Below w.heap.size w w' := by
  have HC1 : Hid (∀ w : World, Calls Tryd.prog 67 #[.string s, .string ⟨#[45]⟩] w fun e w' => e = .returned (.tuple #[.string T, .bool bl]) ∧ w' = w) := h1
  have HC2 : Hid (Calls Tryd.prog 68 #[.string T, .string ⟨#[46]⟩] w fun e w' => e = .returned (.tuple #[.string B, .string A, .bool f]) ∧ Below w.heap.size w w') := h2
  have HC3 : Hid (∀ w : World, Calls Tryd.prog 69 #[.string B] w fun e w' => e = .returned (.bool iw) ∧ w' = w) := h3
  have HC4 : Hid (∀ w : World, Calls Tryd.prog 70 #[.string A, .int .i64 6] w fun e w' => e = .returned (.bool id) ∧ w' = w) := h4
  clear h1 h2 h3 h4
  have rneg : IntKind.i64.wrap (-(n : Int)) = -(n : Int) := IntWalk.i64_in _ ⟨by omega, by omega⟩
  by_cases hok : iw = true ∧ (f = true → id = true)
  · have HC5 : Hid (∀ w1 : World, Below w.heap.size w w1 → Calls Tryd.prog 71 #[.string B, .string A] w1 fun e w' => e = .returned (.int .i64 (n : Int)) ∧ Below w.heap.size w w') := h5 hok.1 hok.2
    obtain ⟨rfl, hfi⟩ := hok
    have hbn : (n : Int) < 10000000000000000 := by omega
    clear h5
    by_cases hbig : 1000000000000000 < n
    · have d1 : decide ((1000000000000000 : Int) < (n : Int)) = true := decide_eq_true (by omega)
      obtain ⟨R, hR⟩ : ∃ R, R = coreR true f id bl n := ⟨_, rfl⟩
      have hR2 : R = (0, false) := by rw [hR]; unfold coreR; cases f <;> cases id <;> simp_all
      rw [← hR, hR2]
      clear hR hR2 hbig hn hbn
      cases f
      · clear hfi HC4
        go_enter Tryd.func61, Tryd.ntmps61
        go_wp2_with (first | (go_at_call 67; refine (HC1.out _).mono ?_; rintro e w ⟨rfl, rfl⟩) | (go_at_call 68; refine HC2.out.mono ?_; rintro e w1 ⟨rfl, hb1⟩) | (go_at_call 69; refine (HC3.out _).mono ?_; rintro e w2 ⟨rfl, rfl⟩) | (go_at_call 70; refine (HC4.out _).mono ?_; rintro e w2 ⟨rfl, rfl⟩) | (go_at_call 71; refine (HC5.out _ (by assumption)).mono ?_; rintro e w2 ⟨rfl, hb2⟩))
        go_ret2
        exact ⟨rfl, by assumption⟩
      · rw [hfi rfl] at HC4
        clear hfi
        go_enter Tryd.func61, Tryd.ntmps61
        go_wp2_with (first | (go_at_call 67; refine (HC1.out _).mono ?_; rintro e w ⟨rfl, rfl⟩) | (go_at_call 68; refine HC2.out.mono ?_; rintro e w1 ⟨rfl, hb1⟩) | (go_at_call 69; refine (HC3.out _).mono ?_; rintro e w2 ⟨rfl, rfl⟩) | (go_at_call 70; refine (HC4.out _).mono ?_; rintro e w2 ⟨rfl, rfl⟩) | (go_at_call 71; refine (HC5.out _ (by assumption)).mono ?_; rintro e w2 ⟨rfl, hb2⟩))
        go_ret2
        exact ⟨rfl, by assumption⟩
    · have d1 : decide ((1000000000000000 : Int) < (n : Int)) = false := decide_eq_false (by omega)
      cases bl
      · obtain ⟨R, hR⟩ : ∃ R, R = coreR true f id false n := ⟨_, rfl⟩
        have hR2 : R = ((n : Int), true) := by rw [hR]; unfold coreR; cases f <;> cases id <;> simp_all
        rw [← hR, hR2]
        clear hR hR2 hbig hn hbn
        cases f
        · clear hfi HC4
          go_enter Tryd.func61, Tryd.ntmps61
          go_wp2_with (first | (go_at_call 67; refine (HC1.out _).mono ?_; rintro e w ⟨rfl, rfl⟩) | (go_at_call 68; refine HC2.out.mono ?_; rintro e w1 ⟨rfl, hb1⟩) | (go_at_call 69; refine (HC3.out _).mono ?_; rintro e w2 ⟨rfl, rfl⟩) | (go_at_call 70; refine (HC4.out _).mono ?_; rintro e w2 ⟨rfl, rfl⟩) | (go_at_call 71; refine (HC5.out _ (by assumption)).mono ?_; rintro e w2 ⟨rfl, hb2⟩))
          go_ret2
          exact ⟨rfl, by assumption⟩
        · rw [hfi rfl] at HC4
          clear hfi
          go_enter Tryd.func61, Tryd.ntmps61
          go_wp2_with (first | (go_at_call 67; refine (HC1.out _).mono ?_; rintro e w ⟨rfl, rfl⟩) | (go_at_call 68; refine HC2.out.mono ?_; rintro e w1 ⟨rfl, hb1⟩) | (go_at_call 69; refine (HC3.out _).mono ?_; rintro e w2 ⟨rfl, rfl⟩) | (go_at_call 70; refine (HC4.out _).mono ?_; rintro e w2 ⟨rfl, rfl⟩) | (go_at_call 71; refine (HC5.out _ (by assumption)).mono ?_; rintro e w2 ⟨rfl, hb2⟩))
          go_ret2
          exact ⟨rfl, by assumption⟩
      · by_cases hz : n = 0
        · have d2 : ((n : Int) == 0) = true := by rw [hz]; rfl
          obtain ⟨R, hR⟩ : ∃ R, R = coreR true f id true n := ⟨_, rfl⟩
          have hR2 : R = (0, false) := by rw [hR]; unfold coreR; cases f <;> cases id <;> simp_all
          rw [← hR, hR2]
          clear hR hR2 hbig hn hz hbn
          cases f
          · clear hfi HC4
            go_enter Tryd.func61, Tryd.ntmps61
            go_wp2_with (first | (go_at_call 67; refine (HC1.out _).mono ?_; rintro e w ⟨rfl, rfl⟩) | (go_at_call 68; refine HC2.out.mono ?_; rintro e w1 ⟨rfl, hb1⟩) | (go_at_call 69; refine (HC3.out _).mono ?_; rintro e w2 ⟨rfl, rfl⟩) | (go_at_call 70; refine (HC4.out _).mono ?_; rintro e w2 ⟨rfl, rfl⟩) | (go_at_call 71; refine (HC5.out _ (by assumption)).mono ?_; rintro e w2 ⟨rfl, hb2⟩))
            go_ret2
            exact ⟨rfl, by assumption⟩
          · rw [hfi rfl] at HC4
            clear hfi
            go_enter Tryd.func61, Tryd.ntmps61
            go_wp2_with (first | (go_at_call 67; refine (HC1.out _).mono ?_; rintro e w ⟨rfl, rfl⟩) | (go_at_call 68; refine HC2.out.mono ?_; rintro e w1 ⟨rfl, hb1⟩) | (go_at_call 69; refine (HC3.out _).mono ?_; rintro e w2 ⟨rfl, rfl⟩) | (go_at_call 70; refine (HC4.out _).mono ?_; rintro e w2 ⟨rfl, rfl⟩) | (go_at_call 71; refine (HC5.out _ (by assumption)).mono ?_; rintro e w2 ⟨rfl, hb2⟩))
            go_ret2
            exact ⟨rfl, by assumption⟩
        · have d2 : ((n : Int) == 0) = false := by simp; omega
          obtain ⟨R, hR⟩ : ∃ R, R = coreR true f id true n := ⟨_, rfl⟩
          have hR2 : R = (-(n : Int), true) := by rw [hR]; unfold coreR; cases f <;> cases id <;> simp_all
          rw [← hR, hR2]
          clear hR hR2 hbig hn hz
          cases f
          · clear hfi HC4
            go_enter Tryd.func61, Tryd.ntmps61
            go_wp2_with (first | (go_at_call 67; refine (HC1.out _).mono ?_; rintro e w ⟨rfl, rfl⟩) | (go_at_call 68; refine HC2.out.mono ?_; rintro e w1 ⟨rfl, hb1⟩) | (go_at_call 69; refine (HC3.out _).mono ?_; rintro e w2 ⟨rfl, rfl⟩) | (go_at_call 70; refine (HC4.out _).mono ?_; rintro e w2 ⟨rfl, rfl⟩) | (go_at_call 71; refine (HC5.out _ (by assumption)).mono ?_; rintro e w2 ⟨rfl, hb2⟩))
            go_ret2
            exact ⟨rfl, by assumption⟩
          · rw [hfi rfl] at HC4
            clear hfi
            go_enter Tryd.func61, Tryd.ntmps61
            go_wp2_with (first | (go_at_call 67; refine (HC1.out _).mono ?_; rintro e w ⟨rfl, rfl⟩) | (go_at_call 68; refine HC2.out.mono ?_; rintro e w1 ⟨rfl, hb1⟩) | (go_at_call 69; refine (HC3.out _).mono ?_; rintro e w2 ⟨rfl, rfl⟩) | (go_at_call 70; refine (HC4.out _).mono ?_; rintro e w2 ⟨rfl, rfl⟩) | (go_at_call 71; refine (HC5.out _ (by assumption)).mono ?_; rintro e w2 ⟨rfl, hb2⟩))
            go_ret2
            exact ⟨rfl, by assumption⟩
  · have HC5 : Hid (∀ w1 : World, Below w.heap.size w w1 → False → True) := fun _ _ _ => trivial
    obtain ⟨R, hR⟩ : ∃ R, R = coreR iw f id bl n := ⟨_, rfl⟩
    have hR2 : R = (0, false) := by rw [hR]; unfold coreR; cases iw <;> cases f <;> cases id <;> simp_all
    rw [← hR, hR2]
    clear hR hR2 h5 hn
    cases iw
    · clear hok HC4
      go_enter Tryd.func61, Tryd.ntmps61
      go_wp2_with (first | (go_at_call 67; refine (HC1.out _).mono ?_; rintro e w ⟨rfl, rfl⟩) | (go_at_call 68; refine HC2.out.mono ?_; rintro e w1 ⟨rfl, hb1⟩) | (go_at_call 69; refine (HC3.out _).mono ?_; rintro e w2 ⟨rfl, rfl⟩) | (go_at_call 70; refine (HC4.out _).mono ?_; rintro e w2 ⟨rfl, rfl⟩) | (go_at_call 71; refine (HC5.out _ (by assumption)).mono ?_; rintro e w2 ⟨rfl, hb2⟩))
      go_ret2
      exact ⟨rfl, by assumption⟩
    · have hf : f = true := by cases f <;> simp_all
      have hi : id = false := by cases id <;> simp_all
      subst hf
      subst hi
      clear hok
      go_enter Tryd.func61, Tryd.ntmps61
      go_wp2_with (first | (go_at_call 67; refine (HC1.out _).mono ?_; rintro e w ⟨rfl, rfl⟩) | (go_at_call 68; refine HC2.out.mono ?_; rintro e w1 ⟨rfl, hb1⟩) | (go_at_call 69; refine (HC3.out _).mono ?_; rintro e w2 ⟨rfl, rfl⟩) | (go_at_call 70; refine (HC4.out _).mono ?_; rintro e w2 ⟨rfl, rfl⟩) | (go_at_call 71; refine (HC5.out _ (by assumption)).mono ?_; rintro e w2 ⟨rfl, hb2⟩))
      go_ret2
      exact ⟨rfl, by assumption⟩

theorem parse_any (s : ByteArray) (w : World) (hs : s.size ≤ maxLen) :
    Calls Tryd.prog 61 #[.string s] w fun e w' => e = .returned (.tuple #[.int .i64 (parseL s.data.toList).1, .bool (parseL s.data.toList).2]) ∧ Below w.heap.size w w' := by
  have l1 := Lib.trimPrefix_le s.data.toList [45]
  rw [← Lib.size_eq] at l1
  obtain ⟨l2, l3⟩ := cut_lens (Lib.trimPrefix s.data.toList [45]) [46]
  have hno := cut_none (l := Lib.trimPrefix s.data.toList [45]) (sep := [46])
  have h2 := cut_any ⟨(Lib.trimPrefix s.data.toList [45]).toArray⟩ w (by rw [size_arr]; omega)
  have h1 := Tryd.strings_CutPrefix s ⟨#[45]⟩
  unfold parseL parseT
  generalize hT : Lib.trimPrefix s.data.toList [45] = T at *
  generalize hC : Lib.cut T [46] = C at *
  obtain ⟨B, A, f⟩ := C
  simp only at l2 l3 hno
  have hlt : isWhL B = true → (f = true → isDigL A 6 = true) → B.all isD = true ∧ B.length ≤ 10 ∧ A.all isD = true := fun hb ha => by
    obtain ⟨a1, _, a3⟩ := isWhL_all hb
    refine ⟨a1, a3, ?_⟩
    cases f
    · rw [hno rfl]; rfl
    · exact (isDigL_all (ha rfl)).1
  by_cases hok : isWhL B = true ∧ (f = true → isDigL A 6 = true)
  · refine parse_core s ⟨T.toArray⟩ ⟨B.toArray⟩ ⟨A.toArray⟩ _ f _ _ (milL B A) w (milL_lt hok.1 (hlt hok.1 hok.2).2.2) ?_ ?_ (fun w => isWhole_any ⟨B.toArray⟩ w (by rw [size_arr]; omega)) (fun w => isDigits_any ⟨A.toArray⟩ 6 w (by rw [size_arr]; omega)) ?_
    · exact h1
    · refine h2.mono ?_
      rintro e w' ⟨rfl, k, rfl⟩
      exact ⟨rfl, below_drewN (Below.refl _ _) k⟩
    · intro hb ha w1 hw1
      obtain ⟨a1, a2, a3⟩ := hlt hb ha
      refine (millionths_any ⟨B.toArray⟩ ⟨A.toArray⟩ w1 a1 (by rw [size_arr]; exact a2) a3).mono ?_
      rintro e w' ⟨rfl, hb'⟩
      exact ⟨rfl, hw1.trans (hb'.mono hw1.size)⟩
  · have e0 : coreR (isWhL B) f (isDigL A 6) (Lib.hasPrefix s.data.toList [45]) (milL B A) = coreR (isWhL B) f (isDigL A 6) (Lib.hasPrefix s.data.toList [45]) 0 := by
      unfold coreR
      have : (isWhL B && (!f || isDigL A 6)) = false := by
        cases h1 : isWhL B <;> cases h2 : f <;> cases h3 : isDigL A 6 <;> simp_all
      rw [this]; rfl
    simp only at e0 ⊢
    rw [e0]
    refine parse_core s ⟨T.toArray⟩ ⟨B.toArray⟩ ⟨A.toArray⟩ _ f _ _ 0 w (by omega) ?_ ?_ (fun w => isWhole_any ⟨B.toArray⟩ w (by rw [size_arr]; omega)) (fun w => isDigits_any ⟨A.toArray⟩ 6 w (by rw [size_arr]; omega)) ?_
    · exact h1
    · refine h2.mono ?_
      rintro e w' ⟨rfl, k, rfl⟩
      exact ⟨rfl, below_drewN (Below.refl _ _) k⟩
    · intro hb ha
      exact absurd ⟨hb, ha⟩ hok
end Go.Proofs.YtommhgmlblecnaaDoor
namespace Go.Proofs.YtommhgmlblecnaaDoor
open Go

def lpN (y : Nat) : Nat := if y % 4 = 0 ∧ (y % 100 ≠ 0 ∨ y % 400 = 0) then 1 else 0
theorem lpN_le (y : Nat) : lpN y ≤ 1 := by unfold lpN; split <;> omega
/-- How many days a year has. -/
def yl (y : Nat) : Nat := 365 + lpN y
def mt (m : Nat) : Nat := [31, 28, 31, 30, 31, 30, 31, 31, 30, 31, 30, 31].getD m 0
/-- How many days a month has. -/
def ml (y m : Nat) : Nat := if m = 1 then 28 + lpN y else mt m
/-- The days ahead of the year 1900 + n. -/
def yd : Nat → Nat
  | 0 => 0
  | n + 1 => yd n + yl (1900 + n)
/-- The days ahead of a month. -/
def md (y : Nat) : Nat → Nat
  | 0 => 0
  | m + 1 => md y m + ml y m
theorem yl_le (y : Nat) : yl y ≤ 366 := by have := lpN_le y; unfold yl; omega
theorem mt_bounds {m : Nat} (h : m < 12) : 28 ≤ mt m ∧ mt m ≤ 31 := by
  match m, h with
  | 0, _ | 1, _ | 2, _ | 3, _ | 4, _ | 5, _ | 6, _ | 7, _ | 8, _ | 9, _ | 10, _ | 11, _ => exact ⟨by decide, by decide⟩
theorem ml_le (y : Nat) {m : Nat} (h : m < 12) : ml y m ≤ 31 := by have := mt_bounds h; have := lpN_le y; unfold ml; split <;> omega
theorem md_twelve (y : Nat) : md y 12 = yl y := by
  have e : ∀ m, md y (m + 1) = md y m + ml y m := fun _ => rfl
  simp only [e]
  have e0 : md y 0 = 0 := rfl
  rw [e0]
  simp [ml, mt, yl]; omega
theorem yd_step (n : Nat) : yd (n + 1) = yd n + yl (1900 + n) := rfl
theorem md_step (y m : Nat) : md y (m + 1) = md y m + ml y m := rfl
theorem yd_mono {a b : Nat} (h : a ≤ b) : yd a ≤ yd b := by
  induction h with
  | refl => exact Nat.le_refl _
  | step _ ih => rw [yd_step]; omega
theorem md_mono (y : Nat) {a b : Nat} (h : a ≤ b) : md y a ≤ md y b := by
  induction h with
  | refl => exact Nat.le_refl _
  | step _ ih => rw [md_step]; omega
theorem yd_all : yd 200 = 73049 := by decide +kernel
theorem yd_le {n : Nat} (h : n ≤ 200) : yd n ≤ 73049 := by have := yd_mono h; rw [yd_all] at this; exact this
theorem md_le (y : Nat) {m : Nat} (h : m ≤ 12) : md y m ≤ yl y := by have := md_mono y h; rw [md_twelve] at this; exact this

/-- A date of the calendar: the year from 1900 on, the month from 0 on, the day from 1 on. -/
def Dt (y m d : Nat) : Prop := y < 200 ∧ m < 12 ∧ 1 ≤ d ∧ d ≤ ml (1900 + y) m
instance (y m d : Nat) : Decidable (Dt y m d) := by unfold Dt; infer_instance
/-- Its day. -/
def dn (y m d : Nat) : Nat := yd y + md (1900 + y) m + d - 1
theorem Dt.dle {y m d : Nat} (h : Dt y m d) : d ≤ 31 := Nat.le_trans h.2.2.2 (ml_le _ h.2.1)
end Go.Proofs.YtommhgmlblecnaaDoor
namespace Go.Proofs.YtommhgmlblecnaaDoor
open Go Go.RowKit

end Go.Proofs.YtommhgmlblecnaaDoor
namespace Go.Proofs.YtommhgmlblecnaaDoor
open Go Go.RowKit

theorem ret_intD {k : IntKind} {a b : Int} (h : a = b) : Ending.returned (.int k a) = .returned (.int k b) := by rw [h]
theorem ret_bool {a b : Bool} (h : a = b) : Ending.returned (.bool a) = .returned (.bool b) := by rw [h]

/-- The months' days lie where the program lays them. -/
def Tab (w : World) : Prop := ∀ k, k < 12 → w.cell? ⟨1, k, none⟩ = some (.int .i64 (mt k : Nat))

set_option maxHeartbeats 400000 in
theorem leapDays_any (y : Nat) (h : y ≤ 10000) (w : World) :
    Calls Tryd.prog 93 #[.int .i64 y] w fun e w' => e = .returned (.int .i64 (lpN y : Nat)) ∧ w' = w := by
  by_cases h4 : y % 4 = 0
  · by_cases h100 : y % 100 = 0
    · by_cases h400 : y % 400 = 0
      · go_enter Tryd.func93, Tryd.ntmps93
        go_wp2
        go_ret
        refine ⟨ret_intD ?_, rfl⟩
        unfold lpN; rw [if_pos (by omega)]; rfl
      · go_enter Tryd.func93, Tryd.ntmps93
        go_wp2
        go_ret
        refine ⟨ret_intD ?_, rfl⟩
        unfold lpN; rw [if_neg (by omega)]; rfl
    · go_enter Tryd.func93, Tryd.ntmps93
      go_wp2
      go_ret
      refine ⟨ret_intD ?_, rfl⟩
      unfold lpN; rw [if_pos (by omega)]; rfl
  · go_enter Tryd.func93, Tryd.ntmps93
    go_wp2
    go_ret
    refine ⟨ret_intD ?_, rfl⟩
    unfold lpN; rw [if_neg (by omega)]; rfl

set_option maxHeartbeats 400000 in
theorem yearLater_any (y n : Nat) (h : y ≤ 5000) (hn : n ≤ 5000) (w : World) :
    Calls Tryd.prog 88 #[.int .i64 y, .int .i64 n] w fun e w' => e = .returned (.int .i64 (yl (y + n) : Nat)) ∧ w' = w := by
  have H := hid (fun w => leapDays_any (y + n) (by omega) w)
  have hl := lpN_le (y + n)
  go_enter Tryd.func88, Tryd.ntmps88
  go_wp2_with fail
  refine (H.out _).mono ?_
  rintro e w ⟨rfl, rfl⟩
  go_wp2
  go_ret
  refine ⟨ret_intD ?_, rfl⟩
  unfold yl; omega

theorem Tab.drewN {w : World} (h : Tab w) (n : Nat) : Tab (w.drewN n) := h

set_option maxHeartbeats 400000 in
theorem month_any (y m : Nat) (h : y ≤ 5000) (hm : m < 12) (w : World) (ht : Tab w) :
    Calls Tryd.prog 86 #[.int .i64 y, .int .i64 m] w fun e w' => e = .returned (.int .i64 (ml y m : Nat)) ∧ ∃ n, w' = w.drewN n := by
  have H := hid (fun w => leapDays_any y (by omega) w)
  have hl := lpN_le y
  have hc := ht m hm
  have hb := mt_bounds hm
  have hm' : (m : Int) < 12 := by omega
  clear ht
  by_cases h1 : m = 1
  · subst h1
    go_enter Tryd.func86, Tryd.ntmps86
    go_wp2_with fail
    go_quiet ((go_at_call 93; refine Calls.quiet_of_same (H.out _)))
    go_wp2
    go_ret
    refine ⟨ret_intD ?_, _, rfl⟩
    unfold ml mt; simp
  · go_enter Tryd.func86, Tryd.ntmps86
    go_wp2_with fail
    go_ret
    refine ⟨ret_intD ?_, 0, rfl⟩
    unfold ml; simp [h1]
end Go.Proofs.YtommhgmlblecnaaDoor
namespace Go.Proofs.YtommhgmlblecnaaDoor
open Go Go.RowKit

set_option maxHeartbeats 400000 in
theorem daysOfY_any (n : Nat) (hn : n ≤ 200) (w : World) :
    Calls Tryd.prog 87 #[.int .i64 1900, .int .i64 n, .func (.func 88) #[] #[]] w fun e w' => e = .returned (.int .i64 (yd n : Nat)) ∧ w' = w := by
  have H := hid (fun (k : Nat) (hk : k ≤ 5000) w => yearLater_any 1900 k (by omega) hk w)
  go_enter Tryd.func87, Tryd.ntmps87
  go_wp2_with fail
  go_loop [7, 10] (fun s i => ∃ k : Nat, k ≤ n ∧ i = .int .i64 k ∧ s = .int .i64 (yd k : Nat)) (fun _ i => n - (intOf i).toNat)
  case atStart => exact ⟨0, by omega, rfl, rfl⟩
  case round =>
    obtain ⟨k, hk, rfl, rfl⟩ := hrel
    have hy := yd_le (n := k) (by omega)
    have hyl := yl_le (1900 + k)
    by_cases hlt : k < n
    · go_wp2_with fail
      refine (H.out k (by omega) _).mono ?_
      rintro e w ⟨rfl, rfl⟩
      go_wp2
      refine ⟨⟨k + 1, by omega, rfl, ?_⟩, by simp [intOf]; omega⟩
      rw [yd_step]; simp
    · have : k = n := by omega
      subst this
      go_wp2
      go_ret
      exact ⟨rfl, rfl⟩

set_option maxHeartbeats 400000 in
theorem daysOfM_any (y n : Nat) (hy : y ≤ 5000) (hn : n ≤ 12) (w : World) (ht : Tab w) :
    Calls Tryd.prog 87 #[.int .i64 y, .int .i64 n, .func (.func 86) #[] #[]] w fun e w' => e = .returned (.int .i64 (md y n : Nat)) ∧ ∃ j, w' = w.drewN j := by
  have H := hid (fun (k : Nat) (hk : k < 12) (j : Nat) => month_any y k (by omega) hk (w.drewN j) (ht.drewN j))
  clear ht
  go_enter Tryd.func87, Tryd.ntmps87
  go_wp2_with fail
  go_loopw [7, 10] (fun s i wr => ∃ k j : Nat, k ≤ n ∧ i = .int .i64 k ∧ s = .int .i64 (md y k : Nat) ∧ wr = w.drewN j) (fun _ i _ => n - (intOf i).toNat)
  case atStart => exact ⟨0, 0, by omega, rfl, rfl, rfl⟩
  case round =>
    obtain ⟨k, j, hk, rfl, rfl, rfl⟩ := hrel
    have hy := md_le y (m := k) (by omega)
    have hyl := yl_le y
    by_cases hlt : k < n
    · have hm := ml_le y (m := k) (by omega)
      go_wp2_with fail
      refine (H.out k (by omega) j).mono ?_
      rintro e w1 ⟨rfl, i, rfl⟩
      go_wp2
      refine ⟨⟨k + 1, j + i, by omega, rfl, ?_, rfl⟩, by simp [intOf]; omega⟩
      rw [md_step]; simp
    · have : k = n := by omega
      subst this
      go_wp2
      go_ret
      exact ⟨rfl, _, rfl⟩


end Go.Proofs.YtommhgmlblecnaaDoor
namespace Go.Proofs.YtommhgmlblecnaaDoor
open Go Go.RowKit

theorem Tab.below {w w' : World} (h : Tab w) (hB : Below w.heap.size w w') : Tab w' := fun k hk => by
  rw [hB.cell (p := ⟨1, k, none⟩) (World.block_lt_of_cell? w _ (h k hk))]; exact h k hk
theorem Below.next {w w1 w2 : World} (hb : Below w.heap.size w w1) (h : Below w1.heap.size w1 w2) : Below w.heap.size w w2 := hb.trans (h.mono hb.size)
theorem drewN_below (w : World) (j : Nat) : Below w.heap.size w (w.drewN j) := by
  induction j with
  | zero => exact Below.refl _ _
  | succ j ih => exact (by have := ih.drew; exact this)

set_option maxHeartbeats 400000 in
theorem calendarDate_any (y m d : Int) (w : World) :
    Calls Tryd.prog 81 #[.int .i64 y, .int .i64 m, .int .i64 d] w fun e w' => e = .returned (.agg #[.int .i64 y, .int .i64 (wrap64 (m - 1)), .int .i64 d]) ∧ Below w.heap.size w w' := by
  go_enter Tryd.func81, Tryd.ntmps81
  go_wp2
  go_returns
  exact ⟨rfl, (Below.refl _ _).alloc (Nat.le_refl _) _⟩



/-- A struct of three numbers, laid anew. -/
theorem laid3 (w : World) (a b c : Value) : (w.alloc (.cells #[a, b, c] 100)).cell? ⟨w.heap.size, 0, none⟩ = some a ∧ (w.alloc (.cells #[a, b, c] 100)).cell? ⟨w.heap.size, 1, none⟩ = some b ∧ (w.alloc (.cells #[a, b, c] 100)).cell? ⟨w.heap.size, 2, none⟩ = some c := by
  have h := World.cell?_alloc_mark w #[a, b, c] 100 (0, 0)
  exact ⟨h 0, h 1, h 2⟩

set_option maxHeartbeats 800000 in
theorem dayNumber_any (y m d : Nat) (h : Dt y m d) (Y : Int) (hY : Y = 1900 + (y : Int)) (w : World) (ht : Tab w) :
    Calls Tryd.prog 83 #[.agg #[.int .i64 Y, .int .i64 m, .int .i64 d]] w fun e w' => e = .returned (.int .i64 (dn y m d : Nat)) ∧ Below w.heap.size w w' := by
  have hd31 := h.dle
  obtain ⟨hy, hm, hd0, hd1⟩ := h
  have hyd := yd_le (n := y) (by omega)
  have hmd := md_le (1900 + y) (m := m) (by omega)
  have hyl := yl_le (1900 + y)
  have hB := (Below.refl w.heap.size w).alloc (Nat.le_refl _) (.cells #[.int .i64 Y, .int .i64 m, .int .i64 d] 100)
  have ht' := ht.below hB
  obtain ⟨c0, c1, c2⟩ := laid3 w (.int .i64 Y) (.int .i64 m) (.int .i64 d)
  clear ht
  have HF : Hid (Below w.heap.size w (w.alloc (.cells #[.int .i64 Y, .int .i64 m, .int .i64 d] 100))) := hB
  have HYY := hid hY
  clear hB hY
  go_enter Tryd.func83, Tryd.ntmps83
  go_wp2_with fail
  generalize w.alloc (.cells #[.int .i64 Y, .int .i64 m, .int .i64 d] 100) = W at *
  have HT : Hid (Tab W) := ht'
  clear ht'
  have hY := HYY.out
  have HM := hid (fun j => daysOfM_any (1900 + y) m (by omega) (by omega) (W.drewN j) HT.out)
  have HY := hid (fun j => daysOfY_any y (by omega) (W.drewN j))
  have e19 : ((1900 + y : Nat) : Int) = Y := by omega
  rw [e19] at HM
  have v1 : IntKind.i64.wrap (Y - 1900) = (y : Int) := by rw [IntWalk.i64_in _ ⟨by omega, by omega⟩]; omega
  clear hY HYY e19
  generalize hA : yd y = A at *
  generalize hB : md (1900 + y) m = B at *
  have v2 : IntKind.i64.wrap ((A : Int) + (B : Int)) = (A : Int) + (B : Int) := IntWalk.i64_in _ ⟨by omega, by omega⟩
  have v3 : IntKind.i64.wrap ((A : Int) + (B : Int) + (d : Int)) = (A : Int) + (B : Int) + (d : Int) := IntWalk.i64_in _ ⟨by omega, by omega⟩
  have v4 : IntKind.i64.wrap ((A : Int) + (B : Int) + (d : Int) - 1) = (A : Int) + (B : Int) + (d : Int) - 1 := IntWalk.i64_in _ ⟨by omega, by omega⟩
  go_quiet (first | (go_at_call_of 87 Y; exact Calls.quiet_of (HM.out _)) | (go_at_call 87; exact Calls.quiet_of_same (HY.out _)))
  go_wp2
  go_ret
  refine ⟨ret_intD (by unfold dn; omega), Below.next HF.out (drewN_below _ _)⟩

set_option maxHeartbeats 800000 in
theorem isThere_any (y m d : Int) (w : World) (ht : Tab w) (B : Bool) (hb : B = true ↔ 1900 ≤ y ∧ 0 ≤ m ∧ 0 ≤ d ∧ Dt (y - 1900).toNat m.toNat d.toNat) :
    Calls Tryd.prog 82 #[.agg #[.int .i64 y, .int .i64 m, .int .i64 d]] w fun e w' => e = .returned (.bool B) ∧ Below w.heap.size w w' := by
  have hB := (Below.refl w.heap.size w).alloc (Nat.le_refl _) (.cells #[.int .i64 y, .int .i64 m, .int .i64 d] 100)
  have ht' := ht.below hB
  obtain ⟨c0, c1, c2⟩ := laid3 w (.int .i64 y) (.int .i64 m) (.int .i64 d)
  clear ht
  have HF : Hid (Below w.heap.size w (w.alloc (.cells #[.int .i64 y, .int .i64 m, .int .i64 d] 100))) := hB
  have HBB : Hid (B = true ↔ 1900 ≤ y ∧ 0 ≤ m ∧ 0 ≤ d ∧ Dt (y - 1900).toNat m.toNat d.toNat) := hb
  clear hB hb
  go_enter Tryd.func82, Tryd.ntmps82
  go_wp2_with fail
  generalize w.alloc (.cells #[.int .i64 y, .int .i64 m, .int .i64 d] 100) = W at *
  have HT : Hid (Tab W) := ht'
  clear ht'
  by_cases h0 : 1900 ≤ y
  · skip
    by_cases h1 : y ≤ 2099
    · skip
      by_cases h2 : 0 ≤ m
      · skip
        by_cases h3 : m < 12
        · skip
          by_cases h4 : 1 ≤ d
          · skip
            obtain ⟨y', rfl⟩ := Int.eq_ofNat_of_zero_le (a := y) (by omega)
            obtain ⟨m', rfl⟩ := Int.eq_ofNat_of_zero_le (a := m) (by omega)
            obtain ⟨d', rfl⟩ := Int.eq_ofNat_of_zero_le (a := d) (by omega)
            have hm2 := ml_le y' (m := m') (by omega)
            go_quiet ((go_at_call 86; exact Calls.quiet_of (month_any y' m' (by omega) (by omega) _ HT.out)))
            go_wp2
            go_ret
            refine ⟨ret_bool ?_, Below.next HF.out (drewN_below _ _)⟩
            have e := HBB.out
            have e2 : 1900 + ((y' : Int) - 1900).toNat = y' := by omega
            unfold Dt at e
            rw [e2] at e
            simp only [Int.toNat_natCast] at e
            rw [Bool.eq_iff_iff, e]
            simp only [decide_eq_true_eq]
            omega
          · have g4 : decide (1 ≤ d) = false := decide_eq_false h4
            go_quiet (fail)
            go_wp2
            go_ret
            refine ⟨ret_bool ?_, Below.next HF.out (drewN_below _ _)⟩
            cases B
            · rfl
            · have := HBB.out.1 rfl
              unfold Dt at this
              omega
        · have g3 : decide (m < 12) = false := decide_eq_false h3
          go_quiet (fail)
          go_wp2
          go_ret
          refine ⟨ret_bool ?_, Below.next HF.out (drewN_below _ _)⟩
          cases B
          · rfl
          · have := HBB.out.1 rfl
            unfold Dt at this
            omega
      · have g2 : decide (0 ≤ m) = false := decide_eq_false h2
        go_quiet (fail)
        go_wp2
        go_ret
        refine ⟨ret_bool ?_, Below.next HF.out (drewN_below _ _)⟩
        cases B
        · rfl
        · have := HBB.out.1 rfl
          unfold Dt at this
          omega
    · have g1 : decide (y ≤ 2099) = false := decide_eq_false h1
      go_quiet (fail)
      go_wp2
      go_ret
      refine ⟨ret_bool ?_, Below.next HF.out (drewN_below _ _)⟩
      cases B
      · rfl
      · have := HBB.out.1 rfl
        unfold Dt at this
        omega
  · have g0 : decide (1900 ≤ y) = false := decide_eq_false h0
    go_quiet (fail)
    go_wp2
    go_ret
    refine ⟨ret_bool ?_, Below.next HF.out (drewN_below _ _)⟩
    cases B
    · rfl
    · have := HBB.out.1 rfl
      unfold Dt at this
      omega
end Go.Proofs.YtommhgmlblecnaaDoor
namespace Go.Proofs.YtommhgmlblecnaaDoor
open Go Go.RowKit

theorem laid3_below {w w' : World} {a b c : Value} (hB : Below (w.alloc (.cells #[a, b, c] 100)).heap.size (w.alloc (.cells #[a, b, c] 100)) w') :
    w'.cell? ⟨w.heap.size, 0, none⟩ = some a ∧ w'.cell? ⟨w.heap.size, 1, none⟩ = some b ∧ w'.cell? ⟨w.heap.size, 2, none⟩ = some c := by
  obtain ⟨h0, h1, h2⟩ := laid3 w a b c
  exact ⟨by rw [hB.cell (World.block_lt_of_cell? _ _ h0)]; exact h0, by rw [hB.cell (World.block_lt_of_cell? _ _ h1)]; exact h1, by rw [hB.cell (World.block_lt_of_cell? _ _ h2)]; exact h2⟩
theorem Below.laid {w w1 : World} (h : Below w.heap.size w w1) (o : Obj) : Below w.heap.size w (w1.alloc o) := h.alloc h.size o
/-- A date as it is handed in. -/
def Valid (y m d : Int) : Prop := 1900 ≤ y ∧ 1 ≤ m ∧ 0 ≤ d ∧ Dt (y - 1900).toNat (m - 1).toNat d.toNat
instance (y m d : Int) : Decidable (Valid y m d) := by unfold Valid; infer_instance
def ofV (y m d : Int) : Value := if Valid y m d then .tuple #[.int .i64 (dn (y - 1900).toNat (m - 1).toNat d.toNat : Nat), .int .i64 0] else .tuple #[.int .i64 0, .int .i64 30]

set_option maxHeartbeats 800000 in
theorem of_any (y m d : Int) (hm : -9223372036854775808 ≤ m ∧ m ≤ 9223372036854775807) (w : World) (ht : Tab w) :
    Calls Tryd.prog 73 #[.int .i64 y, .int .i64 m, .int .i64 d] w fun e w' => e = .returned (ofV y m d) ∧ Below w.heap.size w w' := by
  have HT := hid ht
  clear ht
  unfold ofV
  by_cases hv : Valid y m d
  · rw [if_pos hv]
    have hw1 : wrap64 (m - 1) = m - 1 := IntWalk.wrap64_in _ ⟨by have := hv.2.1; omega, by omega⟩
    obtain ⟨h0, h1, h2, h3⟩ := hv
    obtain ⟨y', hy⟩ := Int.eq_ofNat_of_zero_le (a := y - 1900) (by omega)
    obtain ⟨m', hm'⟩ := Int.eq_ofNat_of_zero_le (a := m - 1) (by omega)
    obtain ⟨d', rfl⟩ := Int.eq_ofNat_of_zero_le (a := d) (by omega)
    rw [hy, hm'] at h3 ⊢
    simp only [Int.toNat_natCast] at h3 ⊢
    have HD := hid (fun w ht => dayNumber_any y' m' d' h3 y (by omega) w ht)
    have HI := hid (fun w ht => isThere_any y m' d' w ht true (by rw [hy]; simp only [Int.toNat_natCast]; simp [h3]; omega))
    rw [hm'] at hw1
    clear h0 h1 h2 h3 hy
    go_enter Tryd.func73, Tryd.ntmps73
    go_wp2_with fail
    refine (calendarDate_any y m d' _).mono ?_
    rintro e w1 ⟨rfl, hB1⟩
    rw [hm', hw1]
    clear hm' hw1
    have hB2 := Below.laid hB1 (.cells #[.int .i64 y, .int .i64 m', .int .i64 d'] 100)
    go_wp2_with fail
    refine (HI.out _ (HT.out.below hB2)).mono ?_
    rintro e w2 ⟨rfl, hB3⟩
    obtain ⟨c0, c1, c2⟩ := laid3_below hB3
    have hB4 := Below.next hB2 hB3
    clear hB1 hB2 hB3
    go_wp2_with fail
    refine (HD.out _ (HT.out.below hB4)).mono ?_
    rintro e w3 ⟨rfl, hB5⟩
    have hB6 := Below.next hB4 hB5
    go_wp2
    go_ret2
    exact ⟨rfl, hB6⟩
  · rw [if_neg hv]
    have HI := hid (fun w ht => isThere_any y (wrap64 (m - 1)) d w ht false (by
      constructor
      · intro h; cases h
      · rintro ⟨a, b, c, dd⟩
        exfalso; apply hv
        by_cases hmm : 1 ≤ m
        · rw [IntWalk.wrap64_in _ ⟨by omega, by omega⟩] at dd
          exact ⟨a, hmm, c, dd⟩
        · exfalso
          by_cases hl : m = -9223372036854775808
          · subst hl
            have e : wrap64 (-9223372036854775808 - 1) = 9223372036854775807 := by kernel_rfl
            have := dd.2.1
            rw [e] at this
            omega
          · rw [IntWalk.wrap64_in _ ⟨by omega, by omega⟩] at b; omega))
    go_enter Tryd.func73, Tryd.ntmps73
    go_wp2_with fail
    refine (calendarDate_any y m d _).mono ?_
    rintro e w1 ⟨rfl, hB1⟩
    generalize wrap64 (m - 1) = M at *
    have hB2 := Below.laid hB1 (.cells #[.int .i64 y, .int .i64 M, .int .i64 d] 100)
    go_wp2_with fail
    refine (HI.out _ (HT.out.below hB2)).mono ?_
    rintro e w2 ⟨rfl, hB3⟩
    have hB4 := Below.next hB2 hB3
    clear hB1 hB2 hB3
    go_wp2
    go_ret2
    exact ⟨rfl, hB4⟩


end Go.Proofs.YtommhgmlblecnaaDoor
namespace Go.Proofs.YtommhgmlblecnaaDoor
open Go Go.RowKit

end Go.Proofs.YtommhgmlblecnaaDoor
namespace Go.Proofs.YtommhgmlblecnaaDoor
open Go Go.RowKit

/-- What a few digits say. -/
def dgOk (l : List UInt8) : Bool := l.all fun c => decide (48 ≤ c.toNat ∧ c.toNat ≤ 57)
def dgV (l : List UInt8) : Nat := l.foldl (fun n c => n * 10 + (c.toNat - 48)) 0
theorem dgOk_take {l : List UInt8} (k : Nat) (h : k < l.length) : dgOk (l.take (k + 1)) = (dgOk (l.take k) && decide (48 ≤ (l.getD k 0).toNat ∧ (l.getD k 0).toNat ≤ 57)) := by
  unfold dgOk
  rw [List.take_add_one, List.all_append]
  simp [List.getD, h]
theorem dgV_take {l : List UInt8} (k : Nat) (h : k < l.length) : dgV (l.take (k + 1)) = dgV (l.take k) * 10 + ((l.getD k 0).toNat - 48) := by
  unfold dgV
  rw [List.take_add_one, List.foldl_append]
  simp [List.getD, h]
theorem dgV_lt : ∀ (l : List UInt8) (n : Nat), l.length ≤ n → dgOk l = true → dgV l < 10 ^ n := by
  intro l n hn ho
  have key : ∀ (l : List UInt8) (a : Nat), dgOk l = true → l.foldl (fun n c => n * 10 + (c.toNat - 48)) a < (a + 1) * 10 ^ l.length := by
    intro l
    induction l with
    | nil => intro a _; simp
    | cons c r ih =>
      intro a h
      unfold dgOk at h
      rw [List.all_cons, Bool.and_eq_true, decide_eq_true_eq] at h
      have h1 := ih (a * 10 + (c.toNat - 48)) h.2
      rw [List.foldl_cons]
      refine Nat.lt_of_lt_of_le h1 ?_
      rw [List.length_cons, Nat.pow_succ, Nat.mul_comm (10 ^ r.length) 10, ← Nat.mul_assoc]
      exact Nat.mul_le_mul_right _ (by omega)
  have h := key l 0 ho
  unfold dgV
  refine Nat.lt_of_lt_of_le h ?_
  rw [Nat.zero_add, Nat.one_mul]
  exact Nat.pow_le_pow_right (by omega) hn
theorem dgOk_all {l : List UInt8} (k : Nat) (h : k < l.length) (hn : decide (48 ≤ (l.getD k 0).toNat ∧ (l.getD k 0).toNat ≤ 57) = false) : dgOk l = false := by
  unfold dgOk
  rw [List.all_eq_false]
  refine ⟨l[k], List.getElem_mem h, ?_⟩
  simp [List.getD, h] at hn
  simpa using hn

set_option maxHeartbeats 800000 in
theorem digits_any (s : ByteArray) (hs : s.size ≤ 10) (w : World) :
    Calls Tryd.prog 72 #[.string s] w fun e w' => e = .returned (if dgOk s.data.toList then .tuple #[.int .i64 (dgV s.data.toList : Nat), .bool true] else .tuple #[.int .i64 0, .bool false]) ∧ w' = w := by
  have hsz : s.data.toList.length = s.size := by rw [Array.length_toList]; rfl
  generalize hR : (if dgOk s.data.toList then Value.tuple #[.int .i64 (dgV s.data.toList : Nat), .bool true] else .tuple #[.int .i64 0, .bool false]) = R
  have HR := hid hR
  have HZ := hid hsz
  clear hR hsz
  go_enter Tryd.func72, Tryd.ntmps72
  go_wp2_with fail
  go_loop [4, 8] (fun a b => ∃ k : Nat, k ≤ s.size ∧ b = .int .i64 k ∧ a = .int .i64 (dgV (s.data.toList.take k) : Nat) ∧ dgOk (s.data.toList.take k) = true) (fun _ b => s.size - (intOf b).toNat)
  case atStart => exact ⟨0, by omega, rfl, rfl, rfl⟩
  case round =>
    obtain ⟨k, hk, rfl, rfl, hok⟩ := hrel
    have hb := dgV_lt (s.data.toList.take k) 10 (by rw [List.length_take]; omega) hok
    have HK := hid hok
    clear hok
    by_cases hlt : k < s.size
    · have hc : s.data.toList.getD k 0 = s[k] := by
        have : k < s.data.toList.length := by rw [HZ.out]; exact hlt
        rw [List.getD, List.getElem?_eq_getElem this, Option.getD_some, Array.getElem_toList]; rfl
      have h1 := dgOk_take (l := s.data.toList) k (by rw [HZ.out]; exact hlt)
      have h2 := dgV_take (l := s.data.toList) k (by rw [HZ.out]; exact hlt)
      have h3 := dgOk_all (l := s.data.toList) k (by rw [HZ.out]; exact hlt)
      rw [hc] at h1 h2 h3
      have H1 := hid h1
      have H2 := hid h2
      have H3 := hid h3
      clear h1 h2 h3 hc
      go_wp2
      case roundEnd =>
        rename_i q0 q1
        refine ⟨⟨k + 1, by omega, rfl, ?_, ?_⟩, by simp [intOf]; omega⟩
        · have := H2.out
          congr 1; omega
        · rw [H1.out, HK.out, Bool.true_and, decide_eq_true_eq]; omega
      all_goals
        go_ret2
        refine ⟨?_, rfl⟩
        have hno := H3.out (by rw [decide_eq_false_iff_not]; omega)
        rw [← HR.out, if_neg (by rw [hno]; simp)]
        rfl
    · have : k = s.size := by omega
      subst this
      go_wp2
      go_ret2
      refine ⟨?_, rfl⟩
      have hok := HK.out
      have e : s.data.toList.take s.size = s.data.toList := by rw [← HZ.out]; exact List.take_length
      rw [e] at hok
      rw [← HR.out, if_pos hok, e]
      rfl
end Go.Proofs.YtommhgmlblecnaaDoor
namespace Go.Proofs.YtommhgmlblecnaaDoor
open Go Go.RowKit



end Go.Proofs.YtommhgmlblecnaaDoor
namespace Go.Proofs.YtommhgmlblecnaaDoor
open Go Go.RowKit

/-- What a text says. -/
def parseV (l : List UInt8) : Value :=
  if l.length = 10 ∧ l.getD 4 0 = 45 ∧ l.getD 7 0 = 45 ∧ dgOk (l.take 4) = true ∧ dgOk ((l.drop 5).take 2) = true ∧ dgOk (l.drop 8) = true then
    ofV (dgV (l.take 4) : Nat) (dgV ((l.drop 5).take 2) : Nat) (dgV (l.drop 8) : Nat) else .tuple #[.int .i64 0, .int .i64 30]

theorem ext_listD (s : ByteArray) (a b : Nat) : (s.extract a b).data.toList = (s.data.toList.drop a).take (b - a) := by
  rw [ByteArray.data_extract, Array.toList_extract, List.extract_eq_take_drop]
theorem at_byte (s : ByteArray) (k : Nat) (h : k < s.size) : s.data.toList.getD k 0 = s[k] := by
  have : k < s.data.toList.length := by rw [Array.length_toList]; exact h
  rw [List.getD, List.getElem?_eq_getElem this, Option.getD_some, Array.getElem_toList]; rfl
/-- digits, with its answer taken apart. -/
theorem digits_two (s : ByteArray) (hs : s.size ≤ 10) : ∃ (n : Nat) (b : Bool), b = dgOk s.data.toList ∧ (b = true → n = dgV s.data.toList) ∧ ∀ w : World,
    Calls Tryd.prog 72 #[.string s] w fun e w' => e = .returned (.tuple #[.int .i64 n, .bool b]) ∧ w' = w := by
  by_cases h : dgOk s.data.toList = true
  · refine ⟨dgV s.data.toList, true, h.symm, fun _ => rfl, fun w => ?_⟩
    have := digits_any s hs w
    rw [if_pos h] at this
    exact this
  · refine ⟨0, false, by simpa using h, fun h => (by cases h), fun w => ?_⟩
    have := digits_any s hs w
    rw [if_neg h] at this
    exact this

set_option maxRecDepth 100000 in
set_option maxHeartbeats 800000 in
theorem dparse_any (s : ByteArray) (w : World) (ht : Tab w) :
    Calls Tryd.prog 62 #[.string s] w fun e w' => e = .returned (parseV s.data.toList) ∧ Below w.heap.size w w' := by
  have hsz : s.data.toList.length = s.size := by rw [Array.length_toList]; rfl
  have HZ := hid hsz
  have HT := hid ht
  clear hsz ht
  by_cases h10 : s.size = 10
  · have b4 := at_byte s 4 (by omega)
    have b7 := at_byte s 7 (by omega)
    by_cases h4 : (s[4].toNat : Int) = 45
    · by_cases h7 : (s[7].toNat : Int) = 45
      · have x1 := ext_listD s 0 4
        have x2 := ext_listD s 5 7
        have x3 := ext_listD s 8 10
        obtain ⟨n1, o1, ho1, hn1, D1⟩ := digits_two (s.extract 0 4) (by simp; omega)
        obtain ⟨n2, o2, ho2, hn2, D2⟩ := digits_two (s.extract 5 7) (by simp; omega)
        obtain ⟨n3, o3, ho3, hn3, D3⟩ := digits_two (s.extract 8 10) (by simp; omega)
        have e3 : (s.data.toList.drop 8).take (10 - 8) = s.data.toList.drop 8 := List.take_of_length_le (by rw [List.length_drop, HZ.out]; omega)
        rw [x1, List.drop_zero] at ho1 hn1
        rw [x2] at ho2 hn2
        rw [x3, e3] at ho3 hn3
        have c4 : s.data.toList.getD 4 0 = 45 := by rw [b4]; exact u8_ext (by have : (45 : UInt8).toNat = 45 := rfl; omega)
        have c7 : s.data.toList.getD 7 0 = 45 := by rw [b7]; exact u8_ext (by have : (45 : UInt8).toNat = 45 := rfl; omega)
        have hp : parseV s.data.toList = if o1 && o2 && o3 then ofV n1 n2 n3 else .tuple #[.int .i64 0, .int .i64 30] := by
          unfold parseV
          by_cases ho : (o1 && o2 && o3) = true
          · rw [if_pos ho]
            simp only [Bool.and_eq_true] at ho
            rw [if_pos ⟨by rw [HZ.out]; exact h10, c4, c7, by rw [← ho.1.1]; exact ho1.symm, by rw [← ho.1.2]; exact ho2.symm, by rw [← ho.2]; exact ho3.symm⟩]
            rw [← hn1 ho.1.1, ← hn2 ho.1.2, ← hn3 ho.2]
          · rw [if_neg ho, if_neg]
            rintro ⟨_, _, _, g1, g2, g3⟩
            apply ho
            rw [ho1, ho2, ho3]
            simp only [Bool.and_eq_true]
            exact ⟨⟨g1, g2⟩, g3⟩
        rw [hp]
        have HD1 := hid D1
        have HD2 := hid D2
        have HD3 := hid D3
        have n2b : n2 ≤ 9223372036854775807 ∨ o2 = false := by
          cases o2
          · exact .inr rfl
          · left
            rw [hn2 rfl]
            have := dgV_lt _ 2 (by rw [List.length_take]; omega) ho2.symm
            omega
        clear b4 b7 x1 x2 x3 D1 D2 D3 e3 c4 c7 hp ho1 ho2 ho3 hn1 hn2 hn3
        go_enter Tryd.func62, Tryd.ntmps62
        go_wp2_with fail
        refine (HD1.out _).mono ?_
        rintro e w1 ⟨rfl, rfl⟩
        go_wp2_with fail
        refine (HD2.out _).mono ?_
        rintro e w1 ⟨rfl, rfl⟩
        go_wp2_with fail
        refine (HD3.out _).mono ?_
        rintro e w1 ⟨rfl, rfl⟩
        cases o1
        · go_wp2
          go_ret2
          exact ⟨rfl, Below.refl _ _⟩
        · cases o2
          · go_wp2
            go_ret2
            exact ⟨rfl, Below.refl _ _⟩
          · cases o3
            · go_wp2
              go_ret2
              exact ⟨rfl, Below.refl _ _⟩
            · have hn2b : (n2 : Int) ≤ 9223372036854775807 := by
                rcases n2b with h | h
                · omega
                · cases h
              have hofp : ∃ x y, ofV n1 n2 n3 = .tuple #[.int .i64 x, .int .i64 y] := by
                unfold ofV
                split
                · exact ⟨_, _, rfl⟩
                · exact ⟨_, _, rfl⟩
              obtain ⟨X, Y, hXY⟩ := hofp
              have HO := hid (of_any n1 n2 n3 (by omega) w1 HT.out)
              rw [hXY] at HO
              have HE := hid hXY
              clear hXY n2b
              go_wp2_with fail
              refine HO.out.mono ?_
              rintro e w2 ⟨rfl, hB⟩
              go_wp2
              go_ret2
              refine ⟨?_, hB⟩
              rw [HE.out]
              rfl
      · go_enter Tryd.func62, Tryd.ntmps62
        go_wp2
        go_ret2
        refine ⟨?_, Below.refl _ _⟩
        unfold parseV
        rw [if_neg (by rintro ⟨_, _, h, _⟩; rw [b7] at h; apply h7; rw [h]; rfl)]
        rfl
    · go_enter Tryd.func62, Tryd.ntmps62
      go_wp2
      go_ret2
      refine ⟨?_, Below.refl _ _⟩
      unfold parseV
      rw [if_neg (by rintro ⟨_, h, _⟩; rw [b4] at h; apply h4; rw [h]; rfl)]
      rfl
  · go_enter Tryd.func62, Tryd.ntmps62
    go_wp2
    go_ret2
    refine ⟨?_, Below.refl _ _⟩
    unfold parseV
    rw [if_neg (by rw [HZ.out]; exact fun h => h10 h.1)]
    rfl
end Go.Proofs.YtommhgmlblecnaaDoor
