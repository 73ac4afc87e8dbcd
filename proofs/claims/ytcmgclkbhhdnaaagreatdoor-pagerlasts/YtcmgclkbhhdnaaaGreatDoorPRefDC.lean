/- the text PRefD -/
import Derived.Test.YtcmgclkbhhdnaaaGreatDoorPRefCC
namespace Go.Proofs.YtcmgclkbhhdnaaaGreatDoor
open Go Go.RowKit
variable {Z : Nat → Prop}

/-- What a page's pointer is. -/
theorem Rp.row {w : World} {B : Nat} {a : Option Addr} {n c : Nat} {al : List (Option Nat)} {cur : Pgs} (hp : w.ownsRow B 148 1 (.slice a n c) n (al.map pV)) (hs : Sp w al cur) {q : Nat} (hq : q < cur.length) :
    n ≤ c ∧ ∃ g, a = some ⟨g, 0, none⟩ ∧ (∃ cs, w.heap[g]? = some (.cells cs 148 (0, 0))) ∧ (cur[q]? = some none ∧ al[q]? = some none ∧ w.cell? ⟨g, q, none⟩ = some (.pointer none) ∨ ∃ y b, cur[q]? = some (some b) ∧ al[q]? = some (some y) ∧ w.cell? ⟨g, q, none⟩ = some (.pointer (some ⟨y, 0, none⟩)) ∧ w.heap[y]? = some (.cells #[strV b] 9 (0, 0))) := by
  have hal : q < al.length := by rw [hs.1]; exact hq
  have hx : (al.map pV)[q]? = some (pV al[q]) := by rw [List.getElem?_map, List.getElem?_eq_getElem hal]; rfl
  obtain ⟨g, rfl, hc, hcs⟩ := owns_at hp hx
  have hlen : n ≤ c := by
    rcases hp.2 with ⟨e, _⟩ | ⟨g', cap, cs, e, _, _, hcc, _⟩
    · cases e
    · injection e with _ _ e3; omega
  refine ⟨hlen, g, rfl, hcs, ?_⟩
  have hq2 := hs.2 q
  have hae : al[q]? = some al[q] := List.getElem?_eq_getElem hal
  generalize al[q] = x at *
  cases x with
  | none => exact .inl ⟨hq2.1 hae, hae, hc⟩
  | some y =>
    obtain ⟨b, hb, hh⟩ := hq2.2 y hae
    exact .inr ⟨y, b, hb, hae, hc, hh⟩
set_option maxRecDepth 100000 in
set_option maxHeartbeats 400000 in
theorem rleft_any {w : World} {B r : Nat} {cur was : Pgs} {rt wr : Int} {ch : Bool} (h : Rp Z w B r cur was rt wr ch) (hl : cur.length ≤ 1023) :
    Calls Tryz.prog 49 #[.pointer (some ⟨r, 0, none⟩)] w fun e w' => e = .returned (.int .i64 (nf cur)) ∧ w' = w := by
  obtain ⟨_, vp, vw, al, be, hr, hp, _, hs, _, _⟩ := h
  obtain ⟨a, c, rfl⟩ := owns_shape hp
  have c0 : w.cell? ⟨r, 0, none⟩ = some (.slice a cur.length c) := cell_at hr 0 rfl
  obtain ⟨n, hn⟩ : ∃ n, cur.length = n := ⟨_, rfl⟩
  rw [hn] at c0 hp hl
  have HR := hid (And.intro hp (And.intro hs hn))
  have HL := hid hl
  clear hr hp hs hn hl
  go_enter Tryz.func49, Tryz.ntmps49
  go_wp2_with fail
  go_loopw [3, 4] (fun x y wv => ∃ k : Nat, k ≤ n ∧ y = .int .i64 k ∧ x = .int .i64 (lef ((tk cur).take k) : Nat) ∧ wv = w) (fun _ y _ => n - (intOf y).toNat)
  case atStart => exact ⟨0, Nat.zero_le _, rfl, by simp [lef], rfl⟩
  case round =>
    obtain ⟨k, hk, rfl, rfl, hwv⟩ := hrel
    obtain rfl := hwv.symm
    have hll := HL.out
    have hwk : IntKind.i64.wrap ((k : Int) + 1) = ((k + 1 : Nat) : Int) := by rw [IntWalk.i64_in _ ⟨by omega, by omega⟩]; omega
    by_cases hlt : k < n
    · have hlt' : (k : Int) < (n : Int) := by omega
      have hr := HR.out
      obtain ⟨hnc, g, rfl, _, hor⟩ := Rp.row hr.1 hr.2.1 (q := k) (by rw [hr.2.2]; exact hlt)
      have hle : lef ((tk cur).take k) ≤ k := by have := lef_le ((tk cur).take k); rw [List.length_take] at this; omega
      obtain ⟨m, hm⟩ : ∃ m, lef ((tk cur).take k) = m := ⟨_, rfl⟩
      rw [hm] at hle ⊢
      have hwm : IntKind.i64.wrap ((m : Int) + 1) = ((m + 1 : Nat) : Int) := by rw [IntWalk.i64_in _ ⟨by omega, by omega⟩]; omega
      have HK := hid hlt
      rcases hor with ⟨h1, _, hc⟩ | ⟨y, b, h1, _, hc, _⟩
      · have hst : lef ((tk cur).take (k + 1)) = m + 1 := by
          rw [lef_take (tk cur) k false (by rw [tk_get, h1]; rfl), hm]; rfl
        have HST := hid hst
        clear hr h1 hst hle hk hlt hll hm
        go_wp2_with fail
        exact ⟨⟨k + 1, HK.out, rfl, by rw [HST.out]; rfl, trivial⟩, by have := HK.out; simp [intOf]; omega⟩
      · have hst : lef ((tk cur).take (k + 1)) = m := by
          rw [lef_take (tk cur) k true (by rw [tk_get, h1]; rfl), hm]; rfl
        have HST := hid hst
        clear hr h1 hst hle hk hlt hll hm
        go_wp2_with fail
        exact ⟨⟨k + 1, HK.out, rfl, by rw [HST.out], trivial⟩, by have := HK.out; simp [intOf]; omega⟩
    · obtain rfl : k = n := by omega
      have hlt' : ¬ (k : Int) < (k : Int) := by omega
      have hz : (tk cur).take k = tk cur := List.take_of_length_le (by rw [tk_len, HR.out.2.2]; omega)
      rw [hz]
      have HE : Hid (lef (tk cur) = nf cur) := hid rfl
      generalize lef (tk cur) = m at *
      clear hk hlt hll hz
      go_wp2_with fail
      go_ret
      exact ⟨by rw [← HE.out]; rfl, rfl⟩
set_option maxRecDepth 100000 in
set_option maxHeartbeats 400000 in
theorem rread_some {w : World} {B r : Nat} {cur was : Pgs} {rt wr : Int} {ch : Bool} (h : Rp Z w B r cur was rt wr ch) (q : Nat) (b : List UInt8) (hq : cur[q]? = some (some b)) :
    Calls Tryz.prog 46 #[.pointer (some ⟨r, 0, none⟩), .int .i64 q] w fun e w' => e = .returned (.tuple #[strV b, .int .i64 0]) ∧ w' = w := by
  have ht := rtaken_any h (q : Int)
  have e1 : (decide ((0 : Int) ≤ (q : Int)) && (cur[(q : Int).toNat]?.getD none).isSome) = true := by simp [hq]
  rw [e1] at ht
  have HT := hid ht
  have hql := (List.getElem?_eq_some_iff.1 hq).1
  obtain ⟨_, vp, vw, al, be, hr, hp, _, hs, _, _⟩ := h
  obtain ⟨a, c, rfl⟩ := owns_shape hp
  have c0 : w.cell? ⟨r, 0, none⟩ = some (.slice a cur.length c) := cell_at hr 0 rfl
  obtain ⟨hnc, g, rfl, _, hor⟩ := Rp.row hp hs hql
  rcases hor with ⟨h1, _, _⟩ | ⟨y, b', h1, _, hc, hh⟩
  · rw [hq] at h1; cases h1
  · rw [hq] at h1
    cases h1
    have cy : w.cell? ⟨y, 0, none⟩ = some (strV b) := cell_at hh 0 rfl
    generalize cur.length = n at *
    clear hr hp hs hh ht e1 hq
    generalize strV b = sb at *
    go_enter Tryz.func46, Tryz.ntmps46
    go_wp2_with fail
    refine HT.out.mono ?_
    rintro e wz ⟨rfl, hwz⟩
    obtain rfl := hwz.symm
    clear HT
    go_wp2
    go_ret2
    exact ⟨rfl, rfl⟩
theorem rread_none {w : World} {B r : Nat} {cur was : Pgs} {rt wr : Int} {ch : Bool} (h : Rp Z w B r cur was rt wr ch) (k : Int) (hk : (decide (0 ≤ k) && (cur[k.toNat]?.getD none).isSome) = false) :
    Calls Tryz.prog 46 #[.pointer (some ⟨r, 0, none⟩), .int .i64 k] w fun e w' => e = .returned (.tuple #[strV [], .int .i64 81]) ∧ w' = w := by
  have ht := rtaken_any h k
  rw [hk] at ht
  have HT := hid ht
  clear h ht hk
  go_enter Tryz.func46, Tryz.ntmps46
  go_wp2_with fail
  refine HT.out.mono ?_
  rintro e wz ⟨rfl, hwz⟩
  obtain rfl := hwz.symm
  clear HT
  go_wp2
  go_ret2
  exact ⟨rfl, rfl⟩
end Go.Proofs.YtcmgclkbhhdnaaaGreatDoor
