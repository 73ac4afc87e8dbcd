/- the text PRefD -/
import Derived.Test.YtcmgclkbhhdnaaaGreatDoorPRefCC
namespace Go.Proofs.YtcmgclkbhhdnaaaGreatDoor
open Go Go.RowKit

/-- What a page's pointer is. -/
theorem Rp.row {w : World} {B : Nat} {a : Option Addr} {n c : Nat} {al : List (Option Nat)} {cur : Pgs} (hp : w.ownsRow B 148 1 (.slice a n c) n (al.map pV)) (hs : Sp w al cur) {q : Nat} (hq : q < cur.length) :
    n ≤ c ∧ ∃ g, a = some ⟨g, 0, none⟩ ∧ (∃ cs, w.heap[g]? = some (.cells cs 148 (0, 0))) ∧ (cur[q]? = some none ∧ al[q]? = some none ∧ w.cell? ⟨g, q, none⟩ = some (.pointer none) ∨ ∃ y b, cur[q]? = some (some b) ∧ al[q]? = some (some y) ∧ w.cell? ⟨g, q, none⟩ = some (.pointer (some ⟨y, 0, none⟩)) ∧ w.heap[y]? = some (.cells #[strV b] 9 (0, 0))) := by
  have hal : q < al.length := by rw [hs.1]; exact hq
  have hx : (al.map pV)[q]? = some (pV al[q]) := by rw [List.getElem?_map, List.getElem?_eq_getElem hal]; rfl
  obtain ⟨g, rfl, hc, hcs⟩ := owns_at hp hx
  have hlen : n ≤ c := by
    rcases hp.2 with ⟨e, _⟩ | ⟨g', cap, cs, e, _, _, hcc, _⟩
    · cases e
    · injection e with _ _ e3; omega
  refine ⟨hlen, g, rfl, hcs, ?_⟩
  have hq2 := hs.2 q
  have hae : al[q]? = some al[q] := List.getElem?_eq_getElem hal
  generalize al[q] = x at *
  cases x with
  | none => exact .inl ⟨hq2.1 hae, hae, hc⟩
  | some y =>
    obtain ⟨b, hb, hh⟩ := hq2.2 y hae
    exact .inr ⟨y, b, hb, hae, hc, hh⟩
set_option maxRecDepth 100000 in
set_option maxHeartbeats 400000 in
theorem rread_some {w : World} {B r : Nat} {cur was : Pgs} {rt wr : Int} {ch : Bool} (h : Rp w B r cur was rt wr ch) (q : Nat) (b : List UInt8) (hq : cur[q]? = some (some b)) :
    Calls Tryz.prog 46 #[.pointer (some ⟨r, 0, none⟩), .int .i64 q] w fun e w' => e = .returned (.tuple #[strV b, .int .i64 0]) ∧ w' = w := by
  have ht := rtaken_any h (q : Int)
  have e1 : (decide ((0 : Int) ≤ (q : Int)) && (cur[(q : Int).toNat]?.getD none).isSome) = true := by simp [hq]
  rw [e1] at ht
  have HT := hid ht
  have hql := (List.getElem?_eq_some_iff.1 hq).1
  obtain ⟨_, vp, vw, al, be, hr, hp, _, hs, _, _⟩ := h
  obtain ⟨a, c, rfl⟩ := owns_shape hp
  have c0 : w.cell? ⟨r, 0, none⟩ = some (.slice a cur.length c) := cell_at hr 0 rfl
  obtain ⟨hnc, g, rfl, _, hor⟩ := Rp.row hp hs hql
  rcases hor with ⟨h1, _, _⟩ | ⟨y, b', h1, _, hc, hh⟩
  · rw [hq] at h1; cases h1
  · rw [hq] at h1
    cases h1
    have cy : w.cell? ⟨y, 0, none⟩ = some (strV b) := cell_at hh 0 rfl
    generalize cur.length = n at *
    clear hr hp hs hh ht e1 hq
    generalize strV b = sb at *
    go_enter Tryz.func46, Tryz.ntmps46
    go_wp2_with fail
    refine HT.out.mono ?_
    rintro e wz ⟨rfl, hwz⟩
    obtain rfl := hwz.symm
    clear HT
    go_wp2
    go_ret2
    exact ⟨rfl, rfl⟩
theorem rread_none {w : World} {B r : Nat} {cur was : Pgs} {rt wr : Int} {ch : Bool} (h : Rp w B r cur was rt wr ch) (k : Int) (hk : (decide (0 ≤ k) && (cur[k.toNat]?.getD none).isSome) = false) :
    Calls Tryz.prog 46 #[.pointer (some ⟨r, 0, none⟩), .int .i64 k] w fun e w' => e = .returned (.tuple #[strV [], .int .i64 81]) ∧ w' = w := by
  have ht := rtaken_any h k
  rw [hk] at ht
  have HT := hid ht
  clear h ht hk
  go_enter Tryz.func46, Tryz.ntmps46
  go_wp2_with fail
  refine HT.out.mono ?_
  rintro e wz ⟨rfl, hwz⟩
  obtain rfl := hwz.symm
  clear HT
  go_wp2
  go_ret2
  exact ⟨rfl, rfl⟩
end Go.Proofs.YtcmgclkbhhdnaaaGreatDoor
