/- the text PBoth -/
import Derived.Test.YtcmgclkbhhdnaaaGreatDoorPRefIC
import Derived.Test.YtcmgclkbhhdnaaaGreatDoorPGuardC
namespace Go.Proofs.YtcmgclkbhhdnaaaGreatDoor
open Go Go.RowKit

theorem Pv.Bw {B : Nat} {w : World} {p j d : Nat} {s : DS} {sq : Nat} {bl : List (List UInt8)} {cur was : Pgs} {rt wr : Int} (h : Pv B w p j d s sq bl cur was rt wr) : B ≤ w.heap.size := by
  obtain ⟨X, cnt, bg, um, bm, u, g, h⟩ := h
  exact h.Bw
/-- Both. (What lies committed may be other: wa, wo.) -/
def Bo (B : Nat) (w : World) (p j d r : Nat) (s : DS) (sq : Nat) (bl : List (List UInt8)) (cur was : Pgs) (rt wr : Int) (wa : Pgs) (wo : Int) : Prop := Pv B w p j d s sq bl cur was rt wr ∧ ∃ ch, Rp w B r cur wa rt wo ch
theorem tkD {cur : Pgs} {k : Int} (h : (decide (0 ≤ k) && (cur[k.toNat]?.getD none).isSome) = true) : ∃ (q : Nat) (x : List UInt8), k = (q : Int) ∧ cur[q]? = some (some x) := by
  rw [Bool.and_eq_true, decide_eq_true_iff] at h
  refine ⟨k.toNat, ?_⟩
  cases hc : cur[k.toNat]? with
  | none => rw [hc] at h; simp at h
  | some y =>
    cases y with
    | none => rw [hc] at h; simp at h
    | some x => exact ⟨x, by omega, rfl⟩
theorem tkN {cur : Pgs} {k : Int} (h : (decide (0 ≤ k) && (cur[k.toNat]?.getD none).isSome) = false) : k < 0 ∨ cur[k.toNat]?.getD none = none := by
  by_cases h0 : k < 0
  · exact .inl h0
  · rw [decide_eq_true (by omega), Bool.true_and] at h
    exact .inr (by simpa using h)
section
variable {B : Nat} {w : World} {p j d r : Nat} {s : DS} {sq : Nat} {bl : List (List UInt8)} {cur was wa : Pgs} {rt wr wo : Int} (h : Bo B w p j d r s sq bl cur was rt wr wa wo)
include h
end
/-- Read of any page, of a pager: bytes of its own, or nothing; as the pages say. -/
def pgB (c : Pgs) (k : Int) : List UInt8 := if (decide (0 ≤ k) && (c[k.toNat]?.getD none).isSome) = true then (c[k.toNat]?.getD none).getD [] else []
def pgE (c : Pgs) (k : Int) : Int := if (decide (0 ≤ k) && (c[k.toNat]?.getD none).isSome) = true then 0 else 81
/-- What Read answers. -/
def Red (w w' : World) (l : List UInt8) (v : Value) : Prop := Below w.heap.size w w' ∧ (v = .slice none 0 0 ∧ l = [] ∨ ∃ b cap cs t, w.heap.size ≤ b ∧ l.length ≤ cap ∧ v = .slice (some ⟨b, 0, none⟩) l.length cap ∧ w'.heap[b]? = some (.cells cs t (0, 0)) ∧ (t = 109 ∨ t = 5) ∧ Rd w' b 0 l)
theorem Pv.readAny {B : Nat} {w : World} {p j d : Nat} {s : DS} {sq : Nat} {bl : List (List UInt8)} {cur was : Pgs} {rt wr : Int} (h : Pv B w p j d s sq bl cur was rt wr) (k : Int) : Calls Tryz.prog 23 #[.pointer (some ⟨p, 0, none⟩), .int .i64 k] w fun e w' => ∃ v, e = .returned (.tuple #[v, .int .i64 (pgE cur k)]) ∧ Red w w' (pgB cur k) v := by
  unfold pgB pgE
  cases ht : (decide (0 ≤ k) && (cur[k.toNat]?.getD none).isSome) with
  | false =>
    refine (h.readNone k (tkN ht)).mono ?_
    rintro e w' ⟨rfl, rfl⟩
    exact ⟨_, rfl, Below.refl _ _, .inl ⟨rfl, rfl⟩⟩
  | true =>
    obtain ⟨q, x, rfl, hq⟩ := tkD ht
    refine (h.read q x hq).mono ?_
    rintro e w' ⟨b, cap, cs, t, hb, hc, rfl, hh, ht, hR, hB⟩
    have e1 : (cur[((q : Int)).toNat]?.getD none).getD [] = x := by simp [hq]
    have hx := h.c896 q x hq
    rw [if_pos rfl, if_pos rfl, e1]
    exact ⟨_, rfl, hB, .inr ⟨b, cap, cs, t, hb, by omega, by rw [hx], hh, ht, hR⟩⟩
theorem Red.sl {w w' : World} {l : List UInt8} {v : Value} (h : Red w w' l v) : Sl w' v l := by
  rcases h.2 with ⟨rfl, rfl⟩ | ⟨b, cap, cs, t, _, hc, rfl, _, _, hR⟩
  · exact Sl.nil _
  · exact Sl.mk hR hc
theorem of_any (kd pg : Int) (v : UInt8) (w : World) :
    Calls Tryz.prog 37 #[.agg #[.int .i64 kd, .int .i64 pg, cb v]] w fun e w' => ∃ g, w.heap.size ≤ g ∧ e = .returned (.slice (some ⟨g, 0, none⟩) (ofN pg v) (ofN pg v)) ∧ Rw w' g 5 (ofL v (ofN pg v) (ofN pg v)) ∧ Below w.heap.size w w' := by
  by_cases h : pg = 77
  · subst h; exact of_77 kd v w
  · exact of_page kd pg v h w
end Go.Proofs.YtcmgclkbhhdnaaaGreatDoor
