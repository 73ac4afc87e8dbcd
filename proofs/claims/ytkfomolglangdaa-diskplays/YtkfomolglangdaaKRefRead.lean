/- The document's read. -/
import Derived.Test.YtkfomolglangdaaKRef
namespace Go.Proofs.Ytkfomolglangdaa
open Go Go.RowKit

theorem lc_get : ∀ (K : List ((Nat × List UInt8) × Value)) (k : Nat) (x : (Nat × List UInt8) × Value), K[k]? = some x → ((K.map lc).flatten)[k * 2]? = some (.int .i64 x.1.1) ∧ ((K.map lc).flatten)[k * 2 + 1]? = some x.2
  | [], _, _, h => by simp at h
  | y :: r, 0, x, h => by simp at h; subst h; simp [lc]
  | y :: r, k + 1, x, h => by
    have ih := lc_get r k x (by simpa using h)
    have e : (k + 1) * 2 = k * 2 + 1 + 1 := by omega
    simp only [List.map_cons, List.flatten_cons, lc, List.cons_append, List.nil_append, e, List.getElem?_cons_succ]
    exact ih
theorem own_cell {w : World} {B : Nat} {e : TypeId} {size n cap g : Nat} {xs : List Value} (h : w.ownsRow B e size (.slice (some ⟨g, 0, none⟩) n cap) n xs) {j : Nat} {u : Value} (hu : xs[j]? = some u) : w.cell? ⟨g, j, none⟩ = some u := by
  have := h.cells rfl j u hu
  rwa [Addr.add_lit, Nat.zero_add] at this
theorem own_some {w : World} {B : Nat} {e : TypeId} {size n : Nat} {v : Value} {xs : List Value} (h : w.ownsRow B e size v n xs) (hn : n ≠ 0) : ∃ g cap, v = .slice (some ⟨g, 0, none⟩) n cap := by
  rcases h.2 with ⟨_, h0⟩ | ⟨g, cap, cur, rfl, _⟩
  · exact absurd h0 hn
  · exact ⟨g, cap, rfl⟩
theorem Ls.shape {w : World} {B : Nat} {v : Value} {L : List (Nat × List UInt8)} (h : Ls w B v L) : ∃ a cap, v = .slice a L.length cap := by
  obtain ⟨K, _, _, h3⟩ := h
  rcases h3.2 with ⟨rfl, h0⟩ | ⟨g, cap, cur, rfl, _⟩
  · exact ⟨none, 0, by rw [h0]⟩
  · exact ⟨_, _, rfl⟩
theorem Ls.get {w : World} {B : Nat} {a : Option Addr} {n cap : Nat} {L : List (Nat × List UInt8)} (h : Ls w B (.slice a n cap) L) {k : Nat} {x : Nat × List UInt8} (hx : L[k]? = some x) :
    ∃ g u, a = some ⟨g, 0, none⟩ ∧ w.cell? ⟨g, k * 2, none⟩ = some (.int .i64 x.1) ∧ w.cell? ⟨g, k * 2 + 1, none⟩ = some u ∧ Bk w u x.2 := by
  obtain ⟨K, h1, h2, h3⟩ := h
  have hk := (List.getElem?_eq_some_iff.1 hx).1
  obtain ⟨g, cap', e⟩ := own_some h3 (by omega)
  cases e
  rw [← h1, List.getElem?_map] at hx
  cases hK : K[k]? with
  | none => rw [hK] at hx; simp at hx
  | some y =>
    rw [hK] at hx
    simp at hx
    subst hx
    obtain ⟨q1, q2⟩ := lc_get K k y hK
    exact ⟨g, y.2, rfl, own_cell h3 q1, own_cell h3 q2, h2 y (List.mem_of_getElem? hK)⟩
theorem Sf.get {w : World} {B : Nat} {v : Value} {ss : List (List UInt8)} (h : Sf w B v ss) {i : Nat} {l : List UInt8} (hl : ss[i]? = some l) :
    ∃ g cap u, v = .slice (some ⟨g, 0, none⟩) ss.length cap ∧ w.cell? ⟨g, i, none⟩ = some u ∧ Bk w u l := by
  obtain ⟨V, h1, h2⟩ := h
  have hi := (List.getElem?_eq_some_iff.1 hl).1
  obtain ⟨g, cap, rfl⟩ := own_some h2 (by omega)
  obtain ⟨u, hu, hb⟩ := h1 i l hl
  exact ⟨g, cap, u, rfl, own_cell h2 hu, hb⟩
theorem Bk.shape {w : World} {v : Value} {l : List UInt8} (h : Bk w v l) : ∃ g cap, v = .slice (some ⟨g, 0, none⟩) 128 cap := own_some h.2 (by omega)
theorem layAll_step {kept : List (List UInt8)} {L : List (Nat × List UInt8)} {k i : Nat} {x : Nat × List UInt8} {l : List UInt8} (hx : L[k]? = some x) (hl : (layAll kept (L.take k))[i]? = some l) :
    (layAll kept (L.take (k + 1)))[i]? = some (if x.1 = i then x.2 else l) := by
  have ht : L.take (k + 1) = L.take k ++ [x] := by rw [List.take_add_one, hx]; rfl
  have hi := (List.getElem?_eq_some_iff.1 hl).1
  rw [ht, layAll_snoc]
  by_cases e : x.1 = i
  · rw [if_pos e, ← e, List.getElem?_set_self (by rw [e]; exact hi)]
  · rw [if_neg e, List.getElem?_set_ne e, hl]

theorem incR {k : Nat} (h : k ≤ 9223372036854775806) : IntKind.i64.wrap ((k : Int) + 1) = ((k + 1 : Nat) : Int) := by
  rw [IntWalk.i64_in _ ⟨by omega, by omega⟩]; omega
theorem own_low {w : World} {B : Nat} {e : TypeId} {size n : Nat} {v : Value} {xs : List Value} (h : w.ownsRow B e size v n xs) : w.ownsRow 0 e size v n xs := by
  refine ⟨h.1, ?_⟩
  rcases h.2 with h | ⟨g, cap, cur, e, _, r⟩
  · exact .inl h
  · exact .inr ⟨g, cap, cur, e, Nat.zero_le _, r⟩
theorem grown_below {w w' : World} (h : w.grownBy w' none) : Below w.heap.size w w' := (grown_fr h).below (Nat.le_refl _) (by simp)
theorem Bk.news {w : World} {g cap : Nat} {l : List UInt8} (h : Bk w (.slice (some ⟨g, 0, none⟩) 128 cap) l) : ∀ (j : Nat) (u : Value), (cells8 l)[j]? = some u → w.cell? ((⟨g, 0, none⟩ : Addr).add j) = some u := h.2.cells rfl
/-- A copy of a sector is laid. -/
theorem copy_run {w : World} {v : Value} {l : List UInt8} (h : Bk w v l) (ty : TypeId) :
    ∃ v' w', (Builtin.append_ #[35, 35] ty #[.slice none 0 0, v]).run Try.prog w = .ok v' w' ∧ w'.ownsRow w.heap.size 5 1 v' 128 (cells8 l) ∧ Bk w' v' l ∧ Below w.heap.size w w' := by
  obtain ⟨i0, hi, hz0, hz1, hz2⟩ := info_parts info8
  obtain ⟨g, cap, rfl⟩ := h.shape
  have hl := h.1
  obtain ⟨v', w', hr, ho, hg, _⟩ := run_append_own (P := Try.prog) w w.heap.size 35 ty 5 i0 (.int .u8 0) 1 1 Try.underlying35 hi hz0 hz1 hz2 rfl (by decide) (.slice none 0 0) 0 [] (World.ownsRow_nil _ _ _ _) ⟨g, 0, none⟩ 128 cap (cells8 l)
    (by rw [cells8_len, hl]) h.news (cells8_one l) (by unfold maxLen; omega) (by omega) (Nat.le_refl _)
  have ho' : w'.ownsRow w.heap.size 5 1 v' 128 (cells8 l) := by simpa using ho
  exact ⟨v', w', hr, ho', ⟨hl, own_low ho'⟩, grown_below hg⟩

set_option maxRecDepth 100000 in
set_option maxHeartbeats 1600000 in
theorem rread_any (w : World) (r : Nat) (vs vl : Value) (ops cut : Int) (off : Bool) (kept : List (List UInt8)) (L : List (Nat × List UInt8)) (i : Nat) (l l0 : List UInt8) (h : Rc w r vs vl ops cut off) (B : Nat) (hS : Sf w B vs kept) (hL : Ls w B vl L)
    (hLn : L.length ≤ 1048576) (hl0 : kept[i]? = some l0) (hl : (layAll kept L)[i]? = some l) :
    Calls Try.prog 41 #[.pointer (some ⟨r, 0, none⟩), .int .i64 i] w fun e w' => ∃ v, e = .returned v ∧ Bk w' v l ∧ Below w.heap.size w w' := by
  obtain ⟨i0, hi, hz0, hz1, hz2⟩ := info_parts info8
  obtain ⟨g, cg, u, rfl, hcu, hbu⟩ := hS.get hl0
  obtain ⟨a, ca, rfl⟩ := hL.shape
  have hin : (i : Int) < (kept.length : Int) := by have := (List.getElem?_eq_some_iff.1 hl0).1; omega
  have h0 := h.c0
  have h1 := h.c1
  have HL := hid hL
  have HLn := hid hLn
  have HU := hid hbu
  have HE := hid hl
  have HE0 := hid hl0
  clear h hL hLn hS hbu hl hl0
  generalize kept.length = n at *
  go_enter Try.func41, Try.ntmps41
  go_upto_region 3 with fail
  go_loopw [5, 6] (fun b x wr => ∃ (k : Nat) (l' : List UInt8), k ≤ L.length ∧ x = .int .i64 k ∧ wr = w ∧ (layAll kept (L.take k))[i]? = some l' ∧ Bk w b l') (fun _ x _ => L.length - (intOf x).toNat)
  case atStart => exact ⟨0, l0, Nat.zero_le _, rfl, rfl, HE0.out, HU.out⟩
  case round =>
    obtain ⟨k, l', hk, rfl, rfl, hl', hb'⟩ := hrel
    have hLn' := HLn.out
    have HWk := hid (incR (k := k) (by omega))
    have HB := hid hb'
    have HL' := hid hl'
    clear hb' hl' hLn'
    by_cases hlt : k < L.length
    · have hlt' : decide ((k : Int) < (L.length : Int)) = true := decide_eq_true (by omega)
      have hlt2 : (k : Int) < (L.length : Int) := by omega
      have hmes : L.length - ((k + 1 : Nat) : Int).toNat < L.length - (k : Int).toNat := by omega
      obtain ⟨⟨i1, l1⟩, hx⟩ : ∃ x, L[k]? = some x := ⟨_, List.getElem?_eq_getElem hlt⟩
      obtain ⟨ga, u1, rfl, q0, q1, hb1⟩ := HL.out.get hx
      have HB1 := hid hb1
      have HS := hid (layAll_step hx HL'.out)
      clear hb1 hk
      by_cases e : i1 = i
      · subst e
        rw [if_pos rfl] at HS
        go_upto_region 4 with fail
        refine wp_region_lit ?_
        refine wp_move (v := .int .i64 k) (by kernel_rfl) ?_
        refine wp_addi (z := ((k + 1 : Nat) : Int)) (by kernel_rfl) (by kernel_rfl) HWk.out ?_
        refine wp_assign (v := .int .i64 (k + 1 : Nat)) (by kernel_rfl) ?_
        dsimp only [Act.put]
        simp only [List.setIfInBounds_toArray, List.set_cons_zero, List.set_cons_succ]
        refine wp_end ?_
        go_wp2
        go_roundw
        case rel => exact ⟨k + 1, _, hlt, rfl, trivial, HS.out, HB1.out⟩
        case measure => exact hmes
      · have e' : ((i1 : Int) == (i : Int)) = false := by rw [beq_eq_false_iff_ne]; omega
        rw [if_neg e] at HS
        go_upto_region 4 with fail
        refine wp_region_lit ?_
        refine wp_move (v := .int .i64 k) (by kernel_rfl) ?_
        refine wp_addi (z := ((k + 1 : Nat) : Int)) (by kernel_rfl) (by kernel_rfl) HWk.out ?_
        refine wp_assign (v := .int .i64 (k + 1 : Nat)) (by kernel_rfl) ?_
        dsimp only [Act.put]
        simp only [List.setIfInBounds_toArray, List.set_cons_zero, List.set_cons_succ]
        refine wp_end ?_
        go_wp2
        go_roundw
        case rel => exact ⟨k + 1, _, hlt, rfl, trivial, HS.out, HB.out⟩
        case measure => exact hmes
    · have hlt' : decide ((k : Int) < (L.length : Int)) = false := decide_eq_false (by omega)
      obtain ⟨gb, cb', rfl⟩ := HB.out.shape
      have hkL : k = L.length := by omega
      have hll : l' = l := by
        have q := HL'.out
        rw [hkL, List.take_length, HE.out] at q
        exact (Option.some.inj q).symm
      subst hll
      have hlen := HB.out.1
      clear hk hkL HWk hin
      go_wp2_with (at_builtin; refine wpList_append_own _ rfl _ _ 35 rfl wr.heap.size 5 i0 (.int .u8 0) 1 1 Try.underlying35 hi hz0 hz1 hz2 rfl (by decide) _ 0 [] rfl (World.ownsRow_nil _ _ _ _) ⟨gb, 0, none⟩ 128 cb' (cells8 l') rfl (by rw [cells8_len, hlen]) HB.out.news (cells8_one l') (by unfold maxLen; omega) (by omega) (Nat.le_refl _) ?_)
      intro v7 w7 hown7 hgrow7 _
      have HO := hid (show Bk w7 v7 l' from ⟨hlen, own_low (by simpa using hown7)⟩)
      have HG := hid (grown_below hgrow7)
      clear hown7 hgrow7
      go_wp2
      go_ret
      exact ⟨_, rfl, HO.out, HG.out⟩

theorem at_kept {s : DS} (h : s.Ok) {i : Nat} (hi : i < s.n) : ∃ l0, s.kept[i]? = some l0 := ⟨_, List.getElem?_eq_getElem (by rw [h.keptLen]; exact hi)⟩
theorem Ref.few {s : DS} (h : s.Ok) : s.loose.length ≤ 1048576 := by have := h.few; have := h.o1; omega

set_option maxRecDepth 100000 in
set_option maxHeartbeats 800000 in
theorem rRead_ok {w : World} {B r : Nat} {s : DS} (h : Ref w B r s) (hg : s.gone = false) (i : Nat) (l : List UInt8) (hl : s.now[i]? = some l) :
    Calls Try.prog 29 #[.pointer (some ⟨r, 0, none⟩), .int .i64 i] w fun e w' => ∃ v, e = .returned (.tuple #[v, .int .i64 0]) ∧ Bk w' v l ∧ Below w.heap.size w w' := by
  have hok := h.ok
  obtain ⟨vs, vl, _, hR, hS, hL, _⟩ := h
  have hi : i < s.n := by have := (List.getElem?_eq_some_iff.1 hl).1; rw [hok.nowLen] at this; exact this
  obtain ⟨l0, hl0⟩ := at_kept hok hi
  rw [hok.same] at hl
  have H := hid (rread_any w r vs vl s.ops s.cut s.gone s.kept s.loose i l l0 hR B hS hL (Ref.few hok) hl0 hl)
  obtain ⟨g, cg, u, rfl, _⟩ := hS.get hl0
  rw [hok.keptLen] at hR
  have h0 := hR.c0
  have h4 := hR.c4
  rw [hg] at h4
  have d0 : decide ((i : Int) < 0) = false := decide_eq_false (by omega)
  have d1 : decide ((s.n : Int) ≤ (i : Int)) = false := decide_eq_false (by omega)
  have d2 : ¬ s.n ≤ i := by omega
  clear hR hS hL hl hl0 hi hok hg
  generalize s.n = n at *
  go_enter Try.func29, Try.ntmps29
  go_wp2_with fail
  refine H.out.mono ?_
  rintro e w1 ⟨v, rfl, hb, hB⟩
  go_wp2
  go_ret2
  exact ⟨v, rfl, hb, hB⟩

set_option maxRecDepth 100000 in
set_option maxHeartbeats 800000 in
theorem rRead_gone {w : World} {B r : Nat} {s : DS} (h : Ref w B r s) (hg : s.gone = true) (x : Int) :
    Calls Try.prog 29 #[.pointer (some ⟨r, 0, none⟩), .int .i64 x] w fun e w' => e = .returned (.tuple #[.slice none 0 0, .int .i64 43]) ∧ w' = w := by
  obtain ⟨vs, vl, _, hR, hS, hL, _⟩ := h
  have h4 := hR.c4
  rw [hg] at h4
  clear hR hS hL
  go_enter Try.func29, Try.ntmps29
  go_wp2
  go_ret2
  exact ⟨rfl, rfl⟩

theorem Sf.shape {w : World} {B : Nat} {v : Value} {ss : List (List UInt8)} (h : Sf w B v ss) : ∃ a cap, v = .slice a ss.length cap := by
  obtain ⟨V, _, h3⟩ := h
  rcases h3.2 with ⟨rfl, h0⟩ | ⟨g, cap, cur, rfl, _⟩
  · exact ⟨none, 0, by rw [h0]⟩
  · exact ⟨_, _, rfl⟩
set_option maxRecDepth 100000 in
set_option maxHeartbeats 800000 in
theorem rRead_at {w : World} {B r : Nat} {s : DS} (h : Ref w B r s) (hg : s.gone = false) (x : Int) (hx : x < 0 ∨ (s.n : Int) ≤ x) :
    Calls Try.prog 29 #[.pointer (some ⟨r, 0, none⟩), .int .i64 x] w fun e w' => e = .returned (.tuple #[.slice none 0 0, .int .i64 41]) ∧ w' = w := by
  have hok := h.ok
  obtain ⟨vs, vl, _, hR, hS, hL, _⟩ := h
  obtain ⟨a, ca, rfl⟩ := hS.shape
  rw [hok.keptLen] at hR
  have h0 := hR.c0
  have h4 := hR.c4
  rw [hg] at h4
  clear hR hS hL hok hg
  generalize s.n = n at *
  by_cases e : x < 0
  · have d0 : decide (x < 0) = true := decide_eq_true e
    go_enter Try.func29, Try.ntmps29
    go_wp2
    go_ret2
    exact ⟨rfl, rfl⟩
  · have d0 : decide (x < 0) = false := decide_eq_false e
    have d1 : decide ((n : Int) ≤ x) = true := decide_eq_true (by omega)
    clear hx
    go_enter Try.func29, Try.ntmps29
    go_wp2
    go_ret2
    exact ⟨rfl, rfl⟩
end Go.Proofs.Ytkfomolglangdaa
