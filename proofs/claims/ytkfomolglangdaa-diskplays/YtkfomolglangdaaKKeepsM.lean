/- Which write of a sector is the last one that stays. -/
import Derived.Test.YtkfomolglangdaaKFlushesW
namespace Go.Proofs.Ytkfomolglangdaa
open Go Go.RowKit

/-- v is what the last one of the writes at a place laid, of those whose numbers are among zs; or what lay there. -/
def LastZ (L : List (Nat × List UInt8)) (at_ : Nat) (k0 : List UInt8) (zs : List Int) (v : List UInt8) : Prop :=
  (∃ (i : Nat) (x : Nat × List UInt8), (i : Int) ∈ zs ∧ L[i]? = some x ∧ x.1 = at_ ∧ x.2 = v ∧ ∀ (j : Nat) (y : Nat × List UInt8), i < j → (j : Int) ∈ zs → L[j]? = some y → y.1 ≠ at_) ∨
  ((∀ (i : Nat) (y : Nat × List UInt8), (i : Int) ∈ zs → L[i]? = some y → y.1 ≠ at_) ∧ v = k0)
theorem LastZ.unique {L : List (Nat × List UInt8)} {at_ : Nat} {k0 : List UInt8} {zs : List Int} {v v' : List UInt8} (h : LastZ L at_ k0 zs v) (h' : LastZ L at_ k0 zs v') : v = v' := by
  rcases h with ⟨i, x, h1, h2, h3, h4, h5⟩ | ⟨h1, h2⟩ <;> rcases h' with ⟨i', x', h1', h2', h3', h4', h5'⟩ | ⟨h1', h2'⟩
  · rcases Nat.lt_trichotomy i i' with hlt | rfl | hlt
    · exact absurd h3' (h5 i' x' hlt h1' h2')
    · rw [h2] at h2'; cases h2'; rw [← h4, ← h4']
    · exact absurd h3 (h5' i x hlt h1 h2)
  · exact absurd h3 (h1' i x h1 h2)
  · exact absurd h3' (h1 i' x' h1' h2')
  · rw [h2, h2']
theorem LastZ.same {L : List (Nat × List UInt8)} {at_ : Nat} {k0 : List UInt8} {zs zs' : List Int} {v : List UInt8} (hm : ∀ z, z ∈ zs ↔ z ∈ zs') (h : LastZ L at_ k0 zs v) : LastZ L at_ k0 zs' v := by
  rcases h with ⟨i, x, h1, h2, h3, h4, h5⟩ | ⟨h1, h2⟩
  · exact .inl ⟨i, x, (hm _).1 h1, h2, h3, h4, fun j y hj hz hy => h5 j y hj ((hm _).2 hz) hy⟩
  · exact .inr ⟨fun i y hz hy => h1 i y ((hm _).2 hz) hy, h2⟩
theorem lay_last {L : List (Nat × List UInt8)} {at_ : Nat} {k0 : List UInt8} {r : List Int} {k : Int} {ss : List (List UInt8)} {v : List UInt8} (hss : ss[at_]? = some v) (hr : ∀ z ∈ r, z ≤ k) (h : LastZ L at_ k0 r v) :
    ∃ v', (layOne L ss k)[at_]? = some v' ∧ LastZ L at_ k0 (r ++ [k]) v' := by
  by_cases hin : 0 ≤ k ∧ k < (L.length : Int)
  · obtain ⟨n, rfl⟩ : ∃ n : Nat, k = n := ⟨k.toNat, by omega⟩
    obtain ⟨x, hx⟩ : ∃ x, L[n]? = some x := ⟨_, List.getElem?_eq_getElem (by omega)⟩
    rw [layOne_in hx]
    by_cases hat : x.1 = at_
    · refine ⟨x.2, ?_, .inl ⟨n, x, by simp, hx, hat, rfl, fun j y hj hz hy => ?_⟩⟩
      · rw [hat]; exact List.getElem?_set_self (List.getElem?_eq_some_iff.1 hss).1
      · rcases List.mem_append.1 hz with hz | hz
        · have := hr _ hz; omega
        · simp at hz; omega
    · refine ⟨v, by rw [List.getElem?_set_ne hat]; exact hss, ?_⟩
      rcases h with ⟨i, y, h1, h2, h3, h4, h5⟩ | ⟨h1, h2⟩
      · refine .inl ⟨i, y, List.mem_append.2 (.inl h1), h2, h3, h4, fun j u hj hz hu => ?_⟩
        rcases List.mem_append.1 hz with hz | hz
        · exact h5 j u hj hz hu
        · simp at hz
          obtain rfl : j = n := by omega
          rw [hx] at hu; cases hu; exact hat
      · refine .inr ⟨fun j u hz hu => ?_, h2⟩
        rcases List.mem_append.1 hz with hz | hz
        · exact h1 j u hz hu
        · simp at hz
          obtain rfl : j = n := by omega
          rw [hx] at hu; cases hu; exact hat
  · rw [layOne_out (by omega)]
    refine ⟨v, hss, ?_⟩
    have hno : ∀ (j : Nat) (u : Nat × List UInt8), (j : Int) ∈ [k] → L[j]? = some u → False := fun j u hz hu => by
      have := (List.getElem?_eq_some_iff.1 hu).1
      simp at hz; omega
    rcases h with ⟨i, y, h1, h2, h3, h4, h5⟩ | ⟨h1, h2⟩
    · refine .inl ⟨i, y, List.mem_append.2 (.inl h1), h2, h3, h4, fun j u hj hz hu => ?_⟩
      rcases List.mem_append.1 hz with hz | hz
      · exact h5 j u hj hz hu
      · exact (hno j u hz hu).elim
    · refine .inr ⟨fun j u hz hu => ?_, h2⟩
      rcases List.mem_append.1 hz with hz | hz
      · exact h1 j u hz hu
      · exact (hno j u hz hu).elim
theorem fold_last {L : List (Nat × List UInt8)} {at_ : Nat} {k0 : List UInt8} : ∀ (n : Nat) (ks : List Int), ks.length = n → ks.Pairwise (· ≤ ·) → ∀ kept : List (List UInt8), kept[at_]? = some k0 → ∃ v, (ks.foldl (layOne L) kept)[at_]? = some v ∧ LastZ L at_ k0 ks v
  | 0, ks, hl, _, kept, hk => by
    obtain rfl : ks = [] := List.eq_nil_of_length_eq_zero hl
    exact ⟨k0, hk, .inr ⟨fun i y h _ => (by cases h), rfl⟩⟩
  | n + 1, ks, hl, hp, kept, hk => by
    obtain ⟨r, k, rfl⟩ : ∃ r k, ks = r ++ [k] := by
      rcases List.eq_nil_or_concat ks with h | ⟨r, k, h⟩
      · rw [h] at hl; simp at hl
      · exact ⟨r, k, by simpa using h⟩
    have hp' := List.pairwise_append.1 hp
    obtain ⟨v, h1, h2⟩ := fold_last n r (by simpa using hl) hp'.1 kept hk
    rw [List.foldl_append]
    exact lay_last h1 (fun z hz => hp'.2.2 z hz k (by simp)) h2
theorem sorted_le (zs : List Int) : (sorted zs).Pairwise (· ≤ ·) := by
  have h := List.pairwise_mergeSort (le := fun x y : Int => decide (x ≤ y)) (fun a b c h1 h2 => by simp at *; omega) (fun a b => by simp; omega) zs
  exact h.imp (fun hab => by simpa using hab)
theorem crashed_last {L : List (Nat × List UInt8)} {at_ : Nat} {k0 : List UInt8} {kept : List (List UInt8)} (hk : kept[at_]? = some k0) (zs : List Int) : ∃ v, (crashed kept L zs)[at_]? = some v ∧ LastZ L at_ k0 zs v := by
  obtain ⟨v, h1, h2⟩ := fold_last (L := L) _ (sorted zs) rfl (sorted_le zs) kept hk
  exact ⟨v, h1, h2.same (fun z => by simp [sorted])⟩

/-- All numbers below m. -/
def alls (m : Nat) : List Int := (List.range m).map fun i : Nat => (i : Int)
theorem alls_succ (m : Nat) : alls (m + 1) = alls m ++ [(m : Int)] := by simp [alls, List.range_succ]
theorem alls_len (m : Nat) : (alls m).length = m := by simp [alls]
theorem alls_sorted (m : Nat) : sorted (alls m) = alls m := by
  refine List.mergeSort_of_pairwise ?_
  unfold alls
  rw [List.pairwise_map]
  exact List.pairwise_lt_range.imp (fun h => by simp; omega)
theorem crashed_alls (L : List (Nat × List UInt8)) (kept : List (List UInt8)) : crashed kept L (alls L.length) = layAll kept L := by
  have key : ∀ m, m ≤ L.length → (alls m).foldl (layOne L) kept = layAll kept (L.take m) := by
    intro m
    induction m with
    | zero => intro _; simp [alls, layAll]
    | succ m ih =>
      intro hm
      obtain ⟨x, hx⟩ : ∃ x, L[m]? = some x := ⟨_, List.getElem?_eq_getElem (by omega)⟩
      rw [alls_succ, List.foldl_append, ih (by omega), layAll_take _ _ _ _ hx]
      simp only [List.foldl_cons, List.foldl_nil]
      rw [layOne_in hx]
  unfold crashed
  rw [alls_sorted, key _ (Nat.le_refl _), List.take_length]

/-- .. of the first m writes. -/
def LastM (L : List (Nat × List UInt8)) (at_ : Nat) (k0 : List UInt8) (zs : List Int) (m : Nat) (v : List UInt8) : Prop := LastZ (L.take m) at_ k0 zs v
theorem take_get {α : Type} {L : List α} {m i : Nat} {x : α} : (L.take m)[i]? = some x ↔ i < m ∧ L[i]? = some x := by
  by_cases h : i < m
  · rw [List.getElem?_take, if_pos h]; simp [h]
  · rw [List.getElem?_take, if_neg h]; simp [h]
theorem LastM.miss {L : List (Nat × List UInt8)} {at_ : Nat} {k0 : List UInt8} {zs : List Int} {m : Nat} {v : List UInt8} {x : Nat × List UInt8} (hx : L[m]? = some x) (hn : ¬ ((m : Int) ∈ zs ∧ x.1 = at_)) (h : LastM L at_ k0 zs m v) : LastM L at_ k0 zs (m + 1) v := by
  rcases h with ⟨i, y, h1, h2, h3, h4, h5⟩ | ⟨h1, h2⟩
  · rw [take_get] at h2
    refine .inl ⟨i, y, h1, take_get.2 ⟨by omega, h2.2⟩, h3, h4, fun j u hj hz hu => ?_⟩
    rw [take_get] at hu
    by_cases e : j = m
    · subst e; rw [hx] at hu; obtain ⟨_, hu⟩ := hu; cases hu; exact fun h => hn ⟨hz, h⟩
    · exact h5 j u hj hz (take_get.2 ⟨by omega, hu.2⟩)
  · refine .inr ⟨fun j u hz hu => ?_, h2⟩
    rw [take_get] at hu
    by_cases e : j = m
    · subst e; rw [hx] at hu; obtain ⟨_, hu⟩ := hu; cases hu; exact fun h => hn ⟨hz, h⟩
    · exact h1 j u hz (take_get.2 ⟨by omega, hu.2⟩)
theorem LastM.hit {L : List (Nat × List UInt8)} {at_ : Nat} {k0 : List UInt8} {zs : List Int} {m : Nat} {x : Nat × List UInt8} (hx : L[m]? = some x) (hz : (m : Int) ∈ zs) (ha : x.1 = at_) : LastM L at_ k0 zs (m + 1) x.2 :=
  .inl ⟨m, x, hz, take_get.2 ⟨by omega, hx⟩, ha, rfl, fun j u hj _ hu => by rw [take_get] at hu; omega⟩
theorem LastM.start (L : List (Nat × List UInt8)) (at_ : Nat) (k0 : List UInt8) (zs : List Int) : LastM L at_ k0 zs 0 k0 := .inr ⟨fun j u _ hu => by simp at hu, rfl⟩
theorem LastM.done {L : List (Nat × List UInt8)} {at_ : Nat} {k0 : List UInt8} {zs : List Int} {v : List UInt8} (h : LastM L at_ k0 zs L.length v) : LastZ L at_ k0 zs v := by
  unfold LastM at h; rwa [List.take_length] at h

theorem ints_of_owns {w : World} {base : Nat} {v : Value} {m : Nat} {zs : List Int} (hz : zs.length = m) (h : w.ownsRow base 3 1 v m (zs.map (Value.int .i64))) : ∃ a cap, v = .slice a m cap ∧ Ints w.heap.size w a m zs := by
  have hl := h.lt
  rcases h.2 with ⟨rfl, rfl⟩ | ⟨g, cap, cur, rfl, hb, hg, r1, r2, r3, r4⟩
  · exact ⟨none, 0, rfl, hz, fun h => absurd rfl h⟩
  · refine ⟨_, cap, rfl, hz, fun _ => ⟨g, 0, rfl, heap_lt hg, fun j hj => ?_⟩⟩
    have hc := h.cells (g := g) rfl j (.int .i64 (zs[j]?.getD 0)) (by rw [List.getElem?_map, List.getElem?_eq_getElem hj]; rfl)
    rwa [Addr.add_lit] at hc
/-- What the slice of writes has at a place. -/
theorem LO.at {w : World} {base : Nat} {v : Value} {L : List (Nat × List UInt8)} (h : LO w base v L) {i : Nat} {x : Nat × List UInt8} (hx : L[i]? = some x) :
    ∃ g cap vb, v = .slice (some ⟨g, 0, none⟩) L.length cap ∧ w.cell? ⟨g, i * 5 + 1, none⟩ = some (.int .i64 x.1) ∧ w.cell? ⟨g, i * 5 + 3, none⟩ = some vb ∧ Byt w vb x.2 := by
  obtain ⟨K, h1, h2, h3⟩ := h
  obtain ⟨k, hk, hk1⟩ : ∃ k, K[i]? = some k ∧ k.1 = x := by
    rw [← h1, List.getElem?_map] at hx
    simpa using hx
  have hflat : ∀ (K : List ((Nat × List UInt8) × Value)) (i : Nat) (k : (Nat × List UInt8) × Value), K[i]? = some k → ∀ j u, (opc k)[j]? = some u → ((K.map opc).flatten)[i * 5 + j]? = some u := by
    intro K
    induction K with
    | nil => intro i k hk; simp at hk
    | cons a r ih =>
      intro i k hk j u hj
      have h5 : (opc a).length = 5 := rfl
      have hj5 : j < 5 := by have := (List.getElem?_eq_some_iff.1 hj).1; have e : (opc k).length = 5 := rfl; omega
      rw [List.map_cons, List.flatten_cons]
      rcases i with _ | i
      · simp at hk; subst hk
        rw [List.getElem?_append_left (by omega)]
        simpa using hj
      · rw [List.getElem?_append_right (by omega), h5, show (i + 1) * 5 + j - 5 = i * 5 + j by omega]
        exact ih i k (by simpa using hk) j u hj
  have hne : L.length ≠ 0 := by have := (List.getElem?_eq_some_iff.1 hx).1; omega
  rcases h3.2 with ⟨_, hz⟩ | ⟨g, cap, cur, rfl, hb, hg, r1, r2, r3, r4⟩
  · exact absurd hz hne
  · have c1 := h3.cells (g := g) rfl (i * 5 + 1) _ (hflat K i k hk 1 _ rfl)
    have c3 := h3.cells (g := g) rfl (i * 5 + 3) _ (hflat K i k hk 3 _ rfl)
    rw [Addr.add_lit, Nat.zero_add] at c1 c3
    rw [hk1] at c1
    have hb := h2 k (List.mem_of_getElem? hk)
    rw [hk1] at hb
    exact ⟨g, cap, k.2, rfl, c1, c3, hb⟩
end Go.Proofs.Ytkfomolglangdaa
