/- Numbers in rows: copied, one left out; the laws of their slices. -/
import Derived.Test.YtdbgccgjdgomkaaGreatDoorPFrameC
namespace Go.Proofs.YtdbgccgjdgomkaaGreatDoor
open Go Go.RowKit

theorem app_nil (ty : TypeId) (w : World) : (Builtin.append_ #[42, 42] ty #[.slice none 0 0, .slice none 0 0]).run Tryz.prog w = .ok (.slice none 0 0) w := by
  go_simp
theorem app_at {w : World} {B : Nat} {v : Value} {M : List Int} (h : Ats w B v M) (hB : B ≤ w.heap.size) {g o n c : Nat} {N : List Int} (hN : N.length = n) (hn : M.length + n ≤ 1000000) (hr : ∀ (k : Nat) (x : Int), N[k]? = some x → w.cell? ⟨g, o + k, none⟩ = some (.int .i64 x)) (ty : TypeId) :
    ∃ v' w', (Builtin.append_ #[42, 42] ty #[v, .slice (some ⟨g, o, none⟩) n c]).run Tryz.prog w = .ok v' w' ∧ Ats w' B v' (M ++ N) ∧ Below B w w' := by
  obtain ⟨i0, hie, hz0, hz1, hz2⟩ := info_parts info3
  have h' : w.ownsRow B 3 1 v M.length (M.map (Value.int .i64)) := h
  obtain ⟨v', w', hr, ho, hg, _⟩ := run_append_own_at (P := Tryz.prog) (w := w) B 42 ty 3 i0 (.int .i64 0) 1 8 Tryz.underlying42 hie hz0 hz1 hz2 rfl (by decide) v M.length _ h' ⟨g, o, none⟩ n c (N.map (Value.int .i64)) (by rw [List.length_map, hN, Nat.mul_one]) (fun j u hj => by
      rw [List.getElem?_map] at hj
      obtain ⟨x, hx, rfl⟩ := Option.map_eq_some_iff.1 hj
      rw [Addr.add_lit]; exact hr j x hx) (fun u hu => by
      obtain ⟨x, _, rfl⟩ := List.mem_map.1 hu; rfl) (by unfold maxLen; omega) (by omega) hB
  refine ⟨v', w', hr, ?_, (Below.refl B w).grown hg hB (fun k e => by
      rcases h.2 with ⟨rfl, _⟩ | ⟨g2, cap, cur, rfl, hb2, _, _⟩
      · simp [Value.ownBlock] at e
      · obtain rfl : g2 = k := by simpa [Value.ownBlock] using e
        exact hb2)⟩
  unfold Ats
  rw [List.map_append, List.length_append, hN]
  exact ho
theorem Ats.at {w : World} {B : Nat} {g n c : Nat} {M : List Int} (h : Ats w B (.slice (some ⟨g, 0, none⟩) n c) M) (k : Nat) (x : Int) (hx : M[k]? = some x) : w.cell? ⟨g, k, none⟩ = some (.int .i64 x) := by
  obtain ⟨g', e, _, hc⟩ := h.cell hx
  cases e
  exact hc
theorem copyI {w : World} {B : Nat} {v : Value} {M : List Int} (h : Ats w B v M) (hn : M.length ≤ 1000000) (ty : TypeId) :
    ∃ v' w', (Builtin.append_ #[42, 42] ty #[.slice none 0 0, v]).run Tryz.prog w = .ok v' w' ∧ Ats w' w.heap.size v' M ∧ Below w.heap.size w w' := by
  rcases h.2 with ⟨rfl, h0⟩ | ⟨g, cap, cur, rfl, hb, hg, r⟩
  · obtain rfl : M = [] := List.length_eq_zero_iff.1 h0
    exact ⟨_, w, app_nil ty w, Ats.nil _ _, Below.refl _ _⟩
  · obtain ⟨v', w', h1, h2, h3⟩ := app_at (Ats.nil w w.heap.size) (Nat.le_refl _) (g := g) (o := 0) (c := cap) (N := M) rfl (by simpa using hn) (fun k x hx => by rw [Nat.zero_add]; exact h.at k x hx) ty
    exact ⟨v', w', h1, h2, h3⟩
/-- A row without one of its numbers. -/
theorem cutI {w : World} {B g n c m : Nat} {M : List Int} (h : Ats w B (.slice (some ⟨g, 0, none⟩) n c) M) (hM : M.length = n) (hm : m < n) (hn : n ≤ 1000000) (t1 t2 : TypeId) (c1 c2 o : Nat) (ho : o = m + 1 ∨ n - (m + 1) = 0) :
    ∃ v1 w1 v2 w2, (Builtin.append_ #[42, 42] t1 #[.slice none 0 0, .slice (some ⟨g, 0, none⟩) m c1]).run Tryz.prog w = .ok v1 w1 ∧ (Builtin.append_ #[42, 42] t2 #[v1, .slice (some ⟨g, o, none⟩) (n - (m + 1)) c2]).run Tryz.prog w1 = .ok v2 w2 ∧ Ats w2 w.heap.size v2 (M.eraseIdx m) ∧ Below w.heap.size w w2 := by
  have hgl : g < w.heap.size := (h.lt g rfl).2
  obtain ⟨v1, w1, a1, a2, a3⟩ := app_at (Ats.nil w w.heap.size) (Nat.le_refl _) (g := g) (o := 0) (n := m) (c := c1) (N := M.take m) (by rw [List.length_take]; omega) (by simp; omega) (fun k x hx => by
    rw [Nat.zero_add]
    rw [List.getElem?_take] at hx
    split at hx
    · exact h.at k x hx
    · cases hx) t1
  rw [List.nil_append] at a2
  obtain ⟨v2, w2, b1, b2, b3⟩ := app_at a2 a3.size (g := g) (o := o) (n := n - (m + 1)) (c := c2) (N := M.drop (m + 1)) (by rw [List.length_drop]; omega) (by rw [List.length_take]; omega) (fun k x hx => by
    rw [List.getElem?_drop] at hx
    have hkl := (List.getElem?_eq_some_iff.1 hx).1
    obtain rfl : o = m + 1 := by rcases ho with h | h <;> omega
    exact (a3.cell (p := ⟨g, m + 1 + k, none⟩) hgl).trans (h.at (m + 1 + k) x hx)) t2
  refine ⟨v1, w1, v2, w2, a1, b1, ?_, a3.trans b3⟩
  rw [List.eraseIdx_eq_take_drop_succ]
  exact b2
theorem slHi (g n c m : Nat) (h : m ≤ c) (w : World) : (Instr.sliceAt 42 (.slice (some ⟨g, 0, none⟩) n c) none (some (.int .i64 m)) none).run Tryz.prog w = .ok (.slice (some ⟨g, 0, none⟩) m c) w := by
  go_simp
theorem slLo (g n c m : Nat) (h : m ≤ n) (hc : n ≤ c) (w : World) : (Instr.sliceAt 42 (.slice (some ⟨g, 0, none⟩) n c) (some (.int .i64 m)) none none).run Tryz.prog w = .ok (.slice (some ⟨g, if c = m then 0 else m, none⟩) (n - m) (c - m)) w := by
  by_cases e : c = m
  · subst e
    rw [if_pos rfl]; go_simp
  · rw [if_neg e]; go_simp
/-- What PagerOnce holds of its numbers: pages that are taken, each once, and all of them. -/
def Mi (M : List Int) (c : Pgs) : Prop := M.Nodup ∧ (∀ z ∈ M, ∃ q : Nat, z = (q : Int) ∧ ∃ x, c[q]? = some (some x)) ∧ nf c + M.length = c.length
theorem Mi.bare (n : Nat) : Mi [] (List.replicate n none) := by
  refine ⟨List.nodup_nil, fun z hz => (by cases hz), ?_⟩
  have : tk (List.replicate n none) = List.replicate n false := by simp [tk]
  unfold nf
  rw [this, lef_none, List.length_replicate]; rfl
theorem Mi.take {M : List Int} {c : Pgs} (h : Mi M c) (q : Nat) (x : List UInt8) (hq : c[q]? = some none) : Mi (M ++ [(q : Int)]) (c.set q (some x)) := by
  have hql := (List.getElem?_eq_some_iff.1 hq).1
  have hn := nf_take c q x hq
  have hno : (q : Int) ∉ M := fun hm => by
    obtain ⟨i, hi, y, hy⟩ := h.2.1 _ hm
    have : i = q := by omega
    subst this
    rw [hq] at hy; cases hy
  refine ⟨List.nodup_append.2 ⟨h.1, by simp, fun a ha b hb e => ?_⟩, fun z hz => ?_, ?_⟩
  · have : b = (q : Int) := by simpa using hb
    subst this; subst e
    exact hno ha
  · rcases List.mem_append.1 hz with hz | hz
    · obtain ⟨i, hi, y, hy⟩ := h.2.1 z hz
      refine ⟨i, hi, ?_⟩
      by_cases e : i = q
      · subst e; exact ⟨x, by simp [hql]⟩
      · exact ⟨y, by rw [List.getElem?_set_ne (by omega)]; exact hy⟩
    · have : z = (q : Int) := by simpa using hz
      exact ⟨q, this, x, by simp [hql]⟩
  · have := h.2.2
    rw [List.length_append, List.length_set]
    show _ + (M.length + 1) = _
    omega
theorem Mi.give {M : List Int} {c : Pgs} (h : Mi M c) (m q : Nat) (x : List UInt8) (hm : M[m]? = some (q : Int)) (hq : c[q]? = some (some x)) : Mi (M.eraseIdx m) (c.set q none) := by
  have hn := nf_give c q x hq
  have hml := (List.getElem?_eq_some_iff.1 hm).1
  refine ⟨h.1.sublist (List.eraseIdx_sublist M m), fun z hz => ?_, ?_⟩
  · have hzM : z ∈ M := (List.eraseIdx_sublist M m).subset hz
    obtain ⟨i, hi, y, hy⟩ := h.2.1 z hzM
    refine ⟨i, hi, y, ?_⟩
    by_cases e : i = q
    · subst e
      exfalso
      obtain ⟨k, hk⟩ := List.mem_iff_getElem?.1 hz
      rw [List.getElem?_eraseIdx] at hk
      have hinj : ∀ (a b : Nat) (y : Int), M[a]? = some y → M[b]? = some y → a = b := fun a b y ha hb => by
        have h1 := (List.getElem?_eq_some_iff.1 ha).1
        exact (List.getElem?_inj h1 h.1).1 (ha.trans hb.symm)
      split at hk
      · have := hinj k m z hk (by rw [hm, hi]); omega
      · have := hinj (k + 1) m z hk (by rw [hm, hi]); omega
    · rw [List.getElem?_set_ne (by omega)]; exact hy
  · have := h.2.2
    rw [List.length_eraseIdx_of_lt hml, List.length_set]
    omega
theorem Mo.oth {w w' : World} {m : Option Nat} {ks : List Int} {f : Int → Option Value} (h : Mo w m ks f) {t : TypeId} (hO : Oth t w w') : Mo w' m ks f := by
  cases m with
  | none => exact h
  | some b =>
    obtain ⟨es, cl, hh, hv⟩ := h
    exact ⟨es, cl, hO.block b _ hh (fun c e => by cases e), hv⟩
/-- A pager stays as it is, where numbers alone are laid anew. -/
theorem Pv.oth {B : Nat} {w w' : World} {p j d : Nat} {s : DS} {sq : Nat} {bl : List (List UInt8)} {cur was : Pgs} {rt wr : Int} (h : Pv B w p j d s sq bl cur was rt wr) (hO : Oth 3 w w') (hB : Below B w w') : Pv B w' p j d s sq bl cur was rt wr := by
  obtain ⟨X, cnt, bg, um, bm, u, g, h⟩ := h
  obtain ⟨ku, hu⟩ := h.pm.mu
  obtain ⟨kb, hb⟩ := h.pm.mb
  refine ⟨X, cnt, bg, um, bm, u, g, { h with pm := ⟨⟨h.pm.pg.1, hO.block _ _ h.pm.pg.2 (fun c e => by injection e with _ e2; exact absurd e2 (by decide))⟩, ⟨ku, hu.oth hO⟩, ⟨kb, hb.oth hO⟩, h.pm.ne, h.pm.gl, h.pm.kd, h.pm.kb⟩, js := h.js.oth hO (by decide) (by decide) (by decide) (h.js.jr.tab.belowB hB h.tb), Bw := Nat.le_trans h.Bw hB.size }⟩
/-- One number more: no other row is touched. -/
theorem moreI {w : World} {B : Nat} {v : Value} {M : List Int} (h : Ats w B v M) (x : Int) (hn : M.length ≤ 1000000) (hB : B ≤ w.heap.size) :
    ∃ v' w', (Builtin.append_ #[42, 42] 42 #[v, .slice (some ⟨w.heap.size, 0, none⟩) 1 1]).run Tryz.prog (w.alloc (.cells #[.int .i64 x] 3)) = .ok v' w' ∧ Ats w' B v' (M ++ [x]) ∧ Below B w w' ∧ Oth 3 w w' ∧ (∀ g, v'.ownBlock = some g → v.ownBlock = some g ∨ w.heap.size ≤ g) ∧ (∀ {v2 : Value} {K : List Int}, Ats w B v2 K → (∀ g, v.ownBlock = some g → v2.ownBlock ≠ some g) → Ats w' B v2 K) := by
  have h' : w.ownsRow B 3 1 v (M.map (Value.int .i64)).length (M.map (Value.int .i64)) := by rw [List.length_map]; exact h
  obtain ⟨g, cap, w', h1, h2, hg, hob⟩ := more_at Tryz.underlying42 info3 rfl (by decide) h' (.int .i64 x) rfl (by rw [List.length_map]; exact hn) hB 42
  have he : (M.map (Value.int .i64) ++ [Value.int .i64 x]).length = (M ++ [x]).length := by simp
  rw [he] at h1 h2
  have hal : Below w.heap.size w (w.alloc (.cells #[.int .i64 x] 3)) := (Below.refl _ w).alloc (Nat.le_refl _) _
  have hown : ∀ k, v.ownBlock = some k → B ≤ k ∧ ∃ c, w.heap[k]? = some (.cells c 3 (0, 0)) := fun k e => by
    rcases h.2 with ⟨rfl, _⟩ | ⟨g, cap, cur, rfl, hb, hg, _⟩
    · simp [Value.ownBlock] at e
    · simp [Value.ownBlock] at e; subst e; exact ⟨hb, cur, hg⟩
  have hkeep : ∀ (k : Nat) (o : Obj), w.heap[k]? = some o → some k ≠ v.ownBlock → w'.heap[k]? = some o := fun k o hk hne => by
    have hk2 := below_at hal hk (heap_lt hk)
    rw [hg.block k (heap_lt hk2) hne]
    exact hk2
  refine ⟨_, w', h1, ?_, ?_, ⟨Nat.le_trans hal.size hg.size, fun k o hk ho => hkeep k o hk (fun e => ?_)⟩, fun k hk => ?_, fun {v2 K} ha hne => ⟨ha.1, ?_⟩⟩
  · unfold Ats
    rw [List.map_append]
    exact h2
  · have hF : Below B (w.alloc (.cells #[.int .i64 x] 3)) w' := ⟨hg.os, hg.tape, hg.output, hg.size, fun k hk => hg.block k (by show k < (w.heap.push _).size; simp; omega) (fun e => by have := (hown k e.symm).1; omega)⟩
    exact (hal.mono hB).trans hF
  · obtain ⟨_, c, hc⟩ := hown k e.symm
    rw [hk] at hc
    exact ho c (Option.some.inj hc)
  · have e : g = k := by simpa [Value.ownBlock] using hk
    subst e
    rcases hob with h | h
    · exact .inl h.symm
    · exact .inr (by omega)
  · rcases ha.2 with h5 | ⟨g2, cap2, cur2, rfl, hb2, hg2, r2⟩
    · exact .inl h5
    · exact .inr ⟨g2, cap2, cur2, rfl, hb2, hkeep g2 _ hg2 (fun e => hne g2 e.symm rfl), r2⟩
end Go.Proofs.YtdbgccgjdgomkaaGreatDoor
