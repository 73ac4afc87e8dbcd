/- A disk as one thing: what each method makes of it. -/
import Derived.Test.YtkfomolglangdaaKCrash
namespace Go.Proofs.Ytkfomolglangdaa
open Go Go.RowKit

/-- What a disk holds. -/
structure DS where
  n : Nat
  now : List (List UInt8)
  kept : List (List UInt8)
  loose : List (Nat × List UInt8)
  ops : Int
  cut : Int
  gone : Bool
/-- What is so of each disk. -/
structure DS.Ok (s : DS) : Prop where
  n0 : s.n ≠ 0
  n1 : s.n ≤ 16384
  nowLen : s.now.length = s.n
  keptLen : s.kept.length = s.n
  at_ : ∀ x ∈ s.loose, x.1 < s.n ∧ x.2.length = 128
  lens : ∀ l ∈ s.kept, l.length = 128
  o0 : 0 ≤ s.ops
  o1 : s.ops ≤ 1048576
  few : (s.loose.length : Int) ≤ s.ops
  same : s.now = layAll s.kept s.loose
/-- The disk s at block p; it has the blocks X. -/
def Disk (w : World) (p : Nat) (X : List Nat) (s : DS) : Prop :=
  ∃ a ca b cb m, X = [p, a, b, m] ∧ Dc w p (.slice (some ⟨a, 0, none⟩) s.n ca) (.slice (some ⟨b, 0, none⟩) s.n cb) m s.ops s.cut s.gone ∧ Row w a ca s.now ∧ Row w b cb s.kept ∧ Mp w m s.loose ∧ a ≠ b ∧ s.Ok

theorem Disk.lt {w : World} {p : Nat} {X : List Nat} {s : DS} (h : Disk w p X s) : ∀ k ∈ X, k < w.heap.size := by
  obtain ⟨a, ca, b, cb, m, rfl, hD, hA, hB, hM, _⟩ := h
  intro k hk
  simp only [List.mem_cons, List.not_mem_nil, or_false] at hk
  rcases hk with rfl | rfl | rfl | rfl
  · exact heap_lt hD
  · exact hA.lt
  · exact hB.lt
  · exact heap_lt hM
theorem Disk.fr {w w' : World} {p : Nat} {X Y : List Nat} {s : DS} (h : Disk w p X s) (hF : Fr Y w w') (hX : ∀ k ∈ X, k ∉ Y) : Disk w' p X s := by
  obtain ⟨a, ca, b, cb, m, rfl, hD, hA, hB, hM, r⟩ := h
  exact ⟨a, ca, b, cb, m, rfl, hD.fr hF (hX _ (by simp)), hA.fr hF (hX _ (by simp)), hB.fr hF (hX _ (by simp)), hF.at hM (hX _ (by simp)), r⟩
theorem Disk.below {w w' : World} {p : Nat} {X : List Nat} {s : DS} (h : Disk w p X s) (hF : Below w.heap.size w w') : Disk w' p X s := h.fr (Fr.of_below (X := []) hF) (by simp)
theorem Disk.ok {w : World} {p : Nat} {X : List Nat} {s : DS} (h : Disk w p X s) : s.Ok := by obtain ⟨_, _, _, _, _, _, _, _, _, _, _, r⟩ := h; exact r

def DS.wr (s : DS) (x : Int) (l : List UInt8) : Int × DS :=
  if lost s.cut s.ops = true then (43, { s with gone := true })
  else if x < 0 ∨ (s.n : Int) ≤ x then (41, { s with gone := false })
  else if l.length ≠ 128 then (42, { s with gone := false })
  else if 1048576 ≤ s.ops then (44, { s with gone := false })
  else (0, { s with gone := false, now := s.now.set x.toNat l, loose := s.loose ++ [(x.toNat, l)], ops := s.ops + 1 })
def DS.fl (s : DS) : Int × DS :=
  if lost s.cut s.ops = true then (43, { s with gone := true })
  else if 1048576 ≤ s.ops then (44, { s with gone := false })
  else (0, { s with gone := false, kept := s.now, loose := [], ops := s.ops + 1 })
def DS.cr (s : DS) (zs : List Int) : DS := { n := s.n, now := crashed s.kept s.loose zs, kept := crashed s.kept s.loose zs, loose := [], ops := 0, cut := -1, gone := false }
def DS.new (n : Nat) : DS := { n := n, now := noughts n, kept := noughts n, loose := [], ops := 0, cut := -1, gone := false }

theorem DS.Ok.gone {s : DS} (h : s.Ok) (g : Bool) : DS.Ok { s with gone := g } := ⟨h.n0, h.n1, h.nowLen, h.keptLen, h.at_, h.lens, h.o0, h.o1, h.few, h.same⟩
theorem DS.Ok.wr {s : DS} (h : s.Ok) (x : Int) (l : List UInt8) : (s.wr x l).2.Ok := by
  unfold DS.wr
  split
  · exact h.gone _
  split
  · exact h.gone _
  split
  · exact h.gone _
  split
  · exact h.gone _
  · rename_i h1 h2 h3 h4
    refine ⟨h.n0, h.n1, by simp [h.nowLen], h.keptLen, ?_, h.lens, by have := h.o0; show 0 ≤ s.ops + 1; omega, by show s.ops + 1 ≤ 1048576; omega, ?_, ?_⟩
    · intro y hy
      rcases List.mem_append.1 hy with hy | hy
      · exact h.at_ y hy
      · obtain rfl : y = (x.toNat, l) := by simpa using hy
        exact ⟨by show x.toNat < s.n; omega, by show l.length = 128; simpa using h3⟩
    · have := h.few
      show ((s.loose ++ [(x.toNat, l)]).length : Int) ≤ s.ops + 1
      simp; omega
    · show s.now.set x.toNat l = layAll s.kept (s.loose ++ [(x.toNat, l)])
      rw [layAll_snoc, h.same]
theorem layAll_lens (L : List (Nat × List UInt8)) (hL : ∀ x ∈ L, x.2.length = 128) : ∀ ss : List (List UInt8), (∀ l ∈ ss, l.length = 128) → ∀ l ∈ layAll ss L, l.length = 128 := by
  induction L with
  | nil => intro ss h; exact h
  | cons x r ih =>
    intro ss h
    refine ih (fun y hy => hL y (List.mem_cons_of_mem _ hy)) (ss.set x.1 x.2) (fun l hl => ?_)
    rcases List.mem_or_eq_of_mem_set hl with hl | rfl
    · exact h l hl
    · exact hL x List.mem_cons_self
theorem DS.Ok.nowLens {s : DS} (h : s.Ok) : ∀ l ∈ s.now, l.length = 128 := by rw [h.same]; exact layAll_lens _ (fun x hx => (h.at_ x hx).2) _ h.lens
theorem DS.Ok.fl {s : DS} (h : s.Ok) : s.fl.2.Ok := by
  unfold DS.fl
  split
  · exact h.gone _
  split
  · exact h.gone _
  · refine ⟨h.n0, h.n1, h.nowLen, h.nowLen, by simp, h.nowLens, by have := h.o0; show 0 ≤ s.ops + 1; omega, by show s.ops + 1 ≤ 1048576; omega, ?_, rfl⟩
    have := h.o0
    show ((0 : Nat) : Int) ≤ s.ops + 1
    omega
theorem laySome_lens (L : List (Nat × List UInt8)) (hL : ∀ x ∈ L, x.2.length = 128) (ks : List Int) : ∀ ss : List (List UInt8), (∀ l ∈ ss, l.length = 128) → ∀ l ∈ ks.foldl (layOne L) ss, l.length = 128 := by
  induction ks with
  | nil => intro ss h; exact h
  | cons k r ih =>
    intro ss h
    refine ih (layOne L ss k) (fun l hl => ?_)
    unfold layOne at hl
    split at hl
    · rename_i x hx
      rcases List.mem_or_eq_of_mem_set hl with hl | rfl
      · exact h l hl
      · split at hx
        · exact hL x (List.mem_of_getElem? hx)
        · cases hx
    · exact h l hl
theorem DS.Ok.cr {s : DS} (h : s.Ok) (zs : List Int) : (s.cr zs).Ok :=
  ⟨h.n0, h.n1, by show (crashed _ _ _).length = _; rw [crashed, laySome_len, h.keptLen]; rfl, by show (crashed _ _ _).length = _; rw [crashed, laySome_len, h.keptLen]; rfl, by intro x hx; simp [DS.cr] at hx, laySome_lens _ (fun x hx => (h.at_ x hx).2) _ _ h.lens, Int.le_refl _, by show (0 : Int) ≤ 1048576; omega, Int.le_refl _, rfl⟩
theorem DS.Ok.new {n : Nat} (h0 : n ≠ 0) (h1 : n ≤ 16384) : (DS.new n).Ok :=
  ⟨h0, h1, by simp [DS.new, noughts], by simp [DS.new, noughts], by intro x hx; simp [DS.new] at hx, by intro l hl; rw [List.eq_of_mem_replicate hl]; simp, Int.le_refl _, by show (0 : Int) ≤ 1048576; omega, Int.le_refl _, rfl⟩

theorem write_d {w : World} {p : Nat} {X : List Nat} {s : DS} (h : Disk w p X s) (x : Int) {v : Value} {l : List UInt8} (hv : Sl w v l) :
    Calls Try.prog 19 #[.pointer (some ⟨p, 0, none⟩), .int .i64 x, v] w fun e w' => e = .returned (.int .i64 (s.wr x l).1) ∧ Disk w' p X (s.wr x l).2 ∧ Fr X w w' := by
  have hok := h.ok
  obtain ⟨a, ca, b, cb, m, rfl, hD, hA, hB, hM, hab, _⟩ := h
  have hpm : p ≠ m := fun e => by subst e; rw [Mp] at hM; rw [Dc] at hD; rw [hM] at hD; cases hD
  have hpa : p ≠ a := fun e => by obtain ⟨cur, hg, _⟩ := hA; subst e; rw [Dc] at hD; rw [hg] at hD; cases hD
  have hpb : p ≠ b := fun e => by obtain ⟨cur, hg, _⟩ := hB; subst e; rw [Dc] at hD; rw [hg] at hD; cases hD
  have hmb : m ≠ b := fun e => by obtain ⟨cur, hg, _⟩ := hB; subst e; rw [Mp] at hM; rw [hg] at hM; cases hM
  have keep : ∀ w' g, Dc w' p (.slice (some ⟨a, 0, none⟩) s.n ca) (.slice (some ⟨b, 0, none⟩) s.n cb) m s.ops s.cut g → Fr [p] w w' → Disk w' p [p, a, b, m] { s with gone := g } ∧ Fr [p, a, b, m] w w' := fun w' g hD' hF =>
    ⟨⟨a, ca, b, cb, m, rfl, hD', hA.fr hF (by simpa using hpa.symm), hB.fr hF (by simpa using hpb.symm), hF.at hM (by simpa using hpm.symm), hab, hok.gone g⟩, hF.mono (by simp)⟩
  obtain ⟨va, cap, rfl, hc, hnil, hrd⟩ := hv
  have hokw := hok.wr x l
  unfold DS.wr at hokw ⊢
  by_cases h1 : lost s.cut s.ops = true
  · rw [if_pos h1]
    refine (write_gone w p s.ops s.cut s.gone m _ _ _ _ hD h1).mono ?_
    rintro e w' ⟨rfl, hD', hF⟩
    exact ⟨rfl, keep w' true hD' hF⟩
  have h1' : lost s.cut s.ops = false := by simpa using h1
  rw [if_neg h1] at hokw ⊢
  by_cases h2 : x < 0 ∨ (s.n : Int) ≤ x
  · rw [if_pos h2]
    refine (write_at w p s.ops s.cut s.gone m b s.n cb _ _ x hD h1' h2).mono ?_
    rintro e w' ⟨rfl, hD', hF⟩
    exact ⟨rfl, keep w' false hD' hF⟩
  rw [if_neg h2] at hokw ⊢
  obtain ⟨i, rfl⟩ : ∃ i : Nat, x = i := ⟨x.toNat, by omega⟩
  have hi : i < s.n := by omega
  by_cases h3 : l.length ≠ 128
  · rw [if_pos h3]
    refine (write_len w p s.ops s.cut s.gone m b s.n cb _ i va l.length cap hD h1' hi h3).mono ?_
    rintro e w' ⟨rfl, hD', hF⟩
    exact ⟨rfl, keep w' false hD' hF⟩
  rw [if_neg h3] at hokw ⊢
  have h3' : l.length = 128 := by simpa using h3
  have e3 := h3'
  rw [show (Value.slice va l.length cap) = .slice va 128 cap by rw [h3']]
  by_cases h4 : 1048576 ≤ s.ops
  · rw [if_pos h4]
    refine (write_full w p s.ops s.cut s.gone m b s.n cb _ i va cap hD h1' hi h4).mono ?_
    rintro e w' ⟨rfl, hD', hF⟩
    exact ⟨rfl, keep w' false hD' hF⟩
  rw [if_neg h4] at hokw ⊢
  obtain ⟨bb, off, rfl, hr⟩ := hrd (by intro h; rw [h] at e3; simp at e3)
  refine (write_ok w p a ca b s.n cb m s.ops s.cut s.gone s.now s.loose i bb off cap l hD hA hok.nowLen hM hi h3' hr h1' hok.o0 (by omega)).mono ?_
  rintro e w' ⟨rfl, hD', hA', hM', hF⟩
  rw [show ((i : Int)).toNat = i from rfl] at hokw ⊢
  exact ⟨rfl, ⟨a, ca, b, cb, m, rfl, hD', hA', hB.fr hF (by simp only [List.mem_cons, List.not_mem_nil, or_false, not_or]; exact ⟨hpb.symm, hab.symm, hmb.symm⟩), hM', hab, hokw⟩, hF.mono (by simp)⟩

theorem flush_d {w : World} {p : Nat} {X : List Nat} {s : DS} (h : Disk w p X s) :
    Calls Try.prog 21 #[.pointer (some ⟨p, 0, none⟩)] w fun e w' => e = .returned (.int .i64 s.fl.1) ∧ ∃ X', Disk w' p X' s.fl.2 ∧ (∀ k ∈ X', k ∈ X ∨ w.heap.size ≤ k) ∧ Fr X w w' := by
  have hok := h.ok
  obtain ⟨a, ca, b, cb, m, rfl, hD, hA, hB, hM, hab, _⟩ := h
  have hpm : p ≠ m := fun e => by subst e; rw [Mp] at hM; rw [Dc] at hD; rw [hM] at hD; cases hD
  have hpa : p ≠ a := fun e => by obtain ⟨cur, hg, _⟩ := hA; subst e; rw [Dc] at hD; rw [hg] at hD; cases hD
  have hpb : p ≠ b := fun e => by obtain ⟨cur, hg, _⟩ := hB; subst e; rw [Dc] at hD; rw [hg] at hD; cases hD
  have keep : ∀ w' g, Dc w' p (.slice (some ⟨a, 0, none⟩) s.n ca) (.slice (some ⟨b, 0, none⟩) s.n cb) m s.ops s.cut g → Fr [p] w w' → ∃ X', Disk w' p X' { s with gone := g } ∧ (∀ k ∈ X', k ∈ [p, a, b, m] ∨ w.heap.size ≤ k) ∧ Fr [p, a, b, m] w w' := fun w' g hD' hF =>
    ⟨_, ⟨a, ca, b, cb, m, rfl, hD', hA.fr hF (by simpa using hpa.symm), hB.fr hF (by simpa using hpb.symm), hF.at hM (by simpa using hpm.symm), hab, hok.gone g⟩, fun k hk => .inl hk, hF.mono (by simp)⟩
  have hokw := hok.fl
  unfold DS.fl at hokw ⊢
  by_cases h1 : lost s.cut s.ops = true
  · rw [if_pos h1]
    refine (flush_gone w p s.ops s.cut s.gone m _ _ hD h1).mono ?_
    rintro e w' ⟨rfl, hD', hF⟩
    exact ⟨rfl, keep w' true hD' hF⟩
  have h1' : lost s.cut s.ops = false := by simpa using h1
  rw [if_neg h1] at hokw ⊢
  by_cases h4 : 1048576 ≤ s.ops
  · rw [if_pos h4]
    refine (flush_full w p s.ops s.cut s.gone m _ _ hD h1' h4).mono ?_
    rintro e w' ⟨rfl, hD', hF⟩
    exact ⟨rfl, keep w' false hD' hF⟩
  rw [if_neg h4] at hokw ⊢
  have hfew := hok.few
  have ho1 := hok.o1
  refine (flush_ok w p a ca b s.n cb m s.ops s.cut s.gone s.now s.kept s.loose hD hA hB hM hok.keptLen hab hok.at_ h1' hok.o0 (by omega) (by omega)).mono ?_
  rintro e w' ⟨rfl, m', hm', hD', hA', hB', hM', hF⟩
  rw [← hok.same] at hB'
  refine ⟨rfl, [p, a, b, m'], ⟨a, ca, b, cb, m', rfl, hD', hA', hB', hM', hab, hokw⟩, ?_, hF.mono (by simp)⟩
  intro k hk
  simp only [List.mem_cons, List.not_mem_nil, or_false] at hk ⊢
  rcases hk with rfl | rfl | rfl | rfl <;> simp [hm']

theorem read_d {w : World} {p : Nat} {X : List Nat} {s : DS} (h : Disk w p X s) (hg : s.gone = false) (i : Nat) (l : List UInt8) (hl : s.now[i]? = some l) :
    Calls Try.prog 17 #[.pointer (some ⟨p, 0, none⟩), .int .i64 i] w fun e w' => e = .returned (.tuple #[.slice (some ⟨w.heap.size, 0, none⟩) 128 128, .int .i64 0]) ∧ w' = w.alloc (.cells (cells8 l).toArray 70) := by
  have hok := h.ok
  obtain ⟨a, ca, b, cb, m, rfl, hD, hA, hB, hM, hab, _⟩ := h
  rw [hg] at hD
  exact read_ok w p a ca b s.n cb m s.ops s.cut s.now i l hD hA hok.nowLen hl
theorem alloc_sl (w : World) (l : List UInt8) (h : l.length = 128) (t : TypeId) : Sl (w.alloc (.cells (cells8 l).toArray t)) (.slice (some ⟨w.heap.size, 0, none⟩) 128 128) l := by
  have := Sl.mk (w := w.alloc (.cells (cells8 l).toArray t)) (b := w.heap.size) (off := 0) (cap := 128) (l := l) (fun k hk => by
    rw [Nat.zero_add]
    exact cell_at (heap_alloc_last w _) k (by rw [List.getElem?_toArray]; exact cells8_get l k hk)) (by omega)
  rwa [h] at this

theorem crash_d {w : World} {p : Nat} {X : List Nat} {s : DS} (h : Disk w p X s) {a : Option Addr} {len cp : Nat} {zs : List Int} (hI : Ints w.heap.size w a len zs) (hreach : len * 8 ≤ 140737488351232) :
    Calls Try.prog 16 #[.pointer (some ⟨p, 0, none⟩), .slice a len cp] w fun e w' => ∃ p' X', e = .returned (.pointer (some ⟨p', 0, none⟩)) ∧ Disk w' p' X' (s.cr zs) ∧ (∀ k ∈ X', w.heap.size ≤ k) ∧ Below w.heap.size w w' := by
  have hok := h.ok
  obtain ⟨a', ca, b, cb, m, rfl, hD, hA, hB, hM, hab, _⟩ := h
  refine (crash_ok w p b s.n cb m _ s.ops s.cut s.gone s.kept s.loose a len cp zs hD hB hok.keptLen hok.n0 hok.n1 hM hok.at_ hI hreach).mono ?_
  rintro e w' ⟨p', a2, ca', b', cb', m', rfl, hD', hA', hB', hM', q1, q2, q3, q4, hne, hF⟩
  refine ⟨p', [p', a2, b', m'], rfl, ⟨a2, ca', b', cb', m', rfl, hD', hA', hB', hM', hne, hok.cr zs⟩, ?_, hF⟩
  intro k hk
  simp only [List.mem_cons, List.not_mem_nil, or_false] at hk
  rcases hk with rfl | rfl | rfl | rfl <;> assumption

theorem new_d (w : World) (n : Nat) (h0 : n ≠ 0) (hn : n ≤ 16384) :
    Calls Try.prog 10 #[.int .i64 n] w fun e w' => ∃ p X, e = .returned (.tuple #[.pointer (some ⟨p, 0, none⟩), .int .i64 0]) ∧ Disk w' p X (DS.new n) ∧ (∀ k ∈ X, w.heap.size ≤ k) ∧ Below w.heap.size w w' := by
  refine (new_ok w n h0 hn).mono ?_
  rintro e w' ⟨p', a2, ca', b', cb', m', rfl, hD', hA', hB', hM', q1, q2, q3, q4, hne, hF⟩
  refine ⟨p', [p', a2, b', m'], rfl, ⟨a2, ca', b', cb', m', rfl, hD', hA', hB', hM', hne, DS.Ok.new h0 hn⟩, ?_, hF⟩
  intro k hk
  simp only [List.mem_cons, List.not_mem_nil, or_false] at hk
  rcases hk with rfl | rfl | rfl | rfl <;> assumption

theorem ops_d {w : World} {p : Nat} {X : List Nat} {s : DS} (h : Disk w p X s) : Calls Try.prog 24 #[.pointer (some ⟨p, 0, none⟩)] w fun e w' => e = .returned (.int .i64 s.ops) ∧ w' = w := by
  obtain ⟨a', ca, b, cb, m, rfl, hD, _⟩ := h
  exact ops_any w p _ _ m s.ops s.cut s.gone hD
theorem loose_d {w : World} {p : Nat} {X : List Nat} {s : DS} (h : Disk w p X s) : Calls Try.prog 15 #[.pointer (some ⟨p, 0, none⟩)] w fun e w' => e = .returned (.int .i64 s.loose.length) ∧ w' = w := by
  obtain ⟨a', ca, b, cb, m, rfl, hD, _, _, hM, _⟩ := h
  exact loose_any w p _ _ m s.ops s.cut s.gone s.loose hD hM
theorem sectors_d {w : World} {p : Nat} {X : List Nat} {s : DS} (h : Disk w p X s) : Calls Try.prog 22 #[.pointer (some ⟨p, 0, none⟩)] w fun e w' => e = .returned (.int .i64 s.n) ∧ w' = w := by
  obtain ⟨a', ca, b, cb, m, rfl, hD, _⟩ := h
  exact sectors_any w p _ b s.n cb m s.ops s.cut s.gone hD
theorem cutAt_d {w : World} {p : Nat} {X : List Nat} {s : DS} (h : Disk w p X s) (x : Int) : Calls Try.prog 25 #[.pointer (some ⟨p, 0, none⟩), .int .i64 x] w fun e w' => e = .returned (.tuple #[]) ∧ Disk w' p X { s with cut := x, gone := false } ∧ Fr X w w' := by
  have hok := h.ok
  obtain ⟨a, ca, b, cb, m, rfl, hD, hA, hB, hM, hab, _⟩ := h
  have hpm : p ≠ m := fun e => by subst e; rw [Mp] at hM; rw [Dc] at hD; rw [hM] at hD; cases hD
  have hpa : p ≠ a := fun e => by obtain ⟨cur, hg, _⟩ := hA; subst e; rw [Dc] at hD; rw [hg] at hD; cases hD
  have hpb : p ≠ b := fun e => by obtain ⟨cur, hg, _⟩ := hB; subst e; rw [Dc] at hD; rw [hg] at hD; cases hD
  refine (cutAt_any w p _ _ m s.ops s.cut s.gone x hD).mono ?_
  rintro e w' ⟨rfl, hD', hF⟩
  exact ⟨rfl, ⟨a, ca, b, cb, m, rfl, hD', hA.fr hF (by simpa using hpa.symm), hB.fr hF (by simpa using hpb.symm), hF.at hM (by simpa using hpm.symm), hab, ⟨hok.n0, hok.n1, hok.nowLen, hok.keptLen, hok.at_, hok.lens, hok.o0, hok.o1, hok.few, hok.same⟩⟩, hF.mono (by simp)⟩
end Go.Proofs.Ytkfomolglangdaa
