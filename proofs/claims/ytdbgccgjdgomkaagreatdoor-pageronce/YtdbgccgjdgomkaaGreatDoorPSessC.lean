/- A journal in a law's hands (of layer 6's texts, without its law's and its reference's): what stays as it was, Write of whatever, Read as a text, Open; numbers that are appended. -/
import Derived.Test.YtdbgccgjdgomkaaGreatDoorJGf
namespace Go.Proofs.YtdbgccgjdgomkaaGreatDoor
open Go Go.RowKit

def strV (b : List UInt8) : Value := .string ⟨b.toArray⟩
/-- All blocks but those of one kind are as they were. -/
structure Oth (t : TypeId) (w w' : World) : Prop where
  size : w.heap.size ≤ w'.heap.size
  block : ∀ (k : Nat) (o : Obj), w.heap[k]? = some o → (∀ c, o ≠ .cells c t (0, 0)) → w'.heap[k]? = some o
theorem Oth.of_below {t : TypeId} {w w' : World} (h : Below w.heap.size w w') : Oth t w w' := ⟨h.size, fun _ _ hk _ => below_at h hk (heap_lt hk)⟩
theorem Oth.trans {t : TypeId} {a b c : World} (h : Oth t a b) (k : Oth t b c) : Oth t a c := ⟨Nat.le_trans h.size k.size, fun i o hi ho => k.block i o (h.block i o hi ho) ho⟩

theorem more_one {t ts : TypeId} {z : Value} {by_ : Nat} (hu : Tryz.prog.underlying ts = some (.slice t)) (hi : (Tryz.prog.info? t).map (fun i => (i.zero, i.size, i.bytes)) = some (some z, 1, by_)) (hzc : z.cells.size = 1) (hby : by_ ≤ 24)
    {w : World} {B : Nat} {v : Value} {xs : List Value} (h : w.ownsRow B t 1 v xs.length xs) (x : Value) (hx : x.oneCell' = true) (hn : xs.length ≤ 1000000) (hB : B ≤ w.heap.size) (ty : TypeId) :
    ∃ v' w', (Builtin.append_ #[ts, ts] ty #[v, .slice (some ⟨w.heap.size, 0, none⟩) 1 1]).run Tryz.prog (w.alloc (.cells #[x] t)) = .ok v' w' ∧ w'.ownsRow B t 1 v' (xs ++ [x]).length (xs ++ [x]) ∧ Below B w w' ∧ Oth t w w' := by
  obtain ⟨i0, hie, hz0, hz1, hz2⟩ := info_parts hi
  have hnb : (xs.length + 1) * by_ ≤ 1000001 * 24 := Nat.mul_le_mul (by omega) hby
  obtain ⟨v', w', hr, ho, hg, _⟩ := run_append_own_at (P := Tryz.prog) (w := w.alloc (.cells #[x] t)) B ts ty t i0 z 1 by_ hu hie hz0 hz1 hz2 hzc (by decide) v xs.length _ (h.alloc _) ⟨w.heap.size, 0, none⟩ 1 1 [x]
    rfl (fun j u hj => by rw [Addr.add_lit, Nat.zero_add]; exact cell_at (heap_alloc_last w _) j (by simpa using hj)) (fun u hu => by have e : u = x := List.mem_singleton.1 hu; rw [e]; exact hx) (by unfold maxLen; omega) (by omega) (by show B ≤ (w.heap.push _).size; simp; omega)
  have hal : Below w.heap.size w (w.alloc (.cells #[x] t)) := (Below.refl _ w).alloc (Nat.le_refl _) _
  have hown : ∀ k, v.ownBlock = some k → B ≤ k ∧ ∃ c, w.heap[k]? = some (.cells c t (0, 0)) := fun k e => by
    rcases h.2 with ⟨rfl, _⟩ | ⟨g, cap, cur, rfl, hb, hg, _⟩
    · simp [Value.ownBlock] at e
    · simp [Value.ownBlock] at e; subst e; exact ⟨hb, cur, hg⟩
  refine ⟨v', w', hr, ?_, ?_, ?_⟩
  · rw [List.length_append]
    exact ho
  · have hF : Below B (w.alloc (.cells #[x] t)) w' := ⟨hg.os, hg.tape, hg.output, hg.size, fun k hk => hg.block k (by show k < (w.heap.push _).size; simp; omega) (fun e => by have := (hown k e.symm).1; omega)⟩
    exact (hal.mono hB).trans hF
  · refine ⟨Nat.le_trans hal.size hg.size, fun k o hk ho => ?_⟩
    have hk2 := below_at hal hk (heap_lt hk)
    rw [hg.block k (heap_lt hk2) (fun e => by
      obtain ⟨_, c, hc⟩ := hown k e.symm
      rw [hk] at hc
      exact ho c (Option.some.inj hc))]
    exact hk2

/-- The slice v has the numbers zs, in memory from B on. -/
def Ats (w : World) (B : Nat) (v : Value) (zs : List Int) : Prop := w.ownsRow B 3 1 v zs.length (zs.map (Value.int .i64))
theorem Ats.iz {w : World} {B : Nat} {v : Value} {zs : List Int} (h : Ats w B v zs) : Iz w v zs := by
  rcases h.2 with ⟨rfl, h0⟩ | ⟨g, cap, cur, rfl, hb, hg, hc, hm, hs, ht⟩
  · refine ⟨none, 0, by rw [h0], fun k x hx => ?_⟩
    have := (List.getElem?_eq_some_iff.1 hx).1
    omega
  · refine ⟨_, cap, rfl, fun k x hx => ⟨g, 0, rfl, ?_⟩⟩
    rw [Nat.zero_add]
    refine cell_at hg k ?_
    have h1 : (zs.map (Value.int .i64))[k]? = some (.int .i64 x) := by rw [List.getElem?_map, hx]; rfl
    rw [← ht, List.getElem?_take_of_lt (by have := (List.getElem?_eq_some_iff.1 hx).1; omega)] at h1
    simpa using h1
theorem Ats.cut {w : World} {B : Nat} {a : Option Addr} {c : Nat} {zs : List Int} (h : Ats w B (.slice a zs.length c) zs) {k : Nat} (hk : k < zs.length) : Ats w B (.slice a k c) (zs.take k) := by
  have hl : (zs.take k).length = k := by rw [List.length_take]; omega
  refine ⟨by rw [List.length_map, Nat.mul_one], ?_⟩
  rcases h.2 with ⟨_, h0⟩ | ⟨g, cap, cur, e, hb, hg, hc, hm, hs, ht⟩
  · omega
  · cases e
    refine .inr ⟨g, c, cur, by rw [hl], hb, hg, by omega, hm, hs, ?_⟩
    rw [hl, List.map_take, ← ht, List.take_take]
    congr 1
    omega
theorem owns_oth {t t' : TypeId} {w w' : World} {B n : Nat} {v : Value} {xs : List Value} (h : w.ownsRow B t 1 v n xs) (hF : Oth t' w w') (hne : t ≠ t') : w'.ownsRow B t 1 v n xs := by
  refine ⟨h.1, ?_⟩
  rcases h.2 with h2 | ⟨g, cap, cur, rfl, hb, hg, r2⟩
  · exact .inl h2
  · exact .inr ⟨g, cap, cur, rfl, hb, hF.block g _ hg (fun c e => by injection e with _ e2; exact hne e2), r2⟩
theorem owns_fr {t : TypeId} {w w' : World} {B n : Nat} {v : Value} {xs : List Value} {X : List Nat} (h : w.ownsRow B t 1 v n xs) (hF : Fr X w w') (hX : ∀ g c, w.heap[g]? = some (.cells c t (0, 0)) → g ∉ X) : w'.ownsRow B t 1 v n xs := by
  refine ⟨h.1, ?_⟩
  rcases h.2 with h2 | ⟨g, cap, cur, rfl, hb, hg, r2⟩
  · exact .inl h2
  · exact .inr ⟨g, cap, cur, rfl, hb, hF.at hg (hX g cur hg), r2⟩
theorem Ats.below {w w' : World} {B : Nat} {v : Value} {zs : List Int} (h : Ats w B v zs) (hB : Below w.heap.size w w') : Ats w' B v zs := owns_fr (X := []) h (Fr.of_below hB) (by simp)
theorem Ats.nil (w : World) (B : Nat) : Ats w B (.slice none 0 0) [] := World.ownsRow_nil _ _ _ _
theorem infoSl : (Tryz.prog.info? 49).map (fun i => (i.zero, i.size, i.bytes)) = some (some (.slice none 0 0), 1, 24) := by kernel_rfl
theorem Ats.more {w : World} {B : Nat} {v : Value} {zs : List Int} (h : Ats w B v zs) (x : Int) (hn : zs.length ≤ 1000000) (hB : B ≤ w.heap.size) (ty : TypeId) :
    ∃ v' w', (Builtin.append_ #[42, 42] ty #[v, .slice (some ⟨w.heap.size, 0, none⟩) 1 1]).run Tryz.prog (w.alloc (.cells #[.int .i64 x] 3)) = .ok v' w' ∧ Ats w' B v' (zs ++ [x]) ∧ Below B w w' ∧ Oth 3 w w' := by
  have h' : w.ownsRow B 3 1 v (zs.map (Value.int .i64)).length (zs.map (Value.int .i64)) := by rw [List.length_map]; exact h
  obtain ⟨v', w', h1, h2, h3, h4⟩ := more_one Tryz.underlying42 info3 rfl (by decide) h' (.int .i64 x) rfl (by rw [List.length_map]; exact hn) hB ty
  refine ⟨v', w', h1, ?_, h3, h4⟩
  unfold Ats
  rw [List.map_append, List.length_append]
  rw [List.length_append, List.length_map] at h2
  exact h2
/-- All blocks of cells but a disk's, its sectors' and a journal's are as they were. -/
structure Kp (w w' : World) : Prop where
  size : w.heap.size ≤ w'.heap.size
  block : ∀ (g : Nat) (c : Array Value) (t : TypeId) (z : Nat × Nat), w.heap[g]? = some (.cells c t z) → t ≠ 102 → t ≠ 120 → t ≠ 140 → w'.heap[g]? = some (.cells c t z)
theorem Kp.refl (w : World) : Kp w w := ⟨Nat.le_refl _, fun _ _ _ _ h _ _ _ => h⟩
theorem Kp.of_below {w w' : World} (h : Below w.heap.size w w') : Kp w w' := ⟨h.size, fun _ _ _ _ hg _ _ _ => below_at h hg (heap_lt hg)⟩
theorem Kp.trans {a b c : World} (h : Kp a b) (k : Kp b c) : Kp a c := ⟨Nat.le_trans h.size k.size, fun g d t z hg h1 h2 h3 => k.block g d t z (h.block g d t z hg h1 h2 h3) h1 h2 h3⟩
theorem Kp.of_frX {w w' : World} {p : Nat} {X : List Nat} {s : DS} (hD : Disk w p X s) (hF : Fr X w w') : Kp w w' :=
  ⟨hF.size, fun _ _ _ _ hg h1 h2 _ => hF.at hg (hD.other hg h1 h2)⟩
theorem Kp.of_fr {w w' : World} {p j nb : Nat} {X : List Nat} {s : DS} {sq off : Int} (hD : Disk w p X s) (hj : Jn w j p nb sq off) (hF : Fr (j :: X) w w') : Kp w w' :=
  ⟨hF.size, fun g c t z hg h1 h2 h3 => hF.at hg (fun hm => by
    rcases List.mem_cons.1 hm with rfl | hm
    · rw [Jn, hg] at hj
      injection hj with hj
      injection hj with _ e
      exact h3 e
    · exact hD.other hg h1 h2 hm)⟩
theorem Kp.owns {w w' : World} (h : Kp w w') {t : TypeId} {B n : Nat} {v : Value} {xs : List Value} (ho : w.ownsRow B t 1 v n xs) (h1 : t ≠ 102) (h2 : t ≠ 120) (h3 : t ≠ 140) : w'.ownsRow B t 1 v n xs := by
  refine ⟨ho.1, ?_⟩
  rcases ho.2 with h2 | ⟨g, cap, cur, rfl, hb, hg, r2⟩
  · exact .inl h2
  · exact .inr ⟨g, cap, cur, rfl, hb, h.block g _ _ _ hg h1 (by assumption) h3, r2⟩
theorem Kp.ats {w w' : World} (h : Kp w w') {B : Nat} {v : Value} {zs : List Int} (ha : Ats w B v zs) : Ats w' B v zs := h.owns ha (by decide) (by decide) (by decide)
/-- A journal at rest, in memory from B on, the power on. -/
structure Js (B : Nat) (w : World) (j p : Nat) (X : List Nat) (s : DS) (sq cnt : Nat) (bl : List (List UInt8)) : Prop where
  jr : Jr w j p X s sq cnt bl
  cut : s.cut = -1
  lo : ∀ k ∈ X, B ≤ k
  jlo : B ≤ j
theorem Js.below {B : Nat} {w w' : World} {j p : Nat} {X : List Nat} {s : DS} {sq cnt : Nat} {bl : List (List UInt8)} (h : Js B w j p X s sq cnt bl) (hB : Below w.heap.size w w') : Js B w' j p X s sq cnt bl := ⟨h.jr.below hB, h.cut, h.lo, h.jlo⟩
theorem Js.lo' {B : Nat} {w : World} {j p : Nat} {X : List Nat} {s : DS} {sq cnt : Nat} {bl : List (List UInt8)} (h : Js B w j p X s sq cnt bl) : ∀ k ∈ j :: X, B ≤ k := fun k hk => by
  rcases List.mem_cons.1 hk with rfl | hk
  · exact h.jlo
  · exact h.lo k hk
/-- What the document says of a Write: how many there were, and the blocks. -/
def refW (sq : Nat) (bl : List (List UInt8)) (zs : List Int) (ps : List (List UInt8)) : Nat × List (List UInt8) := if Fit bl.length zs ps ∧ zs ≠ [] then (sq + 1, layAll bl (wsOf zs ps)) else (sq, bl)
def refE (bl : List (List UInt8)) (zs : List Int) (ps : List (List UInt8)) : Int := if Fit bl.length zs ps then 0 else 2
theorem Js.wr {B : Nat} {w : World} {j p : Nat} {X : List Nat} {s : DS} {sq cnt : Nat} {bl : List (List UInt8)} (h : Js B w j p X s sq cnt bl) (hBw : B ≤ w.heap.size) (hsq : sq + 1 ≤ 1000000000) {va vb : Value} {zs : List Int} {ps : List (List UInt8)} (ha : Iz w va zs) (hb : Bz w vb ps) (hl : zs.length ≤ 281474976710656) (ho : s.ops + ((2 * nbOf s.n + 4 : Nat) : Int) ≤ 1048576) :
    Calls Tryz.prog 58 #[.pointer (some ⟨j, 0, none⟩), va, vb] w fun e w' => e = .returned (.int .i64 (refE bl zs ps)) ∧ ∃ s' X' cnt', Js B w' j p X' s' (refW sq bl zs ps).1 cnt' (refW sq bl zs ps).2 ∧ s'.n = s.n ∧ s.ops ≤ s'.ops ∧ s'.ops ≤ s.ops + ((2 * zs.length + 4 : Nat) : Int) ∧ (¬ (Fit bl.length zs ps ∧ zs ≠ []) → s' = s) ∧ (∀ k ∈ X', k ∈ X ∨ w.heap.size ≤ k) ∧ Fr (j :: X) w w' ∧ Below B w w' ∧ Kp w w' := by
  have hbl : bl.length = nbOf s.n := h.jr.sett.con.len
  unfold refE refW
  by_cases hf : Fit bl.length zs ps
  · rw [if_pos hf]
    by_cases h0 : zs = []
    · subst h0
      obtain rfl : ps = [] := List.length_eq_zero_iff.1 hf.1.symm
      rw [if_neg (fun e => e.2 rfl)]
      refine (jwrite_none h.jr.jn ha hb).mono ?_
      rintro e w' ⟨he, hB⟩
      exact ⟨he, s, X, cnt, h.below hB, rfl, Int.le_refl _, by omega, fun _ => rfl, fun k hk => .inl hk, Fr.of_below hB, hB.mono hBw, Kp.of_below hB⟩
    · rw [if_pos ⟨hf, h0⟩]
      have hf' : Fit (nbOf s.n) zs ps := by rw [← hbl]; exact hf
      have hle := hf'.len
      refine (h.jr.write h.cut hsq ha hb hf' h0 (by omega)).mono ?_
      rintro e w' ⟨he, s', X', hJ, h1, h2, h3, hX, hF⟩
      exact ⟨he, s', X', _, ⟨hJ, h2, fun k hk => (hX k hk).elim (h.lo k) (Nat.le_trans hBw), h.jlo⟩, h1, by omega, by omega, fun hn => absurd ⟨hf, h0⟩ hn, hX, hF, hF.below hBw h.lo', Kp.of_fr h.jr.disk h.jr.jn hF⟩
  · rw [if_neg hf, if_neg (fun e => hf e.1)]
    refine (jwrite_bad h.jr.jn ha hb hl (by rw [← hbl]; exact hf)).mono ?_
    rintro e w' ⟨he, hB⟩
    exact ⟨he, s, X, cnt, h.below hB, rfl, Int.le_refl _, by omega, fun _ => rfl, fun k hk => .inl hk, Fr.of_below hB, hB.mono hBw, Kp.of_below hB⟩
/-- Read of a block, as a text. -/
theorem Jr.readS {w : World} {j p : Nat} {X : List Nat} {s : DS} {sq cnt : Nat} {bl : List (List UInt8)} (h : Jr w j p X s sq cnt bl) {i : Nat} {b : List UInt8} (hb : bl[i]? = some b) :
    Calls Tryz.prog 95 #[.pointer (some ⟨j, 0, none⟩), .int .i64 i] w fun e w' => Below w.heap.size w w' ∧ ∃ g f, w.heap.size ≤ g ∧ e = .returned (.tuple #[.slice (some ⟨g, 0, none⟩) 112 112, .int .i64 0]) ∧ Rw w' g 141 f ∧ f.length = 128 ∧ f.take 112 = b ∧ Sl w' (.slice (some ⟨g, 0, none⟩) 112 112) b := by
  refine (h.read hb).mono ?_
  rintro e w' ⟨hB, g, f, hg, he, hf, hfl, hft⟩
  refine ⟨hB, g, f, hg, he, hf, hfl, hft, ?_⟩
  have h1 := hf.rd.part 0 112
  rw [List.drop_zero, hft] at h1
  have hbl : b.length = 112 := h.sett.con.lens b (List.mem_of_getElem? hb)
  have h2 := Sl.mk (cap := 112) h1 (by omega)
  rw [hbl] at h2
  exact h2
theorem refW_len (sq : Nat) (bl : List (List UInt8)) (zs : List Int) (ps : List (List UInt8)) {B : Nat} {w : World} {j p : Nat} {X : List Nat} {s : DS} {cnt : Nat} (h : Js B w j p X s (refW sq bl zs ps).1 cnt (refW sq bl zs ps).2) : (refW sq bl zs ps).2.length = nbOf s.n := h.jr.sett.con.len
theorem refW_seq (sq : Nat) (bl : List (List UInt8)) (zs : List Int) (ps : List (List UInt8)) : sq ≤ (refW sq bl zs ps).1 ∧ (refW sq bl zs ps).1 ≤ sq + 1 := by
  unfold refW; split <;> simp
theorem Disk.same {w w' : World} {p : Nat} {X : List Nat} {s : DS} (h : Disk w p X s) (hk : ∀ k ∈ X, w'.heap[k]? = w.heap[k]?) : Disk w' p X s := by
  obtain ⟨a, ca, b, cb, m, rfl, hD, ⟨c1, hA, r1⟩, ⟨c2, hB, r2⟩, hM, r⟩ := h
  exact ⟨a, ca, b, cb, m, rfl, (hk _ (by simp)).trans hD, ⟨c1, (hk _ (by simp)).trans hA, r1⟩, ⟨c2, (hk _ (by simp)).trans hB, r2⟩, (hk _ (by simp)).trans hM, r⟩
theorem Js.same {B : Nat} {w w' : World} {j p : Nat} {X : List Nat} {s : DS} {sq cnt : Nat} {bl : List (List UInt8)} (h : Js B w j p X s sq cnt bl) (hk : ∀ k ∈ j :: X, w'.heap[k]? = w.heap[k]?) (ht : Tab w') : Js B w' j p X s sq cnt bl :=
  ⟨⟨(hk j (by simp)).trans h.jr.jn, h.jr.disk.same (fun k hm => hk k (by simp [hm])), ht, h.jr.sett⟩, h.cut, h.lo, h.jlo⟩
theorem Js.lt {B : Nat} {w : World} {j p : Nat} {X : List Nat} {s : DS} {sq cnt : Nat} {bl : List (List UInt8)} (h : Js B w j p X s sq cnt bl) : ∀ k ∈ j :: X, k < w.heap.size := fun k hk => by
  rcases List.mem_cons.1 hk with rfl | hk
  · exact heap_lt h.jr.jn
  · exact h.jr.disk.lt k hk
theorem Js.not {B : Nat} {w : World} {j p : Nat} {X : List Nat} {s : DS} {sq cnt : Nat} {bl : List (List UInt8)} (h : Js B w j p X s sq cnt bl) {g : Nat} {c : Array Value} {t : TypeId} {z : Nat × Nat} (hg : w.heap[g]? = some (.cells c t z)) (h1 : t ≠ 102) (h2 : t ≠ 120) (h3 : t ≠ 140) : g ∉ j :: X := fun hm => by
  rcases List.mem_cons.1 hm with rfl | hm
  · have hj := h.jr.jn
    rw [Jn, hg] at hj
    injection hj with hj
    injection hj with _ e
    exact h3 e
  · exact h.jr.disk.other hg h1 h2 hm
theorem Js.oth {B : Nat} {w w' : World} {j p : Nat} {X : List Nat} {s : DS} {sq cnt : Nat} {bl : List (List UInt8)} (h : Js B w j p X s sq cnt bl) {t : TypeId} (hO : Oth t w w') (h1 : t ≠ 102) (h2 : t ≠ 120) (h3 : t ≠ 140) (ht : Tab w') : Js B w' j p X s sq cnt bl :=
  h.same (fun k hk => by
    obtain ⟨o, ho⟩ : ∃ o, w.heap[k]? = some o := ⟨_, Array.getElem?_eq_getElem (h.lt k hk)⟩
    rw [ho]
    exact hO.block k o ho (fun c e => by subst e; exact h.not ho h1 h2 h3 hk)) ht
theorem Js.fr {B : Nat} {w w' : World} {j p : Nat} {X Y : List Nat} {s : DS} {sq cnt : Nat} {bl : List (List UInt8)} (h : Js B w j p X s sq cnt bl) (hF : Fr Y w w') (hY : ∀ k ∈ j :: X, k ∉ Y) (ht : Tab w') : Js B w' j p X s sq cnt bl :=
  h.same (fun k hk => hF.block k (h.lt k hk) (hY k hk)) ht
theorem Tab.belowB {B : Nat} {w w' : World} (h : Tab w) (hB : Below B w w') (hl : 0 < B) : Tab w' := fun k hk => by
  rw [hB.cell (p := ⟨0, k, none⟩) hl]; exact h k hk
theorem neqS (a b : List UInt8) (r : Bool) (h : decide (a ≠ b) = r) (w : World) : (binOp .neq 9 (strV a) (strV b)).run Tryz.prog w = .ok (.bool r) w := by
  subst h
  unfold strV
  go_simp
  by_cases hab : a = b <;> simp [hab]
theorem neqE (a b : Int) (r : Bool) (h : (a != b) = r) (w : World) : (binOp .neq 33 (.int .i64 a) (.int .i64 b)).run Tryz.prog w = .ok (.bool r) w := by subst h; go_simp
theorem y_neqS {ops : Array Oper} {S : World → Prop} {o : Oper} {a : Act} {x y : Operand} {t' : TypeId} {l m : List UInt8} {r : Bool} (hop : o.op = .binOp .neq 9 x y t') (hw : Region.wanted o (yielded ops a.tmps) = true) (hx : a.eval x = strV l) (hy : a.eval y = strV m) (hr : decide (l ≠ m) = r) : YieldsIf Tryz.prog ops S o (.bool r) a :=
  .inl ⟨hw, fun w _ => by
    unfold execOp; rw [hop]; simp only [hx, hy, Sem.run_bind]
    have : (eqGuard .neq 9 x y (strV l) (strV m)).run Tryz.prog w = .ok () w := by
      unfold eqGuard strV; go_simp
    rw [this]; simp only [Result.andThen_ok, neqS l m r hr w]; rfl⟩
/-- A journal at rest, in memory from B on; the power may go. -/
structure Jc (B : Nat) (w : World) (j p : Nat) (X : List Nat) (s : DS) (sq cnt : Nat) (bl : List (List UInt8)) : Prop where
  jr : Jr w j p X s sq cnt bl
  lo : ∀ k ∈ X, B ≤ k
  jlo : B ≤ j
theorem Jc.below {B : Nat} {w w' : World} {j p : Nat} {X : List Nat} {s : DS} {sq cnt : Nat} {bl : List (List UInt8)} (h : Jc B w j p X s sq cnt bl) (hB : Below w.heap.size w w') : Jc B w' j p X s sq cnt bl := ⟨h.jr.below hB, h.lo, h.jlo⟩
theorem Jc.lo' {B : Nat} {w : World} {j p : Nat} {X : List Nat} {s : DS} {sq cnt : Nat} {bl : List (List UInt8)} (h : Jc B w j p X s sq cnt bl) : ∀ k ∈ j :: X, B ≤ k := fun k hk => by
  rcases List.mem_cons.1 hk with rfl | hk
  · exact h.jlo
  · exact h.lo k hk
theorem Jc.lt {B : Nat} {w : World} {j p : Nat} {X : List Nat} {s : DS} {sq cnt : Nat} {bl : List (List UInt8)} (h : Jc B w j p X s sq cnt bl) : ∀ k ∈ j :: X, k < w.heap.size := fun k hk => by
  rcases List.mem_cons.1 hk with rfl | hk
  · exact heap_lt h.jr.jn
  · exact h.jr.disk.lt k hk
theorem Jc.not {B : Nat} {w : World} {j p : Nat} {X : List Nat} {s : DS} {sq cnt : Nat} {bl : List (List UInt8)} (h : Jc B w j p X s sq cnt bl) {g : Nat} {c : Array Value} {t : TypeId} {z : Nat × Nat} (hg : w.heap[g]? = some (.cells c t z)) (h1 : t ≠ 102) (h2 : t ≠ 120) (h3 : t ≠ 140) : g ∉ j :: X := fun hm => by
  rcases List.mem_cons.1 hm with rfl | hm
  · have hj := h.jr.jn
    rw [Jn, hg] at hj
    injection hj with hj
    injection hj with _ e
    exact h3 e
  · exact h.jr.disk.other hg h1 h2 hm
theorem Jc.fr {B : Nat} {w w' : World} {j p : Nat} {X Y : List Nat} {s : DS} {sq cnt : Nat} {bl : List (List UInt8)} (h : Jc B w j p X s sq cnt bl) (hF : Fr Y w w') (hY : ∀ k ∈ j :: X, k ∉ Y) (ht : Tab w') : Jc B w' j p X s sq cnt bl :=
  ⟨⟨hF.at h.jr.jn (hY j (by simp)), h.jr.disk.fr hF (fun k hk => hY k (by simp [hk])), ht, h.jr.sett⟩, h.lo, h.jlo⟩
/-- What a Write leaves where the power went: wholly or not at all. -/
structure Gone (B : Nat) (w : World) (j p : Nat) (X : List Nat) (s : DS) (n sq cnt : Nat) (bl : List (List UInt8)) (sq2 cnt2 : Nat) (bl2 : List (List UInt8)) : Prop where
  jn : ∃ q : Int, Jn w j p (nbOf n) q 43
  disk : Disk w p X s
  tab : Tab w
  sn : s.n = n
  lo : ∀ k ∈ X, B ≤ k
  jlo : B ≤ j
  con : ∀ zs, Con (crashed s.kept s.loose zs) (nbOf n) sq cnt bl ∨ Con (crashed s.kept s.loose zs) (nbOf n) sq2 cnt2 bl2
theorem Jc.wr {B : Nat} {w : World} {j p : Nat} {X : List Nat} {s : DS} {sq cnt : Nat} {bl : List (List UInt8)} (h : Jc B w j p X s sq cnt bl) (hBw : B ≤ w.heap.size) (hsq : sq + 1 ≤ 1000000000) {va vb : Value} {zs : List Int} {ps : List (List UInt8)} (ha : Iz w va zs) (hb : Bz w vb ps) (hl : zs.length ≤ 281474976710656) (ho : s.ops + ((2 * nbOf s.n + 4 : Nat) : Int) ≤ 1048576) :
    Calls Tryz.prog 58 #[.pointer (some ⟨j, 0, none⟩), va, vb] w fun e w' => Below B w w' ∧ Kp w w' ∧
      ((e = .returned (.int .i64 (refE bl zs ps)) ∧ ∃ s' X' cnt', Jc B w' j p X' s' (refW sq bl zs ps).1 cnt' (refW sq bl zs ps).2 ∧ s'.n = s.n ∧ s.ops ≤ s'.ops ∧ s'.ops ≤ s.ops + ((2 * zs.length + 4 : Nat) : Int)) ∨
       (e = .returned (.int .i64 43) ∧ refE bl zs ps = 0 ∧ ∃ s' X' cnt2, Gone B w' j p X' s' s.n sq cnt bl (refW sq bl zs ps).1 cnt2 (refW sq bl zs ps).2)) := by
  have hbl : bl.length = nbOf s.n := h.jr.sett.con.len
  unfold refE refW
  by_cases hf : Fit bl.length zs ps
  · rw [if_pos hf]
    by_cases h0 : zs = []
    · subst h0
      obtain rfl : ps = [] := List.length_eq_zero_iff.1 hf.1.symm
      rw [if_neg (fun e => e.2 rfl)]
      refine (jwrite_none h.jr.jn ha hb).mono ?_
      rintro e w' ⟨he, hB⟩
      exact ⟨hB.mono hBw, Kp.of_below hB, .inl ⟨he, s, X, cnt, h.below hB, rfl, Int.le_refl _, by omega⟩⟩
    · rw [if_pos ⟨hf, h0⟩]
      have hf' : Fit (nbOf s.n) zs ps := by rw [← hbl]; exact hf
      have hwl := wsOf_len hf'.1
      have hnl := hf'.len
      have hs := com_shape h.jr.sett (ws := wsOf zs ps) hsq (by rw [hwl]; exact hnl) (wsOf_nodup hf') (wsOf_ok hf') (by rw [hwl]; omega)
      rw [hwl] at hs
      refine (jwrite_any h.jr.jn h.jr.disk h.jr.tab (by have := h.jr.nb; omega) (by omega) ha hb hf' h0).mono ?_
      rintro e w' ⟨he, hj, ⟨X', hD, hX⟩, hF⟩
      rw [nsOf_ws hf'] at he hj hD
      refine ⟨hF.below hBw h.lo', Kp.of_fr h.jr.disk h.jr.jn hF, ?_⟩
      have hT := h.jr.tab.fr hF (tab_not h.jr.disk h.jr.jn h.jr.tab)
      have hlo : ∀ k ∈ X', B ≤ k := fun k hk => (hX k hk).elim (h.lo k) (Nat.le_trans hBw)
      rcases hs with ⟨s', hc, hS, h1, h2, h3⟩ | ⟨s', hc, _, h1, hcon⟩
      · rw [hc] at he hj hD
        refine .inl ⟨he, s', X', _, ⟨⟨?_, hD, hT, hS⟩, hlo, h.jlo⟩, h1, by omega, by omega⟩
        rw [h1]
        exact hj
      · rw [hc] at he hj hD
        exact .inr ⟨he, rfl, s', X', zs.length, ⟨_, hj⟩, hD, hT, h1, hlo, h.jlo, hcon⟩
  · rw [if_neg hf, if_neg (fun e => hf e.1)]
    refine (jwrite_bad h.jr.jn ha hb hl (by rw [← hbl]; exact hf)).mono ?_
    rintro e w' ⟨he, hB⟩
    exact ⟨hB.mono hBw, Kp.of_below hB, .inl ⟨he, s, X, cnt, h.below hB, rfl, Int.le_refl _, by omega⟩⟩
theorem notesR_zero (nb : Nat) (sq : Int) : ∀ (L : List (List UInt8)) (i : Nat) (ns : List (Nat × List UInt8)), notesR nb sq ((0 : Nat) : Int) i L = some ns → ns = []
  | [], i, ns, h => by simp [notesR] at h; exact h
  | l :: L, i, ns, h => by
    have hs : ∀ a, noteStep nb sq ((0 : Nat) : Int) i l = some a → a = [] := fun a ha => by
      unfold noteStep at ha
      split at ha
      · cases ha
      · rw [if_pos (by omega)] at ha; cases ha; rfl
    simp only [notesR] at h
    cases hn : noteStep nb sq ((0 : Nat) : Int) i l with
    | none => rw [hn] at h; cases h
    | some a =>
      rw [hn] at h
      simp only [Option.map_eq_some_iff] at h
      obtain ⟨b, hb, rfl⟩ := h
      rw [hs a hn, notesR_zero nb sq L (i + 1) b hb]
      rfl
theorem Con.opens0 {s : DS} {sq : Nat} {bl : List (List UInt8)} (h : Con s.now (nbOf s.n) sq 0 bl) (hl : s.loose = []) : s.openR = (0, ((sq : Nat) : Int), s) := by
  obtain ⟨ns, hns, _, _⟩ := h.notesOf
  have h0 := notesR_zero _ _ _ _ _ hns
  subst h0
  unfold DS.openR
  rw [h.last, if_neg (by simp)]
  simp only [hns]
  rw [if_neg (by rw [h.ok]; decide), List.filter_nil]
  unfold DS.mendR
  rw [hl]
  simp
theorem tab_lt {w : World} (h : Tab w) : 0 < w.heap.size := World.block_lt_of_cell? w _ (h 0 (by decide))
theorem open_first {w : World} {p : Nat} {X : List Nat} {s : DS} {sq : Nat} {bl : List (List UInt8)} (hD : Disk w p X s) (ht : Tab w) (hS : Sett s sq 0 bl) (hn : 0 ∉ X) :
    Calls Tryz.prog 25 #[.pointer (some ⟨p, 0, none⟩)] w fun e w' => ∃ j X', w.heap.size ≤ j ∧ e = .returned (.tuple #[.pointer (some ⟨j, 0, none⟩), .int .i64 0]) ∧ Jr w' j p X' s sq 0 bl ∧ (∀ k ∈ X', k ∈ X ∨ w.heap.size ≤ k) ∧ Fr X w w' := by
  refine (open_any hD ht hS.gone hS.n32).mono ?_
  rintro e w' ⟨⟨X', hD', hX'⟩, hF, hr⟩
  rw [hS.con.opens0 hS.loose] at hD' hr
  rcases hr with ⟨hne, _⟩ | ⟨_, j, hj, he, hJ⟩
  · exact absurd rfl hne
  · exact ⟨j, X', hj, he, ⟨hJ, hD', ht.fr hF hn, hS⟩, hX', hF⟩
/-- Which of n things the number speaks of. -/
def pk (c : Int) (n : Nat) : Nat := ((if c < 0 then -(c + 1) else c) % (n : Int)).toNat
theorem pk_lt (c : Int) {n : Nat} (h : n ≠ 0) : pk c n < n := by
  unfold pk
  have h1 := Int.emod_nonneg (if c < 0 then -(c + 1) else c) (show (n : Int) ≠ 0 by omega)
  have h2 := Int.emod_lt_of_pos (if c < 0 then -(c + 1) else c) (show (0 : Int) < n by omega)
  omega

theorem ret_intK {k : IntKind} {a b : Int} (h : a = b) : Ending.returned (.int k a) = .returned (.int k b) := by rw [h]
set_option maxHeartbeats 400000 in
theorem pick_any (c : Int) (n : Nat) (h0 : -9223372036854775808 ≤ c) (h1 : c ≤ 9223372036854775807) (hn : n ≠ 0) (w : World) :
    Calls Tryz.prog 12 #[.int .i64 c, .int .i64 n] w fun e w' => e = .returned (.int .i64 (pk c n : Nat)) ∧ w' = w := by
  have fin : ∀ d : Int, (if c < 0 then -(c + 1) else c) = d → ((pk c n : Nat) : Int) = d % (n : Int) := fun d hd => by
    unfold pk; rw [hd]
    have := Int.emod_nonneg d (show (n : Int) ≠ 0 by omega)
    omega
  have hnz : ((n : Int) == 0) = false := by rw [beq_eq_false_iff_ne]; omega
  by_cases hc : c < 0
  · obtain ⟨d, hd, hd0, hd1⟩ : ∃ d : Int, c = -d ∧ 1 ≤ d ∧ d ≤ 9223372036854775808 := ⟨-c, by omega, by omega, by omega⟩
    have hf := fin (d - 1) (by rw [if_pos hc]; omega)
    rw [hf]
    clear fin hf
    go_enter Tryz.func12, Tryz.ntmps12
    go_wp2
    go_ret
    refine ⟨ret_intK ?_, rfl⟩
    have e : -d + 1 = -(d - 1) := by omega
    rw [e, Int.neg_tmod, Int.neg_neg, Int.tmod_eq_emod_of_nonneg (by omega)]
  · have hf := fin c (by rw [if_neg hc])
    rw [hf]
    clear fin hf
    go_enter Tryz.func12, Tryz.ntmps12
    go_wp2
    go_ret
    exact ⟨rfl, rfl⟩


end Go.Proofs.YtdbgccgjdgomkaaGreatDoor
