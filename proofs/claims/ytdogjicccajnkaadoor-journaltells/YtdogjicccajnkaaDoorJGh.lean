/- texts put together: JBks JBlocks JSess JFrame -/
import Derived.Test.YtdogjicccajnkaaDoorJGg
import Derived.Test.YtdogjicccajnkaaDoorRows
import Derived.ProofKit
import Derived.LaidMore
import Derived.OpenShut
import Derived.ShutString
import Derived.ChangeMaps5
import Derived.Stop.Joined
import Derived.Stop.LaidErr
import Derived.Lib.LaidTab
import Derived.Deep.DeepHandedRow
import Derived.Deep.Slices
import Derived.Deep.Matrix
/- What the law's blocks makes: places and parts, in memory of their own. -/
namespace Go.Proofs.YtdogjicccajnkaaDoor
open Go Go.RowKit

/-- All blocks but those of one kind are as they were. -/
structure Oth (t : TypeId) (w w' : World) : Prop where
  size : w.heap.size ≤ w'.heap.size
  block : ∀ (k : Nat) (o : Obj), w.heap[k]? = some o → (∀ c, o ≠ .cells c t (0, 0)) → w'.heap[k]? = some o
theorem Oth.of_below {t : TypeId} {w w' : World} (h : Below w.heap.size w w') : Oth t w w' := ⟨h.size, fun _ _ hk _ => below_at h hk (heap_lt hk)⟩
theorem Oth.trans {t : TypeId} {a b c : World} (h : Oth t a b) (k : Oth t b c) : Oth t a c := ⟨Nat.le_trans h.size k.size, fun i o hi ho => k.block i o (h.block i o hi ho) ho⟩

theorem more_one {t ts : TypeId} {z : Value} {by_ : Nat} (hu : Tryd.prog.underlying ts = some (.slice t)) (hi : (Tryd.prog.info? t).map (fun i => (i.zero, i.size, i.bytes)) = some (some z, 1, by_)) (hzc : z.cells.size = 1) (hby : by_ ≤ 24)
    {w : World} {B : Nat} {v : Value} {xs : List Value} (h : w.ownsRow B t 1 v xs.length xs) (x : Value) (hx : x.oneCell' = true) (hn : xs.length ≤ 1000000) (hB : B ≤ w.heap.size) (ty : TypeId) :
    ∃ v' w', (Builtin.append_ #[ts, ts] ty #[v, .slice (some ⟨w.heap.size, 0, none⟩) 1 1]).run Tryd.prog (w.alloc (.cells #[x] t)) = .ok v' w' ∧ w'.ownsRow B t 1 v' (xs ++ [x]).length (xs ++ [x]) ∧ Below B w w' ∧ Oth t w w' := by
  obtain ⟨i0, hie, hz0, hz1, hz2⟩ := info_parts hi
  have hnb : (xs.length + 1) * by_ ≤ 1000001 * 24 := Nat.mul_le_mul (by omega) hby
  obtain ⟨v', w', hr, ho, hg, _⟩ := run_append_own_at (P := Tryd.prog) (w := w.alloc (.cells #[x] t)) B ts ty t i0 z 1 by_ hu hie hz0 hz1 hz2 hzc (by decide) v xs.length _ (h.alloc _) ⟨w.heap.size, 0, none⟩ 1 1 [x]
    rfl (fun j u hj => by rw [Addr.add_lit, Nat.zero_add]; exact cell_at (heap_alloc_last w _) j (by simpa using hj)) (fun u hu => by have e : u = x := List.mem_singleton.1 hu; rw [e]; exact hx) (by unfold maxLen; omega) (by omega) (by show B ≤ (w.heap.push _).size; simp; omega)
  have hal : Below w.heap.size w (w.alloc (.cells #[x] t)) := (Below.refl _ w).alloc (Nat.le_refl _) _
  have hown : ∀ k, v.ownBlock = some k → B ≤ k ∧ ∃ c, w.heap[k]? = some (.cells c t (0, 0)) := fun k e => by
    rcases h.2 with ⟨rfl, _⟩ | ⟨g, cap, cur, rfl, hb, hg, _⟩
    · simp [Value.ownBlock] at e
    · simp [Value.ownBlock] at e; subst e; exact ⟨hb, cur, hg⟩
  refine ⟨v', w', hr, ?_, ?_, ?_⟩
  · rw [List.length_append]
    exact ho
  · have hF : Below B (w.alloc (.cells #[x] t)) w' := ⟨hg.os, hg.tape, hg.output, hg.size, fun k hk => hg.block k (by show k < (w.heap.push _).size; simp; omega) (fun e => by have := (hown k e.symm).1; omega)⟩
    exact (hal.mono hB).trans hF
  · refine ⟨Nat.le_trans hal.size hg.size, fun k o hk ho => ?_⟩
    have hk2 := below_at hal hk (heap_lt hk)
    rw [hg.block k (heap_lt hk2) (fun e => by
      obtain ⟨_, c, hc⟩ := hown k e.symm
      rw [hk] at hc
      exact ho c (Option.some.inj hc))]
    exact hk2

/-- The slice v has the numbers zs, in memory from B on. -/
def Ats (w : World) (B : Nat) (v : Value) (zs : List Int) : Prop := w.ownsRow B 3 1 v zs.length (zs.map (Value.int .i64))
theorem Ats.iz {w : World} {B : Nat} {v : Value} {zs : List Int} (h : Ats w B v zs) : Iz w v zs := by
  rcases h.2 with ⟨rfl, h0⟩ | ⟨g, cap, cur, rfl, hb, hg, hc, hm, hs, ht⟩
  · refine ⟨none, 0, by rw [h0], fun k x hx => ?_⟩
    have := (List.getElem?_eq_some_iff.1 hx).1
    omega
  · refine ⟨_, cap, rfl, fun k x hx => ⟨g, 0, rfl, ?_⟩⟩
    rw [Nat.zero_add]
    refine cell_at hg k ?_
    have h1 : (zs.map (Value.int .i64))[k]? = some (.int .i64 x) := by rw [List.getElem?_map, hx]; rfl
    rw [← ht, List.getElem?_take_of_lt (by have := (List.getElem?_eq_some_iff.1 hx).1; omega)] at h1
    simpa using h1
theorem Ats.cut {w : World} {B : Nat} {a : Option Addr} {c : Nat} {zs : List Int} (h : Ats w B (.slice a zs.length c) zs) {k : Nat} (hk : k < zs.length) : Ats w B (.slice a k c) (zs.take k) := by
  have hl : (zs.take k).length = k := by rw [List.length_take]; omega
  refine ⟨by rw [List.length_map, Nat.mul_one], ?_⟩
  rcases h.2 with ⟨_, h0⟩ | ⟨g, cap, cur, e, hb, hg, hc, hm, hs, ht⟩
  · omega
  · cases e
    refine .inr ⟨g, c, cur, by rw [hl], hb, hg, by omega, hm, hs, ?_⟩
    rw [hl, List.map_take, ← ht, List.take_take]
    congr 1
    omega
theorem owns_oth {t t' : TypeId} {w w' : World} {B n : Nat} {v : Value} {xs : List Value} (h : w.ownsRow B t 1 v n xs) (hF : Oth t' w w') (hne : t ≠ t') : w'.ownsRow B t 1 v n xs := by
  refine ⟨h.1, ?_⟩
  rcases h.2 with h2 | ⟨g, cap, cur, rfl, hb, hg, r2⟩
  · exact .inl h2
  · exact .inr ⟨g, cap, cur, rfl, hb, hF.block g _ hg (fun c e => by injection e with _ e2; exact hne e2), r2⟩
theorem owns_fr {t : TypeId} {w w' : World} {B n : Nat} {v : Value} {xs : List Value} {X : List Nat} (h : w.ownsRow B t 1 v n xs) (hF : Fr X w w') (hX : ∀ g c, w.heap[g]? = some (.cells c t (0, 0)) → g ∉ X) : w'.ownsRow B t 1 v n xs := by
  refine ⟨h.1, ?_⟩
  rcases h.2 with h2 | ⟨g, cap, cur, rfl, hb, hg, r2⟩
  · exact .inl h2
  · exact .inr ⟨g, cap, cur, rfl, hb, hF.at hg (hX g cur hg), r2⟩
/-- A part: its block, its length, and what lies in the block. -/
abbrev Qp := Nat × Nat × List UInt8
def qv (q : Qp) : Value := .slice (some ⟨q.1, 0, none⟩) q.2.1 112
def ql (q : Qp) : List UInt8 := q.2.2.take q.2.1
def Qok (w : World) (B : Nat) (q : Qp) : Prop := Rw w q.1 5 q.2.2 ∧ B ≤ q.1 ∧ q.2.1 ≤ 112 ∧ q.2.2.length = 112
/-- The slice v has the parts qs, in memory from B on. -/
def Bks (w : World) (B : Nat) (v : Value) (qs : List Qp) : Prop := w.ownsRow B 33 1 v qs.length (qs.map qv) ∧ ∀ q ∈ qs, Qok w B q
theorem ql_len {w : World} {B : Nat} {q : Qp} (h : Qok w B q) : (ql q).length = q.2.1 := by
  have h1 := h.2.2.1
  have h2 := h.2.2.2
  unfold ql
  rw [List.length_take]; omega
theorem Bks.cell {w : World} {B : Nat} {v : Value} {qs : List Qp} (h : Bks w B v qs) {k : Nat} {q : Qp} (hk : qs[k]? = some q) : ∃ g cap, v = .slice (some ⟨g, 0, none⟩) qs.length cap ∧ w.cell? ⟨g, k, none⟩ = some (qv q) := by
  have hkl := (List.getElem?_eq_some_iff.1 hk).1
  rcases h.1.2 with ⟨rfl, h0⟩ | ⟨g, cap, cur, rfl, hb, hg, hc, hm, hs, ht⟩
  · omega
  · refine ⟨g, cap, rfl, cell_at hg k ?_⟩
    have h1 : (qs.map qv)[k]? = some (qv q) := by rw [List.getElem?_map, hk]; rfl
    rw [← ht, List.getElem?_take_of_lt (by omega)] at h1
    simpa using h1
theorem Qok.sl {w : World} {B : Nat} {q : Qp} (h : Qok w B q) : Sl w (qv q) (ql q) := by
  have h2 := Rd.part h.1.rd 0 q.2.1
  rw [List.drop_zero] at h2
  have hl := ql_len h
  unfold qv
  rw [← hl]
  exact Sl.mk h2 (by have := h.2.2.1; show (ql q).length ≤ _; omega)
theorem Bks.bz {w : World} {B : Nat} {v : Value} {qs : List Qp} (h : Bks w B v qs) : Bz w v (qs.map ql) := by
  obtain ⟨a, cap, hv⟩ : ∃ a cap, v = .slice a qs.length cap := by
    rcases h.1.2 with ⟨rfl, h0⟩ | ⟨g, cap, cur, rfl, _⟩
    · exact ⟨none, 0, by rw [h0]⟩
    · exact ⟨_, cap, rfl⟩
  refine ⟨a, cap, by rw [hv, List.length_map], fun k hk => ?_⟩
  rw [List.length_map] at hk
  obtain ⟨q, hq⟩ : ∃ q, qs[k]? = some q := ⟨qs[k], List.getElem?_eq_getElem hk⟩
  obtain ⟨g, cap', hv2, hc⟩ := h.cell hq
  rw [hv] at hv2
  injection hv2 with e1 e2 e3
  have hok := h.2 q (List.mem_of_getElem? hq)
  have hg : (qs.map ql).getD k [] = ql q := by simp [List.getD, hq]
  refine ⟨g, 0, some ⟨q.1, 0, none⟩, 112, e1, ?_, ?_⟩
  · rw [Nat.zero_add, hg, ql_len hok]; exact hc
  · rw [hg, ql_len hok]; exact hok.sl
theorem Bks.oth {w w' : World} {B : Nat} {v : Value} {qs : List Qp} {t : TypeId} (h : Bks w B v qs) (hF : Oth t w w') (h1 : t ≠ 33) (h2 : t ≠ 5) : Bks w' B v qs :=
  ⟨owns_oth h.1 hF (fun e => h1 e.symm), fun q hq => ⟨hF.block _ _ (h.2 q hq).1 (fun c e => by injection e with _ e2; exact h2 e2.symm), (h.2 q hq).2⟩⟩
theorem Bks.fr {w w' : World} {B : Nat} {v : Value} {qs : List Qp} {X : List Nat} (h : Bks w B v qs) (hF : Fr X w w') (hX : ∀ g c, w.heap[g]? = some (.cells c 33 (0, 0)) → g ∉ X) (hY : ∀ g l, Rw w g 5 l → g ∉ X) : Bks w' B v qs :=
  ⟨owns_fr h.1 hF hX, fun q hq => ⟨hF.at (h.2 q hq).1 (hY _ _ (h.2 q hq).1), (h.2 q hq).2⟩⟩
theorem Bks.below {w w' : World} {B : Nat} {v : Value} {qs : List Qp} (h : Bks w B v qs) (hB : Below w.heap.size w w') : Bks w' B v qs := h.fr (X := []) (Fr.of_below hB) (by simp) (by simp)
theorem Ats.below {w w' : World} {B : Nat} {v : Value} {zs : List Int} (h : Ats w B v zs) (hB : Below w.heap.size w w') : Ats w' B v zs := owns_fr (X := []) h (Fr.of_below hB) (by simp)
theorem Ats.nil (w : World) (B : Nat) : Ats w B (.slice none 0 0) [] := World.ownsRow_nil _ _ _ _
theorem Bks.nil (w : World) (B : Nat) : Bks w B (.slice none 0 0) [] := ⟨World.ownsRow_nil _ _ _ _, by simp⟩
theorem infoSl : (Tryd.prog.info? 33).map (fun i => (i.zero, i.size, i.bytes)) = some (some (.slice none 0 0), 1, 24) := by kernel_rfl
theorem Ats.more {w : World} {B : Nat} {v : Value} {zs : List Int} (h : Ats w B v zs) (x : Int) (hn : zs.length ≤ 1000000) (hB : B ≤ w.heap.size) (ty : TypeId) :
    ∃ v' w', (Builtin.append_ #[43, 43] ty #[v, .slice (some ⟨w.heap.size, 0, none⟩) 1 1]).run Tryd.prog (w.alloc (.cells #[.int .i64 x] 3)) = .ok v' w' ∧ Ats w' B v' (zs ++ [x]) ∧ Below B w w' ∧ Oth 3 w w' := by
  have h' : w.ownsRow B 3 1 v (zs.map (Value.int .i64)).length (zs.map (Value.int .i64)) := by rw [List.length_map]; exact h
  obtain ⟨v', w', h1, h2, h3, h4⟩ := more_one Tryd.underlying43 info3 rfl (by decide) h' (.int .i64 x) rfl (by rw [List.length_map]; exact hn) hB ty
  refine ⟨v', w', h1, ?_, h3, h4⟩
  unfold Ats
  rw [List.map_append, List.length_append]
  rw [List.length_append, List.length_map] at h2
  exact h2
theorem Bks.more {w : World} {B : Nat} {v : Value} {qs : List Qp} (h : Bks w B v qs) (q : Qp) (hq : Qok w B q) (hn : qs.length ≤ 1000000) (hB : B ≤ w.heap.size) (ty : TypeId) :
    ∃ v' w', (Builtin.append_ #[46, 46] ty #[v, .slice (some ⟨w.heap.size, 0, none⟩) 1 1]).run Tryd.prog (w.alloc (.cells #[qv q] 33)) = .ok v' w' ∧ Bks w' B v' (qs ++ [q]) ∧ Below B w w' ∧ Oth 33 w w' := by
  have h' : w.ownsRow B 33 1 v (qs.map qv).length (qs.map qv) := by rw [List.length_map]; exact h.1
  obtain ⟨v', w', h1, h2, h3, h4⟩ := more_one Tryd.underlying46 infoSl rfl (by decide) h' (qv q) rfl (by rw [List.length_map]; exact hn) hB ty
  refine ⟨v', w', h1, ⟨?_, fun x hx => ?_⟩, h3, h4⟩
  · rw [List.map_append, List.length_append]
    rw [List.length_append, List.length_map] at h2
    exact h2
  · have hx' : Qok w B x := by
      rcases List.mem_append.1 hx with hm | hm
      · exact h.2 x hm
      · rw [List.mem_singleton.1 hm]; exact hq
    exact ⟨h4.block _ _ hx'.1 (fun c e => by injection e with _ e2; exact absurd e2 (by decide)), hx'.2⟩
end Go.Proofs.YtdogjicccajnkaaDoor
/- The law's blocks: a Write's arguments. -/
namespace Go.Proofs.YtdogjicccajnkaaDoor
open Go Go.RowKit

def Blk (w : World) (n : Nat) (raw : Int) (e : Ending) (w' : World) : Prop := ∃ v1 v2 zs qs, e = .returned (.tuple #[v1, v2]) ∧ Ats w' w.heap.size v1 zs ∧ Bks w' w.heap.size v2 qs ∧ zs.length ≤ 40 ∧ qs.length ≤ 40 ∧ (1 < pk raw 8 → Fit n zs (qs.map ql)) ∧ Below w.heap.size w w'
theorem Fit.more {n : Nat} {zs : List Int} {ps : List (List UInt8)} {z : Int} {l : List UInt8} (h : Fit n zs ps) (hz : z ∉ zs) (hb : hasB z n = true) (hl : l.length = 112) : Fit n (zs ++ [z]) (ps ++ [l]) := by
  refine ⟨by simp [h.1], ?_, ?_, ?_⟩
  · rw [List.nodup_append]
    exact ⟨h.2.1, by simp, fun a ha b hb e => by rw [List.mem_singleton.1 hb] at e; exact hz (e ▸ ha)⟩
  · intro y hy
    rcases List.mem_append.1 hy with hm | hm
    · exact h.2.2.1 y hm
    · rw [List.mem_singleton.1 hm]; exact hb
  · intro y hy
    rcases List.mem_append.1 hy with hm | hm
    · exact h.2.2.2 y hm
    · rw [List.mem_singleton.1 hm]; exact hl
theorem wrap64_small (x : Int) (h0 : 0 ≤ x) (h1 : x ≤ 255) : wrap64 x = x := by unfold wrap64; omega
def seen (p : Nat) (zs : List Int) (j : Nat) : Int := if (p : Int) ∈ zs.take j then -1 else p
theorem seen_zero (p : Nat) (zs : List Int) : seen p zs 0 = p := by simp [seen]
theorem seen_hit {p : Nat} {zs : List Int} {j : Nat} {y : Int} (hy : zs[j]? = some y) (h0 : 0 ≤ y) (h : y = seen p zs j) : seen p zs (j + 1) = -1 := by
  unfold seen at *
  rw [List.take_add_one, hy]
  split at h
  · omega
  · rw [if_pos (by simp [h])]
theorem seen_miss {p : Nat} {zs : List Int} {j : Nat} {y : Int} (hy : zs[j]? = some y) (h : y ≠ seen p zs j) : seen p zs (j + 1) = seen p zs j := by
  unfold seen at *
  rw [List.take_add_one, hy]
  by_cases hm : (p : Int) ∈ zs.take j
  · rw [if_pos hm, if_pos (by simp [hm])]
  · rw [if_neg hm] at h ⊢
    rw [if_neg (by simp [hm]; exact fun e => h e.symm)]
theorem u8_mod (a : Int) : ∃ x : UInt8, cb x = .int .u8 (a % 256) := by
  refine ⟨UInt8.ofNat (a % 256).toNat, ?_⟩
  have h0 := Int.emod_nonneg a (show (256 : Int) ≠ 0 by decide)
  have h1 := Int.emod_lt_of_pos a (show (0 : Int) < 256 by decide)
  generalize a % 256 = y at *
  unfold cb
  rw [UInt8.toNat_ofNat']
  congr 1
  omega
set_option maxRecDepth 100000 in
set_option maxHeartbeats 8000000 in
theorem blocks_any {w : World} {kd by_ raw : Int} {va : Value} {zs0 : List Int} (n : Nat) (hn : n ≠ 0) (hn2 : n ≤ 1000000) (ha : Iz w va zs0) (hl : zs0.length ≤ 9223372036854775807) (hz : ∀ x ∈ zs0, -9223372036854775808 ≤ x ∧ x ≤ 9223372036854775807) (hby : 0 ≤ by_ ∧ by_ ≤ 255) (hraw : -9223372036854775808 ≤ raw ∧ raw ≤ 9223372036854775807) :
    Calls Tryd.prog 22 #[.agg #[.int .i64 kd, va, .int .u8 by_, .int .i64 raw], .int .i64 n] w (Blk w n raw) := by
  obtain ⟨aa, ca, rfl, ha⟩ := ha
  have HP8 := hid (fun w => pick_any raw 8 hraw.1 hraw.2 (by decide) w)
  have HP16 := hid (fun w => pick_any raw 16 hraw.1 hraw.2 (by decide) w)
  have HPN := hid (fun x (hx : x ∈ zs0) w => pick_any x n (hz x hx).1 (hz x hx).2 hn w)
  have HA := hid ha
  have HL := hid hl
  have HBY := hid hby
  have HN0 := hid hn
  have HN2 := hid hn2
  have HW := hid (show pk raw 16 = 8 → ¬ 1 < pk raw 8 from fun h => by
    have h8 : pk raw 8 = pk raw 16 % 8 := by
      unfold pk
      generalize (if raw < 0 then -(raw + 1) else raw) = y
      omega
    omega)
  obtain ⟨N0, hN0⟩ : ∃ N0, N0 = zs0.length := ⟨_, rfl⟩
  have HN := hid hN0
  rw [← hN0]
  clear ha hl hby hn hn2 hz hraw hN0
  generalize hr8 : pk raw 8 = r8 at *
  generalize pk raw 16 = r16 at *
  have hB0 : Below w.heap.size w (w.alloc (.cells #[.int .i64 kd, .slice aa N0 ca, .int .u8 by_, .int .i64 raw] 45)) := (Below.refl _ _).alloc (Nat.le_refl _) _
  have hr0 : (w.alloc (.cells #[.int .i64 kd, .slice aa N0 ca, .int .u8 by_, .int .i64 raw] 45)).heap[w.heap.size]? = some (.cells #[.int .i64 kd, .slice aa N0 ca, .int .u8 by_, .int .i64 raw] 45 (0, 0)) := heap_alloc_last w _
  have HB0 := hid hB0
  have HR0 := hid hr0
  clear hB0 hr0
  go_enter Tryd.func22, Tryd.ntmps22
  go_wp2_with fail
  generalize w.alloc (.cells #[.int .i64 kd, .slice aa N0 ca, .int .u8 by_, .int .i64 raw] 45) = w0 at *
  generalize hob : w.heap.size = ob at *
  go_loopw [6, 7, 8, 9, 10, 11, 12] (fun v6 v7 v8 _ _ _ _ wr => ∃ (i : Nat) (zs : List Int) (qs : List Qp), v8 = .int .i64 i ∧ i ≤ N0 ∧ i ≤ 40 ∧ Ats wr ob v6 zs ∧ Bks wr ob v7 qs ∧ zs.length ≤ i ∧ qs.length = zs.length ∧ (1 < r8 → Fit n zs (qs.map ql)) ∧ wr.heap[ob]? = some (.cells #[.int .i64 kd, .slice aa N0 ca, .int .u8 by_, .int .i64 raw] 45 (0, 0)) ∧ Below ob w wr) (fun _ _ v8 _ _ _ _ _ => N0 - (intOf v8).toNat)
  case atStart => exact ⟨0, [], [], rfl, Nat.zero_le _, Nat.zero_le _, Ats.nil _ _, Bks.nil _ _, Nat.le_refl _, rfl, fun _ => ⟨rfl, by simp, by simp, by simp⟩, HR0.out, HB0.out⟩
  case round =>
    clear HR0 HB0
    rename World => wo
    obtain ⟨i, zs, qs, rfl, hi1, hi2, hA, hB, hzl, hql, hFT, hbx, hBr⟩ := hrel
    have hwi : IntKind.i64.wrap ((i : Int) + 1) = ((i + 1 : Nat) : Int) := by rw [IntWalk.i64_in _ ⟨by omega, by omega⟩]; omega
    have hc0 : wo.cell? ⟨ob, 0, none⟩ = some (.int .i64 kd) := cell_at hbx 0 rfl
    have hc1 : wo.cell? ⟨ob, 1, none⟩ = some (.slice aa N0 ca) := cell_at hbx 1 rfl
    have hc2 : wo.cell? ⟨ob, 2, none⟩ = some (.int .u8 by_) := cell_at hbx 2 rfl
    have hc3 : wo.cell? ⟨ob, 3, none⟩ = some (.int .i64 raw) := cell_at hbx 3 rfl
    by_cases hlt : i < N0 ∧ i < 40
    · have hb1 : decide ((i : Int) < (N0 : Int)) = true := decide_eq_true (by omega)
      have hb2 : decide ((i : Int) < 40) = true := decide_eq_true (by omega)
      obtain ⟨z, hz⟩ : ∃ z, zs0[i]? = some z := ⟨_, List.getElem?_eq_getElem (by have := HN.out; omega)⟩
      obtain ⟨b1, o1, rfl, hcz⟩ := HA.out i z hz
      have hcz' : wo.cell? ⟨b1, o1 + i, none⟩ = some (.int .i64 z) := by rw [hBr.cell (p := ⟨b1, o1 + i, none⟩) (by rw [← hob]; exact World.block_lt_of_cell? w _ hcz)]; exact hcz
      have HPZ := hid (HPN.out z (List.mem_of_getElem? hz))
      have HI := hid (And.intro hi1 (And.intro hi2 hlt))
      have HAT := hid hA
      have HBK := hid hB
      have HZL := hid (And.intro hzl hql)
      have HFT := hid hFT
      have HBX := hid hbx
      have HBR := hid hBr
      have hiN : (i : Int) < (N0 : Int) := by omega
      clear hcz hz hi1 hi2 hlt hA hB hzl hql hFT hbx hBr HPN
      go_wp2_with fail
      refine (HP8.out _).mono ?_
      rintro e wz ⟨rfl, hwz⟩
      obtain rfl := hwz.symm
      by_cases h8 : 1 < r8
      · have hg8 : (1 : Int) < (r8 : Int) := by omega
        have HP := hid (pk_lt z HN0.out)
        generalize hpz : pk z n = p at *
        obtain ⟨a6, c6, rfl, hcells⟩ := HAT.out.iz
        have HCE := hid hcells
        have HGE : Hid (∀ x ∈ zs, 0 ≤ x) := hid (fun x hx => ((HFT.out h8).at hx).1)
        clear hcells hcz'
        go_wp2_with fail
        refine (HPZ.out _).mono ?_
        rintro e wz ⟨rfl, hwz⟩
        obtain rfl := hwz.symm
        go_wp2_with fail
        go_loopw [9, 10] (fun v9 v10 w' => ∃ j : Nat, j ≤ zs.length ∧ v10 = .int .i64 j ∧ v9 = .int .i64 (seen p zs j) ∧ w' = wo) (fun _ v10 _ => zs.length - (intOf v10).toNat)
        case atStart => exact ⟨0, Nat.zero_le _, rfl, by rw [seen_zero], rfl⟩
        case round =>
          obtain ⟨j, hj, rfl, rfl, hw⟩ := hrel
          obtain rfl := hw.symm
          have hwj : IntKind.i64.wrap ((j : Int) + 1) = ((j + 1 : Nat) : Int) := by have := HZL.out; have := HI.out; rw [IntWalk.i64_in _ ⟨by omega, by omega⟩]; omega
          obtain ⟨Z, hZ⟩ : ∃ Z, Z = zs.length := ⟨_, rfl⟩
          by_cases hj2 : j < zs.length
          · obtain ⟨y, hy⟩ : ∃ y, zs[j]? = some y := ⟨_, List.getElem?_eq_getElem hj2⟩
            obtain ⟨g6, o6, rfl, hcy⟩ := HCE.out j y hy
            have hj3 : (j : Int) < (Z : Int) := by omega
            rw [← hZ]
            by_cases hs : y = seen p zs j
            · have hb : (y == seen p zs j) = true := by rw [beq_iff_eq]; exact hs
              have HS := hid (seen_hit hy (HGE.out y (List.mem_of_getElem? hy)) hs)
              have HJ2 := hid hj2
              clear hy hs hj hj2
              generalize seen p zs j = cur at *
              go_wp2_with fail
              exact ⟨⟨j + 1, by have := HJ2.out; omega, rfl, by rw [HS.out], trivial⟩, by have := HJ2.out; simp [intOf]; omega⟩
            · have hb : (y == seen p zs j) = false := by rw [beq_eq_false_iff_ne]; exact hs
              have HS := hid (seen_miss hy hs)
              have HJ2 := hid hj2
              clear hy hs hj hj2
              generalize seen p zs j = cur at *
              go_wp2_with fail
              exact ⟨⟨j + 1, by have := HJ2.out; omega, rfl, by rw [HS.out], trivial⟩, by have := HJ2.out; simp [intOf]; omega⟩
          · obtain rfl : j = zs.length := by omega
            have hj3 : ¬ (Z : Int) < (Z : Int) := by omega
            by_cases hm : (p : Int) ∈ zs
            · have hs : seen p zs zs.length = -1 := by unfold seen; rw [List.take_length, if_pos hm]
              rw [hs, ← hZ]
              have HZ : Hid ((∃ (i_1 : Nat) (zs : List Int) (qs : List Qp), Value.int .i64 ((i : Int) + 1) = .int .i64 i_1 ∧ i_1 ≤ N0 ∧ i_1 ≤ 40 ∧ Ats wo ob (.slice a6 Z c6) zs ∧ Bks wo ob u7 qs ∧ zs.length ≤ i_1 ∧ qs.length = zs.length ∧ (1 < r8 → Fit n zs (qs.map ql)) ∧ _ ∧ Below ob w wo) ∧ N0 - (intOf (.int .i64 ((i : Int) + 1))).toNat < N0 - (intOf (.int .i64 (i : Int))).toNat) :=
                hid ⟨⟨i + 1, zs, qs, rfl, by have := HI.out; omega, by have := HI.out; omega, by rw [hZ]; exact HAT.out, HBK.out, by have := HZL.out; omega, HZL.out.2, HFT.out, HBX.out, HBR.out⟩, by have := HI.out; simp [intOf]; omega⟩
              clear hs hj hj2 hwj hZ
              go_wp2_with fail
              exact HZ.out
            · have hs : seen p zs zs.length = (p : Int) := by unfold seen; rw [List.take_length, if_neg hm]
              rw [hs, ← hZ]
              have hp0 : ¬ (p : Int) < 0 := by omega
              have HNI := hid hm
              have HHAS : Hid (hasB (p : Int) n = true) := hid (by have := HP.out; unfold hasB; simp; omega)
              go_upto_region 15 with fail
              obtain ⟨u6, hu6⟩ : ∃ u6, u6 = Value.slice a6 Z c6 := ⟨_, rfl⟩
              rw [← hu6]
              have HAT : Hid (Ats wo ob u6 zs) := hid (by rw [hu6, hZ]; exact HAT.out)
              clear hs hj hj2 hwj hZ hm hu6 HCE HGE
              refine wp_region_lit ?_
              refine wp_run (v := .slice (some ⟨wo.heap.size, 0, none⟩) 112 112) rfl rfl (run_mkOp rfl (by kernel_rfl) (by kernel_rfl) (make33 wo)) rfl ?_
              refine wp_y (v := .slice (some ⟨wo.heap.size, 0, none⟩) 112 112) rfl rfl (y_assign rfl (by kernel_rfl) (by kernel_rfl)) rfl ?_
              try simp only [List.setIfInBounds_toArray, List.set_cons_zero, List.set_cons_succ]
              refine wp_end ?_
              have HBx : Hid (Below wo.heap.size wo (wo.alloc (.cells (cells8 z112).toArray 5))) := hid ((Below.refl _ _).alloc (Nat.le_refl _) _)
              have HRx : Hid (Rw (wo.alloc (.cells (cells8 z112).toArray 5)) wo.heap.size 5 z112) := hid (heap_alloc_last wo _)
              generalize wo.alloc (.cells (cells8 z112).toArray 5) = wx at *
              generalize hgx : wo.heap.size = gx at *
              go_wp2_with fail
              go_loopw [12] (fun y wv => ∃ (j : Nat) (m : List UInt8), y = .int .i64 j ∧ j ≤ 112 ∧ m.length = 112 ∧ Rw wv gx 5 m ∧ Below gx wo wv) (fun y _ => 112 - (intOf y).toNat)
              case atStart => exact ⟨0, _, rfl, by omega, z112_len, HRx.out, HBx.out⟩
              case round =>
                clear HRx HBx hc0 hc1 hc2 hc3
                obtain ⟨j, m, rfl, hj, hm, hR, hBv⟩ := hrel
                have hbx : wr.heap[ob]? = _ := below_at hBv HBX.out (by rw [← hgx]; exact heap_lt HBX.out)
                have hc2 : wr.cell? ⟨ob, 2, none⟩ = some (.int .u8 by_) := cell_at hbx 2 rfl
                by_cases hj2 : j < 112
                · have hj3 : (j : Int) < 112 := by omega
                  have hfz : wr.frozen? ⟨gx, j, none⟩ = false := open_at hR j
                  obtain ⟨x0, hcl⟩ : ∃ x0, wr.cell? ⟨gx, j, none⟩ = some (cb x0) := ⟨_, cell_at hR j (by rw [List.getElem?_toArray]; exact cells8_get _ j (by omega))⟩
                  unfold cb at hcl
                  have hwj : IntKind.i64.wrap ((j : Int) + 1) = ((j + 1 : Nat) : Int) := by rw [IntWalk.i64_in _ ⟨by omega, by omega⟩]; omega
                  obtain ⟨y, hy⟩ : ∃ y, (by_ + wrap64 ((i : Int) * (j : Int))) % 256 = y := ⟨_, rfl⟩
                  obtain ⟨x, hx⟩ : ∃ x : UInt8, cb x = .int .u8 y := by rw [← hy]; exact u8_mod _
                  have HZ : Hid (Rw (wr.setCell ⟨gx, j, none⟩ (.int .u8 y)) gx 5 (m.set j x) ∧ Below gx wo (wr.setCell ⟨gx, j, none⟩ (.int .u8 y))) := hid ⟨by rw [← hx]; exact hR.set j x, hBv.trans ((Fr.setCell wr gx j _).below (Nat.le_of_lt hR.lt) (by simp))⟩
                  have HM : Hid ((m.set j x).length = 112) := hid (by rw [List.length_set]; exact hm)
                  have HJ : Hid (j + 1 ≤ 112 ∧ 112 - (intOf (.int .i64 ((j : Int) + 1))).toNat < 112 - (intOf (.int .i64 (j : Int))).toNat) := hid ⟨hj2, by simp [intOf]; omega⟩
                  clear hR hBv hbx hx hm
                  go_wp2_with fail
                  exact ⟨⟨j + 1, m.set j x, rfl, HJ.out.1, HM.out, HZ.out⟩, HJ.out.2⟩
                · have hj3 : ¬ (j : Int) < 112 := by omega
                  have hc1 : wr.cell? ⟨ob, 1, none⟩ = some (.slice (some ⟨b1, o1, none⟩) N0 ca) := cell_at hbx 1 rfl
                  have hc3 : wr.cell? ⟨ob, 3, none⟩ = some (.int .i64 raw) := cell_at hbx 3 rfl
                  have HRm := hid hR
                  have HBm := hid hBv
                  have HM := hid hm
                  clear hR hBv hbx hm hj hj2
                  go_wp2_with fail
                  refine (HP8.out _).mono ?_
                  rintro e wz ⟨rfl, hwz⟩
                  obtain rfl := hwz.symm
                  have he1 : ((r8 : Int) == 1) = false := by rw [beq_eq_false_iff_ne]; omega
                  have HNQ : Hid (112 ≤ 112) := hid (Nat.le_refl _)
                  have hBm : Below wo.heap.size wo wr := by rw [hgx]; exact HBm.out
                  have hA0 := HAT.out.below hBm
                  have hK0 := HBK.out.below hBm
                  have hobg : ob ≤ gx := by rw [← hgx, ← hob]; exact HBR.out.size
                  have hgl : gx < wr.heap.size := HRm.out.lt
                  have hzl := HZL.out
                  have hii := HI.out
                  obtain ⟨v6', w1, hap1, hA1, hB1, hO1⟩ := hA0.more (p : Int) (by omega) (by omega) 43
                  have hK1 := hK0.oth hO1 (by decide) (by decide)
                  have hR1 : Rw w1 gx 5 m := hO1.block gx _ HRm.out (fun c e => by injection e with _ e2; exact absurd e2 (by decide))
                  have hX1 := hO1.block ob _ (below_at hBm HBX.out (heap_lt HBX.out)) (fun c e => by injection e with _ e2; exact absurd e2 (by decide))
                  obtain ⟨v7', w2, hap2, hK2, hB2, hO2⟩ := hK1.more (gx, 112, m) ⟨hR1, hobg, HNQ.out, HM.out⟩ (by omega) (by have := hO1.size; omega) 46
                  have hA2 : Ats w2 ob v6' (zs ++ [(p : Int)]) := owns_oth hA1 hO2 (by decide)
                  have hX2 := hO2.block ob _ hX1 (fun c e => by injection e with _ e2; exact absurd e2 (by decide))
                  have HAP1 := hid hap1
                  have HAP2 := hid hap2
                  have HZ : Hid (Ats w2 ob v6' (zs ++ [(p : Int)]) ∧ Bks w2 ob v7' (qs ++ [(gx, 112, m)]) ∧ (zs ++ [(p : Int)]).length ≤ i + 1 ∧ (qs ++ [(gx, 112, m)]).length = (zs ++ [(p : Int)]).length ∧ (1 < r8 → Fit n (zs ++ [(p : Int)]) ((qs ++ [(gx, 112, m)]).map ql)) ∧ _ ∧ Below ob w w2) := hid ⟨hA2, hK2, by rw [List.length_append]; simp only [List.length_singleton]; omega, by rw [List.length_append, List.length_append]; simp only [List.length_singleton]; omega, by rw [List.map_append]; exact fun h => (HFT.out h).more HNI.out HHAS.out (by unfold ql; rw [List.take_of_length_le (show m.length ≤ 112 from Nat.le_of_eq HM.out)]; exact HM.out), hX2, HBR.out.trans ((HBm.out.mono hobg).trans (hB1.trans hB2))⟩
                  have HI2 : Hid (i + 1 ≤ N0 ∧ i + 1 ≤ 40) := hid ⟨by omega, by omega⟩
                  have HW1 : Hid ((Instr.buildSlice 46 1 #[(0, .slice (some ⟨gx, 0, none⟩) 112 112)]).run Tryd.prog w1 = _) := hid (bslice46a w1 gx 112 112)
                  clear hBm hA0 hK0 hobg hgl hzl hii hap1 hap2 hA1 hB1 hO1 hK1 hR1 hX1 hK2 hB2 hO2 hA2 hX2 HAT HBK HRm HBm
                  go_upto_region 22 with fail
                  clear hc1 hc2 hc3
                  refine wp_region_lit ?_
                  refine wp_y (v := u6) rfl rfl (y_move rfl (by kernel_rfl) (by kernel_rfl)) rfl ?_
                  refine wp_y (v := .int .i64 (p : Int)) rfl rfl (y_move rfl (by kernel_rfl) (by kernel_rfl)) rfl ?_
                  refine wp_run (v := .slice (some ⟨wr.heap.size, 0, none⟩) 1 1) rfl rfl (run_bsOp rfl (by kernel_rfl) (bslice43 wr (p : Int))) rfl ?_
                  refine wp_run (v := v6') rfl rfl (run_appOp rfl (by kernel_rfl) (by kernel_rfl) HAP1.out) rfl ?_
                  refine wp_y (v := v6') rfl rfl (y_assign rfl (by kernel_rfl) (by kernel_rfl)) rfl ?_
                  try simp only [List.setIfInBounds_toArray, List.set_cons_zero, List.set_cons_succ]
                  refine wp_end ?_
                  go_upto_region 23 with fail
                  refine wp_region_lit ?_
                  refine wp_y (v := u7) rfl rfl (y_move rfl (by kernel_rfl) (by kernel_rfl)) rfl ?_
                  refine wp_y (v := .slice (some ⟨gx, 0, none⟩) 112 112) rfl rfl (y_move rfl (by kernel_rfl) (by kernel_rfl)) rfl ?_
                  refine wp_run (v := .slice (some ⟨w1.heap.size, 0, none⟩) 1 1) rfl rfl (run_bsOp rfl (by kernel_rfl) HW1.out) rfl ?_
                  refine wp_run (v := v7') rfl rfl (run_appOp rfl (by kernel_rfl) (by kernel_rfl) HAP2.out) rfl ?_
                  refine wp_y (v := v7') rfl rfl (y_assign rfl (by kernel_rfl) (by kernel_rfl)) rfl ?_
                  try simp only [List.setIfInBounds_toArray, List.set_cons_zero, List.set_cons_succ]
                  refine wp_end ?_
                  clear HAP1 HAP2 HW1
                  go_wp2_with fail
                  exact ⟨⟨i + 1, _, _, rfl, HI2.out.1, HI2.out.2, HZ.out⟩, by have := HI2.out; simp [intOf]; omega⟩
      · have hg8 : ¬ (1 : Int) < (r8 : Int) := by omega
        go_upto_region 15 with fail
        refine wp_region_lit ?_
        refine wp_run (v := .slice (some ⟨wo.heap.size, 0, none⟩) 112 112) rfl rfl (run_mkOp rfl (by kernel_rfl) (by kernel_rfl) (make33 wo)) rfl ?_
        refine wp_y (v := .slice (some ⟨wo.heap.size, 0, none⟩) 112 112) rfl rfl (y_assign rfl (by kernel_rfl) (by kernel_rfl)) rfl ?_
        try simp only [List.setIfInBounds_toArray, List.set_cons_zero, List.set_cons_succ]
        refine wp_end ?_
        have HBx : Hid (Below wo.heap.size wo (wo.alloc (.cells (cells8 z112).toArray 5))) := hid ((Below.refl _ _).alloc (Nat.le_refl _) _)
        have HRx : Hid (Rw (wo.alloc (.cells (cells8 z112).toArray 5)) wo.heap.size 5 z112) := hid (heap_alloc_last wo _)
        generalize wo.alloc (.cells (cells8 z112).toArray 5) = wx at *
        generalize hgx : wo.heap.size = gx at *
        go_wp2_with fail
        go_loopw [12] (fun y wv => ∃ (j : Nat) (m : List UInt8), y = .int .i64 j ∧ j ≤ 112 ∧ m.length = 112 ∧ Rw wv gx 5 m ∧ Below gx wo wv) (fun y _ => 112 - (intOf y).toNat)
        case atStart => exact ⟨0, _, rfl, by omega, z112_len, HRx.out, HBx.out⟩
        case round =>
          clear HRx HBx hc0 hc1 hc2 hc3
          obtain ⟨j, m, rfl, hj, hm, hR, hBv⟩ := hrel
          have hbx : wr.heap[ob]? = _ := below_at hBv HBX.out (by rw [← hgx]; exact heap_lt HBX.out)
          have hc2 : wr.cell? ⟨ob, 2, none⟩ = some (.int .u8 by_) := cell_at hbx 2 rfl
          by_cases hj2 : j < 112
          · have hj3 : (j : Int) < 112 := by omega
            have hfz : wr.frozen? ⟨gx, j, none⟩ = false := open_at hR j
            obtain ⟨x0, hcl⟩ : ∃ x0, wr.cell? ⟨gx, j, none⟩ = some (cb x0) := ⟨_, cell_at hR j (by rw [List.getElem?_toArray]; exact cells8_get _ j (by omega))⟩
            unfold cb at hcl
            have hwj : IntKind.i64.wrap ((j : Int) + 1) = ((j + 1 : Nat) : Int) := by rw [IntWalk.i64_in _ ⟨by omega, by omega⟩]; omega
            obtain ⟨y, hy⟩ : ∃ y, (by_ + wrap64 ((i : Int) * (j : Int))) % 256 = y := ⟨_, rfl⟩
            obtain ⟨x, hx⟩ : ∃ x : UInt8, cb x = .int .u8 y := by rw [← hy]; exact u8_mod _
            have HZ : Hid (Rw (wr.setCell ⟨gx, j, none⟩ (.int .u8 y)) gx 5 (m.set j x) ∧ Below gx wo (wr.setCell ⟨gx, j, none⟩ (.int .u8 y))) := hid ⟨by rw [← hx]; exact hR.set j x, hBv.trans ((Fr.setCell wr gx j _).below (Nat.le_of_lt hR.lt) (by simp))⟩
            have HM : Hid ((m.set j x).length = 112) := hid (by rw [List.length_set]; exact hm)
            have HJ : Hid (j + 1 ≤ 112 ∧ 112 - (intOf (.int .i64 ((j : Int) + 1))).toNat < 112 - (intOf (.int .i64 (j : Int))).toNat) := hid ⟨hj2, by simp [intOf]; omega⟩
            clear hR hBv hbx hx hm
            go_wp2_with fail
            exact ⟨⟨j + 1, m.set j x, rfl, HJ.out.1, HM.out, HZ.out⟩, HJ.out.2⟩
          · have hj3 : ¬ (j : Int) < 112 := by omega
            have hc1 : wr.cell? ⟨ob, 1, none⟩ = some (.slice (some ⟨b1, o1, none⟩) N0 ca) := cell_at hbx 1 rfl
            have hc3 : wr.cell? ⟨ob, 3, none⟩ = some (.int .i64 raw) := cell_at hbx 3 rfl
            have HRm := hid hR
            have HBm := hid hBv
            have HM := hid hm
            clear hR hBv hbx hm hj hj2
            go_wp2_with fail
            refine (HP8.out _).mono ?_
            rintro e wz ⟨rfl, hwz⟩
            obtain rfl := hwz.symm
            have hN := HN.out
            have hL := HL.out
            have hwN : IntKind.i64.wrap ((N0 : Int) - 1) = (N0 : Int) - 1 := by rw [IntWalk.i64_in _ ⟨by omega, by omega⟩]
            clear hN hL
            by_cases h1 : r8 = 1 ∧ i + 1 = N0
            · have he1 : ((r8 : Int) == 1) = true := by rw [beq_iff_eq]; omega
              have he2 : ((i : Int) == (N0 : Int) - 1) = true := by rw [beq_iff_eq]; omega
              obtain ⟨c, hc⟩ : ∃ c : Nat, by_ % 112 = (c : Int) := ⟨(by_ % 112).toNat, by have := Int.emod_nonneg by_ (show (112 : Int) ≠ 0 by decide); omega⟩
              have HNQ : Hid (c ≤ 112) := hid (by have := Int.emod_lt_of_pos by_ (show (0 : Int) < 112 by decide); omega)
              have hcl1 : ¬ ((c : Int) < 0) := by omega
              have hcl2 : (c : Int) ≤ 112 := by have := HNQ.out; omega
              have hcl3 : (wrap64 by_).tmod 112 = (c : Int) := by rw [wrap64_small by_ HBY.out.1 HBY.out.2, Int.tmod_eq_emod_of_nonneg HBY.out.1]; exact hc
              clear h1
              have hBm : Below wo.heap.size wo wr := by rw [hgx]; exact HBm.out
              have hA0 := HAT.out.below hBm
              have hK0 := HBK.out.below hBm
              have hobg : ob ≤ gx := by rw [← hgx, ← hob]; exact HBR.out.size
              have hgl : gx < wr.heap.size := HRm.out.lt
              have hzl := HZL.out
              have hii := HI.out
              obtain ⟨v6', w1, hap1, hA1, hB1, hO1⟩ := hA0.more z (by omega) (by omega) 43
              have hK1 := hK0.oth hO1 (by decide) (by decide)
              have hR1 : Rw w1 gx 5 m := hO1.block gx _ HRm.out (fun c e => by injection e with _ e2; exact absurd e2 (by decide))
              have hX1 := hO1.block ob _ (below_at hBm HBX.out (heap_lt HBX.out)) (fun c e => by injection e with _ e2; exact absurd e2 (by decide))
              obtain ⟨v7', w2, hap2, hK2, hB2, hO2⟩ := hK1.more (gx, c, m) ⟨hR1, hobg, HNQ.out, HM.out⟩ (by omega) (by have := hO1.size; omega) 46
              have hA2 : Ats w2 ob v6' (zs ++ [z]) := owns_oth hA1 hO2 (by decide)
              have hX2 := hO2.block ob _ hX1 (fun c e => by injection e with _ e2; exact absurd e2 (by decide))
              have HAP1 := hid hap1
              have HAP2 := hid hap2
              have HZ : Hid (Ats w2 ob v6' (zs ++ [z]) ∧ Bks w2 ob v7' (qs ++ [(gx, c, m)]) ∧ (zs ++ [z]).length ≤ i + 1 ∧ (qs ++ [(gx, c, m)]).length = (zs ++ [z]).length ∧ (1 < r8 → Fit n (zs ++ [z]) ((qs ++ [(gx, c, m)]).map ql)) ∧ _ ∧ Below ob w w2) := hid ⟨hA2, hK2, by rw [List.length_append]; simp only [List.length_singleton]; omega, by rw [List.length_append, List.length_append]; simp only [List.length_singleton]; omega, by rw [List.map_append]; exact fun h => absurd h h8, hX2, HBR.out.trans ((HBm.out.mono hobg).trans (hB1.trans hB2))⟩
              have HI2 : Hid (i + 1 ≤ N0 ∧ i + 1 ≤ 40) := hid ⟨by omega, by omega⟩
              have HW1 : Hid ((Instr.buildSlice 46 1 #[(0, .slice (some ⟨gx, 0, none⟩) c 112)]).run Tryd.prog w1 = _) := hid (bslice46a w1 gx c 112)
              clear hBm hA0 hK0 hobg hgl hzl hii hap1 hap2 hA1 hB1 hO1 hK1 hR1 hX1 hK2 hB2 hO2 hA2 hX2 HAT HBK HRm HBm
              go_upto_region 22 with fail
              clear hc1 hc2 hc3
              refine wp_region_lit ?_
              refine wp_y (v := u6) rfl rfl (y_move rfl (by kernel_rfl) (by kernel_rfl)) rfl ?_
              refine wp_y (v := .int .i64 z) rfl rfl (y_move rfl (by kernel_rfl) (by kernel_rfl)) rfl ?_
              refine wp_run (v := .slice (some ⟨wr.heap.size, 0, none⟩) 1 1) rfl rfl (run_bsOp rfl (by kernel_rfl) (bslice43 wr z)) rfl ?_
              refine wp_run (v := v6') rfl rfl (run_appOp rfl (by kernel_rfl) (by kernel_rfl) HAP1.out) rfl ?_
              refine wp_y (v := v6') rfl rfl (y_assign rfl (by kernel_rfl) (by kernel_rfl)) rfl ?_
              try simp only [List.setIfInBounds_toArray, List.set_cons_zero, List.set_cons_succ]
              refine wp_end ?_
              go_upto_region 23 with fail
              refine wp_region_lit ?_
              refine wp_y (v := u7) rfl rfl (y_move rfl (by kernel_rfl) (by kernel_rfl)) rfl ?_
              refine wp_y (v := .slice (some ⟨gx, 0, none⟩) c 112) rfl rfl (y_move rfl (by kernel_rfl) (by kernel_rfl)) rfl ?_
              refine wp_run (v := .slice (some ⟨w1.heap.size, 0, none⟩) 1 1) rfl rfl (run_bsOp rfl (by kernel_rfl) HW1.out) rfl ?_
              refine wp_run (v := v7') rfl rfl (run_appOp rfl (by kernel_rfl) (by kernel_rfl) HAP2.out) rfl ?_
              refine wp_y (v := v7') rfl rfl (y_assign rfl (by kernel_rfl) (by kernel_rfl)) rfl ?_
              try simp only [List.setIfInBounds_toArray, List.set_cons_zero, List.set_cons_succ]
              refine wp_end ?_
              clear HAP1 HAP2 HW1
              go_wp2_with fail
              exact ⟨⟨i + 1, _, _, rfl, HI2.out.1, HI2.out.2, HZ.out⟩, by have := HI2.out; simp [intOf]; omega⟩
            · have HNQ : Hid (112 ≤ 112) := hid (Nat.le_refl _)
              by_cases h2 : r8 = 1
              · have he1 : ((r8 : Int) == 1) = true := by rw [beq_iff_eq]; omega
                have he2 : ((i : Int) == (N0 : Int) - 1) = false := by rw [beq_eq_false_iff_ne]; omega
                have hBm : Below wo.heap.size wo wr := by rw [hgx]; exact HBm.out
                have hA0 := HAT.out.below hBm
                have hK0 := HBK.out.below hBm
                have hobg : ob ≤ gx := by rw [← hgx, ← hob]; exact HBR.out.size
                have hgl : gx < wr.heap.size := HRm.out.lt
                have hzl := HZL.out
                have hii := HI.out
                obtain ⟨v6', w1, hap1, hA1, hB1, hO1⟩ := hA0.more z (by omega) (by omega) 43
                have hK1 := hK0.oth hO1 (by decide) (by decide)
                have hR1 : Rw w1 gx 5 m := hO1.block gx _ HRm.out (fun c e => by injection e with _ e2; exact absurd e2 (by decide))
                have hX1 := hO1.block ob _ (below_at hBm HBX.out (heap_lt HBX.out)) (fun c e => by injection e with _ e2; exact absurd e2 (by decide))
                obtain ⟨v7', w2, hap2, hK2, hB2, hO2⟩ := hK1.more (gx, 112, m) ⟨hR1, hobg, HNQ.out, HM.out⟩ (by omega) (by have := hO1.size; omega) 46
                have hA2 : Ats w2 ob v6' (zs ++ [z]) := owns_oth hA1 hO2 (by decide)
                have hX2 := hO2.block ob _ hX1 (fun c e => by injection e with _ e2; exact absurd e2 (by decide))
                have HAP1 := hid hap1
                have HAP2 := hid hap2
                have HZ : Hid (Ats w2 ob v6' (zs ++ [z]) ∧ Bks w2 ob v7' (qs ++ [(gx, 112, m)]) ∧ (zs ++ [z]).length ≤ i + 1 ∧ (qs ++ [(gx, 112, m)]).length = (zs ++ [z]).length ∧ (1 < r8 → Fit n (zs ++ [z]) ((qs ++ [(gx, 112, m)]).map ql)) ∧ _ ∧ Below ob w w2) := hid ⟨hA2, hK2, by rw [List.length_append]; simp only [List.length_singleton]; omega, by rw [List.length_append, List.length_append]; simp only [List.length_singleton]; omega, by rw [List.map_append]; exact fun h => absurd h h8, hX2, HBR.out.trans ((HBm.out.mono hobg).trans (hB1.trans hB2))⟩
                have HI2 : Hid (i + 1 ≤ N0 ∧ i + 1 ≤ 40) := hid ⟨by omega, by omega⟩
                have HW1 : Hid ((Instr.buildSlice 46 1 #[(0, .slice (some ⟨gx, 0, none⟩) 112 112)]).run Tryd.prog w1 = _) := hid (bslice46a w1 gx 112 112)
                clear hBm hA0 hK0 hobg hgl hzl hii hap1 hap2 hA1 hB1 hO1 hK1 hR1 hX1 hK2 hB2 hO2 hA2 hX2 HAT HBK HRm HBm
                go_upto_region 22 with fail
                clear hc1 hc2 hc3
                refine wp_region_lit ?_
                refine wp_y (v := u6) rfl rfl (y_move rfl (by kernel_rfl) (by kernel_rfl)) rfl ?_
                refine wp_y (v := .int .i64 z) rfl rfl (y_move rfl (by kernel_rfl) (by kernel_rfl)) rfl ?_
                refine wp_run (v := .slice (some ⟨wr.heap.size, 0, none⟩) 1 1) rfl rfl (run_bsOp rfl (by kernel_rfl) (bslice43 wr z)) rfl ?_
                refine wp_run (v := v6') rfl rfl (run_appOp rfl (by kernel_rfl) (by kernel_rfl) HAP1.out) rfl ?_
                refine wp_y (v := v6') rfl rfl (y_assign rfl (by kernel_rfl) (by kernel_rfl)) rfl ?_
                try simp only [List.setIfInBounds_toArray, List.set_cons_zero, List.set_cons_succ]
                refine wp_end ?_
                go_upto_region 23 with fail
                refine wp_region_lit ?_
                refine wp_y (v := u7) rfl rfl (y_move rfl (by kernel_rfl) (by kernel_rfl)) rfl ?_
                refine wp_y (v := .slice (some ⟨gx, 0, none⟩) 112 112) rfl rfl (y_move rfl (by kernel_rfl) (by kernel_rfl)) rfl ?_
                refine wp_run (v := .slice (some ⟨w1.heap.size, 0, none⟩) 1 1) rfl rfl (run_bsOp rfl (by kernel_rfl) HW1.out) rfl ?_
                refine wp_run (v := v7') rfl rfl (run_appOp rfl (by kernel_rfl) (by kernel_rfl) HAP2.out) rfl ?_
                refine wp_y (v := v7') rfl rfl (y_assign rfl (by kernel_rfl) (by kernel_rfl)) rfl ?_
                try simp only [List.setIfInBounds_toArray, List.set_cons_zero, List.set_cons_succ]
                refine wp_end ?_
                clear HAP1 HAP2 HW1
                go_wp2_with fail
                exact ⟨⟨i + 1, _, _, rfl, HI2.out.1, HI2.out.2, HZ.out⟩, by have := HI2.out; simp [intOf]; omega⟩
              · have he1 : ((r8 : Int) == 1) = false := by rw [beq_eq_false_iff_ne]; omega
                have hBm : Below wo.heap.size wo wr := by rw [hgx]; exact HBm.out
                have hA0 := HAT.out.below hBm
                have hK0 := HBK.out.below hBm
                have hobg : ob ≤ gx := by rw [← hgx, ← hob]; exact HBR.out.size
                have hgl : gx < wr.heap.size := HRm.out.lt
                have hzl := HZL.out
                have hii := HI.out
                obtain ⟨v6', w1, hap1, hA1, hB1, hO1⟩ := hA0.more z (by omega) (by omega) 43
                have hK1 := hK0.oth hO1 (by decide) (by decide)
                have hR1 : Rw w1 gx 5 m := hO1.block gx _ HRm.out (fun c e => by injection e with _ e2; exact absurd e2 (by decide))
                have hX1 := hO1.block ob _ (below_at hBm HBX.out (heap_lt HBX.out)) (fun c e => by injection e with _ e2; exact absurd e2 (by decide))
                obtain ⟨v7', w2, hap2, hK2, hB2, hO2⟩ := hK1.more (gx, 112, m) ⟨hR1, hobg, HNQ.out, HM.out⟩ (by omega) (by have := hO1.size; omega) 46
                have hA2 : Ats w2 ob v6' (zs ++ [z]) := owns_oth hA1 hO2 (by decide)
                have hX2 := hO2.block ob _ hX1 (fun c e => by injection e with _ e2; exact absurd e2 (by decide))
                have HAP1 := hid hap1
                have HAP2 := hid hap2
                have HZ : Hid (Ats w2 ob v6' (zs ++ [z]) ∧ Bks w2 ob v7' (qs ++ [(gx, 112, m)]) ∧ (zs ++ [z]).length ≤ i + 1 ∧ (qs ++ [(gx, 112, m)]).length = (zs ++ [z]).length ∧ (1 < r8 → Fit n (zs ++ [z]) ((qs ++ [(gx, 112, m)]).map ql)) ∧ _ ∧ Below ob w w2) := hid ⟨hA2, hK2, by rw [List.length_append]; simp only [List.length_singleton]; omega, by rw [List.length_append, List.length_append]; simp only [List.length_singleton]; omega, by rw [List.map_append]; exact fun h => absurd h h8, hX2, HBR.out.trans ((HBm.out.mono hobg).trans (hB1.trans hB2))⟩
                have HI2 : Hid (i + 1 ≤ N0 ∧ i + 1 ≤ 40) := hid ⟨by omega, by omega⟩
                have HW1 : Hid ((Instr.buildSlice 46 1 #[(0, .slice (some ⟨gx, 0, none⟩) 112 112)]).run Tryd.prog w1 = _) := hid (bslice46a w1 gx 112 112)
                clear hBm hA0 hK0 hobg hgl hzl hii hap1 hap2 hA1 hB1 hO1 hK1 hR1 hX1 hK2 hB2 hO2 hA2 hX2 HAT HBK HRm HBm
                go_upto_region 22 with fail
                clear hc1 hc2 hc3
                refine wp_region_lit ?_
                refine wp_y (v := u6) rfl rfl (y_move rfl (by kernel_rfl) (by kernel_rfl)) rfl ?_
                refine wp_y (v := .int .i64 z) rfl rfl (y_move rfl (by kernel_rfl) (by kernel_rfl)) rfl ?_
                refine wp_run (v := .slice (some ⟨wr.heap.size, 0, none⟩) 1 1) rfl rfl (run_bsOp rfl (by kernel_rfl) (bslice43 wr z)) rfl ?_
                refine wp_run (v := v6') rfl rfl (run_appOp rfl (by kernel_rfl) (by kernel_rfl) HAP1.out) rfl ?_
                refine wp_y (v := v6') rfl rfl (y_assign rfl (by kernel_rfl) (by kernel_rfl)) rfl ?_
                try simp only [List.setIfInBounds_toArray, List.set_cons_zero, List.set_cons_succ]
                refine wp_end ?_
                go_upto_region 23 with fail
                refine wp_region_lit ?_
                refine wp_y (v := u7) rfl rfl (y_move rfl (by kernel_rfl) (by kernel_rfl)) rfl ?_
                refine wp_y (v := .slice (some ⟨gx, 0, none⟩) 112 112) rfl rfl (y_move rfl (by kernel_rfl) (by kernel_rfl)) rfl ?_
                refine wp_run (v := .slice (some ⟨w1.heap.size, 0, none⟩) 1 1) rfl rfl (run_bsOp rfl (by kernel_rfl) HW1.out) rfl ?_
                refine wp_run (v := v7') rfl rfl (run_appOp rfl (by kernel_rfl) (by kernel_rfl) HAP2.out) rfl ?_
                refine wp_y (v := v7') rfl rfl (y_assign rfl (by kernel_rfl) (by kernel_rfl)) rfl ?_
                try simp only [List.setIfInBounds_toArray, List.set_cons_zero, List.set_cons_succ]
                refine wp_end ?_
                clear HAP1 HAP2 HW1
                go_wp2_with fail
                exact ⟨⟨i + 1, _, _, rfl, HI2.out.1, HI2.out.2, HZ.out⟩, by have := HI2.out; simp [intOf]; omega⟩
    · obtain ⟨a6, c6, hu6, hcells⟩ := hA.iz
      obtain ⟨Z, hZ⟩ : ∃ Z, Z = zs.length := ⟨_, rfl⟩
      have hZ0 : Z ≤ 40 := by omega
      have hq40 : qs.length ≤ 40 := by omega
      have hZC : Z ≤ c6 ∨ Z = 0 := by
        rcases hA.2 with ⟨_, h0⟩ | ⟨g, cap, cur, e, _, _, hc, _⟩
        · right; omega
        · rw [hu6] at e; injection e with _ _ e3; left; omega
      have hA' : Ats wo ob (.slice a6 zs.length c6) zs := by rw [← hu6]; exact hA
      have HALL : Hid (Blk w n raw (.returned (.tuple #[.slice a6 Z c6, u7])) wo) := hid ⟨_, _, zs, qs, rfl, by rw [hob, hZ]; exact hA', by rw [hob]; exact hB, by omega, hq40, fun h => hFT (by rw [hr8] at h; exact h), by rw [hob]; exact hBr⟩
      have HCUT : Hid (r16 = 8 → 0 < Z → Blk w n raw (.returned (.tuple #[.slice a6 (Z - 1) c6, u7])) wo) := hid (fun h1 h2 => ⟨_, _, zs.take (Z - 1), qs, rfl, by rw [hob]; exact hA'.cut (by omega), by rw [hob]; exact hB, by rw [List.length_take]; omega, hq40, fun h => absurd (by rw [hr8] at h; exact h) (HW.out h1), by rw [hob]; exact hBr⟩)
      rw [hu6, ← hZ]
      have HLT := hid hlt
      clear hA hB hzl hql hFT hbx hBr hcells hZ hu6 hA' hlt hq40
      by_cases hN : i < N0
      · have hb1 : decide ((i : Int) < (N0 : Int)) = true := decide_eq_true (by omega)
        have hb2 : decide ((i : Int) < 40) = false := decide_eq_false (by have := HLT.out; omega)
        have hb3 : (i : Int) < (N0 : Int) := by omega
        have hb4 : ¬ (i : Int) < 40 := by have := HLT.out; omega
        clear hN hi1 hi2
        go_wp2_with fail
        refine (HP16.out _).mono ?_
        rintro e wz ⟨rfl, hwz⟩
        obtain rfl := hwz.symm
        by_cases h16 : r16 = 8
        · have he : ((r16 : Int) == 8) = true := by rw [beq_iff_eq]; omega
          by_cases h0 : 0 < Z
          · have hg0 : (0 : Int) < (Z : Int) := by omega
            have hwZ : IntKind.i64.wrap ((Z : Int) - 1) = ((Z - 1 : Nat) : Int) := by rw [IntWalk.i64_in _ ⟨by omega, by omega⟩]; omega
            have hzc : ((Z - 1 : Nat) : Int) ≤ (c6 : Int) := by omega
            have HF := hid (HCUT.out h16 h0)
            clear hZ0 hZC h0 HCUT HALL
            generalize Z - 1 = Y at *
            go_wp2
            go_ret2
            exact HF.out
          · have hg0 : ¬ (0 : Int) < (Z : Int) := by omega
            clear HCUT
            go_wp2
            go_ret2
            exact HALL.out
        · have he : ((r16 : Int) == 8) = false := by rw [beq_eq_false_iff_ne]; omega
          clear HCUT
          go_wp2
          go_ret2
          exact HALL.out
      · have hb1 : decide ((i : Int) < (N0 : Int)) = false := decide_eq_false (by omega)
        have hb3 : ¬ (i : Int) < (N0 : Int) := by omega
        clear hN hi1 hi2
        go_wp2_with fail
        refine (HP16.out _).mono ?_
        rintro e wz ⟨rfl, hwz⟩
        obtain rfl := hwz.symm
        by_cases h16 : r16 = 8
        · have he : ((r16 : Int) == 8) = true := by rw [beq_iff_eq]; omega
          by_cases h0 : 0 < Z
          · have hg0 : (0 : Int) < (Z : Int) := by omega
            have hwZ : IntKind.i64.wrap ((Z : Int) - 1) = ((Z - 1 : Nat) : Int) := by rw [IntWalk.i64_in _ ⟨by omega, by omega⟩]; omega
            have hzc : ((Z - 1 : Nat) : Int) ≤ (c6 : Int) := by omega
            have HF := hid (HCUT.out h16 h0)
            clear hZ0 hZC h0 HCUT HALL
            generalize Z - 1 = Y at *
            go_wp2
            go_ret2
            exact HF.out
          · have hg0 : ¬ (0 : Int) < (Z : Int) := by omega
            clear HCUT
            go_wp2
            go_ret2
            exact HALL.out
        · have he : ((r16 : Int) == 8) = false := by rw [beq_eq_false_iff_ne]; omega
          clear HCUT
          go_wp2
          go_ret2
          exact HALL.out
end Go.Proofs.YtdogjicccajnkaaDoor
/- A journal in a law's hands: Write of whatever, Read as a text. -/
namespace Go.Proofs.YtdogjicccajnkaaDoor
open Go Go.RowKit

/-- All blocks of cells but a disk's, its sectors' and a journal's are as they were. -/
structure Kp (w w' : World) : Prop where
  size : w.heap.size ≤ w'.heap.size
  block : ∀ (g : Nat) (c : Array Value) (t : TypeId) (z : Nat × Nat), w.heap[g]? = some (.cells c t z) → t ≠ 100 → t ≠ 104 → t ≠ 82 → w'.heap[g]? = some (.cells c t z)
theorem Kp.refl (w : World) : Kp w w := ⟨Nat.le_refl _, fun _ _ _ _ h _ _ _ => h⟩
theorem Kp.of_below {w w' : World} (h : Below w.heap.size w w') : Kp w w' := ⟨h.size, fun _ _ _ _ hg _ _ _ => below_at h hg (heap_lt hg)⟩
theorem Kp.trans {a b c : World} (h : Kp a b) (k : Kp b c) : Kp a c := ⟨Nat.le_trans h.size k.size, fun g d t z hg h1 h2 h3 => k.block g d t z (h.block g d t z hg h1 h2 h3) h1 h2 h3⟩
theorem Kp.of_frX {w w' : World} {p : Nat} {X : List Nat} {s : DS} (hD : Disk w p X s) (hF : Fr X w w') : Kp w w' :=
  ⟨hF.size, fun _ _ _ _ hg h1 h2 _ => hF.at hg (hD.other hg h1 h2)⟩
theorem Kp.of_fr {w w' : World} {p j nb : Nat} {X : List Nat} {s : DS} {sq off : Int} (hD : Disk w p X s) (hj : Jn w j p nb sq off) (hF : Fr (j :: X) w w') : Kp w w' :=
  ⟨hF.size, fun g c t z hg h1 h2 h3 => hF.at hg (fun hm => by
    rcases List.mem_cons.1 hm with rfl | hm
    · rw [Jn, hg] at hj
      injection hj with hj
      injection hj with _ e
      exact h3 e
    · exact hD.other hg h1 h2 hm)⟩
theorem Kp.owns {w w' : World} (h : Kp w w') {t : TypeId} {B n : Nat} {v : Value} {xs : List Value} (ho : w.ownsRow B t 1 v n xs) (h1 : t ≠ 100) (h2 : t ≠ 104) (h3 : t ≠ 82) : w'.ownsRow B t 1 v n xs := by
  refine ⟨ho.1, ?_⟩
  rcases ho.2 with h2 | ⟨g, cap, cur, rfl, hb, hg, r2⟩
  · exact .inl h2
  · exact .inr ⟨g, cap, cur, rfl, hb, h.block g _ _ _ hg h1 (by assumption) h3, r2⟩
theorem Kp.rj {w w' : World} (h : Kp w w') {B r : Nat} {bl : List (List UInt8)} {sq : Int} (hr : Rj w B r bl sq) : Rj w' B r bl sq := by
  obtain ⟨vb, h1, h2⟩ := hr
  exact ⟨vb, h.block _ _ _ _ h1 (by decide) (by decide) (by decide), h.owns h2 (by decide) (by decide) (by decide)⟩
theorem Kp.ats {w w' : World} (h : Kp w w') {B : Nat} {v : Value} {zs : List Int} (ha : Ats w B v zs) : Ats w' B v zs := h.owns ha (by decide) (by decide) (by decide)
theorem Kp.bks {w w' : World} (h : Kp w w') {B : Nat} {v : Value} {qs : List Qp} (hb : Bks w B v qs) : Bks w' B v qs :=
  ⟨h.owns hb.1 (by decide) (by decide) (by decide), fun q hq => ⟨h.block _ _ _ _ (hb.2 q hq).1 (by decide) (by decide) (by decide), (hb.2 q hq).2⟩⟩

/-- A journal at rest, in memory from B on, the power on. -/
structure Js (B : Nat) (w : World) (j p : Nat) (X : List Nat) (s : DS) (sq cnt : Nat) (bl : List (List UInt8)) : Prop where
  jr : Jr w j p X s sq cnt bl
  cut : s.cut = -1
  lo : ∀ k ∈ X, B ≤ k
  jlo : B ≤ j
theorem Js.below {B : Nat} {w w' : World} {j p : Nat} {X : List Nat} {s : DS} {sq cnt : Nat} {bl : List (List UInt8)} (h : Js B w j p X s sq cnt bl) (hB : Below w.heap.size w w') : Js B w' j p X s sq cnt bl := ⟨h.jr.below hB, h.cut, h.lo, h.jlo⟩
theorem Js.lo' {B : Nat} {w : World} {j p : Nat} {X : List Nat} {s : DS} {sq cnt : Nat} {bl : List (List UInt8)} (h : Js B w j p X s sq cnt bl) : ∀ k ∈ j :: X, B ≤ k := fun k hk => by
  rcases List.mem_cons.1 hk with rfl | hk
  · exact h.jlo
  · exact h.lo k hk
/-- What the document says of a Write: how many there were, and the blocks. -/
def refW (sq : Nat) (bl : List (List UInt8)) (zs : List Int) (ps : List (List UInt8)) : Nat × List (List UInt8) := if Fit bl.length zs ps ∧ zs ≠ [] then (sq + 1, layAll bl (wsOf zs ps)) else (sq, bl)
def refE (bl : List (List UInt8)) (zs : List Int) (ps : List (List UInt8)) : Int := if Fit bl.length zs ps then 0 else 2
theorem Js.wr {B : Nat} {w : World} {j p : Nat} {X : List Nat} {s : DS} {sq cnt : Nat} {bl : List (List UInt8)} (h : Js B w j p X s sq cnt bl) (hBw : B ≤ w.heap.size) (hsq : sq + 1 ≤ 1000000000) {va vb : Value} {zs : List Int} {ps : List (List UInt8)} (ha : Iz w va zs) (hb : Bz w vb ps) (hl : zs.length ≤ 281474976710656) (ho : s.ops + ((2 * nbOf s.n + 4 : Nat) : Int) ≤ 1048576) :
    Calls Tryd.prog 15 #[.pointer (some ⟨j, 0, none⟩), va, vb] w fun e w' => e = .returned (.int .i64 (refE bl zs ps)) ∧ ∃ s' X' cnt', Js B w' j p X' s' (refW sq bl zs ps).1 cnt' (refW sq bl zs ps).2 ∧ s'.n = s.n ∧ s.ops ≤ s'.ops ∧ s'.ops ≤ s.ops + ((2 * zs.length + 4 : Nat) : Int) ∧ (¬ (Fit bl.length zs ps ∧ zs ≠ []) → s' = s) ∧ (∀ k ∈ X', k ∈ X ∨ w.heap.size ≤ k) ∧ Fr (j :: X) w w' ∧ Below B w w' ∧ Kp w w' := by
  have hbl : bl.length = nbOf s.n := h.jr.sett.con.len
  unfold refE refW
  by_cases hf : Fit bl.length zs ps
  · rw [if_pos hf]
    by_cases h0 : zs = []
    · subst h0
      obtain rfl : ps = [] := List.length_eq_zero_iff.1 hf.1.symm
      rw [if_neg (fun e => e.2 rfl)]
      refine (jwrite_none h.jr.jn ha hb).mono ?_
      rintro e w' ⟨he, hB⟩
      exact ⟨he, s, X, cnt, h.below hB, rfl, Int.le_refl _, by omega, fun _ => rfl, fun k hk => .inl hk, Fr.of_below hB, hB.mono hBw, Kp.of_below hB⟩
    · rw [if_pos ⟨hf, h0⟩]
      have hf' : Fit (nbOf s.n) zs ps := by rw [← hbl]; exact hf
      have hle := hf'.len
      refine (h.jr.write h.cut hsq ha hb hf' h0 (by omega)).mono ?_
      rintro e w' ⟨he, s', X', hJ, h1, h2, h3, hX, hF⟩
      exact ⟨he, s', X', _, ⟨hJ, h2, fun k hk => (hX k hk).elim (h.lo k) (Nat.le_trans hBw), h.jlo⟩, h1, by omega, by omega, fun hn => absurd ⟨hf, h0⟩ hn, hX, hF, hF.below hBw h.lo', Kp.of_fr h.jr.disk h.jr.jn hF⟩
  · rw [if_neg hf, if_neg (fun e => hf e.1)]
    refine (jwrite_bad h.jr.jn ha hb hl (by rw [← hbl]; exact hf)).mono ?_
    rintro e w' ⟨he, hB⟩
    exact ⟨he, s, X, cnt, h.below hB, rfl, Int.le_refl _, by omega, fun _ => rfl, fun k hk => .inl hk, Fr.of_below hB, hB.mono hBw, Kp.of_below hB⟩
/-- Read of a block, as a text. -/
theorem Jr.readS {w : World} {j p : Nat} {X : List Nat} {s : DS} {sq cnt : Nat} {bl : List (List UInt8)} (h : Jr w j p X s sq cnt bl) {i : Nat} {b : List UInt8} (hb : bl[i]? = some b) :
    Calls Tryd.prog 14 #[.pointer (some ⟨j, 0, none⟩), .int .i64 i] w fun e w' => Below w.heap.size w w' ∧ ∃ g f, w.heap.size ≤ g ∧ e = .returned (.tuple #[.slice (some ⟨g, 0, none⟩) 112 112, .int .i64 0]) ∧ Rw w' g 75 f ∧ f.length = 128 ∧ f.take 112 = b ∧ Sl w' (.slice (some ⟨g, 0, none⟩) 112 112) b := by
  refine (h.read hb).mono ?_
  rintro e w' ⟨hB, g, f, hg, he, hf, hfl, hft⟩
  refine ⟨hB, g, f, hg, he, hf, hfl, hft, ?_⟩
  have h1 := hf.rd.part 0 112
  rw [List.drop_zero, hft] at h1
  have hbl : b.length = 112 := h.sett.con.lens b (List.mem_of_getElem? hb)
  have h2 := Sl.mk (cap := 112) h1 (by omega)
  rw [hbl] at h2
  exact h2
theorem Begun.js {W : World} {n : Nat} {e : Ending} {w' : World} (h : Begun W n e w') : ∃ p j r X s, e = .returned (.tuple #[.pointer (some ⟨p, 0, none⟩), .pointer (some ⟨j, 0, none⟩), .pointer (some ⟨r, 0, none⟩)]) ∧ Js W.heap.size w' j p X s 0 0 (zeros (nbOf n)) ∧ s.n = n ∧ s.ops = ((2 * nbOf n + 3 : Nat) : Int) ∧ Rj w' (r + 1) r (zeros (nbOf n)) 0 ∧ W.heap.size ≤ r ∧ Below W.heap.size W w' := by
  obtain ⟨p, j, r, X, s, he, hJ, h1, h2, h3, hR, hX, hj, hr, hB⟩ := h
  exact ⟨p, j, r, X, s, he, ⟨hJ, h2, hX, hj⟩, h1, h3, hR, hr, hB⟩
theorem refW_len (sq : Nat) (bl : List (List UInt8)) (zs : List Int) (ps : List (List UInt8)) {B : Nat} {w : World} {j p : Nat} {X : List Nat} {s : DS} {cnt : Nat} (h : Js B w j p X s (refW sq bl zs ps).1 cnt (refW sq bl zs ps).2) : (refW sq bl zs ps).2.length = nbOf s.n := h.jr.sett.con.len
theorem refW_seq (sq : Nat) (bl : List (List UInt8)) (zs : List Int) (ps : List (List UInt8)) : sq ≤ (refW sq bl zs ps).1 ∧ (refW sq bl zs ps).1 ≤ sq + 1 := by
  unfold refW; split <;> simp
theorem Disk.same {w w' : World} {p : Nat} {X : List Nat} {s : DS} (h : Disk w p X s) (hk : ∀ k ∈ X, w'.heap[k]? = w.heap[k]?) : Disk w' p X s := by
  obtain ⟨a, ca, b, cb, m, rfl, hD, ⟨c1, hA, r1⟩, ⟨c2, hB, r2⟩, hM, r⟩ := h
  exact ⟨a, ca, b, cb, m, rfl, (hk _ (by simp)).trans hD, ⟨c1, (hk _ (by simp)).trans hA, r1⟩, ⟨c2, (hk _ (by simp)).trans hB, r2⟩, (hk _ (by simp)).trans hM, r⟩
theorem Js.same {B : Nat} {w w' : World} {j p : Nat} {X : List Nat} {s : DS} {sq cnt : Nat} {bl : List (List UInt8)} (h : Js B w j p X s sq cnt bl) (hk : ∀ k ∈ j :: X, w'.heap[k]? = w.heap[k]?) (ht : Tab w') : Js B w' j p X s sq cnt bl :=
  ⟨⟨(hk j (by simp)).trans h.jr.jn, h.jr.disk.same (fun k hm => hk k (by simp [hm])), ht, h.jr.sett⟩, h.cut, h.lo, h.jlo⟩
theorem Js.lt {B : Nat} {w : World} {j p : Nat} {X : List Nat} {s : DS} {sq cnt : Nat} {bl : List (List UInt8)} (h : Js B w j p X s sq cnt bl) : ∀ k ∈ j :: X, k < w.heap.size := fun k hk => by
  rcases List.mem_cons.1 hk with rfl | hk
  · exact heap_lt h.jr.jn
  · exact h.jr.disk.lt k hk
theorem Js.not {B : Nat} {w : World} {j p : Nat} {X : List Nat} {s : DS} {sq cnt : Nat} {bl : List (List UInt8)} (h : Js B w j p X s sq cnt bl) {g : Nat} {c : Array Value} {t : TypeId} {z : Nat × Nat} (hg : w.heap[g]? = some (.cells c t z)) (h1 : t ≠ 100) (h2 : t ≠ 104) (h3 : t ≠ 82) : g ∉ j :: X := fun hm => by
  rcases List.mem_cons.1 hm with rfl | hm
  · have hj := h.jr.jn
    rw [Jn, hg] at hj
    injection hj with hj
    injection hj with _ e
    exact h3 e
  · exact h.jr.disk.other hg h1 h2 hm
theorem Js.oth {B : Nat} {w w' : World} {j p : Nat} {X : List Nat} {s : DS} {sq cnt : Nat} {bl : List (List UInt8)} (h : Js B w j p X s sq cnt bl) {t : TypeId} (hO : Oth t w w') (h1 : t ≠ 100) (h2 : t ≠ 104) (h3 : t ≠ 82) (ht : Tab w') : Js B w' j p X s sq cnt bl :=
  h.same (fun k hk => by
    obtain ⟨o, ho⟩ : ∃ o, w.heap[k]? = some o := ⟨_, Array.getElem?_eq_getElem (h.lt k hk)⟩
    rw [ho]
    exact hO.block k o ho (fun c e => by subst e; exact h.not ho h1 h2 h3 hk)) ht
theorem Js.fr {B : Nat} {w w' : World} {j p : Nat} {X Y : List Nat} {s : DS} {sq cnt : Nat} {bl : List (List UInt8)} (h : Js B w j p X s sq cnt bl) (hF : Fr Y w w') (hY : ∀ k ∈ j :: X, k ∉ Y) (ht : Tab w') : Js B w' j p X s sq cnt bl :=
  h.same (fun k hk => hF.block k (h.lt k hk) (hY k hk)) ht
theorem Tab.belowB {B : Nat} {w w' : World} (h : Tab w) (hB : Below B w w') (hl : 0 < B) : Tab w' := fun k hk => by
  rw [hB.cell (p := ⟨0, k, none⟩) hl]; exact h k hk
/-- One text more. -/
theorem more_str2 {w : World} {B : Nat} {v : Value} {bl : List (List UInt8)} (h : w.ownsRow B 9 1 v bl.length (bl.map strV)) (b : List UInt8) (hn : bl.length ≤ 1000000) (hB : B ≤ w.heap.size) (ty : TypeId) :
    ∃ v' w', (Builtin.append_ #[49, 49] ty #[v, .slice (some ⟨w.heap.size, 0, none⟩) 1 1]).run Tryd.prog (w.alloc (.cells #[strV b] 9)) = .ok v' w' ∧ w'.ownsRow B 9 1 v' (bl ++ [b]).length ((bl ++ [b]).map strV) ∧ Below B w w' ∧ Oth 9 w w' := by
  have h' : w.ownsRow B 9 1 v (bl.map strV).length (bl.map strV) := by rw [List.length_map]; exact h
  obtain ⟨v', w', h1, h2, h3, h4⟩ := more_one Tryd.underlying49 infoS rfl (by decide) h' (strV b) rfl (by rw [List.length_map]; exact hn) hB ty
  refine ⟨v', w', h1, ?_, h3, h4⟩
  rw [List.map_append, List.length_append]
  rw [List.length_append, List.length_map] at h2
  exact h2
theorem neqS (a b : List UInt8) (r : Bool) (h : decide (a ≠ b) = r) (w : World) : (binOp .neq 9 (strV a) (strV b)).run Tryd.prog w = .ok (.bool r) w := by
  subst h
  unfold strV
  go_simp
  by_cases hab : a = b <;> simp [hab]
theorem neqE (a b : Int) (r : Bool) (h : (a != b) = r) (w : World) : (binOp .neq 25 (.int .i64 a) (.int .i64 b)).run Tryd.prog w = .ok (.bool r) w := by subst h; go_simp
theorem y_neqS {ops : Array Oper} {S : World → Prop} {o : Oper} {a : Act} {x y : Operand} {t' : TypeId} {l m : List UInt8} {r : Bool} (hop : o.op = .binOp .neq 9 x y t') (hw : Region.wanted o (yielded ops a.tmps) = true) (hx : a.eval x = strV l) (hy : a.eval y = strV m) (hr : decide (l ≠ m) = r) : YieldsIf Tryd.prog ops S o (.bool r) a :=
  .inl ⟨hw, fun w _ => by
    unfold execOp; rw [hop]; simp only [hx, hy, Sem.run_bind]
    have : (eqGuard .neq 9 x y (strV l) (strV m)).run Tryd.prog w = .ok () w := by
      unfold eqGuard strV; go_simp
    rw [this]; simp only [Result.andThen_ok, neqS l m r hr w]; rfl⟩
end Go.Proofs.YtdogjicccajnkaaDoor
/- What the rows' conditions give the walks of layer 6: the table, and the arguments. -/
namespace Go.Proofs.YtdogjicccajnkaaDoor
open Go Go.ChangeShapes Go.WideShapes Go.ChangeAt Go.WideMaps Go.WideElems Go.RowKit Go.ChangeMaps Go.Deep

theorem own : ownKnob Tryd.prog.godebug = none := by kernel_rfl
theorem laidOut : laidOutB Tryd.prog = true := by kernel_rfl
theorem cells8of : Tryd.prog.cellsOf 5 = 1 := by kernel_rfl

/-- The rows' list of tables. -/
def laid1 : List (String × DataW Unit) := [("usance/wire.crcSteps", Rows.laid_usance_wire_crcSteps)]
theorem laid_met (os : Os) (args : Array Value) : laidMetH Tryd.prog laid1 ((World.doorLaid Tryd.prog 24 os).forCall (fun _ _ => 0) ⟨#[], args, []⟩).memory :=
  laidMetH_of_parts3 (fuel := 8) (laidMet_of_run' 8 (by kernel_rfl) (by kernel_rfl)) (by kernel_rfl) (by kernel_rfl)
theorem crc_datum : (Rows.laid_usance_wire_crcSteps : DataW Unit) = Lib.tabData .u32 (crcTab.map fun n : Nat => (n : Int)) := by kernel_rfl
theorem tab_of_laid {W : World} (h : laidMetH Tryd.prog laid1 W) : Tab W := by
  rw [MakeChecks.laidMetH_plain _ _ _ (by kernel_rfl)] at h
  unfold laid1 at h
  rw [crc_datum] at h
  have ht := Lib.tabIs_of_head (g := 0) (t := 136) (e := 114) (n := 16) (by kernel_rfl) (by kernel_rfl) Tryd.underlying136 Tryd.underlying114 (by kernel_rfl) (by kernel_rfl) h
  intro k hk
  have hc := Lib.TabIs.cell ht (g := 0) (by kernel_rfl) k hk
  rw [hc]
  have hk' : k < crcTab.length := hk
  simp [crcAt, List.getD, hk']

theorem bulk_pos {H : Type} (d : DataW H) : 1 ≤ Rows.uptoBulk d := by
  cases d with
  | lit l => cases l <;> simp [Rows.uptoBulk]
  | _ => simp [Rows.uptoBulk]
theorem bulk_len {H : Type} : ∀ ds : List (DataW H), ds.length ≤ Rows.uptoBulkAll ds
  | [] => by simp
  | d :: r => by
    have h1 := bulk_pos d
    have h2 := bulk_len r
    simp only [Rows.uptoBulkAll, List.length_cons]; omega

theorem sl_ints {W : World} {a : Option Addr} {len cap : Nat} {zs : List Int} (hl : len ≤ cap) (hz : zs.length = cap) (hw : ∀ n ∈ zs, (Lit.int .u8 n).wf = true) (hnone : a = none → cap = 0)
    (hcell : ∀ a', a = some a' → ∀ c, c < cap → W.cell? (a'.add c) = some (.int .u8 (zs.getD c 0))) :
    ((zs.take len).map fun z => UInt8.ofNat z.toNat).length = len ∧ Sl W (.slice a len cap) ((zs.take len).map fun z => UInt8.ofNat z.toNat) := by
  have hll : ((zs.take len).map fun z => UInt8.ofNat z.toNat).length = len := by simp; omega
  refine ⟨hll, ?_⟩
  refine ⟨a, cap, by rw [hll], by rw [hll]; exact hl, hnone, fun hne => ?_⟩
  have hpos : 0 < cap := by
    rcases Nat.eq_zero_or_pos cap with h | h
    · exfalso; apply hne; apply List.eq_nil_of_length_eq_zero; rw [hll]; omega
    · exact h
  cases a with
  | none => have := hnone rfl; omega
  | some ad =>
    obtain ⟨b, off, sp⟩ := ad
    obtain rfl : sp = none := by simpa [Addr.add] using World.cell?_spot (hcell _ rfl 0 hpos)
    refine ⟨b, off, rfl, fun k hk => ?_⟩
    rw [hll] at hk
    have hkz : k < zs.length := by omega
    have hc := hcell _ rfl k (by omega)
    rw [Addr.add_lit] at hc
    rw [hc]
    have hb : 0 ≤ zs[k] ∧ zs[k] ≤ 255 := bounds_u8 (hw _ (List.getElem_mem hkz))
    have e1 : zs.getD k 0 = zs[k] := by simp [List.getD, hkz]
    have e2 : at8 ((zs.take len).map fun z => UInt8.ofNat z.toNat) k = zs[k] := by
      unfold at8
      have : ((zs.take len).map fun z => UInt8.ofNat z.toNat).getD k 0 = UInt8.ofNat zs[k].toNat := by simp [List.getD, hk, hkz]
      rw [this, u8_ofNat (by omega)]; omega
    rw [e1, e2]

theorem bulk_rows {H : Type} (D : Nat → DataW H) (ps : Nat → List UInt8) : ∀ rs : List Nat, (∀ r ∈ rs, (ps r).length + 1 ≤ Rows.uptoBulk (D r)) → rs.length + (rs.map ps).flatten.length ≤ Rows.uptoBulkAll (rs.map D)
  | [], _ => by simp
  | r :: rs, h => by
    have h1 := h r (by simp)
    have h2 := bulk_rows D ps rs (fun x hx => h x (by simp [hx]))
    simp only [List.map_cons, List.flatten_cons, List.length_append, List.length_cons, Rows.uptoBulkAll]
    omega

theorem parts_arg {H : Type} {enc : TypeId × Value → H} {W : World} {a : Option Addr} {len cap : Nat} {d : DataW H} {p : List MemPlace}
    (h0 : DataW.Trod enc Tryd.prog W 0 (fun _ => true) true 46 (.slice a len cap) d p) :
    ∃ ps : List (List UInt8), ps.length = len ∧ Parts W a ps ∧ True ∧ ps.length + ps.flatten.length ≤ Rows.uptoBulk d := by
  obtain ⟨fuel, hf⟩ := h0
  rcases open_int_rows Tryd.underlying46 Tryd.underlying33 Tryd.underlying5 (by kernel_rfl) cells8of hf with ⟨hcs, hx⟩ | ⟨ad, len', cap', A, L, C, Z, hcs, _, hl, hm, hx, hrow⟩
  · simp [Value.cells] at hcs
    obtain ⟨rfl, rfl, rfl⟩ := hcs
    exact ⟨[], rfl, fun k hk => absurd hk (Nat.not_lt_zero _), trivial, by simp⟩
  · simp [Value.cells] at hcs
    obtain ⟨rfl, rfl, rfl⟩ := hcs
    simp only [Prod.mk.injEq] at hx
    have hsl : ∀ r, r < cap → (((Z r).take (L r)).map fun z => UInt8.ofNat z.toNat).length = L r ∧ Sl W (.slice (A r) (L r) (C r)) (((Z r).take (L r)).map fun z => UInt8.ofNat z.toNat) := fun r hr => by
      obtain ⟨_, h1, _, h2, h3, h4, h5⟩ := hrow r hr
      exact sl_ints h1 h2 h3 h4 (fun a' ha c hc => (h5 a' ha).2 c hc)
    refine ⟨(List.range len).map fun r => ((Z r).take (L r)).map fun z => UInt8.ofNat z.toNat, by simp, ?_, trivial, ?_⟩
    · intro k hk
      have hk' : k < len := by simpa using hk
      have hg : ((List.range len).map fun r => ((Z r).take (L r)).map fun z => UInt8.ofNat z.toNat).getD k [] = ((Z k).take (L k)).map fun z => UInt8.ofNat z.toNat := by simp [List.getD, hk']
      rw [hg]
      have hc := (hrow k (by omega)).1
      obtain ⟨b, o, sp⟩ := ad
      have hsp : sp = none := by
        have h0 := (hrow 0 (by omega)).1
        simpa [Addr.add] using World.cell?_spot h0
      subst hsp
      rw [Addr.add_lit] at hc
      obtain ⟨e1, e2⟩ := hsl k (by omega)
      refine ⟨b, o, A k, C k, rfl, ?_, ?_⟩
      · rw [e1]; exact hc
      · rw [e1]; exact e2
    · rw [hx.1]
      have := bulk_rows (H := H) (fun r => intRow .u8 (A r) (L r) (Z r)) (fun r => ((Z r).take (L r)).map fun z => UInt8.ofNat z.toNat) (List.range len) (fun r hr => by
        have hr' : r < len := by simpa using hr
        rw [(hsl r (by omega)).1]
        obtain ⟨_, h1, _, h2, _, h4, _⟩ := hrow r (by omega)
        unfold intRow
        cases hA : A r with
        | none => have := h4 hA; simp [Rows.uptoBulk]; omega
        | some q =>
          have hb := bulk_len (H := H) (lits .u8 ((Z r).take (L r)))
          have hlen : (lits (H := H) .u8 ((Z r).take (L r))).length = L r := by simp [lits]; omega
          simp only [Rows.uptoBulk]; omega)
      simp only [Rows.uptoBulk, List.length_map, List.length_range] at this ⊢
      omega
theorem spot_none {w : World} {ad : Addr} {v : Value} (h : w.cell? (ad.add 0) = some v) : ad.spot = none := by
  simpa [Addr.add] using World.cell?_spot h
theorem list4 {α : Type} : ∀ {l : List α}, l.length = 4 → ∃ a b c d, l = [a, b, c, d]
  | [a, b, c, d], _ => ⟨a, b, c, d, rfl⟩
theorem ints_trod {H : Type} {enc : TypeId × Value → H} {W : World} {cs : List Value} {x : DataW H × List MemPlace} {fuel : Nat}
    (hf : DataW.trod enc Tryd.prog W 0 (fun _ => true) true fuel 43 cs = some x) :
    ∃ a len cap zs, cs = [.slice a len cap] ∧ Iz W (.slice a len cap) zs ∧ zs.length = len ∧ (∀ z ∈ zs, -9223372036854775808 ≤ z ∧ z ≤ 9223372036854775807) ∧ len ≤ 9223372036854775807 ∧ (x.1 = .nil ∧ len = 0 ∨ ∃ elems spare, x.1 = .slice elems spare ∧ elems.length = len) := by
  rcases open_ints Tryd.underlying43 Tryd.underlying3 (by kernel_rfl) hf with ⟨hcs, hx⟩ | ⟨ad, len, cap, zs, hcs, _, hl, hm, hz, hx, hcell, hwz⟩
  · exact ⟨none, 0, 0, [], hcs, ⟨none, 0, rfl, fun k x h => by simp at h⟩, rfl, by simp, by omega, .inl ⟨by rw [hx], rfl⟩⟩
  · simp only [if_true] at hz
    have hm' : cap ≤ 9223372036854775807 := hm
    have hzl : (zs.take len).length = len := by simp; omega
    refine ⟨some ad, len, cap, zs.take len, hcs, ⟨some ad, cap, by rw [hzl], fun j x hj => ?_⟩, hzl, fun z hz => bounds_i64 (hwz z (List.mem_of_mem_take hz)), by omega, .inr ⟨_, _, by rw [hx], by simp [lits]; omega⟩⟩
    have hj' : j < len := by have := (List.getElem?_eq_some_iff.1 hj).1; omega
    obtain ⟨b, off, sp⟩ := ad
    obtain rfl : sp = none := spot_none (hcell 0 (by omega))
    refine ⟨b, off, rfl, ?_⟩
    have h1 := hcell j (by omega)
    rw [Addr.add_lit] at h1
    rw [h1]
    rw [List.getElem?_take_of_lt hj'] at hj
    simp [List.getD, hj]
/-- A script's call, as it is handed in. -/
structure OpV6 where
  kd : Int
  va : Value
  by_ : Int
  raw : Int
  zs : List Int
def OpF6 (W : World) (o : OpV6) : Prop := Iz W o.va o.zs ∧ o.zs.length ≤ 9223372036854775807 ∧ (∀ x ∈ o.zs, -9223372036854775808 ≤ x ∧ x ≤ 9223372036854775807) ∧ (0 ≤ o.by_ ∧ o.by_ ≤ 255) ∧ (-9223372036854775808 ≤ o.raw ∧ o.raw ≤ 9223372036854775807) ∧ (-9223372036854775808 ≤ o.kd ∧ o.kd ≤ 9223372036854775807)
theorem op_trod {H : Type} {enc : TypeId × Value → H} {W : World} {cs : List Value} {x : DataW H × List MemPlace} {fuel : Nat}
    (hf : DataW.trod enc Tryd.prog W 0 (fun _ => true) true fuel 45 cs = some x) :
    ∃ o : OpV6, cs = [.int .i64 o.kd, o.va, .int .u8 o.by_, .int .i64 o.raw] ∧ OpF6 W o := by
  have hc4 : Tryd.prog.cellsOf 45 = 4 := by kernel_rfl
  have hci : Tryd.prog.cellsOf 3 = 1 := by kernel_rfl
  have hcb : Tryd.prog.cellsOf 5 = 1 := by kernel_rfl
  have hcs' : Tryd.prog.cellsOf 43 = 1 := by kernel_rfl
  obtain ⟨ys, k, hk, hxy, hcl, hxl, hfd⟩ := DataW.trod_struct Tryd.underlying45 hf
  have hy4 : ys.length = 4 := hxl
  obtain ⟨y0, y1, y2, y3, rfl⟩ := list4 hy4
  rw [hc4] at hcl
  obtain ⟨v0, v1, v2, v3, rfl⟩ := list4 hcl
  have g0 := hfd 0 _ rfl
  have g1 := hfd 1 _ rfl
  have g2 := hfd 2 _ rfl
  have g3 := hfd 3 _ rfl
  simp [hci, hcb, hcs'] at g0 g1 g2 g3
  obtain ⟨n0, e0, _, w0⟩ := DataW.trod_int Tryd.underlying3 g0
  obtain ⟨sa, sl, sc, zs, e1, hI, hzl, hz, hle, _⟩ := ints_trod g1
  obtain ⟨n2, e2, _, w2⟩ := DataW.trod_int Tryd.underlying5 g2
  obtain ⟨n3, e3, _, w3⟩ := DataW.trod_int Tryd.underlying3 g3
  simp only [List.cons.injEq, and_true] at e0 e1 e2 e3
  subst e0 e1 e2 e3
  exact ⟨⟨n0, _, n2, n3, zs⟩, rfl, hI, by rw [hzl]; exact hle, hz, bounds_u8 w2, bounds_i64 w3, bounds_i64 w0⟩
set_option maxRecDepth 100000 in
theorem op_arg {H : Type} {enc : TypeId × Value → H} {W : World} {base : Nat} {v : Value} {d : DataW H} {p : List MemPlace} (hv : Value.okWide Tryd.prog W .any base 45 v)
    (h0 : DataW.Trod enc Tryd.prog W 0 (fun _ => true) true 45 v d p) :
    ∃ o : OpV6, v = .agg #[.int .i64 o.kd, o.va, .int .u8 o.by_, .int .i64 o.raw] ∧ OpF6 W o := by
  obtain ⟨cs, hcv, _⟩ := okWide_struct Tryd.underlying45 hv
  subst hcv
  obtain ⟨fuel, hf⟩ := h0
  obtain ⟨o, hcs, ho⟩ := op_trod hf
  refine ⟨o, ?_, ho⟩
  have : cs.toList = [.int .i64 o.kd, o.va, .int .u8 o.by_, .int .i64 o.raw] := hcs
  rw [← Array.toArray_toList (xs := cs), this]
theorem ints_arg {H : Type} {enc : TypeId × Value → H} {W : World} {a : Option Addr} {len cap : Nat} {d : DataW H} {p : List MemPlace}
    (h0 : DataW.Trod enc Tryd.prog W 0 (fun _ => true) true 43 (.slice a len cap) d p) :
    ∃ zs : List Int, Iz W (.slice a len cap) zs ∧ zs.length = len ∧ (∀ z ∈ zs, -9223372036854775808 ≤ z ∧ z ≤ 9223372036854775807) ∧ len ≤ 9223372036854775807 ∧ (d = .nil ∧ len = 0 ∨ ∃ elems spare, d = .slice elems spare ∧ elems.length = len) := by
  obtain ⟨fuel, hf⟩ := h0
  obtain ⟨a', len', cap', zs, hcs, h1, h2, h3, h4, h5⟩ := ints_trod hf
  simp [Value.cells] at hcs
  obtain ⟨rfl, rfl, rfl⟩ := hcs
  exact ⟨zs, h1, h2, h3, h4, h5⟩
theorem ints_sized {H : Type} {ts : List TypeId} {ds : List (DataW H)} (h : (DataW.weightsEach Tryd.prog ts ds).all (· ≤ reachBytes) = true) {j len : Nat} {d : DataW H} (ht : ts[j]? = some 43) (hd : ds[j]? = some d)
    (hx : d = .nil ∧ len = 0 ∨ ∃ elems spare, d = .slice elems spare ∧ elems.length = len) : len * 8 ≤ 140737488351232 := by
  rcases hx with ⟨_, rfl⟩ | ⟨elems, spare, rfl, hl⟩
  · omega
  · have hs := sized_slice h ht hd Tryd.underlying43
    have hb : Tryd.prog.bytesOf 3 = 8 := by kernel_rfl
    rw [hb] at hs
    have : reachBytes = 140737488351232 := rfl
    omega
/-- Calls that lie in memory. -/
def Ops6 (W : World) (a : Option Addr) (len : Nat) (xs : List OpV6) : Prop := xs.length = len ∧ ∀ (j : Nat) (x : OpV6), xs[j]? = some x → ∃ b off, a = some ⟨b, off, none⟩ ∧ W.cell? ⟨b, off + j * 4, none⟩ = some (.int .i64 x.kd) ∧ W.cell? ⟨b, off + (j * 4 + 1), none⟩ = some x.va ∧ W.cell? ⟨b, off + (j * 4 + 2), none⟩ = some (.int .u8 x.by_) ∧ W.cell? ⟨b, off + (j * 4 + 3), none⟩ = some (.int .i64 x.raw)
theorem ops_trod {H : Type} {enc : TypeId × Value → H} {W : World} {cs : List Value} {x : DataW H × List MemPlace} {fuel : Nat}
    (hf : DataW.trod enc Tryd.prog W 0 (fun _ => true) true fuel 22 cs = some x) :
    ∃ a len cap xs, cs = [.slice a len cap] ∧ Ops6 W a len xs ∧ (∀ x ∈ xs, OpF6 W x) ∧ len ≤ 9223372036854775807 := by
  rcases open_slice Tryd.underlying22 hf with ⟨hcs, hx⟩ | ⟨ad, len, cap, m, n, D, Pl, hcs, _, hl, hm, hmm, hx, hel⟩
  · exact ⟨none, 0, 0, [], hcs, ⟨rfl, fun j x hj => by simp at hj⟩, by simp, by omega⟩
  · simp only [if_true] at hmm
    have hm' : cap ≤ 9223372036854775807 := hm
    have hc4 : Tryd.prog.cellsOf 45 = 4 := by kernel_rfl
    have each : ∀ i, i < len → ∃ v : OpV6, OpF6 W v ∧
        W.cell? (ad.add (i * 4)) = some (.int .i64 v.kd) ∧ W.cell? (ad.add (i * 4 + 1)) = some v.va ∧ W.cell? (ad.add (i * 4 + 2)) = some (.int .u8 v.by_) ∧ W.cell? (ad.add (i * 4 + 3)) = some (.int .i64 v.raw) := by
      intro i hi
      obtain ⟨cs2, h1, h2⟩ := hel i (by omega)
      rw [hc4] at h1
      obtain ⟨_, hlen2, hcell⟩ := World.cells?_some h1
      obtain ⟨o, rfl, ho⟩ := op_trod h2
      have c0 := hcell 0 (by omega)
      have c1 := hcell 1 (by omega)
      have c2 := hcell 2 (by omega)
      have c3 := hcell 3 (by omega)
      rw [add_add] at c0 c1 c2 c3
      exact ⟨o, ho, by simpa using c0, by simpa using c1, by simpa using c2, by simpa using c3⟩
    haveI : Inhabited OpV6 := ⟨⟨0, .int .i64 0, 0, 0, []⟩⟩
    obtain ⟨q, hq⟩ := choose_lt each
    refine ⟨some ad, len, cap, (List.range len).map q, hcs, ⟨by simp, fun j x hj => ?_⟩, fun x hxm => ?_, by omega⟩
    · have hj' : j < len := by have := (List.getElem?_eq_some_iff.1 hj).1; simpa using this
      obtain rfl : q j = x := by simpa [hj'] using hj
      obtain ⟨_, c0, c1, c2, c3⟩ := hq j hj'
      have hz0 := (hq 0 (by omega)).2.1
      rw [Nat.zero_mul] at hz0
      obtain ⟨b, off, sp⟩ := ad
      obtain rfl : sp = none := spot_none hz0
      rw [Addr.add_lit] at c0 c1 c2 c3
      exact ⟨b, off, rfl, c0, c1, c2, c3⟩
    · obtain ⟨j, hj, rfl⟩ := List.mem_map.1 hxm
      exact (hq j (by simpa using hj)).1
theorem ops_arg {H : Type} {enc : TypeId × Value → H} {W : World} {a : Option Addr} {len cap : Nat} {d : DataW H} {p : List MemPlace}
    (h0 : DataW.Trod enc Tryd.prog W 0 (fun _ => true) true 22 (.slice a len cap) d p) :
    ∃ xs : List OpV6, Ops6 W a len xs ∧ (∀ x ∈ xs, OpF6 W x) ∧ len ≤ 9223372036854775807 := by
  obtain ⟨fuel, hf⟩ := h0
  obtain ⟨a', len', cap', xs, hcs, h1, h2, h3⟩ := ops_trod hf
  simp [Value.cells] at hcs
  obtain ⟨rfl, rfl, rfl⟩ := hcs
  exact ⟨xs, h1, h2, h3⟩
end Go.Proofs.YtdogjicccajnkaaDoor
