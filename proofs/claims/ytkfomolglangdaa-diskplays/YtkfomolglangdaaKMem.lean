/- A disk in memory: rows of sectors, the loose writes' map, the disk's own block; and what a call leaves as it was. -/
import Derived.Test.YtkfomolglangdaaKOps
import Derived.MapKept
import Derived.ChangeMaps5
namespace Go.Proofs.Ytkfomolglangdaa
open Go Go.RowKit

/-- What lay there is as it was, but for the blocks X. -/
structure Fr (X : List Nat) (w w' : World) : Prop where
  os : w'.os = w.os
  tape : w'.tape = w.tape
  output : w'.output = w.output
  size : w.heap.size ≤ w'.heap.size
  block : ∀ k, k < w.heap.size → k ∉ X → w'.heap[k]? = w.heap[k]?
theorem Fr.refl (X : List Nat) (w : World) : Fr X w w := ⟨rfl, rfl, rfl, Nat.le_refl _, fun _ _ _ => rfl⟩
theorem Fr.trans {X Y : List Nat} {w a b : World} (h : Fr X w a) (k : Fr Y a b) (hY : ∀ x ∈ Y, x ∈ X ∨ w.heap.size ≤ x) : Fr X w b :=
  ⟨k.os.trans h.os, k.tape.trans h.tape, k.output.trans h.output, Nat.le_trans h.size k.size, fun i hi hX => (k.block i (Nat.lt_of_lt_of_le hi h.size) (fun hm => by rcases hY i hm with h | h; exact hX h; omega)).trans (h.block i hi hX)⟩
theorem Fr.mono {X Y : List Nat} {w a : World} (h : Fr X w a) (hY : ∀ x ∈ X, x ∈ Y ∨ w.heap.size ≤ x) : Fr Y w a :=
  ⟨h.os, h.tape, h.output, h.size, fun i hi hX => h.block i hi (fun hm => by rcases hY i hm with h | h; exact hX h; omega)⟩
theorem Fr.below {X : List Nat} {w a : World} (h : Fr X w a) {B : Nat} (hB : B ≤ w.heap.size) (hX : ∀ x ∈ X, B ≤ x) : Below B w a :=
  ⟨h.os, h.tape, h.output, h.size, fun i hi => h.block i (by omega) (fun hm => by have := hX i hm; omega)⟩
theorem Fr.of_below {X : List Nat} {w a : World} (h : Below w.heap.size w a) : Fr X w a := ⟨h.os, h.tape, h.output, h.size, fun i hi _ => h.block i hi⟩
theorem Fr.setCell (w : World) (p i : Nat) (v : Value) : Fr [p] w (w.setCell ⟨p, i, none⟩ v) :=
  ⟨rfl, rfl, rfl, by simp, fun k _ hk => Below.heap_setCell w _ v k (by simpa using hk)⟩
theorem Fr.setRow (w : World) (p : Nat) (c : Array Value) : Fr [p] w (w.setRow p c) :=
  ⟨rfl, rfl, rfl, by simp, fun k _ hk => setRow_other w p k c (by simpa using hk)⟩
theorem Fr.alloc (w : World) (o : Obj) : Fr [] w (w.alloc o) := Fr.of_below ((Below.refl _ w).alloc (Nat.le_refl _) o)
theorem Fr.drew (w : World) : Fr [] w w.drew := ⟨rfl, rfl, rfl, Nat.le_refl _, fun _ _ _ => rfl⟩

theorem Fr.undrew {X : List Nat} {w a : World} (h : Fr X w.drew a) : Fr X w a := ⟨h.os, h.tape, h.output, h.size, h.block⟩

theorem heap_lt {w : World} {k : Nat} {o : Obj} (h : w.heap[k]? = some o) : k < w.heap.size := (Array.getElem?_eq_some_iff.1 h).1
theorem Fr.at {X : List Nat} {w a : World} (h : Fr X w a) {k : Nat} {o : Obj} (hk : w.heap[k]? = some o) (hX : k ∉ X) : a.heap[k]? = some o := (h.block k (heap_lt hk) hX).trans hk
theorem below_at {B : Nat} {w a : World} (h : Below B w a) {k : Nat} {o : Obj} (hk : w.heap[k]? = some o) (hB : k < B) : a.heap[k]? = some o := (h.block k hB).trans hk

/-- A cell of a block. -/
theorem cell_at {w : World} {p : Nat} {c : Array Value} {t : TypeId} {z : Nat × Nat} (h : w.heap[p]? = some (.cells c t z)) (i : Nat) {v : Value} (hi : c[i]? = some v) : w.cell? ⟨p, i, none⟩ = some v := by simp [World.cell?, h, hi]
theorem open_at {w : World} {p : Nat} {c : Array Value} {t : TypeId} (h : w.heap[p]? = some (.cells c t (0, 0))) (i : Nat) : w.frozen? ⟨p, i, none⟩ = false := by simp [World.frozen?, h]
theorem heap_setCell {w : World} {p : Nat} {c : Array Value} {t : TypeId} {z : Nat × Nat} (h : w.heap[p]? = some (.cells c t z)) (i : Nat) (v : Value) : (w.setCell ⟨p, i, none⟩ v).heap[p]? = some (.cells (c.setIfInBounds i v) t z) := by
  have hl := heap_lt h
  unfold World.setCell
  simp only [Array.getElem?_modify, if_true, h, Option.map_some]
  simp

theorem relaid_size (cur : Array Value) (o : Nat) (cs : List Value) (h : o + cs.length ≤ cur.size) : (relaid cur o cs).size = cur.size := by
  simp only [relaid, List.size_toArray, List.length_append, List.length_take, List.length_drop, Array.length_toList]
  omega
theorem relaid_in (cur : Array Value) (o : Nat) (cs : List Value) (h : o + cs.length ≤ cur.size) (j : Nat) (hj : j < cs.length) : (relaid cur o cs)[o + j]? = cs[j]? := by
  simp only [relaid, List.getElem?_toArray, List.append_assoc]
  rw [List.getElem?_append_right (by simp; omega), List.getElem?_append_left (by simp; omega)]
  congr 1
  simp; omega
theorem relaid_out (cur : Array Value) (o : Nat) (cs : List Value) (h : o + cs.length ≤ cur.size) (k : Nat) (hk : k < o ∨ o + cs.length ≤ k) : (relaid cur o cs)[k]? = cur[k]? := by
  simp only [relaid, List.getElem?_toArray, List.append_assoc]
  rcases hk with hk | hk
  · rw [List.getElem?_append_left (by simp; omega), List.getElem?_take_of_lt hk, Array.getElem?_toList]
  · rw [List.getElem?_append_right (by simp; omega), List.getElem?_append_right (by simp; omega), List.getElem?_drop, Array.getElem?_toList]
    congr 1
    simp; omega

/-- A row of sectors, in block g. -/
def Row (w : World) (g cap : Nat) (ss : List (List UInt8)) : Prop :=
  ∃ cur, w.heap[g]? = some (.cells cur 70 (0, 0)) ∧ ss.length * 128 ≤ cur.size ∧ ss.length ≤ cap ∧ cap ≤ maxLen ∧ ∀ i s, ss[i]? = some s → s.length = 128 ∧ ∀ j v, (cells8 s)[j]? = some v → cur[i * 128 + j]? = some v
theorem Row.lt {w : World} {g cap : Nat} {ss : List (List UInt8)} (h : Row w g cap ss) : g < w.heap.size := by
  obtain ⟨cur, hg, _⟩ := h; exact heap_lt hg
theorem Row.fr {X : List Nat} {w a : World} {g cap : Nat} {ss : List (List UInt8)} (h : Row w g cap ss) (hF : Fr X w a) (hX : g ∉ X) : Row a g cap ss := by
  obtain ⟨cur, hg, r⟩ := h; exact ⟨cur, hF.at hg hX, r⟩
theorem Row.below {B : Nat} {w a : World} {g cap : Nat} {ss : List (List UInt8)} (h : Row w g cap ss) (hF : Below B w a) (hX : g < B) : Row a g cap ss := by
  obtain ⟨cur, hg, r⟩ := h; exact ⟨cur, below_at hF hg hX, r⟩
/-- A sector is laid. -/
theorem row_laid {w : World} {g cap : Nat} {ss : List (List UInt8)} {cur : Array Value} (hg : w.heap[g]? = some (.cells cur 70 (0, 0))) (hs : ss.length * 128 ≤ cur.size) (hc : ss.length ≤ cap) (hm : cap ≤ maxLen)
    (h : ∀ i s, ss[i]? = some s → s.length = 128 ∧ ∀ j v, (cells8 s)[j]? = some v → cur[i * 128 + j]? = some v) (i : Nat) (hi : i < ss.length) (s : List UInt8) (h128 : s.length = 128) :
    Row (w.setRow g (relaid cur (i * 128) (cells8 s))) g cap (ss.set i s) := by
  have hl : i * 128 + (cells8 s).length ≤ cur.size := by rw [cells8_len]; omega
  refine ⟨_, setRow_heap w g cur _ _ _ hg, by rw [relaid_size _ _ _ hl]; simpa using hs, by simpa using hc, hm, fun k t hk => ?_⟩
  by_cases e : i = k
  · subst e
    rw [List.getElem?_set_self hi] at hk
    cases hk
    refine ⟨h128, fun j v hj => ?_⟩
    rw [relaid_in _ _ _ hl j (by have := (List.getElem?_eq_some_iff.1 hj).1; exact this)]
    exact hj
  · rw [List.getElem?_set_ne e] at hk
    obtain ⟨h1, h2⟩ := h k t hk
    refine ⟨h1, fun j v hj => ?_⟩
    have hj' : j < 128 := by have := (List.getElem?_eq_some_iff.1 hj).1; rw [cells8_len] at this; omega
    rw [relaid_out _ _ _ hl _ (by rw [cells8_len]; omega)]
    exact h2 j v hj

/-- A loose write: where, and what. -/
def wv (x : Nat × List UInt8) : Value := .agg (.int .i64 x.1 :: cells8 x.2).toArray
def entL : Nat → List (Nat × List UInt8) → List MapEntry
  | _, [] => []
  | i, x :: r => ⟨.int .i64 i, wv x, i⟩ :: entL (i + 1) r
theorem entL_len : ∀ (i : Nat) (L : List (Nat × List UInt8)), (entL i L).length = L.length
  | _, [] => rfl
  | i, x :: r => by simp [entL, entL_len (i + 1) r]
theorem entL_append : ∀ (i : Nat) (L : List (Nat × List UInt8)) (x : Nat × List UInt8), entL i (L ++ [x]) = entL i L ++ [⟨.int .i64 ((i + L.length : Nat) : Int), wv x, i + L.length⟩]
  | i, [], x => by simp [entL]
  | i, y :: r, x => by simp [entL, entL_append (i + 1) r x]; omega
theorem entL_get : ∀ (i : Nat) (L : List (Nat × List UInt8)) (n : Nat), (entL i L)[n]? = L[n]?.map fun x => ⟨.int .i64 ((i + n : Nat) : Int), wv x, i + n⟩
  | _, [], _ => by simp [entL]
  | i, x :: r, 0 => by simp [entL]
  | i, x :: r, n + 1 => by simp only [entL, List.getElem?_cons_succ, entL_get (i + 1) r n]; congr 2; funext y; simp; omega
theorem entL_set : ∀ (i : Nat) (L : List (Nat × List UInt8)) (n : Nat) (x : Nat × List UInt8), entL i (L.set n x) = (entL i L).modify n fun e => { e with key := .int .i64 ((i + n : Nat) : Int), val := wv x }
  | _, [], _, _ => by simp [entL]
  | i, y :: r, 0, x => by simp [entL]
  | i, y :: r, n + 1, x => by
    simp only [List.set_cons_succ, entL, List.modify_succ_cons, entL_set (i + 1) r n x]
    congr 3; funext e; simp; omega
theorem find_in : ∀ (L : List (Nat × List UInt8)) (i j n : Nat) (x : Nat × List UInt8), L[n]? = some x → Instr.findNow (.int .i64) (.int .i64 ((i + n : Nat) : Int)) (entL i L) j = some (some (j + n, wv x))
  | [], _, _, _, _, h => by simp at h
  | y :: r, i, j, 0, x, h => by
    simp at h; subst h
    simp [entL, Instr.findNow, Instr.sameNow]
  | y :: r, i, j, n + 1, x, h => by
    simp only [List.getElem?_cons_succ] at h
    have ih := find_in r (i + 1) (j + 1) n x h
    have e : ((i + (n + 1) : Nat) : Int) = ((i + 1 + n : Nat) : Int) := by omega
    have hb : (((i + 1 + n : Nat) : Int) == (i : Int)) = false := by rw [beq_eq_false_iff_ne]; omega
    simp only [entL, Instr.findNow, Instr.sameNow, if_true, e, hb, ih]
    congr 3; omega
theorem find_out : ∀ (L : List (Nat × List UInt8)) (i j : Nat) (k : Int), (k < i ∨ ((i + L.length : Nat) : Int) ≤ k) → Instr.findNow (.int .i64) (.int .i64 k) (entL i L) j = some none
  | [], _, _, _, _ => rfl
  | y :: r, i, j, k, h => by
    have ih := find_out r (i + 1) (j + 1) k (by simp at h; omega)
    have hb : (k == (i : Int)) = false := by rw [beq_eq_false_iff_ne]; simp at h; omega
    simp only [entL, Instr.findNow, Instr.sameNow, if_true, hb, ih]

theorem check_int (w : World) (em : Bool) (k : Int) : (Instr.checkKey em 10000 3 (.int .i64 k)).run Try.prog w = .ok () w := by
  have h : ∀ n, (Instr.checkKey em (n + 1) 3 (.int .i64 k)).run Try.prog w = .ok () w := fun n => by
    simp only [Instr.checkKey, Sem.run_bind, run_underlying Try.underlying3, Result.andThen_ok]
    rfl
  exact h 9999

def zw : Value := .agg (.int .i64 0 :: List.replicate 128 (.int .u8 0)).toArray
theorem zero76 (w : World) : (zeroValue 76).run Try.prog w = .ok zw w := (zero_of_info (n := 129) (by kernel_rfl)).1 w

/-- The loose writes, in block m. -/
def Mp (w : World) (m : Nat) (L : List (Nat × List UInt8)) : Prop := w.heap[m]? = some (.map (entL 0 L).toArray L.length)

theorem look_in {w : World} {m : Nat} {L : List (Nat × List UInt8)} (h : Mp w m L) (n : Nat) (x : Nat × List UInt8) (hx : L[n]? = some x) (ok : Bool) :
    (Instr.lookup 65 (.map (some m)) (.int .i64 n) ok).run Try.prog w = .ok (if ok then .tuple #[wv x, .bool true] else wv x) w := by
  have hf := find_in L 0 0 n x hx
  rw [Nat.zero_add] at hf
  have hn : Instr.findKey 3 (.int .i64 (n : Int)) (entL 0 L) = (do
      match Instr.findNow (← underlying 3) (.int .i64 (n : Int)) (entL 0 L) 0 with
      | some r => pure r
      | none => Instr.findAsking 3 (.int .i64 (n : Int)) (entL 0 L)) := rfl
  simp only [Instr.lookup, Sem.run_bind, run_underlying Try.underlying65, Result.andThen_ok, MapKept.run_getObj_map h, Sem.run_pure, check_int, hn, run_underlying Try.underlying3, hf]
theorem look_out {w : World} {m : Nat} {L : List (Nat × List UInt8)} (h : Mp w m L) (k : Int) (hk : k < 0 ∨ (L.length : Int) ≤ k) :
    (Instr.lookup 65 (.map (some m)) (.int .i64 k) true).run Try.prog w = .ok (.tuple #[zw, .bool false]) w := by
  have hf := find_out L 0 0 k (by simpa using hk)
  have hn : Instr.findKey 3 (.int .i64 k) (entL 0 L) = (do
      match Instr.findNow (← underlying 3) (.int .i64 k) (entL 0 L) 0 with
      | some r => pure r
      | none => Instr.findAsking 3 (.int .i64 k) (entL 0 L)) := rfl
  simp only [Instr.lookup, Sem.run_bind, run_underlying Try.underlying65, Result.andThen_ok, MapKept.run_getObj_map h, Sem.run_pure, check_int, hn, run_underlying Try.underlying3, hf, zero76]
  try rfl

theorem len_map {w : World} {m : Nat} {L : List (Nat × List UInt8)} (h : Mp w m L) (ty : TypeId) : (Builtin.len_ #[65] ty #[.map (some m)]).run Try.prog w = .ok (.int .i64 L.length) w := by
  simp [Builtin.len_, run_underlying Try.underlying65, MapKept.run_getObj_map h, goInt, Result.andThen, entL_len]

def reMap (w : World) (m : Nat) (L : List (Nat × List UInt8)) : World := { w with heap := w.heap.setIfInBounds m (.map (entL 0 L).toArray L.length) }
theorem reMap_at {w : World} {m : Nat} {o : Obj} (h : w.heap[m]? = some o) (L : List (Nat × List UInt8)) : Mp (reMap w m L) m L := by
  have := heap_lt h
  simp [Mp, reMap, this]
theorem Fr.reMap (w : World) (m : Nat) (L : List (Nat × List UInt8)) : Fr [m] w (reMap w m L) :=
  ⟨rfl, rfl, rfl, by simp [Go.Proofs.Ytkfomolglangdaa.reMap], fun k _ hk => by
    have : m ≠ k := fun e => hk (by simp [e])
    simp [Go.Proofs.Ytkfomolglangdaa.reMap, this]⟩

theorem put_new {w : World} {m : Nat} {L : List (Nat × List UInt8)} (h : Mp w m L) (x : Nat × List UInt8) :
    (Instr.mapUpdate 65 (.map (some m)) (.int .i64 L.length) (wv x)).run Try.prog w = .ok () (reMap w m (L ++ [x])) := by
  have hf := find_out L 0 0 (L.length : Int) (by simp)
  have hn : Instr.findKey 3 (.int .i64 (L.length : Int)) (entL 0 L) = (do
      match Instr.findNow (← underlying 3) (.int .i64 (L.length : Int)) (entL 0 L) 0 with
      | some r => pure r
      | none => Instr.findAsking 3 (.int .i64 (L.length : Int)) (entL 0 L)) := rfl
  simp only [Instr.mapUpdate, Sem.run_bind, run_underlying Try.underlying65, Result.andThen_ok, MapKept.run_getObj_map h, Sem.run_pure, check_int, hn, run_underlying Try.underlying3, hf, MapKept.run_setObj_map _ h]
  simp [reMap, entL_append]

theorem stays_int (w : World) (k : Int) : (Instr.keyThatStays (.int .i64 k) (.int .i64 k)).run Try.prog w = .ok (.int .i64 k) w := by
  have h : ∀ n, Instr.sameBits n (.int .i64 k) (.int .i64 k) = true := fun n => by cases n <;> simp [Instr.sameBits]
  simp only [Instr.keyThatStays, h, if_true, Sem.run_pure]

theorem put_old {w : World} {m : Nat} {L : List (Nat × List UInt8)} (h : Mp w m L) (n : Nat) (hnl : n < L.length) (x : Nat × List UInt8) :
    (Instr.mapUpdate 65 (.map (some m)) (.int .i64 n) (wv x)).run Try.prog w = .ok () (reMap w m (L.set n x)) := by
  obtain ⟨y, hy⟩ : ∃ y, L[n]? = some y := ⟨_, List.getElem?_eq_getElem hnl⟩
  have hf := find_in L 0 0 n y hy
  rw [Nat.zero_add] at hf
  have hn : Instr.findKey 3 (.int .i64 (n : Int)) (entL 0 L) = (do
      match Instr.findNow (← underlying 3) (.int .i64 (n : Int)) (entL 0 L) 0 with
      | some r => pure r
      | none => Instr.findAsking 3 (.int .i64 (n : Int)) (entL 0 L)) := rfl
  have he : (((entL 0 L).toArray[n]?).map (·.key)).getD (.int .i64 (n : Int)) = .int .i64 (n : Int) := by
    rw [List.getElem?_toArray, entL_get, hy]; simp
  simp only [Instr.mapUpdate, Sem.run_bind, run_underlying Try.underlying65, Result.andThen_ok, MapKept.run_getObj_map h, Sem.run_pure, check_int, hn, run_underlying Try.underlying3, hf, he, stays_int, MapKept.run_setObj_map _ h]
  have e1 : (entL 0 L).toArray.modify n (fun e => { e with key := .int .i64 (n : Int), val := wv x }) = (entL 0 (L.set n x)).toArray := by
    rw [entL_set, Nat.zero_add]; simp
  rw [e1]
  simp [reMap]

theorem zv70 (w : World) : (zeroValue 70).run Try.prog w = .ok (.agg Try.zeroCells70) w := (zero_of_info (n := 128) (by kernel_rfl)).1 w
theorem zv76 (w : World) : (zeroValue 76).run Try.prog w = .ok (.agg Try.zeroCells76) w := (zero_of_info (n := 129) (by kernel_rfl)).1 w
theorem alloc70 (w : World) : (Instr.alloc 70 true (.tuple #[])).run Try.prog w = .ok (.pointer (some ⟨w.heap.size, 0, none⟩)) (w.alloc (.cells Try.zeroCells70 70)) := by
  simp only [Instr.alloc, Sem.run_bind, zv70, Result.andThen_ok]
  rfl
theorem alloc76 (w : World) : (Instr.alloc 76 true (.tuple #[])).run Try.prog w = .ok (.pointer (some ⟨w.heap.size, 0, none⟩)) (w.alloc (.cells Try.zeroCells76 76)) := by
  simp only [Instr.alloc, Sem.run_bind, zv76, Result.andThen_ok]
  rfl
theorem zc70 : Try.zeroCells70.size = 128 := by kernel_rfl
theorem zc76 : Try.zeroCells76.size = 129 := by kernel_rfl
/-- A sector's or a write's cells are stored over a new block. -/
theorem store_new (P : Program) (w : World) (t : TypeId) (k : Nat) (hz : (P.info? t).map (·.size) = some k) (c : Array Value) (cs : List Value) (hc : c.size = k) (hk : cs.length = k) (h1 : ∀ v ∈ cs, v.oneCell' = true) :
    (Instr.storeAt t (.pointer (some ⟨w.heap.size, 0, none⟩)) (.agg cs.toArray)).run P (w.alloc (.cells c t)) = .ok () (w.alloc (.cells cs.toArray t)) :=
  run_storeAt_new w t c cs.toArray (by rw [hz]; simp [hk]) (by simp [hc, hk]) (by simpa using h1)
end Go.Proofs.Ytkfomolglangdaa
