/- Arrays of numbers in memory: loads, stores and places, each by its run. -/
import Derived.Test.YtcjhimakbopipaaDoorMHeld
namespace Go.Proofs.YtcjhimakbopipaaDoor
open Go Go.RowKit

theorem cs32_size (l : List Nat) : (cs32 l).size = l.length := by simp [cs32]
theorem cs32_get (l : List Nat) (k : Nat) (h : k < l.length) : (cs32 l)[k]? = some (.int .u32 (l.getD k 0 : Nat)) := by
  simp [cs32, List.getD, h, c32]
theorem cs32_one (l : List Nat) : ∀ v ∈ l.map c32, v.oneCell' = true := by
  intro v hv
  obtain ⟨_, _, rfl⟩ := List.mem_map.1 hv
  rfl
/-- An array of numbers lies in block b. -/
def Ar (w : World) (b : Nat) (t : TypeId) (l : List Nat) : Prop := w.heap[b]? = some (.cells (cs32 l) t (0, 0))
theorem Ar.lt {w : World} {b : Nat} {t : TypeId} {l : List Nat} (h : Ar w b t l) : b < w.heap.size := heap_lt h
theorem Ar.below {B : Nat} {w w' : World} {b : Nat} {t : TypeId} {l : List Nat} (h : Ar w b t l) (hB : Below B w w') (hb : b < B) : Ar w' b t l := (hB.block b hb).trans h
theorem Ar.cell {w : World} {b : Nat} {t : TypeId} {l : List Nat} (h : Ar w b t l) (k : Nat) (hk : k < l.length) : w.cell? ⟨b, k, none⟩ = some (.int .u32 (l.getD k 0 : Nat)) :=
  cell_at h k (cs32_get l k hk)
theorem Ar.drew {w : World} {b : Nat} {t : TypeId} {l : List Nat} (h : Ar w b t l) : Ar w.drew b t l := h

theorem under38 : Tryd.prog.underlying 38 = some (.array 64 37) := by kernel_rfl
theorem size38 : (Tryd.prog.info? 38).map (·.size) = some 64 := by kernel_rfl
theorem agg48 (w : World) : (isAgg 48).run Tryd.prog w = .ok true w := by simp [isAgg, run_underlying under48]
theorem agg38 (w : World) : (isAgg 38).run Tryd.prog w = .ok true w := by simp [isAgg, run_underlying under38]

theorem load48 {w : World} {b : Nat} {l : List Nat} (hl : l.length = 8) (h : Ar w b 48 l) : (Instr.loadAt 48 (.pointer (some ⟨b, 0, none⟩))).run Tryd.prog w = .ok (V32 l) w :=
  loadAt_k agg48 size48 w b 0 (cs32 l) _ (0, 0) (l.map c32) (by simpa using hl) h (fun j v hv => by simpa [cs32] using hv)
theorem load38 {w : World} {b : Nat} {l : List Nat} (hl : l.length = 64) (h : Ar w b 38 l) : (Instr.loadAt 38 (.pointer (some ⟨b, 0, none⟩))).run Tryd.prog w = .ok (V32 l) w :=
  loadAt_k agg38 size38 w b 0 (cs32 l) _ (0, 0) (l.map c32) (by simpa using hl) h (fun j v hv => by simpa [cs32] using hv)
theorem load37 {w : World} {b k : Nat} {x : Nat} (h : w.cell? ⟨b, k, none⟩ = some (.int .u32 x)) : (Instr.loadAt 37 (.pointer (some ⟨b, k, none⟩))).run Tryd.prog w = .ok (.int .u32 x) w := by go_simp
theorem store48 {w : World} {b : Nat} {l l' : List Nat} (hl : l.length = 8) (hl' : l'.length = 8) (h : Ar w b 48 l) : (Instr.storeAt 48 (.pointer (some ⟨b, 0, none⟩)) (V32 l')).run Tryd.prog w = .ok () (w.setRow b (cs32 l')) := by
  simp only [Instr.storeAt, Instr.sureAddr, Sem.run_bind, Sem.run_pure, Result.andThen]
  exact run_storeVar_row w b _ _ (cs32 l) (cs32 l') h (by rw [cs32_size, hl']; exact size48) (by rw [cs32_size, cs32_size, hl, hl']) (by simp [cs32]; intro x _; rfl)
theorem store38 {w : World} {b : Nat} {l l' : List Nat} (hl : l.length = 64) (hl' : l'.length = 64) (h : Ar w b 38 l) : (Instr.storeAt 38 (.pointer (some ⟨b, 0, none⟩)) (V32 l')).run Tryd.prog w = .ok () (w.setRow b (cs32 l')) := by
  simp only [Instr.storeAt, Instr.sureAddr, Sem.run_bind, Sem.run_pure, Result.andThen]
  exact run_storeVar_row w b _ _ (cs32 l) (cs32 l') h (by rw [cs32_size, hl']; exact size38) (by rw [cs32_size, cs32_size, hl, hl']) (by simp [cs32]; intro x _; rfl)
theorem Ar.row {w : World} {b : Nat} {t : TypeId} {l : List Nat} (h : Ar w b t l) (l' : List Nat) : Ar (w.setRow b (cs32 l')) b t l' := setRow_heap w b _ _ t _ h
theorem Ar.other {w : World} {b : Nat} {t : TypeId} {l : List Nat} (h : Ar w b t l) {b' : Nat} (hb : b ≠ b') (c : Array Value) : Ar (w.setRow b' c) b t l := (setRow_other w b' b c hb).trans h
theorem cs32_set (l : List Nat) (k x : Nat) : (cs32 l).setIfInBounds k (.int .u32 x) = cs32 (l.set k x) := by
  simp [cs32, List.map_set, c32]
theorem Ar.set {w : World} {b : Nat} {t : TypeId} {l : List Nat} (h : Ar w b t l) (k x : Nat) : Ar (w.setCell ⟨b, k, none⟩ (.int .u32 x)) b t (l.set k x) := by
  unfold Ar; rw [heap_setCell h, cs32_set]
theorem store37 {w : World} {b k : Nat} {t : TypeId} {l : List Nat} (h : Ar w b t l) (hk : k < l.length) (x : Nat) : (Instr.storeAt 37 (.pointer (some ⟨b, k, none⟩)) (.int .u32 x)).run Tryd.prog w = .ok () (w.setCell ⟨b, k, none⟩ (.int .u32 x)) := by
  have hc := h.cell k hk
  have hf := open_at h k
  go_simp
theorem idx38 (b k : Nat) (h : k < 64) (w : World) : (Instr.indexAt 38 (.pointer (some ⟨b, 0, none⟩)) (.int .i64 k)).run Tryd.prog w = .ok (.pointer (some ⟨b, k, none⟩)) w := by
  have h1 : (k : Int) < 64 := by omega
  go_simp
theorem idx48 (b k : Nat) (h : k < 8) (w : World) : (Instr.indexAt 48 (.pointer (some ⟨b, 0, none⟩)) (.int .i64 k)).run Tryd.prog w = .ok (.pointer (some ⟨b, k, none⟩)) w := by
  have h1 : (k : Int) < 8 := by omega
  go_simp
theorem add37 (x y : Nat) (w : World) : (binOp .add 37 (.int .u32 x) (.int .u32 y)).run Tryd.prog w = .ok (.int .u32 (pl x y : Nat)) w := by
  have h := wrap_pl x y
  generalize pl x y = z at *
  go_simp
/-- The program's two arrays lie where it lays them. -/
def Glob (w : World) : Prop := (∀ k, k < 8 → w.cell? ⟨0, k, none⟩ = some (.int .u32 (h0s.getD k 0 : Nat))) ∧ (∀ k, k < 64 → w.cell? ⟨1, k, none⟩ = some (.int .u32 (kts.getD k 0 : Nat)))
theorem Glob.below {B : Nat} {w w' : World} (h : Glob w) (hB : Below B w w') (hb : w.heap.size ≤ B) : Glob w' :=
  ⟨fun k hk => by
    rw [hB.cell (p := ⟨0, k, none⟩) (Nat.lt_of_lt_of_le (World.block_lt_of_cell? w _ (h.1 k hk)) hb)]; exact h.1 k hk,
  fun k hk => by
    rw [hB.cell (p := ⟨1, k, none⟩) (Nat.lt_of_lt_of_le (World.block_lt_of_cell? w _ (h.2 k hk)) hb)]; exact h.2 k hk⟩
theorem loadG {w : World} (h : Glob w) : (Instr.loadAt 48 (.pointer (some ⟨0, 0, none⟩))).run Tryd.prog w = .ok (V32 h0s) w := by
  have hc : (loadCellsFrom ⟨0, 0, none⟩ 0 8 #[]).run Tryd.prog w = .ok (h0s.map c32).toArray w := by
    have := run_loadCells_list (P := Tryd.prog) w ⟨0, 0, none⟩ (h0s.map c32) (fun j v hv => by
      have hj : j < 8 := by have := (List.getElem?_eq_some_iff.1 hv).1; rw [List.length_map] at this; exact this
      rw [add_lit, Nat.zero_add, h.1 j hj]
      have hj' : j < h0s.length := hj
      rw [List.getElem?_map, List.getElem?_eq_getElem hj', Option.map_some, Option.some.injEq] at hv
      rw [← hv]
      simp [List.getD, hj', c32])
    rw [loadCells, List.length_map] at this; exact this
  simp only [Instr.loadAt, Instr.sureAddr, Sem.run_bind, Sem.run_pure, Result.andThen, loadVar, agg48, run_size size48, loadCells, hc, if_true]
  rfl
end Go.Proofs.YtcjhimakbopipaaDoor
