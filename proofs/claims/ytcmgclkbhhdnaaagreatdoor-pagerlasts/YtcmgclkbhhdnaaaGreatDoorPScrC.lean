/- the text PScr -/
import Derived.Test.YtcmgclkbhhdnaaaGreatDoorPDoesC
namespace Go.Proofs.YtcmgclkbhhdnaaaGreatDoor
open Go Go.RowKit

theorem idx22 (b o n cap k : Nat) (h : k < n) (w : World) : (Instr.indexAt 22 (.slice (some ⟨b, o, none⟩) n cap) (.int .i64 k)).run Tryz.prog w = .ok (.pointer (some ⟨b, o + k * 3, none⟩)) w := by
  go_simp
theorem fg32_0 (b o : Nat) (w : World) : (Instr.fieldAt 32 (.pointer (some ⟨b, o, none⟩)) 0).run Tryz.prog w = .ok (.pointer (some ⟨b, o, none⟩)) w := by go_simp
theorem zero32 (w : World) : (zeroValue 32).run Tryz.prog w = .ok (.agg #[.int .i64 0, .int .i64 0, .int .u8 0]) w := by go_simp
theorem size32 : (Tryz.prog.info? 32).map (·.size) = some 3 := by kernel_rfl
/-- What the loops lay of a script's call: a variable of its own, then its kind. -/
theorem scr_any (w : World) (kd pg k2 : Int) (v : UInt8) : ∃ g wa wb wc, (Instr.alloc 32 true (.tuple #[])).run Tryz.prog w = .ok (.pointer (some ⟨g, 0, none⟩)) wa ∧
    (Instr.storeAt 32 (.pointer (some ⟨g, 0, none⟩)) (.agg #[.int .i64 kd, .int .i64 pg, cb v])).run Tryz.prog wa = .ok () wb ∧
    (Instr.loadAt 3 (.pointer (some ⟨g, 0, none⟩))).run Tryz.prog wb = .ok (.int .i64 kd) wb ∧
    (Instr.storeAt 3 (.pointer (some ⟨g, 0, none⟩)) (.int .i64 k2)).run Tryz.prog wb = .ok () wc ∧
    (Instr.loadAt 32 (.pointer (some ⟨g, 0, none⟩))).run Tryz.prog wc = .ok (.agg #[.int .i64 k2, .int .i64 pg, cb v]) wc ∧ Below w.heap.size w wb ∧ Below w.heap.size w wc := by
  have h1 : (Instr.alloc 32 true (.tuple #[])).run Tryz.prog w = .ok (.pointer (some ⟨w.heap.size, 0, none⟩)) (w.alloc (.cells #[.int .i64 0, .int .i64 0, .int .u8 0] 32)) := alloc_agg zero32 w
  have hB1 : Below w.heap.size w (w.alloc (.cells #[.int .i64 0, .int .i64 0, .int .u8 0] 32)) := (Below.refl _ _).alloc (Nat.le_refl _) _
  have hS1 : (w.alloc (.cells #[.int .i64 0, .int .i64 0, .int .u8 0] 32)).heap[w.heap.size]? = some (.cells #[.int .i64 0, .int .i64 0, .int .u8 0] 32 (0, 0)) := heap_alloc_last w _
  generalize w.alloc (.cells #[.int .i64 0, .int .i64 0, .int .u8 0] 32) = wa at *
  have h2 : (Instr.storeAt 32 (.pointer (some ⟨w.heap.size, 0, none⟩)) (.agg #[.int .i64 kd, .int .i64 pg, cb v])).run Tryz.prog wa = .ok () (wa.setRow w.heap.size #[.int .i64 kd, .int .i64 pg, cb v]) :=
    storeAt_all size32 rfl rfl hS1 (by intro u hu; simp at hu; rcases hu with rfl | rfl | rfl <;> rfl)
  have hF2 := Fr.setRow wa w.heap.size #[.int .i64 kd, .int .i64 pg, cb v]
  have hS2 : (wa.setRow w.heap.size #[.int .i64 kd, .int .i64 pg, cb v]).heap[w.heap.size]? = some (.cells #[.int .i64 kd, .int .i64 pg, cb v] 32 (0, 0)) := setRow_heap wa _ _ _ _ _ hS1
  generalize wa.setRow w.heap.size #[.int .i64 kd, .int .i64 pg, cb v] = wb at *
  have hB2 : Below w.heap.size w wb := hB1.trans (hF2.below hB1.size (by simp))
  have h3 := store1 Tryz.sizeOf3 (.int .i64 k2) rfl rfl (cell_at hS2 0 rfl) (open_at hS2 0)
  have hF3 := Fr.setCell wb w.heap.size 0 (.int .i64 k2)
  have hS3 := heap_setCell hS2 0 (.int .i64 k2)
  exact ⟨_, _, wb, _, h1, h2, load1 Tryz.isAgg3 (cell_at hS2 0 rfl), h3, load32 (cell_at hS3 0 rfl) (cell_at hS3 1 rfl) (cell_at hS3 2 rfl), hB2, hB2.trans (hF3.below hB2.size (by simp))⟩
theorem byte_of {z : Int} (h : 0 ≤ z ∧ z ≤ 255) : ∃ v : UInt8, z = (v.toNat : Int) := ⟨UInt8.ofNat z.toNat, by rw [UInt8.toNat_ofNat']; omega⟩
theorem pk_id {k n : Nat} (h : k < n) : pk (k : Int) n = k := by
  unfold pk
  rw [if_neg (by omega), Int.emod_eq_of_lt (by omega) (by omega)]
  omega
/-- What a loop of calls holds. -/
def Pl (W : World) (B n L : Nat) (i : Nat) (p j d r : Nat) (w : World) : Prop :=
  ∃ s sq bl cur was rt ww, Bo (fun _ => False) B w p j d r s sq bl cur was rt ww was ww ∧ s.n = n ∧ s.cut = -1 ∧ s.ops ≤ 700 + 400 * (i : Int) ∧ sq ≤ 1 + i ∧ cur.length = L ∧ Below B W w
theorem pgOf_le {n : Nat} (h0 : 32 ≤ n) (h1 : n ≤ 331) : 1 ≤ pgOf n ∧ nbOf n ≤ 170 := by
  unfold pgOf nbOf
  omega
end Go.Proofs.YtcmgclkbhhdnaaaGreatDoor
