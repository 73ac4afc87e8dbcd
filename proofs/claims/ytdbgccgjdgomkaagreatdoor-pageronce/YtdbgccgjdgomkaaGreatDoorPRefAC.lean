/- The reference's pager in memory: its Begun. -/
import Derived.Test.YtdbgccgjdgomkaaGreatDoorPView2C
namespace Go.Proofs.YtdbgccgjdgomkaaGreatDoor
open Go Go.RowKit

/-- A state of the reference as a value. -/
def Rs (v : Value) (rt : Int) : Value := .agg #[v, .int .i64 rt]
theorem fg93_0 (b o : Nat) (w : World) : (Instr.fieldAt 93 (.pointer (some ⟨b, o, none⟩)) 0).run Tryz.prog w = .ok (.pointer (some ⟨b, o, none⟩)) w := by go_simp
theorem fg93_1 (b o : Nat) (w : World) : (Instr.fieldAt 93 (.pointer (some ⟨b, o, none⟩)) 1).run Tryz.prog w = .ok (.pointer (some ⟨b, o + 1, none⟩)) w := by go_simp
theorem fa95_0 (b : Nat) (w : World) : (Instr.fieldAt 95 (.pointer (some ⟨b, 0, none⟩)) 0).run Tryz.prog w = .ok (.pointer (some ⟨b, 0, none⟩)) w := by go_simp
theorem fa95_1 (b : Nat) (w : World) : (Instr.fieldAt 95 (.pointer (some ⟨b, 0, none⟩)) 1).run Tryz.prog w = .ok (.pointer (some ⟨b, 2, none⟩)) w := by go_simp
theorem fa95_2 (b : Nat) (w : World) : (Instr.fieldAt 95 (.pointer (some ⟨b, 0, none⟩)) 2).run Tryz.prog w = .ok (.pointer (some ⟨b, 4, none⟩)) w := by go_simp
theorem rbuild93 (a : Option Addr) (n c : Nat) (rt : Int) (w : World) : (Instr.build 93 #[(0, .slice a n c), (1, .int .i64 rt)]).run Tryz.prog w = .ok (Rs (.slice a n c) rt) w := by unfold Rs; go_simp
theorem rbuild95 (a : Option Addr) (n c : Nat) (rt : Int) (w : World) : (Instr.build 95 #[(0, Rs (.slice a n c) rt)]).run Tryz.prog w = .ok (.agg #[.slice a n c, .int .i64 rt, .slice none 0 0, .int .i64 0, .bool false]) w := by unfold Rs; go_simp
theorem size93 : (Tryz.prog.info? 93).map (·.size) = some 2 := by kernel_rfl
theorem zero93 (w : World) : (zeroValue 93).run Tryz.prog w = .ok (.agg #[.slice none 0 0, .int .i64 0]) w := by go_simp
theorem ralloc93 (w : World) : (Instr.alloc 93 true (.tuple #[])).run Tryz.prog w = .ok (.pointer (some ⟨w.heap.size, 0, none⟩)) (w.alloc (.cells #[.slice none 0 0, .int .i64 0] 93)) := alloc_agg zero93 w
theorem rbox93 (w : World) (v : Value) (rt : Int) : (Instr.box 93 (Rs v rt)).run Tryz.prog w = .ok (.pointer (some ⟨w.heap.size, 0, none⟩)) (w.alloc (.cells #[v, .int .i64 rt] 93)) := box_agg _ w _
theorem rbox95 (w : World) (a b c d e : Value) : (Instr.box 95 (.agg #[a, b, c, d, e])).run Tryz.prog w = .ok (.pointer (some ⟨w.heap.size, 0, none⟩)) (w.alloc (.cells #[a, b, c, d, e] 95)) := box_agg _ w _
theorem rload93 {w : World} {g o : Nat} {v : Value} {rt : Int} (h0 : w.cell? ⟨g, o, none⟩ = some v) (h1 : w.cell? ⟨g, o + 1, none⟩ = some (.int .i64 rt)) : (Instr.loadAt 93 (.pointer (some ⟨g, o, none⟩))).run Tryz.prog w = .ok (Rs v rt) w := by
  have hc := run_loadCells_list (P := Tryz.prog) w ⟨g, o, none⟩ [v, .int .i64 rt] (fun j x hx => by
    match j, hx with
    | 0, hx => cases hx; rw [add_lit]; exact h0
    | 1, hx => cases hx; rw [add_lit]; exact h1)
  unfold Rs
  simp only [Instr.loadAt, Instr.sureAddr, Sem.run_bind, Sem.run_pure, Result.andThen, loadVar, Tryz.isAgg93, run_size size93, show 2 = [v, Value.int .i64 rt].length from rfl, hc, if_true]
/-- A row of pointers. -/
theorem infoP : (Tryz.prog.info? 148).map (fun i => (i.zero, i.size, i.bytes)) = some (some (.pointer none), 1, 8) := by kernel_rfl
end Go.Proofs.YtdbgccgjdgomkaaGreatDoor
