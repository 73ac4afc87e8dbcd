/- The document's Sum. -/
import Derived.Test.YtcjhimakbopipaaDoorMRefW
namespace Go.Proofs.YtcjhimakbopipaaDoor
open Go Go.RowKit

theorem under40 : Tryd.prog.underlying 40 = some (.array 8 37) := by kernel_rfl
theorem size40 : (Tryd.prog.info? 40).map (·.size) = some 8 := by kernel_rfl
theorem agg40 (w : World) : (isAgg 40).run Tryd.prog w = .ok true w := by simp [isAgg, run_underlying under40]
theorem load40 {w : World} {b : Nat} {l : List Nat} (hl : l.length = 8) (h : Ar w b 40 l) : (Instr.loadAt 40 (.pointer (some ⟨b, 0, none⟩))).run Tryd.prog w = .ok (V32 l) w :=
  loadAt_k agg40 size40 w b 0 (cs32 l) _ (0, 0) (l.map c32) (by simpa using hl) h (fun j v hv => by simpa [cs32] using hv)
theorem store40 {w : World} {b : Nat} {l l' : List Nat} (hl : l.length = 8) (hl' : l'.length = 8) (h : Ar w b 40 l) : (Instr.storeAt 40 (.pointer (some ⟨b, 0, none⟩)) (V32 l')).run Tryd.prog w = .ok () (w.setRow b (cs32 l')) := by
  simp only [Instr.storeAt, Instr.sureAddr, Sem.run_bind, Sem.run_pure, Result.andThen]
  exact run_storeVar_row w b _ _ (cs32 l) (cs32 l') h (by rw [cs32_size, hl']; exact size40) (by rw [cs32_size, cs32_size, hl, hl']) (by simp [cs32]; intro x _; rfl)
theorem idx40 (b k : Nat) (h : k < 8) (w : World) : (Instr.indexAt 40 (.pointer (some ⟨b, 0, none⟩)) (.int .i64 k)).run Tryd.prog w = .ok (.pointer (some ⟨b, k, none⟩)) w := by
  have h1 : (k : Int) < 8 := by omega
  go_simp
theorem z8_len : z8.length = 8 := rfl
theorem alloc40 (w : World) : (Instr.alloc 40 true (.tuple #[])).run Tryd.prog w = .ok (.pointer (some ⟨w.heap.size, 0, none⟩)) (w.alloc (.cells (cs32 z8) 40)) := by
  have hz : (zeroValue 40).run Tryd.prog w = .ok (.agg (cs32 z8)) w := (zero_of_info (n := 8) (by kernel_rfl)).1 w
  simp only [Instr.alloc, Sem.run_bind, hz, Result.andThen_ok]
  rfl
theorem and37 (x y : Nat) (hx : x < 4294967296) (hy : y < 4294967296) (w : World) : (binOp .and 37 (.int .u32 x) (.int .u32 y)).run Tryd.prog w = .ok (.int .u32 (x &&& y : Nat)) w := by
  have h1 := u32_and_nat x y hx hy
  generalize x &&& y = q at *
  go_simp
theorem not37 (x : Nat) (hx : x < 4294967296) (w : World) : (Op.unary .xor (.int .u32 x)).run Tryd.prog w = .ok (.int .u32 (nt x : Nat)) w := by
  have h1 := not_u32 x hx
  have h2 := u32_max
  have h3 := u32_sig
  generalize nt x = q at *
  go_simp
theorem build40 (x0 x1 x2 x3 x4 x5 x6 x7 : Nat) (w : World) : (Instr.build 40 #[(0, .int .u32 x0), (1, .int .u32 x1), (2, .int .u32 x2), (3, .int .u32 x3), (4, .int .u32 x4), (5, .int .u32 x5), (6, .int .u32 x6), (7, .int .u32 x7)]).run Tryd.prog w = .ok (V32 [x0, x1, x2, x3, x4, x5, x6, x7]) w := by
  show _ = Result.ok (Value.agg #[.int .u32 x0, .int .u32 x1, .int .u32 x2, .int .u32 x3, .int .u32 x4, .int .u32 x5, .int .u32 x6, .int .u32 x7]) w
  go_simp
theorem run_buildOp {o : Oper} {a : Act} {w w1 : World} {t : TypeId} {ps : Array (Nat × Operand)} {xs : Array (Nat × Value)} {v : Value} (hop : o.op = .build t ps) (hp : (ps.map fun (i, x) => (i, a.eval x)) = xs) (hr : (Instr.build t xs).run Tryd.prog w = .ok v w1) :
    (execOp a.eval o).run Tryd.prog w = .ok (.value v) w1 := by
  unfold execOp; rw [hop]; simp only [hp, Sem.run_bind, hr, Result.andThen_ok]; rfl
theorem sliceB (pb k n cp : Nat) (h : 64 * k + 64 ≤ n) (hc : n ≤ cp) (w : World) : (Instr.sliceAt 25 (.slice (some ⟨pb, 0, none⟩) n cp) (some (.int .i64 (64 * k : Nat))) (some (.int .i64 (64 * k + 64 : Nat))) none).run Tryd.prog w = .ok (.slice (some ⟨pb, 64 * k, none⟩) 64 (cp - 64 * k)) w := by
  have h1 : 64 * k ≤ 64 * k + 64 := by omega
  have h2 : 64 * k + 64 ≤ cp := by omega
  have e1 : 64 * k + 64 - 64 * k = 64 := by omega
  generalize hm : 64 * k + 64 = m at *
  generalize 64 * k = q at *
  have h3 : q ≤ cp := by omega
  have h4 : cp = q → 0 = q := by omega
  go_simp
  exact h4
theorem refConst_any (w : World) : Calls Tryd.prog 21 #[] w fun r w' => r = .returned (V32 kts) ∧ Below w.heap.size w w' := by
  have a1 : Ar (w.alloc (.cells (cs32 z64) 38)) w.heap.size 38 z64 := heap_alloc_last w _
  have hB := (Below.refl w.heap.size w).alloc (Nat.le_refl _) (.cells (cs32 z64) 38)
  have HA := hidM a1
  have HB := hidM hB
  clear a1 hB
  go_enter Tryd.func21, Tryd.ntmps21
  go_upto_region 0 with fail
  refine wp_region_lit ?_
  refine wp_alloc (alloc38 _) ?_
  dsimp only [Act.put]
  refine wp_end ?_
  go_upto_region 1 with fail
  refine wp_region_lit ?_
  refine wp_run (w' := w.alloc (.cells (cs32 z64) 38)) (v := V32 kts) rfl rfl (by kernel_rfl) rfl ?_
  refine wp_do rfl rfl (run_storeOp rfl (by kernel_rfl) (by kernel_rfl) (store38 z64_len kts_len HA.out)) ?_
  refine wp_end ?_
  rename_i hkr
  refine hkr _ _ (wp_ret ?_)
  change bodyPost Tryd.prog Tryd.f21 _ .ret _ _
  refine ret_arr rfl rfl (by kernel_rfl) (HA.out.row kts) under38 (by rw [cs32_size, kts_len]; exact size38) ⟨rfl, below_setRow HB.out (Nat.le_refl _) _⟩
theorem turn_ref (a b c d e f g h k w : Nat) : [pl (pl (pl (pl (pl h (sa1 e)) (cho e f g)) k) w) (pl (sa0 a) (maj a b c)), a, b, c, pl d (pl (pl (pl (pl h (sa1 e)) (cho e f g)) k) w), e, f, g] = turn [a, b, c, d, e, f, g, h] (pl k w) := by
  simp only [turn, pl_assoc]
end Go.Proofs.YtcjhimakbopipaaDoor
