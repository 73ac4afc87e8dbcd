/- the text ZMarks -/
import Derived.Test.YtommhgmlblecnaaGreatDoorZPureBC
import Derived.Test.DevTool
import Derived.Test.YtommhgmlblecnaaGreatDoorYGf
namespace Go.Proofs.YtommhgmlblecnaaGreatDoor
open Go Go.RowKit

def mkK (k : Int) : List UInt8 := marksL.getD ((k.tmod 5 + 5).tmod 5).toNat []
theorem rem5 (k : Int) : ∃ r : Nat, r < 5 ∧ (k.tmod 5 + 5).tmod 5 = r := by
  have h1 : -5 < k.tmod 5 := by have := Int.lt_tmod_of_pos k (show (0 : Int) < 5 by decide); omega
  have h2 : k.tmod 5 < 5 := Int.tmod_lt_of_pos k (by decide)
  have h3 : 0 ≤ (k.tmod 5 + 5).tmod 5 := Int.tmod_nonneg _ (by omega)
  have h4 : (k.tmod 5 + 5).tmod 5 < 5 := Int.tmod_lt_of_pos _ (by decide)
  exact ⟨((k.tmod 5 + 5).tmod 5).toNat, by omega, by omega⟩
theorem mkK_mem (k : Int) : mkK k ∈ marksL := by
  obtain ⟨r, hr, e⟩ := rem5 k
  unfold mkK
  rw [e, Int.toNat_natCast]
  have : ∀ n : Fin 5, marksL.getD n.1 [] ∈ marksL := by decide
  exact this ⟨r, hr⟩
theorem idxSs (b n cap k : Nat) (h : k < n) (w : World) : (Instr.indexAt 48 (.slice (some ⟨b, 0, none⟩) n cap) (.int .i64 k)).run Tryz.prog w = .ok (.pointer (some ⟨b, k, none⟩)) w := by go_simp
set_option maxRecDepth 100000 in
set_option maxHeartbeats 2000000 in
seal rn Goes ans atEnd put0 putM opened putA0 oneSt st0 in
theorem marks_any (k : Int) (w : World) : Calls Tryz.prog 14 #[.int .i64 k] w fun e w' => e = .returned (strV (mkK k)) ∧ Below w.heap.size w w' := by
  refine Goes.begin Tryz.func14 [] (fun _ => True) (fun j b o h => by cases h) (by simp [Mem.ids]) (fun _ _ => trivial) ?_
  refine Goes.run1 [] [] trivial fun g => ?_
  obtain ⟨r, hr, e⟩ := rem5 k
  have hw : IntKind.i64.wrap (k.tmod 5 + 5) = k.tmod 5 + 5 := by
    have h1 : -5 < k.tmod 5 := by have := Int.lt_tmod_of_pos k (show (0 : Int) < 5 by decide); omega
    have h2 : k.tmod 5 < 5 := Int.tmod_lt_of_pos k (by decide)
    exact IntWalk.i64_in _ ⟨by omega, by omega⟩
  have hm : mkK k = marksL.getD r [] := by unfold mkK; rw [e, Int.toNat_natCast]
  refine Goes.slot 7 (.int .i64 (r : Nat)) (u := .int .i64 ((IntKind.i64.wrap (k.tmod 5 + 5)).tmod 5)) (by rw [hw, e]) ?_
  rw [hm]
  have hr5 : r = 0 ∨ r = 1 ∨ r = 2 ∨ r = 3 ∨ r = 4 := by omega
  rcases hr5 with rfl | rfl | rfl | rfl | rfl
  · refine Goes.val (Instr.indexAt 48 (.slice (some ⟨g, 0, none⟩) 5 5) (.int .i64 (0 : Nat))) (.pointer (some ⟨g, 0, none⟩)) (fun w' _ _ => idxSs g 5 5 0 (by decide) w') ?_
    refine Goes.run [0] [] trivial ?_
    exact Goes.ret [0] (strV [32]) fun w' hm hI => ⟨rfl, ch_below hI.now.1⟩
  · refine Goes.val (Instr.indexAt 48 (.slice (some ⟨g, 0, none⟩) 5 5) (.int .i64 (1 : Nat))) (.pointer (some ⟨g, 1, none⟩)) (fun w' _ _ => idxSs g 5 5 1 (by decide) w') ?_
    refine Goes.run [0] [] trivial ?_
    exact Goes.ret [0] (strV [10, 10]) fun w' hm hI => ⟨rfl, ch_below hI.now.1⟩
  · refine Goes.val (Instr.indexAt 48 (.slice (some ⟨g, 0, none⟩) 5 5) (.int .i64 (2 : Nat))) (.pointer (some ⟨g, 2, none⟩)) (fun w' _ _ => idxSs g 5 5 2 (by decide) w') ?_
    refine Goes.run [0] [] trivial ?_
    exact Goes.ret [0] (strV [35, 32, 120, 10]) fun w' hm hI => ⟨rfl, ch_below hI.now.1⟩
  · refine Goes.val (Instr.indexAt 48 (.slice (some ⟨g, 0, none⟩) 5 5) (.int .i64 (3 : Nat))) (.pointer (some ⟨g, 3, none⟩)) (fun w' _ _ => idxSs g 5 5 3 (by decide) w') ?_
    refine Goes.run [0] [] trivial ?_
    exact Goes.ret [0] (strV [32, 9, 35, 32, 40, 32, 59, 32, 34, 32, 10]) fun w' hm hI => ⟨rfl, ch_below hI.now.1⟩
  · refine Goes.val (Instr.indexAt 48 (.slice (some ⟨g, 0, none⟩) 5 5) (.int .i64 (4 : Nat))) (.pointer (some ⟨g, 4, none⟩)) (fun w' _ _ => idxSs g 5 5 4 (by decide) w') ?_
    refine Goes.run [0] [] trivial ?_
    exact Goes.ret [0] (strV []) fun w' hm hI => ⟨rfl, ch_below hI.now.1⟩
end Go.Proofs.YtommhgmlblecnaaGreatDoor
