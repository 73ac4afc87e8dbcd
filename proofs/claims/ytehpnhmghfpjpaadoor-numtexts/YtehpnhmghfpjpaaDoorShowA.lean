/- Small facts for the walk of num's Show. -/
import Derived.Test.YtehpnhmghfpjpaaDoorPlace
import Derived.Test.YtehpnhmghfpjpaaDoorShelf
namespace Go.Proofs.YtehpnhmghfpjpaaDoor
open Go.RowKit

/-- An owned row of bytes, as a string. -/
theorem conv_owned {B n : Nat} {v : Value} {l : List UInt8} {w : World} (h : w.ownsRow B 5 1 v n (Lib.byteCells l)) (hne : l ≠ []) :
    (convert 40 9 v).run Tryd.prog w = .ok (.string ⟨l.toArray⟩) w := by
  have hl : n = l.length := by have := h.1; simp [Lib.byteCells] at this; omega
  subst hl
  rcases h.2 with ⟨_, h0⟩ | ⟨g, cap, cur, rfl, _⟩
  · exact absurd (List.length_eq_zero_iff.1 h0) hne
  · refine run_convert_bytes_back w 40 9 5 ⟨g, 0, none⟩ cap l Tryd.underlying40 Tryd.underlying5 Tryd.underlying9 ?_
    intro j hj
    have := h.cellAt j (by omega)
    have ea : (⟨g, 0, none⟩ : Addr).add j = ⟨g, j, none⟩ := by unfold Addr.add; split <;> simp_all
    rw [ea, this]
    simp [Lib.byteCells, hj]

theorem decDigits_ne (u : Nat) : Lib.decDigits u ≠ [] := by unfold Lib.decDigits; split <;> simp
theorem itoa_ne (n : Int) : Lib.itoa n ≠ [] := by unfold Lib.itoa; split <;> simp [decDigits_ne]

theorem good_start (bs : List UInt8) {r : Int} (h0 : 0 < r) (h1 : r < 1000000) : Good (bs, r, 1000000) := Or.inr ⟨6, by omega, by omega, by simp, h0, by simpa using h1⟩

/-- The writer as Show lays it. -/
theorem wst_start {B g cap n : Nat} {bs : List UInt8} {r : Int} {w : World} (hn : n = bs.length) (h : w.ownsRow B 5 1 (.slice (some ⟨g, 0, none⟩) n cap) n (Lib.byteCells bs)) :
    WSt B w.heap.size (bs, r, 1000000) (w.alloc (.cells #[.slice (some ⟨g, 0, none⟩) n cap, .int .i64 r, .int .i64 1000000] 43)) := by
  subst hn
  refine ⟨g, cap, ⟨?_, ?_, ?_, ?_, ?_, ?_⟩, h.alloc _, ?_⟩
  · simp
  · simp
  · simp
  · exact World.frozen?_alloc_new _ _ _ _
  · exact World.frozen?_alloc_new _ _ _ _
  · exact World.frozen?_alloc_new _ _ _ _
  · exact Nat.ne_of_lt (h.lt g rfl).2

theorem below_append {B : Nat} {w W w1 : World} {o : Obj} {v : Value} {n : Nat} {xs : List Value} (hb : Below B w W) (hB : B ≤ W.heap.size) (hown : W.ownsRow B 5 1 v n xs) (hg : (W.alloc o).grownBy w1 v.ownBlock) : Below B w w1 :=
  (hb.alloc hB o).grown hg (by simp; omega) (fun k hk => (hown.lt k hk).1)

theorem byteCells_one_more (l : List UInt8) (b : UInt8) : Lib.byteCells l ++ [.int .u8 b.toNat] = Lib.byteCells (l ++ [b]) := by simp [Lib.byteCells]

theorem putN_pre' (pre : List UInt8) (r : Int) : putN 6 (pre, r, 1000000) = (pre ++ fracDigits r, (putN 6 ([], r, 1000000)).2) := by
  have := putN_pre pre [] r 1000000 6
  rw [List.append_nil] at this
  exact this

end Go.Proofs.YtehpnhmghfpjpaaDoor
