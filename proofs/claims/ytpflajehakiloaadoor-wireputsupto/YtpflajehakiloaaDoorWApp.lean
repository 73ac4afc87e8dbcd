/- Bytes appended to a row of the call's own, as this layer's functions append them. -/
import Derived.Test.YtpflajehakiloaaDoorWBase
namespace Go.Proofs.YtpflajehakiloaaDoor
open Go Go.RowKit

/-- Bytes written out, appended where there is room. -/
theorem appF {ops : Array Oper} {rest : List Oper} {o : Oper} {a : Act} {Q : Exit → Act → World → Prop} {w wr : World} (news : List UInt8) (cs : Array Value) (hcs : cs.toList = cells8 news)
    (hg : o.guard = none) (s x : Operand) (hop : o.op = Op.call { callee := Callee.builtin Builtin.append, args := #[s, x], argTypes := #[22, 22] })
    (B g cap n k c : Nat) (m : List UInt8) (hs : a.eval s = .slice (some ⟨g, 0, none⟩) n cap) (hx : a.eval x = .slice (some ⟨wr.heap.size, 0, none⟩) k c) (hk : news.length = k)
    (ho : wr.ownsRow B 5 1 (.slice (some ⟨g, 0, none⟩) n cap) n (cells8 m)) (hroom : n + k ≤ cap) (hbel : Below B w wr) (hB : B ≤ wr.heap.size)
    (hK : ∀ w1, w1.ownsRow B 5 1 (.slice (some ⟨g, 0, none⟩) (n + k) cap) (n + k) (cells8 (m ++ news)) → Below B w w1 → wr.heap.size < w1.heap.size → wpList Tryd.prog ops Q rest (a.put o.dst (.slice (some ⟨g, 0, none⟩) (n + k) cap)) w1) :
    wpList Tryd.prog ops Q (o :: rest) a (wr.alloc (.cells cs 5)) := by
  obtain ⟨i0, hi0, hz0, hz1, hz2⟩ := info_parts info8
  refine wpList_append_fits _ hg s x 22 hop B 5 i0 1 Tryd.underlying22 hi0 hz1 g n cap _ hs (ho.alloc _) ⟨wr.heap.size, 0, none⟩ k c (cells8 news) hx (by rw [cells8_len]; omega)
    (hcs ▸ World.news_of_block (fr := (0, 0)) (heap_alloc_new wr _)) (cells8_one _) hroom ?_
  intro w1 ho1 hg1
  rw [cells8_append] at ho1
  have hs1 : wr.heap.size + 1 ≤ w1.heap.size := by have := hg1.size; simpa using this
  exact hK w1 ho1 ((hbel.alloc hB _).grown hg1 (by simp; omega) (fun k hk => by cases hk; exact (owns_cap ho).2.2.1)) hs1

/-- Bytes written out, appended to what the call owns, which may grow. -/
theorem appG {ops : Array Oper} {rest : List Oper} {o : Oper} {a : Act} {Q : Exit → Act → World → Prop} {w wr : World} (news : List UInt8) (cs : Array Value) (hcs : cs.toList = cells8 news)
    (hg : o.guard = none) (s x : Operand) (hop : o.op = Op.call { callee := Callee.builtin Builtin.append, args := #[s, x], argTypes := #[22, 22] })
    (B n k c : Nat) (v : Value) (m : List UInt8) (hs : a.eval s = v) (hx : a.eval x = .slice (some ⟨wr.heap.size, 0, none⟩) k c) (hk : news.length = k) (hk0 : 0 < k)
    (ho : wr.ownsRow B 5 1 v n (cells8 m)) (hbnd : n + k ≤ 140737488355328) (hbel : Below B w wr) (hB : B ≤ wr.heap.size)
    (hK : ∀ g cap w1, w1.ownsRow B 5 1 (.slice (some ⟨g, 0, none⟩) (n + k) cap) (n + k) (cells8 (m ++ news)) → Below B w w1 → wr.heap.size < w1.heap.size → wpList Tryd.prog ops Q rest (a.put o.dst (.slice (some ⟨g, 0, none⟩) (n + k) cap)) w1) :
    wpList Tryd.prog ops Q (o :: rest) a (wr.alloc (.cells cs 5)) := by
  obtain ⟨i0, hi0, hz0, hz1, hz2⟩ := info_parts info8
  refine wpList_append_lies _ hg s x 22 hop B 5 i0 (.int .u8 0) 1 1 Tryd.underlying22 hi0 hz0 hz1 hz2 rfl (by omega) v n _ hs (ho.alloc _) ⟨wr.heap.size, 0, none⟩ k c (cells8 news) hx (by rw [cells8_len]; omega)
    (hcs ▸ World.news_of_block (fr := (0, 0)) (heap_alloc_new wr _)) (cells8_one _) hk0 (by unfold maxLen; omega) (by omega) (by simp; omega) (wr.heap.size + 1) (by simp) ?_
  intro g cap w1 ho1 hg1 _ _
  rw [cells8_append] at ho1
  have hs1 : wr.heap.size + 1 ≤ w1.heap.size := by have := hg1.size; simpa using this
  exact hK g cap w1 ho1 ((hbel.alloc hB _).grown hg1 (by simp; omega) (fun k hk => (ho.lt k hk).1)) hs1
end Go.Proofs.YtpflajehakiloaaDoor
