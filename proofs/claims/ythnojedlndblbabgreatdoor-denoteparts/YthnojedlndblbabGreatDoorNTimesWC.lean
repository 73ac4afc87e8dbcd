/- the text NTimesW -/
import Derived.Test.YthnojedlndblbabGreatDoorNGm
import Derived.Test.YthnojedlndblbabGreatDoorNGk
import Derived.Test.YthnojedlndblbabGreatDoorNGj
namespace Go.Proofs.YthnojedlndblbabGreatDoor
open Go Go.RowKit

theorem kid_at {w : World} {b n : Nat} {xs : List Value} {z : Nat × Nat} {i : Nat} {op k : Int} {s : List UInt8} {u : Value} (hb : w.heap[b]? = some (.cells xs.toArray 24 z)) (h0 : xs[i * 4]? = some (.int .i64 op)) (h1 : xs[i * 4 + 1]? = some (.int .i64 k)) (h2 : xs[i * 4 + 2]? = some (strV s)) (h3 : xs[i * 4 + 3]? = some u) (hn : b < n) : ∃ b' o, (some (⟨b, 0, none⟩ : Addr)) = some ⟨b', o, none⟩ ∧ b' < n ∧ Cl4 w b' (o + i * 4) (cv op k s u) := by
  refine ⟨b, 0, rfl, hn, op, k, s, u, rfl, ?_, ?_, ?_, ?_⟩ <;> rw [Nat.zero_add]
  · exact cell_obj hb (by simpa using h0)
  · exact cell_obj hb (by simpa using h1)
  · exact cell_obj hb (by simpa using h2)
  · exact cell_obj hb (by simpa using h3)
/-- A term of two kids that was laid in a row of two. -/
theorem pair_nc {w : World} {b : Nat} {z : Nat × Nat} {op k o0 k0 o1 k1 : Int} {s s0 s1 : List UInt8} {u0 u1 : Value} {c0 c1 : Co} (hf : Fits op k s) (hb : w.heap[b]? = some (.cells [.int .i64 o0, .int .i64 k0, strV s0, u0, .int .i64 o1, .int .i64 k1, strV s1, u1].toArray 24 z)) (h0 : Nc w.heap.size w (cv o0 k0 s0 u0) c0) (h1 : Nc w.heap.size w (cv o1 k1 s1 u1) c1) : Nc w.heap.size w (cv op k s (.slice (some ⟨b, 0, none⟩) 2 2)) (.mk op k s [c0, c1]) := by
  have hn := lt_of_get hb
  refine Nc.mk op k s [c0, c1] (some ⟨b, 0, none⟩) 2 (fun i => if i = 0 then cv o0 k0 s0 u0 else cv o1 k1 s1 u1) hf ⟨by simp, by omega⟩ (fun i hi => ?_) (fun i t h => ?_)
  · match i, hi with
    | 0, _ => exact kid_at hb rfl rfl rfl rfl hn
    | 1, _ => exact kid_at hb rfl rfl rfl rfl hn
  · match i, h with
    | 0, h => (cases h; exact h0)
    | 1, h => (cases h; exact h1)
theorem one_nc {w : World} {b : Nat} {z : Nat × Nat} {op k o0 k0 : Int} {s s0 : List UInt8} {u0 : Value} {c0 : Co} (hf : Fits op k s) (hb : w.heap[b]? = some (.cells [.int .i64 o0, .int .i64 k0, strV s0, u0].toArray 24 z)) (h0 : Nc w.heap.size w (cv o0 k0 s0 u0) c0) : Nc w.heap.size w (cv op k s (.slice (some ⟨b, 0, none⟩) 1 1)) (.mk op k s [c0]) := by
  have hn := lt_of_get hb
  refine Nc.mk op k s [c0] (some ⟨b, 0, none⟩) 1 (fun i => cv o0 k0 s0 u0) hf ⟨by simp, by omega⟩ (fun i hi => ?_) (fun i t h => ?_)
  · match i, hi with
    | 0, _ => exact kid_at hb rfl rfl rfl rfl hn
  · match i, h with
    | 0, h => (cases h; exact h0)
theorem rl_at {c : Co} {l : List (Int × Int)} (h : Gd c l) (hf : ∀ x ∈ l, inM x.2) (hc : szC c ≤ 2000) : ∀ x ∈ l, 0 ≤ x.1 ∧ x.1 ≤ 2000 := fun x hx => by
  obtain ⟨h0, t, ht, -⟩ := (rl_facts (by omega) (gd_rl h hf)).2 x hx
  have := (term_in c _ t ht).2.1
  have := szC_pos t
  omega
end Go.Proofs.YthnojedlndblbabGreatDoor
