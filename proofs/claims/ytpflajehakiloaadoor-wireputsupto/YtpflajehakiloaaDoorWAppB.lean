/- '[]byte(s)', and a slice appended to it. -/
import Derived.Test.YtpflajehakiloaaDoorWRefCrc
import Derived.Lib.LazyBuf
namespace Go.Proofs.YtpflajehakiloaaDoor
open Go Go.RowKit

theorem conv_bytes (w : World) (s : ByteArray) : (convert 9 22 (.string s)).run Tryd.prog w = .ok (.slice (some ⟨w.heap.size, 0, none⟩) s.size (grownCap w s.size 0 5))
      (w.drew.alloc (.cells (bytesRow s (grownCap w s.size 0 5)) 5 ((bytesRow s (grownCap w s.size 0 5)).size, (bytesRow s (grownCap w s.size 0 5)).size + 1))) :=
  run_bytes_of_string w _ _ 5 s Tryd.underlying9 Tryd.underlying22 Tryd.underlying5

theorem row_size (s : ByteArray) (cap : Nat) (h : s.size ≤ cap) : (bytesRow s cap).size = cap := by
  have : s.data.size = s.size := rfl
  simp [bytesRow, this]; omega
theorem row_rd (w : World) (s : ByteArray) (cap : Nat) (fr : Nat × Nat) : Rd (w.alloc (.cells (bytesRow s cap) 5 fr)) w.heap.size 0 s.data.toList := fun k hk => by
  rw [Array.length_toList] at hk
  rw [Nat.zero_add, World.cell?_alloc_mark, bytesRow_at s cap k hk]
  simp only [at8, List.getD, Array.getElem?_toList, Array.getElem?_eq_getElem hk, Option.getD_some]

theorem rd_append {w : World} {b off : Nat} {l m : List UInt8} (h1 : Rd w b off l) (h2 : Rd w b (off + l.length) m) : Rd w b off (l ++ m) := fun k hk => by
  rw [List.length_append] at hk
  by_cases hkl : k < l.length
  · rw [h1 k hkl]
    simp [at8, List.getD, List.getElem?_append_left hkl]
  · obtain ⟨j, rfl⟩ : ∃ j, k = l.length + j := ⟨k - l.length, by omega⟩
    have := h2 j (by omega)
    rw [Nat.add_assoc] at this
    rw [this]
    simp [at8, List.getD, List.getElem?_append_right (show l.length ≤ l.length + j by omega)]
/-- What a slice yields to an append. -/
theorem src_sl {w : World} {v : Value} {l : List UInt8} (h : Sl w v l) : Src Tryd.prog 1 22 v l.length (cells8 l) w := by
  obtain ⟨a, cap, rfl, h2, h3, h4⟩ := h
  cases a with
  | none =>
    have hc := h3 rfl
    subst hc
    obtain rfl : l = [] := List.eq_nil_of_length_eq_zero (by omega)
    exact Src.ofNil w Tryd.underlying22 0
  | some ad =>
    refine Src.ofSlice w Tryd.underlying22 ad l.length cap (cells8 l) (by rw [cells8_len]; omega) (fun j u hu => ?_) (cells8_one _)
    have hj : j < l.length := by have := (List.getElem?_eq_some_iff.1 hu).1; rwa [cells8_len] at this
    obtain ⟨b, off, e, hr⟩ := h4 (by intro h; rw [h] at hj; simp at hj)
    obtain rfl := Option.some.inj e
    rw [Addr.add_lit, hr j hj, ← hu, cells8_get l j hj]

/-- 'append([]byte(s), xs...)'. -/
theorem run_appB (w0 : World) (s : ByteArray) (cap : Nat) (hcap : s.size ≤ cap) (l : List UInt8) (vx : Value) (ty : TypeId) (hsl : Sl w0 vx l) (hbnd : s.size + l.length ≤ 140737488355328) :
    ∃ v' w1, (Builtin.append_ #[22, 22] ty #[.slice (some ⟨w0.heap.size, 0, none⟩) s.size cap, vx]).run Tryd.prog (w0.drew.alloc (.cells (bytesRow s cap) 5 ((bytesRow s cap).size, (bytesRow s cap).size + 1))) = .ok v' w1 ∧
      Sl w1 v' (s.data.toList ++ l) ∧ Below w0.heap.size w0 w1 := by
  obtain ⟨i0, hi0, hz0, hz1, hz2⟩ := info_parts info8
  have hss : s.data.toList.length = s.size := by rw [Array.length_toList]; rfl
  have hb0 : Below w0.heap.size w0 (w0.drew.alloc (.cells (bytesRow s cap) 5 ((bytesRow s cap).size, (bytesRow s cap).size + 1))) := (Below.refl _ _).drew.alloc (Nat.le_refl _) _
  have hrd0 : Rd (w0.drew.alloc (.cells (bytesRow s cap) 5 ((bytesRow s cap).size, (bytesRow s cap).size + 1))) w0.heap.size 0 s.data.toList := row_rd w0.drew s cap _
  have hsrc := src_sl (hsl.below hb0)
  by_cases hroom : s.size + l.length ≤ cap
  · have hcell : ∀ j, j < (cells8 l).length → ((w0.drew.alloc (.cells (bytesRow s cap) 5 ((bytesRow s cap).size, (bytesRow s cap).size + 1))).cell? ⟨w0.heap.size, 0 + s.size * 1 + j, none⟩).isSome = true := by
      intro j hj
      rw [cells8_len] at hj
      have hc := World.cell?_alloc_mark w0.drew (bytesRow s cap) 5 ((bytesRow s cap).size, (bytesRow s cap).size + 1) (0 + s.size * 1 + j)
      have hc' : (w0.drew.alloc (.cells (bytesRow s cap) 5 ((bytesRow s cap).size, (bytesRow s cap).size + 1))).cell? ⟨w0.heap.size, 0 + s.size * 1 + j, none⟩ = (bytesRow s cap)[0 + s.size * 1 + j]? := hc
      rw [hc', Array.getElem?_eq_getElem (by rw [row_size s cap hcap]; omega)]; rfl
    have hfr : ∀ j, j < (cells8 l).length → (w0.drew.alloc (.cells (bytesRow s cap) 5 ((bytesRow s cap).size, (bytesRow s cap).size + 1))).frozen? ⟨w0.heap.size, 0 + s.size * 1 + j, none⟩ = false := by
      intro j hj
      rw [cells8_len] at hj
      have hc := World.frozen?_alloc_mark w0.drew (bytesRow s cap) 5 (bytesRow s cap).size ((bytesRow s cap).size + 1) (0 + s.size * 1 + j)
      have hc' : (w0.drew.alloc (.cells (bytesRow s cap) 5 ((bytesRow s cap).size, (bytesRow s cap).size + 1))).frozen? ⟨w0.heap.size, 0 + s.size * 1 + j, none⟩ = _ := hc
      rw [hc', row_size s cap hcap]
      simp; omega
    have hrun := run_append_room_src (P := Tryd.prog) (w0.drew.alloc (.cells (bytesRow s cap) 5 ((bytesRow s cap).size, (bytesRow s cap).size + 1))) 22 22 ty 5 i0 Tryd.underlying22 hi0 w0.heap.size 0 s.size cap vx l.length (cells8 l) (by rw [hz1]; exact hsrc) hroom (by rw [hz1]; exact hcell) (by rw [hz1]; exact hfr)
    refine ⟨_, _, hrun, ?_, ?_⟩
    · have hlen : s.size + l.length = (s.data.toList ++ l).length := by rw [List.length_append, hss]
      rw [hlen]
      refine Sl.mk (rd_append (fun k hk => ?_) (fun k hk => ?_)) (by omega)
      · rw [World.cell?_setCells_out _ _ _ _ _ (fun _ _ => .inl (by rw [hz1]; simp only; omega))]
        exact hrd0 k hk
      · have := World.cell?_setCells_in w0.heap.size (cells8 l) (0 + s.size * i0.size) _ (by rw [hz1]; exact hcell) k (by rw [cells8_len]; exact hk)
        rw [hz1] at this ⊢
        have e : 0 + s.data.toList.length + k = 0 + s.size * 1 + k := by rw [hss]; omega
        rw [e, this]
        have := cells8_get l k hk
        rw [List.getElem?_eq_getElem (by rw [cells8_len]; exact hk)] at this
        exact this
    · exact _root_.Go.below_setCells (Nat.le_refl _) _ _ _ hb0
  · have hold : (Builtin.firstCells i0.size s.size (.slice (some ⟨w0.heap.size, 0, none⟩) s.size cap)).run Tryd.prog (w0.drew.alloc (.cells (bytesRow s cap) 5 ((bytesRow s cap).size, (bytesRow s cap).size + 1))).drew = .ok (cells8 s.data.toList).toArray (w0.drew.alloc (.cells (bytesRow s cap) 5 ((bytesRow s cap).size, (bytesRow s cap).size + 1))).drew := by
      rw [hz1]
      refine run_firstCells_some _ 1 s.size ⟨w0.heap.size, 0, none⟩ s.size cap (cells8 s.data.toList) (by rw [cells8_len, hss]; omega) (fun j u hu => ?_)
      have hj : j < s.data.toList.length := by have := (List.getElem?_eq_some_iff.1 hu).1; rwa [cells8_len] at this
      rw [Addr.add_lit]
      have := hrd0 j hj
      rw [cells8_get _ j hj] at hu
      rw [← hu]; exact this
    have hrun := run_append_grow_src (P := Tryd.prog) (w0.drew.alloc (.cells (bytesRow s cap) 5 ((bytesRow s cap).size, (bytesRow s cap).size + 1))) 22 22 ty 5 i0 (.int .u8 0) Tryd.underlying22 hi0 hz0 _ s.size cap (cells8 s.data.toList) hold vx l.length (cells8 l) (by rw [hz1]; exact hsrc) (by omega) (by omega) (growslice_fits (by omega) (by rw [hz2]; omega))
    refine ⟨_, _, hrun, ?_, (hb0.drew).alloc (by simp) _⟩
    have hlen : s.size + l.length = (s.data.toList ++ l).length := by rw [List.length_append, hss]
    rw [hlen]
    refine Sl.mk (fun k hk => ?_) (grownCap_ge _ _ _ _)
    rw [Nat.zero_add]
    have hc := World.cell?_alloc_mark (w0.drew.alloc (.cells (bytesRow s cap) 5 ((bytesRow s cap).size, (bytesRow s cap).size + 1))).drew ((cells8 s.data.toList ++ cells8 l).toArray ++ Builtin.zeroCells (Value.int IntKind.u8 0).cells (grownCap (w0.drew.alloc (.cells (bytesRow s cap) 5 ((bytesRow s cap).size, (bytesRow s cap).size + 1))) (s.data.toList ++ l).length cap 5 - (s.data.toList ++ l).length)) 5 (0, 0) k
    refine Eq.trans hc ?_
    rw [cells8_append, Array.getElem?_append_left (by simp [cells8_len]; rw [List.length_append] at hk; simpa using hk)]
    simpa using cells8_get _ k hk
theorem appB {ops : Array Oper} {rest : List Oper} {o : Oper} {a : Act} {Q : Exit → Act → World → Prop} {w0 : World} (s : ByteArray) (cap : Nat) (hcap : s.size ≤ cap) (l : List UInt8)
    (hg : o.guard = none) (sl x : Operand) (hop : o.op = Op.call { callee := Callee.builtin Builtin.append, args := #[sl, x], argTypes := #[22, 22] }) (vx : Value)
    (hs : a.eval sl = .slice (some ⟨w0.heap.size, 0, none⟩) s.size cap) (hx : a.eval x = vx) (hsl : Sl w0 vx l) (hbnd : s.size + l.length ≤ 140737488355328)
    (hK : ∀ v' w1, Sl w1 v' (s.data.toList ++ l) → Below w0.heap.size w0 w1 → wpList Tryd.prog ops Q rest (a.put o.dst v') w1) :
    wpList Tryd.prog ops Q (o :: rest) a (w0.drew.alloc (.cells (bytesRow s cap) 5 ((bytesRow s cap).size, (bytesRow s cap).size + 1))) := by
  refine wpList_plain hg fun K hK' => ?_
  obtain ⟨v', w1, hrun, h1, h2⟩ := run_appB w0 s cap hcap l vx o.type hsl hbnd
  unfold Oper.wp
  simp [execOp, hop, resolve, invoke, builtin, hs, hx, hrun, Result.andThen]
  exact hK' _ _ (hK v' w1 h1 h2)
theorem appB' {ops : Array Oper} {rest : List Oper} {o : Oper} {a : Act} {Q : Exit → Act → World → Prop} (w0 : World) (s : ByteArray) (cap : Nat) (hcap : s.size ≤ cap) (l : List UInt8)
    (hg : o.guard = none) (sl x : Operand) (hop : o.op = Op.call { callee := Callee.builtin Builtin.append, args := #[sl, x], argTypes := #[22, 22] }) (vx : Value)
    (hs : a.eval sl = .slice (some ⟨w0.heap.size, 0, none⟩) s.size cap) (hx : a.eval x = vx) (hsl : Sl w0 vx l) (hbnd : s.size + l.length ≤ 140737488355328)
    (hK : ∀ v' w1, Sl w1 v' (s.data.toList ++ l) → Below w0.heap.size w0 w1 → wpList Tryd.prog ops Q rest (a.put o.dst v') w1) :
    wpList Tryd.prog ops Q (o :: rest) a (w0.alloc (.cells (bytesRow s cap) 5 ((bytesRow s cap).size, (bytesRow s cap).size + 1))).drew :=
  appB s cap hcap l hg sl x hop vx hs hx hsl hbnd hK
end Go.Proofs.YtpflajehakiloaaDoor
