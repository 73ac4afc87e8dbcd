/- Rows of texts in memory, by the engine. -/
import Derived.Test.YtfblnjidghijaaaCRefT
import Derived.Laws.MakeOwn
import Derived.Sort.Walk0
namespace Go.Proofs.Ytfblnjidghijaaa
open Go Go.RowKit

/-- A row of texts in a block: what lies behind it there is no matter. -/
def sO (l : List (List UInt8)) (r : List Value) : Obj := .cells (l.map strV ++ r).toArray 9 (0, 0)
/-- The value v is the row of texts l, in a block of its own from base on. -/
def Rws (base : Nat) (w : World) (v : Value) (l : List (List UInt8)) : Prop := w.ownsRow base 9 1 v l.length (l.map strV)
theorem Rws.nil {base : Nat} {w : World} : Rws base w (.slice none 0 0) [] := ⟨by simp, .inl ⟨rfl, rfl⟩⟩
theorem Rws.form {base : Nat} {w : World} {v : Value} {l : List (List UInt8)} (h : Rws base w v l) : (v = .slice none 0 0 ∧ l = []) ∨ ∃ b cap r, v = .slice (some ⟨b, 0, none⟩) l.length cap ∧ base ≤ b ∧ w.heap[b]? = some (sO l r) ∧ l.length ≤ cap ∧ cap ≤ maxLen := by
  rcases h.2 with ⟨h1, h2⟩ | ⟨b, cap, cur, h1, hb, hcur, hle, hmax, hsz, htake⟩
  · exact .inl ⟨h1, List.eq_nil_of_length_eq_zero h2⟩
  · refine .inr ⟨b, cap, cur.toList.drop l.length, h1, hb, ?_, hle, hmax⟩
    rw [hcur]
    unfold sO
    rw [Nat.mul_one] at htake
    rw [← htake, List.take_append_drop]
theorem Rws.below {base n : Nat} {w w' : World} {v : Value} {l : List (List UInt8)} (h : Rws base w v l) (hB : Below n w w') (hn : w.heap.size ≤ n) : Rws base w' v l := by
  refine ⟨h.1, ?_⟩
  rcases h.2 with h | ⟨b, cap, cur, h1, hb, hcur, h2⟩
  · exact .inl h
  · exact .inr ⟨b, cap, cur, h1, hb, (hB.block b (Nat.lt_of_lt_of_le (lt_of_get hcur) hn)).trans hcur, h2⟩
theorem Rws.more {base base' : Nat} {w : World} {v : Value} {l : List (List UInt8)} (h : Rws base w v l) (hb : base' ≤ base) : Rws base' w v l := by
  refine ⟨h.1, ?_⟩
  rcases h.2 with h | ⟨b, cap, cur, h1, h0, h2⟩
  · exact .inl h
  · exact .inr ⟨b, cap, cur, h1, by omega, h2⟩
theorem cellS {w : World} {b i : Nat} {l : List (List UInt8)} {r : List Value} {s : List UInt8} (hb : w.heap[b]? = some (sO l r)) (hi : l[i]? = some s) : w.cell? ⟨b, i, none⟩ = some (strV s) := by
  unfold World.cell?
  rw [hb]
  obtain ⟨hl, he⟩ := List.getElem?_eq_some_iff.1 hi
  simp [sO, List.getElem?_append_left, hl, he]
theorem loadS {w : World} {b i : Nat} {l : List (List UInt8)} {r : List Value} {s : List UInt8} (hb : w.heap[b]? = some (sO l r)) (hi : l[i]? = some s) : (Instr.loadAt 9 (.pointer (some ⟨b, i, none⟩))).run Try.prog w = .ok (strV s) w :=
  load1 Try.isAgg9 (cellS hb hi)
theorem idxS (b n cap k : Nat) (h : k < n) (w : World) : (Instr.indexAt 32 (.slice (some ⟨b, 0, none⟩) n cap) (.int .i64 k)).run Try.prog w = .ok (.pointer (some ⟨b, k, none⟩)) w := by go_simp
theorem cutS (b n cap k : Nat) (h : k ≤ n) (hn : n ≤ cap) (w : World) : (Instr.sliceAt 32 (.slice (some ⟨b, 0, none⟩) n cap) none (some (.int .i64 k)) none).run Try.prog w = .ok (.slice (some ⟨b, 0, none⟩) k cap) w := by
  have h1 : (k : Int) ≤ (cap : Int) := by omega
  go_simp
theorem restS (g m c n : Nat) (hn : n ≤ m) (hm : m ≤ c) (w : World) : (Instr.sliceAt 32 (.slice (some ⟨g, 0, none⟩) m c) (some (.int .i64 n)) none none).run Try.prog w = .ok (.slice (if c = n then some ⟨g, 0, none⟩ else some ⟨g, n, none⟩) (m - n) (c - n)) w := by
  have h1 : (n : Int) ≤ (m : Int) := by omega
  have h2 : (m : Int) ≤ (c : Int) := by omega
  go_simp
theorem nilS (w : World) : (Instr.sliceAt 32 (.slice none 0 0) none (some (.int .i64 0)) none).run Try.prog w = .ok (.slice none 0 0) w ∧ (Instr.sliceAt 32 (.slice none 0 0) (some (.int .i64 0)) none none).run Try.prog w = .ok (.slice none 0 0) w := by constructor <;> go_simp
theorem appNilS (b n cap : Nat) (ty : TypeId) (hn : n ≤ cap) (w : World) : (Builtin.append_ #[32, 32] ty #[.slice (some ⟨b, 0, none⟩) n cap, .slice none 0 0]).run Try.prog w = .ok (.slice (some ⟨b, 0, none⟩) n cap) w := by
  go_simp
theorem lssT (a b : List UInt8) (w : World) : (binOp .lss 9 (strV a) (strV b)).run Try.prog w = .ok (.bool (decide (a < b))) w := by
  unfold strV
  rw [binOp_string_lss, Go.Proofs.bytesLess_eq, Lib.toList_data, Lib.toList_data]
  rfl
theorem eqT (x y : Operand) (a b : List UInt8) (hc : (match x, y with | .tmp _, .tmp _ => true | _, _ => false) = true) (w : World) : (do eqGuard .eql 9 x y (strV a) (strV b); binOp .eql 9 (strV a) (strV b) : Sem Value).run Try.prog w = .ok (.bool (decide (a = b))) w := by
  have : (eqGuard .eql 9 x y (strV a) (strV b)).run Try.prog w = .ok () w := by
    cases x <;> cases y <;> simp at hc
    unfold eqGuard strV; go_simp
  simp only [Sem.run_bind, this, Result.andThen_ok, eqlS a b _ rfl w]
theorem neT (x y : Operand) (a b : List UInt8) (hc : (match x, y with | .tmp _, .tmp _ => true | _, _ => false) = true) (w : World) : (do eqGuard .neq 9 x y (strV a) (strV b); binOp .neq 9 (strV a) (strV b) : Sem Value).run Try.prog w = .ok (.bool (decide (a ≠ b))) w := by
  have : (eqGuard .neq 9 x y (strV a) (strV b)).run Try.prog w = .ok () w := by
    cases x <;> cases y <;> simp at hc
    unfold eqGuard strV; go_simp
  simp only [Sem.run_bind, this, Result.andThen_ok, neqS a b _ rfl w]
theorem infoS : (Try.prog.info? 9).map (fun i => (i.zero, i.size, i.bytes)) = some (some (strV []), 1, 16) := by kernel_rfl
/-- A row is made, with nothing in it and room for n. -/
theorem makeS0 (w : World) (n : Nat) (hn : n ≤ 1000001) : ∃ w1 g, (Instr.makeSlice 32 (.int .i64 0) (.int .i64 ((n : Nat) : Int))).run Try.prog w = .ok (.slice (some ⟨g, 0, none⟩) 0 n) w1 ∧ Rws w.heap.size w1 (.slice (some ⟨g, 0, none⟩) 0 n) [] ∧ Below w.heap.size w w1 ∧ w.heap.size ≤ g ∧ g < w1.heap.size := by
  cases hie : Try.prog.info? 9 with
  | none => have := infoS; rw [hie] at this; cases this
  | some i0 =>
    have hi := infoS
    rw [hie] at hi
    simp only [Option.map_some, Option.some.injEq, Prod.mk.injEq] at hi
    obtain ⟨hz0, hz1, hz2⟩ := hi
    have hr := run_make (P := Try.prog) w 32 9 i0 (strV []) Try.underlying32 hie hz0 .i64 .i64 0 n (by omega) (by omega) (by rw [hz2]; omega) (by omega)
    rw [Int.toNat_natCast, hz1] at hr
    refine ⟨_, _, hr, ⟨rfl, .inr ⟨_, n, _, rfl, Nat.le_refl _, heap_alloc_last w _, by simp, by unfold maxLen; omega, by rw [size_madeCells], by simp⟩⟩, (Below.refl _ _).alloc (Nat.le_refl _) _, Nat.le_refl _, lt_of_get (heap_alloc_last w _)⟩
section
variable {P : Program} {F : Exit → Act → World → Prop} {Inv : World → Prop} {s : St}
/-- What an append of cells that are known does. -/
theorem append_coreA {base : Nat} {t e ty : TypeId} {size bytes : Nat} {v : Value} {n : Nat} {xs : List Value} {a : Addr} {m c : Nat} {news : List Value} {w : World}
    (hown : w.ownsRow base e size v n xs) (hbase : base ≤ w.heap.size) (hl : news.length = m * size) (hnews : ∀ j u, news[j]? = some u → w.cell? (a.add j) = some u) (h1 : ∀ u ∈ news, u.oneCell' = true) (hm0 : v ≠ .slice none 0 0 ∨ 0 < m) (h63 : n + m ≤ maxLen) (hbytes : (n + m) * bytes ≤ 140737488355328)
    (hel : elOk P t e size bytes = true) : ∃ b c' w', (Builtin.append_ #[t, t] ty #[v, .slice (some a) m c]).run P w = .ok (.slice (some ⟨b, 0, none⟩) (n + m) c') w' ∧ w'.ownsRow base e size (.slice (some ⟨b, 0, none⟩) (n + m) c') (n + m) (xs ++ news) ∧ w.grownBy w' v.ownBlock ∧ ((Value.slice (some ⟨b, 0, none⟩) (n + m) c').ownBlock = v.ownBlock ∨ (Value.slice (some ⟨b, 0, none⟩) (n + m) c').ownBlock = some w.heap.size) := by
  unfold elOk at hel
  simp only [Bool.and_eq_true, decide_eq_true_eq] at hel
  obtain ⟨⟨hu, hi⟩, hsz⟩ := hel
  cases hu1 : P.underlying t with
  | none => rw [hu1] at hu; cases hu
  | some d =>
    rw [hu1] at hu
    obtain rfl : d = .slice e := by
      cases d <;> simp at hu
      rw [hu]
    cases hi1 : P.info? e with
    | none => rw [hi1] at hi; cases hi
    | some i =>
      rw [hi1] at hi
      simp only [Bool.and_eq_true, beq_iff_eq] at hi
      cases hz1 : i.zero with
      | none => rw [hz1] at hi; simp at hi
      | some z0 =>
        rw [hz1] at hi
        obtain ⟨v', w', hrun, hown', hgr, hnil, hob⟩ := run_append_own_at (P := P) (w := w) base t ty e i z0 size bytes hu1 hi1 hz1 hi.1.1 hi.1.2 (eq_of_beq hi.2) hsz v n xs hown a m c news hl hnews h1 h63 hbytes hbase
        obtain ⟨b, c', rfl⟩ : ∃ b c', v' = .slice (some ⟨b, 0, none⟩) (n + m) c' := by
          rcases hown'.2 with ⟨h0, -⟩ | ⟨g, cap, cur, e, -⟩
          · obtain ⟨h2, h3⟩ := hnil.1 h0
            rcases hm0 with h4 | h4
            · exact absurd h2 h4
            · omega
          · exact ⟨_, _, e⟩
        exact ⟨b, c', w', hrun, hown', hgr, hob⟩
/-- A row of one's own grows by cells that are known. -/
theorem Goes.appendA {I0 : World → Prop} (base : Nat) (t e ty : TypeId) (size bytes : Nat) (v : Value) (n : Nat) (xs : List Value) (a : Addr) (m c : Nat) (news : List Value)
    (hI : ∀ w, Inv w → I0 w ∧ w.ownsRow base e size v n xs ∧ base ≤ w.heap.size) (hst : ∀ w w', I0 w → Below base w w' → I0 w') (hl : news.length = m * size) (hnews : ∀ w, Holds s.mem w → ∀ j u, news[j]? = some u → w.cell? (a.add j) = some u) (h1 : ∀ u ∈ news, u.oneCell' = true) (hm0 : v ≠ .slice none 0 0 ∨ 0 < m) (h63 : n + m ≤ maxLen) (hbytes : (n + m) * bytes ≤ 140737488355328)
    (h : ∀ b c', Goes P F (fun w => I0 w ∧ w.ownsRow base e size (.slice (some ⟨b, 0, none⟩) (n + m) c') (n + m) (xs ++ news)) (put0 s (.slice (some ⟨b, 0, none⟩) (n + m) c')))
    (ho : (nextOp s).map (fun q => execOp (evalL s.tmps) q.2.1) = some (vS (Builtin.append_ #[t, t] ty #[v, .slice (some a) m c])) := by kernel_rfl) (hw : wants s = true := by kernel_rfl) (hel : elOk P t e size bytes = true := by kernel_rfl) : Goes P F Inv s := by
  refine Goes.eff (Builtin.append_ #[t, t] ty #[v, .slice (some a) m c]) (ho := ho) (hw := hw) fun w hm hn hS => ?_
  obtain ⟨-, hown, hbase⟩ := hI w hS.now
  obtain ⟨b, c', w', hrun, hown', hgr, hob⟩ := append_coreA (P := P) (ty := ty) (c := c) hown hbase hl (hnews w hm) h1 hm0 h63 hbytes hel
  obtain ⟨h3, h4⟩ := append_stay hm (hS.mono fun w h => ⟨(hI w h).1, (hI w h).2.1⟩) hst hown' hgr hob
  exact ⟨_, w', _, s.mem, hrun, h3, hn, h4, h b c'⟩
end
end Go.Proofs.Ytfblnjidghijaaa
