/- the text YDeepW -/
import Derived.Test.YtommhgmlblecnaaDoorYDeepNC
import Derived.Test.YtommhgmlblecnaaDoorYGf
import Derived.Lib.AppendStr
import Derived.Lib.BufferRead
namespace Go.Proofs.YtommhgmlblecnaaDoor
open Go Go.RowKit

/-- An owned row of bytes, as a string. -/
theorem conv_own7 {B n : Nat} {v : Value} {l : List UInt8} {w : World} (h : w.ownsRow B 5 1 v n (Lib.byteCells l)) (hne : l ≠ []) :
    (convert 35 9 v).run Tryd.prog w = .ok (strV l) w := by
  have hl : n = l.length := by have := h.1; simp [Lib.byteCells] at this; omega
  subst hl
  rcases h.2 with ⟨_, h0⟩ | ⟨g, cap, cur, rfl, _⟩
  · exact absurd (List.length_eq_zero_iff.1 h0) hne
  · refine run_convert_bytes_back w 35 9 5 ⟨g, 0, none⟩ cap l Tryd.underlying35 Tryd.underlying5 Tryd.underlying9 ?_
    intro j hj
    have := h.cellAt j (by omega)
    have ea : (⟨g, 0, none⟩ : Addr).add j = ⟨g, j, none⟩ := by unfold Addr.add; split <;> simp_all
    rw [ea, this]
    simp [Lib.byteCells, hj]
theorem app7 {base n : Nat} {v : Value} {l s : List UInt8} {w : World} (hown : w.ownsRow base 5 1 v n (Lib.byteCells l)) (hb : base ≤ w.heap.size) (hn : n + s.length ≤ 1000000) :
    ∃ v' w', (Builtin.append_ #[35, 9] 35 #[v, strV s]).run Tryd.prog w = .ok v' w' ∧ w'.ownsRow base 5 1 v' (n + s.length) (Lib.byteCells (l ++ s)) ∧ w.grownBy w' v.ownBlock := by
  obtain ⟨i, hi, hz, hs, hby⟩ : ∃ i, Tryd.prog.info? 5 = some i ∧ i.zero = some (.int .u8 0) ∧ i.size = 1 ∧ i.bytes = 1 := by
    have h1 : (Tryd.prog.info? 5).map (·.size) = some 1 := by kernel_rfl
    have h2 : (Tryd.prog.info? 5).map (·.bytes) = some 1 := by kernel_rfl
    have h3 : (Tryd.prog.info? 5).map (·.zero) = some (some (.int .u8 0)) := by kernel_rfl
    cases hi : Tryd.prog.info? 5 with
    | none => rw [hi] at h1; cases h1
    | some i =>
      rw [hi] at h1 h2 h3
      exact ⟨i, rfl, Option.some.inj h3, Option.some.inj h1, Option.some.inj h2⟩
  have hsz : (⟨s.toArray⟩ : ByteArray).size = s.length := by simp [ByteArray.size]
  obtain ⟨v', w', h1, h2, h3, -⟩ := Lib.run_append_own_string (P := Tryd.prog) (w := w) base 35 9 35 5 i Tryd.underlying35 Tryd.underlying9 hi hz hs hby v n _ hown ⟨s.toArray⟩ (by rw [hsz]; unfold maxLen; omega) (by rw [hsz]; omega) hb
  refine ⟨v', w', h1, ?_, h3⟩
  rw [hsz] at h2
  have : Lib.byteCells (l ++ s) = Lib.byteCells l ++ Lib.strCells ⟨s.toArray⟩ := by simp [Lib.byteCells, Lib.strCells]
  rw [this]
  exact h2
/-- A row of bytes of one's own grows by a text, where no block need be known. -/
theorem Goes.app7 {F : Exit → Act → World → Prop} {Inv : World → Prop} {st : St} {w0 : World} {v : Value} {l s : List UInt8} (hI : ∀ w, Inv w → Ch [] w0 w ∧ w.ownsRow w0.heap.size 5 1 v l.length (Lib.byteCells l)) (hn : l.length + s.length ≤ 1000000)
    (h : ∀ v', Goes Tryd.prog F (fun w => Ch [] w0 w ∧ w.ownsRow w0.heap.size 5 1 v' (l ++ s).length (Lib.byteCells (l ++ s))) (put0 st v')) (hm0 : st.mem = [] := by kernel_rfl)
    (ho : (nextOp st).map (fun q => execOp (evalL st.tmps) q.2.1) = some (vS (Builtin.append_ #[35, 9] 35 #[v, strV s])) := by kernel_rfl) (hw : wants st = true := by kernel_rfl) : Goes Tryd.prog F Inv st := by
  refine Goes.eff (Builtin.append_ #[35, 9] 35 #[v, strV s]) (ho := ho) (hw := hw) fun w hm hnd hS => ?_
  obtain ⟨hc, hown⟩ := hI w hS.now
  obtain ⟨v', w', hrun, hown', hgr⟩ := Go.Proofs.YtommhgmlblecnaaDoor.app7 hown hc.size hn
  have hch : Ch [] w0 w' := ⟨hgr.os.trans hc.os, hgr.tape.trans hc.tape, hgr.output.trans hc.output, Nat.le_trans hc.size hgr.size, fun i hi hx => by
    rw [hgr.block i (Nat.lt_of_lt_of_le hi hc.size) ?_]
    · exact hc.block i hi hx
    · intro e
      rcases hown.2 with ⟨rfl, -⟩ | ⟨g, cap, cur, rfl, hg, -⟩
      · simp [Value.ownBlock] at e
      · simp [Value.ownBlock] at e
        omega⟩
  refine ⟨v', w', fun w => Ch [] w0 w ∧ w.ownsRow w0.heap.size 5 1 v' (l ++ s).length (Lib.byteCells (l ++ s)), [], hrun, fun j b o hj => by simp at hj, by simp [Mem.ids], fun w2 hc2 => ⟨hch.trans hc2 (fun x hx => by simp [Mem.ids] at hx), ?_⟩, by have := h v'; unfold put0 at this; rw [hm0] at this; exact this⟩
  have := own_ch hown' hc2 (fun x hx => by simp [Mem.ids] at hx)
  rw [List.length_append]
  exact this
/-- What opens makes. -/
def opT (n : Nat) (a b : List UInt8) : List UInt8 := (List.replicate n a).flatten ++ [49] ++ (List.replicate n b).flatten
theorem rep_snoc (j : Nat) (a : List UInt8) : (List.replicate (j + 1) a).flatten = (List.replicate j a).flatten ++ a := by
  rw [List.replicate_succ', List.flatten_append]
  simp
theorem rep_len (j : Nat) (a : List UInt8) : ((List.replicate j a).flatten).length = j * a.length := by
  induction j with
  | zero => simp
  | succ j ih => rw [rep_snoc, List.length_append, ih, Nat.succ_mul]
set_option maxRecDepth 100000 in
set_option maxHeartbeats 2000000 in
seal rn Goes ans atEnd put0 putM opened putA0 oneSt st0 keep putA in
theorem opens_any (n : Nat) (a b : List UInt8) (hn : n ≤ 400) (ha : a.length ≤ 10) (hb : b.length ≤ 10) (w : World) : Calls Tryd.prog 6 #[.int .i64 n, strV a, strV b] w fun e w' => e = .returned (strV (opT n a b)) ∧ Below w.heap.size w w' := by
  have hla : ∀ j, j ≤ n → j * a.length ≤ 4000 := fun j hj => Nat.le_trans (Nat.mul_le_mul (Nat.le_trans hj hn) ha) (by decide)
  have hlb : ∀ j, j ≤ n → j * b.length ≤ 4000 := fun j hj => Nat.le_trans (Nat.mul_le_mul (Nat.le_trans hj hn) hb) (by decide)
  refine Goes.begin Tryd.func6 [] (fun _ => True) (fun j b o h => by cases h) (by simp [Mem.ids]) (fun _ _ => trivial) ?_
  refine Goes.run [] [] trivial ?_
  refine Goes.loop (α := Nat × Value) 30 (fun q => [(0, .int .i64 n), (1, strV a), (2, strV b), (7, q.2), (8, .int .i64 q.1)]) (fun _ => []) (fun q w' => Ch [] w w' ∧ w'.ownsRow w.heap.size 5 1 q.2 ((List.replicate q.1 a).flatten).length (Lib.byteCells (List.replicate q.1 a).flatten)) (fun q => q.1 ≤ n) (fun q => n - q.1) (0, .slice none 0 0) (Nat.zero_le _) (fun w' h => ⟨h.1, by simp [Lib.byteCells], .inl ⟨rfl, rfl⟩⟩) ?_
  rintro ⟨j, v⟩ J hj back
  simp only at hj back ⊢
  cases hlt : decide ((j : Int) < (n : Int)) with
  | true =>
    have hjl : j < n := by have := of_decide_eq_true hlt; omega
    refine Goes.run [0, 1] [(decide ((j : Int) < (n : Int)), true)] ⟨hlt, trivial⟩ ?_
    refine Goes.app7 (w0 := w) (v := v) (l := (List.replicate j a).flatten) (s := a) (fun w' h => h) (by rw [rep_len]; have := hla j hj; omega) fun v' => ?_
    refine Goes.run [] [] trivial ?_
    refine Goes.slot 8 (.int .i64 (j + 1 : Nat)) (u := .int .i64 (IntKind.i64.wrap ((j : Int) + 1))) (congrArg _ (wrap_nat (by omega))) ?_
    refine Goes.inv (fun w' h => ?_) (back (j + 1, v') _ hjl (by show n - (j + 1) < n - j; omega) (by kernel_rfl) (by kernel_rfl) (by kernel_rfl))
    simp only
    rw [rep_snoc]
    exact h
  | false =>
    obtain rfl : j = n := by have := of_decide_eq_false hlt; omega
    refine Goes.run [0, 0] [(decide ((j : Int) < (j : Int)), false)] ⟨hlt, trivial⟩ ?_
    refine Goes.app7 (w0 := w) (v := v) (l := (List.replicate j a).flatten) (s := [49]) (fun w' h => h) (by rw [rep_len]; have := hla j hj; simp; omega) fun v' => ?_
    refine Goes.run [] [] trivial ?_
    refine Goes.loop (α := Nat × Value) 30 (fun q => [(0, .int .i64 j), (2, strV b), (7, q.2), (9, .int .i64 q.1)]) (fun _ => []) (fun q w' => Ch [] w w' ∧ w'.ownsRow w.heap.size 5 1 q.2 ((List.replicate j a).flatten ++ [49] ++ (List.replicate q.1 b).flatten).length (Lib.byteCells ((List.replicate j a).flatten ++ [49] ++ (List.replicate q.1 b).flatten))) (fun q => q.1 ≤ j) (fun q => j - q.1) (0, v') (Nat.zero_le _) (fun w' h => by simpa using h) ?_
    rintro ⟨i, u⟩ J' hi back'
    simp only at hi back' ⊢
    cases hlt2 : decide ((i : Int) < (j : Int)) with
    | true =>
      have hil : i < j := by have := of_decide_eq_true hlt2; omega
      refine Goes.run [0, 1] [(decide ((i : Int) < (j : Int)), true)] ⟨hlt2, trivial⟩ ?_
      refine Goes.app7 (w0 := w) (v := u) (l := (List.replicate j a).flatten ++ [49] ++ (List.replicate i b).flatten) (s := b) (fun w' h => h) (by have := hla j (Nat.le_refl _); have := hlb i hi; simp only [List.length_append, rep_len, List.length_singleton]; omega) fun u' => ?_
      refine Goes.run [] [] trivial ?_
      refine Goes.slot 9 (.int .i64 (i + 1 : Nat)) (u := .int .i64 (IntKind.i64.wrap ((i : Int) + 1))) (congrArg _ (wrap_nat (by omega))) ?_
      refine Goes.inv (fun w' h => ?_) (back' (i + 1, u') _ hil (by show j - (i + 1) < j - i; omega) (by kernel_rfl) (by kernel_rfl) (by kernel_rfl))
      simp only
      rw [rep_snoc, ← List.append_assoc]
      exact h
    | false =>
      obtain rfl : i = j := by have := of_decide_eq_false hlt2; omega
      refine Goes.run [0, 0] [(decide ((i : Int) < (i : Int)), false)] ⟨hlt2, trivial⟩ ?_
      refine Goes.val (convert 35 9 u) (strV (opT i a b)) (fun w' _ hI => conv_own7 (l := opT i a b) hI.now.2 (by simp [opT])) ?_
      refine Goes.run [] [] trivial ?_
      exact Goes.ret [] (strV (opT i a b)) fun w' hm hI => ⟨rfl, ch_below hI.now.1⟩
theorem opT_P (n : Nat) : opT n [40] [41] = txP n := by
  have key : ∀ (c : UInt8) (n : Nat), (List.replicate n [c]).flatten = List.replicate n c := by
    intro c n
    induction n with
    | zero => rfl
    | succ n ih => rw [List.replicate_succ, List.replicate_succ, List.flatten_cons, ih]; rfl
  unfold opT txP
  rw [key, key]
  simp
theorem opT_Q (n : Nat) : opT n oneS [] = txQ n := by
  unfold opT txQ
  simp
set_option maxRecDepth 100000 in
set_option maxHeartbeats 2000000 in
seal rn Goes ans atEnd put0 putM opened putA0 oneSt st0 keep putA prt whP in
theorem deep_any (n : Int) (w : World) (ht : Tab w) : Calls Tryd.prog 3 #[.int .i64 n] w fun e w' => e = .returned (.bool true) ∧ Below w.heap.size w w' := by
  refine Goes.begin Tryd.func3 [] Tab (fun j b o h => by cases h) (by simp [Mem.ids]) ht.stay ?_
  refine Goes.run [] [] trivial ?_
  refine Goes.call0 4 #[] (.bool true) (fun w' _ hI => shown7_any w' hI.now.2) ?_
  cases h0 : decide (n < 0) with
  | true =>
    refine Goes.run [1, 1] [(true, true), (decide (n < 0), true)] ⟨rfl, h0, trivial⟩ ?_
    exact Goes.ret [] (.bool true) fun w' hm hI => ⟨rfl, ch_below hI.now.1⟩
  | false =>
  cases h4 : decide (n > 400) with
  | true =>
    refine Goes.run [0, 1] [(decide (n > 400), true), (decide (n < 0), false)] ⟨h4, h0, trivial⟩ ?_
    exact Goes.ret [] (.bool true) fun w' hm hI => ⟨rfl, ch_below hI.now.1⟩
  | false =>
  obtain ⟨m, rfl⟩ : ∃ m : Nat, n = m := ⟨n.toNat, by have := of_decide_eq_false h0; omega⟩
  have hm4 : m ≤ 400 := by have := of_decide_eq_false h4; omega
  have hP := deepP m hm4
  have hQ := deepQ m hm4
  obtain ⟨U, hU⟩ : ∃ U, whP xprP (txP m) = U := ⟨_, rfl⟩
  obtain ⟨V, hV⟩ : ∃ V, whP xprP (txQ m) = V := ⟨_, rfl⟩
  rw [hU] at hP
  rw [hV] at hQ
  refine Goes.run [0, 0] [(decide ((m : Int) > 400), false), (decide ((m : Int) < 0), false)] ⟨h4, h0, trivial⟩ ?_
  refine Goes.call0 6 #[.int .i64 m, strV [40], strV [41]] (strV (txP m)) (fun w' _ _ => opT_P m ▸ opens_any m [40] [41] hm4 (by decide) (by decide) w') ?_
  refine Goes.run [] [] trivial ?_
  refine Goes.callG [] 5 #[strV (txP m)] fun w1 hm1 hI1 => (xexpr_any _ w1 hI1.now.2 (L := []) (fun x hx => by simp at hx)).mono fun _ w2 ⟨u, e1, hB, hS⟩ => ⟨_, fun _ => True, e1, hB, fun _ _ => trivial, ?_⟩
  rw [hU]
  refine Goes.run1 [0] [] trivial fun g1 => ?_
  refine Goes.call0 6 #[.int .i64 m, strV oneS, strV []] (strV (txQ m)) (fun w' _ _ => opT_Q m ▸ opens_any m oneS [] hm4 (by decide) (by decide) w') ?_
  refine Goes.run [] [] trivial ?_
  refine Goes.callG [g1] 5 #[strV (txQ m)] fun w1 hm1 hI1 => (xexpr_any _ w1 hI1.now.1.2 (L := []) (fun x hx => by simp at hx)).mono fun _ w2 ⟨v, e1, hB, hS⟩ => ⟨_, fun _ => True, e1, hB, fun _ _ => trivial, ?_⟩
  rw [hV]
  have hw : IntKind.i64.wrap ((m : Int) + 1) = ((m + 1 : Nat) : Int) := wrap_nat (by omega)
  rcases Nat.lt_or_ge 300 (m + 1) with hA | hA
  · have eU := hP.2 hA
    have eV := hQ.2 (by omega)
    rw [eU, eV]
    have a1 : decide (IntKind.i64.wrap ((m : Int) + 1) ≤ 300) = false := decide_eq_false (by rw [hw]; omega)
    have a2 : decide (IntKind.i64.wrap ((m : Int) + 1) > 300) = true := decide_eq_true (by rw [hw]; omega)
    have a3 : decide (IntKind.i64.wrap ((m : Int) + 1) ≤ 100) = false := decide_eq_false (by rw [hw]; omega)
    have a4 : decide (IntKind.i64.wrap ((m : Int) + 1) > 100) = true := decide_eq_true (by rw [hw]; omega)
    refine Goes.run1 [1, 0, 0, 1, 0, 0, 1, 0, 0, 1, 1] [(true, true), (decide (IntKind.i64.wrap ((m : Int) + 1) > 100), true), (false, false), (decide (IntKind.i64.wrap ((m : Int) + 1) ≤ 100), false), (true, true), (false, false), (false, false), (decide (IntKind.i64.wrap ((m : Int) + 1) > 300), true), (false, false), (decide (IntKind.i64.wrap ((m : Int) + 1) ≤ 300), false)] ⟨rfl, a4, rfl, a3, rfl, rfl, rfl, a2, rfl, a1, trivial⟩ fun g2 => ?_
    exact Goes.ret [] (.bool true) fun w' hm hI => ⟨rfl, ch_below hI.now.1.1.1⟩
  · have eU := hP.1 hA
    rw [eU]
    have a1 : decide (IntKind.i64.wrap ((m : Int) + 1) ≤ 300) = true := decide_eq_true (by rw [hw]; omega)
    have a2 : decide (IntKind.i64.wrap ((m : Int) + 1) > 300) = false := decide_eq_false (by rw [hw]; omega)
    rcases Nat.lt_or_ge 100 (m + 1) with hC | hC
    · have eV := hQ.2 hC
      rw [eV]
      have a3 : decide (IntKind.i64.wrap ((m : Int) + 1) ≤ 100) = false := decide_eq_false (by rw [hw]; omega)
      have a4 : decide (IntKind.i64.wrap ((m : Int) + 1) > 100) = true := decide_eq_true (by rw [hw]; omega)
      refine Goes.run1 [1, 1, 0, 0, 0, 1, 0, 0, 1, 1] [(true, true), (decide (IntKind.i64.wrap ((m : Int) + 1) > 100), true), (false, false), (decide (IntKind.i64.wrap ((m : Int) + 1) ≤ 100), false), (true, true), (false, false), (decide (IntKind.i64.wrap ((m : Int) + 1) > 300), false), (false, false), (decide (IntKind.i64.wrap ((m : Int) + 1) ≤ 300), true)] ⟨rfl, a4, rfl, a3, rfl, rfl, a2, rfl, a1, trivial⟩ fun g2 => ?_
      exact Goes.ret [] (.bool true) fun w' hm hI => ⟨rfl, ch_below hI.now.1.1.1⟩
    · have eV := hQ.1 hC
      rw [eV]
      have a3 : decide (IntKind.i64.wrap ((m : Int) + 1) ≤ 100) = true := decide_eq_true (by rw [hw]; omega)
      refine Goes.run1 [1, 1, 0, 0, 0, 1, 1, 1] [(true, true), (decide (IntKind.i64.wrap ((m : Int) + 1) ≤ 100), true), (true, true), (false, false), (decide (IntKind.i64.wrap ((m : Int) + 1) > 300), false), (false, false), (decide (IntKind.i64.wrap ((m : Int) + 1) ≤ 300), true)] ⟨rfl, a3, rfl, rfl, a2, rfl, a1, trivial⟩ fun g2 => ?_
      exact Goes.ret [] (.bool true) fun w' hm hI => ⟨rfl, ch_below hI.now.1.1.1⟩
theorem syntaxDeep_walk (n : Int) (w : World) (ht : Tab w) (_ : -9223372036854775808 ≤ n) (_ : n ≤ 9223372036854775807) : Calls Tryd.prog 3 #[.int .i64 n] w fun e w' => e = .returned (.bool true) ∧ Below w.heap.size w w' := deep_any n w ht
end Go.Proofs.YtommhgmlblecnaaDoor
