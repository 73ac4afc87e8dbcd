/- texts put together: NEq NA NB NReck NTold NVal NVal2 NVal3 -/
import Derived.Test.YthnojedlndblbaaGreatDoorNGc
import Derived.Laws.StructEq
import Derived.Test.YthnojedlndblbaaGreatDoorNGf
import Derived.Test.YthnojedlndblbaaGreatDoorNGd
import Derived.Test.YthnojedlndblbaaGreatDoorNGb
import Derived.Test.YthnojedlndblbaaGreatDoorShelf
namespace Go.Proofs.YthnojedlndblbaaGreatDoor
open Go Go.RowKit

theorem eqLv (a b c d : Int) (w : World) : (Op.equalIn 10000 70 (.agg #[.int .i64 a, .int .i64 b]) (.agg #[.int .i64 c, .int .i64 d])).run Tryz.prog w = .ok (a == c && b == d) w := by
  have u3 := Tryz.underlying3
  have a3 := Tryz.isAgg3
  have z3 := Tryz.sizeOf3
  have u2 := Tryz.underlying2
  have a2 := Tryz.isAgg2
  have z2 := Tryz.sizeOf2
  have hS : Tryz.prog.underlying 70 = some (.struct (Tryz.prog.fieldsOf 70)) := by kernel_rfl
  rw [show (10000 : Nat) = 9999 + 1 from rfl, run_equalIn_agg w 9999 70 _ _ hS (by kernel_rfl)]
  simp only [Program.fieldsOf, Tryz.underlying70]
  go_simp
  by_cases h1 : a = c <;> by_cases h2 : b = d <;> simp [h1, h2]
theorem eqCh (a : List UInt8) (b : Int) (c : List UInt8) (d : Int) (w : World) : (Op.equalIn 10000 38 (.agg #[strV a, .int .i64 b]) (.agg #[strV c, .int .i64 d])).run Tryz.prog w = .ok (decide (a = c) && b == d) w := by
  have u3 := Tryz.underlying3
  have a3 := Tryz.isAgg3
  have z3 := Tryz.sizeOf3
  have u2 := Tryz.underlying9
  have a2 := Tryz.isAgg9
  have z2 := Tryz.sizeOf9
  have hS : Tryz.prog.underlying 38 = some (.struct (Tryz.prog.fieldsOf 38)) := by kernel_rfl
  rw [show (10000 : Nat) = 9999 + 1 from rfl, run_equalIn_agg w 9999 38 _ _ hS (by kernel_rfl)]
  simp only [Program.fieldsOf, Tryz.underlying38]
  unfold strV
  go_simp
  by_cases h1 : a = c <;> by_cases h2 : b = d <;> simp [h1, h2]
theorem eqTr (a : Int) (s : List UInt8) (b : Int) (c : Int) (t : List UInt8) (d : Int) (w : World) : (Op.equalIn 10000 50 (.agg #[.int .i64 a, strV s, .int .i64 b]) (.agg #[.int .i64 c, strV t, .int .i64 d])).run Tryz.prog w = .ok (a == c && decide (s = t) && b == d) w := by
  have u3 := Tryz.underlying3
  have a3 := Tryz.isAgg3
  have z3 := Tryz.sizeOf3
  have u2 := Tryz.underlying9
  have a2 := Tryz.isAgg9
  have z2 := Tryz.sizeOf9
  have u1 := Tryz.underlying2
  have a1 := Tryz.isAgg2
  have z1 := Tryz.sizeOf2
  have hS : Tryz.prog.underlying 50 = some (.struct (Tryz.prog.fieldsOf 50)) := by kernel_rfl
  rw [show (10000 : Nat) = 9999 + 1 from rfl, run_equalIn_agg w 9999 50 _ _ hS (by kernel_rfl)]
  simp only [Program.fieldsOf, Tryz.underlying50]
  unfold strV
  go_simp
  by_cases h1 : a = c <;> by_cases h2 : b = d <;> by_cases h3 : s = t <;> simp [h1, h2, h3]
theorem eql_agg {t : TypeId} {xs ys : Array Value} {b : Bool} (x y : Operand) (hg : Tryz.prog.eqGuardType Tryz.prog.depth t = false) {w : World} (h : (Op.equalIn 10000 t (.agg xs) (.agg ys)).run Tryz.prog w = .ok b w) : (do eqGuard .eql t x y (.agg xs) (.agg ys); binOp .eql t (.agg xs) (.agg ys) : Sem Value).run Tryz.prog w = .ok (.bool b) w := by
  simp only [Sem.run_bind, run_eqGuard_agg w .eql t x y xs ys hg, Result.andThen_ok, run_eql_struct, h]
theorem neq_agg {t : TypeId} {xs ys : Array Value} {b : Bool} (x y : Operand) (hg : Tryz.prog.eqGuardType Tryz.prog.depth t = false) {w : World} (h : (Op.equalIn 10000 t (.agg xs) (.agg ys)).run Tryz.prog w = .ok b w) : (do eqGuard .neq t x y (.agg xs) (.agg ys); binOp .neq t (.agg xs) (.agg ys) : Sem Value).run Tryz.prog w = .ok (.bool (!b)) w := by
  simp only [Sem.run_bind, run_eqGuard_agg w .neq t x y xs ys hg, Result.andThen_ok, run_neq_struct, h]
end Go.Proofs.YthnojedlndblbaaGreatDoor
namespace Go.Proofs.YthnojedlndblbaaGreatDoor
open Go Go.RowKit

/-- A world: a day and feeds. -/
def dwV (day : Int) (fv : Value) : Value := .agg #[.int .i64 day, fv]
def dwO (day : Int) (fv : Value) : Obj := .cells #[.int .i64 day, fv] 54 (0, 0)
def dayP (d : Int) : Bool := decide (0 ≤ d) && decide (d ≤ 73048)
def numP (n : Int) : Bool := decide (-1000000000000000 ≤ n) && decide (n ≤ 1000000000000000)
theorem numP_in {n : Int} : numP n = true ↔ inM n := by
  unfold numP inM
  simp
theorem clamp_num (n : Int) : (clampI n == n) = numP n := by
  cases h : numP n with
  | true => have := numP_in.1 h; rw [clampI_in this.1 this.2]; simp
  | false =>
    refine beq_false_of_ne fun e => ?_
    have : inM n := by rw [← e]; exact ⟨clampI_ge n, clampI_le n⟩
    rw [numP_in.2 this] at h
    cases h
set_option maxRecDepth 100000 in
seal rn rnN rnS Goes ans atEnd put0 putM opened openedY putA0 putA oneSt st0 in
theorem pday_any (d : Int) (w : World) : Calls Tryz.prog 40 #[.int .i64 d] w fun e w' => e = .returned (.bool (dayP d)) ∧ Below w.heap.size w w' := by
  refine Goes.begin Tryz.func40 [] (fun _ => True) Holds.nil (by simp [Mem.ids]) (fun _ _ => trivial) ?_
  cases h : decide (0 ≤ d) with
  | true =>
    refine Goes.run [1] [(decide (0 ≤ d), true)] ⟨h, trivial⟩ ?_
    exact Goes.ret [] (.bool (decide (d ≤ 73048))) fun w' hm hI => ⟨by rw [dayP, h, Bool.true_and], bel0 hI⟩
  | false =>
    refine Goes.run [0] [(decide (0 ≤ d), false)] ⟨h, trivial⟩ ?_
    exact Goes.ret [] (.bool false) fun w' hm hI => ⟨by rw [dayP, h, Bool.false_and], bel0 hI⟩
set_option maxRecDepth 100000 in
seal rn rnN rnS Goes ans atEnd put0 putM opened openedY putA0 putA oneSt st0 in
theorem pnum_any (n : Int) (w : World) : Calls Tryz.prog 64 #[.int .i64 n] w fun e w' => e = .returned (.bool (numP n)) ∧ Below w.heap.size w w' := by
  refine Goes.begin Tryz.func64 [] (fun _ => True) Holds.nil (by simp [Mem.ids]) (fun _ _ => trivial) ?_
  refine Goes.run [] [] trivial ?_
  refine Goes.call0 94 #[.int .i64 n] (.int .i64 (clampI n)) (fun w' _ _ => (clamp_any n w').mono fun _ _ h => belQ h) ?_
  refine Goes.run [] [] trivial ?_
  exact Goes.ret [] (.bool (clampI n == n)) fun w' hm hI => ⟨by rw [clamp_num], bel0 hI⟩
theorem leafC {w : World} {op k : Int} {s : List UInt8} (hf : Fits op k s) : Nc w.heap.size w (cv op k s (.slice none 0 0)) (.mk op k s []) := Nc.mk op k s [] none 0 (fun _ => undef) hf ⟨by simp, by omega⟩ (fun i h => absurd h (by simp)) (fun i t h => by simp at h)
theorem typ_name (s : List UInt8) : (typP (.mk 4 0 s [])).2 = namP s := by
  rw [← rty_eq]
  unfold rtyP
  have h1 : smaP (.mk 4 0 s []) = true := by unfold smaP; rw [lefF, lefL]; rfl
  rw [h1, cond_true]
  have h2 : (typF 1 (.mk 4 0 s [])).2 = namP s := by
    rw [typF, tysF]
    have h3 : fldP 4 0 s = namP s := by unfold fldP; simp only [show ((4 : Int) == 4) = true from rfl, cond_true]; rw [show inW 0 (-3660) 3660 = true from rfl, Bool.and_true]
    rw [h3]
    cases namP s <;> rfl
  rw [h2]
  cases namP s <;> rfl
set_option maxRecDepth 100000 in
seal rn rnN rnS Goes ans atEnd put0 putM opened openedY putA0 putA oneSt st0 in
theorem pname_any (s : List UInt8) (w : World) (hs : s.length ≤ 9223372036854775807) : Calls Tryz.prog 63 #[strV s] w fun e w' => e = .returned (.bool (namP s)) ∧ Below w.heap.size w w' := by
  have hT := typ_name s
  obtain ⟨T, hT1⟩ : ∃ T, (typP (.mk 4 0 s [])).1 = T := ⟨_, rfl⟩
  refine Goes.begin Tryz.func63 [] (fun _ => True) Holds.nil (by simp [Mem.ids]) (fun _ _ => trivial) ?_
  refine Goes.run [] [] trivial ?_
  refine Goes.call0 21 #[cv 4 0 s (.slice none 0 0)] (.tuple #[.int .i64 T, .bool (namP s)]) (fun w' _ _ => by have := type_any (leafC (w := w') (op := 4) (k := 0) (s := s) ⟨by omega, by omega, hs⟩); rwa [hT, hT1] at this) ?_
  refine Goes.run [] [] trivial ?_
  exact Goes.ret [] (.bool (namP s)) fun w' hm hI => ⟨rfl, bel0 hI⟩
/-- A choice. -/
def chV (lab : List UInt8) (k : Int) : Value := .agg #[strV lab, .int .i64 k]
def chO (lab : List UInt8) (k : Int) : Obj := .cells #[strV lab, .int .i64 k] 38 (0, 0)
def rcP (lab : List UInt8) (k : Int) : Bool := (namP lab && (k == 1 || k == 2)) || (decide (lab = []) && k == 0)
set_option maxRecDepth 100000 in
seal rn rnN rnS Goes ans atEnd put0 putM opened openedY putA0 putA oneSt st0 in
theorem pchoice_any (lab : List UInt8) (k : Int) (w : World) (hs : lab.length ≤ 9223372036854775807) : Calls Tryz.prog 32 #[chV lab k] w fun e w' => e = .returned (.bool (rcP lab k)) ∧ Below w.heap.size w w' := by
  refine Goes.begin Tryz.func32 [] (fun _ => True) Holds.nil (by simp [Mem.ids]) (fun _ _ => trivial) ?_
  refine Goes.upto1 5 [0] [] trivial fun g => ?_
  refine Goes.val (do eqGuard .eql 38 (.tmp 3) (.tmp 4) (.agg #[strV lab, .int .i64 k]) (.agg #[strV [], .int .i64 0]); binOp .eql 38 (.agg #[strV lab, .int .i64 k]) (.agg #[strV [], .int .i64 0])) (.bool (decide (lab = []) && k == 0)) (fun w' _ _ => eql_agg _ _ (by kernel_rfl) (eqCh lab k [] 0 w')) ?_
  cases h0 : (decide (lab = []) && k == 0) with
  | true =>
    refine Goes.run [1] [(true, true)] ⟨rfl, trivial⟩ ?_
    exact Goes.ret [] (.bool true) fun w' hm hI => ⟨by rw [rcP, h0, Bool.or_true], bel0 hI⟩
  | false =>
    have hR : rcP lab k = (namP lab && (k == 1 || k == 2)) := by rw [rcP, h0, Bool.or_false]
    rw [hR]
    refine Goes.run [0, 0] [(false, false)] ⟨rfl, trivial⟩ ?_
    refine Goes.call0 63 #[strV lab] (.bool (namP lab)) (fun w' _ _ => pname_any lab w' hs) ?_
    cases h1 : namP lab with
    | false =>
      refine Goes.run [0] [(false, false)] ⟨rfl, trivial⟩ ?_
      exact Goes.ret [] (.bool false) fun w' hm hI => ⟨rfl, bel0 hI⟩
    | true =>
      cases h2 : (k == 1) with
      | true =>
        refine Goes.run [1, 0, 1] [(k == 1, true), (true, true)] ⟨h2, rfl, trivial⟩ ?_
        exact Goes.ret [] (.bool true) fun w' hm hI => ⟨rfl, bel0 hI⟩
      | false =>
        refine Goes.run [1, 0, 0, 0] [(k == 1, false), (true, true)] ⟨h2, rfl, trivial⟩ ?_
        exact Goes.ret [] (.bool (k == 2)) fun w' hm hI => ⟨rfl, bel0 hI⟩
end Go.Proofs.YthnojedlndblbaaGreatDoor
namespace Go.Proofs.YthnojedlndblbaaGreatDoor
open Go Go.RowKit

theorem loadAgg {t : TypeId} {n : Nat} (ha : ∀ w, (isAgg t).run Tryz.prog w = .ok true w) (hs : (Tryz.prog.info? t).map (·.size) = some n) {w : World} {b o : Nat} (l : List Value) (hl : l.length = n) (h : ∀ j x, l[j]? = some x → w.cell? ⟨b, o + j, none⟩ = some x) : (Instr.loadAt t (.pointer (some ⟨b, o, none⟩))).run Tryz.prog w = .ok (.agg l.toArray) w := by
  have hc := run_loadCells_list (P := Tryz.prog) w ⟨b, o, none⟩ l (fun j x hx => by rw [add_lit]; exact h j x hx)
  subst hl
  simp only [Instr.loadAt, Instr.sureAddr, Sem.run_bind, Sem.run_pure, Result.andThen, loadVar, ha, run_size hs, hc, if_true]
theorem cells2 {w : World} {b o : Nat} {x y : Value} (h0 : w.cell? ⟨b, o, none⟩ = some x) (h1 : w.cell? ⟨b, o + 1, none⟩ = some y) : ∀ j u, [x, y][j]? = some u → w.cell? ⟨b, o + j, none⟩ = some u := fun j u hu => by
  match j, hu with
  | 0, hu => cases hu; exact h0
  | 1, hu => cases hu; exact h1
theorem sizeF : (Tryz.prog.info? 79).map (·.size) = some 2 := by kernel_rfl
theorem sizeT : (Tryz.prog.info? 81).map (·.size) = some 2 := by kernel_rfl
theorem loadFd {w : World} {b o : Nat} {x y : Value} (h0 : w.cell? ⟨b, o, none⟩ = some x) (h1 : w.cell? ⟨b, o + 1, none⟩ = some y) : (Instr.loadAt 79 (.pointer (some ⟨b, o, none⟩))).run Tryz.prog w = .ok (.agg #[x, y]) w := loadAgg Tryz.isAgg79 sizeF [x, y] rfl (cells2 h0 h1)
theorem loadSt {w : World} {b o : Nat} {x y : Value} (h0 : w.cell? ⟨b, o, none⟩ = some x) (h1 : w.cell? ⟨b, o + 1, none⟩ = some y) : (Instr.loadAt 81 (.pointer (some ⟨b, o, none⟩))).run Tryz.prog w = .ok (.agg #[x, y]) w := loadAgg Tryz.isAgg81 sizeT [x, y] rfl (cells2 h0 h1)
theorem leP_eq (a b : List UInt8) : (decide (a < b) || decide (a = b)) = !(decide (b < a)) := by
  cases h : decide (b < a) with
  | true =>
    have h1 := of_decide_eq_true h
    rw [decide_eq_false (List.lt_asymm h1), decide_eq_false (fun e => by rw [e] at h1; exact List.lt_irrefl _ h1)]
    rfl
  | false =>
    have h1 := of_decide_eq_false h
    have h2 : a ≤ b := List.not_lt.1 h1
    by_cases h3 : a < b
    · rw [decide_eq_true h3]; rfl
    · have h4 : b ≤ a := List.not_lt.1 h3
      rw [decide_eq_true (List.le_antisymm h2 h4)]
      simp
theorem leqT (a b : List UInt8) (w : World) : (binOp .leq 9 (strV a) (strV b)).run Tryz.prog w = .ok (.bool (!(decide (b < a)))) w := by
  unfold strV
  rw [show binOp .leq 9 (.string ⟨a.toArray⟩) (.string ⟨b.toArray⟩) = pure (.bool (Op.bytesLess (ByteArray.mk a.toArray).toList (ByteArray.mk b.toArray).toList || (ByteArray.mk a.toArray).toList == (ByteArray.mk b.toArray).toList)) by simp [binOp, Op.stringOp], Go.Proofs.bytesLess_eq, Lib.toList_data, Lib.toList_data, ← leP_eq]
  have e : (a == b) = decide (a = b) := by by_cases h : a = b <;> simp [h]
  rw [← e]
  rfl
theorem geqT (a b : List UInt8) (w : World) : (binOp .geq 9 (strV a) (strV b)).run Tryz.prog w = .ok (.bool (!(decide (a < b)))) w := by
  unfold strV
  rw [show binOp .geq 9 (.string ⟨a.toArray⟩) (.string ⟨b.toArray⟩) = pure (.bool !(Op.bytesLess (ByteArray.mk a.toArray).toList (ByteArray.mk b.toArray).toList)) by simp [binOp, Op.stringOp], Go.Proofs.bytesLess_eq, Lib.toList_data, Lib.toList_data]
  rfl
/-- Stamps behind a day. -/
def stOk (last : Int) : List (Int × Int) → Bool
  | [] => true
  | q :: r => (!decide (q.1 ≤ last) && dayP q.1 && numP q.2) && stOk q.1 r
def stmP (l : List (Int × Int)) : Bool := decide (l.length ≤ 4096) && stOk (-1) l
/-- Feeds behind a name. -/
def fdOk (last : List UInt8) : Fs → Bool
  | [] => true
  | f :: r => (decide (last < f.1) && namP f.1 && stmP f.2) && fdOk f.1 r
def rfP (fs : Fs) : Bool := decide (fs.length ≤ 64) && fdOk [] fs
set_option maxRecDepth 100000 in
seal rn rnN rnS Goes ans atEnd put0 putM opened openedY putA0 putA oneSt st0 keep in
theorem pstamps_any {l : List (Int × Int)} {v : Value} {w : World} (hS : Sts w.heap.size w v l) : Calls Tryz.prog 70 #[v] w fun e w' => e = .returned (.bool (stmP l)) ∧ Below w.heap.size w w' := by
  obtain ⟨a, c, rfl, hc, hst⟩ := hS
  obtain ⟨N, hN⟩ : ∃ N, l.length = N := ⟨_, rfl⟩
  rw [hN] at hc ⊢
  refine Goes.begin Tryz.func70 [] (fun _ => True) Holds.nil (by simp [Mem.ids]) (fun _ _ => trivial) ?_
  cases h0 : decide ((N : Int) > 4096) with
  | true =>
    refine Goes.run [1] [(decide ((N : Int) > 4096), true)] ⟨h0, trivial⟩ ?_
    exact Goes.ret [] (.bool false) fun w' hm hI => ⟨by unfold stmP; rw [hN, decide_eq_false (by have := of_decide_eq_true h0; omega)]; rfl, bel0 hI⟩
  | false =>
    have hW : stmP l = stOk (-1) l := by unfold stmP; rw [hN, decide_eq_true (by have := of_decide_eq_false h0; omega), Bool.true_and]
    rw [hW]
    refine Goes.run [0] [(decide ((N : Int) > 4096), false)] ⟨h0, trivial⟩ ?_
    refine Goes.loop0 (α := Nat × Int) 34 (fun q => [(3, .int .i64 q.2), (9, .slice a N c), (10, .int .i64 N), (11, .int .i64 q.1)]) [] (fun q => q.1 ≤ N ∧ stOk (-1) l = stOk q.2 (l.drop q.1)) (fun q => N - q.1) (0, -1) ⟨Nat.zero_le _, rfl⟩ ?_
    rintro ⟨i, last⟩ J ⟨hi, hrest⟩ back
    simp only at hi hrest back ⊢
    cases hlt : decide ((i : Int) < (N : Int)) with
    | false =>
      refine Goes.run [0, 0] [(decide ((i : Int) < (N : Int)), false)] ⟨hlt, trivial⟩ ?_
      exact Goes.ret [] (.bool true) fun w' hm hI => ⟨by rw [hrest, List.drop_of_length_le (by have := of_decide_eq_false hlt; omega)]; rfl, bel0 hI⟩
    | true =>
      have hil : i < N := by have := of_decide_eq_true hlt; omega
      obtain ⟨q, hq⟩ : ∃ q, l[i]? = some q := ⟨l[i]'(by omega), by simp⟩
      obtain ⟨b, o, rfl, hb, x1, x2⟩ := hst i q hq
      have hd := drop_any hq
      have hR : stOk (-1) l = ((!decide (q.1 ≤ last) && dayP q.1 && numP q.2) && stOk q.1 (l.drop (i + 1))) := by rw [hrest, hd, stOk]
      refine Goes.run [0, 1] [(decide ((i : Int) < (N : Int)), true)] ⟨hlt, trivial⟩ ?_
      refine Goes.val (Instr.indexAt 77 (.slice (some ⟨b, o, none⟩) N c) (.int .i64 i)) (.pointer (some ⟨b, o + i * 2, none⟩)) (fun w' _ _ => idxT b o N c i hil w') ?_
      refine Goes.val (Instr.loadAt 81 (.pointer (some ⟨b, o + i * 2, none⟩))) (.agg #[.int .i64 q.1, .int .i64 q.2]) (fun w' _ hI => loadSt (((bel0 hI).cell (p := ⟨b, o + i * 2, none⟩) hb).trans x1) (((bel0 hI).cell (p := ⟨b, o + i * 2 + 1, none⟩) hb).trans x2)) ?_
      cases h1 : decide (q.1 ≤ last) with
      | true =>
        refine Goes.run1 [0, 0, 1, 1, 1] [(true, true), (true, true), (decide (q.1 ≤ last), true)] ⟨rfl, rfl, h1, trivial⟩ fun g => ?_
        exact Goes.ret [] (.bool false) fun w' hm hI => ⟨by rw [hR, h1]; rfl, bel0 hI⟩
      | false =>
        refine Goes.run1 [0, 0, 0, 0] [(decide (q.1 ≤ last), false)] ⟨h1, trivial⟩ fun g => ?_
        refine Goes.call0 40 #[.int .i64 q.1] (.bool (dayP q.1)) (fun w' _ _ => pday_any q.1 w') ?_
        cases h2 : dayP q.1 with
        | false =>
          refine Goes.run [1, 1] [(true, true), (true, true)] ⟨rfl, rfl, trivial⟩ ?_
          exact Goes.ret [] (.bool false) fun w' hm hI => ⟨by rw [hR, h1, h2]; rfl, bel0 hI⟩
        | true =>
          refine Goes.run [0, 0] [(false, false)] ⟨rfl, trivial⟩ ?_
          refine Goes.call0 64 #[.int .i64 q.2] (.bool (numP q.2)) (fun w' _ _ => pnum_any q.2 w') ?_
          cases h3 : numP q.2 with
          | false =>
            refine Goes.run [1] [(true, true)] ⟨rfl, trivial⟩ ?_
            exact Goes.ret [] (.bool false) fun w' hm hI => ⟨by rw [hR, h1, h2, h3]; rfl, bel0 hI⟩
          | true =>
            refine Goes.run [0, 0] [(false, false)] ⟨rfl, trivial⟩ ?_
            refine Goes.slot 11 (.int .i64 (i + 1 : Nat)) (u := .int .i64 (IntKind.i64.wrap ((i : Int) + 1))) (congrArg _ (wrap_nat (by omega))) ?_
            refine Goes.keep 0 ?_
            exact back (i + 1, q.1) _ ⟨hil, by rw [hR, h1, h2, h3]; rfl⟩ (by simp only; omega) (by kernel_rfl) (by kernel_rfl) (by kernel_rfl)
set_option maxRecDepth 100000 in
seal rn rnN rnS Goes ans atEnd put0 putM opened openedY putA0 putA oneSt st0 keep in
theorem pfeeds_any {fs : Fs} {v : Value} {w : World} (hF : Fds w.heap.size w v fs) (hl : ∀ f ∈ fs, f.1.length ≤ 9223372036854775807) : Calls Tryz.prog 41 #[v] w fun e w' => e = .returned (.bool (rfP fs)) ∧ Below w.heap.size w w' := by
  obtain ⟨a, c, rfl, hc, hfs⟩ := hF
  obtain ⟨N, hN⟩ : ∃ N, fs.length = N := ⟨_, rfl⟩
  rw [hN] at hc ⊢
  refine Goes.begin Tryz.func41 [] (fun _ => True) Holds.nil (by simp [Mem.ids]) (fun _ _ => trivial) ?_
  cases h0 : decide ((N : Int) > 64) with
  | true =>
    refine Goes.run [1] [(decide ((N : Int) > 64), true)] ⟨h0, trivial⟩ ?_
    exact Goes.ret [] (.bool false) fun w' hm hI => ⟨by unfold rfP; rw [hN, decide_eq_false (by have := of_decide_eq_true h0; omega)]; rfl, bel0 hI⟩
  | false =>
    have hW : rfP fs = fdOk [] fs := by unfold rfP; rw [hN, decide_eq_true (by have := of_decide_eq_false h0; omega), Bool.true_and]
    rw [hW]
    refine Goes.run [0] [(decide ((N : Int) > 64), false)] ⟨h0, trivial⟩ ?_
    refine Goes.loop0 (α := Nat × List UInt8) 34 (fun q => [(3, strV q.2), (9, .slice a N c), (10, .int .i64 N), (11, .int .i64 q.1)]) [] (fun q => q.1 ≤ N ∧ fdOk [] fs = fdOk q.2 (fs.drop q.1)) (fun q => N - q.1) (0, []) ⟨Nat.zero_le _, rfl⟩ ?_
    rintro ⟨i, last⟩ J ⟨hi, hrest⟩ back
    simp only at hi hrest back ⊢
    cases hlt : decide ((i : Int) < (N : Int)) with
    | false =>
      refine Goes.run [0, 0] [(decide ((i : Int) < (N : Int)), false)] ⟨hlt, trivial⟩ ?_
      exact Goes.ret [] (.bool true) fun w' hm hI => ⟨by rw [hrest, List.drop_of_length_le (by have := of_decide_eq_false hlt; omega)]; rfl, bel0 hI⟩
    | true =>
      have hil : i < N := by have := of_decide_eq_true hlt; omega
      obtain ⟨f, hf⟩ : ∃ f, fs[i]? = some f := ⟨fs[i]'(by omega), by simp⟩
      have hfm := List.mem_of_getElem? hf
      obtain ⟨b, o, u, rfl, hb, x1, x2, hst⟩ := hfs i f hf
      have hd := drop_any hf
      have hR : fdOk [] fs = ((decide (last < f.1) && namP f.1 && stmP f.2) && fdOk f.1 (fs.drop (i + 1))) := by rw [hrest, hd, fdOk]
      have hu : ∃ a2 M c2, u = .slice a2 M c2 := by obtain ⟨a2, c2, e, -⟩ := hst; exact ⟨a2, _, c2, e⟩
      obtain ⟨a2, M, c2, rfl⟩ := hu
      refine Goes.run [0, 1] [(decide ((i : Int) < (N : Int)), true)] ⟨hlt, trivial⟩ ?_
      refine Goes.val (Instr.indexAt 25 (.slice (some ⟨b, o, none⟩) N c) (.int .i64 i)) (.pointer (some ⟨b, o + i * 2, none⟩)) (fun w' _ _ => idxF b o N c i hil w') ?_
      refine Goes.val (Instr.loadAt 79 (.pointer (some ⟨b, o + i * 2, none⟩))) (.agg #[strV f.1, .slice a2 M c2]) (fun w' _ hI => loadFd (((bel0 hI).cell (p := ⟨b, o + i * 2, none⟩) hb).trans x1) (((bel0 hI).cell (p := ⟨b, o + i * 2 + 1, none⟩) hb).trans x2)) ?_
      refine Goes.upto1 18 [0, 0] [] trivial fun g => ?_
      refine Goes.val (binOp .leq 9 (strV f.1) (strV last)) (.bool (!(decide (last < f.1)))) (fun w' _ _ => leqT f.1 last w') ?_
      cases h1 : decide (last < f.1) with
      | false =>
        refine Goes.run [1, 1, 1] [(true, true), (true, true), (true, true)] ⟨rfl, rfl, rfl, trivial⟩ ?_
        exact Goes.ret [] (.bool false) fun w' hm hI => ⟨by rw [hR, h1]; rfl, bel0 hI⟩
      | true =>
        refine Goes.run [0, 0] [(false, false)] ⟨rfl, trivial⟩ ?_
        refine Goes.call0 63 #[strV f.1] (.bool (namP f.1)) (fun w' _ _ => pname_any f.1 w' (hl f hfm)) ?_
        cases h2 : namP f.1 with
        | false =>
          refine Goes.run [1, 1] [(true, true), (true, true)] ⟨rfl, rfl, trivial⟩ ?_
          exact Goes.ret [] (.bool false) fun w' hm hI => ⟨by rw [hR, h1, h2]; rfl, bel0 hI⟩
        | true =>
          refine Goes.run [0, 0] [(false, false)] ⟨rfl, trivial⟩ ?_
          refine Goes.call0 70 #[.slice a2 M c2] (.bool (stmP f.2)) (fun w' _ hI => pstamps_any ((hst.later (bel0 hI)).more (bel0 hI).size)) ?_
          cases h3 : stmP f.2 with
          | false =>
            refine Goes.run [1] [(true, true)] ⟨rfl, trivial⟩ ?_
            exact Goes.ret [] (.bool false) fun w' hm hI => ⟨by rw [hR, h1, h2, h3]; rfl, bel0 hI⟩
          | true =>
            refine Goes.run [0, 0] [(false, false)] ⟨rfl, trivial⟩ ?_
            refine Goes.slot 11 (.int .i64 (i + 1 : Nat)) (u := .int .i64 (IntKind.i64.wrap ((i : Int) + 1))) (congrArg _ (wrap_nat (by omega))) ?_
            refine Goes.keep 0 ?_
            exact back (i + 1, f.1) _ ⟨hil, by rw [hR, h1, h2, h3]; rfl⟩ (by simp only; omega) (by kernel_rfl) (by kernel_rfl) (by kernel_rfl)
set_option maxRecDepth 100000 in
seal rn rnN rnS Goes ans atEnd put0 putM opened openedY putA0 putA oneSt st0 keep in
theorem pright_any {fs : Fs} {a : Option Addr} {N c : Nat} (day : Int) {w : World} (hF : Fds w.heap.size w (.slice a N c) fs) (hl : ∀ f ∈ fs, f.1.length ≤ 9223372036854775807) : Calls Tryz.prog 22 #[dwV day (.slice a N c)] w fun e w' => e = .returned (.bool (dayP day && rfP fs)) ∧ Below w.heap.size w w' := by
  refine Goes.begin Tryz.func22 [] (fun _ => True) Holds.nil (by simp [Mem.ids]) (fun _ _ => trivial) ?_
  refine Goes.run1 [0] [] trivial fun g => ?_
  refine Goes.call0 40 #[.int .i64 day] (.bool (dayP day)) (fun w' _ _ => pday_any day w') ?_
  cases h : dayP day with
  | false =>
    refine Goes.run [0] [(false, false)] ⟨rfl, trivial⟩ ?_
    exact Goes.ret [] (.bool false) fun w' hm hI => ⟨rfl, bel0 hI⟩
  | true =>
    refine Goes.run [1, 0] [(true, true)] ⟨rfl, trivial⟩ ?_
    refine Goes.call0 41 #[.slice a N c] (.bool (rfP fs)) (fun w' _ hI => pfeeds_any (hF.at (bel0 hI)) hl) ?_
    refine Goes.run [] [] trivial ?_
    exact Goes.ret [] (.bool (rfP fs)) fun w' hm hI => ⟨rfl, bel0 hI⟩
set_option maxRecDepth 100000 in
seal rn rnN rnS Goes ans atEnd put0 putM opened openedY putA0 putA oneSt st0 keep in
theorem ppast_any (a : Option Addr) (N c : Nat) (day n : Int) (w : World) : Calls Tryz.prog 65 #[dwV day (.slice a N c), .int .i64 n] w fun e w' => e = .returned (.bool (decide (day > n))) ∧ Below w.heap.size w w' := by
  refine Goes.begin Tryz.func65 [] (fun _ => True) Holds.nil (by simp [Mem.ids]) (fun _ _ => trivial) ?_
  refine Goes.run1 [0] [] trivial fun g => ?_
  exact Goes.ret [] (.bool (decide (day > n))) fun w' hm hI => ⟨rfl, bel0 hI⟩
set_option maxRecDepth 100000 in
seal rn rnN rnS Goes ans atEnd put0 putM opened openedY putA0 putA oneSt st0 keep in
theorem pahead_any (a : Option Addr) (N c : Nat) (day n : Int) (w : World) : Calls Tryz.prog 126 #[dwV day (.slice a N c), .int .i64 n] w fun e w' => e = .returned (.bool (decide (day < n))) ∧ Below w.heap.size w w' := by
  refine Goes.begin Tryz.func126 [] (fun _ => True) Holds.nil (by simp [Mem.ids]) (fun _ _ => trivial) ?_
  refine Goes.run1 [0] [] trivial fun g => ?_
  exact Goes.ret [] (.bool (decide (day < n))) fun w' hm hI => ⟨rfl, bel0 hI⟩
end Go.Proofs.YthnojedlndblbaaGreatDoor
namespace Go.Proofs.YthnojedlndblbaaGreatDoor
open Go Go.RowKit

theorem belD {w w' : World} {e : Ending} {v : Value} (h : e = .returned v ∧ ∃ n, w' = w.drewN n) : e = .returned v ∧ Below w.heap.size w w' := by
  obtain ⟨h1, n, rfl⟩ := h
  exact ⟨h1, drewN_below w n⟩
theorem pmonI_any (day n : Int) (w : World) (ht : Tab w) : Calls Tryz.prog 119 #[.int .i64 day, .int .i64 n] w fun e w' => e = .returned (.int .i64 (monI day n)) ∧ Below w.heap.size w w' :=
  (months_any day n w ht).mono fun e w' ⟨y, m, d, h1, h2, he, hB⟩ => ⟨by rw [he]; unfold monI; rw [ymd_eq h1 h2], hB⟩
theorem py30I_any (a b : Int) (w : World) (ht : Tab w) : Calls Tryz.prog 121 #[.int .i64 a, .int .i64 b] w fun e w' => e = .returned (.int .i64 (y30I a b)) ∧ Below w.heap.size w w' :=
  (years30_any a b w ht).mono fun e w' ⟨y, m, d, y', m', d', h1, h2, h3, h4, he, hB⟩ => ⟨by rw [he]; unfold y30I; rw [ymd_eq h1 h2, ymd_eq h3 h4], hB⟩
set_option maxRecDepth 100000 in
seal rn rnS Goes ans atEnd put0 putM opened putA0 oneSt st0 in
theorem ptruth_any (b : Bool) (w : World) : Calls Tryz.prog 117 #[.bool b] w fun e w' => e = .returned (.int .i64 (trP b)) ∧ Below w.heap.size w w' := by
  refine Goes.begin Tryz.func117 [] (fun _ => True) Holds.nil (by simp [Mem.ids]) (fun _ _ => trivial) ?_
  cases b with
  | true =>
    refine Goes.run [1] [(true, true)] ⟨rfl, trivial⟩ ?_
    exact Goes.ret [] (.int .i64 1) fun w' hm hI => ⟨rfl, bel0 hI⟩
  | false =>
    refine Goes.run [0] [(false, false)] ⟨rfl, trivial⟩ ?_
    exact Goes.ret [] (.int .i64 0) fun w' hm hI => ⟨rfl, bel0 hI⟩

noncomputable def rckP (op a b : Int) : Int :=
  bif op == 6 then - clampI a else bif op == 7 then clampI (clampI a + clampI b) else bif op == 8 then clampI (clampI a - clampI b) else bif op == 9 then mulI a b else bif op == 10 then divI a b else bif op == 11 || op == 17 then trP (decide (a < b)) else bif op == 12 then trP (decide (a ≤ b)) else bif op == 13 then trP (a == b) else bif op == 14 then trP (a == 0) else bif op == 18 then ((plusV a (whoI b) : Nat) : Int) else bif op == 19 then monI a (whoI b) else bif op == 20 then shareV ((clampD b : Int) - (clampD a : Int)) 365 else y30I a b
set_option maxRecDepth 100000 in
seal rn rnS Goes ans atEnd put0 putM opened putA0 oneSt st0 in
theorem reckon_any (op a b : Int) (w : World) (ht : Tab w) : Calls Tryz.prog 79 #[.int .i64 op, .int .i64 a, .int .i64 b] w fun e w' => e = .returned (.int .i64 (rckP op a b)) ∧ Below w.heap.size w w' := by
  refine Goes.begin Tryz.func79 [] (fun _ => True) Holds.nil (by simp [Mem.ids]) (fun _ _ => trivial) ?_
  cases h6 : (op == 6) with
  | true =>
    refine Goes.run [1] [(op == 6, true)] ⟨h6, trivial⟩ ?_
    refine Goes.call0 57 #[.int .i64 (a)] (.int .i64 (- clampI a)) (fun w' _ hI => (neg_any a w').mono fun _ _ h => belQ h) ?_
    refine Goes.run [] [] trivial ?_
    exact Goes.ret [] (.int .i64 (- clampI a)) fun w' hm hI => ⟨by unfold rckP; rw [h6] <;> rfl, bel0 hI⟩
  | false =>
  cases h7 : (op == 7) with
  | true =>
    refine Goes.run [0, 1] [(op == 7, true), (op == 6, false)] ⟨h7, h6, trivial⟩ ?_
    refine Goes.call0 113 #[.int .i64 (a), .int .i64 (b)] (.int .i64 (clampI (clampI a + clampI b))) (fun w' _ hI => (add_any a b w').mono fun _ _ h => belQ h) ?_
    refine Goes.run [] [] trivial ?_
    exact Goes.ret [] (.int .i64 (clampI (clampI a + clampI b))) fun w' hm hI => ⟨by unfold rckP; rw [h6, h7] <;> rfl, bel0 hI⟩
  | false =>
  cases h8 : (op == 8) with
  | true =>
    refine Goes.run [0, 0, 1] [(op == 8, true), (op == 7, false), (op == 6, false)] ⟨h8, h7, h6, trivial⟩ ?_
    refine Goes.call0 114 #[.int .i64 (a), .int .i64 (b)] (.int .i64 (clampI (clampI a - clampI b))) (fun w' _ hI => (sub_any a b w').mono fun _ _ h => belQ h) ?_
    refine Goes.run [] [] trivial ?_
    exact Goes.ret [] (.int .i64 (clampI (clampI a - clampI b))) fun w' hm hI => ⟨by unfold rckP; rw [h6, h7, h8] <;> rfl, bel0 hI⟩
  | false =>
  cases h9 : (op == 9) with
  | true =>
    refine Goes.run [0, 0, 0, 1] [(op == 9, true), (op == 8, false), (op == 7, false), (op == 6, false)] ⟨h9, h8, h7, h6, trivial⟩ ?_
    refine Goes.call0 115 #[.int .i64 (a), .int .i64 (b)] (.int .i64 (mulI a b)) (fun w' _ hI => (mul_any a b w').mono fun _ _ h => belD h) ?_
    refine Goes.run [] [] trivial ?_
    exact Goes.ret [] (.int .i64 (mulI a b)) fun w' hm hI => ⟨by unfold rckP; rw [h6, h7, h8, h9] <;> rfl, bel0 hI⟩
  | false =>
  cases h10 : (op == 10) with
  | true =>
    refine Goes.run [0, 0, 0, 0, 1] [(op == 10, true), (op == 9, false), (op == 8, false), (op == 7, false), (op == 6, false)] ⟨h10, h9, h8, h7, h6, trivial⟩ ?_
    refine Goes.call0 116 #[.int .i64 (a), .int .i64 (b)] (.int .i64 (divI a b)) (fun w' _ hI => (div_any a b w').mono fun _ _ h => belD h) ?_
    refine Goes.run [] [] trivial ?_
    exact Goes.ret [] (.int .i64 (divI a b)) fun w' hm hI => ⟨by unfold rckP; rw [h6, h7, h8, h9, h10] <;> rfl, bel0 hI⟩
  | false =>
  cases h11 : (op == 11) with
  | true =>
    refine Goes.run [0, 0, 0, 0, 0, 1, 1] [(op == 11, true), (op == 11, true), (op == 10, false), (op == 9, false), (op == 8, false), (op == 7, false), (op == 6, false)] ⟨h11, h11, h10, h9, h8, h7, h6, trivial⟩ ?_
    refine Goes.call0 117 #[.bool (decide (a < b))] (.int .i64 (trP (decide (a < b)))) (fun w' _ hI => ptruth_any _ w') ?_
    refine Goes.run [] [] trivial ?_
    exact Goes.ret [] (.int .i64 (trP (decide (a < b)))) fun w' hm hI => ⟨by unfold rckP; rw [h6, h7, h8, h9, h10, h11] <;> rfl, bel0 hI⟩
  | false =>
  cases h17 : (op == 17) with
  | true =>
    refine Goes.run [0, 0, 0, 0, 0, 0, 1] [(op == 17, true), (op == 11, false), (op == 10, false), (op == 9, false), (op == 8, false), (op == 7, false), (op == 6, false)] ⟨h17, h11, h10, h9, h8, h7, h6, trivial⟩ ?_
    refine Goes.call0 117 #[.bool (decide (a < b))] (.int .i64 (trP (decide (a < b)))) (fun w' _ hI => ptruth_any _ w') ?_
    refine Goes.run [] [] trivial ?_
    exact Goes.ret [] (.int .i64 (trP (decide (a < b)))) fun w' hm hI => ⟨by unfold rckP; rw [h6, h7, h8, h9, h10, h11, h17] <;> rfl, bel0 hI⟩
  | false =>
  cases h12 : (op == 12) with
  | true =>
    refine Goes.run [0, 0, 0, 0, 0, 0, 0, 1] [(op == 12, true), (op == 17, false), (op == 11, false), (op == 10, false), (op == 9, false), (op == 8, false), (op == 7, false), (op == 6, false)] ⟨h12, h17, h11, h10, h9, h8, h7, h6, trivial⟩ ?_
    refine Goes.call0 117 #[.bool (decide (a ≤ b))] (.int .i64 (trP (decide (a ≤ b)))) (fun w' _ hI => ptruth_any _ w') ?_
    refine Goes.run [] [] trivial ?_
    exact Goes.ret [] (.int .i64 (trP (decide (a ≤ b)))) fun w' hm hI => ⟨by unfold rckP; rw [h6, h7, h8, h9, h10, h11, h17, h12] <;> rfl, bel0 hI⟩
  | false =>
  cases h13 : (op == 13) with
  | true =>
    refine Goes.run [0, 0, 0, 0, 0, 0, 0, 0, 1] [(op == 13, true), (op == 12, false), (op == 17, false), (op == 11, false), (op == 10, false), (op == 9, false), (op == 8, false), (op == 7, false), (op == 6, false)] ⟨h13, h12, h17, h11, h10, h9, h8, h7, h6, trivial⟩ ?_
    refine Goes.call0 117 #[.bool (a == b)] (.int .i64 (trP (a == b))) (fun w' _ hI => ptruth_any _ w') ?_
    refine Goes.run [] [] trivial ?_
    exact Goes.ret [] (.int .i64 (trP (a == b))) fun w' hm hI => ⟨by unfold rckP; rw [h6, h7, h8, h9, h10, h11, h17, h12, h13] <;> rfl, bel0 hI⟩
  | false =>
  cases h14 : (op == 14) with
  | true =>
    refine Goes.run [0, 0, 0, 0, 0, 0, 0, 0, 0, 1] [(op == 14, true), (op == 13, false), (op == 12, false), (op == 17, false), (op == 11, false), (op == 10, false), (op == 9, false), (op == 8, false), (op == 7, false), (op == 6, false)] ⟨h14, h13, h12, h17, h11, h10, h9, h8, h7, h6, trivial⟩ ?_
    refine Goes.call0 117 #[.bool (a == 0)] (.int .i64 (trP (a == 0))) (fun w' _ hI => ptruth_any _ w') ?_
    refine Goes.run [] [] trivial ?_
    exact Goes.ret [] (.int .i64 (trP (a == 0))) fun w' hm hI => ⟨by unfold rckP; rw [h6, h7, h8, h9, h10, h11, h17, h12, h13, h14] <;> rfl, bel0 hI⟩
  | false =>
  cases h18 : (op == 18) with
  | true =>
    refine Goes.run [0, 0, 0, 0, 0, 0, 0, 0, 0, 0, 1] [(op == 18, true), (op == 14, false), (op == 13, false), (op == 12, false), (op == 17, false), (op == 11, false), (op == 10, false), (op == 9, false), (op == 8, false), (op == 7, false), (op == 6, false)] ⟨h18, h14, h13, h12, h17, h11, h10, h9, h8, h7, h6, trivial⟩ ?_
    refine Goes.call0 118 #[.int .i64 (b)] (.int .i64 (whoI b)) (fun w' _ hI => (whole_any b w').mono fun _ _ h => belQ h) ?_
    refine Goes.call0 43 #[.int .i64 (a), .int .i64 (whoI b)] (.int .i64 (((plusV a (whoI b) : Nat) : Int))) (fun w' _ hI => (plus_any a (whoI b) w').mono fun _ _ h => belQ h) ?_
    refine Goes.run [] [] trivial ?_
    exact Goes.ret [] (.int .i64 (((plusV a (whoI b) : Nat) : Int))) fun w' hm hI => ⟨by unfold rckP; rw [h6, h7, h8, h9, h10, h11, h17, h12, h13, h14, h18] <;> rfl, bel0 hI⟩
  | false =>
  cases h19 : (op == 19) with
  | true =>
    refine Goes.run [0, 0, 0, 0, 0, 0, 0, 0, 0, 0, 0, 1] [(op == 19, true), (op == 18, false), (op == 14, false), (op == 13, false), (op == 12, false), (op == 17, false), (op == 11, false), (op == 10, false), (op == 9, false), (op == 8, false), (op == 7, false), (op == 6, false)] ⟨h19, h18, h14, h13, h12, h17, h11, h10, h9, h8, h7, h6, trivial⟩ ?_
    refine Goes.call0 118 #[.int .i64 (b)] (.int .i64 (whoI b)) (fun w' _ hI => (whole_any b w').mono fun _ _ h => belQ h) ?_
    refine Goes.call0 119 #[.int .i64 (a), .int .i64 (whoI b)] (.int .i64 (monI a (whoI b))) (fun w' _ hI => pmonI_any a (whoI b) w' (ht.below (bel0 hI))) ?_
    refine Goes.run [] [] trivial ?_
    exact Goes.ret [] (.int .i64 (monI a (whoI b))) fun w' hm hI => ⟨by unfold rckP; rw [h6, h7, h8, h9, h10, h11, h17, h12, h13, h14, h18, h19] <;> rfl, bel0 hI⟩
  | false =>
  cases h20 : (op == 20) with
  | true =>
    refine Goes.run [0, 0, 0, 0, 0, 0, 0, 0, 0, 0, 0, 0, 1] [(op == 20, true), (op == 19, false), (op == 18, false), (op == 14, false), (op == 13, false), (op == 12, false), (op == 17, false), (op == 11, false), (op == 10, false), (op == 9, false), (op == 8, false), (op == 7, false), (op == 6, false)] ⟨h20, h19, h18, h14, h13, h12, h17, h11, h10, h9, h8, h7, h6, trivial⟩ ?_
    refine Goes.call0 120 #[.int .i64 (a), .int .i64 (b)] (.int .i64 (shareV ((clampD b : Int) - (clampD a : Int)) 365)) (fun w' _ hI => (years_any a b w').mono fun _ _ h => belD h) ?_
    refine Goes.run [] [] trivial ?_
    exact Goes.ret [] (.int .i64 (shareV ((clampD b : Int) - (clampD a : Int)) 365)) fun w' hm hI => ⟨by unfold rckP; rw [h6, h7, h8, h9, h10, h11, h17, h12, h13, h14, h18, h19, h20] <;> rfl, bel0 hI⟩
  | false =>
    refine Goes.run [0, 0, 0, 0, 0, 0, 0, 0, 0, 0, 0, 0, 0] [(op == 20, false), (op == 19, false), (op == 18, false), (op == 14, false), (op == 13, false), (op == 12, false), (op == 17, false), (op == 11, false), (op == 10, false), (op == 9, false), (op == 8, false), (op == 7, false), (op == 6, false)] ⟨h20, h19, h18, h14, h13, h12, h17, h11, h10, h9, h8, h7, h6, trivial⟩ ?_
    refine Goes.call0 121 #[.int .i64 (a), .int .i64 (b)] (.int .i64 (y30I a b)) (fun w' _ hI => py30I_any a b w' (ht.below (bel0 hI))) ?_
    refine Goes.run [] [] trivial ?_
    exact Goes.ret [] (.int .i64 (y30I a b)) fun w' hm hI => ⟨by unfold rckP; rw [h6, h7, h8, h9, h10, h11, h17, h12, h13, h14, h18, h19, h20] <;> rfl, bel0 hI⟩
/-- What the document says of two kids. -/
theorem rck_two {op a b : Int} (h6 : (op == 6) = false) (h14 : (op == 14) = false) : rckP op a b = twoP op a b := by
  unfold rckP twoP
  rw [h6, h14]
  rfl
theorem rck_not {a b : Int} (h : a = 0 ∨ a = 1) : rckP 14 a b = IntKind.i64.wrap (1 - a) := by
  unfold rckP
  rcases h with rfl | rfl <;> rfl
end Go.Proofs.YthnojedlndblbaaGreatDoor
namespace Go.Proofs.YthnojedlndblbaaGreatDoor
open Go Go.RowKit

theorem cmp_lt : ∀ a b : List UInt8, decide (Lib.compareBytes a b < 0) = decide (a < b)
  | [], [] => by simp [Lib.compareBytes]
  | [], b :: bs => by simp [Lib.compareBytes]
  | x :: r, [] => by simp [Lib.compareBytes]
  | x :: r, y :: s => by
    rw [Lib.compareBytes]
    have ih := cmp_lt r s
    by_cases h1 : x < y
    · rw [if_pos h1, decide_eq_true (List.cons_lt_cons_iff.2 (.inl h1))]; rfl
    · rw [if_neg h1]
      by_cases h2 : y < x
      · rw [if_pos h2, decide_eq_false (p := x :: r < y :: s) (fun h => by rcases List.cons_lt_cons_iff.1 h with h | ⟨h, -⟩; exact h1 h; rw [h] at h2; exact absurd h2 (by simp [UInt8.lt_irrefl]))]; rfl
      · have e : x = y := UInt8.le_antisymm (UInt8.not_lt.1 h2) (UInt8.not_lt.1 h1)
        rw [if_neg h2, ih]
        subst e
        by_cases h3 : r < s
        · rw [decide_eq_true h3, decide_eq_true (List.cons_lt_cons_iff.2 (.inr ⟨rfl, h3⟩))]
        · rw [decide_eq_false h3, decide_eq_false (fun h => by rcases List.cons_lt_cons_iff.1 h with h | ⟨-, h⟩; exact h1 h; exact h3 h)]
theorem cmp_eq : ∀ a b : List UInt8, (Lib.compareBytes a b == 0) = decide (a = b)
  | [], [] => by simp [Lib.compareBytes]
  | [], b :: bs => by simp [Lib.compareBytes]
  | x :: r, [] => by simp [Lib.compareBytes]
  | x :: r, y :: s => by
    rw [Lib.compareBytes]
    have ih := cmp_eq r s
    by_cases h1 : x < y
    · rw [if_pos h1, decide_eq_false (fun h => by cases h; exact absurd h1 (by simp [UInt8.lt_irrefl]))]; rfl
    · rw [if_neg h1]
      by_cases h2 : y < x
      · rw [if_pos h2, decide_eq_false (fun h => by cases h; exact absurd h2 (by simp [UInt8.lt_irrefl]))]; rfl
      · have e : x = y := UInt8.le_antisymm (UInt8.not_lt.1 h2) (UInt8.not_lt.1 h1)
        rw [if_neg h2, ih]
        subst e
        by_cases h3 : r = s <;> simp [h3]
theorem cmpi_lt (a b : Int) : decide (Lib.compareInt a b < 0) = decide (a < b) := by
  unfold Lib.compareInt
  split
  · rename_i h; rw [decide_eq_true h]; rfl
  · rename_i h; split <;> rw [decide_eq_false h] <;> rfl
set_option maxRecDepth 100000 in
seal rn rnN rnS Goes ans atEnd put0 putM opened openedY putA0 putA oneSt st0 keep in
theorem told1_any (s t : List UInt8) (a : Option Addr) (N c : Nat) (w : World) : Calls Tryz.prog 72 #[.agg #[strV s, .slice a N c], strV t] w fun e w' => e = .returned (.int .i64 (Lib.compareBytes s t)) ∧ Below w.heap.size w w' := by
  refine Goes.begin Tryz.func72 [] (fun _ => True) Holds.nil (by simp [Mem.ids]) (fun _ _ => trivial) ?_
  refine Goes.run1 [0] [] trivial fun g => ?_
  refine Goes.call0 73 #[strV s, strV t] (.int .i64 (Lib.compareBytes s t)) (fun w' _ _ => (Tryz.strings_Compare ⟨s.toArray⟩ ⟨t.toArray⟩ w').mono fun _ _ h => belQ h) ?_
  refine Goes.run [] [] trivial ?_
  exact Goes.ret [] (.int .i64 (Lib.compareBytes s t)) fun w' hm hI => ⟨rfl, bel0 hI⟩
set_option maxRecDepth 100000 in
seal rn rnN rnS Goes ans atEnd put0 putM opened openedY putA0 putA oneSt st0 keep in
theorem told2_any (d n t : Int) (w : World) : Calls Tryz.prog 75 #[.agg #[.int .i64 d, .int .i64 n], .int .i64 t] w fun e w' => e = .returned (.int .i64 (Lib.compareInt d t)) ∧ Below w.heap.size w w' := by
  refine Goes.begin Tryz.func75 [] (fun _ => True) Holds.nil (by simp [Mem.ids]) (fun _ _ => trivial) ?_
  refine Goes.run1 [0] [] trivial fun g => ?_
  refine Goes.call0 76 #[.int .i64 d, .int .i64 t] (.int .i64 (Lib.compareInt d t)) (fun w' _ _ => (Tryz.cmp_Compare_int d t w').mono fun _ _ h => belQ h) ?_
  refine Goes.run [] [] trivial ?_
  exact Goes.ret [] (.int .i64 (Lib.compareInt d t)) fun w' hm hI => ⟨rfl, bel0 hI⟩
def hfE (n : Nat) : Int := IntKind.i64.wrap ((IntKind.u64.wrap (n : Int)).fdiv (2 ^ min (Int.toNat 1) IntKind.u64.bits))
theorem hf_eq {n : Nat} (h : n ≤ 4000000) : hfE n = ((n / 2 : Nat) : Int) := by
  unfold hfE
  have e1 : IntKind.u64.wrap (n : Int) = n := by
    unfold IntKind.wrap
    simp only [IntKind.signed, IntKind.bits]
    simp
    omega
  rw [e1, show ((2 : Int) ^ min (Int.toNat 1) IntKind.u64.bits) = 2 from rfl, Int.fdiv_eq_ediv_of_nonneg _ (by omega)]
  rw [IntWalk.i64_in _ ⟨by omega, by omega⟩]
  omega
set_option maxRecDepth 100000 in
seal rn rnN rnS Goes ans atEnd put0 putM opened openedY putA0 putA oneSt st0 keep in
theorem searchF_any {l : Fs} {v : Value} {w : World} (hF : Fds w.heap.size w v l) (hN0 : l.length ≤ 1000000) (hr : RiseN l) (name : List UInt8) : Calls Tryz.prog 71 #[v, strV name, .func (.func 72) #[] #[]] w fun e w' => ∃ B, (∀ q, l[posN name l]? = some q → B = decide (q.1 = name)) ∧ (l[posN name l]? = none → B = false) ∧ e = .returned (.tuple #[.int .i64 (posN name l : Nat), .bool B]) ∧ Below w.heap.size w w' := by
  obtain ⟨a, c, rfl, hc, hst⟩ := hF
  obtain ⟨N, hN⟩ : ∃ N, l.length = N := ⟨_, rfl⟩
  rw [hN] at hc hN0 ⊢
  have hk := posN_iff (name := name) hr
  have hkN := posN_le name l
  rw [hN] at hkN
  obtain ⟨k, hkk⟩ : ∃ k, posN name l = k := ⟨_, rfl⟩
  rw [hkk] at hk hkN ⊢
  refine Goes.begin Tryz.func71 [] (fun _ => True) Holds.nil (by simp [Mem.ids]) (fun _ _ => trivial) ?_
  refine Goes.run [] [] trivial ?_
  refine Goes.loop0 (α := Nat × Nat) 49 (fun q => [(0, .slice a N c), (1, strV name), (2, .func (.func 72) #[] #[]), (8, .int .i64 N), (9, .int .i64 q.1), (10, .int .i64 q.2)]) [] (fun q => q.1 ≤ k ∧ k ≤ q.2 ∧ q.2 ≤ N) (fun q => q.2 - q.1) (0, N) ⟨Nat.zero_le _, hkN, Nat.le_refl _⟩ ?_
  rintro ⟨i, j⟩ J ⟨hi, hj, hjN⟩ back
  simp only at hi hj hjN back ⊢
  cases hlt : decide ((i : Int) < (j : Int)) with
  | false =>
    obtain rfl : i = k := by have := of_decide_eq_false hlt; omega
    cases hiN : decide ((i : Int) < (N : Int)) with
    | false =>
      refine Goes.run [0, 0, 0] [(decide ((i : Int) < (N : Int)), false), (decide ((i : Int) < (j : Int)), false)] ⟨hiN, hlt, trivial⟩ ?_
      exact Goes.ret [] (.tuple #[.int .i64 i, .bool false]) fun w' hm hI => ⟨false, fun q hq => by have := (List.getElem?_eq_some_iff.1 hq).1; have := of_decide_eq_false hiN; omega, fun _ => rfl, rfl, bel0 hI⟩
    | true =>
      have hil : i < N := by have := of_decide_eq_true hiN; omega
      obtain ⟨q, hq⟩ : ∃ q, l[i]? = some q := ⟨l[i]'(by omega), by simp⟩
      obtain ⟨b, o, u, rfl, hb, x1, x2, a2, c2, rfl, hc2, hst2⟩ := hst i q hq
      obtain ⟨M, hM⟩ : ∃ M, q.2.length = M := ⟨_, rfl⟩
      rw [hM] at x2
      refine Goes.run [0, 0, 1] [(decide ((i : Int) < (N : Int)), true), (decide ((i : Int) < (j : Int)), false)] ⟨hiN, hlt, trivial⟩ ?_
      refine Goes.val (Instr.indexAt 25 (.slice (some ⟨b, o, none⟩) N c) (.int .i64 i)) (.pointer (some ⟨b, o + i * 2, none⟩)) (fun w' _ _ => idxF b o N c i hil w') ?_
      refine Goes.val (Instr.loadAt 79 (.pointer (some ⟨b, o + i * 2, none⟩))) (.agg #[strV q.1, .slice a2 M c2]) (fun w' _ hI => loadFd (((bel0 hI).cell (p := ⟨b, o + i * 2, none⟩) hb).trans x1) (((bel0 hI).cell (p := ⟨b, o + i * 2 + 1, none⟩) hb).trans x2)) ?_
      refine Goes.run [] [] trivial ?_
      refine Goes.call0 72 #[.agg #[strV q.1, .slice a2 M c2], strV name] (.int .i64 (Lib.compareBytes q.1 name)) (fun w' _ _ => told1_any q.1 name a2 M c2 w') ?_
      refine Goes.run [] [] trivial ?_
      exact Goes.ret [] (.tuple #[.int .i64 i, .bool (Lib.compareBytes q.1 name == 0)]) fun w' hm hI => ⟨_, fun q' hq' => by rw [hq] at hq'; cases hq'; exact cmp_eq _ _, fun h => (by rw [hq] at h; cases h), rfl, bel0 hI⟩
  | true =>
    have hij : i < j := by have := of_decide_eq_true hlt; omega
    refine Goes.run [0, 1] [(decide ((i : Int) < (j : Int)), true)] ⟨hlt, trivial⟩ ?_
    refine Goes.slot 20 (.int .i64 ((i + j : Nat) : Int)) (u := .int .i64 (IntKind.i64.wrap ((i : Int) + (j : Int)))) (congrArg _ (by rw [IntWalk.i64_in _ ⟨by omega, by omega⟩]; omega)) ?_
    refine Goes.upto 24 [0, 0] [] trivial ?_
    obtain ⟨h, hh⟩ : ∃ h, (i + j) / 2 = h := ⟨_, rfl⟩
    refine Goes.slot 11 (.int .i64 ((h : Nat) : Int)) (u := .int .i64 (hfE (i + j))) (congrArg _ (by rw [hf_eq (by omega), hh])) ?_
    have hhi : i ≤ h ∧ h < j := by omega
    obtain ⟨q, hq⟩ : ∃ q, l[h]? = some q := ⟨l[h]'(by omega), by simp⟩
    obtain ⟨b, o, u, rfl, hb, x1, x2, a2, c2, rfl, hc2, hst2⟩ := hst h q hq
    obtain ⟨M, hM⟩ : ∃ M, q.2.length = M := ⟨_, rfl⟩
    rw [hM] at x2
    refine Goes.run [] [] trivial ?_
    refine Goes.val (Instr.indexAt 25 (.slice (some ⟨b, o, none⟩) N c) (.int .i64 h)) (.pointer (some ⟨b, o + h * 2, none⟩)) (fun w' _ _ => idxF b o N c h (by omega) w') ?_
    refine Goes.val (Instr.loadAt 79 (.pointer (some ⟨b, o + h * 2, none⟩))) (.agg #[strV q.1, .slice a2 M c2]) (fun w' _ hI => loadFd (((bel0 hI).cell (p := ⟨b, o + h * 2, none⟩) hb).trans x1) (((bel0 hI).cell (p := ⟨b, o + h * 2 + 1, none⟩) hb).trans x2)) ?_
    refine Goes.run [] [] trivial ?_
    refine Goes.call0 72 #[.agg #[strV q.1, .slice a2 M c2], strV name] (.int .i64 (Lib.compareBytes q.1 name)) (fun w' _ _ => told1_any q.1 name a2 M c2 w') ?_
    have hiff := hk h q hq
    cases hcm : decide (Lib.compareBytes q.1 name < 0) with
    | true =>
      have hlk : h < k := hiff.1 (by rw [← cmp_lt]; exact hcm)
      refine Goes.run [1] [(decide (Lib.compareBytes q.1 name < 0), true)] ⟨hcm, trivial⟩ ?_
      refine Goes.slot 9 (.int .i64 (h + 1 : Nat)) (u := .int .i64 (IntKind.i64.wrap ((h : Int) + 1))) (congrArg _ (wrap_nat (by omega))) ?_
      exact back (h + 1, j) _ ⟨hlk, hj, hjN⟩ (by simp only; omega) (by kernel_rfl) (by kernel_rfl) (by kernel_rfl)
    | false =>
      have hlk : ¬ h < k := fun hl => by
        have := hiff.2 hl
        rw [← cmp_lt] at this
        rw [hcm] at this
        cases this
      refine Goes.run [0] [(decide (Lib.compareBytes q.1 name < 0), false)] ⟨hcm, trivial⟩ ?_
      exact back (i, h) _ ⟨hi, by omega, by omega⟩ (by simp only; omega) (by kernel_rfl) (by kernel_rfl) (by kernel_rfl)
set_option maxRecDepth 100000 in
seal rn rnN rnS Goes ans atEnd put0 putM opened openedY putA0 putA oneSt st0 keep in
theorem searchT_any {l : List (Int × Int)} {v : Value} {w : World} (hF : Sts w.heap.size w v l) (hN0 : l.length ≤ 1000000) (hr : RiseD l) (day : Int) : Calls Tryz.prog 74 #[v, .int .i64 day, .func (.func 75) #[] #[]] w fun e w' => ∃ B, (∀ q, l[posD day l]? = some q → B = (Lib.compareInt q.1 day == 0)) ∧ (l[posD day l]? = none → B = false) ∧ e = .returned (.tuple #[.int .i64 (posD day l : Nat), .bool B]) ∧ Below w.heap.size w w' := by
  obtain ⟨a, c, rfl, hc, hst⟩ := hF
  obtain ⟨N, hN⟩ : ∃ N, l.length = N := ⟨_, rfl⟩
  rw [hN] at hc hN0 ⊢
  have hk := posD_iff (day := day) hr
  have hkN := posD_le day l
  rw [hN] at hkN
  obtain ⟨k, hkk⟩ : ∃ k, posD day l = k := ⟨_, rfl⟩
  rw [hkk] at hk hkN ⊢
  refine Goes.begin Tryz.func74 [] (fun _ => True) Holds.nil (by simp [Mem.ids]) (fun _ _ => trivial) ?_
  refine Goes.run [] [] trivial ?_
  refine Goes.loop0 (α := Nat × Nat) 49 (fun q => [(0, .slice a N c), (1, .int .i64 day), (2, .func (.func 75) #[] #[]), (8, .int .i64 N), (9, .int .i64 q.1), (10, .int .i64 q.2)]) [] (fun q => q.1 ≤ k ∧ k ≤ q.2 ∧ q.2 ≤ N) (fun q => q.2 - q.1) (0, N) ⟨Nat.zero_le _, hkN, Nat.le_refl _⟩ ?_
  rintro ⟨i, j⟩ J ⟨hi, hj, hjN⟩ back
  simp only at hi hj hjN back ⊢
  cases hlt : decide ((i : Int) < (j : Int)) with
  | false =>
    obtain rfl : i = k := by have := of_decide_eq_false hlt; omega
    cases hiN : decide ((i : Int) < (N : Int)) with
    | false =>
      refine Goes.run [0, 0, 0] [(decide ((i : Int) < (N : Int)), false), (decide ((i : Int) < (j : Int)), false)] ⟨hiN, hlt, trivial⟩ ?_
      exact Goes.ret [] (.tuple #[.int .i64 i, .bool false]) fun w' hm hI => ⟨false, fun q hq => by have := (List.getElem?_eq_some_iff.1 hq).1; have := of_decide_eq_false hiN; omega, fun _ => rfl, rfl, bel0 hI⟩
    | true =>
      have hil : i < N := by have := of_decide_eq_true hiN; omega
      obtain ⟨q, hq⟩ : ∃ q, l[i]? = some q := ⟨l[i]'(by omega), by simp⟩
      obtain ⟨b, o, rfl, hb, x1, x2⟩ := hst i q hq
      refine Goes.run [0, 0, 1] [(decide ((i : Int) < (N : Int)), true), (decide ((i : Int) < (j : Int)), false)] ⟨hiN, hlt, trivial⟩ ?_
      refine Goes.val (Instr.indexAt 77 (.slice (some ⟨b, o, none⟩) N c) (.int .i64 i)) (.pointer (some ⟨b, o + i * 2, none⟩)) (fun w' _ _ => idxT b o N c i hil w') ?_
      refine Goes.val (Instr.loadAt 81 (.pointer (some ⟨b, o + i * 2, none⟩))) (.agg #[.int .i64 q.1, .int .i64 q.2]) (fun w' _ hI => loadSt (((bel0 hI).cell (p := ⟨b, o + i * 2, none⟩) hb).trans x1) (((bel0 hI).cell (p := ⟨b, o + i * 2 + 1, none⟩) hb).trans x2)) ?_
      refine Goes.run [] [] trivial ?_
      refine Goes.call0 75 #[.agg #[.int .i64 q.1, .int .i64 q.2], .int .i64 day] (.int .i64 (Lib.compareInt q.1 day)) (fun w' _ _ => told2_any q.1 q.2 day w') ?_
      refine Goes.run [] [] trivial ?_
      exact Goes.ret [] (.tuple #[.int .i64 i, .bool (Lib.compareInt q.1 day == 0)]) fun w' hm hI => ⟨_, fun q' hq' => by rw [hq] at hq'; cases hq'; rfl, fun h => (by rw [hq] at h; cases h), rfl, bel0 hI⟩
  | true =>
    have hij : i < j := by have := of_decide_eq_true hlt; omega
    refine Goes.run [0, 1] [(decide ((i : Int) < (j : Int)), true)] ⟨hlt, trivial⟩ ?_
    refine Goes.slot 20 (.int .i64 ((i + j : Nat) : Int)) (u := .int .i64 (IntKind.i64.wrap ((i : Int) + (j : Int)))) (congrArg _ (by rw [IntWalk.i64_in _ ⟨by omega, by omega⟩]; omega)) ?_
    refine Goes.upto 24 [0, 0] [] trivial ?_
    obtain ⟨h, hh⟩ : ∃ h, (i + j) / 2 = h := ⟨_, rfl⟩
    refine Goes.slot 11 (.int .i64 ((h : Nat) : Int)) (u := .int .i64 (hfE (i + j))) (congrArg _ (by rw [hf_eq (by omega), hh])) ?_
    have hhi : i ≤ h ∧ h < j := by omega
    obtain ⟨q, hq⟩ : ∃ q, l[h]? = some q := ⟨l[h]'(by omega), by simp⟩
    obtain ⟨b, o, rfl, hb, x1, x2⟩ := hst h q hq
    refine Goes.run [] [] trivial ?_
    refine Goes.val (Instr.indexAt 77 (.slice (some ⟨b, o, none⟩) N c) (.int .i64 h)) (.pointer (some ⟨b, o + h * 2, none⟩)) (fun w' _ _ => idxT b o N c h (by omega) w') ?_
    refine Goes.val (Instr.loadAt 81 (.pointer (some ⟨b, o + h * 2, none⟩))) (.agg #[.int .i64 q.1, .int .i64 q.2]) (fun w' _ hI => loadSt (((bel0 hI).cell (p := ⟨b, o + h * 2, none⟩) hb).trans x1) (((bel0 hI).cell (p := ⟨b, o + h * 2 + 1, none⟩) hb).trans x2)) ?_
    refine Goes.run [] [] trivial ?_
    refine Goes.call0 75 #[.agg #[.int .i64 q.1, .int .i64 q.2], .int .i64 day] (.int .i64 (Lib.compareInt q.1 day)) (fun w' _ _ => told2_any q.1 q.2 day w') ?_
    have hiff := hk h q hq
    cases hcm : decide (Lib.compareInt q.1 day < 0) with
    | true =>
      have hlk : h < k := hiff.1 (by rw [← cmpi_lt]; exact hcm)
      refine Goes.run [1] [(decide (Lib.compareInt q.1 day < 0), true)] ⟨hcm, trivial⟩ ?_
      refine Goes.slot 9 (.int .i64 (h + 1 : Nat)) (u := .int .i64 (IntKind.i64.wrap ((h : Int) + 1))) (congrArg _ (wrap_nat (by omega))) ?_
      exact back (h + 1, j) _ ⟨hlk, hj, hjN⟩ (by simp only; omega) (by kernel_rfl) (by kernel_rfl) (by kernel_rfl)
    | false =>
      have hlk : ¬ h < k := fun hl => by
        have := hiff.2 hl
        rw [← cmpi_lt] at this
        rw [hcm] at this
        cases this
      refine Goes.run [0] [(decide (Lib.compareInt q.1 day < 0), false)] ⟨hcm, trivial⟩ ?_
      exact back (i, h) _ ⟨hi, by omega, by omega⟩ (by simp only; omega) (by kernel_rfl) (by kernel_rfl) (by kernel_rfl)
end Go.Proofs.YthnojedlndblbaaGreatDoor
namespace Go.Proofs.YthnojedlndblbaaGreatDoor
open Go Go.RowKit

theorem st_facts : ∀ {l : List (Int × Int)} {last : Int}, stOk last l = true → RiseD l ∧ ∀ q ∈ l, last < q.1 ∧ dayP q.1 = true ∧ inM q.2
  | [], last, _ => ⟨List.Pairwise.nil, by simp⟩
  | q :: r, last, h => by
    rw [stOk] at h
    simp only [Bool.and_eq_true, Bool.not_eq_true', decide_eq_false_iff_not] at h
    obtain ⟨⟨⟨h1, h2⟩, h3⟩, h4⟩ := h
    obtain ⟨g1, g2⟩ := st_facts h4
    refine ⟨List.pairwise_cons.2 ⟨fun x hx => (g2 x hx).1, g1⟩, fun x hx => ?_⟩
    rcases List.mem_cons.1 hx with rfl | hx
    · exact ⟨by omega, h2, numP_in.1 h3⟩
    · obtain ⟨a, b, c⟩ := g2 x hx
      exact ⟨by omega, b, c⟩
theorem fd_facts : ∀ {fs : Fs} {last : List UInt8}, fdOk last fs = true → RiseN fs ∧ ∀ f ∈ fs, last < f.1 ∧ namP f.1 = true ∧ stmP f.2 = true
  | [], last, _ => ⟨List.Pairwise.nil, by simp⟩
  | f :: r, last, h => by
    rw [fdOk] at h
    simp only [Bool.and_eq_true, decide_eq_true_eq] at h
    obtain ⟨⟨⟨h1, h2⟩, h3⟩, h4⟩ := h
    obtain ⟨g1, g2⟩ := fd_facts h4
    refine ⟨List.pairwise_cons.2 ⟨fun x hx => (g2 x hx).1, g1⟩, fun x hx => ?_⟩
    rcases List.mem_cons.1 hx with rfl | hx
    · exact ⟨h1, h2, h3⟩
    · obtain ⟨a, b, c⟩ := g2 x hx
      exact ⟨List.lt_trans h1 a, b, c⟩
/-- Right feeds. -/
structure RFd (fs : Fs) : Prop where
  len : fs.length ≤ 64
  rise : RiseN fs
  each : ∀ f ∈ fs, namP f.1 = true ∧ f.2.length ≤ 4096 ∧ RiseD f.2 ∧ ∀ q ∈ f.2, dayP q.1 = true ∧ inM q.2
theorem rf_right {fs : Fs} (h : rfP fs = true) : RFd fs := by
  unfold rfP at h
  simp only [Bool.and_eq_true, decide_eq_true_eq] at h
  obtain ⟨g1, g2⟩ := fd_facts h.2
  refine ⟨h.1, g1, fun f hf => ?_⟩
  obtain ⟨-, a, b⟩ := g2 f hf
  unfold stmP at b
  simp only [Bool.and_eq_true, decide_eq_true_eq] at b
  obtain ⟨e1, e2⟩ := st_facts b.2
  exact ⟨a, b.1, e1, fun q hq => (e2 q hq).2⟩
theorem RFd.rf {fs : Fs} (h : RFd fs) : RF fs := fun f hf q hq => ((h.each f hf).2.2.2 q hq).2
def fndN (name : List UInt8) (fs : Fs) : Bool := match fs[posN name fs]? with | some f => decide (f.1 = name) | none => false
def fndD (day : Int) (l : List (Int × Int)) : Bool := match l[posD day l]? with | some q => (Lib.compareInt q.1 day == 0) | none => false
theorem srcF {fs : Fs} {v : Value} {w : World} (hF : Fds w.heap.size w v fs) (hR : RFd fs) (name : List UInt8) : Calls Tryz.prog 71 #[v, strV name, .func (.func 72) #[] #[]] w fun e w' => e = .returned (.tuple #[.int .i64 (posN name fs : Nat), .bool (fndN name fs)]) ∧ Below w.heap.size w w' :=
  (searchF_any hF (by have := hR.len; omega) hR.rise name).mono fun e w' ⟨B, h1, h2, he, hB⟩ => ⟨by
    have : B = fndN name fs := by
      unfold fndN
      cases hq : fs[posN name fs]? with
      | none => exact h2 hq
      | some f => exact h1 f hq
    rw [he, this], hB⟩
theorem srcT {l : List (Int × Int)} {v : Value} {w : World} (hF : Sts w.heap.size w v l) (hl : l.length ≤ 4096) (hR : RiseD l) (day : Int) : Calls Tryz.prog 74 #[v, .int .i64 day, .func (.func 75) #[] #[]] w fun e w' => e = .returned (.tuple #[.int .i64 (posD day l : Nat), .bool (fndD day l)]) ∧ Below w.heap.size w w' :=
  (searchT_any hF (by omega) hR day).mono fun e w' ⟨B, h1, h2, he, hB⟩ => ⟨by
    have : B = fndD day l := by
      unfold fndD
      cases hq : l[posD day l]? with
      | none => exact h2 hq
      | some f => exact h1 f hq
    rw [he, this], hB⟩
set_option maxRecDepth 100000 in
seal rn rnN rnS Goes ans atEnd put0 putM opened openedY putA0 putA oneSt st0 keep in
theorem told_any {fs : Fs} {a : Option Addr} {N c : Nat} (hR : RFd fs) (day : Int) (name : List UInt8) (d : Int) (hd : -1000000 ≤ d ∧ d ≤ 1000000) {w : World} (hF : Fds w.heap.size w (.slice a N c) fs) : Calls Tryz.prog 42 #[dwV day (.slice a N c), strV name, .int .i64 d] w fun e w' => e = .returned (oV (fedP name d fs)) ∧ Below w.heap.size w w' := by
  have hat := fed_at (name := name) (day := d) hR.rise
  refine Goes.begin Tryz.func42 [] (fun _ => True) Holds.nil (by simp [Mem.ids]) (fun _ _ => trivial) ?_
  refine Goes.run1 [0] [] trivial fun g => ?_
  refine Goes.call0 71 #[.slice a N c, strV name, .func (.func 72) #[] #[]] (.tuple #[.int .i64 (posN name fs : Nat), .bool (fndN name fs)]) (fun w' _ hI => srcF (hF.at (bel0 hI)) hR name) ?_
  cases hB : fndN name fs with
  | false =>
    have hnone : fedP name d fs = none := by
      rw [hat]
      unfold fndN at hB
      cases hq : fs[posN name fs]? with
      | none => rfl
      | some f => rw [hq] at hB; simp only at hB ⊢; rw [hB]; rfl
    rw [hnone]
    refine Goes.run [1] [(true, true)] ⟨rfl, trivial⟩ ?_
    exact Goes.ret [] (.tuple #[.int .i64 0, .bool false]) fun w' hm hI => ⟨rfl, bel0 hI⟩
  | true =>
    obtain ⟨f, hf, hfn⟩ : ∃ f, fs[posN name fs]? = some f ∧ decide (f.1 = name) = true := by
      unfold fndN at hB
      cases hq : fs[posN name fs]? with
      | none => rw [hq] at hB; cases hB
      | some f => rw [hq] at hB; exact ⟨f, rfl, hB⟩
    rw [hf] at hat
    simp only [hfn, cond_true] at hat
    obtain ⟨-, hlen, hrise, -⟩ := hR.each f (List.mem_of_getElem? hf)
    rw [stp_at hrise] at hat
    rw [hat]
    obtain ⟨p, hp⟩ : ∃ p, posN name fs = p := ⟨_, rfl⟩
    rw [hp] at hf ⊢
    have hF0 := hF
    obtain ⟨a', c', he, hc, hfs⟩ := hF
    cases he
    obtain ⟨b, o, u, rfl, hb, x1, x2, hst⟩ := hfs p f hf
    have hst0 := hst
    obtain ⟨a2, c2, rfl, hc2, hst2⟩ := hst
    obtain ⟨M, hM⟩ : ∃ M, f.2.length = M := ⟨_, rfl⟩
    rw [hM] at x2 hlen hst0 hc2
    have hpl : p < fs.length := (List.getElem?_eq_some_iff.1 hf).1
    obtain ⟨N, hN⟩ : ∃ N, fs.length = N := ⟨_, rfl⟩
    rw [hN] at hpl hc ⊢
    refine Goes.run [0, 0] [(false, false)] ⟨rfl, trivial⟩ ?_
    refine Goes.val (Instr.indexAt 25 (.slice (some ⟨b, o, none⟩) N c) (.int .i64 p)) (.pointer (some ⟨b, o + p * 2, none⟩)) (fun w' _ _ => idxF b o N c p hpl w') ?_
    refine Goes.run [] [] trivial ?_
    refine Goes.val (Instr.loadAt 77 (.pointer (some ⟨b, o + p * 2 + 1, none⟩))) (.slice a2 M c2) (fun w' _ hI => load1 Tryz.isAgg77 (((bel0 hI).cell (p := ⟨b, o + p * 2 + 1, none⟩) hb).trans x2)) ?_
    refine Goes.upto 32 [] [] trivial ?_
    refine Goes.slot 31 (.int .i64 (d + 1)) (u := .int .i64 (IntKind.i64.wrap (d + 1))) (congrArg _ (IntWalk.i64_in _ ⟨by omega, by omega⟩)) ?_
    obtain ⟨m, hm⟩ : ∃ m, posD (d + 1) f.2 = m := ⟨_, rfl⟩
    refine Goes.call0 74 #[.slice a2 M c2, .int .i64 (d + 1), .func (.func 75) #[] #[]] (.tuple #[.int .i64 (m : Nat), .bool (fndD (d + 1) f.2)]) (fun w' _ hI => by have := srcT ((hst0.later (bel0 hI)).more (bel0 hI).size) (by omega) hrise (d + 1); rwa [hm] at this) ?_
    rw [hm]
    cases h0 : ((m : Int) == 0) with
    | true =>
      have hm0 : m = 0 := by have := eq_of_beq h0; omega
      have hv : (bif m == 0 then none else (f.2[m - 1]?).map (·.2)) = none := by rw [hm0]; rfl
      rw [hv]
      refine Goes.run [1] [((m : Int) == 0, true)] ⟨h0, trivial⟩ ?_
      exact Goes.ret [] (.tuple #[.int .i64 0, .bool false]) fun w' hm hI => ⟨rfl, bel0 hI⟩
    | false =>
      have hm0 : m ≠ 0 := fun e => by rw [e] at h0; cases h0
      have hmM : m ≤ M := by rw [← hm, ← hM]; exact posD_le _ _
      obtain ⟨q, hq⟩ : ∃ q, f.2[m - 1]? = some q := ⟨f.2[m - 1]'(by omega), by simp⟩
      obtain ⟨b2, o2, rfl, hb2, y1, y2⟩ := hst2 (m - 1) q hq
      have hv : (bif m == 0 then none else (f.2[m - 1]?).map (·.2)) = some q.2 := by
        rw [beq_false_of_ne hm0, cond_false, hq]; rfl
      rw [hv]
      refine Goes.upto 40 [0] [((m : Int) == 0, false)] ⟨h0, trivial⟩ ?_
      refine Goes.slot 39 (.int .i64 ((m - 1 : Nat) : Int)) (u := .int .i64 (IntKind.i64.wrap ((m : Int) - 1))) (congrArg _ (by rw [IntWalk.i64_in _ ⟨by omega, by omega⟩]; omega)) ?_
      refine Goes.val (Instr.indexAt 77 (.slice (some ⟨b2, o2, none⟩) M c2) (.int .i64 ((m - 1 : Nat) : Int))) (.pointer (some ⟨b2, o2 + (m - 1) * 2, none⟩)) (fun w' _ _ => idxT b2 o2 M c2 (m - 1) (by omega) w') ?_
      refine Goes.run [] [] trivial ?_
      refine Goes.val (Instr.loadAt 2 (.pointer (some ⟨b2, o2 + (m - 1) * 2 + 1, none⟩))) (.int .i64 q.2) (fun w' _ hI => load1 Tryz.isAgg2 (((bel0 hI).cell (p := ⟨b2, o2 + (m - 1) * 2 + 1, none⟩) hb2).trans y2)) ?_
      refine Goes.run [] [] trivial ?_
      exact Goes.ret [] (.tuple #[.int .i64 q.2, .bool true]) fun w' hm hI => ⟨rfl, bel0 hI⟩
end Go.Proofs.YthnojedlndblbaaGreatDoor
namespace Go.Proofs.YthnojedlndblbaaGreatDoor
open Go Go.RowKit

theorem cell_same {w w' : World} {b o : Nat} (h : w'.heap[b]? = w.heap[b]?) : w'.cell? ⟨b, o, none⟩ = w.cell? ⟨b, o, none⟩ := by
  unfold World.cell?
  rw [h]
theorem Cl4.same {w w' : World} {b o : Nat} {v : Value} (h : Cl4 w b o v) (e : w'.heap[b]? = w.heap[b]?) : Cl4 w' b o v := by
  obtain ⟨op, k, s, u, h1, h2, h3, h4, h5⟩ := h
  exact ⟨op, k, s, u, h1, (cell_same e).trans h2, (cell_same e).trans h3, (cell_same e).trans h4, (cell_same e).trans h5⟩
theorem blk_of {w : World} {b : Nat} (h : b < w.heap.size) : ∃ ob, w.heap[b]? = some ob := ⟨w.heap[b], by simp [h]⟩
theorem hex1 {w w' : World} {b : Nat} {ob : Obj} (hb : w.heap[b]? = some ob) (h : Ch (Mem.ids []) w w') : Holds [(b, ob)] w' := fun j c o hj => by
  match j, hj with
  | 0, hj => cases hj; exact (h.block b (lt_of_get hb) (by simp [Mem.ids])).trans hb
/-- The program reckons a term's value as it is. -/
def VOk (fs : Fs) (a : Option Addr) (N cF : Nat) (day : Int) (c : Co) : Prop := ∀ (d z : Int) (v : Value) (w : World), typF d c = (z, true) → z ≠ 4 → Tab w → Nc w.heap.size w v c → Fds w.heap.size w (.slice a N cF) fs → Calls Tryz.prog 23 #[dwV day (.slice a N cF), v] w fun e w' => e = .returned (oV (valP fs day c)) ∧ Below w.heap.size w w'
theorem val_and (fs : Fs) (day k : Int) (t : List UInt8) (c0 c1 : Co) : valP fs day (.mk 15 k t [c0, c1]) = match valP fs day c0 with | none => none | some a => bif a == 0 then some 0 else valP fs day c1 := by
  rw [valP, valL, valL, valL]; rfl
theorem val_or (fs : Fs) (day k : Int) (t : List UInt8) (c0 c1 : Co) : valP fs day (.mk 16 k t [c0, c1]) = match valP fs day c0 with | none => none | some a => bif a == 1 then some 1 else valP fs day c1 := by
  rw [valP, valL, valL, valL]; rfl
theorem val_if (fs : Fs) (day k : Int) (t : List UInt8) (c0 c1 c2 : Co) : valP fs day (.mk 22 k t [c0, c1, c2]) = match valP fs day c0 with | none => none | some a => bif a == 1 then valP fs day c1 else valP fs day c2 := by
  rw [valP, valL, valL, valL, valL]; rfl
section
variable {fs : Fs} {a : Option Addr} {N cF : Nat} {day : Int}
set_option maxRecDepth 100000 in
seal rn rnN rnS Goes ans atEnd put0 putM opened openedY putA0 putA oneSt st0 keep in
theorem chosen15 {d k : Int} {t : List UInt8} {c0 c1 : Co} {av : Option Addr} {cc : Nat} {w : World} (hR : RFd fs) (ih0 : VOk fs a N cF day c0) (ht0 : typF (d + 1) c0 = (1, true)) (ih1 : VOk fs a N cF day c1) (ht1 : typF (d + 1) c1 = (1, true)) (hT : Tab w) (hN : Nc w.heap.size w (cv 15 k t (.slice av 2 cc)) (.mk 15 k t [c0, c1])) (hF : Fds w.heap.size w (.slice a N cF) fs) : Calls Tryz.prog 44 #[dwV day (.slice a N cF), cv 15 k t (.slice av 2 cc)] w fun e w' => e = .returned (oV (valP fs day (.mk 15 k t [c0, c1]))) ∧ Below w.heap.size w w' := by
  obtain ⟨av', cc', he, hfit, hcap, hkids⟩ := hN.open
  cases he
  obtain ⟨b, o, y0, rfl, hb, hcl0, hy0⟩ := hkids 0 c0 rfl
  obtain ⟨b1, o1, y1, he1, hb1, hcl1, hy1⟩ := hkids 1 c1 rfl
  cases he1
  obtain ⟨p0, k0, t0, a0, N0, c0', rfl⟩ := hy0.cells
  obtain ⟨p1, k1, t1, a1, N1, c1', rfl⟩ := hy1.cells
  obtain ⟨ob, hob⟩ := blk_of hb
  rw [val_and]
  refine Goes.begin Tryz.func44 [] (fun _ => True) Holds.nil (by simp [Mem.ids]) (fun _ _ => trivial) ?_
  refine Goes.run2 [] [] trivial fun g0 g1 => ?_
  refine Goes.openY [0, 1] [(b, ob)] (fun w' hI => hex1 hob hI.1) ?_
  refine Goes.run [0, 0, 1, 2, 1, 3, 0] [] trivial ?_
  refine Goes.valA 4 (Instr.loadAt 24 (.pointer (some ⟨b, o + 0 * 4, none⟩))) (cv p0 k0 t0 (.slice a0 N0 c0')) (fun w' hm => loadC (hcl0.same ((hm.get 2).trans hob.symm))) ?_
  refine Goes.callA0 5 23 #[dwV day (.slice a N cF), cv p0 k0 t0 (.slice a0 N0 c0')] (oV (valP fs day c0)) (fun w' _ hI => ih0 _ _ _ w' ht0 (by omega) (hT.below (bel0 hI)) (hy0.at (bel0 hI)) (hF.at (bel0 hI))) ?_
  cases hv0 : valP fs day c0 with
  | none =>
    refine Goes.run [6, 7, 8, 9, 10, 1] [(true, true)] ⟨rfl, trivial⟩ ?_
    exact Goes.ret [] (.tuple #[.int .i64 0, .bool false]) fun w' hm hI => ⟨rfl, bel0 hI⟩
  | some n =>
    have hkd := val_kd hR.rf c0 _ _ _ ht0 (by omega) hv0
    have hn01 := hkd.2.1 rfl
    simp only
    cases hn1 : (n == 1) with
    | true =>
      obtain hnv : n = 1 := eq_of_beq hn1
      refine Goes.run [6, 7, 8, 9, 10, 0, 1, 0, 0, 1, 1, 0, 1, 0, 0] [(false, false), (false, false), (!(n == 1), false), (true, true), (false, false), (false, false), (false, false)] ⟨rfl, rfl, (by rw [hn1]; rfl), rfl, rfl, rfl, rfl, trivial⟩ ?_
      refine Goes.openY [0, 1] [(b, ob)] (fun w' hI => hex1 hob hI.1) ?_
      refine Goes.run [0, 0, 1, 2, 1, 3, 0] [] trivial ?_
      refine Goes.valA 4 (Instr.loadAt 24 (.pointer (some ⟨b, o + 1 * 4, none⟩))) (cv p1 k1 t1 (.slice a1 N1 c1')) (fun w' hm => loadC (hcl1.same ((hm.get 2).trans hob.symm))) ?_
      refine Goes.callA0 5 23 #[dwV day (.slice a N cF), cv p1 k1 t1 (.slice a1 N1 c1')] (oV (valP fs day c1)) (fun w' _ hI => ih1 _ _ _ w' ht1 (by omega) (hT.below (bel0 hI)) (hy1.at (bel0 hI)) (hF.at (bel0 hI))) ?_
      refine Goes.run [6, 7, 8, 9] [] trivial ?_
      exact Goes.ret [] (oV (valP fs day c1)) fun w' hm hI => ⟨by first | rfl | (rw [hnv]; rfl), bel0 hI⟩
    | false =>
      obtain hnv : n = 0 := by rcases hn01 with h | h; exact h; rw [h] at hn1; cases hn1
      refine Goes.run [6, 7, 8, 9, 10, 0, 1, 0, 0, 1, 1, 1, 1] [(!(n == 1), true), (!(n == 1), true), (true, true), (false, false), (false, false), (false, false)] ⟨(by rw [hn1]; rfl), (by rw [hn1]; rfl), rfl, rfl, rfl, rfl, trivial⟩ ?_
      exact Goes.ret [] (.tuple #[.int .i64 n, .bool true]) fun w' hm hI => ⟨by first | rfl | (rw [hnv]; rfl), bel0 hI⟩
set_option maxRecDepth 100000 in
seal rn rnN rnS Goes ans atEnd put0 putM opened openedY putA0 putA oneSt st0 keep in
theorem chosen16 {d k : Int} {t : List UInt8} {c0 c1 : Co} {av : Option Addr} {cc : Nat} {w : World} (hR : RFd fs) (ih0 : VOk fs a N cF day c0) (ht0 : typF (d + 1) c0 = (1, true)) (ih1 : VOk fs a N cF day c1) (ht1 : typF (d + 1) c1 = (1, true)) (hT : Tab w) (hN : Nc w.heap.size w (cv 16 k t (.slice av 2 cc)) (.mk 16 k t [c0, c1])) (hF : Fds w.heap.size w (.slice a N cF) fs) : Calls Tryz.prog 44 #[dwV day (.slice a N cF), cv 16 k t (.slice av 2 cc)] w fun e w' => e = .returned (oV (valP fs day (.mk 16 k t [c0, c1]))) ∧ Below w.heap.size w w' := by
  obtain ⟨av', cc', he, hfit, hcap, hkids⟩ := hN.open
  cases he
  obtain ⟨b, o, y0, rfl, hb, hcl0, hy0⟩ := hkids 0 c0 rfl
  obtain ⟨b1, o1, y1, he1, hb1, hcl1, hy1⟩ := hkids 1 c1 rfl
  cases he1
  obtain ⟨p0, k0, t0, a0, N0, c0', rfl⟩ := hy0.cells
  obtain ⟨p1, k1, t1, a1, N1, c1', rfl⟩ := hy1.cells
  obtain ⟨ob, hob⟩ := blk_of hb
  rw [val_or]
  refine Goes.begin Tryz.func44 [] (fun _ => True) Holds.nil (by simp [Mem.ids]) (fun _ _ => trivial) ?_
  refine Goes.run2 [] [] trivial fun g0 g1 => ?_
  refine Goes.openY [0, 1] [(b, ob)] (fun w' hI => hex1 hob hI.1) ?_
  refine Goes.run [0, 0, 1, 2, 1, 3, 0] [] trivial ?_
  refine Goes.valA 4 (Instr.loadAt 24 (.pointer (some ⟨b, o + 0 * 4, none⟩))) (cv p0 k0 t0 (.slice a0 N0 c0')) (fun w' hm => loadC (hcl0.same ((hm.get 2).trans hob.symm))) ?_
  refine Goes.callA0 5 23 #[dwV day (.slice a N cF), cv p0 k0 t0 (.slice a0 N0 c0')] (oV (valP fs day c0)) (fun w' _ hI => ih0 _ _ _ w' ht0 (by omega) (hT.below (bel0 hI)) (hy0.at (bel0 hI)) (hF.at (bel0 hI))) ?_
  cases hv0 : valP fs day c0 with
  | none =>
    refine Goes.run [6, 7, 8, 9, 10, 1] [(true, true)] ⟨rfl, trivial⟩ ?_
    exact Goes.ret [] (.tuple #[.int .i64 0, .bool false]) fun w' hm hI => ⟨rfl, bel0 hI⟩
  | some n =>
    have hkd := val_kd hR.rf c0 _ _ _ ht0 (by omega) hv0
    have hn01 := hkd.2.1 rfl
    simp only
    cases hn1 : (n == 1) with
    | true =>
      obtain hnv : n = 1 := eq_of_beq hn1
      refine Goes.run [6, 7, 8, 9, 10, 0, 1, 0, 0, 1, 0, 0, 1, 1, 1] [(n == 1, true), (true, true), (false, false), (false, false), (false, false), (false, false), (false, false)] ⟨hn1, rfl, rfl, rfl, rfl, rfl, rfl, trivial⟩ ?_
      exact Goes.ret [] (.tuple #[.int .i64 n, .bool true]) fun w' hm hI => ⟨by first | rfl | (rw [hnv]; rfl), bel0 hI⟩
    | false =>
      obtain hnv : n = 0 := by rcases hn01 with h | h; exact h; rw [h] at hn1; cases hn1
      refine Goes.run [6, 7, 8, 9, 10, 0, 1, 0, 0, 1, 0, 0, 1, 1, 0] [(n == 1, false), (true, true), (false, false), (false, false), (false, false), (false, false), (false, false)] ⟨hn1, rfl, rfl, rfl, rfl, rfl, rfl, trivial⟩ ?_
      refine Goes.openY [0, 1] [(b, ob)] (fun w' hI => hex1 hob hI.1) ?_
      refine Goes.run [0, 0, 1, 2, 1, 3, 0] [] trivial ?_
      refine Goes.valA 4 (Instr.loadAt 24 (.pointer (some ⟨b, o + 1 * 4, none⟩))) (cv p1 k1 t1 (.slice a1 N1 c1')) (fun w' hm => loadC (hcl1.same ((hm.get 2).trans hob.symm))) ?_
      refine Goes.callA0 5 23 #[dwV day (.slice a N cF), cv p1 k1 t1 (.slice a1 N1 c1')] (oV (valP fs day c1)) (fun w' _ hI => ih1 _ _ _ w' ht1 (by omega) (hT.below (bel0 hI)) (hy1.at (bel0 hI)) (hF.at (bel0 hI))) ?_
      refine Goes.run [6, 7, 8, 9] [] trivial ?_
      exact Goes.ret [] (oV (valP fs day c1)) fun w' hm hI => ⟨by first | rfl | (rw [hnv]; rfl), bel0 hI⟩
set_option maxRecDepth 100000 in
seal rn rnN rnS Goes ans atEnd put0 putM opened openedY putA0 putA oneSt st0 keep in
theorem chosen22 {d k z : Int} {t : List UInt8} {c0 c1 c2 : Co} {av : Option Addr} {cc : Nat} {w : World} (hz : z ≠ 4) (hR : RFd fs) (ih0 : VOk fs a N cF day c0) (ht0 : typF (d + 1) c0 = (1, true)) (ih1 : VOk fs a N cF day c1) (ht1 : typF (d + 1) c1 = (z, true)) (ih2 : VOk fs a N cF day c2) (ht2 : typF (d + 1) c2 = (z, true)) (hT : Tab w) (hN : Nc w.heap.size w (cv 22 k t (.slice av 3 cc)) (.mk 22 k t [c0, c1, c2])) (hF : Fds w.heap.size w (.slice a N cF) fs) : Calls Tryz.prog 44 #[dwV day (.slice a N cF), cv 22 k t (.slice av 3 cc)] w fun e w' => e = .returned (oV (valP fs day (.mk 22 k t [c0, c1, c2]))) ∧ Below w.heap.size w w' := by
  obtain ⟨av', cc', he, hfit, hcap, hkids⟩ := hN.open
  cases he
  obtain ⟨b, o, y0, rfl, hb, hcl0, hy0⟩ := hkids 0 c0 rfl
  obtain ⟨b1, o1, y1, he1, hb1, hcl1, hy1⟩ := hkids 1 c1 rfl
  cases he1
  obtain ⟨b2, o2, y2, he2, hb2, hcl2, hy2⟩ := hkids 2 c2 rfl
  cases he2
  obtain ⟨p0, k0, t0, a0, N0, c0', rfl⟩ := hy0.cells
  obtain ⟨p1, k1, t1, a1, N1, c1', rfl⟩ := hy1.cells
  obtain ⟨p2, k2, t2, a2, N2, c2', rfl⟩ := hy2.cells
  obtain ⟨ob, hob⟩ := blk_of hb
  rw [val_if]
  refine Goes.begin Tryz.func44 [] (fun _ => True) Holds.nil (by simp [Mem.ids]) (fun _ _ => trivial) ?_
  refine Goes.run2 [] [] trivial fun g0 g1 => ?_
  refine Goes.openY [0, 1] [(b, ob)] (fun w' hI => hex1 hob hI.1) ?_
  refine Goes.run [0, 0, 1, 2, 1, 3, 0] [] trivial ?_
  refine Goes.valA 4 (Instr.loadAt 24 (.pointer (some ⟨b, o + 0 * 4, none⟩))) (cv p0 k0 t0 (.slice a0 N0 c0')) (fun w' hm => loadC (hcl0.same ((hm.get 2).trans hob.symm))) ?_
  refine Goes.callA0 5 23 #[dwV day (.slice a N cF), cv p0 k0 t0 (.slice a0 N0 c0')] (oV (valP fs day c0)) (fun w' _ hI => ih0 _ _ _ w' ht0 (by omega) (hT.below (bel0 hI)) (hy0.at (bel0 hI)) (hF.at (bel0 hI))) ?_
  cases hv0 : valP fs day c0 with
  | none =>
    refine Goes.run [6, 7, 8, 9, 10, 1] [(true, true)] ⟨rfl, trivial⟩ ?_
    exact Goes.ret [] (.tuple #[.int .i64 0, .bool false]) fun w' hm hI => ⟨rfl, bel0 hI⟩
  | some n =>
    have hkd := val_kd hR.rf c0 _ _ _ ht0 (by omega) hv0
    have hn01 := hkd.2.1 rfl
    simp only
    cases hn1 : (n == 1) with
    | true =>
      obtain hnv : n = 1 := eq_of_beq hn1
      refine Goes.run [6, 7, 8, 9, 10, 0, 1, 1, 0, 1, 0, 0, 1, 0, 0] [(false, false), (false, false), (false, false), (false, false), (!(n == 1), false), (true, true), (false, false)] ⟨rfl, rfl, rfl, rfl, (by rw [hn1]; rfl), rfl, rfl, trivial⟩ ?_
      refine Goes.openY [0, 1] [(b, ob)] (fun w' hI => hex1 hob hI.1) ?_
      refine Goes.run [0, 0, 1, 2, 1, 3, 0] [] trivial ?_
      refine Goes.valA 4 (Instr.loadAt 24 (.pointer (some ⟨b, o + 1 * 4, none⟩))) (cv p1 k1 t1 (.slice a1 N1 c1')) (fun w' hm => loadC (hcl1.same ((hm.get 2).trans hob.symm))) ?_
      refine Goes.callA0 5 23 #[dwV day (.slice a N cF), cv p1 k1 t1 (.slice a1 N1 c1')] (oV (valP fs day c1)) (fun w' _ hI => ih1 _ _ _ w' ht1 (by omega) (hT.below (bel0 hI)) (hy1.at (bel0 hI)) (hF.at (bel0 hI))) ?_
      refine Goes.run [6, 7, 8, 9] [] trivial ?_
      exact Goes.ret [] (oV (valP fs day c1)) fun w' hm hI => ⟨by first | rfl | (rw [hnv]; rfl), bel0 hI⟩
    | false =>
      obtain hnv : n = 0 := by rcases hn01 with h | h; exact h; rw [h] at hn1; cases hn1
      refine Goes.run [6, 7, 8, 9, 10, 0, 1, 1, 1] [(!(n == 1), true), (true, true), (false, false)] ⟨(by rw [hn1]; rfl), rfl, rfl, trivial⟩ ?_
      refine Goes.openY [0, 1] [(b, ob)] (fun w' hI => hex1 hob hI.1) ?_
      refine Goes.run [0, 0, 1, 2, 1, 3, 0] [] trivial ?_
      refine Goes.valA 4 (Instr.loadAt 24 (.pointer (some ⟨b, o + 2 * 4, none⟩))) (cv p2 k2 t2 (.slice a2 N2 c2')) (fun w' hm => loadC (hcl2.same ((hm.get 2).trans hob.symm))) ?_
      refine Goes.callA0 5 23 #[dwV day (.slice a N cF), cv p2 k2 t2 (.slice a2 N2 c2')] (oV (valP fs day c2)) (fun w' _ hI => ih2 _ _ _ w' ht2 (by omega) (hT.below (bel0 hI)) (hy2.at (bel0 hI)) (hF.at (bel0 hI))) ?_
      refine Goes.run [6, 7, 8, 9] [] trivial ?_
      exact Goes.ret [] (oV (valP fs day c2)) fun w' hm hI => ⟨by first | rfl | (rw [hnv]; rfl), bel0 hI⟩
set_option maxRecDepth 100000 in
seal rn rnN rnS Goes ans atEnd put0 putM opened openedY putA0 putA oneSt st0 keep in
theorem reckoned1 {d op k z0 : Int} {t : List UInt8} {c0 : Co} {av : Option Addr} {cc : Nat} {w : World} (ih0 : VOk fs a N cF day c0) (ht0 : typF (d + 1) c0 = (z0, true)) (hz0 : z0 ≠ 4) (hT : Tab w) (hN : Nc w.heap.size w (cv op k t (.slice av 1 cc)) (.mk op k t [c0])) (hF : Fds w.heap.size w (.slice a N cF) fs) : Calls Tryz.prog 45 #[dwV day (.slice a N cF), cv op k t (.slice av 1 cc)] w fun e w' => e = .returned (oV ((valP fs day c0).map fun x => rckP op x 0)) ∧ Below w.heap.size w w' := by
  obtain ⟨av', cc', he, hfit, hcap, hkids⟩ := hN.open
  cases he
  obtain ⟨b, o, y0, rfl, hb, hcl0, hy0⟩ := hkids 0 c0 rfl
  obtain ⟨p0, k0, t0, a0, N0, c0', rfl⟩ := hy0.cells
  refine Goes.begin Tryz.func45 [] (fun _ => True) Holds.nil (by simp [Mem.ids]) (fun _ _ => trivial) ?_
  refine Goes.run3 [1, 0, 1, 0] [(true, true)] ⟨rfl, trivial⟩ fun g0 g1 g2 => ?_
  refine Goes.val (Instr.loadAt 24 (.pointer (some ⟨b, o + 0 * 4, none⟩))) (cv p0 k0 t0 (.slice a0 N0 c0')) (fun w' _ hI => loadC (hcl0.below hb (bel0 hI))) ?_
  refine Goes.run1 [3, 0, 3] [] trivial fun g3 => ?_
  refine Goes.call0 23 #[dwV day (.slice a N cF), cv p0 k0 t0 (.slice a0 N0 c0')] (oV (valP fs day c0)) (fun w' _ hI => ih0 _ _ _ w' ht0 hz0 (hT.below (bel0 hI)) (hy0.at (bel0 hI)) (hF.at (bel0 hI))) ?_
  cases hv0 : valP fs day c0 with
  | none =>
    refine Goes.run [1] [(true, true)] ⟨rfl, trivial⟩ ?_
    exact Goes.ret [] (.tuple #[.int .i64 0, .bool false]) fun w' hm hI => ⟨rfl, bel0 hI⟩
  | some n0 =>
    refine Goes.run [0, 0, 2, 0, 0, 1, 0, 2, 0, 2] [(false, false), (false, false)] ⟨rfl, rfl, trivial⟩ ?_
    refine Goes.call0 79 #[.int .i64 op, .int .i64 n0, .int .i64 0] (.int .i64 (rckP op n0 0)) (fun w' _ hI => reckon_any op n0 0 w' (hT.below (bel0 hI))) ?_
    refine Goes.run [] [] trivial ?_
    exact Goes.ret [] (.tuple #[.int .i64 (rckP op n0 0), .bool true]) fun w' hm hI => ⟨rfl, bel0 hI⟩
set_option maxRecDepth 100000 in
seal rn rnN rnS Goes ans atEnd put0 putM opened openedY putA0 putA oneSt st0 keep in
theorem reckoned2 {d op k z0 z1 : Int} {t : List UInt8} {c0 c1 : Co} {av : Option Addr} {cc : Nat} {w : World} (ih0 : VOk fs a N cF day c0) (ht0 : typF (d + 1) c0 = (z0, true)) (hz0 : z0 ≠ 4) (ih1 : VOk fs a N cF day c1) (ht1 : typF (d + 1) c1 = (z1, true)) (hz1 : z1 ≠ 4) (hT : Tab w) (hN : Nc w.heap.size w (cv op k t (.slice av 2 cc)) (.mk op k t [c0, c1])) (hF : Fds w.heap.size w (.slice a N cF) fs) : Calls Tryz.prog 45 #[dwV day (.slice a N cF), cv op k t (.slice av 2 cc)] w fun e w' => e = .returned (oV ((valP fs day c0).bind fun x => (valP fs day c1).map fun y => rckP op x y)) ∧ Below w.heap.size w w' := by
  obtain ⟨av', cc', he, hfit, hcap, hkids⟩ := hN.open
  cases he
  obtain ⟨b, o, y0, rfl, hb, hcl0, hy0⟩ := hkids 0 c0 rfl
  obtain ⟨b1, o1, y1, he1, hb1, hcl1, hy1⟩ := hkids 1 c1 rfl
  cases he1
  obtain ⟨p0, k0, t0, a0, N0, c0', rfl⟩ := hy0.cells
  obtain ⟨p1, k1, t1, a1, N1, c1', rfl⟩ := hy1.cells
  refine Goes.begin Tryz.func45 [] (fun _ => True) Holds.nil (by simp [Mem.ids]) (fun _ _ => trivial) ?_
  refine Goes.run3 [1, 0, 1, 0] [(true, true)] ⟨rfl, trivial⟩ fun g0 g1 g2 => ?_
  refine Goes.val (Instr.loadAt 24 (.pointer (some ⟨b, o + 0 * 4, none⟩))) (cv p0 k0 t0 (.slice a0 N0 c0')) (fun w' _ hI => loadC (hcl0.below hb (bel0 hI))) ?_
  refine Goes.run1 [3, 0, 3] [] trivial fun g3 => ?_
  refine Goes.call0 23 #[dwV day (.slice a N cF), cv p0 k0 t0 (.slice a0 N0 c0')] (oV (valP fs day c0)) (fun w' _ hI => ih0 _ _ _ w' ht0 hz0 (hT.below (bel0 hI)) (hy0.at (bel0 hI)) (hF.at (bel0 hI))) ?_
  cases hv0 : valP fs day c0 with
  | none =>
    refine Goes.run [1] [(true, true)] ⟨rfl, trivial⟩ ?_
    exact Goes.ret [] (.tuple #[.int .i64 0, .bool false]) fun w' hm hI => ⟨rfl, bel0 hI⟩
  | some n0 =>
    refine Goes.run [0, 0, 2, 0, 1, 0] [(true, true), (false, false)] ⟨rfl, rfl, trivial⟩ ?_
    refine Goes.val (Instr.loadAt 24 (.pointer (some ⟨b, o + 1 * 4, none⟩))) (cv p1 k1 t1 (.slice a1 N1 c1')) (fun w' _ hI => loadC (hcl1.below hb (bel0 hI))) ?_
    refine Goes.run1 [4, 0, 4] [] trivial fun g4 => ?_
    refine Goes.call0 23 #[dwV day (.slice a N cF), cv p1 k1 t1 (.slice a1 N1 c1')] (oV (valP fs day c1)) (fun w' _ hI => ih1 _ _ _ w' ht1 hz1 (hT.below (bel0 hI)) (hy1.at (bel0 hI)) (hF.at (bel0 hI))) ?_
    cases hv1 : valP fs day c1 with
    | none =>
      refine Goes.run [1] [(true, true)] ⟨rfl, trivial⟩ ?_
      exact Goes.ret [] (.tuple #[.int .i64 0, .bool false]) fun w' hm hI => ⟨rfl, bel0 hI⟩
    | some n1 =>
      refine Goes.run [0, 0, 2, 0, 0, 1, 0, 2, 0, 2] [(false, false), (false, false)] ⟨rfl, rfl, trivial⟩ ?_
      refine Goes.call0 79 #[.int .i64 op, .int .i64 n0, .int .i64 n1] (.int .i64 (rckP op n0 n1)) (fun w' _ hI => reckon_any op n0 n1 w' (hT.below (bel0 hI))) ?_
      refine Goes.run [] [] trivial ?_
      exact Goes.ret [] (.tuple #[.int .i64 (rckP op n0 n1), .bool true]) fun w' hm hI => ⟨rfl, bel0 hI⟩
end
end Go.Proofs.YthnojedlndblbaaGreatDoor
namespace Go.Proofs.YthnojedlndblbaaGreatDoor
open Go Go.RowKit

def shp (op : Nat) (l : List Int) (z : Int) : Bool := z == 4 || (decide (1 ≤ op) && decide (op ≤ 5) && l == []) || (op == 6 && l == [0] && z == 0) || (op == 14 && l == [1] && z == 1) || ((op == 15 || op == 16) && l == [1, 1] && z == 1) || (decide (7 ≤ op) && op != 14 && op != 15 && op != 16 && op != 22 && (match l with | [x, y] => x != 4 && y != 4 | _ => false))
theorem rk_shp : ∀ n : Fin 32, (match rkP ((n : Nat) : Int) with | some (l, z) => shp n l z | none => true) = true := by decide
/-- How an observable may stand. -/
theorem rk_cases {op z : Int} {l : List Int} (h : rkP op = some (l, z)) (hz : z ≠ 4) : ((op = 1 ∨ op = 2 ∨ op = 3 ∨ op = 4 ∨ op = 5) ∧ l = []) ∨ (op = 6 ∧ l = [0] ∧ z = 0) ∨ (op = 14 ∧ l = [1] ∧ z = 1) ∨ ((op = 15 ∨ op = 16) ∧ l = [1, 1] ∧ z = 1) ∨ (7 ≤ op ∧ op ≠ 14 ∧ op ≠ 15 ∧ op ≠ 16 ∧ op ≠ 22 ∧ ∃ x y, l = [x, y] ∧ x ≠ 4 ∧ y ≠ 4) := by
  obtain ⟨o0, o1⟩ := op_small h
  have hn : ((op.toNat : Nat) : Int) = op := by omega
  have hs := rk_shp ⟨op.toNat, by omega⟩
  simp only [hn, h] at hs
  unfold shp at hs
  simp only [Bool.or_eq_true, Bool.and_eq_true, beq_iff_eq, decide_eq_true_eq, bne_iff_ne] at hs
  rcases hs with ((((h | ⟨⟨h1, h2⟩, h3⟩) | ⟨⟨h1, h2⟩, h3⟩) | ⟨⟨h1, h2⟩, h3⟩) | ⟨⟨h1, h2⟩, h3⟩) | ⟨⟨⟨⟨⟨h1, h2⟩, h3⟩, h4⟩, h5⟩, h6⟩
  · exact absurd h hz
  · exact .inl ⟨by omega, h3⟩
  · exact .inr (.inl ⟨by omega, h2, h3⟩)
  · exact .inr (.inr (.inl ⟨by omega, h2, h3⟩))
  · exact .inr (.inr (.inr (.inl ⟨by omega, h2, h3⟩)))
  · refine .inr (.inr (.inr (.inr ⟨by omega, by omega, by omega, by omega, by omega, ?_⟩)))
    match l, h6 with
    | [x, y], h6 => simp only [Bool.and_eq_true, bne_iff_ne] at h6; exact ⟨x, y, rfl, h6⟩
theorem val_two {fs : Fs} {day op k : Int} {t : List UInt8} {c0 c1 : Co} (h7 : 7 ≤ op) (h14 : op ≠ 14) (h15 : op ≠ 15) (h16 : op ≠ 16) (h22 : op ≠ 22) : valP fs day (.mk op k t [c0, c1]) = (valP fs day c0).bind fun x => (valP fs day c1).map fun y => rckP op x y := by
  have e : ∀ n : Int, op ≠ n → (op == n) = false := fun n h => beq_false_of_ne h
  rw [valP, valL, valL, valL]
  unfold valC
  rw [e 1 (by omega), e 2 (by omega), e 3 (by omega), e 4 (by omega), e 5 (by omega), e 6 (by omega), e 14 h14, e 15 h15, e 16 h16, e 22 h22]
  simp only [Bool.or_false, cond_false, List.getD_cons_zero, List.getD_cons_succ]
  cases valP fs day c0 with
  | none => rfl
  | some x =>
    cases valP fs day c1 with
    | none => rfl
    | some y => simp only [Option.bind_some, Option.map_some]; rw [rck_two (e 6 (by omega)) (e 14 h14)]
theorem val_neg {fs : Fs} {day k : Int} {t : List UInt8} {c0 : Co} : valP fs day (.mk 6 k t [c0]) = (valP fs day c0).map fun x => rckP 6 x 0 := by
  rw [valP, valL, valL]
  cases valP fs day c0 <;> rfl
theorem val_not {fs : Fs} {day k : Int} {t : List UInt8} {c0 : Co} (h : ∀ n, valP fs day c0 = some n → n = 0 ∨ n = 1) : valP fs day (.mk 14 k t [c0]) = (valP fs day c0).map fun x => rckP 14 x 0 := by
  rw [valP, valL, valL]
  cases hv : valP fs day c0 with
  | none => rfl
  | some n => rw [Option.map_some, rck_not (h n hv)]; rfl
theorem plus_now {day k : Int} (hd : dayP day = true) (hk : -3660 ≤ k ∧ k ≤ 3660) : ((plusV day (IntKind.i64.wrap (0 - k)) : Nat) : Int) = ((clampD (IntKind.i64.wrap (day - k)) : Nat) : Int) := by
  unfold dayP at hd
  simp only [Bool.and_eq_true, decide_eq_true_eq] at hd
  rw [IntWalk.i64_in (0 - k) ⟨by omega, by omega⟩, IntWalk.i64_in (day - k) ⟨by omega, by omega⟩]
  unfold plusV
  have h1 : (clampD day : Int) = day := by unfold clampD; rw [if_neg (by omega), if_neg (by omega)]; omega
  have h2 : withinI (0 - k) 73048 = 0 - k := by unfold withinI; rw [if_neg (by omega), if_neg (by omega)]
  rw [h1, h2, show day + (0 - k) = day - k by omega]
set_option maxRecDepth 100000 in
seal rn rnN rnS Goes ans atEnd put0 putM opened openedY putA0 putA oneSt st0 keep in
theorem value_any {fs : Fs} {a : Option Addr} {N cF : Nat} {day : Int} (hR : RFd fs) (hday : dayP day = true) (c : Co) : VOk fs a N cF day c := by
  induction c using Co.ind with
  | h op k t kids ih =>
    intro d z v w ht hz hT hN hF
    obtain ⟨hown, -, -, l, hl, he⟩ := typ_parts.1 ht
    obtain ⟨hlen, hat⟩ := tys_at hl
    have hday' := hday
    unfold dayP at hday'
    simp only [Bool.and_eq_true, decide_eq_true_eq] at hday'
    have kid : ∀ (i : Nat) (u : Co) (x : Int), kids[i]? = some u → l[i]? = some x → typF (d + 1) u = (x, true) := fun i u x hu hx => by
      obtain ⟨x', h1, h2⟩ := hat i u hu
      rw [hx] at h1
      cases h1
      exact h2
    obtain ⟨av, cc, rfl, hfit, hcap, hkids⟩ := hN.open
    refine Goes.begin Tryz.func23 [] (fun _ => True) Holds.nil (by simp [Mem.ids]) (fun _ _ => trivial) ?_
    rcases end_shape he with ⟨rfl, h4, rfl⟩ | hr
    · -- if
      obtain ⟨c0, c1, c2, rfl⟩ : ∃ c0 c1 c2, kids = [c0, c1, c2] := by match kids, hlen with | [c0, c1, c2], _ => exact ⟨c0, c1, c2, rfl⟩
      refine Goes.run2 [1, 0, 0, 0, 0, 0, 0, 0, 1, 0, 1] [(true, true), (false, false), (false, false), (false, false), (false, false), (false, false), (false, false), (false, false)] ⟨rfl, rfl, rfl, rfl, rfl, rfl, rfl, rfl, trivial⟩ fun g0 g1 => ?_
      refine Goes.call0 44 #[dwV day (.slice a N cF), cv 22 k t (.slice av 3 cc)] (oV (valP fs day (.mk 22 k t [c0, c1, c2]))) (fun w' _ hI => chosen22 hz hR (ih c0 (by simp)) (kid 0 c0 _ rfl rfl) (ih c1 (by simp)) (kid 1 c1 _ rfl rfl) (ih c2 (by simp)) (kid 2 c2 _ rfl rfl) (hT.below (bel0 hI)) (hN.at (bel0 hI)) (hF.at (bel0 hI))) ?_
      refine Goes.run [] [] trivial ?_
      exact Goes.ret [] (oV (valP fs day (.mk 22 k t [c0, c1, c2]))) fun w' hm hI => ⟨rfl, bel0 hI⟩
    · rcases rk_cases hr hz with ⟨h, rfl⟩ | ⟨rfl, rfl, rfl⟩ | ⟨rfl, rfl, rfl⟩ | ⟨h, rfl, rfl⟩ | ⟨h7, h14, h15, h16, h22, x, y, rfl, hx, hy⟩
      · obtain rfl : kids = [] := List.eq_nil_of_length_eq_zero hlen.symm
        rcases h with rfl | rfl | rfl | rfl | rfl
        · refine Goes.run2 [1, 1, 1, 1] [(true, true), (true, true)] ⟨rfl, rfl, trivial⟩ fun g0 g1 => ?_
          exact Goes.ret [] (.tuple #[.int .i64 k, .bool true]) fun w' hm hI => ⟨rfl, bel0 hI⟩
        · refine Goes.run2 [1, 0, 1, 1, 1] [(true, true), (true, true), (false, false)] ⟨rfl, rfl, rfl, trivial⟩ fun g0 g1 => ?_
          exact Goes.ret [] (.tuple #[.int .i64 k, .bool true]) fun w' hm hI => ⟨rfl, bel0 hI⟩
        · refine Goes.run2 [1, 0, 0, 1, 1] [(true, true), (false, false), (false, false)] ⟨rfl, rfl, rfl, trivial⟩ fun g0 g1 => ?_
          exact Goes.ret [] (.tuple #[.int .i64 k, .bool true]) fun w' hm hI => ⟨rfl, bel0 hI⟩
        · have hk : -3660 ≤ k ∧ k ≤ 3660 := by rw [← fld_own] at hown; simp [fldP, inW] at hown; omega
          refine Goes.run2 [1, 0, 0, 0, 1, 0, 1, 0, 1] [(true, true), (false, false), (false, false), (false, false)] ⟨rfl, rfl, rfl, rfl, trivial⟩ fun g0 g1 => ?_
          refine Goes.call0 42 #[dwV day (.slice a N cF), strV t, .int .i64 (IntKind.i64.wrap (day - k))] (oV (fedP t (IntKind.i64.wrap (day - k)) fs)) (fun w' _ hI => told_any hR day t _ (by rw [IntWalk.i64_in (day - k) ⟨by omega, by omega⟩]; omega) (hF.at (bel0 hI))) ?_
          refine Goes.run [] [] trivial ?_
          exact Goes.ret [] (oV (fedP t (IntKind.i64.wrap (day - k)) fs)) fun w' hm hI => ⟨rfl, bel0 hI⟩
        · have hk : -3660 ≤ k ∧ k ≤ 3660 := by rw [← fld_own] at hown; simp [fldP, inW] at hown; omega
          refine Goes.run2 [1, 0, 0, 0, 0, 1, 0, 1] [(true, true), (false, false), (false, false), (false, false), (false, false)] ⟨rfl, rfl, rfl, rfl, rfl, trivial⟩ fun g0 g1 => ?_
          refine Goes.call0 43 #[.int .i64 day, .int .i64 (IntKind.i64.wrap (0 - k))] (.int .i64 ((clampD (IntKind.i64.wrap (day - k)) : Nat) : Int)) (fun w' _ _ => (plus_any day (IntKind.i64.wrap (0 - k)) w').mono fun _ _ h => by rw [plus_now hday hk] at h; exact belQ h) ?_
          refine Goes.run [] [] trivial ?_
          exact Goes.ret [] (.tuple #[.int .i64 ((clampD (IntKind.i64.wrap (day - k)) : Nat) : Int), .bool true]) fun w' hm hI => ⟨rfl, bel0 hI⟩
      · -- neg
        obtain ⟨c0, rfl⟩ : ∃ c0, kids = [c0] := by match kids, hlen with | [c0], _ => exact ⟨c0, rfl⟩
        refine Goes.run2 [1, 0, 0, 0, 0, 0, 0, 0, 0, 0, 1] [(false, false), (false, false), (false, false), (false, false), (false, false), (false, false), (false, false), (false, false)] ⟨rfl, rfl, rfl, rfl, rfl, rfl, rfl, rfl, trivial⟩ fun g0 g1 => ?_
        refine Goes.call0 45 #[dwV day (.slice a N cF), cv 6 k t (.slice av 1 cc)] (oV ((valP fs day c0).map fun x => rckP 6 x 0)) (fun w' _ hI => reckoned1 (ih c0 (by simp)) (kid 0 c0 _ rfl rfl) (by omega) (hT.below (bel0 hI)) (hN.at (bel0 hI)) (hF.at (bel0 hI))) ?_
        refine Goes.run [] [] trivial ?_
        exact Goes.ret [] (oV ((valP fs day c0).map fun x => rckP 6 x 0)) fun w' hm hI => ⟨by rw [val_neg], bel0 hI⟩
      · -- not
        obtain ⟨c0, rfl⟩ : ∃ c0, kids = [c0] := by match kids, hlen with | [c0], _ => exact ⟨c0, rfl⟩
        refine Goes.run2 [1, 0, 0, 0, 0, 0, 0, 0, 0, 0, 1] [(false, false), (false, false), (false, false), (false, false), (false, false), (false, false), (false, false), (false, false)] ⟨rfl, rfl, rfl, rfl, rfl, rfl, rfl, rfl, trivial⟩ fun g0 g1 => ?_
        refine Goes.call0 45 #[dwV day (.slice a N cF), cv 14 k t (.slice av 1 cc)] (oV ((valP fs day c0).map fun x => rckP 14 x 0)) (fun w' _ hI => reckoned1 (ih c0 (by simp)) (kid 0 c0 _ rfl rfl) (by omega) (hT.below (bel0 hI)) (hN.at (bel0 hI)) (hF.at (bel0 hI))) ?_
        refine Goes.run [] [] trivial ?_
        exact Goes.ret [] (oV ((valP fs day c0).map fun x => rckP 14 x 0)) fun w' hm hI => ⟨by rw [val_not (fun n hn => (val_kd hR.rf c0 _ _ _ (kid 0 c0 _ rfl rfl) (by omega) hn).2.1 rfl)], bel0 hI⟩
      · rcases h with rfl | rfl
        · -- and
          obtain ⟨c0, c1, rfl⟩ : ∃ c0 c1, kids = [c0, c1] := by match kids, hlen with | [c0, c1], _ => exact ⟨c0, c1, rfl⟩
          refine Goes.run2 [1, 0, 0, 0, 0, 0, 1, 1, 0, 1] [(true, true), (true, true), (false, false), (false, false), (false, false), (false, false), (false, false)] ⟨rfl, rfl, rfl, rfl, rfl, rfl, rfl, trivial⟩ fun g0 g1 => ?_
          refine Goes.call0 44 #[dwV day (.slice a N cF), cv 15 k t (.slice av 2 cc)] (oV (valP fs day (.mk 15 k t [c0, c1]))) (fun w' _ hI => chosen15 hR (ih c0 (by simp)) (kid 0 c0 _ rfl rfl) (ih c1 (by simp)) (kid 1 c1 _ rfl rfl) (hT.below (bel0 hI)) (hN.at (bel0 hI)) (hF.at (bel0 hI))) ?_
          refine Goes.run [] [] trivial ?_
          exact Goes.ret [] (oV (valP fs day (.mk 15 k t [c0, c1]))) fun w' hm hI => ⟨rfl, bel0 hI⟩
        · -- or
          obtain ⟨c0, c1, rfl⟩ : ∃ c0 c1, kids = [c0, c1] := by match kids, hlen with | [c0, c1], _ => exact ⟨c0, c1, rfl⟩
          refine Goes.run2 [1, 0, 0, 0, 0, 0, 0, 1, 1, 0, 1] [(true, true), (true, true), (false, false), (false, false), (false, false), (false, false), (false, false), (false, false)] ⟨rfl, rfl, rfl, rfl, rfl, rfl, rfl, rfl, trivial⟩ fun g0 g1 => ?_
          refine Goes.call0 44 #[dwV day (.slice a N cF), cv 16 k t (.slice av 2 cc)] (oV (valP fs day (.mk 16 k t [c0, c1]))) (fun w' _ hI => chosen16 hR (ih c0 (by simp)) (kid 0 c0 _ rfl rfl) (ih c1 (by simp)) (kid 1 c1 _ rfl rfl) (hT.below (bel0 hI)) (hN.at (bel0 hI)) (hF.at (bel0 hI))) ?_
          refine Goes.run [] [] trivial ?_
          exact Goes.ret [] (oV (valP fs day (.mk 16 k t [c0, c1]))) fun w' hm hI => ⟨rfl, bel0 hI⟩
      · -- two
        obtain ⟨c0, c1, rfl⟩ : ∃ c0 c1, kids = [c0, c1] := by match kids, hlen with | [c0, c1], _ => exact ⟨c0, c1, rfl⟩
        have e : ∀ n : Int, op ≠ n → (op == n) = false := fun n h => beq_false_of_ne h
        refine Goes.run2 [1, 0, 0, 0, 0, 0, 0, 0, 0, 0, 1] [(op == 22, false), (op == 16, false), (op == 15, false), (op == 5, false), (op == 4, false), (op == 3, false), (op == 2, false), (op == 1, false)] ⟨e 22 h22, e 16 h16, e 15 h15, e 5 (by omega), e 4 (by omega), e 3 (by omega), e 2 (by omega), e 1 (by omega), trivial⟩ fun g0 g1 => ?_
        refine Goes.call0 45 #[dwV day (.slice a N cF), cv op k t (.slice av 2 cc)] (oV ((valP fs day c0).bind fun x => (valP fs day c1).map fun y => rckP op x y)) (fun w' _ hI => reckoned2 (ih c0 (by simp)) (kid 0 c0 _ rfl rfl) hx (ih c1 (by simp)) (kid 1 c1 _ rfl rfl) hy (hT.below (bel0 hI)) (hN.at (bel0 hI)) (hF.at (bel0 hI))) ?_
        refine Goes.run [] [] trivial ?_
        exact Goes.ret [] (oV ((valP fs day c0).bind fun x => (valP fs day c1).map fun y => rckP op x y)) fun w' hm hI => ⟨by rw [val_two h7 h14 h15 h16 h22], bel0 hI⟩
end Go.Proofs.YthnojedlndblbaaGreatDoor
