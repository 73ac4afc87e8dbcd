/- texts put together: NtV NA NB NTold NReck NVal NVal2 NVal3 NSp NLay NAc VmM ESc NRd NAcq0 GMk OP1 -/
import Derived.Test.YtddbiiejilcbbaaGreatDoorAG14
import Derived.Test.YtddbiiejilcbbaaGreatDoorAG4
import Derived.Test.YtddbiiejilcbbaaGreatDoorAG15
import Derived.Test.YtddbiiejilcbbaaGreatDoorAG5
import Derived.Test.YtddbiiejilcbbaaGreatDoorAG3
import Derived.Test.YtddbiiejilcbbaaGreatDoorShelf
import Derived.Lib.Bytealg
import Derived.Test.YtddbiiejilcbbaaGreatDoorAG2
import Derived.Test.DevTool
import Derived.Scope
namespace Go.Proofs.YtddbiiejilcbbaaGreatDoor
open Go Go.RowKit

end Go.Proofs.YtddbiiejilcbbaaGreatDoor
namespace Go.Proofs.YtddbiiejilcbbaaGreatDoor
open Go Go.RowKit

/-- A world: a day and feeds. -/
def dwV (day : Int) (fv : Value) : Value := .agg #[.int .i64 day, fv]
def dayP (d : Int) : Bool := decide (0 ≤ d) && decide (d ≤ 73048)
def numP (n : Int) : Bool := decide (-1000000000000000 ≤ n) && decide (n ≤ 1000000000000000)
theorem numP_in {n : Int} : numP n = true ↔ inM n := by
  unfold numP inM
  simp
theorem clamp_num (n : Int) : (clampI n == n) = numP n := by
  cases h : numP n with
  | true => have := numP_in.1 h; rw [clampI_in this.1 this.2]; simp
  | false =>
    refine beq_false_of_ne fun e => ?_
    have : inM n := by rw [← e]; exact ⟨clampI_ge n, clampI_le n⟩
    rw [numP_in.2 this] at h
    cases h
theorem leafC {w : World} {op k : Int} {s : List UInt8} (hf : Fits op k s) : Nc w.heap.size w (cv op k s (.slice none 0 0)) (.mk op k s []) := Nc.mk op k s [] none 0 (fun _ => undef) hf ⟨by simp, by omega⟩ (fun i h => absurd h (by simp)) (fun i t h => by simp at h)
end Go.Proofs.YtddbiiejilcbbaaGreatDoor
namespace Go.Proofs.YtddbiiejilcbbaaGreatDoor
open Go Go.RowKit

theorem loadAgg {t : TypeId} {n : Nat} (ha : ∀ w, (isAgg t).run Tryz.prog w = .ok true w) (hs : (Tryz.prog.info? t).map (·.size) = some n) {w : World} {b o : Nat} (l : List Value) (hl : l.length = n) (h : ∀ j x, l[j]? = some x → w.cell? ⟨b, o + j, none⟩ = some x) : (Instr.loadAt t (.pointer (some ⟨b, o, none⟩))).run Tryz.prog w = .ok (.agg l.toArray) w := by
  have hc := run_loadCells_list (P := Tryz.prog) w ⟨b, o, none⟩ l (fun j x hx => by rw [add_lit]; exact h j x hx)
  subst hl
  simp only [Instr.loadAt, Instr.sureAddr, Sem.run_bind, Sem.run_pure, Result.andThen, loadVar, ha, run_size hs, hc, if_true]
theorem cells2 {w : World} {b o : Nat} {x y : Value} (h0 : w.cell? ⟨b, o, none⟩ = some x) (h1 : w.cell? ⟨b, o + 1, none⟩ = some y) : ∀ j u, [x, y][j]? = some u → w.cell? ⟨b, o + j, none⟩ = some u := fun j u hu => by
  match j, hu with
  | 0, hu => cases hu; exact h0
  | 1, hu => cases hu; exact h1
theorem sizeF : (Tryz.prog.info? 162).map (·.size) = some 2 := by kernel_rfl
theorem sizeT : (Tryz.prog.info? 164).map (·.size) = some 2 := by kernel_rfl
theorem loadFd {w : World} {b o : Nat} {x y : Value} (h0 : w.cell? ⟨b, o, none⟩ = some x) (h1 : w.cell? ⟨b, o + 1, none⟩ = some y) : (Instr.loadAt 162 (.pointer (some ⟨b, o, none⟩))).run Tryz.prog w = .ok (.agg #[x, y]) w := loadAgg Tryz.isAgg162 sizeF [x, y] rfl (cells2 h0 h1)
theorem loadSt {w : World} {b o : Nat} {x y : Value} (h0 : w.cell? ⟨b, o, none⟩ = some x) (h1 : w.cell? ⟨b, o + 1, none⟩ = some y) : (Instr.loadAt 164 (.pointer (some ⟨b, o, none⟩))).run Tryz.prog w = .ok (.agg #[x, y]) w := loadAgg Tryz.isAgg164 sizeT [x, y] rfl (cells2 h0 h1)
theorem leP_eq (a b : List UInt8) : (decide (a < b) || decide (a = b)) = !(decide (b < a)) := by
  cases h : decide (b < a) with
  | true =>
    have h1 := of_decide_eq_true h
    rw [decide_eq_false (List.lt_asymm h1), decide_eq_false (fun e => by rw [e] at h1; exact List.lt_irrefl _ h1)]
    rfl
  | false =>
    have h1 := of_decide_eq_false h
    have h2 : a ≤ b := List.not_lt.1 h1
    by_cases h3 : a < b
    · rw [decide_eq_true h3]; rfl
    · have h4 : b ≤ a := List.not_lt.1 h3
      rw [decide_eq_true (List.le_antisymm h2 h4)]
      simp
theorem leqT (a b : List UInt8) (w : World) : (binOp .leq 9 (strV a) (strV b)).run Tryz.prog w = .ok (.bool (!(decide (b < a)))) w := by
  unfold strV
  rw [show binOp .leq 9 (.string ⟨a.toArray⟩) (.string ⟨b.toArray⟩) = pure (.bool (Op.bytesLess (ByteArray.mk a.toArray).toList (ByteArray.mk b.toArray).toList || (ByteArray.mk a.toArray).toList == (ByteArray.mk b.toArray).toList)) by simp [binOp, Op.stringOp], Go.Proofs.bytesLess_eq, Lib.toList_data, Lib.toList_data, ← leP_eq]
  have e : (a == b) = decide (a = b) := by by_cases h : a = b <;> simp [h]
  rw [← e]
  rfl
theorem geqT (a b : List UInt8) (w : World) : (binOp .geq 9 (strV a) (strV b)).run Tryz.prog w = .ok (.bool (!(decide (a < b)))) w := by
  unfold strV
  rw [show binOp .geq 9 (.string ⟨a.toArray⟩) (.string ⟨b.toArray⟩) = pure (.bool !(Op.bytesLess (ByteArray.mk a.toArray).toList (ByteArray.mk b.toArray).toList)) by simp [binOp, Op.stringOp], Go.Proofs.bytesLess_eq, Lib.toList_data, Lib.toList_data]
  rfl
/-- Stamps behind a day. -/
def stOk (last : Int) : List (Int × Int) → Bool
  | [] => true
  | q :: r => (!decide (q.1 ≤ last) && dayP q.1 && numP q.2) && stOk q.1 r
def stmP (l : List (Int × Int)) : Bool := decide (l.length ≤ 4096) && stOk (-1) l
/-- Feeds behind a name. -/
def fdOk (last : List UInt8) : Fs → Bool
  | [] => true
  | f :: r => (decide (last < f.1) && namP f.1 && stmP f.2) && fdOk f.1 r
def rfP (fs : Fs) : Bool := decide (fs.length ≤ 64) && fdOk [] fs
end Go.Proofs.YtddbiiejilcbbaaGreatDoor
namespace Go.Proofs.YtddbiiejilcbbaaGreatDoor
open Go Go.RowKit

theorem cmp_lt : ∀ a b : List UInt8, decide (Lib.compareBytes a b < 0) = decide (a < b)
  | [], [] => by simp [Lib.compareBytes]
  | [], b :: bs => by simp [Lib.compareBytes]
  | x :: r, [] => by simp [Lib.compareBytes]
  | x :: r, y :: s => by
    rw [Lib.compareBytes]
    have ih := cmp_lt r s
    by_cases h1 : x < y
    · rw [if_pos h1, decide_eq_true (List.cons_lt_cons_iff.2 (.inl h1))]; rfl
    · rw [if_neg h1]
      by_cases h2 : y < x
      · rw [if_pos h2, decide_eq_false (p := x :: r < y :: s) (fun h => by rcases List.cons_lt_cons_iff.1 h with h | ⟨h, -⟩; exact h1 h; rw [h] at h2; exact absurd h2 (by simp [UInt8.lt_irrefl]))]; rfl
      · have e : x = y := UInt8.le_antisymm (UInt8.not_lt.1 h2) (UInt8.not_lt.1 h1)
        rw [if_neg h2, ih]
        subst e
        by_cases h3 : r < s
        · rw [decide_eq_true h3, decide_eq_true (List.cons_lt_cons_iff.2 (.inr ⟨rfl, h3⟩))]
        · rw [decide_eq_false h3, decide_eq_false (fun h => by rcases List.cons_lt_cons_iff.1 h with h | ⟨-, h⟩; exact h1 h; exact h3 h)]
theorem cmp_eq : ∀ a b : List UInt8, (Lib.compareBytes a b == 0) = decide (a = b)
  | [], [] => by simp [Lib.compareBytes]
  | [], b :: bs => by simp [Lib.compareBytes]
  | x :: r, [] => by simp [Lib.compareBytes]
  | x :: r, y :: s => by
    rw [Lib.compareBytes]
    have ih := cmp_eq r s
    by_cases h1 : x < y
    · rw [if_pos h1, decide_eq_false (fun h => by cases h; exact absurd h1 (by simp [UInt8.lt_irrefl]))]; rfl
    · rw [if_neg h1]
      by_cases h2 : y < x
      · rw [if_pos h2, decide_eq_false (fun h => by cases h; exact absurd h2 (by simp [UInt8.lt_irrefl]))]; rfl
      · have e : x = y := UInt8.le_antisymm (UInt8.not_lt.1 h2) (UInt8.not_lt.1 h1)
        rw [if_neg h2, ih]
        subst e
        by_cases h3 : r = s <;> simp [h3]
theorem cmpi_lt (a b : Int) : decide (Lib.compareInt a b < 0) = decide (a < b) := by
  unfold Lib.compareInt
  split
  · rename_i h; rw [decide_eq_true h]; rfl
  · rename_i h; split <;> rw [decide_eq_false h] <;> rfl
def hfE (n : Nat) : Int := IntKind.i64.wrap ((IntKind.u64.wrap (n : Int)).fdiv (2 ^ min (Int.toNat 1) IntKind.u64.bits))
theorem hf_eq {n : Nat} (h : n ≤ 4000000) : hfE n = ((n / 2 : Nat) : Int) := by
  unfold hfE
  have e1 : IntKind.u64.wrap (n : Int) = n := by
    unfold IntKind.wrap
    simp only [IntKind.signed, IntKind.bits]
    simp
    omega
  rw [e1, show ((2 : Int) ^ min (Int.toNat 1) IntKind.u64.bits) = 2 from rfl, Int.fdiv_eq_ediv_of_nonneg _ (by omega)]
  rw [IntWalk.i64_in _ ⟨by omega, by omega⟩]
  omega
end Go.Proofs.YtddbiiejilcbbaaGreatDoor
namespace Go.Proofs.YtddbiiejilcbbaaGreatDoor
open Go Go.RowKit

theorem belD {w w' : World} {e : Ending} {v : Value} (h : e = .returned v ∧ ∃ n, w' = w.drewN n) : e = .returned v ∧ Below w.heap.size w w' := by
  obtain ⟨h1, n, rfl⟩ := h
  exact ⟨h1, drewN_below w n⟩
theorem pmonI_any (day n : Int) (w : World) (ht : Tab w) : Calls Tryz.prog 154 #[.int .i64 day, .int .i64 n] w fun e w' => e = .returned (.int .i64 (monI day n)) ∧ Below w.heap.size w w' :=
  (months_any day n w ht).mono fun e w' ⟨y, m, d, h1, h2, he, hB⟩ => ⟨by rw [he]; unfold monI; rw [ymd_eq h1 h2], hB⟩
theorem py30I_any (a b : Int) (w : World) (ht : Tab w) : Calls Tryz.prog 156 #[.int .i64 a, .int .i64 b] w fun e w' => e = .returned (.int .i64 (y30I a b)) ∧ Below w.heap.size w w' :=
  (years30_any a b w ht).mono fun e w' ⟨y, m, d, y', m', d', h1, h2, h3, h4, he, hB⟩ => ⟨by rw [he]; unfold y30I; rw [ymd_eq h1 h2, ymd_eq h3 h4], hB⟩

noncomputable def rckP (op a b : Int) : Int :=
  bif op == 6 then - clampI a else bif op == 7 then clampI (clampI a + clampI b) else bif op == 8 then clampI (clampI a - clampI b) else bif op == 9 then mulI a b else bif op == 10 then divI a b else bif op == 11 || op == 17 then trP (decide (a < b)) else bif op == 12 then trP (decide (a ≤ b)) else bif op == 13 then trP (a == b) else bif op == 14 then trP (a == 0) else bif op == 18 then ((plusV a (whoI b) : Nat) : Int) else bif op == 19 then monI a (whoI b) else bif op == 20 then shareV ((clampD b : Int) - (clampD a : Int)) 365 else y30I a b
end Go.Proofs.YtddbiiejilcbbaaGreatDoor
namespace Go.Proofs.YtddbiiejilcbbaaGreatDoor
open Go Go.RowKit

theorem st_facts : ∀ {l : List (Int × Int)} {last : Int}, stOk last l = true → RiseD l ∧ ∀ q ∈ l, last < q.1 ∧ dayP q.1 = true ∧ inM q.2
  | [], last, _ => ⟨List.Pairwise.nil, by simp⟩
  | q :: r, last, h => by
    rw [stOk] at h
    simp only [Bool.and_eq_true, Bool.not_eq_true', decide_eq_false_iff_not] at h
    obtain ⟨⟨⟨h1, h2⟩, h3⟩, h4⟩ := h
    obtain ⟨g1, g2⟩ := st_facts h4
    refine ⟨List.pairwise_cons.2 ⟨fun x hx => (g2 x hx).1, g1⟩, fun x hx => ?_⟩
    rcases List.mem_cons.1 hx with rfl | hx
    · exact ⟨by omega, h2, numP_in.1 h3⟩
    · obtain ⟨a, b, c⟩ := g2 x hx
      exact ⟨by omega, b, c⟩
theorem fd_facts : ∀ {fs : Fs} {last : List UInt8}, fdOk last fs = true → RiseN fs ∧ ∀ f ∈ fs, last < f.1 ∧ namP f.1 = true ∧ stmP f.2 = true
  | [], last, _ => ⟨List.Pairwise.nil, by simp⟩
  | f :: r, last, h => by
    rw [fdOk] at h
    simp only [Bool.and_eq_true, decide_eq_true_eq] at h
    obtain ⟨⟨⟨h1, h2⟩, h3⟩, h4⟩ := h
    obtain ⟨g1, g2⟩ := fd_facts h4
    refine ⟨List.pairwise_cons.2 ⟨fun x hx => (g2 x hx).1, g1⟩, fun x hx => ?_⟩
    rcases List.mem_cons.1 hx with rfl | hx
    · exact ⟨h1, h2, h3⟩
    · obtain ⟨a, b, c⟩ := g2 x hx
      exact ⟨List.lt_trans h1 a, b, c⟩
/-- Right feeds. -/
structure RFd (fs : Fs) : Prop where
  len : fs.length ≤ 64
  rise : RiseN fs
  each : ∀ f ∈ fs, namP f.1 = true ∧ f.2.length ≤ 4096 ∧ RiseD f.2 ∧ ∀ q ∈ f.2, dayP q.1 = true ∧ inM q.2
theorem rf_right {fs : Fs} (h : rfP fs = true) : RFd fs := by
  unfold rfP at h
  simp only [Bool.and_eq_true, decide_eq_true_eq] at h
  obtain ⟨g1, g2⟩ := fd_facts h.2
  refine ⟨h.1, g1, fun f hf => ?_⟩
  obtain ⟨-, a, b⟩ := g2 f hf
  unfold stmP at b
  simp only [Bool.and_eq_true, decide_eq_true_eq] at b
  obtain ⟨e1, e2⟩ := st_facts b.2
  exact ⟨a, b.1, e1, fun q hq => (e2 q hq).2⟩
def fndN (name : List UInt8) (fs : Fs) : Bool := match fs[posN name fs]? with | some f => decide (f.1 = name) | none => false
def fndD (day : Int) (l : List (Int × Int)) : Bool := match l[posD day l]? with | some q => (Lib.compareInt q.1 day == 0) | none => false
end Go.Proofs.YtddbiiejilcbbaaGreatDoor
namespace Go.Proofs.YtddbiiejilcbbaaGreatDoor
open Go Go.RowKit

section
variable {fs : Fs} {a : Option Addr} {N cF : Nat} {day : Int}
end
end Go.Proofs.YtddbiiejilcbbaaGreatDoor
namespace Go.Proofs.YtddbiiejilcbbaaGreatDoor
open Go Go.RowKit

end Go.Proofs.YtddbiiejilcbbaaGreatDoor
namespace Go.Proofs.YtddbiiejilcbbaaGreatDoor
open Go Go.RowKit

section
variable {P : Program} {F : Exit → Act → World → Prop} {Inv : World → Prop} {s : St}
/-- A block is made, and it is no elder one. -/
def mkSt (P : Program) (g : Nat) (s : St) : St :=
  match mkG P ⟨s, [], [], []⟩ [g] with
  | some (y, _) => y.st
  | none => s
theorem Goes.new1 (n1 : Nat) (hn1 : ∀ w, Inv w → n1 ≤ w.heap.size) (h : ∀ g, n1 ≤ g → Goes P F Inv (mkSt P g s)) (hs : ∀ g, (mkG P ⟨s, [], [], []⟩ [g]).map (fun q => (q.1.on, q.1.ob)) = some ([], []) := by intro g; kernel_rfl) : Goes P F Inv s := by
  intro w hm hn hI
  have hg := hs w.heap.size
  have hG := h w.heap.size (hn1 w hI.now)
  cases hmk : mkG P ⟨s, [], [], []⟩ [w.heap.size] with
  | none => rw [hmk] at hg; cases hg
  | some q =>
    obtain ⟨y, gs⟩ := q
    unfold mkSt at hG
    rw [hmk] at hG hg
    simp only at hG
    simp only [Option.map_some, Option.some.injEq, Prod.mk.injEq] at hg
    unfold mkG at hmk
    simp only at hmk
    split at hmk
    · rename_i ops o rest res k hno
      split at hmk
      · rename_i hc
        simp only [Bool.and_eq_true] at hc
        split at hmk
        · rename_i y' hd
          cases hmk
          exact doOp_goes (x := ⟨s, [], [], []⟩) (nextOp_todo hno) hd (wants_ok hno hc.2) ⟨by rw [hg.1]; simp, by rw [hg.2]; simp⟩ hG hm hn hI (fun n e => by cases e; rfl)
        · cases hmk
      · cases hmk
    · cases hmk
end
/-- Rows of two types lie apart. -/
theorem own_ne {w : World} {b1 e1 s1 n1 b2 e2 s2 n2 : Nat} {v1 v2 : Value} {x1 x2 : List Value} (h : w.ownsRow b1 e1 s1 v1 n1 x1) (h' : w.ownsRow b2 e2 s2 v2 n2 x2) (he : e1 ≠ e2) {b : Nat} (hb : v1.ownBlock = some b) : v2.ownBlock ≠ some b := by
  intro hb'
  rcases h.2 with ⟨rfl, -⟩ | ⟨g, cap, cur, rfl, -, hg, -⟩
  · cases hb
  · rcases h'.2 with ⟨rfl, -⟩ | ⟨g', cap', cur', rfl, -, hg', -⟩
    · cases hb'
    · cases hb
      cases hb'
      rw [hg] at hg'
      simp at hg'
      exact he hg'.2
/-- A row lies in no block of another type. -/
theorem own_not {w : World} {b1 e1 s1 n1 e g : Nat} {v1 : Value} {x1 : List Value} {c : Array Value} {z : Nat × Nat} (h : w.ownsRow b1 e1 s1 v1 n1 x1) (hg : w.heap[g]? = some (.cells c e z)) (he : e1 ≠ e) : v1.ownBlock ≠ some g := by
  intro hb
  rcases h.2 with ⟨rfl, -⟩ | ⟨g', cap, cur, rfl, -, hg', -⟩
  · cases hb
  · cases hb
    rw [hg] at hg'
    simp at hg'
    exact he hg'.2.1.symm
theorem own_ch {w w' : World} {b1 e1 s1 n1 : Nat} {v1 : Value} {x1 : List Value} {L : List Nat} (h : w.ownsRow b1 e1 s1 v1 n1 x1) (hc : Ch L w w') (ha : ∀ b, v1.ownBlock = some b → b ∉ L) : w'.ownsRow b1 e1 s1 v1 n1 x1 := by
  refine ⟨h.1, ?_⟩
  rcases h.2 with hn | ⟨g, cap, cur, rfl, hb, hg, rest⟩
  · exact .inl hn
  · exact .inr ⟨g, cap, cur, rfl, hb, (hc.block g (lt_of_get hg) (ha g rfl)).trans hg, rest⟩
theorem own_kept {w w' : World} {b1 e1 s1 n1 : Nat} {v1 : Value} {x1 : List Value} {o : Option Nat} (h : w.ownsRow b1 e1 s1 v1 n1 x1) (hg : w.grownBy w' o) (ha : ∀ b, v1.ownBlock = some b → o ≠ some b) : w'.ownsRow b1 e1 s1 v1 n1 x1 :=
  h.kept hg (by
    cases hb : v1.ownBlock with
    | none => exact .inl rfl
    | some b => exact .inr fun e => ha b hb e.symm)
theorem cell_row {w : World} {g : Nat} {l : List Value} {e : TypeId} {z : Nat × Nat} (hg : w.heap[g]? = some (.cells l.toArray e z)) : ∀ j u, l[j]? = some u → w.cell? ((⟨g, 0, none⟩ : Addr).add j) = some u := fun j u hu => by
  have e1 : (⟨g, 0, none⟩ : Addr).add j = ⟨g, j, none⟩ := by unfold Addr.add; split <;> simp_all
  rw [e1]
  unfold World.cell?
  rw [hg]
  simpa using hu
end Go.Proofs.YtddbiiejilcbbaaGreatDoor
namespace Go.Proofs.YtddbiiejilcbbaaGreatDoor
open Go Go.RowKit

theorem own_form {w : World} {b1 e1 s1 n1 : Nat} {v1 : Value} {x1 : List Value} (h : w.ownsRow b1 e1 s1 v1 n1 x1) : ∃ a cap, v1 = .slice a n1 cap := by
  rcases h.2 with ⟨e, hn⟩ | ⟨g, cap, cur, e, -⟩
  · exact ⟨none, 0, by rw [e, hn]⟩
  · exact ⟨_, _, e⟩
theorem Ch.grown {L : List Nat} {w w1 w2 : World} {o : Option Nat} (h : Ch L w w1) (hg : w1.grownBy w2 o) (ho : ∀ b, o = some b → b ∈ L ∨ w.heap.size ≤ b) : Ch L w w2 :=
  ⟨hg.os.trans h.os, hg.tape.trans h.tape, hg.output.trans h.output, Nat.le_trans h.size hg.size, fun i hi hx => (hg.block i (Nat.lt_of_lt_of_le hi h.size) (fun e => by
    rcases ho i e.symm with h1 | h1
    · exact hx h1
    · omega)).trans (h.block i hi hx)⟩
theorem own_mem {v : Value} {b : Nat} : v.ownBlock = some b ↔ b ∈ v.ownBlock.toList := by
  cases v.ownBlock <;> simp [eq_comm]
end Go.Proofs.YtddbiiejilcbbaaGreatDoor
namespace Go.Proofs.YtddbiiejilcbbaaGreatDoor
open Go Go.RowKit

def trC (day : Int) (ts : List (List UInt8 × Int)) : List Value := ts.flatMap fun x => [.int .i64 day, strV x.1, .int .i64 x.2]
theorem trC_app (day : Int) (a b : List (List UInt8 × Int)) : trC day (a ++ b) = trC day a ++ trC day b := by unfold trC; simp
def Trs (base : Nat) (day : Int) (w : World) (v : Value) (ts : List (List UInt8 × Int)) : Prop := w.ownsRow base 59 3 v ts.length (trC day ts)
theorem Trs.nil {base : Nat} {day : Int} {w : World} : Trs base day w (.slice none 0 0) [] := w.ownsRow_nil _ _ _
theorem Trs.add {base : Nat} {day : Int} {w : World} {v : Value} {ts : List (List UInt8 × Int)} (h : Trs base day w v ts) (hb : base ≤ w.heap.size) (x : List UInt8 × Int) {bj c : Nat} {et ty : TypeId} {z : Nat × Nat} (hj : w.heap[bj]? = some (.cells #[.int .i64 day, strV x.1, .int .i64 x.2] et z)) (hl : ts.length + 1 ≤ 100000000) :
    ∃ b c' w', (Builtin.append_ #[38, 38] ty #[v, .slice (some ⟨bj, 0, none⟩) 1 c]).run Tryz.prog w = .ok (.slice (some ⟨b, 0, none⟩) (ts.length + 1) c') w' ∧ Trs base day w' (.slice (some ⟨b, 0, none⟩) (ts.length + 1) c') (ts ++ [x]) ∧ w.grownBy w' v.ownBlock ∧ (v.ownBlock = some b ∨ b = w.heap.size) := by
  obtain ⟨b, c', w', hr, hrow, hgr, hob⟩ := append_coreA (P := Tryz.prog) (t := 38) (e := 59) (ty := ty) (size := 3) (bytes := 32) (a := ⟨bj, 0, none⟩) (m := 1) (c := c) (news := [.int .i64 day, strV x.1, .int .i64 x.2]) h hb (by simp) (cell_row hj) (by simp [Value.oneCell', strV]) (.inr (by omega)) (by unfold maxLen; omega) (by omega) (by kernel_rfl)
  refine ⟨b, c', w', hr, ?_, hgr, ?_⟩
  · unfold Trs
    rw [trC_app, List.length_append]
    exact hrow
  · rcases hob with h | h
    · exact .inl h.symm
    · refine .inr ?_
      simp [Value.ownBlock] at h
      exact h
/-- The blocks that acquiring may change. -/
def Oo (g : Nat) (lv tv : Value) : List Nat := g :: (lv.ownBlock.toList ++ tv.ownBlock.toList)
theorem own_ty {w : World} {b1 e1 s1 n1 : Nat} {v1 : Value} {x1 : List Value} (h : w.ownsRow b1 e1 s1 v1 n1 x1) {b : Nat} (hb : v1.ownBlock = some b) : ∃ c z, w.heap[b]? = some (.cells c e1 z) := by
  rcases h.2 with ⟨rfl, -⟩ | ⟨g, cap, cur, rfl, -, hg, -⟩
  · cases hb
  · cases hb; exact ⟨_, _, hg⟩
end Go.Proofs.YtddbiiejilcbbaaGreatDoor
namespace Go.Proofs.YtddbiiejilcbbaaGreatDoor
open Go Go.RowKit

def hdC (ls : List (Int × Int)) : List Value := ls.flatMap fun x => [.int .i64 x.1, .int .i64 x.2]
theorem hdC_app (a b : List (Int × Int)) : hdC (a ++ b) = hdC a ++ hdC b := by unfold hdC; simp
/-- Lives, transfers: rows of one's own. -/
def Hds (base : Nat) (w : World) (v : Value) (ls : List (Int × Int)) : Prop := w.ownsRow base 86 2 v ls.length (hdC ls)
theorem Hds.nil {base : Nat} {w : World} : Hds base w (.slice none 0 0) [] := w.ownsRow_nil _ _ _
theorem Hds.add {base : Nat} {w : World} {v : Value} {ls : List (Int × Int)} (h : Hds base w v ls) (hb : base ≤ w.heap.size) (x : Int × Int) {bj c : Nat} {et ty : TypeId} {z : Nat × Nat} (hj : w.heap[bj]? = some (.cells #[.int .i64 x.1, .int .i64 x.2] et z)) (hl : ls.length + 1 ≤ 100000000) :
    ∃ b c' w', (Builtin.append_ #[37, 37] ty #[v, .slice (some ⟨bj, 0, none⟩) 1 c]).run Tryz.prog w = .ok (.slice (some ⟨b, 0, none⟩) (ls.length + 1) c') w' ∧ Hds base w' (.slice (some ⟨b, 0, none⟩) (ls.length + 1) c') (ls ++ [x]) ∧ w.grownBy w' v.ownBlock ∧ (v.ownBlock = some b ∨ b = w.heap.size) := by
  obtain ⟨b, c', w', hr, hrow, hgr, hob⟩ := append_coreA (P := Tryz.prog) (t := 37) (e := 86) (ty := ty) (size := 2) (bytes := 16) (a := ⟨bj, 0, none⟩) (m := 1) (c := c) (news := [.int .i64 x.1, .int .i64 x.2]) h hb (by simp) (cell_row hj) (by simp [Value.oneCell']) (.inr (by omega)) (by unfold maxLen; omega) (by omega) (by kernel_chk)
  refine ⟨b, c', w', hr, ?_, hgr, ?_⟩
  · unfold Hds
    rw [hdC_app, List.length_append]
    exact hrow
  · rcases hob with h | h
    · exact .inl h.symm
    · refine .inr ?_
      simp [Value.ownBlock] at h
      exact h
/-- Of types that nothing else has. -/
def ty5 (e : TypeId) : Bool := e == 81 || e == 56 || e == 86 || e == 59
def Ty5 (w : World) (x : Nat) : Prop := ∃ c e z, w.heap[x]? = some (.cells c e z) ∧ ty5 e = true
/-- Acquiring under way: what waits and is transferred so far, and that nothing else was changed. -/
def McI (n0 g : Nat) (day : Int) (w : World) (lv tv lv1 tv1 : Value) (ls1 : List (Int × Int)) (ts1 : List (List UInt8 × Int)) (w' : World) : Prop :=
  Ch (Oo g lv tv) w w' ∧ (Hds n0 w' lv1 ls1 ∧ Trs n0 day w' tv1 ts1 ∧ ∀ x ∈ lv1.ownBlock.toList ++ tv1.ownBlock.toList, x ∈ Oo g lv tv ∨ w.heap.size ≤ x)
theorem McI.refl {n0 g : Nat} {day : Int} {w : World} {lv tv : Value} {ls : List (Int × Int)} {ts : List (List UInt8 × Int)} (hl : Hds n0 w lv ls) (ht : Trs n0 day w tv ts) : McI n0 g day w lv tv lv tv ls ts w := ⟨Ch.refl _ _, hl, ht, fun _ hx => .inl (List.mem_cons_of_mem _ hx)⟩
/-- Other blocks may be changed. -/
theorem McI.stay {n0 g : Nat} {day : Int} {w w' : World} {lv tv lv1 tv1 : Value} {ls1 : List (Int × Int)} {ts1 : List (List UInt8 × Int)} {L : List Nat} (h : McI n0 g day w lv tv lv1 tv1 ls1 ts1 w') (hg : ∃ c e z, w'.heap[g]? = some (.cells c e z) ∧ e ≠ 86 ∧ e ≠ 59) (hL : ∀ x ∈ L, x = g ∨ (w.heap.size ≤ x ∧ ∃ c e z, w'.heap[x]? = some (.cells c e z) ∧ ty5 e = false)) : Stay L w' (McI n0 g day w lv tv lv1 tv1 ls1 ts1) := by
  have key : ∀ {e1 s1 n1 : Nat} {u : Value} {xs : List Value}, (e1 = 86 ∨ e1 = 59) → w'.ownsRow n0 e1 s1 u n1 xs → ∀ b, u.ownBlock = some b → b ∉ L := by
    intro e1 s1 n1 u xs he hr b hb hm
    rcases hL b hm with rfl | ⟨-, c, e, z, hx, h4⟩
    · obtain ⟨c, e, z, hx, h1, h2⟩ := hg
      refine own_not hr hx ?_ hb
      rcases he with rfl | rfl
      · exact fun e => h1 e.symm
      · exact fun e => h2 e.symm
    · refine own_not hr hx ?_ hb
      rintro rfl
      rcases he with rfl | rfl <;> cases h4
  exact fun _ hc => ⟨h.1.trans hc fun x hx => by
    rcases hL x hx with rfl | ⟨h1, -⟩
    · exact .inl (by simp [Oo])
    · exact .inr h1, own_ch h.2.1 hc (key (.inl rfl) h.2.1), own_ch h.2.2.1 hc (key (.inr rfl) h.2.2.1), h.2.2.2⟩
/-- One part behind another. -/
theorem McI.trans {n0 g : Nat} {day : Int} {w w1 w2 : World} {lv tv lv1 tv1 lv2 tv2 : Value} {ls1 ls2 : List (Int × Int)} {ts1 ts2 : List (List UInt8 × Int)} (h : McI n0 g day w lv tv lv1 tv1 ls1 ts1 w1) (k : McI n0 g day w1 lv1 tv1 lv2 tv2 ls2 ts2 w2) : McI n0 g day w lv tv lv2 tv2 ls2 ts2 w2 := by
  have hO : ∀ x ∈ Oo g lv1 tv1, x ∈ Oo g lv tv ∨ w.heap.size ≤ x := fun x hx => by
    rcases List.mem_cons.1 hx with rfl | hx
    · exact .inl (by simp [Oo])
    · exact h.2.2.2 x hx
  refine ⟨h.1.trans k.1 hO, k.2.1, k.2.2.1, fun x hx => ?_⟩
  rcases k.2.2.2 x hx with h1 | h1
  · exact hO x h1
  · exact .inr (Nat.le_trans h.1.size h1)
/-- One more waits. -/
theorem McI.live {n0 g : Nat} {day : Int} {w w1 : World} {lv tv lv1 tv1 : Value} {ls1 : List (Int × Int)} {ts1 : List (List UInt8 × Int)} (h : McI n0 g day w lv tv lv1 tv1 ls1 ts1 w1) (hb : n0 ≤ w1.heap.size) (x : Int × Int) {bj c : Nat} {et ty : TypeId} {z : Nat × Nat} (hj : w1.heap[bj]? = some (.cells #[.int .i64 x.1, .int .i64 x.2] et z)) (hl : ls1.length + 1 ≤ 100000000) :
    ∃ b c' w', (Builtin.append_ #[37, 37] ty #[lv1, .slice (some ⟨bj, 0, none⟩) 1 c]).run Tryz.prog w1 = .ok (.slice (some ⟨b, 0, none⟩) (ls1.length + 1) c') w' ∧ McI n0 g day w lv tv (.slice (some ⟨b, 0, none⟩) (ls1.length + 1) c') tv1 (ls1 ++ [x]) ts1 w' ∧ ∀ (i : Nat) (c : Array Value) (e : TypeId) (z : Nat × Nat), w1.heap[i]? = some (.cells c e z) → e ≠ 86 → w'.heap[i]? = some (.cells c e z) := by
  obtain ⟨b, c', w', hr, hrow, hgr, hob⟩ := h.2.1.add hb x hj hl (ty := ty) (c := c)
  refine ⟨b, c', w', hr, ⟨h.1.grown hgr fun b hb => h.2.2.2 b (List.mem_append_left _ (own_mem.1 hb)), hrow, own_kept h.2.2.1 hgr fun b hb => own_ne h.2.2.1 h.2.1 (by decide) hb, fun y hy => ?_⟩, fun i c e z hi he => ?_⟩
  · rcases List.mem_append.1 hy with hy | hy
    · have := own_mem.2 hy
      cases this
      rcases hob with h1 | h1
      · exact h.2.2.2 _ (List.mem_append_left _ (own_mem.1 h1))
      · exact .inr (by rw [h1]; exact h.1.size)
    · exact h.2.2.2 y (List.mem_append_right _ hy)
  · rw [hgr.block i (lt_of_get hi) (fun e1 => own_not h.2.1 hi (fun e => he e.symm) e1.symm)]
    exact hi
/-- One more is transferred. -/
theorem McI.pay {n0 g : Nat} {day : Int} {w w1 : World} {lv tv lv1 tv1 : Value} {ls1 : List (Int × Int)} {ts1 : List (List UInt8 × Int)} (h : McI n0 g day w lv tv lv1 tv1 ls1 ts1 w1) (hb : n0 ≤ w1.heap.size) (x : List UInt8 × Int) {bj c : Nat} {et ty : TypeId} {z : Nat × Nat} (hj : w1.heap[bj]? = some (.cells #[.int .i64 day, strV x.1, .int .i64 x.2] et z)) (hl : ts1.length + 1 ≤ 100000000) :
    ∃ b c' w', (Builtin.append_ #[38, 38] ty #[tv1, .slice (some ⟨bj, 0, none⟩) 1 c]).run Tryz.prog w1 = .ok (.slice (some ⟨b, 0, none⟩) (ts1.length + 1) c') w' ∧ McI n0 g day w lv tv lv1 (.slice (some ⟨b, 0, none⟩) (ts1.length + 1) c') ls1 (ts1 ++ [x]) w' ∧ ∀ (i : Nat) (c : Array Value) (e : TypeId) (z : Nat × Nat), w1.heap[i]? = some (.cells c e z) → e ≠ 59 → w'.heap[i]? = some (.cells c e z) := by
  obtain ⟨b, c', w', hr, hrow, hgr, hob⟩ := h.2.2.1.add hb x hj hl (ty := ty) (c := c)
  refine ⟨b, c', w', hr, ⟨h.1.grown hgr fun b hb => h.2.2.2 b (List.mem_append_right _ (own_mem.1 hb)), own_kept h.2.1 hgr fun b hb => own_ne h.2.1 h.2.2.1 (by decide) hb, hrow, fun y hy => ?_⟩, fun i c e z hi he => ?_⟩
  · rcases List.mem_append.1 hy with hy | hy
    · exact h.2.2.2 y (List.mem_append_left _ hy)
    · have := own_mem.2 hy
      cases this
      rcases hob with h1 | h1
      · exact h.2.2.2 _ (List.mem_append_right _ (own_mem.1 h1))
      · exact .inr (by rw [h1]; exact h.1.size)
  · rw [hgr.block i (lt_of_get hi) (fun e1 => own_not h.2.2.1 hi (fun e => he e.symm) e1.symm)]
    exact hi
/-- What acquiring may change is of its types. -/
theorem mo_ty {n0 g : Nat} {day : Int} {w : World} {lv tv : Value} {ls : List (Int × Int)} {ts : List (List UInt8 × Int)} (hl : Hds n0 w lv ls) (ht : Trs n0 day w tv ts) (hg : Ty5 w g) : ∀ x ∈ Oo g lv tv, Ty5 w x := by
  intro x hx
  rcases List.mem_cons.1 hx with rfl | hx
  · exact hg
  · rcases List.mem_append.1 hx with hx | hx
    · obtain ⟨c, z, h⟩ := own_ty hl (own_mem.2 hx)
      exact ⟨c, _, z, h, by decide⟩
    · obtain ⟨c, z, h⟩ := own_ty ht (own_mem.2 hx)
      exact ⟨c, _, z, h, by decide⟩
theorem mo_low {n0 g : Nat} {day : Int} {w : World} {lv tv : Value} {ls : List (Int × Int)} {ts : List (List UInt8 × Int)} (hl : Hds n0 w lv ls) (ht : Trs n0 day w tv ts) (hg : n0 ≤ g) : ∀ x ∈ Oo g lv tv, n0 ≤ x := by
  intro x hx
  rcases List.mem_cons.1 hx with rfl | hx
  · exact hg
  · rcases List.mem_append.1 hx with hx | hx
    · exact (hl.lt x (own_mem.2 hx)).1
    · exact (ht.lt x (own_mem.2 hx)).1
/-- A block of another type is left alone. -/
theorem mc_other {w w' : World} {L : List Nat} (h : Ch L w w') (hL : ∀ x ∈ L, Ty5 w x) {i : Nat} {c : Array Value} {e : TypeId} {z : Nat × Nat} (hi : w.heap[i]? = some (.cells c e z)) (he : ty5 e = false) : w'.heap[i]? = some (.cells c e z) := by
  rw [h.block i (lt_of_get hi) (fun hm => by
    obtain ⟨c', e', z', hx, h4⟩ := hL i hm
    rw [hi] at hx
    cases hx
    rw [he] at h4
    cases h4)]
  exact hi
def Loc5 (w : World) (loc : Mem) : Prop := ∀ q ∈ loc, w.heap.size ≤ q.1 ∧ ∃ c e z, q.2 = .cells c e z ∧ ty5 e = false
theorem hold_in {m : Mem} {w : World} (h : ∀ q ∈ m, w.heap[q.1]? = some q.2) : Holds m w := fun _ _ _ hj => h _ (List.mem_of_getElem? hj)
theorem in_hold {m : Mem} {w : World} (h : Holds m w) : ∀ q ∈ m, w.heap[q.1]? = some q.2 := fun q hq => by
  obtain ⟨j, hj⟩ := List.getElem?_of_mem hq
  exact h j q.1 q.2 hj
/-- What a part of a run leaves: ob tells the machine's block. -/
def VQ (n0 g : Nat) (day : Int) (ob : Value → Value → Obj) (w : World) (lv tv : Value) (u : Value) (ls' : List (Int × Int)) (ts' : List (List UInt8 × Int)) (e : Ending) (w' : World) : Prop := ∃ lv' tv', e = .returned u ∧ w'.heap[g]? = some (ob lv' tv') ∧ McI n0 g day w lv tv lv' tv' ls' ts' w'
/-- A block that is a machine's, or the document's. -/
def IsM (ob : Value → Value → Obj) : Prop := ∀ a b, ∃ c e z, ob a b = .cells c e z ∧ ty5 e = true ∧ e ≠ 86 ∧ e ≠ 59
theorem IsM.ty {ob : Value → Value → Obj} (h : IsM ob) {w : World} {g : Nat} {a b : Value} (hg : w.heap[g]? = some (ob a b)) : Ty5 w g := by
  obtain ⟨c, e, z, e1, h1, -⟩ := h a b
  exact ⟨c, e, z, by rw [hg, e1], h1⟩
theorem IsM.no {ob : Value → Value → Obj} (h : IsM ob) {w : World} {g : Nat} {a b : Value} (hg : w.heap[g]? = some (ob a b)) : ∃ c e z, w.heap[g]? = some (.cells c e z) ∧ e ≠ 86 ∧ e ≠ 59 := by
  obtain ⟨c, e, z, e1, -, h1⟩ := h a b
  exact ⟨c, e, z, by rw [hg, e1], h1⟩
section
variable {P : Program} {F : Exit → Act → World → Prop} {s : St} {n0 g : Nat} {day : Int} {ob1 ob2 : Value → Value → Obj} {lv tv lv1 tv1 : Value} {ls1 : List (Int × Int)} {ts1 : List (List UInt8 × Int)} {w : World}
theorem vq_next {loc : Mem} (hloc : Loc5 w loc) (ho1 : IsM ob1) (ho2 : IsM ob2) {m : Mem} (hmem : m = (g, ob1 lv1 tv1) :: loc) {w1 w2 : World} (hm : Holds m w1) (hI : McI n0 g day w lv tv lv1 tv1 ls1 ts1 w1) {lv2 tv2 : Value} {ls2 : List (Int × Int)} {ts2 : List (List UInt8 × Int)} (hg2 : w2.heap[g]? = some (ob2 lv2 tv2)) (hA : McI n0 g day w1 lv1 tv1 lv2 tv2 ls2 ts2 w2) :
    Holds ((g, ob2 lv2 tv2) :: loc) w2 ∧ Stay (Mem.ids ((g, ob2 lv2 tv2) :: loc)) w2 (McI n0 g day w lv tv lv2 tv2 ls2 ts2) ∧ ∀ (i : Nat) (c : Array Value) (e : TypeId) (z : Nat × Nat), w1.heap[i]? = some (.cells c e z) → ty5 e = false → w2.heap[i]? = some (.cells c e z) := by
  subst hmem
  have hall := in_hold hm
  have hT := mo_ty hI.2.1 hI.2.2.1 (ho1.ty (hall _ List.mem_cons_self))
  have hoth : ∀ (i : Nat) (c : Array Value) (e : TypeId) (z : Nat × Nat), w1.heap[i]? = some (.cells c e z) → ty5 e = false → w2.heap[i]? = some (.cells c e z) := fun i c e z hi he => mc_other hA.1 hT hi he
  have hl : ∀ q ∈ loc, w2.heap[q.1]? = some q.2 := fun q hq => by
    obtain ⟨-, c, e, z, h1, h2⟩ := hloc q hq
    have := hall q (List.mem_cons_of_mem _ hq)
    rw [h1] at this ⊢
    exact hoth _ _ _ _ this h2
  refine ⟨hold_in fun q hq => ?_, (hI.trans hA).stay (ho2.no hg2) fun x hx => ?_, hoth⟩
  · rcases List.mem_cons.1 hq with rfl | hq
    · exact hg2
    · exact hl q hq
  · unfold Mem.ids at hx
    rw [List.map_cons] at hx
    rcases List.mem_cons.1 hx with rfl | hx
    · exact .inl rfl
    · obtain ⟨q, hq, rfl⟩ := List.mem_map.1 hx
      obtain ⟨h0, c, e, z, h1, h2⟩ := hloc q hq
      exact .inr ⟨h0, c, e, z, by rw [hl q hq, h1], h2⟩
/-- A part of a run is called. -/
theorem Goes.callVQ (f : FuncId) (args : Array Value) (u : Value) (ob1 ob2 : Value → Value → Obj) (ho1 : IsM ob1) (ho2 : IsM ob2) (ls2 : List (Int × Int)) (ts2 : List (List UInt8 × Int)) (loc : Mem) (hloc : Loc5 w loc)
    (hr : ∀ w1, Holds s.mem w1 → McI n0 g day w lv tv lv1 tv1 ls1 ts1 w1 → Calls P f args w1 (VQ n0 g day ob2 w1 lv1 tv1 u ls2 ts2))
    (h : ∀ lv2 tv2, Goes P F (McI n0 g day w lv tv lv2 tv2 ls2 ts2) (put s u ((g, ob2 lv2 tv2) :: loc)))
    (hmem : s.mem = (g, ob1 lv1 tv1) :: loc := by kernel_chk) (ha : ask s = some (f, args) := by kernel_chk) (hw : wants s = true := by kernel_chk) (hf : okf P f = true := by kernel_chk) : Goes P F (McI n0 g day w lv tv lv1 tv1 ls1 ts1) s :=
  Goes.call f args (fun w1 hm hn hI => (hr w1 hm hI.now).mono fun e w2 ⟨lv2, tv2, he, hg2, hA⟩ => by
    obtain ⟨h1, h2, -⟩ := vq_next hloc ho1 ho2 hmem hm hI.now hg2 hA
    exact ⟨u, _, _, he, h1, by rw [hmem] at hn; exact hn, h2, h lv2 tv2⟩) ha hw hf
end
/-- What lay there is as it was. -/
theorem mcB {n0 g : Nat} {day : Int} {w w' : World} {lv tv lv1 tv1 : Value} {ls ls1 : List (Int × Int)} {ts ts1 : List (List UInt8 × Int)} (hl : Hds n0 w lv ls) (ht : Trs n0 day w tv ts) (hg : n0 ≤ g) (hn : n0 ≤ w.heap.size) (h : McI n0 g day w lv tv lv1 tv1 ls1 ts1 w') : Below n0 w w' := ⟨h.1.os, h.1.tape, h.1.output, h.1.size, fun i hi => h.1.block i (by omega) fun hx => by have := mo_low hl ht hg i hx; omega⟩

end Go.Proofs.YtddbiiejilcbbaaGreatDoor
namespace Go.Proofs.YtddbiiejilcbbaaGreatDoor
open Go Go.RowKit

section
variable {P : Program} {F : Exit → Act → World → Prop} {Inv : World → Prop} {s : St} {fn : Func} {R : Ending → World → Prop}
def bodyS (fn : Func) : Code :=
  match fn.body with
  | some (.scope c) => c
  | _ => .skip
def isScp (fn : Func) : Bool :=
  match fn.body with
  | some (.scope _) => true
  | _ => false
/-- Its beginning, within the scope. -/
def st0S (fn : Func) (args : Array Value) (m : Mem) : St := ⟨[.code (bodyS fn)], (args ++ Array.replicate (fn.ntmps - args.size) undef).toList, m⟩
theorem Goes.enterS {f : FuncId} {args : Array Value} {w : World} (hf : P.funcs[f]? = some fn) (m : Mem) (Inv : World → Prop) (hm : Holds m w) (hn : m.ids.Nodup) (hI : Stay m.ids w Inv)
 (h : Goes P (bodyPost P fn R) Inv (st0S fn args m)) (hb : isScp fn = true := by kernel_chk) : Calls P f args w R := by
  have h1 := h w hm hn hI
  unfold st0S bodyS at h1
  unfold isScp at hb
  split at hb
  · rename_i c hc
    rw [hc] at h1
    refine calls_of_wp hf hc (wp_scope_straight (wp_mono (P := P) (Q := bodyPost P fn R) ?_ fun e a w q => ?_))
    · have e : (args ++ Array.replicate (fn.ntmps - args.size) undef).toList.toArray = args ++ Array.replicate (fn.ntmps - args.size) undef := by simp
      unfold St.act at h1
      simp only [e] at h1
      exact h1
    · cases e <;> first | exact q | exact q.elim
  · cases hb
theorem kept_set {j b : Nat} {o0 o : Obj} {w w' : World} (hb : s.mem[j]? = some (b, o0)) (hm : Holds s.mem w) (hn : s.mem.ids.Nodup) (hI : Stay s.mem.ids w Inv) (hc : Ch [b] w w') (hbo : w'.heap[b]? = some o) : Holds (s.mem.set j (b, o)) w' ∧ (Mem.ids (s.mem.set j (b, o))).Nodup ∧ Stay (Mem.ids (s.mem.set j (b, o))) w' Inv := by
  refine ⟨holds_set hm hn hb hbo (fun i hi hne => hc.block i hi (by simpa using hne)), by rw [ids_set hb]; exact hn, ?_⟩
  rw [ids_set hb]
  exact hI.ch ⟨hc.os, hc.tape, hc.output, hc.size, fun i hi hx => hc.block i hi (fun hm => hx (by rw [List.mem_singleton] at hm; rw [hm]; exact ids_get hb))⟩ (fun x hx => .inl hx)
theorem known_at {j b : Nat} (hj : (s.mem[j]?).map (·.1) = some b) : ∃ o0, s.mem[j]? = some (b, o0) := by
  cases hq : s.mem[j]? with
  | none => rw [hq] at hj; cases hj
  | some q => rw [hq] at hj; obtain ⟨b', o0⟩ := q; cases hj; exact ⟨o0, rfl⟩
/-- A store into the known block j (b), which then is o. -/
theorem Goes.stoK (j b : Nat) (I : Sem Unit) (o : Obj) (hr : ∀ w, Holds s.mem w → ∃ w', I.run P w = .ok () w' ∧ Ch [b] w w' ∧ w'.heap[b]? = some o) (h : Goes P F Inv (putM s undef j b o)) (ho : (nextOp s).map (fun q => execOp (evalL s.tmps) q.2.1) = some (skS I) := by kernel_chk) (hw : wants s = true := by kernel_chk) (hj : (s.mem[j]?).map (·.1) = some b := by kernel_chk) : Goes P F Inv s := by
  obtain ⟨o0, hb⟩ := known_at hj
  refine Goes.sto I (fun w hm hn hI => ?_) ho hw
  obtain ⟨w', h1, h2, h3⟩ := hr w hm
  obtain ⟨k1, k2, k3⟩ := kept_set hb hm hn hI h2 h3
  exact ⟨w', Inv, _, h1, k1, k2, k3, h⟩
/-- The same in a drawn region; what it reads lies elsewhere. -/
theorem TookS.stoV (i : Nat) (I : Sem Unit) (hr : ∀ w, Holds s.mem w → s.mem.ids.Nodup → Stay s.mem.ids w Inv → Holds (anyM s) w → ∃ w' Inv' m, I.run P w = .ok () w' ∧ Holds (anyM s) w' ∧ Holds m w' ∧ m.ids.Nodup ∧ Stay m.ids w' Inv' ∧ Goes P F Inv' (putA i s undef m)) (hw : anyWant i s = true := by kernel_chk) (ho' : (anyOp i s).map (execOp (evalL s.tmps)) = some (skS I) := by kernel_chk) : TookS P F Inv i s := by
  intro ops m0 n l k ht w h1 h2 h3 h0
  unfold anyWant at hw
  unfold anyM at hr
  unfold anyOp at ho'
  rw [ht] at hw hr ho'
  simp only at hw hr ho'
  cases ho : ops[i]? with
  | none => rw [ho] at hw; simp at hw
  | some o =>
    rw [ho] at hw ho'
    simp only [Option.map_some, Option.some.injEq] at hw ho'
    obtain ⟨w', Inv', m, he, h10, h4, h5, h6, h7⟩ := hr w h1 h2 h3 h0
    have h9 := h7 w'
    unfold putA at h9
    rw [ht] at h9
    simp only [ho] at h9
    unfold wpOp
    rw [ho]
    simp only [hw, if_true]
    unfold Oper.wp
    rw [evalL_eq, ho', skS_run he, Oper.upon_skip, putL_eq]
    exact .inl ⟨h10, h9 h4 h5 h6 h10⟩
theorem TookS.stoK (i j b : Nat) (I : Sem Unit) (o : Obj) (hr : ∀ w, Holds s.mem w → ∃ w', I.run P w = .ok () w' ∧ Ch [b] w w' ∧ w'.heap[b]? = some o) (M : Mem) (hne : ∀ q ∈ M, q.1 ≠ b) (h : Goes P F Inv (putA i s undef (s.mem.set j (b, o)))) (hM : anyM s = M := by kernel_chk) (hw : anyWant i s = true := by kernel_chk) (ho' : (anyOp i s).map (execOp (evalL s.tmps)) = some (skS I) := by kernel_chk) (hj : (s.mem[j]?).map (·.1) = some b := by kernel_chk) : TookS P F Inv i s := by
  obtain ⟨o0, hb⟩ := known_at hj
  refine TookS.stoV i I (fun w hm hn hI h0 => ?_) hw ho'
  obtain ⟨w', h1, h2, h3⟩ := hr w hm
  obtain ⟨k1, k2, k3⟩ := kept_set hb hm hn hI h2 h3
  refine ⟨w', Inv, _, h1, hold_in fun q hq => ?_, k1, k2, k3, h⟩
  have hh := in_hold h0 q hq
  exact (h2.block q.1 (lt_of_get hh) (by simpa using hne q (hM ▸ hq))).trans hh
/-- An operation whose answer is known of the known blocks. -/
theorem TookS.valV (i : Nat) (I : Sem Value) (v : Value) (hr : ∀ w, Holds s.mem w → Stay s.mem.ids w Inv → I.run P w = .ok v w) (h : Goes P F Inv (putA0 i s v)) (hw : anyWant i s = true := by kernel_chk) (ho' : (anyOp i s).map (execOp (evalL s.tmps)) = some (vS I) := by kernel_chk) : TookS P F Inv i s :=
  TookS.effM i I (fun w hm hn hI h0 => ⟨v, w, Inv, s.mem, hr w hm hI, h0, hm, hn, hI, h⟩) hw ho'
/-- The one that may come up is a call that changes the known block j (b). -/
theorem Goes.callK (i j b : Nat) (f : FuncId) (args : Array Value) (v : Value) (o : Obj) (hr : ∀ w, Holds s.mem w → Stay s.mem.ids w Inv → Calls P f args w fun e w' => e = .returned v ∧ Ch [b] w w' ∧ w'.heap[b]? = some o) (M : Mem) (hne : ∀ q ∈ M, q.1 ≠ b) (h : Goes P F Inv (putA i s v (s.mem.set j (b, o)))) (hM : anyM s = M := by kernel_chk) (ha : askA i s = some (f, args) := by kernel_chk) (hw : anyLone i s = true := by kernel_chk) (hf : okf P f = true := by kernel_chk) (hj : (s.mem[j]?).map (·.1) = some b := by kernel_chk) : Goes P F Inv s := by
  obtain ⟨o0, hb⟩ := known_at hj
  refine Goes.callA i f args (fun ops m0 n l k ht w hm hn hI h0 => (hr w hm hI).mono fun e w' ⟨he, h2, h3⟩ => ?_) ha hw hf
  obtain ⟨k1, k2, k3⟩ := kept_set hb hm hn hI h2 h3
  refine ⟨v, Inv, _, he, hold_in fun q hq => ?_, k1, k2, k3, h⟩
  have hh := in_hold h0 q hq
  have hq' : q ∈ M := by rw [← hM]; unfold anyM; rw [ht]; exact hq
  exact (h2.block q.1 (lt_of_get hh) (by simpa using hne q hq')).trans hh
/-- A label is gone by. -/
def offL (s : St) : St :=
  match s.todo with
  | .code (.label _) :: k => { s with todo := k }
  | _ => s
theorem Goes.label (h : Goes P F Inv (offL s)) : Goes P F Inv s := by
  unfold offL at h
  split at h
  · rename_i l k ht
    intro w hm hn hI
    rw [ht]
    exact wp_label (h w hm hn hI)
  · exact h
/-- A block is made in a drawn region that reads other blocks besides. -/
theorem TookS.new1V (i n1 : Nat) (js : List Nat) (ex : Mem) (L : List Nat) (hex : ∀ q ∈ ex, q.1 ∉ L) (hn1 : ∀ w, Inv w → n1 ≤ w.heap.size) (h : ∀ g, n1 ≤ g → Goes P F Inv (newSt P i g s)) (ha : anyM s = sub js s.mem ++ ex := by kernel_chk) (h0 : ∀ g, (newA P i g s).map (fun st => sub js st.mem ++ ex) = some (anyM s) := by intro g; kernel_chk) (hw : anyWant i s = true := by kernel_chk) (hL : s.mem.ids = L := by kernel_chk) : TookS P F Inv i s := by
  subst hL
  intro ops m0 n l k ht w h1 h2 h3 h4
  have hG := h w.heap.size (hn1 w h3.now)
  have hk := h0 w.heap.size
  unfold newSt at hG
  cases hq : newA P i w.heap.size s with
  | none => rw [hq] at hk; cases hk
  | some st =>
    rw [hq] at hG hk
    simp only [Option.getD_some] at hG
    simp only [Option.map_some, Option.some.injEq] at hk
    unfold newA at hq
    unfold anyWant at hw
    unfold anyM at hk ha
    rw [ht] at hw hk ha
    simp only at hw hk ha
    cases ho : ops[i]? with
    | none => rw [ho] at hw; simp at hw
    | some o =>
      have hoo : anyOp i s = some o := by unfold anyOp; rw [ht]; exact ho
      rw [ho] at hw
      simp only at hw
      rw [hoo] at hq
      simp only at hq
      unfold wpOp
      rw [ho]
      simp only [hw, if_true]
      unfold Oper.wp
      rw [evalL_eq]
      split at hq
      · rename_i v m d hs
        cases hq
        obtain ⟨w', D⟩ := srun_did P _ _ _ _ _ _ _ w hs (by simp) h1 h2 (by simp)
        have h9 := hG w'
        unfold putA at h9 hk
        rw [ht] at h9 hk
        simp only [ho] at h9 hk
        rw [D.run, Oper.upon_value, putL_eq]
        have hm' : Holds m0 w' := by
          rw [← hk]
          refine (sub_holds D.holds).cat (hold_in fun q hq => ?_)
          have hh : w.heap[q.1]? = some q.2 := in_hold h4 q (by rw [ha]; exact List.mem_append_right _ hq)
          exact (D.ch.block q.1 (lt_of_get hh) (hex q hq)).trans hh
        exact .inl ⟨hm', h9 D.holds D.nd (h3.ch D.ch D.new) hm'⟩
      · cases hq
/-- An operation over the known blocks, other blocks are read besides. -/
theorem TookS.runV (i j : Nat) (js : List Nat) (ex : Mem) (L : List Nat) (hex : ∀ q ∈ ex, q.1 ∉ L) (h : Goes P F Inv (oneSt P i j s)) (ha : anyM s = sub js s.mem ++ ex := by kernel_chk) (hS : anyM s = sub js (oneSt P i j s).mem ++ ex := by kernel_chk) (hw : anyWant i s = true := by kernel_chk) (hN : ((oneA P i j s).map fun q => q.2.map (·.1)) = (oneA P i j s).map fun q => q.2.map (·.2) := by kernel_chk) (hk : (oneA P i j s).isSome = true := by kernel_chk) (hL : s.mem.ids = L := by kernel_chk) : TookS P F Inv i s := by
  subst hL
  intro ops m0 n l k ht w h1 h2 h3 h40
  unfold oneSt at h hS
  cases hq : Go.Proofs.YtddbiiejilcbbaaGreatDoor.oneA P i j s with
  | none => rw [hq] at hk; cases hk
  | some q =>
    rw [hq] at h hN hS
    simp only [Option.map_some, Option.some.injEq] at h hN hS
    obtain ⟨st, on⟩ := q
    unfold Go.Proofs.YtddbiiejilcbbaaGreatDoor.oneA at hq
    unfold anyWant at hw
    unfold anyM at hS ha
    rw [ht] at hw hS ha
    simp only at hw hS ha
    cases ho : ops[i]? with
    | none => rw [ho] at hw; simp at hw
    | some o =>
      have hoo : anyOp i s = some o := by unfold anyOp; rw [ht]; exact ho
      rw [ho] at hw
      simp only at hw
      rw [hoo] at hq
      simp only at hq
      unfold wpOp
      rw [ho]
      simp only [hw, if_true]
      unfold Oper.wp
      rw [evalL_eq]
      have key : ∀ w', Ch s.mem.ids w w' → Holds ex w' := fun w' hc => hold_in fun q hq => by
        have hh : w.heap[q.1]? = some q.2 := in_hold h40 q (by rw [ha]; exact List.mem_append_right _ hq)
        exact (hc.block q.1 (lt_of_get hh) (hex q hq)).trans hh
      split at hq
      · rename_i v m on' d hs
        cases hq
        obtain ⟨w', D⟩ := srun_did P _ _ _ _ _ _ _ w hs (all_of_map hN) h1 h2 (by simp)
        have h9 := h w'
        unfold putA at h9 hS
        rw [ht] at h9 hS
        simp only [ho] at h9 hS
        rw [D.run, Oper.upon_value, putL_eq]
        have hm' : Holds m0 w' := by rw [hS]; exact (sub_holds D.holds).cat (key w' D.ch)
        exact .inl ⟨hm', h9 D.holds D.nd (h3.ch D.ch D.new) hm'⟩
      · rename_i m on' d hs
        cases hq
        obtain ⟨w', D⟩ := srun_did P _ _ _ _ _ _ _ w hs (all_of_map hN) h1 h2 (by simp)
        have h9 := h w'
        unfold putA at h9 hS
        rw [ht] at h9 hS
        simp only [ho] at h9 hS
        rw [D.run, Oper.upon_skip, putL_eq]
        have hm' : Holds m0 w' := by rw [hS]; exact (sub_holds D.holds).cat (key w' D.ch)
        exact .inl ⟨hm', h9 D.holds D.nd (h3.ch D.ch D.new) hm'⟩
      · cases hq
end
end Go.Proofs.YtddbiiejilcbbaaGreatDoor
namespace Go.Proofs.YtddbiiejilcbbaaGreatDoor
open Go Go.RowKit

end Go.Proofs.YtddbiiejilcbbaaGreatDoor
namespace Go.Proofs.YtddbiiejilcbbaaGreatDoor
open Go Go.RowKit

section
variable {P : Program} {F : Exit → Act → World → Prop} {s : St} {n0 g : Nat} {day : Int} {fv sv lv tv lv1 tv1 : Value} {ls1 : List (Int × Int)} {ts1 : List (List UInt8 × Int)} {w : World}
end
end Go.Proofs.YtddbiiejilcbbaaGreatDoor
namespace Go.Proofs.YtddbiiejilcbbaaGreatDoor
open Go Go.RowKit

/-- An instruction. -/
structure Ik where
  op : Int
  a : Int
  b : Int
  c : Int
  n : Int
  s : List UInt8
  to : Int
def iC (x : Ik) : List Value := [.int .i64 x.op, .int .i64 x.a, .int .i64 x.b, .int .i64 x.c, .int .i64 x.n, strV x.s, .int .i64 x.to]
def iV (x : Ik) : Value := .agg #[.int .i64 x.op, .int .i64 x.a, .int .i64 x.b, .int .i64 x.c, .int .i64 x.n, strV x.s, .int .i64 x.to]
/-- A maker. -/
def mO (rg : Int) (wv v tv : Value) (sh : Bool) : Obj := .cells #[.int .i64 rg, wv, v, tv, .bool sh] 96 (0, 0)
end Go.Proofs.YtddbiiejilcbbaaGreatDoor
namespace Go.Proofs.YtddbiiejilcbbaaGreatDoor
open Go

def Co.op : Co → Int | .mk op _ _ _ => op
def Co.k : Co → Int | .mk _ k _ _ => k
def Co.kids : Co → List Co | .mk _ _ _ l => l
def zeroC : Co := .mk 0 0 [] []
def kidC (c : Co) (i : Nat) : Co := c.kids.getD i zeroC
def czC : Co := .mk 23 0 [] []
/-- Tests on a term's first kids, up to the first that fails. -/
def tstK (c : Co) (i : Nat) : List (Co → Bool) → Bool
  | [] => true
  | t :: r => t (kidC c i) && tstK c (i + 1) r
def isP (op : Int) (ts : List (Co → Bool)) (c : Co) : Bool := c.op == op && tstK c 0 ts
def anyP (_ : Co) : Bool := true
def numIs (n : Int) (c : Co) : Bool := c.op == 1 && c.k == n
def truIs (n : Int) (c : Co) : Bool := c.op == 2 && c.k == n
def notP (op : Int) (c : Co) : Bool := c.op != op
def partP (ps : List Nat) (c : Co) : Co := ps.foldl kidC c
def asksP (op : Int) : Bool := op == 6 || op == 14 || (decide (7 ≤ op) && decide (op ≤ 13)) || (decide (17 ≤ op) && decide (op ≤ 21))
def constP (c : Co) : Bool := c.op == 1 || c.op == 2 || c.op == 3
def rkdP (c : Co) : Bool := asksP c.op && c.kids.all constP
noncomputable def reckP (c : Co) : Co := .mk ((match rkP c.op with | some q => q.2 | none => 0) + 1) ((valC [] 0 c.op c.k [] (c.kids.map fun x => some x.k)).getD 0) [] []
def laterP (c : Co) : Co := .mk 29 (max c.k (kidC c 0).k) [] (kidC c 0).kids
def emptP (c : Co) : Co := .mk 30 c.k [] [kidC c 0, czC]
structure Rl where
  pass : Int
  fits : Co → Bool
  becomes : Co → Co
noncomputable def rulesP : List Rl := [
  ⟨1, rkdP, reckP⟩,
  ⟨2, isP 6 [isP 6 []], partP [0, 0]⟩,
  ⟨2, isP 14 [isP 14 []], partP [0, 0]⟩,
  ⟨2, isP 7 [anyP, numIs 0], partP [0]⟩,
  ⟨2, isP 7 [numIs 0], partP [1]⟩,
  ⟨2, isP 8 [anyP, numIs 0], partP [0]⟩,
  ⟨2, isP 9 [anyP, numIs 1000000], partP [0]⟩,
  ⟨2, isP 9 [numIs 1000000], partP [1]⟩,
  ⟨2, isP 10 [anyP, numIs 1000000], partP [0]⟩,
  ⟨2, isP 15 [truIs 1], partP [1]⟩,
  ⟨2, isP 15 [anyP, truIs 1], partP [0]⟩,
  ⟨2, isP 16 [truIs 0], partP [1]⟩,
  ⟨2, isP 16 [anyP, truIs 0], partP [0]⟩,
  ⟨2, isP 15 [truIs 0], partP [0]⟩,
  ⟨2, isP 16 [truIs 1], partP [0]⟩,
  ⟨2, isP 25 [isP 25 []], partP [0, 0]⟩,
  ⟨2, isP 25 [isP 23 []], partP [0]⟩,
  ⟨2, isP 27 [isP 23 []], partP [1]⟩,
  ⟨2, isP 27 [anyP, isP 23 []], partP [0]⟩,
  ⟨2, isP 26 [numIs 1000000], partP [1]⟩,
  ⟨2, isP 26 [isP 1 [], isP 23 []], partP [1]⟩,
  ⟨2, isP 29 [isP 29 []], laterP⟩,
  ⟨4, isP 22 [truIs 1], partP [1]⟩,
  ⟨4, isP 28 [truIs 1], partP [1]⟩,
  ⟨4, isP 22 [truIs 0], partP [2]⟩,
  ⟨4, isP 28 [truIs 0], partP [2]⟩,
  ⟨4, isP 30 [truIs 0, notP 23], emptP⟩]
/-- The first rule that fits. -/
def findP (rs : List Rl) (c : Co) : Option Rl := rs.find? fun r => r.fits c
theorem ok_inv {z d op k : Int} {s : List UInt8} {kids : List Co} (hz : tyOk z) (h : okT z d (.mk op k s kids) = true) : ∃ ks, kids.length = ks.length ∧ ownC op k s = true ∧ d ≤ 200 ∧ okTs (d + 1) ks kids = true ∧ ((op = 22 ∧ z ≠ 4 ∧ ks = [1, z, z]) ∨ rkP op = some (ks, z)) := by
  unfold okT at h
  cases hk : kOf op z with
  | none => rw [hk] at h; cases h
  | some ks =>
    rw [hk] at h
    simp only [Bool.and_eq_true, beq_iff_eq, decide_eq_true_eq] at h
    refine ⟨ks, by omega, h.1.1.2, h.1.2, h.2, ?_⟩
    cases h22 : (op == 22) with
    | true =>
      have e := eq_of_beq h22
      subst e
      rw [k22] at hk
      cases hz4 : (z == 4) with
      | true => rw [hz4] at hk; cases hk
      | false => rw [hz4] at hk; cases hk; exact .inl ⟨rfl, by simpa using hz4, rfl⟩
    | false =>
      rw [rk_op hz h22] at hk
      cases hr : rkP op with
      | none => rw [hr] at hk; cases hk
      | some q =>
        obtain ⟨ks', t'⟩ := q
        rw [hr] at hk
        simp only at hk
        cases ht : (t' == z) with
        | false => rw [ht] at hk; cases hk
        | true => rw [ht] at hk; cases hk; rw [eq_of_beq ht]; exact .inr rfl
/-- How much there is to do: what a rule makes is less. -/
def mu (c : Co) : Int := 2 * szC c + (bif c.op == 30 && (kidC c 1).op != 23 then 1 else 0)
end Go.Proofs.YtddbiiejilcbbaaGreatDoor
