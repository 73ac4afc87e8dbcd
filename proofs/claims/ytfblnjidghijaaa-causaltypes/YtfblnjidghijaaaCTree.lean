/- Core terms in memory. -/
import Derived.Test.YtfblnjidghijaaaSRow
import Derived.Test.YtfblnjidghijaaaERow
namespace Go.Proofs.Ytfblnjidghijaaa
open Go Go.RowKit

inductive Co where
  | mk (op k : Int) (s : List UInt8) (kids : List Co)
theorem Co.lt_of_mem {op k : Int} {s : List UInt8} {kids : List Co} {t : Co} (h : t ∈ kids) : SizeOf.sizeOf t < SizeOf.sizeOf (Co.mk op k s kids) := by
  have := List.sizeOf_lt_of_mem h
  simp only [Co.mk.sizeOf_spec]
  omega
theorem Co.ind {P : Co → Prop} (h : ∀ op k s kids, (∀ t ∈ kids, P t) → P (.mk op k s kids)) (t : Co) : P t :=
  match t with
  | .mk op k s kids => h op k s kids (fun t _ => Co.ind h t)
termination_by SizeOf.sizeOf t
decreasing_by exact Co.lt_of_mem (by assumption)
/-- A term as a value. -/
def cv (op k : Int) (s : List UInt8) (v : Value) : Value := .agg #[.int .i64 op, .int .i64 k, strV s, v]
/-- The term v lies there. -/
def Cl4 (w : World) (b o : Nat) (v : Value) : Prop := ∃ op k s u, v = cv op k s u ∧ w.cell? ⟨b, o, none⟩ = some (.int .i64 op) ∧ w.cell? ⟨b, o + 1, none⟩ = some (.int .i64 k) ∧ w.cell? ⟨b, o + 2, none⟩ = some (strV s) ∧ w.cell? ⟨b, o + 3, none⟩ = some u
theorem Cl4.below {n : Nat} {w w' : World} {b o : Nat} {v : Value} (h : Cl4 w b o v) (hb : b < n) (hB : Below n w w') : Cl4 w' b o v := by
  obtain ⟨op, k, s, u, e, h0, h1, h2, h3⟩ := h
  exact ⟨op, k, s, u, e, (hB.cell (p := ⟨b, o, none⟩) hb).trans h0, (hB.cell (p := ⟨b, o + 1, none⟩) hb).trans h1, (hB.cell (p := ⟨b, o + 2, none⟩) hb).trans h2, (hB.cell (p := ⟨b, o + 3, none⟩) hb).trans h3⟩
/-- What a term's own numbers and text may be. -/
structure Fits (op k : Int) (s : List UInt8) : Prop where
  op : -9223372036854775808 ≤ op ∧ op ≤ 9223372036854775807
  k : -9223372036854775808 ≤ k ∧ k ≤ 9223372036854775807
  s : s.length ≤ 9223372036854775807
/-- The value v is the term c, all the way down, in blocks below n. -/
inductive Nc (n : Nat) (w : World) : Value → Co → Prop
  | mk (op k : Int) (s : List UInt8) (kids : List Co) (a : Option Addr) (c : Nat) (vs : Nat → Value) (hf : Fits op k s) (hl : kids.length ≤ c ∧ c ≤ 9223372036854775807)
      (hc : ∀ i, i < kids.length → ∃ b o, a = some ⟨b, o, none⟩ ∧ b < n ∧ Cl4 w b (o + i * 4) (vs i)) (hk : ∀ i t, kids[i]? = some t → Nc n w (vs i) t) : Nc n w (cv op k s (.slice a kids.length c)) (.mk op k s kids)
theorem Nc.later {n : Nat} {w w' : World} {v : Value} {t : Co} (h : Nc n w v t) (hB : Below n w w') : Nc n w' v t := by
  induction h with
  | mk op k s kids a c vs hf hl hc hk ih =>
    refine .mk op k s kids a c vs hf hl (fun i hi => ?_) (fun i t ht => ih i t ht)
    obtain ⟨b, o, e, hb, h⟩ := hc i hi
    exact ⟨b, o, e, hb, h.below hb hB⟩
theorem Nc.more {n n' : Nat} {w : World} {v : Value} {t : Co} (h : Nc n w v t) (hn : n ≤ n') : Nc n' w v t := by
  induction h with
  | mk op k s kids a c vs hf hl hc hk ih =>
    refine .mk op k s kids a c vs hf hl (fun i hi => ?_) (fun i t ht => ih i t ht)
    obtain ⟨b, o, e, hb, h⟩ := hc i hi
    exact ⟨b, o, e, by omega, h⟩
theorem Nc.open {n : Nat} {w : World} {v : Value} {op k : Int} {s : List UInt8} {kids : List Co} (h : Nc n w v (.mk op k s kids)) : ∃ a c, v = cv op k s (.slice a kids.length c) ∧ Fits op k s ∧ (kids.length ≤ c ∧ c ≤ 9223372036854775807) ∧ ∀ i t, kids[i]? = some t → ∃ b o u, a = some ⟨b, o, none⟩ ∧ b < n ∧ Cl4 w b (o + i * 4) u ∧ Nc n w u t := by
  cases h with
  | mk _ _ _ _ a c vs hf hl hc hk =>
    refine ⟨a, c, rfl, hf, hl, fun i t ht => ?_⟩
    obtain ⟨b, o, e, hb, h⟩ := hc i (List.getElem?_eq_some_iff.1 ht).1
    exact ⟨b, o, vs i, e, hb, h, hk i t ht⟩
theorem Nc.cells {n : Nat} {w : World} {v : Value} {c : Co} (h : Nc n w v c) : ∃ op k s a N cc, v = cv op k s (.slice a N cc) := by
  cases h with
  | mk op k s kids a c vs => exact ⟨_, _, _, _, _, _, rfl⟩
theorem sizeC : (Try.prog.info? 24).map (·.size) = some 4 := by kernel_rfl
/-- A term is loaded from where it lies. -/
theorem loadC {w : World} {b o : Nat} {v : Value} (h : Cl4 w b o v) : (Instr.loadAt 24 (.pointer (some ⟨b, o, none⟩))).run Try.prog w = .ok v w := by
  obtain ⟨op, k, s, u, rfl, h0, h1, h2, h3⟩ := h
  have hc := run_loadCells_list (P := Try.prog) w ⟨b, o, none⟩ [.int .i64 op, .int .i64 k, strV s, u] (fun j x hx => by
    match j, hx with
    | 0, hx => cases hx; rw [add_lit]; exact h0
    | 1, hx => cases hx; rw [add_lit]; exact h1
    | 2, hx => cases hx; rw [add_lit]; exact h2
    | 3, hx => cases hx; rw [add_lit]; exact h3)
  unfold cv
  simp only [Instr.loadAt, Instr.sureAddr, Sem.run_bind, Sem.run_pure, Result.andThen, loadVar, Try.isAgg24, run_size sizeC, show 4 = [Value.int .i64 op, .int .i64 k, strV s, u].length from rfl, hc, if_true]
theorem idxC (b o n cap k : Nat) (h : k < n) (w : World) : (Instr.indexAt 22 (.slice (some ⟨b, o, none⟩) n cap) (.int .i64 k)).run Try.prog w = .ok (.pointer (some ⟨b, o + k * 4, none⟩)) w := by go_simp
theorem wrap_nat {k : Nat} (h : k + 1 ≤ 9223372036854775807) : IntKind.i64.wrap ((k : Int) + 1) = ((k + 1 : Nat) : Int) := by rw [IntWalk.i64_in _ ⟨by omega, by omega⟩]; omega
end Go.Proofs.Ytfblnjidghijaaa
