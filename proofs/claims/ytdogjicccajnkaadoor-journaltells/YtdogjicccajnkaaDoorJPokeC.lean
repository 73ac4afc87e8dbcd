/- Poke, over the texts of layer 6. -/
import Derived.Test.YtdogjicccajnkaaDoorJGh
namespace Go.Proofs.YtdogjicccajnkaaDoor
open Go Go.RowKit

section
variable {P : Program} {w w' : World} {ops : Array Oper} {rest : List Oper} {a : Act} {Q : Exit → Act → World → Prop} {dst : Option Nat} {ty : TypeId} {pos : String} {after : Array Edge}
theorem wp_index {t : TypeId} {p q : Operand} {x y v : Value} (hp : a.eval p = x) (hq : a.eval q = y) (hr : (Instr.indexAt t x y).run P w = .ok v w)
    (hK : wpList P ops Q rest (a.put dst v) w) : wpList P ops Q (⟨dst, .indexAddr t p q, ty, pos, after, none⟩ :: rest) a w := by
  refine wpList_plain rfl fun K hK' => ?_
  unfold Oper.wp
  simp only [execOp, hp, hq, Sem.run_bind, hr, Result.andThen_ok]
  exact hK' _ _ hK
end
theorem idx58 (g n cap k : Nat) (h : k < n) (w : World) : (Instr.indexAt 73 (.slice (some ⟨g, 0, none⟩) n cap) (.int .i64 k)).run Tryd.prog w = .ok (.pointer (some ⟨g, k * 128, none⟩)) w := by
  have h1 : (k : Int) < n := by omega
  go_simp
theorem idx70 (g o q : Nat) (h : q < 128) (w : World) : (Instr.indexAt 104 (.pointer (some ⟨g, o, none⟩)) (.int .i64 q)).run Tryd.prog w = .ok (.pointer (some ⟨g, o + q, none⟩)) w := by
  have h1 : (q : Int) < 128 := by omega
  go_simp
theorem fa76_0 (b : Nat) (w : World) : (Instr.fieldAt 110 (.pointer (some ⟨b, 0, none⟩)) 0).run Tryd.prog w = .ok (.pointer (some ⟨b, 0, none⟩)) w := by go_simp
theorem fa76_1 (b : Nat) (w : World) : (Instr.fieldAt 110 (.pointer (some ⟨b, 0, none⟩)) 1).run Tryd.prog w = .ok (.pointer (some ⟨b, 1, none⟩)) w := by go_simp

def pokeL (ss : List (List UInt8)) (i q : Nat) (c : UInt8) : List (List UInt8) := ss.set i ((ss[i]?.getD []).set q c)
theorem cells8_set (l : List UInt8) (q : Nat) (c : UInt8) : cells8 (l.set q c) = (cells8 l).set q (cb c) := by simp [cells8, List.map_set]
/-- A byte of a sector is laid. -/
theorem row_poke {w : World} {g cap : Nat} {ss : List (List UInt8)} (h : Row w g cap ss) {i q : Nat} (hi : i < ss.length) (hq : q < 128) (c : UInt8) : Row (w.setCell ⟨g, i * 128 + q, none⟩ (cb c)) g cap (pokeL ss i q c) := by
  obtain ⟨cur, hg, hs, hc, hm, hcs⟩ := h
  refine ⟨_, heap_setCell hg _ _, by simpa [pokeL] using hs, by simpa [pokeL] using hc, hm, fun k s hk => ?_⟩
  have hi' : ss[i]? = some ss[i] := List.getElem?_eq_getElem hi
  by_cases e : i = k
  · subst e
    rw [pokeL, List.getElem?_set_self hi, hi'] at hk
    cases hk
    obtain ⟨h1, h2⟩ := hcs i _ hi'
    refine ⟨by simpa using h1, fun j v hj => ?_⟩
    simp only [Option.getD_some] at hj
    rw [cells8_set] at hj
    by_cases ej : q = j
    · subst ej
      rw [List.getElem?_set_self (by rw [cells8_len, h1]; exact hq)] at hj
      rw [Array.getElem?_setIfInBounds_self_of_lt (by omega)]
      exact hj
    · rw [List.getElem?_set_ne ej] at hj
      rw [Array.getElem?_setIfInBounds_ne (by omega)]
      exact h2 j v hj
  · rw [pokeL, List.getElem?_set_ne e] at hk
    obtain ⟨h1, h2⟩ := hcs k s hk
    refine ⟨h1, fun j v hj => ?_⟩
    have hj' : j < 128 := by have := (List.getElem?_eq_some_iff.1 hj).1; rw [cells8_len] at this; omega
    rw [Array.getElem?_setIfInBounds_ne (by omega)]
    exact h2 j v hj
theorem List.set_getElem?_self' {α : Type} {l : List α} {k : Nat} {x : α} (h : l[k]? = some x) : l.set k x = l := by
  apply List.ext_getElem?
  intro j
  by_cases e : k = j
  · subst e; rw [List.getElem?_set_self (List.getElem?_eq_some_iff.1 h).1, h]
  · rw [List.getElem?_set_ne e]
theorem row_byte {w : World} {g cap : Nat} {ss : List (List UInt8)} (h : Row w g cap ss) {i q : Nat} (hi : i < ss.length) (hq : q < 128) : ∃ v, w.cell? ⟨g, i * 128 + q, none⟩ = some v ∧ w.frozen? ⟨g, i * 128 + q, none⟩ = false := by
  obtain ⟨cur, hg, hs, hc, hm, hcs⟩ := h
  have hk : i * 128 + q < cur.size := by omega
  exact ⟨cur[i * 128 + q], cell_at hg _ (Array.getElem?_eq_getElem hk), open_at hg _⟩
def pokeW (i q : Nat) (c : UInt8) (x : Nat × List UInt8) : Nat × List UInt8 := if x.1 = i then (x.1, x.2.set q c) else x
def pokeTo (L : List (Nat × List UInt8)) (i q : Nat) (c : UInt8) (k : Nat) : List (Nat × List UInt8) := (L.take k).map (pokeW i q c) ++ L.drop k
theorem pokeTo_len (L : List (Nat × List UInt8)) (i q : Nat) (c : UInt8) (k : Nat) : (pokeTo L i q c k).length = L.length := by simp [pokeTo]; omega
theorem pokeTo_get {L : List (Nat × List UInt8)} {i q : Nat} {c : UInt8} {k : Nat} (h : k < L.length) : (pokeTo L i q c k)[k]? = L[k]? := by
  rw [pokeTo, List.getElem?_append_right (by simp; omega), List.getElem?_drop]
  congr 1; simp; omega
theorem pokeTo_step {L : List (Nat × List UInt8)} {i q : Nat} {c : UInt8} {k : Nat} {x : Nat × List UInt8} (hx : L[k]? = some x) : (pokeTo L i q c k).set k (pokeW i q c x) = pokeTo L i q c (k + 1) := by
  have hk := (List.getElem?_eq_some_iff.1 hx).1
  have hd : L.drop k = x :: L.drop (k + 1) := by rw [List.drop_eq_getElem_cons hk]; rw [List.getElem?_eq_getElem hk] at hx; cases hx; rfl
  rw [pokeTo, pokeTo, List.take_add_one, hx, hd]
  simp only [List.map_append, Option.toList_some, List.map_cons, List.map_nil, List.append_assoc, List.cons_append, List.nil_append]
  rw [List.set_append_right _ _ (by simp; omega)]
  have : k - ((L.take k).map (pokeW i q c)).length = 0 := by simp; omega
  rw [this, List.set_cons_zero]
theorem wc_poke (i1 : Nat) (l : List UInt8) (q : Nat) (c : UInt8) : (wc (i1, l)).setIfInBounds (1 + q) (cb c) = wc (i1, l.set q c) := by
  simp only [wc, List.setIfInBounds_toArray, cells8_set]
  rw [Nat.add_comm, List.set_cons_succ]

set_option maxRecDepth 100000 in
set_option maxHeartbeats 2000000 in
theorem poke_ok (w : World) (p a ca b n cb' m : Nat) (ops cut : Int) (gone : Bool) (now kept : List (List UInt8)) (L : List (Nat × List UInt8)) (i q : Nat) (c : UInt8)
    (h : Dc w p (.slice (some ⟨a, 0, none⟩) n ca) (.slice (some ⟨b, 0, none⟩) n cb') m ops cut gone) (hra : Row w a ca now) (hrb : Row w b cb' kept) (hm : Mp w m L) (hn : now.length = n) (hnk : kept.length = n) (hab : a ≠ b)
    (hL : ∀ x ∈ L, x.2.length = 128) (hi : i < n) (hq : q < 128) (hLn : L.length ≤ 1048576) :
    Calls Tryd.prog 32 #[.pointer (some ⟨p, 0, none⟩), .int .i64 i, .int .i64 q, .int .u8 c.toNat] w fun e w' => e = .returned (.int .i64 0) ∧
      Dc w' p (.slice (some ⟨a, 0, none⟩) n ca) (.slice (some ⟨b, 0, none⟩) n cb') m ops cut gone ∧ Row w' a ca (pokeL now i q c) ∧ Row w' b cb' (pokeL kept i q c) ∧ Mp w' m (L.map (pokeW i q c)) ∧ Fr [a, b, m] w w' := by
  have hpm : p ≠ m := fun e => by subst e; rw [Mp] at hm; rw [Dc] at h; rw [hm] at h; cases h
  have hpa : p ≠ a := fun e => by obtain ⟨cur, hg, _⟩ := hra; subst e; rw [Dc] at h; rw [hg] at h; cases h
  have hpb : p ≠ b := fun e => by obtain ⟨cur, hg, _⟩ := hrb; subst e; rw [Dc] at h; rw [hg] at h; cases h
  have hma : m ≠ a := fun e => by obtain ⟨cur, hg, _⟩ := hra; subst e; rw [Mp] at hm; rw [hg] at hm; cases hm
  have hmb : m ≠ b := fun e => by obtain ⟨cur, hg, _⟩ := hrb; subst e; rw [Mp] at hm; rw [hg] at hm; cases hm
  have hq0 : decide ((q : Int) < 0) = false := decide_eq_false (by omega)
  have hq1 : decide ((128 : Int) ≤ (q : Int)) = false := decide_eq_false (by omega)
  have H1 := hid (has_any w p _ b n cb' m ops cut gone i h)
  rw [hasB_in hi] at H1
  obtain ⟨va, hva⟩ := row_byte hra (by rw [hn]; exact hi) hq
  have HVA := hid hva
  have hF1 := Fr.setCell w a (i * 128 + q) (cb c)
  have hD1 := h.fr hF1 (by simpa using hpa)
  have hA1 := row_poke hra (by rw [hn]; exact hi) hq c
  have hB1 := hrb.fr hF1 (by simpa using hab.symm)
  have hM1 : Mp _ m L := hF1.at hm (by simpa using hma)
  obtain ⟨vb, hvb⟩ := row_byte hB1 (by rw [hnk]; exact hi) hq
  have HVB := hid hvb
  have hF2 := Fr.setCell (w.setCell ⟨a, i * 128 + q, none⟩ (cb c)) b (i * 128 + q) (cb c)
  have HH := hid (And.intro (hD1.fr hF2 (by simpa using hpb)) (And.intro (hA1.fr hF2 (by simpa using hab)) (And.intro (row_poke hB1 (by rw [hnk]; exact hi) hq c) (And.intro (show Mp _ m L from hF2.at hM1 (by simpa using hmb)) ((hF1.mono (Y := [a, b, m]) (by simp)).trans hF2 (by simp))))))
  have HD0 := hid h
  have HD1 := hid hD1
  have HL := hid hL
  have HLn := hid hLn
  clear h hra hrb hm hva hvb hF1 hF2 hD1 hA1 hB1 hM1 hL hLn
  go_enter Tryd.func32, Tryd.ntmps32
  go_wp2_with fail
  refine H1.out.mono ?_
  rintro e w ⟨rfl, rfl⟩
  clear H1
  go_upto_region 7 with fail
  refine wp_region_lit ?_
  refine wp_move (v := .pointer (some ⟨p, 0, none⟩)) (by kernel_rfl) ?_
  refine wp_nil (v := ⟨p, 0, none⟩) (by kernel_rfl) ?_
  refine wp_faddr (by kernel_rfl) (fa67_0 (p) _) ?_
  refine wp_load (by kernel_rfl) (load1 Tryd.isAgg73 HD0.out.c0) ?_
  refine wp_move (v := .int .i64 i) (by kernel_rfl) ?_
  refine wp_move (v := .int .i64 q) (by kernel_rfl) ?_
  refine wp_move (v := .int .u8 c.toNat) (by kernel_rfl) ?_
  refine wp_index (by kernel_rfl) (by kernel_rfl) (idx58 a n ca i hi w) ?_
  refine wp_index (by kernel_rfl) (by kernel_rfl) (idx70 a (i * 128) q hq w) ?_
  refine wp_store (by kernel_rfl) (by kernel_rfl) (store1 (t := 5) Tryd.sizeOf5 (.int .u8 c.toNat) rfl rfl HVA.out.1 HVA.out.2) ?_
  dsimp only [Act.put]
  simp only [List.setIfInBounds_toArray, List.set_cons_zero, List.set_cons_succ]
  refine wp_end ?_
  go_upto_region 8 with fail
  refine wp_region_lit ?_
  refine wp_move (v := .pointer (some ⟨p, 0, none⟩)) (by kernel_rfl) ?_
  refine wp_nil (v := ⟨p, 0, none⟩) (by kernel_rfl) ?_
  refine wp_faddr (by kernel_rfl) (fa67_1 (p) _) ?_
  refine wp_load (by kernel_rfl) (load1 Tryd.isAgg73 HD1.out.c1) ?_
  refine wp_move (v := .int .i64 i) (by kernel_rfl) ?_
  refine wp_move (v := .int .i64 q) (by kernel_rfl) ?_
  refine wp_move (v := .int .u8 c.toNat) (by kernel_rfl) ?_
  refine wp_index (by kernel_rfl) (by kernel_rfl) (idx58 b n cb' i hi (w.setCell ⟨a, i * 128 + q, none⟩ (cb c))) ?_
  refine wp_index (by kernel_rfl) (by kernel_rfl) (idx70 b (i * 128) q hq (w.setCell ⟨a, i * 128 + q, none⟩ (cb c))) ?_
  refine wp_store (by kernel_rfl) (by kernel_rfl) (store1 (t := 5) Tryd.sizeOf5 (.int .u8 c.toNat) rfl rfl HVB.out.1 HVB.out.2) ?_
  dsimp only [Act.put]
  simp only [List.setIfInBounds_toArray, List.set_cons_zero, List.set_cons_succ]
  refine wp_end ?_
  rw [show (Value.int .u8 c.toNat) = cb c from rfl]
  clear HVA HVB HD0 HD1
  generalize (w.setCell ⟨a, i * 128 + q, none⟩ (cb c)).setCell ⟨b, i * 128 + q, none⟩ (cb c) = w2 at *
  have c2 := HH.out.1.c2
  have hlen := len_map HH.out.2.2.2.1
  go_upto_region 10 with fail
  go_loopw [46, 9, 10] (fun x _ _ wr => ∃ k : Nat, k ≤ L.length ∧ x = .int .i64 k ∧ Dc wr p (.slice (some ⟨a, 0, none⟩) n ca) (.slice (some ⟨b, 0, none⟩) n cb') m ops cut gone ∧ Row wr a ca (pokeL now i q c) ∧ Row wr b cb' (pokeL kept i q c) ∧ Mp wr m (pokeTo L i q c k) ∧ Fr [a, b, m] w wr) (fun x _ _ _ => L.length - (intOf x).toNat)
  case atStart => exact ⟨0, Nat.zero_le _, rfl, HH.out.1, HH.out.2.1, HH.out.2.2.1, HH.out.2.2.2.1, HH.out.2.2.2.2⟩
  case round =>
    obtain ⟨k, hk, rfl, hDr, hAr, hBr, hMr, hFr⟩ := hrel
    have hLn' := HLn.out
    have HWk := hid (show IntKind.i64.wrap ((k : Int) + 1) = ((k + 1 : Nat) : Int) by rw [IntWalk.i64_in _ ⟨by omega, by omega⟩]; omega)
    clear c2 hlen HH
    by_cases hlt : k < L.length
    · have hmes : L.length - ((k + 1 : Nat) : Int).toNat < L.length - (k : Int).toNat := by omega
      have hlt' : (k : Int) < (L.length : Int) := by omega
      clear hLn'
      obtain ⟨⟨i1, l1⟩, hxL⟩ : ∃ x, L[k]? = some x := ⟨_, List.getElem?_eq_getElem hlt⟩
      have hl := HL.out (i1, l1) (List.mem_of_getElem? hxL)
      have hx : (pokeTo L i q c k)[k]? = some (i1, l1) := by rw [pokeTo_get hlt]; exact hxL
      have hst : (Instr.storeAt 110 (.pointer (some ⟨wr.heap.size, 0, none⟩)) (wv (i1, l1))).run Tryd.prog (wr.alloc (.cells Tryd.zeroCells110 110)) = .ok () (wr.alloc (.cells (wc (i1, l1)) 110)) :=
        store_new Tryd.prog wr 110 129 size76 Tryd.zeroCells110 (.int .i64 i1 :: cells8 l1) zc76 (wc_len (i1, l1) hl) (wc_one (i1, l1))
      have HDr := hid hDr
      have HMr := hid hMr
      have HR := hid (And.intro hAr (And.intro hBr hFr))
      clear hDr hAr hBr hMr hFr
      go_upto_region 12 with fail
      refine wp_region_lit ?_
      refine wp_move (v := .pointer (some ⟨p, 0, none⟩)) (by kernel_rfl) ?_
      refine wp_nil (v := ⟨p, 0, none⟩) (by kernel_rfl) ?_
      refine wp_faddr (by kernel_rfl) (fa67_2 (p) _) ?_
      refine wp_load (by kernel_rfl) (load1 Tryd.isAgg98 HDr.out.c2) ?_
      refine wp_move (v := .int .i64 k) (by kernel_rfl) ?_
      refine wp_lookup (by kernel_rfl) (by kernel_rfl) (look_in0 HMr.out k (i1, l1) hx) ?_
      refine wp_alloc (alloc76 wr) ?_
      refine wp_store (by kernel_rfl) (by kernel_rfl) hst ?_
      dsimp only [Act.put]
      simp only [List.setIfInBounds_toArray, List.set_cons_zero, List.set_cons_succ]
      refine wp_end ?_
      have hFa : Fr [] wr (wr.alloc (.cells (wc (i1, l1)) 110)) := Fr.alloc _ _
      have hbq : (wr.alloc (.cells (wc (i1, l1)) 110)).heap[wr.heap.size]? = some (.cells (wc (i1, l1)) 110 (0, 0)) := heap_alloc_last _ _
      have hqm : wr.heap.size ≠ m := by have := heap_lt HMr.out; omega
      have hqa : wr.heap.size ≠ a := by have := HR.out.1.lt; omega
      have hqb : wr.heap.size ≠ b := by have := HR.out.2.1.lt; omega
      have hqp : wr.heap.size ≠ p := by have := heap_lt HDr.out; omega
      have hqw : w.heap.size ≤ wr.heap.size := HR.out.2.2.size
      have HQ := hid (And.intro (HDr.out.fr hFa (by simp)) (And.intro (HR.out.1.fr hFa (by simp)) (And.intro (HR.out.2.1.fr hFa (by simp)) (And.intro (show Mp _ m _ from hFa.at HMr.out (by simp)) (HR.out.2.2.trans hFa (by simp))))))
      have d0 : (wr.alloc (.cells (wc (i1, l1)) 110)).cell? ⟨wr.heap.size, 0, none⟩ = some (.int .i64 i1) := cell_at hbq 0 rfl
      have HBQ := hid hbq
      clear hst hFa hbq HDr HMr HR
      generalize wr.heap.size = qb at *
      generalize wr.alloc (.cells (wc (i1, l1)) 110) = wq at *
      by_cases hii : i1 = i
      · subst hii
        have hii' : ((i1 : Int) == (i1 : Int)) = true := by simp
        have hc1 : (wc (i1, l1)).size = 129 := by simp [wc, cells8_len, hl]
        have HB1 : Hid (wq.cell? ⟨qb, 1 + q, none⟩ = some ((wc (i1, l1))[1 + q]'(by omega)) ∧ wq.frozen? ⟨qb, 1 + q, none⟩ = false) := hid ⟨cell_at HBQ.out (1 + q) (Array.getElem?_eq_getElem (by omega)), open_at HBQ.out _⟩
        go_upto_region 14 with fail
        refine wp_region_lit ?_
        refine wp_move (v := .int .i64 q) (by kernel_rfl) ?_
        refine wp_move (v := .int .u8 c.toNat) (by kernel_rfl) ?_
        refine wp_faddr (by kernel_rfl) (fa76_1 (qb) _) ?_
        refine wp_index (by kernel_rfl) (by kernel_rfl) (idx70 qb 1 q hq wq) ?_
        refine wp_store (by kernel_rfl) (by kernel_rfl) (store1 (t := 5) Tryd.sizeOf5 (.int .u8 c.toNat) rfl rfl HB1.out.1 HB1.out.2) ?_
        dsimp only [Act.put]
        simp only [List.setIfInBounds_toArray, List.set_cons_zero, List.set_cons_succ]
        refine wp_end ?_
        rw [show (Value.int .u8 c.toNat) = cb c from rfl]
        have hF5 := Fr.setCell wq qb (1 + q) (cb c)
        have hb5 : (wq.setCell ⟨qb, 1 + q, none⟩ (cb c)).heap[qb]? = some (.cells (wc (i1, l1.set q c)) 110 (0, 0)) := by rw [← wc_poke]; exact heap_setCell HBQ.out _ _
        have hD5 := HQ.out.1.fr hF5 (by simpa using hqp.symm)
        have hm5 : Mp (wq.setCell ⟨qb, 1 + q, none⟩ (cb c)) m (pokeTo L i1 q c k) := hF5.at HQ.out.2.2.2.1 (by simpa using hqm.symm)
        have HR5 := hid (And.intro (HQ.out.2.1.fr hF5 (by simpa using hqa.symm)) (And.intro (HQ.out.2.2.1.fr hF5 (by simpa using hqb.symm)) (HQ.out.2.2.2.2.trans hF5 (by simp [hqw]))))
        have hl1 : (l1.set q c).length = 128 := by simpa using hl
        have hkL : k < (pokeTo L i1 q c k).length := by rw [pokeTo_len]; exact hlt
        have hstep : (pokeTo L i1 q c k).set k (i1, l1.set q c) = pokeTo L i1 q c (k + 1) := by
          have := pokeTo_step (i := i1) (q := q) (c := c) hxL
          rwa [pokeW, if_pos rfl] at this
        clear hF5 HQ HBQ HB1 d0
        generalize wq.setCell ⟨qb, 1 + q, none⟩ (cb c) = w5 at *
        go_upto_region 15 with fail
        refine h_openL (S := fun w' => w'.heap[p]? = w5.heap[p]? ∧ w'.heap[qb]? = w5.heap[qb]?) (by kernel_rfl) (by kernel_rfl) (fun _ _ _ _ _ h => h) (L := #[false, false, false, false, false, false, false]) (by kernel_rfl) ?_
        intro Q' hns hP hN
        have hS := (show w5.drew.heap[p]? = w5.heap[p]? ∧ w5.drew.heap[qb]? = w5.heap[qb]? from ⟨rfl, rfl⟩)
        refine h_takeL (i := 0) (v := .pointer (some ⟨p, 0, none⟩)) hns rfl rfl (by kernel_rfl) (by kernel_rfl) hP (y_move rfl (by kernel_rfl) (by kernel_rfl)) hS rfl (L' := #[true, false, false, false, false, false, false]) (by kernel_rfl) ?_
        refine h_takeL (i := 1) (v := .pointer (some ⟨p, 0, none⟩)) hns rfl rfl (by kernel_rfl) (by kernel_rfl) hP (y_nil rfl (by kernel_rfl) (by kernel_rfl)) hS rfl (L' := #[true, true, false, false, false, false, false]) (by kernel_rfl) ?_
        refine h_takeL (i := 2) (v := .pointer (some ⟨p, 2, none⟩)) hns rfl rfl (by kernel_rfl) (by kernel_rfl) hP (y_faddr rfl (by kernel_rfl) (by kernel_rfl) (fa67_2 (p))) hS rfl (L' := #[true, true, true, false, false, false, false]) (by kernel_rfl) ?_
        refine h_takeL (i := 3) (v := .map (some m)) hns rfl rfl (by kernel_rfl) (by kernel_rfl) hP (y_load rfl (by kernel_rfl) (by kernel_rfl) (fun w h => load1 Tryd.isAgg98 (cell_at (h.1.trans hD5) 2 rfl))) hS rfl (L' := #[true, true, true, true, false, false, false]) (by kernel_rfl) ?_
        refine h_takeL (i := 4) (v := .int .i64 k) hns rfl rfl (by kernel_rfl) (by kernel_rfl) hP (y_move rfl (by kernel_rfl) (by kernel_rfl)) hS rfl (L' := #[true, true, true, true, true, false, false]) (by kernel_rfl) ?_
        refine h_takeL (i := 5) (v := wv (i1, l1.set q c)) hns rfl rfl (by kernel_rfl) (by kernel_rfl) hP (y_load rfl (by kernel_rfl) (by kernel_rfl) (fun w h => load_w hl1 (h.2.trans hb5))) hS rfl (L' := #[true, true, true, true, true, true, false]) (by kernel_rfl) ?_
        refine h_skipL (i := 6) (by kernel_rfl) rfl rfl (by kernel_rfl) (run_mapUpdate rfl (by kernel_rfl) (by kernel_rfl) (by kernel_rfl) (put_old (w := w5.drew) hm5 k hkL (i1, l1.set q c))) ⟨(Fr.reMap w5.drew m _).block p (heap_lt hD5) (by simpa using hpm), (Fr.reMap w5.drew m _).block qb (heap_lt hb5) (by simpa using hqm)⟩ (L' := #[true, true, true, true, true, true, true]) (by kernel_rfl) ?_
        simp only [List.setIfInBounds_toArray, List.set_cons_zero, List.set_cons_succ]
        refine wpAnyH_done (by kernel_rfl) ?_ _
        refine hN _ _ ?_
        clear hP hN hns
        rw [hstep]
        have hF6 := (Fr.reMap w5.drew m (pokeTo L i1 q c (k + 1))).undrew
        have HE := hid (And.intro (hD5.fr hF6 (by simpa using hpm)) (And.intro (HR5.out.1.fr hF6 (by simpa using hma.symm)) (And.intro (HR5.out.2.1.fr hF6 (by simpa using hmb.symm)) (And.intro (show Mp _ m _ from reMap_at (w := w5.drew) hm5 (pokeTo L i1 q c (k + 1))) (HR5.out.2.2.trans hF6 (by simp))))))
        clear hD5 hm5 hb5 hF6 HR5 hS
        generalize reMap w5.drew m (pokeTo L i1 q c (k + 1)) = w6 at *
        go_upto_region 16 with fail
        refine wp_region_lit ?_
        refine wp_addi (z := ((k + 1 : Nat) : Int)) (by kernel_rfl) (by kernel_rfl) HWk.out ?_
        refine wp_move (v := .int .i64 (k + 1 : Nat)) (by kernel_rfl) ?_
        dsimp only [Act.put]
        simp only [List.setIfInBounds_toArray, List.set_cons_zero, List.set_cons_succ]
        refine wp_end ?_
        go_wp2_with fail
        go_roundw
        case rel => exact ⟨k + 1, hlt, rfl, HE.out.1, HE.out.2.1, HE.out.2.2.1, HE.out.2.2.2.1, HE.out.2.2.2.2⟩
        case measure => exact hmes
      · have hii' : ((i1 : Int) == (i : Int)) = false := by rw [beq_eq_false_iff_ne]; omega
        have hstep : pokeTo L i q c k = pokeTo L i q c (k + 1) := by
          have := pokeTo_step (i := i) (q := q) (c := c) hxL
          rw [pokeW, if_neg hii] at this
          rw [← this]
          exact (List.set_getElem?_self' hx).symm
        rw [hstep] at HQ
        clear HBQ
        go_upto_region 16 with fail
        refine wp_region_lit ?_
        refine wp_addi (z := ((k + 1 : Nat) : Int)) (by kernel_rfl) (by kernel_rfl) HWk.out ?_
        refine wp_move (v := .int .i64 (k + 1 : Nat)) (by kernel_rfl) ?_
        dsimp only [Act.put]
        simp only [List.setIfInBounds_toArray, List.set_cons_zero, List.set_cons_succ]
        refine wp_end ?_
        go_wp2_with fail
        go_roundw
        case rel => exact ⟨k + 1, hlt, rfl, HQ.out.1, HQ.out.2.1, HQ.out.2.2.1, HQ.out.2.2.2.1, HQ.out.2.2.2.2⟩
        case measure => exact hmes
    · obtain rfl : k = L.length := by omega
      have hlt' : ¬ (L.length : Int) < (L.length : Int) := by omega
      have hend : pokeTo L i q c L.length = L.map (pokeW i q c) := by simp [pokeTo]
      rw [hend] at hMr
      have HE := hid (And.intro hDr (And.intro hAr (And.intro hBr (And.intro hMr hFr))))
      clear hDr hAr hBr hMr hFr hLn' HWk
      go_wp2
      go_ret
      exact ⟨rfl, HE.out.1, HE.out.2.1, HE.out.2.2.1, HE.out.2.2.2.1, HE.out.2.2.2.2⟩

def DS.poke (s : DS) (i q : Nat) (c : UInt8) : DS := { s with now := pokeL s.now i q c, kept := pokeL s.kept i q c, loose := s.loose.map (pokeW i q c) }
theorem pokeL_len (ss : List (List UInt8)) (i q : Nat) (c : UInt8) : (pokeL ss i q c).length = ss.length := by simp [pokeL]
theorem pokeL_set (ss : List (List UInt8)) (i q : Nat) (c : UInt8) (x : Nat × List UInt8) (hi : i < ss.length) : pokeL (ss.set x.1 x.2) i q c = (pokeL ss i q c).set (pokeW i q c x).1 (pokeW i q c x).2 := by
  unfold pokeW
  by_cases e : x.1 = i
  · rw [if_pos e]
    unfold pokeL
    rw [e, List.getElem?_set_self hi]
    simp
  · rw [if_neg e]
    unfold pokeL
    rw [List.getElem?_set_ne e, List.set_comm _ _ e]
theorem pokeL_layAll (i q : Nat) (c : UInt8) (L : List (Nat × List UInt8)) : ∀ ss : List (List UInt8), i < ss.length → pokeL (layAll ss L) i q c = layAll (pokeL ss i q c) (L.map (pokeW i q c)) := by
  induction L with
  | nil => intro ss _; rfl
  | cons x r ih =>
    intro ss hi
    show pokeL (layAll (ss.set x.1 x.2) r) i q c = layAll ((pokeL ss i q c).set (pokeW i q c x).1 (pokeW i q c x).2) (r.map (pokeW i q c))
    rw [ih _ (by simpa using hi), pokeL_set _ _ _ _ _ hi]
theorem pokeW_1 (i q : Nat) (c : UInt8) (x : Nat × List UInt8) : (pokeW i q c x).1 = x.1 ∧ (pokeW i q c x).2.length = x.2.length := by
  unfold pokeW; split <;> simp
theorem pokeL_lens {ss : List (List UInt8)} {i q : Nat} {c : UInt8} (hi : i < ss.length) (h : ∀ l ∈ ss, l.length = 128) : ∀ l ∈ pokeL ss i q c, l.length = 128 := by
  intro l hl
  rcases List.mem_or_eq_of_mem_set hl with hl | rfl
  · exact h l hl
  · rw [List.getElem?_eq_getElem hi]; simpa using h _ (List.getElem_mem hi)
theorem DS.Ok.poke {s : DS} (h : s.Ok) {i q : Nat} (c : UInt8) (hi : i < s.n) : (s.poke i q c).Ok :=
  ⟨h.n0, h.n1, by show (pokeL _ _ _ _).length = _; rw [pokeL_len, h.nowLen]; rfl, by show (pokeL _ _ _ _).length = _; rw [pokeL_len, h.keptLen]; rfl, by
    intro x hx
    obtain ⟨y, hy, rfl⟩ := List.mem_map.1 hx
    obtain ⟨e1, e2⟩ := pokeW_1 i q c y
    rw [e1, e2]; exact h.at_ y hy, pokeL_lens (by rw [h.keptLen]; exact hi) h.lens, h.o0, h.o1, by show ((s.loose.map _).length : Int) ≤ _; rw [List.length_map]; exact h.few, by
    show pokeL s.now i q c = layAll (pokeL s.kept i q c) (s.loose.map (pokeW i q c))
    rw [← pokeL_layAll i q c s.loose s.kept (by rw [h.keptLen]; exact hi), ← h.same]⟩
theorem poke_d {w : World} {p : Nat} {X : List Nat} {s : DS} (h : Disk w p X s) {i q : Nat} (c : UInt8) (hi : i < s.n) (hq : q < 128) :
    Calls Tryd.prog 32 #[.pointer (some ⟨p, 0, none⟩), .int .i64 i, .int .i64 q, .int .u8 c.toNat] w fun e w' => e = .returned (.int .i64 0) ∧ Disk w' p X (s.poke i q c) ∧ Fr X w w' := by
  have hok := h.ok
  obtain ⟨a, ca, b, cb', m, rfl, hD, hA, hB, hM, hab, _⟩ := h
  have hfew := hok.few
  have ho1 := hok.o1
  refine (poke_ok w p a ca b s.n cb' m s.ops s.cut s.gone s.now s.kept s.loose i q c hD hA hB hM hok.nowLen hok.keptLen hab (fun x hx => (hok.at_ x hx).2) hi hq (by omega)).mono ?_
  rintro e w' ⟨rfl, hD', hA', hB', hM', hF⟩
  exact ⟨rfl, ⟨a, ca, b, cb', m, rfl, hD', hA', hB', hM', hab, hok.poke c hi⟩, hF.mono (by simp)⟩
end Go.Proofs.YtdogjicccajnkaaDoor
