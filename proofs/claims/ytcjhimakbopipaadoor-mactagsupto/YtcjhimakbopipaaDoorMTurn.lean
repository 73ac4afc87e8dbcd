/- One round. -/
import Derived.Test.YtcjhimakbopipaaDoorMRot
import Derived.BigQuiet
namespace Go.Proofs.YtcjhimakbopipaaDoor
open Go Go.RowKit

def c32 (x : Nat) : Value := .int .u32 (x : Int)
def cs32 (l : List Nat) : Array Value := (l.map c32).toArray
def V32 (l : List Nat) : Value := .agg (cs32 l)

theorem bel2 (w : World) (o o' : Obj) : Below w.heap.size w ((w.alloc o).alloc o') := ((Below.refl w.heap.size w).alloc (Nat.le_refl _) o).alloc (by show _ ≤ (w.heap.push o).size; simp) o'
theorem laid8 (w : World) (c : Array Value) (o' : Obj) (t : TypeId) (k : Nat) : ((w.alloc (.cells c t)).alloc o').cell? ⟨w.heap.size, k, none⟩ = c[k]? := by
  refine cell_of_row _ _ k c t (0, 0) ?_
  show ((w.heap.push _).push _)[w.heap.size]? = _
  simp [Array.getElem?_push]
theorem laid8' (w : World) (o : Obj) (c : Array Value) (t : TypeId) : ((w.alloc o).alloc (.cells c t)).heap[w.heap.size + 1]? = some (.cells c t) := by
  show ((w.heap.push o).push _)[w.heap.size + 1]? = _
  have h : (w.heap.push o).size = w.heap.size + 1 := by simp
  rw [← h, Array.getElem?_push_size]
theorem nt_xor : ∀ x : Nat, x < 4294967296 → 4294967295 ^^^ x = nt x := fun x h => by
  unfold nt
  apply Nat.eq_of_testBit_eq
  intro i
  rw [Nat.testBit_xor, show 4294967295 - x = 2 ^ 32 - (x + 1) by omega, Nat.testBit_two_pow_sub_succ (by omega), show (4294967295 : Nat) = 2 ^ 32 - 1 by decide, Nat.testBit_two_pow_sub_one]
  by_cases hi : i < 32
  · simp [hi]
  · have : x.testBit i = false := Nat.testBit_lt_two_pow (Nat.lt_of_lt_of_le (by omega : x < 2 ^ 32) (Nat.pow_le_pow_right (by decide) (by omega)))
    simp [hi, this]
theorem not_u32 (x : Nat) (h : x < 4294967296) : bits .xor .u32 4294967295 (x : Int) = ((nt x : Nat) : Int) := by
  have := u32_xor_nat 4294967295 x (by decide) h
  rw [nt_xor x h] at this
  exact this
theorem u32_max : IntKind.u32.max = 4294967295 := by decide
theorem u32_sig : IntKind.u32.signed = false := rfl
theorem Below.next {w w1 w2 : World} (hb : Below w.heap.size w w1) (h : Below w1.heap.size w1 w2) : Below w.heap.size w w2 := hb.trans (h.mono hb.size)
theorem drewN_below (w : World) (j : Nat) : Below w.heap.size w (w.drewN j) := by
  induction j with
  | zero => exact Below.refl _ _
  | succ j ih => exact (by have := ih.drew; exact this)
theorem heap_ltM {w : World} {k : Nat} {o : Obj} (h : w.heap[k]? = some o) : k < w.heap.size := (Array.getElem?_eq_some_iff.1 h).1
theorem heap_setCellM {w : World} {p : Nat} {c : Array Value} {t : TypeId} {z : Nat × Nat} (h : w.heap[p]? = some (.cells c t z)) (i : Nat) (v : Value) : (w.setCell ⟨p, i, none⟩ v).heap[p]? = some (.cells (c.setIfInBounds i v) t z) := by
  have hl := heap_ltM h
  unfold World.setCell
  simp only [Array.getElem?_modify, if_true, h, Option.map_some]
  simp
theorem results_cell1 {fn : Func} {p : Tmp} {ty : TypeId} (h : fn.results = #[.cell p ty]) (tmps : Array Value) (P : Program) (w : World) :
    (results fn tmps).run P w = ((asAddr (tmps.getD p undef)).run P w).andThen fun a w₁ => (loadVar ty a).run P w₁ := by
  simp only [results, h]
  simp [Sem.run_bind, Result.andThen]
/-- An array that is returned out of its cell. -/
theorem ret_arr {f : Func} {R : Ending → World → Prop} {a : Act} {w : World} {p : Tmp} {ty : TypeId} {b n : Nat} {e : TypeId} {c : Array Value} (hf : f.results = #[.cell p ty]) (hd : a.defers = []) (hp : a.tmps.getD p undef = .pointer (some ⟨b, 0, none⟩))
    (hg : w.heap[b]? = some (.cells c ty (0, 0))) (hu : Tryd.prog.underlying ty = some (.array n e)) (hi : (Tryd.prog.info? ty).map (·.size) = some c.size) (hR : R (.returned (.agg c)) w) : bodyPost Tryd.prog f R .ret a w := by
  refine bodyPost_ret (v := .agg c) ?_ hd hR
  rw [results_cell1 hf, hp]
  simp only [asAddr, Sem.run_pure, Result.andThen]
  exact run_loadVar_row _ _ ty ty c (0, 0) _ hg hu rfl hi
theorem under48 : Tryd.prog.underlying 48 = some (.array 8 37) := by kernel_rfl
theorem size48 : (Tryd.prog.info? 48).map (·.size) = some 8 := by kernel_rfl
set_option maxHeartbeats 4000000 in
theorem turned_any (a b c d e f g h kw : Nat) (hu : U32 [a, b, c, d, e, f, g, h]) (w : World) :
    Calls Tryd.prog 45 #[V32 [a, b, c, d, e, f, g, h], .int .u32 kw] w fun r w' => r = .returned (V32 (turn [a, b, c, d, e, f, g, h] kw)) ∧ Below w.heap.size w w' := by
  have ha : a < 4294967296 := hu _ (by simp)
  have hb : b < 4294967296 := hu _ (by simp)
  have hc : c < 4294967296 := hu _ (by simp)
  have hd : d < 4294967296 := hu _ (by simp)
  have he : e < 4294967296 := hu _ (by simp)
  have hf : f < 4294967296 := hu _ (by simp)
  have hg : g < 4294967296 := hu _ (by simp)
  have hh : h < 4294967296 := hu _ (by simp)
  clear hu
  show Calls _ _ #[.agg #[.int .u32 a, .int .u32 b, .int .u32 c, .int .u32 d, .int .u32 e, .int .u32 f, .int .u32 g, .int .u32 h], .int .u32 kw] w _
  have hall := fun k => laid8 w #[.int .u32 a, .int .u32 b, .int .u32 c, .int .u32 d, .int .u32 e, .int .u32 f, .int .u32 g, .int .u32 h] (.cells #[.int .u32 0, .int .u32 0, .int .u32 0, .int .u32 0, .int .u32 0, .int .u32 0, .int .u32 0, .int .u32 0] 48) 48 k
  have c0 := hall 0; have c1 := hall 1; have c2 := hall 2; have c3 := hall 3; have c4 := hall 4; have c5 := hall 5; have c6 := hall 6; have c7 := hall 7
  have hr := laid8' w (.cells #[.int .u32 a, .int .u32 b, .int .u32 c, .int .u32 d, .int .u32 e, .int .u32 f, .int .u32 g, .int .u32 h] 48) #[.int .u32 0, .int .u32 0, .int .u32 0, .int .u32 0, .int .u32 0, .int .u32 0, .int .u32 0, .int .u32 0] 48
  have hbel := bel2 w (.cells #[.int .u32 a, .int .u32 b, .int .u32 c, .int .u32 d, .int .u32 e, .int .u32 f, .int .u32 g, .int .u32 h] 48) (.cells #[.int .u32 0, .int .u32 0, .int .u32 0, .int .u32 0, .int .u32 0, .int .u32 0, .int .u32 0, .int .u32 0] 48)
  simp only [List.getElem?_toArray, List.getElem?_cons_zero, List.getElem?_cons_succ] at c0 c1 c2 c3 c4 c5 c6 c7
  clear hall
  go_enter Tryd.func45, Tryd.ntmps45
  go_wp2_with fail
  generalize ((w.alloc (.cells #[.int .u32 a, .int .u32 b, .int .u32 c, .int .u32 d, .int .u32 e, .int .u32 f, .int .u32 g, .int .u32 h] 48)).alloc (.cells #[.int .u32 0, .int .u32 0, .int .u32 0, .int .u32 0, .int .u32 0, .int .u32 0, .int .u32 0, .int .u32 0] 48)) = W at *
  have HR : Hid (W.heap[w.heap.size + 1]? = some (.cells #[.int .u32 0, .int .u32 0, .int .u32 0, .int .u32 0, .int .u32 0, .int .u32 0, .int .u32 0, .int .u32 0] 48)) := hr
  have HB : Hid (Below w.heap.size w W) := hbel
  clear hr hbel
  go_quiet (fail)
  go_wp2_with fail
  obtain ⟨W1, hW1⟩ : ∃ W', W' = W.drewN nq := ⟨_, rfl⟩
  rw [← hW1]
  replace c3 : W1.cell? ⟨w.heap.size, 3, none⟩ = some (.int .u32 d) := by rw [hW1]; exact c3
  replace c7 : W1.cell? ⟨w.heap.size, 7, none⟩ = some (.int .u32 h) := by rw [hW1]; exact c7
  replace HR : Hid (W1.heap[w.heap.size + 1]? = some (.cells #[.int .u32 0, .int .u32 0, .int .u32 0, .int .u32 0, .int .u32 0, .int .u32 0, .int .u32 0, .int .u32 0] 48)) := by rw [hW1]; exact HR
  replace HB : Hid (Below w.heap.size w W1) := by rw [hW1]; exact Below.next HB.out (drewN_below _ _)
  clear hW1
  clear c0 c1 c2 c4 c5 c6
  have H6 : Hid (∀ w, Calls Tryd.prog 46 #[.int .u32 e, .int .i64 6] w fun r w' => r = .returned (.int .u32 (rr 6 e : Nat)) ∧ w' = w) := hidM (fun w => rotr_any e 6 he (by decide) (by decide) w)
  have H11 : Hid (∀ w, Calls Tryd.prog 46 #[.int .u32 e, .int .i64 11] w fun r w' => r = .returned (.int .u32 (rr 11 e : Nat)) ∧ w' = w) := hidM (fun w => rotr_any e 11 he (by decide) (by decide) w)
  have H25 : Hid (∀ w, Calls Tryd.prog 46 #[.int .u32 e, .int .i64 25] w fun r w' => r = .returned (.int .u32 (rr 25 e : Nat)) ∧ w' = w) := hidM (fun w => rotr_any e 25 he (by decide) (by decide) w)
  have v1 := u32_xor_nat (rr 6 e) (rr 11 e) (rr_lt he) (rr_lt he)
  have v2 := u32_xor_nat (rr 6 e ^^^ rr 11 e) (rr 25 e) (xor_lt (rr_lt he) (rr_lt he)) (rr_lt he)
  have hs1 := sa1_lt he
  have hs : rr 6 e ^^^ rr 11 e ^^^ rr 25 e = sa1 e := rfl
  rw [hs] at v2
  have v3 := wrap_pl h (sa1 e)
  have v4 := u32_and_nat e f he hf
  have v5 := not_u32 e he
  have v51 := u32_max
  have v52 := u32_sig
  have v6 := u32_and_nat (nt e) g (nt_lt e) hg
  have v7 := u32_xor_nat (e &&& f) (nt e &&& g) (and_lt hf) (and_lt hg)
  have hch : (e &&& f) ^^^ (nt e &&& g) = cho e f g := rfl
  rw [hch] at v7
  have v8 := wrap_pl (pl h (sa1 e)) (cho e f g)
  have v9 := wrap_pl (pl (pl h (sa1 e)) (cho e f g)) kw
  have et : turn [a, b, c, d, e, f, g, h] kw = [pl (pl (pl (pl h (sa1 e)) (cho e f g)) kw) (pl (sa0 a) (maj a b c)), a, b, c, pl d (pl (pl (pl h (sa1 e)) (cho e f g)) kw), e, f, g] := rfl
  have ET := hidM et
  clear et hs hch
  generalize rr 6 e ^^^ rr 11 e = x1 at *
  generalize rr 6 e = r6 at *
  generalize rr 11 e = r11 at *
  generalize rr 25 e = r25 at *
  generalize e &&& f = ef at *
  generalize nt e &&& g = eg at *
  generalize nt e = ne at *
  generalize pl (pl (pl h (sa1 e)) (cho e f g)) kw = t1 at *
  generalize pl (pl h (sa1 e)) (cho e f g) = x4 at *
  generalize pl h (sa1 e) = x3 at *
  generalize cho e f g = x5 at *
  generalize sa1 e = x2 at *
  go_quiet ((go_at_call 46; first | exact Calls.quiet_of_same (H6.out _) | exact Calls.quiet_of_same (H11.out _) | exact Calls.quiet_of_same (H25.out _)))
  go_wp2_with fail
  obtain ⟨W2, hW2⟩ : ∃ W', W' = W1.drewN nq := ⟨_, rfl⟩
  rw [← hW2]
  replace c3 : W2.cell? ⟨w.heap.size, 3, none⟩ = some (.int .u32 d) := by rw [hW2]; exact c3
  replace c7 : W2.cell? ⟨w.heap.size, 7, none⟩ = some (.int .u32 h) := by rw [hW2]; exact c7
  replace HR : Hid (W2.heap[w.heap.size + 1]? = some (.cells #[.int .u32 0, .int .u32 0, .int .u32 0, .int .u32 0, .int .u32 0, .int .u32 0, .int .u32 0, .int .u32 0] 48)) := by rw [hW2]; exact HR
  replace HB : Hid (Below w.heap.size w W2) := by rw [hW2]; exact Below.next HB.out (drewN_below _ _)
  clear hW2
  clear v1 v2 v3 v4 v5 v6 v7 v8 v9 H6 H11 H25 v51 v52
  have H2 : Hid (∀ w, Calls Tryd.prog 46 #[.int .u32 a, .int .i64 2] w fun r w' => r = .returned (.int .u32 (rr 2 a : Nat)) ∧ w' = w) := hidM (fun w => rotr_any a 2 ha (by decide) (by decide) w)
  have H13 : Hid (∀ w, Calls Tryd.prog 46 #[.int .u32 a, .int .i64 13] w fun r w' => r = .returned (.int .u32 (rr 13 a : Nat)) ∧ w' = w) := hidM (fun w => rotr_any a 13 ha (by decide) (by decide) w)
  have H22 : Hid (∀ w, Calls Tryd.prog 46 #[.int .u32 a, .int .i64 22] w fun r w' => r = .returned (.int .u32 (rr 22 a : Nat)) ∧ w' = w) := hidM (fun w => rotr_any a 22 ha (by decide) (by decide) w)
  have v1 := u32_xor_nat (rr 2 a) (rr 13 a) (rr_lt ha) (rr_lt ha)
  have v2 := u32_xor_nat (rr 2 a ^^^ rr 13 a) (rr 22 a) (xor_lt (rr_lt ha) (rr_lt ha)) (rr_lt ha)
  have hs : rr 2 a ^^^ rr 13 a ^^^ rr 22 a = sa0 a := rfl
  rw [hs] at v2
  have v3 := u32_and_nat a b ha hb
  have v4 := u32_and_nat a c ha hc
  have v5 := u32_and_nat b c hb hc
  have v6 := u32_xor_nat (a &&& b) (a &&& c) (and_lt hb) (and_lt hc)
  have v7 := u32_xor_nat ((a &&& b) ^^^ (a &&& c)) (b &&& c) (xor_lt (and_lt hb) (and_lt hc)) (and_lt hc)
  have hmj : (a &&& b) ^^^ (a &&& c) ^^^ (b &&& c) = maj a b c := rfl
  rw [hmj] at v7
  have v8 := wrap_pl (sa0 a) (maj a b c)
  have v9 := wrap_pl t1 (pl (sa0 a) (maj a b c))
  have v10 := wrap_pl d t1
  clear hs hmj
  generalize pl t1 (pl (sa0 a) (maj a b c)) = z1 at *
  generalize pl (sa0 a) (maj a b c) = y9 at *
  generalize (a &&& b) ^^^ (a &&& c) = y8 at *
  generalize a &&& b = y7 at *
  generalize a &&& c = y6 at *
  generalize b &&& c = y5 at *
  generalize sa0 a = y4 at *
  generalize maj a b c = y3 at *
  generalize rr 2 a ^^^ rr 13 a = y2 at *
  generalize rr 2 a = r2 at *
  generalize rr 13 a = r13 at *
  generalize rr 22 a = r22 at *
  generalize pl d t1 = z2 at *
  refine (H2.out _).mono ?_
  rintro r w2 ⟨rfl, rfl⟩
  go_wp2_with fail
  refine (H13.out _).mono ?_
  rintro r w2 ⟨rfl, rfl⟩
  go_wp2_with fail
  refine (H22.out _).mono ?_
  rintro r w2 ⟨rfl, rfl⟩
  have q := HR.out
  have d0 := cell_of_row _ _ 0 _ _ _ q
  have d1 := cell_of_row _ _ 1 _ _ _ q
  have d2 := cell_of_row _ _ 2 _ _ _ q
  have d3 := cell_of_row _ _ 3 _ _ _ q
  have d4 := cell_of_row _ _ 4 _ _ _ q
  have d5 := cell_of_row _ _ 5 _ _ _ q
  have d6 := cell_of_row _ _ 6 _ _ _ q
  have d7 := cell_of_row _ _ 7 _ _ _ q
  simp only [List.getElem?_toArray, List.getElem?_cons_zero, List.getElem?_cons_succ] at d0 d1 d2 d3 d4 d5 d6 d7
  have fz := fun i => frozen_of_row _ _ i _ _ q
  clear q
  go_wp2
  refine ret_arr (c := #[.int .u32 z1, .int .u32 a, .int .u32 b, .int .u32 c, .int .u32 z2, .int .u32 e, .int .u32 f, .int .u32 g]) rfl rfl (by kernel_rfl) (heap_setCellM (heap_setCellM (heap_setCellM (heap_setCellM (heap_setCellM (heap_setCellM (heap_setCellM (heap_setCellM HR.out 0 _) 1 _) 2 _) 3 _) 4 _) 5 _) 6 _) 7 _) under48 size48 ?_
  refine ⟨?_, ?_⟩
  · rw [ET.out]; rfl
  · exact (((((((HB.out.setCell (by show _ ≤ _; simp) _).setCell (by show _ ≤ _; simp) _).setCell (by show _ ≤ _; simp) _).setCell (by show _ ≤ _; simp) _).setCell (by show _ ≤ _; simp) _).setCell (by show _ ≤ _; simp) _).setCell (by show _ ≤ _; simp) _).setCell (by show _ ≤ _; simp) _
end Go.Proofs.YtcjhimakbopipaaDoor
