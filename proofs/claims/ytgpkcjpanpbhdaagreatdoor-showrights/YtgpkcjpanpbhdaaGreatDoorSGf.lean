/- texts put together: SRead1 SRead2 SRead3 SRead4 SRead5 -/
import Derived.Test.YtgpkcjpanpbhdaaGreatDoorSGe
set_option maxRecDepth 100000
set_option maxHeartbeats 4000000
namespace Go.Proofs.YtgpkcjpanpbhdaaGreatDoor
open Go Go.RowKit
structure Tok where
 k : Int
 tx : List UInt8
 n : Int
 a : Int
def Tok.v (t : Tok) : Value := .agg #[.int .i64 t.k, strV t.tx, .int .i64 t.n, .int .i64 t.a]
def Tks (w : World) (tv : Value) (ts : List Tok) : Prop := ∃ b o c cur z, tv = .slice (some ⟨b, o, none⟩) ts.length c ∧ ts.length ≤ 100000 ∧ w.heap[b]? = some (.cells cur 75 z) ∧ ∀ (i : Nat) (t : Tok), ts[i]? = some t → cur[o + i * 4]? = some (.int .i64 t.k) ∧ cur[o + i * 4 + 1]? = some (strV t.tx) ∧ cur[o + i * 4 + 2]? = some (.int .i64 t.n) ∧ cur[o + i * 4 + 3]? = some (.int .i64 t.a)
def Psr (w : World) (p : Nat) (tv : Value) (i nest : Int) : Prop := w.heap[p]? = some (.cells #[tv, .int .i64 i, .int .i64 nest, .int .i64 0, .int .i64 0] 97 (0, 0))
theorem Tks.below {w w' : World} {tv : Value} {ts : List Tok} (h : Tks w tv ts) (hB : Below w.heap.size w w') : Tks w' tv ts := by
 obtain ⟨b, o, c, cur, z, e, hl, hb, r⟩ := h
 exact ⟨b, o, c, cur, z, e, hl, below_at hB hb (heap_lt hb), r⟩
theorem Tks.fr {w w' : World} {p : Nat} {tv tv' : Value} {i n : Int} {ts : List Tok} (h : Tks w tv ts) (hF : Fr [p] w w') (hp : Psr w p tv' i n) : Tks w' tv ts := by
 obtain ⟨b, o, c, cur, z, e, hl, hb, r⟩ := h
 refine ⟨b, o, c, cur, z, e, hl, hF.at hb (fun hm => ?_), r⟩
 rw [List.mem_singleton] at hm
 rw [hm, show w.heap[p]? = _ from hp] at hb
 cases hb
theorem Psr.below {w w' : World} {p : Nat} {tv : Value} {i n : Int} (h : Psr w p tv i n) (hB : Below w.heap.size w w') : Psr w' p tv i n := below_at hB h (heap_lt h)
theorem load_tok {w : World} {b o : Nat} {cur : Array Value} {z : Nat × Nat} {t : Tok} (hb : w.heap[b]? = some (.cells cur 75 z)) (h : cur[o]? = some (.int .i64 t.k) ∧ cur[o + 1]? = some (strV t.tx) ∧ cur[o + 2]? = some (.int .i64 t.n) ∧ cur[o + 3]? = some (.int .i64 t.a)) :
  (Instr.loadAt 75 (.pointer (some ⟨b, o, none⟩))).run Tryz.prog w = .ok t.v w :=
 loadAt_k Tryz.isAgg75 (by kernel_rfl) w b o cur _ z [.int .i64 t.k, strV t.tx, .int .i64 t.n, .int .i64 t.a] rfl hb (fun j v hj => by
  match j, hj with
  | 0, hj => cases hj; exact h.1
  | 1, hj => cases hj; exact h.2.1
  | 2, hj => cases hj; exact h.2.2.1
  | 3, hj => cases hj; exact h.2.2.2)
theorem idx_tok (b o n cap k : Nat) (h : k < n) (w : World) : (Instr.indexAt 47 (.slice (some ⟨b, o, none⟩) n cap) (.int .i64 k)).run Tryz.prog w = .ok (.pointer (some ⟨b, o + k * 4, none⟩)) w := by go_simp
theorem alg_Tok (w : World) : ∃ w1 g, (Instr.alloc 75 true (.tuple #[])).run Tryz.prog w = .ok (.pointer (some ⟨g, 0, none⟩)) w1 ∧ w1.heap[g]? = some (.cells #[.int .i64 0, strV [], .int .i64 0, .int .i64 0] 75 (0, 0)) ∧ Below w.heap.size w w1 ∧ w.heap.size ≤ g :=
 ⟨w.alloc (.cells #[.int .i64 0, strV [], .int .i64 0, .int .i64 0] 75), w.heap.size, by unfold strV; go_simp, heap_alloc_last w _, (Below.refl _ _).alloc (Nat.le_refl _) _, Nat.le_refl _⟩
theorem var_usanceref07_Token (w : World) (z0 : Int) (s1 : List UInt8) (z2 : Int) (z3 : Int) : ∃ w1 w2 g, (Instr.alloc 75 true (.tuple #[])).run Tryz.prog w = .ok (.pointer (some ⟨g, 0, none⟩)) w1 ∧ (Instr.storeAt 75 (.pointer (some ⟨g, 0, none⟩)) (.agg #[.int .i64 z0, strV s1, .int .i64 z2, .int .i64 z3])).run Tryz.prog w1 = .ok () w2 ∧ w2.heap[g]? = some (.cells #[.int .i64 z0, strV s1, .int .i64 z2, .int .i64 z3] 75 (0, 0)) ∧ Below w.heap.size w w2 ∧ w.heap.size ≤ g := by
 have h0 := heap_alloc_last w (.cells #[(.int .i64 0), (strV []), (.int .i64 0), (.int .i64 0)] 75)
 obtain ⟨w2, h1, h2, h3⟩ := st_x (T := 75) (c := #[(.int .i64 0), (strV []), (.int .i64 0), (.int .i64 0)]) (c' := #[.int .i64 z0, strV s1, .int .i64 z2, .int .i64 z3]) (by kernel_rfl) rfl rfl h0 (by intro v hv; simp at hv; rcases hv with rfl | rfl | rfl | rfl <;> rfl)
 refine ⟨w.alloc (.cells #[(.int .i64 0), (strV []), (.int .i64 0), (.int .i64 0)] 75), w2, w.heap.size, (by unfold strV; go_simp), h1, h2, ?_, Nat.le_refl _⟩
 have hb : Below w.heap.size w (w.alloc (.cells #[(.int .i64 0), (strV []), (.int .i64 0), (.int .i64 0)] 75)) := (Below.refl _ w).alloc (Nat.le_refl _) _
 exact hb.trans (h3.below hb.size (by simp))
theorem look_any {w : World} {p : Nat} {tv : Value} {ts : List Tok} {i : Nat} {nest : Int} {t : Tok} (hp : Psr w p tv i nest) (ht : Tks w tv ts) (hi : ts[i]? = some t) : Calls Tryz.prog 68 #[.pointer (some ⟨p, 0, none⟩)] w fun e w' => e = .returned t.v ∧ Below w.heap.size w w' := by
 obtain ⟨b, o, c, cur, z, rfl, hl, hb, hr⟩ := ht
 have hlt := (List.getElem?_eq_some_iff.1 hi).1
 obtain ⟨w1, g, hx, hk, hB, hge⟩ := alg_Tok w
 have hp1 := hp.below hB
 have hb1 := below_at hB hb (heap_lt hb)
 obtain ⟨w2, hs, hk2, hF2⟩ := st_x (T := 75) (c := #[.int .i64 0, strV [], .int .i64 0, .int .i64 0]) (c' := #[.int .i64 t.k, strV t.tx, .int .i64 t.n, .int .i64 t.a]) (w := w1.drew) (by kernel_rfl) rfl rfl hk (by intro v hv; simp at hv; rcases hv with rfl | rfl | rfl | rfl <;> rfl)
 have HX := hid hx
 have HL0 := hid (load1 (v := .slice (some ⟨b, o, none⟩) ts.length c) Tryz.isAgg47 (cell_at (w := w1.drew) hp1 0 rfl))
 have HL1 := hid (load1 (v := .int .i64 (i : Nat)) Tryz.isAgg3 (cell_at (w := w1.drew) hp1 1 rfl))
 have HLT := hid hlt
 have HLD := hid (load_tok (w := w1.drew) hb1 (hr i t hi))
 have HS := hid hs
 have HE : Hid ((Instr.loadAt 75 (.pointer (some ⟨g, 0, none⟩))).run Tryz.prog w2 = .ok t.v w2 ∧ Below w.heap.size w w2) := hid ⟨load_blk Tryz.isAgg75 (by kernel_rfl) rfl hk2, hB.trans ((Fr.undrew hF2).below hB.size (by simpa using hge))⟩
 clear hx hs hk hk2 hB hge hF2 hp1 hb1 hp hb hr hi hl hlt
 generalize ts.length = n at *
 go_enter Tryz.func68, Tryz.ntmps68
 go_upto_region 0 with fail
 refine rl ?_
 refine wp_run (v := (.pointer (some ⟨g, 0, none⟩))) rfl rfl (run_alOp rfl HX.out) rfl ?_
 try simp only [nA, nB, nC]
 refine we ?_
 go_upto_region 1 with fail
 refine z_open (S := fun x => x = w1.drew) 10 (by kernel_rfl) (by kernel_rfl) (fun _ _ _ _ _ h => h) (L := #[false, false, false, false, false, false, false, false, false, false, false]) (by kernel_rfl) ?_
 intro Q' hns hP hN
 have hS := (rfl : w1.drew = w1.drew)
 refine z_pure (i := 0) (v := .pointer (some ⟨p, 0, none⟩)) hns rfl rfl rfl (by kernel_rfl) (by kernel_rfl) hP (y_move rfl) (fun _ => hS) rfl (L' := #[true, false, false, false, false, false, false, false, false, false, false]) (by kernel_rfl) ?_
 refine z_pure (i := 1) (v := .pointer (some ⟨p, 0, none⟩)) hns rfl rfl rfl (by kernel_rfl) (by kernel_rfl) hP (y_nil rfl) (fun _ => hS) rfl (L' := #[true, true, false, false, false, false, false, false, false, false, false]) (by kernel_rfl) ?_
 refine z_pure (i := 2) (v := .pointer (some ⟨p, 0, none⟩)) hns rfl rfl rfl (by kernel_rfl) (by kernel_rfl) hP (y_faddr rfl (hf := fa_usanceref07_parser_0 p 0)) (fun _ => hS) rfl (L' := #[true, true, true, false, false, false, false, false, false, false, false]) (by kernel_rfl) ?_
 refine z_read (i := 3) (v := .slice (some ⟨b, o, none⟩) n c) hns rfl (by kernel_rfl) rfl rfl (by kernel_rfl) (by kernel_rfl) hP (y_load rfl (hl := fun w' h => by rw [h]; exact HL0.out)) rfl hS rfl (L' := #[true, true, true, true, false, false, false, false, false, false, false]) (by kernel_rfl) ?_
 refine z_pure (i := 4) (v := .pointer (some ⟨p, 0, none⟩)) hns rfl rfl rfl (by kernel_rfl) (by kernel_rfl) hP (y_move rfl) (fun _ => hS) rfl (L' := #[true, true, true, true, true, false, false, false, false, false, false]) (by kernel_rfl) ?_
 refine z_pure (i := 5) (v := .pointer (some ⟨p, 0, none⟩)) hns rfl rfl rfl (by kernel_rfl) (by kernel_rfl) hP (y_nil rfl) (fun _ => hS) rfl (L' := #[true, true, true, true, true, true, false, false, false, false, false]) (by kernel_rfl) ?_
 refine z_pure (i := 6) (v := .pointer (some ⟨p, 1, none⟩)) hns rfl rfl rfl (by kernel_rfl) (by kernel_rfl) hP (y_faddr rfl (hf := fa_usanceref07_parser_1 p 0)) (fun _ => hS) rfl (L' := #[true, true, true, true, true, true, true, false, false, false, false]) (by kernel_rfl) ?_
 try simp only [nA, nB, nC]
 refine z_read (i := 7) (v := .int .i64 (i : Nat)) hns rfl (by kernel_rfl) rfl rfl (by kernel_rfl) (by kernel_rfl) hP (y_load rfl (hl := fun w' h => by rw [h]; exact HL1.out)) rfl hS rfl (L' := #[true, true, true, true, true, true, true, true, false, false, false]) (by kernel_rfl) ?_
 refine z_pure (i := 8) (v := .pointer (some ⟨b, o + i * 4, none⟩)) hns rfl rfl rfl (by kernel_rfl) (by kernel_rfl) hP (y_index rfl (hr := idx_tok b o n c i HLT.out)) (fun _ => hS) rfl (L' := #[true, true, true, true, true, true, true, true, true, false, false]) (by kernel_rfl) ?_
 refine z_read (i := 9) (v := Tok.v t) hns rfl (by kernel_rfl) rfl rfl (by kernel_rfl) (by kernel_rfl) hP (y_load rfl (hl := fun w' h => by rw [h]; exact HLD.out)) rfl hS rfl (L' := #[true, true, true, true, true, true, true, true, true, true, false]) (by kernel_rfl) ?_
 refine z_last (by kernel_rfl) rfl rfl (by kernel_rfl) (run_storeOp rfl (by kernel_rfl) (by kernel_rfl) HS.out) rfl (L' := #[true, true, true, true, true, true, true, true, true, true, true]) (by kernel_rfl) ?_
 try simp only [nA, nB, nC]
 refine z_done (by kernel_rfl) ?_ _
 refine hN _ _ ?_
 clear hP hN hns
 go_wp2_with fail
 exact ret_cell rfl rfl rfl HE.out.1 ⟨rfl, HE.out.2⟩
theorem st1_x {T : TypeId} (hz : ∀ w, (Go.sizeOf T).run Tryz.prog w = .ok 1 w) {w : World} {g i : Nat} {c c' : Array Value} {t : TypeId} {old : Value} (v : Value) (hg : w.heap[g]? = some (.cells c t (0, 0))) (hi : c[i]? = some old) (h1 : v.oneCell' = true) (hv : v.cells = #[v]) (hc : c.setIfInBounds i v = c') : ∃ w1, (Instr.storeAt T (.pointer (some ⟨g, i, none⟩)) v).run Tryz.prog w = .ok () w1 ∧ w1.heap[g]? = some (.cells c' t (0, 0)) ∧ Fr [g] w w1 :=
 ⟨_, store1 hz v h1 hv (cell_at hg i hi) (open_at hg i), by rw [← hc]; exact heap_setCell hg i v, Fr.setCell w g i v⟩
theorem sz_int (w : World) : (Go.sizeOf 3).run Tryz.prog w = .ok 1 w := run_size (by kernel_rfl) w
theorem sz_int64 (w : World) : (Go.sizeOf 2).run Tryz.prog w = .ok 1 w := run_size (by kernel_rfl) w
theorem step_any {w : World} {p : Nat} {tv : Value} {ts : List Tok} {i : Nat} {nest : Int} {t : Tok} (hp : Psr w p tv i nest) (ht : Tks w tv ts) (hi : ts[i]? = some t) (hk : (t.k != 0) = true) : Calls Tryz.prog 106 #[.pointer (some ⟨p, 0, none⟩)] w fun e w' => e = .returned t.v ∧ Fr [p] w w' ∧ Psr w' p tv ((i + 1 : Nat) : Int) nest := by
 obtain ⟨b, o, c, cur, z, rfl, hl, hb, hr⟩ := ht
 have hlt := (List.getElem?_eq_some_iff.1 hi).1
 obtain ⟨w1, g, hx, hkk, hB, hge⟩ := alg_Tok w
 have hp1 := hp.below hB
 have hb1 := below_at hB hb (heap_lt hb)
 have h2 := alg_Tok w1.drew
 obtain ⟨w2, g2, hx2, hk2, hB2', hge2'⟩ := h2
 have hB2 : Below w1.heap.size w1 w2 := ⟨hB2'.os, hB2'.tape, hB2'.output, hB2'.size, hB2'.block⟩
 have hge2 : w1.heap.size ≤ g2 := hge2'
 obtain ⟨w3, hs3, hk3, hF3⟩ := st_x (T := 75) (c := #[.int .i64 0, strV [], .int .i64 0, .int .i64 0]) (c' := #[.int .i64 t.k, strV t.tx, .int .i64 t.n, .int .i64 t.a]) (by kernel_rfl) rfl rfl hk2 (by intro v hv; simp at hv; rcases hv with rfl | rfl | rfl | rfl <;> rfl)
 have hg2 : g ∉ [g2] := by have := heap_lt hkk; simp; omega
 have hp2 := hp1.below hB2
 have hpg : p ∉ [g2] := by have := heap_lt hp1; simp; omega
 have hp3 : Psr w3 p _ _ _ := hF3.at hp2 hpg
 obtain ⟨w4, hs4, hp4, hF4⟩ := st1_x sz_int (.int .i64 ((i + 1 : Nat) : Int)) hp3 (i := 1) (c' := #[.slice (some ⟨b, o, none⟩) ts.length c, .int .i64 ((i + 1 : Nat) : Int), .int .i64 nest, .int .i64 0, .int .i64 0]) rfl rfl rfl rfl
 have hgp : g ∉ [p] := fun hm => by
  rw [List.mem_singleton] at hm
  have h9 := heap_lt hp
  omega
 have hk4 : w4.heap[g2]? = some (.cells #[.int .i64 t.k, strV t.tx, .int .i64 t.n, .int .i64 t.a] 75 (0, 0)) := hF4.at hk3 (by have := heap_lt hp1; simp; omega)
 have hr4 : w4.heap[g]? = some (.cells #[.int .i64 0, strV [], .int .i64 0, .int .i64 0] 75 (0, 0)) := hF4.at (hF3.at (below_at hB2 hkk (heap_lt hkk)) hg2) hgp
 obtain ⟨w5, hs5, hk5, hF5⟩ := st_x (T := 75) (c := #[.int .i64 0, strV [], .int .i64 0, .int .i64 0]) (c' := #[.int .i64 t.k, strV t.tx, .int .i64 t.n, .int .i64 t.a]) (by kernel_rfl) rfl rfl hr4 (by intro v hv; simp at hv; rcases hv with rfl | rfl | rfl | rfl <;> rfl)
 have hend : Fr [p] w w5 := ((((Fr.of_below (X := [p]) hB).trans (Fr.of_below (X := []) hB2) (by simp)).trans hF3 (fun x hx => .inr (by have := hB.size; simp at hx; omega))).trans hF4 (fun x hx => .inl hx)).trans hF5 (fun x hx => .inr (by simp at hx; omega))
 have hpe : Psr w5 p (.slice (some ⟨b, o, none⟩) ts.length c) ((i + 1 : Nat) : Int) nest := hF5.at hp4 (by have := heap_lt hp; simp; omega)
 have HX := hid hx
 have HX2 := hid hx2
 have HS3 := hid hs3
 have HL0 : Hid (∀ x, Below w1.heap.size w1 x → (Instr.loadAt 47 (.pointer (some ⟨p, 0, none⟩))).run Tryz.prog x = .ok (.slice (some ⟨b, o, none⟩) ts.length c) x) := hid (fun x hx => load1 Tryz.isAgg47 (cell_at (hp1.below hx) 0 rfl))
 have HL1 : Hid (∀ x, Below w1.heap.size w1 x → (Instr.loadAt 3 (.pointer (some ⟨p, 1, none⟩))).run Tryz.prog x = .ok (.int .i64 (i : Nat)) x) := hid (fun x hx => load1 Tryz.isAgg3 (cell_at (hp1.below hx) 1 rfl))
 have HLD : Hid (∀ x, Below w1.heap.size w1 x → (Instr.loadAt 75 (.pointer (some ⟨b, o + i * 4, none⟩))).run Tryz.prog x = .ok t.v x) := hid (fun x hx => load_tok (below_at hx hb1 (heap_lt hb1)) (hr i t hi))
 have HLT := hid hlt
 have HB2 := hid hB2
 have HK3 := hid hk3
 have HP3 := hid hp3
 have HS4 := hid hs4
 have HK4 := hid hk4
 have HS5 := hid hs5
 have HKK := hid hk
 have HSM : Hid (IntKind.i64.wrap (((i : Nat) : Int) + 1) = ((i + 1 : Nat) : Int)) := hid (wrap_next hlt (by omega))
 have HE : Hid ((Instr.loadAt 75 (.pointer (some ⟨g, 0, none⟩))).run Tryz.prog w5 = .ok t.v w5 ∧ Fr [p] w w5 ∧ Psr w5 p (.slice (some ⟨b, o, none⟩) ts.length c) ((i + 1 : Nat) : Int) nest) := hid ⟨load_blk Tryz.isAgg75 (by kernel_rfl) rfl hk5, hend, hpe⟩
 clear hx hx2 hs3 hs4 hs5 hk3 hk4 hk5 hk2 hkk hr4 hB hB2 hB2' hge hge2 hge2' hF3 hF4 hF5 hp1 hp2 hp3 hp4 hb1 hp hb hr hi hl hlt hg2 hpg hgp hend hpe hk
 generalize ts.length = n at *
 go_enter Tryz.func106, Tryz.ntmps106
 go_upto_region 0 with fail
 refine rl ?_
 refine wp_run (v := (.pointer (some ⟨g, 0, none⟩))) rfl rfl (run_alOp rfl HX.out) rfl ?_
 try simp only [nA, nB, nC]
 refine we ?_
 go_upto_region 1 with fail
 refine z_open (S := fun x => Below w1.heap.size w1 x) 11 (by kernel_rfl) (by kernel_rfl) (fun _ _ _ _ _ h => h) (L := #[false, false, false, false, false, false, false, false, false, false, false, false]) (by kernel_rfl) ?_
 intro Q' hns hP hN
 have hS := (show Below w1.heap.size w1 w1.drew from ⟨rfl, rfl, rfl, Nat.le_refl _, fun _ _ => rfl⟩)
 refine z_pure (i := 0) (v := .pointer (some ⟨p, 0, none⟩)) hns rfl rfl rfl (by kernel_rfl) (by kernel_rfl) hP (y_move rfl) (fun _ => hS) rfl (L' := #[true, false, false, false, false, false, false, false, false, false, false, false]) (by kernel_rfl) ?_
 refine z_pure (i := 1) (v := .pointer (some ⟨p, 0, none⟩)) hns rfl rfl rfl (by kernel_rfl) (by kernel_rfl) hP (y_nil rfl) (fun _ => hS) rfl (L' := #[true, true, false, false, false, false, false, false, false, false, false, false]) (by kernel_rfl) ?_
 refine z_pure (i := 2) (v := .pointer (some ⟨p, 0, none⟩)) hns rfl rfl rfl (by kernel_rfl) (by kernel_rfl) hP (y_faddr rfl (hf := fa_usanceref07_parser_0 p 0)) (fun _ => hS) rfl (L' := #[true, true, true, false, false, false, false, false, false, false, false, false]) (by kernel_rfl) ?_
 refine z_read (i := 3) (v := .slice (some ⟨b, o, none⟩) n c) hns rfl (by kernel_rfl) rfl rfl (by kernel_rfl) (by kernel_rfl) hP (y_load rfl (hl := fun w' h => HL0.out w' h)) rfl hS rfl (L' := #[true, true, true, true, false, false, false, false, false, false, false, false]) (by kernel_rfl) ?_
 refine z_pure (i := 4) (v := .pointer (some ⟨p, 0, none⟩)) hns rfl rfl rfl (by kernel_rfl) (by kernel_rfl) hP (y_move rfl) (fun _ => hS) rfl (L' := #[true, true, true, true, true, false, false, false, false, false, false, false]) (by kernel_rfl) ?_
 refine z_pure (i := 5) (v := .pointer (some ⟨p, 0, none⟩)) hns rfl rfl rfl (by kernel_rfl) (by kernel_rfl) hP (y_nil rfl) (fun _ => hS) rfl (L' := #[true, true, true, true, true, true, false, false, false, false, false, false]) (by kernel_rfl) ?_
 refine z_pure (i := 6) (v := .pointer (some ⟨p, 1, none⟩)) hns rfl rfl rfl (by kernel_rfl) (by kernel_rfl) hP (y_faddr rfl (hf := fa_usanceref07_parser_1 p 0)) (fun _ => hS) rfl (L' := #[true, true, true, true, true, true, true, false, false, false, false, false]) (by kernel_rfl) ?_
 try simp only [nA, nB, nC]
 refine z_read (i := 7) (v := .int .i64 (i : Nat)) hns rfl (by kernel_rfl) rfl rfl (by kernel_rfl) (by kernel_rfl) hP (y_load rfl (hl := fun w' h => HL1.out w' h)) rfl hS rfl (L' := #[true, true, true, true, true, true, true, true, false, false, false, false]) (by kernel_rfl) ?_
 refine z_pure (i := 8) (v := .pointer (some ⟨b, o + i * 4, none⟩)) hns rfl rfl rfl (by kernel_rfl) (by kernel_rfl) hP (y_index rfl (hr := idx_tok b o n c i HLT.out)) (fun _ => hS) rfl (L' := #[true, true, true, true, true, true, true, true, true, false, false, false]) (by kernel_rfl) ?_
 refine z_read (i := 9) (v := Tok.v t) hns rfl (by kernel_rfl) rfl rfl (by kernel_rfl) (by kernel_rfl) hP (y_load rfl (hl := fun w' h => HLD.out w' h)) rfl hS rfl (L' := #[true, true, true, true, true, true, true, true, true, true, false, false]) (by kernel_rfl) ?_
 refine z_val (i := 10) (v := .pointer (some ⟨g2, 0, none⟩)) (by kernel_rfl) rfl rfl (by kernel_rfl) (run_alOp rfl HX2.out) HB2.out rfl (L' := #[true, true, true, true, true, true, true, true, true, true, true, false]) (by kernel_rfl) ?_
 refine z_last (by kernel_rfl) rfl rfl (by kernel_rfl) (run_storeOp rfl (by kernel_rfl) (by kernel_rfl) HS3.out) rfl (L' := #[true, true, true, true, true, true, true, true, true, true, true, true]) (by kernel_rfl) ?_
 try simp only [nA, nB, nC]
 refine z_done (by kernel_rfl) ?_ _
 refine hN _ _ ?_
 clear hP hN hns
 go_upto_region 2 with fail
 refine rl ?_
 refine qf (fa_usanceref07_Token_0 g2 0) ?_
 refine ql (.int .i64 (t.k)) Tryz.isAgg3 0 HK3 ?_
 refine qb (bneq_int t.k 0 true HKK.out) ?_
 simp only [nA, nB, nC]
 refine we ?_
 go_upto_region 3 with fail
 refine rl ?_
 refine qv (.pointer (some ⟨p, 0, none⟩)) ?_
 refine qv (.pointer (some ⟨p, 0, none⟩)) ?_
 refine qf (fa_usanceref07_parser_1 p 0) ?_
 refine ql (.int .i64 (((i : Nat) : Int))) Tryz.isAgg3 1 HP3 ?_
 simp only [nA, nB, nC]
 refine qb (badd_int ((i : Nat) : Int) 1 ((i + 1 : Nat) : Int) HSM.out) ?_
 refine qv (.pointer (some ⟨p, 0, none⟩)) ?_
 refine qf (fa_usanceref07_parser_1 p 0) ?_
 simp only [nA, nB, nC]
 refine wp_do rfl rfl (run_storeOp rfl (by kernel_rfl) (by kernel_rfl) HS4.out) ?_
 try simp only [nA, nB, nC]
 clear HK3
 refine we ?_
 go_upto_region 4 with fail
 refine rl ?_
 refine qk (Tok.v t) Tryz.isAgg75 HK4 ?_
 simp only [nA, nB, nC]
 refine wp_do rfl rfl (run_storeOp rfl (by kernel_rfl) (by kernel_rfl) HS5.out) ?_
 try simp only [nA, nB, nC]
 refine we ?_
 go_wp2_with fail
 exact ret_cell rfl rfl rfl HE.out.1 ⟨rfl, HE.out.2⟩
seal wpList in
theorem enter_any {w : World} {p : Nat} {tv : Value} {i nest : Int} (hp : Psr w p tv i nest) (h0 : 0 ≤ nest) (h1 : nest < 300) : Calls Tryz.prog 108 #[.pointer (some ⟨p, 0, none⟩)] w fun e w' => e = .returned (.tuple #[]) ∧ Fr [p] w w' ∧ Psr w' p tv i (nest + 1) := by
 obtain ⟨w4, hs4, hp4, hF4⟩ := st1_x sz_int (.int .i64 (nest + 1)) hp (i := 2) (c' := #[tv, .int .i64 i, .int .i64 (nest + 1), .int .i64 0, .int .i64 0]) rfl rfl rfl rfl
 have HP3 := hid hp
 have HS4 := hid hs4
 have HP4 : Hid (Psr w4 p tv i (nest + 1)) := hid hp4
 have HF4 := hid hF4
 have HSM : Hid (IntKind.i64.wrap (nest + 1) = (nest + 1)) := hid (IntWalk.i64_in _ ⟨by omega, by omega⟩)
 have HN : Hid (decide ((300 : Int) < (nest + 1)) = false) := hid (decide_eq_false (by omega))
 clear hs4 hp4 hF4 hp h0 h1
 go_enter Tryz.func108, Tryz.ntmps108
 go_upto_region 0 with fail
 refine rl ?_
 refine qv (.pointer (some ⟨p, 0, none⟩)) ?_
 refine qv (.pointer (some ⟨p, 0, none⟩)) ?_
 refine qf (fa_usanceref07_parser_2 p 0) ?_
 refine ql (.int .i64 nest) Tryz.isAgg3 2 HP3 ?_
 simp only [nA, nB, nC]
 refine qb (badd_int nest 1 (nest + 1) HSM.out) ?_
 refine qv (.pointer (some ⟨p, 0, none⟩)) ?_
 refine qf (fa_usanceref07_parser_2 p 0) ?_
 simp only [nA, nB, nC]
 refine wp_do rfl rfl (run_storeOp rfl (by kernel_rfl) (by kernel_rfl) HS4.out) ?_
 try simp only [nA, nB, nC]
 refine we ?_
 go_upto_region 1 with fail
 refine rl ?_
 refine qv (.pointer (some ⟨p, 0, none⟩)) ?_
 refine qv (.pointer (some ⟨p, 0, none⟩)) ?_
 refine qf (fa_usanceref07_parser_2 p 0) ?_
 refine ql (.int .i64 ((nest + 1))) Tryz.isAgg3 2 HP4 ?_
 simp only [nA, nB, nC]
 refine qb (bgtr_int (nest + 1) 300 false HN.out) ?_
 simp only [nA, nB, nC]
 refine we ?_
 go_wp2_with fail
 exact bodyPost_end (results_none rfl _ _ _) rfl ⟨rfl, HF4.out, HP4.out⟩
def Tok.is (t : Tok) (s : List UInt8) : Bool := (t.k == 2 || t.k == 8) && decide (t.tx = s)
seal wpList in
theorem is_any {w : World} {p : Nat} {tv : Value} {ts : List Tok} {i : Nat} {nest : Int} {t : Tok} (hp : Psr w p tv i nest) (ht : Tks w tv ts) (hi : ts[i]? = some t) (s : List UInt8) : Calls Tryz.prog 105 #[.pointer (some ⟨p, 0, none⟩), strV s] w fun e w' => e = .returned (.bool (t.is s)) ∧ Below w.heap.size w w' := by
 have HP := hid hp
 have HT := hid ht
 have HI := hid hi
 have HB0 := hid (Below.refl w.heap.size w)
 clear hp ht hi
 go_enter Tryz.func105, Tryz.ntmps105
 go_upto_region 0 with fail
 refine rl ?_
 refine qv (.bool false) ?_
 simp only [nA, nB, nC]
 refine we ?_
 go_upto_region 1 with fail
 refine rl ?_
 refine qv (.pointer (some ⟨p, 0, none⟩)) ?_
 simp only [nA, nB, nC]
 refine qc #[(.pointer (some ⟨p, 0, none⟩))] ?_
 have HCA := hid (look_any HP.out HT.out HI.out)
 refine HCA.out.mono ?_
 rintro e w1 ⟨rfl, (HB2 : Hid _)⟩
 refine ⟨_, rfl, ?_⟩
 replace HP := hid (HP.out.below HB2.out)
 replace HT := hid (HT.out.below HB2.out)
 replace HB0 := kb HB0 HB2
 try simp only [Act.put, nA, nB, nC]
 obtain ⟨wv, w5, g3, hx1, hx2, hbk, hbb, hge⟩ := var_usanceref07_Token w1 t.k t.tx t.n t.a
 have K4 := hid hbk
 have HBV := hid hbb
 have HX1 := hid hx1
 have HX2 := hid hx2
 have GV := hid hge
 clear hx1 hx2 hbk hbb hge
 refine wp_run (v := (.pointer (some ⟨g3, 0, none⟩))) rfl rfl (run_alOp rfl HX1.out) rfl ?_
 try simp only [nA, nB, nC]
 refine wp_do rfl rfl (run_storeOp rfl (by kernel_rfl) (by kernel_rfl) HX2.out) ?_
 try simp only [nA, nB, nC]
 clear HX1 HX2
 replace HP := hid (HP.out.below HBV.out)
 replace HT := hid (HT.out.below HBV.out)
 replace HB0 := kb HB0 HBV
 clear HBV GV
 refine we ?_
 go_upto_region 2 with fail
 refine rl ?_
 refine qf (fa_usanceref07_Token_0 g3 0) ?_
 refine ql (.int .i64 (t.k)) Tryz.isAgg3 0 K4 ?_
 simp only [nA, nB, nC]
 rcases bt ((t.k == (2 : Int))) with Hhb6 | Hhb6
 ·refine wp_y (v := (.bool true)) rfl rfl (y_bin (k := .i64) (k' := .i64) (m := t.k) (n := 2) rfl (hr := beql_int t.k 2 true Hhb6.out)) rfl ?_
  try simp only [nA, nB, nC]
  refine qv (.bool true) ?_
  simp only [nA, nB, nC]
  refine qs rfl ?_
  simp only [nA, nB, nC]
  refine qs rfl ?_
  simp only [nA, nB, nC]
  refine qs rfl ?_
  simp only [nA, nB, nC]
  refine qv (.bool true) ?_
  refine qv (.bool true) ?_
  simp only [nA, nB, nC]
  refine wp_yg (v := (.pointer (some ⟨g3, 1, none⟩))) rfl (y_faddr rfl (hf := fa_usanceref07_Token_1 g3 0)) rfl ?_
  try simp only [nA, nB, nC]
  refine wp_yg (v := (strV (t.tx))) rfl (y_load rfl (hl := fun w' h => by rw [h]; exact load1 Tryz.isAgg9 (cell_at K4.out 1 rfl))) rfl ?_
  try simp only [nA, nB, nC]
  refine qg (strV s) rfl ?_
  simp only [nA, nB, nC]
  rcases bt (decide (t.tx = s)) with Hhb7 | Hhb7
  ·refine wp_yg (v := (.bool true)) rfl (y_eqlS (l := t.tx) (m := s) rfl (by kernel_rfl) (by kernel_rfl) (by kernel_rfl) (Hhb7.out)) rfl ?_
   try simp only [nA, nB, nC]
   refine qv (.bool true) ?_
   refine qv (.bool true) ?_
   simp only [nA, nB, nC]
   refine we ?_
   go_wp2_with fail
   go_ret
   refine ⟨congrArg (fun b => Ending.returned (.bool b)) ?_, HB0.out⟩
   simp [Tok.is, Hhb6.out, Hhb7.out]
  ·refine wp_yg (v := (.bool false)) rfl (y_eqlS (l := t.tx) (m := s) rfl (by kernel_rfl) (by kernel_rfl) (by kernel_rfl) (Hhb7.out)) rfl ?_
   try simp only [nA, nB, nC]
   refine qv (.bool false) ?_
   refine qv (.bool false) ?_
   simp only [nA, nB, nC]
   refine we ?_
   go_wp2_with fail
   go_ret
   refine ⟨congrArg (fun b => Ending.returned (.bool b)) ?_, HB0.out⟩
   simp [Tok.is, Hhb6.out, Hhb7.out]
 ·refine wp_y (v := (.bool false)) rfl rfl (y_bin (k := .i64) (k' := .i64) (m := t.k) (n := 2) rfl (hr := beql_int t.k 2 false Hhb6.out)) rfl ?_
  try simp only [nA, nB, nC]
  refine qv (.bool false) ?_
  simp only [nA, nB, nC]
  refine wp_yg (v := (.pointer (some ⟨g3, 0, none⟩))) rfl (y_faddr rfl (hf := fa_usanceref07_Token_0 g3 0)) rfl ?_
  try simp only [nA, nB, nC]
  refine wp_yg (v := (.int .i64 (t.k))) rfl (y_load rfl (hl := fun w' h => by rw [h]; exact load1 Tryz.isAgg3 (cell_at K4.out 0 rfl))) rfl ?_
  try simp only [nA, nB, nC]
  rcases bt ((t.k == (8 : Int))) with Hhb8 | Hhb8
  ·refine wp_yg (v := (.bool true)) rfl (y_bin (k := .i64) (k' := .i64) (m := t.k) (n := 8) rfl (hr := beql_int t.k 8 true Hhb8.out)) rfl ?_
   try simp only [nA, nB, nC]
   refine qv (.bool true) ?_
   refine qv (.bool true) ?_
   simp only [nA, nB, nC]
   refine wp_yg (v := (.pointer (some ⟨g3, 1, none⟩))) rfl (y_faddr rfl (hf := fa_usanceref07_Token_1 g3 0)) rfl ?_
   try simp only [nA, nB, nC]
   refine wp_yg (v := (strV (t.tx))) rfl (y_load rfl (hl := fun w' h => by rw [h]; exact load1 Tryz.isAgg9 (cell_at K4.out 1 rfl))) rfl ?_
   try simp only [nA, nB, nC]
   refine qg (strV s) rfl ?_
   simp only [nA, nB, nC]
   rcases bt (decide (t.tx = s)) with Hhb9 | Hhb9
   ·refine wp_yg (v := (.bool true)) rfl (y_eqlS (l := t.tx) (m := s) rfl (by kernel_rfl) (by kernel_rfl) (by kernel_rfl) (Hhb9.out)) rfl ?_
    try simp only [nA, nB, nC]
    refine qv (.bool true) ?_
    refine qv (.bool true) ?_
    simp only [nA, nB, nC]
    refine we ?_
    go_wp2_with fail
    go_ret
    refine ⟨congrArg (fun b => Ending.returned (.bool b)) ?_, HB0.out⟩
    simp [Tok.is, Hhb6.out, Hhb8.out, Hhb9.out]
   ·refine wp_yg (v := (.bool false)) rfl (y_eqlS (l := t.tx) (m := s) rfl (by kernel_rfl) (by kernel_rfl) (by kernel_rfl) (Hhb9.out)) rfl ?_
    try simp only [nA, nB, nC]
    refine qv (.bool false) ?_
    refine qv (.bool false) ?_
    simp only [nA, nB, nC]
    refine we ?_
    go_wp2_with fail
    go_ret
    refine ⟨congrArg (fun b => Ending.returned (.bool b)) ?_, HB0.out⟩
    simp [Tok.is, Hhb6.out, Hhb8.out, Hhb9.out]
  ·refine wp_yg (v := (.bool false)) rfl (y_bin (k := .i64) (k' := .i64) (m := t.k) (n := 8) rfl (hr := beql_int t.k 8 false Hhb8.out)) rfl ?_
   try simp only [nA, nB, nC]
   refine qv (.bool false) ?_
   refine qv (.bool false) ?_
   simp only [nA, nB, nC]
   refine qs rfl ?_
   simp only [nA, nB, nC]
   refine qs rfl ?_
   simp only [nA, nB, nC]
   refine qs rfl ?_
   simp only [nA, nB, nC]
   refine qs rfl ?_
   simp only [nA, nB, nC]
   refine qv (.bool false) ?_
   refine qv (.bool false) ?_
   simp only [nA, nB, nC]
   refine we ?_
   go_wp2_with fail
   go_ret
   refine ⟨congrArg (fun b => Ending.returned (.bool b)) ?_, HB0.out⟩
   simp [Tok.is, Hhb6.out, Hhb8.out]
theorem bsg_Sstring_1 (w : World) (s0 : List UInt8) : ∃ w1 g, (Instr.buildSlice 70 1 #[(0, (strV s0))]).run Tryz.prog w = .ok (.slice (some ⟨g, 0, none⟩) 1 1) w1 ∧ w1.heap[g]? = some (.cells #[strV s0] 9 (0, 0)) ∧ Below w.heap.size w w1 ∧ w.heap.size ≤ g :=
 ⟨w.alloc (.cells #[strV s0] 9), w.heap.size, by unfold strV; go_simp, heap_alloc_last w _, (Below.refl _ _).alloc (Nat.le_refl _) _, Nat.le_refl _⟩
theorem bsg_Sstring_2 (w : World) (s0 : List UInt8) (s1 : List UInt8) : ∃ w1 g, (Instr.buildSlice 70 2 #[(0, (strV s0)), (1, (strV s1))]).run Tryz.prog w = .ok (.slice (some ⟨g, 0, none⟩) 2 2) w1 ∧ w1.heap[g]? = some (.cells #[strV s0, strV s1] 9 (0, 0)) ∧ Below w.heap.size w w1 ∧ w.heap.size ≤ g :=
 ⟨w.alloc (.cells #[strV s0, strV s1] 9), w.heap.size, by unfold strV; go_simp, heap_alloc_last w _, (Below.refl _ _).alloc (Nat.le_refl _) _, Nat.le_refl _⟩
theorem bsg_SSstring_4 (w : World) (a0 : Option Addr) (n0 c0 : Nat) (a1 : Option Addr) (n1 c1 : Nat) (a2 : Option Addr) (n2 c2 : Nat) (a3 : Option Addr) (n3 c3 : Nat) : ∃ w1 g, (Instr.buildSlice 167 4 #[(0, (.slice a0 n0 c0)), (1, (.slice a1 n1 c1)), (2, (.slice a2 n2 c2)), (3, (.slice a3 n3 c3))]).run Tryz.prog w = .ok (.slice (some ⟨g, 0, none⟩) 4 4) w1 ∧ w1.heap[g]? = some (.cells #[.slice a0 n0 c0, .slice a1 n1 c1, .slice a2 n2 c2, .slice a3 n3 c3] 70 (0, 0)) ∧ Below w.heap.size w w1 ∧ w.heap.size ≤ g :=
 ⟨w.alloc (.cells #[.slice a0 n0 c0, .slice a1 n1 c1, .slice a2 n2 c2, .slice a3 n3 c3] 70), w.heap.size, by go_simp, heap_alloc_last w _, (Below.refl _ _).alloc (Nat.le_refl _) _, Nat.le_refl _⟩
theorem alh_api_Node (w : World) : ∃ w1 g, (Instr.alloc 24 true (.tuple #[])).run Tryz.prog w = .ok (.pointer (some ⟨g, 0, none⟩)) w1 ∧ w1.heap[g]? = some (.cells #[(.int .i64 0), (strV []), (.int .i64 0), (.slice none 0 0), (.int .i64 0)] 24 (0, 0)) ∧ Below w.heap.size w w1 ∧ w.heap.size ≤ g :=
 ⟨w.alloc (.cells #[(.int .i64 0), (strV []), (.int .i64 0), (.slice none 0 0), (.int .i64 0)] 24), w.heap.size, by unfold strV; go_simp, heap_alloc_last w _, (Below.refl _ _).alloc (Nat.le_refl _) _, Nat.le_refl _⟩
theorem var_api_Node (w : World) (z0 : Int) (s1 : List UInt8) (z2 : Int) (a3 : Option Addr) (n3 c3 : Nat) (z4 : Int) : ∃ w1 w2 g, (Instr.alloc 24 true (.tuple #[])).run Tryz.prog w = .ok (.pointer (some ⟨g, 0, none⟩)) w1 ∧ (Instr.storeAt 24 (.pointer (some ⟨g, 0, none⟩)) (.agg #[.int .i64 z0, strV s1, .int .i64 z2, .slice a3 n3 c3, .int .i64 z4])).run Tryz.prog w1 = .ok () w2 ∧ w2.heap[g]? = some (.cells #[.int .i64 z0, strV s1, .int .i64 z2, .slice a3 n3 c3, .int .i64 z4] 24 (0, 0)) ∧ Below w.heap.size w w2 ∧ w.heap.size ≤ g := by
 have h0 := heap_alloc_last w (.cells #[(.int .i64 0), (strV []), (.int .i64 0), (.slice none 0 0), (.int .i64 0)] 24)
 obtain ⟨w2, h1, h2, h3⟩ := st_x (T := 24) (c := #[(.int .i64 0), (strV []), (.int .i64 0), (.slice none 0 0), (.int .i64 0)]) (c' := #[.int .i64 z0, strV s1, .int .i64 z2, .slice a3 n3 c3, .int .i64 z4]) (by kernel_rfl) rfl rfl h0 (by intro v hv; simp at hv; rcases hv with rfl | rfl | rfl | rfl | rfl <;> rfl)
 refine ⟨w.alloc (.cells #[(.int .i64 0), (strV []), (.int .i64 0), (.slice none 0 0), (.int .i64 0)] 24), w2, w.heap.size, (by unfold strV; go_simp), h1, h2, ?_, Nat.le_refl _⟩
 have hb : Below w.heap.size w (w.alloc (.cells #[(.int .i64 0), (strV []), (.int .i64 0), (.slice none 0 0), (.int .i64 0)] 24)) := (Below.refl _ w).alloc (Nat.le_refl _) _
 exact hb.trans (h3.below hb.size (by simp))
seal wpList in
theorem signs_0 (w : World) : Calls Tryz.prog 144 #[.int .i64 0] w fun e w' => ∃ g, e = .returned (.slice (some ⟨g, 0, none⟩) 1 1) ∧ w'.heap[g]? = some (.cells #[strV [111, 114]] 9 (0, 0)) ∧ Below w.heap.size w w' ∧ w.heap.size ≤ g := by
 have HB0 := hid (Below.refl w.heap.size w)
 go_enter Tryz.func144, Tryz.ntmps144
 go_upto_region 0 with fail
 refine rl ?_
 refine qv (.slice none 0 0) ?_
 simp only [nA, nB, nC]
 refine we ?_
 go_upto_region 1 with fail
 refine rl ?_
 obtain ⟨w3, g1, (HX : Hid _), (K2 : Hid _), (HB4 : Hid _), (GV : Hid _)⟩ := bsg_Sstring_1 w [111, 114]
 have GE_g1 := kh HB0 GV
 refine wp_run (v := (.slice (some ⟨g1, 0, none⟩) 1 1)) rfl rfl (run_bsOp rfl (by kernel_rfl) HX.out) rfl ?_
 try simp only [nA, nB, nC]
 replace HB0 := kb HB0 HB4
 obtain ⟨w7, g5, (HX : Hid _), (K6 : Hid _), (HB8 : Hid _), (GV : Hid _)⟩ := bsg_Sstring_1 w3 [97, 110, 100]
 have NE_g1_g5 := kn K2 GV
 have GE_g5 := kh HB0 GV
 refine wp_run (v := (.slice (some ⟨g5, 0, none⟩) 1 1)) rfl rfl (run_bsOp rfl (by kernel_rfl) HX.out) rfl ?_
 try simp only [nA, nB, nC]
 replace K2 := ka HB8 K2
 replace HB0 := kb HB0 HB8
 obtain ⟨w11, g9, (HX : Hid _), (K10 : Hid _), (HB12 : Hid _), (GV : Hid _)⟩ := bsg_Sstring_2 w7 [43] [45]
 have NE_g1_g9 := kn K2 GV
 have NE_g5_g9 := kn K6 GV
 have GE_g9 := kh HB0 GV
 refine wp_run (v := (.slice (some ⟨g9, 0, none⟩) 2 2)) rfl rfl (run_bsOp rfl (by kernel_rfl) HX.out) rfl ?_
 try simp only [nA, nB, nC]
 replace K2 := ka HB12 K2
 replace K6 := ka HB12 K6
 replace HB0 := kb HB0 HB12
 obtain ⟨w15, g13, (HX : Hid _), (K14 : Hid _), (HB16 : Hid _), (GV : Hid _)⟩ := bsg_Sstring_2 w11 [42] [47]
 have NE_g1_g13 := kn K2 GV
 have NE_g5_g13 := kn K6 GV
 have NE_g9_g13 := kn K10 GV
 have GE_g13 := kh HB0 GV
 refine wp_run (v := (.slice (some ⟨g13, 0, none⟩) 2 2)) rfl rfl (run_bsOp rfl (by kernel_rfl) HX.out) rfl ?_
 try simp only [nA, nB, nC]
 replace K2 := ka HB16 K2
 replace K6 := ka HB16 K6
 replace K10 := ka HB16 K10
 replace HB0 := kb HB0 HB16
 obtain ⟨w19, g17, (HX : Hid _), (K18 : Hid _), (HB20 : Hid _), (GV : Hid _)⟩ := bsg_SSstring_4 w15 (some ⟨g1, 0, none⟩) 1 1 (some ⟨g5, 0, none⟩) 1 1 (some ⟨g9, 0, none⟩) 2 2 (some ⟨g13, 0, none⟩) 2 2
 have NE_g1_g17 := kn K2 GV
 have NE_g5_g17 := kn K6 GV
 have NE_g9_g17 := kn K10 GV
 have NE_g13_g17 := kn K14 GV
 have GE_g17 := kh HB0 GV
 refine wp_run (v := (.slice (some ⟨g17, 0, none⟩) 4 4)) rfl rfl (run_bsOp rfl (by kernel_rfl) HX.out) rfl ?_
 try simp only [nA, nB, nC]
 replace K2 := ka HB20 K2
 replace K6 := ka HB20 K6
 replace K10 := ka HB20 K10
 replace K14 := ka HB20 K14
 replace HB0 := kb HB0 HB20
 refine qv (.int .i64 0) ?_
 simp only [nA, nB, nC]
 refine wp_y (v := (.pointer (some ⟨g17, 0, none⟩))) rfl rfl (y_index (p := (.slice (some ⟨g17, 0, none⟩) 4 4)) (k := (.int .i64 0)) rfl (by kernel_rfl) (by kernel_rfl) (by kernel_rfl) (fun w => by kernel_rfl)) rfl ?_
 simp only [nA, nB, nC]
 refine ql (.slice (some ⟨g1, 0, none⟩) 1 1) Tryz.isAgg70 0 K18 ?_
 refine qv (.slice (some ⟨g1, 0, none⟩) 1 1) ?_
 simp only [nA, nB, nC]
 refine we ?_
 go_wp2_with fail
 go_ret
 exact ⟨g1, rfl, K2.out, HB0.out, GE_g1.out⟩
seal wpList in
theorem signs_1 (w : World) : Calls Tryz.prog 144 #[.int .i64 1] w fun e w' => ∃ g, e = .returned (.slice (some ⟨g, 0, none⟩) 1 1) ∧ w'.heap[g]? = some (.cells #[strV [97, 110, 100]] 9 (0, 0)) ∧ Below w.heap.size w w' ∧ w.heap.size ≤ g := by
 have HB0 := hid (Below.refl w.heap.size w)
 go_enter Tryz.func144, Tryz.ntmps144
 go_upto_region 0 with fail
 refine rl ?_
 refine qv (.slice none 0 0) ?_
 simp only [nA, nB, nC]
 refine we ?_
 go_upto_region 1 with fail
 refine rl ?_
 obtain ⟨w3, g1, (HX : Hid _), (K2 : Hid _), (HB4 : Hid _), (GV : Hid _)⟩ := bsg_Sstring_1 w [111, 114]
 have GE_g1 := kh HB0 GV
 refine wp_run (v := (.slice (some ⟨g1, 0, none⟩) 1 1)) rfl rfl (run_bsOp rfl (by kernel_rfl) HX.out) rfl ?_
 try simp only [nA, nB, nC]
 replace HB0 := kb HB0 HB4
 obtain ⟨w7, g5, (HX : Hid _), (K6 : Hid _), (HB8 : Hid _), (GV : Hid _)⟩ := bsg_Sstring_1 w3 [97, 110, 100]
 have NE_g1_g5 := kn K2 GV
 have GE_g5 := kh HB0 GV
 refine wp_run (v := (.slice (some ⟨g5, 0, none⟩) 1 1)) rfl rfl (run_bsOp rfl (by kernel_rfl) HX.out) rfl ?_
 try simp only [nA, nB, nC]
 replace K2 := ka HB8 K2
 replace HB0 := kb HB0 HB8
 obtain ⟨w11, g9, (HX : Hid _), (K10 : Hid _), (HB12 : Hid _), (GV : Hid _)⟩ := bsg_Sstring_2 w7 [43] [45]
 have NE_g1_g9 := kn K2 GV
 have NE_g5_g9 := kn K6 GV
 have GE_g9 := kh HB0 GV
 refine wp_run (v := (.slice (some ⟨g9, 0, none⟩) 2 2)) rfl rfl (run_bsOp rfl (by kernel_rfl) HX.out) rfl ?_
 try simp only [nA, nB, nC]
 replace K2 := ka HB12 K2
 replace K6 := ka HB12 K6
 replace HB0 := kb HB0 HB12
 obtain ⟨w15, g13, (HX : Hid _), (K14 : Hid _), (HB16 : Hid _), (GV : Hid _)⟩ := bsg_Sstring_2 w11 [42] [47]
 have NE_g1_g13 := kn K2 GV
 have NE_g5_g13 := kn K6 GV
 have NE_g9_g13 := kn K10 GV
 have GE_g13 := kh HB0 GV
 refine wp_run (v := (.slice (some ⟨g13, 0, none⟩) 2 2)) rfl rfl (run_bsOp rfl (by kernel_rfl) HX.out) rfl ?_
 try simp only [nA, nB, nC]
 replace K2 := ka HB16 K2
 replace K6 := ka HB16 K6
 replace K10 := ka HB16 K10
 replace HB0 := kb HB0 HB16
 obtain ⟨w19, g17, (HX : Hid _), (K18 : Hid _), (HB20 : Hid _), (GV : Hid _)⟩ := bsg_SSstring_4 w15 (some ⟨g1, 0, none⟩) 1 1 (some ⟨g5, 0, none⟩) 1 1 (some ⟨g9, 0, none⟩) 2 2 (some ⟨g13, 0, none⟩) 2 2
 have NE_g1_g17 := kn K2 GV
 have NE_g5_g17 := kn K6 GV
 have NE_g9_g17 := kn K10 GV
 have NE_g13_g17 := kn K14 GV
 have GE_g17 := kh HB0 GV
 refine wp_run (v := (.slice (some ⟨g17, 0, none⟩) 4 4)) rfl rfl (run_bsOp rfl (by kernel_rfl) HX.out) rfl ?_
 try simp only [nA, nB, nC]
 replace K2 := ka HB20 K2
 replace K6 := ka HB20 K6
 replace K10 := ka HB20 K10
 replace K14 := ka HB20 K14
 replace HB0 := kb HB0 HB20
 refine qv (.int .i64 1) ?_
 simp only [nA, nB, nC]
 refine wp_y (v := (.pointer (some ⟨g17, 1, none⟩))) rfl rfl (y_index (p := (.slice (some ⟨g17, 0, none⟩) 4 4)) (k := (.int .i64 1)) rfl (by kernel_rfl) (by kernel_rfl) (by kernel_rfl) (fun w => by kernel_rfl)) rfl ?_
 simp only [nA, nB, nC]
 refine ql (.slice (some ⟨g5, 0, none⟩) 1 1) Tryz.isAgg70 1 K18 ?_
 refine qv (.slice (some ⟨g5, 0, none⟩) 1 1) ?_
 simp only [nA, nB, nC]
 refine we ?_
 go_wp2_with fail
 go_ret
 exact ⟨g5, rfl, K6.out, HB0.out, GE_g5.out⟩
seal wpList in
theorem signs_2 (w : World) : Calls Tryz.prog 144 #[.int .i64 2] w fun e w' => ∃ g, e = .returned (.slice (some ⟨g, 0, none⟩) 2 2) ∧ w'.heap[g]? = some (.cells #[strV [43], strV [45]] 9 (0, 0)) ∧ Below w.heap.size w w' ∧ w.heap.size ≤ g := by
 have HB0 := hid (Below.refl w.heap.size w)
 go_enter Tryz.func144, Tryz.ntmps144
 go_upto_region 0 with fail
 refine rl ?_
 refine qv (.slice none 0 0) ?_
 simp only [nA, nB, nC]
 refine we ?_
 go_upto_region 1 with fail
 refine rl ?_
 obtain ⟨w3, g1, (HX : Hid _), (K2 : Hid _), (HB4 : Hid _), (GV : Hid _)⟩ := bsg_Sstring_1 w [111, 114]
 have GE_g1 := kh HB0 GV
 refine wp_run (v := (.slice (some ⟨g1, 0, none⟩) 1 1)) rfl rfl (run_bsOp rfl (by kernel_rfl) HX.out) rfl ?_
 try simp only [nA, nB, nC]
 replace HB0 := kb HB0 HB4
 obtain ⟨w7, g5, (HX : Hid _), (K6 : Hid _), (HB8 : Hid _), (GV : Hid _)⟩ := bsg_Sstring_1 w3 [97, 110, 100]
 have NE_g1_g5 := kn K2 GV
 have GE_g5 := kh HB0 GV
 refine wp_run (v := (.slice (some ⟨g5, 0, none⟩) 1 1)) rfl rfl (run_bsOp rfl (by kernel_rfl) HX.out) rfl ?_
 try simp only [nA, nB, nC]
 replace K2 := ka HB8 K2
 replace HB0 := kb HB0 HB8
 obtain ⟨w11, g9, (HX : Hid _), (K10 : Hid _), (HB12 : Hid _), (GV : Hid _)⟩ := bsg_Sstring_2 w7 [43] [45]
 have NE_g1_g9 := kn K2 GV
 have NE_g5_g9 := kn K6 GV
 have GE_g9 := kh HB0 GV
 refine wp_run (v := (.slice (some ⟨g9, 0, none⟩) 2 2)) rfl rfl (run_bsOp rfl (by kernel_rfl) HX.out) rfl ?_
 try simp only [nA, nB, nC]
 replace K2 := ka HB12 K2
 replace K6 := ka HB12 K6
 replace HB0 := kb HB0 HB12
 obtain ⟨w15, g13, (HX : Hid _), (K14 : Hid _), (HB16 : Hid _), (GV : Hid _)⟩ := bsg_Sstring_2 w11 [42] [47]
 have NE_g1_g13 := kn K2 GV
 have NE_g5_g13 := kn K6 GV
 have NE_g9_g13 := kn K10 GV
 have GE_g13 := kh HB0 GV
 refine wp_run (v := (.slice (some ⟨g13, 0, none⟩) 2 2)) rfl rfl (run_bsOp rfl (by kernel_rfl) HX.out) rfl ?_
 try simp only [nA, nB, nC]
 replace K2 := ka HB16 K2
 replace K6 := ka HB16 K6
 replace K10 := ka HB16 K10
 replace HB0 := kb HB0 HB16
 obtain ⟨w19, g17, (HX : Hid _), (K18 : Hid _), (HB20 : Hid _), (GV : Hid _)⟩ := bsg_SSstring_4 w15 (some ⟨g1, 0, none⟩) 1 1 (some ⟨g5, 0, none⟩) 1 1 (some ⟨g9, 0, none⟩) 2 2 (some ⟨g13, 0, none⟩) 2 2
 have NE_g1_g17 := kn K2 GV
 have NE_g5_g17 := kn K6 GV
 have NE_g9_g17 := kn K10 GV
 have NE_g13_g17 := kn K14 GV
 have GE_g17 := kh HB0 GV
 refine wp_run (v := (.slice (some ⟨g17, 0, none⟩) 4 4)) rfl rfl (run_bsOp rfl (by kernel_rfl) HX.out) rfl ?_
 try simp only [nA, nB, nC]
 replace K2 := ka HB20 K2
 replace K6 := ka HB20 K6
 replace K10 := ka HB20 K10
 replace K14 := ka HB20 K14
 replace HB0 := kb HB0 HB20
 refine qv (.int .i64 2) ?_
 simp only [nA, nB, nC]
 refine wp_y (v := (.pointer (some ⟨g17, 2, none⟩))) rfl rfl (y_index (p := (.slice (some ⟨g17, 0, none⟩) 4 4)) (k := (.int .i64 2)) rfl (by kernel_rfl) (by kernel_rfl) (by kernel_rfl) (fun w => by kernel_rfl)) rfl ?_
 simp only [nA, nB, nC]
 refine ql (.slice (some ⟨g9, 0, none⟩) 2 2) Tryz.isAgg70 2 K18 ?_
 refine qv (.slice (some ⟨g9, 0, none⟩) 2 2) ?_
 simp only [nA, nB, nC]
 refine we ?_
 go_wp2_with fail
 go_ret
 exact ⟨g9, rfl, K10.out, HB0.out, GE_g9.out⟩
seal wpList in
theorem signs_3 (w : World) : Calls Tryz.prog 144 #[.int .i64 3] w fun e w' => ∃ g, e = .returned (.slice (some ⟨g, 0, none⟩) 2 2) ∧ w'.heap[g]? = some (.cells #[strV [42], strV [47]] 9 (0, 0)) ∧ Below w.heap.size w w' ∧ w.heap.size ≤ g := by
 have HB0 := hid (Below.refl w.heap.size w)
 go_enter Tryz.func144, Tryz.ntmps144
 go_upto_region 0 with fail
 refine rl ?_
 refine qv (.slice none 0 0) ?_
 simp only [nA, nB, nC]
 refine we ?_
 go_upto_region 1 with fail
 refine rl ?_
 obtain ⟨w3, g1, (HX : Hid _), (K2 : Hid _), (HB4 : Hid _), (GV : Hid _)⟩ := bsg_Sstring_1 w [111, 114]
 have GE_g1 := kh HB0 GV
 refine wp_run (v := (.slice (some ⟨g1, 0, none⟩) 1 1)) rfl rfl (run_bsOp rfl (by kernel_rfl) HX.out) rfl ?_
 try simp only [nA, nB, nC]
 replace HB0 := kb HB0 HB4
 obtain ⟨w7, g5, (HX : Hid _), (K6 : Hid _), (HB8 : Hid _), (GV : Hid _)⟩ := bsg_Sstring_1 w3 [97, 110, 100]
 have NE_g1_g5 := kn K2 GV
 have GE_g5 := kh HB0 GV
 refine wp_run (v := (.slice (some ⟨g5, 0, none⟩) 1 1)) rfl rfl (run_bsOp rfl (by kernel_rfl) HX.out) rfl ?_
 try simp only [nA, nB, nC]
 replace K2 := ka HB8 K2
 replace HB0 := kb HB0 HB8
 obtain ⟨w11, g9, (HX : Hid _), (K10 : Hid _), (HB12 : Hid _), (GV : Hid _)⟩ := bsg_Sstring_2 w7 [43] [45]
 have NE_g1_g9 := kn K2 GV
 have NE_g5_g9 := kn K6 GV
 have GE_g9 := kh HB0 GV
 refine wp_run (v := (.slice (some ⟨g9, 0, none⟩) 2 2)) rfl rfl (run_bsOp rfl (by kernel_rfl) HX.out) rfl ?_
 try simp only [nA, nB, nC]
 replace K2 := ka HB12 K2
 replace K6 := ka HB12 K6
 replace HB0 := kb HB0 HB12
 obtain ⟨w15, g13, (HX : Hid _), (K14 : Hid _), (HB16 : Hid _), (GV : Hid _)⟩ := bsg_Sstring_2 w11 [42] [47]
 have NE_g1_g13 := kn K2 GV
 have NE_g5_g13 := kn K6 GV
 have NE_g9_g13 := kn K10 GV
 have GE_g13 := kh HB0 GV
 refine wp_run (v := (.slice (some ⟨g13, 0, none⟩) 2 2)) rfl rfl (run_bsOp rfl (by kernel_rfl) HX.out) rfl ?_
 try simp only [nA, nB, nC]
 replace K2 := ka HB16 K2
 replace K6 := ka HB16 K6
 replace K10 := ka HB16 K10
 replace HB0 := kb HB0 HB16
 obtain ⟨w19, g17, (HX : Hid _), (K18 : Hid _), (HB20 : Hid _), (GV : Hid _)⟩ := bsg_SSstring_4 w15 (some ⟨g1, 0, none⟩) 1 1 (some ⟨g5, 0, none⟩) 1 1 (some ⟨g9, 0, none⟩) 2 2 (some ⟨g13, 0, none⟩) 2 2
 have NE_g1_g17 := kn K2 GV
 have NE_g5_g17 := kn K6 GV
 have NE_g9_g17 := kn K10 GV
 have NE_g13_g17 := kn K14 GV
 have GE_g17 := kh HB0 GV
 refine wp_run (v := (.slice (some ⟨g17, 0, none⟩) 4 4)) rfl rfl (run_bsOp rfl (by kernel_rfl) HX.out) rfl ?_
 try simp only [nA, nB, nC]
 replace K2 := ka HB20 K2
 replace K6 := ka HB20 K6
 replace K10 := ka HB20 K10
 replace K14 := ka HB20 K14
 replace HB0 := kb HB0 HB20
 refine qv (.int .i64 3) ?_
 simp only [nA, nB, nC]
 refine wp_y (v := (.pointer (some ⟨g17, 3, none⟩))) rfl rfl (y_index (p := (.slice (some ⟨g17, 0, none⟩) 4 4)) (k := (.int .i64 3)) rfl (by kernel_rfl) (by kernel_rfl) (by kernel_rfl) (fun w => by kernel_rfl)) rfl ?_
 simp only [nA, nB, nC]
 refine ql (.slice (some ⟨g13, 0, none⟩) 2 2) Tryz.isAgg70 3 K18 ?_
 refine qv (.slice (some ⟨g13, 0, none⟩) 2 2) ?_
 simp only [nA, nB, nC]
 refine we ?_
 go_wp2_with fail
 go_ret
 exact ⟨g13, rfl, K14.out, HB0.out, GE_g13.out⟩
mutual
def dep : Tr → Int
 | .mk _ _ _ ks _ => dps ks 0 + 1
def dps : List Tr → Int → Int
 | [], d => d
 | t :: r, d => dps r (max d (dep t))
end
theorem dps_snoc : ∀ (ks : List Tr) (t : Tr) (d : Int), dps (ks ++ [t]) d = max (dps ks d) (dep t)
 | [], t, d => by simp [dps]
 | s :: r, t, d => by rw [List.cons_append, dps, dps, dps_snoc r t]
theorem dps_ge : ∀ (ks : List Tr) (d : Int), d ≤ dps ks d
 | [], d => by rw [dps]; exact Int.le_refl _
 | s :: r, d => by rw [dps]; exact Int.le_trans (Int.le_max_left _ _) (dps_ge r _)
theorem dps_mono : ∀ (ks : List Tr) (j : Nat) (d : Int), dps (ks.take j) d ≤ dps ks d
 | [], j, d => by simp [dps]
 | s :: r, 0, d => by simp only [List.take_zero]; rw [dps]; exact dps_ge _ _
 | s :: r, j + 1, d => by rw [List.take_succ_cons, dps, dps]; exact dps_mono r j _
theorem dep_mem : ∀ (ks : List Tr) (j : Nat) (t : Tr) (d : Int), ks[j]? = some t → dep t ≤ dps ks d
 | [], j, t, d, h => by simp at h
 | s :: r, 0, t, d, h => by simp at h; subst h; rw [dps]; exact Int.le_trans (Int.le_max_right _ _) (dps_ge r _)
 | s :: r, j + 1, t, d, h => by rw [dps]; exact dep_mem r j t _ (by simpa using h)
theorem max_run (a b : Int) (ty : TypeId) (w : World) : (Builtin.max_ #[3, 3] ty #[.int .i64 a, .int .i64 b]).run Tryz.prog w = .ok (.int .i64 (max a b)) w := by
 go_simp
theorem y_max {ops : Array Oper} {S : World → Prop} {o : Oper} {a : Act} {x y : Operand} {m n : Int} (hop : o.op = .call { callee := .builtin .max, args := #[x, y], argTypes := #[3, 3] }) (hw : Region.wanted o (yielded ops a.tmps) = true) (hx : a.eval x = .int .i64 m) (hy : a.eval y = .int .i64 n) : YieldsIf Tryz.prog ops S o (.int .i64 (max m n)) a :=
 .inl ⟨hw, fun w _ => by
  have h1 := max_run m n o.type w
  unfold execOp
  simp only [hop, resolve, invoke, builtin, Sem.run_bind, Sem.run_pure, Result.andThen_ok, List.map_toArray, List.map_cons, List.map_nil, hx, hy, h1]⟩
def DpP (t : Tr) : Prop := dep t ≤ 1000 → ∀ (w : World) (v : Value), Nd w v t → Calls Tryz.prog 145 #[v] w fun e w' => e = .returned (.int .i64 (dep t)) ∧ Below w.heap.size w w'
seal wpList in
theorem depth_step {k : Int} {tx : List UInt8} {n : Int} {kids : List Tr} {at_ : Int} (ih : ∀ t ∈ kids, DpP t) (hd : dep (.mk k tx n kids at_) ≤ 1000) {w : World} {v : Value} (h : Nd w v (.mk k tx n kids at_)) : Calls Tryz.prog 145 #[v] w fun e w' => e = .returned (.int .i64 (dep (.mk k tx n kids at_))) ∧ Below w.heap.size w w' := by
 obtain ⟨a, c, rfl, hl, -⟩ := h.open
 have HN := hid h
 have HN0 := hid h
 have HIH := hid ih
 have HD : Hid (dps kids 0 + 1 ≤ 1000) := hid (by rw [dep] at hd; exact hd)
 obtain ⟨N, hN⟩ : ∃ N, kids.length = N := ⟨_, rfl⟩
 rw [hN] at HN HN0 hl ⊢
 have HNN := hid hN
 have HSM : Hid (N ≤ 9223372036854775807) := hid (Nat.le_trans hl.1 hl.2)
 have HB0 := hid (Below.refl w.heap.size w)
 clear h ih hd hl hN
 go_enter Tryz.func145, Tryz.ntmps145
 go_upto_region 0 with fail
 refine rl ?_
 obtain ⟨w3, g1, (HX : Hid _), (K2 : Hid _), (HB4 : Hid _)⟩ := box_x 24 w #[(.int .i64 k), (strV tx), (.int .i64 n), (.slice a N c), (.int .i64 at_)]
 refine wp_run (v := (.pointer (some ⟨g1, 0, none⟩))) rfl rfl (run_boxOp rfl (by kernel_rfl) HX.out) rfl ?_
 try simp only [nA, nB, nC]
 replace HN := hid (HN.out.later HB4.out)
 replace HB0 := kb HB0 HB4
 refine qv (.int .i64 0) ?_
 simp only [nA, nB, nC]
 refine we ?_
 go_upto_region 1 with fail
 refine rl ?_
 refine qv (.int .i64 0) ?_
 simp only [nA, nB, nC]
 refine we ?_
 go_upto_region 2 with fail
 refine rl ?_
 refine qv (.int .i64 0) ?_
 simp only [nA, nB, nC]
 refine we ?_
 go_wp2_with fail
 go_loopw [4, 3] (fun v4 v3 wr => ∃ j : Nat, j ≤ N ∧ v4 = .int .i64 j ∧ v3 = .int .i64 (dps (kids.take j) 0) ∧ Below w.heap.size w wr ∧ wr.heap[g1]? = some (.cells #[.int .i64 k, strV tx, .int .i64 n, .slice a N c, .int .i64 at_] 24 (0, 0))) (fun v4 _ _ => N - (intOf v4).toNat)
 case atStart =>
  exact ⟨0, Nat.zero_le _, rfl, by simp [dps], HB0.out, K2.out⟩
 case round =>
  obtain ⟨j, hj, rfl, rfl, hB, hk⟩ := hrel
  clear HB0 HN
  have HB0 := hid hB
  have HN := hid (HN0.out.later hB)
  have KN := hid hk
  have HJJ := hid hj
  clear hB hk hj
  go_upto_region 3 with fail
  refine rl ?_
  refine qv (.int .i64 (((j : Nat) : Int))) ?_
  refine qf (fa_api_Node_3 g1 0) ?_
  refine ql (.slice a N c) Tryz.isAgg22 3 KN ?_
  simp only [nA, nB, nC]
  refine wp_y (v := (.int .i64 (((N : Nat) : Int)))) rfl rfl (y_lenT len_Sapi_Node (p := a) (n := N) (c := c) rfl (by kernel_rfl) (by kernel_rfl)) rfl ?_
  simp only [nA, nB, nC]
  rcases bt (decide (((j : Nat) : Int) < ((N : Nat) : Int))) with Hhb5 | Hhb5
  ·have hlt : j < N := by have := of_decide_eq_true Hhb5.out; omega
   obtain ⟨t, ht⟩ : ∃ t, kids[j]? = some t := ⟨_, List.getElem?_eq_getElem (by rw [HNN.out]; exact hlt)⟩
   obtain ⟨b, o, k', tx', n', ks', at', a', c', rfl, rfl, hcl, hnd⟩ := Nd.kid HN.out ht
   have HJ := hid ht
   have HLT := hid hlt
   have HCL := hid (load24 hcl)
   have HDK := hid (HIH.out _ (List.mem_of_getElem? ht) (by have h1 := dep_mem kids j _ 0 ht; have h2 := HD.out; omega) wr _ hnd)
   have HS1 := hid (wrap_next (N := N) hlt (by have := HSM.out; omega))
   obtain ⟨N', hN'⟩ : ∃ x, ks'.length = x := ⟨_, rfl⟩
   rw [hN'] at HCL HDK
   clear hlt ht hcl hnd hN'
   refine qb (blss_int ((j : Nat) : Int) ((N : Nat) : Int) true Hhb5.out) ?_
   simp only [nA, nB, nC]
   refine we ?_
   go_upto_region 5 with fail
   refine rl ?_
   refine qv (.int .i64 ((dps (kids.take j) 0))) ?_
   refine qf (fa_api_Node_3 g1 0) ?_
   refine ql (.slice (some ⟨b, o, none⟩) N c) Tryz.isAgg22 3 KN ?_
   refine qv (.int .i64 (((j : Nat) : Int))) ?_
   simp only [nA, nB, nC]
   refine wp_y (v := (.pointer (some ⟨b, o + j * 5, none⟩))) rfl rfl (y_index (p := (.slice (some ⟨b, o, none⟩) N c)) (k := (.int .i64 (((j : Nat) : Int)))) rfl (by kernel_rfl) (by kernel_rfl) (by kernel_rfl) (idx24 b o N c j HLT.out)) rfl ?_
   simp only [nA, nB, nC]
   refine wp_y (v := (nv k' tx' n' (.slice a' N' c') at')) rfl rfl (y_load rfl (hl := fun w' h => by rw [h]; exact HCL.out)) rfl ?_
   simp only [nA, nB, nC]
   refine qc #[(nv k' tx' n' (.slice a' N' c') at')] ?_
   refine HDK.out.mono ?_
   rintro e w6 ⟨rfl, (HB7 : Hid _)⟩
   refine ⟨_, rfl, ?_⟩
   replace KN := ka HB7 KN
   replace HN := hid (HN.out.later HB7.out)
   replace HB0 := kb HB0 HB7
   try simp only [Act.put, nA, nB, nC]
   refine wp_y (v := (.int .i64 ((max (dps (kids.take j) 0) (dep (.mk k' tx' n' ks' at')))))) rfl rfl (y_max rfl (by kernel_rfl) (by kernel_rfl) (by kernel_rfl)) rfl ?_
   simp only [nA, nB, nC]
   refine qv (.int .i64 ((max (dps (kids.take j) 0) (dep (.mk k' tx' n' ks' at'))))) ?_
   simp only [nA, nB, nC]
   refine we ?_
   go_upto_region 4 with fail
   refine rl ?_
   refine qv (.int .i64 (((j : Nat) : Int))) ?_
   refine qb (badd_int ((j : Nat) : Int) 1 ((j + 1 : Nat) : Int) HS1.out) ?_
   refine qv (.int .i64 (((j + 1 : Nat) : Int))) ?_
   simp only [nA, nB, nC]
   refine we ?_
   go_wp2_with fail
   exact ⟨⟨j + 1, HLT.out, rfl, by rw [take_next HJ.out, dps_snoc], HB0.out, KN.out⟩, by have := HLT.out; simp [intOf]; omega⟩
  ·have hlt : j = N := by have := of_decide_eq_false Hhb5.out; have := HJJ.out; omega
   have htk : kids.take j = kids := by rw [hlt, List.take_of_length_le (by rw [HNN.out]; exact Nat.le_refl _)]
   have HTK := hid htk
   clear hlt htk
   have HW1 : Hid (IntKind.i64.wrap ((dps (kids.take j) 0) + 1) = (dps (kids.take j) 0 + 1)) := hid (IntWalk.i64_in _ ⟨by have := dps_ge (kids.take j) 0; omega, by have h1 := dps_mono kids j 0; have h2 := HD.out; omega⟩)
   refine qb (blss_int ((j : Nat) : Int) ((N : Nat) : Int) false Hhb5.out) ?_
   simp only [nA, nB, nC]
   refine we ?_
   go_upto_region 6 with fail
   refine rl ?_
   refine qv (.int .i64 ((dps (kids.take j) 0))) ?_
   refine qb (badd_int (dps (kids.take j) 0) 1 (dps (kids.take j) 0 + 1) HW1.out) ?_
   refine qv (.int .i64 ((dps (kids.take j) 0 + 1))) ?_
   simp only [nA, nB, nC]
   refine we ?_
   go_wp2_with fail
   go_ret
   exact ⟨by rw [dep]; exact congrArg (fun l => Ending.returned (.int .i64 (dps l 0 + 1))) HTK.out, HB0.out⟩
theorem depth_any (t : Tr) : DpP t := by
 induction t using Tr.ind with
 | h k tx n kids at_ ih => exact fun hd w v h => depth_step ih hd h
seal wpList in
theorem pmade_any {w : World} {p : Nat} {tv : Value} {i nest : Int} {v : Value} {t : Tr} (hp : Psr w p tv i nest) (hn : Nd w v t) (hd : dep t ≤ 100) : Calls Tryz.prog 111 #[.pointer (some ⟨p, 0, none⟩), v] w fun e w' => e = .returned v ∧ Below w.heap.size w w' := by
 have HP := hid hp
 have HN := hid hn
 have HD : Hid (dep t ≤ 1000) := hid (by omega)
 have HDD : Hid (decide ((100 : Int) < (dep t)) = false) := hid (decide_eq_false (by omega))
 obtain ⟨k, tx, n, kids, at_⟩ := t
 obtain ⟨a, c, rfl, -, -⟩ := hn.open
 clear hp hn hd
 generalize kids.length = N at *
 obtain ⟨t, ht⟩ : ∃ t, Tr.mk k tx n kids at_ = t := ⟨_, rfl⟩
 rw [ht] at HN HD HDD
 clear ht
 have HB0 := hid (Below.refl w.heap.size w)
 go_enter Tryz.func111, Tryz.ntmps111
 go_upto_region 0 with fail
 refine rl ?_
 obtain ⟨w3, g1, (HX : Hid _), (K2 : Hid _), (HB4 : Hid _), (GV : Hid _)⟩ := box_g 24 w #[(.int .i64 k), (strV tx), (.int .i64 n), (.slice a N c), (.int .i64 at_)]
 have GE_g1 := kh HB0 GV
 refine wp_run (v := (.pointer (some ⟨g1, 0, none⟩))) rfl rfl (run_boxOp rfl (by kernel_rfl) HX.out) rfl ?_
 try simp only [nA, nB, nC]
 replace HP := hid (HP.out.below HB4.out)
 replace HN := hid (HN.out.later HB4.out)
 replace HB0 := kb HB0 HB4
 obtain ⟨w7, g5, (HX : Hid _), (K6 : Hid _), (HB8 : Hid _), (GV : Hid _)⟩ := alh_api_Node w3
 have NE_g1_g5 := kn K2 GV
 have GE_g5 := kh HB0 GV
 refine wp_run (v := (.pointer (some ⟨g5, 0, none⟩))) rfl rfl (run_alOp rfl HX.out) rfl ?_
 try simp only [nA, nB, nC]
 replace K2 := ka HB8 K2
 replace HP := hid (HP.out.below HB8.out)
 replace HN := hid (HN.out.later HB8.out)
 replace HB0 := kb HB0 HB8
 refine we ?_
 go_upto_region 1 with fail
 refine rl ?_
 refine qv (.pointer (some ⟨p, 0, none⟩)) ?_
 refine qv (.pointer (some ⟨p, 0, none⟩)) ?_
 refine qf (fa_usanceref07_parser_3 p 0) ?_
 refine ql (.int .i64 0) Tryz.isAgg26 3 HP ?_
 simp only [nA, nB, nC]
 refine qb (beql_api_Errno 0 0 true (by decide)) ?_
 refine qv (.bool true) ?_
 simp only [nA, nB, nC]
 refine wp_yg (v := (nv k tx n (.slice a N c) at_)) rfl (y_load rfl (hl := fun w' h => by rw [h]; exact load_blk Tryz.isAgg24 (by kernel_rfl) rfl K2.out)) rfl ?_
 try simp only [nA, nB, nC]
 refine wp_callg (f := 145) (args := #[(nv k tx n (.slice a N c) at_)]) rfl (by kernel_rfl) (enter_go rfl (by kernel_rfl) (fun w => by go_simp)) ?_
 have HCA := hid (depth_any t HD.out _ _ HN.out)
 refine HCA.out.mono ?_
 rintro e w9 ⟨rfl, (HB10 : Hid _)⟩
 refine ⟨_, rfl, ?_⟩
 replace K2 := ka HB10 K2
 replace K6 := ka HB10 K6
 replace HP := hid (HP.out.below HB10.out)
 replace HN := hid (HN.out.later HB10.out)
 replace HB0 := kb HB0 HB10
 try simp only [nA, nB, nC]
 refine wp_yg (v := (.bool false)) rfl (y_bin (k := .i64) (k' := .i64) (m := (dep t)) (n := 100) rfl (hr := bgtr_int (dep t) 100 false HDD.out)) rfl ?_
 try simp only [nA, nB, nC]
 refine qv (.bool false) ?_
 simp only [nA, nB, nC]
 refine we ?_
 go_upto_region 3 with fail
 refine rl ?_
 refine qk (nv k tx n (.slice a N c) at_) Tryz.isAgg24 K2 ?_
 simp only [nA, nB, nC]
 obtain ⟨w11, hbx, hbk, hbf⟩ := st_x (T := 24) (c := #[(.int .i64 0), (strV []), (.int .i64 0), (.slice none 0 0), (.int .i64 0)]) (c' := #[(.int .i64 k), (strV tx), (.int .i64 n), (.slice a N c), (.int .i64 at_)]) (by kernel_rfl) rfl rfl K6.out (by intro v hv; simp at hv; rcases hv with rfl | rfl | rfl | rfl | rfl <;> first | rfl | assumption)
 replace K6 := hid hbk
 have HF12 := hid hbf
 have HX := hid hbx
 clear hbx hbk hbf
 refine wp_do rfl rfl (run_storeOp rfl (by kernel_rfl) (by kernel_rfl) HX.out) ?_
 try simp only [nA, nB, nC]
 replace K2 := hid (Fr.at HF12.out K2.out (by simpa using NE_g1_g5.out))
 replace HB0 := hid (HB0.out.trans (HF12.out.below HB0.out.size (by simpa using GE_g5.out)))
 refine we ?_
 go_wp2_with fail
 exact ret_cell rfl rfl rfl (load_blk Tryz.isAgg24 (by kernel_rfl) rfl K6.out) ⟨rfl, HB0.out⟩
def tk6 : List Tok := [⟨1, [97], 0, 0⟩, ⟨8, [45], 0, 2⟩, ⟨1, [98], 0, 4⟩, ⟨8, [45], 0, 6⟩, ⟨6, [], 1500000, 8⟩, ⟨0, [], 0, 11⟩]
theorem bu_api_Node_4_2 (w : World) (z0 : Int) (z1 : Int) : (Instr.build 24 #[(4, (.int .i64 z0)), (2, (.int .i64 z1))]).run Tryz.prog w = .ok (.agg #[(.int .i64 0), (strV []), (.int .i64 z1), (.slice none 0 0), (.int .i64 z0)]) w := by
 unfold strV
 go_simp
theorem bu_api_Node_0_1_4 (w : World) (z0 : Int) (s1 : List UInt8) (z2 : Int) : (Instr.build 24 #[(0, (.int .i64 z0)), (1, (strV s1)), (4, (.int .i64 z2))]).run Tryz.prog w = .ok (.agg #[(.int .i64 z0), (strV s1), (.int .i64 0), (.slice none 0 0), (.int .i64 z2)]) w := by
 unfold strV
 go_simp
seal wpList in
theorem atom_0 {w : World} {q0 : Nat} {tv : Value} (hp : Psr w q0 tv 0 1) (ht : Tks w tv tk6) : Calls Tryz.prog 195 #[.pointer (some ⟨q0, 0, none⟩)] w fun e w' => e = .returned (.agg #[(.int .i64 10), (strV [97]), (.int .i64 0), (.slice none 0 0), (.int .i64 0)]) ∧ Fr [q0] w w' ∧ Psr w' q0 tv 1 1 := by
 have HP := hid hp
 have HP0 := hid hp
 have HT0 := hid ht
 have HF0 := hid (Fr.refl [q0] w)
 clear hp ht
 go_enter Tryz.func195, Tryz.ntmps195
 go_upto_region 0 with fail
 refine rl ?_
 obtain ⟨w3, g1, (HX : Hid _), (K2 : Hid _), (HB4 : Hid _), (GV : Hid _)⟩ := alh_api_Node w
 have NE_q0_g1 := kn HP GV
 have GE_g1 := kg HF0 GV
 refine wp_run (v := (.pointer (some ⟨g1, 0, none⟩))) rfl rfl (run_alOp rfl HX.out) rfl ?_
 try simp only [nA, nB, nC]
 replace HP := ka HB4 HP
 replace HF0 := kf HF0 HB4
 refine we ?_
 go_upto_region 1 with fail
 refine rl ?_
 refine qv (.pointer (some ⟨q0, 0, none⟩)) ?_
 refine qv (.pointer (some ⟨q0, 0, none⟩)) ?_
 refine qf (fa_usanceref07_parser_3 q0 0) ?_
 refine ql (.int .i64 0) Tryz.isAgg26 3 HP ?_
 simp only [nA, nB, nC]
 refine qb (bneq_api_Errno 0 0 false (by decide)) ?_
 simp only [nA, nB, nC]
 refine we ?_
 go_upto_region 3 with fail
 refine rl ?_
 refine qv (.pointer (some ⟨q0, 0, none⟩)) ?_
 simp only [nA, nB, nC]
 refine qc #[(.pointer (some ⟨q0, 0, none⟩))] ?_
 have HCA := hid (look_any (i := 0) (t := ⟨1, [97], 0, 0⟩) HP.out (HT0.out.fr HF0.out HP0.out) rfl)
 refine HCA.out.mono ?_
 rintro e w5 ⟨rfl, (HB6 : Hid _)⟩
 refine ⟨_, rfl, ?_⟩
 replace HP := ka HB6 HP
 replace K2 := ka HB6 K2
 replace HF0 := kf HF0 HB6
 try simp only [Act.put, nA, nB, nC]
 obtain ⟨wv, w9, g7, hx1, hx2, hbk, hbb, hge⟩ := var_usanceref07_Token w5 1 [97] 0 0
 have K8 := hid hbk
 have HBV := hid hbb
 have HX1 := hid hx1
 have HX2 := hid hx2
 have GV := hid hge
 clear hx1 hx2 hbk hbb hge
 refine wp_run (v := (.pointer (some ⟨g7, 0, none⟩))) rfl rfl (run_alOp rfl HX1.out) rfl ?_
 try simp only [nA, nB, nC]
 refine wp_do rfl rfl (run_storeOp rfl (by kernel_rfl) (by kernel_rfl) HX2.out) ?_
 try simp only [nA, nB, nC]
 clear HX1 HX2
 have NE_q0_g7 := kn HP GV
 have NE_g1_g7 := kn K2 GV
 have GE_g7 := kg HF0 GV
 replace HP := ka HBV HP
 replace K2 := ka HBV K2
 replace HF0 := kf HF0 HBV
 clear HBV GV
 refine we ?_
 go_upto_region 4 with fail
 refine rl ?_
 refine qf (fa_usanceref07_Token_3 g7 0) ?_
 refine ql (.int .i64 0) Tryz.isAgg3 3 K8 ?_
 refine qf (fa_usanceref07_Token_2 g7 0) ?_
 refine ql (.int .i64 0) Tryz.isAgg2 2 K8 ?_
 simp only [nA, nB, nC]
 refine wp_y (v := (.agg #[(.int .i64 0), (strV []), (.int .i64 0), (.slice none 0 0), (.int .i64 0)])) rfl rfl (y_val2 rfl (h := fun w' h => by rw [h]; exact run_buildOp rfl (by kernel_rfl) (bu_api_Node_4_2 w9 0 0))) rfl ?_
 simp only [nA, nB, nC]
 obtain ⟨wv, w12, g10, hx1, hx2, hbk, hbb, hge⟩ := var_api_Node w9 0 [] 0 none 0 0 0
 have K11 := hid hbk
 have HBV := hid hbb
 have HX1 := hid hx1
 have HX2 := hid hx2
 have GV := hid hge
 clear hx1 hx2 hbk hbb hge
 refine wp_run (v := (.pointer (some ⟨g10, 0, none⟩))) rfl rfl (run_alOp rfl HX1.out) rfl ?_
 try simp only [nA, nB, nC]
 refine wp_do rfl rfl (run_storeOp rfl (by kernel_rfl) (by kernel_rfl) HX2.out) ?_
 try simp only [nA, nB, nC]
 clear HX1 HX2
 have NE_q0_g10 := kn HP GV
 have NE_g1_g10 := kn K2 GV
 have NE_g7_g10 := kn K8 GV
 have GE_g10 := kg HF0 GV
 replace HP := ka HBV HP
 replace K2 := ka HBV K2
 replace K8 := ka HBV K8
 replace HF0 := kf HF0 HBV
 clear HBV GV
 refine we ?_
 go_upto_region 7 with fail
 refine rl ?_
 refine qf (fa_usanceref07_Token_0 g7 0) ?_
 refine ql (.int .i64 1) Tryz.isAgg3 0 K8 ?_
 refine qb (beql_int 1 6 false (by decide)) ?_
 refine qv (.bool false) ?_
 simp only [nA, nB, nC]
 refine we ?_
 go_upto_region 9 with fail
 refine rl ?_
 refine qf (fa_usanceref07_Token_0 g7 0) ?_
 refine ql (.int .i64 1) Tryz.isAgg3 0 K8 ?_
 refine qb (beql_int 1 5 false (by decide)) ?_
 refine qv (.bool false) ?_
 simp only [nA, nB, nC]
 refine we ?_
 go_upto_region 11 with fail
 refine rl ?_
 refine qf (fa_usanceref07_Token_0 g7 0) ?_
 refine ql (.int .i64 1) Tryz.isAgg3 0 K8 ?_
 refine qb (beql_int 1 4 false (by decide)) ?_
 refine qv (.bool false) ?_
 simp only [nA, nB, nC]
 refine we ?_
 go_upto_region 14 with fail
 refine rl ?_
 refine qf (fa_usanceref07_Token_0 g7 0) ?_
 refine ql (.int .i64 1) Tryz.isAgg3 0 K8 ?_
 refine qb (beql_int 1 2 false (by decide)) ?_
 refine qv (.bool false) ?_
 simp only [nA, nB, nC]
 refine qs rfl ?_
 simp only [nA, nB, nC]
 refine qs rfl ?_
 simp only [nA, nB, nC]
 refine qs rfl ?_
 simp only [nA, nB, nC]
 refine qs rfl ?_
 simp only [nA, nB, nC]
 refine qs rfl ?_
 simp only [nA, nB, nC]
 refine qs rfl ?_
 simp only [nA, nB, nC]
 refine qs rfl ?_
 simp only [nA, nB, nC]
 refine qs rfl ?_
 simp only [nA, nB, nC]
 refine qv (.bool false) ?_
 refine qv (.bool false) ?_
 simp only [nA, nB, nC]
 refine we ?_
 go_upto_region 18 with fail
 refine rl ?_
 refine qf (fa_usanceref07_Token_0 g7 0) ?_
 refine ql (.int .i64 1) Tryz.isAgg3 0 K8 ?_
 refine qb (beql_int 1 2 false (by decide)) ?_
 refine qv (.bool false) ?_
 simp only [nA, nB, nC]
 refine qs rfl ?_
 simp only [nA, nB, nC]
 refine qs rfl ?_
 simp only [nA, nB, nC]
 refine qs rfl ?_
 simp only [nA, nB, nC]
 refine qv (.bool false) ?_
 refine qv (.bool false) ?_
 simp only [nA, nB, nC]
 refine we ?_
 go_upto_region 22 with fail
 refine rl ?_
 refine qf (fa_usanceref07_Token_0 g7 0) ?_
 refine ql (.int .i64 1) Tryz.isAgg3 0 K8 ?_
 refine qb (beql_int 1 2 false (by decide)) ?_
 refine qv (.bool false) ?_
 simp only [nA, nB, nC]
 refine qs rfl ?_
 simp only [nA, nB, nC]
 refine qs rfl ?_
 simp only [nA, nB, nC]
 refine qs rfl ?_
 simp only [nA, nB, nC]
 refine qv (.bool false) ?_
 refine qv (.bool false) ?_
 simp only [nA, nB, nC]
 refine we ?_
 go_upto_region 25 with fail
 refine rl ?_
 refine qf (fa_usanceref07_Token_0 g7 0) ?_
 refine ql (.int .i64 1) Tryz.isAgg3 0 K8 ?_
 refine qb (beql_int 1 1 true (by decide)) ?_
 refine qv (.bool true) ?_
 simp only [nA, nB, nC]
 refine qs rfl ?_
 simp only [nA, nB, nC]
 refine qs rfl ?_
 simp only [nA, nB, nC]
 refine qs rfl ?_
 simp only [nA, nB, nC]
 refine qv (.bool true) ?_
 refine qv (.bool true) ?_
 simp only [nA, nB, nC]
 refine we ?_
 go_upto_region 26 with fail
 refine rl ?_
 refine qv (.pointer (some ⟨q0, 0, none⟩)) ?_
 simp only [nA, nB, nC]
 refine qc #[(.pointer (some ⟨q0, 0, none⟩))] ?_
 have HCA := hid (step_any (i := 0) (t := ⟨1, [97], 0, 0⟩) HP.out (HT0.out.fr HF0.out HP0.out) rfl rfl)
 refine HCA.out.mono ?_
 rintro e w13 ⟨rfl, hq⟩
 refine ⟨_, rfl, ?_⟩
 obtain ⟨hF, hp⟩ := hq
 replace K2 := hid (Fr.at hF K2.out (by simpa using (Ne.symm NE_q0_g1.out)))
 replace K8 := hid (Fr.at hF K8.out (by simpa using (Ne.symm NE_q0_g7.out)))
 replace K11 := hid (Fr.at hF K11.out (by simpa using (Ne.symm NE_q0_g10.out)))
 replace HF0 := hid (HF0.out.trans hF (by simp))
 replace HP := hid hp
 clear hF hp
 try simp only [Act.put, nA, nB, nC]
 refine we ?_
 go_upto_region 27 with fail
 refine rl ?_
 refine qv (.pointer (some ⟨q0, 0, none⟩)) ?_
 simp only [nA, nB, nC]
 refine qc #[(.pointer (some ⟨q0, 0, none⟩)), (strV [40])] ?_
 have HCA := hid (is_any (i := 1) (t := ⟨8, [45], 0, 2⟩) HP.out (HT0.out.fr HF0.out HP0.out) rfl [40])
 refine HCA.out.mono ?_
 rintro e w14 ⟨he, hq⟩
 rw [(show Tok.is ⟨8, [45], 0, 2⟩ [40] = false from rfl)] at he
 subst he
 refine ⟨_, rfl, ?_⟩
 have HB15 := hid hq
 clear hq
 replace HP := ka HB15 HP
 replace K2 := ka HB15 K2
 replace K8 := ka HB15 K8
 replace K11 := ka HB15 K11
 replace HF0 := kf HF0 HB15
 try simp only [Act.put, nA, nB, nC]
 refine qv (.bool false) ?_
 simp only [nA, nB, nC]
 refine we ?_
 go_upto_region 28 with fail
 refine rl ?_
 refine qv (.bool false) ?_
 simp only [nA, nB, nC]
 refine wp_y (v := (.bool true)) rfl rfl (y_un (p := .bool false) rfl (by kernel_rfl) (by kernel_rfl) (fun w => qnotB false w)) rfl ?_
 simp only [nA, nB, nC]
 refine we ?_
 go_upto_region 29 with fail
 refine rl ?_
 refine qv (.pointer (some ⟨q0, 0, none⟩)) ?_
 refine qf (fa_usanceref07_Token_1 g7 0) ?_
 refine ql (strV [97]) Tryz.isAgg9 1 K8 ?_
 refine qf (fa_usanceref07_Token_3 g7 0) ?_
 simp only [nA, nB, nC]
 refine ql (.int .i64 0) Tryz.isAgg3 3 K8 ?_
 simp only [nA, nB, nC]
 refine wp_y (v := (.agg #[(.int .i64 10), (strV [97]), (.int .i64 0), (.slice none 0 0), (.int .i64 0)])) rfl rfl (y_val2 rfl (h := fun w' h => by rw [h]; exact run_buildOp rfl (by kernel_rfl) (bu_api_Node_0_1_4 w14 10 [97] 0))) rfl ?_
 simp only [nA, nB, nC]
 refine qc #[(.pointer (some ⟨q0, 0, none⟩)), (.agg #[(.int .i64 10), (strV [97]), (.int .i64 0), (.slice none 0 0), (.int .i64 0)])] ?_
 have HCA := hid (pmade_any HP.out (t := .mk 10 [97] 0 [] 0) (.mk _ _ _ [] _ none 0 (fun _ => undef) (by decide) (fun i hi => by simp at hi) (fun i t ht => by simp at ht)) (by decide))
 refine HCA.out.mono ?_
 rintro e w16 ⟨rfl, (HB17 : Hid _)⟩
 refine ⟨_, rfl, ?_⟩
 replace HP := ka HB17 HP
 replace K2 := ka HB17 K2
 replace K8 := ka HB17 K8
 replace K11 := ka HB17 K11
 replace HF0 := kf HF0 HB17
 try simp only [Act.put, nA, nB, nC]
 obtain ⟨w18, hbx, hbk, hbf⟩ := st_x (T := 24) (c := #[(.int .i64 0), (strV []), (.int .i64 0), (.slice none 0 0), (.int .i64 0)]) (c' := #[(.int .i64 10), (strV [97]), (.int .i64 0), (.slice none 0 0), (.int .i64 0)]) (by kernel_rfl) rfl rfl K2.out (by intro v hv; simp at hv; rcases hv with rfl | rfl | rfl | rfl | rfl <;> first | rfl | assumption)
 replace K2 := hid hbk
 have HF19 := hid hbf
 have HX := hid hbx
 clear hbx hbk hbf
 refine wp_do rfl rfl (run_storeOp rfl (by kernel_rfl) (by kernel_rfl) HX.out) ?_
 try simp only [nA, nB, nC]
 replace HP := hid (Fr.at HF19.out HP.out (by simpa using NE_q0_g1.out))
 replace K8 := hid (Fr.at HF19.out K8.out (by simpa using (Ne.symm NE_g1_g7.out)))
 replace K11 := hid (Fr.at HF19.out K11.out (by simpa using (Ne.symm NE_g1_g10.out)))
 replace HF0 := hid (HF0.out.trans HF19.out (fun x hx => .inr (by rw [List.mem_singleton] at hx; rw [hx]; exact GE_g1.out)))
 refine we ?_
 go_wp2_with fail
 exact ret_cell rfl rfl rfl (load_blk Tryz.isAgg24 (by kernel_rfl) rfl K2.out) ⟨rfl, HF0.out, HP.out⟩
seal wpList in
theorem unary_0 {w : World} {q0 : Nat} {tv : Value} (hp : Psr w q0 tv 0 1) (ht : Tks w tv tk6) : Calls Tryz.prog 182 #[.pointer (some ⟨q0, 0, none⟩)] w fun e w' => e = .returned (.agg #[(.int .i64 10), (strV [97]), (.int .i64 0), (.slice none 0 0), (.int .i64 0)]) ∧ Fr [q0] w w' ∧ Psr w' q0 tv 1 1 := by
 have HP := hid hp
 have HP0 := hid hp
 have HT0 := hid ht
 have HF0 := hid (Fr.refl [q0] w)
 clear hp ht
 go_enter Tryz.func182, Tryz.ntmps182
 go_upto_region 0 with fail
 refine rl ?_
 obtain ⟨w3, g1, (HX : Hid _), (K2 : Hid _), (HB4 : Hid _), (GV : Hid _)⟩ := alh_api_Node w
 have NE_q0_g1 := kn HP GV
 have GE_g1 := kg HF0 GV
 refine wp_run (v := (.pointer (some ⟨g1, 0, none⟩))) rfl rfl (run_alOp rfl HX.out) rfl ?_
 try simp only [nA, nB, nC]
 replace HP := ka HB4 HP
 replace HF0 := kf HF0 HB4
 refine we ?_
 go_upto_region 1 with fail
 refine rl ?_
 refine qv (.pointer (some ⟨q0, 0, none⟩)) ?_
 simp only [nA, nB, nC]
 refine qc #[(.pointer (some ⟨q0, 0, none⟩)), (strV [45])] ?_
 have HCA := hid (is_any (i := 0) (t := ⟨1, [97], 0, 0⟩) HP.out (HT0.out.fr HF0.out HP0.out) rfl [45])
 refine HCA.out.mono ?_
 rintro e w5 ⟨he, hq⟩
 rw [(show Tok.is ⟨1, [97], 0, 0⟩ [45] = false from rfl)] at he
 subst he
 refine ⟨_, rfl, ?_⟩
 have HB6 := hid hq
 clear hq
 replace HP := ka HB6 HP
 replace K2 := ka HB6 K2
 replace HF0 := kf HF0 HB6
 try simp only [Act.put, nA, nB, nC]
 refine qv (.bool false) ?_
 simp only [nA, nB, nC]
 refine we ?_
 go_upto_region 2 with fail
 refine rl ?_
 refine qv (.bool false) ?_
 simp only [nA, nB, nC]
 refine we ?_
 go_upto_region 4 with fail
 refine rl ?_
 refine qv (.pointer (some ⟨q0, 0, none⟩)) ?_
 simp only [nA, nB, nC]
 refine qc #[(.pointer (some ⟨q0, 0, none⟩))] ?_
 have HCA := hid (atom_0 HP.out (HT0.out.fr HF0.out HP0.out))
 refine HCA.out.mono ?_
 rintro e w7 ⟨rfl, hq⟩
 refine ⟨_, rfl, ?_⟩
 obtain ⟨hF, hp⟩ := hq
 replace K2 := hid (Fr.at hF K2.out (by simpa using (Ne.symm NE_q0_g1.out)))
 replace HF0 := hid (HF0.out.trans hF (by simp))
 replace HP := hid hp
 clear hF hp
 try simp only [Act.put, nA, nB, nC]
 obtain ⟨w8, hbx, hbk, hbf⟩ := st_x (T := 24) (c := #[(.int .i64 0), (strV []), (.int .i64 0), (.slice none 0 0), (.int .i64 0)]) (c' := #[(.int .i64 10), (strV [97]), (.int .i64 0), (.slice none 0 0), (.int .i64 0)]) (by kernel_rfl) rfl rfl K2.out (by intro v hv; simp at hv; rcases hv with rfl | rfl | rfl | rfl | rfl <;> first | rfl | assumption)
 replace K2 := hid hbk
 have HF9 := hid hbf
 have HX := hid hbx
 clear hbx hbk hbf
 refine wp_do rfl rfl (run_storeOp rfl (by kernel_rfl) (by kernel_rfl) HX.out) ?_
 try simp only [nA, nB, nC]
 replace HP := hid (Fr.at HF9.out HP.out (by simpa using NE_q0_g1.out))
 replace HF0 := hid (HF0.out.trans HF9.out (fun x hx => .inr (by rw [List.mem_singleton] at hx; rw [hx]; exact GE_g1.out)))
 refine we ?_
 go_wp2_with fail
 exact ret_cell rfl rfl rfl (load_blk Tryz.isAgg24 (by kernel_rfl) rfl K2.out) ⟨rfl, HF0.out, HP.out⟩
seal wpList in
theorem lower3_0 {w : World} {q0 : Nat} {tv : Value} (hp : Psr w q0 tv 0 1) (ht : Tks w tv tk6) : Calls Tryz.prog 143 #[.pointer (some ⟨q0, 0, none⟩), .int .i64 3] w fun e w' => e = .returned (.agg #[(.int .i64 10), (strV [97]), (.int .i64 0), (.slice none 0 0), (.int .i64 0)]) ∧ Fr [q0] w w' ∧ Psr w' q0 tv 1 1 := by
 have HP := hid hp
 have HP0 := hid hp
 have HT0 := hid ht
 have HF0 := hid (Fr.refl [q0] w)
 clear hp ht
 go_enter Tryz.func143, Tryz.ntmps143
 go_upto_region 0 with fail
 refine rl ?_
 obtain ⟨w3, g1, (HX : Hid _), (K2 : Hid _), (HB4 : Hid _), (GV : Hid _)⟩ := alh_api_Node w
 have NE_q0_g1 := kn HP GV
 have GE_g1 := kg HF0 GV
 refine wp_run (v := (.pointer (some ⟨g1, 0, none⟩))) rfl rfl (run_alOp rfl HX.out) rfl ?_
 try simp only [nA, nB, nC]
 replace HP := ka HB4 HP
 replace HF0 := kf HF0 HB4
 refine we ?_
 go_upto_region 1 with fail
 refine rl ?_
 refine qv (.int .i64 3) ?_
 simp only [nA, nB, nC]
 refine we ?_
 go_upto_region 2 with fail
 refine rl ?_
 refine qb (beql_int 3 0 false (by decide)) ?_
 refine qv (.bool false) ?_
 simp only [nA, nB, nC]
 refine we ?_
 go_upto_region 4 with fail
 refine rl ?_
 refine qb (beql_int 3 1 false (by decide)) ?_
 refine qv (.bool false) ?_
 simp only [nA, nB, nC]
 refine we ?_
 go_upto_region 6 with fail
 refine rl ?_
 refine qb (beql_int 3 2 false (by decide)) ?_
 refine qv (.bool false) ?_
 simp only [nA, nB, nC]
 refine we ?_
 go_upto_region 8 with fail
 refine rl ?_
 refine qv (.pointer (some ⟨q0, 0, none⟩)) ?_
 simp only [nA, nB, nC]
 refine qc #[(.pointer (some ⟨q0, 0, none⟩))] ?_
 have HCA := hid (unary_0 HP.out (HT0.out.fr HF0.out HP0.out))
 refine HCA.out.mono ?_
 rintro e w5 ⟨rfl, hq⟩
 refine ⟨_, rfl, ?_⟩
 obtain ⟨hF, hp⟩ := hq
 replace K2 := hid (Fr.at hF K2.out (by simpa using (Ne.symm NE_q0_g1.out)))
 replace HF0 := hid (HF0.out.trans hF (by simp))
 replace HP := hid hp
 clear hF hp
 try simp only [Act.put, nA, nB, nC]
 obtain ⟨w6, hbx, hbk, hbf⟩ := st_x (T := 24) (c := #[(.int .i64 0), (strV []), (.int .i64 0), (.slice none 0 0), (.int .i64 0)]) (c' := #[(.int .i64 10), (strV [97]), (.int .i64 0), (.slice none 0 0), (.int .i64 0)]) (by kernel_rfl) rfl rfl K2.out (by intro v hv; simp at hv; rcases hv with rfl | rfl | rfl | rfl | rfl <;> first | rfl | assumption)
 replace K2 := hid hbk
 have HF7 := hid hbf
 have HX := hid hbx
 clear hbx hbk hbf
 refine wp_do rfl rfl (run_storeOp rfl (by kernel_rfl) (by kernel_rfl) HX.out) ?_
 try simp only [nA, nB, nC]
 replace HP := hid (Fr.at HF7.out HP.out (by simpa using NE_q0_g1.out))
 replace HF0 := hid (HF0.out.trans HF7.out (fun x hx => .inr (by rw [List.mem_singleton] at hx; rw [hx]; exact GE_g1.out)))
 refine we ?_
 go_wp2_with fail
 exact ret_cell rfl rfl rfl (load_blk Tryz.isAgg24 (by kernel_rfl) rfl K2.out) ⟨rfl, HF0.out, HP.out⟩
seal wpList in
theorem atom_2 {w : World} {q0 : Nat} {tv : Value} (hp : Psr w q0 tv 2 1) (ht : Tks w tv tk6) : Calls Tryz.prog 195 #[.pointer (some ⟨q0, 0, none⟩)] w fun e w' => e = .returned (.agg #[(.int .i64 10), (strV [98]), (.int .i64 0), (.slice none 0 0), (.int .i64 4)]) ∧ Fr [q0] w w' ∧ Psr w' q0 tv 3 1 := by
 have HP := hid hp
 have HP0 := hid hp
 have HT0 := hid ht
 have HF0 := hid (Fr.refl [q0] w)
 clear hp ht
 go_enter Tryz.func195, Tryz.ntmps195
 go_upto_region 0 with fail
 refine rl ?_
 obtain ⟨w3, g1, (HX : Hid _), (K2 : Hid _), (HB4 : Hid _), (GV : Hid _)⟩ := alh_api_Node w
 have NE_q0_g1 := kn HP GV
 have GE_g1 := kg HF0 GV
 refine wp_run (v := (.pointer (some ⟨g1, 0, none⟩))) rfl rfl (run_alOp rfl HX.out) rfl ?_
 try simp only [nA, nB, nC]
 replace HP := ka HB4 HP
 replace HF0 := kf HF0 HB4
 refine we ?_
 go_upto_region 1 with fail
 refine rl ?_
 refine qv (.pointer (some ⟨q0, 0, none⟩)) ?_
 refine qv (.pointer (some ⟨q0, 0, none⟩)) ?_
 refine qf (fa_usanceref07_parser_3 q0 0) ?_
 refine ql (.int .i64 0) Tryz.isAgg26 3 HP ?_
 simp only [nA, nB, nC]
 refine qb (bneq_api_Errno 0 0 false (by decide)) ?_
 simp only [nA, nB, nC]
 refine we ?_
 go_upto_region 3 with fail
 refine rl ?_
 refine qv (.pointer (some ⟨q0, 0, none⟩)) ?_
 simp only [nA, nB, nC]
 refine qc #[(.pointer (some ⟨q0, 0, none⟩))] ?_
 have HCA := hid (look_any (i := 2) (t := ⟨1, [98], 0, 4⟩) HP.out (HT0.out.fr HF0.out HP0.out) rfl)
 refine HCA.out.mono ?_
 rintro e w5 ⟨rfl, (HB6 : Hid _)⟩
 refine ⟨_, rfl, ?_⟩
 replace HP := ka HB6 HP
 replace K2 := ka HB6 K2
 replace HF0 := kf HF0 HB6
 try simp only [Act.put, nA, nB, nC]
 obtain ⟨wv, w9, g7, hx1, hx2, hbk, hbb, hge⟩ := var_usanceref07_Token w5 1 [98] 0 4
 have K8 := hid hbk
 have HBV := hid hbb
 have HX1 := hid hx1
 have HX2 := hid hx2
 have GV := hid hge
 clear hx1 hx2 hbk hbb hge
 refine wp_run (v := (.pointer (some ⟨g7, 0, none⟩))) rfl rfl (run_alOp rfl HX1.out) rfl ?_
 try simp only [nA, nB, nC]
 refine wp_do rfl rfl (run_storeOp rfl (by kernel_rfl) (by kernel_rfl) HX2.out) ?_
 try simp only [nA, nB, nC]
 clear HX1 HX2
 have NE_q0_g7 := kn HP GV
 have NE_g1_g7 := kn K2 GV
 have GE_g7 := kg HF0 GV
 replace HP := ka HBV HP
 replace K2 := ka HBV K2
 replace HF0 := kf HF0 HBV
 clear HBV GV
 refine we ?_
 go_upto_region 4 with fail
 refine rl ?_
 refine qf (fa_usanceref07_Token_3 g7 0) ?_
 refine ql (.int .i64 4) Tryz.isAgg3 3 K8 ?_
 refine qf (fa_usanceref07_Token_2 g7 0) ?_
 refine ql (.int .i64 0) Tryz.isAgg2 2 K8 ?_
 simp only [nA, nB, nC]
 refine wp_y (v := (.agg #[(.int .i64 0), (strV []), (.int .i64 0), (.slice none 0 0), (.int .i64 4)])) rfl rfl (y_val2 rfl (h := fun w' h => by rw [h]; exact run_buildOp rfl (by kernel_rfl) (bu_api_Node_4_2 w9 4 0))) rfl ?_
 simp only [nA, nB, nC]
 obtain ⟨wv, w12, g10, hx1, hx2, hbk, hbb, hge⟩ := var_api_Node w9 0 [] 0 none 0 0 4
 have K11 := hid hbk
 have HBV := hid hbb
 have HX1 := hid hx1
 have HX2 := hid hx2
 have GV := hid hge
 clear hx1 hx2 hbk hbb hge
 refine wp_run (v := (.pointer (some ⟨g10, 0, none⟩))) rfl rfl (run_alOp rfl HX1.out) rfl ?_
 try simp only [nA, nB, nC]
 refine wp_do rfl rfl (run_storeOp rfl (by kernel_rfl) (by kernel_rfl) HX2.out) ?_
 try simp only [nA, nB, nC]
 clear HX1 HX2
 have NE_q0_g10 := kn HP GV
 have NE_g1_g10 := kn K2 GV
 have NE_g7_g10 := kn K8 GV
 have GE_g10 := kg HF0 GV
 replace HP := ka HBV HP
 replace K2 := ka HBV K2
 replace K8 := ka HBV K8
 replace HF0 := kf HF0 HBV
 clear HBV GV
 refine we ?_
 go_upto_region 7 with fail
 refine rl ?_
 refine qf (fa_usanceref07_Token_0 g7 0) ?_
 refine ql (.int .i64 1) Tryz.isAgg3 0 K8 ?_
 refine qb (beql_int 1 6 false (by decide)) ?_
 refine qv (.bool false) ?_
 simp only [nA, nB, nC]
 refine we ?_
 go_upto_region 9 with fail
 refine rl ?_
 refine qf (fa_usanceref07_Token_0 g7 0) ?_
 refine ql (.int .i64 1) Tryz.isAgg3 0 K8 ?_
 refine qb (beql_int 1 5 false (by decide)) ?_
 refine qv (.bool false) ?_
 simp only [nA, nB, nC]
 refine we ?_
 go_upto_region 11 with fail
 refine rl ?_
 refine qf (fa_usanceref07_Token_0 g7 0) ?_
 refine ql (.int .i64 1) Tryz.isAgg3 0 K8 ?_
 refine qb (beql_int 1 4 false (by decide)) ?_
 refine qv (.bool false) ?_
 simp only [nA, nB, nC]
 refine we ?_
 go_upto_region 14 with fail
 refine rl ?_
 refine qf (fa_usanceref07_Token_0 g7 0) ?_
 refine ql (.int .i64 1) Tryz.isAgg3 0 K8 ?_
 refine qb (beql_int 1 2 false (by decide)) ?_
 refine qv (.bool false) ?_
 simp only [nA, nB, nC]
 refine qs rfl ?_
 simp only [nA, nB, nC]
 refine qs rfl ?_
 simp only [nA, nB, nC]
 refine qs rfl ?_
 simp only [nA, nB, nC]
 refine qs rfl ?_
 simp only [nA, nB, nC]
 refine qs rfl ?_
 simp only [nA, nB, nC]
 refine qs rfl ?_
 simp only [nA, nB, nC]
 refine qs rfl ?_
 simp only [nA, nB, nC]
 refine qs rfl ?_
 simp only [nA, nB, nC]
 refine qv (.bool false) ?_
 refine qv (.bool false) ?_
 simp only [nA, nB, nC]
 refine we ?_
 go_upto_region 18 with fail
 refine rl ?_
 refine qf (fa_usanceref07_Token_0 g7 0) ?_
 refine ql (.int .i64 1) Tryz.isAgg3 0 K8 ?_
 refine qb (beql_int 1 2 false (by decide)) ?_
 refine qv (.bool false) ?_
 simp only [nA, nB, nC]
 refine qs rfl ?_
 simp only [nA, nB, nC]
 refine qs rfl ?_
 simp only [nA, nB, nC]
 refine qs rfl ?_
 simp only [nA, nB, nC]
 refine qv (.bool false) ?_
 refine qv (.bool false) ?_
 simp only [nA, nB, nC]
 refine we ?_
 go_upto_region 22 with fail
 refine rl ?_
 refine qf (fa_usanceref07_Token_0 g7 0) ?_
 refine ql (.int .i64 1) Tryz.isAgg3 0 K8 ?_
 refine qb (beql_int 1 2 false (by decide)) ?_
 refine qv (.bool false) ?_
 simp only [nA, nB, nC]
 refine qs rfl ?_
 simp only [nA, nB, nC]
 refine qs rfl ?_
 simp only [nA, nB, nC]
 refine qs rfl ?_
 simp only [nA, nB, nC]
 refine qv (.bool false) ?_
 refine qv (.bool false) ?_
 simp only [nA, nB, nC]
 refine we ?_
 go_upto_region 25 with fail
 refine rl ?_
 refine qf (fa_usanceref07_Token_0 g7 0) ?_
 refine ql (.int .i64 1) Tryz.isAgg3 0 K8 ?_
 refine qb (beql_int 1 1 true (by decide)) ?_
 refine qv (.bool true) ?_
 simp only [nA, nB, nC]
 refine qs rfl ?_
 simp only [nA, nB, nC]
 refine qs rfl ?_
 simp only [nA, nB, nC]
 refine qs rfl ?_
 simp only [nA, nB, nC]
 refine qv (.bool true) ?_
 refine qv (.bool true) ?_
 simp only [nA, nB, nC]
 refine we ?_
 go_upto_region 26 with fail
 refine rl ?_
 refine qv (.pointer (some ⟨q0, 0, none⟩)) ?_
 simp only [nA, nB, nC]
 refine qc #[(.pointer (some ⟨q0, 0, none⟩))] ?_
 have HCA := hid (step_any (i := 2) (t := ⟨1, [98], 0, 4⟩) HP.out (HT0.out.fr HF0.out HP0.out) rfl rfl)
 refine HCA.out.mono ?_
 rintro e w13 ⟨rfl, hq⟩
 refine ⟨_, rfl, ?_⟩
 obtain ⟨hF, hp⟩ := hq
 replace K2 := hid (Fr.at hF K2.out (by simpa using (Ne.symm NE_q0_g1.out)))
 replace K8 := hid (Fr.at hF K8.out (by simpa using (Ne.symm NE_q0_g7.out)))
 replace K11 := hid (Fr.at hF K11.out (by simpa using (Ne.symm NE_q0_g10.out)))
 replace HF0 := hid (HF0.out.trans hF (by simp))
 replace HP := hid hp
 clear hF hp
 try simp only [Act.put, nA, nB, nC]
 refine we ?_
 go_upto_region 27 with fail
 refine rl ?_
 refine qv (.pointer (some ⟨q0, 0, none⟩)) ?_
 simp only [nA, nB, nC]
 refine qc #[(.pointer (some ⟨q0, 0, none⟩)), (strV [40])] ?_
 have HCA := hid (is_any (i := 3) (t := ⟨8, [45], 0, 6⟩) HP.out (HT0.out.fr HF0.out HP0.out) rfl [40])
 refine HCA.out.mono ?_
 rintro e w14 ⟨he, hq⟩
 rw [(show Tok.is ⟨8, [45], 0, 6⟩ [40] = false from rfl)] at he
 subst he
 refine ⟨_, rfl, ?_⟩
 have HB15 := hid hq
 clear hq
 replace HP := ka HB15 HP
 replace K2 := ka HB15 K2
 replace K8 := ka HB15 K8
 replace K11 := ka HB15 K11
 replace HF0 := kf HF0 HB15
 try simp only [Act.put, nA, nB, nC]
 refine qv (.bool false) ?_
 simp only [nA, nB, nC]
 refine we ?_
 go_upto_region 28 with fail
 refine rl ?_
 refine qv (.bool false) ?_
 simp only [nA, nB, nC]
 refine wp_y (v := (.bool true)) rfl rfl (y_un (p := .bool false) rfl (by kernel_rfl) (by kernel_rfl) (fun w => qnotB false w)) rfl ?_
 simp only [nA, nB, nC]
 refine we ?_
 go_upto_region 29 with fail
 refine rl ?_
 refine qv (.pointer (some ⟨q0, 0, none⟩)) ?_
 refine qf (fa_usanceref07_Token_1 g7 0) ?_
 refine ql (strV [98]) Tryz.isAgg9 1 K8 ?_
 refine qf (fa_usanceref07_Token_3 g7 0) ?_
 simp only [nA, nB, nC]
 refine ql (.int .i64 4) Tryz.isAgg3 3 K8 ?_
 simp only [nA, nB, nC]
 refine wp_y (v := (.agg #[(.int .i64 10), (strV [98]), (.int .i64 0), (.slice none 0 0), (.int .i64 4)])) rfl rfl (y_val2 rfl (h := fun w' h => by rw [h]; exact run_buildOp rfl (by kernel_rfl) (bu_api_Node_0_1_4 w14 10 [98] 4))) rfl ?_
 simp only [nA, nB, nC]
 refine qc #[(.pointer (some ⟨q0, 0, none⟩)), (.agg #[(.int .i64 10), (strV [98]), (.int .i64 0), (.slice none 0 0), (.int .i64 4)])] ?_
 have HCA := hid (pmade_any HP.out (t := .mk 10 [98] 0 [] 4) (.mk _ _ _ [] _ none 0 (fun _ => undef) (by decide) (fun i hi => by simp at hi) (fun i t ht => by simp at ht)) (by decide))
 refine HCA.out.mono ?_
 rintro e w16 ⟨rfl, (HB17 : Hid _)⟩
 refine ⟨_, rfl, ?_⟩
 replace HP := ka HB17 HP
 replace K2 := ka HB17 K2
 replace K8 := ka HB17 K8
 replace K11 := ka HB17 K11
 replace HF0 := kf HF0 HB17
 try simp only [Act.put, nA, nB, nC]
 obtain ⟨w18, hbx, hbk, hbf⟩ := st_x (T := 24) (c := #[(.int .i64 0), (strV []), (.int .i64 0), (.slice none 0 0), (.int .i64 0)]) (c' := #[(.int .i64 10), (strV [98]), (.int .i64 0), (.slice none 0 0), (.int .i64 4)]) (by kernel_rfl) rfl rfl K2.out (by intro v hv; simp at hv; rcases hv with rfl | rfl | rfl | rfl | rfl <;> first | rfl | assumption)
 replace K2 := hid hbk
 have HF19 := hid hbf
 have HX := hid hbx
 clear hbx hbk hbf
 refine wp_do rfl rfl (run_storeOp rfl (by kernel_rfl) (by kernel_rfl) HX.out) ?_
 try simp only [nA, nB, nC]
 replace HP := hid (Fr.at HF19.out HP.out (by simpa using NE_q0_g1.out))
 replace K8 := hid (Fr.at HF19.out K8.out (by simpa using (Ne.symm NE_g1_g7.out)))
 replace K11 := hid (Fr.at HF19.out K11.out (by simpa using (Ne.symm NE_g1_g10.out)))
 replace HF0 := hid (HF0.out.trans HF19.out (fun x hx => .inr (by rw [List.mem_singleton] at hx; rw [hx]; exact GE_g1.out)))
 refine we ?_
 go_wp2_with fail
 exact ret_cell rfl rfl rfl (load_blk Tryz.isAgg24 (by kernel_rfl) rfl K2.out) ⟨rfl, HF0.out, HP.out⟩
seal wpList in
theorem unary_2 {w : World} {q0 : Nat} {tv : Value} (hp : Psr w q0 tv 2 1) (ht : Tks w tv tk6) : Calls Tryz.prog 182 #[.pointer (some ⟨q0, 0, none⟩)] w fun e w' => e = .returned (.agg #[(.int .i64 10), (strV [98]), (.int .i64 0), (.slice none 0 0), (.int .i64 4)]) ∧ Fr [q0] w w' ∧ Psr w' q0 tv 3 1 := by
 have HP := hid hp
 have HP0 := hid hp
 have HT0 := hid ht
 have HF0 := hid (Fr.refl [q0] w)
 clear hp ht
 go_enter Tryz.func182, Tryz.ntmps182
 go_upto_region 0 with fail
 refine rl ?_
 obtain ⟨w3, g1, (HX : Hid _), (K2 : Hid _), (HB4 : Hid _), (GV : Hid _)⟩ := alh_api_Node w
 have NE_q0_g1 := kn HP GV
 have GE_g1 := kg HF0 GV
 refine wp_run (v := (.pointer (some ⟨g1, 0, none⟩))) rfl rfl (run_alOp rfl HX.out) rfl ?_
 try simp only [nA, nB, nC]
 replace HP := ka HB4 HP
 replace HF0 := kf HF0 HB4
 refine we ?_
 go_upto_region 1 with fail
 refine rl ?_
 refine qv (.pointer (some ⟨q0, 0, none⟩)) ?_
 simp only [nA, nB, nC]
 refine qc #[(.pointer (some ⟨q0, 0, none⟩)), (strV [45])] ?_
 have HCA := hid (is_any (i := 2) (t := ⟨1, [98], 0, 4⟩) HP.out (HT0.out.fr HF0.out HP0.out) rfl [45])
 refine HCA.out.mono ?_
 rintro e w5 ⟨he, hq⟩
 rw [(show Tok.is ⟨1, [98], 0, 4⟩ [45] = false from rfl)] at he
 subst he
 refine ⟨_, rfl, ?_⟩
 have HB6 := hid hq
 clear hq
 replace HP := ka HB6 HP
 replace K2 := ka HB6 K2
 replace HF0 := kf HF0 HB6
 try simp only [Act.put, nA, nB, nC]
 refine qv (.bool false) ?_
 simp only [nA, nB, nC]
 refine we ?_
 go_upto_region 2 with fail
 refine rl ?_
 refine qv (.bool false) ?_
 simp only [nA, nB, nC]
 refine we ?_
 go_upto_region 4 with fail
 refine rl ?_
 refine qv (.pointer (some ⟨q0, 0, none⟩)) ?_
 simp only [nA, nB, nC]
 refine qc #[(.pointer (some ⟨q0, 0, none⟩))] ?_
 have HCA := hid (atom_2 HP.out (HT0.out.fr HF0.out HP0.out))
 refine HCA.out.mono ?_
 rintro e w7 ⟨rfl, hq⟩
 refine ⟨_, rfl, ?_⟩
 obtain ⟨hF, hp⟩ := hq
 replace K2 := hid (Fr.at hF K2.out (by simpa using (Ne.symm NE_q0_g1.out)))
 replace HF0 := hid (HF0.out.trans hF (by simp))
 replace HP := hid hp
 clear hF hp
 try simp only [Act.put, nA, nB, nC]
 obtain ⟨w8, hbx, hbk, hbf⟩ := st_x (T := 24) (c := #[(.int .i64 0), (strV []), (.int .i64 0), (.slice none 0 0), (.int .i64 0)]) (c' := #[(.int .i64 10), (strV [98]), (.int .i64 0), (.slice none 0 0), (.int .i64 4)]) (by kernel_rfl) rfl rfl K2.out (by intro v hv; simp at hv; rcases hv with rfl | rfl | rfl | rfl | rfl <;> first | rfl | assumption)
 replace K2 := hid hbk
 have HF9 := hid hbf
 have HX := hid hbx
 clear hbx hbk hbf
 refine wp_do rfl rfl (run_storeOp rfl (by kernel_rfl) (by kernel_rfl) HX.out) ?_
 try simp only [nA, nB, nC]
 replace HP := hid (Fr.at HF9.out HP.out (by simpa using NE_q0_g1.out))
 replace HF0 := hid (HF0.out.trans HF9.out (fun x hx => .inr (by rw [List.mem_singleton] at hx; rw [hx]; exact GE_g1.out)))
 refine we ?_
 go_wp2_with fail
 exact ret_cell rfl rfl rfl (load_blk Tryz.isAgg24 (by kernel_rfl) rfl K2.out) ⟨rfl, HF0.out, HP.out⟩
seal wpList in
theorem lower3_2 {w : World} {q0 : Nat} {tv : Value} (hp : Psr w q0 tv 2 1) (ht : Tks w tv tk6) : Calls Tryz.prog 143 #[.pointer (some ⟨q0, 0, none⟩), .int .i64 3] w fun e w' => e = .returned (.agg #[(.int .i64 10), (strV [98]), (.int .i64 0), (.slice none 0 0), (.int .i64 4)]) ∧ Fr [q0] w w' ∧ Psr w' q0 tv 3 1 := by
 have HP := hid hp
 have HP0 := hid hp
 have HT0 := hid ht
 have HF0 := hid (Fr.refl [q0] w)
 clear hp ht
 go_enter Tryz.func143, Tryz.ntmps143
 go_upto_region 0 with fail
 refine rl ?_
 obtain ⟨w3, g1, (HX : Hid _), (K2 : Hid _), (HB4 : Hid _), (GV : Hid _)⟩ := alh_api_Node w
 have NE_q0_g1 := kn HP GV
 have GE_g1 := kg HF0 GV
 refine wp_run (v := (.pointer (some ⟨g1, 0, none⟩))) rfl rfl (run_alOp rfl HX.out) rfl ?_
 try simp only [nA, nB, nC]
 replace HP := ka HB4 HP
 replace HF0 := kf HF0 HB4
 refine we ?_
 go_upto_region 1 with fail
 refine rl ?_
 refine qv (.int .i64 3) ?_
 simp only [nA, nB, nC]
 refine we ?_
 go_upto_region 2 with fail
 refine rl ?_
 refine qb (beql_int 3 0 false (by decide)) ?_
 refine qv (.bool false) ?_
 simp only [nA, nB, nC]
 refine we ?_
 go_upto_region 4 with fail
 refine rl ?_
 refine qb (beql_int 3 1 false (by decide)) ?_
 refine qv (.bool false) ?_
 simp only [nA, nB, nC]
 refine we ?_
 go_upto_region 6 with fail
 refine rl ?_
 refine qb (beql_int 3 2 false (by decide)) ?_
 refine qv (.bool false) ?_
 simp only [nA, nB, nC]
 refine we ?_
 go_upto_region 8 with fail
 refine rl ?_
 refine qv (.pointer (some ⟨q0, 0, none⟩)) ?_
 simp only [nA, nB, nC]
 refine qc #[(.pointer (some ⟨q0, 0, none⟩))] ?_
 have HCA := hid (unary_2 HP.out (HT0.out.fr HF0.out HP0.out))
 refine HCA.out.mono ?_
 rintro e w5 ⟨rfl, hq⟩
 refine ⟨_, rfl, ?_⟩
 obtain ⟨hF, hp⟩ := hq
 replace K2 := hid (Fr.at hF K2.out (by simpa using (Ne.symm NE_q0_g1.out)))
 replace HF0 := hid (HF0.out.trans hF (by simp))
 replace HP := hid hp
 clear hF hp
 try simp only [Act.put, nA, nB, nC]
 obtain ⟨w6, hbx, hbk, hbf⟩ := st_x (T := 24) (c := #[(.int .i64 0), (strV []), (.int .i64 0), (.slice none 0 0), (.int .i64 0)]) (c' := #[(.int .i64 10), (strV [98]), (.int .i64 0), (.slice none 0 0), (.int .i64 4)]) (by kernel_rfl) rfl rfl K2.out (by intro v hv; simp at hv; rcases hv with rfl | rfl | rfl | rfl | rfl <;> first | rfl | assumption)
 replace K2 := hid hbk
 have HF7 := hid hbf
 have HX := hid hbx
 clear hbx hbk hbf
 refine wp_do rfl rfl (run_storeOp rfl (by kernel_rfl) (by kernel_rfl) HX.out) ?_
 try simp only [nA, nB, nC]
 replace HP := hid (Fr.at HF7.out HP.out (by simpa using NE_q0_g1.out))
 replace HF0 := hid (HF0.out.trans HF7.out (fun x hx => .inr (by rw [List.mem_singleton] at hx; rw [hx]; exact GE_g1.out)))
 refine we ?_
 go_wp2_with fail
 exact ret_cell rfl rfl rfl (load_blk Tryz.isAgg24 (by kernel_rfl) rfl K2.out) ⟨rfl, HF0.out, HP.out⟩
seal wpList in
theorem atom_4 {w : World} {q0 : Nat} {tv : Value} (hp : Psr w q0 tv 4 1) (ht : Tks w tv tk6) : Calls Tryz.prog 195 #[.pointer (some ⟨q0, 0, none⟩)] w fun e w' => e = .returned (.agg #[(.int .i64 5), (strV []), (.int .i64 1500000), (.slice none 0 0), (.int .i64 8)]) ∧ Fr [q0] w w' ∧ Psr w' q0 tv 5 1 := by
 have HP := hid hp
 have HP0 := hid hp
 have HT0 := hid ht
 have HF0 := hid (Fr.refl [q0] w)
 clear hp ht
 go_enter Tryz.func195, Tryz.ntmps195
 go_upto_region 0 with fail
 refine rl ?_
 obtain ⟨w3, g1, (HX : Hid _), (K2 : Hid _), (HB4 : Hid _), (GV : Hid _)⟩ := alh_api_Node w
 have NE_q0_g1 := kn HP GV
 have GE_g1 := kg HF0 GV
 refine wp_run (v := (.pointer (some ⟨g1, 0, none⟩))) rfl rfl (run_alOp rfl HX.out) rfl ?_
 try simp only [nA, nB, nC]
 replace HP := ka HB4 HP
 replace HF0 := kf HF0 HB4
 refine we ?_
 go_upto_region 1 with fail
 refine rl ?_
 refine qv (.pointer (some ⟨q0, 0, none⟩)) ?_
 refine qv (.pointer (some ⟨q0, 0, none⟩)) ?_
 refine qf (fa_usanceref07_parser_3 q0 0) ?_
 refine ql (.int .i64 0) Tryz.isAgg26 3 HP ?_
 simp only [nA, nB, nC]
 refine qb (bneq_api_Errno 0 0 false (by decide)) ?_
 simp only [nA, nB, nC]
 refine we ?_
 go_upto_region 3 with fail
 refine rl ?_
 refine qv (.pointer (some ⟨q0, 0, none⟩)) ?_
 simp only [nA, nB, nC]
 refine qc #[(.pointer (some ⟨q0, 0, none⟩))] ?_
 have HCA := hid (look_any (i := 4) (t := ⟨6, [], 1500000, 8⟩) HP.out (HT0.out.fr HF0.out HP0.out) rfl)
 refine HCA.out.mono ?_
 rintro e w5 ⟨rfl, (HB6 : Hid _)⟩
 refine ⟨_, rfl, ?_⟩
 replace HP := ka HB6 HP
 replace K2 := ka HB6 K2
 replace HF0 := kf HF0 HB6
 try simp only [Act.put, nA, nB, nC]
 obtain ⟨wv, w9, g7, hx1, hx2, hbk, hbb, hge⟩ := var_usanceref07_Token w5 6 [] 1500000 8
 have K8 := hid hbk
 have HBV := hid hbb
 have HX1 := hid hx1
 have HX2 := hid hx2
 have GV := hid hge
 clear hx1 hx2 hbk hbb hge
 refine wp_run (v := (.pointer (some ⟨g7, 0, none⟩))) rfl rfl (run_alOp rfl HX1.out) rfl ?_
 try simp only [nA, nB, nC]
 refine wp_do rfl rfl (run_storeOp rfl (by kernel_rfl) (by kernel_rfl) HX2.out) ?_
 try simp only [nA, nB, nC]
 clear HX1 HX2
 have NE_q0_g7 := kn HP GV
 have NE_g1_g7 := kn K2 GV
 have GE_g7 := kg HF0 GV
 replace HP := ka HBV HP
 replace K2 := ka HBV K2
 replace HF0 := kf HF0 HBV
 clear HBV GV
 refine we ?_
 go_upto_region 4 with fail
 refine rl ?_
 refine qf (fa_usanceref07_Token_3 g7 0) ?_
 refine ql (.int .i64 8) Tryz.isAgg3 3 K8 ?_
 refine qf (fa_usanceref07_Token_2 g7 0) ?_
 refine ql (.int .i64 1500000) Tryz.isAgg2 2 K8 ?_
 simp only [nA, nB, nC]
 refine wp_y (v := (.agg #[(.int .i64 0), (strV []), (.int .i64 1500000), (.slice none 0 0), (.int .i64 8)])) rfl rfl (y_val2 rfl (h := fun w' h => by rw [h]; exact run_buildOp rfl (by kernel_rfl) (bu_api_Node_4_2 w9 8 1500000))) rfl ?_
 simp only [nA, nB, nC]
 obtain ⟨wv, w12, g10, hx1, hx2, hbk, hbb, hge⟩ := var_api_Node w9 0 [] 1500000 none 0 0 8
 have K11 := hid hbk
 have HBV := hid hbb
 have HX1 := hid hx1
 have HX2 := hid hx2
 have GV := hid hge
 clear hx1 hx2 hbk hbb hge
 refine wp_run (v := (.pointer (some ⟨g10, 0, none⟩))) rfl rfl (run_alOp rfl HX1.out) rfl ?_
 try simp only [nA, nB, nC]
 refine wp_do rfl rfl (run_storeOp rfl (by kernel_rfl) (by kernel_rfl) HX2.out) ?_
 try simp only [nA, nB, nC]
 clear HX1 HX2
 have NE_q0_g10 := kn HP GV
 have NE_g1_g10 := kn K2 GV
 have NE_g7_g10 := kn K8 GV
 have GE_g10 := kg HF0 GV
 replace HP := ka HBV HP
 replace K2 := ka HBV K2
 replace K8 := ka HBV K8
 replace HF0 := kf HF0 HBV
 clear HBV GV
 refine we ?_
 go_upto_region 7 with fail
 refine rl ?_
 refine qf (fa_usanceref07_Token_0 g7 0) ?_
 refine ql (.int .i64 6) Tryz.isAgg3 0 K8 ?_
 refine qb (beql_int 6 6 true (by decide)) ?_
 refine qv (.bool true) ?_
 simp only [nA, nB, nC]
 refine we ?_
 go_upto_region 8 with fail
 refine rl ?_
 refine qf (fa_api_Node_0 g10 0) ?_
 simp only [nA, nB, nC]
 obtain ⟨w13, hbx, hbk, hbf⟩ := st1_x sz_int (.int .i64 5) (c' := #[(.int .i64 5), (strV []), (.int .i64 1500000), (.slice none 0 0), (.int .i64 8)]) K11.out (i := 0) rfl rfl rfl rfl
 replace K11 := hid hbk
 have HF14 := hid hbf
 have HX := hid hbx
 clear hbx hbk hbf
 refine wp_do rfl rfl (run_storeOp rfl (by kernel_rfl) (by kernel_rfl) HX.out) ?_
 try simp only [nA, nB, nC]
 replace HP := hid (Fr.at HF14.out HP.out (by simpa using NE_q0_g10.out))
 replace K2 := hid (Fr.at HF14.out K2.out (by simpa using NE_g1_g10.out))
 replace K8 := hid (Fr.at HF14.out K8.out (by simpa using NE_g7_g10.out))
 replace HF0 := hid (HF0.out.trans HF14.out (fun x hx => .inr (by rw [List.mem_singleton] at hx; rw [hx]; exact GE_g10.out)))
 refine we ?_
 go_upto_region 37 with fail
 refine rl ?_
 refine qv (.pointer (some ⟨q0, 0, none⟩)) ?_
 simp only [nA, nB, nC]
 refine qc #[(.pointer (some ⟨q0, 0, none⟩))] ?_
 have HCA := hid (step_any (i := 4) (t := ⟨6, [], 1500000, 8⟩) HP.out (HT0.out.fr HF0.out HP0.out) rfl rfl)
 refine HCA.out.mono ?_
 rintro e w15 ⟨rfl, hq⟩
 refine ⟨_, rfl, ?_⟩
 obtain ⟨hF, hp⟩ := hq
 replace K2 := hid (Fr.at hF K2.out (by simpa using (Ne.symm NE_q0_g1.out)))
 replace K8 := hid (Fr.at hF K8.out (by simpa using (Ne.symm NE_q0_g7.out)))
 replace K11 := hid (Fr.at hF K11.out (by simpa using (Ne.symm NE_q0_g10.out)))
 replace HF0 := hid (HF0.out.trans hF (by simp))
 replace HP := hid hp
 clear hF hp
 try simp only [Act.put, nA, nB, nC]
 refine we ?_
 go_upto_region 38 with fail
 refine rl ?_
 refine qv (.pointer (some ⟨q0, 0, none⟩)) ?_
 refine qk (.agg #[(.int .i64 5), (strV []), (.int .i64 1500000), (.slice none 0 0), (.int .i64 8)]) Tryz.isAgg24 K11 ?_
 simp only [nA, nB, nC]
 refine qc #[(.pointer (some ⟨q0, 0, none⟩)), (.agg #[(.int .i64 5), (strV []), (.int .i64 1500000), (.slice none 0 0), (.int .i64 8)])] ?_
 have HCA := hid (pmade_any HP.out (t := .mk 5 [] 1500000 [] 8) (.mk _ _ _ [] _ none 0 (fun _ => undef) (by decide) (fun i hi => by simp at hi) (fun i t ht => by simp at ht)) (by decide))
 refine HCA.out.mono ?_
 rintro e w16 ⟨rfl, (HB17 : Hid _)⟩
 refine ⟨_, rfl, ?_⟩
 replace HP := ka HB17 HP
 replace K2 := ka HB17 K2
 replace K8 := ka HB17 K8
 replace K11 := ka HB17 K11
 replace HF0 := kf HF0 HB17
 try simp only [Act.put, nA, nB, nC]
 obtain ⟨w18, hbx, hbk, hbf⟩ := st_x (T := 24) (c := #[(.int .i64 0), (strV []), (.int .i64 0), (.slice none 0 0), (.int .i64 0)]) (c' := #[(.int .i64 5), (strV []), (.int .i64 1500000), (.slice none 0 0), (.int .i64 8)]) (by kernel_rfl) rfl rfl K2.out (by intro v hv; simp at hv; rcases hv with rfl | rfl | rfl | rfl | rfl <;> first | rfl | assumption)
 replace K2 := hid hbk
 have HF19 := hid hbf
 have HX := hid hbx
 clear hbx hbk hbf
 refine wp_do rfl rfl (run_storeOp rfl (by kernel_rfl) (by kernel_rfl) HX.out) ?_
 try simp only [nA, nB, nC]
 replace HP := hid (Fr.at HF19.out HP.out (by simpa using NE_q0_g1.out))
 replace K8 := hid (Fr.at HF19.out K8.out (by simpa using (Ne.symm NE_g1_g7.out)))
 replace K11 := hid (Fr.at HF19.out K11.out (by simpa using (Ne.symm NE_g1_g10.out)))
 replace HF0 := hid (HF0.out.trans HF19.out (fun x hx => .inr (by rw [List.mem_singleton] at hx; rw [hx]; exact GE_g1.out)))
 refine we ?_
 go_wp2_with fail
 exact ret_cell rfl rfl rfl (load_blk Tryz.isAgg24 (by kernel_rfl) rfl K2.out) ⟨rfl, HF0.out, HP.out⟩
seal wpList in
theorem unary_4 {w : World} {q0 : Nat} {tv : Value} (hp : Psr w q0 tv 4 1) (ht : Tks w tv tk6) : Calls Tryz.prog 182 #[.pointer (some ⟨q0, 0, none⟩)] w fun e w' => e = .returned (.agg #[(.int .i64 5), (strV []), (.int .i64 1500000), (.slice none 0 0), (.int .i64 8)]) ∧ Fr [q0] w w' ∧ Psr w' q0 tv 5 1 := by
 have HP := hid hp
 have HP0 := hid hp
 have HT0 := hid ht
 have HF0 := hid (Fr.refl [q0] w)
 clear hp ht
 go_enter Tryz.func182, Tryz.ntmps182
 go_upto_region 0 with fail
 refine rl ?_
 obtain ⟨w3, g1, (HX : Hid _), (K2 : Hid _), (HB4 : Hid _), (GV : Hid _)⟩ := alh_api_Node w
 have NE_q0_g1 := kn HP GV
 have GE_g1 := kg HF0 GV
 refine wp_run (v := (.pointer (some ⟨g1, 0, none⟩))) rfl rfl (run_alOp rfl HX.out) rfl ?_
 try simp only [nA, nB, nC]
 replace HP := ka HB4 HP
 replace HF0 := kf HF0 HB4
 refine we ?_
 go_upto_region 1 with fail
 refine rl ?_
 refine qv (.pointer (some ⟨q0, 0, none⟩)) ?_
 simp only [nA, nB, nC]
 refine qc #[(.pointer (some ⟨q0, 0, none⟩)), (strV [45])] ?_
 have HCA := hid (is_any (i := 4) (t := ⟨6, [], 1500000, 8⟩) HP.out (HT0.out.fr HF0.out HP0.out) rfl [45])
 refine HCA.out.mono ?_
 rintro e w5 ⟨he, hq⟩
 rw [(show Tok.is ⟨6, [], 1500000, 8⟩ [45] = false from rfl)] at he
 subst he
 refine ⟨_, rfl, ?_⟩
 have HB6 := hid hq
 clear hq
 replace HP := ka HB6 HP
 replace K2 := ka HB6 K2
 replace HF0 := kf HF0 HB6
 try simp only [Act.put, nA, nB, nC]
 refine qv (.bool false) ?_
 simp only [nA, nB, nC]
 refine we ?_
 go_upto_region 2 with fail
 refine rl ?_
 refine qv (.bool false) ?_
 simp only [nA, nB, nC]
 refine we ?_
 go_upto_region 4 with fail
 refine rl ?_
 refine qv (.pointer (some ⟨q0, 0, none⟩)) ?_
 simp only [nA, nB, nC]
 refine qc #[(.pointer (some ⟨q0, 0, none⟩))] ?_
 have HCA := hid (atom_4 HP.out (HT0.out.fr HF0.out HP0.out))
 refine HCA.out.mono ?_
 rintro e w7 ⟨rfl, hq⟩
 refine ⟨_, rfl, ?_⟩
 obtain ⟨hF, hp⟩ := hq
 replace K2 := hid (Fr.at hF K2.out (by simpa using (Ne.symm NE_q0_g1.out)))
 replace HF0 := hid (HF0.out.trans hF (by simp))
 replace HP := hid hp
 clear hF hp
 try simp only [Act.put, nA, nB, nC]
 obtain ⟨w8, hbx, hbk, hbf⟩ := st_x (T := 24) (c := #[(.int .i64 0), (strV []), (.int .i64 0), (.slice none 0 0), (.int .i64 0)]) (c' := #[(.int .i64 5), (strV []), (.int .i64 1500000), (.slice none 0 0), (.int .i64 8)]) (by kernel_rfl) rfl rfl K2.out (by intro v hv; simp at hv; rcases hv with rfl | rfl | rfl | rfl | rfl <;> first | rfl | assumption)
 replace K2 := hid hbk
 have HF9 := hid hbf
 have HX := hid hbx
 clear hbx hbk hbf
 refine wp_do rfl rfl (run_storeOp rfl (by kernel_rfl) (by kernel_rfl) HX.out) ?_
 try simp only [nA, nB, nC]
 replace HP := hid (Fr.at HF9.out HP.out (by simpa using NE_q0_g1.out))
 replace HF0 := hid (HF0.out.trans HF9.out (fun x hx => .inr (by rw [List.mem_singleton] at hx; rw [hx]; exact GE_g1.out)))
 refine we ?_
 go_wp2_with fail
 exact ret_cell rfl rfl rfl (load_blk Tryz.isAgg24 (by kernel_rfl) rfl K2.out) ⟨rfl, HF0.out, HP.out⟩
seal wpList in
theorem lower3_4 {w : World} {q0 : Nat} {tv : Value} (hp : Psr w q0 tv 4 1) (ht : Tks w tv tk6) : Calls Tryz.prog 143 #[.pointer (some ⟨q0, 0, none⟩), .int .i64 3] w fun e w' => e = .returned (.agg #[(.int .i64 5), (strV []), (.int .i64 1500000), (.slice none 0 0), (.int .i64 8)]) ∧ Fr [q0] w w' ∧ Psr w' q0 tv 5 1 := by
 have HP := hid hp
 have HP0 := hid hp
 have HT0 := hid ht
 have HF0 := hid (Fr.refl [q0] w)
 clear hp ht
 go_enter Tryz.func143, Tryz.ntmps143
 go_upto_region 0 with fail
 refine rl ?_
 obtain ⟨w3, g1, (HX : Hid _), (K2 : Hid _), (HB4 : Hid _), (GV : Hid _)⟩ := alh_api_Node w
 have NE_q0_g1 := kn HP GV
 have GE_g1 := kg HF0 GV
 refine wp_run (v := (.pointer (some ⟨g1, 0, none⟩))) rfl rfl (run_alOp rfl HX.out) rfl ?_
 try simp only [nA, nB, nC]
 replace HP := ka HB4 HP
 replace HF0 := kf HF0 HB4
 refine we ?_
 go_upto_region 1 with fail
 refine rl ?_
 refine qv (.int .i64 3) ?_
 simp only [nA, nB, nC]
 refine we ?_
 go_upto_region 2 with fail
 refine rl ?_
 refine qb (beql_int 3 0 false (by decide)) ?_
 refine qv (.bool false) ?_
 simp only [nA, nB, nC]
 refine we ?_
 go_upto_region 4 with fail
 refine rl ?_
 refine qb (beql_int 3 1 false (by decide)) ?_
 refine qv (.bool false) ?_
 simp only [nA, nB, nC]
 refine we ?_
 go_upto_region 6 with fail
 refine rl ?_
 refine qb (beql_int 3 2 false (by decide)) ?_
 refine qv (.bool false) ?_
 simp only [nA, nB, nC]
 refine we ?_
 go_upto_region 8 with fail
 refine rl ?_
 refine qv (.pointer (some ⟨q0, 0, none⟩)) ?_
 simp only [nA, nB, nC]
 refine qc #[(.pointer (some ⟨q0, 0, none⟩))] ?_
 have HCA := hid (unary_4 HP.out (HT0.out.fr HF0.out HP0.out))
 refine HCA.out.mono ?_
 rintro e w5 ⟨rfl, hq⟩
 refine ⟨_, rfl, ?_⟩
 obtain ⟨hF, hp⟩ := hq
 replace K2 := hid (Fr.at hF K2.out (by simpa using (Ne.symm NE_q0_g1.out)))
 replace HF0 := hid (HF0.out.trans hF (by simp))
 replace HP := hid hp
 clear hF hp
 try simp only [Act.put, nA, nB, nC]
 obtain ⟨w6, hbx, hbk, hbf⟩ := st_x (T := 24) (c := #[(.int .i64 0), (strV []), (.int .i64 0), (.slice none 0 0), (.int .i64 0)]) (c' := #[(.int .i64 5), (strV []), (.int .i64 1500000), (.slice none 0 0), (.int .i64 8)]) (by kernel_rfl) rfl rfl K2.out (by intro v hv; simp at hv; rcases hv with rfl | rfl | rfl | rfl | rfl <;> first | rfl | assumption)
 replace K2 := hid hbk
 have HF7 := hid hbf
 have HX := hid hbx
 clear hbx hbk hbf
 refine wp_do rfl rfl (run_storeOp rfl (by kernel_rfl) (by kernel_rfl) HX.out) ?_
 try simp only [nA, nB, nC]
 replace HP := hid (Fr.at HF7.out HP.out (by simpa using NE_q0_g1.out))
 replace HF0 := hid (HF0.out.trans HF7.out (fun x hx => .inr (by rw [List.mem_singleton] at hx; rw [hx]; exact GE_g1.out)))
 refine we ?_
 go_wp2_with fail
 exact ret_cell rfl rfl rfl (load_blk Tryz.isAgg24 (by kernel_rfl) rfl K2.out) ⟨rfl, HF0.out, HP.out⟩
end Go.Proofs.YtgpkcjpanpbhdaaGreatDoor
