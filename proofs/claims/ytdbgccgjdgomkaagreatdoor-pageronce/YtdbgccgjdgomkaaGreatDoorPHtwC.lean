/- A head is laid to be written, and read; Format, Open. -/
import Derived.Test.YtdbgccgjdgomkaaGreatDoorPReadC
namespace Go.Proofs.YtdbgccgjdgomkaaGreatDoor
open Go Go.RowKit

/-- A part of a value of many bytes: its block, the block's kind, which part, and the bytes of the whole. -/
structure Pq where
  g : Nat
  t : TypeId
  x : Nat
  L : List UInt8
def Pq.val (q : Pq) : Value := chk q.g 0 q.x
def Pq.by (q : Pq) : List UInt8 := (q.L.drop (q.x * 112)).take 112
def Pq.ok (w : World) (q : Pq) : Prop := Rw w q.g q.t q.L ∧ (q.t = 70 ∨ q.t = 109) ∧ q.x * 112 + 112 ≤ q.L.length
theorem Pq.by_len {w : World} {q : Pq} (h : q.ok w) : q.by.length = 112 := by
  have := h.2.2
  unfold Pq.by
  rw [List.length_take, List.length_drop]; omega
theorem Pq.sl {w : World} {q : Pq} (h : q.ok w) : Sl w q.val q.by := by
  have h1 := h.1.rd.part (q.x * 112) 112
  have hl := Pq.by_len h
  unfold Pq.val chk
  have h2 := Sl.mk (cap := 112) h1 (by show q.by.length ≤ _; omega)
  have : ((q.L.drop (q.x * 112)).take 112).length = 112 := hl
  rw [this] at h2
  exact h2
theorem Pq.ot {w w' : World} {q : Pq} (h : q.ok w) (hO : Ot2 w w') : q.ok w' := by
  refine ⟨hO.block _ _ h.1 (fun c e => ?_) (fun c e => ?_), h.2⟩
  · injection e with _ e2
    rcases h.2.1 with h1 | h1 <;> rw [h1] at e2 <;> exact absurd e2 (by decide)
  · injection e with _ e2
    rcases h.2.1 with h1 | h1 <;> rw [h1] at e2 <;> exact absurd e2 (by decide)
theorem Pq.below {w w' : World} {q : Pq} (h : q.ok w) (hB : Below w.heap.size w w') : q.ok w' := ⟨h.1.below hB h.1.lt, h.2⟩
/-- The slice v has these parts. -/
def Bq (w : World) (B : Nat) (v : Value) (qs : List Pq) : Prop := w.ownsRow B 49 1 v qs.length (qs.map Pq.val) ∧ ∀ q ∈ qs, q.ok w
theorem Bq.below {w w' : World} {B : Nat} {v : Value} {qs : List Pq} (h : Bq w B v qs) (hB : Below w.heap.size w w') : Bq w' B v qs := ⟨owns_below2 h.1 hB, fun q hq => Pq.below (h.2 q hq) hB⟩
theorem Bq.bz {w : World} {B : Nat} {v : Value} {qs : List Pq} (h : Bq w B v qs) : Bz w v (qs.map Pq.by) := by
  obtain ⟨a, cap, hv⟩ : ∃ a cap, v = .slice a qs.length cap := by
    rcases h.1.2 with ⟨rfl, h0⟩ | ⟨g, cap, cur, rfl, _⟩
    · exact ⟨none, 0, by rw [h0]⟩
    · exact ⟨_, cap, rfl⟩
  refine ⟨a, cap, by rw [hv, List.length_map], fun k hk => ?_⟩
  rw [List.length_map] at hk
  obtain ⟨q, hq⟩ : ∃ q, qs[k]? = some q := ⟨qs[k], List.getElem?_eq_getElem hk⟩
  have hok := h.2 q (List.mem_of_getElem? hq)
  have hg : (qs.map Pq.by).getD k [] = q.by := by simp [List.getD, hq]
  rcases h.1.2 with ⟨e, h0⟩ | ⟨g, cap', cur, e, hb, hgg, hc, hm, hs, ht⟩
  · omega
  · rw [hv] at e
    injection e with e1 e2 e3
    subst e1
    refine ⟨g, 0, some ⟨q.g, 0 + q.x * 112, none⟩, 112, rfl, ?_, ?_⟩
    · rw [Nat.zero_add, hg, Pq.by_len hok]
      refine cell_at hgg k ?_
      have h1 : (qs.map Pq.val)[k]? = some q.val := by rw [List.getElem?_map, hq]; rfl
      rw [← ht, List.getElem?_take_of_lt (by omega)] at h1
      rw [Array.getElem?_toList] at h1
      exact h1
    · rw [hg]
      have := Pq.sl hok
      unfold Pq.val chk at this
      rw [Pq.by_len hok]
      exact this
theorem parr70 (g cap : Nat) (w : World) : (Instr.arrayAt 70 (.slice (some ⟨g, 0, none⟩) 224 cap)).run Tryz.prog w = .ok (.pointer (some ⟨g, 0, none⟩)) w := by
  simp [Instr.arrayAt, run_underlying punder70, Sem.run_bind, Sem.run_pure, Result.andThen]
theorem parr109 (g o cap : Nat) (w : World) : (Instr.arrayAt 109 (.slice (some ⟨g, o, none⟩) 896 cap)).run Tryz.prog w = .ok (.pointer (some ⟨g, o, none⟩)) w := by
  simp [Instr.arrayAt, run_underlying under109, Sem.run_bind, Sem.run_pure, Result.andThen]
/-- Bytes that lie somewhere, as one value. -/
theorem load_rd {T : TypeId} {k : Nat} (ha : ∀ w, (isAgg T).run Tryz.prog w = .ok true w) (hz : (Tryz.prog.info? T).map (·.size) = some k) {w : World} {g o : Nat} {l : List UInt8} (hl : l.length = k) (h : Rd w g o l) : (Instr.loadAt T (.pointer (some ⟨g, o, none⟩))).run Tryz.prog w = .ok (V8 l) w := by
  have hc := run_loadCells_list (P := Tryz.prog) w ⟨g, o, none⟩ (cells8 l) (fun j v hv => by
    have hj : j < l.length := by have := (List.getElem?_eq_some_iff.1 hv).1; rwa [cells8_len] at this
    rw [cells8_get l j hj] at hv
    cases hv
    rw [add_lit]
    exact h j hj)
  rw [cells8_len, hl] at hc
  unfold V8
  simp only [Instr.loadAt, Instr.sureAddr, Sem.run_bind, Sem.run_pure, Result.andThen, loadVar, ha, run_size hz, hc, if_true]
set_option maxRecDepth 100000 in
set_option maxHeartbeats 1000000 in
theorem htw_any (l : List Bool) (kl kr : Int) (hl : l.length ≤ 1023) (r : Nat) (hr : kr + 1 = (r : Int)) (hr2 : r < 65536) (w : World) :
    Calls Tryz.prog 52 #[St l kl kr] w fun e w' => ∃ va vb g, e = .returned (.tuple #[va, vb]) ∧ Ats w' w.heap.size va [0, 1] ∧ Bq w' w.heap.size vb [⟨g, 70, 0, hdOf l r⟩, ⟨g, 70, 1, hdOf l r⟩] ∧ Below w.heap.size w w' := by
  obtain ⟨g0, hg0⟩ : ∃ g, w.heap.size = g := ⟨_, rfl⟩
  have hbx := pbox76 w l kl kr
  have hB1 : Below w.heap.size w (w.alloc (.cells (stC l kl kr).toArray 76)) := (Below.refl _ _).alloc (Nat.le_refl _) _
  have hS1 : Sb (w.alloc (.cells (stC l kl kr).toArray 76)) w.heap.size l kl kr := heap_alloc_last w _
  generalize hw1 : w.alloc (.cells (stC l kl kr).toArray 76) = w1 at *
  rw [hg0] at hbx hS1 hB1 ⊢
  have hz1 : g0 ≤ w1.heap.size := by rw [← hg0]; exact hB1.size
  have HHS := hid (head_state l kl kr hl r hr hr2 w1)
  have hdl := hdOf_len l r
  obtain ⟨hd, hhd⟩ : ∃ hd, hdOf l r = hd := ⟨_, rfl⟩
  rw [hhd] at HHS hdl ⊢
  have HBX := hid hbx
  have HLD := hid (pload76 hl hS1)
  have H1 := hid (And.intro hB1 hz1)
  have HDL := hid hdl
  clear hbx hB1 hS1 hw1 hz1 hl hr hr2 hdl hhd hg0
  go_enter Tryz.func52, Tryz.ntmps52
  go_upto_region 0 with fail
  refine wp_region_lit ?_
  refine wp_run (v := .pointer (some ⟨g0, 0, none⟩)) rfl rfl (run_boxOp rfl (by kernel_rfl) HBX.out) rfl ?_
  refine wp_y (v := (.slice none 0 0)) rfl rfl (y_assign rfl (by kernel_rfl) (by kernel_rfl)) rfl ?_
  refine wp_y (v := (.slice none 0 0)) rfl rfl (y_assign rfl (by kernel_rfl) (by kernel_rfl)) rfl ?_
  try simp only [List.setIfInBounds_toArray, List.set_cons_zero, List.set_cons_succ]
  refine wp_end ?_
  go_upto_region 1 with fail
  refine wp_region_lit ?_
  refine wp_y (v := St l kl kr) rfl rfl (y_load rfl (by kernel_rfl) (by kernel_rfl) (fun w' h => by rw [h]; exact HLD.out)) rfl ?_
  refine wp_call (f := 84) (args := #[St l kl kr]) (by kernel_rfl) (fun w => by go_simp) ?_
  refine HHS.out.mono ?_
  rintro e w2 ⟨rfl, hB2⟩
  refine ⟨_, rfl, ?_⟩
  have h1 := H1.out
  have hB2g : Below g0 w w2 := h1.1.trans (hB2.mono h1.2)
  obtain ⟨g2, hg2⟩ : ∃ g, w2.heap.size = g := ⟨_, rfl⟩
  have hal := palloc70 w2
  have hB3 : Below w2.heap.size w2 (w2.alloc (.cells (cells8 z224).toArray 70)) := (Below.refl _ _).alloc (Nat.le_refl _) _
  have hR3 : Rw (w2.alloc (.cells (cells8 z224).toArray 70)) w2.heap.size 70 z224 := heap_alloc_last w2 _
  generalize w2.alloc (.cells (cells8 z224).toArray 70) = w3 at *
  rw [hg2] at hal hB3 hR3
  have hg02 : g0 ≤ g2 := by rw [← hg2]; exact Nat.le_trans h1.2 hB2.size
  have hst := pstore70 z224_len HDL.out hR3
  have hR4 := hR3.row hd
  have hF4 := Fr.setRow w3 g2 (cells8 hd).toArray
  generalize w3.setRow g2 (cells8 hd).toArray = w4 at *
  have hB4 : Below g0 w w4 := (hB2g.trans (hB3.mono hg02)).trans (hF4.below (by have := hR3.lt; omega) (by simp; omega))
  have HAL := hid hal
  have HST := hid hst
  have H4 := hid (And.intro hR4 (And.intro hB4 (And.intro hg02 (Nat.lt_of_lt_of_le hR3.lt hF4.size))))
  clear h1 hB2 hB2g hB3 hR3 hal hst hR4 hF4 hB4 hg2 hg02 H1
  dsimp only [Act.put]
  refine wp_run (v := .pointer (some ⟨g2, 0, none⟩)) rfl rfl (run_alOp rfl HAL.out) rfl ?_
  refine wp_do rfl rfl (run_storeOp rfl (by kernel_rfl) (by kernel_rfl) HST.out) ?_
  try simp only [List.setIfInBounds_toArray, List.set_cons_zero, List.set_cons_succ]
  refine wp_end ?_
  clear HHS HLD HAL HST HBX
  go_upto_region 2 with fail
  refine wp_region_lit ?_
  refine wp_y (v := .slice (some ⟨g2, 0, none⟩) 224 224) rfl rfl (y_slice rfl (by kernel_rfl) (by kernel_rfl) (by kernel_rfl) (by kernel_rfl) (by kernel_rfl) (sl70 g2)) rfl ?_
  refine wp_call (f := 55) (args := #[.slice none 0 0, .slice none 0 0, .int .i64 0, .slice (some ⟨g2, 0, none⟩) 224 224]) (by kernel_rfl) (fun w => by go_simp) ?_
  have h4 := H4.out
  refine (also_any (B := g0) (zs := []) (ps := []) (World.ownsRow_nil _ _ _ _) (World.ownsRow_nil _ _ _ _) (by omega) 0 (by decide) (by decide) g2 0 224 224 2 rfl (Nat.le_refl _) (by decide) (by simp) (by simp)).mono ?_
  rintro e w5 ⟨va, vb, rfl, hA5, hO5, hB5, hT5⟩
  refine ⟨_, rfl, ?_⟩
  have hq : ∀ x, x < 2 → (Pq.ok w5 ⟨g2, 70, x, hd⟩) := fun x hx => Pq.ot (w := w4) ⟨h4.1, .inl rfl, by show x * 112 + 112 ≤ hd.length; rw [HDL.out]; omega⟩ hT5
  have HZ : Hid (∃ va' vb' g, (Ending.returned (.tuple #[va, vb]) : Ending) = .returned (.tuple #[va', vb']) ∧ Ats w5 g0 va' [0, 1] ∧ Bq w5 g0 vb' [⟨g, 70, 0, hd⟩, ⟨g, 70, 1, hd⟩] ∧ Below g0 w w5) := hid ⟨va, vb, g2, rfl, hA5, ⟨hO5, fun q hm => by
    simp only [List.mem_cons, List.not_mem_nil, or_false] at hm
    rcases hm with rfl | rfl
    · exact hq 0 (by decide)
    · exact hq 1 (by decide)⟩, h4.2.1.trans hB5⟩
  clear h4 hA5 hO5 hB5 hT5 hq H4
  dsimp only [Act.put]
  refine wp_y (v := va) rfl rfl (y_ext rfl (by kernel_rfl) (by kernel_rfl) (ext2_0 (va) (vb))) rfl ?_
  refine wp_y (v := vb) rfl rfl (y_ext rfl (by kernel_rfl) (by kernel_rfl) (ext2_1 (va) (vb))) rfl ?_
  refine wp_y (v := va) rfl rfl (y_assign rfl (by kernel_rfl) (by kernel_rfl)) rfl ?_
  refine wp_y (v := vb) rfl rfl (y_assign rfl (by kernel_rfl) (by kernel_rfl)) rfl ?_
  try simp only [List.setIfInBounds_toArray, List.set_cons_zero, List.set_cons_succ]
  refine wp_end ?_
  go_wp2_with fail
  go_ret2
  exact HZ.out
set_option maxRecDepth 100000 in
set_option maxHeartbeats 1000000 in
theorem readHead_any {w : World} {j p : Nat} {X : List Nat} {s : DS} {sq cnt : Nat} {bl : List (List UInt8)} (h : Jr w j p X s sq cnt bl) (hb : 2 ≤ bl.length) :
    Calls Tryz.prog 39 #[.pointer (some ⟨j, 0, none⟩)] w fun e w' => e = .returned (.tuple #[V8 (cat bl 0 2), .int .i64 0]) ∧ Below w.heap.size w w' := by
  obtain ⟨g0, hg0⟩ : ∃ g, w.heap.size = g := ⟨_, rfl⟩
  have hal := palloc70 w
  have hB1 : Below w.heap.size w (w.alloc (.cells (cells8 z224).toArray 70)) := (Below.refl _ _).alloc (Nat.le_refl _) _
  have hR1 : Rw (w.alloc (.cells (cells8 z224).toArray 70)) w.heap.size 70 z224 := heap_alloc_last w _
  generalize hw1 : w.alloc (.cells (cells8 z224).toArray 70) = w1 at *
  have hJ1 := h.below hB1
  rw [hg0] at hal hR1 hB1 ⊢
  have HRB := hid (readBlocks_any hJ1 0 2 (by omega) (by decide))
  have hcl : (cat bl 0 2).length = 224 := cat_len bl h.sett.con.lens 0 2 (by omega)
  generalize cat bl 0 2 = hd at *
  have HAL := hid hal
  have H1 := hid (And.intro hB1 (And.intro hR1 hcl))
  have HG0 := hid hg0
  clear hal hB1 hR1 hJ1 hcl hw1 h hb hg0
  go_enter Tryz.func39, Tryz.ntmps39
  go_upto_region 0 with fail
  refine wp_region_lit ?_
  refine wp_run (v := .pointer (some ⟨g0, 0, none⟩)) rfl rfl (run_alOp rfl HAL.out) rfl ?_
  refine wp_y (v := (.int .i64 0)) rfl rfl (y_assign rfl (by kernel_rfl) (by kernel_rfl)) rfl ?_
  try simp only [List.setIfInBounds_toArray, List.set_cons_zero, List.set_cons_succ]
  refine wp_end ?_
  go_wp2_with fail
  refine HRB.out.mono ?_
  rintro e w2 ⟨v, rfl, ho, hB2⟩
  have h1 := H1.out
  have hR2 : Rw w2 g0 70 z224 := h1.2.1.below hB2 h1.2.1.lt
  obtain ⟨g, cap, hv⟩ : ∃ g cap, v = .slice (some ⟨g, 0, none⟩) 224 cap := by
    rcases ho.2 with ⟨_, h0⟩ | ⟨g, cap, cur, e, _⟩
    · exact absurd h0 (by decide)
    · exact ⟨g, cap, e⟩
  subst hv
  have hrd : Rd w2 g 0 hd := fun k hk => by
    have hc := ho.cells (g := g) rfl k _ (cells8_get hd k hk)
    rwa [Addr.add_lit] at hc
  have HLD := hid (load_rd hagg70 hsize70 h1.2.2 hrd)
  have HST := hid (pstore70 z224_len h1.2.2 hR2)
  have HLR := hid (pload70 h1.2.2 (hR2.row hd))
  have HZ : Hid (Below g0 w (w2.setRow g0 (cells8 hd).toArray)) := hid ((h1.1.trans (hB2.mono (by have := h1.2.1.lt; omega))).trans ((Fr.setRow w2 g0 _).below (by have := hB2.size; have := h1.2.1.lt; omega) (by simp)))
  clear ho hB2 h1 hR2 hrd HRB H1
  go_upto_region 4 with fail
  refine wp_region_lit ?_
  refine wp_y (v := .slice (some ⟨g, 0, none⟩) 224 cap) rfl rfl (y_move rfl (by kernel_rfl) (by kernel_rfl)) rfl ?_
  refine wp_y (v := .pointer (some ⟨g, 0, none⟩)) rfl rfl (y_arr rfl (by kernel_rfl) (by kernel_rfl) (parr70 g cap)) rfl ?_
  refine wp_y (v := V8 hd) rfl rfl (y_load rfl (by kernel_rfl) (by kernel_rfl) (fun w' h => by rw [h]; exact HLD.out)) rfl ?_
  refine wp_do rfl rfl (run_storeOp rfl (by kernel_rfl) (by kernel_rfl) HST.out) ?_
  refine wp_y (v := (.int .i64 0)) rfl rfl (y_assign rfl (by kernel_rfl) (by kernel_rfl)) rfl ?_
  try simp only [List.setIfInBounds_toArray, List.set_cons_zero, List.set_cons_succ]
  refine wp_end ?_
  go_wp2_with fail
  exact ret_pair rfl rfl rfl HLR.out ⟨rfl, HZ.out⟩
end Go.Proofs.YtdbgccgjdgomkaaGreatDoor
