/- the text PRefG -/
import Derived.Test.YtcmgclkbhhdnaaaGreatDoorPRefFC
namespace Go.Proofs.YtcmgclkbhhdnaaaGreatDoor
open Go Go.RowKit
variable {Z : Nat → Prop}

theorem rstore95z {w : World} {g : Nat} {a b c d e : Value} (h : w.heap[g]? = some (.cells #[a, b, c, d, e] 95 (0, 0))) (v : Value) (hv : v.oneCell' = true) (rt : Int) : (Instr.storeAt 93 (.pointer (some ⟨g, 0, none⟩)) (Rs v rt)).run Tryz.prog w = .ok () (w.setRow g #[v, .int .i64 rt, c, d, e]) := by
  have h1 := storeAt_k (P := Tryz.prog) size93 w g 0 #[a, b, c, d, e] 95 [v, .int .i64 rt] rfl h (by simp) (by intro u hu; simp at hu; rcases hu with rfl | rfl; exact hv; rfl)
  have e1 : relaid #[a, b, c, d, e] 0 [v, .int .i64 rt] = #[v, .int .i64 rt, c, d, e] := by simp [relaid]
  rw [e1] at h1
  exact h1
theorem pV_one (x : Option Nat) : (pV x).oneCell' = true := by cases x <;> rfl
/-- A row of pointers, cloned. -/
theorem clone_row {w : World} {B : Nat} {a : Option Addr} {n c : Nat} {al : List (Option Nat)} (hp : w.ownsRow B 148 1 (.slice a n c) n (al.map pV)) (h1 : 1 ≤ n) (h2 : n ≤ 1023) (rt : Int) :
    Calls Tryz.prog 43 #[Rs (.slice a n c) rt] w fun e w' => ∃ v', e = .returned (Rs v' rt) ∧ w'.ownsRow w.heap.size 148 1 v' n (al.map pV) ∧ Below w.heap.size w w' := by
  have hl : (al.map pV).length = n := by have := hp.1; omega
  obtain ⟨g, rfl, hg⟩ : ∃ g, a = some ⟨g, 0, none⟩ ∧ g < w.heap.size := by
    rcases hp.2 with ⟨_, h0⟩ | ⟨g, cap, cs, e, _, hh, _⟩
    · omega
    · injection e with e1 _ _
      exact ⟨g, e1, heap_lt hh⟩
  exact rclone_any hl h1 (by omega) (fun k x hx => by
    obtain ⟨g', e, hc, _⟩ := owns_at hp hx
    cases e
    exact hc) (fun x hx => by
    obtain ⟨y, _, rfl⟩ := List.mem_map.1 hx
    exact pV_one y) hg
set_option maxRecDepth 100000 in
set_option maxHeartbeats 400000 in
theorem rcommit_any {w : World} {B r : Nat} {cur was : Pgs} {rt wr : Int} {ch : Bool} (h : Rp Z w B r cur was rt wr ch) (h1 : 1 ≤ cur.length) (h2 : cur.length ≤ 1023) (hZ : ∀ g, Z g → g < w.heap.size) :
    Calls Tryz.prog 21 #[.pointer (some ⟨r, 0, none⟩)] w fun e w' => e = .returned (.tuple #[]) ∧ Rp Z w' B r cur cur rt rt false ∧ Fr [r] w w' := by
  obtain ⟨hB, vp, vw, al, be, hr, hp, hw, hs, hs2, hne⟩ := h
  obtain ⟨a, c, rfl⟩ := owns_shape hp
  have HLD := hid (rload93 (v := .slice a cur.length c) (rt := rt) (cell_at hr 0 rfl) (cell_at hr 1 rfl))
  have HCL := hid (clone_row hp h1 h2 rt)
  have H0 := hid (And.intro hB (And.intro hr (And.intro hp (And.intro hs (And.intro hne h1)))))
  have HZZ := hid (And.intro hZ hne.2)
  obtain ⟨n, hn⟩ : ∃ n, cur.length = n := ⟨_, rfl⟩
  rw [hn] at HLD HCL
  have HN := hid hn
  clear hr hp hw hs hs2 hne hB h1 h2 hn hZ
  go_enter Tryz.func21, Tryz.ntmps21
  go_upto_region 0 with fail
  refine wp_region_lit ?_
  refine wp_y (v := .pointer (some ⟨r, 0, none⟩)) rfl rfl (y_move rfl) rfl ?_
  refine wp_y (v := .pointer (some ⟨r, 0, none⟩)) rfl rfl (y_move rfl) rfl ?_
  refine wp_y (v := .pointer (some ⟨r, 0, none⟩)) rfl rfl (y_nil rfl) rfl ?_
  refine wp_y (v := .pointer (some ⟨r, 0, none⟩)) rfl rfl (y_faddr rfl (hf := fa95_0 (r))) rfl ?_
  refine wp_y (v := Rs (.slice a n c) rt) rfl rfl (y_load rfl (hl := fun w' h => by rw [h]; exact HLD.out)) rfl ?_
  refine wp_call (f := 43) (args := #[Rs (.slice a n c) rt]) (by kernel_rfl) (fun w => by go_simp) ?_
  refine HCL.out.mono ?_
  rintro e w1 ⟨v', rfl, ho1, hB1⟩
  refine ⟨_, rfl, ?_⟩
  have h0 := H0.out
  have hn := HN.out
  have hr1 := below_at hB1 h0.2.1 (heap_lt h0.2.1)
  have hp1 := owns_below2 h0.2.2.1 hB1
  have hs1 := h0.2.2.2.1.below hB1
  obtain ⟨gv, cv, rfl⟩ : ∃ g c, v' = .slice (some ⟨g, 0, none⟩) n c := by
    rcases ho1.2 with ⟨_, hz⟩ | ⟨g, cap, cs, e, _⟩
    · have := h0.2.2.2.2.2; omega
    · exact ⟨g, cap, e⟩
  have hlo := (ho1.lt gv rfl).1
  have hrl := heap_lt h0.2.1
  have hst := rstore95 hr1 (.slice (some ⟨gv, 0, none⟩) n cv) rfl rt
  have hF2 := Fr.setRow w1 r #[.slice a cur.length c, .int .i64 rt, .slice (some ⟨gv, 0, none⟩) n cv, .int .i64 rt, .bool ch]
  have hr2 : (w1.setRow r #[.slice a cur.length c, .int .i64 rt, .slice (some ⟨gv, 0, none⟩) n cv, .int .i64 rt, .bool ch]).heap[r]? = some (.cells #[.slice a cur.length c, .int .i64 rt, .slice (some ⟨gv, 0, none⟩) n cv, .int .i64 rt, .bool ch] 95 (0, 0)) := setRow_heap w1 r _ _ _ _ hr1
  have hx1 : ∀ (t : TypeId), t ≠ 95 → ∀ g d, w1.heap[g]? = some (.cells d t (0, 0)) → g ∉ [r] := fun t htt g d hg hm => by
    obtain rfl : g = r := by simpa using hm
    rw [hr1] at hg
    injection hg with hg
    injection hg with _ e
    exact htt e.symm
  have hp2 := owns_fr hp1 hF2 (hx1 _ (by decide))
  have ho2 := owns_fr ho1 hF2 (hx1 _ (by decide))
  have hs2 := hs1.fr hF2 (hx1 _ (by decide))
  generalize w1.setRow r #[.slice a cur.length c, .int .i64 rt, .slice (some ⟨gv, 0, none⟩) n cv, .int .i64 rt, .bool ch] = w2 at *
  have c4 : w2.cell? ⟨r, 4, none⟩ = some (.bool ch) := cell_at hr2 4 rfl
  have f4 : w2.frozen? ⟨r, 4, none⟩ = false := open_at hr2 4
  have hF3 := Fr.setCell w2 r 4 (.bool false)
  have hr3 := (rset hr2).2 (.bool false)
  have hx2 : ∀ (t : TypeId), t ≠ 95 → ∀ g d, w2.heap[g]? = some (.cells d t (0, 0)) → g ∉ [r] := fun t htt g d hg hm => by
    obtain rfl : g = r := by simpa using hm
    rw [hr2] at hg
    injection hg with hg
    injection hg with _ e
    exact htt e.symm
  have hp3 := owns_fr hp2 hF3 (hx2 _ (by decide))
  have ho3 := owns_mono (owns_fr ho2 hF3 (hx2 _ (by decide))) (show B ≤ w.heap.size by have := h0.1.1; omega)
  have hs3 := hs2.fr hF3 (hx2 _ (by decide))
  have hFF : Fr [r] w (w2.setCell ⟨r, 4, none⟩ (.bool false)) := ((Fr.of_below (X := [r]) hB1).trans hF2 (fun x hx => .inl hx)).trans hF3 (fun x hx => .inl hx)
  have HZ : Hid (Rp Z (w2.setCell ⟨r, 4, none⟩ (.bool false)) B r cur cur rt rt false ∧ Fr [r] w (w2.setCell ⟨r, 4, none⟩ (.bool false))) := hid ⟨⟨h0.1, _, _, al, al, hr3, hp3, by rw [hn]; exact ho3, hs3, hs3, ⟨fun g hg hu => by
    have e1 : gv = g := by simpa [Value.ownBlock] using hu
    have := (h0.2.2.1.lt g hg).2
    omega, fun g hg hz => by
    rcases hg with hg | hg
    · exact HZZ.out.2 g (.inl hg) hz
    · have e1 : gv = g := by simpa [Value.ownBlock] using hg
      have := HZZ.out.1 g hz
      omega⟩⟩, hFF⟩
  have HST := hid hst
  clear h0 hn hr1 hp1 hs1 hlo hrl hst hF2 hr2 hx1 hp2 ho2 hs2 hF3 hr3 hx2 hp3 ho3 hs3 hFF ho1 hB1 HCL H0 HLD
  dsimp only [Act.put]
  refine wp_y (v := .pointer (some ⟨r, 0, none⟩)) rfl rfl (y_nil rfl) rfl ?_
  refine wp_y (v := .pointer (some ⟨r, 2, none⟩)) rfl rfl (y_faddr rfl (hf := fa95_1 (r))) rfl ?_
  try simp only [List.setIfInBounds_toArray, List.set_cons_zero, List.set_cons_succ]
  refine wp_do rfl rfl (run_storeOp rfl (by kernel_rfl) (by kernel_rfl) HST.out) ?_
  try simp only [List.setIfInBounds_toArray, List.set_cons_zero, List.set_cons_succ]
  refine wp_end ?_
  go_wp2
  go_end0
  exact ⟨rfl, HZ.out⟩
set_option maxRecDepth 100000 in
set_option maxHeartbeats 400000 in
theorem rabort_any {w : World} {B r : Nat} {cur was : Pgs} {rt wr : Int} {ch : Bool} (h : Rp Z w B r cur was rt wr ch) (h1 : 1 ≤ was.length) (h2 : was.length ≤ 1023) (hZ : ∀ g, Z g → g < w.heap.size) :
    Calls Tryz.prog 14 #[.pointer (some ⟨r, 0, none⟩)] w fun e w' => e = .returned (.tuple #[]) ∧ Rp Z w' B r was was wr wr false ∧ Fr [r] w w' := by
  obtain ⟨hB, vp, vw, al, be, hr, hp, hw, hs, hs2, hne⟩ := h
  obtain ⟨a, c, rfl⟩ := owns_shape hw
  have HLD := hid (rload93 (v := .slice a was.length c) (rt := wr) (cell_at hr 2 rfl) (cell_at hr 3 rfl))
  have HCL := hid (clone_row hw h1 h2 wr)
  have H0 := hid (And.intro hB (And.intro hr (And.intro hw (And.intro hs2 h1))))
  have HZZ := hid (And.intro hZ hne.2)
  obtain ⟨n, hn⟩ : ∃ n, was.length = n := ⟨_, rfl⟩
  rw [hn] at HLD HCL
  have HN := hid hn
  clear hr hp hw hs hs2 hne hB h1 h2 hn hZ
  go_enter Tryz.func14, Tryz.ntmps14
  go_upto_region 0 with fail
  refine wp_region_lit ?_
  refine wp_y (v := .pointer (some ⟨r, 0, none⟩)) rfl rfl (y_move rfl) rfl ?_
  refine wp_y (v := .pointer (some ⟨r, 0, none⟩)) rfl rfl (y_move rfl) rfl ?_
  refine wp_y (v := .pointer (some ⟨r, 0, none⟩)) rfl rfl (y_nil rfl) rfl ?_
  refine wp_y (v := .pointer (some ⟨r, 2, none⟩)) rfl rfl (y_faddr rfl (hf := fa95_1 (r))) rfl ?_
  refine wp_y (v := Rs (.slice a n c) wr) rfl rfl (y_load rfl (hl := fun w' h => by rw [h]; exact HLD.out)) rfl ?_
  refine wp_call (f := 43) (args := #[Rs (.slice a n c) wr]) (by kernel_rfl) (fun w => by go_simp) ?_
  refine HCL.out.mono ?_
  rintro e w1 ⟨v', rfl, ho1, hB1⟩
  refine ⟨_, rfl, ?_⟩
  have h0 := H0.out
  have hn := HN.out
  have hr1 := below_at hB1 h0.2.1 (heap_lt h0.2.1)
  have hp1 := owns_below2 h0.2.2.1 hB1
  have hs1 := h0.2.2.2.1.below hB1
  obtain ⟨gv, cv, rfl⟩ : ∃ g c, v' = .slice (some ⟨g, 0, none⟩) n c := by
    rcases ho1.2 with ⟨_, hz⟩ | ⟨g, cap, cs, e, _⟩
    · have := h0.2.2.2.2; omega
    · exact ⟨g, cap, e⟩
  have hlo := (ho1.lt gv rfl).1
  have hrl := heap_lt h0.2.1
  have hst := rstore95z hr1 (.slice (some ⟨gv, 0, none⟩) n cv) rfl wr
  have hF2 := Fr.setRow w1 r #[.slice (some ⟨gv, 0, none⟩) n cv, .int .i64 wr, .slice a was.length c, .int .i64 wr, .bool ch]
  have hr2 : (w1.setRow r #[.slice (some ⟨gv, 0, none⟩) n cv, .int .i64 wr, .slice a was.length c, .int .i64 wr, .bool ch]).heap[r]? = some (.cells #[.slice (some ⟨gv, 0, none⟩) n cv, .int .i64 wr, .slice a was.length c, .int .i64 wr, .bool ch] 95 (0, 0)) := setRow_heap w1 r _ _ _ _ hr1
  have hx1 : ∀ (t : TypeId), t ≠ 95 → ∀ g d, w1.heap[g]? = some (.cells d t (0, 0)) → g ∉ [r] := fun t htt g d hg hm => by
    obtain rfl : g = r := by simpa using hm
    rw [hr1] at hg
    injection hg with hg
    injection hg with _ e
    exact htt e.symm
  have hp2 := owns_fr hp1 hF2 (hx1 _ (by decide))
  have ho2 := owns_fr ho1 hF2 (hx1 _ (by decide))
  have hs2 := hs1.fr hF2 (hx1 _ (by decide))
  generalize w1.setRow r #[.slice (some ⟨gv, 0, none⟩) n cv, .int .i64 wr, .slice a was.length c, .int .i64 wr, .bool ch] = w2 at *
  have c4 : w2.cell? ⟨r, 4, none⟩ = some (.bool ch) := cell_at hr2 4 rfl
  have f4 : w2.frozen? ⟨r, 4, none⟩ = false := open_at hr2 4
  have hF3 := Fr.setCell w2 r 4 (.bool false)
  have hr3 := (rset hr2).2 (.bool false)
  have hx2 : ∀ (t : TypeId), t ≠ 95 → ∀ g d, w2.heap[g]? = some (.cells d t (0, 0)) → g ∉ [r] := fun t htt g d hg hm => by
    obtain rfl : g = r := by simpa using hm
    rw [hr2] at hg
    injection hg with hg
    injection hg with _ e
    exact htt e.symm
  have hp3 := owns_fr hp2 hF3 (hx2 _ (by decide))
  have ho3 := owns_mono (owns_fr ho2 hF3 (hx2 _ (by decide))) (show B ≤ w.heap.size by have := h0.1.1; omega)
  have hs3 := hs2.fr hF3 (hx2 _ (by decide))
  have hFF : Fr [r] w (w2.setCell ⟨r, 4, none⟩ (.bool false)) := ((Fr.of_below (X := [r]) hB1).trans hF2 (fun x hx => .inl hx)).trans hF3 (fun x hx => .inl hx)
  have HZ : Hid (Rp Z (w2.setCell ⟨r, 4, none⟩ (.bool false)) B r was was wr wr false ∧ Fr [r] w (w2.setCell ⟨r, 4, none⟩ (.bool false))) := hid ⟨⟨h0.1, _, _, be, be, hr3, by rw [hn]; exact ho3, hp3, hs3, hs3, ⟨fun g hg hu => by
    have e1 : gv = g := by simpa [Value.ownBlock] using hg
    have := (h0.2.2.1.lt g hu).2
    omega, fun g hg hz => by
    rcases hg with hg | hg
    · have e1 : gv = g := by simpa [Value.ownBlock] using hg
      have := HZZ.out.1 g hz
      omega
    · exact HZZ.out.2 g (.inr hg) hz⟩⟩, hFF⟩
  have HST := hid hst
  clear h0 hn hr1 hp1 hs1 hlo hrl hst hF2 hr2 hx1 hp2 ho2 hs2 hF3 hr3 hx2 hp3 ho3 hs3 hFF ho1 hB1 HCL H0 HLD
  dsimp only [Act.put]
  refine wp_y (v := .pointer (some ⟨r, 0, none⟩)) rfl rfl (y_nil rfl) rfl ?_
  refine wp_y (v := .pointer (some ⟨r, 0, none⟩)) rfl rfl (y_faddr rfl (hf := fa95_0 (r))) rfl ?_
  try simp only [List.setIfInBounds_toArray, List.set_cons_zero, List.set_cons_succ]
  refine wp_do rfl rfl (run_storeOp rfl (by kernel_rfl) (by kernel_rfl) HST.out) ?_
  try simp only [List.setIfInBounds_toArray, List.set_cons_zero, List.set_cons_succ]
  refine wp_end ?_
  go_wp2
  go_end0
  exact ⟨rfl, HZ.out⟩
end Go.Proofs.YtcmgclkbhhdnaaaGreatDoor
