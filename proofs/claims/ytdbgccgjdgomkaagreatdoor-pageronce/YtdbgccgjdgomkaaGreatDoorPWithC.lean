/- A state behind a change: (state).with. -/
import Derived.Test.YtdbgccgjdgomkaaGreatDoorPStatC
namespace Go.Proofs.YtdbgccgjdgomkaaGreatDoor
open Go Go.RowKit

/-- What a table of uses holds, as values. -/
def uV (u : Int → Option Bool) : Int → Option Value := fun k => (u k).map fun b => .int .u8 (b2u b).toNat
def gV (g : Int → Option (List UInt8)) : Int → Option Value := fun k => (g k).map V8
def updF {α : Type} (u : Int → Option α) (k : Int) (v : Option α) : Int → Option α := fun x => if x = k then v else u x
theorem uV_upd (u : Int → Option Bool) (k : Int) (b : Bool) : upd (uV u) k (some (.int .u8 (b2u b).toNat)) = uV (updF u k (some b)) := by
  funext x
  unfold upd uV updF
  by_cases h : x = k <;> simp [h]
theorem gV_upd (g : Int → Option (List UInt8)) (k : Int) (c : List UInt8) : upd (gV g) k (some (V8 c)) = gV (updF g k (some c)) := by
  funext x
  unfold upd gV updF
  by_cases h : x = k <;> simp [h]
theorem gV_del (g : Int → Option (List UInt8)) (k : Int) : upd (gV g) k none = gV (updF g k none) := by
  funext x
  unfold upd gV updF
  by_cases h : x = k <;> simp [h]
theorem updF_same {α : Type} (u : Int → Option α) (k : Int) (v : Option α) : updF u k v k = v := by simp [updF]
theorem updF_ne {α : Type} (u : Int → Option α) {k x : Int} (v : Option α) (h : x ≠ k) : updF u k v x = u x := by simp [updF, h]
/-- The uses, as the change has them. -/
def usf (l : List Bool) (u : Int → Option Bool) (k : Nat) : Bool := (u k).getD (l.getD k false)
def ovl (l : List Bool) (u : Int → Option Bool) : List Bool := (List.range l.length).map (usf l u)
theorem ovl_len (l : List Bool) (u : Int → Option Bool) : (ovl l u).length = l.length := by simp [ovl]
theorem ovl_get (l : List Bool) (u : Int → Option Bool) (k : Nat) (hk : k < l.length) : (ovl l u)[k]? = some (usf l u k) := by simp [ovl, hk]
theorem ovl_none (l : List Bool) : ovl l (fun _ => none) = l := by
  apply List.ext_getElem?
  intro k
  by_cases hk : k < l.length
  · rw [ovl_get _ _ k hk]; simp [usf, hk]
  · rw [List.getElem?_eq_none (by rw [ovl_len]; omega), List.getElem?_eq_none (by omega)]
theorem ovl_upd (l : List Bool) (u : Int → Option Bool) (k : Nat) (b : Bool) (hk : k < l.length) : ovl l (updF u k (some b)) = (ovl l u).set k b := by
  apply List.ext_getElem?
  intro q
  by_cases hq : q < l.length
  · by_cases e : k = q
    · subst e
      rw [ovl_get _ _ k hk, List.getElem?_set_self (by rw [ovl_len]; exact hk)]
      simp [usf, updF]
    · rw [ovl_get _ _ q hq, List.getElem?_set_ne e, ovl_get _ _ q hq]
      unfold usf
      rw [updF_ne _ _ (by omega)]
  · rw [List.getElem?_eq_none (by rw [ovl_len]; omega), List.getElem?_eq_none (by rw [List.length_set, ovl_len]; omega)]
/-- Uses laid one behind the other. -/
def ap (u : Int → Option Bool) (l : List Bool) (zs : List Int) : List Bool := zs.foldl (fun l z => l.set z.toNat ((u z).getD false)) l
theorem ap_len (u : Int → Option Bool) : ∀ (zs : List Int) (l : List Bool), (ap u l zs).length = l.length
  | [], _ => rfl
  | z :: zs, l => by
    show (ap u (l.set z.toNat ((u z).getD false)) zs).length = _
    rw [ap_len u zs, List.length_set]
theorem ap_get (u : Int → Option Bool) : ∀ (zs : List Int) (l : List Bool) (q : Nat), (∀ z ∈ zs, 0 ≤ z) → q < l.length → (ap u l zs)[q]? = some (if (q : Int) ∈ zs then (u q).getD false else l.getD q false)
  | [], l, q, _, hq => by simp [ap, hq]
  | z :: zs, l, q, h0, hq => by
    show (ap u (l.set z.toNat ((u z).getD false)) zs)[q]? = _
    rw [ap_get u zs _ q (fun x hx => h0 x (by simp [hx])) (by rw [List.length_set]; exact hq)]
    by_cases hm : (q : Int) ∈ zs
    · rw [if_pos hm, if_pos (by simp [hm])]
    · rw [if_neg hm]
      have hz := h0 z (by simp)
      by_cases e : z.toNat = q
      · have e2 : z = (q : Int) := by omega
        subst e2
        rw [if_pos (by simp)]
        simp [List.getD, hq]
      · rw [if_neg (by simp only [List.mem_cons, not_or]; exact ⟨by omega, hm⟩)]
        simp only [List.getD, List.getElem?_set_ne e]
theorem ap_all (u : Int → Option Bool) (l : List Bool) (zs : List Int) (h0 : ∀ z ∈ zs, 0 ≤ z) (hz : ∀ z, z ∈ zs ↔ u z ≠ none) : ap u l zs = ovl l u := by
  apply List.ext_getElem?
  intro q
  by_cases hq : q < l.length
  · rw [ap_get u zs l q h0 hq, ovl_get _ _ q hq]
    congr 1
    unfold usf
    by_cases hm : (q : Int) ∈ zs
    · rw [if_pos hm]
      cases hu : u q with
      | none => exact absurd hu ((hz _).1 hm)
      | some b => rfl
    · rw [if_neg hm]
      have : u q = none := by
        cases hu : u q with
        | none => rfl
        | some b => exact absurd ((hz q).2 (by rw [hu]; simp)) hm
      rw [this]; rfl
  · rw [List.getElem?_eq_none (by rw [ap_len]; omega), List.getElem?_eq_none (by rw [ovl_len]; omega)]
theorem ap_snoc (u : Int → Option Bool) (l : List Bool) (zs : List Int) (z : Int) : ap u l (zs ++ [z]) = (ap u l zs).set z.toNat ((u z).getD false) := by simp [ap]
theorem mem_sorted (zs : List Int) (x : Int) : x ∈ sorted zs ↔ x ∈ zs := by unfold sorted; exact (List.mergeSort_perm _ _).mem_iff
theorem sorted_len (zs : List Int) : (sorted zs).length = zs.length := by simp [sorted]
theorem Ats.shape {w : World} {B : Nat} {v : Value} {zs : List Int} (h : Ats w B v zs) : ∃ a c, v = .slice a zs.length c := by
  obtain ⟨a, c, e, _⟩ := h.iz
  exact ⟨a, c, e⟩
theorem Ats.cell {w : World} {B : Nat} {a : Option Addr} {n c : Nat} {zs : List Int} (h : Ats w B (.slice a n c) zs) {k : Nat} {x : Int} (hk : zs[k]? = some x) : ∃ g, a = some ⟨g, 0, none⟩ ∧ B ≤ g ∧ w.cell? ⟨g, k, none⟩ = some (.int .i64 x) := by
  have hkl := (List.getElem?_eq_some_iff.1 hk).1
  rcases h.2 with ⟨e, h0⟩ | ⟨g, cap, cur, e, hb, hg, hc, hm, hs, ht⟩
  · omega
  · injection e with e1 e2 e3
    subst e1
    refine ⟨g, rfl, hb, cell_at hg k ?_⟩
    have h1 : (zs.map (Value.int .i64))[k]? = some (.int .i64 x) := by rw [List.getElem?_map, hk]; rfl
    rw [← ht, List.getElem?_take_of_lt (by omega)] at h1
    simpa using h1
theorem idx42 (b n cap k : Nat) (h : k < n) (w : World) : (Instr.indexAt 42 (.slice (some ⟨b, 0, none⟩) n cap) (.int .i64 k)).run Tryz.prog w = .ok (.pointer (some ⟨b, k, none⟩)) w := by
  have := idx43 b 0 n cap k h w
  rwa [Nat.zero_add] at this
theorem sorted_at {w : World} {B : Nat} {v : Value} {zs : List Int} (h : Ats w B v zs) : zs.length ≤ 9223372036854775807 := by
  rcases h.2 with ⟨_, h0⟩ | ⟨g, cap, cur, e, hb, hg, hc, hm, hs, ht⟩
  · omega
  · unfold maxLen at hm; omega
set_option maxRecDepth 100000 in
set_option maxHeartbeats 4000000 in
theorem with_any (l : List Bool) (kl kr : Int) (bg : Bool) (lf rt : Int) (um bm : Option Nat) (ks : List Int) (u : Int → Option Bool) (hl : l.length ≤ 1023) (w : World) (hm : Mo w um ks (uV u)) (hk : ∀ k ∈ ks, 0 ≤ k ∧ k < l.length) (hku : ∀ k, k ∈ ks ↔ u k ≠ none) (hkl : ks.length ≤ 1000000) :
    Calls Tryz.prog 51 #[St l kl kr, Ch bg lf rt um bm] w fun e w' => e = .returned (St (ovl l u) lf rt) ∧ Below w.heap.size w w' := by
  obtain ⟨g0, hg0⟩ : ∃ g, w.heap.size = g := ⟨_, rfl⟩
  have hbx := pbox76 w l kl kr
  have hB1 : Below w.heap.size w (w.alloc (.cells (stC l kl kr).toArray 76)) := (Below.refl _ _).alloc (Nat.le_refl _) _
  have hS1 : Sb (w.alloc (.cells (stC l kl kr).toArray 76)) w.heap.size l kl kr := heap_alloc_last w _
  have hz1 : (w.alloc (.cells (stC l kl kr).toArray 76)).heap.size = w.heap.size + 1 := by show (w.heap.push _).size = _; simp
  have hm1 := hm.below hB1
  generalize hw1 : w.alloc (.cells (stC l kl kr).toArray 76) = w1 at *
  obtain ⟨g1, hg1⟩ : ∃ g, w1.heap.size = g := ⟨_, rfl⟩
  have hbx2 := box87 w1 bg lf rt um bm
  have hB2 : Below w1.heap.size w1 (w1.alloc (.cells (chC bg lf rt um bm).toArray 87)) := (Below.refl _ _).alloc (Nat.le_refl _) _
  have hC2 : Cb (w1.alloc (.cells (chC bg lf rt um bm).toArray 87)) w1.heap.size bg lf rt um bm := heap_alloc_last w1 _
  have hz2 : (w1.alloc (.cells (chC bg lf rt um bm).toArray 87)).heap.size = w1.heap.size + 1 := by show (w1.heap.push _).size = _; simp
  have hm2 := hm1.below hB2
  generalize hw2 : w1.alloc (.cells (chC bg lf rt um bm).toArray 87) = w2 at *
  obtain ⟨g2, hg2⟩ : ∃ g, w2.heap.size = g := ⟨_, rfl⟩
  have hal := palloc76 w2
  have hB3 : Below w2.heap.size w2 (w2.alloc (.cells (stC [] 0 0).toArray 76)) := (Below.refl _ _).alloc (Nat.le_refl _) _
  have hS3 : Sb (w2.alloc (.cells (stC [] 0 0).toArray 76)) w2.heap.size [] 0 0 := heap_alloc_last w2 _
  have hm3 := hm2.below hB3
  generalize hw3 : w2.alloc (.cells (stC [] 0 0).toArray 76) = w3 at *
  rw [hg0] at hbx hS1 hz1 hB1
  rw [hg1] at hbx2 hC2 hz2 hB2 hz1
  rw [hg2] at hal hS3 hB3 hz2
  have hS03 : Sb w3 g0 l kl kr := (hS1.below hB2 (by omega)).below hB3 (by omega)
  have hC3 : Cb w3 g1 bg lf rt um bm := hC2.below hB3 (by omega)
  have hB03 : Below g0 w w3 := (hB1.trans (hB2.mono (by omega))).trans (hB3.mono (by omega))
  have HPG := hid (pages_keysU hC3.c3 hm3 (fun k hkk => ⟨(hk k hkk).1, by have := (hk k hkk).2; omega⟩) hkl)
  have H3 := hid (And.intro hS03 (And.intro hC3 (And.intro hS3 (And.intro hm3 (And.intro hB03 (show g0 < g1 ∧ g1 < g2 ∧ g2 < w3.heap.size from ⟨by omega, by omega, heap_lt hS3⟩))))))
  have HBX := hid hbx
  have HBX2 := hid hbx2
  have HAL := hid hal
  have HL := hid hl
  have HK := hid hk
  have HKU := hid hku
  have HG0 := hid hg0
  obtain ⟨zs, hzs⟩ : ∃ zs, sorted ks = zs := ⟨_, rfl⟩
  rw [hzs] at HPG
  have HZ0 : Hid (∀ z ∈ zs, 0 ≤ z ∧ z < l.length) := hid (fun z hz => hk z (by rw [← hzs, mem_sorted] at hz; exact hz))
  have HZU : Hid (∀ z, z ∈ zs ↔ u z ≠ none) := hid (fun z => by rw [← hzs, mem_sorted]; exact hku z)
  clear hbx hbx2 hal hS1 hS03 hC2 hC3 hS3 hB1 hB2 hB3 hB03 hz1 hz2 hg1 hg2 hw1 hw2 hw3 hl hk hku hg0 hm hm1 hm2 hm3 hkl hzs HK HKU
  go_enter Tryz.func51, Tryz.ntmps51
  go_upto_region 0 with fail
  refine wp_region_lit ?_
  refine wp_run (v := .pointer (some ⟨g0, 0, none⟩)) rfl rfl (run_boxOp rfl (by kernel_rfl) HBX.out) rfl ?_
  refine wp_run (v := .pointer (some ⟨g1, 0, none⟩)) rfl rfl (run_boxOp rfl (by kernel_rfl) HBX2.out) rfl ?_
  refine wp_run (v := .pointer (some ⟨g2, 0, none⟩)) rfl rfl (run_alOp rfl HAL.out) rfl ?_
  try simp only [List.setIfInBounds_toArray, List.set_cons_zero, List.set_cons_succ]
  refine wp_end ?_
  clear HBX HBX2 HAL
  go_upto_region 1 with fail
  refine wp_region_lit ?_
  refine wp_y (v := .pointer (some ⟨g1, 3, none⟩)) rfl rfl (y_faddr rfl (by kernel_rfl) (by kernel_rfl) (fg87_3 (g1) (0))) rfl ?_
  refine wp_call (f := 87) (args := #[.pointer (some ⟨g1, 3, none⟩)]) (by kernel_rfl) (fun w => by go_simp) ?_
  refine HPG.out.mono ?_
  rintro e w4 ⟨v, rfl, hA4, hB4⟩
  obtain ⟨sa, sc, rfl⟩ := hA4.shape
  have hml4 := sorted_at hA4
  obtain ⟨gB, hgB⟩ : ∃ g, w3.heap.size = g := ⟨_, rfl⟩
  obtain ⟨m, hm⟩ : ∃ m, zs.length = m := ⟨_, rfl⟩
  rw [hgB] at hA4
  rw [hm] at hA4 hml4
  have h3 := H3.out
  have H4 : Hid (Sb w4 g0 l kl kr ∧ Cb w4 g1 bg lf rt um bm ∧ Sb w4 g2 [] 0 0 ∧ Mo w4 um ks (uV u) ∧ Ats w4 gB (.slice sa m sc) zs ∧ Below g0 w w4 ∧ g0 < g1 ∧ g1 < g2) := hid ⟨h3.1.below hB4 (by omega), h3.2.1.below hB4 (by omega), h3.2.2.1.below hB4 (by omega), h3.2.2.2.1.below hB4, hA4, h3.2.2.2.2.1.trans (hB4.mono (by omega)), h3.2.2.2.2.2.1, h3.2.2.2.2.2.2.1⟩
  have HML := hid (And.intro hml4 hm)
  refine ⟨_, rfl, ?_⟩
  rw [hm]
  clear h3 hA4 hB4 hgB hml4 hm HPG H3
  dsimp only [Act.put]
  refine wp_y (v := .int .i64 m) rfl rfl (y_len43 (p := sa) (c := sc) rfl (by kernel_rfl) (by kernel_rfl)) rfl ?_
  refine wp_y (v := (.int .i64 0)) rfl rfl (y_move rfl (by kernel_rfl) (by kernel_rfl)) rfl ?_
  try simp only [List.setIfInBounds_toArray, List.set_cons_zero, List.set_cons_succ]
  refine wp_end ?_
  go_wp2_with fail
  go_loopw [10, 6] (fun y _ wr => ∃ k : Nat, k ≤ m ∧ y = .int .i64 k ∧ Sb wr g0 (ap u l (zs.take k)) kl kr ∧ Cb wr g1 bg lf rt um bm ∧ Sb wr g2 [] 0 0 ∧ Mo wr um ks (uV u) ∧ Ats wr gB (.slice sa m sc) zs ∧ Below g0 w wr) (fun y _ _ => m - (intOf y).toNat)
  case atStart => exact ⟨0, Nat.zero_le _, rfl, H4.out.1, H4.out.2.1, H4.out.2.2.1, H4.out.2.2.2.1, H4.out.2.2.2.2.1, H4.out.2.2.2.2.2.1⟩
  case round =>
    have HGG := hid H4.out.2.2.2.2.2.2
    clear H4
    obtain ⟨k, hk, rfl, hS, hC, hS2, hM, hA, hB⟩ := hrel
    have hml := HML.out
    have hG := HGG.out
    have hG0 := HG0.out
    by_cases hlt : k < m
    · have hlt' : (k : Int) < (m : Int) := by omega
      have hwk : IntKind.i64.wrap ((k : Int) + 1) = ((k + 1 : Nat) : Int) := by rw [IntWalk.i64_in _ ⟨by omega, by omega⟩]; omega
      obtain ⟨z, hz⟩ : ∃ z, zs[k]? = some z := ⟨_, List.getElem?_eq_getElem (by omega)⟩
      obtain ⟨ga, rfl, hga, hca⟩ := hA.cell hz
      have hzb := HZ0.out z (List.mem_of_getElem? hz)
      have hzu := (HZU.out z).1 (List.mem_of_getElem? hz)
      obtain ⟨b, hb⟩ : ∃ b, u z = some b := by
        cases h : u z with
        | none => exact absurd h hzu
        | some b => exact ⟨b, rfl⟩
      obtain ⟨q, hq⟩ : ∃ q : Nat, z = q := ⟨z.toNat, by omega⟩
      subst hq
      have hqb : (ap u l (zs.take k)).length = l.length := ap_len u _ _
      have hql : q < (ap u l (zs.take k)).length := by rw [hqb]; omega
      have HLD := hid (load1 Tryz.isAgg3 hca)
      have hget := get_use hC.c3 hM (q : Int)
      have huv : (uV u (q : Int)) = some (.int .u8 (b2u b).toNat) := by unfold uV; rw [hb]; rfl
      rw [huv] at hget
      have HGET := hid hget
      have HST := hid (store1 Tryz.sizeOf73 (.int .u8 (b2u b).toNat) rfl rfl (hS.cu (by rw [hqb]; exact HL.out) q hql) (hS.fz (3 + q)))
      have hF : Fr [g0] wr (wr.setCell ⟨g0, 3 + q, none⟩ (.int .u8 (b2u b).toNat)) := Fr.setCell _ _ _ _
      have hS6 := hS.su q b hql
      have he : (ap u l (zs.take k)).set q b = ap u l (zs.take (k + 1)) := by
        rw [List.take_add_one, hz]
        show _ = ap u l (zs.take k ++ [(q : Int)])
        rw [ap_snoc, hb]; rfl
      rw [he] at hS6
      have hM6 : Mo (wr.setCell ⟨g0, 3 + q, none⟩ (.int .u8 (b2u b).toNat)) um ks (uV u) := hM.fr hF (fun mb hmb => by
        subst hmb
        intro hx
        have e : mb = g0 := by simpa using hx
        obtain ⟨es, cl, hh, _⟩ := hM
        rw [e] at hh
        unfold Sb at hS
        rw [hS] at hh; cases hh)
      have hA6 : Ats (wr.setCell ⟨g0, 3 + q, none⟩ (.int .u8 (b2u b).toNat)) gB (.slice (some ⟨ga, 0, none⟩) m sc) zs := owns_fr hA hF (fun g c hg hx => by
        have e : g = g0 := by simpa using hx
        unfold Sb at hS
        rw [e, hS] at hg
        injection hg with hg
        injection hg with _ e2
        exact absurd e2 (by decide))
      have HZ := hid (And.intro hS6 (And.intro (hC.fr hF (by simp; omega)) (And.intro (hS2.fr hF (by simp; omega)) (And.intro hM6 (And.intro hA6 (hB.trans (hF.below (by have := hB.size; omega) (by simp))))))))
      have HLT := hid hlt
      have HQ := hid (show q < 1023 by have := HL.out; omega)
      have HIX := hid hlt
      clear hS hC hS2 hM hA hB hca hzb hzu hb hqb hql hget huv hF hS6 he hM6 hA6 hlt hk hG hG0 hz hga
      go_upto_region 3 with fail
      refine wp_region_lit ?_
      refine wp_y (v := .pointer (some ⟨ga, k, none⟩)) rfl rfl (y_index rfl (by kernel_rfl) (by kernel_rfl) (by kernel_rfl) (idx42 ga m sc k HIX.out)) rfl ?_
      refine wp_y (v := .int .i64 (q : Nat)) rfl rfl (y_load rfl (by kernel_rfl) (by kernel_rfl) (fun w' h => by rw [h]; exact HLD.out)) rfl ?_
      refine wp_y (v := .int .i64 (q : Nat)) rfl rfl (y_assign rfl (by kernel_rfl) (by kernel_rfl)) rfl ?_
      try simp only [List.setIfInBounds_toArray, List.set_cons_zero, List.set_cons_succ]
      refine wp_end ?_
      go_upto_region 4 with fail
      refine wp_region_lit ?_
      refine wp_y (v := .int .i64 (q : Nat)) rfl rfl (y_move rfl (by kernel_rfl) (by kernel_rfl)) rfl ?_
      refine wp_y (v := .pointer (some ⟨g1, 3, none⟩)) rfl rfl (y_faddr rfl (by kernel_rfl) (by kernel_rfl) (fg87_3 (g1) (0))) rfl ?_
      refine wp_y (v := .int .i64 (q : Nat)) rfl rfl (y_move rfl (by kernel_rfl) (by kernel_rfl)) rfl ?_
      refine wp_call (f := 88) (args := #[.pointer (some ⟨g1, 3, none⟩), .int .i64 (q : Nat)]) (by kernel_rfl) (fun w => by go_simp) ?_
      refine HGET.out.mono ?_
      rintro e w5 ⟨rfl, hw5⟩
      obtain rfl := hw5.symm
      refine ⟨_, rfl, ?_⟩
      dsimp only [Act.put]
      refine wp_y (v := .tuple #[.int .u8 (b2u b).toNat, .bool true]) rfl rfl (y_move rfl (by kernel_rfl) (by kernel_rfl)) rfl ?_
      refine wp_y (v := .int .u8 (b2u b).toNat) rfl rfl (y_ext rfl (by kernel_rfl) (by kernel_rfl) (ext2_0 (.int .u8 (b2u b).toNat) (.bool true))) rfl ?_
      refine wp_y (v := .bool true) rfl rfl (y_ext rfl (by kernel_rfl) (by kernel_rfl) (ext2_1 (.int .u8 (b2u b).toNat) (.bool true))) rfl ?_
      refine wp_y (v := .pointer (some ⟨g0, 3, none⟩)) rfl rfl (y_faddr rfl (by kernel_rfl) (by kernel_rfl) (fg76_3 (g0) (0))) rfl ?_
      try simp only [List.setIfInBounds_toArray, List.set_cons_zero, List.set_cons_succ]
      refine wp_y (v := .pointer (some ⟨g0, 3 + q, none⟩)) rfl rfl (y_index rfl (by kernel_rfl) (by kernel_rfl) (by kernel_rfl) (ix74 g0 3 q HQ.out)) rfl ?_
      refine wp_do rfl rfl (run_storeOp rfl (by kernel_rfl) (by kernel_rfl) HST.out) ?_
      try simp only [List.setIfInBounds_toArray, List.set_cons_zero, List.set_cons_succ]
      refine wp_end ?_
      go_wp2_with fail
      exact ⟨⟨k + 1, HLT.out, rfl, HZ.out⟩, by have := HLT.out; simp [intOf]; omega⟩
    · obtain rfl : k = m := by omega
      have hlt' : ¬ (k : Int) < (k : Int) := by omega
      have hft : zs.take k = zs := List.take_of_length_le (by omega)
      rw [hft, ap_all u l zs (fun z hz => (HZ0.out z hz).1) HZU.out] at hS
      have hol : (ovl l u).length ≤ 1023 := by rw [ovl_len]; exact HL.out
      obtain ⟨lo, hlo⟩ : ∃ lo, ovl l u = lo := ⟨_, rfl⟩
      rw [hlo] at hS hol
      have HLO := hid hlo
      have hSd : Sb wr.drew g0 lo kl kr := hS
      have hCd : Cb wr.drew g1 bg lf rt um bm := hC
      have HS6 := hid (And.intro hCd trivial)
      have HST1 := hid (store1 Tryz.sizeOf3 (.int .i64 lf) rfl rfl hSd.c1 (hSd.fz 1))
      have hS7 := hSd.s1 lf
      have hF7 : Fr [g0] wr.drew (wr.drew.setCell ⟨g0, 1, none⟩ (.int .i64 lf)) := Fr.setCell _ _ _ _
      have hC7 := hCd.fr hF7 (by simp; omega)
      have HS7 := hid (And.intro hC7 trivial)
      have HST2 := hid (store1 Tryz.sizeOf3 (.int .i64 rt) rfl rfl hS7.c2 (hS7.fz 2))
      have hS8 := hS7.s2 rt
      have hF8 : Fr [g0] (wr.drew.setCell ⟨g0, 1, none⟩ (.int .i64 lf)) ((wr.drew.setCell ⟨g0, 1, none⟩ (.int .i64 lf)).setCell ⟨g0, 2, none⟩ (.int .i64 rt)) := Fr.setCell _ _ _ _
      have hC8 := hC7.fr hF8 (by simp; omega)
      have HS8 := hid (And.intro hC8 trivial)
      have hF : Fr [g0] wr ((wr.drew.setCell ⟨g0, 1, none⟩ (.int .i64 lf)).setCell ⟨g0, 2, none⟩ (.int .i64 rt)) := ((Fr.drew wr).mono (by simp)).trans (hF7.trans hF8 (fun x hx => .inl hx)) (fun x hx => .inl hx)
      have hS28 := hS2.fr hF (by simp; omega)
      generalize (wr.drew.setCell ⟨g0, 1, none⟩ (.int .i64 lf)).setCell ⟨g0, 2, none⟩ (.int .i64 rt) = w8 at *
      have HLD := hid (pload76 hol hS8)
      have HST := hid (pstore76 (by simp) hol hS28 (kl' := lf) (kr' := rt))
      have HLR := hid (pload76 hol (hS28.row lo lf rt))
      have HZ : Hid (Below w.heap.size w (w8.setRow g2 (stC lo lf rt).toArray)) := hid (by
        rw [HG0.out]
        have h8 : Below g0 w w8 := hB.trans (hF.below (by have := hB.size; omega) (by simp))
        exact h8.trans ((Fr.setRow w8 g2 _).below (by have := h8.size; omega) (by simp; omega)))
      clear hS hC hS2 hM hA hB hk hlt hG hG0 hft hol hlo hSd hCd hS7 hF7 hC7 hS8 hF8 hC8 hF hS28
      go_wp2_with fail
      refine h_openL (S := fun w' => Cb w' g1 bg lf rt um bm ∧ True) (by kernel_rfl) (by kernel_rfl) (fun _ _ _ _ _ h => h) (L := #[false, false, false, false, false, false, false, false]) (by kernel_rfl) ?_
      intro Q' hns hP hN
      have hS := HS6.out
      refine h_takeL (i := 0) (v := .pointer (some ⟨g1, 1, none⟩)) hns rfl rfl (by kernel_rfl) (by kernel_rfl) hP (y_faddr rfl (by kernel_rfl) (by kernel_rfl) (fg87_1 (g1) (0))) hS rfl (L' := #[true, false, false, false, false, false, false, false]) (by kernel_rfl) ?_
      refine h_takeL (i := 1) (v := .int .i64 lf) hns rfl rfl (by kernel_rfl) (by kernel_rfl) hP (y_load rfl (by kernel_rfl) (by kernel_rfl) (fun w' h => load1 Tryz.isAgg3 h.1.c1)) hS rfl (L' := #[true, true, false, false, false, false, false, false]) (by kernel_rfl) ?_
      refine h_takeL (i := 2) (v := .pointer (some ⟨g1, 2, none⟩)) hns rfl rfl (by kernel_rfl) (by kernel_rfl) hP (y_faddr rfl (by kernel_rfl) (by kernel_rfl) (fg87_2 (g1) (0))) hS rfl (L' := #[true, true, true, false, false, false, false, false]) (by kernel_rfl) ?_
      refine h_takeL (i := 3) (v := .int .i64 rt) hns rfl rfl (by kernel_rfl) (by kernel_rfl) hP (y_load rfl (by kernel_rfl) (by kernel_rfl) (fun w' h => load1 Tryz.isAgg3 h.1.c2)) hS rfl (L' := #[true, true, true, true, false, false, false, false]) (by kernel_rfl) ?_
      refine h_takeL (i := 4) (v := .pointer (some ⟨g0, 1, none⟩)) hns rfl rfl (by kernel_rfl) (by kernel_rfl) hP (y_faddr rfl (by kernel_rfl) (by kernel_rfl) (fg76_1 (g0) (0))) hS rfl (L' := #[true, true, true, true, true, false, false, false]) (by kernel_rfl) ?_
      refine h_skipL (i := 5) (by kernel_rfl) rfl rfl (by kernel_rfl) (run_storeOp rfl (by kernel_rfl) (by kernel_rfl) HST1.out) HS7.out (L' := #[true, true, true, true, true, true, false, false]) (by kernel_rfl) ?_
      refine h_takeL (i := 6) (v := .pointer (some ⟨g0, 2, none⟩)) hns rfl rfl (by kernel_rfl) (by kernel_rfl) hP (y_faddr rfl (by kernel_rfl) (by kernel_rfl) (fg76_2 (g0) (0))) HS7.out rfl (L' := #[true, true, true, true, true, true, true, false]) (by kernel_rfl) ?_
      try simp only [List.setIfInBounds_toArray, List.set_cons_zero, List.set_cons_succ]
      refine h_skipL (i := 7) (by kernel_rfl) rfl rfl (by kernel_rfl) (run_storeOp rfl (by kernel_rfl) (by kernel_rfl) HST2.out) HS8.out (L' := #[true, true, true, true, true, true, true, true]) (by kernel_rfl) ?_
      try simp only [List.setIfInBounds_toArray, List.set_cons_zero, List.set_cons_succ]
      refine wpAnyH_done (by kernel_rfl) ?_ _
      refine hN _ _ ?_
      clear hP hN hns
      clear hS HS6 HS7 HS8
      go_upto_region 7 with fail
      refine wp_region_lit ?_
      refine wp_y (v := St lo lf rt) rfl rfl (y_load rfl (by kernel_rfl) (by kernel_rfl) (fun w' h => by rw [h]; exact HLD.out)) rfl ?_
      refine wp_do rfl rfl (run_storeOp rfl (by kernel_rfl) (by kernel_rfl) HST.out) ?_
      try simp only [List.setIfInBounds_toArray, List.set_cons_zero, List.set_cons_succ]
      refine wp_end ?_
      go_wp2_with fail
      exact ret_cell rfl rfl rfl HLR.out ⟨by rw [HLO.out], HZ.out⟩
end Go.Proofs.YtdbgccgjdgomkaaGreatDoor
