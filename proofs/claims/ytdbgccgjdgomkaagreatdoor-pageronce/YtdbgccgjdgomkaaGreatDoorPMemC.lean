/- A pager in memory, with the tables of its change: what its small functions do. -/
import Derived.Test.YtdbgccgjdgomkaaGreatDoorPHtwC
namespace Go.Proofs.YtdbgccgjdgomkaaGreatDoor
open Go Go.RowKit

theorem len_split (p : Int → Bool) : ∀ ks : List Int, ks.length = (ks.filter p).length + (ks.filter fun k => !p k).length
  | [] => rfl
  | k :: r => by
    have ih := len_split p r
    simp only [List.filter_cons, List.length_cons]
    cases p k <;> simp <;> omega
theorem nd_len : ∀ (n : Nat) (ks : List Int), ks.Nodup → (∀ k ∈ ks, 0 ≤ k ∧ k < (n : Int)) → ks.length ≤ n
  | 0, ks, _, h => by
    cases ks with
    | nil => simp
    | cons k r => have := h k (by simp); omega
  | n + 1, ks, hn, h => by
    have h1 := nd_len n (ks.filter fun k => decide (k ≠ (n : Int))) (hn.filter _) (fun k hk => by
      have h2 := List.mem_filter.1 hk
      have h3 := h k h2.1
      have h4 : k ≠ (n : Int) := of_decide_eq_true h2.2
      omega)
    have h2 : (ks.filter fun k => !decide (k ≠ (n : Int))).length ≤ 1 := by
      have hnd := hn.filter (fun k => !decide (k ≠ (n : Int)))
      have hall : ∀ k ∈ ks.filter (fun k => !decide (k ≠ (n : Int))), k = (n : Int) := fun k hk => by
        have := (List.mem_filter.1 hk).2
        simpa using this
      generalize ks.filter (fun k => !decide (k ≠ (n : Int))) = r at *
      match r, hnd, hall with
      | [], _, _ => simp
      | [a], _, _ => simp
      | a :: b :: t, hnd, hall =>
        have ha := hall a (by simp)
        have hb := hall b (by simp)
        exact absurd (ha.trans hb.symm) (fun e => by
          have := (List.nodup_cons.1 hnd).1
          exact this (by simp [e]))
    have h3 : ks.length = (ks.filter fun k => decide (k ≠ (n : Int))).length + (ks.filter fun k => !decide (k ≠ (n : Int))).length := len_split _ ks
    omega
theorem Mo.nd {w : World} {m : Option Nat} {ks : List Int} {f : Int → Option Value} (h : Mo w m ks f) : ks.Nodup := by
  cases m with
  | none => rw [h.1]; exact List.nodup_nil
  | some b => obtain ⟨es, cl, _, hv⟩ := h; exact hv.nd
theorem Mo.lt {w : World} {m : Option Nat} {ks : List Int} {f : Int → Option Value} (h : Mo w m ks f) {b : Nat} (hb : m = some b) : b < w.heap.size := by subst hb; exact Mk.lt h
theorem Mo.cells {w : World} {m : Option Nat} {ks : List Int} {f : Int → Option Value} (h : Mo w m ks f) {b : Nat} (hb : m = some b) {c : Array Value} {t : TypeId} {z : Nat × Nat} : w.heap[b]? ≠ some (.cells c t z) := fun e => by
  subst hb
  obtain ⟨es, cl, hh, _⟩ := h
  rw [hh] at e; cases e
theorem Mo.mem {w : World} {m : Option Nat} {ks : List Int} {f : Int → Option Value} (h : Mo w m ks f) (k : Int) : k ∈ ks ↔ f k ≠ none := by
  cases m with
  | none =>
    obtain ⟨rfl, rfl⟩ := h
    simp
  | some b =>
    obtain ⟨es, cl, _, hv⟩ := h
    constructor
    · intro hk
      obtain ⟨i, hi⟩ := List.getElem?_of_mem hk
      have hil : i < es.toList.length := by rw [hv.len]; exact (List.getElem?_eq_some_iff.1 hi).1
      rw [hv.vals i _ k (List.getElem?_eq_getElem hil) hi]
      simp
    · intro hf
      by_cases hk : k ∈ ks
      · exact hk
      · exact absurd (hv.out k hk) hf
theorem uV_none (u : Int → Option Bool) (k : Int) : uV u k ≠ none ↔ u k ≠ none := by unfold uV; cases u k <;> simp
theorem gV_none (g : Int → Option (List UInt8)) (k : Int) : gV g k ≠ none ↔ g k ≠ none := by unfold gV; cases g k <;> simp
/-- A pager and its two tables. -/
structure PM (w : World) (p j : Nat) (l : List Bool) (kl kr : Int) (bg : Bool) (lf rt : Int) (um bm : Option Nat) (off : Int) (u : Int → Option Bool) (g : Int → Option (List UInt8)) : Prop where
  pg : Pg w p j l kl kr bg lf rt um bm off
  mu : ∃ ku, Mo w um ku (uV u)
  mb : ∃ kb, Mo w bm kb (gV g)
  ne : ∀ m, um = some m → bm ≠ some m
  gl : ∀ k c, g k = some c → c.length = 896
  kd : ∀ k, u k ≠ none → 0 ≤ k ∧ k < (l.length : Int)
  kb : ∀ k, g k ≠ none → 0 ≤ k ∧ k < (l.length : Int)
section
variable {w : World} {p j : Nat} {l : List Bool} {kl kr : Int} {bg : Bool} {lf rt : Int} {um bm : Option Nat} {off : Int} {u : Int → Option Bool} {g : Int → Option (List UInt8)} (h : PM w p j l kl kr bg lf rt um bm off u g)
include h
theorem PM.below {w' : World} (hB : Below w.heap.size w w') : PM w' p j l kl kr bg lf rt um bm off u g := by
  obtain ⟨ku, hu⟩ := h.mu
  obtain ⟨kb, hb⟩ := h.mb
  exact ⟨h.pg.below hB h.pg.lt, ⟨ku, hu.below hB⟩, ⟨kb, hb.below hB⟩, h.ne, h.gl, h.kd, h.kb⟩
theorem PM.fr {X : List Nat} {w' : World} (hF : Fr X w w') (hp : p ∉ X) (h1 : ∀ m, um = some m → m ∉ X) (h2 : ∀ m, bm = some m → m ∉ X) : PM w' p j l kl kr bg lf rt um bm off u g := by
  obtain ⟨ku, hu⟩ := h.mu
  obtain ⟨kb, hb⟩ := h.mb
  exact ⟨h.pg.fr hF hp, ⟨ku, hu.fr hF h1⟩, ⟨kb, hb.fr hF h2⟩, h.ne, h.gl, h.kd, h.kb⟩
end
set_option maxRecDepth 100000 in
set_option maxHeartbeats 800000 in
theorem useOf_any {w : World} {p j : Nat} {l : List Bool} {kl kr : Int} {bg : Bool} {lf rt : Int} {um bm : Option Nat} {off : Int} {u : Int → Option Bool} {g : Int → Option (List UInt8)} (h : PM w p j l kl kr bg lf rt um bm off u g) (k : Nat) (hk : k < l.length) :
    Calls Tryz.prog 59 #[.pointer (some ⟨p, 0, none⟩), .int .i64 k] w fun e w' => e = .returned (.int .u8 (b2u (usf l u k)).toNat) ∧ w' = w := by
  obtain ⟨ku, hu⟩ := h.mu
  have HG := get_use h.pg.cum hu (k : Int)
  have hl := h.pg.1
  have HLD := hid (load1 Tryz.isAgg73 (h.pg.cu k hk))
  have HK := hid (show k < 1023 by omega)
  have e8 : at8 (useB l) k = ((b2u (l.getD k false)).toNat : Int) := by unfold at8; rw [useB_get l k hk]
  rw [e8] at HLD
  unfold usf
  unfold uV at HG
  clear h hu hl e8
  cases huk : u (k : Int) with
  | some b =>
    rw [huk] at HG
    have HGG := hid HG
    clear HG huk
    go_enter Tryz.func59, Tryz.ntmps59
    go_wp2_with fail
    refine HGG.out.mono ?_
    rintro e w1 ⟨rfl, hw1⟩
    obtain rfl := hw1.symm
    clear HGG
    go_wp2
    go_ret
    exact ⟨rfl, rfl⟩
  | none =>
    rw [huk] at HG
    have HGG := hid HG
    show Calls _ _ _ _ (fun e w' => e = .returned (.int .u8 ((b2u (l.getD k false)).toNat : Nat)) ∧ w' = w)
    generalize (b2u (l.getD k false)).toNat = v at *
    clear HG huk
    go_enter Tryz.func59, Tryz.ntmps59
    go_wp2_with fail
    refine HGG.out.mono ?_
    rintro e w1 ⟨rfl, hw1⟩
    obtain rfl := hw1.symm
    clear HGG
    go_upto_region 4 with fail
    refine wp_region_lit ?_
    refine wp_y (v := .pointer (some ⟨p, 0, none⟩)) rfl rfl (y_move rfl (by kernel_rfl) (by kernel_rfl)) rfl ?_
    refine wp_y (v := .int .i64 k) rfl rfl (y_move rfl (by kernel_rfl) (by kernel_rfl)) rfl ?_
    refine wp_y (v := .pointer (some ⟨p, 0, none⟩)) rfl rfl (y_nil rfl (by kernel_rfl) (by kernel_rfl)) rfl ?_
    refine wp_y (v := .pointer (some ⟨p, 1, none⟩)) rfl rfl (y_faddr rfl (by kernel_rfl) (by kernel_rfl) (fa90_1 (p))) rfl ?_
    refine wp_y (v := .pointer (some ⟨p, 4, none⟩)) rfl rfl (y_faddr rfl (by kernel_rfl) (by kernel_rfl) (fg76_3 (p) (1))) rfl ?_
    refine wp_y (v := .pointer (some ⟨p, 4 + k, none⟩)) rfl rfl (y_index rfl (by kernel_rfl) (by kernel_rfl) (by kernel_rfl) (ix74 p 4 k HK.out)) rfl ?_
    refine wp_y (v := .int .u8 v) rfl rfl (y_load rfl (by kernel_rfl) (by kernel_rfl) (fun w' h => by rw [h]; exact HLD.out)) rfl ?_
    refine wp_y (v := .int .u8 v) rfl rfl (y_assign rfl (by kernel_rfl) (by kernel_rfl)) rfl ?_
    try simp only [List.setIfInBounds_toArray, List.set_cons_zero, List.set_cons_succ]
    refine wp_end ?_
    go_wp2_with fail
    go_ret
    exact ⟨rfl, rfl⟩
theorem readyFor_nil (k : Int) (w : World) : Calls Tryz.prog 61 #[.pointer none, .int .i64 k] w fun e w' => e = .returned (.int .i64 1) ∧ w' = w := by
  have HR := hid (ready_nil w)
  go_enter Tryz.func61, Tryz.ntmps61
  go_wp2_with fail
  refine HR.out.mono ?_
  rintro e w1 ⟨rfl, hw1⟩
  obtain rfl := hw1.symm
  clear HR
  go_wp2
  go_ret
  exact ⟨rfl, rfl⟩
theorem readyFor_off {w : World} {p j : Nat} {l : List Bool} {kl kr : Int} {bg : Bool} {lf rt : Int} {um bm : Option Nat} (h : Pg w p j l kl kr bg lf rt um bm 43) (k : Int) : Calls Tryz.prog 61 #[.pointer (some ⟨p, 0, none⟩), .int .i64 k] w fun e w' => e = .returned (.int .i64 43) ∧ w' = w := by
  have HR := hid (ready_any h)
  clear h
  go_enter Tryz.func61, Tryz.ntmps61
  go_wp2_with fail
  refine HR.out.mono ?_
  rintro e w1 ⟨rfl, hw1⟩
  obtain rfl := hw1.symm
  clear HR
  go_wp2
  go_ret
  exact ⟨rfl, rfl⟩
/-- Is a page taken, as the change has it? -/
def tkn (l : List Bool) (u : Int → Option Bool) (k : Int) : Bool := decide (0 ≤ k) && (decide (k < (l.length : Int)) && usf l u k.toNat)
set_option maxRecDepth 100000 in
set_option maxHeartbeats 800000 in
theorem readyFor_any {w : World} {p j : Nat} {l : List Bool} {kl kr : Int} {bg : Bool} {lf rt : Int} {um bm : Option Nat} {u : Int → Option Bool} {g : Int → Option (List UInt8)} (h : PM w p j l kl kr bg lf rt um bm 0 u g) (k : Int) :
    Calls Tryz.prog 61 #[.pointer (some ⟨p, 0, none⟩), .int .i64 k] w fun e w' => e = .returned (.int .i64 (if tkn l u k then 0 else 81)) ∧ w' = w := by
  have HR := hid (ready_any h.pg)
  have h1 := h.pg.c1
  by_cases h0 : k < 0
  · have e : tkn l u k = false := by unfold tkn; rw [decide_eq_false (by omega)]; rfl
    rw [e]
    have hb : decide (k < 0) = true := decide_eq_true h0
    clear h e
    go_enter Tryz.func61, Tryz.ntmps61
    go_wp2_with fail
    refine HR.out.mono ?_
    rintro e w1 ⟨rfl, hw1⟩
    obtain rfl := hw1.symm
    clear HR
    go_wp2
    go_ret
    exact ⟨rfl, rfl⟩
  · have hb0 : decide (k < 0) = false := decide_eq_false h0
    by_cases hl : k < (l.length : Int)
    · obtain ⟨q, hq⟩ : ∃ q : Nat, k = q := ⟨k.toNat, by omega⟩
      subst hq
      have hql : q < l.length := by omega
      have e : tkn l u (q : Int) = usf l u q := by unfold tkn; rw [decide_eq_true (by omega), decide_eq_true hl]; simp
      rw [e]
      have HU := hid (useOf_any h q hql)
      have hb1 : decide (l.length ≤ q) = false := decide_eq_false (by omega)
      generalize l.length = n at *
      clear h e h0 hl
      cases hus : usf l u q with
      | true =>
        rw [hus] at HU
        clear hus
        go_enter Tryz.func61, Tryz.ntmps61
        go_wp2_with fail
        refine HR.out.mono ?_
        rintro e w1 ⟨rfl, hw1⟩
        obtain rfl := hw1.symm
        clear HR
        go_wp2_with fail
        refine HU.out.mono ?_
        rintro e w1 ⟨rfl, hw1⟩
        obtain rfl := hw1.symm
        clear HU
        simp only [b2u]
        go_wp2
        go_ret
        exact ⟨rfl, rfl⟩
      | false =>
        rw [hus] at HU
        clear hus
        go_enter Tryz.func61, Tryz.ntmps61
        go_wp2_with fail
        refine HR.out.mono ?_
        rintro e w1 ⟨rfl, hw1⟩
        obtain rfl := hw1.symm
        clear HR
        go_wp2_with fail
        refine HU.out.mono ?_
        rintro e w1 ⟨rfl, hw1⟩
        obtain rfl := hw1.symm
        clear HU
        simp only [b2u]
        go_wp2
        go_ret
        exact ⟨rfl, rfl⟩
    · have e : tkn l u k = false := by unfold tkn; rw [decide_eq_false hl]; simp
      rw [e]
      have hb1 : decide ((l.length : Int) ≤ k) = true := decide_eq_true (by omega)
      generalize l.length = n at *
      clear h e
      go_enter Tryz.func61, Tryz.ntmps61
      go_wp2_with fail
      refine HR.out.mono ?_
      rintro e w1 ⟨rfl, hw1⟩
      obtain rfl := hw1.symm
      clear HR
      go_wp2
      go_ret
      exact ⟨rfl, rfl⟩
end Go.Proofs.YtdbgccgjdgomkaaGreatDoor
