/- texts put together: PSess PMap PHeadM PBase PBig PTab PKeys -/
import Derived.Test.YtcmgclkbhhdnaaaGreatDoorJGf
import Derived.Test.YtcmgclkbhhdnaaaGreatDoorJGa
import Derived.Test.YtcmgclkbhhdnaaaGreatDoorJGc
import Derived.Test.YtcmgclkbhhdnaaaGreatDoorJGe
import Derived.WalkSpells
import Derived.Shelf.SlIterI.Sorted
import Derived.Shelf.SlIterI.Nil
namespace Go.Proofs.YtcmgclkbhhdnaaaGreatDoor
open Go Go.RowKit

def strV (b : List UInt8) : Value := .string ⟨b.toArray⟩
/-- The slice v has the numbers zs, in memory from B on. -/
def Ats (w : World) (B : Nat) (v : Value) (zs : List Int) : Prop := w.ownsRow B 3 1 v zs.length (zs.map (Value.int .i64))
theorem Ats.iz {w : World} {B : Nat} {v : Value} {zs : List Int} (h : Ats w B v zs) : Iz w v zs := by
  rcases h.2 with ⟨rfl, h0⟩ | ⟨g, cap, cur, rfl, hb, hg, hc, hm, hs, ht⟩
  · refine ⟨none, 0, by rw [h0], fun k x hx => ?_⟩
    have := (List.getElem?_eq_some_iff.1 hx).1
    omega
  · refine ⟨_, cap, rfl, fun k x hx => ⟨g, 0, rfl, ?_⟩⟩
    rw [Nat.zero_add]
    refine cell_at hg k ?_
    have h1 : (zs.map (Value.int .i64))[k]? = some (.int .i64 x) := by rw [List.getElem?_map, hx]; rfl
    rw [← ht, List.getElem?_take_of_lt (by have := (List.getElem?_eq_some_iff.1 hx).1; omega)] at h1
    simpa using h1
theorem owns_fr {t : TypeId} {w w' : World} {B n : Nat} {v : Value} {xs : List Value} {X : List Nat} (h : w.ownsRow B t 1 v n xs) (hF : Fr X w w') (hX : ∀ g c, w.heap[g]? = some (.cells c t (0, 0)) → g ∉ X) : w'.ownsRow B t 1 v n xs := by
  refine ⟨h.1, ?_⟩
  rcases h.2 with h2 | ⟨g, cap, cur, rfl, hb, hg, r2⟩
  · exact .inl h2
  · exact .inr ⟨g, cap, cur, rfl, hb, hF.at hg (hX g cur hg), r2⟩
theorem Ats.below {w w' : World} {B : Nat} {v : Value} {zs : List Int} (h : Ats w B v zs) (hB : Below w.heap.size w w') : Ats w' B v zs := owns_fr (X := []) h (Fr.of_below hB) (by simp)
theorem infoSl : (Tryz.prog.info? 49).map (fun i => (i.zero, i.size, i.bytes)) = some (some (.slice none 0 0), 1, 24) := by kernel_rfl
/-- All blocks of cells but a disk's, its sectors' and a journal's are as they were. -/
structure Kp (w w' : World) : Prop where
  size : w.heap.size ≤ w'.heap.size
  block : ∀ (g : Nat) (c : Array Value) (t : TypeId) (z : Nat × Nat), w.heap[g]? = some (.cells c t z) → t ≠ 102 → t ≠ 120 → t ≠ 140 → w'.heap[g]? = some (.cells c t z)
theorem Kp.of_below {w w' : World} (h : Below w.heap.size w w') : Kp w w' := ⟨h.size, fun _ _ _ _ hg _ _ _ => below_at h hg (heap_lt hg)⟩
theorem Kp.trans {a b c : World} (h : Kp a b) (k : Kp b c) : Kp a c := ⟨Nat.le_trans h.size k.size, fun g d t z hg h1 h2 h3 => k.block g d t z (h.block g d t z hg h1 h2 h3) h1 h2 h3⟩
theorem Kp.of_fr {w w' : World} {p j nb : Nat} {X : List Nat} {s : DS} {sq off : Int} (hD : Disk w p X s) (hj : Jn w j p nb sq off) (hF : Fr (j :: X) w w') : Kp w w' :=
  ⟨hF.size, fun g c t z hg h1 h2 h3 => hF.at hg (fun hm => by
    rcases List.mem_cons.1 hm with rfl | hm
    · rw [Jn, hg] at hj
      injection hj with hj
      injection hj with _ e
      exact h3 e
    · exact hD.other hg h1 h2 hm)⟩
/-- A journal at rest, in memory from B on, the power on. -/
structure Js (B : Nat) (w : World) (j p : Nat) (X : List Nat) (s : DS) (sq cnt : Nat) (bl : List (List UInt8)) : Prop where
  jr : Jr w j p X s sq cnt bl
  cut : s.cut = -1
  lo : ∀ k ∈ X, B ≤ k
  jlo : B ≤ j
theorem Js.below {B : Nat} {w w' : World} {j p : Nat} {X : List Nat} {s : DS} {sq cnt : Nat} {bl : List (List UInt8)} (h : Js B w j p X s sq cnt bl) (hB : Below w.heap.size w w') : Js B w' j p X s sq cnt bl := ⟨h.jr.below hB, h.cut, h.lo, h.jlo⟩
theorem Js.lo' {B : Nat} {w : World} {j p : Nat} {X : List Nat} {s : DS} {sq cnt : Nat} {bl : List (List UInt8)} (h : Js B w j p X s sq cnt bl) : ∀ k ∈ j :: X, B ≤ k := fun k hk => by
  rcases List.mem_cons.1 hk with rfl | hk
  · exact h.jlo
  · exact h.lo k hk
/-- What the document says of a Write: how many there were, and the blocks. -/
def refW (sq : Nat) (bl : List (List UInt8)) (zs : List Int) (ps : List (List UInt8)) : Nat × List (List UInt8) := if Fit bl.length zs ps ∧ zs ≠ [] then (sq + 1, layAll bl (wsOf zs ps)) else (sq, bl)
def refE (bl : List (List UInt8)) (zs : List Int) (ps : List (List UInt8)) : Int := if Fit bl.length zs ps then 0 else 2
theorem Js.wr {B : Nat} {w : World} {j p : Nat} {X : List Nat} {s : DS} {sq cnt : Nat} {bl : List (List UInt8)} (h : Js B w j p X s sq cnt bl) (hBw : B ≤ w.heap.size) (hsq : sq + 1 ≤ 1000000000) {va vb : Value} {zs : List Int} {ps : List (List UInt8)} (ha : Iz w va zs) (hb : Bz w vb ps) (hl : zs.length ≤ 281474976710656) (ho : s.ops + ((2 * nbOf s.n + 4 : Nat) : Int) ≤ 1048576) :
    Calls Tryz.prog 58 #[.pointer (some ⟨j, 0, none⟩), va, vb] w fun e w' => e = .returned (.int .i64 (refE bl zs ps)) ∧ ∃ s' X' cnt', Js B w' j p X' s' (refW sq bl zs ps).1 cnt' (refW sq bl zs ps).2 ∧ s'.n = s.n ∧ s.ops ≤ s'.ops ∧ s'.ops ≤ s.ops + ((2 * zs.length + 4 : Nat) : Int) ∧ (¬ (Fit bl.length zs ps ∧ zs ≠ []) → s' = s) ∧ (∀ k ∈ X', k ∈ X ∨ w.heap.size ≤ k) ∧ Fr (j :: X) w w' ∧ Below B w w' ∧ Kp w w' := by
  have hbl : bl.length = nbOf s.n := h.jr.sett.con.len
  unfold refE refW
  by_cases hf : Fit bl.length zs ps
  · rw [if_pos hf]
    by_cases h0 : zs = []
    · subst h0
      obtain rfl : ps = [] := List.length_eq_zero_iff.1 hf.1.symm
      rw [if_neg (fun e => e.2 rfl)]
      refine (jwrite_none h.jr.jn ha hb).mono ?_
      rintro e w' ⟨he, hB⟩
      exact ⟨he, s, X, cnt, h.below hB, rfl, Int.le_refl _, by omega, fun _ => rfl, fun k hk => .inl hk, Fr.of_below hB, hB.mono hBw, Kp.of_below hB⟩
    · rw [if_pos ⟨hf, h0⟩]
      have hf' : Fit (nbOf s.n) zs ps := by rw [← hbl]; exact hf
      have hle := hf'.len
      refine (h.jr.write h.cut hsq ha hb hf' h0 (by omega)).mono ?_
      rintro e w' ⟨he, s', X', hJ, h1, h2, h3, hX, hF⟩
      exact ⟨he, s', X', _, ⟨hJ, h2, fun k hk => (hX k hk).elim (h.lo k) (Nat.le_trans hBw), h.jlo⟩, h1, by omega, by omega, fun hn => absurd ⟨hf, h0⟩ hn, hX, hF, hF.below hBw h.lo', Kp.of_fr h.jr.disk h.jr.jn hF⟩
  · rw [if_neg hf, if_neg (fun e => hf e.1)]
    refine (jwrite_bad h.jr.jn ha hb hl (by rw [← hbl]; exact hf)).mono ?_
    rintro e w' ⟨he, hB⟩
    exact ⟨he, s, X, cnt, h.below hB, rfl, Int.le_refl _, by omega, fun _ => rfl, fun k hk => .inl hk, Fr.of_below hB, hB.mono hBw, Kp.of_below hB⟩
/-- Read of a block, as a text. -/
theorem Jr.readS {w : World} {j p : Nat} {X : List Nat} {s : DS} {sq cnt : Nat} {bl : List (List UInt8)} (h : Jr w j p X s sq cnt bl) {i : Nat} {b : List UInt8} (hb : bl[i]? = some b) :
    Calls Tryz.prog 95 #[.pointer (some ⟨j, 0, none⟩), .int .i64 i] w fun e w' => Below w.heap.size w w' ∧ ∃ g f, w.heap.size ≤ g ∧ e = .returned (.tuple #[.slice (some ⟨g, 0, none⟩) 112 112, .int .i64 0]) ∧ Rw w' g 141 f ∧ f.length = 128 ∧ f.take 112 = b ∧ Sl w' (.slice (some ⟨g, 0, none⟩) 112 112) b := by
  refine (h.read hb).mono ?_
  rintro e w' ⟨hB, g, f, hg, he, hf, hfl, hft⟩
  refine ⟨hB, g, f, hg, he, hf, hfl, hft, ?_⟩
  have h1 := hf.rd.part 0 112
  rw [List.drop_zero, hft] at h1
  have hbl : b.length = 112 := h.sett.con.lens b (List.mem_of_getElem? hb)
  have h2 := Sl.mk (cap := 112) h1 (by omega)
  rw [hbl] at h2
  exact h2
theorem Disk.same {w w' : World} {p : Nat} {X : List Nat} {s : DS} (h : Disk w p X s) (hk : ∀ k ∈ X, w'.heap[k]? = w.heap[k]?) : Disk w' p X s := by
  obtain ⟨a, ca, b, cb, m, rfl, hD, ⟨c1, hA, r1⟩, ⟨c2, hB, r2⟩, hM, r⟩ := h
  exact ⟨a, ca, b, cb, m, rfl, (hk _ (by simp)).trans hD, ⟨c1, (hk _ (by simp)).trans hA, r1⟩, ⟨c2, (hk _ (by simp)).trans hB, r2⟩, (hk _ (by simp)).trans hM, r⟩
theorem Js.same {B : Nat} {w w' : World} {j p : Nat} {X : List Nat} {s : DS} {sq cnt : Nat} {bl : List (List UInt8)} (h : Js B w j p X s sq cnt bl) (hk : ∀ k ∈ j :: X, w'.heap[k]? = w.heap[k]?) (ht : Tab w') : Js B w' j p X s sq cnt bl :=
  ⟨⟨(hk j (by simp)).trans h.jr.jn, h.jr.disk.same (fun k hm => hk k (by simp [hm])), ht, h.jr.sett⟩, h.cut, h.lo, h.jlo⟩
theorem Js.lt {B : Nat} {w : World} {j p : Nat} {X : List Nat} {s : DS} {sq cnt : Nat} {bl : List (List UInt8)} (h : Js B w j p X s sq cnt bl) : ∀ k ∈ j :: X, k < w.heap.size := fun k hk => by
  rcases List.mem_cons.1 hk with rfl | hk
  · exact heap_lt h.jr.jn
  · exact h.jr.disk.lt k hk
theorem Js.not {B : Nat} {w : World} {j p : Nat} {X : List Nat} {s : DS} {sq cnt : Nat} {bl : List (List UInt8)} (h : Js B w j p X s sq cnt bl) {g : Nat} {c : Array Value} {t : TypeId} {z : Nat × Nat} (hg : w.heap[g]? = some (.cells c t z)) (h1 : t ≠ 102) (h2 : t ≠ 120) (h3 : t ≠ 140) : g ∉ j :: X := fun hm => by
  rcases List.mem_cons.1 hm with rfl | hm
  · have hj := h.jr.jn
    rw [Jn, hg] at hj
    injection hj with hj
    injection hj with _ e
    exact h3 e
  · exact h.jr.disk.other hg h1 h2 hm
theorem Js.fr {B : Nat} {w w' : World} {j p : Nat} {X Y : List Nat} {s : DS} {sq cnt : Nat} {bl : List (List UInt8)} (h : Js B w j p X s sq cnt bl) (hF : Fr Y w w') (hY : ∀ k ∈ j :: X, k ∉ Y) (ht : Tab w') : Js B w' j p X s sq cnt bl :=
  h.same (fun k hk => hF.block k (h.lt k hk) (hY k hk)) ht
theorem Tab.belowB {B : Nat} {w w' : World} (h : Tab w) (hB : Below B w w') (hl : 0 < B) : Tab w' := fun k hk => by
  rw [hB.cell (p := ⟨0, k, none⟩) hl]; exact h k hk
theorem neqS (a b : List UInt8) (r : Bool) (h : decide (a ≠ b) = r) (w : World) : (binOp .neq 9 (strV a) (strV b)).run Tryz.prog w = .ok (.bool r) w := by
  subst h
  unfold strV
  go_simp
  by_cases hab : a = b <;> simp [hab]
theorem neqE (a b : Int) (r : Bool) (h : (a != b) = r) (w : World) : (binOp .neq 33 (.int .i64 a) (.int .i64 b)).run Tryz.prog w = .ok (.bool r) w := by subst h; go_simp
theorem y_neqS {ops : Array Oper} {S : World → Prop} {o : Oper} {a : Act} {x y : Operand} {t' : TypeId} {l m : List UInt8} {r : Bool} (hop : o.op = .binOp .neq 9 x y t') (hw : Region.wanted o (yielded ops a.tmps) = true) (hx : a.eval x = strV l) (hy : a.eval y = strV m) (hr : decide (l ≠ m) = r) : YieldsIf Tryz.prog ops S o (.bool r) a :=
  .inl ⟨hw, fun w _ => by
    unfold execOp; rw [hop]; simp only [hx, hy, Sem.run_bind]
    have : (eqGuard .neq 9 x y (strV l) (strV m)).run Tryz.prog w = .ok () w := by
      unfold eqGuard strV; go_simp
    rw [this]; simp only [Result.andThen_ok, neqS l m r hr w]; rfl⟩
/-- A journal at rest, in memory from B on; the power may go. -/
structure Jc (B : Nat) (w : World) (j p : Nat) (X : List Nat) (s : DS) (sq cnt : Nat) (bl : List (List UInt8)) : Prop where
  jr : Jr w j p X s sq cnt bl
  lo : ∀ k ∈ X, B ≤ k
  jlo : B ≤ j
theorem Jc.below {B : Nat} {w w' : World} {j p : Nat} {X : List Nat} {s : DS} {sq cnt : Nat} {bl : List (List UInt8)} (h : Jc B w j p X s sq cnt bl) (hB : Below w.heap.size w w') : Jc B w' j p X s sq cnt bl := ⟨h.jr.below hB, h.lo, h.jlo⟩
theorem Jc.lo' {B : Nat} {w : World} {j p : Nat} {X : List Nat} {s : DS} {sq cnt : Nat} {bl : List (List UInt8)} (h : Jc B w j p X s sq cnt bl) : ∀ k ∈ j :: X, B ≤ k := fun k hk => by
  rcases List.mem_cons.1 hk with rfl | hk
  · exact h.jlo
  · exact h.lo k hk
theorem Jc.lt {B : Nat} {w : World} {j p : Nat} {X : List Nat} {s : DS} {sq cnt : Nat} {bl : List (List UInt8)} (h : Jc B w j p X s sq cnt bl) : ∀ k ∈ j :: X, k < w.heap.size := fun k hk => by
  rcases List.mem_cons.1 hk with rfl | hk
  · exact heap_lt h.jr.jn
  · exact h.jr.disk.lt k hk
theorem Jc.not {B : Nat} {w : World} {j p : Nat} {X : List Nat} {s : DS} {sq cnt : Nat} {bl : List (List UInt8)} (h : Jc B w j p X s sq cnt bl) {g : Nat} {c : Array Value} {t : TypeId} {z : Nat × Nat} (hg : w.heap[g]? = some (.cells c t z)) (h1 : t ≠ 102) (h2 : t ≠ 120) (h3 : t ≠ 140) : g ∉ j :: X := fun hm => by
  rcases List.mem_cons.1 hm with rfl | hm
  · have hj := h.jr.jn
    rw [Jn, hg] at hj
    injection hj with hj
    injection hj with _ e
    exact h3 e
  · exact h.jr.disk.other hg h1 h2 hm
theorem Jc.fr {B : Nat} {w w' : World} {j p : Nat} {X Y : List Nat} {s : DS} {sq cnt : Nat} {bl : List (List UInt8)} (h : Jc B w j p X s sq cnt bl) (hF : Fr Y w w') (hY : ∀ k ∈ j :: X, k ∉ Y) (ht : Tab w') : Jc B w' j p X s sq cnt bl :=
  ⟨⟨hF.at h.jr.jn (hY j (by simp)), h.jr.disk.fr hF (fun k hk => hY k (by simp [hk])), ht, h.jr.sett⟩, h.lo, h.jlo⟩
/-- What a Write leaves where the power went: wholly or not at all. -/
structure Gone (B : Nat) (w : World) (j p : Nat) (X : List Nat) (s : DS) (n sq cnt : Nat) (bl : List (List UInt8)) (sq2 cnt2 : Nat) (bl2 : List (List UInt8)) : Prop where
  jn : ∃ q : Int, Jn w j p (nbOf n) q 43
  disk : Disk w p X s
  tab : Tab w
  sn : s.n = n
  lo : ∀ k ∈ X, B ≤ k
  jlo : B ≤ j
  con : ∀ zs, Con (crashed s.kept s.loose zs) (nbOf n) sq cnt bl ∨ Con (crashed s.kept s.loose zs) (nbOf n) sq2 cnt2 bl2
theorem Jc.wr {B : Nat} {w : World} {j p : Nat} {X : List Nat} {s : DS} {sq cnt : Nat} {bl : List (List UInt8)} (h : Jc B w j p X s sq cnt bl) (hBw : B ≤ w.heap.size) (hsq : sq + 1 ≤ 1000000000) {va vb : Value} {zs : List Int} {ps : List (List UInt8)} (ha : Iz w va zs) (hb : Bz w vb ps) (hl : zs.length ≤ 281474976710656) (ho : s.ops + ((2 * nbOf s.n + 4 : Nat) : Int) ≤ 1048576) :
    Calls Tryz.prog 58 #[.pointer (some ⟨j, 0, none⟩), va, vb] w fun e w' => Below B w w' ∧ Kp w w' ∧
      ((e = .returned (.int .i64 (refE bl zs ps)) ∧ ∃ s' X' cnt', Jc B w' j p X' s' (refW sq bl zs ps).1 cnt' (refW sq bl zs ps).2 ∧ s'.n = s.n ∧ s.ops ≤ s'.ops ∧ s'.ops ≤ s.ops + ((2 * zs.length + 4 : Nat) : Int)) ∨
       (e = .returned (.int .i64 43) ∧ refE bl zs ps = 0 ∧ ∃ s' X' cnt2, Gone B w' j p X' s' s.n sq cnt bl (refW sq bl zs ps).1 cnt2 (refW sq bl zs ps).2)) := by
  have hbl : bl.length = nbOf s.n := h.jr.sett.con.len
  unfold refE refW
  by_cases hf : Fit bl.length zs ps
  · rw [if_pos hf]
    by_cases h0 : zs = []
    · subst h0
      obtain rfl : ps = [] := List.length_eq_zero_iff.1 hf.1.symm
      rw [if_neg (fun e => e.2 rfl)]
      refine (jwrite_none h.jr.jn ha hb).mono ?_
      rintro e w' ⟨he, hB⟩
      exact ⟨hB.mono hBw, Kp.of_below hB, .inl ⟨he, s, X, cnt, h.below hB, rfl, Int.le_refl _, by omega⟩⟩
    · rw [if_pos ⟨hf, h0⟩]
      have hf' : Fit (nbOf s.n) zs ps := by rw [← hbl]; exact hf
      have hwl := wsOf_len hf'.1
      have hnl := hf'.len
      have hs := com_shape h.jr.sett (ws := wsOf zs ps) hsq (by rw [hwl]; exact hnl) (wsOf_nodup hf') (wsOf_ok hf') (by rw [hwl]; omega)
      rw [hwl] at hs
      refine (jwrite_any h.jr.jn h.jr.disk h.jr.tab (by have := h.jr.nb; omega) (by omega) ha hb hf' h0).mono ?_
      rintro e w' ⟨he, hj, ⟨X', hD, hX⟩, hF⟩
      rw [nsOf_ws hf'] at he hj hD
      refine ⟨hF.below hBw h.lo', Kp.of_fr h.jr.disk h.jr.jn hF, ?_⟩
      have hT := h.jr.tab.fr hF (tab_not h.jr.disk h.jr.jn h.jr.tab)
      have hlo : ∀ k ∈ X', B ≤ k := fun k hk => (hX k hk).elim (h.lo k) (Nat.le_trans hBw)
      rcases hs with ⟨s', hc, hS, h1, h2, h3⟩ | ⟨s', hc, _, h1, hcon⟩
      · rw [hc] at he hj hD
        refine .inl ⟨he, s', X', _, ⟨⟨?_, hD, hT, hS⟩, hlo, h.jlo⟩, h1, by omega, by omega⟩
        rw [h1]
        exact hj
      · rw [hc] at he hj hD
        exact .inr ⟨he, rfl, s', X', zs.length, ⟨_, hj⟩, hD, hT, h1, hlo, h.jlo, hcon⟩
  · rw [if_neg hf, if_neg (fun e => hf e.1)]
    refine (jwrite_bad h.jr.jn ha hb hl (by rw [← hbl]; exact hf)).mono ?_
    rintro e w' ⟨he, hB⟩
    exact ⟨hB.mono hBw, Kp.of_below hB, .inl ⟨he, s, X, cnt, h.below hB, rfl, Int.le_refl _, by omega⟩⟩
theorem notesR_zero (nb : Nat) (sq : Int) : ∀ (L : List (List UInt8)) (i : Nat) (ns : List (Nat × List UInt8)), notesR nb sq ((0 : Nat) : Int) i L = some ns → ns = []
  | [], i, ns, h => by simp [notesR] at h; exact h
  | l :: L, i, ns, h => by
    have hs : ∀ a, noteStep nb sq ((0 : Nat) : Int) i l = some a → a = [] := fun a ha => by
      unfold noteStep at ha
      split at ha
      · cases ha
      · rw [if_pos (by omega)] at ha; cases ha; rfl
    simp only [notesR] at h
    cases hn : noteStep nb sq ((0 : Nat) : Int) i l with
    | none => rw [hn] at h; cases h
    | some a =>
      rw [hn] at h
      simp only [Option.map_eq_some_iff] at h
      obtain ⟨b, hb, rfl⟩ := h
      rw [hs a hn, notesR_zero nb sq L (i + 1) b hb]
      rfl
theorem Con.opens0 {s : DS} {sq : Nat} {bl : List (List UInt8)} (h : Con s.now (nbOf s.n) sq 0 bl) (hl : s.loose = []) : s.openR = (0, ((sq : Nat) : Int), s) := by
  obtain ⟨ns, hns, _, _⟩ := h.notesOf
  have h0 := notesR_zero _ _ _ _ _ hns
  subst h0
  unfold DS.openR
  rw [h.last, if_neg (by simp)]
  simp only [hns]
  rw [if_neg (by rw [h.ok]; decide), List.filter_nil]
  unfold DS.mendR
  rw [hl]
  simp
theorem tab_lt {w : World} (h : Tab w) : 0 < w.heap.size := World.block_lt_of_cell? w _ (h 0 (by decide))
theorem open_first {w : World} {p : Nat} {X : List Nat} {s : DS} {sq : Nat} {bl : List (List UInt8)} (hD : Disk w p X s) (ht : Tab w) (hS : Sett s sq 0 bl) (hn : 0 ∉ X) :
    Calls Tryz.prog 25 #[.pointer (some ⟨p, 0, none⟩)] w fun e w' => ∃ j X', w.heap.size ≤ j ∧ e = .returned (.tuple #[.pointer (some ⟨j, 0, none⟩), .int .i64 0]) ∧ Jr w' j p X' s sq 0 bl ∧ (∀ k ∈ X', k ∈ X ∨ w.heap.size ≤ k) ∧ Fr X w w' := by
  refine (open_any hD ht hS.gone hS.n32).mono ?_
  rintro e w' ⟨⟨X', hD', hX'⟩, hF, hr⟩
  rw [hS.con.opens0 hS.loose] at hD' hr
  rcases hr with ⟨hne, _⟩ | ⟨_, j, hj, he, hJ⟩
  · exact absurd rfl hne
  · exact ⟨j, X', hj, he, ⟨hJ, hD', ht.fr hF hn, hS⟩, hX', hF⟩
/-- Which of n things the number speaks of. -/
def pk (c : Int) (n : Nat) : Nat := ((if c < 0 then -(c + 1) else c) % (n : Int)).toNat
theorem pk_lt (c : Int) {n : Nat} (h : n ≠ 0) : pk c n < n := by
  unfold pk
  have h1 := Int.emod_nonneg (if c < 0 then -(c + 1) else c) (show (n : Int) ≠ 0 by omega)
  have h2 := Int.emod_lt_of_pos (if c < 0 then -(c + 1) else c) (show (0 : Int) < n by omega)
  omega

theorem ret_intK {k : IntKind} {a b : Int} (h : a = b) : Ending.returned (.int k a) = .returned (.int k b) := by rw [h]
set_option maxHeartbeats 400000 in
theorem pick_any (c : Int) (n : Nat) (h0 : -9223372036854775808 ≤ c) (h1 : c ≤ 9223372036854775807) (hn : n ≠ 0) (w : World) :
    Calls Tryz.prog 12 #[.int .i64 c, .int .i64 n] w fun e w' => e = .returned (.int .i64 (pk c n : Nat)) ∧ w' = w := by
  have fin : ∀ d : Int, (if c < 0 then -(c + 1) else c) = d → ((pk c n : Nat) : Int) = d % (n : Int) := fun d hd => by
    unfold pk; rw [hd]
    have := Int.emod_nonneg d (show (n : Int) ≠ 0 by omega)
    omega
  have hnz : ((n : Int) == 0) = false := by rw [beq_eq_false_iff_ne]; omega
  by_cases hc : c < 0
  · obtain ⟨d, hd, hd0, hd1⟩ : ∃ d : Int, c = -d ∧ 1 ≤ d ∧ d ≤ 9223372036854775808 := ⟨-c, by omega, by omega, by omega⟩
    have hf := fin (d - 1) (by rw [if_pos hc]; omega)
    rw [hf]
    clear fin hf
    go_enter Tryz.func12, Tryz.ntmps12
    go_wp2
    go_ret
    refine ⟨ret_intK ?_, rfl⟩
    have e : -d + 1 = -(d - 1) := by omega
    rw [e, Int.neg_tmod, Int.neg_neg, Int.tmod_eq_emod_of_nonneg (by omega)]
  · have hf := fin c (by rw [if_neg hc])
    rw [hf]
    clear fin hf
    go_enter Tryz.func12, Tryz.ntmps12
    go_wp2
    go_ret
    exact ⟨rfl, rfl⟩


end Go.Proofs.YtcmgclkbhhdnaaaGreatDoor
namespace Go.Proofs.YtcmgclkbhhdnaaaGreatDoor
open Go Go.RowKit

/-- The entries es are those of the keys ks, each with what f has for it. -/
structure Mv (es : Array MapEntry) (clock : Nat) (ks : List Int) (f : Int → Option Value) : Prop where
  keys : es.toList.map (·.key) = ks.map (Value.int .i64)
  nd : ks.Nodup
  born : ∀ x ∈ es.toList, x.born < clock
  bnd : (es.toList.map (·.born)).Nodup
  vals : ∀ (i : Nat) (x : MapEntry) (k : Int), es.toList[i]? = some x → ks[i]? = some k → f k = some x.val
  out : ∀ k, k ∉ ks → f k = none
theorem Mv.empty : Mv #[] 0 [] (fun _ => none) := ⟨rfl, List.nodup_nil, by simp, by simp, by simp, fun _ _ => rfl⟩
theorem Mv.len {es : Array MapEntry} {clock : Nat} {ks : List Int} {f : Int → Option Value} (h : Mv es clock ks f) : es.toList.length = ks.length := by
  have := congrArg List.length h.keys
  simpa using this
theorem fn_in : ∀ (l : List MapEntry) (ks : List Int) (j i : Nat) (k : Int) (x : MapEntry), l.map (·.key) = ks.map (Value.int .i64) → ks.Nodup → ks[i]? = some k → l[i]? = some x → Instr.findNow (.int .i64) (.int .i64 k) l j = some (some (j + i, x.val))
  | [], _, _, _, _, _, _, _, _, h => by simp at h
  | y :: r, [], _, _, _, _, h, _, _, _ => by simp at h
  | y :: r, z :: zs, j, 0, k, x, h, hn, hk, hx => by
    simp only [List.map_cons, List.cons.injEq] at h
    simp at hk hx
    subst hk; subst hx
    simp [Instr.findNow, Instr.sameNow, h.1]
  | y :: r, z :: zs, j, i + 1, k, x, h, hn, hk, hx => by
    simp only [List.map_cons, List.cons.injEq] at h
    simp only [List.getElem?_cons_succ] at hk hx
    have ih := fn_in r zs (j + 1) i k x h.2 (List.nodup_cons.1 hn).2 hk hx
    have hne : (k == z) = false := by
      rw [beq_eq_false_iff_ne]
      intro e
      subst e
      exact (List.nodup_cons.1 hn).1 (List.mem_of_getElem? hk)
    simp only [Instr.findNow, Instr.sameNow, h.1, if_true, hne, ih]
    congr 3; omega
theorem fn_out : ∀ (l : List MapEntry) (ks : List Int) (j : Nat) (k : Int), l.map (·.key) = ks.map (Value.int .i64) → k ∉ ks → Instr.findNow (.int .i64) (.int .i64 k) l j = some none
  | [], _, _, _, _, _ => rfl
  | y :: r, [], _, _, h, _ => by simp at h
  | y :: r, z :: zs, j, k, h, hk => by
    simp only [List.map_cons, List.cons.injEq] at h
    have ih := fn_out r zs (j + 1) k h.2 (fun hm => hk (List.mem_cons_of_mem _ hm))
    have hne : (k == z) = false := by rw [beq_eq_false_iff_ne]; intro e; exact hk (by simp [e])
    simp only [Instr.findNow, Instr.sameNow, h.1, if_true, hne, ih]
theorem nd_inj {ks : List Int} (h : ks.Nodup) {i j : Nat} {k : Int} (hi : ks[i]? = some k) (hj : ks[j]? = some k) : i = j := by
  obtain ⟨hil, hie⟩ := List.getElem?_eq_some_iff.1 hi
  obtain ⟨hjl, hje⟩ := List.getElem?_eq_some_iff.1 hj
  have hp := List.pairwise_iff_getElem.1 h
  rcases Nat.lt_trichotomy i j with hlt | heq | hgt
  · exact absurd (hie.trans hje.symm) (hp i j hil hjl hlt)
  · exact heq
  · exact absurd (hje.trans hie.symm) (hp j i hjl hil hgt)
theorem map_erase {α β : Type} (f : α → β) : ∀ (l : List α) (i : Nat), (l.eraseIdx i).map f = (l.map f).eraseIdx i
  | [], _ => by simp
  | a :: r, 0 => by simp
  | a :: r, i + 1 => by simp [map_erase f r i]
/-- Another value at one key. -/
def upd (f : Int → Option Value) (k : Int) (v : Option Value) : Int → Option Value := fun x => if x = k then v else f x
theorem upd_same (f : Int → Option Value) (k : Int) (v : Option Value) : upd f k v k = v := by simp [upd]
theorem upd_ne (f : Int → Option Value) {k x : Int} (v : Option Value) (h : x ≠ k) : upd f k v x = f x := by simp [upd, h]
/-- The map in block m. -/
def Mk (w : World) (m : Nat) (ks : List Int) (f : Int → Option Value) : Prop := ∃ es clock, w.heap[m]? = some (.map es clock) ∧ Mv es clock ks f
theorem Mk.lt {w : World} {m : Nat} {ks : List Int} {f : Int → Option Value} (h : Mk w m ks f) : m < w.heap.size := by
  obtain ⟨es, cl, hm, _⟩ := h; exact heap_lt hm
theorem Mk.fr {X : List Nat} {w a : World} {m : Nat} {ks : List Int} {f : Int → Option Value} (h : Mk w m ks f) (hF : Fr X w a) (hX : m ∉ X) : Mk a m ks f := by
  obtain ⟨es, cl, hm, r⟩ := h; exact ⟨es, cl, hF.at hm hX, r⟩
theorem Mk.below {B : Nat} {w a : World} {m : Nat} {ks : List Int} {f : Int → Option Value} (h : Mk w m ks f) (hF : Below B w a) (hX : m < B) : Mk a m ks f := by
  obtain ⟨es, cl, hm, r⟩ := h; exact ⟨es, cl, below_at hF hm hX, r⟩
theorem Mk.look {w : World} {m : Nat} {ks : List Int} {f : Int → Option Value} (h : Mk w m ks f) {T E : TypeId} (hu : Tryz.prog.underlying T = some (.map 3 E)) {z : Value} (hz : ∀ w, (zeroValue E).run Tryz.prog w = .ok z w) (k : Int) :
    (Instr.lookup T (.map (some m)) (.int .i64 k) true).run Tryz.prog w = .ok (.tuple #[(f k).getD z, .bool (f k).isSome]) w := by
  obtain ⟨es, cl, hm, hv⟩ := h
  have hn : Instr.findKey 3 (.int .i64 k) es.toList = (do
      match Instr.findNow (← underlying 3) (.int .i64 k) es.toList 0 with
      | some r => pure r
      | none => Instr.findAsking 3 (.int .i64 k) es.toList) := rfl
  by_cases hk : k ∈ ks
  · obtain ⟨i, hi⟩ := List.getElem?_of_mem hk
    have hil : i < es.toList.length := by rw [hv.len]; exact (List.getElem?_eq_some_iff.1 hi).1
    have hx : es.toList[i]? = some es.toList[i] := List.getElem?_eq_getElem hil
    have hf := fn_in es.toList ks 0 i k _ hv.keys hv.nd hi hx
    rw [hv.vals i _ k hx hi]
    simp only [Instr.lookup, Sem.run_bind, run_underlying hu, Result.andThen_ok, MapKept.run_getObj_map hm, Sem.run_pure, check_int, hn, run_underlying Tryz.underlying3, hf]
    rfl
  · have hf := fn_out es.toList ks 0 k hv.keys hk
    rw [hv.out k hk]
    simp only [Instr.lookup, Sem.run_bind, run_underlying hu, Result.andThen_ok, MapKept.run_getObj_map hm, Sem.run_pure, check_int, hn, run_underlying Tryz.underlying3, hf, hz]
    rfl
theorem look_nil {T E : TypeId} (hu : Tryz.prog.underlying T = some (.map 3 E)) {z : Value} (hz : ∀ w, (zeroValue E).run Tryz.prog w = .ok z w) (k : Int) (w : World) :
    (Instr.lookup T (.map none) (.int .i64 k) true).run Tryz.prog w = .ok (.tuple #[z, .bool false]) w := by
  have hn : Instr.findKey 3 (.int .i64 k) [] = (do
      match Instr.findNow (← underlying 3) (.int .i64 k) [] 0 with
      | some r => pure r
      | none => Instr.findAsking 3 (.int .i64 k) []) := rfl
  simp only [Instr.lookup, Sem.run_bind, run_underlying hu, Result.andThen_ok, Sem.run_pure, check_int, hn, run_underlying Tryz.underlying3, Instr.findNow, hz]
  rfl
/-- The world with another map in block m. -/
def remap (w : World) (m : Nat) (es : Array MapEntry) (cl : Nat) : World := { w with heap := w.heap.setIfInBounds m (.map es cl) }
theorem Fr.remap (w : World) (m : Nat) (es : Array MapEntry) (cl : Nat) : Fr [m] w (remap w m es cl) :=
  ⟨rfl, rfl, rfl, by simp [Go.Proofs.YtcmgclkbhhdnaaaGreatDoor.remap], fun k _ hk => by
    have : m ≠ k := fun e => hk (by simp [e])
    simp [Go.Proofs.YtcmgclkbhhdnaaaGreatDoor.remap, this]⟩
theorem remap_at {w : World} {m : Nat} {o : Obj} (h : w.heap[m]? = some o) (es : Array MapEntry) (cl : Nat) : (remap w m es cl).heap[m]? = some (.map es cl) := by
  have := heap_lt h
  simp [remap, this]
/-- The keys behind a store, behind a delete. -/
def kput (ks : List Int) (k : Int) : List Int := if k ∈ ks then ks else ks ++ [k]
theorem kput_nodup {ks : List Int} (h : ks.Nodup) (k : Int) : (kput ks k).Nodup := by
  unfold kput
  split
  · exact h
  · exact List.nodup_append.2 ⟨h, by simp, fun a ha b hb => by simp at hb; subst hb; exact fun e => by subst e; contradiction⟩
theorem Mk.put {w : World} {m : Nat} {ks : List Int} {f : Int → Option Value} (h : Mk w m ks f) {T E : TypeId} (hu : Tryz.prog.underlying T = some (.map 3 E)) (k : Int) (v : Value) :
    ∃ w', (Instr.mapUpdate T (.map (some m)) (.int .i64 k) v).run Tryz.prog w = .ok () w' ∧ Mk w' m (kput ks k) (upd f k (some v)) ∧ Fr [m] w w' := by
  obtain ⟨es, cl, hm, hv⟩ := h
  have hn : Instr.findKey 3 (.int .i64 k) es.toList = (do
      match Instr.findNow (← underlying 3) (.int .i64 k) es.toList 0 with
      | some r => pure r
      | none => Instr.findAsking 3 (.int .i64 k) es.toList) := rfl
  by_cases hk : k ∈ ks
  · obtain ⟨i, hi⟩ := List.getElem?_of_mem hk
    have hil : i < es.toList.length := by rw [hv.len]; exact (List.getElem?_eq_some_iff.1 hi).1
    have hx : es.toList[i]? = some es.toList[i] := List.getElem?_eq_getElem hil
    have hf := fn_in es.toList ks 0 i k _ hv.keys hv.nd hi hx
    rw [Nat.zero_add] at hf
    have hkey : (es.toList[i]).key = .int .i64 k := by
      have h1 : (es.toList.map (·.key))[i]? = some (.int .i64 k) := by rw [hv.keys, List.getElem?_map, hi]; rfl
      rw [List.getElem?_map, hx] at h1
      exact Option.some.inj h1
    have he : ((es[i]?).map (·.key)).getD (.int .i64 k) = .int .i64 k := by
      rw [← Array.getElem?_toList, hx]; exact hkey
    refine ⟨remap w m (es.modify i fun e => { e with key := .int .i64 k, val := v }) cl, ?_, ⟨_, _, remap_at hm _ _, ?_⟩, Fr.remap w m _ _⟩
    · simp only [Instr.mapUpdate, Sem.run_bind, run_underlying hu, Result.andThen_ok, MapKept.run_getObj_map hm, Sem.run_pure, check_int, hn, run_underlying Tryz.underlying3, hf, he, stays_int, MapKept.run_setObj_map _ hm]
      rfl
    · have hmod : (es.modify i fun e => { e with key := .int .i64 k, val := v }).toList = es.toList.modify i fun e => { e with key := .int .i64 k, val := v } := by simp
      have hmap : ∀ {β : Type} (g : MapEntry → β), g { es.toList[i] with key := .int .i64 k, val := v } = g es.toList[i] → (es.toList.modify i fun e => { e with key := .int .i64 k, val := v }).map g = es.toList.map g := fun g hg => by
        apply List.ext_getElem?
        intro j
        rw [List.getElem?_map, List.getElem?_map, List.getElem?_modify]
        by_cases e : i = j
        · subst e
          rw [hx]
          show Option.map g (some _) = _
          simp only [if_true, Option.map_some]
          exact congrArg some hg
        · simp [e]
      rw [kput, if_pos hk]
      refine ⟨?_, hv.nd, ?_, ?_, ?_, ?_⟩
      · rw [hmod, hmap (·.key) hkey.symm]; exact hv.keys
      · intro x hxm
        rw [hmod] at hxm
        obtain ⟨j, hj⟩ := List.getElem?_of_mem hxm
        rw [List.getElem?_modify] at hj
        obtain ⟨y, hy, rfl⟩ := Option.map_eq_some_iff.1 hj
        have := hv.born y (List.mem_of_getElem? hy)
        split <;> exact this
      · rw [hmod, hmap (·.born) rfl]; exact hv.bnd
      · intro j x k' hj hk'
        rw [hmod, List.getElem?_modify] at hj
        obtain ⟨y, hy, rfl⟩ := Option.map_eq_some_iff.1 hj
        by_cases e : i = j
        · subst e
          rw [hi] at hk'; cases hk'
          rw [upd_same, if_pos rfl]
        · rw [if_neg e, upd_ne]
          · exact hv.vals j y k' hy hk'
          · intro e2
            subst e2
            exact e (nd_inj hv.nd hi hk')
      · intro x hx'
        rw [upd_ne _ _ (fun e => hx' (by rw [e]; exact hk))]
        exact hv.out x hx'
  · have hf := fn_out es.toList ks 0 k hv.keys hk
    refine ⟨remap w m (es.push { key := .int .i64 k, val := v, born := cl }) (cl + 1), ?_, ⟨_, _, remap_at hm _ _, ?_⟩, Fr.remap w m _ _⟩
    · simp only [Instr.mapUpdate, Sem.run_bind, run_underlying hu, Result.andThen_ok, MapKept.run_getObj_map hm, Sem.run_pure, check_int, hn, run_underlying Tryz.underlying3, hf, MapKept.run_setObj_map _ hm]
      rfl
    · rw [kput, if_neg hk]
      refine ⟨?_, ?_, ?_, ?_, ?_, ?_⟩
      · rw [Array.toList_push, List.map_append, hv.keys]; simp
      · have := kput_nodup hv.nd k; rwa [kput, if_neg hk] at this
      · intro x hx
        rw [Array.toList_push] at hx
        rcases List.mem_append.1 hx with h | h
        · have := hv.born x h; omega
        · rw [List.mem_singleton.1 h]; simp
      · rw [Array.toList_push, List.map_append]
        refine List.nodup_append.2 ⟨hv.bnd, by simp, fun a ha b hb e => ?_⟩
        simp at hb
        subst hb; subst e
        obtain ⟨x, hx, hxe⟩ := List.mem_map.1 ha
        have := hv.born x hx
        omega
      · intro j x k' hj hk'
        rw [Array.toList_push] at hj
        by_cases hjl : j < es.toList.length
        · rw [List.getElem?_append_left hjl] at hj
          rw [List.getElem?_append_left (by rw [← hv.len]; exact hjl)] at hk'
          rw [upd_ne _ _ (fun e => hk (by rw [← e]; exact List.mem_of_getElem? hk'))]
          exact hv.vals j x k' hj hk'
        · rw [List.getElem?_append_right (by omega)] at hj
          rw [List.getElem?_append_right (by rw [← hv.len]; omega), ← hv.len] at hk'
          generalize j - es.toList.length = d at *
          cases d with
          | zero => simp at hj hk'; subst hj; subst hk'; rw [upd_same]
          | succ d => simp at hj
      · intro x hx'
        rw [upd_ne _ _ (fun e => hx' (by rw [e]; simp))]
        exact hv.out x (fun h => hx' (by simp [h]))
theorem Mk.drop {w : World} {m : Nat} {ks : List Int} {f : Int → Option Value} (h : Mk w m ks f) {T E T2 : TypeId} (hu : Tryz.prog.underlying T = some (.map 3 E)) (ty : TypeId) (k : Int) :
    ∃ w' ks', (Builtin.delete_ #[T, T2] ty #[.map (some m), .int .i64 k]).run Tryz.prog w = .ok (.tuple #[]) w' ∧ Mk w' m ks' (upd f k none) ∧ (∀ x, x ∈ ks' ↔ x ≠ k ∧ x ∈ ks) ∧ Fr [m] w w' := by
  obtain ⟨es, cl, hm, hv⟩ := h
  have hn : Instr.findKey 3 (.int .i64 k) es.toList = (do
      match Instr.findNow (← underlying 3) (.int .i64 k) es.toList 0 with
      | some r => pure r
      | none => Instr.findAsking 3 (.int .i64 k) es.toList) := rfl
  by_cases hk : k ∈ ks
  · obtain ⟨i, hi⟩ := List.getElem?_of_mem hk
    have hil : i < es.toList.length := by rw [hv.len]; exact (List.getElem?_eq_some_iff.1 hi).1
    have hx : es.toList[i]? = some es.toList[i] := List.getElem?_eq_getElem hil
    have hf := fn_in es.toList ks 0 i k _ hv.keys hv.nd hi hx
    rw [Nat.zero_add] at hf
    have her : (es.eraseIdxIfInBounds i).toList = es.toList.eraseIdx i := by
      unfold Array.eraseIdxIfInBounds
      rw [dif_pos (by simpa using hil)]
      simp
    have hmem : ∀ x, x ∈ ks.eraseIdx i ↔ x ≠ k ∧ x ∈ ks := fun x => by
      rw [List.mem_eraseIdx_iff_getElem?]
      constructor
      · rintro ⟨j, hj, hx⟩
        refine ⟨fun e => ?_, List.mem_of_getElem? hx⟩
        subst e
        exact hj (nd_inj hv.nd hx hi)
      · rintro ⟨hne, hx⟩
        obtain ⟨j, hj⟩ := List.getElem?_of_mem hx
        refine ⟨j, fun e => ?_, hj⟩
        subst e
        rw [hi] at hj; cases hj
        exact hne rfl
    refine ⟨remap w m (es.eraseIdxIfInBounds i) cl, ks.eraseIdx i, ?_, ⟨_, _, remap_at hm _ _, ?_⟩, hmem, Fr.remap w m _ _⟩
    · simp only [Builtin.delete_, List.getElem?_toArray, List.getElem?_cons_zero, List.getElem?_cons_succ, Sem.run_bind, run_underlying hu, Result.andThen_ok, MapKept.run_getObj_map hm, Sem.run_pure, check_int, hn, run_underlying Tryz.underlying3, hf, MapKept.run_setObj_map _ hm]
      rfl
    · have hsub : ∀ x ∈ es.toList.eraseIdx i, x ∈ es.toList := fun x h => List.mem_of_mem_eraseIdx h
      refine ⟨?_, hv.nd.sublist (List.eraseIdx_sublist _ _), ?_, ?_, ?_, ?_⟩
      · rw [her, map_erase, hv.keys, ← map_erase]
      · intro x hx'
        rw [her] at hx'
        exact hv.born x (hsub x hx')
      · rw [her, map_erase]
        exact hv.bnd.sublist (List.eraseIdx_sublist _ _)
      · intro j x k' hj hk'
        rw [her, List.getElem?_eraseIdx] at hj
        rw [List.getElem?_eraseIdx] at hk'
        have hm' : k' ≠ k := ((hmem k').1 (List.mem_of_getElem? (by rw [List.getElem?_eraseIdx]; exact hk'))).1
        rw [upd_ne _ _ hm']
        split at hj
        · rename_i hlt
          rw [if_pos hlt] at hk'
          exact hv.vals j x k' hj hk'
        · rename_i hlt
          rw [if_neg hlt] at hk'
          exact hv.vals (j + 1) x k' hj hk'
      · intro x hx'
        by_cases e : x = k
        · rw [e, upd_same]
        · rw [upd_ne _ _ e]
          exact hv.out x (fun h => hx' ((hmem x).2 ⟨e, h⟩))
  · have hf := fn_out es.toList ks 0 k hv.keys hk
    refine ⟨remap w m es cl, ks, ?_, ⟨_, _, remap_at hm _ _, ?_⟩, fun x => ⟨fun h => ⟨fun e => hk (by rw [← e]; exact h), h⟩, fun h => h.2⟩, Fr.remap w m _ _⟩
    · simp only [Builtin.delete_, List.getElem?_toArray, List.getElem?_cons_zero, List.getElem?_cons_succ, Sem.run_bind, run_underlying hu, Result.andThen_ok, MapKept.run_getObj_map hm, Sem.run_pure, check_int, hn, run_underlying Tryz.underlying3, hf, MapKept.run_setObj_map _ hm]
      rfl
    · have e : upd f k none = f := by
        funext x
        by_cases h : x = k
        · rw [h, upd_same, hv.out k hk]
        · exact upd_ne _ _ h
      rw [e]
      exact hv
theorem drop_nil {T E T2 : TypeId} (hu : Tryz.prog.underlying T = some (.map 3 E)) (ty : TypeId) (k : Int) (w : World) :
    (Builtin.delete_ #[T, T2] ty #[.map none, .int .i64 k]).run Tryz.prog w = .ok (.tuple #[]) w := by
  simp only [Builtin.delete_, List.getElem?_toArray, List.getElem?_cons_zero, List.getElem?_cons_succ, Sem.run_bind, run_underlying hu, Result.andThen_ok, Sem.run_pure, check_int]
  try rfl
/-- A map that may be nil. -/
def Mo (w : World) (m : Option Nat) (ks : List Int) (f : Int → Option Value) : Prop := match m with
  | none => ks = [] ∧ f = fun _ => none
  | some b => Mk w b ks f
theorem Mo.look {w : World} {m : Option Nat} {ks : List Int} {f : Int → Option Value} (h : Mo w m ks f) {T E : TypeId} (hu : Tryz.prog.underlying T = some (.map 3 E)) {z : Value} (hz : ∀ w, (zeroValue E).run Tryz.prog w = .ok z w) (k : Int) :
    (Instr.lookup T (.map m) (.int .i64 k) true).run Tryz.prog w = .ok (.tuple #[(f k).getD z, .bool (f k).isSome]) w := by
  cases m with
  | none => obtain ⟨_, rfl⟩ := h; exact look_nil hu hz k w
  | some b => exact Mk.look h hu hz k
theorem Mo.fr {X : List Nat} {w a : World} {m : Option Nat} {ks : List Int} {f : Int → Option Value} (h : Mo w m ks f) (hF : Fr X w a) (hX : ∀ b, m = some b → b ∉ X) : Mo a m ks f := by
  cases m with
  | none => exact h
  | some b => exact Mk.fr h hF (hX b rfl)
theorem Mo.below {w a : World} {m : Option Nat} {ks : List Int} {f : Int → Option Value} (h : Mo w m ks f) (hF : Below w.heap.size w a) : Mo a m ks f := by
  cases m with
  | none => exact h
  | some b => exact Mk.below h hF (Mk.lt h)
theorem Mo.drop {w : World} {m : Option Nat} {ks : List Int} {f : Int → Option Value} (h : Mo w m ks f) {T E T2 : TypeId} (hu : Tryz.prog.underlying T = some (.map 3 E)) (ty : TypeId) (k : Int) :
    ∃ w' ks', (Builtin.delete_ #[T, T2] ty #[.map m, .int .i64 k]).run Tryz.prog w = .ok (.tuple #[]) w' ∧ Mo w' m ks' (upd f k none) ∧ (∀ x, x ∈ ks' ↔ x ≠ k ∧ x ∈ ks) ∧ Fr m.toList w w' := by
  cases m with
  | none =>
    obtain ⟨rfl, rfl⟩ := h
    exact ⟨w, [], drop_nil hu ty k w, ⟨rfl, by funext x; unfold upd; split <;> rfl⟩, by simp, Fr.refl _ _⟩
  | some b => exact Mk.drop h hu ty k
end Go.Proofs.YtcmgclkbhhdnaaaGreatDoor
namespace Go.Proofs.YtcmgclkbhhdnaaaGreatDoor
open Go Go.RowKit

/-- What stands at both ends of a head. -/
def sgn : List UInt8 := [117, 115, 97, 110, 99, 101, 58, 32, 97, 32, 112, 97, 103, 101, 114, 10]
def b2u (b : Bool) : UInt8 := if b then 1 else 0
/-- The head ahead of the pages' bits. -/
def hd0 (n r : Nat) : List UInt8 := sgn ++ [UInt8.ofNat (n / 256), UInt8.ofNat n, UInt8.ofNat (r / 256), UInt8.ofNat r] ++ List.replicate 188 0 ++ sgn
theorem hd0_len (n r : Nat) : (hd0 n r).length = 224 := by
  unfold hd0
  rw [List.length_append, List.length_append, List.length_append, List.length_replicate]
  rfl
theorem hd0_low (n r i : Nat) (h : i < 20) : (hd0 n r)[i]? = (sgn ++ [UInt8.ofNat (n / 256), UInt8.ofNat n, UInt8.ofNat (r / 256), UInt8.ofNat r])[i]? := by
  unfold hd0
  rw [List.getElem?_append_left (by rw [List.length_append, List.length_append, List.length_replicate]; exact Nat.lt_of_lt_of_le h (show 20 ≤ 208 from by decide)), List.getElem?_append_left (by rw [List.length_append]; exact h)]
/-- One page's bit. -/
def hbit (h : List UInt8) (k : Nat) (b : Bool) : List UInt8 := h.set (20 + k / 8) (h.getD (20 + k / 8) 0 ||| b2u b <<< UInt8.ofNat (k % 8))
def hbits (l : List Bool) : Nat → List UInt8 → List UInt8
  | 0, h => h
  | k + 1, h => hbit (hbits l k h) k (l.getD k false)
theorem hbits_len (l : List Bool) : ∀ (k : Nat) (h : List UInt8), (hbits l k h).length = h.length
  | 0, _ => rfl
  | k + 1, h => by simp only [hbits, hbit, List.length_set]; exact hbits_len l k h
def hdOf (l : List Bool) (r : Nat) : List UInt8 := hbits l l.length (hd0 l.length r)
theorem hdOf_len (l : List Bool) (r : Nat) : (hdOf l r).length = 224 := by rw [hdOf, hbits_len, hd0_len]
theorem hbits_low (l : List Bool) : ∀ (k : Nat) (h : List UInt8) (i : Nat), i < 20 → (hbits l k h)[i]? = h[i]?
  | 0, _, _, _ => rfl
  | k + 1, h, i, hi => by
    simp only [hbits, hbit]
    rw [List.getElem?_set_ne (by omega)]
    exact hbits_low l k h i hi
theorem hdOf_low (l : List Bool) (r i : Nat) (hi : i < 20) : (hdOf l r)[i]? = (hd0 l.length r)[i]? := hbits_low l _ _ i hi
theorem hdOf_18 (l : List Bool) (r : Nat) : (hdOf l r).getD 18 0 = UInt8.ofNat (r / 256) ∧ (hdOf l r).getD 19 0 = UInt8.ofNat r := by
  simp only [List.getD]
  rw [hdOf_low l r 18 (by decide), hdOf_low l r 19 (by decide), hd0_low _ _ 18 (by decide), hd0_low _ _ 19 (by decide)]
  exact ⟨rfl, rfl⟩
/-- What is read as a page's bit. -/
def rbit (h : List UInt8) (k : Nat) : UInt8 := h.getD (20 + k / 8) 0 >>> UInt8.ofNat (k % 8) &&& 1
theorem bit_same : ∀ (x : UInt8) (b : Bool) (k : Fin 8), (x ||| b2u b <<< UInt8.ofNat k.val) >>> UInt8.ofNat k.val &&& 1 = (x >>> UInt8.ofNat k.val &&& 1) ||| b2u b := by
  intro x b k
  have h : ∀ (n : Fin 256) (b : Bool) (k : Fin 8), (UInt8.ofNat n.val ||| b2u b <<< UInt8.ofNat k.val) >>> UInt8.ofNat k.val &&& 1 = (UInt8.ofNat n.val >>> UInt8.ofNat k.val &&& 1) ||| b2u b := by decide +kernel
  have := h ⟨x.toNat, x.toNat_lt⟩ b k
  simpa using this
theorem bit_other : ∀ (x : UInt8) (b : Bool) (k q : Fin 8), k ≠ q → (x ||| b2u b <<< UInt8.ofNat k.val) >>> UInt8.ofNat q.val &&& 1 = x >>> UInt8.ofNat q.val &&& 1 := by
  intro x b k q hkq
  have h : ∀ (n : Fin 256) (b : Bool) (k q : Fin 8), k ≠ q → (UInt8.ofNat n.val ||| b2u b <<< UInt8.ofNat k.val) >>> UInt8.ofNat q.val &&& 1 = UInt8.ofNat n.val >>> UInt8.ofNat q.val &&& 1 := by decide +kernel
  have := h ⟨x.toNat, x.toNat_lt⟩ b k q hkq
  simpa using this
theorem hbit_same (h : List UInt8) (k : Nat) (b : Bool) (hk : 20 + k / 8 < h.length) : rbit (hbit h k b) k = rbit h k ||| b2u b := by
  unfold rbit hbit
  simp only [List.getD]
  rw [List.getElem?_set_self hk]
  exact bit_same _ b ⟨k % 8, Nat.mod_lt _ (by decide)⟩
theorem hbit_other (h : List UInt8) (k q : Nat) (b : Bool) (hk : 20 + k / 8 < h.length) (hq : k ≠ q) : rbit (hbit h k b) q = rbit h q := by
  unfold rbit hbit
  simp only [List.getD]
  by_cases e : k / 8 = q / 8
  · rw [← e, List.getElem?_set_self hk]
    exact bit_other _ b ⟨k % 8, Nat.mod_lt _ (by decide)⟩ ⟨q % 8, Nat.mod_lt _ (by decide)⟩ (fun h => by
      injection h with h
      omega)
  · rw [List.getElem?_set_ne (by omega)]
theorem rbits : ∀ (l : List Bool) (k : Nat) (h : List UInt8), (∀ q, q < k → 20 + q / 8 < h.length) → ∀ q, rbit (hbits l k h) q = if q < k then rbit h q ||| b2u (l.getD q false) else rbit h q
  | l, 0, h, _, q => by simp [hbits]
  | l, k + 1, h, hl, q => by
    have ih := rbits l k h (fun q hq => hl q (by omega)) q
    have hk : 20 + k / 8 < (hbits l k h).length := by rw [hbits_len]; exact hl k (by omega)
    simp only [hbits]
    by_cases e : k = q
    · subst e
      rw [hbit_same _ _ _ hk, ih, if_neg (Nat.lt_irrefl _), if_pos (Nat.lt_succ_self _)]
    · rw [hbit_other _ _ _ _ hk e, ih]
      by_cases h1 : q < k
      · rw [if_pos h1, if_pos (by omega)]
      · rw [if_neg h1, if_neg (by omega)]
theorem hd0_zero (n r i : Nat) (h0 : 20 ≤ i) (h1 : i < 208) : (hd0 n r).getD i 0 = 0 := by
  have h : (hd0 n r)[i]? = some 0 := by
    unfold hd0
    have h20 : (sgn ++ [UInt8.ofNat (n / 256), UInt8.ofNat n, UInt8.ofNat (r / 256), UInt8.ofNat r]).length = 20 := rfl
    rw [List.getElem?_append_left (by rw [List.length_append, h20, List.length_replicate]; omega), List.getElem?_append_right (by rw [h20]; exact h0), h20, List.getElem?_replicate, if_pos (by omega)]
  simp only [List.getD]
  rw [h]; rfl
theorem rbit_hd (l : List Bool) (r : Nat) (hl : l.length ≤ 1023) (q : Nat) (hq : q < l.length) : rbit (hdOf l r) q = b2u (l.getD q false) := by
  unfold hdOf
  rw [rbits l l.length _ (fun q hq => by rw [hd0_len]; omega) q, if_pos hq]
  have h0 : rbit (hd0 l.length r) q = 0 := by
    unfold rbit
    rw [hd0_zero _ _ _ (by omega) (by omega)]
    simp
  rw [h0]
  simp
/-- A state's uses, as bytes. -/
def useB (l : List Bool) : List UInt8 := l.map b2u ++ List.replicate (1023 - l.length) 0
theorem useB_len (l : List Bool) (h : l.length ≤ 1023) : (useB l).length = 1023 := by simp [useB]; omega
theorem useB_get (l : List Bool) (i : Nat) (hi : i < l.length) : (useB l).getD i 0 = b2u (l.getD i false) := by
  simp only [useB, List.getD]
  rw [List.getElem?_append_left (by simpa using hi), List.getElem?_map]
  simp [hi]
theorem useB_set (l : List Bool) (i : Nat) (b : Bool) (hi : i < l.length) : (useB l).set i (b2u b) = useB (l.set i b) := by
  simp only [useB]
  rw [List.set_append_left _ _ (by simpa using hi), List.length_set, List.map_set]
/-- How many pages are free. -/
def lef (l : List Bool) : Nat := (l.filter fun b => !b).length
theorem lef_le (l : List Bool) : lef l ≤ l.length := List.length_filter_le _ _
theorem lef_set_true : ∀ (l : List Bool) (i : Nat), l[i]? = some false → lef (l.set i true) + 1 = lef l
  | [], _, h => by simp at h
  | b :: r, 0, h => by simp at h; subst h; simp [lef]
  | b :: r, i + 1, h => by
    simp only [List.getElem?_cons_succ] at h
    have ih := lef_set_true r i h
    simp only [lef, List.set_cons_succ, List.filter_cons] at ih ⊢
    cases b
    · simp only [Bool.not_false, if_true, List.length_cons]; omega
    · simp only [Bool.not_true, Bool.false_eq_true, if_false]; exact ih
theorem lef_set_false : ∀ (l : List Bool) (i : Nat), l[i]? = some true → lef (l.set i false) = lef l + 1
  | [], _, h => by simp at h
  | b :: r, 0, h => by simp at h; subst h; simp [lef]
  | b :: r, i + 1, h => by
    simp only [List.getElem?_cons_succ] at h
    have ih := lef_set_false r i h
    simp only [lef, List.set_cons_succ, List.filter_cons] at ih ⊢
    cases b
    · simp only [Bool.not_false, if_true, List.length_cons]; omega
    · simp only [Bool.not_true, Bool.false_eq_true, if_false]; exact ih
theorem lef_take (l : List Bool) (i : Nat) (b : Bool) (h : l[i]? = some b) : lef (l.take (i + 1)) = lef (l.take i) + (if b then 0 else 1) := by
  rw [List.take_add_one, h]
  unfold lef
  rw [List.filter_append]
  cases b <;> simp
end Go.Proofs.YtcmgclkbhhdnaaaGreatDoor
namespace Go.Proofs.YtcmgclkbhhdnaaaGreatDoor
open Go Go.RowKit

/-- A state's cells. -/
def stC (l : List Bool) (kl kr : Int) : List Value := .int .i64 l.length :: .int .i64 kl :: .int .i64 kr :: cells8 (useB l)
theorem stC_len (l : List Bool) (kl kr : Int) (h : l.length ≤ 1023) : (stC l kl kr).length = 1026 := by simp only [stC, List.length_cons, cells8_len, useB_len l h]
/-- A change's cells. -/
def chC (bg : Bool) (lf rt : Int) (um bm : Option Nat) : List Value := [.bool bg, .int .i64 lf, .int .i64 rt, .map um, .map bm]
/-- A pager's cells. -/
def pgC (j : Nat) (l : List Bool) (kl kr : Int) (bg : Bool) (lf rt : Int) (um bm : Option Nat) (off : Int) : List Value := .pointer (some ⟨j, 0, none⟩) :: (stC l kl kr ++ (chC bg lf rt um bm ++ [Value.int .i64 off]))
/-- A pager's own block. -/
def Pg (w : World) (p j : Nat) (l : List Bool) (kl kr : Int) (bg : Bool) (lf rt : Int) (um bm : Option Nat) (off : Int) : Prop :=
  l.length ≤ 1023 ∧ w.heap[p]? = some (.cells (pgC j l kl kr bg lf rt um bm off).toArray 90 (0, 0))
theorem pgC_tail (j : Nat) {l : List Bool} (hl : l.length ≤ 1023) (kl kr : Int) (bg : Bool) (lf rt : Int) (um bm : Option Nat) (off : Int) (k : Nat) : (pgC j l kl kr bg lf rt um bm off)[1027 + k]? = (chC bg lf rt um bm ++ [Value.int .i64 off])[k]? := by
  unfold pgC
  rw [show 1027 + k = (1026 + k) + 1 by omega, List.getElem?_cons_succ, List.getElem?_append_right (by rw [stC_len _ _ _ hl]; omega), stC_len _ _ _ hl, Nat.add_sub_cancel_left]
theorem pgC_set (j : Nat) {l : List Bool} (hl : l.length ≤ 1023) (kl kr : Int) (bg : Bool) (lf rt : Int) (um bm : Option Nat) (off : Int) (k : Nat) (v : Value) : (pgC j l kl kr bg lf rt um bm off).set (1027 + k) v = .pointer (some ⟨j, 0, none⟩) :: (stC l kl kr ++ (chC bg lf rt um bm ++ [Value.int .i64 off]).set k v) := by
  unfold pgC
  rw [show 1027 + k = (1026 + k) + 1 by omega, List.set_cons_succ, List.set_append_right _ _ (by rw [stC_len _ _ _ hl]; omega), stC_len _ _ _ hl, Nat.add_sub_cancel_left]
section
variable {w : World} {p j : Nat} {l : List Bool} {kl kr : Int} {bg : Bool} {lf rt : Int} {um bm : Option Nat} {off : Int} (h : Pg w p j l kl kr bg lf rt um bm off)
include h
theorem Pg.c0 : w.cell? ⟨p, 0, none⟩ = some (.pointer (some ⟨j, 0, none⟩)) := cell_at h.2 0 rfl
theorem Pg.c1 : w.cell? ⟨p, 1, none⟩ = some (.int .i64 l.length) := cell_at h.2 1 rfl
theorem Pg.cu (i : Nat) (hi : i < l.length) : w.cell? ⟨p, 4 + i, none⟩ = some (.int .u8 (at8 (useB l) i)) := by
  refine cell_at h.2 (4 + i) ?_
  rw [List.getElem?_toArray]
  unfold pgC stC
  have hl := h.1
  rw [show 4 + i = (((i + 1) + 1) + 1) + 1 by omega, List.getElem?_cons_succ, List.cons_append, List.getElem?_cons_succ, List.cons_append, List.getElem?_cons_succ, List.cons_append, List.getElem?_cons_succ, List.getElem?_append_left (by rw [cells8_len, useB_len _ hl]; omega)]
  exact cells8_get _ i (by rw [useB_len _ hl]; omega)
theorem Pg.ct (k : Nat) (v : Value) (hv : (chC bg lf rt um bm ++ [Value.int .i64 off])[k]? = some v) : w.cell? ⟨p, 1027 + k, none⟩ = some v := by
  refine cell_at h.2 _ ?_
  rw [List.getElem?_toArray, pgC_tail j h.1]
  exact hv
theorem Pg.cbg : w.cell? ⟨p, 1027, none⟩ = some (.bool bg) := h.ct 0 _ rfl
theorem Pg.clf : w.cell? ⟨p, 1028, none⟩ = some (.int .i64 lf) := h.ct 1 _ rfl
theorem Pg.crt : w.cell? ⟨p, 1029, none⟩ = some (.int .i64 rt) := h.ct 2 _ rfl
theorem Pg.cum : w.cell? ⟨p, 1030, none⟩ = some (.map um) := h.ct 3 _ rfl
theorem Pg.cbm : w.cell? ⟨p, 1031, none⟩ = some (.map bm) := h.ct 4 _ rfl
theorem Pg.coff : w.cell? ⟨p, 1032, none⟩ = some (.int .i64 off) := h.ct 5 _ rfl
theorem Pg.fz (i : Nat) : w.frozen? ⟨p, i, none⟩ = false := open_at h.2 i
theorem Pg.lt : p < w.heap.size := heap_lt h.2
theorem Pg.heap_set (k : Nat) (v : Value) : (w.setCell ⟨p, 1027 + k, none⟩ v).heap[p]? = some (.cells (.pointer (some ⟨j, 0, none⟩) :: (stC l kl kr ++ (chC bg lf rt um bm ++ [Value.int .i64 off]).set k v)).toArray 90 (0, 0)) := by
  rw [heap_setCell h.2]
  rw [List.setIfInBounds_toArray, pgC_set j h.1]
theorem Pg.sbg (b : Bool) : Pg (w.setCell ⟨p, 1027, none⟩ (.bool b)) p j l kl kr b lf rt um bm off := ⟨h.1, h.heap_set 0 _⟩
theorem Pg.slf (x : Int) : Pg (w.setCell ⟨p, 1028, none⟩ (.int .i64 x)) p j l kl kr bg x rt um bm off := ⟨h.1, h.heap_set 1 _⟩
theorem Pg.srt (x : Int) : Pg (w.setCell ⟨p, 1029, none⟩ (.int .i64 x)) p j l kl kr bg lf x um bm off := ⟨h.1, h.heap_set 2 _⟩
theorem Pg.sum (x : Option Nat) : Pg (w.setCell ⟨p, 1030, none⟩ (.map x)) p j l kl kr bg lf rt x bm off := ⟨h.1, h.heap_set 3 _⟩
theorem Pg.sbm (x : Option Nat) : Pg (w.setCell ⟨p, 1031, none⟩ (.map x)) p j l kl kr bg lf rt um x off := ⟨h.1, h.heap_set 4 _⟩
theorem Pg.soff (x : Int) : Pg (w.setCell ⟨p, 1032, none⟩ (.int .i64 x)) p j l kl kr bg lf rt um bm x := ⟨h.1, h.heap_set 5 _⟩
theorem Pg.fr {X : List Nat} {w' : World} (hF : Fr X w w') (hX : p ∉ X) : Pg w' p j l kl kr bg lf rt um bm off := ⟨h.1, hF.at h.2 hX⟩
theorem Pg.below {B : Nat} {w' : World} (hF : Below B w w') (hX : p < B) : Pg w' p j l kl kr bg lf rt um bm off := ⟨h.1, below_at hF h.2 hX⟩
end
theorem at8_useB (l : List Bool) (i : Nat) (hi : i < l.length) : at8 (useB l) i = if l.getD i false then 1 else 0 := by
  unfold at8
  rw [useB_get l i hi]
  cases l.getD i false <;> rfl

set_option maxRecDepth 100000 in
set_option maxHeartbeats 800000 in
theorem ready_any {w : World} {p j : Nat} {l : List Bool} {kl kr : Int} {bg : Bool} {lf rt : Int} {um bm : Option Nat} {off : Int} (h : Pg w p j l kl kr bg lf rt um bm off) :
    Calls Tryz.prog 50 #[.pointer (some ⟨p, 0, none⟩)] w fun e w' => e = .returned (.int .i64 off) ∧ w' = w := by
  have h5 := h.coff
  clear h
  go_enter Tryz.func50, Tryz.ntmps50
  go_wp2
  go_ret
  exact ⟨rfl, rfl⟩
set_option maxHeartbeats 800000 in
theorem pages_any {w : World} {p j : Nat} {l : List Bool} {kl kr : Int} {bg : Bool} {lf rt : Int} {um bm : Option Nat} {off : Int} (h : Pg w p j l kl kr bg lf rt um bm off) :
    Calls Tryz.prog 29 #[.pointer (some ⟨p, 0, none⟩)] w fun e w' => e = .returned (.int .i64 l.length) ∧ w' = w := by
  have h5 := h.c1
  clear h
  generalize l.length = n at *
  go_enter Tryz.func29, Tryz.ntmps29
  go_wp2
  go_ret
  exact ⟨rfl, rfl⟩
set_option maxHeartbeats 800000 in
theorem left_any {w : World} {p j : Nat} {l : List Bool} {kl kr : Int} {bg : Bool} {lf rt : Int} {um bm : Option Nat} {off : Int} (h : Pg w p j l kl kr bg lf rt um bm off) :
    Calls Tryz.prog 26 #[.pointer (some ⟨p, 0, none⟩)] w fun e w' => e = .returned (.int .i64 lf) ∧ w' = w := by
  have h5 := h.clf
  clear h
  go_enter Tryz.func26, Tryz.ntmps26
  go_wp2
  go_ret
  exact ⟨rfl, rfl⟩
set_option maxHeartbeats 800000 in
theorem root_any {w : World} {p j : Nat} {l : List Bool} {kl kr : Int} {bg : Bool} {lf rt : Int} {um bm : Option Nat} {off : Int} (h : Pg w p j l kl kr bg lf rt um bm off) :
    Calls Tryz.prog 35 #[.pointer (some ⟨p, 0, none⟩)] w fun e w' => e = .returned (.int .i64 rt) ∧ w' = w := by
  have h5 := h.crt
  clear h
  go_enter Tryz.func35, Tryz.ntmps35
  go_wp2
  go_ret
  exact ⟨rfl, rfl⟩
set_option maxHeartbeats 1600000 in
theorem ptold_ok {w : World} (p : Nat) : Calls Tryz.prog 57 #[.pointer (some ⟨p, 0, none⟩), .int .i64 0] w fun e w' => e = .returned (.int .i64 0) ∧ w' = w := by
  go_enter Tryz.func57, Tryz.ntmps57
  go_wp2
  go_ret
  exact ⟨rfl, rfl⟩
set_option maxHeartbeats 1600000 in
theorem ptold_off {w : World} {p j : Nat} {l : List Bool} {kl kr : Int} {bg : Bool} {lf rt : Int} {um bm : Option Nat} {off : Int} (h : Pg w p j l kl kr bg lf rt um bm off) :
    Calls Tryz.prog 57 #[.pointer (some ⟨p, 0, none⟩), .int .i64 43] w fun e w' => e = .returned (.int .i64 43) ∧ Pg w' p j l kl kr bg lf rt um bm 43 ∧ Fr [p] w w' := by
  have h5 := h.coff
  have f5 := h.fz 1032
  have HZ := hid (And.intro (h.soff 43) (Fr.setCell w p 1032 (.int .i64 43)))
  clear h
  go_enter Tryz.func57, Tryz.ntmps57
  go_wp2
  go_ret
  exact ⟨rfl, HZ.out⟩
end Go.Proofs.YtcmgclkbhhdnaaaGreatDoor
namespace Go.Proofs.YtcmgclkbhhdnaaaGreatDoor
open Go Go.RowKit

theorem box_agg (T : TypeId) (w : World) (c : Array Value) : (Instr.box T (.agg c)).run Tryz.prog w = .ok (.pointer (some ⟨w.heap.size, 0, none⟩)) (w.alloc (.cells c T)) := by
  simp [Instr.box, newVar, newRow, Value.cells]
theorem alloc_agg {T : TypeId} {c : Array Value} (hz : ∀ w, (zeroValue T).run Tryz.prog w = .ok (.agg c) w) (w : World) : (Instr.alloc T true (.tuple #[])).run Tryz.prog w = .ok (.pointer (some ⟨w.heap.size, 0, none⟩)) (w.alloc (.cells c T)) := by
  simp only [Instr.alloc, Sem.run_bind, hz, Result.andThen_ok]
  rfl
theorem loadAt_all {T : TypeId} {k : Nat} (ha : ∀ w, (isAgg T).run Tryz.prog w = .ok true w) (hz : (Tryz.prog.info? T).map (·.size) = some k) {w : World} {g : Nat} {c : Array Value} {t : TypeId} {z : Nat × Nat} (hk : c.size = k) (hg : w.heap[g]? = some (.cells c t z)) :
    (Instr.loadAt T (.pointer (some ⟨g, 0, none⟩))).run Tryz.prog w = .ok (.agg c) w := by
  have h := loadAt_k ha hz w g 0 c t z c.toList (by simpa using hk) hg (fun j v hj => by simpa using hj)
  simpa using h
theorem storeAt_all {T : TypeId} {k : Nat} (hz : (Tryz.prog.info? T).map (·.size) = some k) {w : World} {g : Nat} {c c' : Array Value} {t : TypeId} (hk : c.size = k) (hk' : c'.size = k) (hg : w.heap[g]? = some (.cells c t (0, 0))) (h1 : ∀ v ∈ c'.toList, v.oneCell' = true) :
    (Instr.storeAt T (.pointer (some ⟨g, 0, none⟩)) (.agg c')).run Tryz.prog w = .ok () (w.setRow g c') := by
  have h := storeAt_k hz w g 0 c t c'.toList (by simpa using hk') hg (by simp; omega) h1
  have e : relaid c 0 c'.toList = c' := by
    unfold relaid
    rw [List.take_zero, List.nil_append, Nat.zero_add, List.drop_of_length_le (by simp; omega), List.append_nil]
  rw [e] at h
  simpa using h
theorem under109 : Tryz.prog.underlying 109 = some (.array 896 5) := by kernel_rfl
theorem size109 : (Tryz.prog.info? 109).map (·.size) = some 896 := by kernel_rfl
theorem agg109 (w : World) : (isAgg 109).run Tryz.prog w = .ok true w := by simp [isAgg, run_underlying under109]
def z896 : List UInt8 := List.replicate 896 0
theorem z896_len : z896.length = 896 := List.length_replicate ..
theorem zero109 (w : World) : (zeroValue 109).run Tryz.prog w = .ok (V8 z896) w := (zero_of_info (n := 896) (by kernel_rfl)).1 w
theorem alloc109 (w : World) : (Instr.alloc 109 true (.tuple #[])).run Tryz.prog w = .ok (.pointer (some ⟨w.heap.size, 0, none⟩)) (w.alloc (.cells (cells8 z896).toArray 109)) := alloc_agg zero109 w
theorem load109 {w : World} {g : Nat} {t : TypeId} {l : List UInt8} (hl : l.length = 896) (h : Rw w g t l) : (Instr.loadAt 109 (.pointer (some ⟨g, 0, none⟩))).run Tryz.prog w = .ok (V8 l) w :=
  loadAt_all agg109 size109 (by rw [cells8_size]; exact hl) h
theorem store109 {w : World} {g : Nat} {t : TypeId} {l l' : List UInt8} (hl : l.length = 896) (hl' : l'.length = 896) (h : Rw w g t l) : (Instr.storeAt 109 (.pointer (some ⟨g, 0, none⟩)) (V8 l')).run Tryz.prog w = .ok () (w.setRow g (cells8 l').toArray) :=
  storeAt_all size109 (by rw [cells8_size]; exact hl) (by rw [cells8_size]; exact hl') h (by simpa using cells8_one l')
theorem box109 (w : World) (l : List UInt8) : (Instr.box 109 (V8 l)).run Tryz.prog w = .ok (.pointer (some ⟨w.heap.size, 0, none⟩)) (w.alloc (.cells (cells8 l).toArray 109)) := box_agg _ w _
theorem punder70 : Tryz.prog.underlying 70 = some (.array 224 5) := by kernel_rfl
theorem hsize70 : (Tryz.prog.info? 70).map (·.size) = some 224 := by kernel_rfl
theorem hagg70 (w : World) : (isAgg 70).run Tryz.prog w = .ok true w := by simp [isAgg, run_underlying punder70]
def z224 : List UInt8 := List.replicate 224 0
theorem z224_len : z224.length = 224 := List.length_replicate ..
theorem pzero70 (w : World) : (zeroValue 70).run Tryz.prog w = .ok (V8 z224) w := (zero_of_info (n := 224) (by kernel_rfl)).1 w
theorem palloc70 (w : World) : (Instr.alloc 70 true (.tuple #[])).run Tryz.prog w = .ok (.pointer (some ⟨w.heap.size, 0, none⟩)) (w.alloc (.cells (cells8 z224).toArray 70)) := alloc_agg pzero70 w
theorem pload70 {w : World} {g : Nat} {t : TypeId} {l : List UInt8} (hl : l.length = 224) (h : Rw w g t l) : (Instr.loadAt 70 (.pointer (some ⟨g, 0, none⟩))).run Tryz.prog w = .ok (V8 l) w :=
  loadAt_all hagg70 hsize70 (by rw [cells8_size]; exact hl) h
theorem pstore70 {w : World} {g : Nat} {t : TypeId} {l l' : List UInt8} (hl : l.length = 224) (hl' : l'.length = 224) (h : Rw w g t l) : (Instr.storeAt 70 (.pointer (some ⟨g, 0, none⟩)) (V8 l')).run Tryz.prog w = .ok () (w.setRow g (cells8 l').toArray) :=
  storeAt_all hsize70 (by rw [cells8_size]; exact hl) (by rw [cells8_size]; exact hl') h (by simpa using cells8_one l')
theorem pbox70 (w : World) (l : List UInt8) : (Instr.box 70 (V8 l)).run Tryz.prog w = .ok (.pointer (some ⟨w.heap.size, 0, none⟩)) (w.alloc (.cells (cells8 l).toArray 70)) := box_agg _ w _
/-- A state as a value, in a block of its own. -/
def St (l : List Bool) (kl kr : Int) : Value := .agg (stC l kl kr).toArray
def Sb (w : World) (g : Nat) (l : List Bool) (kl kr : Int) : Prop := w.heap[g]? = some (.cells (stC l kl kr).toArray 76 (0, 0))
theorem size76p : (Tryz.prog.info? 76).map (·.size) = some 1026 := by kernel_rfl
theorem agg76p (w : World) : (isAgg 76).run Tryz.prog w = .ok true w := Tryz.isAgg76 w
theorem stC_one (l : List Bool) (kl kr : Int) : ∀ v ∈ stC l kl kr, v.oneCell' = true := by
  intro v hv
  simp only [stC, List.mem_cons] at hv
  rcases hv with rfl | rfl | rfl | hv
  · rfl
  · rfl
  · rfl
  · exact cells8_one _ v hv
theorem stC_size (l : List Bool) (kl kr : Int) (h : l.length ≤ 1023) : (stC l kl kr).toArray.size = 1026 := by rw [List.size_toArray]; exact stC_len l kl kr h
theorem pload76 {w : World} {g : Nat} {l : List Bool} {kl kr : Int} (hl : l.length ≤ 1023) (h : Sb w g l kl kr) : (Instr.loadAt 76 (.pointer (some ⟨g, 0, none⟩))).run Tryz.prog w = .ok (St l kl kr) w :=
  loadAt_all agg76p size76p (stC_size l kl kr hl) h
theorem pstore76 {w : World} {g : Nat} {l l' : List Bool} {kl kr kl' kr' : Int} (hl : l.length ≤ 1023) (hl' : l'.length ≤ 1023) (h : Sb w g l kl kr) : (Instr.storeAt 76 (.pointer (some ⟨g, 0, none⟩)) (St l' kl' kr')).run Tryz.prog w = .ok () (w.setRow g (stC l' kl' kr').toArray) :=
  storeAt_all size76p (stC_size l kl kr hl) (stC_size l' kl' kr' hl') h (by simpa using stC_one l' kl' kr')
theorem Sb.row {w : World} {g : Nat} {l : List Bool} {kl kr : Int} (h : Sb w g l kl kr) (l' : List Bool) (kl' kr' : Int) : Sb (w.setRow g (stC l' kl' kr').toArray) g l' kl' kr' := setRow_heap w g _ _ _ _ h
theorem pbox76 (w : World) (l : List Bool) (kl kr : Int) : (Instr.box 76 (St l kl kr)).run Tryz.prog w = .ok (.pointer (some ⟨w.heap.size, 0, none⟩)) (w.alloc (.cells (stC l kl kr).toArray 76)) := box_agg _ w _
theorem zero76p (w : World) : (zeroValue 76).run Tryz.prog w = .ok (St [] 0 0) w := (zero_of_info (n := 1026) (by kernel_rfl)).1 w
theorem palloc76 (w : World) : (Instr.alloc 76 true (.tuple #[])).run Tryz.prog w = .ok (.pointer (some ⟨w.heap.size, 0, none⟩)) (w.alloc (.cells (stC [] 0 0).toArray 76)) := alloc_agg zero76p w
section
variable {w : World} {g : Nat} {l : List Bool} {kl kr : Int} (h : Sb w g l kl kr)
include h
theorem Sb.c0 : w.cell? ⟨g, 0, none⟩ = some (.int .i64 l.length) := cell_at h 0 rfl
theorem Sb.c1 : w.cell? ⟨g, 1, none⟩ = some (.int .i64 kl) := cell_at h 1 rfl
theorem Sb.c2 : w.cell? ⟨g, 2, none⟩ = some (.int .i64 kr) := cell_at h 2 rfl
theorem Sb.cu (hl : l.length ≤ 1023) (i : Nat) (hi : i < l.length) : w.cell? ⟨g, 3 + i, none⟩ = some (.int .u8 (at8 (useB l) i)) := by
  refine cell_at h (3 + i) ?_
  rw [List.getElem?_toArray]
  unfold stC
  rw [show 3 + i = ((i + 1) + 1) + 1 by omega, List.getElem?_cons_succ, List.getElem?_cons_succ, List.getElem?_cons_succ]
  exact cells8_get _ i (by rw [useB_len _ hl]; omega)
theorem Sb.fz (i : Nat) : w.frozen? ⟨g, i, none⟩ = false := open_at h i
theorem Sb.s1 (x : Int) : Sb (w.setCell ⟨g, 1, none⟩ (.int .i64 x)) g l x kr := by unfold Sb; rw [heap_setCell h]; rfl
theorem Sb.s2 (x : Int) : Sb (w.setCell ⟨g, 2, none⟩ (.int .i64 x)) g l kl x := by unfold Sb; rw [heap_setCell h]; rfl
theorem Sb.su (i : Nat) (b : Bool) (hi : i < l.length) : Sb (w.setCell ⟨g, 3 + i, none⟩ (.int .u8 (b2u b).toNat)) g (l.set i b) kl kr := by
  unfold Sb
  rw [heap_setCell h, List.setIfInBounds_toArray]
  congr 3
  unfold stC
  rw [show 3 + i = ((i + 1) + 1) + 1 by omega, List.set_cons_succ, List.set_cons_succ, List.set_cons_succ, List.length_set, ← useB_set l i b hi]
  simp only [cells8, List.map_set]
  rfl
theorem Sb.fr {X : List Nat} {w' : World} (hF : Fr X w w') (hX : g ∉ X) : Sb w' g l kl kr := hF.at h hX
theorem Sb.below {B : Nat} {w' : World} (hF : Below B w w') (hX : g < B) : Sb w' g l kl kr := below_at hF h hX
end
/-- A change as a value, in a block of its own. -/
def Ch (bg : Bool) (lf rt : Int) (um bm : Option Nat) : Value := .agg (chC bg lf rt um bm).toArray
def Cb (w : World) (g : Nat) (bg : Bool) (lf rt : Int) (um bm : Option Nat) : Prop := w.heap[g]? = some (.cells (chC bg lf rt um bm).toArray 87 (0, 0))
theorem size87 : (Tryz.prog.info? 87).map (·.size) = some 5 := by kernel_rfl
theorem agg87 (w : World) : (isAgg 87).run Tryz.prog w = .ok true w := Tryz.isAgg87 w
theorem chC_one (bg : Bool) (lf rt : Int) (um bm : Option Nat) : ∀ v ∈ chC bg lf rt um bm, v.oneCell' = true := by
  intro v hv
  simp only [chC, List.mem_cons, List.not_mem_nil, or_false] at hv
  rcases hv with rfl | rfl | rfl | rfl | rfl <;> rfl
theorem zero87 (w : World) : (zeroValue 87).run Tryz.prog w = .ok (Ch false 0 0 none none) w := (zero_of_info (n := 5) (by kernel_rfl)).1 w
theorem alloc87 (w : World) : (Instr.alloc 87 true (.tuple #[])).run Tryz.prog w = .ok (.pointer (some ⟨w.heap.size, 0, none⟩)) (w.alloc (.cells (chC false 0 0 none none).toArray 87)) := alloc_agg zero87 w
theorem load87 {w : World} {g : Nat} {bg : Bool} {lf rt : Int} {um bm : Option Nat} (h : Cb w g bg lf rt um bm) : (Instr.loadAt 87 (.pointer (some ⟨g, 0, none⟩))).run Tryz.prog w = .ok (Ch bg lf rt um bm) w := loadAt_all agg87 size87 rfl h
theorem store87 {w : World} {g : Nat} {bg bg' : Bool} {lf rt lf' rt' : Int} {um bm um' bm' : Option Nat} (h : Cb w g bg lf rt um bm) : (Instr.storeAt 87 (.pointer (some ⟨g, 0, none⟩)) (Ch bg' lf' rt' um' bm')).run Tryz.prog w = .ok () (w.setRow g (chC bg' lf' rt' um' bm').toArray) :=
  storeAt_all size87 rfl rfl h (by simpa using chC_one bg' lf' rt' um' bm')
theorem Cb.row {w : World} {g : Nat} {bg : Bool} {lf rt : Int} {um bm : Option Nat} (h : Cb w g bg lf rt um bm) (bg' : Bool) (lf' rt' : Int) (um' bm' : Option Nat) : Cb (w.setRow g (chC bg' lf' rt' um' bm').toArray) g bg' lf' rt' um' bm' := setRow_heap w g _ _ _ _ h
theorem box87 (w : World) (bg : Bool) (lf rt : Int) (um bm : Option Nat) : (Instr.box 87 (Ch bg lf rt um bm)).run Tryz.prog w = .ok (.pointer (some ⟨w.heap.size, 0, none⟩)) (w.alloc (.cells (chC bg lf rt um bm).toArray 87)) := box_agg _ w _
section
variable {w : World} {g : Nat} {bg : Bool} {lf rt : Int} {um bm : Option Nat} (h : Cb w g bg lf rt um bm)
include h
theorem Cb.c1 : w.cell? ⟨g, 1, none⟩ = some (.int .i64 lf) := cell_at h 1 rfl
theorem Cb.c2 : w.cell? ⟨g, 2, none⟩ = some (.int .i64 rt) := cell_at h 2 rfl
theorem Cb.c3 : w.cell? ⟨g, 3, none⟩ = some (.map um) := cell_at h 3 rfl
theorem Cb.fr {X : List Nat} {w' : World} (hF : Fr X w w') (hX : g ∉ X) : Cb w' g bg lf rt um bm := hF.at h hX
theorem Cb.below {B : Nat} {w' : World} (hF : Below B w w') (hX : g < B) : Cb w' g bg lf rt um bm := below_at hF h hX
end
section
variable {w : World} {p j : Nat} {l : List Bool} {kl kr : Int} {bg : Bool} {lf rt : Int} {um bm : Option Nat} {off : Int} (h : Pg w p j l kl kr bg lf rt um bm off)
include h
theorem Pg.loadS : (Instr.loadAt 76 (.pointer (some ⟨p, 1, none⟩))).run Tryz.prog w = .ok (St l kl kr) w :=
  loadAt_k agg76p size76p w p 1 _ _ _ (stC l kl kr) (stC_len l kl kr h.1) h.2 (fun k v hv => by
    rw [List.getElem?_toArray]
    unfold pgC
    rw [Nat.add_comm, List.getElem?_cons_succ, List.getElem?_append_left (List.getElem?_eq_some_iff.1 hv).1]
    exact hv)
theorem Pg.loadC : (Instr.loadAt 87 (.pointer (some ⟨p, 1027, none⟩))).run Tryz.prog w = .ok (Ch bg lf rt um bm) w :=
  loadAt_k agg87 size87 w p 1027 _ _ _ (chC bg lf rt um bm) rfl h.2 (fun k v hv => by
    rw [List.getElem?_toArray, pgC_tail j h.1, List.getElem?_append_left (List.getElem?_eq_some_iff.1 hv).1]
    exact hv)
theorem Pg.storeS {l' : List Bool} (hl' : l'.length ≤ 1023) (kl' kr' : Int) : ∃ w', (Instr.storeAt 76 (.pointer (some ⟨p, 1, none⟩)) (St l' kl' kr')).run Tryz.prog w = .ok () w' ∧ Pg w' p j l' kl' kr' bg lf rt um bm off ∧ Fr [p] w w' := by
  have hlen : (pgC j l kl kr bg lf rt um bm off).toArray.size = 1033 := by
    rw [List.size_toArray]; simp only [pgC, List.length_cons, List.length_append, stC_len l kl kr h.1]; rfl
  refine ⟨_, storeAt_k size76p w p 1 _ _ (stC l' kl' kr') (stC_len l' kl' kr' hl') h.2 (by rw [hlen, stC_len l' kl' kr' hl']; decide) (stC_one _ _ _), ⟨hl', ?_⟩, Fr.setRow _ _ _⟩
  rw [setRow_heap w p _ _ _ _ h.2]
  congr 3
  unfold relaid pgC
  simp only [List.take_succ_cons, List.take_zero, List.cons_append, List.nil_append, stC_len l' kl' kr' hl']
  rw [show 1 + 1026 = 1026 + 1 from rfl, List.drop_succ_cons]
  congr 2
  rw [List.drop_append_of_le_length (by rw [stC_len l kl kr h.1]; exact Nat.le_refl _), List.drop_of_length_le (by rw [stC_len l kl kr h.1]; exact Nat.le_refl _), List.nil_append]
theorem Pg.storeC (bg' : Bool) (lf' rt' : Int) (um' bm' : Option Nat) : ∃ w', (Instr.storeAt 87 (.pointer (some ⟨p, 1027, none⟩)) (Ch bg' lf' rt' um' bm')).run Tryz.prog w = .ok () w' ∧ Pg w' p j l kl kr bg' lf' rt' um' bm' off ∧ Fr [p] w w' := by
  have hlen : (pgC j l kl kr bg lf rt um bm off).toArray.size = 1033 := by
    rw [List.size_toArray]; simp only [pgC, List.length_cons, List.length_append, stC_len l kl kr h.1]; rfl
  refine ⟨_, storeAt_k size87 w p 1027 _ _ (chC bg' lf' rt' um' bm') rfl h.2 (by rw [hlen]; show 1027 + 5 ≤ 1033; decide) (chC_one _ _ _ _ _), ⟨h.1, ?_⟩, Fr.setRow _ _ _⟩
  rw [setRow_heap w p _ _ _ _ h.2]
  congr 3
  unfold relaid pgC
  have e1 : (Value.pointer (some ⟨j, 0, none⟩) :: (stC l kl kr ++ (chC bg lf rt um bm ++ [.int .i64 off]))).take 1027 = .pointer (some ⟨j, 0, none⟩) :: stC l kl kr := by
    rw [show 1027 = 1026 + 1 from rfl, List.take_succ_cons, List.take_append_of_le_length (by rw [stC_len l kl kr h.1]; exact Nat.le_refl _), List.take_of_length_le (by rw [stC_len l kl kr h.1]; exact Nat.le_refl _)]
  have e2 : (Value.pointer (some ⟨j, 0, none⟩) :: (stC l kl kr ++ (chC bg lf rt um bm ++ [.int .i64 off]))).drop (1027 + 5) = [.int .i64 off] := by
    rw [show 1027 + 5 = (1026 + 5) + 1 from rfl, List.drop_succ_cons, List.drop_append, stC_len l kl kr h.1, List.drop_of_length_le (by rw [stC_len l kl kr h.1]; omega)]
    rfl
  show (List.take 1027 _ ++ _ ++ List.drop (1027 + 5) _).toArray = _
  rw [e1, e2]
  simp
end
theorem fg76_0 (b o : Nat) (w : World) : (Instr.fieldAt 76 (.pointer (some ⟨b, o, none⟩)) 0).run Tryz.prog w = .ok (.pointer (some ⟨b, o, none⟩)) w := by go_simp
theorem fg76_1 (b o : Nat) (w : World) : (Instr.fieldAt 76 (.pointer (some ⟨b, o, none⟩)) 1).run Tryz.prog w = .ok (.pointer (some ⟨b, o + 1, none⟩)) w := by go_simp
theorem fg76_2 (b o : Nat) (w : World) : (Instr.fieldAt 76 (.pointer (some ⟨b, o, none⟩)) 2).run Tryz.prog w = .ok (.pointer (some ⟨b, o + 2, none⟩)) w := by go_simp
theorem fg76_3 (b o : Nat) (w : World) : (Instr.fieldAt 76 (.pointer (some ⟨b, o, none⟩)) 3).run Tryz.prog w = .ok (.pointer (some ⟨b, o + 3, none⟩)) w := by go_simp
theorem fg87_1 (b o : Nat) (w : World) : (Instr.fieldAt 87 (.pointer (some ⟨b, o, none⟩)) 1).run Tryz.prog w = .ok (.pointer (some ⟨b, o + 1, none⟩)) w := by go_simp
theorem fg87_2 (b o : Nat) (w : World) : (Instr.fieldAt 87 (.pointer (some ⟨b, o, none⟩)) 2).run Tryz.prog w = .ok (.pointer (some ⟨b, o + 2, none⟩)) w := by go_simp
theorem fg87_3 (b o : Nat) (w : World) : (Instr.fieldAt 87 (.pointer (some ⟨b, o, none⟩)) 3).run Tryz.prog w = .ok (.pointer (some ⟨b, o + 3, none⟩)) w := by go_simp
theorem fg87_4 (b o : Nat) (w : World) : (Instr.fieldAt 87 (.pointer (some ⟨b, o, none⟩)) 4).run Tryz.prog w = .ok (.pointer (some ⟨b, o + 4, none⟩)) w := by go_simp
theorem fg85_0 (b o : Nat) (w : World) : (Instr.fieldAt 85 (.pointer (some ⟨b, o, none⟩)) 0).run Tryz.prog w = .ok (.pointer (some ⟨b, o, none⟩)) w := by go_simp
theorem fa90_0 (b : Nat) (w : World) : (Instr.fieldAt 90 (.pointer (some ⟨b, 0, none⟩)) 0).run Tryz.prog w = .ok (.pointer (some ⟨b, 0, none⟩)) w := by go_simp
theorem fa90_1 (b : Nat) (w : World) : (Instr.fieldAt 90 (.pointer (some ⟨b, 0, none⟩)) 1).run Tryz.prog w = .ok (.pointer (some ⟨b, 1, none⟩)) w := by go_simp
theorem fa90_2 (b : Nat) (w : World) : (Instr.fieldAt 90 (.pointer (some ⟨b, 0, none⟩)) 2).run Tryz.prog w = .ok (.pointer (some ⟨b, 1027, none⟩)) w := by go_simp
theorem ix74 (b o i : Nat) (h : i < 1023) (w : World) : (Instr.indexAt 74 (.pointer (some ⟨b, o, none⟩)) (.int .i64 i)).run Tryz.prog w = .ok (.pointer (some ⟨b, o + i, none⟩)) w := by
  have h1 : (i : Int) < 1023 := by omega
  go_simp
theorem ix70 (b i : Nat) (h : i < 224) (w : World) : (Instr.indexAt 70 (.pointer (some ⟨b, 0, none⟩)) (.int .i64 i)).run Tryz.prog w = .ok (.pointer (some ⟨b, i, none⟩)) w := by
  have h1 : (i : Int) < 224 := by omega
  go_simp
theorem sl70 (g : Nat) (w : World) : (Instr.sliceAt 70 (.pointer (some ⟨g, 0, none⟩)) none none none).run Tryz.prog w = .ok (.slice (some ⟨g, 0, none⟩) 224 224) w := by go_simp
theorem sl70b (g : Nat) (w : World) : (Instr.sliceAt 70 (.pointer (some ⟨g, 0, none⟩)) (some (.int .i64 208)) none none).run Tryz.prog w = .ok (.slice (some ⟨g, 208, none⟩) 16 16) w := by go_simp
theorem sl109 (g : Nat) (w : World) : (Instr.sliceAt 109 (.pointer (some ⟨g, 0, none⟩)) none none none).run Tryz.prog w = .ok (.slice (some ⟨g, 0, none⟩) 896 896) w := by go_simp
end Go.Proofs.YtcmgclkbhhdnaaaGreatDoor
namespace Go.Proofs.YtcmgclkbhhdnaaaGreatDoor
open Go Go.RowKit

theorem under80 : Tryz.prog.underlying 80 = some (.map 3 73) := by kernel_rfl
theorem under83 : Tryz.prog.underlying 83 = some (.map 3 109) := by kernel_rfl
theorem zero73 (w : World) : (zeroValue 73).run Tryz.prog w = .ok (.int .u8 0) w := by go_simp
theorem makeMap80 (w : World) : (Instr.makeMap 80 none).run Tryz.prog w = .ok (.map (some w.heap.size)) (w.alloc (.map #[] 0)) := by
  simp only [Instr.makeMap, Sem.run_bind]
  go_simp
theorem makeMap83 (w : World) : (Instr.makeMap 83 none).run Tryz.prog w = .ok (.map (some w.heap.size)) (w.alloc (.map #[] 0)) := by
  simp only [Instr.makeMap, Sem.run_bind]
  go_simp
set_option maxRecDepth 100000 in
set_option maxHeartbeats 800000 in
theorem get_use {w : World} {b o : Nat} {m : Option Nat} {ks : List Int} {f : Int → Option Value} (hc : w.cell? ⟨b, o, none⟩ = some (.map m)) (hm : Mo w m ks f) (k : Int) :
    Calls Tryz.prog 88 #[.pointer (some ⟨b, o, none⟩), .int .i64 k] w fun e w' => e = .returned (.tuple #[(f k).getD (.int .u8 0), .bool (f k).isSome]) ∧ w' = w := by
  have hl := hm.look under80 zero73 k
  clear hm
  generalize (f k).getD (.int .u8 0) = v at *
  generalize (f k).isSome = q at *
  go_enter Tryz.func88, Tryz.ntmps88
  go_wp2
  go_ret2
  exact ⟨rfl, rfl⟩
/-- What is got of a page's bytes. -/
def cget (g : Int → Option (List UInt8)) (k : Int) : List UInt8 := (g k).getD z896
theorem getD_con (g : Int → Option (List UInt8)) (k : Int) : ((g k).map V8).getD (V8 z896) = V8 (cget g k) := by unfold cget; cases g k <;> rfl
theorem cget_len {g : Int → Option (List UInt8)} (h : ∀ k c, g k = some c → c.length = 896) (k : Int) : (cget g k).length = 896 := by
  unfold cget
  cases e : g k with
  | none => exact z896_len
  | some c => exact h k c e
set_option maxRecDepth 100000 in
set_option maxHeartbeats 800000 in
theorem get_con {w : World} {b o : Nat} {m : Option Nat} {ks : List Int} {g : Int → Option (List UInt8)} (hc : w.cell? ⟨b, o, none⟩ = some (.map m)) (hm : Mo w m ks (fun k => (g k).map V8)) (hg : ∀ k c, g k = some c → c.length = 896) (k : Int) :
    Calls Tryz.prog 54 #[.pointer (some ⟨b, o, none⟩), .int .i64 k] w fun e w' => e = .returned (.tuple #[V8 (cget g k), .bool (g k).isSome]) ∧ Below w.heap.size w w' := by
  have hcl := cget_len hg k
  have hq : ((g k).map V8).isSome = (g k).isSome := by cases g k <;> rfl
  obtain ⟨w1, hw1⟩ : ∃ w1, w1 = w.alloc (.cells (cells8 z896).toArray 109) := ⟨_, rfl⟩
  have hB1 : Below w.heap.size w w1 := by rw [hw1]; exact (Below.refl _ _).alloc (Nat.le_refl _) _
  have hl := (hm.below hB1).look under83 zero109 k
  rw [getD_con, hq] at hl
  have HC1 := hid (load1 Tryz.isAgg83 ((hB1.cell (p := ⟨b, o, none⟩) (World.block_lt_of_cell? w _ hc)).trans hc))
  have hr1 : Rw w1 w.heap.size 109 z896 := by rw [hw1]; exact heap_alloc_last w _
  generalize cget g k = c at *
  generalize (g k).isSome = q at *
  have hsz : w1.heap.size = w.heap.size + 1 := by rw [hw1]; show (w.heap.push _).size = _; simp
  have hr2 : Rw (w1.alloc (.cells (cells8 z896).toArray 109)) w1.heap.size 109 z896 := heap_alloc_last w1 _
  have hB2 : Below w1.heap.size w1 (w1.alloc (.cells (cells8 z896).toArray 109)) := (Below.refl _ _).alloc (Nat.le_refl _) _
  have hS2 := store109 z896_len hcl hr2
  have hr3 := hr2.row c
  have hF3 := Fr.setRow (w1.alloc (.cells (cells8 z896).toArray 109)) w1.heap.size (cells8 c).toArray
  generalize (w1.alloc (.cells (cells8 z896).toArray 109)).setRow w1.heap.size (cells8 c).toArray = w3 at *
  have hr13 : Rw w3 w.heap.size 109 z896 := hF3.at (hr1.below hB2 (by omega)) (by simp; omega)
  have hS3 := store109 z896_len hcl hr13
  have hr4 := hr13.row c
  have hF4 := Fr.setRow w3 w.heap.size (cells8 c).toArray
  have hL3 := load109 hcl hr3
  have hsz3 : w1.heap.size ≤ w3.heap.size := Nat.le_trans hB2.size hF3.size
  have hB3 : Below w.heap.size w w3 := hB1.trans ((hB2.mono (by omega)).trans (hF3.below (Nat.le_trans (by omega) hB2.size) (by simp; omega)))
  have hB4 : Below w.heap.size w (w3.setRow w.heap.size (cells8 c).toArray) := hB3.trans (hF4.below (by omega) (by simp))
  have HLK := hid hl
  have HS2 := hid hS2
  have HS3 := hid hS3
  have HL3 := hid hL3
  have HZ := hid hB4
  have HR := hid (load109 hcl hr4)
  have HW1 := hid hw1
  clear hl hS2 hS3 hL3 hB4 hB3 hF4 hF3 hr2 hr3 hr4 hr13 hB2 hB1 hm hg hc hcl hq hsz hsz3 hr1
  go_enter Tryz.func54, Tryz.ntmps54
  go_upto_region 0 with fail
  refine wp_region_lit ?_
  refine wp_run (v := .pointer (some ⟨w.heap.size, 0, none⟩)) rfl rfl (run_alOp rfl (alloc109 w)) rfl ?_
  refine wp_y (v := (.bool false)) rfl rfl (y_assign rfl) rfl ?_
  try simp only [List.setIfInBounds_toArray, List.set_cons_zero, List.set_cons_succ]
  refine wp_end ?_
  rw [← HW1.out]
  go_upto_region 1 with fail
  refine wp_region_lit ?_
  refine wp_y (v := .pointer (some ⟨b, o, none⟩)) rfl rfl (y_move rfl) rfl ?_
  refine wp_y (v := .pointer (some ⟨b, o, none⟩)) rfl rfl (y_nil rfl) rfl ?_
  refine wp_y (v := .pointer (some ⟨b, o, none⟩)) rfl rfl (y_faddr rfl (hf := fg85_0 (b) (o))) rfl ?_
  refine wp_y (v := .map m) rfl rfl (y_load rfl (hl := fun w' h => by rw [h]; exact HC1.out)) rfl ?_
  refine wp_y (v := .int .i64 k) rfl rfl (y_move rfl) rfl ?_
  refine wp_run (v := .tuple #[V8 c, .bool q]) rfl rfl (run_lkOp rfl (by kernel_rfl) (by kernel_rfl) HLK.out) rfl ?_
  refine wp_y (v := .tuple #[V8 c, .bool q]) rfl rfl (y_move rfl) rfl ?_
  refine wp_y (v := V8 c) rfl rfl (y_ext rfl (hr := ext2_0 (V8 c) (.bool q))) rfl ?_
  simp only [List.setIfInBounds_toArray, List.set_cons_zero, List.set_cons_succ]
  refine wp_y (v := .bool q) rfl rfl (y_ext rfl (hr := ext2_1 (V8 c) (.bool q))) rfl ?_
  refine wp_run (v := .pointer (some ⟨w1.heap.size, 0, none⟩)) rfl rfl (run_alOp rfl (alloc109 w1)) rfl ?_
  refine wp_do rfl rfl (run_storeOp rfl (by kernel_rfl) (by kernel_rfl) HS2.out) ?_
  refine wp_y (v := .bool q) rfl rfl (y_assign rfl) rfl ?_
  try simp only [List.setIfInBounds_toArray, List.set_cons_zero, List.set_cons_succ]
  refine wp_end ?_
  go_upto_region 2 with fail
  refine wp_region_lit ?_
  refine wp_y (v := V8 c) rfl rfl (y_load rfl (hl := fun w' h => by rw [h]; exact HL3.out)) rfl ?_
  refine wp_y (v := .bool q) rfl rfl (y_move rfl) rfl ?_
  refine wp_do rfl rfl (run_storeOp rfl (by kernel_rfl) (by kernel_rfl) HS3.out) ?_
  refine wp_y (v := .bool q) rfl rfl (y_assign rfl) rfl ?_
  try simp only [List.setIfInBounds_toArray, List.set_cons_zero, List.set_cons_succ]
  refine wp_end ?_
  go_wp2_with fail
  exact ret_pair rfl rfl rfl HR.out ⟨rfl, HZ.out⟩
/-- What a put leaves: the map that there was, or a new one. -/
def Put (um : Option Nat) (w w' : World) (p : Nat) (Q : Nat → Prop) : Prop := ∃ m, (um = some m ∨ um = none ∧ w.heap.size ≤ m) ∧ Q m ∧ Fr (p :: um.toList) w w'
set_option maxRecDepth 100000 in
set_option maxHeartbeats 1600000 in
theorem put_use {w : World} {p j : Nat} {l : List Bool} {kl kr : Int} {bg : Bool} {lf rt : Int} {um bm : Option Nat} {off : Int} {ks : List Int} {f : Int → Option Value} (h : Pg w p j l kl kr bg lf rt um bm off) (hm : Mo w um ks f) (k v : Int) :
    Calls Tryz.prog 93 #[.pointer (some ⟨p, 1030, none⟩), .int .i64 k, .int .u8 v] w fun e w' => e = .returned (.tuple #[]) ∧ Put um w w' p fun m => Pg w' p j l kl kr bg lf rt (some m) bm off ∧ Mk w' m (kput ks k) (upd f k (some (.int .u8 v))) := by
  have hc := h.cum
  have hp := h.lt
  cases um with
  | some m =>
    have hpm : p ≠ m := fun e => by
      obtain ⟨es, cl, hh, _⟩ := hm
      subst e
      rw [h.2] at hh; cases hh
    obtain ⟨w', hr, hM, hF⟩ := Mk.put hm under80 k (.int .u8 v)
    have HZ := hid (show Put (some m) w w' p fun m => Pg w' p j l kl kr bg lf rt (some m) bm off ∧ Mk w' m (kput ks k) (upd f k (some (.int .u8 v))) from ⟨m, .inl rfl, ⟨h.fr hF (by simpa using hpm), hM⟩, hF.mono (fun x hx => .inl (by simp at hx ⊢; exact .inr hx))⟩)
    have q1 : ∀ w, (binOp .eql 80 (.map (some m)) (.map none)).run Tryz.prog w = .ok (.bool false) w := fun w => run_eql_map_nil w _ _ _ (some m) under80
    clear hM hF hpm h hm
    go_enter Tryz.func93, Tryz.ntmps93
    go_wp2
    go_end0
    exact ⟨rfl, HZ.out⟩
  | none =>
    obtain ⟨rfl, rfl⟩ := hm
    have hmk := makeMap80 w
    have hB1 : Below w.heap.size w (w.alloc (.map #[] 0)) := (Below.refl _ _).alloc (Nat.le_refl _) _
    have hh : (w.alloc (.map #[] 0)).heap[w.heap.size]? = some (.map #[] 0) := (MapKept.heap_alloc w _).1
    have hP1 := h.below hB1 hp
    have hc1 := hP1.cum
    have hf1 := hP1.fz 1030
    have hP2 := hP1.sum (some w.heap.size)
    have hF2 := Fr.setCell (w.alloc (.map #[] 0)) p 1030 (.map (some w.heap.size))
    have hh2 := hF2.at hh (by simp; omega)
    have hc2 := hP2.cum
    generalize hw2 : (w.alloc (.map #[] 0)).setCell ⟨p, 1030, none⟩ (.map (some w.heap.size)) = w2 at *
    obtain ⟨w', hr, hM, hF⟩ := Mk.put ⟨_, _, hh2, Mv.empty⟩ under80 k (.int .u8 v)
    have HZ := hid (show Put none w w' p fun m => Pg w' p j l kl kr bg lf rt (some m) bm off ∧ Mk w' m (kput [] k) (upd (fun _ => none) k (some (.int .u8 v))) from ⟨w.heap.size, .inr ⟨rfl, Nat.le_refl _⟩, ⟨hP2.fr hF (by simp; omega), hM⟩, ((Fr.of_below (X := [p]) hB1).trans hF2 (fun x hx => .inl hx)).trans hF (fun x hx => .inr (by simp at hx; omega))⟩)
    have q1 : ∀ w, (binOp .eql 80 (.map none) (.map none)).run Tryz.prog w = .ok (.bool true) w := fun w => run_eql_map_nil w _ _ _ none under80
    clear hM hF hP1 hP2 hF2 hh hh2 hB1 h
    go_enter Tryz.func93, Tryz.ntmps93
    go_wp2
    go_end0
    exact ⟨rfl, HZ.out⟩
set_option maxRecDepth 100000 in
set_option maxHeartbeats 1600000 in
theorem put_con {w : World} {p j : Nat} {l : List Bool} {kl kr : Int} {bg : Bool} {lf rt : Int} {um bm : Option Nat} {off : Int} {ks : List Int} {f : Int → Option Value} (h : Pg w p j l kl kr bg lf rt um bm off) (hm : Mo w bm ks f) (k : Int) (c : List UInt8) (hcl : c.length = 896) :
    Calls Tryz.prog 94 #[.pointer (some ⟨p, 1031, none⟩), .int .i64 k, V8 c] w fun e w' => e = .returned (.tuple #[]) ∧ Put bm w w' p fun m => Pg w' p j l kl kr bg lf rt um (some m) off ∧ Mk w' m (kput ks k) (upd f k (some (V8 c))) := by
  have hp := h.lt
  obtain ⟨g, hg⟩ : ∃ g, g = w.heap.size := ⟨_, rfl⟩
  have hbx := box109 w c
  have hB0 : Below w.heap.size w (w.alloc (.cells (cells8 c).toArray 109)) := (Below.refl _ _).alloc (Nat.le_refl _) _
  have hr0 : Rw (w.alloc (.cells (cells8 c).toArray 109)) w.heap.size 109 c := heap_alloc_last w _
  have hsz : (w.alloc (.cells (cells8 c).toArray 109)).heap.size = w.heap.size + 1 := by show (w.heap.push _).size = _; simp
  generalize hw0 : w.alloc (.cells (cells8 c).toArray 109) = w0 at *
  rw [← hg] at hbx hr0
  have hP0 := h.below hB0 hp
  have hm0 := hm.below hB0
  have HCL := hid hcl
  have HBX := hid hbx
  cases bm with
  | some m =>
    have hpm : p ≠ m := fun e => by
      obtain ⟨es, cl, hh, _⟩ := hm
      subst e
      rw [h.2] at hh; cases hh
    have hd : Below w0.heap.size w0 w0.drew := (Below.refl _ _).drew
    obtain ⟨w', hr, hM, hF⟩ := Mk.put (Mk.below hm0 hd (Mk.lt hm0)) under83 k (V8 c)
    have hFw : Fr [m] w w' := (Fr.of_below (X := [m]) (hB0.trans (hd.mono (by omega)))).trans hF (fun x hx => .inl hx)
    have hPd := hP0.below hd (by omega)
    have HZ := hid (show Put (some m) w w' p fun m => Pg w' p j l kl kr bg lf rt um (some m) off ∧ Mk w' m (kput ks k) (upd f k (some (V8 c))) from ⟨m, .inl rfl, ⟨hPd.fr hF (by simpa using hpm), hM⟩, hFw.mono (fun x hx => .inl (by simp at hx ⊢; exact .inr hx))⟩)
    have HS3 := hid (show w0.drew.cell? ⟨p, 1031, none⟩ = some (.map (some m)) ∧ Rw w0.drew g 109 c from ⟨hPd.cbm, hr0.below hd hr0.lt⟩)
    have HUP := hid hr
    have q1 : ∀ w, (binOp .eql 83 (.map (some m)) (.map none)).run Tryz.prog w = .ok (.bool false) w := fun w => run_eql_map_nil w _ _ _ (some m) under83
    have hc := hP0.cbm
    clear hM hF hpm h hm hm0 hr hFw hPd hd hB0 hP0 hr0 hbx hw0 hsz hg
    go_enter Tryz.func94, Tryz.ntmps94
    go_upto_region 0 with fail
    refine wp_region_lit ?_
    refine wp_run (v := .pointer (some ⟨g, 0, none⟩)) rfl rfl (run_boxOp rfl (by kernel_rfl) HBX.out) rfl ?_
    try simp only [List.setIfInBounds_toArray, List.set_cons_zero, List.set_cons_succ]
    refine wp_end ?_
    go_wp2_with fail
    refine z_open (S := fun w' => w'.cell? ⟨p, 1031, none⟩ = some (.map (some m)) ∧ Rw w' g 109 c) 6 (by kernel_rfl) (by kernel_rfl) (fun _ _ _ _ _ h => h) (L := #[false, false, false, false, false, false, false]) (by kernel_rfl) ?_
    intro Q' hns hP hN
    have hS := HS3.out
    refine z_pure (i := 0) (v := .pointer (some ⟨p, 1031, none⟩)) hns rfl rfl rfl (by kernel_rfl) (by kernel_rfl) hP (y_move rfl) (fun _ => hS) rfl (L' := #[true, false, false, false, false, false, false]) (by kernel_rfl) ?_
    refine z_pure (i := 1) (v := .pointer (some ⟨p, 1031, none⟩)) hns rfl rfl rfl (by kernel_rfl) (by kernel_rfl) hP (y_nil rfl) (fun _ => hS) rfl (L' := #[true, true, false, false, false, false, false]) (by kernel_rfl) ?_
    refine z_pure (i := 2) (v := .pointer (some ⟨p, 1031, none⟩)) hns rfl rfl rfl (by kernel_rfl) (by kernel_rfl) hP (y_faddr rfl (hf := fg85_0 (p) (1031))) (fun _ => hS) rfl (L' := #[true, true, true, false, false, false, false]) (by kernel_rfl) ?_
    refine z_read (i := 3) (v := .map (some m)) hns rfl (by kernel_rfl) rfl rfl (by kernel_rfl) (by kernel_rfl) hP (y_load rfl (hl := fun w' h => load1 Tryz.isAgg83 h.1)) rfl hS rfl (L' := #[true, true, true, true, false, false, false]) (by kernel_rfl) ?_
    refine z_pure (i := 4) (v := .int .i64 k) hns rfl rfl rfl (by kernel_rfl) (by kernel_rfl) hP (y_move rfl) (fun _ => hS) rfl (L' := #[true, true, true, true, true, false, false]) (by kernel_rfl) ?_
    refine z_read (i := 5) (v := V8 c) hns rfl (by kernel_rfl) rfl rfl (by kernel_rfl) (by kernel_rfl) hP (y_load rfl (hl := fun w' h => load109 HCL.out h.2)) rfl hS rfl (L' := #[true, true, true, true, true, true, false]) (by kernel_rfl) ?_
    refine z_last (by kernel_rfl) rfl rfl (by kernel_rfl) (run_mapUpdate rfl (by kernel_rfl) (by kernel_rfl) (by kernel_rfl) HUP.out) rfl (L' := #[true, true, true, true, true, true, true]) (by kernel_rfl) ?_
    try simp only [List.setIfInBounds_toArray, List.set_cons_zero, List.set_cons_succ]
    refine z_done (by kernel_rfl) ?_ _
    refine hN _ _ ?_
    clear hP hN hns
    go_wp2_with fail
    go_end0
    exact ⟨rfl, HZ.out⟩
  | none =>
    obtain ⟨rfl, rfl⟩ := hm
    have hmk := makeMap83 w0
    have hB1 : Below w0.heap.size w0 (w0.alloc (.map #[] 0)) := (Below.refl _ _).alloc (Nat.le_refl _) _
    have hh : (w0.alloc (.map #[] 0)).heap[w0.heap.size]? = some (.map #[] 0) := (MapKept.heap_alloc w0 _).1
    have hP1 := hP0.below hB1 (by omega)
    have hc0 := hP0.cbm
    have hc1 := hP1.cbm
    have hf1 := hP1.fz 1031
    have hP2 := hP1.sbm (some w0.heap.size)
    have hF2 := Fr.setCell (w0.alloc (.map #[] 0)) p 1031 (.map (some w0.heap.size))
    have hh2 := hF2.at hh (by simp; omega)
    have hr2 : Rw ((w0.alloc (.map #[] 0)).setCell ⟨p, 1031, none⟩ (.map (some w0.heap.size))) g 109 c := hF2.at (hr0.below hB1 hr0.lt) (by simp; omega)
    have hB2s : w0.heap.size ≤ ((w0.alloc (.map #[] 0)).setCell ⟨p, 1031, none⟩ (.map (some w0.heap.size))).heap.size := Nat.le_trans hB1.size hF2.size
    generalize hw2 : (w0.alloc (.map #[] 0)).setCell ⟨p, 1031, none⟩ (.map (some w0.heap.size)) = w2 at *
    generalize hm0' : w0.heap.size = m at *
    have hd : Below w2.heap.size w2 w2.drew := (Below.refl _ _).drew
    have hPd := hP2.below hd (by omega)
    obtain ⟨w', hr, hM, hF⟩ := Mk.put ⟨_, _, below_at hd hh2 (heap_lt hh2), Mv.empty⟩ under83 k (V8 c)
    have hF2' : Fr [p] w w2.drew := by
      have h1 : Fr [p] w w0 := Fr.of_below hB0
      have h2 : Fr [p] w (w0.alloc (.map #[] 0)) := h1.trans (Fr.of_below (X := []) (by rw [hm0']; exact hB1)) (by simp)
      have h3 := h2.trans hF2 (fun x hx => .inl hx)
      exact h3.trans (Fr.of_below (X := []) hd) (by simp)
    have HZ := hid (show Put none w w' p fun m => Pg w' p j l kl kr bg lf rt um (some m) off ∧ Mk w' m (kput [] k) (upd (fun _ => none) k (some (V8 c))) from ⟨m, .inr ⟨rfl, by omega⟩, ⟨hPd.fr hF (by simp; omega), hM⟩, hF2'.trans hF (fun x hx => .inr (by simp at hx; omega))⟩)
    have HS3 := hid (show w2.drew.cell? ⟨p, 1031, none⟩ = some (.map (some m)) ∧ Rw w2.drew g 109 c from ⟨hPd.cbm, hr2.below hd hr2.lt⟩)
    have HUP := hid hr
    have HW2 := hid hw2
    have q1 : ∀ w, (binOp .eql 83 (.map none) (.map none)).run Tryz.prog w = .ok (.bool true) w := fun w => run_eql_map_nil w _ _ _ none under83
    clear hM hF h hr hPd hd hB0 hP0 hP1 hP2 hF2 hh hh2 hr2 hB1 hr0 hbx hw0 hsz hF2' hB2s hm0' hg hw2
    go_enter Tryz.func94, Tryz.ntmps94
    go_upto_region 0 with fail
    refine wp_region_lit ?_
    refine wp_run (v := .pointer (some ⟨g, 0, none⟩)) rfl rfl (run_boxOp rfl (by kernel_rfl) HBX.out) rfl ?_
    try simp only [List.setIfInBounds_toArray, List.set_cons_zero, List.set_cons_succ]
    refine wp_end ?_
    go_wp2_with fail
    rw [HW2.out]
    refine z_open (S := fun w' => w'.cell? ⟨p, 1031, none⟩ = some (.map (some m)) ∧ Rw w' g 109 c) 6 (by kernel_rfl) (by kernel_rfl) (fun _ _ _ _ _ h => h) (L := #[false, false, false, false, false, false, false]) (by kernel_rfl) ?_
    intro Q' hns hP hN
    have hS := HS3.out
    refine z_pure (i := 0) (v := .pointer (some ⟨p, 1031, none⟩)) hns rfl rfl rfl (by kernel_rfl) (by kernel_rfl) hP (y_move rfl) (fun _ => hS) rfl (L' := #[true, false, false, false, false, false, false]) (by kernel_rfl) ?_
    refine z_pure (i := 1) (v := .pointer (some ⟨p, 1031, none⟩)) hns rfl rfl rfl (by kernel_rfl) (by kernel_rfl) hP (y_nil rfl) (fun _ => hS) rfl (L' := #[true, true, false, false, false, false, false]) (by kernel_rfl) ?_
    refine z_pure (i := 2) (v := .pointer (some ⟨p, 1031, none⟩)) hns rfl rfl rfl (by kernel_rfl) (by kernel_rfl) hP (y_faddr rfl (hf := fg85_0 (p) (1031))) (fun _ => hS) rfl (L' := #[true, true, true, false, false, false, false]) (by kernel_rfl) ?_
    refine z_read (i := 3) (v := .map (some m)) hns rfl (by kernel_rfl) rfl rfl (by kernel_rfl) (by kernel_rfl) hP (y_load rfl (hl := fun w' h => load1 Tryz.isAgg83 h.1)) rfl hS rfl (L' := #[true, true, true, true, false, false, false]) (by kernel_rfl) ?_
    refine z_pure (i := 4) (v := .int .i64 k) hns rfl rfl rfl (by kernel_rfl) (by kernel_rfl) hP (y_move rfl) (fun _ => hS) rfl (L' := #[true, true, true, true, true, false, false]) (by kernel_rfl) ?_
    refine z_read (i := 5) (v := V8 c) hns rfl (by kernel_rfl) rfl rfl (by kernel_rfl) (by kernel_rfl) hP (y_load rfl (hl := fun w' h => load109 HCL.out h.2)) rfl hS rfl (L' := #[true, true, true, true, true, true, false]) (by kernel_rfl) ?_
    refine z_last (by kernel_rfl) rfl rfl (by kernel_rfl) (run_mapUpdate rfl (by kernel_rfl) (by kernel_rfl) (by kernel_rfl) HUP.out) rfl (L' := #[true, true, true, true, true, true, true]) (by kernel_rfl) ?_
    try simp only [List.setIfInBounds_toArray, List.set_cons_zero, List.set_cons_succ]
    refine z_done (by kernel_rfl) ?_ _
    refine hN _ _ ?_
    clear hP hN hns
    go_wp2_with fail
    go_end0
    exact ⟨rfl, HZ.out⟩
set_option maxRecDepth 100000 in
set_option maxHeartbeats 800000 in
theorem drop_con {w : World} {p j : Nat} {l : List Bool} {kl kr : Int} {bg : Bool} {lf rt : Int} {um bm : Option Nat} {off : Int} {ks : List Int} {f : Int → Option Value} (h : Pg w p j l kl kr bg lf rt um bm off) (hm : Mo w bm ks f) (k : Int) :
    Calls Tryz.prog 107 #[.pointer (some ⟨p, 1031, none⟩), .int .i64 k] w fun e w' => e = .returned (.tuple #[]) ∧ ∃ ks', Pg w' p j l kl kr bg lf rt um bm off ∧ Mo w' bm ks' (upd f k none) ∧ (∀ x, x ∈ ks' ↔ x ≠ k ∧ x ∈ ks) ∧ Fr bm.toList w w' := by
  have hc := h.cbm
  obtain ⟨w', ks', hr, hM, hk, hF⟩ := hm.drop (T2 := 3) under83 0 k
  have hpm : p ∉ bm.toList := fun hx => by
    cases bm with
    | none => simp at hx
    | some m =>
      obtain ⟨es, cl, hh, _⟩ := hm
      simp at hx
      subst hx
      rw [h.2] at hh; cases hh
  have HZ := hid (show ∃ ks', Pg w' p j l kl kr bg lf rt um bm off ∧ Mo w' bm ks' (upd f k none) ∧ (∀ x, x ∈ ks' ↔ x ≠ k ∧ x ∈ ks) ∧ Fr bm.toList w w' from ⟨ks', h.fr hF hpm, hM, hk, hF⟩)
  clear hM hk hF hpm h hm
  go_enter Tryz.func107, Tryz.ntmps107
  go_wp2
  go_end0
  exact ⟨rfl, HZ.out⟩
end Go.Proofs.YtcmgclkbhhdnaaaGreatDoor
namespace Go.Proofs.YtcmgclkbhhdnaaaGreatDoor
open Go Go.RowKit Go.Shelf Go.Sort Go.Maps

def keysC_ren : Go.Shelf.Ren := ⟨fun | 7 => 89 | 10 => 115 | n => n, fun | 23 => 83 | 26 => 3 | 3 => 109 | 28 => 123 | 0 => 0 | 27 => 122 | 33 => 150 | 4 => 4 | n => n, fun n => n⟩
theorem keysC : SlLaysZI.n7 Tryz.prog keysC_ren := {
  mixed := by kernel_rfl
  f7 := ⟨Tryz.f89.name, by kernel_rfl, Tryz.func89.trans (congrArg some (by kernel_rfl))⟩
  f10 := ⟨Tryz.f115.name, by kernel_rfl, Tryz.func115.trans (congrArg some (by kernel_rfl))⟩
  t0 := Tryz.underlying0
  a0 := Tryz.isAgg0
  z0 := Tryz.sizeOf0
  v0 := Tryz.zeroValue0
  t4 := Tryz.underlying4
  a4 := Tryz.isAgg4
  z4 := Tryz.sizeOf4
  v4 := Tryz.zeroValue4
  t23 := Tryz.underlying83
  a23 := Tryz.isAgg83
  z23 := Tryz.sizeOf83
  v23 := Tryz.zeroValue83
  t26 := Tryz.underlying3
  a26 := Tryz.isAgg3
  z26 := Tryz.sizeOf3
  v26 := Tryz.zeroValue3
  t27 := Tryz.underlying122
  a27 := Tryz.isAgg122
  z27 := Tryz.sizeOf122
  v27 := Tryz.zeroValue122
  t28 := Tryz.underlying123
  a28 := Tryz.isAgg123
  z28 := Tryz.sizeOf123
  v28 := Tryz.zeroValue123
  t33 := Tryz.underlying150
  a33 := Tryz.isAgg150
  z33 := Tryz.sizeOf150
  v33 := Tryz.zeroValue150
}
def keysU_ren : Go.Shelf.Ren := ⟨fun | 7 => 114 | 10 => 128 | n => n, fun | 23 => 80 | 26 => 3 | 3 => 73 | 28 => 123 | 0 => 0 | 27 => 122 | 33 => 150 | 4 => 4 | n => n, fun n => n⟩
theorem keysU : SlLaysZI.n7 Tryz.prog keysU_ren := {
  mixed := by kernel_rfl
  f7 := ⟨Tryz.f114.name, by kernel_rfl, Tryz.func114.trans (congrArg some (by kernel_rfl))⟩
  f10 := ⟨Tryz.f128.name, by kernel_rfl, Tryz.func128.trans (congrArg some (by kernel_rfl))⟩
  t0 := Tryz.underlying0
  a0 := Tryz.isAgg0
  z0 := Tryz.sizeOf0
  v0 := Tryz.zeroValue0
  t4 := Tryz.underlying4
  a4 := Tryz.isAgg4
  z4 := Tryz.sizeOf4
  v4 := Tryz.zeroValue4
  t23 := Tryz.underlying80
  a23 := Tryz.isAgg80
  z23 := Tryz.sizeOf80
  v23 := Tryz.zeroValue80
  t26 := Tryz.underlying3
  a26 := Tryz.isAgg3
  z26 := Tryz.sizeOf3
  v26 := Tryz.zeroValue3
  t27 := Tryz.underlying122
  a27 := Tryz.isAgg122
  z27 := Tryz.sizeOf122
  v27 := Tryz.zeroValue122
  t28 := Tryz.underlying123
  a28 := Tryz.isAgg123
  z28 := Tryz.sizeOf123
  v28 := Tryz.zeroValue123
  t33 := Tryz.underlying150
  a33 := Tryz.isAgg150
  z33 := Tryz.sizeOf150
  v33 := Tryz.zeroValue150
}
def sorted_ren : Go.Shelf.Ren := ⟨fun | 6 => 64 | 8 => 96 | 9 => 97 | 11 => 118 | n => n, fun | 0 => 0 | 24 => 42 | 26 => 3 | 28 => 123 | 33 => 150 | n => n, fun n => n⟩
theorem sortedL : SlLaysZI.n6 Tryz.prog sorted_ren := {
  mixed := by kernel_rfl
  f6 := ⟨Tryz.f64.name, by kernel_rfl, Tryz.func64.trans (congrArg some (by kernel_rfl))⟩
  f8 := ⟨Tryz.f96.name, by kernel_rfl, Tryz.func96.trans (congrArg some (by kernel_rfl))⟩
  f11 := ⟨Tryz.f118.name, by kernel_rfl, Tryz.func118.trans (congrArg some (by kernel_rfl))⟩
  t0 := Tryz.underlying0
  a0 := Tryz.isAgg0
  z0 := Tryz.sizeOf0
  v0 := Tryz.zeroValue0
  t24 := Tryz.underlying42
  a24 := Tryz.isAgg42
  z24 := Tryz.sizeOf42
  v24 := Tryz.zeroValue42
  t26 := Tryz.underlying3
  a26 := Tryz.isAgg3
  z26 := Tryz.sizeOf3
  v26 := Tryz.zeroValue3
  t28 := Tryz.underlying123
  a28 := Tryz.isAgg123
  z28 := Tryz.sizeOf123
  v28 := Tryz.zeroValue123
  i26 := info3
}
theorem sortsIn (m : Nat) : AnyZI.SortsIn Tryz.prog sorted_ren Fence.wide m :=
  ⟨fun blk off cap ss W hH hblk hsz => callsIn_wide.2 (Tryz.slices_Sort_int blk off cap ss W hH hblk hsz), fun p cap W => callsIn_wide.2 (Tryz.slices_Sort_int_none p cap W)⟩
/-- Whatever value there is. -/
def anyR : Value → Option (DataW Unit × List MemPlace) := fun _ => some (.lit (.bool true), [])
theorem insert_perm {H : Type} (x : Lit × DataW H) : ∀ l : List (Lit × DataW H), (DataW.insert x l).Perm (x :: l)
  | [] => List.Perm.refl _
  | y :: r => by
    unfold DataW.insert
    split
    · exact List.Perm.refl _
    · exact ((insert_perm x r).cons y).trans (List.Perm.swap x y r)
theorem insert_all {H : Type} : ∀ l : List (Lit × DataW H), (l.foldr DataW.insert []).Perm l
  | [] => List.Perm.refl _
  | x :: r => (insert_perm x _).trans ((insert_all r).cons x)
theorem Mk.owns {w : World} {m : Nat} {ks : List Int} {f : Int → Option Value} (h : Mk w m ks f) (hk : ∀ k ∈ ks, 0 ≤ k ∧ k < 1023) (hl : ks.length ≤ 1000000) :
    ∃ D0 : DataW Unit, w.ownsMap Tryz.prog 3 anyR m ks.length D0 ∧ (intKeys D0).Perm ks ∧ Maps.size D0 = ks.length := by
  obtain ⟨es, cl, hm, hv⟩ := h
  have hlen := hv.len
  have hrd : ∀ (i : Nat) (x : MapEntry), es.toList[i]? = some x → ∃ k, ks[i]? = some k ∧ WideElems.rd (H := Unit) Tryz.prog 3 anyR x = some (.int .i64 k, .lit (.bool true)) := fun i x hx => by
    have hi : i < ks.length := by rw [← hlen]; exact (List.getElem?_eq_some_iff.1 hx).1
    have hki : ks[i]? = some ks[i] := List.getElem?_eq_getElem hi
    have hkey : x.key = .int .i64 ks[i] := by
      have h1 : (es.toList.map (·.key))[i]? = some (.int .i64 ks[i]) := by rw [hv.keys, List.getElem?_map, hki]; rfl
      rw [List.getElem?_map, hx] at h1
      exact Option.some.inj h1
    refine ⟨ks[i], hki, ?_⟩
    have hb := hk _ (List.getElem_mem hi)
    have hwf : (Lit.int .i64 ks[i]).wf = true := WalkArith.wf_i64 ⟨by omega, by omega⟩
    simp [WideElems.rd, keyOf, hkey, mapKey, Tryz.underlying3, hwf, anyR]
  refine ⟨_, ⟨es, cl, hm, ⟨?_, ⟨hv.born, hv.bnd, ?_⟩, fun x hx => ?_⟩, by rw [← Array.length_toList, hlen]; exact Nat.le_refl _, rfl⟩, ?_, ?_⟩
  · rw [← Array.length_toList, hlen]; unfold maxLen; omega
  · rw [hv.keys]
    exact List.pairwise_map.2 (hv.nd.imp fun hne e => hne (by injection e))
  · obtain ⟨i, hi⟩ := List.getElem?_of_mem hx
    obtain ⟨k, _, hr⟩ := hrd i x hi
    exact ⟨_, hr⟩
  · show (List.map (fun p : Lit × DataW Unit => Go.intOf p.1) _).Perm ks
    refine ((insert_all _).map _).trans ?_
    rw [List.map_map]
    have e : es.toList.map ((fun p : Lit × DataW Unit => Go.intOf p.1) ∘ WideElems.rg Tryz.prog 3 anyR) = ks := by
      apply List.ext_getElem?
      intro i
      rw [List.getElem?_map]
      cases hx : es.toList[i]? with
      | none =>
        have : ks[i]? = none := by
          rw [List.getElem?_eq_none_iff] at hx ⊢
          omega
        rw [this]; rfl
      | some x =>
        obtain ⟨k, hki, hr⟩ := hrd i x hx
        rw [hki]
        simp [WideElems.rg, hr, Go.intOf]
    rw [e]
  · show (List.foldr DataW.insert [] _).length = _
    rw [(insert_all _).length_eq, List.length_map, hlen]

theorem sorted_keysC {w : World} {m : Option Nat} {ks : List Int} {f : Int → Option Value} (hm : Mo w m ks f) (hk : ∀ k ∈ ks, 0 ≤ k ∧ k < 1023) (hl : ks.length ≤ 1000000) :
    Calls Tryz.prog 64 #[.func (.func 115) #[] #[.pointer (some ⟨w.heap.size, 0, none⟩)]] (w.alloc (.cells #[.map m] 83)) fun e w' => ∃ v, e = .returned v ∧ Ats w' w.heap.size v (sorted ks) ∧ Below w.heap.size w w' := by
  have hB : Below w.heap.size w (w.alloc (.cells #[.map m] 83)) := (Below.refl _ _).alloc (Nat.le_refl _) _
  have fin : ∀ (v : Value) (ss : List Int) (w' : World), ss.Perm ks → w'.ownsRow (w.alloc (.cells #[.map m] 83)).heap.size 3 1 v ss.length ((ss.mergeSort (fun x y => decide (x ≤ y))).map encZ) → Below (w.alloc (.cells #[.map m] 83)).heap.size (w.alloc (.cells #[.map m] 83)) w' → Ats w' w.heap.size v (sorted ks) ∧ Below w.heap.size w w' := fun v ss w' hp ho hB2 => by
    refine ⟨?_, hB.trans (hB2.mono hB.size)⟩
    have e := mergeSort_of_perm_i hp
    have e2 : (sorted ks).length = ss.length := by simp [sorted, hp.length_eq]
    unfold Ats
    rw [e2]
    have e3 : sorted ks = ss.mergeSort (fun x y => decide (x ≤ y)) := e.symm
    rw [e3]
    exact owns_base ho hB.size
  cases m with
  | none =>
    obtain ⟨rfl, rfl⟩ := hm
    have hseq : SeqGives Fence.wide 2 Tryz.prog 115 #[.pointer (some ⟨w.heap.size, 0, none⟩)] encZ (fun ss : List Int => ss = []) 0 (w.alloc (.cells #[.map none] 83)) :=
      AnyZI.keys_gives_nil (ρ := keysC_ren) { keysC with } Fence.wide _ trivial rfl w.heap.size _ (by simp) (by simp)
    refine ((callsIn_wide (n := 5)).1 (AnyZI.sorted_in sortedL Fence.wide 5 trivial trivial trivial trivial rfl (by omega) (sortsIn _) (enters_of Tryz.func97 (by kernel_rfl) rfl) 115 #[.pointer (some ⟨w.heap.size, 0, none⟩)] trivial (enters_of Tryz.func115 (by kernel_rfl) rfl) _ 0 (Nat.zero_le _) (by omega) _ hseq)).mono ?_
    rintro e w' ⟨v, ss, rfl, rfl, ho, _, hB2⟩
    exact ⟨v, rfl, fin v [] w' (List.Perm.refl _) ho hB2⟩
  | some b =>
    obtain ⟨D0, hown, hperm, hsz⟩ := Mk.owns hm hk hl
    have hown' : (w.alloc (.cells #[.map (some b)] 83)).ownsMap Tryz.prog 3 anyR b ks.length D0 := by
      obtain ⟨es, clock, hb, Ft, hs, hD⟩ := hown
      exact ⟨es, clock, below_at hB hb (heap_lt hb), Ft, hs, hD⟩
    have hseq : SeqGives Fence.wide 2 Tryz.prog 115 #[.pointer (some ⟨w.heap.size, 0, none⟩)] encZ (fun ss => ss.Perm (intKeys D0)) (Maps.size D0) (w.alloc (.cells #[.map (some b)] 83)) :=
      AnyZI.keys_gives (ρ := keysC_ren) { keysC with } Fence.wide _ trivial rfl (by omega) w.heap.size b ks.length D0 _ (by simp) (by simp) hown'
    refine ((callsIn_wide (n := 5)).1 (AnyZI.sorted_in sortedL Fence.wide 5 trivial trivial trivial trivial rfl (by omega) (sortsIn _) (enters_of Tryz.func97 (by kernel_rfl) rfl) 115 #[.pointer (some ⟨w.heap.size, 0, none⟩)] trivial (enters_of Tryz.func115 (by kernel_rfl) rfl) _ _ (by rw [hsz]; unfold maxLen; omega) (by rw [hsz]; omega) _ hseq)).mono ?_
    rintro e w' ⟨v, ss, rfl, hp, ho, _, hB2⟩
    exact ⟨v, rfl, fin v ss w' (hp.trans hperm) ho hB2⟩
set_option maxRecDepth 100000 in
set_option maxHeartbeats 800000 in
theorem pages_keysC {w : World} {b o : Nat} {m : Option Nat} {ks : List Int} {f : Int → Option Value} (hc : w.cell? ⟨b, o, none⟩ = some (.map m)) (hm : Mo w m ks f) (hk : ∀ k ∈ ks, 0 ≤ k ∧ k < 1023) (hl : ks.length ≤ 1000000) :
    Calls Tryz.prog 53 #[.pointer (some ⟨b, o, none⟩)] w fun e w' => ∃ v, e = .returned v ∧ Ats w' w.heap.size v (sorted ks) ∧ Below w.heap.size w w' := by
  have HS := hid (sorted_keysC hm hk hl)
  have HK := hid ((callsIn_wide (n := 5)).1 (AnyZI.keys_in keysC Fence.wide 5 trivial rfl m w))
  clear hm hk hl
  go_enter Tryz.func53, Tryz.ntmps53
  go_wp2_with fail
  refine HK.out.mono ?_
  rintro e w1 ⟨rfl, hw1⟩
  have HW := hid hw1
  clear hw1
  go_wp2_with fail
  rw [HW.out]
  refine HS.out.mono ?_
  rintro e w2 ⟨v, rfl, hz⟩
  have HZ := hid hz
  clear hz HS HK HW
  go_wp2_with fail
  go_ret
  exact ⟨v, rfl, HZ.out⟩

theorem sorted_keysU {w : World} {m : Option Nat} {ks : List Int} {f : Int → Option Value} (hm : Mo w m ks f) (hk : ∀ k ∈ ks, 0 ≤ k ∧ k < 1023) (hl : ks.length ≤ 1000000) :
    Calls Tryz.prog 64 #[.func (.func 128) #[] #[.pointer (some ⟨w.heap.size, 0, none⟩)]] (w.alloc (.cells #[.map m] 80)) fun e w' => ∃ v, e = .returned v ∧ Ats w' w.heap.size v (sorted ks) ∧ Below w.heap.size w w' := by
  have hB : Below w.heap.size w (w.alloc (.cells #[.map m] 80)) := (Below.refl _ _).alloc (Nat.le_refl _) _
  have fin : ∀ (v : Value) (ss : List Int) (w' : World), ss.Perm ks → w'.ownsRow (w.alloc (.cells #[.map m] 80)).heap.size 3 1 v ss.length ((ss.mergeSort (fun x y => decide (x ≤ y))).map encZ) → Below (w.alloc (.cells #[.map m] 80)).heap.size (w.alloc (.cells #[.map m] 80)) w' → Ats w' w.heap.size v (sorted ks) ∧ Below w.heap.size w w' := fun v ss w' hp ho hB2 => by
    refine ⟨?_, hB.trans (hB2.mono hB.size)⟩
    have e := mergeSort_of_perm_i hp
    have e2 : (sorted ks).length = ss.length := by simp [sorted, hp.length_eq]
    unfold Ats
    rw [e2]
    have e3 : sorted ks = ss.mergeSort (fun x y => decide (x ≤ y)) := e.symm
    rw [e3]
    exact owns_base ho hB.size
  cases m with
  | none =>
    obtain ⟨rfl, rfl⟩ := hm
    have hseq : SeqGives Fence.wide 2 Tryz.prog 128 #[.pointer (some ⟨w.heap.size, 0, none⟩)] encZ (fun ss : List Int => ss = []) 0 (w.alloc (.cells #[.map none] 80)) :=
      AnyZI.keys_gives_nil (ρ := keysU_ren) { keysU with } Fence.wide _ trivial rfl w.heap.size _ (by simp) (by simp)
    refine ((callsIn_wide (n := 5)).1 (AnyZI.sorted_in sortedL Fence.wide 5 trivial trivial trivial trivial rfl (by omega) (sortsIn _) (enters_of Tryz.func97 (by kernel_rfl) rfl) 128 #[.pointer (some ⟨w.heap.size, 0, none⟩)] trivial (enters_of Tryz.func128 (by kernel_rfl) rfl) _ 0 (Nat.zero_le _) (by omega) _ hseq)).mono ?_
    rintro e w' ⟨v, ss, rfl, rfl, ho, _, hB2⟩
    exact ⟨v, rfl, fin v [] w' (List.Perm.refl _) ho hB2⟩
  | some b =>
    obtain ⟨D0, hown, hperm, hsz⟩ := Mk.owns hm hk hl
    have hown' : (w.alloc (.cells #[.map (some b)] 80)).ownsMap Tryz.prog 3 anyR b ks.length D0 := by
      obtain ⟨es, clock, hb, Ft, hs, hD⟩ := hown
      exact ⟨es, clock, below_at hB hb (heap_lt hb), Ft, hs, hD⟩
    have hseq : SeqGives Fence.wide 2 Tryz.prog 128 #[.pointer (some ⟨w.heap.size, 0, none⟩)] encZ (fun ss => ss.Perm (intKeys D0)) (Maps.size D0) (w.alloc (.cells #[.map (some b)] 80)) :=
      AnyZI.keys_gives (ρ := keysU_ren) { keysU with } Fence.wide _ trivial rfl (by omega) w.heap.size b ks.length D0 _ (by simp) (by simp) hown'
    refine ((callsIn_wide (n := 5)).1 (AnyZI.sorted_in sortedL Fence.wide 5 trivial trivial trivial trivial rfl (by omega) (sortsIn _) (enters_of Tryz.func97 (by kernel_rfl) rfl) 128 #[.pointer (some ⟨w.heap.size, 0, none⟩)] trivial (enters_of Tryz.func128 (by kernel_rfl) rfl) _ _ (by rw [hsz]; unfold maxLen; omega) (by rw [hsz]; omega) _ hseq)).mono ?_
    rintro e w' ⟨v, ss, rfl, hp, ho, _, hB2⟩
    exact ⟨v, rfl, fin v ss w' (hp.trans hperm) ho hB2⟩
set_option maxRecDepth 100000 in
set_option maxHeartbeats 800000 in
theorem pages_keysU {w : World} {b o : Nat} {m : Option Nat} {ks : List Int} {f : Int → Option Value} (hc : w.cell? ⟨b, o, none⟩ = some (.map m)) (hm : Mo w m ks f) (hk : ∀ k ∈ ks, 0 ≤ k ∧ k < 1023) (hl : ks.length ≤ 1000000) :
    Calls Tryz.prog 87 #[.pointer (some ⟨b, o, none⟩)] w fun e w' => ∃ v, e = .returned v ∧ Ats w' w.heap.size v (sorted ks) ∧ Below w.heap.size w w' := by
  have HS := hid (sorted_keysU hm hk hl)
  have HK := hid ((callsIn_wide (n := 5)).1 (AnyZI.keys_in keysU Fence.wide 5 trivial rfl m w))
  clear hm hk hl
  go_enter Tryz.func87, Tryz.ntmps87
  go_wp2_with fail
  refine HK.out.mono ?_
  rintro e w1 ⟨rfl, hw1⟩
  have HW := hid hw1
  clear hw1
  go_wp2_with fail
  rw [HW.out]
  refine HS.out.mono ?_
  rintro e w2 ⟨v, rfl, hz⟩
  have HZ := hid hz
  clear hz HS HK HW
  go_wp2_with fail
  go_ret
  exact ⟨v, rfl, HZ.out⟩
end Go.Proofs.YtcmgclkbhhdnaaaGreatDoor
