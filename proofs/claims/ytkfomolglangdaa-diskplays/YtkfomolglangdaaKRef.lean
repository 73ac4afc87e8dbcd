/- The document's disk in memory: its own block, rows of slices of bytes; begins, CutAt, read, Read. -/
import Derived.Test.YtkfomolglangdaaKPlays
namespace Go.Proofs.Ytkfomolglangdaa
open Go Go.RowKit

/-- The block of the document's disk. -/
def Rc (w : World) (r : Nat) (vs vl : Value) (ops cut : Int) (off : Bool) : Prop := w.heap[r]? = some (.cells #[vs, vl, .int .i64 ops, .int .i64 cut, .bool off] 62 (0, 0))
section
variable {w : World} {r : Nat} {vs vl : Value} {ops cut : Int} {off : Bool} (h : Rc w r vs vl ops cut off)
include h
theorem Rc.c0 : w.cell? ⟨r, 0, none⟩ = some vs := cell_at h 0 rfl
theorem Rc.c1 : w.cell? ⟨r, 1, none⟩ = some vl := cell_at h 1 rfl
theorem Rc.c2 : w.cell? ⟨r, 2, none⟩ = some (.int .i64 ops) := cell_at h 2 rfl
theorem Rc.c3 : w.cell? ⟨r, 3, none⟩ = some (.int .i64 cut) := cell_at h 3 rfl
theorem Rc.c4 : w.cell? ⟨r, 4, none⟩ = some (.bool off) := cell_at h 4 rfl
theorem Rc.f (i : Nat) : w.frozen? ⟨r, i, none⟩ = false := open_at h i
end
theorem Rc.fr {X : List Nat} {w w' : World} {r : Nat} {vs vl : Value} {ops cut : Int} {off : Bool} (h : Rc w r vs vl ops cut off) (hF : Fr X w w') (hX : r ∉ X) : Rc w' r vs vl ops cut off := hF.at h hX

/-- The slice v has the sector l. -/
def Bk (w : World) (v : Value) (l : List UInt8) : Prop := l.length = 128 ∧ w.ownsRow 0 5 1 v 128 (cells8 l)
/-- The slice v has the sectors ss. -/
def Sf (w : World) (B : Nat) (v : Value) (ss : List (List UInt8)) : Prop := ∃ V : List Value, (∀ (i : Nat) (l : List UInt8), ss[i]? = some l → ∃ u : Value, V[i]? = some u ∧ Bk w u l) ∧ w.ownsRow B 35 1 v ss.length V
def lc (k : (Nat × List UInt8) × Value) : List Value := [.int .i64 k.1.1, k.2]
/-- The slice v has the loose writes L. -/
def Ls (w : World) (B : Nat) (v : Value) (L : List (Nat × List UInt8)) : Prop :=
  ∃ K : List ((Nat × List UInt8) × Value), K.map (·.1) = L ∧ (∀ k ∈ K, Bk w k.2 k.1.2) ∧ w.ownsRow B 81 2 v L.length ((K.map lc).flatten)
/-- No block of the document's disk is among X. -/
def Far (w : World) (X : List Nat) : Prop := ∀ g c t, w.heap[g]? = some (.cells c t (0, 0)) → t ≠ 67 → t ≠ 70 → g ∉ X
theorem Disk.far {w : World} {p : Nat} {X : List Nat} {s : DS} (h : Disk w p X s) : Far w X := fun _ _ _ hg h1 h2 => h.other hg h1 h2
theorem far_nil (w : World) : Far w [] := fun _ _ _ _ _ _ => by simp
/-- The document's disk s at block r. -/
def Ref (w : World) (B r : Nat) (s : DS) : Prop := ∃ vs vl, B ≤ r ∧ Rc w r vs vl s.ops s.cut s.gone ∧ Sf w B vs s.kept ∧ Ls w B vl s.loose ∧ s.Ok
/-- What a call on the document's disk may change. -/
def Mine (w : World) (B : Nat) (Y : List Nat) : Prop := ∀ k ∈ Y, B ≤ k ∧ ∃ c t, w.heap[k]? = some (.cells c t (0, 0)) ∧ t ≠ 67 ∧ t ≠ 70 ∧ t ≠ 33 ∧ t ≠ 38
theorem Disk.mine {w w' : World} {p B : Nat} {X Y : List Nat} {s : DS} (h : Disk w p X s) (hY : Mine w B Y) (hF : Fr Y w w') : Disk w' p X s := h.fr hF fun k hk hm => by
  obtain ⟨_, c, t, hc, h1, h2, _⟩ := hY k hm
  exact h.other hc h1 h2 hk
theorem Fr.drewN (w : World) (n : Nat) : Fr [] w (w.drewN n) := ⟨rfl, rfl, rfl, Nat.le_refl _, fun _ _ _ => rfl⟩
theorem Bk.fr {X : List Nat} {w w' : World} {v : Value} {l : List UInt8} (h : Bk w v l) (hF : Fr X w w') (hX : ∀ g c, w.heap[g]? = some (.cells c 5 (0, 0)) → g ∉ X) : Bk w' v l := ⟨h.1, owns_fr h.2 hF hX⟩
theorem Sf.fr {X : List Nat} {w w' : World} {B : Nat} {v : Value} {ss : List (List UInt8)} (h : Sf w B v ss) (hF : Fr X w w') (hX : ∀ g c, w.heap[g]? = some (.cells c 5 (0, 0)) → g ∉ X) (hX2 : ∀ g c, w.heap[g]? = some (.cells c 35 (0, 0)) → g ∉ X) : Sf w' B v ss := by
  obtain ⟨V, h1, h2⟩ := h
  exact ⟨V, fun i l hl => by obtain ⟨u, hu, hb⟩ := h1 i l hl; exact ⟨u, hu, hb.fr hF hX⟩, owns_fr h2 hF hX2⟩
theorem Ls.fr {X : List Nat} {w w' : World} {B : Nat} {v : Value} {L : List (Nat × List UInt8)} (h : Ls w B v L) (hF : Fr X w w') (hX : ∀ g c, w.heap[g]? = some (.cells c 5 (0, 0)) → g ∉ X) (hX2 : ∀ g c, w.heap[g]? = some (.cells c 81 (0, 0)) → g ∉ X) : Ls w' B v L := by
  obtain ⟨K, h0, h1, h2⟩ := h
  exact ⟨K, h0, fun k hk => (h1 k hk).fr hF hX, owns_fr h2 hF hX2⟩
theorem Ref.fr {Y : List Nat} {w w' : World} {B r : Nat} {s : DS} (h : Ref w B r s) (hF : Fr Y w w') (hY : Far w Y) : Ref w' B r s := by
  obtain ⟨vs, vl, hB, hR, hS, hL, hok⟩ := h
  exact ⟨vs, vl, hB, hR.fr hF (hY _ _ _ hR (by decide) (by decide)), hS.fr hF (fun g c hg => hY g c _ hg (by decide) (by decide)) (fun g c hg => hY g c _ hg (by decide) (by decide)), hL.fr hF (fun g c hg => hY g c _ hg (by decide) (by decide)) (fun g c hg => hY g c _ hg (by decide) (by decide)), hok⟩
theorem Ref.below {w w' : World} {B r : Nat} {s : DS} (h : Ref w B r s) (hB : Below w.heap.size w w') : Ref w' B r s := h.fr (Fr.of_below (X := []) hB) (far_nil w)
theorem Ref.ok {w : World} {B r : Nat} {s : DS} (h : Ref w B r s) : s.Ok := by obtain ⟨_, _, _, _, _, _, hok⟩ := h; exact hok
theorem Rc.ne {w : World} {r : Nat} {vs vl : Value} {ops cut : Int} {off : Bool} (h : Rc w r vs vl ops cut off) {g : Nat} {c : Array Value} {t : TypeId} (ht : t ≠ 62) (hg : w.heap[g]? = some (.cells c t (0, 0))) : g ∉ [r] := fun hm => by
  obtain rfl : g = r := by simpa using hm
  rw [Rc, hg] at h; cases h; exact ht rfl
theorem Rc.mine {w : World} {r B : Nat} {vs vl : Value} {ops cut : Int} {off : Bool} (h : Rc w r vs vl ops cut off) (hB : B ≤ r) : Mine w B [r] := fun k hk => by
  obtain rfl : k = r := by simpa using hk
  exact ⟨hB, _, _, h, by decide, by decide, by decide, by decide⟩
/-- A change of the block alone. -/
theorem Ref.block {w w' : World} {B r : Nat} {s s' : DS} (h : Ref w B r s) (hF : Fr [r] w w') (hk : s'.kept = s.kept) (hl : s'.loose = s.loose) (hok : s'.Ok)
    (hR : ∀ vs vl, Rc w r vs vl s.ops s.cut s.gone → Rc w' r vs vl s'.ops s'.cut s'.gone) : Ref w' B r s' := by
  obtain ⟨vs, vl, hB, hR0, hS, hL, _⟩ := h
  exact ⟨vs, vl, hB, hR vs vl hR0, hk ▸ hS.fr hF (fun _ _ => hR0.ne (by decide)) (fun _ _ => hR0.ne (by decide)), hl ▸ hL.fr hF (fun _ _ => hR0.ne (by decide)) (fun _ _ => hR0.ne (by decide)), hok⟩

set_option maxRecDepth 100000 in
set_option maxHeartbeats 800000 in
theorem rbegins_any (w : World) (r : Nat) (vs vl : Value) (ops cut : Int) (off : Bool) (h : Rc w r vs vl ops cut off) :
    Calls Try.prog 40 #[.pointer (some ⟨r, 0, none⟩)] w fun e w' => e = .returned (.int .i64 (if (lost cut ops || off) = true then 43 else 0)) ∧ Rc w' r vs vl ops cut (lost cut ops || off) ∧ Fr [r] w w' := by
  have h2 := h.c2
  have h3 := h.c3
  have h4 := h.c4
  have f4 := h.f 4
  have H := hid h
  clear h
  by_cases h0 : 0 ≤ cut
  · have d0 : decide (0 ≤ cut) = true := decide_eq_true h0
    by_cases h1 : cut ≤ ops
    · have d1 : decide (cut ≤ ops) = true := decide_eq_true h1
      have hl : lost cut ops = true := by unfold lost; simp; omega
      rw [hl, Bool.true_or, if_pos rfl]
      clear h0 h1
      go_enter Try.func40, Try.ntmps40
      go_wp2_with fail
      go_quiet (fail)
      go_wp2
      go_ret
      exact ⟨rfl, heap_setCell (w := w.drewN nq) H.out 4 (.bool true), ((Fr.drewN w nq).mono (by simp)).trans (Fr.setCell (w.drewN nq) r 4 _) (by simp)⟩
    · have d1 : decide (cut ≤ ops) = false := decide_eq_false h1
      have hl : lost cut ops = false := by unfold lost; simp; omega
      rw [hl, Bool.false_or]
      clear h0 h1
      cases off
      · rw [if_neg (by decide)]
        go_enter Try.func40, Try.ntmps40
        go_wp2_with fail
        go_quiet (fail)
        go_wp2
        go_ret
        exact ⟨rfl, H.out, (Fr.drewN w nq).mono (by simp)⟩
      · rw [if_pos rfl]
        go_enter Try.func40, Try.ntmps40
        go_wp2_with fail
        go_quiet (fail)
        go_wp2
        go_ret
        exact ⟨rfl, H.out, (Fr.drewN w nq).mono (by simp)⟩
  · have d0 : decide (0 ≤ cut) = false := decide_eq_false h0
    have hl : lost cut ops = false := by unfold lost; simp; omega
    rw [hl, Bool.false_or]
    clear h0
    cases off
    · rw [if_neg (by decide)]
      go_enter Try.func40, Try.ntmps40
      go_wp2_with fail
      go_quiet (fail)
      go_wp2
      go_ret
      exact ⟨rfl, H.out, (Fr.drewN w nq).mono (by simp)⟩
    · rw [if_pos rfl]
      go_enter Try.func40, Try.ntmps40
      go_wp2_with fail
      go_quiet (fail)
      go_wp2
      go_ret
      exact ⟨rfl, H.out, (Fr.drewN w nq).mono (by simp)⟩

set_option maxRecDepth 100000 in
set_option maxHeartbeats 800000 in
theorem rcut_any (w : World) (r : Nat) (vs vl : Value) (ops cut : Int) (off : Bool) (x : Int) (h : Rc w r vs vl ops cut off) :
    Calls Try.prog 30 #[.pointer (some ⟨r, 0, none⟩), .int .i64 x] w fun e w' => e = .returned (.tuple #[]) ∧ Rc w' r vs vl ops x false ∧ Fr [r] w w' := by
  have h3 := h.c3
  have h4 := h.c4
  have f3 := h.f 3
  have f4 := h.f 4
  have H := hid h
  clear h
  go_enter Try.func30, Try.ntmps30
  go_wp2
  go_end0
  exact ⟨rfl, heap_setCell (heap_setCell H.out 3 (.int .i64 x)) 4 (.bool false), (Fr.setCell w r 3 _).trans (Fr.setCell _ r 4 _) (by simp)⟩
end Go.Proofs.Ytkfomolglangdaa
