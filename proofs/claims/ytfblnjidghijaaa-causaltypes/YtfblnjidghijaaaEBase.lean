/- An engine: a function is run by the kernel over the blocks that are known, up to what it cannot know; then it asks. -/
import Derived.OrdersHeld
import Derived.Below
import Derived.Test.YtfblnjidghijaaaChecked
namespace Go.Proofs.Ytfblnjidghijaaa
open Go

/-- Blocks that are known: which, and what lies there. -/
abbrev Mem := List (Nat × Obj)
def Mem.ids (m : Mem) : List Nat := m.map (·.1)
def Holds (m : Mem) (w : World) : Prop := ∀ (j b : Nat) (o : Obj), m[j]? = some (b, o) → w.heap[b]? = some o
/-- What was done: only known blocks were changed, and new ones made. -/
structure Ch (L : List Nat) (w w' : World) : Prop where
  os : w'.os = w.os
  tape : w'.tape = w.tape
  output : w'.output = w.output
  size : w.heap.size ≤ w'.heap.size
  block : ∀ i, i < w.heap.size → i ∉ L → w'.heap[i]? = w.heap[i]?
theorem Ch.refl (L : List Nat) (w : World) : Ch L w w := ⟨rfl, rfl, rfl, Nat.le_refl _, fun _ _ _ => rfl⟩
theorem Ch.trans {L L' : List Nat} {w a b : World} (h : Ch L w a) (k : Ch L' a b) (hL : ∀ x ∈ L', x ∈ L ∨ w.heap.size ≤ x) : Ch L w b :=
  ⟨k.os.trans h.os, k.tape.trans h.tape, k.output.trans h.output, Nat.le_trans h.size k.size, fun i hi hX => (k.block i (Nat.lt_of_lt_of_le hi h.size) (fun hm => by rcases hL i hm with h | h; exact hX h; omega)).trans (h.block i hi hX)⟩
/-- P holds, and goes on to hold, whatever becomes of the blocks of L. -/
def Stay (L : List Nat) (w : World) (P : World → Prop) : Prop := ∀ w' : World, Ch L w w' → P w'
theorem Stay.now {L : List Nat} {w : World} {P : World → Prop} (h : Stay L w P) : P w := h w (Ch.refl _ _)
theorem Stay.ch {L L' : List Nat} {w w' : World} {P : World → Prop} (h : Stay L w P) (hc : Ch L w w') (hL : ∀ x ∈ L', x ∈ L ∨ w.heap.size ≤ x) : Stay L' w' P :=
  fun w2 h2 => h w2 (hc.trans h2 hL)
theorem Stay.mono {L : List Nat} {w : World} {P P' : World → Prop} (h : Stay L w P) (hP : ∀ w', P w' → P' w') : Stay L w P' := fun w2 h2 => hP _ (h w2 h2)
theorem Stay.and {L : List Nat} {w : World} {P P' : World → Prop} (h : Stay L w P) (h' : Stay L w P') : Stay L w (fun w => P w ∧ P' w) := fun w2 h2 => ⟨h w2 h2, h' w2 h2⟩

def popJ : List Nat → List Nat
  | [j] => [j]
  | _ :: r => r
  | [] => []
/-- What an operation does over known blocks. js: which block is met; g: the name of what is made; ob: which blocks must be the same; d: was anything changed? -/
structure SR (α : Type) where
  val : α
  mem : Mem
  ob : List (Nat × Nat)
  d : Bool
def oneC : Value → Bool
  | .agg _ => false
  | .tuple _ => false
  | _ => true
def isCells : Obj → Bool
  | .cells .. => true
  | _ => false
def srun {α : Type} (P : Program) : Sem α → List Nat → Option Nat → Mem → List (Nat × Nat) → Bool → Option (SR α)
  | .pure a, _, _, m, ob, d => some ⟨a, m, ob, d⟩
  | .load _ a k, js, g, m, ob, d =>
    match m[js.headD 0]? with
    | some (b, .cells c _ _) =>
      match a.spot, c[a.off]? with
      | none, some v => srun P (k v) (popJ js) g m ((a.block, b) :: ob) d
      | _, _ => none
    | _ => none
  | .store _ a v k, js, g, m, ob, _ =>
    match oneC v, m[js.headD 0]? with
    | true, some (b, .cells c t (0, 0)) =>
      match a.spot, c[a.off]? with
      | none, some _ => srun P k (popJ js) g (m.set (js.headD 0) (b, .cells (c.setIfInBounds a.off v) t (0, 0))) ((a.block, b) :: ob) true
      | _, _ => none
    | _, _ => none
  | .new o k, js, g, m, ob, _ =>
    match g with
    | some g => srun P (k g) js none (m ++ [(g, o)]) ob true
    | none => none
  | .shape r k, js, g, m, ob, d =>
    match m[js.headD 0]? with
    | some (b, .cells c t _) => srun P (k (some (t, c.size))) (popJ js) g m ((r, b) :: ob) d
    | _ => none
  | .getObj r k, js, g, m, ob, d =>
    match m[js.headD 0]? with
    | some (b, o) =>
      match isCells o with
      | false => srun P (k o) (popJ js) g m ((r, b) :: ob) d
      | true => none
    | none => none
  | .setObj r o k, js, g, m, ob, _ =>
    match m[js.headD 0]? with
    | some (b, o0) =>
      match isCells o0 with
      | false => srun P k (popJ js) g (m.set (js.headD 0) (b, o)) ((r, b) :: ob) true
      | true => none
    | none => none
  | .program k, js, g, m, ob, d => srun P (k P) js g m ob d
  | .mark _ k, js, g, m, ob, d => srun P k js g m ob d
  | _, _, _, _, _, _ => none

theorem lt_of_get {w : World} {k : Nat} {o : Obj} (h : w.heap[k]? = some o) : k < w.heap.size := (Array.getElem?_eq_some_iff.1 h).1
/-- What is meant by it. -/
structure Did {α : Type} (P : Program) (s : Sem α) (m : Mem) (w : World) (r : SR α) (d : Bool) (w' : World) : Prop where
  run : s.run P w = .ok r.val w'
  holds : Holds r.mem w'
  nd : r.mem.ids.Nodup
  ch : Ch m.ids w w'
  new : ∀ x ∈ r.mem.ids, x ∈ m.ids ∨ w.heap.size ≤ x
  still : r.d = false → d = false ∧ w' = w ∧ r.mem = m
theorem srun_ob {α : Type} (P : Program) (s : Sem α) : ∀ (js : List Nat) (g : Option Nat) (m : Mem) (ob : List (Nat × Nat)) (d : Bool) (r : SR α), srun P s js g m ob d = some r → (∀ p ∈ r.ob, p.1 = p.2) → ∀ p ∈ ob, p.1 = p.2 := by
  induction s with
  | pure a => intro js g m ob d r h hr; simp only [srun, Option.some.injEq] at h; subst h; exact hr
  | load md a k ih =>
    intro js g m ob d r h hr
    unfold srun at h
    split at h
    · split at h
      · exact fun p hp => ih _ _ _ _ _ _ _ h hr p (List.mem_cons_of_mem _ hp)
      · cases h
    · cases h
  | store md a v k ih =>
    intro js g m ob d r h hr
    unfold srun at h
    split at h
    · split at h
      · exact fun p hp => ih _ _ _ _ _ _ h hr p (List.mem_cons_of_mem _ hp)
      · cases h
    · cases h
  | new o k ih =>
    intro js g m ob d r h hr
    cases g with
    | none => unfold srun at h; cases h
    | some g => unfold srun at h; exact ih _ _ _ _ _ _ _ h hr
  | shape x k ih =>
    intro js g m ob d r h hr
    unfold srun at h
    split at h
    · exact fun p hp => ih _ _ _ _ _ _ _ h hr p (List.mem_cons_of_mem _ hp)
    · cases h
  | getObj x k ih =>
    intro js g m ob d r h hr
    unfold srun at h
    split at h
    · split at h
      · exact fun p hp => ih _ _ _ _ _ _ _ h hr p (List.mem_cons_of_mem _ hp)
      · cases h
    · cases h
  | setObj x o k ih =>
    intro js g m ob d r h hr
    unfold srun at h
    split at h
    · split at h
      · exact fun p hp => ih _ _ _ _ _ _ h hr p (List.mem_cons_of_mem _ hp)
      · cases h
    · cases h
  | program k ih => intro js g m ob d r h hr; unfold srun at h; exact ih _ _ _ _ _ _ _ h hr
  | mark x k ih => intro js g m ob d r h hr; unfold srun at h; exact ih _ _ _ _ _ _ h hr
  | _ => intro js g m ob d r h; unfold srun at h; cases h
theorem Holds.at {m : Mem} {w : World} (h : Holds m w) {j b : Nat} {o : Obj} (hj : m[j]? = some (b, o)) : w.heap[b]? = some o := h j b o hj
theorem ids_get {m : Mem} {j b : Nat} {o : Obj} (hj : m[j]? = some (b, o)) : b ∈ m.ids := by
  have := List.mem_of_getElem? hj
  exact List.mem_map_of_mem (f := (·.1)) this
theorem holds_set {m : Mem} {w w' : World} (h : Holds m w) (hn : m.ids.Nodup) {j b : Nat} {o o' : Obj} (hj : m[j]? = some (b, o)) (hb : w'.heap[b]? = some o') (hw : ∀ i, i < w.heap.size → i ≠ b → w'.heap[i]? = w.heap[i]?) : Holds (m.set j (b, o')) w' := by
  intro i c q hi
  rw [List.getElem?_set] at hi
  by_cases hji : j = i
  · subst hji
    rw [if_pos rfl] at hi
    split at hi
    · cases hi; exact hb
    · cases hi
  · rw [if_neg hji] at hi
    have hne : c ≠ b := by
      intro e
      subst e
      have h1 : m.ids[j]? = some c := by unfold Mem.ids; rw [List.getElem?_map, hj]; rfl
      have h2 : m.ids[i]? = some c := by unfold Mem.ids; rw [List.getElem?_map, hi]; rfl
      obtain ⟨l1, -⟩ := List.getElem?_eq_some_iff.1 h1
      exact hji ((List.getElem?_inj l1 hn).1 (h1.trans h2.symm))
    rw [hw c (lt_of_get (h.at hi)) hne]
    exact h.at hi
theorem ids_set {m : Mem} {j b : Nat} {o o' : Obj} (hj : m[j]? = some (b, o)) : Mem.ids (m.set j (b, o')) = m.ids := by
  unfold Mem.ids
  rw [List.map_set]
  apply List.ext_getElem?
  intro i
  rw [List.getElem?_set]
  split
  · rename_i e
    subst e
    obtain ⟨l, e⟩ := List.getElem?_eq_some_iff.1 hj
    rw [if_pos (by simpa using l), List.getElem?_map, hj]
    rfl
  · rfl
theorem srun_did {α : Type} (P : Program) (s : Sem α) : ∀ (js : List Nat) (g : Option Nat) (m : Mem) (ob : List (Nat × Nat)) (d : Bool) (r : SR α) (w : World), srun P s js g m ob d = some r → (∀ p ∈ r.ob, p.1 = p.2) → Holds m w → m.ids.Nodup → (∀ n, g = some n → n = w.heap.size) → ∃ w', Did P s m w r d w' := by
  induction s with
  | pure a =>
    intro js g m ob d r w h hr hm hn hg
    simp only [srun, Option.some.injEq] at h
    subst h
    exact ⟨w, rfl, hm, hn, Ch.refl _ _, fun x hx => .inl hx, fun hd => ⟨hd, rfl, rfl⟩⟩
  | load md a k ih =>
    intro js g m ob d r w h hr hm hn hg
    unfold srun at h
    split at h
    · rename_i b c t z hb
      split at h
      · rename_i v hs hc
        have hob := srun_ob P _ _ _ _ _ _ _ h hr
        have hab : a.block = b := hob (a.block, b) (by simp)
        obtain ⟨w', D⟩ := ih v _ _ _ _ _ _ w h hr hm hn hg
        have hcell : w.cell? a = some v := by
          unfold World.cell?
          rw [hab, hm.at hb]
          simp [hs, hc]
        refine ⟨w', ?_, D.holds, D.nd, D.ch, D.new, D.still⟩
        have := D.run
        unfold Sem.run
        rw [hcell]
        exact this
      · cases h
    · cases h
  | store md a v k ih =>
    intro js g m ob d r w h hr hm hn hg
    unfold srun at h
    split at h
    · rename_i b c t hv hb
      · split at h
        · rename_i u hs hc
          have hob := srun_ob P _ _ _ _ _ _ _ h hr
          have hab : a.block = b := hob (a.block, b) (by simp)
          have hblk := hm.at hb
          have hlt := lt_of_get hblk
          have hset : (w.setCell a v).heap[b]? = some (.cells (c.setIfInBounds a.off v) t (0, 0)) := by
            unfold World.setCell
            simp only [hab]
            rw [Array.getElem?_modify]
            simp [hblk, hs]
          have hoth : ∀ i, i < w.heap.size → i ≠ b → (w.setCell a v).heap[i]? = w.heap[i]? := by
            intro i hi hne
            unfold World.setCell
            simp only [hab]
            rw [Array.getElem?_modify, if_neg (fun e => hne e.symm)]
          have hsz : (w.setCell a v).heap.size = w.heap.size := by unfold World.setCell; simp
          obtain ⟨w', D⟩ := ih _ _ _ _ _ _ (w.setCell a v) h hr (holds_set hm hn hb hset hoth) (by rw [ids_set hb]; exact hn) (fun n e => by rw [hsz]; exact hg n e)
          have hcell : w.cell? a = some u := by
            unfold World.cell?
            rw [hab, hblk]
            simp [hs, hc]
          have hfr : w.frozen? a = false := by
            unfold World.frozen?
            rw [hab, hblk]
            simp
          have hch : Ch m.ids w (w.setCell a v) := ⟨rfl, rfl, rfl, by rw [hsz]; exact Nat.le_refl _, fun i hi hx => hoth i hi (fun e => hx (e ▸ ids_get hb))⟩
          have hids := ids_set (o' := Obj.cells (c.setIfInBounds a.off v) t (0, 0)) hb
          refine ⟨w', ?_, D.holds, D.nd, hch.trans D.ch (fun x hx => .inl (hids ▸ hx)), fun x hx => ?_, fun hd => ?_⟩
          · have := D.run
            cases v <;> first | (cases hv; done) | (unfold Sem.run; rw [hcell]; simp only [hfr]; exact this)
          · rcases D.new x hx with h1 | h1
            · exact .inl (hids ▸ h1)
            · exact .inr (hsz ▸ h1)
          · exact absurd (D.still hd).1 (by simp)
        · cases h
    · cases h
  | new o k ih =>
    intro js g m ob d r w h hr hm hn hg
    cases g with
    | none => unfold srun at h; cases h
    | some g =>
      unfold srun at h
      have hgs := hg g rfl
      subst hgs
      obtain ⟨w', D⟩ := ih _ _ _ _ _ _ _ { w with heap := w.heap.push o } h hr (by
        intro j b q hj
        by_cases hl : j < m.length
        · rw [List.getElem?_append_left hl] at hj
          have h1 := hm.at hj
          show (w.heap.push o)[b]? = some q
          rw [Array.getElem?_push_lt (lt_of_get h1), ← h1, Array.getElem?_eq_getElem (lt_of_get h1)]
        · rw [List.getElem?_append_right (by omega)] at hj
          have : j - m.length = 0 := by
            obtain ⟨l, -⟩ := List.getElem?_eq_some_iff.1 hj
            simpa using l
          rw [this] at hj
          cases hj
          show (w.heap.push o)[w.heap.size]? = some o
          simp) (by
        unfold Mem.ids
        rw [List.map_append, List.nodup_append]
        refine ⟨hn, by simp, ?_⟩
        intro x hx y hy e
        simp only [List.map_cons, List.map_nil, List.mem_singleton] at hy
        subst e
        subst hy
        obtain ⟨p, hp, e⟩ := List.mem_map.1 hx
        obtain ⟨j, hj⟩ := List.getElem?_of_mem hp
        have := lt_of_get (hm.at (b := p.1) (o := p.2) hj)
        omega) (by simp)
      have hch : Ch m.ids w { w with heap := w.heap.push o } := ⟨rfl, rfl, rfl, by simp, fun i hi _ => by
        show (w.heap.push o)[i]? = w.heap[i]?
        rw [Array.getElem?_push_lt hi, Array.getElem?_eq_getElem hi]⟩
      have hids : ∀ x ∈ Mem.ids (m ++ [(w.heap.size, o)]), x ∈ m.ids ∨ w.heap.size ≤ x := by
        intro x hx
        unfold Mem.ids at hx
        rw [List.map_append, List.mem_append] at hx
        rcases hx with h1 | h1
        · exact .inl h1
        · simp at h1; exact .inr (by omega)
      refine ⟨w', ?_, D.holds, D.nd, hch.trans D.ch hids, fun x hx => ?_, fun hd => absurd (D.still hd).1 (by simp)⟩
      · have := D.run
        unfold Sem.run
        exact this
      · rcases D.new x hx with h1 | h1
        · exact hids x h1
        · refine .inr ?_
          have : w.heap.size ≤ (w.heap.push o).size := by simp
          exact Nat.le_trans this h1
  | shape x k ih =>
    intro js g m ob d r w h hr hm hn hg
    unfold srun at h
    split at h
    · rename_i b c t z hb
      have hob := srun_ob P _ _ _ _ _ _ _ h hr
      have hab : x = b := hob (x, b) (by simp)
      obtain ⟨w', D⟩ := ih _ _ _ _ _ _ _ w h hr hm hn hg
      have hsh : w.shape? x = some (t, c.size) := by
        unfold World.shape?
        rw [hab, hm.at hb]
      refine ⟨w', ?_, D.holds, D.nd, D.ch, D.new, D.still⟩
      have := D.run
      unfold Sem.run
      rw [hsh]
      exact this
    · cases h
  | getObj x k ih =>
    intro js g m ob d r w h hr hm hn hg
    unfold srun at h
    split at h
    · rename_i b o hb
      split at h
      · rename_i hc
        have hob := srun_ob P _ _ _ _ _ _ _ h hr
        have hab : x = b := hob (x, b) (by simp)
        obtain ⟨w', D⟩ := ih _ _ _ _ _ _ _ w h hr hm hn hg
        refine ⟨w', ?_, D.holds, D.nd, D.ch, D.new, D.still⟩
        have := D.run
        unfold Sem.run
        rw [hab, hm.at hb]
        cases o <;> first | (cases hc; done) | exact this
      · cases h
    · cases h
  | setObj x o k ih =>
    intro js g m ob d r w h hr hm hn hg
    unfold srun at h
    split at h
    · rename_i b o0 hb
      split at h
      · rename_i hc
        have hob := srun_ob P _ _ _ _ _ _ _ h hr
        have hab : x = b := hob (x, b) (by simp)
        have hblk := hm.at hb
        have hlt := lt_of_get hblk
        have hset : (w.heap.setIfInBounds b o)[b]? = some o := by rw [Array.getElem?_setIfInBounds_self_of_lt hlt]
        have hoth : ∀ i, i < w.heap.size → i ≠ b → (w.heap.setIfInBounds b o)[i]? = w.heap[i]? := fun i _ hne => Array.getElem?_setIfInBounds_ne (fun e => hne e.symm)
        obtain ⟨w', D⟩ := ih _ _ _ _ _ _ { w with heap := w.heap.setIfInBounds b o } h hr (holds_set hm hn hb hset hoth) (by rw [ids_set hb]; exact hn) (fun n e => by show n = (w.heap.setIfInBounds b o).size; rw [Array.size_setIfInBounds]; exact hg n e)
        have hids := ids_set (o' := o) hb
        have hch : Ch m.ids w { w with heap := w.heap.setIfInBounds b o } := ⟨rfl, rfl, rfl, by show _ ≤ (w.heap.setIfInBounds b o).size; simp, fun i hi hx => hoth i hi (fun e => hx (e ▸ ids_get hb))⟩
        refine ⟨w', ?_, D.holds, D.nd, hch.trans D.ch (fun x hx => .inl (hids ▸ hx)), fun x hx => ?_, fun hd => ?_⟩
        · have := D.run
          unfold Sem.run
          rw [hab, hblk]
          cases o0 <;> first | (cases hc; done) | exact this
        · rcases D.new x hx with h1 | h1
          · exact .inl (hids ▸ h1)
          · refine .inr ?_
            have e : (w.heap.setIfInBounds b o).size = w.heap.size := by simp
            exact e ▸ h1
        · exact absurd (D.still hd).1 (by simp)
      · cases h
    · cases h
  | program k ih =>
    intro js g m ob d r w h hr hm hn hg
    unfold srun at h
    obtain ⟨w', D⟩ := ih _ _ _ _ _ _ _ w h hr hm hn hg
    refine ⟨w', ?_, D.holds, D.nd, D.ch, D.new, D.still⟩
    have := D.run
    unfold Sem.run
    exact this
  | mark x k ih =>
    intro js g m ob d r w h hr hm hn hg
    unfold srun at h
    obtain ⟨w', D⟩ := ih _ _ _ _ _ _ w h hr hm hn hg
    refine ⟨w', ?_, D.holds, D.nd, D.ch, D.new, D.still⟩
    have := D.run
    unfold Sem.run
    exact this
  | _ => intro js g m ob d r w h; unfold srun at h; cases h
/-- What changes nothing. -/
theorem srun_still {α : Type} (P : Program) (s : Sem α) : ∀ (js : List Nat) (m : Mem) (ob : List (Nat × Nat)) (d : Bool) (r : SR α), srun P s js none m ob d = some r → r.d = false → d = false ∧ r.mem = m ∧ ((∀ p ∈ r.ob, p.1 = p.2) → ∀ w, Holds m w → s.run P w = .ok r.val w) := by
  induction s with
  | pure a =>
    intro js m ob d r h hd
    simp only [srun, Option.some.injEq] at h
    subst h
    exact ⟨hd, rfl, fun _ w _ => rfl⟩
  | load md a k ih =>
    intro js m ob d r h hd
    unfold srun at h
    split at h
    · rename_i b c t z hb
      split at h
      · rename_i v hs hc
        obtain ⟨h1, h2, h3⟩ := ih v _ _ _ _ _ h hd
        refine ⟨h1, h2, fun hr w hm => ?_⟩
        have hob := srun_ob P _ _ _ _ _ _ _ h hr
        have hab : a.block = b := hob (a.block, b) (by simp)
        have hcell : w.cell? a = some v := by
          unfold World.cell?
          rw [hab, hm.at hb]
          simp [hs, hc]
        have := h3 hr w hm
        unfold Sem.run
        rw [hcell]
        exact this
      · cases h
    · cases h
  | store md a v k ih =>
    intro js m ob d r h hd
    unfold srun at h
    split at h
    · split at h
      · exact absurd (ih _ _ _ _ _ h hd).1 (by simp)
      · cases h
    · cases h
  | new o k ih => intro js m ob d r h; unfold srun at h; cases h
  | shape x k ih =>
    intro js m ob d r h hd
    unfold srun at h
    split at h
    · rename_i b c t z hb
      obtain ⟨h1, h2, h3⟩ := ih _ _ _ _ _ _ h hd
      refine ⟨h1, h2, fun hr w hm => ?_⟩
      have hob := srun_ob P _ _ _ _ _ _ _ h hr
      have hab : x = b := hob (x, b) (by simp)
      have hsh : w.shape? x = some (t, c.size) := by
        unfold World.shape?
        rw [hab, hm.at hb]
      have := h3 hr w hm
      unfold Sem.run
      rw [hsh]
      exact this
    · cases h
  | getObj x k ih =>
    intro js m ob d r h hd
    unfold srun at h
    split at h
    · rename_i b o hb
      split at h
      · rename_i hc
        obtain ⟨h1, h2, h3⟩ := ih _ _ _ _ _ _ h hd
        refine ⟨h1, h2, fun hr w hm => ?_⟩
        have hob := srun_ob P _ _ _ _ _ _ _ h hr
        have hab : x = b := hob (x, b) (by simp)
        have := h3 hr w hm
        unfold Sem.run
        rw [hab, hm.at hb]
        cases o <;> first | (cases hc; done) | exact this
      · cases h
    · cases h
  | setObj x o k ih =>
    intro js m ob d r h hd
    unfold srun at h
    split at h
    · split at h
      · exact absurd (ih _ _ _ _ _ h hd).1 (by simp)
      · cases h
    · cases h
  | program k ih =>
    intro js m ob d r h hd
    unfold srun at h
    obtain ⟨h1, h2, h3⟩ := ih _ _ _ _ _ _ h hd
    refine ⟨h1, h2, fun hr w hm => ?_⟩
    have := h3 hr w hm
    unfold Sem.run
    exact this
  | mark x k ih =>
    intro js m ob d r h hd
    unfold srun at h
    obtain ⟨h1, h2, h3⟩ := ih _ _ _ _ _ h hd
    refine ⟨h1, h2, fun hr w hm => ?_⟩
    have := h3 hr w hm
    unfold Sem.run
    exact this
  | _ => intro js m ob d r h; unfold srun at h; cases h
end Go.Proofs.Ytfblnjidghijaaa
