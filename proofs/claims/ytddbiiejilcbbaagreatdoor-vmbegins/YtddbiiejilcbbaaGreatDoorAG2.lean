/- texts put together: EBase ERun ELaw EAny EAny2 EStop EFork ESto ENew ERow -/
import Derived.OrdersHeld
import Derived.Below
import Derived.Test.YtddbiiejilcbbaaGreatDoorChecked
import Derived.Maps.AppendAt
namespace Go.Proofs.YtddbiiejilcbbaaGreatDoor
open Go

/-- Blocks that are known: which, and what lies there. -/
abbrev Mem := List (Nat × Obj)
def Mem.ids (m : Mem) : List Nat := m.map (·.1)
def Holds (m : Mem) (w : World) : Prop := ∀ (j b : Nat) (o : Obj), m[j]? = some (b, o) → w.heap[b]? = some o
/-- What was done: only known blocks were changed, and new ones made. -/
structure Ch (L : List Nat) (w w' : World) : Prop where
  os : w'.os = w.os
  tape : w'.tape = w.tape
  output : w'.output = w.output
  size : w.heap.size ≤ w'.heap.size
  block : ∀ i, i < w.heap.size → i ∉ L → w'.heap[i]? = w.heap[i]?
theorem Ch.refl (L : List Nat) (w : World) : Ch L w w := ⟨rfl, rfl, rfl, Nat.le_refl _, fun _ _ _ => rfl⟩
theorem Ch.trans {L L' : List Nat} {w a b : World} (h : Ch L w a) (k : Ch L' a b) (hL : ∀ x ∈ L', x ∈ L ∨ w.heap.size ≤ x) : Ch L w b :=
  ⟨k.os.trans h.os, k.tape.trans h.tape, k.output.trans h.output, Nat.le_trans h.size k.size, fun i hi hX => (k.block i (Nat.lt_of_lt_of_le hi h.size) (fun hm => by rcases hL i hm with h | h; exact hX h; omega)).trans (h.block i hi hX)⟩
/-- P holds, and goes on to hold, whatever becomes of the blocks of L. -/
def Stay (L : List Nat) (w : World) (P : World → Prop) : Prop := ∀ w' : World, Ch L w w' → P w'
theorem Stay.now {L : List Nat} {w : World} {P : World → Prop} (h : Stay L w P) : P w := h w (Ch.refl _ _)
theorem Stay.ch {L L' : List Nat} {w w' : World} {P : World → Prop} (h : Stay L w P) (hc : Ch L w w') (hL : ∀ x ∈ L', x ∈ L ∨ w.heap.size ≤ x) : Stay L' w' P :=
  fun w2 h2 => h w2 (hc.trans h2 hL)
theorem Stay.mono {L : List Nat} {w : World} {P P' : World → Prop} (h : Stay L w P) (hP : ∀ w', P w' → P' w') : Stay L w P' := fun w2 h2 => hP _ (h w2 h2)
theorem Stay.and {L : List Nat} {w : World} {P P' : World → Prop} (h : Stay L w P) (h' : Stay L w P') : Stay L w (fun w => P w ∧ P' w) := fun w2 h2 => ⟨h w2 h2, h' w2 h2⟩

def popJ : List Nat → List Nat
  | [j] => [j]
  | _ :: r => r
  | [] => []
/-- What an operation does over known blocks. js: which block is met; g: the name of what is made; ob: which blocks must be the same; d: was anything changed? -/
structure SR (α : Type) where
  val : α
  mem : Mem
  ob : List (Nat × Nat)
  d : Bool
def oneC : Value → Bool
  | .agg _ => false
  | .tuple _ => false
  | _ => true
def isCells : Obj → Bool
  | .cells .. => true
  | _ => false
def srun {α : Type} (P : Program) : Sem α → List Nat → Option Nat → Mem → List (Nat × Nat) → Bool → Option (SR α)
  | .pure a, _, _, m, ob, d => some ⟨a, m, ob, d⟩
  | .load _ a k, js, g, m, ob, d =>
    match m[js.headD 0]? with
    | some (b, .cells c _ _) =>
      match a.spot, c[a.off]? with
      | none, some v => srun P (k v) (popJ js) g m ((a.block, b) :: ob) d
      | _, _ => none
    | _ => none
  | .store _ a v k, js, g, m, ob, _ =>
    match oneC v, m[js.headD 0]? with
    | true, some (b, .cells c t (0, 0)) =>
      match a.spot, c[a.off]? with
      | none, some _ => srun P k (popJ js) g (m.set (js.headD 0) (b, .cells (c.setIfInBounds a.off v) t (0, 0))) ((a.block, b) :: ob) true
      | _, _ => none
    | _, _ => none
  | .new o k, js, g, m, ob, _ =>
    match g with
    | some g => srun P (k g) js none (m ++ [(g, o)]) ob true
    | none => none
  | .shape r k, js, g, m, ob, d =>
    match m[js.headD 0]? with
    | some (b, .cells c t _) => srun P (k (some (t, c.size))) (popJ js) g m ((r, b) :: ob) d
    | _ => none
  | .getObj r k, js, g, m, ob, d =>
    match m[js.headD 0]? with
    | some (b, o) =>
      match isCells o with
      | false => srun P (k o) (popJ js) g m ((r, b) :: ob) d
      | true => none
    | none => none
  | .setObj r o k, js, g, m, ob, _ =>
    match m[js.headD 0]? with
    | some (b, o0) =>
      match isCells o0 with
      | false => srun P k (popJ js) g (m.set (js.headD 0) (b, o)) ((r, b) :: ob) true
      | true => none
    | none => none
  | .program k, js, g, m, ob, d => srun P (k P) js g m ob d
  | .mark _ k, js, g, m, ob, d => srun P k js g m ob d
  | _, _, _, _, _, _ => none

theorem lt_of_get {w : World} {k : Nat} {o : Obj} (h : w.heap[k]? = some o) : k < w.heap.size := (Array.getElem?_eq_some_iff.1 h).1
/-- What is meant by it. -/
structure Did {α : Type} (P : Program) (s : Sem α) (m : Mem) (w : World) (r : SR α) (d : Bool) (w' : World) : Prop where
  run : s.run P w = .ok r.val w'
  holds : Holds r.mem w'
  nd : r.mem.ids.Nodup
  ch : Ch m.ids w w'
  new : ∀ x ∈ r.mem.ids, x ∈ m.ids ∨ w.heap.size ≤ x
  still : r.d = false → d = false ∧ w' = w ∧ r.mem = m
theorem srun_ob {α : Type} (P : Program) (s : Sem α) : ∀ (js : List Nat) (g : Option Nat) (m : Mem) (ob : List (Nat × Nat)) (d : Bool) (r : SR α), srun P s js g m ob d = some r → (∀ p ∈ r.ob, p.1 = p.2) → ∀ p ∈ ob, p.1 = p.2 := by
  induction s with
  | pure a => intro js g m ob d r h hr; simp only [srun, Option.some.injEq] at h; subst h; exact hr
  | load md a k ih =>
    intro js g m ob d r h hr
    unfold srun at h
    split at h
    · split at h
      · exact fun p hp => ih _ _ _ _ _ _ _ h hr p (List.mem_cons_of_mem _ hp)
      · cases h
    · cases h
  | store md a v k ih =>
    intro js g m ob d r h hr
    unfold srun at h
    split at h
    · split at h
      · exact fun p hp => ih _ _ _ _ _ _ h hr p (List.mem_cons_of_mem _ hp)
      · cases h
    · cases h
  | new o k ih =>
    intro js g m ob d r h hr
    cases g with
    | none => unfold srun at h; cases h
    | some g => unfold srun at h; exact ih _ _ _ _ _ _ _ h hr
  | shape x k ih =>
    intro js g m ob d r h hr
    unfold srun at h
    split at h
    · exact fun p hp => ih _ _ _ _ _ _ _ h hr p (List.mem_cons_of_mem _ hp)
    · cases h
  | getObj x k ih =>
    intro js g m ob d r h hr
    unfold srun at h
    split at h
    · split at h
      · exact fun p hp => ih _ _ _ _ _ _ _ h hr p (List.mem_cons_of_mem _ hp)
      · cases h
    · cases h
  | setObj x o k ih =>
    intro js g m ob d r h hr
    unfold srun at h
    split at h
    · split at h
      · exact fun p hp => ih _ _ _ _ _ _ h hr p (List.mem_cons_of_mem _ hp)
      · cases h
    · cases h
  | program k ih => intro js g m ob d r h hr; unfold srun at h; exact ih _ _ _ _ _ _ _ h hr
  | mark x k ih => intro js g m ob d r h hr; unfold srun at h; exact ih _ _ _ _ _ _ h hr
  | _ => intro js g m ob d r h; unfold srun at h; cases h
theorem Holds.at {m : Mem} {w : World} (h : Holds m w) {j b : Nat} {o : Obj} (hj : m[j]? = some (b, o)) : w.heap[b]? = some o := h j b o hj
theorem ids_get {m : Mem} {j b : Nat} {o : Obj} (hj : m[j]? = some (b, o)) : b ∈ m.ids := by
  have := List.mem_of_getElem? hj
  exact List.mem_map_of_mem (f := (·.1)) this
theorem holds_set {m : Mem} {w w' : World} (h : Holds m w) (hn : m.ids.Nodup) {j b : Nat} {o o' : Obj} (hj : m[j]? = some (b, o)) (hb : w'.heap[b]? = some o') (hw : ∀ i, i < w.heap.size → i ≠ b → w'.heap[i]? = w.heap[i]?) : Holds (m.set j (b, o')) w' := by
  intro i c q hi
  rw [List.getElem?_set] at hi
  by_cases hji : j = i
  · subst hji
    rw [if_pos rfl] at hi
    split at hi
    · cases hi; exact hb
    · cases hi
  · rw [if_neg hji] at hi
    have hne : c ≠ b := by
      intro e
      subst e
      have h1 : m.ids[j]? = some c := by unfold Mem.ids; rw [List.getElem?_map, hj]; rfl
      have h2 : m.ids[i]? = some c := by unfold Mem.ids; rw [List.getElem?_map, hi]; rfl
      obtain ⟨l1, -⟩ := List.getElem?_eq_some_iff.1 h1
      exact hji ((List.getElem?_inj l1 hn).1 (h1.trans h2.symm))
    rw [hw c (lt_of_get (h.at hi)) hne]
    exact h.at hi
theorem ids_set {m : Mem} {j b : Nat} {o o' : Obj} (hj : m[j]? = some (b, o)) : Mem.ids (m.set j (b, o')) = m.ids := by
  unfold Mem.ids
  rw [List.map_set]
  apply List.ext_getElem?
  intro i
  rw [List.getElem?_set]
  split
  · rename_i e
    subst e
    obtain ⟨l, e⟩ := List.getElem?_eq_some_iff.1 hj
    rw [if_pos (by simpa using l), List.getElem?_map, hj]
    rfl
  · rfl
theorem srun_did {α : Type} (P : Program) (s : Sem α) : ∀ (js : List Nat) (g : Option Nat) (m : Mem) (ob : List (Nat × Nat)) (d : Bool) (r : SR α) (w : World), srun P s js g m ob d = some r → (∀ p ∈ r.ob, p.1 = p.2) → Holds m w → m.ids.Nodup → (∀ n, g = some n → n = w.heap.size) → ∃ w', Did P s m w r d w' := by
  induction s with
  | pure a =>
    intro js g m ob d r w h hr hm hn hg
    simp only [srun, Option.some.injEq] at h
    subst h
    exact ⟨w, rfl, hm, hn, Ch.refl _ _, fun x hx => .inl hx, fun hd => ⟨hd, rfl, rfl⟩⟩
  | load md a k ih =>
    intro js g m ob d r w h hr hm hn hg
    unfold srun at h
    split at h
    · rename_i b c t z hb
      split at h
      · rename_i v hs hc
        have hob := srun_ob P _ _ _ _ _ _ _ h hr
        have hab : a.block = b := hob (a.block, b) (by simp)
        obtain ⟨w', D⟩ := ih v _ _ _ _ _ _ w h hr hm hn hg
        have hcell : w.cell? a = some v := by
          unfold World.cell?
          rw [hab, hm.at hb]
          simp [hs, hc]
        refine ⟨w', ?_, D.holds, D.nd, D.ch, D.new, D.still⟩
        have := D.run
        unfold Sem.run
        rw [hcell]
        exact this
      · cases h
    · cases h
  | store md a v k ih =>
    intro js g m ob d r w h hr hm hn hg
    unfold srun at h
    split at h
    · rename_i b c t hv hb
      · split at h
        · rename_i u hs hc
          have hob := srun_ob P _ _ _ _ _ _ _ h hr
          have hab : a.block = b := hob (a.block, b) (by simp)
          have hblk := hm.at hb
          have hlt := lt_of_get hblk
          have hset : (w.setCell a v).heap[b]? = some (.cells (c.setIfInBounds a.off v) t (0, 0)) := by
            unfold World.setCell
            simp only [hab]
            rw [Array.getElem?_modify]
            simp [hblk, hs]
          have hoth : ∀ i, i < w.heap.size → i ≠ b → (w.setCell a v).heap[i]? = w.heap[i]? := by
            intro i hi hne
            unfold World.setCell
            simp only [hab]
            rw [Array.getElem?_modify, if_neg (fun e => hne e.symm)]
          have hsz : (w.setCell a v).heap.size = w.heap.size := by unfold World.setCell; simp
          obtain ⟨w', D⟩ := ih _ _ _ _ _ _ (w.setCell a v) h hr (holds_set hm hn hb hset hoth) (by rw [ids_set hb]; exact hn) (fun n e => by rw [hsz]; exact hg n e)
          have hcell : w.cell? a = some u := by
            unfold World.cell?
            rw [hab, hblk]
            simp [hs, hc]
          have hfr : w.frozen? a = false := by
            unfold World.frozen?
            rw [hab, hblk]
            simp
          have hch : Ch m.ids w (w.setCell a v) := ⟨rfl, rfl, rfl, by rw [hsz]; exact Nat.le_refl _, fun i hi hx => hoth i hi (fun e => hx (e ▸ ids_get hb))⟩
          have hids := ids_set (o' := Obj.cells (c.setIfInBounds a.off v) t (0, 0)) hb
          refine ⟨w', ?_, D.holds, D.nd, hch.trans D.ch (fun x hx => .inl (hids ▸ hx)), fun x hx => ?_, fun hd => ?_⟩
          · have := D.run
            cases v <;> first | (cases hv; done) | (unfold Sem.run; rw [hcell]; simp only [hfr]; exact this)
          · rcases D.new x hx with h1 | h1
            · exact .inl (hids ▸ h1)
            · exact .inr (hsz ▸ h1)
          · exact absurd (D.still hd).1 (by simp)
        · cases h
    · cases h
  | new o k ih =>
    intro js g m ob d r w h hr hm hn hg
    cases g with
    | none => unfold srun at h; cases h
    | some g =>
      unfold srun at h
      have hgs := hg g rfl
      subst hgs
      obtain ⟨w', D⟩ := ih _ _ _ _ _ _ _ { w with heap := w.heap.push o } h hr (by
        intro j b q hj
        by_cases hl : j < m.length
        · rw [List.getElem?_append_left hl] at hj
          have h1 := hm.at hj
          show (w.heap.push o)[b]? = some q
          rw [Array.getElem?_push_lt (lt_of_get h1), ← h1, Array.getElem?_eq_getElem (lt_of_get h1)]
        · rw [List.getElem?_append_right (by omega)] at hj
          have : j - m.length = 0 := by
            obtain ⟨l, -⟩ := List.getElem?_eq_some_iff.1 hj
            simpa using l
          rw [this] at hj
          cases hj
          show (w.heap.push o)[w.heap.size]? = some o
          simp) (by
        unfold Mem.ids
        rw [List.map_append, List.nodup_append]
        refine ⟨hn, by simp, ?_⟩
        intro x hx y hy e
        simp only [List.map_cons, List.map_nil, List.mem_singleton] at hy
        subst e
        subst hy
        obtain ⟨p, hp, e⟩ := List.mem_map.1 hx
        obtain ⟨j, hj⟩ := List.getElem?_of_mem hp
        have := lt_of_get (hm.at (b := p.1) (o := p.2) hj)
        omega) (by simp)
      have hch : Ch m.ids w { w with heap := w.heap.push o } := ⟨rfl, rfl, rfl, by simp, fun i hi _ => by
        show (w.heap.push o)[i]? = w.heap[i]?
        rw [Array.getElem?_push_lt hi, Array.getElem?_eq_getElem hi]⟩
      have hids : ∀ x ∈ Mem.ids (m ++ [(w.heap.size, o)]), x ∈ m.ids ∨ w.heap.size ≤ x := by
        intro x hx
        unfold Mem.ids at hx
        rw [List.map_append, List.mem_append] at hx
        rcases hx with h1 | h1
        · exact .inl h1
        · simp at h1; exact .inr (by omega)
      refine ⟨w', ?_, D.holds, D.nd, hch.trans D.ch hids, fun x hx => ?_, fun hd => absurd (D.still hd).1 (by simp)⟩
      · have := D.run
        unfold Sem.run
        exact this
      · rcases D.new x hx with h1 | h1
        · exact hids x h1
        · refine .inr ?_
          have : w.heap.size ≤ (w.heap.push o).size := by simp
          exact Nat.le_trans this h1
  | shape x k ih =>
    intro js g m ob d r w h hr hm hn hg
    unfold srun at h
    split at h
    · rename_i b c t z hb
      have hob := srun_ob P _ _ _ _ _ _ _ h hr
      have hab : x = b := hob (x, b) (by simp)
      obtain ⟨w', D⟩ := ih _ _ _ _ _ _ _ w h hr hm hn hg
      have hsh : w.shape? x = some (t, c.size) := by
        unfold World.shape?
        rw [hab, hm.at hb]
      refine ⟨w', ?_, D.holds, D.nd, D.ch, D.new, D.still⟩
      have := D.run
      unfold Sem.run
      rw [hsh]
      exact this
    · cases h
  | getObj x k ih =>
    intro js g m ob d r w h hr hm hn hg
    unfold srun at h
    split at h
    · rename_i b o hb
      split at h
      · rename_i hc
        have hob := srun_ob P _ _ _ _ _ _ _ h hr
        have hab : x = b := hob (x, b) (by simp)
        obtain ⟨w', D⟩ := ih _ _ _ _ _ _ _ w h hr hm hn hg
        refine ⟨w', ?_, D.holds, D.nd, D.ch, D.new, D.still⟩
        have := D.run
        unfold Sem.run
        rw [hab, hm.at hb]
        cases o <;> first | (cases hc; done) | exact this
      · cases h
    · cases h
  | setObj x o k ih =>
    intro js g m ob d r w h hr hm hn hg
    unfold srun at h
    split at h
    · rename_i b o0 hb
      split at h
      · rename_i hc
        have hob := srun_ob P _ _ _ _ _ _ _ h hr
        have hab : x = b := hob (x, b) (by simp)
        have hblk := hm.at hb
        have hlt := lt_of_get hblk
        have hset : (w.heap.setIfInBounds b o)[b]? = some o := by rw [Array.getElem?_setIfInBounds_self_of_lt hlt]
        have hoth : ∀ i, i < w.heap.size → i ≠ b → (w.heap.setIfInBounds b o)[i]? = w.heap[i]? := fun i _ hne => Array.getElem?_setIfInBounds_ne (fun e => hne e.symm)
        obtain ⟨w', D⟩ := ih _ _ _ _ _ _ { w with heap := w.heap.setIfInBounds b o } h hr (holds_set hm hn hb hset hoth) (by rw [ids_set hb]; exact hn) (fun n e => by show n = (w.heap.setIfInBounds b o).size; rw [Array.size_setIfInBounds]; exact hg n e)
        have hids := ids_set (o' := o) hb
        have hch : Ch m.ids w { w with heap := w.heap.setIfInBounds b o } := ⟨rfl, rfl, rfl, by show _ ≤ (w.heap.setIfInBounds b o).size; simp, fun i hi hx => hoth i hi (fun e => hx (e ▸ ids_get hb))⟩
        refine ⟨w', ?_, D.holds, D.nd, hch.trans D.ch (fun x hx => .inl (hids ▸ hx)), fun x hx => ?_, fun hd => ?_⟩
        · have := D.run
          unfold Sem.run
          rw [hab, hblk]
          cases o0 <;> first | (cases hc; done) | exact this
        · rcases D.new x hx with h1 | h1
          · exact .inl (hids ▸ h1)
          · refine .inr ?_
            have e : (w.heap.setIfInBounds b o).size = w.heap.size := by simp
            exact e ▸ h1
        · exact absurd (D.still hd).1 (by simp)
      · cases h
    · cases h
  | program k ih =>
    intro js g m ob d r w h hr hm hn hg
    unfold srun at h
    obtain ⟨w', D⟩ := ih _ _ _ _ _ _ _ w h hr hm hn hg
    refine ⟨w', ?_, D.holds, D.nd, D.ch, D.new, D.still⟩
    have := D.run
    unfold Sem.run
    exact this
  | mark x k ih =>
    intro js g m ob d r w h hr hm hn hg
    unfold srun at h
    obtain ⟨w', D⟩ := ih _ _ _ _ _ _ w h hr hm hn hg
    refine ⟨w', ?_, D.holds, D.nd, D.ch, D.new, D.still⟩
    have := D.run
    unfold Sem.run
    exact this
  | _ => intro js g m ob d r w h; unfold srun at h; cases h
/-- What changes nothing. -/
theorem srun_still {α : Type} (P : Program) (s : Sem α) : ∀ (js : List Nat) (m : Mem) (ob : List (Nat × Nat)) (d : Bool) (r : SR α), srun P s js none m ob d = some r → r.d = false → d = false ∧ r.mem = m ∧ ((∀ p ∈ r.ob, p.1 = p.2) → ∀ w, Holds m w → s.run P w = .ok r.val w) := by
  induction s with
  | pure a =>
    intro js m ob d r h hd
    simp only [srun, Option.some.injEq] at h
    subst h
    exact ⟨hd, rfl, fun _ w _ => rfl⟩
  | load md a k ih =>
    intro js m ob d r h hd
    unfold srun at h
    split at h
    · rename_i b c t z hb
      split at h
      · rename_i v hs hc
        obtain ⟨h1, h2, h3⟩ := ih v _ _ _ _ _ h hd
        refine ⟨h1, h2, fun hr w hm => ?_⟩
        have hob := srun_ob P _ _ _ _ _ _ _ h hr
        have hab : a.block = b := hob (a.block, b) (by simp)
        have hcell : w.cell? a = some v := by
          unfold World.cell?
          rw [hab, hm.at hb]
          simp [hs, hc]
        have := h3 hr w hm
        unfold Sem.run
        rw [hcell]
        exact this
      · cases h
    · cases h
  | store md a v k ih =>
    intro js m ob d r h hd
    unfold srun at h
    split at h
    · split at h
      · exact absurd (ih _ _ _ _ _ h hd).1 (by simp)
      · cases h
    · cases h
  | new o k ih => intro js m ob d r h; unfold srun at h; cases h
  | shape x k ih =>
    intro js m ob d r h hd
    unfold srun at h
    split at h
    · rename_i b c t z hb
      obtain ⟨h1, h2, h3⟩ := ih _ _ _ _ _ _ h hd
      refine ⟨h1, h2, fun hr w hm => ?_⟩
      have hob := srun_ob P _ _ _ _ _ _ _ h hr
      have hab : x = b := hob (x, b) (by simp)
      have hsh : w.shape? x = some (t, c.size) := by
        unfold World.shape?
        rw [hab, hm.at hb]
      have := h3 hr w hm
      unfold Sem.run
      rw [hsh]
      exact this
    · cases h
  | getObj x k ih =>
    intro js m ob d r h hd
    unfold srun at h
    split at h
    · rename_i b o hb
      split at h
      · rename_i hc
        obtain ⟨h1, h2, h3⟩ := ih _ _ _ _ _ _ h hd
        refine ⟨h1, h2, fun hr w hm => ?_⟩
        have hob := srun_ob P _ _ _ _ _ _ _ h hr
        have hab : x = b := hob (x, b) (by simp)
        have := h3 hr w hm
        unfold Sem.run
        rw [hab, hm.at hb]
        cases o <;> first | (cases hc; done) | exact this
      · cases h
    · cases h
  | setObj x o k ih =>
    intro js m ob d r h hd
    unfold srun at h
    split at h
    · split at h
      · exact absurd (ih _ _ _ _ _ h hd).1 (by simp)
      · cases h
    · cases h
  | program k ih =>
    intro js m ob d r h hd
    unfold srun at h
    obtain ⟨h1, h2, h3⟩ := ih _ _ _ _ _ _ h hd
    refine ⟨h1, h2, fun hr w hm => ?_⟩
    have := h3 hr w hm
    unfold Sem.run
    exact this
  | mark x k ih =>
    intro js m ob d r h hd
    unfold srun at h
    obtain ⟨h1, h2, h3⟩ := ih _ _ _ _ _ h hd
    refine ⟨h1, h2, fun hr w hm => ?_⟩
    have := h3 hr w hm
    unfold Sem.run
    exact this
  | _ => intro js m ob d r h; unfold srun at h; cases h
end Go.Proofs.YtddbiiejilcbbaaGreatDoor
namespace Go.Proofs.YtddbiiejilcbbaaGreatDoor
open Go

/-- What is still to be done. -/
inductive TI where
  | code (c : Code)
  | blk (id : Nat)
  | lp (c : Code)
  | reg (ops : Array Oper) (rest : List Oper) (res : List Nat)
  | any (ops : Array Oper) (m0 : Mem) (n : Nat) (l : Array Bool)
/-- A loop, from its head on. -/
def LoopFrom (P : Program) (c : Code) (Q : Exit → Act → World → Prop) (a : Act) (w : World) : Prop :=
  ∀ (b : Frame) (k : List Item) (cs : List Frame), ∃ e a' w', Q e a' w' ∧ Arrives P (lone (b.at a (.code c :: .inLoop c :: k)) cs w) b k cs e a' w'
def QK (P : Program) (F : Exit → Act → World → Prop) : List TI → Exit → Act → World → Prop
  | [], e => F e
  | .code c :: k, e =>
    match e with
    | .normal => c.wp P (QK P F k)
    | e => QK P F k e
  | .blk id :: k, e =>
    match e with
    | .exit id' => if id' = id then QK P F k .normal else QK P F k (.exit id')
    | e => QK P F k e
  | .lp c :: k, e =>
    match e with
    | .normal => LoopFrom P c (QK P F k)
    | e => QK P F k e
  | .reg ops rest _ :: k, e =>
    match e with
    | .normal => wpList P ops (QK P F k) rest
    | e => QK P F k e
  | .any ops m0 n l :: k, e =>
    match e with
    | .normal => fun a w => Holds m0 w → wpAnyH P .any ops (QK P F k) (Holds m0) n l a w
    | e => QK P F k e
section
variable {P : Program} {F : Exit → Act → World → Prop} {k : List TI} {a : Act} {w : World}
theorem qk_skip (h : QK P F k .normal a w) : QK P F (.code .skip :: k) .normal a w := wp_skip h
theorem qk_seq {x y : Code} (h : QK P F (.code x :: .code y :: k) .normal a w) : QK P F (.code (.seq x y) :: k) .normal a w := by
  refine wp_seq (wp_mono (show x.wp P (QK P F (.code y :: k)) a w from h) fun e a w q => ?_)
  cases e <;> exact q
theorem qk_block {id : Nat} {c : Code} (h : QK P F (.code c :: .blk id :: k) .normal a w) : QK P F (.code (.block id c) :: k) .normal a w := by
  refine wp_block (wp_mono (show c.wp P (QK P F (.blk id :: k)) a w from h) fun e a w q => ?_)
  cases e with
  | exit i =>
    show if i = id then _ else _
    simp only [QK] at q
    split at q
    · rename_i hi; rw [if_pos hi]; exact q
    · rename_i hi; rw [if_neg hi]; exact q
  | _ => exact q
theorem qk_blk {id : Nat} (h : QK P F k .normal a w) : QK P F (.blk id :: k) .normal a w := h
theorem qk_loop {c : Code} (h : QK P F (.lp c :: k) .normal a w) : QK P F (.code (.loop c) :: k) .normal a w := by
  intro b ks cs
  obtain ⟨e, a', w', hq, harr⟩ := (show LoopFrom P c (QK P F k) a w from h) b ks cs
  exact ⟨e, a', w', hq, .of_steps (.one step_loop) harr⟩
theorem qk_lp {c : Code} (h : QK P F (.code c :: .lp c :: k) .normal a w) : QK P F (.lp c :: k) .normal a w := by
  intro b ks cs
  obtain ⟨e, a₁, w₁, hq, harr⟩ := (show c.wp P (QK P F (.lp c :: k)) a w from h) b (.inLoop c :: ks) cs
  cases e with
  | normal =>
    obtain ⟨e₂, a₂, w₂, hq₂, harr₂⟩ := (show LoopFrom P c (QK P F k) a₁ w₁ from hq) b ks cs
    exact ⟨e₂, a₂, w₂, hq₂, .of_steps (Steps.trans harr (.one step_inLoop)) harr₂⟩
  | exit id => exact ⟨_, a₁, w₁, hq, .pass (x := .inLoop c) rfl (fun _ _ => .inl (by simp)) harr⟩
  | goto l => exact ⟨_, a₁, w₁, hq, .pass (x := .inLoop c) rfl (fun _ _ => .inl (by simp)) harr⟩
  | ret => exact ⟨_, a₁, w₁, hq, .pass (x := .inLoop c) rfl (fun _ _ => .inl (by simp)) harr⟩
  | panic ch => exact ⟨_, a₁, w₁, hq, .pass (x := .inLoop c) rfl (fun _ _ => .inl (by simp)) harr⟩
  | outgrown => exact ⟨_, a₁, w₁, hq, .pass (x := .inLoop c) rfl (fun _ _ => .inl (by simp)) harr⟩
/-- Where an exit leads. -/
def outOf (id : Nat) : List TI → Option (List TI)
  | [] => none
  | .blk i :: k => if id = i then some k else outOf id k
  | _ :: k => outOf id k
theorem qk_out {id : Nat} : ∀ {k k' : List TI}, outOf id k = some k' → QK P F k' .normal a w → QK P F k (.exit id) a w
  | [], _, h, _ => by cases h
  | .blk i :: k, k', h, hq => by
    unfold outOf at h
    simp only [QK]
    split at h
    · rename_i e; cases h; rw [if_pos e]; exact hq
    · rename_i e; rw [if_neg e]; exact qk_out h hq
  | .code c :: k, k', h, hq => qk_out (k := k) h hq
  | .lp c :: k, k', h, hq => qk_out (k := k) h hq
  | .reg _ _ _ :: k, k', h, hq => qk_out (k := k) h hq
  | .any _ _ _ _ :: k, k', h, hq => qk_out (k := k) h hq
theorem qk_exit {id : Nat} {k' : List TI} (hk : outOf id k = some k') (h : QK P F k' .normal a w) : QK P F (.code (.exit id) :: k) .normal a w := wp_exit (qk_out hk h)
theorem qk_cond {c : Operand} {x y : Code} {t : Bool} (hc : a.eval c = .bool t) (h : QK P F (.code (if t then x else y) :: k) .normal a w) : QK P F (.code (.cond c x y) :: k) .normal a w := wp_cond hc h
theorem qk_reg {id : Nat} {ops : Array Oper} (h : QK P F (.reg ops ops.toList [] :: k) .normal a w) : QK P F (.code (.region id ops false) :: k) .normal a w := wp_region_list h
theorem qk_any {id : Nat} {ops : Array Oper} {m0 : Mem} (hm : P.follows .mixedOrders = true) (h0 : Holds m0 w) (h : QK P F (.any ops m0 ops.size (Array.replicate ops.size false) :: k) .normal a { w with drawn := w.drawn + 1 }) : QK P F (.code (.region id ops true) :: k) .normal a w := wp_region_held hm (h h0)
theorem qk_ret : ∀ {k : List TI}, F .ret a w → QK P F k .ret a w
  | [], h => h
  | .code _ :: k, h => qk_ret (k := k) h
  | .blk _ :: k, h => qk_ret (k := k) h
  | .lp _ :: k, h => qk_ret (k := k) h
  | .reg _ _ _ :: k, h => qk_ret (k := k) h
  | .any _ _ _ _ :: k, h => qk_ret (k := k) h
theorem qk_panic {c : List PanicEntry} : ∀ {k : List TI}, QK P F k (.panic c) a w = F (.panic c) a w
  | [] => rfl
  | .code _ :: k => qk_panic (k := k)
  | .blk _ :: k => qk_panic (k := k)
  | .lp _ :: k => qk_panic (k := k)
  | .reg _ _ _ :: k => qk_panic (k := k)
  | .any _ _ _ _ :: k => qk_panic (k := k)
end

/-- What is known of a function under way. -/
structure St where
  todo : List TI
  tmps : List Value
  mem : Mem
def St.act (s : St) : Act := ⟨s.tmps.toArray, []⟩
/-- From here on the function does what is asked, in every world in which these blocks lie so and Inv holds. -/
def Goes (P : Program) (F : Exit → Act → World → Prop) (Inv : World → Prop) (s : St) : Prop :=
  ∀ w, Holds s.mem w → s.mem.ids.Nodup → Stay s.mem.ids w Inv → QK P F s.todo .normal s.act w

/-- A run: the state, hints that are left, what must be the same. -/
structure X where
  st : St
  hs : List Nat
  on : List (Nat × Nat)
  ob : List (Bool × Bool)
/-- How an operation is taken: 0: it needs no hint; 1: it wants one; 2: it makes something, and stops; 3: it stops. -/
def cls : Op → Nat
  | .move _ | .assign _ | .pick .. | .nilCheck _ | .binOp .. | .unOp .. | .makeInterface .. | .makeFunc .. | .fieldAddr .. | .field .. | .extract .. | .build .. => 0
  | .load .. | .store .. | .index .. | .indexAddr .. | .slice .. | .convert .. | .typeAssert .. | .sliceToArrayPointer .. | .insert .. | .mapUpdate .. | .lookup .. => 1
  | .call { callee := .builtin .len, .. } => 0
  | .call { callee := .builtin _, .. } => 1
  | .alloc .. | .box .. | .buildSlice .. | .makeMap .. => 2
  | _ => 3
def evalL (T : List Value) : Operand → Value
  | .tmp t => T.getD t undef
  | .const v => v
  | .global g => .pointer (some ⟨g, 0, none⟩)
  | .func f => .func (.func f) #[] #[]
def putL (T : List Value) : Option Tmp → Value → List Value
  | some d, v => T.set d v
  | none, _ => T
def hbit : Nat → Bool
  | 0 => false
  | _ => true
/-- An operation that is wanted, by its hint. -/
def doOp (P : Program) (o : Oper) (h : Nat) (g : Option Nat) (x : X) (todo : List TI) : Option X :=
  match srun P (execOp (evalL x.st.tmps) o) [h] g x.st.mem x.on false with
  | some ⟨.value v, m, on, _⟩ => some { x with st := ⟨todo, putL x.st.tmps o.dst v, m⟩, on }
  | some ⟨.skip, m, on, _⟩ => some { x with st := ⟨todo, putL x.st.tmps o.dst undef, m⟩, on }
  | _ => none
def boolAt (T : List Value) (t : Nat) : Option Bool :=
  match T[t]? with
  | some (.bool b) => some b
  | _ => none
def opDst (ops : Array Oper) (j : Nat) : Option Tmp := (ops[j]?).bind (·.dst)
def step (P : Program) (x : X) : Option X :=
  match x.st.todo with
  | .code .skip :: k => some { x with st := { x.st with todo := k } }
  | .code (.seq a b) :: k => some { x with st := { x.st with todo := .code a :: .code b :: k } }
  | .code (.block id c) :: k => some { x with st := { x.st with todo := .code c :: .blk id :: k } }
  | .blk _ :: k => some { x with st := { x.st with todo := k } }
  | .code (.loop c) :: k => some { x with st := { x.st with todo := .lp c :: k } }
  | .lp c :: k =>
    match x.hs with
    | _ :: hs => some { x with st := { x.st with todo := .code c :: .lp c :: k }, hs }
    | [] => none
  | .code (.exit id) :: k =>
    match outOf id k with
    | some k' => some { x with st := { x.st with todo := k' } }
    | none => none
  | .code (.cond c a b) :: k =>
    match x.hs, evalL x.st.tmps c with
    | h :: hs, .bool t => some { x with st := { x.st with todo := .code (bif hbit h then a else b) :: k }, hs, ob := (t, hbit h) :: x.ob }
    | _, _ => none
  | .code (.region _ ops false) :: k => some { x with st := { x.st with todo := .reg ops ops.toList [] :: k } }
  | .reg _ [] _ :: k => some { x with st := { x.st with todo := k } }
  | .reg ops (o :: rest) res :: k =>
    match o.guard with
    | some (j, want) =>
      match opDst ops j with
      | none => none
      | some t =>
        match res.contains j, boolAt x.st.tmps t with
        | true, some b =>
          match b == want with
          | true =>
            match cls o.op, x.hs with
            | 0, _ => doOp P o 0 none x (.reg ops rest res :: k)
            | 1, h :: hs => doOp P o h none { x with hs } (.reg ops rest res :: k)
            | _, _ => none
          | false => some { x with st := { x.st with todo := .reg ops rest res :: k, tmps := putL x.st.tmps o.dst undef } }
        | false, some b =>
          match x.hs with
          | h :: hs => some { x with st := { x.st with todo := .reg ops (o :: rest) (j :: res) :: k, tmps := x.st.tmps.set t (.bool (hbit h)) }, hs, ob := (b, hbit h) :: x.ob }
          | [] => none
        | _, none => some { x with st := { x.st with todo := .reg ops rest res :: k, tmps := putL x.st.tmps o.dst undef } }
    | none =>
      match cls o.op, x.hs with
      | 0, _ => doOp P o 0 none x (.reg ops rest res :: k)
      | 1, h :: hs => doOp P o h none { x with hs } (.reg ops rest res :: k)
      | _, _ => none
  | .any ops m0 n l :: k =>
    match (Region.ready .any ops l).isEmpty, n, x.hs with
    | true, _, _ => some { x with st := { x.st with todo := k } }
    | false, n + 1, i :: hs =>
      match ops[i]? with
      | none => none
      | some o =>
        match Region.noSelect ops && Region.free .any ops l i && (Region.ready .any ops l).contains i with
        | false => none
        | true =>
          match Region.wanted o (yielded ops x.st.tmps.toArray) with
          | false => some { x with st := { x.st with todo := .any ops m0 n (l.setIfInBounds i true) :: k, tmps := putL x.st.tmps o.dst undef }, hs }
          | true =>
            match srun P (execOp (evalL x.st.tmps) o) [hs.headD 0] none m0 x.on false with
            | some ⟨.value v, _, on, false⟩ => some { x with st := { x.st with todo := .any ops m0 n (l.setIfInBounds i true) :: k, tmps := putL x.st.tmps o.dst v }, hs := (match cls o.op with | 1 => hs.tail | _ => hs), on }
            | _ => none
    | _, _, _ => none
  | _ => none
def ex (P : Program) : Nat → X → X
  | 0, x => x
  | n + 1, x =>
    match step P x with
    | some y => ex P n y
    | none => x

theorem evalL_eq (T : List Value) (ds : List Deferred) : (Act.mk T.toArray ds).eval = evalL T := by
  funext o
  cases o <;> simp [Act.eval, evalL, List.getD, Array.getD]
  split <;> simp_all
theorem putL_eq (T : List Value) (d : Option Tmp) (v : Value) : (Act.mk T.toArray []).put d v = ⟨(putL T d v).toArray, []⟩ := by
  cases d <;> simp [Act.put, putL]
def Ok (x : X) : Prop := (∀ p ∈ x.on, p.1 = p.2) ∧ (∀ p ∈ x.ob, p.1 = p.2)
theorem yielded_eq (ops : Array Oper) (T : List Value) (j : Nat) : yielded ops T.toArray j = (opDst ops j).bind (boolAt T) := by
  unfold yielded opDst
  cases h : (ops[j]?).bind (·.dst) with
  | none => rfl
  | some t =>
    simp only [Option.bind_some]
    unfold boolAt
    simp only [List.getElem?_toArray]
    cases T[t]? with
    | none => rfl
    | some v => cases v <;> rfl
section
variable {P : Program} {F : Exit → Act → World → Prop} {Inv : World → Prop}
theorem doOp_on {o : Oper} {h : Nat} {g : Option Nat} {x y : X} {todo : List TI} (hd : doOp P o h g x todo = some y) : y.hs = x.hs ∧ y.ob = x.ob ∧ ((∀ p ∈ y.on, p.1 = p.2) → ∀ p ∈ x.on, p.1 = p.2) := by
  unfold doOp at hd
  split at hd
  · rename_i hs; cases hd; exact ⟨rfl, rfl, srun_ob P _ _ _ _ _ _ _ hs⟩
  · rename_i hs; cases hd; exact ⟨rfl, rfl, srun_ob P _ _ _ _ _ _ _ hs⟩
  · cases hd
theorem doOp_goes {o : Oper} {h : Nat} {g : Option Nat} {x y : X} {ops : Array Oper} {rest : List Oper} {res res' : List Nat} {k : List TI} (hx : x.st.todo = .reg ops (o :: rest) res :: k)
    (hd : doOp P o h g x (.reg ops rest res' :: k) = some y) (hw : Region.wanted o (yielded ops x.st.tmps.toArray) = true) (hy : Ok y) {w : World} (hG : Goes P F Inv y.st) (hm : Holds x.st.mem w) (hn : x.st.mem.ids.Nodup) (hI : Stay x.st.mem.ids w Inv) (hg : ∀ n, g = some n → n = w.heap.size) : QK P F x.st.todo .normal x.st.act w := by
  rw [hx]
  show wpList P ops (QK P F k) (o :: rest) ⟨x.st.tmps.toArray, []⟩ w
  refine wpList_step fun K hK => ?_
  rw [if_pos hw]
  unfold Oper.wp
  rw [evalL_eq]
  unfold doOp at hd
  split at hd
  · rename_i v m on d hs
    cases hd
    obtain ⟨w', D⟩ := srun_did P _ _ _ _ _ _ _ w hs hy.1 hm hn hg
    rw [D.run, Oper.upon_value]
    refine hK _ _ ?_
    rw [putL_eq]
    exact hG w' D.holds D.nd (hI.ch D.ch D.new)
  · rename_i m on d hs
    cases hd
    obtain ⟨w', D⟩ := srun_did P _ _ _ _ _ _ _ w hs hy.1 hm hn hg
    rw [D.run, Oper.upon_skip]
    refine hK _ _ ?_
    rw [putL_eq]
    exact hG w' D.holds D.nd (hI.ch D.ch D.new)
  · cases hd
theorem set_self {T : List Value} {t : Nat} {v : Value} (h : T[t]? = some v) : T.set t v = T := by
  apply List.ext_getElem?
  intro i
  rw [List.getElem?_set]
  split
  · rename_i e; subst e; split
    · exact h.symm
    · rename_i hl; rw [List.getElem?_eq_none (by omega)]
  · rfl
theorem bool_hint {b : Bool} {h : Nat} (e : b = hbit h) {α : Type} (x y : α) : (bif hbit h then x else y) = if b then x else y := by
  rw [← e]
  cases b <;> rfl
theorem wpList_not {ops : Array Oper} {Q : Exit → Act → World → Prop} {o : Oper} {rest : List Oper} {a : Act} {w : World} (hw : Region.wanted o (yielded ops a.tmps) = false) (h : wpList P ops Q rest (a.put o.dst undef) w) : wpList P ops Q (o :: rest) a w := by
  unfold wpList
  rw [if_neg (by rw [hw]; simp)]
  exact h
theorem step_goes (hF : ∀ c T T' ds w, F (.panic c) ⟨T, ds⟩ w → F (.panic c) ⟨T', ds⟩ w) {x y : X} (hs : step P x = some y) (hy : Ok y) (hG : Goes P F Inv y.st) : Ok x ∧ Goes P F Inv x.st := by
  unfold step at hs
  split at hs
  case h_1 k hk => cases hs; exact ⟨hy, fun w hm hn hI => by rw [hk]; exact qk_skip (hG w hm hn hI)⟩
  case h_2 a b k hk => cases hs; exact ⟨hy, fun w hm hn hI => by rw [hk]; exact qk_seq (hG w hm hn hI)⟩
  case h_3 id c k hk => cases hs; exact ⟨hy, fun w hm hn hI => by rw [hk]; exact qk_block (hG w hm hn hI)⟩
  case h_4 id k hk => cases hs; exact ⟨hy, fun w hm hn hI => by rw [hk]; exact qk_blk (hG w hm hn hI)⟩
  case h_5 c k hk => cases hs; exact ⟨hy, fun w hm hn hI => by rw [hk]; exact qk_loop (hG w hm hn hI)⟩
  case h_6 c k hk =>
    split at hs
    · cases hs; exact ⟨hy, fun w hm hn hI => by rw [hk]; exact qk_lp (hG w hm hn hI)⟩
    · cases hs
  case h_7 id k hk =>
    split at hs
    · rename_i k' hk'
      cases hs; exact ⟨hy, fun w hm hn hI => by rw [hk]; exact qk_exit hk' (hG w hm hn hI)⟩
    · cases hs
  case h_8 c a b k hk =>
    split at hs
    · rename_i h hs' t hh hv
      cases hs
      have hb := hy.2 (t, hbit h) List.mem_cons_self
      refine ⟨⟨hy.1, fun p hp => hy.2 p (List.mem_cons_of_mem _ hp)⟩, fun w hm hn hI => ?_⟩
      rw [hk]
      refine qk_cond (t := t) (by unfold St.act; rw [evalL_eq]; exact hv) ?_
      have h1 := hG w hm hn hI
      have h2 := bool_hint hb a b
      simp only [h2] at h1
      exact h1
    · cases hs
  case h_9 id ops k hk => cases hs; exact ⟨hy, fun w hm hn hI => by rw [hk]; exact qk_reg (hG w hm hn hI)⟩
  case h_10 ops res k hk => cases hs; exact ⟨hy, fun w hm hn hI => by
    rw [hk]
    exact wpList_nil (P := P) (ops := ops) (Q := QK P F k) (hG w hm hn hI)⟩
  case h_11 ops o rest res k hk =>
    split at hs
    · rename_i j want hg
      have hwq : ∀ b, (opDst ops j).bind (boolAt x.st.tmps) = b → Region.wanted o (yielded ops x.st.tmps.toArray) = (b == some want) := by
        intro b hb
        unfold Region.wanted
        rw [hg]
        simp only [yielded_eq, hb]
      split at hs
      · cases hs
      · rename_i t ht
        rw [ht] at hwq
        split at hs
        · rename_i b hres hb
          have hw := hwq (some b) hb
          split at hs
          · rename_i hbw
            have hw' : Region.wanted o (yielded ops x.st.tmps.toArray) = true := by
              rw [hw, eq_of_beq hbw]; simp
            split at hs
            · have h1 := doOp_on hs
              exact ⟨⟨h1.2.2 hy.1, h1.2.1 ▸ hy.2⟩, fun w hm hn hI => doOp_goes hk hs hw' hy hG hm hn hI (by simp)⟩
            · rename_i h hs' hc hh
              have h1 := doOp_on hs
              exact ⟨⟨h1.2.2 hy.1, h1.2.1 ▸ hy.2⟩, fun w hm hn hI => doOp_goes (x := { x with hs := hs' }) hk hs hw' hy hG hm hn hI (by simp)⟩
            · cases hs
          · rename_i hbw
            cases hs
            refine ⟨hy, fun w hm hn hI => ?_⟩
            rw [hk]
            have h1 := hG w hm hn hI
            refine wpList_not (by show Region.wanted o (yielded ops x.st.tmps.toArray) = false; rw [hw]; simpa using hbw) ?_
            unfold St.act
            rw [putL_eq]
            exact h1
        · rename_i b hres hb
          split at hs
          · rename_i h hs' hh
            cases hs
            have hbb := hy.2 (b, hbit h) List.mem_cons_self
            refine ⟨⟨hy.1, fun p hp => hy.2 p (List.mem_cons_of_mem _ hp)⟩, fun w hm hn hI => ?_⟩
            have h1 := hG w hm hn hI
            have hT : x.st.tmps[t]? = some (.bool b) := by
              unfold boolAt at hb
              split at hb
              · rename_i hq; cases hb; exact hq
              · cases hb
            simp only at hbb
            rw [← hbb] at h1
            unfold St.act at h1
            simp only [set_self hT] at h1
            rw [hk]
            exact h1
          · cases hs
        · rename_i hb
          cases hs
          refine ⟨hy, fun w hm hn hI => ?_⟩
          rw [hk]
          have h1 := hG w hm hn hI
          refine wpList_not (by show Region.wanted o (yielded ops x.st.tmps.toArray) = false; rw [hwq none hb]; rfl) ?_
          unfold St.act
          rw [putL_eq]
          exact h1
    · rename_i hg
      have hw' : Region.wanted o (yielded ops x.st.tmps.toArray) = true := by
        unfold Region.wanted; rw [hg]
      split at hs
      · have h1 := doOp_on hs
        exact ⟨⟨h1.2.2 hy.1, h1.2.1 ▸ hy.2⟩, fun w hm hn hI => doOp_goes hk hs hw' hy hG hm hn hI (by simp)⟩
      · rename_i h hs' hc hh
        have h1 := doOp_on hs
        exact ⟨⟨h1.2.2 hy.1, h1.2.1 ▸ hy.2⟩, fun w hm hn hI => doOp_goes (x := { x with hs := hs' }) hk hs hw' hy hG hm hn hI (by simp)⟩
      · cases hs
  case h_12 ops m0 n l k hk =>
    split at hs
    · rename_i hr
      cases hs
      refine ⟨hy, fun w hm hn hI => ?_⟩
      rw [hk]
      exact fun _ => wpAnyH_done (by simpa using hr) (hG w hm hn hI) _
    · rename_i n i hs' hr hh
      split at hs
      · cases hs
      · rename_i o ho
        split at hs
        · cases hs
        · rename_i hc
          simp only [Bool.and_eq_true] at hc
          have hQ : ∀ v c a w, QK P F k (.panic c) (a.put o.dst v) w → QK P F k (.panic c) a w := by
            intro v c a w h
            rw [qk_panic] at h ⊢
            obtain ⟨T, ds⟩ := a
            cases hd : o.dst with
            | none => rw [hd] at h; exact h
            | some d => rw [hd] at h; exact hF _ _ _ _ _ h
          split at hs
          · rename_i hw
            cases hs
            refine ⟨hy, fun w hm hn hI => ?_⟩
            rw [hk]
            intro h0
            have h1 := hG w hm hn hI h0
            refine wpAnyH_take (v := undef) ho hc.1.1 hc.1.2 hc.2 (hQ _) (.inr ⟨hw, rfl⟩) h0 ?_
            unfold St.act
            rw [putL_eq]
            exact h1
          · rename_i hw
            split at hs
            · rename_i v m1 on hr1
              cases hs
              obtain ⟨-, -, h3⟩ := srun_still P _ _ _ _ _ _ hr1 rfl
              refine ⟨⟨srun_ob P _ _ _ _ _ _ _ hr1 hy.1, hy.2⟩, fun w hm hn hI => ?_⟩
              rw [hk]
              intro h0
              have h1 := hG w hm hn hI h0
              refine wpAnyH_take (v := v) ho hc.1.1 hc.1.2 hc.2 (hQ _) (.inl ⟨hw, fun w' hw' => ?_⟩) h0 ?_
              · unfold St.act
                rw [evalL_eq]
                exact h3 hy.1 w' hw'
              · unfold St.act
                rw [putL_eq]
                exact h1
            · cases hs
    · cases hs
  case h_13 => cases hs
end
end Go.Proofs.YtddbiiejilcbbaaGreatDoor
namespace Go.Proofs.YtddbiiejilcbbaaGreatDoor
open Go Go.RowKit

def AllB : List (Bool × Bool) → Prop
  | [] => True
  | p :: r => p.1 = p.2 ∧ AllB r
theorem AllB.all : ∀ {l : List (Bool × Bool)}, AllB l → ∀ p ∈ l, p.1 = p.2
  | [], _ => by simp
  | _ :: _, h => by
    intro q hq
    rcases List.mem_cons.1 hq with e | e
    · rw [e]; exact h.1
    · exact h.2.all q e
theorem all_of_map {l : List (Nat × Nat)} (h : l.map (·.1) = l.map (·.2)) : ∀ p ∈ l, p.1 = p.2 := by
  induction l with
  | nil => simp
  | cons a r ih =>
    simp only [List.map_cons, List.cons.injEq] at h
    intro p hp
    rcases List.mem_cons.1 hp with e | e
    · rw [e]; exact h.1
    · exact ih h.2 p e
section
variable {P : Program} {F : Exit → Act → World → Prop} {Inv : World → Prop} {s : St} {fn : Func} {R : Ending → World → Prop}
theorem bp_panic : ∀ c T T' ds w, bodyPost P fn R (.panic c) ⟨T, ds⟩ w → bodyPost P fn R (.panic c) ⟨T', ds⟩ w := fun _ _ _ _ _ h => h
/-- The next operation of a region that keeps its order. -/
def nextOp (s : St) : Option (Array Oper × Oper × List Oper × List Nat × List TI) :=
  match s.todo with
  | .reg ops (o :: rest) res :: k => some (ops, o, rest, res, k)
  | _ => none
/-- Is it wanted? -/
def wants (s : St) : Bool :=
  match nextOp s with
  | some (ops, o, _, res, _) =>
    match o.guard with
    | none => true
    | some (j, want) => res.contains j && (match opDst ops j with | some t => boolAt s.tmps t == some want | none => false)
  | none => false
theorem wants_ok {ops : Array Oper} {o : Oper} {rest : List Oper} {res : List Nat} {k : List TI} (hn : nextOp s = some (ops, o, rest, res, k)) (h : wants s = true) : Region.wanted o (yielded ops s.tmps.toArray) = true := by
  unfold wants at h
  rw [hn] at h
  simp only at h
  unfold Region.wanted
  split at h
  · rename_i hg; rw [hg]
  · rename_i j want hg
    rw [hg]
    simp only [yielded_eq]
    rw [Bool.and_eq_true] at h
    split at h
    · rename_i t ht
      rw [ht]
      simpa using h.2
    · exact absurd h.2 (by simp)
theorem nextOp_todo {ops : Array Oper} {o : Oper} {rest : List Oper} {res : List Nat} {k : List TI} (hn : nextOp s = some (ops, o, rest, res, k)) : s.todo = .reg ops (o :: rest) res :: k := by
  unfold nextOp at hn
  split at hn
  · rename_i h; cases hn; exact h
  · cases hn
/-- Behind an operation that answered v, with the blocks m. -/
def put (s : St) (v : Value) (m : Mem) : St :=
  match nextOp s with
  | some (ops, o, rest, res, k) => ⟨.reg ops rest res :: k, putL s.tmps o.dst v, m⟩
  | none => s
def put0 (s : St) (v : Value) : St := put s v s.mem
/-- Behind one that changed the block j. -/
def putM (s : St) (v : Value) (j b : Nat) (o : Obj) : St := put s v (s.mem.set j (b, o))
/-- What is made gets a name. -/
def mkG (P : Program) (x : X) : List Nat → Option (X × List Nat)
  | [] => none
  | g :: gs =>
    match nextOp x.st with
    | some (ops, o, rest, res, k) =>
      match cls o.op == 2 && wants x.st with
      | true =>
        match doOp P o 0 (some g) x (.reg ops rest res :: k) with
        | some y => some (y, gs)
        | none => none
      | false => none
    | none => none
def exG (P : Program) : Nat → X → List Nat → X
  | 0, x, _ => x
  | n + 1, x, gs =>
    match mkG P x gs with
    | some (y, gs') => exG P n y gs'
    | none =>
      match step P x with
      | some y => exG P n y gs
      | none => x
theorem step_two {x : X} {ops : Array Oper} {o : Oper} {rest : List Oper} {res : List Nat} {k : List TI} (hn : nextOp x.st = some (ops, o, rest, res, k)) (hc : cls o.op = 2) (hw : wants x.st = true) : step P x = none := by
  have ht := nextOp_todo hn
  unfold wants at hw
  rw [hn] at hw
  simp only at hw
  unfold step
  rw [ht]
  simp only
  split at hw
  · rename_i hg
    rw [hg]
    simp only [hc]
  · rename_i j want hg
    rw [hg]
    rw [Bool.and_eq_true] at hw
    simp only
    split at hw
    · rename_i t ht
      rw [ht]
      simp only [hw.1]
      rw [eq_of_beq hw.2]
      simp [hc]
    · exact absurd hw.2 (by simp)
theorem exG_goes (hF : ∀ c T T' ds w, F (.panic c) ⟨T, ds⟩ w → F (.panic c) ⟨T', ds⟩ w) : ∀ (n m : Nat) {x : X}, (∀ gs : List Nat, gs.length = m → Ok (exG P n x gs) ∧ Goes P F Inv (exG P n x gs).st) → Ok x ∧ Goes P F Inv x.st
  | 0, m, x, h => h (List.replicate m 0) (by simp)
  | n + 1, m, x, h => by
    unfold exG at h
    have plain : (∀ gs : List Nat, gs.length = m → mkG P x gs = none) → Ok x ∧ Goes P F Inv x.st := by
      intro hno
      cases hs : step P x with
      | none => have := h (List.replicate m 0) (by simp); rw [hno _ (by simp), hs] at this; exact this
      | some y =>
        have h1 : Ok y ∧ Goes P F Inv y.st := exG_goes hF n m (fun gs hl => by have := h gs hl; rw [hno gs hl, hs] at this; exact this)
        exact step_goes hF hs h1.1 h1.2
    cases m with
    | zero => exact plain (fun gs hl => by cases gs with | nil => rfl | cons => cases hl)
    | succ m =>
      cases hno : nextOp x.st with
      | none => exact plain (fun gs hl => by cases gs with | nil => rfl | cons => unfold mkG; rw [hno])
      | some q =>
        obtain ⟨ops, o, rest, res, k⟩ := q
        cases hc : (cls o.op == 2 && wants x.st) with
        | false => exact plain (fun gs hl => by cases gs with | nil => rfl | cons => unfold mkG; rw [hno]; simp only [hc])
        | true =>
          have hc' := hc
          rw [Bool.and_eq_true] at hc'
          have hst := step_two (P := P) hno (eq_of_beq hc'.1) hc'.2
          have key : ∀ g, (doOp P o 0 (some g) x (.reg ops rest res :: k) = none → Ok x ∧ Goes P F Inv x.st) ∧ ∀ y, doOp P o 0 (some g) x (.reg ops rest res :: k) = some y → Ok y ∧ Goes P F Inv y.st := by
            intro g
            refine ⟨fun hd => ?_, fun y hd => ?_⟩
            · have := h (g :: List.replicate m 0) (by simp)
              rw [show mkG P x (g :: List.replicate m 0) = none by unfold mkG; rw [hno]; simp only [hc, hd], hst] at this
              exact this
            · refine exG_goes hF n m (fun gs hl => ?_)
              have := h (g :: gs) (by simp [hl])
              rw [show mkG P x (g :: gs) = some (y, gs) by unfold mkG; rw [hno]; simp only [hc, hd]] at this
              exact this
          refine ⟨?_, fun w hm hn hI => ?_⟩
          · cases hd : doOp P o 0 (some 0) x (.reg ops rest res :: k) with
            | none => exact ((key 0).1 hd).1
            | some y =>
              have h1 := doOp_on hd
              have h2 := ((key 0).2 y hd).1
              exact ⟨h1.2.2 h2.1, h1.2.1 ▸ h2.2⟩
          · cases hd : doOp P o 0 (some w.heap.size) x (.reg ops rest res :: k) with
            | none => exact ((key _).1 hd).2 w hm hn hI
            | some y =>
              have h2 := (key _).2 y hd
              exact doOp_goes (nextOp_todo hno) hd (wants_ok hno hc'.2) h2.1 h2.2 hm hn hI (by simp)
/-- A state, run by hints, with names for what is made. -/
def rn (P : Program) (hs gs : List Nat) (s : St) : X := exG P 2000 ⟨s, hs, [], []⟩ gs
theorem rn_goes {hs : List Nat} {m : Nat} (h : ∀ gs : List Nat, gs.length = m → Ok (rn P hs gs s) ∧ Goes P (bodyPost P fn R) Inv (rn P hs gs s).st) : Goes P (bodyPost P fn R) Inv s := (exG_goes bp_panic 2000 m h).2
/-- A run by hints hs; E: the truths that it leaned on, the last one first. -/
theorem Goes.run (hs : List Nat) (E : List (Bool × Bool)) (hB : AllB E) (h : Goes P (bodyPost P fn R) Inv (rn P hs [] s).st) (hE : (rn P hs [] s).ob = E := by kernel_rfl) (hN : (rn P hs [] s).on.map (·.1) = (rn P hs [] s).on.map (·.2) := by kernel_rfl) : Goes P (bodyPost P fn R) Inv s :=
  rn_goes (m := 0) fun gs hl => by
    obtain rfl : gs = [] := List.eq_nil_of_length_eq_zero hl
    exact ⟨⟨all_of_map hN, hE ▸ hB.all⟩, h⟩
theorem Goes.run1 (hs : List Nat) (E : List (Bool × Bool)) (hB : AllB E) (h : ∀ g, Goes P (bodyPost P fn R) Inv (rn P hs [g] s).st) (hE : ∀ g, (rn P hs [g] s).ob = E := by intros; kernel_rfl) (hN : ∀ g, (rn P hs [g] s).on.map (·.1) = (rn P hs [g] s).on.map (·.2) := by intros; kernel_rfl) : Goes P (bodyPost P fn R) Inv s :=
  rn_goes (m := 1) fun gs hl => by
    obtain ⟨g, rfl⟩ := List.length_eq_one_iff.1 hl
    exact ⟨⟨all_of_map (hN g), hE g ▸ hB.all⟩, h g⟩
theorem Goes.run2 (hs : List Nat) (E : List (Bool × Bool)) (hB : AllB E) (h : ∀ g h, Goes P (bodyPost P fn R) Inv (rn P hs [g, h] s).st) (hE : ∀ g h, (rn P hs [g, h] s).ob = E := by intros; kernel_rfl) (hN : ∀ g h, (rn P hs [g, h] s).on.map (·.1) = (rn P hs [g, h] s).on.map (·.2) := by intros; kernel_rfl) : Goes P (bodyPost P fn R) Inv s :=
  rn_goes (m := 2) fun gs hl => by
    match gs, hl with
    | [a, b], _ => exact ⟨⟨all_of_map (hN a b), hE a b ▸ hB.all⟩, h a b⟩
theorem Goes.run3 (hs : List Nat) (E : List (Bool × Bool)) (hB : AllB E) (h : ∀ g h i, Goes P (bodyPost P fn R) Inv (rn P hs [g, h, i] s).st) (hE : ∀ g h i, (rn P hs [g, h, i] s).ob = E := by intros; kernel_rfl) (hN : ∀ g h i, (rn P hs [g, h, i] s).on.map (·.1) = (rn P hs [g, h, i] s).on.map (·.2) := by intros; kernel_rfl) : Goes P (bodyPost P fn R) Inv s :=
  rn_goes (m := 3) fun gs hl => by
    match gs, hl with
    | [a, b, c], _ => exact ⟨⟨all_of_map (hN a b c), hE a b c ▸ hB.all⟩, h a b c⟩
def vS (s : Sem Value) : Sem Next := do pure (.value (← s))
theorem vS_run {I : Sem Value} {v : Value} {w w' : World} (h : I.run P w = .ok v w') : (vS I).run P w = .ok (.value v) w' := by
  unfold vS
  simp [h, Result.andThen]
/-- An operation whose answer is known otherwise, and which changes nothing. -/
theorem Goes.val (I : Sem Value) (v : Value) (hr : ∀ w, Holds s.mem w → Stay s.mem.ids w Inv → I.run P w = .ok v w) (h : Goes P F Inv (put0 s v)) (ho : (nextOp s).map (fun q => execOp (evalL s.tmps) q.2.1) = some (vS I) := by kernel_rfl) (hw : wants s = true := by kernel_rfl) : Goes P F Inv s := by
  intro w hm hn hI
  cases hno : nextOp s with
  | none => rw [hno] at ho; cases ho
  | some q =>
    obtain ⟨ops, o', rest, res, k⟩ := q
    rw [hno] at ho
    have ho : execOp (evalL s.tmps) o' = vS I := by simpa using ho
    rw [nextOp_todo hno]
    show wpList P ops (QK P F k) (o' :: rest) ⟨s.tmps.toArray, []⟩ w
    refine wpList_step fun K hK => ?_
    rw [if_pos (wants_ok hno hw)]
    unfold Oper.wp
    rw [evalL_eq, ho, vS_run (hr w hm hI), Oper.upon_value]
    refine hK _ _ ?_
    rw [putL_eq]
    have h1 := h w
    unfold put0 put at h1
    rw [hno] at h1
    exact h1 hm hn hI
/-- An operation that changes the world in a way that is known otherwise. -/
theorem Goes.eff (I : Sem Value) 
 (hr : ∀ w, Holds s.mem w → s.mem.ids.Nodup → Stay s.mem.ids w Inv → ∃ v w' Inv' m, I.run P w = .ok v w' ∧ Holds m w' ∧ m.ids.Nodup ∧ Stay m.ids w' Inv' ∧ Goes P F Inv' (put s v m)) (ho : (nextOp s).map (fun q => execOp (evalL s.tmps) q.2.1) = some (vS I) := by kernel_rfl) (hw : wants s = true := by kernel_rfl) : Goes P F Inv s := by
  intro w hm hn hI
  cases hno : nextOp s with
  | none => rw [hno] at ho; cases ho
  | some q =>
    obtain ⟨ops, o', rest, res, k⟩ := q
    rw [hno] at ho
    have ho : execOp (evalL s.tmps) o' = vS I := by simpa using ho
    rw [nextOp_todo hno]
    show wpList P ops (QK P F k) (o' :: rest) ⟨s.tmps.toArray, []⟩ w
    refine wpList_step fun K hK => ?_
    rw [if_pos (wants_ok hno hw)]
    unfold Oper.wp
    obtain ⟨v, w', Inv', m, he, h1, h2, h3, h4⟩ := hr w hm hn hI
    have h5 := h4 w'
    unfold put at h5
    rw [hno] at h5
    rw [evalL_eq, ho, vS_run he, Oper.upon_value]
    refine hK _ _ ?_
    rw [putL_eq]
    exact h5 h1 h2 h3
/-- A function that is entered when it is called. -/
def okf (P : Program) (f : FuncId) : Bool :=
  match P.funcs[f]? with
  | some fn => !(fn.name == "runtime.NumGoroutine") && fn.body.isSome
  | none => false
theorem okf_run {f : FuncId} (h : okf P f = true) (args : Array Value) (w : World) : (callFunc f args).run P w = .ok (.enter f args) w := by
  unfold okf at h
  cases hf : P.funcs[f]? with
  | none => rw [hf] at h; cases h
  | some fn =>
    rw [hf] at h
    simp only [Bool.and_eq_true, Bool.not_eq_true'] at h
    obtain ⟨c, hc⟩ := Option.isSome_iff_exists.1 h.2
    unfold callFunc
    have : (program).run P w = .ok P w := rfl
    simp [Sem.run_bind, this, Result.andThen, hf, hc]
    exact beq_eq_false_iff_ne.1 h.1
/-- What lies in the known block j. -/
theorem Holds.get {m : Mem} {w : World} (h : Holds m w) (j : Nat) {b : Nat} {o : Obj} (hj : m[j]? = some (b, o) := by kernel_rfl) : w.heap[b]? = some o := h j b o hj
/-- What a call asks: the function and what is handed to it. -/
def ask (s : St) : Option (FuncId × Array Value) :=
  match nextOp s with
  | some (_, o, _, _, _) =>
    match o.op with
    | .call { callee := .value x, args, .. } =>
      match evalL s.tmps x with
      | .func (.func f) first captured => some (f, first ++ args.map (evalL s.tmps) ++ captured)
      | _ => none
    | _ => none
  | none => none
theorem ask_run {ops : Array Oper} {o : Oper} {rest : List Oper} {res : List Nat} {k : List TI} {f : FuncId} {args : Array Value} (hn : nextOp s = some (ops, o, rest, res, k)) (ha : ask s = some (f, args)) (hf : okf P f = true) (w : World) : (execOp (evalL s.tmps) o).run P w = .ok (.enter f args) w := by
  unfold ask at ha
  rw [hn] at ha
  simp only at ha
  split at ha
  · rename_i x xs ats hop
    split at ha
    · rename_i g first captured hv
      cases ha
      have e : execOp (evalL s.tmps) o = callFunc f (first ++ xs.map (evalL s.tmps) ++ captured) := by
        unfold execOp; rw [hop]; simp only [resolve, hv]; rfl
      rw [e, okf_run hf]
    · cases ha
  · cases ha
theorem Goes.call (f : FuncId) (args : Array Value) 
 (hr : ∀ w, Holds s.mem w → s.mem.ids.Nodup → Stay s.mem.ids w Inv → Calls P f args w fun e w' => ∃ v Inv' m, e = .returned v ∧ Holds m w' ∧ m.ids.Nodup ∧ Stay m.ids w' Inv' ∧ Goes P F Inv' (put s v m)) (ha : ask s = some (f, args) := by kernel_rfl) (hw : wants s = true := by kernel_rfl) (hf : okf P f = true := by kernel_rfl) : Goes P F Inv s := by
  intro w hm hn hI
  cases hno : nextOp s with
  | none => unfold ask at ha; rw [hno] at ha; cases ha
  | some q =>
    obtain ⟨ops, o, rest, res, k⟩ := q
    rw [nextOp_todo hno]
    show wpList P ops (QK P F k) (o :: rest) ⟨s.tmps.toArray, []⟩ w
    refine wpList_step fun K hK => ?_
    rw [if_pos (wants_ok hno hw)]
    unfold Oper.wp
    rw [evalL_eq, ask_run hno ha hf w, Oper.upon_enter]
    refine (hr w hm hn hI).mono fun e w' ⟨v, Inv', m, he, h1, h2, h3, h4⟩ => ?_
    subst he
    refine hK _ _ ?_
    rw [putL_eq]
    have h5 := h4 w'
    unfold put at h5
    rw [hno] at h5
    exact h5 h1 h2 h3
/-- A call that leaves all blocks as they are. -/
theorem Goes.call0 (f : FuncId) (args : Array Value) (v : Value) 
 (hr : ∀ w, Holds s.mem w → Stay s.mem.ids w Inv → Calls P f args w fun e w' => e = .returned v ∧ Below w.heap.size w w') (h : Goes P F Inv (put0 s v)) (ha : ask s = some (f, args) := by kernel_rfl) (hw : wants s = true := by kernel_rfl) (hf : okf P f = true := by kernel_rfl) : Goes P F Inv s := by
  refine Goes.call f args (ha := ha) (hw := hw) (hf := hf) fun w hm hn hI => (hr w hm hI).mono fun e w' ⟨he, hB⟩ => ⟨v, Inv, s.mem, he, ?_, hn, ?_, h⟩
  · intro j b o hj
    rw [hB.block b (lt_of_get (hm.at hj))]
    exact hm.at hj
  · exact hI.ch ⟨hB.os, hB.tape, hB.output, hB.size, fun i hi _ => hB.block i hi⟩ (fun x hx => .inl hx)
/-- A call that changes the known block j (b), and tells a fact. -/
theorem Goes.call1 (j b : Nat) (f : FuncId) (args : Array Value) 
 (hr : ∀ w, Holds s.mem w → s.mem.ids.Nodup → Stay s.mem.ids w Inv → Calls P f args w fun e w' => ∃ v o Fact, e = .returned v ∧ Ch [b] w w' ∧ w'.heap[b]? = some o ∧ Stay s.mem.ids w' Fact ∧ Goes P F (fun w => Inv w ∧ Fact w) (putM s v j b o)) (ha : ask s = some (f, args) := by kernel_rfl) (hw : wants s = true := by kernel_rfl) (hf : okf P f = true := by kernel_rfl) (hj : (s.mem[j]?).map (·.1) = some b := by kernel_rfl) : Goes P F Inv s := by
  obtain ⟨o0, hb⟩ : ∃ o0, s.mem[j]? = some (b, o0) := by
    cases hq : s.mem[j]? with
    | none => rw [hq] at hj; cases hj
    | some q => rw [hq] at hj; obtain ⟨b', o0⟩ := q; cases hj; exact ⟨o0, rfl⟩
  refine Goes.call f args (ha := ha) (hw := hw) (hf := hf) fun w hm hn hI => (hr w hm hn hI).mono fun e w' ⟨v, o, Fact, he, hc, hbo, hS, hG⟩ => ⟨v, _, s.mem.set j (b, o), he, ?_, ?_, ?_, hG⟩
  · exact holds_set hm hn hb hbo (fun i hi hne => hc.block i hi (by simpa using hne))
  · rw [ids_set hb]; exact hn
  · rw [ids_set hb]
    exact (hI.ch ⟨hc.os, hc.tape, hc.output, hc.size, fun i hi hx => hc.block i hi (fun hm => hx (by rw [List.mem_singleton] at hm; rw [hm]; exact ids_get hb))⟩ (fun x hx => .inl hx)).and hS
theorem Goes.inv {Inv' : World → Prop} (hI : ∀ w, Inv w → Inv' w) (h : Goes P F Inv' s) : Goes P F Inv s := fun w hm hn hS => h w hm hn (hS.mono hI)
/-- A call that changes the known block j (b) in a way that is known. -/
theorem Goes.call2 (j b : Nat) (f : FuncId) (args : Array Value) (v : Value) (o : Obj)
    (hr : ∀ w, Holds s.mem w → Stay s.mem.ids w Inv → Calls P f args w fun e w' => e = .returned v ∧ Ch [b] w w' ∧ w'.heap[b]? = some o) (h : Goes P F Inv (putM s v j b o)) (ha : ask s = some (f, args) := by kernel_rfl) (hw : wants s = true := by kernel_rfl) (hf : okf P f = true := by kernel_rfl) (hj : (s.mem[j]?).map (·.1) = some b := by kernel_rfl) : Goes P F Inv s :=
  Goes.call1 j b f args (fun w hm _ hI => (hr w hm hI).mono fun _ _ ⟨h1, h2, h3⟩ => ⟨v, o, fun _ => True, h1, h2, h3, fun _ _ => trivial, h.inv fun _ h => h.1⟩) ha hw hf hj
/-- A slot's value is spelt otherwise. -/
theorem Goes.slot (t : Nat) (v : Value) {u : Value} (e : u = v) (h : Goes P F Inv { s with tmps := s.tmps.set t v }) (hu : s.tmps[t]? = some u := by kernel_rfl) : Goes P F Inv s := by
  subst e
  have : { s with tmps := s.tmps.set t u } = s := by rw [set_self hu]
  rw [this] at h
  exact h
/-- The end: what is answered. -/
def atEnd (s : St) : Bool :=
  match s.todo with
  | [] => true
  | .code .ret :: _ => true
  | _ => false
/-- What the function's results are. -/
def ans (P : Program) (fn : Func) (js : List Nat) (s : St) : Option (SR Value) := srun P (results fn s.tmps.toArray) js none s.mem [] false
theorem Goes.ret (js : List Nat) (v : Value) 
 (h : ∀ w, Holds s.mem w → Stay s.mem.ids w Inv → R (.returned v) w) (hE : atEnd s = true := by kernel_rfl) (hv : (ans P fn js s).map (·.val) = some v := by kernel_rfl) (hd : (ans P fn js s).map (·.d) = some false := by kernel_rfl) (hN : (ans P fn js s).map (fun r => r.ob.map (·.1)) = (ans P fn js s).map (fun r => r.ob.map (·.2)) := by kernel_rfl) : Goes P (bodyPost P fn R) Inv s := by
  intro w hm hn hI
  cases hr : ans P fn js s with
  | none => rw [hr] at hv; cases hv
  | some r =>
    rw [hr] at hv hd hN
    simp only [Option.map_some, Option.some.injEq] at hv hd hN
    obtain ⟨w', D⟩ := srun_did P _ _ _ _ _ _ _ w hr (all_of_map hN) hm hn (by simp)
    have hw' := (D.still hd).2.1
    subst hw'
    have hb : ∃ v, (results fn s.act.tmps).run P w' = .ok v w' ∧ R (.returned v) w' := ⟨v, hv ▸ D.run, h w' hm hI⟩
    unfold atEnd at hE
    split at hE
    · rename_i ht; rw [ht]; exact ⟨rfl, hb⟩
    · rename_i ht; rw [ht]; exact wp_ret (qk_ret ⟨rfl, hb⟩)
    · cases hE
/-- Some of the known blocks. -/
def sub (js : List Nat) (m : Mem) : Mem := js.filterMap fun j => m[j]?
theorem sub_holds {js : List Nat} {m : Mem} {w : World} (h : Holds m w) : Holds (sub js m) w := by
  intro i b o hi
  have h1 := List.mem_of_getElem? hi
  unfold sub at h1
  obtain ⟨j, -, hj⟩ := List.mem_filterMap.1 h1
  exact h.at hj
/-- A region that draws its order is opened; js: the blocks that it reads. -/
def opened (js : List Nat) (s : St) : St :=
  match s.todo with
  | .code (.region _ ops true) :: k => { s with todo := .any ops (sub js s.mem) ops.size (Array.replicate ops.size false) :: k }
  | _ => s
theorem Goes.open (js : List Nat) (h : Goes P F Inv (opened js s)) (hm : P.follows .mixedOrders = true := by kernel_rfl) : Goes P F Inv s := by
  unfold opened at h
  split at h
  · rename_i id ops k ht
    intro w h1 h2 h3
    rw [ht]
    exact qk_any hm (sub_holds h1) (h { w with drawn := w.drawn + 1 } h1 h2 (h3.ch ⟨rfl, rfl, rfl, Nat.le_refl _, fun _ _ _ => rfl⟩ (fun x hx => .inl hx)))
  · exact h
/-- The operation i of a region that draws its order. -/
def anyOp (i : Nat) (s : St) : Option Oper :=
  match s.todo with
  | .any ops _ _ _ :: _ => ops[i]?
  | _ => none
/-- It may be taken first. -/
def anyFirst (i : Nat) (s : St) : Bool :=
  match s.todo with
  | .any ops _ (_ + 1) l :: _ => Region.noSelect ops && Region.free .any ops l i && (Region.ready .any ops l).contains i && (match ops[i]? with | some o => Region.wanted o (yielded ops s.tmps.toArray) | none => false)
  | _ => false
/-- It alone may come up. -/
def anyLone (i : Nat) (s : St) : Bool :=
  match s.todo with
  | .any ops _ (_ + 1) l :: _ => Region.ready .any ops l == [i] && (match ops[i]? with | some o => Region.wanted o (yielded ops s.tmps.toArray) | none => false)
  | _ => false
def putA (i : Nat) (s : St) (v : Value) (m : Mem) : St :=
  match s.todo with
  | .any ops m0 (n + 1) l :: k =>
    match ops[i]? with
    | some o => ⟨.any ops m0 n (l.setIfInBounds i true) :: k, putL s.tmps o.dst v, m⟩
    | none => s
  | _ => s
def putA0 (i : Nat) (s : St) (v : Value) : St := putA i s v s.mem
/-- The blocks that it reads. -/
def anyM (s : St) : Mem :=
  match s.todo with
  | .any _ m0 _ _ :: _ => m0
  | _ => []
theorem Goes.valA (i : Nat) (I : Sem Value) (v : Value) (hr : ∀ w, Holds (anyM s) w → I.run P w = .ok v w) (h : Goes P (bodyPost P fn R) Inv (putA0 i s v)) (ho' : (anyOp i s).map (execOp (evalL s.tmps)) = some (vS I) := by kernel_rfl) (hw : anyFirst i s = true := by kernel_rfl) : Goes P (bodyPost P fn R) Inv s := by
  intro w h1 h2 h3
  have h4 := h w
  obtain ⟨o, ho, hoI⟩ : ∃ o, anyOp i s = some o ∧ execOp (evalL s.tmps) o = vS I := by
    cases hq : anyOp i s with
    | none => rw [hq] at ho'; cases ho'
    | some o => rw [hq] at ho'; exact ⟨o, rfl, by simpa using ho'⟩
  unfold anyFirst at hw
  unfold anyOp at ho
  unfold anyM at hr
  unfold putA0 putA at h4
  split at hw
  · rename_i ops m0 n l k ht
    rw [ht] at ho h4 hr ⊢
    simp only at ho h4 hr
    rw [ho] at hw h4
    simp only [Bool.and_eq_true] at hw h4
    intro h0
    refine wpAnyH_take (v := v) ho hw.1.1.1 hw.1.1.2 hw.1.2 ?_ (.inl ⟨hw.2, fun w' hw' => ?_⟩) h0 ?_
    · intro c a w hq
      rw [qk_panic] at hq ⊢
      obtain ⟨T, ds⟩ := a
      cases hd : o.dst with
      | none => rw [hd] at hq; exact hq
      | some d => rw [hd] at hq; exact hq
    · unfold St.act
      rw [evalL_eq, hoI]
      exact vS_run (hr w' hw')
    · unfold St.act
      rw [putL_eq]
      exact h4 h1 h2 h3 h0
  · cases hw
/-- The one operation that may come up, over all known blocks. -/
def oneA (P : Program) (i j : Nat) (s : St) : Option (St × List (Nat × Nat)) :=
  match anyOp i s with
  | some o =>
    match srun P (execOp (evalL s.tmps) o) [j] none s.mem [] false with
    | some ⟨.value v, m, on, _⟩ => some (putA i s v m, on)
    | some ⟨.skip, m, on, _⟩ => some (putA i s undef m, on)
    | _ => none
  | none => none
def oneSt (P : Program) (i j : Nat) (s : St) : St :=
  match oneA P i j s with
  | some q => q.1
  | none => s
def askA (i : Nat) (s : St) : Option (FuncId × Array Value) :=
  match anyOp i s with
  | some o =>
    match o.op with
    | .call { callee := .value x, args, .. } =>
      match evalL s.tmps x with
      | .func (.func f) first captured => some (f, first ++ args.map (evalL s.tmps) ++ captured)
      | _ => none
    | _ => none
  | none => none
theorem Goes.callA (i : Nat) (f : FuncId) (args : Array Value) 
 (hr : ∀ ops m0 n l k, s.todo = .any ops m0 n l :: k → ∀ w, Holds s.mem w → s.mem.ids.Nodup → Stay s.mem.ids w Inv → Holds m0 w → Calls P f args w fun e w' => ∃ v Inv' m, e = .returned v ∧ Holds m0 w' ∧ Holds m w' ∧ m.ids.Nodup ∧ Stay m.ids w' Inv' ∧ Goes P F Inv' (putA i s v m)) (ha : askA i s = some (f, args) := by kernel_rfl) (hw : anyLone i s = true := by kernel_rfl) (hf : okf P f = true := by kernel_rfl) : Goes P F Inv s := by
  intro w h1 h2 h3
  unfold anyLone at hw
  unfold askA anyOp at ha
  split at hw
  · rename_i ops m0 n l k ht
    rw [ht] at ha ⊢
    simp only at ha
    cases ho : ops[i]? with
    | none => rw [ho] at ha; cases ha
    | some o =>
      rw [ho] at ha hw
      simp only [Bool.and_eq_true] at ha hw
      intro h0
      refine wpAnyH_all (rs := [i]) (eq_of_beq hw.1) (by simp) fun j hj => ?_
      obtain rfl : j = i := by simpa using hj
      unfold wpOp
      rw [ho]
      simp only [St.act, hw.2, if_true]
      unfold Oper.wp
      rw [evalL_eq]
      have he : (execOp (evalL s.tmps) o).run P w = .ok (.enter f args) w := by
        split at ha
        · rename_i x xs ats hop
          split at ha
          · rename_i g first captured hv
            cases ha
            have e : execOp (evalL s.tmps) o = callFunc f (first ++ xs.map (evalL s.tmps) ++ captured) := by
              unfold execOp; rw [hop]; simp only [resolve, hv]; rfl
            rw [e, okf_run hf]
          · cases ha
        · cases ha
      rw [he, Oper.upon_enter]
      refine .inl ?_
      refine (hr _ _ _ _ _ ht w h1 h2 h3 h0).mono fun e w' ⟨v, Inv', m, he, h4, h5, h6, h7, h8⟩ => ?_
      subst he
      have h9 := h8 w'
      unfold putA at h9
      rw [ht] at h9
      simp only [ho] at h9
      show Holds m0 w' ∧ _
      rw [putL_eq]
      exact ⟨h4, h9 h5 h6 h7 h4⟩
  · cases hw
/-- Its beginning. -/
def st0 (fn : Func) (args : Array Value) (m : Mem) : St := ⟨[.code (fn.body.getD .skip)], (args ++ Array.replicate (fn.ntmps - args.size) undef).toList, m⟩
/-- A function is begun. -/
theorem Goes.enter {f : FuncId} {args : Array Value} {w : World} (hf : P.funcs[f]? = some fn) (m : Mem) (Inv : World → Prop) (hm : Holds m w) (hn : m.ids.Nodup) (hI : Stay m.ids w Inv)
 (h : Goes P (bodyPost P fn R) Inv (st0 fn args m)) (hb : fn.body.isSome = true := by kernel_rfl) : Calls P f args w R := by
  obtain ⟨c, hc⟩ := Option.isSome_iff_exists.1 hb
  refine calls_of_wp hf hc ?_
  have h1 := h w hm hn hI
  unfold st0 at h1
  rw [hc] at h1
  have e : (args ++ Array.replicate (fn.ntmps - args.size) undef).toList.toArray = args ++ Array.replicate (fn.ntmps - args.size) undef := by simp
  unfold St.act at h1
  simp only [e] at h1
  exact h1
/-- A frame: n slots, some of them known. -/
def fr (n : Nat) (S : List (Nat × Value)) (J : Nat → Value) : List Value := (List.range n).map fun i => (S.lookup i).getD (J i)
def jk (s : St) (i : Nat) : Value := s.tmps.getD i undef
/-- A loop: what is known at its head is told by an a of α. -/
theorem Goes.loop {α : Type} (n : Nat) (S : α → List (Nat × Value)) (M : α → Mem) (I : α → World → Prop) (Pr : α → Prop) (μ : α → Nat) (a0 : α) (hP : Pr a0) (hI : ∀ w, Inv w → I a0 w)
    (step : ∀ a J, Pr a → (∀ a' s', Pr a' → μ a' < μ a → s'.todo = s.todo → s'.tmps = fr n (S a') (jk s') → s'.mem = M a' → Goes P F (I a') s') → Goes P F (I a) ⟨s.todo, fr n (S a) J, M a⟩) (hT : s.tmps = fr n (S a0) (jk s) := by kernel_rfl) (hM : s.mem = M a0 := by kernel_rfl) : Goes P F Inv s := by
  have key : ∀ m a J, Pr a → μ a = m → Goes P F (I a) ⟨s.todo, fr n (S a) J, M a⟩ := by
    intro m
    induction m using Nat.strongRecOn with
    | _ m ih =>
      intro a J hp hm
      refine step a J hp fun a' s' hp' hlt h1 h2 h3 => ?_
      have := ih (μ a') (hm ▸ hlt) a' (jk s') hp' rfl
      rw [← h1, ← h2, ← h3] at this
      exact this
  have := key _ a0 (jk s) hP rfl
  rw [← hT, ← hM] at this
  exact this.inv hI
theorem Goes.loop0 {α : Type} (n : Nat) (S : α → List (Nat × Value)) (m : Mem) (Pr : α → Prop) (μ : α → Nat) (a0 : α) (hP : Pr a0)
    (step : ∀ a J, Pr a → (∀ a' s', Pr a' → μ a' < μ a → s'.todo = s.todo → s'.tmps = fr n (S a') (jk s') → s'.mem = m → Goes P F Inv s') → Goes P F Inv ⟨s.todo, fr n (S a) J, m⟩) (hT : s.tmps = fr n (S a0) (jk s) := by kernel_rfl) (hM : s.mem = m := by kernel_rfl) : Goes P F Inv s :=
  Goes.loop n S (fun _ => m) (fun _ => Inv) Pr μ a0 hP (fun _ h => h) step hT hM
/-- The same, where only known blocks are changed, and what lies elsewhere stays. -/
theorem Goes.begin {f : FuncId} {args : Array Value} {w : World} (hf : P.funcs[f]? = some fn) (m : Mem) (Fact : World → Prop) (hm : Holds m w) (hn : m.ids.Nodup) (hI : Stay m.ids w Fact)
 (h : Goes P (bodyPost P fn R) (fun w' => Ch m.ids w w' ∧ Fact w') (st0 fn args m)) (hb : fn.body.isSome = true := by kernel_rfl) : Calls P f args w R :=
  Goes.enter hf m _ hm hn (fun w' hc => ⟨hc, hI w' hc⟩) h hb
theorem below_end {m : Mem} {w w' : World} (hm : Holds m w) (hc : Ch m.ids w w') (h : Holds s.mem w') (e : s.mem.take m.length = m) : Below w.heap.size w w' := by
  refine ⟨hc.os, hc.tape, hc.output, hc.size, fun i hi => ?_⟩
  by_cases hx : i ∈ m.ids
  · obtain ⟨q, hq, rfl⟩ := List.mem_map.1 hx
    obtain ⟨j, hj⟩ := List.getElem?_of_mem hq
    have h1 := hm.at (b := q.1) (o := q.2) hj
    have hjl : j < m.length := (List.getElem?_eq_some_iff.1 hj).1
    have h2 : s.mem[j]? = some (q.1, q.2) := by rw [← hj, ← e, List.getElem?_take_of_lt hjl]
    rw [h.at h2, h1]
  · exact hc.block i hi hx
end
end Go.Proofs.YtddbiiejilcbbaaGreatDoor
namespace Go.Proofs.YtddbiiejilcbbaaGreatDoor
open Go Go.RowKit

section
variable {P : Program} {F : Exit → Act → World → Prop} {Inv : World → Prop} {ops : Array Oper} {m0 : Mem} {n : Nat} {l : Array Bool} {k : List TI} {T : List Value} {m : Mem} {i : Nat} {o : Oper}
/-- What must be shown where the operation i comes up. -/
def Took (P : Program) (F : Exit → Act → World → Prop) (Inv : World → Prop) (ops : Array Oper) (m0 : Mem) (n : Nat) (l : Array Bool) (k : List TI) (T : List Value) (m : Mem) (i : Nat) : Prop :=
  ∀ w, Holds m w → m.ids.Nodup → Stay m.ids w Inv → Holds m0 w → wpOp P ops (QK P F k) i (fun a' w' => Holds m0 w' ∧ wpAnyH P .any ops (QK P F k) (Holds m0) n (l.setIfInBounds i true) a' w') ⟨T.toArray, []⟩ w
/-- What the fact says of things that no world holds. -/
theorem Goes.pure {s : St} {Q : Prop} (hQ : ∀ w, Inv w → Q) (h : Q → Goes P F Inv s) : Goes P F Inv s := fun w h1 h2 h3 => h (hQ w h3.now) w h1 h2 h3
end
end Go.Proofs.YtddbiiejilcbbaaGreatDoor
namespace Go.Proofs.YtddbiiejilcbbaaGreatDoor
open Go Go.RowKit

section
variable {P : Program} {F : Exit → Act → World → Prop} {Inv : World → Prop} {s : St}
/-- What may come up. -/
def anyReady (s : St) : List Nat :=
  match s.todo with
  | .any ops _ (_ + 1) l :: _ => Region.ready .any ops l
  | _ => []
/-- What must be shown where the operation i comes up. -/
def TookS (P : Program) (F : Exit → Act → World → Prop) (Inv : World → Prop) (i : Nat) (s : St) : Prop := ∀ ops m0 n l k, s.todo = .any ops m0 (n + 1) l :: k → Took P F Inv ops m0 n l k s.tmps s.mem i
theorem Goes.each (is : List Nat) (hne : is ≠ []) (h : ∀ i ∈ is, TookS P F Inv i s) (hr : anyReady s = is := by kernel_rfl) : Goes P F Inv s := by
  unfold anyReady at hr
  split at hr
  · rename_i ops m0 n l k ht
    intro w h1 h2 h3
    rw [ht]
    intro h0
    subst hr
    exact wpAnyH_all rfl hne fun i hi => h i hi ops m0 n l k ht w h1 h2 h3 h0
  · exact absurd hr.symm hne
theorem Goes.lone1 (i : Nat) (h : TookS P F Inv i s) (hr : anyReady s = [i] := by kernel_rfl) : Goes P F Inv s := Goes.each [i] (by simp) (fun j hj => by rw [List.mem_singleton] at hj; rw [hj]; exact h) hr
theorem Goes.two (i j : Nat) (h : TookS P F Inv i s) (h' : TookS P F Inv j s) (hr : anyReady s = [i, j] := by kernel_rfl) : Goes P F Inv s := Goes.each [i, j] (by simp) (fun a ha => by
  rcases List.mem_cons.1 ha with e | e
  · rw [e]; exact h
  · rw [List.mem_singleton] at e; rw [e]; exact h') hr
/-- It is wanted. -/
def anyWant (i : Nat) (s : St) : Bool :=
  match s.todo with
  | .any ops _ _ _ :: _ => (match ops[i]? with | some o => Region.wanted o (yielded ops s.tmps.toArray) | none => false)
  | _ => false
theorem holds_none {m0 : Mem} (h : m0 = []) (w : World) : Holds m0 w := by subst h; intro j b o hj; simp at hj
/-- It runs over the known blocks. -/
theorem TookS.run (i j : Nat) (h : Goes P F Inv (oneSt P i j s)) (h0 : anyM s = [] := by kernel_rfl) (hw : anyWant i s = true := by kernel_rfl) (hN : ((oneA P i j s).map fun q => q.2.map (·.1)) = (oneA P i j s).map fun q => q.2.map (·.2) := by kernel_rfl) (hk : (oneA P i j s).isSome = true := by kernel_rfl) : TookS P F Inv i s := by
  intro ops m0 n l k ht w h1 h2 h3 _
  unfold oneSt at h
  cases hq : Go.Proofs.YtddbiiejilcbbaaGreatDoor.oneA P i j s with
  | none => rw [hq] at hk; cases hk
  | some q =>
    rw [hq] at h hN
    simp only [Option.map_some, Option.some.injEq] at h hN
    obtain ⟨st, on⟩ := q
    unfold Go.Proofs.YtddbiiejilcbbaaGreatDoor.oneA at hq
    unfold anyWant at hw
    unfold anyM at h0
    rw [ht] at hw h0
    simp only at hw h0
    cases ho : ops[i]? with
    | none => rw [ho] at hw; simp at hw
    | some o =>
      have hoo : anyOp i s = some o := by unfold anyOp; rw [ht]; exact ho
      rw [ho] at hw
      simp only at hw
      rw [hoo] at hq
      simp only at hq
      unfold wpOp
      rw [ho]
      simp only [hw, if_true]
      unfold Oper.wp
      rw [evalL_eq]
      split at hq
      · rename_i v m on' d hs
        cases hq
        obtain ⟨w', D⟩ := srun_did P _ _ _ _ _ _ _ w hs (all_of_map hN) h1 h2 (by simp)
        have h9 := h w'
        unfold putA at h9
        rw [ht] at h9
        simp only [ho] at h9
        rw [D.run, Oper.upon_value, putL_eq]
        exact .inl ⟨holds_none h0 w', h9 D.holds D.nd (h3.ch D.ch D.new) (holds_none h0 w')⟩
      · rename_i m on' d hs
        cases hq
        obtain ⟨w', D⟩ := srun_did P _ _ _ _ _ _ _ w hs (all_of_map hN) h1 h2 (by simp)
        have h9 := h w'
        unfold putA at h9
        rw [ht] at h9
        simp only [ho] at h9
        rw [D.run, Oper.upon_skip, putL_eq]
        exact .inl ⟨holds_none h0 w', h9 D.holds D.nd (h3.ch D.ch D.new) (holds_none h0 w')⟩
      · cases hq
/-- It changes the world in a way that is known otherwise. -/
theorem TookS.eff (i : Nat) (I : Sem Value) (hr : ∀ w, Holds s.mem w → s.mem.ids.Nodup → Stay s.mem.ids w Inv → ∃ v w' Inv' m, I.run P w = .ok v w' ∧ Holds m w' ∧ m.ids.Nodup ∧ Stay m.ids w' Inv' ∧ Goes P F Inv' (putA i s v m)) (h0 : anyM s = [] := by kernel_rfl) (hw : anyWant i s = true := by kernel_rfl) (ho' : (anyOp i s).map (execOp (evalL s.tmps)) = some (vS I) := by kernel_rfl) : TookS P F Inv i s := by
  intro ops m0 n l k ht w h1 h2 h3 _
  unfold anyWant at hw
  unfold anyM at h0
  unfold anyOp at ho'
  rw [ht] at hw h0 ho'
  simp only at hw h0 ho'
  cases ho : ops[i]? with
  | none => rw [ho] at hw; simp at hw
  | some o =>
    rw [ho] at hw ho'
    simp only [Option.map_some, Option.some.injEq] at hw ho'
    obtain ⟨v, w', Inv', m, he, h4, h5, h6, h7⟩ := hr w h1 h2 h3
    have h9 := h7 w'
    unfold putA at h9
    rw [ht] at h9
    simp only [ho] at h9
    unfold wpOp
    rw [ho]
    simp only [hw, if_true]
    unfold Oper.wp
    rw [evalL_eq, ho', vS_run he, Oper.upon_value, putL_eq]
    exact .inl ⟨holds_none h0 w', h9 h4 h5 h6 (holds_none h0 w')⟩
/-- It is a call. -/
theorem TookS.call (i : Nat) (f : FuncId) (args : Array Value) (hr : ∀ w, Holds s.mem w → s.mem.ids.Nodup → Stay s.mem.ids w Inv → Calls P f args w fun e w' => ∃ v Inv' m, e = .returned v ∧ Holds m w' ∧ m.ids.Nodup ∧ Stay m.ids w' Inv' ∧ Goes P F Inv' (putA i s v m)) (h0 : anyM s = [] := by kernel_rfl) (hw : anyWant i s = true := by kernel_rfl) (ha : askA i s = some (f, args) := by kernel_rfl) (hf : okf P f = true := by kernel_rfl) : TookS P F Inv i s := by
  intro ops m0 n l k ht w h1 h2 h3 _
  unfold anyWant at hw
  unfold anyM at h0
  unfold askA anyOp at ha
  rw [ht] at hw h0 ha
  simp only at hw h0 ha
  cases ho : ops[i]? with
  | none => rw [ho] at hw; simp at hw
  | some o =>
    rw [ho] at hw ha
    simp only at hw ha
    unfold wpOp
    rw [ho]
    simp only [hw, if_true]
    unfold Oper.wp
    rw [evalL_eq]
    have he : (execOp (evalL s.tmps) o).run P w = .ok (.enter f args) w := by
      split at ha
      · rename_i x xs ats hop
        split at ha
        · rename_i g first captured hv
          cases ha
          have e : execOp (evalL s.tmps) o = callFunc f (first ++ xs.map (evalL s.tmps) ++ captured) := by
            unfold execOp; rw [hop]; simp only [resolve, hv]; rfl
          rw [e, okf_run hf]
        · cases ha
      · cases ha
    rw [he, Oper.upon_enter]
    refine .inl ?_
    refine (hr w h1 h2 h3).mono fun e w' ⟨v, Inv', m, he, h5, h6, h7, h8⟩ => ?_
    subst he
    have h9 := h8 w'
    unfold putA at h9
    rw [ht] at h9
    simp only [ho] at h9
    show Holds m0 w' ∧ _
    rw [putL_eq]
    exact ⟨holds_none h0 w', h9 h5 h6 h7 (holds_none h0 w')⟩
end
end Go.Proofs.YtddbiiejilcbbaaGreatDoor
namespace Go.Proofs.YtddbiiejilcbbaaGreatDoor
open Go Go.RowKit

section
variable {P : Program} {F : Exit → Act → World → Prop} {Inv : World → Prop} {s : St} {fn : Func} {R : Ending → World → Prop}
/-- Is it the operation whose answer is kept in the slot d? -/
def stopAt (d : Nat) (x : X) : Bool :=
  match nextOp x.st with
  | some (_, o, _, _, _) => o.dst == some d
  | none => false
def exS (P : Program) (d : Nat) : Nat → X → List Nat → X
  | 0, x, _ => x
  | n + 1, x, gs =>
    bif stopAt d x then x else
    match mkG P x gs with
    | some (y, gs') => exS P d n y gs'
    | none =>
      match step P x with
      | some y => exS P d n y gs
      | none => x
variable {d : Nat}
theorem exS_goes (hF : ∀ c T T' ds w, F (.panic c) ⟨T, ds⟩ w → F (.panic c) ⟨T', ds⟩ w) : ∀ (n m : Nat) {x : X}, (∀ gs : List Nat, gs.length = m → Ok (exS P d n x gs) ∧ Goes P F Inv (exS P d n x gs).st) → Ok x ∧ Goes P F Inv x.st
  | 0, m, x, h => h (List.replicate m 0) (by simp)
  | n + 1, m, x, h => by
    cases hst0 : stopAt d x with
    | true =>
      have h1 := h (List.replicate m 0) (by simp)
      unfold exS at h1
      rw [hst0] at h1
      exact h1
    | false =>
    have e : ∀ gs, exS P d (n + 1) x gs = match mkG P x gs with | some (y, gs') => exS P d n y gs' | none => (match step P x with | some y => exS P d n y gs | none => x) := by
      intro gs
      conv => lhs; unfold exS; rw [hst0]
      rfl
    simp only [e] at h
    have plain : (∀ gs : List Nat, gs.length = m → mkG P x gs = none) → Ok x ∧ Goes P F Inv x.st := by
      intro hno
      cases hs : step P x with
      | none => have := h (List.replicate m 0) (by simp); rw [hno _ (by simp), hs] at this; exact this
      | some y =>
        have h1 : Ok y ∧ Goes P F Inv y.st := exS_goes hF n m (fun gs hl => by have := h gs hl; rw [hno gs hl, hs] at this; exact this)
        exact step_goes hF hs h1.1 h1.2
    cases m with
    | zero => exact plain (fun gs hl => by cases gs with | nil => rfl | cons => cases hl)
    | succ m =>
      cases hno : nextOp x.st with
      | none => exact plain (fun gs hl => by cases gs with | nil => rfl | cons => unfold mkG; rw [hno])
      | some q =>
        obtain ⟨ops, o, rest, res, k⟩ := q
        cases hc : (cls o.op == 2 && wants x.st) with
        | false => exact plain (fun gs hl => by cases gs with | nil => rfl | cons => unfold mkG; rw [hno]; simp only [hc])
        | true =>
          have hc' := hc
          rw [Bool.and_eq_true] at hc'
          have hst := step_two (P := P) hno (eq_of_beq hc'.1) hc'.2
          have key : ∀ g, (doOp P o 0 (some g) x (.reg ops rest res :: k) = none → Ok x ∧ Goes P F Inv x.st) ∧ ∀ y, doOp P o 0 (some g) x (.reg ops rest res :: k) = some y → Ok y ∧ Goes P F Inv y.st := by
            intro g
            refine ⟨fun hd => ?_, fun y hd => ?_⟩
            · have := h (g :: List.replicate m 0) (by simp)
              rw [show mkG P x (g :: List.replicate m 0) = none by unfold mkG; rw [hno]; simp only [hc, hd], hst] at this
              exact this
            · refine exS_goes hF n m (fun gs hl => ?_)
              have := h (g :: gs) (by simp [hl])
              rw [show mkG P x (g :: gs) = some (y, gs) by unfold mkG; rw [hno]; simp only [hc, hd]] at this
              exact this
          refine ⟨?_, fun w hm hn hI => ?_⟩
          · cases hd : doOp P o 0 (some 0) x (.reg ops rest res :: k) with
            | none => exact ((key 0).1 hd).1
            | some y =>
              have h1 := doOp_on hd
              have h2 := ((key 0).2 y hd).1
              exact ⟨h1.2.2 h2.1, h1.2.1 ▸ h2.2⟩
          · cases hd : doOp P o 0 (some w.heap.size) x (.reg ops rest res :: k) with
            | none => exact ((key _).1 hd).2 w hm hn hI
            | some y =>
              have h2 := (key _).2 y hd
              exact doOp_goes (nextOp_todo hno) hd (wants_ok hno hc'.2) h2.1 h2.2 hm hn hI (by simp)
def rnS (P : Program) (d : Nat) (hs gs : List Nat) (s : St) : X := exS P d 2000 ⟨s, hs, [], []⟩ gs
theorem rnS_goes {hs : List Nat} {m : Nat} (h : ∀ gs : List Nat, gs.length = m → Ok (rnS P d hs gs s) ∧ Goes P (bodyPost P fn R) Inv (rnS P d hs gs s).st) : Goes P (bodyPost P fn R) Inv s := (exS_goes bp_panic 2000 m h).2
/-- A run up to the operation whose answer is kept in the slot d. -/
theorem Goes.upto (d : Nat) (hs : List Nat) (E : List (Bool × Bool)) (hB : AllB E) (h : Goes P (bodyPost P fn R) Inv (rnS P d hs [] s).st) (hE : (rnS P d hs [] s).ob = E := by kernel_rfl) (hN : (rnS P d hs [] s).on.map (·.1) = (rnS P d hs [] s).on.map (·.2) := by kernel_rfl) : Goes P (bodyPost P fn R) Inv s :=
  rnS_goes (m := 0) fun gs hl => by
    obtain rfl : gs = [] := List.eq_nil_of_length_eq_zero hl
    exact ⟨⟨all_of_map hN, hE ▸ hB.all⟩, h⟩
theorem Goes.upto1 (d : Nat) (hs : List Nat) (E : List (Bool × Bool)) (hB : AllB E) (h : ∀ g, Goes P (bodyPost P fn R) Inv (rnS P d hs [g] s).st) (hE : ∀ g, (rnS P d hs [g] s).ob = E := by intros; kernel_rfl) (hN : ∀ g, (rnS P d hs [g] s).on.map (·.1) = (rnS P d hs [g] s).on.map (·.2) := by intros; kernel_rfl) : Goes P (bodyPost P fn R) Inv s :=
  rnS_goes (m := 1) fun gs hl => by
    obtain ⟨g, rfl⟩ := List.length_eq_one_iff.1 hl
    exact ⟨⟨all_of_map (hN g), hE g ▸ hB.all⟩, h g⟩
end
end Go.Proofs.YtddbiiejilcbbaaGreatDoor
namespace Go.Proofs.YtddbiiejilcbbaaGreatDoor
open Go Go.RowKit

section
variable {P : Program} {Inv : World → Prop} {s : St} {fn : Func} {R : Ending → World → Prop}
end
/-- A place that is reached. -/
theorem Goes.at {P : Program} {F : Exit → Act → World → Prop} {Inv : World → Prop} {s : St} {K : List TI} {n : Nat} {S : List (Nat × Value)} {m : Mem} (h : ∀ J, Goes P F Inv ⟨K, fr n S J, m⟩) (h1 : s.todo = K := by kernel_rfl) (h2 : s.tmps = fr n S (jk s) := by kernel_rfl) (h3 : s.mem = m := by kernel_rfl) : Goes P F Inv s := by
  have := h (jk s)
  rw [← h1, ← h2, ← h3] at this
  exact this
end Go.Proofs.YtddbiiejilcbbaaGreatDoor
namespace Go.Proofs.YtddbiiejilcbbaaGreatDoor
open Go Go.RowKit

section
variable {P : Program} {F : Exit → Act → World → Prop} {Inv : World → Prop} {s : St}
def skS (I : Sem Unit) : Sem Next := do I; pure .skip
theorem skS_run {I : Sem Unit} {w w' : World} (h : I.run P w = .ok () w') : (skS I).run P w = .ok .skip w' := by
  unfold skS
  simp only [Sem.run_bind, h, Result.andThen_ok, Sem.run_pure]
/-- A store that is known otherwise. -/
theorem Goes.sto (I : Sem Unit)
 (hr : ∀ w, Holds s.mem w → s.mem.ids.Nodup → Stay s.mem.ids w Inv → ∃ w' Inv' m, I.run P w = .ok () w' ∧ Holds m w' ∧ m.ids.Nodup ∧ Stay m.ids w' Inv' ∧ Goes P F Inv' (put s undef m)) (ho : (nextOp s).map (fun q => execOp (evalL s.tmps) q.2.1) = some (skS I) := by kernel_rfl) (hw : wants s = true := by kernel_rfl) : Goes P F Inv s := by
  intro w hm hn hI
  cases hno : nextOp s with
  | none => rw [hno] at ho; cases ho
  | some q =>
    obtain ⟨ops, o', rest, res, k⟩ := q
    rw [hno] at ho
    have ho : execOp (evalL s.tmps) o' = skS I := by simpa using ho
    rw [nextOp_todo hno]
    show wpList P ops (QK P F k) (o' :: rest) ⟨s.tmps.toArray, []⟩ w
    refine wpList_step fun K hK => ?_
    rw [if_pos (wants_ok hno hw)]
    unfold Oper.wp
    obtain ⟨w', Inv', m, he, h1, h2, h3, h4⟩ := hr w hm hn hI
    have h5 := h4 w'
    unfold put at h5
    rw [hno] at h5
    rw [evalL_eq, ho, skS_run he, Oper.upon_skip]
    refine hK _ _ ?_
    rw [putL_eq]
    exact h5 h1 h2 h3
/-- What lies in the known blocks is spelt otherwise. -/
theorem Goes.objs (m : Mem) (h : ∀ w, Holds s.mem w → Holds m w) (G : Goes P F Inv ⟨s.todo, s.tmps, m⟩) (hi : s.mem.ids = m.ids := by kernel_rfl) : Goes P F Inv s := fun w hm hn hI => G w (h w hm) (hi ▸ hn) (hi ▸ hI)
end
end Go.Proofs.YtddbiiejilcbbaaGreatDoor
namespace Go.Proofs.YtddbiiejilcbbaaGreatDoor
open Go Go.RowKit

section
variable {P : Program} {F : Exit → Act → World → Prop} {Inv : World → Prop} {s : St}
def newO (P : Program) (i g : Nat) (s : St) : Option St :=
  match anyOp i s with
  | some o =>
    match srun P (execOp (evalL s.tmps) o) [0] (some g) s.mem [] false with
    | some ⟨.value v, m, [], _⟩ => some (putA i s v m)
    | _ => none
  | none => none
def newOS (P : Program) (i g : Nat) (s : St) : St := (newO P i g s).getD s
end
end Go.Proofs.YtddbiiejilcbbaaGreatDoor
namespace Go.Proofs.YtddbiiejilcbbaaGreatDoor
open Go Go.RowKit

section
variable {P : Program} {F : Exit → Act → World → Prop} {Inv : World → Prop} {s : St}
theorem Ch.mono {L L' : List Nat} {w w' : World} (h : Ch L w w') (hL : ∀ x ∈ L, x ∈ L') : Ch L' w w' := ⟨h.os, h.tape, h.output, h.size, fun i hi hx => h.block i hi (fun hm => hx (hL i hm))⟩
theorem Stay.less {L L' : List Nat} {w : World} {Q : World → Prop} (h : Stay L w Q) (hL : ∀ x ∈ L', x ∈ L) : Stay L' w Q := fun w' hc => h w' (hc.mono hL)
/-- Only the first n blocks are known any more. -/
def keep (n : Nat) (s : St) : St := ⟨s.todo, s.tmps, s.mem.take n⟩
theorem Goes.keep (n : Nat) (h : Goes P F Inv (keep n s)) : Goes P F Inv s := by
  intro w hm hn hI
  have hsub : ∀ x ∈ Mem.ids (s.mem.take n), x ∈ s.mem.ids := by
    intro x hx
    unfold Mem.ids at hx ⊢
    rw [List.map_take] at hx
    exact List.mem_of_mem_take hx
  refine h w (fun j b o hj => ?_) ?_ (hI.less hsub)
  · have hl : j < n := by
      rcases Nat.lt_or_ge j n with h1 | h1
      · exact h1
      · have hj' : (s.mem.take n)[j]? = some (b, o) := hj
        rw [List.getElem?_take_eq_none h1] at hj'
        cases hj'
    exact hm j b o (by rw [← List.getElem?_take_of_lt hl]; exact hj)
  · have : (Mem.ids (s.mem.take n)).Sublist s.mem.ids := by
      unfold Mem.ids
      rw [List.map_take]
      exact List.take_sublist _ _
    exact hn.sublist this
/-- What append asks of a type: its element's size and bytes. -/
def elOk (P : Program) (t e : TypeId) (size bytes : Nat) : Bool :=
  (match P.underlying t with | some (.slice e') => e' == e | _ => false) && (match P.info? e with | some i => i.size == size && i.bytes == bytes && (match i.zero with | some z => z.cells.size == size | none => false) | none => false) && decide (0 < size)
/-- What an append of the known block j does. -/
theorem append_core {base : Nat} {t e ty : TypeId} {size bytes : Nat} {v : Value} {n : Nat} {xs : List Value} {j bj m c : Nat} {news : List Value} {et : TypeId} {z : Nat × Nat} {w : World} (hm : Holds s.mem w)
    (hown : w.ownsRow base e size v n xs) (hbase : base ≤ w.heap.size) (hl : news.length = m * size) (h1 : ∀ u ∈ news, u.oneCell' = true) (hm0 : 0 < m) (h63 : n + m ≤ maxLen) (hbytes : (n + m) * bytes ≤ 140737488355328)
    (hj : s.mem[j]? = some (bj, .cells news.toArray et z)) (hel : elOk P t e size bytes = true) : ∃ a c' w', (Builtin.append_ #[t, t] ty #[v, .slice (some ⟨bj, 0, none⟩) m c]).run P w = .ok (.slice a (n + m) c') w' ∧ w'.ownsRow base e size (.slice a (n + m) c') (n + m) (xs ++ news) ∧ w.grownBy w' v.ownBlock ∧ ((Value.slice a (n + m) c').ownBlock = v.ownBlock ∨ (Value.slice a (n + m) c').ownBlock = some w.heap.size) := by
  unfold elOk at hel
  simp only [Bool.and_eq_true, decide_eq_true_eq] at hel
  obtain ⟨⟨hu, hi⟩, hsz⟩ := hel
  cases hu1 : P.underlying t with
  | none => rw [hu1] at hu; cases hu
  | some d =>
    rw [hu1] at hu
    obtain rfl : d = .slice e := by
      cases d <;> simp at hu
      rw [hu]
    cases hi1 : P.info? e with
    | none => rw [hi1] at hi; cases hi
    | some i =>
      rw [hi1] at hi
      simp only [Bool.and_eq_true, beq_iff_eq] at hi
      cases hz1 : i.zero with
      | none => rw [hz1] at hi; simp at hi
      | some z0 =>
        rw [hz1] at hi
        have hblk := hm.at hj
        obtain ⟨v', w', hrun, hown', hgr, -, hob⟩ := run_append_own_at (P := P) (w := w) base t ty e i z0 size bytes hu1 hi1 hz1 hi.1.1 hi.1.2 (eq_of_beq hi.2) hsz v n xs hown ⟨bj, 0, none⟩ m c news hl (fun k u hu => by
          have e1 : (⟨bj, 0, none⟩ : Addr).add k = ⟨bj, k, none⟩ := by unfold Addr.add; split <;> simp_all
          rw [e1]
          unfold World.cell?
          rw [hblk]
          simpa using hu) h1 h63 hbytes hbase
        obtain ⟨a, c', rfl⟩ : ∃ a c', v' = .slice a (n + m) c' := by
          rcases hown'.2 with ⟨-, h0⟩ | ⟨g, cap, cur, e, -⟩
          · omega
          · exact ⟨_, _, e⟩
        exact ⟨a, c', w', hrun, hown', hgr, hob⟩
end
end Go.Proofs.YtddbiiejilcbbaaGreatDoor
