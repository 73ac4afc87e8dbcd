/- texts put together: EBase ERun ELaw EAny EAny2 EStop EFork ESto ENew ERow EIn EKid EAnyM CTree CSz CWalk CKids COwn COwn2 CRefA CRefF CRefK CRev CFit CRefT CPure CRefN NEq CTerms ERange CIsOf CType CAsk CAsk2 -/
import Derived.OrdersHeld
import Derived.Below
import Derived.Test.YtddbiiejilcbbaaGreatDoorChecked
import Derived.Maps.AppendAt
import Derived.RangeFuncIn
import Derived.RangeFuncLeaves
import Derived.RangeFuncRecord
import Derived.RangeFuncSeq
import Derived.Test.YtddbiiejilcbbaaGreatDoorAG0
import Derived.Test.YtddbiiejilcbbaaGreatDoorShelf
import Derived.Laws.StructEq
import Derived.RangeFuncKeeps
namespace Go.Proofs.YtddbiiejilcbbaaGreatDoor
open Go

/-- Blocks that are known: which, and what lies there. -/
abbrev Mem := List (Nat × Obj)
def Mem.ids (m : Mem) : List Nat := m.map (·.1)
def Holds (m : Mem) (w : World) : Prop := ∀ (j b : Nat) (o : Obj), m[j]? = some (b, o) → w.heap[b]? = some o
/-- What was done: only known blocks were changed, and new ones made. -/
structure Ch (L : List Nat) (w w' : World) : Prop where
  os : w'.os = w.os
  tape : w'.tape = w.tape
  output : w'.output = w.output
  size : w.heap.size ≤ w'.heap.size
  block : ∀ i, i < w.heap.size → i ∉ L → w'.heap[i]? = w.heap[i]?
theorem Ch.refl (L : List Nat) (w : World) : Ch L w w := ⟨rfl, rfl, rfl, Nat.le_refl _, fun _ _ _ => rfl⟩
theorem Ch.trans {L L' : List Nat} {w a b : World} (h : Ch L w a) (k : Ch L' a b) (hL : ∀ x ∈ L', x ∈ L ∨ w.heap.size ≤ x) : Ch L w b :=
  ⟨k.os.trans h.os, k.tape.trans h.tape, k.output.trans h.output, Nat.le_trans h.size k.size, fun i hi hX => (k.block i (Nat.lt_of_lt_of_le hi h.size) (fun hm => by rcases hL i hm with h | h; exact hX h; omega)).trans (h.block i hi hX)⟩
/-- P holds, and goes on to hold, whatever becomes of the blocks of L. -/
def Stay (L : List Nat) (w : World) (P : World → Prop) : Prop := ∀ w' : World, Ch L w w' → P w'
theorem Stay.now {L : List Nat} {w : World} {P : World → Prop} (h : Stay L w P) : P w := h w (Ch.refl _ _)
theorem Stay.ch {L L' : List Nat} {w w' : World} {P : World → Prop} (h : Stay L w P) (hc : Ch L w w') (hL : ∀ x ∈ L', x ∈ L ∨ w.heap.size ≤ x) : Stay L' w' P :=
  fun w2 h2 => h w2 (hc.trans h2 hL)
theorem Stay.mono {L : List Nat} {w : World} {P P' : World → Prop} (h : Stay L w P) (hP : ∀ w', P w' → P' w') : Stay L w P' := fun w2 h2 => hP _ (h w2 h2)
theorem Stay.and {L : List Nat} {w : World} {P P' : World → Prop} (h : Stay L w P) (h' : Stay L w P') : Stay L w (fun w => P w ∧ P' w) := fun w2 h2 => ⟨h w2 h2, h' w2 h2⟩

def popJ : List Nat → List Nat
  | [j] => [j]
  | _ :: r => r
  | [] => []
/-- What an operation does over known blocks. js: which block is met; g: the name of what is made; ob: which blocks must be the same; d: was anything changed? -/
structure SR (α : Type) where
  val : α
  mem : Mem
  ob : List (Nat × Nat)
  d : Bool
def oneC : Value → Bool
  | .agg _ => false
  | .tuple _ => false
  | _ => true
def isCells : Obj → Bool
  | .cells .. => true
  | _ => false
def srun {α : Type} (P : Program) : Sem α → List Nat → Option Nat → Mem → List (Nat × Nat) → Bool → Option (SR α)
  | .pure a, _, _, m, ob, d => some ⟨a, m, ob, d⟩
  | .load _ a k, js, g, m, ob, d =>
    match m[js.headD 0]? with
    | some (b, .cells c _ _) =>
      match a.spot, c[a.off]? with
      | none, some v => srun P (k v) (popJ js) g m ((a.block, b) :: ob) d
      | _, _ => none
    | _ => none
  | .store _ a v k, js, g, m, ob, _ =>
    match oneC v, m[js.headD 0]? with
    | true, some (b, .cells c t (0, 0)) =>
      match a.spot, c[a.off]? with
      | none, some _ => srun P k (popJ js) g (m.set (js.headD 0) (b, .cells (c.setIfInBounds a.off v) t (0, 0))) ((a.block, b) :: ob) true
      | _, _ => none
    | _, _ => none
  | .new o k, js, g, m, ob, _ =>
    match g with
    | some g => srun P (k g) js none (m ++ [(g, o)]) ob true
    | none => none
  | .shape r k, js, g, m, ob, d =>
    match m[js.headD 0]? with
    | some (b, .cells c t _) => srun P (k (some (t, c.size))) (popJ js) g m ((r, b) :: ob) d
    | _ => none
  | .getObj r k, js, g, m, ob, d =>
    match m[js.headD 0]? with
    | some (b, o) =>
      match isCells o with
      | false => srun P (k o) (popJ js) g m ((r, b) :: ob) d
      | true => none
    | none => none
  | .setObj r o k, js, g, m, ob, _ =>
    match m[js.headD 0]? with
    | some (b, o0) =>
      match isCells o0 with
      | false => srun P k (popJ js) g (m.set (js.headD 0) (b, o)) ((r, b) :: ob) true
      | true => none
    | none => none
  | .program k, js, g, m, ob, d => srun P (k P) js g m ob d
  | .mark _ k, js, g, m, ob, d => srun P k js g m ob d
  | _, _, _, _, _, _ => none

theorem lt_of_get {w : World} {k : Nat} {o : Obj} (h : w.heap[k]? = some o) : k < w.heap.size := (Array.getElem?_eq_some_iff.1 h).1
/-- What is meant by it. -/
structure Did {α : Type} (P : Program) (s : Sem α) (m : Mem) (w : World) (r : SR α) (d : Bool) (w' : World) : Prop where
  run : s.run P w = .ok r.val w'
  holds : Holds r.mem w'
  nd : r.mem.ids.Nodup
  ch : Ch m.ids w w'
  new : ∀ x ∈ r.mem.ids, x ∈ m.ids ∨ w.heap.size ≤ x
  still : r.d = false → d = false ∧ w' = w ∧ r.mem = m
theorem srun_ob {α : Type} (P : Program) (s : Sem α) : ∀ (js : List Nat) (g : Option Nat) (m : Mem) (ob : List (Nat × Nat)) (d : Bool) (r : SR α), srun P s js g m ob d = some r → (∀ p ∈ r.ob, p.1 = p.2) → ∀ p ∈ ob, p.1 = p.2 := by
  induction s with
  | pure a => intro js g m ob d r h hr; simp only [srun, Option.some.injEq] at h; subst h; exact hr
  | load md a k ih =>
    intro js g m ob d r h hr
    unfold srun at h
    split at h
    · split at h
      · exact fun p hp => ih _ _ _ _ _ _ _ h hr p (List.mem_cons_of_mem _ hp)
      · cases h
    · cases h
  | store md a v k ih =>
    intro js g m ob d r h hr
    unfold srun at h
    split at h
    · split at h
      · exact fun p hp => ih _ _ _ _ _ _ h hr p (List.mem_cons_of_mem _ hp)
      · cases h
    · cases h
  | new o k ih =>
    intro js g m ob d r h hr
    cases g with
    | none => unfold srun at h; cases h
    | some g => unfold srun at h; exact ih _ _ _ _ _ _ _ h hr
  | shape x k ih =>
    intro js g m ob d r h hr
    unfold srun at h
    split at h
    · exact fun p hp => ih _ _ _ _ _ _ _ h hr p (List.mem_cons_of_mem _ hp)
    · cases h
  | getObj x k ih =>
    intro js g m ob d r h hr
    unfold srun at h
    split at h
    · split at h
      · exact fun p hp => ih _ _ _ _ _ _ _ h hr p (List.mem_cons_of_mem _ hp)
      · cases h
    · cases h
  | setObj x o k ih =>
    intro js g m ob d r h hr
    unfold srun at h
    split at h
    · split at h
      · exact fun p hp => ih _ _ _ _ _ _ h hr p (List.mem_cons_of_mem _ hp)
      · cases h
    · cases h
  | program k ih => intro js g m ob d r h hr; unfold srun at h; exact ih _ _ _ _ _ _ _ h hr
  | mark x k ih => intro js g m ob d r h hr; unfold srun at h; exact ih _ _ _ _ _ _ h hr
  | _ => intro js g m ob d r h; unfold srun at h; cases h
theorem Holds.at {m : Mem} {w : World} (h : Holds m w) {j b : Nat} {o : Obj} (hj : m[j]? = some (b, o)) : w.heap[b]? = some o := h j b o hj
theorem ids_get {m : Mem} {j b : Nat} {o : Obj} (hj : m[j]? = some (b, o)) : b ∈ m.ids := by
  have := List.mem_of_getElem? hj
  exact List.mem_map_of_mem (f := (·.1)) this
theorem holds_set {m : Mem} {w w' : World} (h : Holds m w) (hn : m.ids.Nodup) {j b : Nat} {o o' : Obj} (hj : m[j]? = some (b, o)) (hb : w'.heap[b]? = some o') (hw : ∀ i, i < w.heap.size → i ≠ b → w'.heap[i]? = w.heap[i]?) : Holds (m.set j (b, o')) w' := by
  intro i c q hi
  rw [List.getElem?_set] at hi
  by_cases hji : j = i
  · subst hji
    rw [if_pos rfl] at hi
    split at hi
    · cases hi; exact hb
    · cases hi
  · rw [if_neg hji] at hi
    have hne : c ≠ b := by
      intro e
      subst e
      have h1 : m.ids[j]? = some c := by unfold Mem.ids; rw [List.getElem?_map, hj]; rfl
      have h2 : m.ids[i]? = some c := by unfold Mem.ids; rw [List.getElem?_map, hi]; rfl
      obtain ⟨l1, -⟩ := List.getElem?_eq_some_iff.1 h1
      exact hji ((List.getElem?_inj l1 hn).1 (h1.trans h2.symm))
    rw [hw c (lt_of_get (h.at hi)) hne]
    exact h.at hi
theorem ids_set {m : Mem} {j b : Nat} {o o' : Obj} (hj : m[j]? = some (b, o)) : Mem.ids (m.set j (b, o')) = m.ids := by
  unfold Mem.ids
  rw [List.map_set]
  apply List.ext_getElem?
  intro i
  rw [List.getElem?_set]
  split
  · rename_i e
    subst e
    obtain ⟨l, e⟩ := List.getElem?_eq_some_iff.1 hj
    rw [if_pos (by simpa using l), List.getElem?_map, hj]
    rfl
  · rfl
theorem srun_did {α : Type} (P : Program) (s : Sem α) : ∀ (js : List Nat) (g : Option Nat) (m : Mem) (ob : List (Nat × Nat)) (d : Bool) (r : SR α) (w : World), srun P s js g m ob d = some r → (∀ p ∈ r.ob, p.1 = p.2) → Holds m w → m.ids.Nodup → (∀ n, g = some n → n = w.heap.size) → ∃ w', Did P s m w r d w' := by
  induction s with
  | pure a =>
    intro js g m ob d r w h hr hm hn hg
    simp only [srun, Option.some.injEq] at h
    subst h
    exact ⟨w, rfl, hm, hn, Ch.refl _ _, fun x hx => .inl hx, fun hd => ⟨hd, rfl, rfl⟩⟩
  | load md a k ih =>
    intro js g m ob d r w h hr hm hn hg
    unfold srun at h
    split at h
    · rename_i b c t z hb
      split at h
      · rename_i v hs hc
        have hob := srun_ob P _ _ _ _ _ _ _ h hr
        have hab : a.block = b := hob (a.block, b) (by simp)
        obtain ⟨w', D⟩ := ih v _ _ _ _ _ _ w h hr hm hn hg
        have hcell : w.cell? a = some v := by
          unfold World.cell?
          rw [hab, hm.at hb]
          simp [hs, hc]
        refine ⟨w', ?_, D.holds, D.nd, D.ch, D.new, D.still⟩
        have := D.run
        unfold Sem.run
        rw [hcell]
        exact this
      · cases h
    · cases h
  | store md a v k ih =>
    intro js g m ob d r w h hr hm hn hg
    unfold srun at h
    split at h
    · rename_i b c t hv hb
      · split at h
        · rename_i u hs hc
          have hob := srun_ob P _ _ _ _ _ _ _ h hr
          have hab : a.block = b := hob (a.block, b) (by simp)
          have hblk := hm.at hb
          have hlt := lt_of_get hblk
          have hset : (w.setCell a v).heap[b]? = some (.cells (c.setIfInBounds a.off v) t (0, 0)) := by
            unfold World.setCell
            simp only [hab]
            rw [Array.getElem?_modify]
            simp [hblk, hs]
          have hoth : ∀ i, i < w.heap.size → i ≠ b → (w.setCell a v).heap[i]? = w.heap[i]? := by
            intro i hi hne
            unfold World.setCell
            simp only [hab]
            rw [Array.getElem?_modify, if_neg (fun e => hne e.symm)]
          have hsz : (w.setCell a v).heap.size = w.heap.size := by unfold World.setCell; simp
          obtain ⟨w', D⟩ := ih _ _ _ _ _ _ (w.setCell a v) h hr (holds_set hm hn hb hset hoth) (by rw [ids_set hb]; exact hn) (fun n e => by rw [hsz]; exact hg n e)
          have hcell : w.cell? a = some u := by
            unfold World.cell?
            rw [hab, hblk]
            simp [hs, hc]
          have hfr : w.frozen? a = false := by
            unfold World.frozen?
            rw [hab, hblk]
            simp
          have hch : Ch m.ids w (w.setCell a v) := ⟨rfl, rfl, rfl, by rw [hsz]; exact Nat.le_refl _, fun i hi hx => hoth i hi (fun e => hx (e ▸ ids_get hb))⟩
          have hids := ids_set (o' := Obj.cells (c.setIfInBounds a.off v) t (0, 0)) hb
          refine ⟨w', ?_, D.holds, D.nd, hch.trans D.ch (fun x hx => .inl (hids ▸ hx)), fun x hx => ?_, fun hd => ?_⟩
          · have := D.run
            cases v <;> first | (cases hv; done) | (unfold Sem.run; rw [hcell]; simp only [hfr]; exact this)
          · rcases D.new x hx with h1 | h1
            · exact .inl (hids ▸ h1)
            · exact .inr (hsz ▸ h1)
          · exact absurd (D.still hd).1 (by simp)
        · cases h
    · cases h
  | new o k ih =>
    intro js g m ob d r w h hr hm hn hg
    cases g with
    | none => unfold srun at h; cases h
    | some g =>
      unfold srun at h
      have hgs := hg g rfl
      subst hgs
      obtain ⟨w', D⟩ := ih _ _ _ _ _ _ _ { w with heap := w.heap.push o } h hr (by
        intro j b q hj
        by_cases hl : j < m.length
        · rw [List.getElem?_append_left hl] at hj
          have h1 := hm.at hj
          show (w.heap.push o)[b]? = some q
          rw [Array.getElem?_push_lt (lt_of_get h1), ← h1, Array.getElem?_eq_getElem (lt_of_get h1)]
        · rw [List.getElem?_append_right (by omega)] at hj
          have : j - m.length = 0 := by
            obtain ⟨l, -⟩ := List.getElem?_eq_some_iff.1 hj
            simpa using l
          rw [this] at hj
          cases hj
          show (w.heap.push o)[w.heap.size]? = some o
          simp) (by
        unfold Mem.ids
        rw [List.map_append, List.nodup_append]
        refine ⟨hn, by simp, ?_⟩
        intro x hx y hy e
        simp only [List.map_cons, List.map_nil, List.mem_singleton] at hy
        subst e
        subst hy
        obtain ⟨p, hp, e⟩ := List.mem_map.1 hx
        obtain ⟨j, hj⟩ := List.getElem?_of_mem hp
        have := lt_of_get (hm.at (b := p.1) (o := p.2) hj)
        omega) (by simp)
      have hch : Ch m.ids w { w with heap := w.heap.push o } := ⟨rfl, rfl, rfl, by simp, fun i hi _ => by
        show (w.heap.push o)[i]? = w.heap[i]?
        rw [Array.getElem?_push_lt hi, Array.getElem?_eq_getElem hi]⟩
      have hids : ∀ x ∈ Mem.ids (m ++ [(w.heap.size, o)]), x ∈ m.ids ∨ w.heap.size ≤ x := by
        intro x hx
        unfold Mem.ids at hx
        rw [List.map_append, List.mem_append] at hx
        rcases hx with h1 | h1
        · exact .inl h1
        · simp at h1; exact .inr (by omega)
      refine ⟨w', ?_, D.holds, D.nd, hch.trans D.ch hids, fun x hx => ?_, fun hd => absurd (D.still hd).1 (by simp)⟩
      · have := D.run
        unfold Sem.run
        exact this
      · rcases D.new x hx with h1 | h1
        · exact hids x h1
        · refine .inr ?_
          have : w.heap.size ≤ (w.heap.push o).size := by simp
          exact Nat.le_trans this h1
  | shape x k ih =>
    intro js g m ob d r w h hr hm hn hg
    unfold srun at h
    split at h
    · rename_i b c t z hb
      have hob := srun_ob P _ _ _ _ _ _ _ h hr
      have hab : x = b := hob (x, b) (by simp)
      obtain ⟨w', D⟩ := ih _ _ _ _ _ _ _ w h hr hm hn hg
      have hsh : w.shape? x = some (t, c.size) := by
        unfold World.shape?
        rw [hab, hm.at hb]
      refine ⟨w', ?_, D.holds, D.nd, D.ch, D.new, D.still⟩
      have := D.run
      unfold Sem.run
      rw [hsh]
      exact this
    · cases h
  | getObj x k ih =>
    intro js g m ob d r w h hr hm hn hg
    unfold srun at h
    split at h
    · rename_i b o hb
      split at h
      · rename_i hc
        have hob := srun_ob P _ _ _ _ _ _ _ h hr
        have hab : x = b := hob (x, b) (by simp)
        obtain ⟨w', D⟩ := ih _ _ _ _ _ _ _ w h hr hm hn hg
        refine ⟨w', ?_, D.holds, D.nd, D.ch, D.new, D.still⟩
        have := D.run
        unfold Sem.run
        rw [hab, hm.at hb]
        cases o <;> first | (cases hc; done) | exact this
      · cases h
    · cases h
  | setObj x o k ih =>
    intro js g m ob d r w h hr hm hn hg
    unfold srun at h
    split at h
    · rename_i b o0 hb
      split at h
      · rename_i hc
        have hob := srun_ob P _ _ _ _ _ _ _ h hr
        have hab : x = b := hob (x, b) (by simp)
        have hblk := hm.at hb
        have hlt := lt_of_get hblk
        have hset : (w.heap.setIfInBounds b o)[b]? = some o := by rw [Array.getElem?_setIfInBounds_self_of_lt hlt]
        have hoth : ∀ i, i < w.heap.size → i ≠ b → (w.heap.setIfInBounds b o)[i]? = w.heap[i]? := fun i _ hne => Array.getElem?_setIfInBounds_ne (fun e => hne e.symm)
        obtain ⟨w', D⟩ := ih _ _ _ _ _ _ { w with heap := w.heap.setIfInBounds b o } h hr (holds_set hm hn hb hset hoth) (by rw [ids_set hb]; exact hn) (fun n e => by show n = (w.heap.setIfInBounds b o).size; rw [Array.size_setIfInBounds]; exact hg n e)
        have hids := ids_set (o' := o) hb
        have hch : Ch m.ids w { w with heap := w.heap.setIfInBounds b o } := ⟨rfl, rfl, rfl, by show _ ≤ (w.heap.setIfInBounds b o).size; simp, fun i hi hx => hoth i hi (fun e => hx (e ▸ ids_get hb))⟩
        refine ⟨w', ?_, D.holds, D.nd, hch.trans D.ch (fun x hx => .inl (hids ▸ hx)), fun x hx => ?_, fun hd => ?_⟩
        · have := D.run
          unfold Sem.run
          rw [hab, hblk]
          cases o0 <;> first | (cases hc; done) | exact this
        · rcases D.new x hx with h1 | h1
          · exact .inl (hids ▸ h1)
          · refine .inr ?_
            have e : (w.heap.setIfInBounds b o).size = w.heap.size := by simp
            exact e ▸ h1
        · exact absurd (D.still hd).1 (by simp)
      · cases h
    · cases h
  | program k ih =>
    intro js g m ob d r w h hr hm hn hg
    unfold srun at h
    obtain ⟨w', D⟩ := ih _ _ _ _ _ _ _ w h hr hm hn hg
    refine ⟨w', ?_, D.holds, D.nd, D.ch, D.new, D.still⟩
    have := D.run
    unfold Sem.run
    exact this
  | mark x k ih =>
    intro js g m ob d r w h hr hm hn hg
    unfold srun at h
    obtain ⟨w', D⟩ := ih _ _ _ _ _ _ w h hr hm hn hg
    refine ⟨w', ?_, D.holds, D.nd, D.ch, D.new, D.still⟩
    have := D.run
    unfold Sem.run
    exact this
  | _ => intro js g m ob d r w h; unfold srun at h; cases h
/-- What changes nothing. -/
theorem srun_still {α : Type} (P : Program) (s : Sem α) : ∀ (js : List Nat) (m : Mem) (ob : List (Nat × Nat)) (d : Bool) (r : SR α), srun P s js none m ob d = some r → r.d = false → d = false ∧ r.mem = m ∧ ((∀ p ∈ r.ob, p.1 = p.2) → ∀ w, Holds m w → s.run P w = .ok r.val w) := by
  induction s with
  | pure a =>
    intro js m ob d r h hd
    simp only [srun, Option.some.injEq] at h
    subst h
    exact ⟨hd, rfl, fun _ w _ => rfl⟩
  | load md a k ih =>
    intro js m ob d r h hd
    unfold srun at h
    split at h
    · rename_i b c t z hb
      split at h
      · rename_i v hs hc
        obtain ⟨h1, h2, h3⟩ := ih v _ _ _ _ _ h hd
        refine ⟨h1, h2, fun hr w hm => ?_⟩
        have hob := srun_ob P _ _ _ _ _ _ _ h hr
        have hab : a.block = b := hob (a.block, b) (by simp)
        have hcell : w.cell? a = some v := by
          unfold World.cell?
          rw [hab, hm.at hb]
          simp [hs, hc]
        have := h3 hr w hm
        unfold Sem.run
        rw [hcell]
        exact this
      · cases h
    · cases h
  | store md a v k ih =>
    intro js m ob d r h hd
    unfold srun at h
    split at h
    · split at h
      · exact absurd (ih _ _ _ _ _ h hd).1 (by simp)
      · cases h
    · cases h
  | new o k ih => intro js m ob d r h; unfold srun at h; cases h
  | shape x k ih =>
    intro js m ob d r h hd
    unfold srun at h
    split at h
    · rename_i b c t z hb
      obtain ⟨h1, h2, h3⟩ := ih _ _ _ _ _ _ h hd
      refine ⟨h1, h2, fun hr w hm => ?_⟩
      have hob := srun_ob P _ _ _ _ _ _ _ h hr
      have hab : x = b := hob (x, b) (by simp)
      have hsh : w.shape? x = some (t, c.size) := by
        unfold World.shape?
        rw [hab, hm.at hb]
      have := h3 hr w hm
      unfold Sem.run
      rw [hsh]
      exact this
    · cases h
  | getObj x k ih =>
    intro js m ob d r h hd
    unfold srun at h
    split at h
    · rename_i b o hb
      split at h
      · rename_i hc
        obtain ⟨h1, h2, h3⟩ := ih _ _ _ _ _ _ h hd
        refine ⟨h1, h2, fun hr w hm => ?_⟩
        have hob := srun_ob P _ _ _ _ _ _ _ h hr
        have hab : x = b := hob (x, b) (by simp)
        have := h3 hr w hm
        unfold Sem.run
        rw [hab, hm.at hb]
        cases o <;> first | (cases hc; done) | exact this
      · cases h
    · cases h
  | setObj x o k ih =>
    intro js m ob d r h hd
    unfold srun at h
    split at h
    · split at h
      · exact absurd (ih _ _ _ _ _ h hd).1 (by simp)
      · cases h
    · cases h
  | program k ih =>
    intro js m ob d r h hd
    unfold srun at h
    obtain ⟨h1, h2, h3⟩ := ih _ _ _ _ _ _ h hd
    refine ⟨h1, h2, fun hr w hm => ?_⟩
    have := h3 hr w hm
    unfold Sem.run
    exact this
  | mark x k ih =>
    intro js m ob d r h hd
    unfold srun at h
    obtain ⟨h1, h2, h3⟩ := ih _ _ _ _ _ h hd
    refine ⟨h1, h2, fun hr w hm => ?_⟩
    have := h3 hr w hm
    unfold Sem.run
    exact this
  | _ => intro js m ob d r h; unfold srun at h; cases h
end Go.Proofs.YtddbiiejilcbbaaGreatDoor
namespace Go.Proofs.YtddbiiejilcbbaaGreatDoor
open Go

/-- What is still to be done. -/
inductive TI where
  | code (c : Code)
  | blk (id : Nat)
  | lp (c : Code)
  | reg (ops : Array Oper) (rest : List Oper) (res : List Nat)
  | any (ops : Array Oper) (m0 : Mem) (n : Nat) (l : Array Bool)
/-- A loop, from its head on. -/
def LoopFrom (P : Program) (c : Code) (Q : Exit → Act → World → Prop) (a : Act) (w : World) : Prop :=
  ∀ (b : Frame) (k : List Item) (cs : List Frame), ∃ e a' w', Q e a' w' ∧ Arrives P (lone (b.at a (.code c :: .inLoop c :: k)) cs w) b k cs e a' w'
def QK (P : Program) (F : Exit → Act → World → Prop) : List TI → Exit → Act → World → Prop
  | [], e => F e
  | .code c :: k, e =>
    match e with
    | .normal => c.wp P (QK P F k)
    | e => QK P F k e
  | .blk id :: k, e =>
    match e with
    | .exit id' => if id' = id then QK P F k .normal else QK P F k (.exit id')
    | e => QK P F k e
  | .lp c :: k, e =>
    match e with
    | .normal => LoopFrom P c (QK P F k)
    | e => QK P F k e
  | .reg ops rest _ :: k, e =>
    match e with
    | .normal => wpList P ops (QK P F k) rest
    | e => QK P F k e
  | .any ops m0 n l :: k, e =>
    match e with
    | .normal => fun a w => Holds m0 w → wpAnyH P .any ops (QK P F k) (Holds m0) n l a w
    | e => QK P F k e
section
variable {P : Program} {F : Exit → Act → World → Prop} {k : List TI} {a : Act} {w : World}
theorem qk_skip (h : QK P F k .normal a w) : QK P F (.code .skip :: k) .normal a w := wp_skip h
theorem qk_seq {x y : Code} (h : QK P F (.code x :: .code y :: k) .normal a w) : QK P F (.code (.seq x y) :: k) .normal a w := by
  refine wp_seq (wp_mono (show x.wp P (QK P F (.code y :: k)) a w from h) fun e a w q => ?_)
  cases e <;> exact q
theorem qk_block {id : Nat} {c : Code} (h : QK P F (.code c :: .blk id :: k) .normal a w) : QK P F (.code (.block id c) :: k) .normal a w := by
  refine wp_block (wp_mono (show c.wp P (QK P F (.blk id :: k)) a w from h) fun e a w q => ?_)
  cases e with
  | exit i =>
    show if i = id then _ else _
    simp only [QK] at q
    split at q
    · rename_i hi; rw [if_pos hi]; exact q
    · rename_i hi; rw [if_neg hi]; exact q
  | _ => exact q
theorem qk_blk {id : Nat} (h : QK P F k .normal a w) : QK P F (.blk id :: k) .normal a w := h
theorem qk_loop {c : Code} (h : QK P F (.lp c :: k) .normal a w) : QK P F (.code (.loop c) :: k) .normal a w := by
  intro b ks cs
  obtain ⟨e, a', w', hq, harr⟩ := (show LoopFrom P c (QK P F k) a w from h) b ks cs
  exact ⟨e, a', w', hq, .of_steps (.one step_loop) harr⟩
theorem qk_lp {c : Code} (h : QK P F (.code c :: .lp c :: k) .normal a w) : QK P F (.lp c :: k) .normal a w := by
  intro b ks cs
  obtain ⟨e, a₁, w₁, hq, harr⟩ := (show c.wp P (QK P F (.lp c :: k)) a w from h) b (.inLoop c :: ks) cs
  cases e with
  | normal =>
    obtain ⟨e₂, a₂, w₂, hq₂, harr₂⟩ := (show LoopFrom P c (QK P F k) a₁ w₁ from hq) b ks cs
    exact ⟨e₂, a₂, w₂, hq₂, .of_steps (Steps.trans harr (.one step_inLoop)) harr₂⟩
  | exit id => exact ⟨_, a₁, w₁, hq, .pass (x := .inLoop c) rfl (fun _ _ => .inl (by simp)) harr⟩
  | goto l => exact ⟨_, a₁, w₁, hq, .pass (x := .inLoop c) rfl (fun _ _ => .inl (by simp)) harr⟩
  | ret => exact ⟨_, a₁, w₁, hq, .pass (x := .inLoop c) rfl (fun _ _ => .inl (by simp)) harr⟩
  | panic ch => exact ⟨_, a₁, w₁, hq, .pass (x := .inLoop c) rfl (fun _ _ => .inl (by simp)) harr⟩
  | outgrown => exact ⟨_, a₁, w₁, hq, .pass (x := .inLoop c) rfl (fun _ _ => .inl (by simp)) harr⟩
/-- Where an exit leads. -/
def outOf (id : Nat) : List TI → Option (List TI)
  | [] => none
  | .blk i :: k => if id = i then some k else outOf id k
  | _ :: k => outOf id k
theorem qk_out {id : Nat} : ∀ {k k' : List TI}, outOf id k = some k' → QK P F k' .normal a w → QK P F k (.exit id) a w
  | [], _, h, _ => by cases h
  | .blk i :: k, k', h, hq => by
    unfold outOf at h
    simp only [QK]
    split at h
    · rename_i e; cases h; rw [if_pos e]; exact hq
    · rename_i e; rw [if_neg e]; exact qk_out h hq
  | .code c :: k, k', h, hq => qk_out (k := k) h hq
  | .lp c :: k, k', h, hq => qk_out (k := k) h hq
  | .reg _ _ _ :: k, k', h, hq => qk_out (k := k) h hq
  | .any _ _ _ _ :: k, k', h, hq => qk_out (k := k) h hq
theorem qk_exit {id : Nat} {k' : List TI} (hk : outOf id k = some k') (h : QK P F k' .normal a w) : QK P F (.code (.exit id) :: k) .normal a w := wp_exit (qk_out hk h)
theorem qk_cond {c : Operand} {x y : Code} {t : Bool} (hc : a.eval c = .bool t) (h : QK P F (.code (if t then x else y) :: k) .normal a w) : QK P F (.code (.cond c x y) :: k) .normal a w := wp_cond hc h
theorem qk_reg {id : Nat} {ops : Array Oper} (h : QK P F (.reg ops ops.toList [] :: k) .normal a w) : QK P F (.code (.region id ops false) :: k) .normal a w := wp_region_list h
theorem qk_any {id : Nat} {ops : Array Oper} {m0 : Mem} (hm : P.follows .mixedOrders = true) (h0 : Holds m0 w) (h : QK P F (.any ops m0 ops.size (Array.replicate ops.size false) :: k) .normal a { w with drawn := w.drawn + 1 }) : QK P F (.code (.region id ops true) :: k) .normal a w := wp_region_held hm (h h0)
theorem qk_ret : ∀ {k : List TI}, F .ret a w → QK P F k .ret a w
  | [], h => h
  | .code _ :: k, h => qk_ret (k := k) h
  | .blk _ :: k, h => qk_ret (k := k) h
  | .lp _ :: k, h => qk_ret (k := k) h
  | .reg _ _ _ :: k, h => qk_ret (k := k) h
  | .any _ _ _ _ :: k, h => qk_ret (k := k) h
theorem qk_panic {c : List PanicEntry} : ∀ {k : List TI}, QK P F k (.panic c) a w = F (.panic c) a w
  | [] => rfl
  | .code _ :: k => qk_panic (k := k)
  | .blk _ :: k => qk_panic (k := k)
  | .lp _ :: k => qk_panic (k := k)
  | .reg _ _ _ :: k => qk_panic (k := k)
  | .any _ _ _ _ :: k => qk_panic (k := k)
end

/-- What is known of a function under way. -/
structure St where
  todo : List TI
  tmps : List Value
  mem : Mem
def St.act (s : St) : Act := ⟨s.tmps.toArray, []⟩
/-- From here on the function does what is asked, in every world in which these blocks lie so and Inv holds. -/
def Goes (P : Program) (F : Exit → Act → World → Prop) (Inv : World → Prop) (s : St) : Prop :=
  ∀ w, Holds s.mem w → s.mem.ids.Nodup → Stay s.mem.ids w Inv → QK P F s.todo .normal s.act w

/-- A run: the state, hints that are left, what must be the same. -/
structure X where
  st : St
  hs : List Nat
  on : List (Nat × Nat)
  ob : List (Bool × Bool)
/-- How an operation is taken: 0: it needs no hint; 1: it wants one; 2: it makes something, and stops; 3: it stops. -/
def cls : Op → Nat
  | .move _ | .assign _ | .pick .. | .nilCheck _ | .binOp .. | .unOp .. | .makeInterface .. | .makeFunc .. | .fieldAddr .. | .field .. | .extract .. | .build .. => 0
  | .load .. | .store .. | .index .. | .indexAddr .. | .slice .. | .convert .. | .typeAssert .. | .sliceToArrayPointer .. | .insert .. | .mapUpdate .. | .lookup .. => 1
  | .call { callee := .builtin .len, .. } => 0
  | .call { callee := .builtin _, .. } => 1
  | .alloc .. | .box .. | .buildSlice .. | .makeMap .. => 2
  | _ => 3
def evalL (T : List Value) : Operand → Value
  | .tmp t => T.getD t undef
  | .const v => v
  | .global g => .pointer (some ⟨g, 0, none⟩)
  | .func f => .func (.func f) #[] #[]
def putL (T : List Value) : Option Tmp → Value → List Value
  | some d, v => T.set d v
  | none, _ => T
def hbit : Nat → Bool
  | 0 => false
  | _ => true
/-- An operation that is wanted, by its hint. -/
def doOp (P : Program) (o : Oper) (h : Nat) (g : Option Nat) (x : X) (todo : List TI) : Option X :=
  match srun P (execOp (evalL x.st.tmps) o) [h] g x.st.mem x.on false with
  | some ⟨.value v, m, on, _⟩ => some { x with st := ⟨todo, putL x.st.tmps o.dst v, m⟩, on }
  | some ⟨.skip, m, on, _⟩ => some { x with st := ⟨todo, putL x.st.tmps o.dst undef, m⟩, on }
  | _ => none
def boolAt (T : List Value) (t : Nat) : Option Bool :=
  match T[t]? with
  | some (.bool b) => some b
  | _ => none
def opDst (ops : Array Oper) (j : Nat) : Option Tmp := (ops[j]?).bind (·.dst)
def step (P : Program) (x : X) : Option X :=
  match x.st.todo with
  | .code .skip :: k => some { x with st := { x.st with todo := k } }
  | .code (.seq a b) :: k => some { x with st := { x.st with todo := .code a :: .code b :: k } }
  | .code (.block id c) :: k => some { x with st := { x.st with todo := .code c :: .blk id :: k } }
  | .blk _ :: k => some { x with st := { x.st with todo := k } }
  | .code (.loop c) :: k => some { x with st := { x.st with todo := .lp c :: k } }
  | .lp c :: k =>
    match x.hs with
    | _ :: hs => some { x with st := { x.st with todo := .code c :: .lp c :: k }, hs }
    | [] => none
  | .code (.exit id) :: k =>
    match outOf id k with
    | some k' => some { x with st := { x.st with todo := k' } }
    | none => none
  | .code (.cond c a b) :: k =>
    match x.hs, evalL x.st.tmps c with
    | h :: hs, .bool t => some { x with st := { x.st with todo := .code (bif hbit h then a else b) :: k }, hs, ob := (t, hbit h) :: x.ob }
    | _, _ => none
  | .code (.region _ ops false) :: k => some { x with st := { x.st with todo := .reg ops ops.toList [] :: k } }
  | .reg _ [] _ :: k => some { x with st := { x.st with todo := k } }
  | .reg ops (o :: rest) res :: k =>
    match o.guard with
    | some (j, want) =>
      match opDst ops j with
      | none => none
      | some t =>
        match res.contains j, boolAt x.st.tmps t with
        | true, some b =>
          match b == want with
          | true =>
            match cls o.op, x.hs with
            | 0, _ => doOp P o 0 none x (.reg ops rest res :: k)
            | 1, h :: hs => doOp P o h none { x with hs } (.reg ops rest res :: k)
            | _, _ => none
          | false => some { x with st := { x.st with todo := .reg ops rest res :: k, tmps := putL x.st.tmps o.dst undef } }
        | false, some b =>
          match x.hs with
          | h :: hs => some { x with st := { x.st with todo := .reg ops (o :: rest) (j :: res) :: k, tmps := x.st.tmps.set t (.bool (hbit h)) }, hs, ob := (b, hbit h) :: x.ob }
          | [] => none
        | _, none => some { x with st := { x.st with todo := .reg ops rest res :: k, tmps := putL x.st.tmps o.dst undef } }
    | none =>
      match cls o.op, x.hs with
      | 0, _ => doOp P o 0 none x (.reg ops rest res :: k)
      | 1, h :: hs => doOp P o h none { x with hs } (.reg ops rest res :: k)
      | _, _ => none
  | .any ops m0 n l :: k =>
    match (Region.ready .any ops l).isEmpty, n, x.hs with
    | true, _, _ => some { x with st := { x.st with todo := k } }
    | false, n + 1, i :: hs =>
      match ops[i]? with
      | none => none
      | some o =>
        match Region.noSelect ops && Region.free .any ops l i && (Region.ready .any ops l).contains i with
        | false => none
        | true =>
          match Region.wanted o (yielded ops x.st.tmps.toArray) with
          | false => some { x with st := { x.st with todo := .any ops m0 n (l.setIfInBounds i true) :: k, tmps := putL x.st.tmps o.dst undef }, hs }
          | true =>
            match srun P (execOp (evalL x.st.tmps) o) [hs.headD 0] none m0 x.on false with
            | some ⟨.value v, _, on, false⟩ => some { x with st := { x.st with todo := .any ops m0 n (l.setIfInBounds i true) :: k, tmps := putL x.st.tmps o.dst v }, hs := (match cls o.op with | 1 => hs.tail | _ => hs), on }
            | _ => none
    | _, _, _ => none
  | _ => none
def ex (P : Program) : Nat → X → X
  | 0, x => x
  | n + 1, x =>
    match step P x with
    | some y => ex P n y
    | none => x

theorem evalL_eq (T : List Value) (ds : List Deferred) : (Act.mk T.toArray ds).eval = evalL T := by
  funext o
  cases o <;> simp [Act.eval, evalL, List.getD, Array.getD]
  split <;> simp_all
theorem putL_eq (T : List Value) (d : Option Tmp) (v : Value) : (Act.mk T.toArray []).put d v = ⟨(putL T d v).toArray, []⟩ := by
  cases d <;> simp [Act.put, putL]
def Ok (x : X) : Prop := (∀ p ∈ x.on, p.1 = p.2) ∧ (∀ p ∈ x.ob, p.1 = p.2)
theorem yielded_eq (ops : Array Oper) (T : List Value) (j : Nat) : yielded ops T.toArray j = (opDst ops j).bind (boolAt T) := by
  unfold yielded opDst
  cases h : (ops[j]?).bind (·.dst) with
  | none => rfl
  | some t =>
    simp only [Option.bind_some]
    unfold boolAt
    simp only [List.getElem?_toArray]
    cases T[t]? with
    | none => rfl
    | some v => cases v <;> rfl
section
variable {P : Program} {F : Exit → Act → World → Prop} {Inv : World → Prop}
theorem doOp_on {o : Oper} {h : Nat} {g : Option Nat} {x y : X} {todo : List TI} (hd : doOp P o h g x todo = some y) : y.hs = x.hs ∧ y.ob = x.ob ∧ ((∀ p ∈ y.on, p.1 = p.2) → ∀ p ∈ x.on, p.1 = p.2) := by
  unfold doOp at hd
  split at hd
  · rename_i hs; cases hd; exact ⟨rfl, rfl, srun_ob P _ _ _ _ _ _ _ hs⟩
  · rename_i hs; cases hd; exact ⟨rfl, rfl, srun_ob P _ _ _ _ _ _ _ hs⟩
  · cases hd
theorem doOp_goes {o : Oper} {h : Nat} {g : Option Nat} {x y : X} {ops : Array Oper} {rest : List Oper} {res res' : List Nat} {k : List TI} (hx : x.st.todo = .reg ops (o :: rest) res :: k)
    (hd : doOp P o h g x (.reg ops rest res' :: k) = some y) (hw : Region.wanted o (yielded ops x.st.tmps.toArray) = true) (hy : Ok y) {w : World} (hG : Goes P F Inv y.st) (hm : Holds x.st.mem w) (hn : x.st.mem.ids.Nodup) (hI : Stay x.st.mem.ids w Inv) (hg : ∀ n, g = some n → n = w.heap.size) : QK P F x.st.todo .normal x.st.act w := by
  rw [hx]
  show wpList P ops (QK P F k) (o :: rest) ⟨x.st.tmps.toArray, []⟩ w
  refine wpList_step fun K hK => ?_
  rw [if_pos hw]
  unfold Oper.wp
  rw [evalL_eq]
  unfold doOp at hd
  split at hd
  · rename_i v m on d hs
    cases hd
    obtain ⟨w', D⟩ := srun_did P _ _ _ _ _ _ _ w hs hy.1 hm hn hg
    rw [D.run, Oper.upon_value]
    refine hK _ _ ?_
    rw [putL_eq]
    exact hG w' D.holds D.nd (hI.ch D.ch D.new)
  · rename_i m on d hs
    cases hd
    obtain ⟨w', D⟩ := srun_did P _ _ _ _ _ _ _ w hs hy.1 hm hn hg
    rw [D.run, Oper.upon_skip]
    refine hK _ _ ?_
    rw [putL_eq]
    exact hG w' D.holds D.nd (hI.ch D.ch D.new)
  · cases hd
theorem set_self {T : List Value} {t : Nat} {v : Value} (h : T[t]? = some v) : T.set t v = T := by
  apply List.ext_getElem?
  intro i
  rw [List.getElem?_set]
  split
  · rename_i e; subst e; split
    · exact h.symm
    · rename_i hl; rw [List.getElem?_eq_none (by omega)]
  · rfl
theorem bool_hint {b : Bool} {h : Nat} (e : b = hbit h) {α : Type} (x y : α) : (bif hbit h then x else y) = if b then x else y := by
  rw [← e]
  cases b <;> rfl
theorem wpList_not {ops : Array Oper} {Q : Exit → Act → World → Prop} {o : Oper} {rest : List Oper} {a : Act} {w : World} (hw : Region.wanted o (yielded ops a.tmps) = false) (h : wpList P ops Q rest (a.put o.dst undef) w) : wpList P ops Q (o :: rest) a w := by
  unfold wpList
  rw [if_neg (by rw [hw]; simp)]
  exact h
theorem step_goes (hF : ∀ c T T' ds w, F (.panic c) ⟨T, ds⟩ w → F (.panic c) ⟨T', ds⟩ w) {x y : X} (hs : step P x = some y) (hy : Ok y) (hG : Goes P F Inv y.st) : Ok x ∧ Goes P F Inv x.st := by
  unfold step at hs
  split at hs
  case h_1 k hk => cases hs; exact ⟨hy, fun w hm hn hI => by rw [hk]; exact qk_skip (hG w hm hn hI)⟩
  case h_2 a b k hk => cases hs; exact ⟨hy, fun w hm hn hI => by rw [hk]; exact qk_seq (hG w hm hn hI)⟩
  case h_3 id c k hk => cases hs; exact ⟨hy, fun w hm hn hI => by rw [hk]; exact qk_block (hG w hm hn hI)⟩
  case h_4 id k hk => cases hs; exact ⟨hy, fun w hm hn hI => by rw [hk]; exact qk_blk (hG w hm hn hI)⟩
  case h_5 c k hk => cases hs; exact ⟨hy, fun w hm hn hI => by rw [hk]; exact qk_loop (hG w hm hn hI)⟩
  case h_6 c k hk =>
    split at hs
    · cases hs; exact ⟨hy, fun w hm hn hI => by rw [hk]; exact qk_lp (hG w hm hn hI)⟩
    · cases hs
  case h_7 id k hk =>
    split at hs
    · rename_i k' hk'
      cases hs; exact ⟨hy, fun w hm hn hI => by rw [hk]; exact qk_exit hk' (hG w hm hn hI)⟩
    · cases hs
  case h_8 c a b k hk =>
    split at hs
    · rename_i h hs' t hh hv
      cases hs
      have hb := hy.2 (t, hbit h) List.mem_cons_self
      refine ⟨⟨hy.1, fun p hp => hy.2 p (List.mem_cons_of_mem _ hp)⟩, fun w hm hn hI => ?_⟩
      rw [hk]
      refine qk_cond (t := t) (by unfold St.act; rw [evalL_eq]; exact hv) ?_
      have h1 := hG w hm hn hI
      have h2 := bool_hint hb a b
      simp only [h2] at h1
      exact h1
    · cases hs
  case h_9 id ops k hk => cases hs; exact ⟨hy, fun w hm hn hI => by rw [hk]; exact qk_reg (hG w hm hn hI)⟩
  case h_10 ops res k hk => cases hs; exact ⟨hy, fun w hm hn hI => by
    rw [hk]
    exact wpList_nil (P := P) (ops := ops) (Q := QK P F k) (hG w hm hn hI)⟩
  case h_11 ops o rest res k hk =>
    split at hs
    · rename_i j want hg
      have hwq : ∀ b, (opDst ops j).bind (boolAt x.st.tmps) = b → Region.wanted o (yielded ops x.st.tmps.toArray) = (b == some want) := by
        intro b hb
        unfold Region.wanted
        rw [hg]
        simp only [yielded_eq, hb]
      split at hs
      · cases hs
      · rename_i t ht
        rw [ht] at hwq
        split at hs
        · rename_i b hres hb
          have hw := hwq (some b) hb
          split at hs
          · rename_i hbw
            have hw' : Region.wanted o (yielded ops x.st.tmps.toArray) = true := by
              rw [hw, eq_of_beq hbw]; simp
            split at hs
            · have h1 := doOp_on hs
              exact ⟨⟨h1.2.2 hy.1, h1.2.1 ▸ hy.2⟩, fun w hm hn hI => doOp_goes hk hs hw' hy hG hm hn hI (by simp)⟩
            · rename_i h hs' hc hh
              have h1 := doOp_on hs
              exact ⟨⟨h1.2.2 hy.1, h1.2.1 ▸ hy.2⟩, fun w hm hn hI => doOp_goes (x := { x with hs := hs' }) hk hs hw' hy hG hm hn hI (by simp)⟩
            · cases hs
          · rename_i hbw
            cases hs
            refine ⟨hy, fun w hm hn hI => ?_⟩
            rw [hk]
            have h1 := hG w hm hn hI
            refine wpList_not (by show Region.wanted o (yielded ops x.st.tmps.toArray) = false; rw [hw]; simpa using hbw) ?_
            unfold St.act
            rw [putL_eq]
            exact h1
        · rename_i b hres hb
          split at hs
          · rename_i h hs' hh
            cases hs
            have hbb := hy.2 (b, hbit h) List.mem_cons_self
            refine ⟨⟨hy.1, fun p hp => hy.2 p (List.mem_cons_of_mem _ hp)⟩, fun w hm hn hI => ?_⟩
            have h1 := hG w hm hn hI
            have hT : x.st.tmps[t]? = some (.bool b) := by
              unfold boolAt at hb
              split at hb
              · rename_i hq; cases hb; exact hq
              · cases hb
            simp only at hbb
            rw [← hbb] at h1
            unfold St.act at h1
            simp only [set_self hT] at h1
            rw [hk]
            exact h1
          · cases hs
        · rename_i hb
          cases hs
          refine ⟨hy, fun w hm hn hI => ?_⟩
          rw [hk]
          have h1 := hG w hm hn hI
          refine wpList_not (by show Region.wanted o (yielded ops x.st.tmps.toArray) = false; rw [hwq none hb]; rfl) ?_
          unfold St.act
          rw [putL_eq]
          exact h1
    · rename_i hg
      have hw' : Region.wanted o (yielded ops x.st.tmps.toArray) = true := by
        unfold Region.wanted; rw [hg]
      split at hs
      · have h1 := doOp_on hs
        exact ⟨⟨h1.2.2 hy.1, h1.2.1 ▸ hy.2⟩, fun w hm hn hI => doOp_goes hk hs hw' hy hG hm hn hI (by simp)⟩
      · rename_i h hs' hc hh
        have h1 := doOp_on hs
        exact ⟨⟨h1.2.2 hy.1, h1.2.1 ▸ hy.2⟩, fun w hm hn hI => doOp_goes (x := { x with hs := hs' }) hk hs hw' hy hG hm hn hI (by simp)⟩
      · cases hs
  case h_12 ops m0 n l k hk =>
    split at hs
    · rename_i hr
      cases hs
      refine ⟨hy, fun w hm hn hI => ?_⟩
      rw [hk]
      exact fun _ => wpAnyH_done (by simpa using hr) (hG w hm hn hI) _
    · rename_i n i hs' hr hh
      split at hs
      · cases hs
      · rename_i o ho
        split at hs
        · cases hs
        · rename_i hc
          simp only [Bool.and_eq_true] at hc
          have hQ : ∀ v c a w, QK P F k (.panic c) (a.put o.dst v) w → QK P F k (.panic c) a w := by
            intro v c a w h
            rw [qk_panic] at h ⊢
            obtain ⟨T, ds⟩ := a
            cases hd : o.dst with
            | none => rw [hd] at h; exact h
            | some d => rw [hd] at h; exact hF _ _ _ _ _ h
          split at hs
          · rename_i hw
            cases hs
            refine ⟨hy, fun w hm hn hI => ?_⟩
            rw [hk]
            intro h0
            have h1 := hG w hm hn hI h0
            refine wpAnyH_take (v := undef) ho hc.1.1 hc.1.2 hc.2 (hQ _) (.inr ⟨hw, rfl⟩) h0 ?_
            unfold St.act
            rw [putL_eq]
            exact h1
          · rename_i hw
            split at hs
            · rename_i v m1 on hr1
              cases hs
              obtain ⟨-, -, h3⟩ := srun_still P _ _ _ _ _ _ hr1 rfl
              refine ⟨⟨srun_ob P _ _ _ _ _ _ _ hr1 hy.1, hy.2⟩, fun w hm hn hI => ?_⟩
              rw [hk]
              intro h0
              have h1 := hG w hm hn hI h0
              refine wpAnyH_take (v := v) ho hc.1.1 hc.1.2 hc.2 (hQ _) (.inl ⟨hw, fun w' hw' => ?_⟩) h0 ?_
              · unfold St.act
                rw [evalL_eq]
                exact h3 hy.1 w' hw'
              · unfold St.act
                rw [putL_eq]
                exact h1
            · cases hs
    · cases hs
  case h_13 => cases hs
end
end Go.Proofs.YtddbiiejilcbbaaGreatDoor
namespace Go.Proofs.YtddbiiejilcbbaaGreatDoor
open Go Go.RowKit

def AllB : List (Bool × Bool) → Prop
  | [] => True
  | p :: r => p.1 = p.2 ∧ AllB r
theorem AllB.all : ∀ {l : List (Bool × Bool)}, AllB l → ∀ p ∈ l, p.1 = p.2
  | [], _ => by simp
  | _ :: _, h => by
    intro q hq
    rcases List.mem_cons.1 hq with e | e
    · rw [e]; exact h.1
    · exact h.2.all q e
theorem all_of_map {l : List (Nat × Nat)} (h : l.map (·.1) = l.map (·.2)) : ∀ p ∈ l, p.1 = p.2 := by
  induction l with
  | nil => simp
  | cons a r ih =>
    simp only [List.map_cons, List.cons.injEq] at h
    intro p hp
    rcases List.mem_cons.1 hp with e | e
    · rw [e]; exact h.1
    · exact ih h.2 p e
section
variable {P : Program} {F : Exit → Act → World → Prop} {Inv : World → Prop} {s : St} {fn : Func} {R : Ending → World → Prop}
theorem bp_panic : ∀ c T T' ds w, bodyPost P fn R (.panic c) ⟨T, ds⟩ w → bodyPost P fn R (.panic c) ⟨T', ds⟩ w := fun _ _ _ _ _ h => h
/-- The next operation of a region that keeps its order. -/
def nextOp (s : St) : Option (Array Oper × Oper × List Oper × List Nat × List TI) :=
  match s.todo with
  | .reg ops (o :: rest) res :: k => some (ops, o, rest, res, k)
  | _ => none
/-- Is it wanted? -/
def wants (s : St) : Bool :=
  match nextOp s with
  | some (ops, o, _, res, _) =>
    match o.guard with
    | none => true
    | some (j, want) => res.contains j && (match opDst ops j with | some t => boolAt s.tmps t == some want | none => false)
  | none => false
theorem wants_ok {ops : Array Oper} {o : Oper} {rest : List Oper} {res : List Nat} {k : List TI} (hn : nextOp s = some (ops, o, rest, res, k)) (h : wants s = true) : Region.wanted o (yielded ops s.tmps.toArray) = true := by
  unfold wants at h
  rw [hn] at h
  simp only at h
  unfold Region.wanted
  split at h
  · rename_i hg; rw [hg]
  · rename_i j want hg
    rw [hg]
    simp only [yielded_eq]
    rw [Bool.and_eq_true] at h
    split at h
    · rename_i t ht
      rw [ht]
      simpa using h.2
    · exact absurd h.2 (by simp)
theorem nextOp_todo {ops : Array Oper} {o : Oper} {rest : List Oper} {res : List Nat} {k : List TI} (hn : nextOp s = some (ops, o, rest, res, k)) : s.todo = .reg ops (o :: rest) res :: k := by
  unfold nextOp at hn
  split at hn
  · rename_i h; cases hn; exact h
  · cases hn
/-- Behind an operation that answered v, with the blocks m. -/
def put (s : St) (v : Value) (m : Mem) : St :=
  match nextOp s with
  | some (ops, o, rest, res, k) => ⟨.reg ops rest res :: k, putL s.tmps o.dst v, m⟩
  | none => s
def put0 (s : St) (v : Value) : St := put s v s.mem
/-- Behind one that changed the block j. -/
def putM (s : St) (v : Value) (j b : Nat) (o : Obj) : St := put s v (s.mem.set j (b, o))
/-- What is made gets a name. -/
def mkG (P : Program) (x : X) : List Nat → Option (X × List Nat)
  | [] => none
  | g :: gs =>
    match nextOp x.st with
    | some (ops, o, rest, res, k) =>
      match cls o.op == 2 && wants x.st with
      | true =>
        match doOp P o 0 (some g) x (.reg ops rest res :: k) with
        | some y => some (y, gs)
        | none => none
      | false => none
    | none => none
def exG (P : Program) : Nat → X → List Nat → X
  | 0, x, _ => x
  | n + 1, x, gs =>
    match mkG P x gs with
    | some (y, gs') => exG P n y gs'
    | none =>
      match step P x with
      | some y => exG P n y gs
      | none => x
theorem step_two {x : X} {ops : Array Oper} {o : Oper} {rest : List Oper} {res : List Nat} {k : List TI} (hn : nextOp x.st = some (ops, o, rest, res, k)) (hc : cls o.op = 2) (hw : wants x.st = true) : step P x = none := by
  have ht := nextOp_todo hn
  unfold wants at hw
  rw [hn] at hw
  simp only at hw
  unfold step
  rw [ht]
  simp only
  split at hw
  · rename_i hg
    rw [hg]
    simp only [hc]
  · rename_i j want hg
    rw [hg]
    rw [Bool.and_eq_true] at hw
    simp only
    split at hw
    · rename_i t ht
      rw [ht]
      simp only [hw.1]
      rw [eq_of_beq hw.2]
      simp [hc]
    · exact absurd hw.2 (by simp)
theorem exG_goes (hF : ∀ c T T' ds w, F (.panic c) ⟨T, ds⟩ w → F (.panic c) ⟨T', ds⟩ w) : ∀ (n m : Nat) {x : X}, (∀ gs : List Nat, gs.length = m → Ok (exG P n x gs) ∧ Goes P F Inv (exG P n x gs).st) → Ok x ∧ Goes P F Inv x.st
  | 0, m, x, h => h (List.replicate m 0) (by simp)
  | n + 1, m, x, h => by
    unfold exG at h
    have plain : (∀ gs : List Nat, gs.length = m → mkG P x gs = none) → Ok x ∧ Goes P F Inv x.st := by
      intro hno
      cases hs : step P x with
      | none => have := h (List.replicate m 0) (by simp); rw [hno _ (by simp), hs] at this; exact this
      | some y =>
        have h1 : Ok y ∧ Goes P F Inv y.st := exG_goes hF n m (fun gs hl => by have := h gs hl; rw [hno gs hl, hs] at this; exact this)
        exact step_goes hF hs h1.1 h1.2
    cases m with
    | zero => exact plain (fun gs hl => by cases gs with | nil => rfl | cons => cases hl)
    | succ m =>
      cases hno : nextOp x.st with
      | none => exact plain (fun gs hl => by cases gs with | nil => rfl | cons => unfold mkG; rw [hno])
      | some q =>
        obtain ⟨ops, o, rest, res, k⟩ := q
        cases hc : (cls o.op == 2 && wants x.st) with
        | false => exact plain (fun gs hl => by cases gs with | nil => rfl | cons => unfold mkG; rw [hno]; simp only [hc])
        | true =>
          have hc' := hc
          rw [Bool.and_eq_true] at hc'
          have hst := step_two (P := P) hno (eq_of_beq hc'.1) hc'.2
          have key : ∀ g, (doOp P o 0 (some g) x (.reg ops rest res :: k) = none → Ok x ∧ Goes P F Inv x.st) ∧ ∀ y, doOp P o 0 (some g) x (.reg ops rest res :: k) = some y → Ok y ∧ Goes P F Inv y.st := by
            intro g
            refine ⟨fun hd => ?_, fun y hd => ?_⟩
            · have := h (g :: List.replicate m 0) (by simp)
              rw [show mkG P x (g :: List.replicate m 0) = none by unfold mkG; rw [hno]; simp only [hc, hd], hst] at this
              exact this
            · refine exG_goes hF n m (fun gs hl => ?_)
              have := h (g :: gs) (by simp [hl])
              rw [show mkG P x (g :: gs) = some (y, gs) by unfold mkG; rw [hno]; simp only [hc, hd]] at this
              exact this
          refine ⟨?_, fun w hm hn hI => ?_⟩
          · cases hd : doOp P o 0 (some 0) x (.reg ops rest res :: k) with
            | none => exact ((key 0).1 hd).1
            | some y =>
              have h1 := doOp_on hd
              have h2 := ((key 0).2 y hd).1
              exact ⟨h1.2.2 h2.1, h1.2.1 ▸ h2.2⟩
          · cases hd : doOp P o 0 (some w.heap.size) x (.reg ops rest res :: k) with
            | none => exact ((key _).1 hd).2 w hm hn hI
            | some y =>
              have h2 := (key _).2 y hd
              exact doOp_goes (nextOp_todo hno) hd (wants_ok hno hc'.2) h2.1 h2.2 hm hn hI (by simp)
/-- A state, run by hints, with names for what is made. -/
def rn (P : Program) (hs gs : List Nat) (s : St) : X := exG P 2000 ⟨s, hs, [], []⟩ gs
theorem rn_goes {hs : List Nat} {m : Nat} (h : ∀ gs : List Nat, gs.length = m → Ok (rn P hs gs s) ∧ Goes P (bodyPost P fn R) Inv (rn P hs gs s).st) : Goes P (bodyPost P fn R) Inv s := (exG_goes bp_panic 2000 m h).2
/-- A run by hints hs; E: the truths that it leaned on, the last one first. -/
theorem Goes.run (hs : List Nat) (E : List (Bool × Bool)) (hB : AllB E) (h : Goes P (bodyPost P fn R) Inv (rn P hs [] s).st) (hE : (rn P hs [] s).ob = E := by kernel_rfl) (hN : (rn P hs [] s).on.map (·.1) = (rn P hs [] s).on.map (·.2) := by kernel_rfl) : Goes P (bodyPost P fn R) Inv s :=
  rn_goes (m := 0) fun gs hl => by
    obtain rfl : gs = [] := List.eq_nil_of_length_eq_zero hl
    exact ⟨⟨all_of_map hN, hE ▸ hB.all⟩, h⟩
theorem Goes.run1 (hs : List Nat) (E : List (Bool × Bool)) (hB : AllB E) (h : ∀ g, Goes P (bodyPost P fn R) Inv (rn P hs [g] s).st) (hE : ∀ g, (rn P hs [g] s).ob = E := by intros; kernel_rfl) (hN : ∀ g, (rn P hs [g] s).on.map (·.1) = (rn P hs [g] s).on.map (·.2) := by intros; kernel_rfl) : Goes P (bodyPost P fn R) Inv s :=
  rn_goes (m := 1) fun gs hl => by
    obtain ⟨g, rfl⟩ := List.length_eq_one_iff.1 hl
    exact ⟨⟨all_of_map (hN g), hE g ▸ hB.all⟩, h g⟩
theorem Goes.run2 (hs : List Nat) (E : List (Bool × Bool)) (hB : AllB E) (h : ∀ g h, Goes P (bodyPost P fn R) Inv (rn P hs [g, h] s).st) (hE : ∀ g h, (rn P hs [g, h] s).ob = E := by intros; kernel_rfl) (hN : ∀ g h, (rn P hs [g, h] s).on.map (·.1) = (rn P hs [g, h] s).on.map (·.2) := by intros; kernel_rfl) : Goes P (bodyPost P fn R) Inv s :=
  rn_goes (m := 2) fun gs hl => by
    match gs, hl with
    | [a, b], _ => exact ⟨⟨all_of_map (hN a b), hE a b ▸ hB.all⟩, h a b⟩
theorem Goes.run3 (hs : List Nat) (E : List (Bool × Bool)) (hB : AllB E) (h : ∀ g h i, Goes P (bodyPost P fn R) Inv (rn P hs [g, h, i] s).st) (hE : ∀ g h i, (rn P hs [g, h, i] s).ob = E := by intros; kernel_rfl) (hN : ∀ g h i, (rn P hs [g, h, i] s).on.map (·.1) = (rn P hs [g, h, i] s).on.map (·.2) := by intros; kernel_rfl) : Goes P (bodyPost P fn R) Inv s :=
  rn_goes (m := 3) fun gs hl => by
    match gs, hl with
    | [a, b, c], _ => exact ⟨⟨all_of_map (hN a b c), hE a b c ▸ hB.all⟩, h a b c⟩
def vS (s : Sem Value) : Sem Next := do pure (.value (← s))
theorem vS_run {I : Sem Value} {v : Value} {w w' : World} (h : I.run P w = .ok v w') : (vS I).run P w = .ok (.value v) w' := by
  unfold vS
  simp [h, Result.andThen]
/-- An operation whose answer is known otherwise, and which changes nothing. -/
theorem Goes.val (I : Sem Value) (v : Value) (hr : ∀ w, Holds s.mem w → Stay s.mem.ids w Inv → I.run P w = .ok v w) (h : Goes P F Inv (put0 s v)) (ho : (nextOp s).map (fun q => execOp (evalL s.tmps) q.2.1) = some (vS I) := by kernel_rfl) (hw : wants s = true := by kernel_rfl) : Goes P F Inv s := by
  intro w hm hn hI
  cases hno : nextOp s with
  | none => rw [hno] at ho; cases ho
  | some q =>
    obtain ⟨ops, o', rest, res, k⟩ := q
    rw [hno] at ho
    have ho : execOp (evalL s.tmps) o' = vS I := by simpa using ho
    rw [nextOp_todo hno]
    show wpList P ops (QK P F k) (o' :: rest) ⟨s.tmps.toArray, []⟩ w
    refine wpList_step fun K hK => ?_
    rw [if_pos (wants_ok hno hw)]
    unfold Oper.wp
    rw [evalL_eq, ho, vS_run (hr w hm hI), Oper.upon_value]
    refine hK _ _ ?_
    rw [putL_eq]
    have h1 := h w
    unfold put0 put at h1
    rw [hno] at h1
    exact h1 hm hn hI
/-- An operation that changes the world in a way that is known otherwise. -/
theorem Goes.eff (I : Sem Value) 
 (hr : ∀ w, Holds s.mem w → s.mem.ids.Nodup → Stay s.mem.ids w Inv → ∃ v w' Inv' m, I.run P w = .ok v w' ∧ Holds m w' ∧ m.ids.Nodup ∧ Stay m.ids w' Inv' ∧ Goes P F Inv' (put s v m)) (ho : (nextOp s).map (fun q => execOp (evalL s.tmps) q.2.1) = some (vS I) := by kernel_rfl) (hw : wants s = true := by kernel_rfl) : Goes P F Inv s := by
  intro w hm hn hI
  cases hno : nextOp s with
  | none => rw [hno] at ho; cases ho
  | some q =>
    obtain ⟨ops, o', rest, res, k⟩ := q
    rw [hno] at ho
    have ho : execOp (evalL s.tmps) o' = vS I := by simpa using ho
    rw [nextOp_todo hno]
    show wpList P ops (QK P F k) (o' :: rest) ⟨s.tmps.toArray, []⟩ w
    refine wpList_step fun K hK => ?_
    rw [if_pos (wants_ok hno hw)]
    unfold Oper.wp
    obtain ⟨v, w', Inv', m, he, h1, h2, h3, h4⟩ := hr w hm hn hI
    have h5 := h4 w'
    unfold put at h5
    rw [hno] at h5
    rw [evalL_eq, ho, vS_run he, Oper.upon_value]
    refine hK _ _ ?_
    rw [putL_eq]
    exact h5 h1 h2 h3
/-- A function that is entered when it is called. -/
def okf (P : Program) (f : FuncId) : Bool :=
  match P.funcs[f]? with
  | some fn => !(fn.name == "runtime.NumGoroutine") && fn.body.isSome
  | none => false
theorem okf_run {f : FuncId} (h : okf P f = true) (args : Array Value) (w : World) : (callFunc f args).run P w = .ok (.enter f args) w := by
  unfold okf at h
  cases hf : P.funcs[f]? with
  | none => rw [hf] at h; cases h
  | some fn =>
    rw [hf] at h
    simp only [Bool.and_eq_true, Bool.not_eq_true'] at h
    obtain ⟨c, hc⟩ := Option.isSome_iff_exists.1 h.2
    unfold callFunc
    have : (program).run P w = .ok P w := rfl
    simp [Sem.run_bind, this, Result.andThen, hf, hc]
    exact beq_eq_false_iff_ne.1 h.1
/-- What lies in the known block j. -/
theorem Holds.get {m : Mem} {w : World} (h : Holds m w) (j : Nat) {b : Nat} {o : Obj} (hj : m[j]? = some (b, o) := by kernel_rfl) : w.heap[b]? = some o := h j b o hj
/-- What a call asks: the function and what is handed to it. -/
def ask (s : St) : Option (FuncId × Array Value) :=
  match nextOp s with
  | some (_, o, _, _, _) =>
    match o.op with
    | .call { callee := .value x, args, .. } =>
      match evalL s.tmps x with
      | .func (.func f) first captured => some (f, first ++ args.map (evalL s.tmps) ++ captured)
      | _ => none
    | _ => none
  | none => none
theorem ask_run {ops : Array Oper} {o : Oper} {rest : List Oper} {res : List Nat} {k : List TI} {f : FuncId} {args : Array Value} (hn : nextOp s = some (ops, o, rest, res, k)) (ha : ask s = some (f, args)) (hf : okf P f = true) (w : World) : (execOp (evalL s.tmps) o).run P w = .ok (.enter f args) w := by
  unfold ask at ha
  rw [hn] at ha
  simp only at ha
  split at ha
  · rename_i x xs ats hop
    split at ha
    · rename_i g first captured hv
      cases ha
      have e : execOp (evalL s.tmps) o = callFunc f (first ++ xs.map (evalL s.tmps) ++ captured) := by
        unfold execOp; rw [hop]; simp only [resolve, hv]; rfl
      rw [e, okf_run hf]
    · cases ha
  · cases ha
theorem Goes.call (f : FuncId) (args : Array Value) 
 (hr : ∀ w, Holds s.mem w → s.mem.ids.Nodup → Stay s.mem.ids w Inv → Calls P f args w fun e w' => ∃ v Inv' m, e = .returned v ∧ Holds m w' ∧ m.ids.Nodup ∧ Stay m.ids w' Inv' ∧ Goes P F Inv' (put s v m)) (ha : ask s = some (f, args) := by kernel_rfl) (hw : wants s = true := by kernel_rfl) (hf : okf P f = true := by kernel_rfl) : Goes P F Inv s := by
  intro w hm hn hI
  cases hno : nextOp s with
  | none => unfold ask at ha; rw [hno] at ha; cases ha
  | some q =>
    obtain ⟨ops, o, rest, res, k⟩ := q
    rw [nextOp_todo hno]
    show wpList P ops (QK P F k) (o :: rest) ⟨s.tmps.toArray, []⟩ w
    refine wpList_step fun K hK => ?_
    rw [if_pos (wants_ok hno hw)]
    unfold Oper.wp
    rw [evalL_eq, ask_run hno ha hf w, Oper.upon_enter]
    refine (hr w hm hn hI).mono fun e w' ⟨v, Inv', m, he, h1, h2, h3, h4⟩ => ?_
    subst he
    refine hK _ _ ?_
    rw [putL_eq]
    have h5 := h4 w'
    unfold put at h5
    rw [hno] at h5
    exact h5 h1 h2 h3
/-- A call that leaves all blocks as they are. -/
theorem Goes.call0 (f : FuncId) (args : Array Value) (v : Value) 
 (hr : ∀ w, Holds s.mem w → Stay s.mem.ids w Inv → Calls P f args w fun e w' => e = .returned v ∧ Below w.heap.size w w') (h : Goes P F Inv (put0 s v)) (ha : ask s = some (f, args) := by kernel_rfl) (hw : wants s = true := by kernel_rfl) (hf : okf P f = true := by kernel_rfl) : Goes P F Inv s := by
  refine Goes.call f args (ha := ha) (hw := hw) (hf := hf) fun w hm hn hI => (hr w hm hI).mono fun e w' ⟨he, hB⟩ => ⟨v, Inv, s.mem, he, ?_, hn, ?_, h⟩
  · intro j b o hj
    rw [hB.block b (lt_of_get (hm.at hj))]
    exact hm.at hj
  · exact hI.ch ⟨hB.os, hB.tape, hB.output, hB.size, fun i hi _ => hB.block i hi⟩ (fun x hx => .inl hx)
/-- A call that changes the known block j (b), and tells a fact. -/
theorem Goes.call1 (j b : Nat) (f : FuncId) (args : Array Value) 
 (hr : ∀ w, Holds s.mem w → s.mem.ids.Nodup → Stay s.mem.ids w Inv → Calls P f args w fun e w' => ∃ v o Fact, e = .returned v ∧ Ch [b] w w' ∧ w'.heap[b]? = some o ∧ Stay s.mem.ids w' Fact ∧ Goes P F (fun w => Inv w ∧ Fact w) (putM s v j b o)) (ha : ask s = some (f, args) := by kernel_rfl) (hw : wants s = true := by kernel_rfl) (hf : okf P f = true := by kernel_rfl) (hj : (s.mem[j]?).map (·.1) = some b := by kernel_rfl) : Goes P F Inv s := by
  obtain ⟨o0, hb⟩ : ∃ o0, s.mem[j]? = some (b, o0) := by
    cases hq : s.mem[j]? with
    | none => rw [hq] at hj; cases hj
    | some q => rw [hq] at hj; obtain ⟨b', o0⟩ := q; cases hj; exact ⟨o0, rfl⟩
  refine Goes.call f args (ha := ha) (hw := hw) (hf := hf) fun w hm hn hI => (hr w hm hn hI).mono fun e w' ⟨v, o, Fact, he, hc, hbo, hS, hG⟩ => ⟨v, _, s.mem.set j (b, o), he, ?_, ?_, ?_, hG⟩
  · exact holds_set hm hn hb hbo (fun i hi hne => hc.block i hi (by simpa using hne))
  · rw [ids_set hb]; exact hn
  · rw [ids_set hb]
    exact (hI.ch ⟨hc.os, hc.tape, hc.output, hc.size, fun i hi hx => hc.block i hi (fun hm => hx (by rw [List.mem_singleton] at hm; rw [hm]; exact ids_get hb))⟩ (fun x hx => .inl hx)).and hS
theorem Goes.inv {Inv' : World → Prop} (hI : ∀ w, Inv w → Inv' w) (h : Goes P F Inv' s) : Goes P F Inv s := fun w hm hn hS => h w hm hn (hS.mono hI)
/-- A call that changes the known block j (b) in a way that is known. -/
theorem Goes.call2 (j b : Nat) (f : FuncId) (args : Array Value) (v : Value) (o : Obj)
    (hr : ∀ w, Holds s.mem w → Stay s.mem.ids w Inv → Calls P f args w fun e w' => e = .returned v ∧ Ch [b] w w' ∧ w'.heap[b]? = some o) (h : Goes P F Inv (putM s v j b o)) (ha : ask s = some (f, args) := by kernel_rfl) (hw : wants s = true := by kernel_rfl) (hf : okf P f = true := by kernel_rfl) (hj : (s.mem[j]?).map (·.1) = some b := by kernel_rfl) : Goes P F Inv s :=
  Goes.call1 j b f args (fun w hm _ hI => (hr w hm hI).mono fun _ _ ⟨h1, h2, h3⟩ => ⟨v, o, fun _ => True, h1, h2, h3, fun _ _ => trivial, h.inv fun _ h => h.1⟩) ha hw hf hj
/-- A slot's value is spelt otherwise. -/
theorem Goes.slot (t : Nat) (v : Value) {u : Value} (e : u = v) (h : Goes P F Inv { s with tmps := s.tmps.set t v }) (hu : s.tmps[t]? = some u := by kernel_rfl) : Goes P F Inv s := by
  subst e
  have : { s with tmps := s.tmps.set t u } = s := by rw [set_self hu]
  rw [this] at h
  exact h
/-- The end: what is answered. -/
def atEnd (s : St) : Bool :=
  match s.todo with
  | [] => true
  | .code .ret :: _ => true
  | _ => false
/-- What the function's results are. -/
def ans (P : Program) (fn : Func) (js : List Nat) (s : St) : Option (SR Value) := srun P (results fn s.tmps.toArray) js none s.mem [] false
theorem Goes.ret (js : List Nat) (v : Value) 
 (h : ∀ w, Holds s.mem w → Stay s.mem.ids w Inv → R (.returned v) w) (hE : atEnd s = true := by kernel_rfl) (hv : (ans P fn js s).map (·.val) = some v := by kernel_rfl) (hd : (ans P fn js s).map (·.d) = some false := by kernel_rfl) (hN : (ans P fn js s).map (fun r => r.ob.map (·.1)) = (ans P fn js s).map (fun r => r.ob.map (·.2)) := by kernel_rfl) : Goes P (bodyPost P fn R) Inv s := by
  intro w hm hn hI
  cases hr : ans P fn js s with
  | none => rw [hr] at hv; cases hv
  | some r =>
    rw [hr] at hv hd hN
    simp only [Option.map_some, Option.some.injEq] at hv hd hN
    obtain ⟨w', D⟩ := srun_did P _ _ _ _ _ _ _ w hr (all_of_map hN) hm hn (by simp)
    have hw' := (D.still hd).2.1
    subst hw'
    have hb : ∃ v, (results fn s.act.tmps).run P w' = .ok v w' ∧ R (.returned v) w' := ⟨v, hv ▸ D.run, h w' hm hI⟩
    unfold atEnd at hE
    split at hE
    · rename_i ht; rw [ht]; exact ⟨rfl, hb⟩
    · rename_i ht; rw [ht]; exact wp_ret (qk_ret ⟨rfl, hb⟩)
    · cases hE
/-- Some of the known blocks. -/
def sub (js : List Nat) (m : Mem) : Mem := js.filterMap fun j => m[j]?
theorem sub_holds {js : List Nat} {m : Mem} {w : World} (h : Holds m w) : Holds (sub js m) w := by
  intro i b o hi
  have h1 := List.mem_of_getElem? hi
  unfold sub at h1
  obtain ⟨j, -, hj⟩ := List.mem_filterMap.1 h1
  exact h.at hj
/-- A region that draws its order is opened; js: the blocks that it reads. -/
def opened (js : List Nat) (s : St) : St :=
  match s.todo with
  | .code (.region _ ops true) :: k => { s with todo := .any ops (sub js s.mem) ops.size (Array.replicate ops.size false) :: k }
  | _ => s
theorem Goes.open (js : List Nat) (h : Goes P F Inv (opened js s)) (hm : P.follows .mixedOrders = true := by kernel_rfl) : Goes P F Inv s := by
  unfold opened at h
  split at h
  · rename_i id ops k ht
    intro w h1 h2 h3
    rw [ht]
    exact qk_any hm (sub_holds h1) (h { w with drawn := w.drawn + 1 } h1 h2 (h3.ch ⟨rfl, rfl, rfl, Nat.le_refl _, fun _ _ _ => rfl⟩ (fun x hx => .inl hx)))
  · exact h
/-- The operation i of a region that draws its order. -/
def anyOp (i : Nat) (s : St) : Option Oper :=
  match s.todo with
  | .any ops _ _ _ :: _ => ops[i]?
  | _ => none
/-- It may be taken first. -/
def anyFirst (i : Nat) (s : St) : Bool :=
  match s.todo with
  | .any ops _ (_ + 1) l :: _ => Region.noSelect ops && Region.free .any ops l i && (Region.ready .any ops l).contains i && (match ops[i]? with | some o => Region.wanted o (yielded ops s.tmps.toArray) | none => false)
  | _ => false
/-- It alone may come up. -/
def anyLone (i : Nat) (s : St) : Bool :=
  match s.todo with
  | .any ops _ (_ + 1) l :: _ => Region.ready .any ops l == [i] && (match ops[i]? with | some o => Region.wanted o (yielded ops s.tmps.toArray) | none => false)
  | _ => false
def putA (i : Nat) (s : St) (v : Value) (m : Mem) : St :=
  match s.todo with
  | .any ops m0 (n + 1) l :: k =>
    match ops[i]? with
    | some o => ⟨.any ops m0 n (l.setIfInBounds i true) :: k, putL s.tmps o.dst v, m⟩
    | none => s
  | _ => s
def putA0 (i : Nat) (s : St) (v : Value) : St := putA i s v s.mem
/-- The blocks that it reads. -/
def anyM (s : St) : Mem :=
  match s.todo with
  | .any _ m0 _ _ :: _ => m0
  | _ => []
theorem Goes.valA (i : Nat) (I : Sem Value) (v : Value) (hr : ∀ w, Holds (anyM s) w → I.run P w = .ok v w) (h : Goes P (bodyPost P fn R) Inv (putA0 i s v)) (ho' : (anyOp i s).map (execOp (evalL s.tmps)) = some (vS I) := by kernel_rfl) (hw : anyFirst i s = true := by kernel_rfl) : Goes P (bodyPost P fn R) Inv s := by
  intro w h1 h2 h3
  have h4 := h w
  obtain ⟨o, ho, hoI⟩ : ∃ o, anyOp i s = some o ∧ execOp (evalL s.tmps) o = vS I := by
    cases hq : anyOp i s with
    | none => rw [hq] at ho'; cases ho'
    | some o => rw [hq] at ho'; exact ⟨o, rfl, by simpa using ho'⟩
  unfold anyFirst at hw
  unfold anyOp at ho
  unfold anyM at hr
  unfold putA0 putA at h4
  split at hw
  · rename_i ops m0 n l k ht
    rw [ht] at ho h4 hr ⊢
    simp only at ho h4 hr
    rw [ho] at hw h4
    simp only [Bool.and_eq_true] at hw h4
    intro h0
    refine wpAnyH_take (v := v) ho hw.1.1.1 hw.1.1.2 hw.1.2 ?_ (.inl ⟨hw.2, fun w' hw' => ?_⟩) h0 ?_
    · intro c a w hq
      rw [qk_panic] at hq ⊢
      obtain ⟨T, ds⟩ := a
      cases hd : o.dst with
      | none => rw [hd] at hq; exact hq
      | some d => rw [hd] at hq; exact hq
    · unfold St.act
      rw [evalL_eq, hoI]
      exact vS_run (hr w' hw')
    · unfold St.act
      rw [putL_eq]
      exact h4 h1 h2 h3 h0
  · cases hw
/-- The one operation that may come up, over all known blocks. -/
def oneA (P : Program) (i j : Nat) (s : St) : Option (St × List (Nat × Nat)) :=
  match anyOp i s with
  | some o =>
    match srun P (execOp (evalL s.tmps) o) [j] none s.mem [] false with
    | some ⟨.value v, m, on, _⟩ => some (putA i s v m, on)
    | some ⟨.skip, m, on, _⟩ => some (putA i s undef m, on)
    | _ => none
  | none => none
def oneSt (P : Program) (i j : Nat) (s : St) : St :=
  match oneA P i j s with
  | some q => q.1
  | none => s
def askA (i : Nat) (s : St) : Option (FuncId × Array Value) :=
  match anyOp i s with
  | some o =>
    match o.op with
    | .call { callee := .value x, args, .. } =>
      match evalL s.tmps x with
      | .func (.func f) first captured => some (f, first ++ args.map (evalL s.tmps) ++ captured)
      | _ => none
    | _ => none
  | none => none
theorem Goes.callA (i : Nat) (f : FuncId) (args : Array Value) 
 (hr : ∀ ops m0 n l k, s.todo = .any ops m0 n l :: k → ∀ w, Holds s.mem w → s.mem.ids.Nodup → Stay s.mem.ids w Inv → Holds m0 w → Calls P f args w fun e w' => ∃ v Inv' m, e = .returned v ∧ Holds m0 w' ∧ Holds m w' ∧ m.ids.Nodup ∧ Stay m.ids w' Inv' ∧ Goes P F Inv' (putA i s v m)) (ha : askA i s = some (f, args) := by kernel_rfl) (hw : anyLone i s = true := by kernel_rfl) (hf : okf P f = true := by kernel_rfl) : Goes P F Inv s := by
  intro w h1 h2 h3
  unfold anyLone at hw
  unfold askA anyOp at ha
  split at hw
  · rename_i ops m0 n l k ht
    rw [ht] at ha ⊢
    simp only at ha
    cases ho : ops[i]? with
    | none => rw [ho] at ha; cases ha
    | some o =>
      rw [ho] at ha hw
      simp only [Bool.and_eq_true] at ha hw
      intro h0
      refine wpAnyH_all (rs := [i]) (eq_of_beq hw.1) (by simp) fun j hj => ?_
      obtain rfl : j = i := by simpa using hj
      unfold wpOp
      rw [ho]
      simp only [St.act, hw.2, if_true]
      unfold Oper.wp
      rw [evalL_eq]
      have he : (execOp (evalL s.tmps) o).run P w = .ok (.enter f args) w := by
        split at ha
        · rename_i x xs ats hop
          split at ha
          · rename_i g first captured hv
            cases ha
            have e : execOp (evalL s.tmps) o = callFunc f (first ++ xs.map (evalL s.tmps) ++ captured) := by
              unfold execOp; rw [hop]; simp only [resolve, hv]; rfl
            rw [e, okf_run hf]
          · cases ha
        · cases ha
      rw [he, Oper.upon_enter]
      refine .inl ?_
      refine (hr _ _ _ _ _ ht w h1 h2 h3 h0).mono fun e w' ⟨v, Inv', m, he, h4, h5, h6, h7, h8⟩ => ?_
      subst he
      have h9 := h8 w'
      unfold putA at h9
      rw [ht] at h9
      simp only [ho] at h9
      show Holds m0 w' ∧ _
      rw [putL_eq]
      exact ⟨h4, h9 h5 h6 h7 h4⟩
  · cases hw
/-- Its beginning. -/
def st0 (fn : Func) (args : Array Value) (m : Mem) : St := ⟨[.code (fn.body.getD .skip)], (args ++ Array.replicate (fn.ntmps - args.size) undef).toList, m⟩
/-- A function is begun. -/
theorem Goes.enter {f : FuncId} {args : Array Value} {w : World} (hf : P.funcs[f]? = some fn) (m : Mem) (Inv : World → Prop) (hm : Holds m w) (hn : m.ids.Nodup) (hI : Stay m.ids w Inv)
 (h : Goes P (bodyPost P fn R) Inv (st0 fn args m)) (hb : fn.body.isSome = true := by kernel_rfl) : Calls P f args w R := by
  obtain ⟨c, hc⟩ := Option.isSome_iff_exists.1 hb
  refine calls_of_wp hf hc ?_
  have h1 := h w hm hn hI
  unfold st0 at h1
  rw [hc] at h1
  have e : (args ++ Array.replicate (fn.ntmps - args.size) undef).toList.toArray = args ++ Array.replicate (fn.ntmps - args.size) undef := by simp
  unfold St.act at h1
  simp only [e] at h1
  exact h1
/-- A frame: n slots, some of them known. -/
def fr (n : Nat) (S : List (Nat × Value)) (J : Nat → Value) : List Value := (List.range n).map fun i => (S.lookup i).getD (J i)
def jk (s : St) (i : Nat) : Value := s.tmps.getD i undef
/-- A loop: what is known at its head is told by an a of α. -/
theorem Goes.loop {α : Type} (n : Nat) (S : α → List (Nat × Value)) (M : α → Mem) (I : α → World → Prop) (Pr : α → Prop) (μ : α → Nat) (a0 : α) (hP : Pr a0) (hI : ∀ w, Inv w → I a0 w)
    (step : ∀ a J, Pr a → (∀ a' s', Pr a' → μ a' < μ a → s'.todo = s.todo → s'.tmps = fr n (S a') (jk s') → s'.mem = M a' → Goes P F (I a') s') → Goes P F (I a) ⟨s.todo, fr n (S a) J, M a⟩) (hT : s.tmps = fr n (S a0) (jk s) := by kernel_rfl) (hM : s.mem = M a0 := by kernel_rfl) : Goes P F Inv s := by
  have key : ∀ m a J, Pr a → μ a = m → Goes P F (I a) ⟨s.todo, fr n (S a) J, M a⟩ := by
    intro m
    induction m using Nat.strongRecOn with
    | _ m ih =>
      intro a J hp hm
      refine step a J hp fun a' s' hp' hlt h1 h2 h3 => ?_
      have := ih (μ a') (hm ▸ hlt) a' (jk s') hp' rfl
      rw [← h1, ← h2, ← h3] at this
      exact this
  have := key _ a0 (jk s) hP rfl
  rw [← hT, ← hM] at this
  exact this.inv hI
theorem Goes.loop0 {α : Type} (n : Nat) (S : α → List (Nat × Value)) (m : Mem) (Pr : α → Prop) (μ : α → Nat) (a0 : α) (hP : Pr a0)
    (step : ∀ a J, Pr a → (∀ a' s', Pr a' → μ a' < μ a → s'.todo = s.todo → s'.tmps = fr n (S a') (jk s') → s'.mem = m → Goes P F Inv s') → Goes P F Inv ⟨s.todo, fr n (S a) J, m⟩) (hT : s.tmps = fr n (S a0) (jk s) := by kernel_rfl) (hM : s.mem = m := by kernel_rfl) : Goes P F Inv s :=
  Goes.loop n S (fun _ => m) (fun _ => Inv) Pr μ a0 hP (fun _ h => h) step hT hM
/-- The same, where only known blocks are changed, and what lies elsewhere stays. -/
theorem Goes.begin {f : FuncId} {args : Array Value} {w : World} (hf : P.funcs[f]? = some fn) (m : Mem) (Fact : World → Prop) (hm : Holds m w) (hn : m.ids.Nodup) (hI : Stay m.ids w Fact)
 (h : Goes P (bodyPost P fn R) (fun w' => Ch m.ids w w' ∧ Fact w') (st0 fn args m)) (hb : fn.body.isSome = true := by kernel_rfl) : Calls P f args w R :=
  Goes.enter hf m _ hm hn (fun w' hc => ⟨hc, hI w' hc⟩) h hb
theorem below_end {m : Mem} {w w' : World} (hm : Holds m w) (hc : Ch m.ids w w') (h : Holds s.mem w') (e : s.mem.take m.length = m) : Below w.heap.size w w' := by
  refine ⟨hc.os, hc.tape, hc.output, hc.size, fun i hi => ?_⟩
  by_cases hx : i ∈ m.ids
  · obtain ⟨q, hq, rfl⟩ := List.mem_map.1 hx
    obtain ⟨j, hj⟩ := List.getElem?_of_mem hq
    have h1 := hm.at (b := q.1) (o := q.2) hj
    have hjl : j < m.length := (List.getElem?_eq_some_iff.1 hj).1
    have h2 : s.mem[j]? = some (q.1, q.2) := by rw [← hj, ← e, List.getElem?_take_of_lt hjl]
    rw [h.at h2, h1]
  · exact hc.block i hi hx
end
end Go.Proofs.YtddbiiejilcbbaaGreatDoor
namespace Go.Proofs.YtddbiiejilcbbaaGreatDoor
open Go Go.RowKit

section
variable {P : Program} {F : Exit → Act → World → Prop} {Inv : World → Prop} {ops : Array Oper} {m0 : Mem} {n : Nat} {l : Array Bool} {k : List TI} {T : List Value} {m : Mem} {i : Nat} {o : Oper}
/-- What must be shown where the operation i comes up. -/
def Took (P : Program) (F : Exit → Act → World → Prop) (Inv : World → Prop) (ops : Array Oper) (m0 : Mem) (n : Nat) (l : Array Bool) (k : List TI) (T : List Value) (m : Mem) (i : Nat) : Prop :=
  ∀ w, Holds m w → m.ids.Nodup → Stay m.ids w Inv → Holds m0 w → wpOp P ops (QK P F k) i (fun a' w' => Holds m0 w' ∧ wpAnyH P .any ops (QK P F k) (Holds m0) n (l.setIfInBounds i true) a' w') ⟨T.toArray, []⟩ w
/-- What the fact says of things that no world holds. -/
theorem Goes.pure {s : St} {Q : Prop} (hQ : ∀ w, Inv w → Q) (h : Q → Goes P F Inv s) : Goes P F Inv s := fun w h1 h2 h3 => h (hQ w h3.now) w h1 h2 h3
end
end Go.Proofs.YtddbiiejilcbbaaGreatDoor
namespace Go.Proofs.YtddbiiejilcbbaaGreatDoor
open Go Go.RowKit

section
variable {P : Program} {F : Exit → Act → World → Prop} {Inv : World → Prop} {s : St}
/-- What may come up. -/
def anyReady (s : St) : List Nat :=
  match s.todo with
  | .any ops _ (_ + 1) l :: _ => Region.ready .any ops l
  | _ => []
/-- What must be shown where the operation i comes up. -/
def TookS (P : Program) (F : Exit → Act → World → Prop) (Inv : World → Prop) (i : Nat) (s : St) : Prop := ∀ ops m0 n l k, s.todo = .any ops m0 (n + 1) l :: k → Took P F Inv ops m0 n l k s.tmps s.mem i
theorem Goes.each (is : List Nat) (hne : is ≠ []) (h : ∀ i ∈ is, TookS P F Inv i s) (hr : anyReady s = is := by kernel_rfl) : Goes P F Inv s := by
  unfold anyReady at hr
  split at hr
  · rename_i ops m0 n l k ht
    intro w h1 h2 h3
    rw [ht]
    intro h0
    subst hr
    exact wpAnyH_all rfl hne fun i hi => h i hi ops m0 n l k ht w h1 h2 h3 h0
  · exact absurd hr.symm hne
theorem Goes.lone1 (i : Nat) (h : TookS P F Inv i s) (hr : anyReady s = [i] := by kernel_rfl) : Goes P F Inv s := Goes.each [i] (by simp) (fun j hj => by rw [List.mem_singleton] at hj; rw [hj]; exact h) hr
theorem Goes.two (i j : Nat) (h : TookS P F Inv i s) (h' : TookS P F Inv j s) (hr : anyReady s = [i, j] := by kernel_rfl) : Goes P F Inv s := Goes.each [i, j] (by simp) (fun a ha => by
  rcases List.mem_cons.1 ha with e | e
  · rw [e]; exact h
  · rw [List.mem_singleton] at e; rw [e]; exact h') hr
/-- It is wanted. -/
def anyWant (i : Nat) (s : St) : Bool :=
  match s.todo with
  | .any ops _ _ _ :: _ => (match ops[i]? with | some o => Region.wanted o (yielded ops s.tmps.toArray) | none => false)
  | _ => false
theorem holds_none {m0 : Mem} (h : m0 = []) (w : World) : Holds m0 w := by subst h; intro j b o hj; simp at hj
/-- It runs over the known blocks. -/
theorem TookS.run (i j : Nat) (h : Goes P F Inv (oneSt P i j s)) (h0 : anyM s = [] := by kernel_rfl) (hw : anyWant i s = true := by kernel_rfl) (hN : ((oneA P i j s).map fun q => q.2.map (·.1)) = (oneA P i j s).map fun q => q.2.map (·.2) := by kernel_rfl) (hk : (oneA P i j s).isSome = true := by kernel_rfl) : TookS P F Inv i s := by
  intro ops m0 n l k ht w h1 h2 h3 _
  unfold oneSt at h
  cases hq : Go.Proofs.YtddbiiejilcbbaaGreatDoor.oneA P i j s with
  | none => rw [hq] at hk; cases hk
  | some q =>
    rw [hq] at h hN
    simp only [Option.map_some, Option.some.injEq] at h hN
    obtain ⟨st, on⟩ := q
    unfold Go.Proofs.YtddbiiejilcbbaaGreatDoor.oneA at hq
    unfold anyWant at hw
    unfold anyM at h0
    rw [ht] at hw h0
    simp only at hw h0
    cases ho : ops[i]? with
    | none => rw [ho] at hw; simp at hw
    | some o =>
      have hoo : anyOp i s = some o := by unfold anyOp; rw [ht]; exact ho
      rw [ho] at hw
      simp only at hw
      rw [hoo] at hq
      simp only at hq
      unfold wpOp
      rw [ho]
      simp only [hw, if_true]
      unfold Oper.wp
      rw [evalL_eq]
      split at hq
      · rename_i v m on' d hs
        cases hq
        obtain ⟨w', D⟩ := srun_did P _ _ _ _ _ _ _ w hs (all_of_map hN) h1 h2 (by simp)
        have h9 := h w'
        unfold putA at h9
        rw [ht] at h9
        simp only [ho] at h9
        rw [D.run, Oper.upon_value, putL_eq]
        exact .inl ⟨holds_none h0 w', h9 D.holds D.nd (h3.ch D.ch D.new) (holds_none h0 w')⟩
      · rename_i m on' d hs
        cases hq
        obtain ⟨w', D⟩ := srun_did P _ _ _ _ _ _ _ w hs (all_of_map hN) h1 h2 (by simp)
        have h9 := h w'
        unfold putA at h9
        rw [ht] at h9
        simp only [ho] at h9
        rw [D.run, Oper.upon_skip, putL_eq]
        exact .inl ⟨holds_none h0 w', h9 D.holds D.nd (h3.ch D.ch D.new) (holds_none h0 w')⟩
      · cases hq
/-- It changes the world in a way that is known otherwise. -/
theorem TookS.eff (i : Nat) (I : Sem Value) (hr : ∀ w, Holds s.mem w → s.mem.ids.Nodup → Stay s.mem.ids w Inv → ∃ v w' Inv' m, I.run P w = .ok v w' ∧ Holds m w' ∧ m.ids.Nodup ∧ Stay m.ids w' Inv' ∧ Goes P F Inv' (putA i s v m)) (h0 : anyM s = [] := by kernel_rfl) (hw : anyWant i s = true := by kernel_rfl) (ho' : (anyOp i s).map (execOp (evalL s.tmps)) = some (vS I) := by kernel_rfl) : TookS P F Inv i s := by
  intro ops m0 n l k ht w h1 h2 h3 _
  unfold anyWant at hw
  unfold anyM at h0
  unfold anyOp at ho'
  rw [ht] at hw h0 ho'
  simp only at hw h0 ho'
  cases ho : ops[i]? with
  | none => rw [ho] at hw; simp at hw
  | some o =>
    rw [ho] at hw ho'
    simp only [Option.map_some, Option.some.injEq] at hw ho'
    obtain ⟨v, w', Inv', m, he, h4, h5, h6, h7⟩ := hr w h1 h2 h3
    have h9 := h7 w'
    unfold putA at h9
    rw [ht] at h9
    simp only [ho] at h9
    unfold wpOp
    rw [ho]
    simp only [hw, if_true]
    unfold Oper.wp
    rw [evalL_eq, ho', vS_run he, Oper.upon_value, putL_eq]
    exact .inl ⟨holds_none h0 w', h9 h4 h5 h6 (holds_none h0 w')⟩
/-- It is a call. -/
theorem TookS.call (i : Nat) (f : FuncId) (args : Array Value) (hr : ∀ w, Holds s.mem w → s.mem.ids.Nodup → Stay s.mem.ids w Inv → Calls P f args w fun e w' => ∃ v Inv' m, e = .returned v ∧ Holds m w' ∧ m.ids.Nodup ∧ Stay m.ids w' Inv' ∧ Goes P F Inv' (putA i s v m)) (h0 : anyM s = [] := by kernel_rfl) (hw : anyWant i s = true := by kernel_rfl) (ha : askA i s = some (f, args) := by kernel_rfl) (hf : okf P f = true := by kernel_rfl) : TookS P F Inv i s := by
  intro ops m0 n l k ht w h1 h2 h3 _
  unfold anyWant at hw
  unfold anyM at h0
  unfold askA anyOp at ha
  rw [ht] at hw h0 ha
  simp only at hw h0 ha
  cases ho : ops[i]? with
  | none => rw [ho] at hw; simp at hw
  | some o =>
    rw [ho] at hw ha
    simp only at hw ha
    unfold wpOp
    rw [ho]
    simp only [hw, if_true]
    unfold Oper.wp
    rw [evalL_eq]
    have he : (execOp (evalL s.tmps) o).run P w = .ok (.enter f args) w := by
      split at ha
      · rename_i x xs ats hop
        split at ha
        · rename_i g first captured hv
          cases ha
          have e : execOp (evalL s.tmps) o = callFunc f (first ++ xs.map (evalL s.tmps) ++ captured) := by
            unfold execOp; rw [hop]; simp only [resolve, hv]; rfl
          rw [e, okf_run hf]
        · cases ha
      · cases ha
    rw [he, Oper.upon_enter]
    refine .inl ?_
    refine (hr w h1 h2 h3).mono fun e w' ⟨v, Inv', m, he, h5, h6, h7, h8⟩ => ?_
    subst he
    have h9 := h8 w'
    unfold putA at h9
    rw [ht] at h9
    simp only [ho] at h9
    show Holds m0 w' ∧ _
    rw [putL_eq]
    exact ⟨holds_none h0 w', h9 h5 h6 h7 (holds_none h0 w')⟩
end
end Go.Proofs.YtddbiiejilcbbaaGreatDoor
namespace Go.Proofs.YtddbiiejilcbbaaGreatDoor
open Go Go.RowKit

section
variable {P : Program} {F : Exit → Act → World → Prop} {Inv : World → Prop} {s : St} {fn : Func} {R : Ending → World → Prop}
/-- Is it the operation whose answer is kept in the slot d? -/
def stopAt (d : Nat) (x : X) : Bool :=
  match nextOp x.st with
  | some (_, o, _, _, _) => o.dst == some d
  | none => false
def exS (P : Program) (d : Nat) : Nat → X → List Nat → X
  | 0, x, _ => x
  | n + 1, x, gs =>
    bif stopAt d x then x else
    match mkG P x gs with
    | some (y, gs') => exS P d n y gs'
    | none =>
      match step P x with
      | some y => exS P d n y gs
      | none => x
variable {d : Nat}
theorem exS_goes (hF : ∀ c T T' ds w, F (.panic c) ⟨T, ds⟩ w → F (.panic c) ⟨T', ds⟩ w) : ∀ (n m : Nat) {x : X}, (∀ gs : List Nat, gs.length = m → Ok (exS P d n x gs) ∧ Goes P F Inv (exS P d n x gs).st) → Ok x ∧ Goes P F Inv x.st
  | 0, m, x, h => h (List.replicate m 0) (by simp)
  | n + 1, m, x, h => by
    cases hst0 : stopAt d x with
    | true =>
      have h1 := h (List.replicate m 0) (by simp)
      unfold exS at h1
      rw [hst0] at h1
      exact h1
    | false =>
    have e : ∀ gs, exS P d (n + 1) x gs = match mkG P x gs with | some (y, gs') => exS P d n y gs' | none => (match step P x with | some y => exS P d n y gs | none => x) := by
      intro gs
      conv => lhs; unfold exS; rw [hst0]
      rfl
    simp only [e] at h
    have plain : (∀ gs : List Nat, gs.length = m → mkG P x gs = none) → Ok x ∧ Goes P F Inv x.st := by
      intro hno
      cases hs : step P x with
      | none => have := h (List.replicate m 0) (by simp); rw [hno _ (by simp), hs] at this; exact this
      | some y =>
        have h1 : Ok y ∧ Goes P F Inv y.st := exS_goes hF n m (fun gs hl => by have := h gs hl; rw [hno gs hl, hs] at this; exact this)
        exact step_goes hF hs h1.1 h1.2
    cases m with
    | zero => exact plain (fun gs hl => by cases gs with | nil => rfl | cons => cases hl)
    | succ m =>
      cases hno : nextOp x.st with
      | none => exact plain (fun gs hl => by cases gs with | nil => rfl | cons => unfold mkG; rw [hno])
      | some q =>
        obtain ⟨ops, o, rest, res, k⟩ := q
        cases hc : (cls o.op == 2 && wants x.st) with
        | false => exact plain (fun gs hl => by cases gs with | nil => rfl | cons => unfold mkG; rw [hno]; simp only [hc])
        | true =>
          have hc' := hc
          rw [Bool.and_eq_true] at hc'
          have hst := step_two (P := P) hno (eq_of_beq hc'.1) hc'.2
          have key : ∀ g, (doOp P o 0 (some g) x (.reg ops rest res :: k) = none → Ok x ∧ Goes P F Inv x.st) ∧ ∀ y, doOp P o 0 (some g) x (.reg ops rest res :: k) = some y → Ok y ∧ Goes P F Inv y.st := by
            intro g
            refine ⟨fun hd => ?_, fun y hd => ?_⟩
            · have := h (g :: List.replicate m 0) (by simp)
              rw [show mkG P x (g :: List.replicate m 0) = none by unfold mkG; rw [hno]; simp only [hc, hd], hst] at this
              exact this
            · refine exS_goes hF n m (fun gs hl => ?_)
              have := h (g :: gs) (by simp [hl])
              rw [show mkG P x (g :: gs) = some (y, gs) by unfold mkG; rw [hno]; simp only [hc, hd]] at this
              exact this
          refine ⟨?_, fun w hm hn hI => ?_⟩
          · cases hd : doOp P o 0 (some 0) x (.reg ops rest res :: k) with
            | none => exact ((key 0).1 hd).1
            | some y =>
              have h1 := doOp_on hd
              have h2 := ((key 0).2 y hd).1
              exact ⟨h1.2.2 h2.1, h1.2.1 ▸ h2.2⟩
          · cases hd : doOp P o 0 (some w.heap.size) x (.reg ops rest res :: k) with
            | none => exact ((key _).1 hd).2 w hm hn hI
            | some y =>
              have h2 := (key _).2 y hd
              exact doOp_goes (nextOp_todo hno) hd (wants_ok hno hc'.2) h2.1 h2.2 hm hn hI (by simp)
def rnS (P : Program) (d : Nat) (hs gs : List Nat) (s : St) : X := exS P d 2000 ⟨s, hs, [], []⟩ gs
theorem rnS_goes {hs : List Nat} {m : Nat} (h : ∀ gs : List Nat, gs.length = m → Ok (rnS P d hs gs s) ∧ Goes P (bodyPost P fn R) Inv (rnS P d hs gs s).st) : Goes P (bodyPost P fn R) Inv s := (exS_goes bp_panic 2000 m h).2
/-- A run up to the operation whose answer is kept in the slot d. -/
theorem Goes.upto (d : Nat) (hs : List Nat) (E : List (Bool × Bool)) (hB : AllB E) (h : Goes P (bodyPost P fn R) Inv (rnS P d hs [] s).st) (hE : (rnS P d hs [] s).ob = E := by kernel_rfl) (hN : (rnS P d hs [] s).on.map (·.1) = (rnS P d hs [] s).on.map (·.2) := by kernel_rfl) : Goes P (bodyPost P fn R) Inv s :=
  rnS_goes (m := 0) fun gs hl => by
    obtain rfl : gs = [] := List.eq_nil_of_length_eq_zero hl
    exact ⟨⟨all_of_map hN, hE ▸ hB.all⟩, h⟩
theorem Goes.upto1 (d : Nat) (hs : List Nat) (E : List (Bool × Bool)) (hB : AllB E) (h : ∀ g, Goes P (bodyPost P fn R) Inv (rnS P d hs [g] s).st) (hE : ∀ g, (rnS P d hs [g] s).ob = E := by intros; kernel_rfl) (hN : ∀ g, (rnS P d hs [g] s).on.map (·.1) = (rnS P d hs [g] s).on.map (·.2) := by intros; kernel_rfl) : Goes P (bodyPost P fn R) Inv s :=
  rnS_goes (m := 1) fun gs hl => by
    obtain ⟨g, rfl⟩ := List.length_eq_one_iff.1 hl
    exact ⟨⟨all_of_map (hN g), hE g ▸ hB.all⟩, h g⟩
end
end Go.Proofs.YtddbiiejilcbbaaGreatDoor
namespace Go.Proofs.YtddbiiejilcbbaaGreatDoor
open Go Go.RowKit

section
variable {P : Program} {Inv : World → Prop} {s : St} {fn : Func} {R : Ending → World → Prop}
end
/-- A place that is reached. -/
theorem Goes.at {P : Program} {F : Exit → Act → World → Prop} {Inv : World → Prop} {s : St} {K : List TI} {n : Nat} {S : List (Nat × Value)} {m : Mem} (h : ∀ J, Goes P F Inv ⟨K, fr n S J, m⟩) (h1 : s.todo = K := by kernel_rfl) (h2 : s.tmps = fr n S (jk s) := by kernel_rfl) (h3 : s.mem = m := by kernel_rfl) : Goes P F Inv s := by
  have := h (jk s)
  rw [← h1, ← h2, ← h3] at this
  exact this
end Go.Proofs.YtddbiiejilcbbaaGreatDoor
namespace Go.Proofs.YtddbiiejilcbbaaGreatDoor
open Go Go.RowKit

section
variable {P : Program} {F : Exit → Act → World → Prop} {Inv : World → Prop} {s : St}
def skS (I : Sem Unit) : Sem Next := do I; pure .skip
theorem skS_run {I : Sem Unit} {w w' : World} (h : I.run P w = .ok () w') : (skS I).run P w = .ok .skip w' := by
  unfold skS
  simp only [Sem.run_bind, h, Result.andThen_ok, Sem.run_pure]
/-- A store that is known otherwise. -/
theorem Goes.sto (I : Sem Unit)
 (hr : ∀ w, Holds s.mem w → s.mem.ids.Nodup → Stay s.mem.ids w Inv → ∃ w' Inv' m, I.run P w = .ok () w' ∧ Holds m w' ∧ m.ids.Nodup ∧ Stay m.ids w' Inv' ∧ Goes P F Inv' (put s undef m)) (ho : (nextOp s).map (fun q => execOp (evalL s.tmps) q.2.1) = some (skS I) := by kernel_rfl) (hw : wants s = true := by kernel_rfl) : Goes P F Inv s := by
  intro w hm hn hI
  cases hno : nextOp s with
  | none => rw [hno] at ho; cases ho
  | some q =>
    obtain ⟨ops, o', rest, res, k⟩ := q
    rw [hno] at ho
    have ho : execOp (evalL s.tmps) o' = skS I := by simpa using ho
    rw [nextOp_todo hno]
    show wpList P ops (QK P F k) (o' :: rest) ⟨s.tmps.toArray, []⟩ w
    refine wpList_step fun K hK => ?_
    rw [if_pos (wants_ok hno hw)]
    unfold Oper.wp
    obtain ⟨w', Inv', m, he, h1, h2, h3, h4⟩ := hr w hm hn hI
    have h5 := h4 w'
    unfold put at h5
    rw [hno] at h5
    rw [evalL_eq, ho, skS_run he, Oper.upon_skip]
    refine hK _ _ ?_
    rw [putL_eq]
    exact h5 h1 h2 h3
/-- What lies in the known blocks is spelt otherwise. -/
theorem Goes.objs (m : Mem) (h : ∀ w, Holds s.mem w → Holds m w) (G : Goes P F Inv ⟨s.todo, s.tmps, m⟩) (hi : s.mem.ids = m.ids := by kernel_rfl) : Goes P F Inv s := fun w hm hn hI => G w (h w hm) (hi ▸ hn) (hi ▸ hI)
end
end Go.Proofs.YtddbiiejilcbbaaGreatDoor
namespace Go.Proofs.YtddbiiejilcbbaaGreatDoor
open Go Go.RowKit

section
variable {P : Program} {F : Exit → Act → World → Prop} {Inv : World → Prop} {s : St}
def newO (P : Program) (i g : Nat) (s : St) : Option St :=
  match anyOp i s with
  | some o =>
    match srun P (execOp (evalL s.tmps) o) [0] (some g) s.mem [] false with
    | some ⟨.value v, m, [], _⟩ => some (putA i s v m)
    | _ => none
  | none => none
def newOS (P : Program) (i g : Nat) (s : St) : St := (newO P i g s).getD s
end
end Go.Proofs.YtddbiiejilcbbaaGreatDoor
namespace Go.Proofs.YtddbiiejilcbbaaGreatDoor
open Go Go.RowKit

section
variable {P : Program} {F : Exit → Act → World → Prop} {Inv : World → Prop} {s : St}
theorem Ch.mono {L L' : List Nat} {w w' : World} (h : Ch L w w') (hL : ∀ x ∈ L, x ∈ L') : Ch L' w w' := ⟨h.os, h.tape, h.output, h.size, fun i hi hx => h.block i hi (fun hm => hx (hL i hm))⟩
theorem Stay.less {L L' : List Nat} {w : World} {Q : World → Prop} (h : Stay L w Q) (hL : ∀ x ∈ L', x ∈ L) : Stay L' w Q := fun w' hc => h w' (hc.mono hL)
/-- Only the first n blocks are known any more. -/
def keep (n : Nat) (s : St) : St := ⟨s.todo, s.tmps, s.mem.take n⟩
theorem Goes.keep (n : Nat) (h : Goes P F Inv (keep n s)) : Goes P F Inv s := by
  intro w hm hn hI
  have hsub : ∀ x ∈ Mem.ids (s.mem.take n), x ∈ s.mem.ids := by
    intro x hx
    unfold Mem.ids at hx ⊢
    rw [List.map_take] at hx
    exact List.mem_of_mem_take hx
  refine h w (fun j b o hj => ?_) ?_ (hI.less hsub)
  · have hl : j < n := by
      rcases Nat.lt_or_ge j n with h1 | h1
      · exact h1
      · have hj' : (s.mem.take n)[j]? = some (b, o) := hj
        rw [List.getElem?_take_eq_none h1] at hj'
        cases hj'
    exact hm j b o (by rw [← List.getElem?_take_of_lt hl]; exact hj)
  · have : (Mem.ids (s.mem.take n)).Sublist s.mem.ids := by
      unfold Mem.ids
      rw [List.map_take]
      exact List.take_sublist _ _
    exact hn.sublist this
/-- What append asks of a type: its element's size and bytes. -/
def elOk (P : Program) (t e : TypeId) (size bytes : Nat) : Bool :=
  (match P.underlying t with | some (.slice e') => e' == e | _ => false) && (match P.info? e with | some i => i.size == size && i.bytes == bytes && (match i.zero with | some z => z.cells.size == size | none => false) | none => false) && decide (0 < size)
/-- What an append of the known block j does. -/
theorem append_core {base : Nat} {t e ty : TypeId} {size bytes : Nat} {v : Value} {n : Nat} {xs : List Value} {j bj m c : Nat} {news : List Value} {et : TypeId} {z : Nat × Nat} {w : World} (hm : Holds s.mem w)
    (hown : w.ownsRow base e size v n xs) (hbase : base ≤ w.heap.size) (hl : news.length = m * size) (h1 : ∀ u ∈ news, u.oneCell' = true) (hm0 : 0 < m) (h63 : n + m ≤ maxLen) (hbytes : (n + m) * bytes ≤ 140737488355328)
    (hj : s.mem[j]? = some (bj, .cells news.toArray et z)) (hel : elOk P t e size bytes = true) : ∃ a c' w', (Builtin.append_ #[t, t] ty #[v, .slice (some ⟨bj, 0, none⟩) m c]).run P w = .ok (.slice a (n + m) c') w' ∧ w'.ownsRow base e size (.slice a (n + m) c') (n + m) (xs ++ news) ∧ w.grownBy w' v.ownBlock ∧ ((Value.slice a (n + m) c').ownBlock = v.ownBlock ∨ (Value.slice a (n + m) c').ownBlock = some w.heap.size) := by
  unfold elOk at hel
  simp only [Bool.and_eq_true, decide_eq_true_eq] at hel
  obtain ⟨⟨hu, hi⟩, hsz⟩ := hel
  cases hu1 : P.underlying t with
  | none => rw [hu1] at hu; cases hu
  | some d =>
    rw [hu1] at hu
    obtain rfl : d = .slice e := by
      cases d <;> simp at hu
      rw [hu]
    cases hi1 : P.info? e with
    | none => rw [hi1] at hi; cases hi
    | some i =>
      rw [hi1] at hi
      simp only [Bool.and_eq_true, beq_iff_eq] at hi
      cases hz1 : i.zero with
      | none => rw [hz1] at hi; simp at hi
      | some z0 =>
        rw [hz1] at hi
        have hblk := hm.at hj
        obtain ⟨v', w', hrun, hown', hgr, -, hob⟩ := run_append_own_at (P := P) (w := w) base t ty e i z0 size bytes hu1 hi1 hz1 hi.1.1 hi.1.2 (eq_of_beq hi.2) hsz v n xs hown ⟨bj, 0, none⟩ m c news hl (fun k u hu => by
          have e1 : (⟨bj, 0, none⟩ : Addr).add k = ⟨bj, k, none⟩ := by unfold Addr.add; split <;> simp_all
          rw [e1]
          unfold World.cell?
          rw [hblk]
          simpa using hu) h1 h63 hbytes hbase
        obtain ⟨a, c', rfl⟩ : ∃ a c', v' = .slice a (n + m) c' := by
          rcases hown'.2 with ⟨-, h0⟩ | ⟨g, cap, cur, e, -⟩
          · omega
          · exact ⟨_, _, e⟩
        exact ⟨a, c', w', hrun, hown', hgr, hob⟩
end
end Go.Proofs.YtddbiiejilcbbaaGreatDoor
namespace Go.Proofs.YtddbiiejilcbbaaGreatDoor
open Go Go.RowKit

/-- No fence, but of a round's frame, or of none. -/
def FW (r : Option Nat) : Fence := { Fence.wide with round := r }
section
variable {P : Program} {F : Exit → Act → World → Prop} {Inv : World → Prop} {s : St} {fn : Func} {R : Ending → World → Prop}
def isDefer : Op → Bool
  | .defer _ => true
  | _ => false
theorem semAt_not (r : Option Nat) (ρ : Operand → Value) {o : Oper} (h : isDefer o.op = false) : o.semAt r ρ = execOp ρ o :=
  Oper.semAt_eq r ρ o fun c e => by rw [e] at h; cases h
/-- One operation of a region, by its place: the frame, the blocks, what must be the same, was anything changed? -/
structure OR where
  T : List Value
  m : Mem
  on : List (Nat × Nat)
  d : Bool
def opRun (P : Program) (ops : Array Oper) (i h : Nat) (g : Option Nat) (T : List Value) (m : Mem) : Option OR :=
  match ops[i]? with
  | some o =>
    match o.guard, isDefer o.op with
    | none, false =>
      match srun P (execOp (evalL T) o) [h] g m [] false with
      | some ⟨.value v, m', on, d⟩ => some ⟨putL T o.dst v, m', on, d⟩
      | some ⟨.skip, m', on, d⟩ => some ⟨putL T o.dst undef, m', on, d⟩
      | _ => none
    | _, _ => none
  | none => none
theorem putL_ds (T : List Value) (ds : List Deferred) (d : Option Tmp) (v : Value) : (Act.mk T.toArray ds).put d v = ⟨(putL T d v).toArray, ds⟩ := by
  cases d <;> simp [Act.put, putL]
theorem wanted_none {ops : Array Oper} {o : Oper} {a : Array Value} (hg : o.guard = none) : Region.wanted o (yielded ops a) = true := by unfold Region.wanted; rw [hg]
/-- An operation that is run. -/
theorem wi_op {r : Option Nat} {ops : Array Oper} {Q : Exit → Act → World → Prop} {i : Nat} {rest : List Nat} {T : List Value} {ds : List Deferred} {m : Mem} {w : World} (h : Nat) (g : Option Nat) {q : OR} (hs : opRun P ops i h g T m = some q) (hon : q.on.map (·.1) = q.on.map (·.2)) (hm : Holds m w) (hn : m.ids.Nodup) (hg : ∀ n, g = some n → n = w.heap.size)
    (k : ∀ w', Holds q.m w' → q.m.ids.Nodup → Ch m.ids w w' → (∀ x ∈ q.m.ids, x ∈ m.ids ∨ w.heap.size ≤ x) → (q.d = false → w' = w) → wpOpsIn (FW r) 0 P ops Q rest ⟨q.T.toArray, ds⟩ w') : wpOpsIn (FW r) 0 P ops Q (i :: rest) ⟨T.toArray, ds⟩ w := by
  unfold opRun at hs
  split at hs
  · rename_i o ho
    split at hs
    · rename_i hgu hde
      unfold wpOpsIn
      rw [ho]
      simp only [wanted_none hgu, if_true]
      refine ⟨fun _ _ => trivial, ?_⟩
      rw [semAt_not _ _ hde, evalL_eq]
      split at hs
      · rename_i v m' on d hr
        cases hs
        obtain ⟨w', D⟩ := srun_did P _ _ _ _ _ _ _ w hr (all_of_map hon) hm hn hg
        rw [D.run, Oper.uponIn_value, putL_ds]
        exact k w' D.holds D.nd D.ch D.new (fun hd => (D.still hd).2.1)
      · rename_i m' on d hr
        cases hs
        obtain ⟨w', D⟩ := srun_did P _ _ _ _ _ _ _ w hr (all_of_map hon) hm hn hg
        rw [D.run, Oper.uponIn_skip, putL_ds]
        exact k w' D.holds D.nd D.ch D.new (fun hd => (D.still hd).2.1)
      · cases hs
    · cases hs
  · cases hs
/-- Some operations, by their places and hints, that make nothing. -/
def orN (P : Program) (ops : Array Oper) : List (Nat × Nat) → List Value → Mem → Option OR
  | [], T, m => some ⟨T, m, [], false⟩
  | p :: l, T, m =>
    match opRun P ops p.1 p.2 none T m with
    | some q =>
      match orN P ops l q.T q.m with
      | some q' => some ⟨q'.T, q'.m, q.on ++ q'.on, q.d || q'.d⟩
      | none => none
    | none => none
def orT (P : Program) (ops : Array Oper) (l : List (Nat × Nat)) (T : List Value) (m : Mem) : OR := (orN P ops l T m).getD ⟨T, m, [], true⟩
theorem wi_runs0 {r : Option Nat} {ops : Array Oper} {Q : Exit → Act → World → Prop} {ds : List Deferred} {rest : List Nat} : ∀ (l : List (Nat × Nat)) {T : List Value} {m : Mem} {w : World} {q : OR}, orN P ops l T m = some q → (∀ p ∈ q.on, p.1 = p.2) → Holds m w → m.ids.Nodup →
    (∀ w', Holds q.m w' → q.m.ids.Nodup → Ch m.ids w w' → (∀ x ∈ q.m.ids, x ∈ m.ids ∨ w.heap.size ≤ x) → (q.d = false → w' = w) → wpOpsIn (FW r) 0 P ops Q rest ⟨q.T.toArray, ds⟩ w') → wpOpsIn (FW r) 0 P ops Q (l.map (·.1) ++ rest) ⟨T.toArray, ds⟩ w
  | [], T, m, w, q, h, _, hm, hn, k => by
    unfold orN at h
    cases h
    exact k w hm hn (Ch.refl _ _) (fun x hx => .inl hx) (fun _ => rfl)
  | p :: l, T, m, w, q, h, ho, hm, hn, k => by
    unfold orN at h
    split at h
    · rename_i q1 h1
      split at h
      · rename_i q2 h2
        cases h
        have hmap : q1.on.map (·.1) = q1.on.map (·.2) := by
          refine List.map_congr_left fun x hx => ho x (List.mem_append_left _ hx)
        refine wi_op p.2 none h1 hmap hm hn (fun n e => by cases e) fun w1 m1 n1 c1 s1 d1 => ?_
        refine wi_runs0 l h2 (fun x hx => ho x (List.mem_append_right _ hx)) m1 n1 fun w2 m2 n2 c2 s2 d2 => ?_
        refine k w2 m2 n2 (c1.trans c2 s1) (fun x hx => ?_) (fun hd => ?_)
        · rcases s2 x hx with e | e
          · exact s1 x e
          · exact .inr (Nat.le_trans c1.size e)
        · simp only [Bool.or_eq_false_iff] at hd
          exact (d2 hd.2).trans (d1 hd.1)
      · cases h
    · cases h
theorem wi_runs {r : Option Nat} {ops : Array Oper} {Q : Exit → Act → World → Prop} {ds : List Deferred} {rest ix : List Nat} {T : List Value} {m : Mem} {w : World} (l : List (Nat × Nat)) (hm : Holds m w) (hn : m.ids.Nodup)
    (k : ∀ w', Holds (orT P ops l T m).m w' → (orT P ops l T m).m.ids.Nodup → Ch m.ids w w' → (∀ x ∈ (orT P ops l T m).m.ids, x ∈ m.ids ∨ w.heap.size ≤ x) → ((orT P ops l T m).d = false → w' = w) → wpOpsIn (FW r) 0 P ops Q rest ⟨(orT P ops l T m).T.toArray, ds⟩ w')
    (hx : ix = l.map (·.1) ++ rest := by kernel_rfl) (hs : (orN P ops l T m).isSome = true := by kernel_rfl) (ho : (orT P ops l T m).on.map (·.1) = (orT P ops l T m).on.map (·.2) := by kernel_rfl) : wpOpsIn (FW r) 0 P ops Q ix ⟨T.toArray, ds⟩ w := by
  rw [hx]
  obtain ⟨q, hq⟩ := Option.isSome_iff_exists.1 hs
  have e : orT P ops l T m = q := by unfold orT; rw [hq]; rfl
  rw [e] at k ho
  exact wi_runs0 l hq (all_of_map ho) hm hn k
/-- One that makes a block. -/
def orG (P : Program) (ops : Array Oper) (i : Nat) (g : Nat) (T : List Value) (m : Mem) : OR := (opRun P ops i 0 (some g) T m).getD ⟨T, m, [], true⟩
theorem wi_new {r : Option Nat} {ops : Array Oper} {Q : Exit → Act → World → Prop} {ds : List Deferred} {rest : List Nat} {T : List Value} {m : Mem} {w : World} (i : Nat) (hm : Holds m w) (hn : m.ids.Nodup)
    (k : ∀ g w', g = w.heap.size → Holds (orG P ops i g T m).m w' → (orG P ops i g T m).m.ids.Nodup → Ch m.ids w w' → (∀ x ∈ (orG P ops i g T m).m.ids, x ∈ m.ids ∨ w.heap.size ≤ x) → wpOpsIn (FW r) 0 P ops Q rest ⟨(orG P ops i g T m).T.toArray, ds⟩ w')
    (hs : ∀ g, (opRun P ops i 0 (some g) T m).isSome = true := by intros; kernel_rfl) (ho : ∀ g, (orG P ops i g T m).on.map (·.1) = (orG P ops i g T m).on.map (·.2) := by intros; kernel_rfl) : wpOpsIn (FW r) 0 P ops Q (i :: rest) ⟨T.toArray, ds⟩ w := by
  obtain ⟨q, hq⟩ := Option.isSome_iff_exists.1 (hs w.heap.size)
  have e : orG P ops i w.heap.size T m = q := by unfold orG; rw [hq]; rfl
  have k := k w.heap.size
  have ho := ho w.heap.size
  rw [e] at k ho
  exact wi_op 0 (some w.heap.size) hq ho hm hn (fun n h => by cases h; rfl) fun w' a b c d _ => k w' rfl a b c d
/-- What an operation calls. -/
def askO (ops : Array Oper) (i : Nat) (T : List Value) : Option (Value × Array Value × Option Tmp) :=
  match ops[i]? with
  | some o =>
    match o.guard, o.op with
    | none, .call { callee := .value x, args, .. } => some (evalL T x, args.map (evalL T), o.dst)
    | _, _ => none
  | none => none
theorem askO_some {ops : Array Oper} {i : Nat} {T : List Value} {v : Value} {args : Array Value} {d : Option Tmp} (h : askO ops i T = some (v, args, d)) : ∃ o, ops[i]? = some o ∧ o.guard = none ∧ isDefer o.op = false ∧ o.dst = d ∧ ∃ x xs ats, o.op = .call { callee := .value x, args := xs, argTypes := ats } ∧ evalL T x = v ∧ xs.map (evalL T) = args := by
  unfold askO at h
  split at h
  · rename_i o ho
    split at h
    · rename_i x xs ats hg hop
      cases h
      exact ⟨o, ho, hg, by rw [hop]; rfl, rfl, x, xs, _, hop, rfl, rfl⟩
    · cases h
  · cases h
theorem wi_call {r : Option Nat} {ops : Array Oper} {Q : Exit → Act → World → Prop} {i : Nat} {rest : List Nat} {T : List Value} {ds : List Deferred} {w : World} {f : FuncId} {first captured args : Array Value} {d : Option Tmp} (ha : askO ops i T = some (.func (.func f) first captured, args, d)) (hf : okf P f = true)
    (k : Calls P f (first ++ args ++ captured) w fun e w' => ∃ v, e = .returned v ∧ wpOpsIn (FW r) 0 P ops Q rest ⟨(putL T d v).toArray, ds⟩ w') : wpOpsIn (FW r) 0 P ops Q (i :: rest) ⟨T.toArray, ds⟩ w := by
  obtain ⟨o, ho, hgu, hde, rfl, x, xs, ats, hop, hx, rfl⟩ := askO_some ha
  unfold wpOpsIn
  rw [ho]
  simp only [wanted_none hgu, if_true]
  refine ⟨fun _ _ => trivial, ?_⟩
  have e : execOp (evalL T) o = callFunc f (first ++ xs.map (evalL T) ++ captured) := by
    unfold execOp; rw [hop]; simp only [resolve, hx]; rfl
  rw [semAt_not _ _ hde, evalL_eq, e, okf_run hf, Oper.uponIn_enter]
  refine ⟨fun h => (by cases h), ?_⟩
  have h1 := (callsIn_wide (n := 0)).2 k
  show CallsIn Fence.wide 0 P _ _ w _
  refine h1.mono fun e w' ⟨v, he, h⟩ => ?_
  subst he
  show wpOpsIn _ _ _ _ _ _ _ _
  rw [putL_ds]
  exact h
theorem wi_yield {r : Option Nat} {ops : Array Oper} {Q : Exit → Act → World → Prop} {i : Nat} {rest : List Nat} {T : List Value} {ds : List Deferred} {w : World} {l : Nat} {args : Array Value} {d : Option Tmp} (ha : askO ops i T = some (.func (.yield l) #[] #[], args, d))
    (k : YieldAt Fence.wide 0 P l args w fun e w' => ∃ v, e = .returned v ∧ wpOpsIn (FW r) 0 P ops Q rest ⟨(putL T d v).toArray, ds⟩ w') : wpOpsIn (FW r) 0 P ops Q (i :: rest) ⟨T.toArray, ds⟩ w := by
  obtain ⟨o, ho, hgu, hde, rfl, x, xs, ats, hop, hx, rfl⟩ := askO_some ha
  unfold wpOpsIn
  rw [ho]
  simp only [wanted_none hgu, if_true]
  refine ⟨fun _ _ => trivial, ?_⟩
  obtain ⟨fn, tmps, assign, body, hy, hR⟩ := k
  have e : execOp (evalL T) o = Instr.yield l (xs.map (evalL T)) := by
    unfold execOp; rw [hop]; simp only [resolve, hx]
    show Instr.yield l (#[] ++ _) = _
    rw [Array.empty_append]
  rw [semAt_not _ _ hde, evalL_eq, e, hy, Oper.uponIn_round]
  refine ⟨fun h => (by cases h), ?_⟩
  show RoundIn Fence.wide 0 P _ _ _ _ _ w _
  refine hR.mono fun e w' ⟨v, he, h⟩ => ?_
  subst he
  show wpOpsIn _ _ _ _ _ _ _ _
  rw [putL_ds]
  exact h
/-- What is known and was not there is new. -/
theorem fresh_of {ids L : List Nat} {w w' : World} {Q : World → Prop} (h : Stay ids w' (fun w2 => Ch L w w2 ∧ Q w2)) {g : Nat} (hg : g ∈ ids) (hL : g ∉ L) : w.heap.size ≤ g := by
  rcases Nat.lt_or_ge g w.heap.size with hlt | hge
  · exfalso
    have hlt' : g < w'.heap.size := Nat.lt_of_lt_of_le hlt h.now.1.size
    have key : ∀ o : Obj, w.heap[g]? = some o := by
      intro o
      have hc : Ch ids w' { w' with heap := w'.heap.setIfInBounds g o } := ⟨rfl, rfl, rfl, by show _ ≤ (w'.heap.setIfInBounds g o).size; simp, fun i _ hx => Array.getElem?_setIfInBounds_ne (fun (e : g = i) => hx (e ▸ hg))⟩
      have h1 := (h _ hc).1.block g hlt hL
      rw [← h1]
      exact Array.getElem?_setIfInBounds_self_of_lt hlt'
    have h1 := key (.map #[] 0)
    rw [key (.map #[] 1)] at h1
    cases h1
  · exact hge
/-- The region that is next. -/
def nextReg (s : St) : Array Oper :=
  match s.todo with
  | .code (.region _ ops false) :: _ => ops
  | _ => #[]
def atReg (s : St) : Bool :=
  match s.todo with
  | .code (.region _ _ false) :: _ => true
  | _ => false
theorem Goes.reg (h : ∀ w, Holds s.mem w → s.mem.ids.Nodup → Stay s.mem.ids w Inv → wpOpsIn (FW none) 0 P (nextReg s) (QK P F s.todo.tail) (List.range (nextReg s).size) ⟨s.tmps.toArray, []⟩ w) (ha : atReg s = true := by kernel_rfl) : Goes P F Inv s := by
  intro w h1 h2 h3
  have h4 := h w h1 h2 h3
  unfold atReg at ha
  unfold nextReg at h4
  split at ha
  · rename_i id ops k ht
    rw [ht] at h4 ⊢
    exact (wpIn_wide (n := 0)).1 (wpIn_region h4)
  · cases ha
/-- A region's end. -/
theorem wi_end {r : Option Nat} {ops : Array Oper} {k : List TI} {T : List Value} {w : World} (Inv : World → Prop) (m : Mem) (hm : Holds m w) (hn : m.ids.Nodup) (hI : Stay m.ids w Inv) (G : Goes P F Inv ⟨k, T, m⟩) : wpOpsIn (FW r) 0 P ops (QK P F k) [] ⟨T.toArray, []⟩ w := G w hm hn hI
theorem Holds.nil {w : World} : Holds [] w := fun j b o h => by cases h
/-- A run of so many steps, whatever is asked at the end. -/
def rnN (P : Program) (n : Nat) (hs gs : List Nat) (s : St) : X := exG P n ⟨s, hs, [], []⟩ gs
/-- Nothing is asked of panics. -/
def NoP (F : Exit → Act → World → Prop) : Prop := ∀ c T T' ds w, F (.panic c) ⟨T, ds⟩ w → F (.panic c) ⟨T', ds⟩ w
theorem Goes.runN (hF : NoP F) (n : Nat) (hs : List Nat) (E : List (Bool × Bool)) (hB : AllB E) (h : Goes P F Inv (rnN P n hs [] s).st) (hE : (rnN P n hs [] s).ob = E := by kernel_rfl) (hN : (rnN P n hs [] s).on.map (·.1) = (rnN P n hs [] s).on.map (·.2) := by kernel_rfl) : Goes P F Inv s :=
  (exG_goes hF n 0 fun gs hl => by
    obtain rfl : gs = [] := List.eq_nil_of_length_eq_zero hl
    exact ⟨⟨all_of_map hN, hE ▸ hB.all⟩, h⟩).2
theorem Goes.runN1 (hF : NoP F) (n : Nat) (hs : List Nat) (E : List (Bool × Bool)) (hB : AllB E) (h : ∀ g, Goes P F Inv (rnN P n hs [g] s).st) (hE : ∀ g, (rnN P n hs [g] s).ob = E := by intros; kernel_rfl) (hN : ∀ g, (rnN P n hs [g] s).on.map (·.1) = (rnN P n hs [g] s).on.map (·.2) := by intros; kernel_rfl) : Goes P F Inv s :=
  (exG_goes hF n 1 fun gs hl => by
    obtain ⟨g, rfl⟩ := List.length_eq_one_iff.1 hl
    exact ⟨⟨all_of_map (hN g), hE g ▸ hB.all⟩, h g⟩).2
theorem Goes.runN2 (hF : NoP F) (n : Nat) (hs : List Nat) (E : List (Bool × Bool)) (hB : AllB E) (h : ∀ g h, Goes P F Inv (rnN P n hs [g, h] s).st) (hE : ∀ g h, (rnN P n hs [g, h] s).ob = E := by intros; kernel_rfl) (hN : ∀ g h, (rnN P n hs [g, h] s).on.map (·.1) = (rnN P n hs [g, h] s).on.map (·.2) := by intros; kernel_rfl) : Goes P F Inv s :=
  (exG_goes hF n 2 fun gs hl => by
    match gs, hl with
    | [a, b], _ => exact ⟨⟨all_of_map (hN a b), hE a b ▸ hB.all⟩, h a b⟩).2
theorem bp_noP : NoP (bodyPost P fn R) := bp_panic
/-- What is asked of a body that ranges over a function. -/
def bpM (P : Program) (fn : Func) (R : Ending → World → Prop) : Exit → Act → World → Prop
  | .panic _, _, _ => False
  | e, a, w => bodyPostM Fence.wide 0 P fn R e a w
theorem bpM_noP : NoP (bpM P fn R) := fun _ _ _ _ _ h => h.elim
theorem Goes.enterM {f : FuncId} {args : Array Value} {w : World} (hf : P.funcs[f]? = some fn) (m : Mem) (Inv : World → Prop) (hm : Holds m w) (hn : m.ids.Nodup) (hI : Stay m.ids w Inv)
 (h : Goes P (bpM P fn R) Inv (st0 fn args m)) (hb : fn.body.isSome = true := by kernel_rfl) : Calls P f args w R := by
  obtain ⟨c, hc⟩ := Option.isSome_iff_exists.1 hb
  refine (callsIn_wide (n := 0)).1 (callsIn_of_wp_marks hf hc trivial ?_ rfl)
  have h1 := h w hm hn hI
  unfold st0 at h1
  rw [hc] at h1
  have e : (args ++ Array.replicate (fn.ntmps - args.size) undef).toList.toArray = args ++ Array.replicate (fn.ntmps - args.size) undef := by simp
  unfold St.act at h1
  simp only [e] at h1
  refine (wpIn_wide (n := 0)).2 (wp_mono (show c.wp P (bpM P fn R) _ w from h1) fun e a w q => ?_)
  cases e <;> first | exact q | exact q.elim
end
end Go.Proofs.YtddbiiejilcbbaaGreatDoor
namespace Go.Proofs.YtddbiiejilcbbaaGreatDoor
open Go Go.RowKit

section
variable {P : Program} {F : Exit → Act → World → Prop} {Inv : World → Prop} {s : St} {fn : Func} {R : Ending → World → Prop}
/-- A region that draws its order is opened; it reads other blocks, too. -/
def openedY (js : List Nat) (ex : Mem) (s : St) : St :=
  match s.todo with
  | .code (.region _ ops true) :: k => { s with todo := .any ops (sub js s.mem ++ ex) ops.size (Array.replicate ops.size false) :: k }
  | _ => s
theorem Holds.cat {m m' : Mem} {w : World} (h : Holds m w) (h' : Holds m' w) : Holds (m ++ m') w := by
  intro j b o hj
  rcases List.mem_append.1 (List.mem_of_getElem? hj) with hx | hx
  · obtain ⟨i, hi⟩ := List.getElem?_of_mem hx
    exact h i b o hi
  · obtain ⟨i, hi⟩ := List.getElem?_of_mem hx
    exact h' i b o hi
theorem Goes.openY (js : List Nat) (ex : Mem) (hex : ∀ w, Inv w → Holds ex w) (h : Goes P F Inv (openedY js ex s)) (hm : P.follows .mixedOrders = true := by kernel_rfl) : Goes P F Inv s := by
  unfold openedY at h
  split at h
  · rename_i id ops k ht
    intro w h1 h2 h3
    rw [ht]
    exact qk_any hm ((sub_holds h1).cat (hex w h3.now)) (h { w with drawn := w.drawn + 1 } h1 h2 (h3.ch ⟨rfl, rfl, rfl, Nat.le_refl _, fun _ _ _ => rfl⟩ (fun x hx => .inl hx)))
  · exact h
theorem Holds.bel {m : Mem} {w w' : World} (h : Holds m w) (hB : Below w.heap.size w w') : Holds m w' := fun j b o hj => (hB.block b (lt_of_get (h j b o hj))).trans (h j b o hj)
theorem Stay.bel {L : List Nat} {w w' : World} (h : Stay L w Inv) (hB : Below w.heap.size w w') : Stay L w' Inv := h.ch ⟨hB.os, hB.tape, hB.output, hB.size, fun i hi _ => hB.block i hi⟩ (fun _ hx => .inl hx)
/-- The one that may come up is a call that only makes new blocks. -/
theorem Goes.callA0 (i : Nat) (f : FuncId) (args : Array Value) (v : Value) (hr : ∀ w, Holds s.mem w → Stay s.mem.ids w Inv → Calls P f args w fun e w' => e = .returned v ∧ Below w.heap.size w w') (h : Goes P F Inv (putA0 i s v)) (ha : askA i s = some (f, args) := by kernel_rfl) (hw : anyLone i s = true := by kernel_rfl) (hf : okf P f = true := by kernel_rfl) : Goes P F Inv s :=
  Goes.callA i f args (fun _ _ _ _ _ _ w hm hn hI h0 => (hr w hm hI).mono fun _ _ ⟨he, hB⟩ => ⟨v, Inv, s.mem, he, h0.bel hB, hm.bel hB, hn, hI.bel hB, h⟩) ha hw hf
end
end Go.Proofs.YtddbiiejilcbbaaGreatDoor
namespace Go.Proofs.YtddbiiejilcbbaaGreatDoor
open Go Go.RowKit

section
variable {P : Program} {F : Exit → Act → World → Prop} {Inv : World → Prop} {s : St}
/-- The operation i of a drawn region makes a block. -/
def newA (P : Program) (i g : Nat) (s : St) : Option St :=
  match anyOp i s with
  | some o =>
    match srun P (execOp (evalL s.tmps) o) [0] (some g) s.mem [] false with
    | some ⟨.value v, m, [], _⟩ => some (putA i s v m)
    | _ => none
  | none => none
def newSt (P : Program) (i g : Nat) (s : St) : St := (newA P i g s).getD s
theorem TookS.new1 (i n1 : Nat) (js : List Nat) (hn1 : ∀ w, Inv w → n1 ≤ w.heap.size) (h : ∀ g, n1 ≤ g → Goes P F Inv (newSt P i g s)) (h0 : ∀ g, (newA P i g s).map (fun st => sub js st.mem) = some (anyM s) := by intro g; kernel_rfl) (hw : anyWant i s = true := by kernel_rfl) : TookS P F Inv i s := by
  intro ops m0 n l k ht w h1 h2 h3 h4
  have hG := h w.heap.size (hn1 w h3.now)
  have hk := h0 w.heap.size
  unfold newSt at hG
  cases hq : newA P i w.heap.size s with
  | none => rw [hq] at hk; cases hk
  | some st =>
    rw [hq] at hG hk
    simp only [Option.getD_some] at hG
    simp only [Option.map_some, Option.some.injEq] at hk
    have hst := hq
    unfold newA at hq
    unfold anyWant at hw
    unfold anyM at hk
    rw [ht] at hw hk
    simp only at hw hk
    cases ho : ops[i]? with
    | none => rw [ho] at hw; simp at hw
    | some o =>
      have hoo : anyOp i s = some o := by unfold anyOp; rw [ht]; exact ho
      rw [ho] at hw
      simp only at hw
      rw [hoo] at hq
      simp only at hq
      unfold wpOp
      rw [ho]
      simp only [hw, if_true]
      unfold Oper.wp
      rw [evalL_eq]
      split at hq
      · rename_i v m d hs
        cases hq
        obtain ⟨w', D⟩ := srun_did P _ _ _ _ _ _ _ w hs (by simp) h1 h2 (by simp)
        have h9 := hG w'
        unfold putA at h9 hk
        rw [ht] at h9 hk
        simp only [ho] at h9 hk
        rw [D.run, Oper.upon_value, putL_eq]
        have hm' : Holds m0 w' := by rw [← hk]; exact sub_holds D.holds
        exact .inl ⟨hm', h9 D.holds D.nd (h3.ch D.ch D.new) hm'⟩
      · cases hq
theorem TookS.effM (i : Nat) (I : Sem Value) (hr : ∀ w, Holds s.mem w → s.mem.ids.Nodup → Stay s.mem.ids w Inv → Holds (anyM s) w → ∃ v w' Inv' m, I.run P w = .ok v w' ∧ Holds (anyM s) w' ∧ Holds m w' ∧ m.ids.Nodup ∧ Stay m.ids w' Inv' ∧ Goes P F Inv' (putA i s v m)) (hw : anyWant i s = true := by kernel_rfl) (ho' : (anyOp i s).map (execOp (evalL s.tmps)) = some (vS I) := by kernel_rfl) : TookS P F Inv i s := by
  intro ops m0 n l k ht w h1 h2 h3 h0
  unfold anyWant at hw
  unfold anyM at hr
  unfold anyOp at ho'
  rw [ht] at hw hr ho'
  simp only at hw hr ho'
  cases ho : ops[i]? with
  | none => rw [ho] at hw; simp at hw
  | some o =>
    rw [ho] at hw ho'
    simp only [Option.map_some, Option.some.injEq] at hw ho'
    obtain ⟨v, w', Inv', m, he, h10, h4, h5, h6, h7⟩ := hr w h1 h2 h3 h0
    have h9 := h7 w'
    unfold putA at h9
    rw [ht] at h9
    simp only [ho] at h9
    unfold wpOp
    rw [ho]
    simp only [hw, if_true]
    unfold Oper.wp
    rw [evalL_eq, ho', vS_run he, Oper.upon_value, putL_eq]
    exact .inl ⟨h10, h9 h4 h5 h6 h10⟩
end
end Go.Proofs.YtddbiiejilcbbaaGreatDoor
namespace Go.Proofs.YtddbiiejilcbbaaGreatDoor
open Go Go.RowKit

inductive Co where
  | mk (op k : Int) (s : List UInt8) (kids : List Co)
theorem Co.lt_of_mem {op k : Int} {s : List UInt8} {kids : List Co} {t : Co} (h : t ∈ kids) : SizeOf.sizeOf t < SizeOf.sizeOf (Co.mk op k s kids) := by
  have := List.sizeOf_lt_of_mem h
  simp only [Co.mk.sizeOf_spec]
  omega
theorem Co.ind {P : Co → Prop} (h : ∀ op k s kids, (∀ t ∈ kids, P t) → P (.mk op k s kids)) (t : Co) : P t :=
  match t with
  | .mk op k s kids => h op k s kids (fun t _ => Co.ind h t)
termination_by SizeOf.sizeOf t
decreasing_by exact Co.lt_of_mem (by assumption)
/-- A term as a value. -/
def cv (op k : Int) (s : List UInt8) (v : Value) : Value := .agg #[.int .i64 op, .int .i64 k, strV s, v]
/-- The term v lies there. -/
def Cl4 (w : World) (b o : Nat) (v : Value) : Prop := ∃ op k s u, v = cv op k s u ∧ w.cell? ⟨b, o, none⟩ = some (.int .i64 op) ∧ w.cell? ⟨b, o + 1, none⟩ = some (.int .i64 k) ∧ w.cell? ⟨b, o + 2, none⟩ = some (strV s) ∧ w.cell? ⟨b, o + 3, none⟩ = some u
theorem Cl4.below {n : Nat} {w w' : World} {b o : Nat} {v : Value} (h : Cl4 w b o v) (hb : b < n) (hB : Below n w w') : Cl4 w' b o v := by
  obtain ⟨op, k, s, u, e, h0, h1, h2, h3⟩ := h
  exact ⟨op, k, s, u, e, (hB.cell (p := ⟨b, o, none⟩) hb).trans h0, (hB.cell (p := ⟨b, o + 1, none⟩) hb).trans h1, (hB.cell (p := ⟨b, o + 2, none⟩) hb).trans h2, (hB.cell (p := ⟨b, o + 3, none⟩) hb).trans h3⟩
/-- What a term's own numbers and text may be. -/
structure Fits (op k : Int) (s : List UInt8) : Prop where
  op : -9223372036854775808 ≤ op ∧ op ≤ 9223372036854775807
  k : -9223372036854775808 ≤ k ∧ k ≤ 9223372036854775807
  s : s.length ≤ 9223372036854775807
/-- The value v is the term c, all the way down, in blocks below n. -/
inductive Nc (n : Nat) (w : World) : Value → Co → Prop
  | mk (op k : Int) (s : List UInt8) (kids : List Co) (a : Option Addr) (c : Nat) (vs : Nat → Value) (hf : Fits op k s) (hl : kids.length ≤ c ∧ c ≤ 9223372036854775807)
      (hc : ∀ i, i < kids.length → ∃ b o, a = some ⟨b, o, none⟩ ∧ b < n ∧ Cl4 w b (o + i * 4) (vs i)) (hk : ∀ i t, kids[i]? = some t → Nc n w (vs i) t) : Nc n w (cv op k s (.slice a kids.length c)) (.mk op k s kids)
theorem Nc.later {n : Nat} {w w' : World} {v : Value} {t : Co} (h : Nc n w v t) (hB : Below n w w') : Nc n w' v t := by
  induction h with
  | mk op k s kids a c vs hf hl hc hk ih =>
    refine .mk op k s kids a c vs hf hl (fun i hi => ?_) (fun i t ht => ih i t ht)
    obtain ⟨b, o, e, hb, h⟩ := hc i hi
    exact ⟨b, o, e, hb, h.below hb hB⟩
theorem Nc.more {n n' : Nat} {w : World} {v : Value} {t : Co} (h : Nc n w v t) (hn : n ≤ n') : Nc n' w v t := by
  induction h with
  | mk op k s kids a c vs hf hl hc hk ih =>
    refine .mk op k s kids a c vs hf hl (fun i hi => ?_) (fun i t ht => ih i t ht)
    obtain ⟨b, o, e, hb, h⟩ := hc i hi
    exact ⟨b, o, e, by omega, h⟩
theorem Nc.open {n : Nat} {w : World} {v : Value} {op k : Int} {s : List UInt8} {kids : List Co} (h : Nc n w v (.mk op k s kids)) : ∃ a c, v = cv op k s (.slice a kids.length c) ∧ Fits op k s ∧ (kids.length ≤ c ∧ c ≤ 9223372036854775807) ∧ ∀ i t, kids[i]? = some t → ∃ b o u, a = some ⟨b, o, none⟩ ∧ b < n ∧ Cl4 w b (o + i * 4) u ∧ Nc n w u t := by
  cases h with
  | mk _ _ _ _ a c vs hf hl hc hk =>
    refine ⟨a, c, rfl, hf, hl, fun i t ht => ?_⟩
    obtain ⟨b, o, e, hb, h⟩ := hc i (List.getElem?_eq_some_iff.1 ht).1
    exact ⟨b, o, vs i, e, hb, h, hk i t ht⟩
theorem Nc.cells {n : Nat} {w : World} {v : Value} {c : Co} (h : Nc n w v c) : ∃ op k s a N cc, v = cv op k s (.slice a N cc) := by
  cases h with
  | mk op k s kids a c vs => exact ⟨_, _, _, _, _, _, rfl⟩
theorem sizeC : (Tryz.prog.info? 52).map (·.size) = some 4 := by kernel_rfl
/-- A term is loaded from where it lies. -/
theorem loadC {w : World} {b o : Nat} {v : Value} (h : Cl4 w b o v) : (Instr.loadAt 52 (.pointer (some ⟨b, o, none⟩))).run Tryz.prog w = .ok v w := by
  obtain ⟨op, k, s, u, rfl, h0, h1, h2, h3⟩ := h
  have hc := run_loadCells_list (P := Tryz.prog) w ⟨b, o, none⟩ [.int .i64 op, .int .i64 k, strV s, u] (fun j x hx => by
    match j, hx with
    | 0, hx => cases hx; rw [add_lit]; exact h0
    | 1, hx => cases hx; rw [add_lit]; exact h1
    | 2, hx => cases hx; rw [add_lit]; exact h2
    | 3, hx => cases hx; rw [add_lit]; exact h3)
  unfold cv
  simp only [Instr.loadAt, Instr.sureAddr, Sem.run_bind, Sem.run_pure, Result.andThen, loadVar, Tryz.isAgg52, run_size sizeC, show 4 = [Value.int .i64 op, .int .i64 k, strV s, u].length from rfl, hc, if_true]
theorem idxC (b o n cap k : Nat) (h : k < n) (w : World) : (Instr.indexAt 50 (.slice (some ⟨b, o, none⟩) n cap) (.int .i64 k)).run Tryz.prog w = .ok (.pointer (some ⟨b, o + k * 4, none⟩)) w := by go_simp
theorem wrap_nat {k : Nat} (h : k + 1 ≤ 9223372036854775807) : IntKind.i64.wrap ((k : Int) + 1) = ((k + 1 : Nat) : Int) := by rw [IntWalk.i64_in _ ⟨by omega, by omega⟩]; omega
theorem Ch.toB {w w' : World} {L : List Nat} (h : Ch L w w') (hL : ∀ x ∈ L, w.heap.size ≤ x) : Below w.heap.size w w' := ⟨h.os, h.tape, h.output, h.size, fun i hi => h.block i hi (fun hm => by have := hL i hm; omega)⟩
theorem bel0 {s : St} {w w' : World} {Q : World → Prop} (hI : Stay s.mem.ids w' (fun w2 => Ch (Mem.ids []) w w2 ∧ Q w2)) : Below w.heap.size w w' := hI.now.1.toB (fun x hx => by cases hx)
theorem Nc.at {w w' : World} {v : Value} {c : Co} (hN : Nc w.heap.size w v c) (hB : Below w.heap.size w w') : Nc w'.heap.size w' v c := (hN.later hB).more hB.size
theorem eqT (x y : Operand) (a b : List UInt8) (hc : (match x, y with | .tmp _, .tmp _ => true | _, _ => false) = true) (w : World) : (do eqGuard .eql 9 x y (strV a) (strV b); binOp .eql 9 (strV a) (strV b) : Sem Value).run Tryz.prog w = .ok (.bool (decide (a = b))) w := by
  have : (eqGuard .eql 9 x y (strV a) (strV b)).run Tryz.prog w = .ok () w := by
    cases x <;> cases y <;> simp at hc
    unfold eqGuard strV; go_simp
  simp only [Sem.run_bind, this, Result.andThen_ok, eqlS a b _ rfl w]
theorem neT (x y : Operand) (a b : List UInt8) (hc : (match x, y with | .tmp _, .tmp _ => true | _, _ => false) = true) (w : World) : (do eqGuard .neq 9 x y (strV a) (strV b); binOp .neq 9 (strV a) (strV b) : Sem Value).run Tryz.prog w = .ok (.bool (decide (a ≠ b))) w := by
  have : (eqGuard .neq 9 x y (strV a) (strV b)).run Tryz.prog w = .ok () w := by
    cases x <;> cases y <;> simp at hc
    unfold eqGuard strV; go_simp
  simp only [Sem.run_bind, this, Result.andThen_ok, neqS a b _ rfl w]
end Go.Proofs.YtddbiiejilcbbaaGreatDoor
namespace Go.Proofs.YtddbiiejilcbbaaGreatDoor
open Go

mutual
def szC : Co → Int
  | .mk _ _ _ kids => 1 + szL kids
def szL : List Co → Int
  | [] => 0
  | c :: r => szC c + szL r
end
mutual
theorem szC_pos : ∀ c : Co, 1 ≤ szC c
  | .mk _ _ _ kids => by unfold szC; have := szL_pos kids; omega
theorem szL_pos : ∀ l : List Co, 0 ≤ szL l
  | [] => by unfold szL; omega
  | c :: r => by unfold szL; have := szC_pos c; have := szL_pos r; omega
end
end Go.Proofs.YtddbiiejilcbbaaGreatDoor
namespace Go.Proofs.YtddbiiejilcbbaaGreatDoor
open Go Go.RowKit

mutual
/-- What a walk does: a term ahead of its kids, until one is left. -/
def walkP {σ : Type} (f : σ → Int → Co → σ × Bool) (s : σ) (d : Int) : Co → σ × Bool
  | .mk op k t kids =>
    match f s d (.mk op k t kids) with
    | (s', false) => (s', false)
    | (s', true) => walkK f s' (IntKind.i64.wrap (d + 1)) kids
def walkK {σ : Type} (f : σ → Int → Co → σ × Bool) (s : σ) (d : Int) : List Co → σ × Bool
  | [] => (s, true)
  | c :: r =>
    match walkP f s d c with
    | (s', false) => (s', false)
    | (s', true) => walkK f s' d r
end
mutual
/-- What is asked of the state holds at each term that is gone to. -/
def safeP {σ : Type} (f : σ → Int → Co → σ × Bool) (ok : σ → Prop) (s : σ) (d : Int) : Co → Prop
  | .mk op k t kids => ok s ∧
    match f s d (.mk op k t kids) with
    | (_, false) => True
    | (s', true) => safeK f ok s' (IntKind.i64.wrap (d + 1)) kids
def safeK {σ : Type} (f : σ → Int → Co → σ × Bool) (ok : σ → Prop) (s : σ) (d : Int) : List Co → Prop
  | [] => True
  | c :: r => safeP f ok s d c ∧
    match walkP f s d c with
    | (_, false) => True
    | (s', true) => safeK f ok s' d r
end
/-- Blocks of O' are of O, or new. -/
def Sub (w : World) (O O' : List Nat) : Prop := ∀ x ∈ O', x ∈ O ∨ w.heap.size ≤ x
theorem Sub.refl (w : World) (O : List Nat) : Sub w O O := fun _ h => .inl h
theorem Sub.trans {w w' : World} {O O' O'' : List Nat} (h : Sub w O O') (h' : Sub w' O' O'') (hs : w.heap.size ≤ w'.heap.size) : Sub w O O'' := fun x hx => by
  rcases h' x hx with e | e
  · exact h x e
  · exact .inr (Nat.le_trans hs e)
/-- A yield, with a state s of its own in the blocks O: f says what it does. -/
structure Yl {σ : Type} (n₀ l : Nat) (f : σ → Int → Co → σ × Bool) (ok : σ → Prop) (J : Bool → σ → List Nat → World → Prop) : Prop where
  stay : ∀ b s O w w', J b s O w → (∀ x ∈ O, w'.heap[x]? = w.heap[x]?) → J b s O w'
  low : ∀ b s O w, J b s O w → ∀ x ∈ O, n₀ ≤ x ∧ x < w.heap.size
  yield : ∀ s O w d v c, ok s → J true s O w → Nc n₀ w v c → n₀ ≤ w.heap.size → YieldAt Fence.wide 0 Tryz.prog l #[.int .i64 d, v] w fun e w' => e = .returned (.bool (f s d c).2) ∧ ∃ O', J (f s d c).2 (f s d c).1 O' w' ∧ Ch O w w' ∧ Sub w O O'
theorem Ch.low {O : List Nat} {w w' : World} {n : Nat} (h : Ch O w w') (hO : ∀ x ∈ O, n ≤ x) (hn : n ≤ w.heap.size) : Below n w w' :=
  ⟨h.os, h.tape, h.output, h.size, fun i hi => h.block i (by omega) (fun hx => by have := hO i hx; omega)⟩
/-- What a walk leaves. -/
def WPost {σ : Type} (J : Bool → σ → List Nat → World → Prop) (O : List Nat) (w : World) (r : σ × Bool) (e : Ending) (w' : World) : Prop := e = .returned (.bool r.2) ∧ ∃ O', J r.2 r.1 O' w' ∧ Ch O w w' ∧ Sub w O O'
def cO (op k : Int) (t : List UInt8) (v : Value) : Obj := .cells #[.int .i64 op, .int .i64 k, strV t, v] 52 (0, 0)
/-- What holds while a walk is under way. -/
def WInv {σ : Type} (J : Bool → σ → List Nat → World → Prop) (O : List Nat) (w : World) (g : Nat) (s : σ) (w' : World) : Prop := Ch O w w' ∧ ∃ O', J true s O' w' ∧ Sub w O O' ∧ g ∉ O'
theorem WInv.stay {σ : Type} {n₀ l : Nat} {f : σ → Int → Co → σ × Bool} {ok : σ → Prop} {J : Bool → σ → List Nat → World → Prop} (Y : Yl n₀ l f ok J) {O : List Nat} {w w' : World} {g : Nat} {s : σ} (h : WInv J O w g s w') (hg : w.heap.size ≤ g) : Stay [g] w' (WInv J O w g s) := by
  intro w2 hc
  obtain ⟨h1, O', h2, h3, h4⟩ := h
  refine ⟨h1.trans hc (fun x hx => by rw [List.mem_singleton] at hx; exact .inr (hx ▸ hg)), O', Y.stay _ _ _ _ _ h2 (fun x hx => ?_), h3, h4⟩
  exact hc.block x (Y.low _ _ _ _ h2 x hx).2 (fun hm => h4 (by rw [List.mem_singleton] at hm; exact hm ▸ hx))
set_option maxRecDepth 100000 in
seal rn rnN Goes ans atEnd put0 putM opened putA0 oneSt st0 orT orG in
theorem walk_any {σ : Type} {n₀ l : Nat} {f : σ → Int → Co → σ × Bool} {ok : σ → Prop} {J : Bool → σ → List Nat → World → Prop} (Y : Yl n₀ l f ok J) (c : Co) : ∀ (v : Value) (w : World) (s : σ) (O : List Nat) (d : Int), safeP f ok s d c → J true s O w → Nc n₀ w v c → n₀ ≤ w.heap.size →
    Calls Tryz.prog 205 #[v, .int .i64 d, .func (.yield l) #[] #[]] w (WPost J O w (walkP f s d c)) := by
  induction c using Co.ind with
  | h op k t kids ih =>
    intro v w s O d hsafe hJ hN hn
    unfold safeP at hsafe
    obtain ⟨hok, hsafe⟩ := hsafe
    have hNw := hN
    obtain ⟨a, cc, rfl, hfit, hcap, hkids⟩ := hN.open
    obtain ⟨N, hL⟩ : ∃ N, kids.length = N := ⟨_, rfl⟩
    rw [hL] at hNw hcap ⊢
    refine Goes.enter Tryz.func205 [] (fun w' => Ch [] w w' ∧ J true s O w') (fun j b o h => by cases h) (by simp [Mem.ids]) (fun w' hc => ⟨hc, Y.stay _ _ _ _ _ hJ (fun x hx => hc.block x (Y.low _ _ _ _ hJ x hx).2 (by simp [Mem.ids]))⟩) ?_
    refine Goes.runN1 bp_noP 7 [] [] trivial fun g => ?_
    refine Goes.reg fun w1 hm hn1 hI => ?_
    have hg : w.heap.size ≤ g := fresh_of hI (g := g) (ids_get (j := 0) (o := cO op k t (.slice a N cc)) (by kernel_rfl)) (by simp)
    have hgO : g ∉ O := fun h => by have := (Y.low _ _ _ _ hJ g h).2; omega
    have hB1 : Below n₀ w w1 := hI.now.1.low (fun x hx => by cases hx) hn
    refine wi_runs [(0, 0), (1, 0), (2, 0)] (rest := [3, 4]) hm hn1 fun w2 m2 n2 c2 s2 d2 => ?_
    obtain rfl := d2 (by kernel_rfl)
    refine wi_yield (l := l) (args := #[.int .i64 d, cv op k t (.slice a N cc)]) (d := some 12) (by kernel_rfl) ?_
    obtain ⟨fn, tmps, asg, body, hy, hR⟩ := Y.yield s O w2 d _ _ hok hI.now.2 (hNw.later hB1) (Nat.le_trans hn hB1.size)
    cases hfs : f s d (.mk op k t kids) with
    | mk s' b =>
    rw [hfs] at hR hsafe
    refine ⟨fn, tmps, asg, body, hy, hR.mono fun e w3 ⟨he, O', hJ', hC, hS⟩ => ⟨_, he, ?_⟩⟩
    have hgw : g < w2.heap.size := lt_of_get (hm.get 0 (o := cO op k t (.slice a N cc)))
    have hg3 : w3.heap[g]? = some (cO op k t (.slice a N cc)) := (hC.block g hgw hgO).trans (hm.get 0)
    have hgO' : g ∉ O' := fun h => by rcases hS g h with e | e; exact hgO e; omega
    have hCw : Ch O w w3 := (hI.now.1.mono (fun x hx => by cases hx)).trans hC (fun x hx => .inl hx)
    have hSw : Sub w O O' := fun x hx => by
      rcases hS x hx with e | e
      · exact .inl e
      · exact .inr (Nat.le_trans hI.now.1.size e)
    refine wi_runs (m := [(g, cO op k t (.slice a N cc))]) [(4, 0)] (rest := []) (fun j b o h => by match j, h with | 0, h => cases h; exact hg3) (by simp [Mem.ids]) fun w4 m4 n4 c4 s4 d4 => ?_
    obtain rfl := d4 (by kernel_rfl)
    cases b with
    | false =>
      refine wi_end (fun w' => Ch O w w' ∧ ∃ O', J false s' O' w' ∧ Sub w O O') [] Holds.nil (by simp [Mem.ids]) (fun w' hc => ⟨hCw.trans hc (fun x hx => by cases hx), O', Y.stay _ _ _ _ _ hJ' (fun x hx => hc.block x (Y.low _ _ _ _ hJ' x hx).2 (by simp [Mem.ids])), hSw⟩) ?_
      refine Goes.run [1] [(true, true)] ⟨rfl, trivial⟩ ?_
      exact Goes.ret [] (.bool false) fun w' hm hI => by
        obtain ⟨h1, O2, h2, h3⟩ := hI.now
        unfold WPost
        rw [walkP, hfs]
        exact ⟨rfl, O2, h2, h1, h3⟩
    | true =>
      refine wi_end (WInv J O w g s') [(g, cO op k t (.slice a N cc))] (fun j b o h => by match j, h with | 0, h => cases h; exact hg3) (by simp [Mem.ids]) (WInv.stay Y ⟨hCw, O', hJ', hSw, hgO'⟩ hg) ?_
      refine Goes.run [0, 0] [(false, false)] ⟨rfl, trivial⟩ ?_
      obtain ⟨D, hD⟩ : ∃ D, IntKind.i64.wrap (d + 1) = D := ⟨_, rfl⟩
      have hW : walkP f s d (.mk op k t kids) = walkK f s' D kids := by rw [walkP, hfs, hD]
      rw [hW]
      rw [hD] at hsafe
      refine Goes.loop (α := Nat × σ) 28 (fun q => [(1, .int .i64 d), (2, .func (.yield l) #[] #[]), (3, .pointer (some ⟨g, 0, none⟩)), (15, .slice a N cc), (16, .int .i64 N), (17, .int .i64 q.1)]) (fun _ => [(g, cO op k t (.slice a N cc))]) (fun q => WInv J O w g q.2)
        (fun q => q.1 ≤ N ∧ walkK f s' D kids = walkK f q.2 D (kids.drop q.1) ∧ safeK f ok q.2 D (kids.drop q.1)) (fun q => N - q.1) (0, s') ⟨Nat.zero_le _, rfl, hsafe⟩ (fun w' h => h) ?_
      rintro ⟨i, s1⟩ J1 ⟨hi, hrest, hsf⟩ back
      simp only at hi hrest hsf back ⊢
      cases hlt : decide ((i : Int) < (N : Int)) with
      | false =>
        obtain rfl : i = N := by have := of_decide_eq_false hlt; omega
        refine Goes.run [0, 0] [(decide ((i : Int) < (i : Int)), false)] ⟨hlt, trivial⟩ ?_
        exact Goes.ret [] (.bool true) fun w' hm hI => by
          obtain ⟨h1, O2, h2, h3, _⟩ := hI.now
          unfold WPost
          rw [hrest, List.drop_of_length_le (by omega), walkK]
          exact ⟨rfl, O2, h2, h1, h3⟩
      | true =>
        have hil : i < N := by have := of_decide_eq_true hlt; omega
        obtain ⟨u, hu⟩ : ∃ u, kids[i]? = some u := ⟨kids[i]'(by omega), by simp⟩
        obtain ⟨b, o, x, rfl, hb, hcl, hx⟩ := hkids i u hu
        obtain ⟨op', k', t', a', N', c', rfl⟩ := hx.cells
        have hdrop : kids.drop i = u :: kids.drop (i + 1) := by
          obtain ⟨h1, h2⟩ := List.getElem?_eq_some_iff.1 hu
          rw [List.drop_eq_getElem_cons h1, h2]
        rw [hdrop] at hsf
        unfold safeK at hsf
        obtain ⟨hsf1, hsf2⟩ := hsf
        have hlow : ∀ w', WInv J O w g s1 w' → Below n₀ w w' := fun w' h => h.1.low (fun x hx => (Y.low _ _ _ _ hJ x hx).1) hn
        refine Goes.run [0, 1] [(decide ((i : Int) < (N : Int)), true)] ⟨hlt, trivial⟩ ?_
        refine Goes.val (Instr.indexAt 50 (.slice (some ⟨b, o, none⟩) N cc) (.int .i64 i)) (.pointer (some ⟨b, o + i * 4, none⟩)) (fun w' _ _ => idxC b o N cc i hil w') ?_
        refine Goes.val (Instr.loadAt 52 (.pointer (some ⟨b, o + i * 4, none⟩))) (cv op' k' t' (.slice a' N' c')) (fun w' _ hI => loadC (hcl.below hb (hlow _ hI.now))) ?_
        refine Goes.run1 [1, 1] [] trivial fun g8 => ?_
        refine Goes.slot 23 (.int .i64 D) (u := .int .i64 (IntKind.i64.wrap (d + 1))) (congrArg _ hD) ?_
        refine Goes.call 205 #[cv op' k' t' (.slice a' N' c'), .int .i64 D, .func (.yield l) #[] #[]] fun w5 hm5 hn5 hI5 => ?_
        obtain ⟨h1, O2, h2, h3, h4⟩ := hI5.now
        refine (ih u (List.mem_of_getElem? hu) _ w5 s1 O2 D hsf1 h2 (hx.later (hlow _ hI5.now)) (Nat.le_trans hn h1.size)).mono fun e w6 ⟨he, O3, h5, h6, h7⟩ => ?_
        have hgw5 : g < w5.heap.size := lt_of_get (hm5.get 0 (o := cO op k t (.slice (some ⟨b, o, none⟩) N cc)))
        have hg6 : w6.heap[g]? = some (cO op k t (.slice (some ⟨b, o, none⟩) N cc)) := (h6.block g hgw5 h4).trans (hm5.get 0)
        have hg3' : g ∉ O3 := fun h => by rcases h7 g h with e | e; exact h4 e; omega
        have hC6 : Ch O w w6 := h1.trans h6 h3
        have hS6 : Sub w O O3 := h3.trans h7 h1.size
        cases hws : walkP f s1 D u with
        | mk s2 b2 =>
        rw [hws] at he h5 hsf2
        cases b2 with
        | false =>
          refine ⟨_, fun w' => Ch O w w' ∧ ∃ O', J false s2 O' w' ∧ Sub w O O', [], he, Holds.nil, by simp [Mem.ids], fun w' hc => ⟨hC6.trans hc (fun x hx => by cases hx), O3, Y.stay _ _ _ _ _ h5 (fun x hx => hc.block x (Y.low _ _ _ _ h5 x hx).2 (by simp [Mem.ids])), hS6⟩, ?_⟩
          refine Goes.run [1] [(true, true)] ⟨rfl, trivial⟩ ?_
          exact Goes.ret [] (.bool false) fun w' hm hI => by
            obtain ⟨h1, O2, h2, h3⟩ := hI.now
            unfold WPost
            rw [hrest, hdrop, walkK, hws]
            exact ⟨rfl, O2, h2, h1, h3⟩
        | true =>
          refine ⟨_, WInv J O w g s2, [(g, cO op k t (.slice (some ⟨b, o, none⟩) N cc))], he, fun j b o h => by match j, h with | 0, h => cases h; exact hg6, by simp [Mem.ids], WInv.stay Y ⟨hC6, O3, h5, hS6, hg3'⟩ hg, ?_⟩
          refine Goes.run [0] [(false, false)] ⟨rfl, trivial⟩ ?_
          refine Goes.slot 17 (.int .i64 (i + 1 : Nat)) (u := .int .i64 (IntKind.i64.wrap ((i : Int) + 1))) (congrArg _ (wrap_nat (by omega))) ?_
          exact back (i + 1, s2) _ ⟨hil, by rw [hrest, hdrop, walkK, hws], hsf2⟩ (by omega) (by kernel_rfl) (by kernel_rfl) (by kernel_rfl)
end Go.Proofs.YtddbiiejilcbbaaGreatDoor
namespace Go.Proofs.YtddbiiejilcbbaaGreatDoor
open Go Go.RowKit

/-- A row of types that was made. -/
def KidsAt (w w' : World) (v : Value) (ks : List Int) : Prop := (v = .slice none 0 0 ∧ ks = []) ∨ ∃ g, w.heap.size ≤ g ∧ v = .slice (some ⟨g, 0, none⟩) ks.length ks.length ∧ w'.heap[g]? = some (.cells (ks.map (Value.int .i64)).toArray 3 (0, 0)) ∧ 0 < ks.length ∧ ks.length ≤ 3
/-- What is answered of an Op's kids. -/
def Kr (r : Option (List Int)) (w : World) (e : Ending) (w' : World) : Prop := ∃ v, e = .returned (.tuple #[v, .bool r.isSome]) ∧ Below w.heap.size w w' ∧ KidsAt w w' v (r.getD [])
theorem Kr.none {r : Option (List Int)} {w w' : World} (h : r = .none) (hB : Below w.heap.size w w') : Kr r w (.returned (.tuple #[.slice .none 0 0, .bool false])) w' := by subst h; exact ⟨_, rfl, hB, .inl ⟨rfl, rfl⟩⟩
theorem Kr.nil {r : Option (List Int)} {w w' : World} (h : r = some []) (hB : Below w.heap.size w w') : Kr r w (.returned (.tuple #[.slice .none 0 0, .bool true])) w' := by subst h; exact ⟨_, rfl, hB, .inl ⟨rfl, rfl⟩⟩
theorem Kr.some {r : Option (List Int)} {w w' : World} {g : Nat} (ks : List Int) (h : r = .some ks) (hB : Below w.heap.size w w') (hg : w.heap.size ≤ g) (hb : w'.heap[g]? = .some (.cells (ks.map (Value.int .i64)).toArray 3 (0, 0))) (h0 : 0 < ks.length) (h3 : ks.length ≤ 3) : Kr r w (.returned (.tuple #[.slice (.some ⟨g, 0, .none⟩) ks.length ks.length, .bool true])) w' := by subst h; exact ⟨_, rfl, hB, .inr ⟨g, hg, rfl, hb, h0, h3⟩⟩
theorem Kr.later {r : Option (List Int)} {w w0 w' : World} {e : Ending} (h : Kr r w0 e w') (hB : Below w.heap.size w w0) : Kr r w e w' := by
  obtain ⟨v, he, hb, hk⟩ := h
  refine ⟨v, he, hB.trans (hb.mono hB.size), ?_⟩
  rcases hk with h | ⟨g, h1, h2⟩
  · exact .inl h
  · exact .inr ⟨g, Nat.le_trans hB.size h1, h2⟩

def kNumber (op : Int) : Option (List Int) :=
  bif op == 1 || op == 4 then some [] else bif op == 6 then some [0] else bif op == 7 || op == 8 || op == 9 || op == 10 then some [0, 0] else bif op == 20 || op == 21 then some [2, 2] else none
set_option maxRecDepth 100000 in
seal rn rnN Goes ans atEnd put0 putM opened putA0 oneSt st0 in
theorem kNumber_any (op : Int) (w : World) : Calls Tryz.prog 233 #[.int .i64 op] w (Kr (kNumber op) w) := by
  refine Goes.begin Tryz.func233 [] (fun _ => True) Holds.nil (by simp [Mem.ids]) (fun _ _ => trivial) ?_
  cases h1 : (op == 1) with
  | true =>
    refine Goes.run [1, 1] [(op == 1, true), (op == 1, true)] ⟨h1, h1, trivial⟩ ?_
    exact Goes.ret [] (.tuple #[.slice none 0 0, .bool true]) fun w' hm hI => Kr.nil (by unfold kNumber; rw [h1] <;> rfl) (below_end (m := []) Holds.nil hI.now.1 hm (by kernel_rfl))
  | false =>
    cases h4 : (op == 4) with
    | true =>
      refine Goes.run [0, 1] [(op == 4, true), (op == 1, false)] ⟨h4, h1, trivial⟩ ?_
      exact Goes.ret [] (.tuple #[.slice none 0 0, .bool true]) fun w' hm hI => Kr.nil (by unfold kNumber; rw [h1, h4] <;> rfl) (below_end (m := []) Holds.nil hI.now.1 hm (by kernel_rfl))
    | false =>
      cases h6 : (op == 6) with
      | true =>
        refine Goes.run1 [0, 0, 1] [(op == 6, true), (op == 4, false), (op == 1, false)] ⟨h6, h4, h1, trivial⟩ fun g => ?_
        exact Goes.ret [] (.tuple #[.slice (some ⟨g, 0, none⟩) 1 1, .bool true]) fun w' hm hI => Kr.some [0] (by unfold kNumber; rw [h1, h4, h6] <;> rfl) (below_end (m := []) Holds.nil hI.now.1 hm (by kernel_rfl)) (fresh_of hI (g := g) (ids_get (j := 0) (o := .cells #[.int .i64 0] 3 (0, 0)) (by kernel_rfl)) (by simp [Mem.ids])) (hm.get 0) (by decide) (by decide)
      | false =>
        cases h7 : (op == 7) with
        | true =>
          refine Goes.run1 [0, 0, 0, 1, 1] [(op == 7, true), (op == 7, true), (op == 6, false), (op == 4, false), (op == 1, false)] ⟨h7, h7, h6, h4, h1, trivial⟩ fun g => ?_
          exact Goes.ret [] (.tuple #[.slice (some ⟨g, 0, none⟩) 2 2, .bool true]) fun w' hm hI => Kr.some [0, 0] (by unfold kNumber; rw [h1, h4, h6, h7] <;> rfl) (below_end (m := []) Holds.nil hI.now.1 hm (by kernel_rfl)) (fresh_of hI (g := g) (ids_get (j := 0) (o := .cells #[.int .i64 0, .int .i64 0] 3 (0, 0)) (by kernel_rfl)) (by simp [Mem.ids])) (hm.get 0) (by decide) (by decide)
        | false =>
          cases h8 : (op == 8) with
          | true =>
            refine Goes.run1 [0, 0, 0, 0, 1, 1] [(op == 8, true), (op == 8, true), (op == 7, false), (op == 6, false), (op == 4, false), (op == 1, false)] ⟨h8, h8, h7, h6, h4, h1, trivial⟩ fun g => ?_
            exact Goes.ret [] (.tuple #[.slice (some ⟨g, 0, none⟩) 2 2, .bool true]) fun w' hm hI => Kr.some [0, 0] (by unfold kNumber; rw [h1, h4, h6, h7, h8] <;> rfl) (below_end (m := []) Holds.nil hI.now.1 hm (by kernel_rfl)) (fresh_of hI (g := g) (ids_get (j := 0) (o := .cells #[.int .i64 0, .int .i64 0] 3 (0, 0)) (by kernel_rfl)) (by simp [Mem.ids])) (hm.get 0) (by decide) (by decide)
          | false =>
            cases h9 : (op == 9) with
            | true =>
              refine Goes.run1 [0, 0, 0, 0, 0, 1, 1] [(op == 9, true), (op == 9, true), (op == 8, false), (op == 7, false), (op == 6, false), (op == 4, false), (op == 1, false)] ⟨h9, h9, h8, h7, h6, h4, h1, trivial⟩ fun g => ?_
              exact Goes.ret [] (.tuple #[.slice (some ⟨g, 0, none⟩) 2 2, .bool true]) fun w' hm hI => Kr.some [0, 0] (by unfold kNumber; rw [h1, h4, h6, h7, h8, h9] <;> rfl) (below_end (m := []) Holds.nil hI.now.1 hm (by kernel_rfl)) (fresh_of hI (g := g) (ids_get (j := 0) (o := .cells #[.int .i64 0, .int .i64 0] 3 (0, 0)) (by kernel_rfl)) (by simp [Mem.ids])) (hm.get 0) (by decide) (by decide)
            | false =>
              cases h10 : (op == 10) with
              | true =>
                refine Goes.run1 [0, 0, 0, 0, 0, 0, 1] [(op == 10, true), (op == 9, false), (op == 8, false), (op == 7, false), (op == 6, false), (op == 4, false), (op == 1, false)] ⟨h10, h9, h8, h7, h6, h4, h1, trivial⟩ fun g => ?_
                exact Goes.ret [] (.tuple #[.slice (some ⟨g, 0, none⟩) 2 2, .bool true]) fun w' hm hI => Kr.some [0, 0] (by unfold kNumber; rw [h1, h4, h6, h7, h8, h9, h10] <;> rfl) (below_end (m := []) Holds.nil hI.now.1 hm (by kernel_rfl)) (fresh_of hI (g := g) (ids_get (j := 0) (o := .cells #[.int .i64 0, .int .i64 0] 3 (0, 0)) (by kernel_rfl)) (by simp [Mem.ids])) (hm.get 0) (by decide) (by decide)
              | false =>
                cases h20 : (op == 20) with
                | true =>
                  refine Goes.run1 [0, 0, 0, 0, 0, 0, 0, 1, 1] [(op == 20, true), (op == 20, true), (op == 10, false), (op == 9, false), (op == 8, false), (op == 7, false), (op == 6, false), (op == 4, false), (op == 1, false)] ⟨h20, h20, h10, h9, h8, h7, h6, h4, h1, trivial⟩ fun g => ?_
                  exact Goes.ret [] (.tuple #[.slice (some ⟨g, 0, none⟩) 2 2, .bool true]) fun w' hm hI => Kr.some [2, 2] (by unfold kNumber; rw [h1, h4, h6, h7, h8, h9, h10, h20] <;> rfl) (below_end (m := []) Holds.nil hI.now.1 hm (by kernel_rfl)) (fresh_of hI (g := g) (ids_get (j := 0) (o := .cells #[.int .i64 2, .int .i64 2] 3 (0, 0)) (by kernel_rfl)) (by simp [Mem.ids])) (hm.get 0) (by decide) (by decide)
                | false =>
                  cases h21 : (op == 21) with
                  | true =>
                    refine Goes.run1 [0, 0, 0, 0, 0, 0, 0, 0, 1] [(op == 21, true), (op == 20, false), (op == 10, false), (op == 9, false), (op == 8, false), (op == 7, false), (op == 6, false), (op == 4, false), (op == 1, false)] ⟨h21, h20, h10, h9, h8, h7, h6, h4, h1, trivial⟩ fun g => ?_
                    exact Goes.ret [] (.tuple #[.slice (some ⟨g, 0, none⟩) 2 2, .bool true]) fun w' hm hI => Kr.some [2, 2] (by unfold kNumber; rw [h1, h4, h6, h7, h8, h9, h10, h20, h21] <;> rfl) (below_end (m := []) Holds.nil hI.now.1 hm (by kernel_rfl)) (fresh_of hI (g := g) (ids_get (j := 0) (o := .cells #[.int .i64 2, .int .i64 2] 3 (0, 0)) (by kernel_rfl)) (by simp [Mem.ids])) (hm.get 0) (by decide) (by decide)
                  | false =>
                    refine Goes.run [0, 0, 0, 0, 0, 0, 0, 0, 0] [(op == 21, false), (op == 20, false), (op == 10, false), (op == 9, false), (op == 8, false), (op == 7, false), (op == 6, false), (op == 4, false), (op == 1, false)] ⟨h21, h20, h10, h9, h8, h7, h6, h4, h1, trivial⟩ ?_
                    exact Goes.ret [] (.tuple #[.slice none 0 0, .bool false]) fun w' hm hI => Kr.none (by unfold kNumber; rw [h1, h4, h6, h7, h8, h9, h10, h20, h21] <;> rfl) (below_end (m := []) Holds.nil hI.now.1 hm (by kernel_rfl))
def kTruth (op : Int) : Option (List Int) :=
  bif op == 2 then some [] else bif op == 11 || op == 12 || op == 13 then some [0, 0] else bif op == 14 then some [1] else bif op == 15 || op == 16 then some [1, 1] else bif op == 17 then some [2, 2] else none
set_option maxRecDepth 100000 in
seal rn rnN Goes ans atEnd put0 putM opened putA0 oneSt st0 in
theorem kTruth_any (op : Int) (w : World) : Calls Tryz.prog 234 #[.int .i64 op] w (Kr (kTruth op) w) := by
  refine Goes.begin Tryz.func234 [] (fun _ => True) Holds.nil (by simp [Mem.ids]) (fun _ _ => trivial) ?_
  cases h2 : (op == 2) with
  | true =>
    refine Goes.run [1] [(op == 2, true)] ⟨h2, trivial⟩ ?_
    exact Goes.ret [] (.tuple #[.slice none 0 0, .bool true]) fun w' hm hI => Kr.nil (by unfold kTruth; rw [h2] <;> rfl) (below_end (m := []) Holds.nil hI.now.1 hm (by kernel_rfl))
  | false =>
    cases h11 : (op == 11) with
    | true =>
      refine Goes.run1 [0, 1, 1] [(op == 11, true), (op == 11, true), (op == 2, false)] ⟨h11, h11, h2, trivial⟩ fun g => ?_
      exact Goes.ret [] (.tuple #[.slice (some ⟨g, 0, none⟩) 2 2, .bool true]) fun w' hm hI => Kr.some [0, 0] (by unfold kTruth; rw [h2, h11] <;> rfl) (below_end (m := []) Holds.nil hI.now.1 hm (by kernel_rfl)) (fresh_of hI (g := g) (ids_get (j := 0) (o := .cells #[.int .i64 0, .int .i64 0] 3 (0, 0)) (by kernel_rfl)) (by simp [Mem.ids])) (hm.get 0) (by decide) (by decide)
    | false =>
      cases h12 : (op == 12) with
      | true =>
        refine Goes.run1 [0, 0, 1, 1] [(op == 12, true), (op == 12, true), (op == 11, false), (op == 2, false)] ⟨h12, h12, h11, h2, trivial⟩ fun g => ?_
        exact Goes.ret [] (.tuple #[.slice (some ⟨g, 0, none⟩) 2 2, .bool true]) fun w' hm hI => Kr.some [0, 0] (by unfold kTruth; rw [h2, h11, h12] <;> rfl) (below_end (m := []) Holds.nil hI.now.1 hm (by kernel_rfl)) (fresh_of hI (g := g) (ids_get (j := 0) (o := .cells #[.int .i64 0, .int .i64 0] 3 (0, 0)) (by kernel_rfl)) (by simp [Mem.ids])) (hm.get 0) (by decide) (by decide)
      | false =>
        cases h13 : (op == 13) with
        | true =>
          refine Goes.run1 [0, 0, 0, 1] [(op == 13, true), (op == 12, false), (op == 11, false), (op == 2, false)] ⟨h13, h12, h11, h2, trivial⟩ fun g => ?_
          exact Goes.ret [] (.tuple #[.slice (some ⟨g, 0, none⟩) 2 2, .bool true]) fun w' hm hI => Kr.some [0, 0] (by unfold kTruth; rw [h2, h11, h12, h13] <;> rfl) (below_end (m := []) Holds.nil hI.now.1 hm (by kernel_rfl)) (fresh_of hI (g := g) (ids_get (j := 0) (o := .cells #[.int .i64 0, .int .i64 0] 3 (0, 0)) (by kernel_rfl)) (by simp [Mem.ids])) (hm.get 0) (by decide) (by decide)
        | false =>
          cases h14 : (op == 14) with
          | true =>
            refine Goes.run1 [0, 0, 0, 0, 1] [(op == 14, true), (op == 13, false), (op == 12, false), (op == 11, false), (op == 2, false)] ⟨h14, h13, h12, h11, h2, trivial⟩ fun g => ?_
            exact Goes.ret [] (.tuple #[.slice (some ⟨g, 0, none⟩) 1 1, .bool true]) fun w' hm hI => Kr.some [1] (by unfold kTruth; rw [h2, h11, h12, h13, h14] <;> rfl) (below_end (m := []) Holds.nil hI.now.1 hm (by kernel_rfl)) (fresh_of hI (g := g) (ids_get (j := 0) (o := .cells #[.int .i64 1] 3 (0, 0)) (by kernel_rfl)) (by simp [Mem.ids])) (hm.get 0) (by decide) (by decide)
          | false =>
            cases h15 : (op == 15) with
            | true =>
              refine Goes.run1 [0, 0, 0, 0, 0, 1, 1] [(op == 15, true), (op == 15, true), (op == 14, false), (op == 13, false), (op == 12, false), (op == 11, false), (op == 2, false)] ⟨h15, h15, h14, h13, h12, h11, h2, trivial⟩ fun g => ?_
              exact Goes.ret [] (.tuple #[.slice (some ⟨g, 0, none⟩) 2 2, .bool true]) fun w' hm hI => Kr.some [1, 1] (by unfold kTruth; rw [h2, h11, h12, h13, h14, h15] <;> rfl) (below_end (m := []) Holds.nil hI.now.1 hm (by kernel_rfl)) (fresh_of hI (g := g) (ids_get (j := 0) (o := .cells #[.int .i64 1, .int .i64 1] 3 (0, 0)) (by kernel_rfl)) (by simp [Mem.ids])) (hm.get 0) (by decide) (by decide)
            | false =>
              cases h16 : (op == 16) with
              | true =>
                refine Goes.run1 [0, 0, 0, 0, 0, 0, 1] [(op == 16, true), (op == 15, false), (op == 14, false), (op == 13, false), (op == 12, false), (op == 11, false), (op == 2, false)] ⟨h16, h15, h14, h13, h12, h11, h2, trivial⟩ fun g => ?_
                exact Goes.ret [] (.tuple #[.slice (some ⟨g, 0, none⟩) 2 2, .bool true]) fun w' hm hI => Kr.some [1, 1] (by unfold kTruth; rw [h2, h11, h12, h13, h14, h15, h16] <;> rfl) (below_end (m := []) Holds.nil hI.now.1 hm (by kernel_rfl)) (fresh_of hI (g := g) (ids_get (j := 0) (o := .cells #[.int .i64 1, .int .i64 1] 3 (0, 0)) (by kernel_rfl)) (by simp [Mem.ids])) (hm.get 0) (by decide) (by decide)
              | false =>
                cases h17 : (op == 17) with
                | true =>
                  refine Goes.run1 [0, 0, 0, 0, 0, 0, 0, 1] [(op == 17, true), (op == 16, false), (op == 15, false), (op == 14, false), (op == 13, false), (op == 12, false), (op == 11, false), (op == 2, false)] ⟨h17, h16, h15, h14, h13, h12, h11, h2, trivial⟩ fun g => ?_
                  exact Goes.ret [] (.tuple #[.slice (some ⟨g, 0, none⟩) 2 2, .bool true]) fun w' hm hI => Kr.some [2, 2] (by unfold kTruth; rw [h2, h11, h12, h13, h14, h15, h16, h17] <;> rfl) (below_end (m := []) Holds.nil hI.now.1 hm (by kernel_rfl)) (fresh_of hI (g := g) (ids_get (j := 0) (o := .cells #[.int .i64 2, .int .i64 2] 3 (0, 0)) (by kernel_rfl)) (by simp [Mem.ids])) (hm.get 0) (by decide) (by decide)
                | false =>
                  refine Goes.run [0, 0, 0, 0, 0, 0, 0, 0] [(op == 17, false), (op == 16, false), (op == 15, false), (op == 14, false), (op == 13, false), (op == 12, false), (op == 11, false), (op == 2, false)] ⟨h17, h16, h15, h14, h13, h12, h11, h2, trivial⟩ ?_
                  exact Goes.ret [] (.tuple #[.slice none 0 0, .bool false]) fun w' hm hI => Kr.none (by unfold kTruth; rw [h2, h11, h12, h13, h14, h15, h16, h17] <;> rfl) (below_end (m := []) Holds.nil hI.now.1 hm (by kernel_rfl))
def kDay (op : Int) : Option (List Int) :=
  bif op == 3 || op == 5 then some [] else bif op == 18 || op == 19 then some [2, 0] else none
set_option maxRecDepth 100000 in
seal rn rnN Goes ans atEnd put0 putM opened putA0 oneSt st0 in
theorem kDay_any (op : Int) (w : World) : Calls Tryz.prog 235 #[.int .i64 op] w (Kr (kDay op) w) := by
  refine Goes.begin Tryz.func235 [] (fun _ => True) Holds.nil (by simp [Mem.ids]) (fun _ _ => trivial) ?_
  cases h3 : (op == 3) with
  | true =>
    refine Goes.run [1, 1] [(op == 3, true), (op == 3, true)] ⟨h3, h3, trivial⟩ ?_
    exact Goes.ret [] (.tuple #[.slice none 0 0, .bool true]) fun w' hm hI => Kr.nil (by unfold kDay; rw [h3] <;> rfl) (below_end (m := []) Holds.nil hI.now.1 hm (by kernel_rfl))
  | false =>
    cases h5 : (op == 5) with
    | true =>
      refine Goes.run [0, 1] [(op == 5, true), (op == 3, false)] ⟨h5, h3, trivial⟩ ?_
      exact Goes.ret [] (.tuple #[.slice none 0 0, .bool true]) fun w' hm hI => Kr.nil (by unfold kDay; rw [h3, h5] <;> rfl) (below_end (m := []) Holds.nil hI.now.1 hm (by kernel_rfl))
    | false =>
      cases h18 : (op == 18) with
      | true =>
        refine Goes.run1 [0, 0, 1, 1] [(op == 18, true), (op == 18, true), (op == 5, false), (op == 3, false)] ⟨h18, h18, h5, h3, trivial⟩ fun g => ?_
        exact Goes.ret [] (.tuple #[.slice (some ⟨g, 0, none⟩) 2 2, .bool true]) fun w' hm hI => Kr.some [2, 0] (by unfold kDay; rw [h3, h5, h18] <;> rfl) (below_end (m := []) Holds.nil hI.now.1 hm (by kernel_rfl)) (fresh_of hI (g := g) (ids_get (j := 0) (o := .cells #[.int .i64 2, .int .i64 0] 3 (0, 0)) (by kernel_rfl)) (by simp [Mem.ids])) (hm.get 0) (by decide) (by decide)
      | false =>
        cases h19 : (op == 19) with
        | true =>
          refine Goes.run1 [0, 0, 0, 1] [(op == 19, true), (op == 18, false), (op == 5, false), (op == 3, false)] ⟨h19, h18, h5, h3, trivial⟩ fun g => ?_
          exact Goes.ret [] (.tuple #[.slice (some ⟨g, 0, none⟩) 2 2, .bool true]) fun w' hm hI => Kr.some [2, 0] (by unfold kDay; rw [h3, h5, h18, h19] <;> rfl) (below_end (m := []) Holds.nil hI.now.1 hm (by kernel_rfl)) (fresh_of hI (g := g) (ids_get (j := 0) (o := .cells #[.int .i64 2, .int .i64 0] 3 (0, 0)) (by kernel_rfl)) (by simp [Mem.ids])) (hm.get 0) (by decide) (by decide)
        | false =>
          refine Goes.run [0, 0, 0, 0] [(op == 19, false), (op == 18, false), (op == 5, false), (op == 3, false)] ⟨h19, h18, h5, h3, trivial⟩ ?_
          exact Goes.ret [] (.tuple #[.slice none 0 0, .bool false]) fun w' hm hI => Kr.none (by unfold kDay; rw [h3, h5, h18, h19] <;> rfl) (below_end (m := []) Holds.nil hI.now.1 hm (by kernel_rfl))
def kContract (op : Int) : Option (List Int) :=
  bif op == 23 || op == 24 then some [] else bif op == 25 || op == 29 then some [4] else bif op == 26 then some [0, 4] else bif op == 27 || op == 31 then some [4, 4] else bif op == 28 then some [1, 4, 4] else bif op == 30 then some [1, 4] else none
set_option maxRecDepth 100000 in
seal rn rnN Goes ans atEnd put0 putM opened putA0 oneSt st0 in
theorem kContract_any (op : Int) (w : World) : Calls Tryz.prog 232 #[.int .i64 op] w (Kr (kContract op) w) := by
  refine Goes.begin Tryz.func232 [] (fun _ => True) Holds.nil (by simp [Mem.ids]) (fun _ _ => trivial) ?_
  cases h23 : (op == 23) with
  | true =>
    refine Goes.run [1, 1] [(op == 23, true), (op == 23, true)] ⟨h23, h23, trivial⟩ ?_
    exact Goes.ret [] (.tuple #[.slice none 0 0, .bool true]) fun w' hm hI => Kr.nil (by unfold kContract; rw [h23] <;> rfl) (below_end (m := []) Holds.nil hI.now.1 hm (by kernel_rfl))
  | false =>
    cases h24 : (op == 24) with
    | true =>
      refine Goes.run [0, 1] [(op == 24, true), (op == 23, false)] ⟨h24, h23, trivial⟩ ?_
      exact Goes.ret [] (.tuple #[.slice none 0 0, .bool true]) fun w' hm hI => Kr.nil (by unfold kContract; rw [h23, h24] <;> rfl) (below_end (m := []) Holds.nil hI.now.1 hm (by kernel_rfl))
    | false =>
      cases h25 : (op == 25) with
      | true =>
        refine Goes.run1 [0, 0, 1, 1] [(op == 25, true), (op == 25, true), (op == 24, false), (op == 23, false)] ⟨h25, h25, h24, h23, trivial⟩ fun g => ?_
        exact Goes.ret [] (.tuple #[.slice (some ⟨g, 0, none⟩) 1 1, .bool true]) fun w' hm hI => Kr.some [4] (by unfold kContract; rw [h23, h24, h25] <;> rfl) (below_end (m := []) Holds.nil hI.now.1 hm (by kernel_rfl)) (fresh_of hI (g := g) (ids_get (j := 0) (o := .cells #[.int .i64 4] 3 (0, 0)) (by kernel_rfl)) (by simp [Mem.ids])) (hm.get 0) (by decide) (by decide)
      | false =>
        cases h29 : (op == 29) with
        | true =>
          refine Goes.run1 [0, 0, 0, 1] [(op == 29, true), (op == 25, false), (op == 24, false), (op == 23, false)] ⟨h29, h25, h24, h23, trivial⟩ fun g => ?_
          exact Goes.ret [] (.tuple #[.slice (some ⟨g, 0, none⟩) 1 1, .bool true]) fun w' hm hI => Kr.some [4] (by unfold kContract; rw [h23, h24, h25, h29] <;> rfl) (below_end (m := []) Holds.nil hI.now.1 hm (by kernel_rfl)) (fresh_of hI (g := g) (ids_get (j := 0) (o := .cells #[.int .i64 4] 3 (0, 0)) (by kernel_rfl)) (by simp [Mem.ids])) (hm.get 0) (by decide) (by decide)
        | false =>
          cases h26 : (op == 26) with
          | true =>
            refine Goes.run1 [0, 0, 0, 0, 1] [(op == 26, true), (op == 29, false), (op == 25, false), (op == 24, false), (op == 23, false)] ⟨h26, h29, h25, h24, h23, trivial⟩ fun g => ?_
            exact Goes.ret [] (.tuple #[.slice (some ⟨g, 0, none⟩) 2 2, .bool true]) fun w' hm hI => Kr.some [0, 4] (by unfold kContract; rw [h23, h24, h25, h29, h26] <;> rfl) (below_end (m := []) Holds.nil hI.now.1 hm (by kernel_rfl)) (fresh_of hI (g := g) (ids_get (j := 0) (o := .cells #[.int .i64 0, .int .i64 4] 3 (0, 0)) (by kernel_rfl)) (by simp [Mem.ids])) (hm.get 0) (by decide) (by decide)
          | false =>
            cases h27 : (op == 27) with
            | true =>
              refine Goes.run1 [0, 0, 0, 0, 0, 1, 1] [(op == 27, true), (op == 27, true), (op == 26, false), (op == 29, false), (op == 25, false), (op == 24, false), (op == 23, false)] ⟨h27, h27, h26, h29, h25, h24, h23, trivial⟩ fun g => ?_
              exact Goes.ret [] (.tuple #[.slice (some ⟨g, 0, none⟩) 2 2, .bool true]) fun w' hm hI => Kr.some [4, 4] (by unfold kContract; rw [h23, h24, h25, h29, h26, h27] <;> rfl) (below_end (m := []) Holds.nil hI.now.1 hm (by kernel_rfl)) (fresh_of hI (g := g) (ids_get (j := 0) (o := .cells #[.int .i64 4, .int .i64 4] 3 (0, 0)) (by kernel_rfl)) (by simp [Mem.ids])) (hm.get 0) (by decide) (by decide)
            | false =>
              cases h31 : (op == 31) with
              | true =>
                refine Goes.run1 [0, 0, 0, 0, 0, 0, 1] [(op == 31, true), (op == 27, false), (op == 26, false), (op == 29, false), (op == 25, false), (op == 24, false), (op == 23, false)] ⟨h31, h27, h26, h29, h25, h24, h23, trivial⟩ fun g => ?_
                exact Goes.ret [] (.tuple #[.slice (some ⟨g, 0, none⟩) 2 2, .bool true]) fun w' hm hI => Kr.some [4, 4] (by unfold kContract; rw [h23, h24, h25, h29, h26, h27, h31] <;> rfl) (below_end (m := []) Holds.nil hI.now.1 hm (by kernel_rfl)) (fresh_of hI (g := g) (ids_get (j := 0) (o := .cells #[.int .i64 4, .int .i64 4] 3 (0, 0)) (by kernel_rfl)) (by simp [Mem.ids])) (hm.get 0) (by decide) (by decide)
              | false =>
                cases h28 : (op == 28) with
                | true =>
                  refine Goes.run1 [0, 0, 0, 0, 0, 0, 0, 1] [(op == 28, true), (op == 31, false), (op == 27, false), (op == 26, false), (op == 29, false), (op == 25, false), (op == 24, false), (op == 23, false)] ⟨h28, h31, h27, h26, h29, h25, h24, h23, trivial⟩ fun g => ?_
                  exact Goes.ret [] (.tuple #[.slice (some ⟨g, 0, none⟩) 3 3, .bool true]) fun w' hm hI => Kr.some [1, 4, 4] (by unfold kContract; rw [h23, h24, h25, h29, h26, h27, h31, h28] <;> rfl) (below_end (m := []) Holds.nil hI.now.1 hm (by kernel_rfl)) (fresh_of hI (g := g) (ids_get (j := 0) (o := .cells #[.int .i64 1, .int .i64 4, .int .i64 4] 3 (0, 0)) (by kernel_rfl)) (by simp [Mem.ids])) (hm.get 0) (by decide) (by decide)
                | false =>
                  cases h30 : (op == 30) with
                  | true =>
                    refine Goes.run1 [0, 0, 0, 0, 0, 0, 0, 0, 1] [(op == 30, true), (op == 28, false), (op == 31, false), (op == 27, false), (op == 26, false), (op == 29, false), (op == 25, false), (op == 24, false), (op == 23, false)] ⟨h30, h28, h31, h27, h26, h29, h25, h24, h23, trivial⟩ fun g => ?_
                    exact Goes.ret [] (.tuple #[.slice (some ⟨g, 0, none⟩) 2 2, .bool true]) fun w' hm hI => Kr.some [1, 4] (by unfold kContract; rw [h23, h24, h25, h29, h26, h27, h31, h28, h30] <;> rfl) (below_end (m := []) Holds.nil hI.now.1 hm (by kernel_rfl)) (fresh_of hI (g := g) (ids_get (j := 0) (o := .cells #[.int .i64 1, .int .i64 4] 3 (0, 0)) (by kernel_rfl)) (by simp [Mem.ids])) (hm.get 0) (by decide) (by decide)
                  | false =>
                    refine Goes.run [0, 0, 0, 0, 0, 0, 0, 0, 0] [(op == 30, false), (op == 28, false), (op == 31, false), (op == 27, false), (op == 26, false), (op == 29, false), (op == 25, false), (op == 24, false), (op == 23, false)] ⟨h30, h28, h31, h27, h26, h29, h25, h24, h23, trivial⟩ ?_
                    exact Goes.ret [] (.tuple #[.slice none 0 0, .bool false]) fun w' hm hI => Kr.none (by unfold kContract; rw [h23, h24, h25, h29, h26, h27, h31, h28, h30] <;> rfl) (below_end (m := []) Holds.nil hI.now.1 hm (by kernel_rfl))
theorem KidsAt.stay {w w' : World} {v : Value} {ks : List Int} (hB : Below w.heap.size w w') (h : KidsAt w w' v ks) : Stay [] w' (fun w2 => Below w.heap.size w w2 ∧ KidsAt w w2 v ks) := by
  intro w2 hc
  have hb : Below w'.heap.size w' w2 := hc.toB (fun x hx => by cases hx)
  refine ⟨hB.trans (hb.mono hB.size), ?_⟩
  rcases h with h | ⟨g, h1, h2, h3, h4⟩
  · exact .inl h
  · exact .inr ⟨g, h1, h2, (hb.block g (lt_of_get h3)).trans h3, h4⟩
def kOf (op want : Int) : Option (List Int) :=
  bif want == 4 then kContract op else bif op == 22 then some [1, want, want] else bif want == 0 then kNumber op else bif want == 1 then kTruth op else kDay op
set_option maxRecDepth 100000 in
seal rn rnN Goes ans atEnd put0 putM opened putA0 oneSt st0 in
theorem kOf_any (op want : Int) (w : World) : Calls Tryz.prog 201 #[.int .i64 op, .int .i64 want] w (Kr (kOf op want) w) := by
  refine Goes.begin Tryz.func201 [] (fun _ => True) Holds.nil (by simp [Mem.ids]) (fun _ _ => trivial) ?_
  cases h1 : (want == 4) with
  | true =>
    refine Goes.run [1] [(want == 4, true)] ⟨h1, trivial⟩ ?_
    refine Goes.call 232 #[.int .i64 op] fun w1 hm hn hI => (kContract_any op w1).mono fun e w2 hk => ?_
    have hk2 := hk.later (w := w) (hI.now.1.toB (fun x hx => by cases hx))
    obtain ⟨v, rfl, hB, hK⟩ := hk2
    refine ⟨_, fun w' => Below w.heap.size w w' ∧ KidsAt w w' v ((kContract op).getD []), [], rfl, Holds.nil, by simp [Mem.ids], KidsAt.stay hB hK, ?_⟩
    refine Goes.run [] [] trivial ?_
    exact Goes.ret [] (.tuple #[v, .bool (kContract op).isSome]) fun w' hm hI => ⟨v, by unfold kOf; rw [h1] <;> rfl, hI.now.1, by unfold kOf; rw [h1]; exact hI.now.2⟩
  | false =>
    cases h2 : (op == 22) with
    | true =>
      refine Goes.run1 [0, 1] [(op == 22, true), (want == 4, false)] ⟨h2, h1, trivial⟩ fun g => ?_
      exact Goes.ret [] (.tuple #[.slice (some ⟨g, 0, none⟩) 3 3, .bool true]) fun w' hm hI => Kr.some [1, want, want] (by unfold kOf; rw [h1, h2] <;> rfl) (below_end (m := []) Holds.nil hI.now.1 hm (by kernel_rfl)) (fresh_of hI (g := g) (ids_get (j := 0) (o := .cells #[.int .i64 1, .int .i64 want, .int .i64 want] 3 (0, 0)) (by kernel_rfl)) (by simp [Mem.ids])) (hm.get 0) (by simp) (by simp)
    | false =>
      cases h3 : (want == 0) with
      | true =>
        refine Goes.run [0, 0, 1] [(want == 0, true), (op == 22, false), (want == 4, false)] ⟨h3, h2, h1, trivial⟩ ?_
        refine Goes.call 233 #[.int .i64 op] fun w1 hm hn hI => (kNumber_any op w1).mono fun e w2 hk => ?_
        have hk2 := hk.later (w := w) (hI.now.1.toB (fun x hx => by cases hx))
        obtain ⟨v, rfl, hB, hK⟩ := hk2
        refine ⟨_, fun w' => Below w.heap.size w w' ∧ KidsAt w w' v ((kNumber op).getD []), [], rfl, Holds.nil, by simp [Mem.ids], KidsAt.stay hB hK, ?_⟩
        refine Goes.run [] [] trivial ?_
        exact Goes.ret [] (.tuple #[v, .bool (kNumber op).isSome]) fun w' hm hI => ⟨v, by unfold kOf; rw [h1, h2, h3] <;> rfl, hI.now.1, by unfold kOf; rw [h1, h2, h3]; exact hI.now.2⟩
      | false =>
        cases h4 : (want == 1) with
        | true =>
          refine Goes.run [0, 0, 0, 1] [(want == 1, true), (want == 0, false), (op == 22, false), (want == 4, false)] ⟨h4, h3, h2, h1, trivial⟩ ?_
          refine Goes.call 234 #[.int .i64 op] fun w1 hm hn hI => (kTruth_any op w1).mono fun e w2 hk => ?_
          have hk2 := hk.later (w := w) (hI.now.1.toB (fun x hx => by cases hx))
          obtain ⟨v, rfl, hB, hK⟩ := hk2
          refine ⟨_, fun w' => Below w.heap.size w w' ∧ KidsAt w w' v ((kTruth op).getD []), [], rfl, Holds.nil, by simp [Mem.ids], KidsAt.stay hB hK, ?_⟩
          refine Goes.run [] [] trivial ?_
          exact Goes.ret [] (.tuple #[v, .bool (kTruth op).isSome]) fun w' hm hI => ⟨v, by unfold kOf; rw [h1, h2, h3, h4] <;> rfl, hI.now.1, by unfold kOf; rw [h1, h2, h3, h4]; exact hI.now.2⟩
        | false =>
          refine Goes.run [0, 0, 0, 0] [(want == 1, false), (want == 0, false), (op == 22, false), (want == 4, false)] ⟨h4, h3, h2, h1, trivial⟩ ?_
          refine Goes.call 235 #[.int .i64 op] fun w1 hm hn hI => (kDay_any op w1).mono fun e w2 hk => ?_
          have hk2 := hk.later (w := w) (hI.now.1.toB (fun x hx => by cases hx))
          obtain ⟨v, rfl, hB, hK⟩ := hk2
          refine ⟨_, fun w' => Below w.heap.size w w' ∧ KidsAt w w' v ((kDay op).getD []), [], rfl, Holds.nil, by simp [Mem.ids], KidsAt.stay hB hK, ?_⟩
          refine Goes.run [] [] trivial ?_
          exact Goes.ret [] (.tuple #[v, .bool (kDay op).isSome]) fun w' hm hI => ⟨v, by unfold kOf; rw [h1, h2, h3, h4] <;> rfl, hI.now.1, by unfold kOf; rw [h1, h2, h3, h4]; exact hI.now.2⟩
end Go.Proofs.YtddbiiejilcbbaaGreatDoor
namespace Go.Proofs.YtddbiiejilcbbaaGreatDoor
open Go Go.RowKit

/-- A function that tells of which sort a byte is. -/
def Srt (f : FuncId) (C : Int → Bool) : Prop := ∀ (z : Int) (w : World), Calls Tryz.prog f #[.int .u8 z] w fun e w' => e = .returned (.bool (C z)) ∧ Below w.heap.size w w'
def cLet (z : Int) : Bool := decide (97 ≤ z) && decide (z ≤ 122)
def cCap (z : Int) : Bool := decide (65 ≤ z) && decide (z ≤ 90)
def cDig (z : Int) : Bool := decide (48 ≤ z) && decide (z ≤ 57)
def cIn (z : Int) : Bool := cLet z || cDig z || z == 95
set_option maxRecDepth 100000 in
seal rn Goes ans atEnd put0 putM opened putA0 oneSt st0 in
theorem cLet_any : Srt 270 cLet := by
  intro z w
  refine Goes.begin Tryz.func270 [] (fun _ => True) Holds.nil (by simp [Mem.ids]) (fun _ _ => trivial) ?_
  cases h : decide ((97 : Int) ≤ z) with
  | true =>
    refine Goes.run [1] [(decide ((97 : Int) ≤ z), true)] ⟨h, trivial⟩ ?_
    exact Goes.ret [] (.bool (decide (z ≤ 122))) fun w' hm hI => ⟨by simp only [cLet, h, Bool.true_and], bel0 hI⟩
  | false =>
    refine Goes.run [0] [(decide ((97 : Int) ≤ z), false)] ⟨h, trivial⟩ ?_
    exact Goes.ret [] (.bool false) fun w' hm hI => ⟨by simp only [cLet, h, Bool.false_and], bel0 hI⟩
set_option maxRecDepth 100000 in
seal rn Goes ans atEnd put0 putM opened putA0 oneSt st0 in
theorem cCap_any : Srt 273 cCap := by
  intro z w
  refine Goes.begin Tryz.func273 [] (fun _ => True) Holds.nil (by simp [Mem.ids]) (fun _ _ => trivial) ?_
  cases h : decide ((65 : Int) ≤ z) with
  | true =>
    refine Goes.run [1] [(decide ((65 : Int) ≤ z), true)] ⟨h, trivial⟩ ?_
    exact Goes.ret [] (.bool (decide (z ≤ 90))) fun w' hm hI => ⟨by simp only [cCap, h, Bool.true_and], bel0 hI⟩
  | false =>
    refine Goes.run [0] [(decide ((65 : Int) ≤ z), false)] ⟨h, trivial⟩ ?_
    exact Goes.ret [] (.bool false) fun w' hm hI => ⟨by simp only [cCap, h, Bool.false_and], bel0 hI⟩
theorem idxB {l : List UInt8} {i : Nat} {c : UInt8} (h : l[i]? = some c) (w : World) : (Instr.index 9 (strV l) (.int .i64 i)).run Tryz.prog w = .ok (.int .u8 (c.toNat : Nat)) w := by
  have hlt := (List.getElem?_eq_some_iff.1 h).1
  have h1 : (i : Int) < l.length := by omega
  have h2 : (⟨l.toArray⟩ : ByteArray).size = l.length := by simp [ByteArray.size]
  have h3 : (⟨l.toArray⟩ : ByteArray)[i]'(by rw [h2]; exact hlt) = c := by
    have := (List.getElem?_eq_some_iff.1 h).2
    simp [ByteArray.getElem_eq_getElem_data, this]
  unfold strV
  go_simp
set_option maxRecDepth 100000 in
seal rn Goes ans atEnd put0 putM opened putA0 oneSt st0 in
theorem cIn_any : Srt 272 cIn := by
  intro z w
  refine Goes.begin Tryz.func272 [] (fun _ => True) Holds.nil (by simp [Mem.ids]) (fun _ _ => trivial) ?_
  refine Goes.run [] [] trivial ?_
  refine Goes.call0 270 #[.int .u8 z] (.bool (cLet z)) (fun w' _ _ => cLet_any z w') ?_
  cases h : cLet z with
  | true =>
    refine Goes.run [1, 1] [(true, true), (true, true)] ⟨rfl, rfl, trivial⟩ ?_
    exact Goes.ret [] (.bool true) fun w' hm hI => ⟨by simp only [cIn, h, Bool.true_or], bel0 hI⟩
  | false =>
    cases h2 : decide ((48 : Int) ≤ z) with
    | false =>
      refine Goes.run [0, 0, 0] [(false, false), (decide ((48 : Int) ≤ z), false), (false, false)] ⟨rfl, h2, rfl, trivial⟩ ?_
      exact Goes.ret [] (.bool (z == 95)) fun w' hm hI => ⟨by simp only [cIn, cDig, h, h2, Bool.false_and, Bool.false_or], bel0 hI⟩
    | true =>
      cases h3 : decide (z ≤ (57 : Int)) with
      | true =>
        refine Goes.run [0, 1, 1] [(decide (z ≤ (57 : Int)), true), (decide ((48 : Int) ≤ z), true), (false, false)] ⟨h3, h2, rfl, trivial⟩ ?_
        exact Goes.ret [] (.bool true) fun w' hm hI => ⟨by simp only [cIn, cDig, h, h2, h3, Bool.true_and, Bool.false_or, Bool.true_or], bel0 hI⟩
      | false =>
        refine Goes.run [0, 1, 0] [(decide (z ≤ (57 : Int)), false), (decide ((48 : Int) ≤ z), true), (false, false)] ⟨h3, h2, rfl, trivial⟩ ?_
        exact Goes.ret [] (.bool (z == 95)) fun w' hm hI => ⟨by simp only [cIn, cDig, h, h2, h3, Bool.true_and, Bool.false_or], bel0 hI⟩
/-- Are all its bytes of a sort? -/
def allB (C : Int → Bool) (l : List UInt8) : Bool := l.all fun x => C (x.toNat : Nat)
set_option maxRecDepth 100000 in
seal rn Goes ans atEnd put0 putM opened putA0 oneSt st0 in
theorem areAll_any {f : FuncId} {C : Int → Bool} (hs : Srt f C) (hf : okf Tryz.prog f = true) (l : List UInt8) (w : World) (hl : l.length ≤ 9223372036854775807) : Calls Tryz.prog 271 #[strV l, .func (.func f) #[] #[]] w fun e w' => e = .returned (.bool (allB C l)) ∧ Below w.heap.size w w' := by
  refine Goes.begin Tryz.func271 [] (fun _ => True) Holds.nil (by simp [Mem.ids]) (fun _ _ => trivial) ?_
  refine Goes.run [] [] trivial ?_
  refine Goes.loop0 (α := Nat) 18 (fun j => [(0, strV l), (1, .func (.func f) #[] #[]), (7, .int .i64 l.length), (8, .int .i64 j)]) [] (fun j => allB C (l.drop j) = allB C l ∧ j ≤ l.length) (fun j => l.length - j) 0 ⟨rfl, Nat.zero_le _⟩ ?_
  rintro j J ⟨hj, hj2⟩ back
  cases hlt : decide ((j : Int) < (l.length : Int)) with
  | false =>
    refine Goes.run [0, 0] [(decide ((j : Int) < (l.length : Int)), false)] ⟨hlt, trivial⟩ ?_
    exact Goes.ret [] (.bool true) fun w' hm hI => ⟨by rw [← hj, List.drop_of_length_le (by have := of_decide_eq_false hlt; omega)]; rfl, bel0 hI⟩
  | true =>
    have hjl : j < l.length := by have := of_decide_eq_true hlt; omega
    obtain ⟨x, hx⟩ : ∃ x, l[j]? = some x := ⟨l[j], by simp⟩
    have hd : l.drop j = x :: l.drop (j + 1) := by
      obtain ⟨h1, h2⟩ := List.getElem?_eq_some_iff.1 hx
      rw [List.drop_eq_getElem_cons h1, h2]
    refine Goes.run [0, 1] [(decide ((j : Int) < (l.length : Int)), true)] ⟨hlt, trivial⟩ ?_
    refine Goes.val (Instr.index 9 (strV l) (.int .i64 j)) (.int .u8 (x.toNat : Nat)) (fun w' _ _ => idxB hx w') ?_
    refine Goes.call0 f #[.int .u8 (x.toNat : Nat)] (.bool (C (x.toNat : Nat))) (fun w' _ _ => hs _ w') (hf := hf) ?_
    cases hc : C (x.toNat : Nat) with
    | false =>
      refine Goes.run [1] [(true, true)] ⟨rfl, trivial⟩ ?_
      exact Goes.ret [] (.bool false) fun w' hm hI => ⟨by rw [← hj, hd]; simp [allB, hc], bel0 hI⟩
    | true =>
      refine Goes.run [0] [(false, false)] ⟨rfl, trivial⟩ ?_
      refine Goes.slot 8 (.int .i64 (j + 1 : Nat)) (u := .int .i64 (IntKind.i64.wrap ((j : Int) + 1))) (congrArg _ (wrap_nat (by omega))) ?_
      exact back (j + 1) _ ⟨by rw [← hj, hd]; simp [allB, hc], by omega⟩ (by omega) (by kernel_rfl) (by kernel_rfl) (by kernel_rfl)
def curP (l : List UInt8) : Bool := ((l.length : Int) == 3) && allB cCap l
set_option maxRecDepth 100000 in
seal rn Goes ans atEnd put0 putM opened putA0 oneSt st0 in
theorem isCur_any (l : List UInt8) (w : World) (hl : l.length ≤ 9223372036854775807) : Calls Tryz.prog 259 #[strV l] w fun e w' => e = .returned (.bool (curP l)) ∧ Below w.heap.size w w' := by
  refine Goes.begin Tryz.func259 [] (fun _ => True) Holds.nil (by simp [Mem.ids]) (fun _ _ => trivial) ?_
  cases h : ((l.length : Int) == 3) with
  | true =>
    refine Goes.run [1] [((l.length : Int) == 3, true)] ⟨h, trivial⟩ ?_
    refine Goes.call0 271 #[strV l, .func (.func 273) #[] #[]] (.bool (allB cCap l)) (fun w' _ _ => areAll_any cCap_any (by kernel_rfl) l w' hl) ?_
    refine Goes.run [] [] trivial ?_
    exact Goes.ret [] (.bool (allB cCap l)) fun w' hm hI => ⟨by simp only [curP, h, Bool.true_and], bel0 hI⟩
  | false =>
    refine Goes.run [0] [((l.length : Int) == 3, false)] ⟨h, trivial⟩ ?_
    exact Goes.ret [] (.bool false) fun w' hm hI => ⟨by simp only [curP, h, Bool.false_and], bel0 hI⟩
def namP (l : List UInt8) : Bool := decide ((0 : Int) < (l.length : Int)) && decide ((l.length : Int) ≤ 24) && cLet ((l.getD 0 0).toNat : Nat) && allB cIn l
set_option maxRecDepth 100000 in
seal rn Goes ans atEnd put0 putM opened putA0 oneSt st0 in
theorem isNam_any (l : List UInt8) (w : World) (hl : l.length ≤ 9223372036854775807) : Calls Tryz.prog 258 #[strV l] w fun e w' => e = .returned (.bool (namP l)) ∧ Below w.heap.size w w' := by
  refine Goes.begin Tryz.func258 [] (fun _ => True) Holds.nil (by simp [Mem.ids]) (fun _ _ => trivial) ?_
  cases h0 : decide ((0 : Int) < (l.length : Int)) with
  | false =>
    refine Goes.run [0, 0, 0] [(false, false), (false, false), (decide ((0 : Int) < (l.length : Int)), false)] ⟨rfl, rfl, h0, trivial⟩ ?_
    exact Goes.ret [] (.bool false) fun w' hm hI => ⟨by simp only [namP, h0, Bool.false_and], bel0 hI⟩
  | true =>
    cases h1 : decide ((l.length : Int) ≤ 24) with
    | false =>
      refine Goes.run [1, 0, 0] [(false, false), (decide ((l.length : Int) ≤ 24), false), (decide ((0 : Int) < (l.length : Int)), true)] ⟨rfl, h1, h0, trivial⟩ ?_
      exact Goes.ret [] (.bool false) fun w' hm hI => ⟨by simp only [namP, h0, h1, Bool.true_and, Bool.false_and], bel0 hI⟩
    | true =>
      have hp : 0 < l.length := by have := of_decide_eq_true h0; omega
      obtain ⟨x, hx⟩ : ∃ x, l[0]? = some x := ⟨l[0], by simp⟩
      have hx' : l.getD 0 0 = x := by simp [List.getD, hx]
      refine Goes.run [1, 1] [(decide ((l.length : Int) ≤ 24), true), (decide ((0 : Int) < (l.length : Int)), true)] ⟨h1, h0, trivial⟩ ?_
      refine Goes.val (Instr.index 9 (strV l) (.int .i64 (0 : Nat))) (.int .u8 (x.toNat : Nat)) (fun w' _ _ => idxB hx w') ?_
      refine Goes.call0 270 #[.int .u8 (x.toNat : Nat)] (.bool (cLet (x.toNat : Nat))) (fun w' _ _ => cLet_any _ w') ?_
      cases h2 : cLet (x.toNat : Nat) with
      | false =>
        refine Goes.run [0] [(false, false)] ⟨rfl, trivial⟩ ?_
        exact Goes.ret [] (.bool false) fun w' hm hI => ⟨by simp only [namP, h0, h1, hx', h2, Bool.true_and, Bool.false_and], bel0 hI⟩
      | true =>
        refine Goes.run [1] [(true, true)] ⟨rfl, trivial⟩ ?_
        refine Goes.call0 271 #[strV l, .func (.func 272) #[] #[]] (.bool (allB cIn l)) (fun w' _ _ => areAll_any cIn_any (by kernel_rfl) l w' hl) ?_
        refine Goes.run [] [] trivial ?_
        exact Goes.ret [] (.bool (allB cIn l)) fun w' hm hI => ⟨by simp only [namP, h0, h1, hx', h2, Bool.true_and], bel0 hI⟩
end Go.Proofs.YtddbiiejilcbbaaGreatDoor
namespace Go.Proofs.YtddbiiejilcbbaaGreatDoor
open Go Go.RowKit

def inW (n a b : Int) : Bool := decide (a ≤ n) && decide (n ≤ b)
set_option maxRecDepth 100000 in
seal rn rnS Goes ans atEnd put0 putM opened putA0 oneSt st0 in
theorem inW_any (n a b : Int) (w : World) : Calls Tryz.prog 256 #[.int .i64 n, .int .i64 a, .int .i64 b] w fun e w' => e = .returned (.bool (inW n a b)) ∧ Below w.heap.size w w' := by
  refine Goes.begin Tryz.func256 [] (fun _ => True) Holds.nil (by simp [Mem.ids]) (fun _ _ => trivial) ?_
  cases h : decide (a ≤ n) with
  | true =>
    refine Goes.run [1] [(decide (a ≤ n), true)] ⟨h, trivial⟩ ?_
    exact Goes.ret [] (.bool (decide (n ≤ b))) fun w' hm hI => ⟨by simp only [inW, h, Bool.true_and], bel0 hI⟩
  | false =>
    refine Goes.run [0] [(decide (a ≤ n), false)] ⟨h, trivial⟩ ?_
    exact Goes.ret [] (.bool false) fun w' hm hI => ⟨by simp only [inW, h, Bool.false_and], bel0 hI⟩
section
variable (op k : Int) (t : List UInt8) (a : Option Addr) (N c : Nat) (w : World)
def lookP (op : Int) : Bool := op == 4 || op == 5
set_option maxRecDepth 100000 in
seal rn rnS Goes ans atEnd put0 putM opened putA0 oneSt st0 in
theorem look_any : Calls Tryz.prog 122 #[cv op k t (.slice a N c)] w fun e w' => e = .returned (.bool (lookP op)) ∧ Below w.heap.size w w' := by
  refine Goes.begin Tryz.func122 [] (fun _ => True) Holds.nil (by simp [Mem.ids]) (fun _ _ => trivial) ?_
  cases h : (op == 4) with
  | true =>
    refine Goes.run1 [0, 1] [(op == 4, true)] ⟨h, trivial⟩ fun g => ?_
    exact Goes.ret [] (.bool true) fun w' hm hI => ⟨by simp only [lookP, h, Bool.true_or], bel0 hI⟩
  | false =>
    refine Goes.run1 [0, 0, 0] [(op == 4, false)] ⟨h, trivial⟩ fun g => ?_
    exact Goes.ret [] (.bool (op == 5)) fun w' hm hI => ⟨by simp only [lookP, h, Bool.false_or], bel0 hI⟩
def dateP (op : Int) : Bool := op == 29 || op == 30 || op == 31
set_option maxRecDepth 100000 in
seal rn rnS Goes ans atEnd put0 putM opened putA0 oneSt st0 in
theorem dated_any : Calls Tryz.prog 257 #[cv op k t (.slice a N c)] w fun e w' => e = .returned (.bool (dateP op)) ∧ Below w.heap.size w w' := by
  refine Goes.begin Tryz.func257 [] (fun _ => True) Holds.nil (by simp [Mem.ids]) (fun _ _ => trivial) ?_
  cases h : (op == 29) with
  | true =>
    refine Goes.run1 [0, 1, 1] [(true, true), (op == 29, true)] ⟨rfl, h, trivial⟩ fun g => ?_
    exact Goes.ret [] (.bool true) fun w' hm hI => ⟨by simp only [dateP, h, Bool.true_or], bel0 hI⟩
  | false =>
    cases h2 : (op == 30) with
    | true =>
      refine Goes.run1 [0, 0, 0, 1] [(op == 30, true), (op == 29, false)] ⟨h2, h, trivial⟩ fun g => ?_
      exact Goes.ret [] (.bool true) fun w' hm hI => ⟨by simp only [dateP, h, h2, Bool.false_or, Bool.true_or], bel0 hI⟩
    | false =>
      refine Goes.run1 [0, 0, 0, 0, 0] [(op == 30, false), (op == 29, false)] ⟨h2, h, trivial⟩ fun g => ?_
      exact Goes.ret [] (.bool (op == 31)) fun w' hm hI => ⟨by simp only [dateP, h, h2, Bool.false_or], bel0 hI⟩
def ownN (op k : Int) : Bool :=
  bif op == 1 then inW k (-1000000000000000) 1000000000000000 else bif op == 2 then inW k 0 1 else bif op == 3 || dateP op then inW k 0 73048 else bif lookP op then inW k (-3660) 3660 else k == 0
set_option maxRecDepth 100000 in
seal rn rnS Goes ans atEnd put0 putM opened putA0 oneSt st0 in
theorem ownN_any : Calls Tryz.prog 236 #[cv op k t (.slice a N c)] w fun e w' => e = .returned (.bool (ownN op k)) ∧ Below w.heap.size w w' := by
  refine Goes.begin Tryz.func236 [] (fun _ => True) Holds.nil (by simp [Mem.ids]) (fun _ _ => trivial) ?_
  cases h1 : (op == 1) with
  | true =>
    refine Goes.run1 [0, 1, 0] [(op == 1, true)] ⟨h1, trivial⟩ fun g => ?_
    refine Goes.call0 256 #[.int .i64 k, .int .i64 (-1000000000000000), .int .i64 1000000000000000] (.bool (inW k (-1000000000000000) 1000000000000000)) (fun w' _ _ => inW_any k (-1000000000000000) 1000000000000000 w') ?_
    refine Goes.run [] [] trivial ?_
    exact Goes.ret [] (.bool (inW k (-1000000000000000) 1000000000000000)) fun w' hm hI => ⟨by unfold ownN; rw [h1] <;> rfl, bel0 hI⟩
  | false =>
    cases h2 : (op == 2) with
    | true =>
      refine Goes.run1 [0, 0, 0, 1, 0] [(op == 2, true), (op == 1, false)] ⟨h2, h1, trivial⟩ fun g => ?_
      refine Goes.call0 256 #[.int .i64 k, .int .i64 (0), .int .i64 1] (.bool (inW k (0) 1)) (fun w' _ _ => inW_any k (0) 1 w') ?_
      refine Goes.run [] [] trivial ?_
      exact Goes.ret [] (.bool (inW k (0) 1)) fun w' hm hI => ⟨by unfold ownN; rw [h1, h2] <;> rfl, bel0 hI⟩
    | false =>
      cases h3 : (op == 3) with
      | true =>
        refine Goes.run1 [0, 0, 0, 0, 0, 1, 1, 0] [(true, true), (op == 3, true), (op == 2, false), (op == 1, false)] ⟨rfl, h3, h2, h1, trivial⟩ fun g => ?_
        refine Goes.call0 256 #[.int .i64 k, .int .i64 (0), .int .i64 73048] (.bool (inW k (0) 73048)) (fun w' _ _ => inW_any k (0) 73048 w') ?_
        refine Goes.run [] [] trivial ?_
        exact Goes.ret [] (.bool (inW k (0) 73048)) fun w' hm hI => ⟨by unfold ownN; rw [h1, h2, h3] <;> rfl, bel0 hI⟩
      | false =>
        refine Goes.run1 [0, 0, 0, 0, 0, 0, 0] [(op == 3, false), (op == 2, false), (op == 1, false)] ⟨h3, h2, h1, trivial⟩ fun g => ?_
        refine Goes.call0 257 #[cv op k t (.slice a N c)] (.bool (dateP op)) (fun w' _ _ => dated_any op k t a N c w') ?_
        cases h4 : dateP op with
        | true =>
          refine Goes.run [1, 0] [(true, true)] ⟨rfl, trivial⟩ ?_
          refine Goes.call0 256 #[.int .i64 k, .int .i64 (0), .int .i64 73048] (.bool (inW k (0) 73048)) (fun w' _ _ => inW_any k (0) 73048 w') ?_
          refine Goes.run [] [] trivial ?_
          exact Goes.ret [] (.bool (inW k (0) 73048)) fun w' hm hI => ⟨by unfold ownN; rw [h1, h2, h3, h4] <;> rfl, bel0 hI⟩
        | false =>
          refine Goes.run [0, 0] [(false, false)] ⟨rfl, trivial⟩ ?_
          refine Goes.call0 122 #[cv op k t (.slice a N c)] (.bool (lookP op)) (fun w' _ _ => look_any op k t a N c w') ?_
          cases h5 : lookP op with
          | true =>
            refine Goes.run [1, 0] [(true, true)] ⟨rfl, trivial⟩ ?_
            refine Goes.call0 256 #[.int .i64 k, .int .i64 (-3660), .int .i64 3660] (.bool (inW k (-3660) 3660)) (fun w' _ _ => inW_any k (-3660) 3660 w') ?_
            refine Goes.run [] [] trivial ?_
            exact Goes.ret [] (.bool (inW k (-3660) 3660)) fun w' hm hI => ⟨by unfold ownN; rw [h1, h2, h3, h4, h5] <;> rfl, bel0 hI⟩
          | false =>
            refine Goes.run [0, 0] [(false, false)] ⟨rfl, trivial⟩ ?_
            exact Goes.ret [] (.bool (k == 0)) fun w' hm hI => ⟨by unfold ownN; rw [h1, h2, h3, h4, h5] <;> rfl, bel0 hI⟩
theorem eqE (l : List UInt8) (w : World) : (do eqGuard .eql 9 (.tmp 17) (.const (strV [])) (strV l) (strV []); binOp .eql 9 (strV l) (strV []) : Sem Value).run Tryz.prog w = .ok (.bool (decide (l = []))) w := by
  have : (eqGuard .eql 9 (.tmp 17) (.const (strV [])) (strV l) (strV [])).run Tryz.prog w = .ok () w := by
    unfold eqGuard strV; go_simp
  simp only [Sem.run_bind, this, Result.andThen_ok, eqlS l [] _ rfl w]
def ownS (op : Int) (t : List UInt8) : Bool := bif op == 4 || op == 31 then namP t else bif op == 24 then curP t else decide (t = [])
set_option maxRecDepth 100000 in
seal rn rnS Goes ans atEnd put0 putM opened putA0 oneSt st0 in
theorem ownS_any (ht : t.length ≤ 9223372036854775807) : Calls Tryz.prog 237 #[cv op k t (.slice a N c)] w fun e w' => e = .returned (.bool (ownS op t)) ∧ Below w.heap.size w w' := by
  refine Goes.begin Tryz.func237 [] (fun _ => True) Holds.nil (by simp [Mem.ids]) (fun _ _ => trivial) ?_
  cases h1 : (op == 4) with
  | true =>
    refine Goes.run1 [0, 1, 1, 0] [(op == 4, true), (op == 4, true)] ⟨h1, h1, trivial⟩ fun g => ?_
    refine Goes.call0 258 #[strV t] (.bool (namP t)) (fun w' _ _ => isNam_any t w' ht) ?_
    refine Goes.run [] [] trivial ?_
    exact Goes.ret [] (.bool (namP t)) fun w' hm hI => ⟨by unfold ownS; rw [h1] <;> rfl, bel0 hI⟩
  | false =>
    cases h2 : (op == 31) with
    | true =>
      refine Goes.run1 [0, 0, 1, 0] [(op == 31, true), (op == 4, false)] ⟨h2, h1, trivial⟩ fun g => ?_
      refine Goes.call0 258 #[strV t] (.bool (namP t)) (fun w' _ _ => isNam_any t w' ht) ?_
      refine Goes.run [] [] trivial ?_
      exact Goes.ret [] (.bool (namP t)) fun w' hm hI => ⟨by unfold ownS; rw [h1, h2] <;> rfl, bel0 hI⟩
    | false =>
      cases h3 : (op == 24) with
      | true =>
        refine Goes.run1 [0, 0, 0, 1, 0] [(op == 24, true), (op == 31, false), (op == 4, false)] ⟨h3, h2, h1, trivial⟩ fun g => ?_
        refine Goes.call0 259 #[strV t] (.bool (curP t)) (fun w' _ _ => isCur_any t w' ht) ?_
        refine Goes.run [] [] trivial ?_
        exact Goes.ret [] (.bool (curP t)) fun w' hm hI => ⟨by unfold ownS; rw [h1, h2, h3] <;> rfl, bel0 hI⟩
      | false =>
        refine Goes.upto1 18 [0, 0, 0, 0, 0] [(op == 24, false), (op == 31, false), (op == 4, false)] ⟨h3, h2, h1, trivial⟩ fun g => ?_
        refine Goes.val (do eqGuard .eql 9 (.tmp 17) (.const (strV [])) (strV t) (strV []); binOp .eql 9 (strV t) (strV [])) (.bool (decide (t = []))) (fun w' _ _ => eqE t w') ?_
        refine Goes.run [] [] trivial ?_
        exact Goes.ret [] (.bool (decide (t = []))) fun w' hm hI => ⟨by unfold ownS; rw [h1, h2, h3] <;> rfl, bel0 hI⟩
def ownC (op k : Int) (t : List UInt8) : Bool := ownN op k && ownS op t
set_option maxRecDepth 100000 in
seal rn rnS Goes ans atEnd put0 putM opened putA0 oneSt st0 in
theorem ownC_any (ht : t.length ≤ 9223372036854775807) : Calls Tryz.prog 202 #[cv op k t (.slice a N c)] w fun e w' => e = .returned (.bool (ownC op k t)) ∧ Below w.heap.size w w' := by
  refine Goes.begin Tryz.func202 [] (fun _ => True) Holds.nil (by simp [Mem.ids]) (fun _ _ => trivial) ?_
  refine Goes.run1 [0] [] trivial fun g => ?_
  refine Goes.call0 236 #[cv op k t (.slice a N c)] (.bool (ownN op k)) (fun w' _ _ => ownN_any op k t a N c w') ?_
  cases h : ownN op k with
  | true =>
    refine Goes.run [1, 0] [(true, true)] ⟨rfl, trivial⟩ ?_
    refine Goes.call0 237 #[cv op k t (.slice a N c)] (.bool (ownS op t)) (fun w' _ _ => ownS_any op k t a N c w' ht) ?_
    refine Goes.run [] [] trivial ?_
    exact Goes.ret [] (.bool (ownS op t)) fun w' hm hI => ⟨by simp only [ownC, h, Bool.true_and], bel0 hI⟩
  | false =>
    refine Goes.run [0] [(false, false)] ⟨rfl, trivial⟩ ?_
    exact Goes.ret [] (.bool false) fun w' hm hI => ⟨by simp only [ownC, h, Bool.false_and], bel0 hI⟩
end
end Go.Proofs.YtddbiiejilcbbaaGreatDoor
namespace Go.Proofs.YtddbiiejilcbbaaGreatDoor
open Go Go.RowKit

set_option maxRecDepth 100000 in
seal rn Goes ans atEnd put0 putM opened putA0 oneSt st0 in
theorem rsmall_any : Srt 157 cLet := by
  intro z w
  refine Goes.begin Tryz.func157 [] (fun _ => True) Holds.nil (by simp [Mem.ids]) (fun _ _ => trivial) ?_
  cases h : decide ((97 : Int) ≤ z) with
  | true =>
    refine Goes.run [1] [(decide ((97 : Int) ≤ z), true)] ⟨h, trivial⟩ ?_
    exact Goes.ret [] (.bool (decide (z ≤ 122))) fun w' hm hI => ⟨by simp only [cLet, h, Bool.true_and], bel0 hI⟩
  | false =>
    refine Goes.run [0] [(decide ((97 : Int) ≤ z), false)] ⟨h, trivial⟩ ?_
    exact Goes.ret [] (.bool false) fun w' hm hI => ⟨by simp only [cLet, h, Bool.false_and], bel0 hI⟩
set_option maxRecDepth 100000 in
seal rn Goes ans atEnd put0 putM opened putA0 oneSt st0 in
theorem rdigit_any : Srt 199 cDig := by
  intro z w
  refine Goes.begin Tryz.func199 [] (fun _ => True) Holds.nil (by simp [Mem.ids]) (fun _ _ => trivial) ?_
  cases h : decide ((48 : Int) ≤ z) with
  | true =>
    refine Goes.run [1] [(decide ((48 : Int) ≤ z), true)] ⟨h, trivial⟩ ?_
    exact Goes.ret [] (.bool (decide (z ≤ 57))) fun w' hm hI => ⟨by simp only [cDig, h, Bool.true_and], bel0 hI⟩
  | false =>
    refine Goes.run [0] [(decide ((48 : Int) ≤ z), false)] ⟨h, trivial⟩ ?_
    exact Goes.ret [] (.bool false) fun w' hm hI => ⟨by simp only [cDig, h, Bool.false_and], bel0 hI⟩
set_option maxRecDepth 100000 in
seal rn Goes ans atEnd put0 putM opened putA0 oneSt st0 in
theorem rinner_any : Srt 158 cIn := by
  intro z w
  refine Goes.begin Tryz.func158 [] (fun _ => True) Holds.nil (by simp [Mem.ids]) (fun _ _ => trivial) ?_
  refine Goes.run [] [] trivial ?_
  refine Goes.call0 157 #[.int .u8 z] (.bool (cLet z)) (fun w' _ _ => rsmall_any z w') ?_
  cases h : cLet z with
  | true =>
    refine Goes.run [1, 1] [(true, true), (true, true)] ⟨rfl, rfl, trivial⟩ ?_
    exact Goes.ret [] (.bool true) fun w' hm hI => ⟨by simp only [cIn, h, Bool.true_or], bel0 hI⟩
  | false =>
    refine Goes.run [0] [(false, false)] ⟨rfl, trivial⟩ ?_
    refine Goes.call0 199 #[.int .u8 z] (.bool (cDig z)) (fun w' _ _ => rdigit_any z w') ?_
    cases h2 : cDig z with
    | true =>
      refine Goes.run [1] [(true, true)] ⟨rfl, trivial⟩ ?_
      exact Goes.ret [] (.bool true) fun w' hm hI => ⟨by simp only [cIn, h, h2, Bool.true_or, Bool.false_or], bel0 hI⟩
    | false =>
      refine Goes.run [0] [(false, false)] ⟨rfl, trivial⟩ ?_
      exact Goes.ret [] (.bool (z == 95)) fun w' hm hI => ⟨by simp only [cIn, h, h2, Bool.false_or], bel0 hI⟩
def tkIn (l : List UInt8) : Nat := (l.takeWhile fun y => cIn (y.toNat : Nat)).length
def spanL : List UInt8 → Nat
  | [] => 0
  | x :: r => bif cLet (x.toNat : Nat) then 1 + tkIn r else 0
set_option maxRecDepth 100000 in
seal rn Goes ans atEnd put0 putM opened putA0 oneSt st0 in
theorem rspan_any (l : List UInt8) (w : World) (hl : l.length ≤ 9223372036854775807) : Calls Tryz.prog 118 #[strV l, .int .i64 0] w fun e w' => e = .returned (.int .i64 (spanL l : Nat)) ∧ Below w.heap.size w w' := by
  refine Goes.begin Tryz.func118 [] (fun _ => True) Holds.nil (by simp [Mem.ids]) (fun _ _ => trivial) ?_
  cases h0 : decide ((0 : Int) ≥ (l.length : Int)) with
  | true =>
    obtain rfl : l = [] := List.eq_nil_of_length_eq_zero (by have := of_decide_eq_true h0; omega)
    refine Goes.run [1] [(true, true)] ⟨rfl, trivial⟩ ?_
    exact Goes.ret [] (.int .i64 0) fun w' hm hI => ⟨rfl, bel0 hI⟩
  | false =>
    have hp : 0 < l.length := by have := of_decide_eq_false h0; omega
    obtain ⟨x, hx⟩ : ∃ x, l[0]? = some x := ⟨l[0], by simp⟩
    have hs : spanL l = bif cLet (x.toNat : Nat) then 1 + tkIn (l.drop 1) else 0 := by
      cases l with
      | nil => cases hx
      | cons y r => cases hx; rfl
    refine Goes.run [0] [(decide ((0 : Int) ≥ (l.length : Int)), false)] ⟨h0, trivial⟩ ?_
    refine Goes.val (Instr.index 9 (strV l) (.int .i64 (0 : Nat))) (.int .u8 (x.toNat : Nat)) (fun w' _ _ => idxB hx w') ?_
    refine Goes.call0 157 #[.int .u8 (x.toNat : Nat)] (.bool (cLet (x.toNat : Nat))) (fun w' _ _ => rsmall_any _ w') ?_
    cases h : cLet (x.toNat : Nat) with
    | false =>
      refine Goes.run [1] [(true, true)] ⟨rfl, trivial⟩ ?_
      exact Goes.ret [] (.int .i64 0) fun w' hm hI => ⟨by rw [hs, h]; rfl, bel0 hI⟩
    | true =>
      refine Goes.run [0] [(false, false)] ⟨rfl, trivial⟩ ?_
      rw [hs, h, cond_true]
      refine Goes.loop0 (α := Nat) 34 (fun j => [(0, strV l), (1, .int .i64 0), (6, .int .i64 j)]) [] (fun j => 1 + tkIn (l.drop 1) = j + tkIn (l.drop j) ∧ j ≤ l.length) (fun j => l.length - j) 1 ⟨rfl, by omega⟩ ?_
      rintro j J ⟨hj, hj2⟩ back
      have hz : IntKind.i64.wrap (0 + (j : Int)) = (j : Int) := by rw [IntWalk.i64_in _ ⟨by omega, by omega⟩]; omega
      cases hlt : decide ((j : Int) < (l.length : Int)) with
      | false =>
        refine Goes.run [0, 0, 0] [(false, false), (decide (IntKind.i64.wrap (0 + (j : Int)) < (l.length : Int)), false)] ⟨rfl, by rw [hz]; exact hlt, trivial⟩ ?_
        exact Goes.ret [] (.int .i64 j) fun w' hm hI => ⟨by rw [hj, List.drop_of_length_le (by have := of_decide_eq_false hlt; omega)]; rfl, bel0 hI⟩
      | true =>
        have hjl : j < l.length := by have := of_decide_eq_true hlt; omega
        obtain ⟨y, hy⟩ : ∃ y, l[j]? = some y := ⟨l[j], by simp⟩
        have hd : l.drop j = y :: l.drop (j + 1) := by
          obtain ⟨h1, h2⟩ := List.getElem?_eq_some_iff.1 hy
          rw [List.drop_eq_getElem_cons h1, h2]
        refine Goes.run [0, 1] [(decide (IntKind.i64.wrap (0 + (j : Int)) < (l.length : Int)), true)] ⟨by rw [hz]; exact hlt, trivial⟩ ?_
        refine Goes.val (Instr.index 9 (strV l) (.int .i64 (IntKind.i64.wrap (0 + (j : Int))))) (.int .u8 (y.toNat : Nat)) (fun w' _ _ => by rw [hz]; exact idxB hy w') ?_
        refine Goes.call0 158 #[.int .u8 (y.toNat : Nat)] (.bool (cIn (y.toNat : Nat))) (fun w' _ _ => rinner_any _ w') ?_
        cases hc : cIn (y.toNat : Nat) with
        | false =>
          refine Goes.run [0] [(false, false)] ⟨rfl, trivial⟩ ?_
          exact Goes.ret [] (.int .i64 j) fun w' hm hI => ⟨by rw [hj, hd]; simp [tkIn, hc], bel0 hI⟩
        | true =>
          refine Goes.run [1] [(true, true)] ⟨rfl, trivial⟩ ?_
          refine Goes.slot 6 (.int .i64 (j + 1 : Nat)) (u := .int .i64 (IntKind.i64.wrap ((j : Int) + 1))) (congrArg _ (wrap_nat (by omega))) ?_
          exact back (j + 1) _ ⟨by rw [hj, hd]; simp only [tkIn, List.takeWhile_cons, hc, if_true, List.length_cons]; omega, by omega⟩ (by omega) (by kernel_rfl) (by kernel_rfl) (by kernel_rfl)
theorem tk_all (l : List UInt8) : (tkIn l == l.length) = allB cIn l := by
  unfold tkIn allB
  induction l with
  | nil => rfl
  | cons x r ih =>
    cases h : cIn (x.toNat : Nat) with
    | true => simp only [List.takeWhile_cons, List.all_cons, h, if_true, List.length_cons, Bool.true_and, ← ih]; rw [Bool.eq_iff_iff, beq_iff_eq, beq_iff_eq]; omega
    | false => simp [h]
theorem span_name (l : List UInt8) (h0 : 0 < l.length) : (((spanL l : Nat) : Int) == (l.length : Int)) = (cLet ((l.getD 0 0).toNat : Nat) && allB cIn l) := by
  cases l with
  | nil => simp at h0
  | cons x r =>
    have e : (((spanL (x :: r) : Nat) : Int) == ((x :: r).length : Int)) = (spanL (x :: r) == (x :: r).length) := by
      rw [Bool.eq_iff_iff, beq_iff_eq, beq_iff_eq]; omega
    rw [e]
    simp only [spanL, List.getD_cons_zero]
    cases h : cLet (x.toNat : Nat) with
    | false => simp
    | true =>
      have h2 : cIn (x.toNat : Nat) = true := by simp only [cIn, h, Bool.true_or]
      simp only [cond_true, Bool.true_and, List.length_cons]
      have := tk_all r
      unfold allB at this ⊢
      rw [List.all_cons, h2, Bool.true_and, ← this, Bool.eq_iff_iff, beq_iff_eq, beq_iff_eq]
      omega
set_option maxRecDepth 100000 in
seal rn Goes ans atEnd put0 putM opened putA0 oneSt st0 in
theorem rname_any (l : List UInt8) (w : World) (hl : l.length ≤ 9223372036854775807) : Calls Tryz.prog 71 #[strV l] w fun e w' => e = .returned (.bool (namP l)) ∧ Below w.heap.size w w' := by
  refine Goes.begin Tryz.func71 [] (fun _ => True) Holds.nil (by simp [Mem.ids]) (fun _ _ => trivial) ?_
  cases h0 : decide ((0 : Int) < (l.length : Int)) with
  | false =>
    refine Goes.run [0, 0] [(false, false), (decide ((0 : Int) < (l.length : Int)), false)] ⟨rfl, h0, trivial⟩ ?_
    exact Goes.ret [] (.bool false) fun w' hm hI => ⟨by simp only [namP, h0, Bool.false_and], bel0 hI⟩
  | true =>
    cases h1 : decide ((l.length : Int) ≤ 24) with
    | false =>
      refine Goes.run [1, 0] [(decide ((l.length : Int) ≤ 24), false), (decide ((0 : Int) < (l.length : Int)), true)] ⟨h1, h0, trivial⟩ ?_
      exact Goes.ret [] (.bool false) fun w' hm hI => ⟨by simp only [namP, h0, h1, Bool.true_and, Bool.false_and], bel0 hI⟩
    | true =>
      refine Goes.run [1, 1] [(decide ((l.length : Int) ≤ 24), true), (decide ((0 : Int) < (l.length : Int)), true)] ⟨h1, h0, trivial⟩ ?_
      refine Goes.call0 118 #[strV l, .int .i64 0] (.int .i64 (spanL l : Nat)) (fun w' _ _ => rspan_any l w' hl) ?_
      refine Goes.run [] [] trivial ?_
      exact Goes.ret [] (.bool (((spanL l : Nat) : Int) == (l.length : Int))) fun w' hm hI => ⟨by rw [span_name l (by have := of_decide_eq_true h0; omega)]; simp only [namP, h0, h1, Bool.true_and], bel0 hI⟩
set_option maxRecDepth 100000 in
seal rn Goes ans atEnd put0 putM opened putA0 oneSt st0 in
theorem rcur_any (l : List UInt8) (w : World) : Calls Tryz.prog 134 #[strV l] w fun e w' => e = .returned (.bool (curP l)) ∧ Below w.heap.size w w' := by
  refine Goes.begin Tryz.func134 [] (fun _ => True) Holds.nil (by simp [Mem.ids]) (fun _ _ => trivial) ?_
  cases h : ((l.length : Int) == 3) with
  | false =>
    refine Goes.run [1] [((l.length : Int) != 3, true)] ⟨by simp only [bne, h, Bool.not_false], trivial⟩ ?_
    exact Goes.ret [] (.bool false) fun w' hm hI => ⟨by simp only [curP, h, Bool.false_and], bel0 hI⟩
  | true =>
    have h3 : l.length = 3 := by have := eq_of_beq h; omega
    refine Goes.run [0] [((l.length : Int) != 3, false)] ⟨by simp only [bne, h, Bool.not_true], trivial⟩ ?_
    have hs : curP l = allB cCap l := by simp only [curP, h, Bool.true_and]
    rw [hs]
    refine Goes.loop0 (α := Nat) 21 (fun j => [(0, strV l), (3, .int .i64 j)]) [] (fun j => allB cCap (l.drop j) = allB cCap l ∧ j ≤ 3) (fun j => 3 - j) 0 ⟨rfl, Nat.zero_le _⟩ ?_
    rintro j J ⟨hj, hj2⟩ back
    cases hlt : decide ((j : Int) < (3 : Int)) with
    | false =>
      refine Goes.run [0, 0] [(decide ((j : Int) < (3 : Int)), false)] ⟨hlt, trivial⟩ ?_
      exact Goes.ret [] (.bool true) fun w' hm hI => ⟨by rw [← hj, List.drop_of_length_le (by have := of_decide_eq_false hlt; omega)]; rfl, bel0 hI⟩
    | true =>
      have hjl : j < 3 := by have := of_decide_eq_true hlt; omega
      obtain ⟨y, hy⟩ : ∃ y, l[j]? = some y := ⟨l[j]'(by omega), by simp⟩
      have hd : l.drop j = y :: l.drop (j + 1) := by
        obtain ⟨h1, h2⟩ := List.getElem?_eq_some_iff.1 hy
        rw [List.drop_eq_getElem_cons h1, h2]
      refine Goes.run [0, 1] [(decide ((j : Int) < (3 : Int)), true)] ⟨hlt, trivial⟩ ?_
      refine Goes.val (Instr.index 9 (strV l) (.int .i64 j)) (.int .u8 (y.toNat : Nat)) (fun w' _ _ => idxB hy w') ?_
      cases hc1 : decide (((y.toNat : Nat) : Int) < 65) with
      | true =>
        refine Goes.run [1, 1] [(true, true), (decide (((y.toNat : Nat) : Int) < 65), true)] ⟨rfl, hc1, trivial⟩ ?_
        exact Goes.ret [] (.bool false) fun w' hm hI => ⟨by
          have h2 : cCap (y.toNat : Nat) = false := by unfold cCap; have := of_decide_eq_true hc1; rw [decide_eq_false (by omega)]; rfl
          rw [← hj, hd]; simp [allB, h2], bel0 hI⟩
      | false =>
        refine Goes.run [0] [(decide (((y.toNat : Nat) : Int) < 65), false)] ⟨hc1, trivial⟩ ?_
        refine Goes.val (Instr.index 9 (strV l) (.int .i64 j)) (.int .u8 (y.toNat : Nat)) (fun w' _ _ => idxB hy w') ?_
        have h65 := of_decide_eq_false hc1
        cases hc2 : decide (((y.toNat : Nat) : Int) > 90) with
        | true =>
          refine Goes.run [1] [(decide (((y.toNat : Nat) : Int) > 90), true)] ⟨hc2, trivial⟩ ?_
          exact Goes.ret [] (.bool false) fun w' hm hI => ⟨by
            have h2 : cCap (y.toNat : Nat) = false := by unfold cCap; have := of_decide_eq_true hc2; rw [decide_eq_false (p := _ ≤ (90 : Int)) (by omega), Bool.and_false]
            rw [← hj, hd]; simp [allB, h2], bel0 hI⟩
        | false =>
          refine Goes.run [0] [(decide (((y.toNat : Nat) : Int) > 90), false)] ⟨hc2, trivial⟩ ?_
          refine Goes.slot 3 (.int .i64 (j + 1 : Nat)) (u := .int .i64 (IntKind.i64.wrap ((j : Int) + 1))) (congrArg _ (wrap_nat (by omega))) ?_
          have h2 : cCap (y.toNat : Nat) = true := by unfold cCap; have := of_decide_eq_false hc2; rw [decide_eq_true (by omega), decide_eq_true (by omega)]; rfl
          exact back (j + 1) _ ⟨by rw [← hj, hd]; simp [allB, h2], by omega⟩ (by omega) (by kernel_rfl) (by kernel_rfl) (by kernel_rfl)
end Go.Proofs.YtddbiiejilcbbaaGreatDoor
namespace Go.Proofs.YtddbiiejilcbbaaGreatDoor
open Go Go.RowKit

def fldP (op k : Int) (t : List UInt8) : Bool :=
  bif op == 4 then namP t && inW k (-3660) 3660 else bif op == 31 then namP t && inW k 0 73048 else bif op == 24 then curP t && k == 0 else
  bif !decide (t = []) then false else bif op == 1 then inW k (-1000000000000000) 1000000000000000 else bif op == 2 then k == 0 || k == 1 else bif op == 3 || op == 29 || op == 30 then inW k 0 73048 else bif op == 5 then inW k (-3660) 3660 else k == 0
/-- Both ask the same. -/
theorem fld_own (op k : Int) (t : List UInt8) : fldP op k t = ownC op k t := by
  unfold fldP ownC ownN ownS dateP lookP
  by_cases e4 : op = 4
  · subst e4; simp [Bool.and_comm]
  by_cases e31 : op = 31
  · subst e31; simp [Bool.and_comm]
  by_cases e24 : op = 24
  · subst e24; simp [Bool.and_comm]
  have h4 : (op == 4) = false := by simpa using e4
  have h31 : (op == 31) = false := by simpa using e31
  have h24 : (op == 24) = false := by simpa using e24
  simp only [h4, h31, h24, cond_false, Bool.or_false, Bool.false_or]
  cases hs : decide (t = []) with
  | false => simp
  | true =>
    simp only [Bool.not_true, cond_false, Bool.and_true]
    by_cases e2 : op = 2
    · subst e2
      have : (k == 0 || k == 1) = inW k 0 1 := by
        unfold inW
        rw [Bool.eq_iff_iff]
        simp only [Bool.or_eq_true, beq_iff_eq, Bool.and_eq_true, decide_eq_true_eq]
        omega
      simpa using this
    have h2 : (op == 2) = false := by simpa using e2
    simp only [h2, cond_false, Bool.or_assoc]
end Go.Proofs.YtddbiiejilcbbaaGreatDoor
namespace Go.Proofs.YtddbiiejilcbbaaGreatDoor
open Go Go.RowKit

def rkP (op : Int) : Option (List Int × Int) :=
  bif op == 1 || op == 4 then some ([], 0) else bif op == 2 then some ([], 1) else bif op == 3 || op == 5 then some ([], 2) else bif op == 6 then some ([0], 0) else bif op == 7 || op == 8 || op == 9 || op == 10 then some ([0, 0], 0) else bif op == 11 || op == 12 || op == 13 then some ([0, 0], 1) else bif op == 14 then some ([1], 1) else bif op == 15 || op == 16 then some ([1, 1], 1) else bif op == 17 then some ([2, 2], 1) else bif op == 18 || op == 19 then some ([2, 0], 2) else bif op == 20 || op == 21 then some ([2, 2], 0) else bif op == 23 || op == 24 then some ([], 4) else bif op == 25 || op == 29 then some ([4], 4) else bif op == 26 then some ([0, 4], 4) else bif op == 27 || op == 31 then some ([4, 4], 4) else bif op == 28 then some ([1, 4, 4], 4) else bif op == 30 then some ([1, 4], 4) else none
end Go.Proofs.YtddbiiejilcbbaaGreatDoor
namespace Go.Proofs.YtddbiiejilcbbaaGreatDoor
open Go Go.RowKit

theorem rev_any {w : World} {g : Nat} {ks : List Int} (c : Nat) (hg : w.heap[g]? = some (.cells (ks.map (Value.int .i64)).toArray 3 (0, 0))) (hl : ks.length ≤ 3) :
    Calls Tryz.prog 203 #[.slice (some ⟨g, 0, none⟩) ks.length c] w fun e w' => e = .returned (.tuple #[]) ∧ Ch [g] w w' ∧ w'.heap[g]? = some (.cells (ks.reverse.map (Value.int .i64)).toArray 3 (0, 0)) := by
  have hH : Sort.Holds (Value.int .i64) w g 0 ks.toArray := by
    intro j hj
    have hj' : j < ks.length := by simpa using hj
    unfold World.cell? World.frozen?
    simp only [hg]
    simp [hj']
  refine (Tryz.slices_Reverse_int g 0 c ks w hH (by omega)).mono fun e w' ⟨he, n, hw⟩ => ⟨he, ?_⟩
  subst hw
  refine ⟨⟨rfl, rfl, rfl, by simp [Sort.ahead], fun i hi hx => ?_⟩, ?_⟩
  · have hne : g ≠ i := fun e => hx (by simp [e])
    show (w.heap.modify g _)[i]? = _
    rw [Array.getElem?_modify, if_neg hne]
  · show (w.heap.modify g _)[g]? = _
    rw [Array.getElem?_modify, if_pos rfl, hg]
    simp only [Option.map_some, Option.some.injEq]
    clear hg hH
    match ks, hl with
    | [], _ => rfl
    | [_], _ => rfl
    | [_, _], _ => rfl
    | [_, _, _], _ => rfl
    | _ :: _ :: _ :: _ :: _, h => simp at h
end Go.Proofs.YtddbiiejilcbbaaGreatDoor
namespace Go.Proofs.YtddbiiejilcbbaaGreatDoor
open Go Go.RowKit

section
variable {P : Program} {F : Exit → Act → World → Prop} {Inv : World → Prop} {s : St}
/-- Other blocks, other facts. -/
theorem Goes.swap (m : Mem) (Inv' : World → Prop) (h : ∀ w, Holds s.mem w → s.mem.ids.Nodup → Stay s.mem.ids w Inv → Holds m w ∧ m.ids.Nodup ∧ Stay m.ids w Inv') (G : Goes P F Inv' ⟨s.todo, s.tmps, m⟩) : Goes P F Inv s := fun w hm hn hI => by
  obtain ⟨h1, h2, h3⟩ := h w hm hn hI
  exact G w h1 h2 h3
end
/-- The known blocks are apart. -/
theorem Goes.know3 {P : Program} {F : Exit → Act → World → Prop} {Inv : World → Prop} {s : St} (h : s.mem.ids.Nodup → Goes P F Inv s) : Goes P F Inv s := fun w hm hn hI => h hn w hm hn hI
theorem idxI (b n cap k : Nat) (h : k < n) (w : World) : (Instr.indexAt 119 (.slice (some ⟨b, 0, none⟩) n cap) (.int .i64 k)).run Tryz.prog w = .ok (.pointer (some ⟨b, k, none⟩)) w := by go_simp
theorem cutI (b n cap k : Nat) (h : k ≤ n) (hn : n ≤ cap) (w : World) : (Instr.sliceAt 119 (.slice (some ⟨b, 0, none⟩) n cap) none (some (.int .i64 k)) none).run Tryz.prog w = .ok (.slice (some ⟨b, 0, none⟩) k cap) w := by
  have h1 : (k : Int) ≤ (cap : Int) := by omega
  go_simp
theorem appNil (b n cap : Nat) (ty : TypeId) (hn : n ≤ cap) (w : World) : (Builtin.append_ #[119, 119] ty #[.slice (some ⟨b, 0, none⟩) n cap, .slice none 0 0]).run Tryz.prog w = .ok (.slice (some ⟨b, 0, none⟩) n cap) w := by
  go_simp
/-- What is asked of a term, in order: how many there were, and the types of those to come, the next one first. -/
def fitF (st : Int × List Int) (d : Int) : Co → (Int × List Int) × Bool
  | .mk op k t kids =>
    match st.2 with
    | [] => (st, false)
    | want :: rest =>
      match kOf op want with
      | none => ((IntKind.i64.wrap (st.1 + 1), want :: rest), false)
      | some ks =>
        bif ((kids.length : Int) != (ks.length : Int)) || !ownC op k t || decide (IntKind.i64.wrap (st.1 + 1) > 2000) || decide (d > 200) then ((IntKind.i64.wrap (st.1 + 1), want :: rest), false)
        else ((IntKind.i64.wrap (st.1 + 1), ks ++ rest), true)
/-- Its state in memory. -/
def FsJ (n₀ gs gw : Nat) (st : Int × List Int) (O : List Nat) (w : World) : Prop :=
  ∃ gb cap cur, O = [gs, gw, gb] ∧ O.Nodup ∧ (∀ x ∈ O, n₀ ≤ x) ∧ w.heap[gs]? = some (.cells #[.int .i64 st.1] 3 (0, 0)) ∧ w.heap[gw]? = some (.cells #[.slice (some ⟨gb, 0, none⟩) st.2.length cap] 119 (0, 0)) ∧ w.heap[gb]? = some (.cells cur 3 (0, 0)) ∧ (st.2.length ≤ cap ∧ 0 < cap ∧ cap ≤ maxLen) ∧ cur.size = cap ∧ cur.toList.take st.2.length = st.2.reverse.map (Value.int .i64)
theorem FsJ.stay {n₀ gs gw : Nat} {st : Int × List Int} {O : List Nat} {w w' : World} (h : FsJ n₀ gs gw st O w) (hO : ∀ x ∈ O, w'.heap[x]? = w.heap[x]?) : FsJ n₀ gs gw st O w' := by
  obtain ⟨gb, cap, cur, rfl, h1, h2, h3, h4, h5, h6⟩ := h
  exact ⟨gb, cap, cur, rfl, h1, h2, (hO gs (by simp)).trans h3, (hO gw (by simp)).trans h4, (hO gb (by simp)).trans h5, h6⟩
theorem FsJ.low {n₀ gs gw : Nat} {st : Int × List Int} {O : List Nat} {w : World} (h : FsJ n₀ gs gw st O w) : ∀ x ∈ O, n₀ ≤ x ∧ x < w.heap.size := by
  obtain ⟨gb, cap, cur, rfl, h1, h2, h3, h4, h5, h6⟩ := h
  intro x hx
  refine ⟨h2 x hx, ?_⟩
  simp only [List.mem_cons, List.not_mem_nil, or_false] at hx
  rcases hx with rfl | rfl | rfl
  · exact lt_of_get h3
  · exact lt_of_get h4
  · exact lt_of_get h5
def fitOk (st : Int × List Int) : Prop := st.2 ≠ [] ∧ 0 ≤ st.1 ∧ st.1 ≤ 2000 ∧ (st.2.length : Int) ≤ 1 + 2 * st.1
theorem Nodup.of_ids {m : Mem} {l : List Nat} (h : m.ids.Nodup) (e : m.ids = l := by kernel_rfl) : l.Nodup := e ▸ h
theorem KidsAt.form {w w' : World} {v : Value} {ks : List Int} (h : KidsAt w w' v ks) : ∃ a c, v = .slice a ks.length c := by
  rcases h with ⟨rfl, rfl⟩ | ⟨g, h1, h2, h3⟩
  · exact ⟨none, 0, rfl⟩
  · exact ⟨_, _, h2⟩
theorem stay4 {gs gw gb g : Nat} {w w2 : World} {v : Value} {ks : List Int} (hC : Ch [gs, gw, gb] w w2) (hK : KidsAt w w2 v ks) (hg : w.heap.size ≤ g) (hgk : v.ownBlock ≠ some g) (hlt : ∀ x ∈ [gs, gw, gb], x < w.heap.size) : Stay [gs, gw, gb, g] w2 (fun w' => Ch [gs, gw, gb] w w' ∧ KidsAt w w' v ks) := by
  intro w3 hc
  refine ⟨hC.trans hc (fun x hx => ?_), ?_⟩
  · simp only [List.mem_cons, List.not_mem_nil, or_false] at hx ⊢
    rcases hx with h | h | h | rfl
    · exact .inl (.inl h)
    · exact .inl (.inr (.inl h))
    · exact .inl (.inr (.inr h))
    · exact .inr hg
  · rcases hK with h | ⟨x, h1, h2, h3, h4⟩
    · exact .inl h
    · refine .inr ⟨x, h1, h2, (hc.block x (lt_of_get h3) (fun hx => ?_)).trans h3, h4⟩
      simp only [List.mem_cons, List.not_mem_nil, or_false] at hx
      rcases hx with h | h | h | h
      · have := hlt gs (by simp); omega
      · have := hlt gw (by simp); omega
      · have := hlt gb (by simp); omega
      · subst h; rw [h2] at hgk; exact hgk rfl
set_option maxRecDepth 100000 in
seal rn rnN rnS Goes ans atEnd put0 putM opened putA0 putA oneSt st0 in
theorem fit_any {n₀ gs gw : Nat} {sz want : Int} {rest : List Int} {O : List Nat} {w : World} (hJ : FsJ n₀ gs gw (sz, want :: rest) O w) (hok : fitOk (sz, want :: rest)) (d op k : Int) (t : List UInt8) (kids : List Co) (a : Option Addr) (cc : Nat) (ht : t.length ≤ 9223372036854775807) (hn : n₀ ≤ w.heap.size) :
    Calls Tryz.prog 200 #[.int .i64 d, cv op k t (.slice a kids.length cc), .pointer (some ⟨gs, 0, none⟩), .pointer (some ⟨gw, 0, none⟩)] w (WPost (fun _ => FsJ n₀ gs gw) O w (fitF (sz, want :: rest) d (.mk op k t kids))) := by
  obtain ⟨gb, cap, cur, rfl, hnd, hlow, hs, hw, hb, hcap, hcs, hcur⟩ := hJ
  obtain ⟨N, hN⟩ : ∃ N, kids.length = N := ⟨_, rfl⟩
  obtain ⟨r, hr⟩ : ∃ r, rest.length = r := ⟨_, rfl⟩
  simp only [List.length_cons, hr] at hs hw hcap hcur
  obtain ⟨S, hS⟩ : ∃ S, IntKind.i64.wrap (sz + 1) = S := ⟨_, rfl⟩
  have hrb : r ≤ 4000 := by have := hok.2.2.2; have := hok.2.2.1; simp [hr] at *; omega
  have hcell : cur[r]? = some (.int .i64 want) := by
    have h1 : (cur.toList.take (r + 1))[r]? = some (.int .i64 want) := by
      rw [hcur, List.reverse_cons, List.map_append, List.getElem?_append_right (by simp [hr])]
      simp [hr]
    rw [List.getElem?_take_of_lt (by omega)] at h1
    simpa using h1
  rw [hN]
  refine Goes.begin Tryz.func200 [(gs, .cells #[.int .i64 sz] 3 (0, 0)), (gw, .cells #[.slice (some ⟨gb, 0, none⟩) (r + 1) cap] 119 (0, 0)), (gb, .cells cur 3 (0, 0))] (fun _ => True) (fun j b o h => by match j, h with | 0, h => (cases h; exact hs) | 1, h => (cases h; exact hw) | 2, h => (cases h; exact hb)) hnd (fun _ _ => trivial) ?_
  refine Goes.run1 [0, 0, 1] [] trivial fun g => ?_
  refine Goes.slot 7 (.int .i64 r) (u := .int .i64 (IntKind.i64.wrap (((r + 1 : Nat) : Int) - 1))) (congrArg _ (by rw [IntWalk.i64_in _ ⟨by omega, by omega⟩]; omega)) ?_
  refine Goes.open [1, 2, 3] ?_
  refine Goes.run [0, 1, 2, 2, 0, 3] [] trivial ?_
  refine Goes.valA 4 (Instr.indexAt 119 (.slice (some ⟨gb, 0, none⟩) (r + 1) cap) (.int .i64 r)) (.pointer (some ⟨gb, r, none⟩)) (fun w' _ => idxI gb (r + 1) cap r (by omega) w') ?_
  refine Goes.valA 5 (Instr.loadAt 3 (.pointer (some ⟨gb, r, none⟩))) (.int .i64 want) (fun w' h => load1 Tryz.isAgg3 (by have h1 := h.get 1 (b := gb) (o := .cells cur 3 (0, 0)); unfold World.cell?; rw [h1]; simp [hcell])) ?_
  have hlt3 : ∀ x ∈ [gs, gw, gb], x < w.heap.size := by
    intro x hx
    simp only [List.mem_cons, List.not_mem_nil, or_false] at hx
    rcases hx with rfl | rfl | rfl
    · exact lt_of_get hs
    · exact lt_of_get hw
    · exact lt_of_get hb
  have hgk : ∀ (w1 w2 : World) (g : Nat) {v : Value} {ks : List Int}, g < w1.heap.size → KidsAt w1 w2 v ks → v.ownBlock ≠ some g := by
    intro w1 w2 g v ks h hK e
    rcases hK with ⟨rfl, -⟩ | ⟨x, h1, rfl, -⟩
    · cases e
    · simp only [Value.ownBlock, Option.some.injEq] at e; omega
  have no : ∀ w' : World, w'.heap[gs]? = some (.cells #[.int .i64 (IntKind.i64.wrap (sz + 1))] 3 (0, 0)) → w'.heap[gw]? = some (.cells #[.slice (some ⟨gb, 0, none⟩) (r + 1) cap] 119 (0, 0)) → w'.heap[gb]? = some (.cells cur 3 (0, 0)) → Ch [gs, gw, gb] w w' → fitF (sz, want :: rest) d (.mk op k t kids) = ((IntKind.i64.wrap (sz + 1), want :: rest), false) → WPost (fun _ => FsJ n₀ gs gw) [gs, gw, gb] w (fitF (sz, want :: rest) d (.mk op k t kids)) (.returned (.bool false)) w' := by
    intro w' h0 h1 h2 hc hf
    rw [hf]
    exact ⟨rfl, [gs, gw, gb], ⟨gb, cap, cur, rfl, hnd, hlow, h0, by simpa [hr] using h1, h2, by simpa [hr] using hcap, hcs, by simpa [hr] using hcur⟩, hc, Sub.refl _ _⟩
  cases hk0 : kOf op want with
  | none =>
    refine Goes.callA 6 201 #[.int .i64 op, .int .i64 want] fun ops m0 nn ll kk htodo w1 hm1 hn1 hI1 h0 => (kOf_any op want w1).mono fun e w2 hk => ?_
    rw [hk0] at hk
    obtain ⟨v, rfl, hB, hK⟩ := (show Kr _ w1 e w2 from hk)
    have hids : [gs, gw, gb, g].Nodup := Nodup.of_ids hn1
    have hgL : g ∉ [gs, gw, gb] := by simp only [List.nodup_cons, List.mem_cons, List.not_mem_nil, or_false, not_or] at hids ⊢; exact ⟨fun e => hids.1.2.2 e.symm, fun e => hids.2.1.2 e.symm, fun e => hids.2.2.1 e.symm⟩
    have hgw : w.heap.size ≤ g := fresh_of hI1 (g := g) (ids_get (j := 3) (o := cO op k t (.slice a N cc)) (by kernel_rfl)) hgL
    have hK1 : KidsAt w w2 v [] := by
      rcases hK with h | ⟨x, h1, h2⟩
      · exact .inl h
      · exact .inr ⟨x, Nat.le_trans hI1.now.1.size h1, h2⟩
    have hC2 : Ch [gs, gw, gb] w w2 := (show Ch [gs, gw, gb] w w1 from hI1.now.1).trans (L' := []) ⟨hB.os, hB.tape, hB.output, hB.size, fun i hi _ => hB.block i hi⟩ (fun x hx => by cases hx)
    obtain ⟨ka, kc, rfl⟩ := hK1.form
    have hg2 : g < w1.heap.size := lt_of_get (hm1.get 3 (o := cO op k t (.slice a N cc)))
    refine ⟨_, fun w' => Ch [gs, gw, gb] w w' ∧ KidsAt w w' (.slice ka 0 kc) [], [(gs, .cells #[.int .i64 (IntKind.i64.wrap (sz + 1))] 3 (0, 0)), (gw, .cells #[.slice (some ⟨gb, 0, none⟩) (r + 1) cap] 119 (0, 0)), (gb, .cells cur 3 (0, 0)), (g, cO op k t (.slice a N cc))], rfl, fun j b o h => (hB.block b (lt_of_get (h0 j b o h))).trans (h0 j b o h), fun j b o h => by
      match j, h with
      | 0, h => cases h; exact (hB.block gs (lt_of_get (hm1.get 0 (b := gs) (o := .cells #[.int .i64 (IntKind.i64.wrap (sz + 1))] 3 (0, 0))))).trans (hm1.get 0)
      | 1, h => cases h; exact (hB.block gw (lt_of_get (hm1.get 1 (b := gw) (o := .cells #[.slice (some ⟨gb, 0, none⟩) (r + 1) cap] 119 (0, 0))))).trans (hm1.get 1)
      | 2, h => cases h; exact (hB.block gb (lt_of_get (hm1.get 2 (b := gb) (o := .cells cur 3 (0, 0))))).trans (hm1.get 2)
      | 3, h => cases h; exact (hB.block g hg2).trans (hm1.get 3), hids, stay4 hC2 hK1 hgw (hgk w1 w2 g hg2 hK) hlt3, ?_⟩
    refine Goes.run [7, 8, 9, 10, 11] [] trivial ?_
    refine Goes.run [1, 1, 1, 1, 1] [(true, true), (true, true), (true, true), (true, true), (true, true)] ⟨rfl, rfl, rfl, rfl, rfl, trivial⟩ ?_
    exact Goes.ret [] (.bool false) fun w' hm hI => no w' (hm.get 0) (hm.get 1) (hm.get 2) hI.now.1 (by simp only [fitF, hk0])
  | some ks =>
    refine Goes.callA 6 201 #[.int .i64 op, .int .i64 want] fun ops m0 nn ll kk htodo w1 hm1 hn1 hI1 h0 => (kOf_any op want w1).mono fun e w2 hk => ?_
    rw [hk0] at hk
    obtain ⟨v, rfl, hB, hK⟩ := (show Kr _ w1 e w2 from hk)
    have hids : [gs, gw, gb, g].Nodup := Nodup.of_ids hn1
    have hgL : g ∉ [gs, gw, gb] := by simp only [List.nodup_cons, List.mem_cons, List.not_mem_nil, or_false, not_or] at hids ⊢; exact ⟨fun e => hids.1.2.2 e.symm, fun e => hids.2.1.2 e.symm, fun e => hids.2.2.1 e.symm⟩
    have hgw : w.heap.size ≤ g := fresh_of hI1 (g := g) (ids_get (j := 3) (o := cO op k t (.slice a N cc)) (by kernel_rfl)) hgL
    have hK1 : KidsAt w w2 v ks := by
      rcases hK with h | ⟨x, h1, h2⟩
      · exact .inl h
      · exact .inr ⟨x, Nat.le_trans hI1.now.1.size h1, h2⟩
    have hC2 : Ch [gs, gw, gb] w w2 := (show Ch [gs, gw, gb] w w1 from hI1.now.1).trans (L' := []) ⟨hB.os, hB.tape, hB.output, hB.size, fun i hi _ => hB.block i hi⟩ (fun x hx => by cases hx)
    obtain ⟨ka, kc, rfl⟩ := hK1.form
    have hg2 : g < w1.heap.size := lt_of_get (hm1.get 3 (o := cO op k t (.slice a N cc)))
    refine ⟨_, fun w' => Ch [gs, gw, gb] w w' ∧ KidsAt w w' (.slice ka ks.length kc) ks, [(gs, .cells #[.int .i64 (IntKind.i64.wrap (sz + 1))] 3 (0, 0)), (gw, .cells #[.slice (some ⟨gb, 0, none⟩) (r + 1) cap] 119 (0, 0)), (gb, .cells cur 3 (0, 0)), (g, cO op k t (.slice a N cc))], rfl, fun j b o h => (hB.block b (lt_of_get (h0 j b o h))).trans (h0 j b o h), fun j b o h => by
      match j, h with
      | 0, h => cases h; exact (hB.block gs (lt_of_get (hm1.get 0 (b := gs) (o := .cells #[.int .i64 (IntKind.i64.wrap (sz + 1))] 3 (0, 0))))).trans (hm1.get 0)
      | 1, h => cases h; exact (hB.block gw (lt_of_get (hm1.get 1 (b := gw) (o := .cells #[.slice (some ⟨gb, 0, none⟩) (r + 1) cap] 119 (0, 0))))).trans (hm1.get 1)
      | 2, h => cases h; exact (hB.block gb (lt_of_get (hm1.get 2 (b := gb) (o := .cells cur 3 (0, 0))))).trans (hm1.get 2)
      | 3, h => cases h; exact (hB.block g hg2).trans (hm1.get 3), hids, stay4 hC2 hK1 hgw (hgk w1 w2 g hg2 hK) hlt3, ?_⟩
    refine Goes.run [7, 8, 9, 10, 11] [] trivial ?_
    have hfit : fitF (sz, want :: rest) d (.mk op k t kids) = bif ((N : Int) != (ks.length : Int)) || !ownC op k t || decide (IntKind.i64.wrap (sz + 1) > 2000) || decide (d > 200) then ((IntKind.i64.wrap (sz + 1), want :: rest), false) else ((IntKind.i64.wrap (sz + 1), ks ++ rest), true) := by simp only [fitF, hk0, hN]
    obtain ⟨M, hM⟩ : ∃ M, ks.length = M := ⟨_, rfl⟩
    rw [hM] at hfit ⊢
    cases hne : ((N : Int) != (M : Int)) with
    | true =>
      refine Goes.run [0, 3, 1, 1, 1, 1] [(true, true), (true, true), (true, true), ((N : Int) != (M : Int), true), (false, false)] ⟨rfl, rfl, rfl, hne, rfl, trivial⟩ ?_
      exact Goes.ret [] (.bool false) fun w' hm hI => no w' (hm.get 0) (hm.get 1) (hm.get 2) hI.now.1 (by rw [hfit, hne] <;> rfl)
    | false =>
      refine Goes.run [0, 3, 0, 3] [((N : Int) != (M : Int), false), (false, false)] ⟨hne, rfl, trivial⟩ ?_
      refine Goes.call0 202 #[cv op k t (.slice a N cc)] (.bool (ownC op k t)) (fun w' _ _ => ownC_any op k t a N cc w' ht) ?_
      cases hown : ownC op k t with
      | false =>
        refine Goes.run [1, 1, 1] [(true, true), (true, true), (true, true)] ⟨rfl, rfl, rfl, trivial⟩ ?_
        exact Goes.ret [] (.bool false) fun w' hm hI => no w' (hm.get 0) (hm.get 1) (hm.get 2) hI.now.1 (by rw [hfit, hne, hown] <;> rfl)
      | true =>
        cases hbig : decide (IntKind.i64.wrap (sz + 1) > 2000) with
        | true =>
          refine Goes.run [0, 0, 1, 1] [(true, true), (decide (IntKind.i64.wrap (sz + 1) > 2000), true), (false, false)] ⟨rfl, hbig, rfl, trivial⟩ ?_
          exact Goes.ret [] (.bool false) fun w' hm hI => no w' (hm.get 0) (hm.get 1) (hm.get 2) hI.now.1 (by rw [hfit, hne, hown, hbig] <;> rfl)
        | false =>
          cases hdeep : decide (d > 200) with
          | true =>
            refine Goes.run [0, 0, 0, 1] [(decide (d > 200), true), (decide (IntKind.i64.wrap (sz + 1) > 2000), false), (false, false)] ⟨hdeep, hbig, rfl, trivial⟩ ?_
            exact Goes.ret [] (.bool false) fun w' hm hI => no w' (hm.get 0) (hm.get 1) (hm.get 2) hI.now.1 (by rw [hfit, hne, hown, hbig, hdeep] <;> rfl)
          | false =>
            refine Goes.run [0, 0, 0, 0] [(decide (d > 200), false), (decide (IntKind.i64.wrap (sz + 1) > 2000), false), (false, false)] ⟨hdeep, hbig, rfl, trivial⟩ ?_
            have hyes : fitF (sz, want :: rest) d (.mk op k t kids) = ((IntKind.i64.wrap (sz + 1), ks ++ rest), true) := by rw [hfit, hne, hown, hbig, hdeep] <;> rfl
            rw [hyes]
            have hcutr : cur.toList.take r = rest.reverse.map (Value.int .i64) := by
              have h1 : (cur.toList.take (r + 1)).take r = ((want :: rest).reverse.map (Value.int .i64)).take r := by rw [hcur]
              rw [List.take_take, Nat.min_eq_left (by omega), List.reverse_cons, List.map_append, List.take_append_of_le_length (by simp [hr])] at h1
              rw [h1, List.take_of_length_le (by simp [hr])]
            rcases hK1 with ⟨hv, hks⟩ | ⟨gk, hk1, hv, hk2, hpos, hk3⟩
            · subst hks
              simp only [List.length_nil, Value.slice.injEq] at hv hM
              obtain ⟨rfl, -, rfl⟩ := hv
              subst hM
              refine Goes.call0 203 #[.slice none 0 0] (.tuple #[]) (fun w' _ _ => (Tryz.slices_Reverse_int_empty none 0 w').mono fun e w'' ⟨h1, h2⟩ => ⟨h1, h2 ▸ Below.refl _ _⟩) ?_
              refine Goes.run [1] [] trivial ?_
              refine Goes.val (Instr.sliceAt 119 (.slice (some ⟨gb, 0, none⟩) (r + 1) cap) none (some (.int .i64 r)) none) (.slice (some ⟨gb, 0, none⟩) r cap) (fun w' _ _ => cutI gb (r + 1) cap r (by omega) hcap.1 w') ?_
              refine Goes.run [] [] trivial ?_
              refine Goes.val (Builtin.append_ #[119, 119] 119 #[.slice (some ⟨gb, 0, none⟩) r cap, .slice none 0 0]) (.slice (some ⟨gb, 0, none⟩) r cap) (fun w' _ _ => appNil gb r cap _ (by omega) w') ?_
              refine Goes.run [1] [] trivial ?_
              exact Goes.ret [] (.bool true) fun w' hm hI => ⟨rfl, [gs, gw, gb], ⟨gb, cap, cur, rfl, hnd, hlow, hm.get 0, (hm.get 1 (b := gw) (o := .cells #[.slice (some ⟨gb, 0, none⟩) r cap] 119 (0, 0))).trans (by simp [hr]), hm.get 2, by simp [hr]; omega, hcs, by simpa [hr] using hcutr⟩, hI.now.1, Sub.refl _ _⟩
            · rw [hM] at hv hpos hk3
              simp only [Value.slice.injEq] at hv
              obtain ⟨rfl, -, hkc⟩ := hv
              have hkc := hkc.symm
              subst hkc
              refine Goes.swap [(gs, .cells #[.int .i64 (IntKind.i64.wrap (sz + 1))] 3 (0, 0)), (gw, .cells #[.slice (some ⟨gb, 0, none⟩) (r + 1) cap] 119 (0, 0)), (gb, .cells cur 3 (0, 0)), (gk, .cells (ks.map (Value.int .i64)).toArray 3 (0, 0))] (fun w' => Ch [gs, gw, gb] w w') (fun w' hm _ hI => ⟨?_, ?_, ?_⟩) ?_
              · have hkk : w'.heap[gk]? = some (.cells (ks.map (Value.int .i64)).toArray 3 (0, 0)) := by
                  rcases hI.now.2 with ⟨h, -⟩ | ⟨x, _, h, h2, _⟩
                  · cases h
                  · cases h; exact h2
                intro j b o h
                match j, h with
                | 0, h => cases h; exact hm.get 0
                | 1, h => cases h; exact hm.get 1
                | 2, h => cases h; exact hm.get 2
                | 3, h => cases h; exact hkk
              · have h1 := hlt3 gs (by simp)
                have h2 := hlt3 gw (by simp)
                have h3 := hlt3 gb (by simp)
                show [gs, gw, gb, gk].Nodup
                simp only [List.nodup_cons, List.mem_cons, List.not_mem_nil, or_false, not_or] at hnd ⊢
                refine ⟨⟨hnd.1.1, hnd.1.2, by omega⟩, ⟨hnd.2.1, by omega⟩, by omega, by simp⟩
              · intro w3 hc
                refine hI.now.1.trans hc fun x hx => ?_
                simp only [Mem.ids, List.map_cons, List.map_nil, List.mem_cons, List.not_mem_nil, or_false] at hx ⊢
                rcases hx with h | h | h | rfl
                · exact .inl (.inl h)
                · exact .inl (.inr (.inl h))
                · exact .inl (.inr (.inr h))
                · exact .inr hk1
              refine Goes.call2 3 gk 203 #[.slice (some ⟨gk, 0, none⟩) M M] (.tuple #[]) (.cells (ks.reverse.map (Value.int .i64)).toArray 3 (0, 0)) (fun w' hm _ => by have := rev_any (w := w') (g := gk) (ks := ks) M (hm.get 3) (by omega); rwa [hM] at this) ?_
              refine Goes.run [1] [] trivial ?_
              refine Goes.val (Instr.sliceAt 119 (.slice (some ⟨gb, 0, none⟩) (r + 1) cap) none (some (.int .i64 r)) none) (.slice (some ⟨gb, 0, none⟩) r cap) (fun w' _ _ => cutI gb (r + 1) cap r (by omega) hcap.1 w') ?_
              refine Goes.run [] [] trivial ?_
              refine Goes.eff (Builtin.append_ #[119, 119] 119 #[.slice (some ⟨gb, 0, none⟩) r cap, .slice (some ⟨gk, 0, none⟩) M M]) fun w5 hm5 hn5 hI5 => ?_
              have hown0 : w5.ownsRow n₀ 3 1 (.slice (some ⟨gb, 0, none⟩) r cap) r (rest.reverse.map (Value.int .i64)) := ⟨by simp [hr], .inr ⟨gb, cap, cur, rfl, hlow gb (by simp), hm5.get 2, by omega, hcap.2.2, by omega, by simpa using hcutr⟩⟩
              obtain ⟨a', c', w6, hrun, hown', hgr, hob⟩ := append_core (P := Tryz.prog) (t := 119) (ty := 119) (c := M) (m := M) (j := 3) (bytes := 8) (z := (0, 0)) (et := 3) (news := ks.reverse.map (Value.int .i64)) hm5 hown0 (Nat.le_trans hn hI5.now.size) (by simp [hM]) (fun u hu => by obtain ⟨x, -, rfl⟩ := List.mem_map.1 hu; rfl) hpos (by unfold maxLen; omega) (by omega) (by kernel_rfl) (by kernel_rfl)
              rcases hown'.2 with ⟨e, -⟩ | ⟨g', cap', cur', e, hg'0, hg', hc1, hc2, hc3, hc4⟩
              · exfalso; simp only [Value.slice.injEq] at e; omega
              simp only [Value.slice.injEq] at e
              obtain ⟨rfl, -, hcc⟩ := e
              subst hcc
              have hg6 : g' = gb ∨ g' = w5.heap.size := by simpa [Value.ownBlock] using hob
              have hgb5 : gb < w5.heap.size := lt_of_get (hm5.get 2 (b := gb) (o := .cells cur 3 (0, 0)))
              have hgs5 : gs < w5.heap.size := lt_of_get (hm5.get 0 (b := gs) (o := .cells #[.int .i64 (IntKind.i64.wrap (sz + 1))] 3 (0, 0)))
              have hgw5 : gw < w5.heap.size := lt_of_get (hm5.get 1 (b := gw) (o := .cells #[.slice (some ⟨gb, 0, none⟩) (r + 1) cap] 119 (0, 0)))
              have hnd2 : ¬gs = gw ∧ ¬gs = gb ∧ ¬gw = gb := by simp only [List.nodup_cons, List.mem_cons, List.not_mem_nil, or_false, not_or] at hnd; exact ⟨hnd.1.1, hnd.1.2, hnd.2.1⟩
              have hg's : g' ≠ gs ∧ g' ≠ gw := by rcases hg6 with h | h <;> subst h <;> constructor <;> omega
              have hC6 : Ch [gs, gw, gb] w w6 := hI5.now.trans (L' := [gb]) ⟨hgr.os, hgr.tape, hgr.output, hgr.size, fun i hi hx => hgr.block i hi (fun e => hx (by simp only [Value.ownBlock, Option.some.injEq] at e; simp [e]))⟩ (fun x hx => .inl (by simp only [List.mem_singleton] at hx; simp [hx]))
              refine ⟨_, w6, fun w' => Ch [gs, gw, gb] w w' ∧ w'.heap[g']? = some (.cells cur' 3 (0, 0)), [(gs, .cells #[.int .i64 (IntKind.i64.wrap (sz + 1))] 3 (0, 0)), (gw, .cells #[.slice (some ⟨gb, 0, none⟩) (r + 1) cap] 119 (0, 0))], hrun, fun j b o h => ?_, ?_, fun w7 hc => ⟨hC6.trans hc (fun x hx => .inl ?_), (hc.block g' (lt_of_get hg') ?_).trans hg'⟩, ?_⟩
              · match j, h with
                | 0, h => cases h; exact (hgr.block gs hgs5 (by simp only [Value.ownBlock, ne_eq, Option.some.injEq]; exact hnd2.2.1)).trans (hm5.get 0)
                | 1, h => cases h; exact (hgr.block gw hgw5 (by simp only [Value.ownBlock, ne_eq, Option.some.injEq]; exact hnd2.2.2)).trans (hm5.get 1)
              · simp [Mem.ids, hnd2.1]
              · simp only [Mem.ids, List.map_cons, List.map_nil, List.mem_cons, List.not_mem_nil, or_false] at hx ⊢
                rcases hx with h | h
                · exact .inl h
                · exact .inr (.inl h)
              · simp only [Mem.ids, List.map_cons, List.map_nil, List.mem_cons, List.not_mem_nil, or_false, not_or]
                exact hg's
              refine Goes.run [1] [] trivial ?_
              exact Goes.ret [] (.bool true) fun w' hm hI => by
                refine ⟨rfl, [gs, gw, g'], ⟨g', c', cur', rfl, ?_, ?_, hm.get 0, (hm.get 1 (b := gw) (o := .cells #[.slice (some ⟨g', 0, none⟩) (r + M) c'] 119 (0, 0))).trans ?_, hI.now.2, ?_, by omega, ?_⟩, hI.now.1, ?_⟩
                · simp only [List.nodup_cons, List.mem_cons, List.not_mem_nil, or_false, not_or]
                  exact ⟨⟨hnd2.1, fun e => hg's.1 e.symm⟩, fun e => hg's.2 e.symm, by simp, by simp⟩
                · intro x hx
                  simp only [List.mem_cons, List.not_mem_nil, or_false] at hx
                  rcases hx with rfl | rfl | rfl
                  · exact hlow _ (by simp)
                  · exact hlow _ (by simp)
                  · exact hg'0
                · simp only [List.length_append, hM, hr, Nat.add_comm]
                · simp only [List.length_append, hM, hr]; omega
                · have : (ks ++ rest).length = (r + M) * 1 := by simp only [List.length_append, hM, hr]; omega
                  show cur'.toList.take (ks ++ rest).length = _
                  rw [this, hc4]; simp
                · intro x hx
                  simp only [List.mem_cons, List.not_mem_nil, or_false] at hx ⊢
                  rcases hx with h | h | h
                  · exact .inl (.inl h)
                  · exact .inl (.inr (.inl h))
                  · rcases hg6 with h' | h'
                    · exact .inl (.inr (.inr (h.trans h')))
                    · exact .inr (by have := hI5.now.size; omega)
end Go.Proofs.YtddbiiejilcbbaaGreatDoor
namespace Go.Proofs.YtddbiiejilcbbaaGreatDoor
open Go Go.RowKit

def lastZ : List Int → Int
  | [] => 0
  | [x] => x
  | _ :: r => lastZ r
def ifF : List Int → Bool
  | [x, y, z] => x == 1 && y == z && y != 4
  | _ => false
/-- What is told of a term whose kids have the types l. -/
def endF (op : Int) (l : List Int) : Int × Bool :=
  bif op == 22 then (lastZ l, ifF l) else
  match rkP op with
  | none => (0, false)
  | some (want, t) => bif (want.length : Int) != (l.length : Int) then (0, false) else bif want == l then (t, true) else (0, false)
mutual
def typF (d : Int) : Co → Int × Bool
  | .mk op k t kids =>
    bif !fldP op k t || decide (d > 200) || decide ((kids.length : Int) > 3) then (0, false) else
    match tysF (d + 1) kids with
    | none => (0, false)
    | some l => endF op l
def tysF (d : Int) : List Co → Option (List Int)
  | [] => some []
  | c :: r => bif (typF d c).2 then (tysF d r).map ((typF d c).1 :: ·) else none
end
end Go.Proofs.YtddbiiejilcbbaaGreatDoor
namespace Go.Proofs.YtddbiiejilcbbaaGreatDoor
open Go

mutual
/-- A term of a type, as deep as it stands. -/
def okT (want d : Int) : Co → Bool
  | .mk op k t kids =>
    match kOf op want with
    | none => false
    | some ks => ((kids.length : Int) == (ks.length : Int)) && ownC op k t && decide (d ≤ 200) && okTs (d + 1) ks kids
def okTs (d : Int) (ks : List Int) : List Co → Bool
  | [] => true
  | c :: r =>
    match ks with
    | [] => false
    | x :: xs => okT x d c && okTs d xs r
end
def tyOk (x : Int) : Prop := x = 0 ∨ x = 1 ∨ x = 2 ∨ x = 4
theorem len_cond {b : Bool} {x y : Option (List Int)} (hx : ∀ l, x = some l → l.length ≤ 3) (hy : ∀ l, y = some l → l.length ≤ 3) : ∀ l, (bif b then x else y) = some l → l.length ≤ 3 := by
  cases b <;> assumption
theorem len_some {l0 : List Int} (h : l0.length ≤ 3) : ∀ l, some l0 = some l → l.length ≤ 3 := by rintro l ⟨⟩; exact h
theorem len_none : ∀ l : List Int, none = some l → l.length ≤ 3 := by intro l h; cases h
theorem kOf_len (op want : Int) : ∀ l, kOf op want = some l → l.length ≤ 3 := by
  unfold kOf kContract kNumber kTruth kDay
  repeat' first | exact len_none | exact len_some (by simp) | refine len_cond ?_ ?_
def Spec (c : Co) : Prop := ∀ (want : Int) (rest : List Int) (sz d : Int), 0 ≤ sz → sz ≤ 2000 → 1 ≤ d → d ≤ 201 → (rest.length : Int) ≤ 2 * sz →
  safeP fitF fitOk (sz, want :: rest) d c ∧ ((walkP fitF (sz, want :: rest) d c).2 = true ↔ (okT want d c = true ∧ sz + szC c ≤ 2000)) ∧ ((walkP fitF (sz, want :: rest) d c).2 = true → (walkP fitF (sz, want :: rest) d c).1 = (sz + szC c, rest))
theorem specK (l : List Co) (ih : ∀ c ∈ l, Spec c) : ∀ (ks rest : List Int) (sz d : Int), ks.length = l.length → 0 ≤ sz → sz ≤ 2000 → 1 ≤ d → d ≤ 201 → ((ks ++ rest).length : Int) ≤ 1 + 2 * sz →
  safeK fitF fitOk (sz, ks ++ rest) d l ∧ ((walkK fitF (sz, ks ++ rest) d l).2 = true ↔ (okTs d ks l = true ∧ sz + szL l ≤ 2000)) ∧ ((walkK fitF (sz, ks ++ rest) d l).2 = true → (walkK fitF (sz, ks ++ rest) d l).1 = (sz + szL l, rest)) := by
  induction l with
  | nil =>
    intro ks rest sz d hl h0 h1 _ _ _
    have hk : ks = [] := List.eq_nil_of_length_eq_zero hl
    subst hk
    unfold safeK walkK okTs szL
    refine ⟨trivial, ?_, ?_⟩ <;> simp <;> omega
  | cons c r ihr =>
    intro ks rest sz d hl h0 h1 hd1 hd2 hlen
    match ks, hl with
    | x :: xs, hl =>
    have hlen' : ((xs ++ rest).length : Int) ≤ 2 * sz := by simp only [List.cons_append, List.length_cons] at hlen; omega
    obtain ⟨s1, s2, s3⟩ := ih c (by simp) x (xs ++ rest) sz d h0 h1 hd1 hd2 hlen'
    have hpos := szC_pos c
    have hposr := szL_pos r
    rw [List.cons_append]
    cases hw : walkP fitF (sz, x :: (xs ++ rest)) d c with
    | mk st b =>
    rw [hw] at s2 s3
    unfold safeK walkK okTs szL
    rw [hw]
    cases b with
    | false =>
      refine ⟨⟨s1, trivial⟩, ?_, by simp⟩
      simp only [Bool.false_eq_true, false_iff, Bool.and_eq_true, not_and] at s2 ⊢
      intro h h'
      exact s2 h.1 (by omega)
    | true =>
      have e := s3 rfl
      simp only at e
      subst e
      have hc := s2.1 rfl
      obtain ⟨t1, t2, t3⟩ := ihr (fun c hc => ih c (by simp [hc])) xs rest (sz + szC c) d (by simpa using hl) (by omega) hc.2 hd1 hd2 (by omega)
      refine ⟨⟨s1, t1⟩, ?_, fun h => ?_⟩
      · simp only
        rw [t2, Bool.and_eq_true, hc.1]
        constructor
        · rintro ⟨h, h'⟩; exact ⟨⟨rfl, h⟩, by omega⟩
        · rintro ⟨⟨_, h⟩, h'⟩; exact ⟨h, by omega⟩
      · simp only at h ⊢
        rw [t3 h, Int.add_assoc]
theorem spec (c : Co) : Spec c := by
  induction c using Co.ind with
  | h op k t kids ih =>
    intro want rest sz d h0 h1 hd1 hd2 hlen
    have hw1 : IntKind.i64.wrap (sz + 1) = sz + 1 := IntWalk.i64_in _ ⟨by omega, by omega⟩
    have hw2 : IntKind.i64.wrap (d + 1) = d + 1 := IntWalk.i64_in _ ⟨by omega, by omega⟩
    have hpos := szL_pos kids
    have hok : fitOk (sz, want :: rest) := ⟨by simp, h0, h1, by simp only [List.length_cons]; omega⟩
    unfold safeP walkP okT szC
    cases hk : kOf op want with
    | none =>
      have hf : fitF (sz, want :: rest) d (.mk op k t kids) = ((sz + 1, want :: rest), false) := by simp only [fitF, hk, hw1]
      rw [hf]
      exact ⟨⟨hok, trivial⟩, by simp, by simp⟩
    | some ks =>
      have hl3 := kOf_len op want ks hk
      cases hb : (((kids.length : Int) != (ks.length : Int)) || !ownC op k t || decide (sz + 1 > 2000) || decide (d > 200)) with
      | true =>
        have hf : fitF (sz, want :: rest) d (.mk op k t kids) = ((sz + 1, want :: rest), false) := by simp only [fitF, hk, hw1, hb, cond_true]
        rw [hf]
        refine ⟨⟨hok, trivial⟩, ?_, by simp⟩
        simp only [Bool.false_eq_true, false_iff, not_and, Bool.and_eq_true, decide_eq_true_eq, beq_iff_eq]
        rintro ⟨⟨⟨e1, e2⟩, e3⟩, e4⟩ e5
        simp only [e1, e2, bne_self_eq_false, Bool.not_true, Bool.or_false, Bool.false_or, Bool.or_eq_true, decide_eq_true_eq] at hb
        omega
      | false =>
        have hf : fitF (sz, want :: rest) d (.mk op k t kids) = ((sz + 1, ks ++ rest), true) := by simp only [fitF, hk, hw1, hb, cond_false]
        rw [hf]
        simp only [Bool.or_eq_false_iff, bne_eq_false_iff_eq, Bool.not_eq_false', decide_eq_false_iff_not] at hb
        obtain ⟨⟨⟨e1, e2⟩, e3⟩, e4⟩ := hb
        rw [hw2]
        obtain ⟨t1, t2, t3⟩ := specK kids ih ks rest (sz + 1) (d + 1) (by omega) (by omega) (by omega) (by omega) (by omega) (by rw [List.length_append]; omega)
        refine ⟨⟨hok, t1⟩, ?_, fun h => ?_⟩
        · simp only
          rw [t2]
          simp only [e1, e2, beq_self_eq_true, Bool.true_and, Bool.and_eq_true, decide_eq_true_eq]
          constructor
          · rintro ⟨h, h'⟩; exact ⟨⟨by omega, h⟩, by omega⟩
          · rintro ⟨⟨_, h⟩, h'⟩; exact ⟨h, by omega⟩
        · simp only at h ⊢
          rw [t3 h, Int.add_assoc]
theorem safe_fit (want : Int) (c : Co) : safeP fitF fitOk (0, [want]) 1 c := (spec c want [] 0 1 (by omega) (by omega) (by omega) (by omega) (by simp)).1
end Go.Proofs.YtddbiiejilcbbaaGreatDoor
namespace Go.Proofs.YtddbiiejilcbbaaGreatDoor
open Go Go.RowKit

theorem rk_small : ∀ n : Fin 32, ∀ t ∈ [(0 : Int), 1, 2, 4], ((n : Nat) : Int) ≠ 22 → kOf ((n : Nat) : Int) t = (match rkP ((n : Nat) : Int) with | some (ks, t') => bif t' == t then some ks else none | none => none) := by decide
theorem rk_ty : ∀ n : Fin 32, ((rkP ((n : Nat) : Int)).map fun q => q.2 == 0 || q.2 == 1 || q.2 == 2 || q.2 == 4).getD true = true := by decide
theorem rk_out {op : Int} (h : op < 0 ∨ 31 < op) : rkP op = none ∧ (op == 22) = false ∧ ∀ t, kOf op t = none := by
  have hc : ∀ c : Int, 0 ≤ c → c ≤ 31 → (op == c) = false := fun c h0 h1 => by rw [beq_eq_false_iff_ne]; omega
  have h22 := hc 22 (by omega) (by omega)
  refine ⟨?_, h22, fun t => ?_⟩
  · unfold rkP
    simp [hc]
  · unfold kOf kContract kNumber kTruth kDay
    simp [hc]
theorem rk_op {op t : Int} (ht : tyOk t) (h22 : (op == 22) = false) : kOf op t = (match rkP op with | some (ks, t') => bif t' == t then some ks else none | none => none) := by
  by_cases h : op < 0 ∨ 31 < op
  · obtain ⟨h1, -, h3⟩ := rk_out h
    rw [h1, h3]
  · have hn : ((op.toNat : Nat) : Int) = op := by omega
    have := rk_small ⟨op.toNat, by omega⟩ t (by rcases ht with h | h | h | h <;> simp [h]) (by simp only [hn]; simpa using h22)
    simp only [hn] at this
    exact this
theorem rk_tyOk {op t : Int} {ks : List Int} (h : rkP op = some (ks, t)) : tyOk t := by
  by_cases ho : op < 0 ∨ 31 < op
  · rw [(rk_out ho).1] at h; cases h
  · have hn : ((op.toNat : Nat) : Int) = op := by omega
    have := rk_ty ⟨op.toNat, by omega⟩
    simp only [hn, h, Option.map_some, Option.getD_some, Bool.or_eq_true, beq_iff_eq] at this
    unfold tyOk
    omega
theorem k22 {t : Int} : kOf 22 t = bif t == 4 then none else some [1, t, t] := by
  unfold kOf
  cases h : (t == 4) with
  | true => rfl
  | false => rfl
theorem if_shape {l : List Int} (h : ifF l = true) : ∃ y, l = [1, y, y] ∧ y ≠ 4 := by
  unfold ifF at h
  split at h
  · simp only [Bool.and_eq_true, beq_iff_eq, bne_iff_ne] at h
    obtain ⟨⟨rfl, rfl⟩, h3⟩ := h
    exact ⟨_, rfl, h3⟩
  · cases h
/-- How a term is right. -/
theorem typ_parts {d op k : Int} {t : List UInt8} {kids : List Co} {z : Int} : typF d (.mk op k t kids) = (z, true) ↔ (ownC op k t = true ∧ d ≤ 200 ∧ kids.length ≤ 3 ∧ ∃ l, tysF (d + 1) kids = some l ∧ endF op l = (z, true)) := by
  rw [typF, fld_own]
  cases h : (!ownC op k t || decide (d > 200) || decide ((kids.length : Int) > 3)) with
  | true =>
    simp only [cond_true]
    constructor
    · intro h; cases h
    · rintro ⟨h1, h2, h3, -⟩
      simp only [h1, Bool.not_true, Bool.false_or, Bool.or_eq_true, decide_eq_true_eq] at h
      omega
  | false =>
    simp only [Bool.or_eq_false_iff, Bool.not_eq_false', decide_eq_false_iff_not] at h
    obtain ⟨⟨h1, h2⟩, h3⟩ := h
    simp only [cond_false]
    cases hl : tysF (d + 1) kids with
    | none =>
      constructor
      · intro h; cases h
      · rintro ⟨-, -, -, l, h, -⟩; cases h
    | some l =>
      constructor
      · intro h; exact ⟨h1, by omega, by omega, l, rfl, h⟩
      · rintro ⟨-, -, -, l', h, h'⟩; cases h; exact h'
theorem tys_mem : ∀ {kids : List Co} {d : Int} {l : List Int}, tysF d kids = some l → ∀ c ∈ kids, (typF d c).2 = true
  | [], _, _, _ => by simp
  | c :: r, d, l, h => by
    rw [tysF] at h
    cases hc : (typF d c).2 with
    | false => rw [hc] at h; cases h
    | true =>
      rw [hc] at h
      cases hr : tysF d r with
      | none => rw [hr] at h; cases h
      | some q =>
        intro x hx
        rcases List.mem_cons.1 hx with e | e
        · rw [e]; exact hc
        · exact tys_mem hr x e
theorem typ_kids {d op k : Int} {t : List UInt8} {kids : List Co} (h : (typF d (.mk op k t kids)).2 = true) : ownC op k t = true ∧ d ≤ 200 ∧ ∀ c ∈ kids, (typF (d + 1) c).2 = true := by
  cases hc : typF d (.mk op k t kids) with
  | mk z b =>
  rw [hc] at h
  have hb : b = true := h
  subst hb
  obtain ⟨h1, h2, -, l, hl, -⟩ := typ_parts.1 hc
  exact ⟨h1, h2, tys_mem hl⟩
end Go.Proofs.YtddbiiejilcbbaaGreatDoor
namespace Go.Proofs.YtddbiiejilcbbaaGreatDoor
open Go Go.RowKit

theorem eqTr (a : Int) (s : List UInt8) (b : Int) (c : Int) (t : List UInt8) (d : Int) (w : World) : (Op.equalIn 10000 59 (.agg #[.int .i64 a, strV s, .int .i64 b]) (.agg #[.int .i64 c, strV t, .int .i64 d])).run Tryz.prog w = .ok (a == c && decide (s = t) && b == d) w := by
  have u3 := Tryz.underlying3
  have a3 := Tryz.isAgg3
  have z3 := Tryz.sizeOf3
  have u2 := Tryz.underlying9
  have a2 := Tryz.isAgg9
  have z2 := Tryz.sizeOf9
  have u1 := Tryz.underlying2
  have a1 := Tryz.isAgg2
  have z1 := Tryz.sizeOf2
  have hS : Tryz.prog.underlying 59 = some (.struct (Tryz.prog.fieldsOf 59)) := by kernel_rfl
  rw [show (10000 : Nat) = 9999 + 1 from rfl, run_equalIn_agg w 9999 59 _ _ hS (by kernel_rfl)]
  simp only [Program.fieldsOf, Tryz.underlying59]
  unfold strV
  go_simp
  by_cases h1 : a = c <;> by_cases h2 : b = d <;> by_cases h3 : s = t <;> simp [h1, h2, h3]
theorem eql_agg {t : TypeId} {xs ys : Array Value} {b : Bool} (x y : Operand) (hg : Tryz.prog.eqGuardType Tryz.prog.depth t = false) {w : World} (h : (Op.equalIn 10000 t (.agg xs) (.agg ys)).run Tryz.prog w = .ok b w) : (do eqGuard .eql t x y (.agg xs) (.agg ys); binOp .eql t (.agg xs) (.agg ys) : Sem Value).run Tryz.prog w = .ok (.bool b) w := by
  simp only [Sem.run_bind, run_eqGuard_agg w .eql t x y xs ys hg, Result.andThen_ok, run_eql_struct, h]
theorem neq_agg {t : TypeId} {xs ys : Array Value} {b : Bool} (x y : Operand) (hg : Tryz.prog.eqGuardType Tryz.prog.depth t = false) {w : World} (h : (Op.equalIn 10000 t (.agg xs) (.agg ys)).run Tryz.prog w = .ok b w) : (do eqGuard .neq t x y (.agg xs) (.agg ys); binOp .neq t (.agg xs) (.agg ys) : Sem Value).run Tryz.prog w = .ok (.bool (!b)) w := by
  simp only [Sem.run_bind, run_eqGuard_agg w .neq t x y xs ys hg, Result.andThen_ok, run_neq_struct, h]
end Go.Proofs.YtddbiiejilcbbaaGreatDoor
namespace Go.Proofs.YtddbiiejilcbbaaGreatDoor
open Go Go.RowKit

def fitV (gs gw : Nat) : Value := .func (.func 200) #[] #[.pointer (some ⟨gs, 0, none⟩), .pointer (some ⟨gw, 0, none⟩)]
set_option maxRecDepth 100000 in
seal rn rnN rnS Goes ans atEnd put0 putM opened putA0 putA oneSt st0 in
theorem fitting_any (want : Int) (w : World) : Calls Tryz.prog 159 #[.int .i64 want] w fun e w' => ∃ gs gw O, e = .returned (fitV gs gw) ∧ FsJ w.heap.size gs gw (0, [want]) O w' ∧ Below w.heap.size w w' := by
  refine Goes.begin Tryz.func159 [] (fun _ => True) Holds.nil (by simp [Mem.ids]) (fun _ _ => trivial) ?_
  refine Goes.run3 [1, 2] [] trivial fun gb gw gs => ?_
  refine Goes.know3 fun hids => ?_
  exact Goes.ret [] (fitV gs gw) fun w' hm hI => by
    have f0 : w.heap.size ≤ gb := fresh_of hI (g := gb) (ids_get (j := 0) (o := .cells #[.int .i64 want] 3 (0, 0)) (by kernel_rfl)) (by simp [Mem.ids])
    have f1 : w.heap.size ≤ gw := fresh_of hI (g := gw) (ids_get (j := 1) (o := .cells #[.slice (some ⟨gb, 0, none⟩) 1 1] 119 (0, 0)) (by kernel_rfl)) (by simp [Mem.ids])
    have f2 : w.heap.size ≤ gs := fresh_of hI (g := gs) (ids_get (j := 2) (o := .cells #[.int .i64 0] 3 (0, 0)) (by kernel_rfl)) (by simp [Mem.ids])
    have hd : [gb, gw, gs].Nodup := Nodup.of_ids hids
    refine ⟨gs, gw, [gs, gw, gb], rfl, ⟨gb, 1, #[.int .i64 want], rfl, ?_, ?_, hm.get 2, hm.get 1, hm.get 0, by simp [maxLen], rfl, rfl⟩, bel0 hI⟩
    · simp only [List.nodup_cons, List.mem_cons, List.not_mem_nil, or_false, not_or] at hd ⊢
      exact ⟨⟨fun e => hd.2.1 e.symm, fun e => hd.1.2 e.symm⟩, fun e => hd.1.1 e.symm, by simp, by simp⟩
    · intro x hx
      simp only [List.mem_cons, List.not_mem_nil, or_false] at hx
      rcases hx with rfl | rfl | rfl <;> assumption
def termsV (g : Nat) : Value := .func (.func 204) #[] #[.pointer (some ⟨g, 0, none⟩)]
set_option maxRecDepth 100000 in
seal rn rnN rnS Goes ans atEnd put0 putM opened putA0 putA oneSt st0 in
theorem terms_any (op k : Int) (t : List UInt8) (a : Option Addr) (N c : Nat) (w : World) : Calls Tryz.prog 160 #[cv op k t (.slice a N c)] w fun e w' => ∃ g, e = .returned (termsV g) ∧ w'.heap[g]? = some (cO op k t (.slice a N c)) ∧ w.heap.size ≤ g ∧ Below w.heap.size w w' := by
  refine Goes.begin Tryz.func160 [] (fun _ => True) Holds.nil (by simp [Mem.ids]) (fun _ _ => trivial) ?_
  refine Goes.run1 [] [] trivial fun g => ?_
  exact Goes.ret [] (termsV g) fun w' hm hI => ⟨g, rfl, hm.get 0, fresh_of hI (g := g) (ids_get (j := 0) (o := cO op k t (.slice a N c)) (by kernel_rfl)) (by simp [Mem.ids]), bel0 hI⟩
theorem cl_of_cO {w : World} {g : Nat} {op k : Int} {t : List UInt8} {v : Value} (h : w.heap[g]? = some (cO op k t v)) : Cl4 w g 0 (cv op k t v) := by
  refine ⟨op, k, t, v, rfl, ?_, ?_, ?_, ?_⟩ <;> unfold World.cell? <;> rw [h] <;> rfl
set_option maxRecDepth 100000 in
seal rn rnN rnS Goes ans atEnd put0 putM opened putA0 putA oneSt st0 in
theorem iter_any {σ : Type} {n₀ l : Nat} {f : σ → Int → Co → σ × Bool} {ok : σ → Prop} {J : Bool → σ → List Nat → World → Prop} (Y : Yl n₀ l f ok J) {c : Co} {op k : Int} {t : List UInt8} {a : Option Addr} {N cc g : Nat} {w : World} {s : σ} {O : List Nat} (hsafe : safeP f ok s 1 c) (hJ : J true s O w) (hN : Nc n₀ w (cv op k t (.slice a N cc)) c) (hn : n₀ ≤ w.heap.size) (hg : w.heap[g]? = some (cO op k t (.slice a N cc))) :
    Calls Tryz.prog 204 #[.func (.yield l) #[] #[], .pointer (some ⟨g, 0, none⟩)] w fun e w' => e = .returned (.tuple #[]) ∧ ∃ O', J (walkP f s 1 c).2 (walkP f s 1 c).1 O' w' ∧ Ch O w w' ∧ Sub w O O' := by
  refine Goes.enter Tryz.func204 [] (fun w' => Ch [] w w') Holds.nil (by simp [Mem.ids]) (fun w' hc => hc) ?_
  refine Goes.run [] [] trivial ?_
  refine Goes.val (Instr.loadAt 52 (.pointer (some ⟨g, 0, none⟩))) (cv op k t (.slice a N cc)) (fun w' _ hI => loadC (cl_of_cO ((hI.now.block g (lt_of_get hg) (by simp)).trans hg))) ?_
  refine Goes.run [] [] trivial ?_
  refine Goes.call 205 #[cv op k t (.slice a N cc), .int .i64 1, .func (.yield l) #[] #[]] fun w1 hm1 hn1 hI1 => ?_
  have hc1 : Ch [] w w1 := hI1.now
  refine (walk_any Y c _ w1 s O 1 hsafe (Y.stay _ _ _ _ _ hJ (fun x hx => hc1.block x (Y.low _ _ _ _ hJ x hx).2 (by simp))) (hN.later (hc1.low (fun x hx => by cases hx) hn)) (Nat.le_trans hn hc1.size)).mono fun e w2 ⟨he, O', h1, h2, h3⟩ => ?_
  refine ⟨_, fun w' => Ch O w w' ∧ J (walkP f s 1 c).2 (walkP f s 1 c).1 O' w' ∧ Sub w O O', [], he, Holds.nil, by simp [Mem.ids], fun w3 hc => ⟨((hc1.mono (fun x hx => by cases hx)).trans h2 (fun x hx => .inl hx)).trans hc (fun x hx => by cases hx), Y.stay _ _ _ _ _ h1 (fun x hx => hc.block x (Y.low _ _ _ _ h1 x hx).2 (by simp [Mem.ids])), fun x hx => ?_⟩, ?_⟩
  · rcases h3 x hx with e | e
    · exact .inl e
    · exact .inr (Nat.le_trans hc1.size e)
  refine Goes.run [] [] trivial ?_
  exact Goes.ret [] (.tuple #[]) fun w' hm hI => ⟨rfl, O', hI.now.2.1, hI.now.1, hI.now.2.2⟩
end Go.Proofs.YtddbiiejilcbbaaGreatDoor
namespace Go.Proofs.YtddbiiejilcbbaaGreatDoor
open Go Go.RowKit

section
variable {P : Program} {F : Exit → Act → World → Prop} {Inv : World → Prop} {s : St} {fn : Func} {R : Ending → World → Prop}
def rgFn (s : St) : Operand :=
  match s.todo with
  | .code (.rangeFunc g _ _ _) :: _ => g
  | _ => .const undef
def rgPs (s : St) : Array Tmp :=
  match s.todo with
  | .code (.rangeFunc _ ps _ _) :: _ => ps
  | _ => #[]
def rgAssign (s : St) : Code :=
  match s.todo with
  | .code (.rangeFunc _ _ a _) :: _ => a
  | _ => .skip
def rgBody (s : St) : Code :=
  match s.todo with
  | .code (.rangeFunc _ _ _ b) :: _ => b
  | _ => .skip
def atRange (s : St) : Bool :=
  match s.todo with
  | .code (.rangeFunc _ _ _ _) :: _ => true
  | _ => false
/-- A loop's record. -/
def recOf (fid : FuncId) (D : Nat) (s : St) (st : LoopState) (pe : Option Code) : Loop := { state := st, pending := pe, fn := fid, tmps := s.tmps.toArray, params := rgPs s, assign := rgAssign s, body := rgBody s, defers := D }
theorem Goes.range (gf : FuncId) (lb : Array Value)
    (h : ∀ fid w, Holds s.mem w → s.mem.ids.Nodup → Stay s.mem.ids w Inv → ∀ W1, W1.heap[w.heap.size + 1]? = some (.loop (recOf fid w.heap.size s .ready none)) → W1.heap[w.heap.size]? = some (.deferred (some [])) → Below w.heap.size w W1 →
      Calls P gf (#[.func (.yield (w.heap.size + 1)) #[] #[]] ++ lb) W1 (rangePost Fence.wide 0 P (w.heap.size + 1) (QK P F s.todo.tail) ⟨s.tmps.toArray, [{ target := .collected w.heap.size, args := #[] }]⟩))
    (ha : atRange s = true := by kernel_rfl) (hg : evalL s.tmps (rgFn s) = .func (.func gf) #[] lb := by kernel_rfl) (hf : okf P gf = true := by kernel_rfl) : Goes P F Inv s := by
  intro w hm hn hI
  have h1 := h
  unfold atRange at ha
  split at ha
  · rename_i g ps asg body k ht
    have e1 : rgPs s = ps := by unfold rgPs; rw [ht]
    have e2 : rgAssign s = asg := by unfold rgAssign; rw [ht]
    have e3 : rgBody s = body := by unfold rgBody; rw [ht]
    have e4 : rgFn s = g := by unfold rgFn; rw [ht]
    rw [ht]
    rw [e4] at hg
    refine (wpIn_wide (n := 0)).1 (wpIn_rangeFunc fun fid hfid => ?_)
    have hL1 : ((w.alloc (.deferred (some []))).alloc (.loop (recOf fid w.heap.size s .ready none))).heap[w.heap.size + 1]? = some (.loop (recOf fid w.heap.size s .ready none)) := by
      have := World.alloc_heap_new (w.alloc (.deferred (some []))) (.loop (recOf fid w.heap.size s .ready none)); rwa [World.size_alloc] at this
    have hK1 : ((w.alloc (.deferred (some []))).alloc (.loop (recOf fid w.heap.size s .ready none))).heap[w.heap.size]? = some (.deferred (some [])) := (Below.heap_alloc _ _ _ (by simp)).trans (World.alloc_heap_new w _)
    have hB : Below w.heap.size w ((w.alloc (.deferred (some []))).alloc (.loop (recOf fid w.heap.size s .ready none))) := ((Below.refl _ w).alloc (Nat.le_refl _) _).alloc (by simp) _
    have hE : (Instr.enterLoop fid s.tmps.toArray (rgPs s) (rgAssign s) (rgBody s) none).run P w = .ok (w.heap.size + 1, [{ target := .collected w.heap.size, args := #[] }]) ((w.alloc (.deferred (some []))).alloc (.loop (recOf fid w.heap.size s .ready none))) := run_enterLoop_outer _ _ _ _ _
    generalize ((w.alloc (.deferred (some []))).alloc (.loop (recOf fid w.heap.size s .ready none))) = W1 at hL1 hK1 hB hE
    have h2 := h1 fid w hm hn hI W1 hL1 hK1 hB
    rw [ht] at h2
    refine ⟨w.heap.size + 1, [{ target := .collected w.heap.size, args := #[] }], W1, { target := .fn (.func gf) lb, args := #[.func (.yield (w.heap.size + 1)) #[] #[]] }, W1, gf, #[.func (.yield (w.heap.size + 1)) #[] #[]] ++ lb, W1, ?_, ?_, fun _ _ => trivial, ?_, fun h => (by cases h), ?_⟩
    · rw [← e1, ← e2, ← e3]
      exact hE
    · have e : resolve (evalL s.tmps) (rangeCall g (w.heap.size + 1)) 0 = (Pure.pure ({ target := .fn (.func gf) lb, args := #[.func (.yield (w.heap.size + 1)) #[] #[]] } : Deferred) : Sem Deferred) := by
        unfold resolve rangeCall
        simp only [hg, Deferred.ofValue]
        simp [evalL]
      unfold St.act
      rw [evalL_eq, e]
      rfl
    · simp only [invoke]
      exact okf_run hf _ _
    · exact (callsIn_wide (n := 0)).2 h2
  · cases ha
/-- A round, out of its body. -/
theorem round_of {l D : Nat} {fid : FuncId} {args : Array Value} {W : World} {T : List Value} (hl : W.heap[l]? = some (.loop (recOf fid D s .ready none))) (hsz : args.size = (rgPs s).size) (hT : ((rgPs s).zip args).foldl (fun tmps (t, a) => tmps.setIfInBounds t a) s.tmps.toArray = T.toArray)
    (h : (rgAssign s).wpIn (FW (some l)) 0 P (Exit.then (fun a₁ w₁ => ∃ w₂, (Instr.beginRound l).run P w₁ = .ok () w₂ ∧ (rgBody s).wpIn (FW (some l)) 0 P (roundPost P l R) a₁ w₂) (fun _ _ _ => False)) ⟨T.toArray, []⟩ W) : YieldAt Fence.wide 0 P l args W R := by
  have hy := run_yield (P := P) hl hsz
  refine ⟨_, _, _, _, hy, roundIn_of_wpIn trivial ?_⟩
  show (rgAssign s).wpIn _ _ _ _ ⟨((rgPs s).zip args).foldl (fun tmps (t, a) => tmps.setIfInBounds t a) s.tmps.toArray, []⟩ W
  rw [hT]
  exact h
/-- The regions of a code, in order. -/
def regs : Code → List (Array Oper)
  | .region _ ops _ => [ops]
  | .seq a b => regs a ++ regs b
  | .block _ c => regs c
  | .loop c => regs c
  | .cond _ a b => regs a ++ regs b
  | .rangeFunc _ _ a b => regs a ++ regs b
  | _ => []
def regAt (c : Code) (i : Nat) : Array Oper := (regs c).getD i #[]
/-- The function is left, its mark among the deferred calls. -/
theorem leave_mark {T : List Value} {D : Nat} {w : World} (js : List Nat) (v : Value) (m : Mem) (hD : w.heap[D]? = some (.deferred (some []))) (hm : Holds m (w.putObj D (.deferred none))) (hn : m.ids.Nodup) (hR : R (.returned v) (w.putObj D (.deferred none)))
    (hv : (ans P fn js ⟨[], T, m⟩).map (·.val) = some v := by kernel_rfl) (hd : (ans P fn js ⟨[], T, m⟩).map (·.d) = some false := by kernel_rfl) (hN : (ans P fn js ⟨[], T, m⟩).map (fun r => r.ob.map (·.1)) = (ans P fn js ⟨[], T, m⟩).map (fun r => r.ob.map (·.2)) := by kernel_rfl) : LeavesInM Fence.wide 0 P fn T.toArray R [{ target := .collected D, args := #[] }] .returning w := by
  refine ⟨by simp, .inl ⟨D, _, rfl, run_takeDeferred hD, ?_⟩⟩
  cases hr : ans P fn js ⟨[], T, m⟩ with
  | none => rw [hr] at hv; cases hv
  | some r =>
    rw [hr] at hv hd hN
    simp only [Option.map_some, Option.some.injEq] at hv hd hN
    obtain ⟨w', Dd⟩ := srun_did P _ _ _ _ _ _ _ _ hr (all_of_map hN) hm hn (by simp)
    have hw' := (Dd.still hd).2.1
    subst hw'
    exact ⟨v, hv ▸ Dd.run, hR⟩
theorem Ch.put (W : World) (l : Nat) (o : Obj) : Ch [l] W (W.putObj l o) := ⟨rfl, rfl, rfl, by simp, fun i _ hx => World.putObj_heap_other (fun e => hx (by simp [e]))⟩
/-- A state with a name, and what is known of it. -/
theorem Goes.named (T : List Value) (m : Mem) (ps : Array Tmp) (A B : Code) (k : List TI) (h : ∀ s0 : St, s0.tmps = T → s0.mem = m → rgPs s0 = ps → rgAssign s0 = A → rgBody s0 = B → s0.todo.tail = k → evalL s0.tmps (rgFn s0) = evalL s.tmps (rgFn s) → atRange s0 = atRange s → Goes P F Inv s0)
    (e1 : s.tmps = T := by kernel_rfl) (e2 : s.mem = m := by kernel_rfl) (e3 : rgPs s = ps := by kernel_rfl) (e4 : rgAssign s = A := by kernel_rfl) (e5 : rgBody s = B := by kernel_rfl) (e6 : s.todo.tail = k := by kernel_rfl) : Goes P F Inv s := h s e1 e2 e3 e4 e5 e6 rfl rfl
end
end Go.Proofs.YtddbiiejilcbbaaGreatDoor
namespace Go.Proofs.YtddbiiejilcbbaaGreatDoor
open Go Go.RowKit

/-- What the round's state is: the loop's record, and what the closure keeps. -/
def IsJ (n₀ l D g4 g5 gs gw : Nat) (fid : FuncId) (s : St) (b : Bool) (st : Int × List Int) (O : List Nat) (w : World) : Prop :=
  w.heap[l]? = some (.loop (recOf fid D s (bif b then .ready else .done) (bif b then none else some .ret))) ∧ w.heap[D]? = some (.deferred (some [])) ∧ w.heap[g4]? = some (.cells #[.bool false] 4 (0, 0)) ∧ w.heap[g5]? = some (.cells #[fitV gs gw] 193 (0, 0)) ∧
    ∃ O', FsJ n₀ gs gw st O' w ∧ O = l :: D :: g4 :: g5 :: O' ∧ O.Nodup ∧ n₀ ≤ l ∧ n₀ ≤ D ∧ n₀ ≤ g4 ∧ n₀ ≤ g5
theorem IsJ.stay {n₀ l D g4 g5 gs gw : Nat} {fid : FuncId} {s : St} {b : Bool} {st : Int × List Int} {O : List Nat} {w w' : World} (h : IsJ n₀ l D g4 g5 gs gw fid s b st O w) (hO : ∀ x ∈ O, w'.heap[x]? = w.heap[x]?) : IsJ n₀ l D g4 g5 gs gw fid s b st O w' := by
  obtain ⟨h1, h2, h3, h4, O', h5, rfl, h6⟩ := h
  exact ⟨(hO l (by simp)).trans h1, (hO D (by simp)).trans h2, (hO g4 (by simp)).trans h3, (hO g5 (by simp)).trans h4, O', h5.stay (fun x hx => hO x (by simp [hx])), rfl, h6⟩
theorem IsJ.low {n₀ l D g4 g5 gs gw : Nat} {fid : FuncId} {s : St} {b : Bool} {st : Int × List Int} {O : List Nat} {w : World} (h : IsJ n₀ l D g4 g5 gs gw fid s b st O w) : ∀ x ∈ O, n₀ ≤ x ∧ x < w.heap.size := by
  obtain ⟨h1, h2, h3, h4, O', h5, rfl, -, h6, h7, h8, h9⟩ := h
  intro x hx
  simp only [List.mem_cons] at hx
  rcases hx with rfl | rfl | rfl | rfl | hx
  · exact ⟨h6, lt_of_get h1⟩
  · exact ⟨h7, lt_of_get h2⟩
  · exact ⟨h8, lt_of_get h3⟩
  · exact ⟨h9, lt_of_get h4⟩
  · exact h5.low x hx
/-- The function's regions. -/
noncomputable def rI (i : Nat) : Array Oper := regAt (Tryz.f119.body.getD .skip) i
noncomputable def isA : Code := .seq (.region 3 (rI 3) false) (.region 4 (rI 4) false)
noncomputable def isB : Code := .block 1 (.seq (.region 5 (rI 5) false) (.cond (.tmp 18) (.seq (.region 6 (rI 6) false) .ret) .skip))
def isT (v : Value) (want : Int) (g2 g4 g5 gs gw gt : Nat) (x y : Value) : List Value := [v, .int .i64 want, .pointer (some ⟨g2, 0, none⟩), undef, .pointer (some ⟨g4, 0, none⟩), .pointer (some ⟨g5, 0, none⟩), undef, undef, .int .i64 want, fitV gs gw, v, termsV gt, x, y, undef, undef, undef, undef, undef]
theorem FsJ.more {n n' gs gw : Nat} {st : Int × List Int} {O : List Nat} {w : World} (h : FsJ n gs gw st O w) (hn : n' ≤ n) : FsJ n' gs gw st O w := by
  obtain ⟨gb, cap, cur, h0, h1, h2, h3⟩ := h
  exact ⟨gb, cap, cur, h0, h1, fun x hx => Nat.le_trans hn (h2 x hx), h3⟩
set_option maxRecDepth 100000 in
seal orT orG rI in
theorem isOf_round {n₀ l D g2 g4 g5 gs gw gt : Nat} {fid : FuncId} {s : St} {v0 : Value} {want : Int} (hT : s.tmps = isT v0 want g2 g4 g5 gs gw gt undef undef) (hps : rgPs s = #[12, 13]) (hA : rgAssign s = isA) (hB : rgBody s = isB) : Yl n₀ l fitF fitOk (IsJ n₀ l D g4 g5 gs gw fid s) where
  stay := fun b st O w w' h hO => h.stay hO
  low := fun b st O w h => h.low
  yield := by
    intro st O W d v c hok hJ hN hn
    cases c with
    | mk op k t kids =>
    obtain ⟨a, cc, rfl, hf, -, -⟩ := hN.open
    obtain ⟨sz, stk⟩ := st
    obtain ⟨want', rest, rfl⟩ : ∃ x y, stk = x :: y := by cases stk with | nil => exact absurd rfl hok.1 | cons x y => exact ⟨x, y, rfl⟩
    obtain ⟨h1, h2, h3, h4, O', h5, rfl, hnd, i1, i2, i3, i4⟩ := hJ
    simp only [cond_true] at h1
    have hlo := h5.low
    have hl1 := lt_of_get h1
    have hl4 := lt_of_get h3
    have hl5 := lt_of_get h4
    have hlD := lt_of_get h2
    simp only [List.nodup_cons, List.mem_cons, not_or] at hnd
    obtain ⟨⟨nD, n4, n5, nO⟩, ⟨m4, m5, mO⟩, ⟨k5, kO⟩, jO, ndO⟩ := hnd
    refine round_of (T := isT v0 want g2 g4 g5 gs gw gt (.int .i64 d) (cv op k t (.slice a kids.length cc))) h1 (by rw [hps]; rfl) (by rw [hps, hT]; kernel_rfl) ?_
    rw [hA]
    refine wpIn_seq (wpIn_region ?_)
    refine wi_runs (m := []) [(0, 0)] (rest := []) Holds.nil (by simp [Mem.ids]) fun w1 _ _ _ _ d1 => ?_
    have hw1 := d1 (by kernel_rfl)
    subst w1
    show (Code.region 4 (rI 4) false).wpIn _ _ _ _ _ _
    refine wpIn_region ?_
    rw [show List.range (rI 4).size = [0, 1] by kernel_rfl]
    refine wi_new 0 (rest := [1]) (m := []) Holds.nil (by simp [Mem.ids]) fun g7 w2 hg7 m2 n2 c2 _ => ?_
    refine wi_runs [(1, 0)] (rest := []) m2 n2 fun w3 m3 n3 c3 _ _ => ?_
    have e2 : (orG Tryz.prog (rI 4) 0 g7 (orT Tryz.prog (rI 3) [(0, 0)] (isT v0 want g2 g4 g5 gs gw gt (.int .i64 d) (cv op k t (.slice a kids.length cc))) []).T []).m.ids = [g7] := by kernel_rfl
    have q1 : Ch [] W w3 := c2.trans c3 (fun x hx => .inr (by rw [e2, List.mem_singleton] at hx; omega))
    have r7 : w3.heap[g7]? = some (cO op k t (.slice a kids.length cc)) := m3.get 0
    show ∃ w₂, _ ∧ _
    have hl3 : w3.heap[l]? = some (.loop (recOf fid D s .ready none)) := (q1.block l hl1 (by simp)).trans h1
    refine ⟨_, run_beginRound hl3 rfl, ?_⟩
    have hl3' := lt_of_get hl3
    have hs3 : W.heap.size ≤ w3.heap.size := q1.size
    have c4 := Ch.put w3 l (.loop { recOf fid D s .ready none with state := .busy })
    have l4 : (w3.putObj l (.loop { recOf fid D s .ready none with state := .busy })).heap[l]? = some (.loop { recOf fid D s .ready none with state := .busy }) := World.putObj_heap_same hl3'
    generalize w3.putObj l (.loop { recOf fid D s .ready none with state := .busy }) = w4 at c4 l4 ⊢
    have q4 : Ch [l] W w4 := (q1.mono (fun x hx => by cases hx)).trans c4 (fun x hx => .inl hx)
    have r7' : w4.heap[g7]? = some (cO op k t (.slice a kids.length cc)) := (c4.block g7 (lt_of_get r7) (by simp; omega)).trans r7
    have f5 : w4.heap[g5]? = some (.cells #[fitV gs gw] 193 (0, 0)) := (q4.block g5 hl5 (by simp; exact fun e => n5 e.symm)).trans h4
    have f4 : w4.heap[g4]? = some (.cells #[.bool false] 4 (0, 0)) := (q4.block g4 hl4 (by simp; exact fun e => n4 e.symm)).trans h3
    have fD : w4.heap[D]? = some (.deferred (some [])) := (q4.block D hlD (by simp; exact fun e => nD e.symm)).trans h2
    have f6 : FsJ n₀ gs gw (sz, want' :: rest) O' w4 := h5.stay (fun x hx => q4.block x (hlo x hx).2 (by simp; rintro rfl; exact nO hx))
    rw [hB]
    refine wpIn_block (wpIn_seq (wpIn_region ?_))
    rw [show List.range (rI 5).size = [0, 1, 2, 3, 4] by kernel_rfl]
    refine wi_runs (m := [(g5, .cells #[fitV gs gw] 193 (0, 0)), (g7, cO op k t (.slice a kids.length cc))]) [(0, 0), (1, 0), (2, 1)] (rest := [3, 4]) (fun j b o h => by match j, h with | 0, h => (cases h; exact f5) | 1, h => (cases h; exact r7')) (by simp [Mem.ids]; omega) fun w5 _ _ _ _ d5 => ?_
    obtain rfl := d5 (by kernel_rfl)
    refine wi_call (f := 200) (first := #[]) (captured := #[.pointer (some ⟨gs, 0, none⟩), .pointer (some ⟨gw, 0, none⟩)]) (args := #[.int .i64 d, cv op k t (.slice a kids.length cc)]) (d := some 17) (by kernel_rfl) (by kernel_rfl) ?_
    refine (fit_any f6 hok d op k t kids a cc hf.s (Nat.le_trans hn q4.size)).mono fun e w6 ⟨he, O2, j1, j2, j3⟩ => ⟨_, he, ?_⟩
    have hlo6 := f6.low
    have z4 : w6.heap[l]? = some (.loop { recOf fid D s .ready none with state := .busy }) := (j2.block l (lt_of_get l4) nO).trans l4
    have z5 : w6.heap[g4]? = some (.cells #[.bool false] 4 (0, 0)) := (j2.block g4 (lt_of_get f4) kO).trans f4
    have z6 : w6.heap[g5]? = some (.cells #[fitV gs gw] 193 (0, 0)) := (j2.block g5 (lt_of_get f5) jO).trans f5
    have z7 : w6.heap[D]? = some (.deferred (some [])) := (j2.block D (lt_of_get fD) mO).trans fD
    have hsz5 : W.heap.size ≤ w5.heap.size := q4.size
    have newO : ∀ y, y < W.heap.size → y ∉ O' → y ∉ O2 := fun y hy hO hx => by
      rcases j3 y hx with h | h
      · exact hO h
      · omega
    have q6 : Ch (l :: D :: g4 :: g5 :: O') W w6 := (q4.mono (fun x hx => by rw [List.mem_singleton] at hx; simp [hx])).trans j2 (fun x hx => .inl (by simp [hx]))
    have sub6 : Sub W (l :: D :: g4 :: g5 :: O') (l :: D :: g4 :: g5 :: O2) := by
      intro x hx
      simp only [List.mem_cons] at hx ⊢
      rcases hx with h | h | h | h | h
      · exact .inl (.inl h)
      · exact .inl (.inr (.inl h))
      · exact .inl (.inr (.inr (.inl h)))
      · exact .inl (.inr (.inr (.inr (.inl h))))
      · rcases j3 x h with h | h
        · exact .inl (.inr (.inr (.inr (.inr h))))
        · exact .inr (by omega)
    have hndO2 : O2.Nodup := by obtain ⟨_, _, _, rfl, h, _⟩ := j1; exact h
    have hnd2 : (l :: D :: g4 :: g5 :: O2).Nodup := by
      simp only [List.nodup_cons, List.mem_cons, not_or]
      exact ⟨⟨nD, n4, n5, newO l hl1 nO⟩, ⟨m4, m5, newO D hlD mO⟩, ⟨k5, newO g4 hl4 kO⟩, newO g5 hl5 jO, hndO2⟩
    have hlo2 := j1.low
    have fin : ∀ w8 : World, Ch [l, g4] w6 w8 → w8.heap[g4]? = some (.cells #[.bool false] 4 (0, 0)) → ∀ b, w8.heap[l]? = some (.loop (recOf fid D s (bif b then .ready else .done) (bif b then none else some .ret))) → IsJ n₀ l D g4 g5 gs gw fid s b (fitF (sz, want' :: rest) d (.mk op k t kids)).1 (l :: D :: g4 :: g5 :: O2) w8 ∧ Ch (l :: D :: g4 :: g5 :: O') W w8 := by
      intro w8 hc h4' b hl'
      refine ⟨⟨hl', (hc.block D (lt_of_get z7) (by simp; exact ⟨fun e => nD e.symm, m4⟩)).trans z7, h4', (hc.block g5 (lt_of_get z6) (by simp; exact ⟨fun e => n5 e.symm, fun e => k5 e.symm⟩)).trans z6, O2, j1.stay (fun x hx => hc.block x (hlo2 x hx).2 ?_), rfl, hnd2, i1, i2, i3, i4⟩, q6.trans hc (fun x hx => .inl ?_)⟩
      · simp only [List.mem_cons, List.not_mem_nil, or_false, not_or]
        exact ⟨fun e => newO l hl1 nO (e ▸ hx), fun e => newO g4 hl4 kO (e ▸ hx)⟩
      · simp only [List.mem_cons, List.not_mem_nil, or_false] at hx ⊢
        rcases hx with h | h
        · exact .inl h
        · exact .inr (.inr (.inl h))
    cases hfs : fitF (sz, want' :: rest) d (.mk op k t kids) with
    | mk st' b =>
    rw [hfs] at fin
    refine wi_runs (m := []) [(4, 0)] (rest := []) Holds.nil (by simp [Mem.ids]) fun w7 _ _ _ _ d7 => ?_
    obtain rfl := d7 (by kernel_rfl)
    show (Code.cond _ _ _).wpIn _ _ _ _ _ _
    cases b with
    | true =>
      refine wpIn_cond_false (by rw [evalL_eq]; kernel_rfl) (wpIn_skip ?_)
      show ∃ v w', _ ∧ _
      refine ⟨_, _, run_endRound none z4, rfl, l :: D :: g4 :: g5 :: O2, ?_⟩
      obtain ⟨y1, y2⟩ := fin (w7.putObj l (.loop { { recOf fid D s .ready none with state := .busy } with state := .ready, pending := none })) ((Ch.put _ _ _).mono (fun x hx => by rw [List.mem_singleton] at hx; simp [hx])) ((World.putObj_heap_other (fun e => n4 e.symm)).trans z5) true (World.putObj_heap_same (lt_of_get z4))
      exact ⟨y1, y2, sub6⟩
    | false =>
      refine wpIn_cond_true (by rw [evalL_eq]; kernel_rfl) (wpIn_seq (wpIn_region ?_))
      refine wi_runs (m := [(g4, .cells #[.bool false] 4 (0, 0))]) [(0, 0)] (rest := []) (fun j b o h => by match j, h with | 0, h => (cases h; exact z5)) (by simp [Mem.ids]) fun w8 m8 _ c8 _ _ => ?_
      show Code.ret.wpIn _ _ _ _ _ _
      refine wpIn_ret ?_
      have z8 : w8.heap[l]? = some (.loop { recOf fid D s .ready none with state := .busy }) := (c8.block l (lt_of_get z4) (by simp [Mem.ids]; exact n4)).trans z4
      have z9 : w8.heap[g4]? = some (.cells #[.bool false] 4 (0, 0)) := m8.get 0
      show ∃ v w', _ ∧ _
      refine ⟨_, _, run_endRound (some .ret) z8, rfl, l :: D :: g4 :: g5 :: O2, ?_⟩
      obtain ⟨y1, y2⟩ := fin (w8.putObj l (.loop { { recOf fid D s .ready none with state := .busy } with state := .done, pending := some .ret })) ((c8.mono (fun x hx => by simp [Mem.ids] at hx; simp [hx])).trans (Ch.put _ _ _) (fun x hx => .inl (by rw [List.mem_singleton] at hx; simp [hx]))) ((World.putObj_heap_other (fun e => n4 e.symm)).trans z9) false (World.putObj_heap_same (lt_of_get z8))
      exact ⟨y1, y2, sub6⟩
theorem FsJ.apart {L : List Nat} {A : World → Prop} {n gs gw : Nat} {st : Int × List Int} {O : List Nat} {w : World} (h : Stay L w (fun w' => A w' ∧ FsJ n gs gw st O w')) {g : Nat} (hg : g ∈ L) (hl : g < w.heap.size) : g ∉ O := by
  intro hO
  have hc : Ch L w { w with heap := w.heap.setIfInBounds g (.map #[] 0) } := ⟨rfl, rfl, rfl, by simp, fun i _ hx => by
    show (w.heap.setIfInBounds g _)[i]? = _
    exact Array.getElem?_setIfInBounds_ne (fun (h : g = i) => hx (h ▸ hg))⟩
  obtain ⟨gb, cap, cur, rfl, -, -, h1, h2, h3, -⟩ := (h _ hc).2
  have e : (w.heap.setIfInBounds g (.map #[] 0))[g]? = some (.map #[] 0) := Array.getElem?_setIfInBounds_self_of_lt hl
  simp only [List.mem_cons, List.not_mem_nil, or_false] at hO
  rcases hO with rfl | rfl | rfl
  · rw [show ({ w with heap := w.heap.setIfInBounds g (.map #[] 0) } : World).heap[g]? = some (.map #[] 0) from e] at h1; cases h1
  · rw [show ({ w with heap := w.heap.setIfInBounds g (.map #[] 0) } : World).heap[g]? = some (.map #[] 0) from e] at h2; cases h2
  · rw [show ({ w with heap := w.heap.setIfInBounds g (.map #[] 0) } : World).heap[g]? = some (.map #[] 0) from e] at h3; cases h3
def isOfP (want : Int) (c : Co) : Bool := (walkP fitF (0, [want]) 1 c).2
set_option maxRecDepth 100000 in
seal rn rnN rnS Goes ans atEnd put0 putM opened putA0 putA oneSt st0 orT orG in
theorem isOf_any (want : Int) {c : Co} {v : Value} {w : World} (hN : Nc w.heap.size w v c) (hsafe : safeP fitF fitOk (0, [want]) 1 c) : Calls Tryz.prog 119 #[v, .int .i64 want] w fun e w' => e = .returned (.bool (isOfP want c)) ∧ Below w.heap.size w w' := by
  obtain ⟨op, k, t, a, N, cc, rfl⟩ := hN.cells
  refine Goes.enterM Tryz.func119 [] (fun w' => Ch [] w w' ∧ True) Holds.nil (by simp [Mem.ids]) (fun w' hc => ⟨hc, trivial⟩) ?_
  refine Goes.runN2 bpM_noP 2000 [] [] trivial fun g2 g4 => ?_
  refine Goes.call 159 #[.int .i64 want] fun w1 hm1 hn1 hI1 => (fitting_any want w1).mono fun e w2 ⟨gs, gw, O, he, hJ, hB⟩ => ?_
  have f2 : w.heap.size ≤ g2 := fresh_of hI1 (g := g2) (ids_get (j := 0) (o := cO op k t (.slice a N cc)) (by kernel_rfl)) (by simp)
  have f4 : w.heap.size ≤ g4 := fresh_of hI1 (g := g4) (ids_get (j := 1) (o := .cells #[.bool false] 4 (0, 0)) (by kernel_rfl)) (by simp)
  have hne : [g2, g4].Nodup := Nodup.of_ids hn1
  have b2 : w2.heap[g2]? = some (cO op k t (.slice a N cc)) := (hB.block g2 (lt_of_get (hm1.get 0 (o := cO op k t (.slice a N cc))))).trans (hm1.get 0)
  have l4 : g4 < w1.heap.size := lt_of_get (hm1.get 1 (b := g4) (o := .cells #[.bool false] 4 (0, 0)))
  have l2 : g2 < w1.heap.size := lt_of_get (hm1.get 0 (o := cO op k t (.slice a N cc)))
  have b4 : w2.heap[g4]? = some (.cells #[.bool false] 4 (0, 0)) := (hB.block g4 l4).trans (hm1.get 1)
  have hO1 : ∀ x ∈ O, w1.heap.size ≤ x ∧ x < w2.heap.size := hJ.low
  refine ⟨_, fun w' => Ch [] w w' ∧ FsJ w1.heap.size gs gw (0, [want]) O w', [(g2, cO op k t (.slice a N cc)), (g4, .cells #[.bool false] 4 (0, 0))], he, fun j b o h => by match j, h with | 0, h => (cases h; exact b2) | 1, h => (cases h; exact b4), hne, fun w3 hc => ⟨?_, hJ.stay (fun x hx => hc.block x (hO1 x hx).2 (fun hm => by
    simp only [Mem.ids, List.map_cons, List.map_nil, List.mem_cons, List.not_mem_nil, or_false] at hm
    have := (hO1 x hx).1
    rcases hm with rfl | rfl <;> omega))⟩, ?_⟩
  · refine (hI1.now.1.trans (L' := []) ⟨hB.os, hB.tape, hB.output, hB.size, fun i hi _ => hB.block i hi⟩ (fun x hx => by cases hx)).trans hc (fun x hx => .inr ?_)
    simp only [Mem.ids, List.map_cons, List.map_nil, List.mem_cons, List.not_mem_nil, or_false] at hx
    rcases hx with rfl | rfl <;> assumption
  refine Goes.runN1 bpM_noP 2000 [2, 0] [] trivial fun g5 => ?_
  refine Goes.call 160 #[cv op k t (.slice a N cc)] fun w3 hm3 hn3 hI3 => (terms_any op k t a N cc w3).mono fun e w4 ⟨gt, he4, hgt, hgtn, hB4⟩ => ?_
  have x2 : w3.heap[g2]? = some (cO op k t (.slice a N cc)) := hm3.get 0
  have x4 : w3.heap[g4]? = some (.cells #[.bool false] 4 (0, 0)) := hm3.get 1
  have x5 : w3.heap[g5]? = some (.cells #[fitV gs gw] 193 (0, 0)) := hm3.get 2
  have f5 : w.heap.size ≤ g5 := fresh_of hI3 (g := g5) (ids_get (j := 2) (o := .cells #[fitV gs gw] 193 (0, 0)) (by kernel_rfl)) (by simp)
  have hids3 : [g2, g4, g5].Nodup := Nodup.of_ids hn3
  have hap : ∀ g ∈ [g2, g4, g5], g ∉ O := fun g hg => FsJ.apart hI3 (L := _) (by rw [show Mem.ids _ = [g2, g4, g5] by kernel_rfl]; exact hg) (by
    simp only [List.mem_cons, List.not_mem_nil, or_false] at hg
    rcases hg with rfl | rfl | rfl
    · exact lt_of_get x2
    · exact lt_of_get x4
    · exact lt_of_get x5)
  have y2 := (hB4.block g2 (lt_of_get x2)).trans x2
  have y4 := (hB4.block g4 (lt_of_get x4)).trans x4
  have y5 := (hB4.block g5 (lt_of_get x5)).trans x5
  have hJ4 : FsJ w1.heap.size gs gw (0, [want]) O w4 := hI3.now.2.stay (fun x hx => hB4.block x (hI3.now.2.low x hx).2)
  have hC4 : Ch [] w w4 := hI3.now.1.trans (L' := []) ⟨hB4.os, hB4.tape, hB4.output, hB4.size, fun i hi _ => hB4.block i hi⟩ (fun x hx => by cases hx)
  refine ⟨_, fun w' => Ch [] w w' ∧ FsJ w1.heap.size gs gw (0, [want]) O w' ∧ w'.heap[gt]? = some (cO op k t (.slice a N cc)), [(g2, cO op k t (.slice a N cc)), (g4, .cells #[.bool false] 4 (0, 0)), (g5, .cells #[fitV gs gw] 193 (0, 0))], he4, fun j b o h => by match j, h with | 0, h => (cases h; exact y2) | 1, h => (cases h; exact y4) | 2, h => (cases h; exact y5), hids3, fun w5 hc => ⟨hC4.trans hc (fun x hx => .inr ?_), hJ4.stay (fun x hx => hc.block x (hJ4.low x hx).2 (fun hm => hap x hm hx)), (hc.block gt (lt_of_get hgt) (fun hm => ?_)).trans hgt⟩, ?_⟩
  · simp only [Mem.ids, List.map_cons, List.map_nil, List.mem_cons, List.not_mem_nil, or_false] at hx
    rcases hx with rfl | rfl | rfl <;> assumption
  · have l2' := lt_of_get x2
    have l4' := lt_of_get x4
    have l5' := lt_of_get x5
    simp only [Mem.ids, List.map_cons, List.map_nil, List.mem_cons, List.not_mem_nil, or_false] at hm
    rcases hm with h | h | h <;> omega
  refine Goes.runN bpM_noP 2000 [] [] trivial ?_
  refine Goes.named (isT (cv op k t (.slice a N cc)) want g2 g4 g5 gs gw gt undef undef) [(g2, cO op k t (.slice a N cc)), (g4, .cells #[.bool false] 4 (0, 0)), (g5, .cells #[fitV gs gw] 193 (0, 0))] #[12, 13] isA isB [.blk 0, .code (.seq (.region 7 (rI 7) false) .ret)] fun s0 hT hm0 hps hA hBo hk hev hat => ?_
  refine Goes.range 204 #[.pointer (some ⟨gt, 0, none⟩)] (fun fid w5 hm5 hn5 hI5 W1 hL hD hBW => ?_) (hat.trans (by kernel_rfl)) (hev.trans (by kernel_rfl)) (by kernel_rfl)
  rw [hm0] at hm5 hn5 hI5
  obtain ⟨hC5, hJ5, hgt5⟩ := hI5.now
  have hw15 : w1.heap.size ≤ w5.heap.size := by have := hB.size; have := hI3.now.1.size; have h1 := hI5.now.2.1.low; have := hJ.low; obtain ⟨gb, _, _, rfl, _⟩ := hJ5; have := (h1 gs (by simp)).2; have := (h1 gs (by simp)).1; omega
  have u4 : w5.heap[g4]? = some (.cells #[.bool false] 4 (0, 0)) := hm5.get 1
  have u5 : w5.heap[g5]? = some (.cells #[fitV gs gw] 193 (0, 0)) := hm5.get 2
  have hlow5 := hJ5.low
  have hn1w : w.heap.size ≤ w1.heap.size := hI1.now.1.size
  have hd45 : ¬g4 = g5 := by simp only [List.nodup_cons, List.mem_cons, List.not_mem_nil, or_false, not_or] at hids3; exact hids3.2.1
  have v4 := lt_of_get u4
  have v5 := lt_of_get u5
  have hJW : IsJ w.heap.size (w5.heap.size + 1) w5.heap.size g4 g5 gs gw fid s0 true (0, [want]) ((w5.heap.size + 1) :: w5.heap.size :: g4 :: g5 :: O) W1 := by
    refine ⟨hL, hD, (hBW.block g4 v4).trans u4, (hBW.block g5 v5).trans u5, O, (hJ5.more hn1w).stay (fun x hx => hBW.block x (hlow5 x hx).2), rfl, ?_, by have := hC5.size; omega, hC5.size, f4, f5⟩
    have hndO : O.Nodup := by obtain ⟨_, _, _, rfl, h, _⟩ := hJ5; exact h
    simp only [List.nodup_cons, List.mem_cons, not_or]
    exact ⟨⟨by omega, by omega, by omega, fun h => by have := (hlow5 _ h).2; omega⟩, ⟨by omega, by omega, fun h => by have := (hlow5 _ h).2; omega⟩, ⟨hd45, hap g4 (by simp)⟩, hap g5 (by simp), hndO⟩
  have hBwW : Below w.heap.size w W1 := (hC5.low (fun x hx => by cases hx) (Nat.le_refl _)).trans (hBW.mono hC5.size)
  show Calls Tryz.prog 204 #[.func (.yield (w5.heap.size + 1)) #[] #[], .pointer (some ⟨gt, 0, none⟩)] W1 _
  refine (iter_any (isOf_round hT hps hA hBo) hsafe hJW (hN.later hBwW) hBwW.size ((hBW.block gt (lt_of_get hgt5)).trans hgt5)).mono fun e w6 ⟨he, O2, hJ2, hC6, hS6⟩ => ?_
  subst he
  have hB6 : Below w.heap.size w w6 := hBwW.trans (hC6.low (fun x hx => (hJW.low x hx).1) hBwW.size)
  cases hr : walkP fitF (0, [want]) 1 c with
  | mk st' b =>
  rw [hr] at hJ2
  have hv : isOfP want c = b := by unfold isOfP; rw [hr]
  rw [hv]
  obtain ⟨p1, p2, p3, p4, O3, p5, rfl, p6, p7, p8, p9, p10⟩ := hJ2
  simp only [List.nodup_cons, List.mem_cons, not_or] at p6
  have hl6 : w5.heap.size + 1 < w6.heap.size := lt_of_get p1
  cases b with
  | true =>
    simp only [cond_true] at p1
    refine ⟨none, _, run_endLoop p1 (by simp [recOf]), ?_⟩
    have hB7 : Below w.heap.size w (w6.putObj (w5.heap.size + 1) (.loop { recOf fid w5.heap.size s0 .ready none with state := .exhausted })) := hB6.trans ((Ch.put _ _ _).low (fun x hx => by rw [List.mem_singleton] at hx; have := hC5.size; omega) hB6.size)
    have z4 : (w6.putObj (w5.heap.size + 1) (.loop { recOf fid w5.heap.size s0 .ready none with state := .exhausted })).heap[g4]? = some (.cells #[.bool false] 4 (0, 0)) := (World.putObj_heap_other (fun e => p6.1.2.1 e.symm)).trans p3
    have zD : (w6.putObj (w5.heap.size + 1) (.loop { recOf fid w5.heap.size s0 .ready none with state := .exhausted })).heap[w5.heap.size]? = some (.deferred (some [])) := (World.putObj_heap_other (fun e => p6.1.1 e.symm)).trans p2
    generalize w6.putObj (w5.heap.size + 1) (.loop { recOf fid w5.heap.size s0 .ready none with state := .exhausted }) = w7 at hB7 z4 zD ⊢
    show QK _ _ s0.todo.tail _ _ _
    rw [hk, hT]
    show (Code.seq _ _).wp _ _ _ _
    refine (wpIn_wide (n := 0)).1 (wpIn_seq (wpIn_region ?_))
    refine wi_runs (r := none) (m := [(g4, .cells #[.bool false] 4 (0, 0))]) [(0, 0)] (rest := []) (fun j b o h => by match j, h with | 0, h => (cases h; exact z4)) (by simp [Mem.ids]) fun w8 m8 n8 c8 _ _ => ?_
    show Code.ret.wpIn Fence.wide _ _ _ _ _
    refine wpIn_ret ?_
    have q4 : w8.heap[g4]? = some (.cells #[.bool true] 4 (0, 0)) := m8.get 0
    refine leave_mark [0] (.bool true) [(g4, .cells #[.bool true] 4 (0, 0))] ((c8.block w5.heap.size (lt_of_get zD) (by simp [Mem.ids]; omega)).trans zD) (fun j b o h => by match j, h with | 0, h => (cases h; exact (World.putObj_heap_other (by omega)).trans q4)) (by simp [Mem.ids]) ⟨rfl, ?_⟩
    exact (hB7.trans (c8.low (fun x hx => by simp [Mem.ids] at hx; omega) hB7.size)).trans ((Ch.put _ _ _).low (fun x hx => by rw [List.mem_singleton] at hx; have := hC5.size; omega) (by have := hB7.size; have := c8.size; omega))
  | false =>
    simp only [cond_false] at p1
    refine ⟨some .ret, _, run_endLoop p1 (by simp [recOf]), ?_⟩
    have hB7 : Below w.heap.size w (w6.putObj (w5.heap.size + 1) (.loop { recOf fid w5.heap.size s0 .done (some .ret) with state := .exhausted })) := hB6.trans ((Ch.put _ _ _).low (fun x hx => by rw [List.mem_singleton] at hx; have := hC5.size; omega) hB6.size)
    have z4 : (w6.putObj (w5.heap.size + 1) (.loop { recOf fid w5.heap.size s0 .done (some .ret) with state := .exhausted })).heap[g4]? = some (.cells #[.bool false] 4 (0, 0)) := (World.putObj_heap_other (fun e => p6.1.2.1 e.symm)).trans p3
    have zD : (w6.putObj (w5.heap.size + 1) (.loop { recOf fid w5.heap.size s0 .done (some .ret) with state := .exhausted })).heap[w5.heap.size]? = some (.deferred (some [])) := (World.putObj_heap_other (fun e => p6.1.1 e.symm)).trans p2
    generalize w6.putObj (w5.heap.size + 1) (.loop { recOf fid w5.heap.size s0 .done (some .ret) with state := .exhausted }) = w7 at hB7 z4 zD ⊢
    show Code.ret.wpIn Fence.wide _ _ _ _ _
    refine wpIn_ret (qk_ret ?_)
    rw [hT]
    refine leave_mark [0] (.bool false) [(g4, .cells #[.bool false] 4 (0, 0))] zD (fun j b o h => by match j, h with | 0, h => (cases h; exact (World.putObj_heap_other (by omega)).trans z4)) (by simp [Mem.ids]) ⟨rfl, ?_⟩
    exact hB7.trans ((Ch.put _ _ _).low (fun x hx => by rw [List.mem_singleton] at hx; have := hC5.size; omega) hB7.size)
end Go.Proofs.YtddbiiejilcbbaaGreatDoor
namespace Go.Proofs.YtddbiiejilcbbaaGreatDoor
open Go Go.RowKit

def typP (c : Co) : Int × Bool := bif isOfP 0 c then (0, true) else bif isOfP 1 c then (1, true) else bif isOfP 2 c then (2, true) else bif isOfP 4 c then (4, true) else (0, false)
theorem isOf0 (want : Int) {c : Co} {v : Value} {w w' : World} (hN : Nc w.heap.size w v c) (hB : Below w.heap.size w w') : Calls Tryz.prog 119 #[v, .int .i64 want] w' fun e w'' => e = .returned (.bool (isOfP want c)) ∧ Below w'.heap.size w' w'' := isOf_any want (hN.at hB) (safe_fit want c)
set_option maxRecDepth 100000 in
seal rn rnN rnS Goes ans atEnd put0 putM opened putA0 oneSt st0 orT orG in
theorem type_any {c : Co} {v : Value} {w : World} (hN : Nc w.heap.size w v c) : Calls Tryz.prog 142 #[v] w fun e w' => e = .returned (.tuple #[.int .i64 (typP c).1, .bool (typP c).2]) ∧ Below w.heap.size w w' := by
  obtain ⟨op, k, t, a, N, cc, rfl⟩ := hN.cells
  refine Goes.begin Tryz.func142 [] (fun _ => True) Holds.nil (by simp [Mem.ids]) (fun _ _ => trivial) ?_
  refine Goes.run1 [0, 1, 0, 0] [(true, true)] ⟨rfl, trivial⟩ fun g => ?_
  refine Goes.call0 119 #[cv op k t (.slice a N cc), .int .i64 0] (.bool (isOfP 0 c)) (fun w' _ hI => isOf0 0 hN (bel0 hI)) ?_
  cases h0 : isOfP 0 c with
  | true =>
    refine Goes.run [1] [(true, true)] ⟨rfl, trivial⟩ ?_
    exact Goes.ret [] (.tuple #[.int .i64 0, .bool true]) fun w' hm hI => ⟨by unfold typP; rw [h0] <;> rfl, bel0 hI⟩
  | false =>
    refine Goes.run [0, 0, 1, 0, 0] [(true, true), (false, false)] ⟨rfl, rfl, trivial⟩ ?_
    refine Goes.call0 119 #[cv op k t (.slice a N cc), .int .i64 1] (.bool (isOfP 1 c)) (fun w' _ hI => isOf0 1 hN (bel0 hI)) ?_
    cases h1 : isOfP 1 c with
    | true =>
      refine Goes.run [1] [(true, true)] ⟨rfl, trivial⟩ ?_
      exact Goes.ret [] (.tuple #[.int .i64 1, .bool true]) fun w' hm hI => ⟨by unfold typP; rw [h0, h1] <;> rfl, bel0 hI⟩
    | false =>
      refine Goes.run [0, 0, 1, 0, 0] [(true, true), (false, false)] ⟨rfl, rfl, trivial⟩ ?_
      refine Goes.call0 119 #[cv op k t (.slice a N cc), .int .i64 2] (.bool (isOfP 2 c)) (fun w' _ hI => isOf0 2 hN (bel0 hI)) ?_
      cases h2 : isOfP 2 c with
      | true =>
        refine Goes.run [1] [(true, true)] ⟨rfl, trivial⟩ ?_
        exact Goes.ret [] (.tuple #[.int .i64 2, .bool true]) fun w' hm hI => ⟨by unfold typP; rw [h0, h1, h2] <;> rfl, bel0 hI⟩
      | false =>
        refine Goes.run [0, 0, 1, 0, 0] [(true, true), (false, false)] ⟨rfl, rfl, trivial⟩ ?_
        refine Goes.call0 119 #[cv op k t (.slice a N cc), .int .i64 4] (.bool (isOfP 4 c)) (fun w' _ hI => isOf0 4 hN (bel0 hI)) ?_
        cases h4 : isOfP 4 c with
        | true =>
          refine Goes.run [1] [(true, true)] ⟨rfl, trivial⟩ ?_
          exact Goes.ret [] (.tuple #[.int .i64 4, .bool true]) fun w' hm hI => ⟨by unfold typP; rw [h0, h1, h2, h4] <;> rfl, bel0 hI⟩
        | false =>
          refine Goes.run [0, 0, 0] [(false, false), (false, false)] ⟨rfl, rfl, trivial⟩ ?_
          exact Goes.ret [] (.tuple #[.int .i64 0, .bool false]) fun w' hm hI => ⟨by unfold typP; rw [h0, h1, h2, h4] <;> rfl, bel0 hI⟩
end Go.Proofs.YtddbiiejilcbbaaGreatDoor
namespace Go.Proofs.YtddbiiejilcbbaaGreatDoor
open Go Go.RowKit

def askF (f : Int → Co → Int) (x : Int) (_ : Int) (c : Co) : Int × Bool := (f x c, true)
def askP (f : Int → Co → Int) (x : Int) (c : Co) : Int := bif (typP c).2 then (walkP (askF f) x 1 c).1 else x
noncomputable def rA (i : Nat) : Array Oper := regAt (Tryz.f120.body.getD .skip) i
noncomputable def akA : Code := .region 4 (rA 4) false
noncomputable def akB : Code := .block 1 (.region 5 (rA 5) false)
end Go.Proofs.YtddbiiejilcbbaaGreatDoor
namespace Go.Proofs.YtddbiiejilcbbaaGreatDoor
open Go Go.RowKit

end Go.Proofs.YtddbiiejilcbbaaGreatDoor
