/- Values of many cells: a page's bytes, a head, a state, a change; how they are made, loaded and stored. -/
import Derived.Test.YtdbgccgjdgomkaaGreatDoorPBaseC
import Derived.Test.YtdbgccgjdgomkaaGreatDoorJGc
namespace Go.Proofs.YtdbgccgjdgomkaaGreatDoor
open Go Go.RowKit

theorem box_agg (T : TypeId) (w : World) (c : Array Value) : (Instr.box T (.agg c)).run Tryz.prog w = .ok (.pointer (some ⟨w.heap.size, 0, none⟩)) (w.alloc (.cells c T)) := by
  simp [Instr.box, newVar, newRow, Value.cells]
theorem alloc_agg {T : TypeId} {c : Array Value} (hz : ∀ w, (zeroValue T).run Tryz.prog w = .ok (.agg c) w) (w : World) : (Instr.alloc T true (.tuple #[])).run Tryz.prog w = .ok (.pointer (some ⟨w.heap.size, 0, none⟩)) (w.alloc (.cells c T)) := by
  simp only [Instr.alloc, Sem.run_bind, hz, Result.andThen_ok]
  rfl
theorem loadAt_all {T : TypeId} {k : Nat} (ha : ∀ w, (isAgg T).run Tryz.prog w = .ok true w) (hz : (Tryz.prog.info? T).map (·.size) = some k) {w : World} {g : Nat} {c : Array Value} {t : TypeId} {z : Nat × Nat} (hk : c.size = k) (hg : w.heap[g]? = some (.cells c t z)) :
    (Instr.loadAt T (.pointer (some ⟨g, 0, none⟩))).run Tryz.prog w = .ok (.agg c) w := by
  have h := loadAt_k ha hz w g 0 c t z c.toList (by simpa using hk) hg (fun j v hj => by simpa using hj)
  simpa using h
theorem storeAt_all {T : TypeId} {k : Nat} (hz : (Tryz.prog.info? T).map (·.size) = some k) {w : World} {g : Nat} {c c' : Array Value} {t : TypeId} (hk : c.size = k) (hk' : c'.size = k) (hg : w.heap[g]? = some (.cells c t (0, 0))) (h1 : ∀ v ∈ c'.toList, v.oneCell' = true) :
    (Instr.storeAt T (.pointer (some ⟨g, 0, none⟩)) (.agg c')).run Tryz.prog w = .ok () (w.setRow g c') := by
  have h := storeAt_k hz w g 0 c t c'.toList (by simpa using hk') hg (by simp; omega) h1
  have e : relaid c 0 c'.toList = c' := by
    unfold relaid
    rw [List.take_zero, List.nil_append, Nat.zero_add, List.drop_of_length_le (by simp; omega), List.append_nil]
  rw [e] at h
  simpa using h
theorem under109 : Tryz.prog.underlying 109 = some (.array 896 5) := by kernel_rfl
theorem size109 : (Tryz.prog.info? 109).map (·.size) = some 896 := by kernel_rfl
theorem agg109 (w : World) : (isAgg 109).run Tryz.prog w = .ok true w := by simp [isAgg, run_underlying under109]
def z896 : List UInt8 := List.replicate 896 0
theorem z896_len : z896.length = 896 := List.length_replicate ..
theorem zero109 (w : World) : (zeroValue 109).run Tryz.prog w = .ok (V8 z896) w := (zero_of_info (n := 896) (by kernel_rfl)).1 w
theorem alloc109 (w : World) : (Instr.alloc 109 true (.tuple #[])).run Tryz.prog w = .ok (.pointer (some ⟨w.heap.size, 0, none⟩)) (w.alloc (.cells (cells8 z896).toArray 109)) := alloc_agg zero109 w
theorem load109 {w : World} {g : Nat} {t : TypeId} {l : List UInt8} (hl : l.length = 896) (h : Rw w g t l) : (Instr.loadAt 109 (.pointer (some ⟨g, 0, none⟩))).run Tryz.prog w = .ok (V8 l) w :=
  loadAt_all agg109 size109 (by rw [cells8_size]; exact hl) h
theorem store109 {w : World} {g : Nat} {t : TypeId} {l l' : List UInt8} (hl : l.length = 896) (hl' : l'.length = 896) (h : Rw w g t l) : (Instr.storeAt 109 (.pointer (some ⟨g, 0, none⟩)) (V8 l')).run Tryz.prog w = .ok () (w.setRow g (cells8 l').toArray) :=
  storeAt_all size109 (by rw [cells8_size]; exact hl) (by rw [cells8_size]; exact hl') h (by simpa using cells8_one l')
theorem box109 (w : World) (l : List UInt8) : (Instr.box 109 (V8 l)).run Tryz.prog w = .ok (.pointer (some ⟨w.heap.size, 0, none⟩)) (w.alloc (.cells (cells8 l).toArray 109)) := box_agg _ w _
theorem punder70 : Tryz.prog.underlying 70 = some (.array 224 5) := by kernel_rfl
theorem hsize70 : (Tryz.prog.info? 70).map (·.size) = some 224 := by kernel_rfl
theorem hagg70 (w : World) : (isAgg 70).run Tryz.prog w = .ok true w := by simp [isAgg, run_underlying punder70]
def z224 : List UInt8 := List.replicate 224 0
theorem z224_len : z224.length = 224 := List.length_replicate ..
theorem pzero70 (w : World) : (zeroValue 70).run Tryz.prog w = .ok (V8 z224) w := (zero_of_info (n := 224) (by kernel_rfl)).1 w
theorem palloc70 (w : World) : (Instr.alloc 70 true (.tuple #[])).run Tryz.prog w = .ok (.pointer (some ⟨w.heap.size, 0, none⟩)) (w.alloc (.cells (cells8 z224).toArray 70)) := alloc_agg pzero70 w
theorem pload70 {w : World} {g : Nat} {t : TypeId} {l : List UInt8} (hl : l.length = 224) (h : Rw w g t l) : (Instr.loadAt 70 (.pointer (some ⟨g, 0, none⟩))).run Tryz.prog w = .ok (V8 l) w :=
  loadAt_all hagg70 hsize70 (by rw [cells8_size]; exact hl) h
theorem pstore70 {w : World} {g : Nat} {t : TypeId} {l l' : List UInt8} (hl : l.length = 224) (hl' : l'.length = 224) (h : Rw w g t l) : (Instr.storeAt 70 (.pointer (some ⟨g, 0, none⟩)) (V8 l')).run Tryz.prog w = .ok () (w.setRow g (cells8 l').toArray) :=
  storeAt_all hsize70 (by rw [cells8_size]; exact hl) (by rw [cells8_size]; exact hl') h (by simpa using cells8_one l')
theorem pbox70 (w : World) (l : List UInt8) : (Instr.box 70 (V8 l)).run Tryz.prog w = .ok (.pointer (some ⟨w.heap.size, 0, none⟩)) (w.alloc (.cells (cells8 l).toArray 70)) := box_agg _ w _
/-- A state as a value, in a block of its own. -/
def St (l : List Bool) (kl kr : Int) : Value := .agg (stC l kl kr).toArray
def Sb (w : World) (g : Nat) (l : List Bool) (kl kr : Int) : Prop := w.heap[g]? = some (.cells (stC l kl kr).toArray 76 (0, 0))
theorem size76p : (Tryz.prog.info? 76).map (·.size) = some 1026 := by kernel_rfl
theorem agg76p (w : World) : (isAgg 76).run Tryz.prog w = .ok true w := Tryz.isAgg76 w
theorem stC_one (l : List Bool) (kl kr : Int) : ∀ v ∈ stC l kl kr, v.oneCell' = true := by
  intro v hv
  simp only [stC, List.mem_cons] at hv
  rcases hv with rfl | rfl | rfl | hv
  · rfl
  · rfl
  · rfl
  · exact cells8_one _ v hv
theorem stC_size (l : List Bool) (kl kr : Int) (h : l.length ≤ 1023) : (stC l kl kr).toArray.size = 1026 := by rw [List.size_toArray]; exact stC_len l kl kr h
theorem pload76 {w : World} {g : Nat} {l : List Bool} {kl kr : Int} (hl : l.length ≤ 1023) (h : Sb w g l kl kr) : (Instr.loadAt 76 (.pointer (some ⟨g, 0, none⟩))).run Tryz.prog w = .ok (St l kl kr) w :=
  loadAt_all agg76p size76p (stC_size l kl kr hl) h
theorem pstore76 {w : World} {g : Nat} {l l' : List Bool} {kl kr kl' kr' : Int} (hl : l.length ≤ 1023) (hl' : l'.length ≤ 1023) (h : Sb w g l kl kr) : (Instr.storeAt 76 (.pointer (some ⟨g, 0, none⟩)) (St l' kl' kr')).run Tryz.prog w = .ok () (w.setRow g (stC l' kl' kr').toArray) :=
  storeAt_all size76p (stC_size l kl kr hl) (stC_size l' kl' kr' hl') h (by simpa using stC_one l' kl' kr')
theorem Sb.row {w : World} {g : Nat} {l : List Bool} {kl kr : Int} (h : Sb w g l kl kr) (l' : List Bool) (kl' kr' : Int) : Sb (w.setRow g (stC l' kl' kr').toArray) g l' kl' kr' := setRow_heap w g _ _ _ _ h
theorem pbox76 (w : World) (l : List Bool) (kl kr : Int) : (Instr.box 76 (St l kl kr)).run Tryz.prog w = .ok (.pointer (some ⟨w.heap.size, 0, none⟩)) (w.alloc (.cells (stC l kl kr).toArray 76)) := box_agg _ w _
theorem zero76p (w : World) : (zeroValue 76).run Tryz.prog w = .ok (St [] 0 0) w := (zero_of_info (n := 1026) (by kernel_rfl)).1 w
theorem palloc76 (w : World) : (Instr.alloc 76 true (.tuple #[])).run Tryz.prog w = .ok (.pointer (some ⟨w.heap.size, 0, none⟩)) (w.alloc (.cells (stC [] 0 0).toArray 76)) := alloc_agg zero76p w
section
variable {w : World} {g : Nat} {l : List Bool} {kl kr : Int} (h : Sb w g l kl kr)
include h
theorem Sb.c0 : w.cell? ⟨g, 0, none⟩ = some (.int .i64 l.length) := cell_at h 0 rfl
theorem Sb.c1 : w.cell? ⟨g, 1, none⟩ = some (.int .i64 kl) := cell_at h 1 rfl
theorem Sb.c2 : w.cell? ⟨g, 2, none⟩ = some (.int .i64 kr) := cell_at h 2 rfl
theorem Sb.cu (hl : l.length ≤ 1023) (i : Nat) (hi : i < l.length) : w.cell? ⟨g, 3 + i, none⟩ = some (.int .u8 (at8 (useB l) i)) := by
  refine cell_at h (3 + i) ?_
  rw [List.getElem?_toArray]
  unfold stC
  rw [show 3 + i = ((i + 1) + 1) + 1 by omega, List.getElem?_cons_succ, List.getElem?_cons_succ, List.getElem?_cons_succ]
  exact cells8_get _ i (by rw [useB_len _ hl]; omega)
theorem Sb.fz (i : Nat) : w.frozen? ⟨g, i, none⟩ = false := open_at h i
theorem Sb.s1 (x : Int) : Sb (w.setCell ⟨g, 1, none⟩ (.int .i64 x)) g l x kr := by unfold Sb; rw [heap_setCell h]; rfl
theorem Sb.s2 (x : Int) : Sb (w.setCell ⟨g, 2, none⟩ (.int .i64 x)) g l kl x := by unfold Sb; rw [heap_setCell h]; rfl
theorem Sb.su (i : Nat) (b : Bool) (hi : i < l.length) : Sb (w.setCell ⟨g, 3 + i, none⟩ (.int .u8 (b2u b).toNat)) g (l.set i b) kl kr := by
  unfold Sb
  rw [heap_setCell h, List.setIfInBounds_toArray]
  congr 3
  unfold stC
  rw [show 3 + i = ((i + 1) + 1) + 1 by omega, List.set_cons_succ, List.set_cons_succ, List.set_cons_succ, List.length_set, ← useB_set l i b hi]
  simp only [cells8, List.map_set]
  rfl
theorem Sb.fr {X : List Nat} {w' : World} (hF : Fr X w w') (hX : g ∉ X) : Sb w' g l kl kr := hF.at h hX
theorem Sb.below {B : Nat} {w' : World} (hF : Below B w w') (hX : g < B) : Sb w' g l kl kr := below_at hF h hX
end
/-- A change as a value, in a block of its own. -/
def Ch (bg : Bool) (lf rt : Int) (um bm : Option Nat) : Value := .agg (chC bg lf rt um bm).toArray
def Cb (w : World) (g : Nat) (bg : Bool) (lf rt : Int) (um bm : Option Nat) : Prop := w.heap[g]? = some (.cells (chC bg lf rt um bm).toArray 87 (0, 0))
theorem size87 : (Tryz.prog.info? 87).map (·.size) = some 5 := by kernel_rfl
theorem agg87 (w : World) : (isAgg 87).run Tryz.prog w = .ok true w := Tryz.isAgg87 w
theorem chC_one (bg : Bool) (lf rt : Int) (um bm : Option Nat) : ∀ v ∈ chC bg lf rt um bm, v.oneCell' = true := by
  intro v hv
  simp only [chC, List.mem_cons, List.not_mem_nil, or_false] at hv
  rcases hv with rfl | rfl | rfl | rfl | rfl <;> rfl
theorem zero87 (w : World) : (zeroValue 87).run Tryz.prog w = .ok (Ch false 0 0 none none) w := (zero_of_info (n := 5) (by kernel_rfl)).1 w
theorem alloc87 (w : World) : (Instr.alloc 87 true (.tuple #[])).run Tryz.prog w = .ok (.pointer (some ⟨w.heap.size, 0, none⟩)) (w.alloc (.cells (chC false 0 0 none none).toArray 87)) := alloc_agg zero87 w
theorem load87 {w : World} {g : Nat} {bg : Bool} {lf rt : Int} {um bm : Option Nat} (h : Cb w g bg lf rt um bm) : (Instr.loadAt 87 (.pointer (some ⟨g, 0, none⟩))).run Tryz.prog w = .ok (Ch bg lf rt um bm) w := loadAt_all agg87 size87 rfl h
theorem store87 {w : World} {g : Nat} {bg bg' : Bool} {lf rt lf' rt' : Int} {um bm um' bm' : Option Nat} (h : Cb w g bg lf rt um bm) : (Instr.storeAt 87 (.pointer (some ⟨g, 0, none⟩)) (Ch bg' lf' rt' um' bm')).run Tryz.prog w = .ok () (w.setRow g (chC bg' lf' rt' um' bm').toArray) :=
  storeAt_all size87 rfl rfl h (by simpa using chC_one bg' lf' rt' um' bm')
theorem Cb.row {w : World} {g : Nat} {bg : Bool} {lf rt : Int} {um bm : Option Nat} (h : Cb w g bg lf rt um bm) (bg' : Bool) (lf' rt' : Int) (um' bm' : Option Nat) : Cb (w.setRow g (chC bg' lf' rt' um' bm').toArray) g bg' lf' rt' um' bm' := setRow_heap w g _ _ _ _ h
theorem box87 (w : World) (bg : Bool) (lf rt : Int) (um bm : Option Nat) : (Instr.box 87 (Ch bg lf rt um bm)).run Tryz.prog w = .ok (.pointer (some ⟨w.heap.size, 0, none⟩)) (w.alloc (.cells (chC bg lf rt um bm).toArray 87)) := box_agg _ w _
section
variable {w : World} {g : Nat} {bg : Bool} {lf rt : Int} {um bm : Option Nat} (h : Cb w g bg lf rt um bm)
include h
theorem Cb.c1 : w.cell? ⟨g, 1, none⟩ = some (.int .i64 lf) := cell_at h 1 rfl
theorem Cb.c2 : w.cell? ⟨g, 2, none⟩ = some (.int .i64 rt) := cell_at h 2 rfl
theorem Cb.c3 : w.cell? ⟨g, 3, none⟩ = some (.map um) := cell_at h 3 rfl
theorem Cb.fr {X : List Nat} {w' : World} (hF : Fr X w w') (hX : g ∉ X) : Cb w' g bg lf rt um bm := hF.at h hX
theorem Cb.below {B : Nat} {w' : World} (hF : Below B w w') (hX : g < B) : Cb w' g bg lf rt um bm := below_at hF h hX
end
section
variable {w : World} {p j : Nat} {l : List Bool} {kl kr : Int} {bg : Bool} {lf rt : Int} {um bm : Option Nat} {off : Int} (h : Pg w p j l kl kr bg lf rt um bm off)
include h
theorem Pg.loadS : (Instr.loadAt 76 (.pointer (some ⟨p, 1, none⟩))).run Tryz.prog w = .ok (St l kl kr) w :=
  loadAt_k agg76p size76p w p 1 _ _ _ (stC l kl kr) (stC_len l kl kr h.1) h.2 (fun k v hv => by
    rw [List.getElem?_toArray]
    unfold pgC
    rw [Nat.add_comm, List.getElem?_cons_succ, List.getElem?_append_left (List.getElem?_eq_some_iff.1 hv).1]
    exact hv)
theorem Pg.loadC : (Instr.loadAt 87 (.pointer (some ⟨p, 1027, none⟩))).run Tryz.prog w = .ok (Ch bg lf rt um bm) w :=
  loadAt_k agg87 size87 w p 1027 _ _ _ (chC bg lf rt um bm) rfl h.2 (fun k v hv => by
    rw [List.getElem?_toArray, pgC_tail j h.1, List.getElem?_append_left (List.getElem?_eq_some_iff.1 hv).1]
    exact hv)
theorem Pg.storeS {l' : List Bool} (hl' : l'.length ≤ 1023) (kl' kr' : Int) : ∃ w', (Instr.storeAt 76 (.pointer (some ⟨p, 1, none⟩)) (St l' kl' kr')).run Tryz.prog w = .ok () w' ∧ Pg w' p j l' kl' kr' bg lf rt um bm off ∧ Fr [p] w w' := by
  have hlen : (pgC j l kl kr bg lf rt um bm off).toArray.size = 1033 := by
    rw [List.size_toArray]; simp only [pgC, List.length_cons, List.length_append, stC_len l kl kr h.1]; rfl
  refine ⟨_, storeAt_k size76p w p 1 _ _ (stC l' kl' kr') (stC_len l' kl' kr' hl') h.2 (by rw [hlen, stC_len l' kl' kr' hl']; decide) (stC_one _ _ _), ⟨hl', ?_⟩, Fr.setRow _ _ _⟩
  rw [setRow_heap w p _ _ _ _ h.2]
  congr 3
  unfold relaid pgC
  simp only [List.take_succ_cons, List.take_zero, List.cons_append, List.nil_append, stC_len l' kl' kr' hl']
  rw [show 1 + 1026 = 1026 + 1 from rfl, List.drop_succ_cons]
  congr 2
  rw [List.drop_append_of_le_length (by rw [stC_len l kl kr h.1]; exact Nat.le_refl _), List.drop_of_length_le (by rw [stC_len l kl kr h.1]; exact Nat.le_refl _), List.nil_append]
theorem Pg.storeC (bg' : Bool) (lf' rt' : Int) (um' bm' : Option Nat) : ∃ w', (Instr.storeAt 87 (.pointer (some ⟨p, 1027, none⟩)) (Ch bg' lf' rt' um' bm')).run Tryz.prog w = .ok () w' ∧ Pg w' p j l kl kr bg' lf' rt' um' bm' off ∧ Fr [p] w w' := by
  have hlen : (pgC j l kl kr bg lf rt um bm off).toArray.size = 1033 := by
    rw [List.size_toArray]; simp only [pgC, List.length_cons, List.length_append, stC_len l kl kr h.1]; rfl
  refine ⟨_, storeAt_k size87 w p 1027 _ _ (chC bg' lf' rt' um' bm') rfl h.2 (by rw [hlen]; show 1027 + 5 ≤ 1033; decide) (chC_one _ _ _ _ _), ⟨h.1, ?_⟩, Fr.setRow _ _ _⟩
  rw [setRow_heap w p _ _ _ _ h.2]
  congr 3
  unfold relaid pgC
  have e1 : (Value.pointer (some ⟨j, 0, none⟩) :: (stC l kl kr ++ (chC bg lf rt um bm ++ [.int .i64 off]))).take 1027 = .pointer (some ⟨j, 0, none⟩) :: stC l kl kr := by
    rw [show 1027 = 1026 + 1 from rfl, List.take_succ_cons, List.take_append_of_le_length (by rw [stC_len l kl kr h.1]; exact Nat.le_refl _), List.take_of_length_le (by rw [stC_len l kl kr h.1]; exact Nat.le_refl _)]
  have e2 : (Value.pointer (some ⟨j, 0, none⟩) :: (stC l kl kr ++ (chC bg lf rt um bm ++ [.int .i64 off]))).drop (1027 + 5) = [.int .i64 off] := by
    rw [show 1027 + 5 = (1026 + 5) + 1 from rfl, List.drop_succ_cons, List.drop_append, stC_len l kl kr h.1, List.drop_of_length_le (by rw [stC_len l kl kr h.1]; omega)]
    rfl
  show (List.take 1027 _ ++ _ ++ List.drop (1027 + 5) _).toArray = _
  rw [e1, e2]
  simp
end
theorem fg76_0 (b o : Nat) (w : World) : (Instr.fieldAt 76 (.pointer (some ⟨b, o, none⟩)) 0).run Tryz.prog w = .ok (.pointer (some ⟨b, o, none⟩)) w := by go_simp
theorem fg76_1 (b o : Nat) (w : World) : (Instr.fieldAt 76 (.pointer (some ⟨b, o, none⟩)) 1).run Tryz.prog w = .ok (.pointer (some ⟨b, o + 1, none⟩)) w := by go_simp
theorem fg76_2 (b o : Nat) (w : World) : (Instr.fieldAt 76 (.pointer (some ⟨b, o, none⟩)) 2).run Tryz.prog w = .ok (.pointer (some ⟨b, o + 2, none⟩)) w := by go_simp
theorem fg76_3 (b o : Nat) (w : World) : (Instr.fieldAt 76 (.pointer (some ⟨b, o, none⟩)) 3).run Tryz.prog w = .ok (.pointer (some ⟨b, o + 3, none⟩)) w := by go_simp
theorem fg87_0 (b o : Nat) (w : World) : (Instr.fieldAt 87 (.pointer (some ⟨b, o, none⟩)) 0).run Tryz.prog w = .ok (.pointer (some ⟨b, o, none⟩)) w := by go_simp
theorem fg87_1 (b o : Nat) (w : World) : (Instr.fieldAt 87 (.pointer (some ⟨b, o, none⟩)) 1).run Tryz.prog w = .ok (.pointer (some ⟨b, o + 1, none⟩)) w := by go_simp
theorem fg87_2 (b o : Nat) (w : World) : (Instr.fieldAt 87 (.pointer (some ⟨b, o, none⟩)) 2).run Tryz.prog w = .ok (.pointer (some ⟨b, o + 2, none⟩)) w := by go_simp
theorem fg87_3 (b o : Nat) (w : World) : (Instr.fieldAt 87 (.pointer (some ⟨b, o, none⟩)) 3).run Tryz.prog w = .ok (.pointer (some ⟨b, o + 3, none⟩)) w := by go_simp
theorem fg87_4 (b o : Nat) (w : World) : (Instr.fieldAt 87 (.pointer (some ⟨b, o, none⟩)) 4).run Tryz.prog w = .ok (.pointer (some ⟨b, o + 4, none⟩)) w := by go_simp
theorem fg82_0 (b o : Nat) (w : World) : (Instr.fieldAt 82 (.pointer (some ⟨b, o, none⟩)) 0).run Tryz.prog w = .ok (.pointer (some ⟨b, o, none⟩)) w := by go_simp
theorem fg85_0 (b o : Nat) (w : World) : (Instr.fieldAt 85 (.pointer (some ⟨b, o, none⟩)) 0).run Tryz.prog w = .ok (.pointer (some ⟨b, o, none⟩)) w := by go_simp
theorem fa90_0 (b : Nat) (w : World) : (Instr.fieldAt 90 (.pointer (some ⟨b, 0, none⟩)) 0).run Tryz.prog w = .ok (.pointer (some ⟨b, 0, none⟩)) w := by go_simp
theorem fa90_1 (b : Nat) (w : World) : (Instr.fieldAt 90 (.pointer (some ⟨b, 0, none⟩)) 1).run Tryz.prog w = .ok (.pointer (some ⟨b, 1, none⟩)) w := by go_simp
theorem fa90_2 (b : Nat) (w : World) : (Instr.fieldAt 90 (.pointer (some ⟨b, 0, none⟩)) 2).run Tryz.prog w = .ok (.pointer (some ⟨b, 1027, none⟩)) w := by go_simp
theorem fa90_3 (b : Nat) (w : World) : (Instr.fieldAt 90 (.pointer (some ⟨b, 0, none⟩)) 3).run Tryz.prog w = .ok (.pointer (some ⟨b, 1032, none⟩)) w := by go_simp
theorem ix74 (b o i : Nat) (h : i < 1023) (w : World) : (Instr.indexAt 74 (.pointer (some ⟨b, o, none⟩)) (.int .i64 i)).run Tryz.prog w = .ok (.pointer (some ⟨b, o + i, none⟩)) w := by
  have h1 : (i : Int) < 1023 := by omega
  go_simp
theorem ix70 (b i : Nat) (h : i < 224) (w : World) : (Instr.indexAt 70 (.pointer (some ⟨b, 0, none⟩)) (.int .i64 i)).run Tryz.prog w = .ok (.pointer (some ⟨b, i, none⟩)) w := by
  have h1 : (i : Int) < 224 := by omega
  go_simp
theorem sl70 (g : Nat) (w : World) : (Instr.sliceAt 70 (.pointer (some ⟨g, 0, none⟩)) none none none).run Tryz.prog w = .ok (.slice (some ⟨g, 0, none⟩) 224 224) w := by go_simp
theorem sl70b (g : Nat) (w : World) : (Instr.sliceAt 70 (.pointer (some ⟨g, 0, none⟩)) (some (.int .i64 208)) none none).run Tryz.prog w = .ok (.slice (some ⟨g, 208, none⟩) 16 16) w := by go_simp
theorem sl109 (g : Nat) (w : World) : (Instr.sliceAt 109 (.pointer (some ⟨g, 0, none⟩)) none none none).run Tryz.prog w = .ok (.slice (some ⟨g, 0, none⟩) 896 896) w := by go_simp
end Go.Proofs.YtdbgccgjdgomkaaGreatDoor
