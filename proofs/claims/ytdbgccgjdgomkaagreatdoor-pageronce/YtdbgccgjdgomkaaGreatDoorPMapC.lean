/- A map by numbers, of whatever values: what is looked up, laid and struck out. -/
import Derived.Test.YtdbgccgjdgomkaaGreatDoorJGa
namespace Go.Proofs.YtdbgccgjdgomkaaGreatDoor
open Go Go.RowKit

/-- The entries es are those of the keys ks, each with what f has for it. -/
structure Mv (es : Array MapEntry) (clock : Nat) (ks : List Int) (f : Int → Option Value) : Prop where
  keys : es.toList.map (·.key) = ks.map (Value.int .i64)
  nd : ks.Nodup
  born : ∀ x ∈ es.toList, x.born < clock
  bnd : (es.toList.map (·.born)).Nodup
  vals : ∀ (i : Nat) (x : MapEntry) (k : Int), es.toList[i]? = some x → ks[i]? = some k → f k = some x.val
  out : ∀ k, k ∉ ks → f k = none
theorem Mv.empty : Mv #[] 0 [] (fun _ => none) := ⟨rfl, List.nodup_nil, by simp, by simp, by simp, fun _ _ => rfl⟩
theorem Mv.len {es : Array MapEntry} {clock : Nat} {ks : List Int} {f : Int → Option Value} (h : Mv es clock ks f) : es.toList.length = ks.length := by
  have := congrArg List.length h.keys
  simpa using this
theorem fn_in : ∀ (l : List MapEntry) (ks : List Int) (j i : Nat) (k : Int) (x : MapEntry), l.map (·.key) = ks.map (Value.int .i64) → ks.Nodup → ks[i]? = some k → l[i]? = some x → Instr.findNow (.int .i64) (.int .i64 k) l j = some (some (j + i, x.val))
  | [], _, _, _, _, _, _, _, _, h => by simp at h
  | y :: r, [], _, _, _, _, h, _, _, _ => by simp at h
  | y :: r, z :: zs, j, 0, k, x, h, hn, hk, hx => by
    simp only [List.map_cons, List.cons.injEq] at h
    simp at hk hx
    subst hk; subst hx
    simp [Instr.findNow, Instr.sameNow, h.1]
  | y :: r, z :: zs, j, i + 1, k, x, h, hn, hk, hx => by
    simp only [List.map_cons, List.cons.injEq] at h
    simp only [List.getElem?_cons_succ] at hk hx
    have ih := fn_in r zs (j + 1) i k x h.2 (List.nodup_cons.1 hn).2 hk hx
    have hne : (k == z) = false := by
      rw [beq_eq_false_iff_ne]
      intro e
      subst e
      exact (List.nodup_cons.1 hn).1 (List.mem_of_getElem? hk)
    simp only [Instr.findNow, Instr.sameNow, h.1, if_true, hne, ih]
    congr 3; omega
theorem fn_out : ∀ (l : List MapEntry) (ks : List Int) (j : Nat) (k : Int), l.map (·.key) = ks.map (Value.int .i64) → k ∉ ks → Instr.findNow (.int .i64) (.int .i64 k) l j = some none
  | [], _, _, _, _, _ => rfl
  | y :: r, [], _, _, h, _ => by simp at h
  | y :: r, z :: zs, j, k, h, hk => by
    simp only [List.map_cons, List.cons.injEq] at h
    have ih := fn_out r zs (j + 1) k h.2 (fun hm => hk (List.mem_cons_of_mem _ hm))
    have hne : (k == z) = false := by rw [beq_eq_false_iff_ne]; intro e; exact hk (by simp [e])
    simp only [Instr.findNow, Instr.sameNow, h.1, if_true, hne, ih]
theorem nd_inj {ks : List Int} (h : ks.Nodup) {i j : Nat} {k : Int} (hi : ks[i]? = some k) (hj : ks[j]? = some k) : i = j := by
  obtain ⟨hil, hie⟩ := List.getElem?_eq_some_iff.1 hi
  obtain ⟨hjl, hje⟩ := List.getElem?_eq_some_iff.1 hj
  have hp := List.pairwise_iff_getElem.1 h
  rcases Nat.lt_trichotomy i j with hlt | heq | hgt
  · exact absurd (hie.trans hje.symm) (hp i j hil hjl hlt)
  · exact heq
  · exact absurd (hje.trans hie.symm) (hp j i hjl hil hgt)
theorem map_erase {α β : Type} (f : α → β) : ∀ (l : List α) (i : Nat), (l.eraseIdx i).map f = (l.map f).eraseIdx i
  | [], _ => by simp
  | a :: r, 0 => by simp
  | a :: r, i + 1 => by simp [map_erase f r i]
/-- Another value at one key. -/
def upd (f : Int → Option Value) (k : Int) (v : Option Value) : Int → Option Value := fun x => if x = k then v else f x
theorem upd_same (f : Int → Option Value) (k : Int) (v : Option Value) : upd f k v k = v := by simp [upd]
theorem upd_ne (f : Int → Option Value) {k x : Int} (v : Option Value) (h : x ≠ k) : upd f k v x = f x := by simp [upd, h]
/-- The map in block m. -/
def Mk (w : World) (m : Nat) (ks : List Int) (f : Int → Option Value) : Prop := ∃ es clock, w.heap[m]? = some (.map es clock) ∧ Mv es clock ks f
theorem Mk.lt {w : World} {m : Nat} {ks : List Int} {f : Int → Option Value} (h : Mk w m ks f) : m < w.heap.size := by
  obtain ⟨es, cl, hm, _⟩ := h; exact heap_lt hm
theorem Mk.fr {X : List Nat} {w a : World} {m : Nat} {ks : List Int} {f : Int → Option Value} (h : Mk w m ks f) (hF : Fr X w a) (hX : m ∉ X) : Mk a m ks f := by
  obtain ⟨es, cl, hm, r⟩ := h; exact ⟨es, cl, hF.at hm hX, r⟩
theorem Mk.below {B : Nat} {w a : World} {m : Nat} {ks : List Int} {f : Int → Option Value} (h : Mk w m ks f) (hF : Below B w a) (hX : m < B) : Mk a m ks f := by
  obtain ⟨es, cl, hm, r⟩ := h; exact ⟨es, cl, below_at hF hm hX, r⟩
theorem Mk.look {w : World} {m : Nat} {ks : List Int} {f : Int → Option Value} (h : Mk w m ks f) {T E : TypeId} (hu : Tryz.prog.underlying T = some (.map 3 E)) {z : Value} (hz : ∀ w, (zeroValue E).run Tryz.prog w = .ok z w) (k : Int) :
    (Instr.lookup T (.map (some m)) (.int .i64 k) true).run Tryz.prog w = .ok (.tuple #[(f k).getD z, .bool (f k).isSome]) w := by
  obtain ⟨es, cl, hm, hv⟩ := h
  have hn : Instr.findKey 3 (.int .i64 k) es.toList = (do
      match Instr.findNow (← underlying 3) (.int .i64 k) es.toList 0 with
      | some r => pure r
      | none => Instr.findAsking 3 (.int .i64 k) es.toList) := rfl
  by_cases hk : k ∈ ks
  · obtain ⟨i, hi⟩ := List.getElem?_of_mem hk
    have hil : i < es.toList.length := by rw [hv.len]; exact (List.getElem?_eq_some_iff.1 hi).1
    have hx : es.toList[i]? = some es.toList[i] := List.getElem?_eq_getElem hil
    have hf := fn_in es.toList ks 0 i k _ hv.keys hv.nd hi hx
    rw [hv.vals i _ k hx hi]
    simp only [Instr.lookup, Sem.run_bind, run_underlying hu, Result.andThen_ok, MapKept.run_getObj_map hm, Sem.run_pure, check_int, hn, run_underlying Tryz.underlying3, hf]
    rfl
  · have hf := fn_out es.toList ks 0 k hv.keys hk
    rw [hv.out k hk]
    simp only [Instr.lookup, Sem.run_bind, run_underlying hu, Result.andThen_ok, MapKept.run_getObj_map hm, Sem.run_pure, check_int, hn, run_underlying Tryz.underlying3, hf, hz]
    rfl
theorem look_nil {T E : TypeId} (hu : Tryz.prog.underlying T = some (.map 3 E)) {z : Value} (hz : ∀ w, (zeroValue E).run Tryz.prog w = .ok z w) (k : Int) (w : World) :
    (Instr.lookup T (.map none) (.int .i64 k) true).run Tryz.prog w = .ok (.tuple #[z, .bool false]) w := by
  have hn : Instr.findKey 3 (.int .i64 k) [] = (do
      match Instr.findNow (← underlying 3) (.int .i64 k) [] 0 with
      | some r => pure r
      | none => Instr.findAsking 3 (.int .i64 k) []) := rfl
  simp only [Instr.lookup, Sem.run_bind, run_underlying hu, Result.andThen_ok, Sem.run_pure, check_int, hn, run_underlying Tryz.underlying3, Instr.findNow, hz]
  rfl
/-- The world with another map in block m. -/
def remap (w : World) (m : Nat) (es : Array MapEntry) (cl : Nat) : World := { w with heap := w.heap.setIfInBounds m (.map es cl) }
theorem Fr.remap (w : World) (m : Nat) (es : Array MapEntry) (cl : Nat) : Fr [m] w (remap w m es cl) :=
  ⟨rfl, rfl, rfl, by simp [Go.Proofs.YtdbgccgjdgomkaaGreatDoor.remap], fun k _ hk => by
    have : m ≠ k := fun e => hk (by simp [e])
    simp [Go.Proofs.YtdbgccgjdgomkaaGreatDoor.remap, this]⟩
theorem remap_at {w : World} {m : Nat} {o : Obj} (h : w.heap[m]? = some o) (es : Array MapEntry) (cl : Nat) : (remap w m es cl).heap[m]? = some (.map es cl) := by
  have := heap_lt h
  simp [remap, this]
/-- The keys behind a store, behind a delete. -/
def kput (ks : List Int) (k : Int) : List Int := if k ∈ ks then ks else ks ++ [k]
theorem mem_kput (ks : List Int) (k x : Int) : x ∈ kput ks k ↔ x = k ∨ x ∈ ks := by
  unfold kput
  split
  · constructor
    · exact .inr
    · rintro (rfl | h)
      · assumption
      · exact h
  · simp [or_comm]
theorem kput_nodup {ks : List Int} (h : ks.Nodup) (k : Int) : (kput ks k).Nodup := by
  unfold kput
  split
  · exact h
  · exact List.nodup_append.2 ⟨h, by simp, fun a ha b hb => by simp at hb; subst hb; exact fun e => by subst e; contradiction⟩
theorem Mk.put {w : World} {m : Nat} {ks : List Int} {f : Int → Option Value} (h : Mk w m ks f) {T E : TypeId} (hu : Tryz.prog.underlying T = some (.map 3 E)) (k : Int) (v : Value) :
    ∃ w', (Instr.mapUpdate T (.map (some m)) (.int .i64 k) v).run Tryz.prog w = .ok () w' ∧ Mk w' m (kput ks k) (upd f k (some v)) ∧ Fr [m] w w' := by
  obtain ⟨es, cl, hm, hv⟩ := h
  have hn : Instr.findKey 3 (.int .i64 k) es.toList = (do
      match Instr.findNow (← underlying 3) (.int .i64 k) es.toList 0 with
      | some r => pure r
      | none => Instr.findAsking 3 (.int .i64 k) es.toList) := rfl
  by_cases hk : k ∈ ks
  · obtain ⟨i, hi⟩ := List.getElem?_of_mem hk
    have hil : i < es.toList.length := by rw [hv.len]; exact (List.getElem?_eq_some_iff.1 hi).1
    have hx : es.toList[i]? = some es.toList[i] := List.getElem?_eq_getElem hil
    have hf := fn_in es.toList ks 0 i k _ hv.keys hv.nd hi hx
    rw [Nat.zero_add] at hf
    have hkey : (es.toList[i]).key = .int .i64 k := by
      have h1 : (es.toList.map (·.key))[i]? = some (.int .i64 k) := by rw [hv.keys, List.getElem?_map, hi]; rfl
      rw [List.getElem?_map, hx] at h1
      exact Option.some.inj h1
    have he : ((es[i]?).map (·.key)).getD (.int .i64 k) = .int .i64 k := by
      rw [← Array.getElem?_toList, hx]; exact hkey
    refine ⟨remap w m (es.modify i fun e => { e with key := .int .i64 k, val := v }) cl, ?_, ⟨_, _, remap_at hm _ _, ?_⟩, Fr.remap w m _ _⟩
    · simp only [Instr.mapUpdate, Sem.run_bind, run_underlying hu, Result.andThen_ok, MapKept.run_getObj_map hm, Sem.run_pure, check_int, hn, run_underlying Tryz.underlying3, hf, he, stays_int, MapKept.run_setObj_map _ hm]
      rfl
    · have hmod : (es.modify i fun e => { e with key := .int .i64 k, val := v }).toList = es.toList.modify i fun e => { e with key := .int .i64 k, val := v } := by simp
      have hmap : ∀ {β : Type} (g : MapEntry → β), g { es.toList[i] with key := .int .i64 k, val := v } = g es.toList[i] → (es.toList.modify i fun e => { e with key := .int .i64 k, val := v }).map g = es.toList.map g := fun g hg => by
        apply List.ext_getElem?
        intro j
        rw [List.getElem?_map, List.getElem?_map, List.getElem?_modify]
        by_cases e : i = j
        · subst e
          rw [hx]
          show Option.map g (some _) = _
          simp only [if_true, Option.map_some]
          exact congrArg some hg
        · simp [e]
      rw [kput, if_pos hk]
      refine ⟨?_, hv.nd, ?_, ?_, ?_, ?_⟩
      · rw [hmod, hmap (·.key) hkey.symm]; exact hv.keys
      · intro x hxm
        rw [hmod] at hxm
        obtain ⟨j, hj⟩ := List.getElem?_of_mem hxm
        rw [List.getElem?_modify] at hj
        obtain ⟨y, hy, rfl⟩ := Option.map_eq_some_iff.1 hj
        have := hv.born y (List.mem_of_getElem? hy)
        split <;> exact this
      · rw [hmod, hmap (·.born) rfl]; exact hv.bnd
      · intro j x k' hj hk'
        rw [hmod, List.getElem?_modify] at hj
        obtain ⟨y, hy, rfl⟩ := Option.map_eq_some_iff.1 hj
        by_cases e : i = j
        · subst e
          rw [hi] at hk'; cases hk'
          rw [upd_same, if_pos rfl]
        · rw [if_neg e, upd_ne]
          · exact hv.vals j y k' hy hk'
          · intro e2
            subst e2
            exact e (nd_inj hv.nd hi hk')
      · intro x hx'
        rw [upd_ne _ _ (fun e => hx' (by rw [e]; exact hk))]
        exact hv.out x hx'
  · have hf := fn_out es.toList ks 0 k hv.keys hk
    refine ⟨remap w m (es.push { key := .int .i64 k, val := v, born := cl }) (cl + 1), ?_, ⟨_, _, remap_at hm _ _, ?_⟩, Fr.remap w m _ _⟩
    · simp only [Instr.mapUpdate, Sem.run_bind, run_underlying hu, Result.andThen_ok, MapKept.run_getObj_map hm, Sem.run_pure, check_int, hn, run_underlying Tryz.underlying3, hf, MapKept.run_setObj_map _ hm]
      rfl
    · rw [kput, if_neg hk]
      refine ⟨?_, ?_, ?_, ?_, ?_, ?_⟩
      · rw [Array.toList_push, List.map_append, hv.keys]; simp
      · have := kput_nodup hv.nd k; rwa [kput, if_neg hk] at this
      · intro x hx
        rw [Array.toList_push] at hx
        rcases List.mem_append.1 hx with h | h
        · have := hv.born x h; omega
        · rw [List.mem_singleton.1 h]; simp
      · rw [Array.toList_push, List.map_append]
        refine List.nodup_append.2 ⟨hv.bnd, by simp, fun a ha b hb e => ?_⟩
        simp at hb
        subst hb; subst e
        obtain ⟨x, hx, hxe⟩ := List.mem_map.1 ha
        have := hv.born x hx
        omega
      · intro j x k' hj hk'
        rw [Array.toList_push] at hj
        by_cases hjl : j < es.toList.length
        · rw [List.getElem?_append_left hjl] at hj
          rw [List.getElem?_append_left (by rw [← hv.len]; exact hjl)] at hk'
          rw [upd_ne _ _ (fun e => hk (by rw [← e]; exact List.mem_of_getElem? hk'))]
          exact hv.vals j x k' hj hk'
        · rw [List.getElem?_append_right (by omega)] at hj
          rw [List.getElem?_append_right (by rw [← hv.len]; omega), ← hv.len] at hk'
          generalize j - es.toList.length = d at *
          cases d with
          | zero => simp at hj hk'; subst hj; subst hk'; rw [upd_same]
          | succ d => simp at hj
      · intro x hx'
        rw [upd_ne _ _ (fun e => hx' (by rw [e]; simp))]
        exact hv.out x (fun h => hx' (by simp [h]))
theorem Mk.drop {w : World} {m : Nat} {ks : List Int} {f : Int → Option Value} (h : Mk w m ks f) {T E T2 : TypeId} (hu : Tryz.prog.underlying T = some (.map 3 E)) (ty : TypeId) (k : Int) :
    ∃ w' ks', (Builtin.delete_ #[T, T2] ty #[.map (some m), .int .i64 k]).run Tryz.prog w = .ok (.tuple #[]) w' ∧ Mk w' m ks' (upd f k none) ∧ (∀ x, x ∈ ks' ↔ x ≠ k ∧ x ∈ ks) ∧ Fr [m] w w' := by
  obtain ⟨es, cl, hm, hv⟩ := h
  have hn : Instr.findKey 3 (.int .i64 k) es.toList = (do
      match Instr.findNow (← underlying 3) (.int .i64 k) es.toList 0 with
      | some r => pure r
      | none => Instr.findAsking 3 (.int .i64 k) es.toList) := rfl
  by_cases hk : k ∈ ks
  · obtain ⟨i, hi⟩ := List.getElem?_of_mem hk
    have hil : i < es.toList.length := by rw [hv.len]; exact (List.getElem?_eq_some_iff.1 hi).1
    have hx : es.toList[i]? = some es.toList[i] := List.getElem?_eq_getElem hil
    have hf := fn_in es.toList ks 0 i k _ hv.keys hv.nd hi hx
    rw [Nat.zero_add] at hf
    have her : (es.eraseIdxIfInBounds i).toList = es.toList.eraseIdx i := by
      unfold Array.eraseIdxIfInBounds
      rw [dif_pos (by simpa using hil)]
      simp
    have hmem : ∀ x, x ∈ ks.eraseIdx i ↔ x ≠ k ∧ x ∈ ks := fun x => by
      rw [List.mem_eraseIdx_iff_getElem?]
      constructor
      · rintro ⟨j, hj, hx⟩
        refine ⟨fun e => ?_, List.mem_of_getElem? hx⟩
        subst e
        exact hj (nd_inj hv.nd hx hi)
      · rintro ⟨hne, hx⟩
        obtain ⟨j, hj⟩ := List.getElem?_of_mem hx
        refine ⟨j, fun e => ?_, hj⟩
        subst e
        rw [hi] at hj; cases hj
        exact hne rfl
    refine ⟨remap w m (es.eraseIdxIfInBounds i) cl, ks.eraseIdx i, ?_, ⟨_, _, remap_at hm _ _, ?_⟩, hmem, Fr.remap w m _ _⟩
    · simp only [Builtin.delete_, List.getElem?_toArray, List.getElem?_cons_zero, List.getElem?_cons_succ, Sem.run_bind, run_underlying hu, Result.andThen_ok, MapKept.run_getObj_map hm, Sem.run_pure, check_int, hn, run_underlying Tryz.underlying3, hf, MapKept.run_setObj_map _ hm]
      rfl
    · have hsub : ∀ x ∈ es.toList.eraseIdx i, x ∈ es.toList := fun x h => List.mem_of_mem_eraseIdx h
      refine ⟨?_, hv.nd.sublist (List.eraseIdx_sublist _ _), ?_, ?_, ?_, ?_⟩
      · rw [her, map_erase, hv.keys, ← map_erase]
      · intro x hx'
        rw [her] at hx'
        exact hv.born x (hsub x hx')
      · rw [her, map_erase]
        exact hv.bnd.sublist (List.eraseIdx_sublist _ _)
      · intro j x k' hj hk'
        rw [her, List.getElem?_eraseIdx] at hj
        rw [List.getElem?_eraseIdx] at hk'
        have hm' : k' ≠ k := ((hmem k').1 (List.mem_of_getElem? (by rw [List.getElem?_eraseIdx]; exact hk'))).1
        rw [upd_ne _ _ hm']
        split at hj
        · rename_i hlt
          rw [if_pos hlt] at hk'
          exact hv.vals j x k' hj hk'
        · rename_i hlt
          rw [if_neg hlt] at hk'
          exact hv.vals (j + 1) x k' hj hk'
      · intro x hx'
        by_cases e : x = k
        · rw [e, upd_same]
        · rw [upd_ne _ _ e]
          exact hv.out x (fun h => hx' ((hmem x).2 ⟨e, h⟩))
  · have hf := fn_out es.toList ks 0 k hv.keys hk
    refine ⟨remap w m es cl, ks, ?_, ⟨_, _, remap_at hm _ _, ?_⟩, fun x => ⟨fun h => ⟨fun e => hk (by rw [← e]; exact h), h⟩, fun h => h.2⟩, Fr.remap w m _ _⟩
    · simp only [Builtin.delete_, List.getElem?_toArray, List.getElem?_cons_zero, List.getElem?_cons_succ, Sem.run_bind, run_underlying hu, Result.andThen_ok, MapKept.run_getObj_map hm, Sem.run_pure, check_int, hn, run_underlying Tryz.underlying3, hf, MapKept.run_setObj_map _ hm]
      rfl
    · have e : upd f k none = f := by
        funext x
        by_cases h : x = k
        · rw [h, upd_same, hv.out k hk]
        · exact upd_ne _ _ h
      rw [e]
      exact hv
theorem drop_nil {T E T2 : TypeId} (hu : Tryz.prog.underlying T = some (.map 3 E)) (ty : TypeId) (k : Int) (w : World) :
    (Builtin.delete_ #[T, T2] ty #[.map none, .int .i64 k]).run Tryz.prog w = .ok (.tuple #[]) w := by
  simp only [Builtin.delete_, List.getElem?_toArray, List.getElem?_cons_zero, List.getElem?_cons_succ, Sem.run_bind, run_underlying hu, Result.andThen_ok, Sem.run_pure, check_int]
  try rfl
/-- A map that may be nil. -/
def Mo (w : World) (m : Option Nat) (ks : List Int) (f : Int → Option Value) : Prop := match m with
  | none => ks = [] ∧ f = fun _ => none
  | some b => Mk w b ks f
theorem Mo.look {w : World} {m : Option Nat} {ks : List Int} {f : Int → Option Value} (h : Mo w m ks f) {T E : TypeId} (hu : Tryz.prog.underlying T = some (.map 3 E)) {z : Value} (hz : ∀ w, (zeroValue E).run Tryz.prog w = .ok z w) (k : Int) :
    (Instr.lookup T (.map m) (.int .i64 k) true).run Tryz.prog w = .ok (.tuple #[(f k).getD z, .bool (f k).isSome]) w := by
  cases m with
  | none => obtain ⟨_, rfl⟩ := h; exact look_nil hu hz k w
  | some b => exact Mk.look h hu hz k
theorem Mo.fr {X : List Nat} {w a : World} {m : Option Nat} {ks : List Int} {f : Int → Option Value} (h : Mo w m ks f) (hF : Fr X w a) (hX : ∀ b, m = some b → b ∉ X) : Mo a m ks f := by
  cases m with
  | none => exact h
  | some b => exact Mk.fr h hF (hX b rfl)
theorem Mo.below {w a : World} {m : Option Nat} {ks : List Int} {f : Int → Option Value} (h : Mo w m ks f) (hF : Below w.heap.size w a) : Mo a m ks f := by
  cases m with
  | none => exact h
  | some b => exact Mk.below h hF (Mk.lt h)
theorem Mo.nil (w : World) : Mo w none [] (fun _ => none) := ⟨rfl, rfl⟩
theorem Mo.drop {w : World} {m : Option Nat} {ks : List Int} {f : Int → Option Value} (h : Mo w m ks f) {T E T2 : TypeId} (hu : Tryz.prog.underlying T = some (.map 3 E)) (ty : TypeId) (k : Int) :
    ∃ w' ks', (Builtin.delete_ #[T, T2] ty #[.map m, .int .i64 k]).run Tryz.prog w = .ok (.tuple #[]) w' ∧ Mo w' m ks' (upd f k none) ∧ (∀ x, x ∈ ks' ↔ x ≠ k ∧ x ∈ ks) ∧ Fr m.toList w w' := by
  cases m with
  | none =>
    obtain ⟨rfl, rfl⟩ := h
    exact ⟨w, [], drop_nil hu ty k w, ⟨rfl, by funext x; unfold upd; split <;> rfl⟩, by simp, Fr.refl _ _⟩
  | some b => exact Mk.drop h hu ty k
end Go.Proofs.YtdbgccgjdgomkaaGreatDoor
