/- States, changes and pagers are built; pages of noughts. -/
import Derived.Test.YtdbgccgjdgomkaaGreatDoorPKeysC
namespace Go.Proofs.YtdbgccgjdgomkaaGreatDoor
open Go Go.RowKit

theorem fill_one (pl : Nat → Option (Nat × Nat)) (z : Array Value) (i off n : Nat) (v : Value) (cs : List Value) (rest : List (Nat × Value)) (hv : v.cells = cs.toArray) (hn : cs.length = n) (hp : pl i = some (off, n)) (hb : off + n ≤ z.size) :
    Instr.fill pl z ((i, v) :: rest) = Instr.fill pl (relaid z off cs) rest := by
  rw [Instr.fill]
  simp only [hp, hv, List.size_toArray, hn]
  rw [if_neg (by simp; omega)]
  congr 1
  apply Array.ext_getElem?
  intro j
  have h := fold_get cs 0 off z j (by omega)
  rw [← Array.foldl_toList, Array.toList_zipIdx]
  simp only at h ⊢
  rw [h]
  by_cases h1 : j < off
  · rw [relaid_out z off cs (by omega) j (.inl h1)]
    simp; omega
  · by_cases h2 : j < off + cs.length
    · obtain ⟨d, rfl⟩ : ∃ d, j = off + d := ⟨j - off, by omega⟩
      rw [relaid_in z off cs (by omega) d (by omega)]
      simp; omega
    · rw [relaid_out z off cs (by omega) j (.inr (by omega))]
      simp; omega
theorem fill_end (pl : Nat → Option (Nat × Nat)) (z : Array Value) : Instr.fill pl z [] = some z := rfl
theorem build_struct {T : TypeId} {fs : Array Field} {z : Array Value} {pl : Array (Nat × Nat)} {parts : Array (Nat × Value)} {c : Array Value} (hu : Tryz.prog.underlying T = some (.struct fs)) (hz : ∀ w, (zeroValue T).run Tryz.prog w = .ok (.agg z) w)
    (hp : ∀ w, (fs.mapM fun (f : Field) => do pure (f.offset, ← Go.sizeOf f.type)).run Tryz.prog w = .ok pl w) (hf : Instr.fill (pl[·]?) z parts.toList = some c) (w : World) : (Instr.build T parts).run Tryz.prog w = .ok (.agg c) w := by
  unfold Instr.build
  simp only [Sem.run_bind, hz, Result.andThen_ok, run_underlying hu]
  have h := hp w
  simp only [Value.cells]
  rw [h, Result.andThen_ok, hf]
  rfl
theorem size74 : (Tryz.prog.info? 74).map (·.size) = some 1023 := by kernel_rfl
theorem relaid_cons (x y : Value) (l : List Value) : relaid (x :: l).toArray 0 [y] = (y :: l).toArray := by simp [relaid]
theorem relaid_c1 (x a y : Value) (l : List Value) : relaid (x :: a :: l).toArray 1 [y] = (x :: y :: l).toArray := by simp [relaid]
theorem relaid_c2 (x a b y : Value) (l : List Value) : relaid (x :: a :: b :: l).toArray 2 [y] = (x :: a :: y :: l).toArray := by simp [relaid]
theorem useB_none (n : Nat) (h : n ≤ 1023) : useB (List.replicate n false) = useB [] := by
  unfold useB
  rw [List.map_replicate, List.length_replicate, List.map_nil, List.nil_append, List.length_nil]
  show List.replicate n 0 ++ _ = _
  rw [List.replicate_append_replicate]
  congr 1; omega
set_option maxRecDepth 100000 in
theorem pbuild76 (n : Nat) (h : n ≤ 1023) (w : World) : (Instr.build 76 #[(0, .int .i64 n), (1, .int .i64 n), (2, .int .i64 (-1))]).run Tryz.prog w = .ok (St (List.replicate n false) n (-1)) w := by
  refine build_struct (pl := #[(0, 1), (1, 1), (2, 1), (3, 1023)]) (z := (stC [] 0 0).toArray) Tryz.underlying76 zero76p (fun w => by simp [Tryz.sizeOf3, run_size size74]) ?_ w
  have hs : (stC [] 0 0).toArray.size = 1026 := stC_size [] 0 0 (by simp)
  rw [fill_one _ _ 0 0 1 _ [.int .i64 n] _ rfl rfl rfl (by rw [hs]; decide)]
  unfold stC
  rw [relaid_cons, fill_one _ _ 1 1 1 _ [.int .i64 n] _ rfl rfl rfl (by simp), relaid_c1, fill_one _ _ 2 2 1 _ [.int .i64 (-1)] _ rfl rfl rfl (by simp), relaid_c2, fill_end, useB_none n h, List.length_replicate]
theorem pbuild76e (w : World) : (Instr.build 76 #[]).run Tryz.prog w = .ok (St [] 0 0) w :=
  build_struct (pl := #[(0, 1), (1, 1), (2, 1), (3, 1023)]) (z := (stC [] 0 0).toArray) Tryz.underlying76 zero76p (fun w => by simp [Tryz.sizeOf3, run_size size74]) rfl w
theorem pbuild87 (lf rt : Int) (w : World) : (Instr.build 87 #[(1, .int .i64 lf), (2, .int .i64 rt)]).run Tryz.prog w = .ok (Ch false lf rt none none) w := by
  refine build_struct (pl := #[(0, 1), (1, 1), (2, 1), (3, 1), (4, 1)]) (z := (chC false 0 0 none none).toArray) Tryz.underlying87 zero87 (fun w => by simp [Tryz.sizeOf3, Tryz.sizeOf4, Tryz.sizeOf82, Tryz.sizeOf85]) ?_ w
  unfold chC
  rw [fill_one _ _ 1 1 1 _ [.int .i64 lf] _ rfl rfl rfl (by simp), relaid_c1, fill_one _ _ 2 2 1 _ [.int .i64 rt] _ rfl rfl rfl (by simp), relaid_c2, fill_end]
theorem pbuild109 (w : World) : (Instr.build 109 #[]).run Tryz.prog w = .ok (V8 z896) w := by
  unfold Instr.build
  simp only [Sem.run_bind, zero109, Result.andThen_ok, run_underlying under109, Tryz.sizeOf5]
  rfl
theorem size90 : (Tryz.prog.info? 90).map (·.size) = some 1033 := by kernel_rfl
/-- A pager's cells, of a journal or none. -/
def pgZ (x : Value) (l : List Bool) (kl kr : Int) (bg : Bool) (lf rt : Int) (um bm : Option Nat) : List Value := x :: (stC l kl kr ++ (chC bg lf rt um bm ++ [.int .i64 0]))
theorem zero90 (w : World) : (zeroValue 90).run Tryz.prog w = .ok (.agg (pgZ (.pointer none) [] 0 0 false 0 0 none none).toArray) w := (zero_of_info (n := 1033) (by kernel_rfl)).1 w
theorem pgZ_size (x : Value) (l : List Bool) (kl kr : Int) (bg : Bool) (lf rt : Int) (um bm : Option Nat) (h : l.length ≤ 1023) : (pgZ x l kl kr bg lf rt um bm).toArray.size = 1033 := by
  rw [List.size_toArray]; simp only [pgZ, List.length_cons, List.length_append, stC_len l kl kr h]; rfl
set_option maxRecDepth 100000 in
theorem pbuild90 (j : Nat) (l : List Bool) (kl kr lf rt : Int) (h : l.length ≤ 1023) (w : World) : (Instr.build 90 #[(0, .pointer (some ⟨j, 0, none⟩)), (1, St l kl kr), (2, Ch false lf rt none none)]).run Tryz.prog w = .ok (.agg (pgC j l kl kr false lf rt none none 0).toArray) w := by
  refine build_struct (pl := #[(0, 1), (1, 1026), (1027, 5), (1032, 1)]) (z := (pgZ (.pointer none) [] 0 0 false 0 0 none none).toArray) Tryz.underlying90 zero90 (fun w => by simp [Tryz.sizeOf25, Tryz.sizeOf33, run_size size76p, run_size size87]) ?_ w
  have h0 : ([] : List Bool).length ≤ 1023 := by simp
  rw [fill_one _ _ 0 0 1 _ [.pointer (some ⟨j, 0, none⟩)] _ rfl rfl rfl (by rw [pgZ_size _ _ _ _ _ _ _ _ _ h0]; decide)]
  unfold pgZ
  rw [relaid_cons]
  have e0 : (Value.pointer (some ⟨j, 0, none⟩) :: (stC [] 0 0 ++ (chC false 0 0 none none ++ [.int .i64 0]))).toArray.size = 1033 := pgZ_size (.pointer (some ⟨j, 0, none⟩)) [] 0 0 false 0 0 none none h0
  rw [fill_one _ _ 1 1 1026 _ (stC l kl kr) _ rfl (stC_len l kl kr h) rfl (by rw [e0]; decide)]
  have e1 : relaid (Value.pointer (some ⟨j, 0, none⟩) :: (stC [] 0 0 ++ (chC false 0 0 none none ++ [.int .i64 0]))).toArray 1 (stC l kl kr) = (Value.pointer (some ⟨j, 0, none⟩) :: (stC l kl kr ++ (chC false 0 0 none none ++ [.int .i64 0]))).toArray := by
    unfold relaid
    simp only [List.take_succ_cons, List.take_zero, List.cons_append, List.nil_append, stC_len l kl kr h]
    rw [show 1 + 1026 = 1026 + 1 from rfl, List.drop_succ_cons]
    congr 2
  rw [e1]
  have e2 : (Value.pointer (some ⟨j, 0, none⟩) :: (stC l kl kr ++ (chC false 0 0 none none ++ [.int .i64 0]))).toArray.size = 1033 := pgZ_size (.pointer (some ⟨j, 0, none⟩)) l kl kr false 0 0 none none h
  rw [fill_one _ _ 2 1027 5 _ (chC false lf rt none none) _ rfl rfl rfl (by rw [e2]; decide), fill_end]
  congr 1
  unfold relaid pgC
  have e3 : (Value.pointer (some ⟨j, 0, none⟩) :: (stC l kl kr ++ (chC false 0 0 none none ++ [.int .i64 0]))).take 1027 = .pointer (some ⟨j, 0, none⟩) :: stC l kl kr := by
    rw [show 1027 = 1026 + 1 from rfl, List.take_succ_cons, List.take_append_of_le_length (by rw [stC_len l kl kr h]; exact Nat.le_refl _), List.take_of_length_le (by rw [stC_len l kl kr h]; exact Nat.le_refl _)]
  have e4 : (Value.pointer (some ⟨j, 0, none⟩) :: (stC l kl kr ++ (chC false 0 0 none none ++ [.int .i64 0]))).drop (1027 + 5) = [.int .i64 0] := by
    rw [show 1027 + 5 = (1026 + 5) + 1 from rfl, List.drop_succ_cons, List.drop_append, stC_len l kl kr h, List.drop_of_length_le (by rw [stC_len l kl kr h]; omega)]
    rfl
  show (List.take 1027 _ ++ _ ++ List.drop (1027 + 5) _).toArray = _
  rw [e3, e4]
  simp
theorem pbox90 (w : World) (j : Nat) (l : List Bool) (kl kr : Int) (bg : Bool) (lf rt : Int) (um bm : Option Nat) (off : Int) : (Instr.box 90 (.agg (pgC j l kl kr bg lf rt um bm off).toArray)).run Tryz.prog w = .ok (.pointer (some ⟨w.heap.size, 0, none⟩)) (w.alloc (.cells (pgC j l kl kr bg lf rt um bm off).toArray 90)) := box_agg _ w _
end Go.Proofs.YtdbgccgjdgomkaaGreatDoor
