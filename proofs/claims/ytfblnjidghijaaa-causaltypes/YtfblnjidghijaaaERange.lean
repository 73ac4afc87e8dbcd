/- The engine: a range over a function. -/
import Derived.Test.YtfblnjidghijaaaEIn
import Derived.RangeFuncKeeps
namespace Go.Proofs.Ytfblnjidghijaaa
open Go Go.RowKit

section
variable {P : Program} {F : Exit → Act → World → Prop} {Inv : World → Prop} {s : St} {fn : Func} {R : Ending → World → Prop}
def rgFn (s : St) : Operand :=
  match s.todo with
  | .code (.rangeFunc g _ _ _) :: _ => g
  | _ => .const undef
def rgPs (s : St) : Array Tmp :=
  match s.todo with
  | .code (.rangeFunc _ ps _ _) :: _ => ps
  | _ => #[]
def rgAssign (s : St) : Code :=
  match s.todo with
  | .code (.rangeFunc _ _ a _) :: _ => a
  | _ => .skip
def rgBody (s : St) : Code :=
  match s.todo with
  | .code (.rangeFunc _ _ _ b) :: _ => b
  | _ => .skip
def atRange (s : St) : Bool :=
  match s.todo with
  | .code (.rangeFunc _ _ _ _) :: _ => true
  | _ => false
/-- A loop's record. -/
def recOf (fid : FuncId) (D : Nat) (s : St) (st : LoopState) (pe : Option Code) : Loop := { state := st, pending := pe, fn := fid, tmps := s.tmps.toArray, params := rgPs s, assign := rgAssign s, body := rgBody s, defers := D }
theorem Goes.range (gf : FuncId) (lb : Array Value)
    (h : ∀ fid w, Holds s.mem w → s.mem.ids.Nodup → Stay s.mem.ids w Inv → ∀ W1, W1.heap[w.heap.size + 1]? = some (.loop (recOf fid w.heap.size s .ready none)) → W1.heap[w.heap.size]? = some (.deferred (some [])) → Below w.heap.size w W1 →
      Calls P gf (#[.func (.yield (w.heap.size + 1)) #[] #[]] ++ lb) W1 (rangePost Fence.wide 0 P (w.heap.size + 1) (QK P F s.todo.tail) ⟨s.tmps.toArray, [{ target := .collected w.heap.size, args := #[] }]⟩))
    (ha : atRange s = true := by kernel_rfl) (hg : evalL s.tmps (rgFn s) = .func (.func gf) #[] lb := by kernel_rfl) (hf : okf P gf = true := by kernel_rfl) : Goes P F Inv s := by
  intro w hm hn hI
  have h1 := h
  unfold atRange at ha
  split at ha
  · rename_i g ps asg body k ht
    have e1 : rgPs s = ps := by unfold rgPs; rw [ht]
    have e2 : rgAssign s = asg := by unfold rgAssign; rw [ht]
    have e3 : rgBody s = body := by unfold rgBody; rw [ht]
    have e4 : rgFn s = g := by unfold rgFn; rw [ht]
    rw [ht]
    rw [e4] at hg
    refine (wpIn_wide (n := 0)).1 (wpIn_rangeFunc fun fid hfid => ?_)
    have hL1 : ((w.alloc (.deferred (some []))).alloc (.loop (recOf fid w.heap.size s .ready none))).heap[w.heap.size + 1]? = some (.loop (recOf fid w.heap.size s .ready none)) := by
      have := World.alloc_heap_new (w.alloc (.deferred (some []))) (.loop (recOf fid w.heap.size s .ready none)); rwa [World.size_alloc] at this
    have hK1 : ((w.alloc (.deferred (some []))).alloc (.loop (recOf fid w.heap.size s .ready none))).heap[w.heap.size]? = some (.deferred (some [])) := (Below.heap_alloc _ _ _ (by simp)).trans (World.alloc_heap_new w _)
    have hB : Below w.heap.size w ((w.alloc (.deferred (some []))).alloc (.loop (recOf fid w.heap.size s .ready none))) := ((Below.refl _ w).alloc (Nat.le_refl _) _).alloc (by simp) _
    have hE : (Instr.enterLoop fid s.tmps.toArray (rgPs s) (rgAssign s) (rgBody s) none).run P w = .ok (w.heap.size + 1, [{ target := .collected w.heap.size, args := #[] }]) ((w.alloc (.deferred (some []))).alloc (.loop (recOf fid w.heap.size s .ready none))) := run_enterLoop_outer _ _ _ _ _
    generalize ((w.alloc (.deferred (some []))).alloc (.loop (recOf fid w.heap.size s .ready none))) = W1 at hL1 hK1 hB hE
    have h2 := h1 fid w hm hn hI W1 hL1 hK1 hB
    rw [ht] at h2
    refine ⟨w.heap.size + 1, [{ target := .collected w.heap.size, args := #[] }], W1, { target := .fn (.func gf) lb, args := #[.func (.yield (w.heap.size + 1)) #[] #[]] }, W1, gf, #[.func (.yield (w.heap.size + 1)) #[] #[]] ++ lb, W1, ?_, ?_, fun _ _ => trivial, ?_, fun h => (by cases h), ?_⟩
    · rw [← e1, ← e2, ← e3]
      exact hE
    · have e : resolve (evalL s.tmps) (rangeCall g (w.heap.size + 1)) 0 = pure { target := .fn (.func gf) lb, args := #[.func (.yield (w.heap.size + 1)) #[] #[]] } := by
        unfold resolve rangeCall
        simp only [hg, Deferred.ofValue]
        simp [evalL]
      unfold St.act
      rw [evalL_eq, e]
      rfl
    · simp only [invoke]
      exact okf_run hf _ _
    · exact (callsIn_wide (n := 0)).2 h2
  · cases ha
/-- A round, out of its body. -/
theorem round_of {l D : Nat} {fid : FuncId} {args : Array Value} {W : World} {T : List Value} (hl : W.heap[l]? = some (.loop (recOf fid D s .ready none))) (hsz : args.size = (rgPs s).size) (hT : ((rgPs s).zip args).foldl (fun tmps (t, a) => tmps.setIfInBounds t a) s.tmps.toArray = T.toArray)
    (h : (rgAssign s).wpIn (FW (some l)) 0 P (Exit.then (fun a₁ w₁ => ∃ w₂, (Instr.beginRound l).run P w₁ = .ok () w₂ ∧ (rgBody s).wpIn (FW (some l)) 0 P (roundPost P l R) a₁ w₂) (fun _ _ _ => False)) ⟨T.toArray, []⟩ W) : YieldAt Fence.wide 0 P l args W R := by
  have hy := run_yield (P := P) hl hsz
  refine ⟨_, _, _, _, hy, roundIn_of_wpIn trivial ?_⟩
  show (rgAssign s).wpIn _ _ _ _ ⟨((rgPs s).zip args).foldl (fun tmps (t, a) => tmps.setIfInBounds t a) s.tmps.toArray, []⟩ W
  rw [hT]
  exact h
/-- The regions of a code, in order. -/
def regs : Code → List (Array Oper)
  | .region _ ops _ => [ops]
  | .seq a b => regs a ++ regs b
  | .block _ c => regs c
  | .loop c => regs c
  | .cond _ a b => regs a ++ regs b
  | .rangeFunc _ _ a b => regs a ++ regs b
  | _ => []
def regAt (c : Code) (i : Nat) : Array Oper := (regs c).getD i #[]
/-- The function is left, its mark among the deferred calls. -/
theorem leave_mark {T : List Value} {D : Nat} {w : World} (js : List Nat) (v : Value) (m : Mem) (hD : w.heap[D]? = some (.deferred (some []))) (hm : Holds m (w.putObj D (.deferred none))) (hn : m.ids.Nodup) (hR : R (.returned v) (w.putObj D (.deferred none)))
    (hv : (ans P fn js ⟨[], T, m⟩).map (·.val) = some v := by kernel_rfl) (hd : (ans P fn js ⟨[], T, m⟩).map (·.d) = some false := by kernel_rfl) (hN : (ans P fn js ⟨[], T, m⟩).map (fun r => r.ob.map (·.1)) = (ans P fn js ⟨[], T, m⟩).map (fun r => r.ob.map (·.2)) := by kernel_rfl) : LeavesInM Fence.wide 0 P fn T.toArray R [{ target := .collected D, args := #[] }] .returning w := by
  refine ⟨by simp, .inl ⟨D, _, rfl, run_takeDeferred hD, ?_⟩⟩
  cases hr : ans P fn js ⟨[], T, m⟩ with
  | none => rw [hr] at hv; cases hv
  | some r =>
    rw [hr] at hv hd hN
    simp only [Option.map_some, Option.some.injEq] at hv hd hN
    obtain ⟨w', Dd⟩ := srun_did P _ _ _ _ _ _ _ _ hr (all_of_map hN) hm hn (by simp)
    have hw' := (Dd.still hd).2.1
    subst hw'
    exact ⟨v, hv ▸ Dd.run, hR⟩
theorem Goes.retM (js : List Nat) (v : Value) (h : ∀ w, Holds s.mem w → Stay s.mem.ids w Inv → R (.returned v) w) (hE : atEnd s = true := by kernel_rfl) (hv : (ans P fn js s).map (·.val) = some v := by kernel_rfl) (hd : (ans P fn js s).map (·.d) = some false := by kernel_rfl) (hN : (ans P fn js s).map (fun r => r.ob.map (·.1)) = (ans P fn js s).map (fun r => r.ob.map (·.2)) := by kernel_rfl) : Goes P (bpM P fn R) Inv s := by
  intro w hm hn hI
  cases hr : ans P fn js s with
  | none => rw [hr] at hv; cases hv
  | some r =>
    rw [hr] at hv hd hN
    simp only [Option.map_some, Option.some.injEq] at hv hd hN
    obtain ⟨w', D⟩ := srun_did P _ _ _ _ _ _ _ w hr (all_of_map hN) hm hn (by simp)
    have hw' := (D.still hd).2.1
    subst hw'
    have hb : LeavesInM Fence.wide 0 P fn s.act.tmps R [] .returning w' := ⟨v, hv ▸ D.run, h w' hm hI⟩
    unfold atEnd at hE
    split at hE
    · rename_i ht; rw [ht]; exact hb
    · rename_i ht; rw [ht]; exact wp_ret (qk_ret hb)
    · cases hE
theorem Ch.put (W : World) (l : Nat) (o : Obj) : Ch [l] W (W.putObj l o) := ⟨rfl, rfl, rfl, by simp, fun i _ hx => World.putObj_heap_other (fun e => hx (by simp [e]))⟩
/-- A state with a name, and what is known of it. -/
theorem Goes.named (T : List Value) (m : Mem) (ps : Array Tmp) (A B : Code) (k : List TI) (h : ∀ s0 : St, s0.tmps = T → s0.mem = m → rgPs s0 = ps → rgAssign s0 = A → rgBody s0 = B → s0.todo.tail = k → evalL s0.tmps (rgFn s0) = evalL s.tmps (rgFn s) → atRange s0 = atRange s → Goes P F Inv s0)
    (e1 : s.tmps = T := by kernel_rfl) (e2 : s.mem = m := by kernel_rfl) (e3 : rgPs s = ps := by kernel_rfl) (e4 : rgAssign s = A := by kernel_rfl) (e5 : rgBody s = B := by kernel_rfl) (e6 : s.todo.tail = k := by kernel_rfl) : Goes P F Inv s := h s e1 e2 e3 e4 e5 e6 rfl rfl
end
end Go.Proofs.Ytfblnjidghijaaa
