/- texts put together: NStp -/
import Derived.Test.YthnojedlndblbaaGreatDoorNGn
namespace Go.Proofs.YthnojedlndblbaaGreatDoor
open Go Go.RowKit

section
variable {P : Program} {F : Exit → Act → World → Prop} {Inv : World → Prop} {s : St}
/-- A block is made in a drawn region that reads other blocks besides. -/
theorem TookS.new1Y (i n1 : Nat) (js : List Nat) (ex : Mem) (L : List Nat) (hex : ∀ q ∈ ex, q.1 ∉ L) (hn1 : ∀ w, Inv w → n1 ≤ w.heap.size) (h : ∀ g, n1 ≤ g → Goes P F Inv (newSt P i g s)) (ha : anyM s = sub js s.mem ++ ex := by kernel_rfl) (h0 : ∀ g, (newA P i g s).map (fun st => sub js st.mem ++ ex) = some (anyM s) := by intro g; kernel_rfl) (hw : anyWant i s = true := by kernel_rfl) (hL : s.mem.ids = L := by kernel_rfl) : TookS P F Inv i s := by
  subst hL
  intro ops m0 n l k ht w h1 h2 h3 h4
  have hG := h w.heap.size (hn1 w h3.now)
  have hk := h0 w.heap.size
  unfold newSt at hG
  cases hq : newA P i w.heap.size s with
  | none => rw [hq] at hk; cases hk
  | some st =>
    rw [hq] at hG hk
    simp only [Option.getD_some] at hG
    simp only [Option.map_some, Option.some.injEq] at hk
    unfold newA at hq
    unfold anyWant at hw
    unfold anyM at hk ha
    rw [ht] at hw hk ha
    simp only at hw hk ha
    cases ho : ops[i]? with
    | none => rw [ho] at hw; simp at hw
    | some o =>
      have hoo : anyOp i s = some o := by unfold anyOp; rw [ht]; exact ho
      rw [ho] at hw
      simp only at hw
      rw [hoo] at hq
      simp only at hq
      unfold wpOp
      rw [ho]
      simp only [hw, if_true]
      unfold Oper.wp
      rw [evalL_eq]
      split at hq
      · rename_i v m d hs
        cases hq
        obtain ⟨w', D⟩ := srun_did P _ _ _ _ _ _ _ w hs (by simp) h1 h2 (by simp)
        have h9 := hG w'
        unfold putA at h9 hk
        rw [ht] at h9 hk
        simp only [ho] at h9 hk
        rw [D.run, Oper.upon_value, putL_eq]
        have hm' : Holds m0 w' := by
          rw [← hk]
          refine (sub_holds D.holds).cat (holds_in fun q hq => ?_)
          have hh : w.heap[q.1]? = some q.2 := in_holds h4 q (by rw [ha]; exact List.mem_append_right _ hq)
          exact (D.ch.block q.1 (lt_of_get hh) (hex q hq)).trans hh
        exact .inl ⟨hm', h9 D.holds D.nd (h3.ch D.ch D.new) hm'⟩
      · cases hq
/-- An operation over the known blocks, other blocks are read besides. -/
theorem TookS.runY (i j : Nat) (js : List Nat) (ex : Mem) (L : List Nat) (hex : ∀ q ∈ ex, q.1 ∉ L) (h : Goes P F Inv (oneSt P i j s)) (ha : anyM s = sub js s.mem ++ ex := by kernel_rfl) (hS : anyM s = sub js (oneSt P i j s).mem ++ ex := by kernel_rfl) (hw : anyWant i s = true := by kernel_rfl) (hN : ((oneA P i j s).map fun q => q.2.map (·.1)) = (oneA P i j s).map fun q => q.2.map (·.2) := by kernel_rfl) (hk : (oneA P i j s).isSome = true := by kernel_rfl) (hL : s.mem.ids = L := by kernel_rfl) : TookS P F Inv i s := by
  subst hL
  intro ops m0 n l k ht w h1 h2 h3 h40
  unfold oneSt at h hS
  cases hq : Go.Proofs.YthnojedlndblbaaGreatDoor.oneA P i j s with
  | none => rw [hq] at hk; cases hk
  | some q =>
    rw [hq] at h hN hS
    simp only [Option.map_some, Option.some.injEq] at h hN hS
    obtain ⟨st, on⟩ := q
    unfold Go.Proofs.YthnojedlndblbaaGreatDoor.oneA at hq
    unfold anyWant at hw
    unfold anyM at hS ha
    rw [ht] at hw hS ha
    simp only at hw hS ha
    cases ho : ops[i]? with
    | none => rw [ho] at hw; simp at hw
    | some o =>
      have hoo : anyOp i s = some o := by unfold anyOp; rw [ht]; exact ho
      rw [ho] at hw
      simp only at hw
      rw [hoo] at hq
      simp only at hq
      unfold wpOp
      rw [ho]
      simp only [hw, if_true]
      unfold Oper.wp
      rw [evalL_eq]
      have key : ∀ w', Ch s.mem.ids w w' → Holds ex w' := fun w' hc => holds_in fun q hq => by
        have hh : w.heap[q.1]? = some q.2 := in_holds h40 q (by rw [ha]; exact List.mem_append_right _ hq)
        exact (hc.block q.1 (lt_of_get hh) (hex q hq)).trans hh
      split at hq
      · rename_i v m on' d hs
        cases hq
        obtain ⟨w', D⟩ := srun_did P _ _ _ _ _ _ _ w hs (all_of_map hN) h1 h2 (by simp)
        have h9 := h w'
        unfold putA at h9 hS
        rw [ht] at h9 hS
        simp only [ho] at h9 hS
        rw [D.run, Oper.upon_value, putL_eq]
        have hm' : Holds m0 w' := by rw [hS]; exact (sub_holds D.holds).cat (key w' D.ch)
        exact .inl ⟨hm', h9 D.holds D.nd (h3.ch D.ch D.new) hm'⟩
      · rename_i m on' d hs
        cases hq
        obtain ⟨w', D⟩ := srun_did P _ _ _ _ _ _ _ w hs (all_of_map hN) h1 h2 (by simp)
        have h9 := h w'
        unfold putA at h9 hS
        rw [ht] at h9 hS
        simp only [ho] at h9 hS
        rw [D.run, Oper.upon_skip, putL_eq]
        have hm' : Holds m0 w' := by rw [hS]; exact (sub_holds D.holds).cat (key w' D.ch)
        exact .inl ⟨hm', h9 D.holds D.nd (h3.ch D.ch D.new) hm'⟩
      · cases hq
end
section
variable {P : Program} {F : Exit → Act → World → Prop} {s : St} {n0 g : Nat} {day : Int} {fv lv tv lv1 tv1 : Value} {ls1 : List (Int × Int)} {ts1 : List (List UInt8 × Int)} {w : World}
end
def stKof (b : Option Code) : List TI := match b with | some (.seq _ (.seq _ (.seq _ (.seq _ (.seq _ (.seq _ (.seq _ k))))))) => [.code k] | _ => []
noncomputable def stK : List TI := (rnS Tryz.prog 47 [] [] ⟨stKof Tryz.f17.body, [], []⟩).st.todo
end Go.Proofs.YthnojedlndblbaaGreatDoor
