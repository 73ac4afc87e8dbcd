/- the text NParts0 -/
import Derived.Test.YthnojedlndblbabGreatDoorNTimesWC
import Derived.Test.DevTool
namespace Go.Proofs.YthnojedlndblbabGreatDoor
open Go Go.RowKit

/-- Amounts stay within their limits. -/
theorem acq_amt (fs : Fs) (day : Int) (c : Co) : ∀ p f, inM f → ∀ x ∈ (acq fs day c p f).2, inM x.2 := by
  induction c using Co.ind with
  | h op k t kids ih =>
    intro p f hf
    have hbr : ∀ i g, inM g → ∀ x ∈ (brA (acqL fs day kids (p + 1)) i g).2, inM x.2 := by
      intro i g hg
      cases hc : kids[i]? with
      | none => rw [acq_none fs day (p + 1) g hc]; simp [r0]
      | some c => rw [acq_get fs day (p + 1) g hc]; exact ih c (List.mem_of_getElem? hc) _ _ hg
    rw [acq]
    refine acqC_ind (Q := fun r => ∀ x ∈ r.2, inM x.2) (by simp [r0]) (fun _ _ x hx => ?_) (fun _ _ x hx => ?_) (fun i g hg => hbr i g ?_) (fun x hx => ?_)
    · simp only [List.mem_singleton] at hx; subst hx; exact hf
    · simp [wt] at hx
    · rcases hg with rfl | rfl | ⟨n, rfl⟩
      · exact hf
      · exact inM_neg f
      · exact inM_mul f n
    · rcases List.mem_append.1 hx with hx | hx
      · exact hbr 0 f hf x hx
      · exact hbr 1 f hf x hx
section
variable {P : Program} {F : Exit → Act → World → Prop} {Inv : World → Prop} {s : St}
/-- A block is made in a drawn region that reads other blocks besides. -/
theorem TookS.new1Z (i n1 : Nat) (ex : Mem) (hn1 : ∀ w, Inv w → n1 ≤ w.heap.size) (h : ∀ g, n1 ≤ g → Goes P F Inv (newSt P i g s)) (hm : s.mem = [] := by kernel_chk) (h0 : ∀ g, (newA P i g s).map (fun _ => ex) = some (anyM s) := by intro g; kernel_chk) (hw : anyWant i s = true := by kernel_chk) : TookS P F Inv i s := by
  intro ops m0 n l k ht w h1 h2 h3 h4
  have hG := h w.heap.size (hn1 w h3.now)
  have hk := h0 w.heap.size
  unfold newSt at hG
  cases hq : newA P i w.heap.size s with
  | none => rw [hq] at hk; cases hk
  | some st =>
    rw [hq] at hG hk
    simp only [Option.getD_some] at hG
    simp only [Option.map_some, Option.some.injEq] at hk
    unfold newA at hq
    unfold anyWant at hw
    unfold anyM at hk
    rw [ht] at hw hk
    simp only at hw hk
    cases ho : ops[i]? with
    | none => rw [ho] at hw; simp at hw
    | some o =>
      have hoo : anyOp i s = some o := by unfold anyOp; rw [ht]; exact ho
      rw [ho] at hw
      simp only at hw
      rw [hoo] at hq
      simp only at hq
      unfold wpOp
      rw [ho]
      simp only [hw, if_true]
      unfold Oper.wp
      rw [evalL_eq]
      split at hq
      · rename_i v m d hs
        cases hq
        obtain ⟨w', D⟩ := srun_did P _ _ _ _ _ _ _ w hs (by simp) h1 h2 (by simp)
        have h9 := hG w'
        unfold putA at h9
        rw [ht] at h9
        simp only [ho] at h9
        rw [D.run, Oper.upon_value, putL_eq]
        have hm' : Holds m0 w' := holds_in fun q hq => by
          have hh : w.heap[q.1]? = some q.2 := in_holds h4 q hq
          exact (D.ch.block q.1 (lt_of_get hh) (by rw [hm]; simp [Mem.ids])).trans hh
        exact .inl ⟨hm', h9 D.holds D.nd (h3.ch D.ch D.new) hm'⟩
      · cases hq
end
theorem infoTr : (Tryz.prog.info? 33).map (fun i => (i.zero, i.size, i.bytes)) = some (some (.agg #[.int .i64 0, strV [], .int .i64 0]), 3, 32) := by kernel_chk
theorem makeT0 (w : World) (n : Nat) (day : Int) (hn : n ≤ 1000001) : ∃ w1 g, (Instr.makeSlice 28 (.int .i64 0) (.int .i64 ((n : Nat) : Int))).run Tryz.prog w = .ok (.slice (some ⟨g, 0, none⟩) 0 n) w1 ∧ Trs w.heap.size day w1 (.slice (some ⟨g, 0, none⟩) 0 n) [] ∧ Below w.heap.size w w1 ∧ w.heap.size ≤ g := by
  cases hie : Tryz.prog.info? 33 with
  | none => have := infoTr; rw [hie] at this; cases this
  | some i0 =>
    have hi := infoTr
    rw [hie] at hi
    simp only [Option.map_some, Option.some.injEq, Prod.mk.injEq] at hi
    obtain ⟨hz0, hz1, hz2⟩ := hi
    have hr := run_make (P := Tryz.prog) w 28 33 i0 (.agg #[.int .i64 0, strV [], .int .i64 0]) Tryz.underlying28 hie hz0 .i64 .i64 0 n (by omega) (by omega) (by rw [hz2]; omega) (by omega)
    rw [Int.toNat_natCast, hz1] at hr
    refine ⟨_, _, hr, ⟨rfl, .inr ⟨_, n, _, rfl, Nat.le_refl _, heap_alloc_last w _, by simp, by unfold maxLen; omega, by rw [size_madeCells], by simp [trC]⟩⟩, (Below.refl _ _).alloc (Nat.le_refl _) _, Nat.le_refl _⟩
theorem appNilT (b n cap : Nat) (ty : TypeId) (hn : n ≤ cap) (w : World) : (Builtin.append_ #[28, 28] ty #[.slice (some ⟨b, 0, none⟩) n cap, .slice none 0 0]).run Tryz.prog w = .ok (.slice (some ⟨b, 0, none⟩) n cap) w := by
  go_simp
theorem addT0 (b k : Nat) : (⟨b, 0, none⟩ : Addr).add k = ⟨b, k, none⟩ := by unfold Addr.add; split <;> simp_all
theorem Trs.app {base base' b n cap : Nat} {day : Int} {w : World} {v' : Value} {ts us : List (List UInt8 × Int)} {ty : TypeId} (h : Trs base day w (.slice (some ⟨b, 0, none⟩) n cap) ts) (hb : base ≤ w.heap.size) (h' : Trs base' day w v' us) (hl : ts.length + us.length ≤ 1000000) :
    ∃ b2 cap2 w', (Builtin.append_ #[28, 28] ty #[.slice (some ⟨b, 0, none⟩) n cap, v']).run Tryz.prog w = .ok (.slice (some ⟨b2, 0, none⟩) (ts.length + us.length) cap2) w' ∧ Trs base day w' (.slice (some ⟨b2, 0, none⟩) (ts.length + us.length) cap2) (ts ++ us) ∧ w.grownBy w' (some b) := by
  obtain ⟨a0, c0, e0⟩ := own_form h
  cases e0
  rcases h'.2 with ⟨rfl, h0⟩ | ⟨g, cap', cur, rfl, hg0, hg, h1, h2, -, ht⟩
  · have hu := List.eq_nil_of_length_eq_zero h0
    subst hu
    obtain ⟨-, hr⟩ := id h
    have hn : ts.length ≤ cap := by
      rcases hr with ⟨e, -⟩ | ⟨g, cap', cur, e, -, -, h1, -⟩
      · cases e
      · cases e; exact h1
    refine ⟨b, cap, w, appNilT b ts.length cap ty hn w, ?_, ?_⟩
    · simpa using h
    · exact World.grownBy.refl w _
  · have hnews : ∀ j u, (trC day us)[j]? = some u → w.cell? ((⟨g, 0, none⟩ : Addr).add j) = some u := fun j u hu => by
      rw [addT0]
      unfold World.cell?
      rw [hg]
      rw [← ht, List.getElem?_take] at hu
      split at hu
      · simpa using hu
      · cases hu
    have hone : ∀ u ∈ trC day us, u.oneCell' = true := fun u hu => by
      unfold trC at hu
      obtain ⟨x, -, hx⟩ := List.mem_flatMap.1 hu
      simp only [List.mem_cons, List.not_mem_nil, or_false] at hx
      rcases hx with rfl | rfl | rfl <;> rfl
    obtain ⟨b2, c2, w', hr, hrow, hgr, hob⟩ := append_coreA (P := Tryz.prog) (t := 28) (e := 33) (ty := ty) (size := 3) (bytes := 32) (a := ⟨g, 0, none⟩) (m := us.length) (c := cap') (news := trC day us) h hb h'.1 hnews hone (.inl (by simp)) (by unfold maxLen; omega) (by omega) (by kernel_chk)
    refine ⟨b2, c2, w', hr, ?_, hgr⟩
    unfold Trs
    rw [trC_app, List.length_append]
    exact hrow
end Go.Proofs.YthnojedlndblbabGreatDoor
