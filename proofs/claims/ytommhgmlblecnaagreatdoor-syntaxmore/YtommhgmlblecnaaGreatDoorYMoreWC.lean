/- the text YMoreW -/
import Derived.Test.YtommhgmlblecnaaGreatDoorYPureMC
import Derived.Test.YtommhgmlblecnaaGreatDoorYGf
import Derived.Test.YtommhgmlblecnaaGreatDoorYSameAtC
namespace Go.Proofs.YtommhgmlblecnaaGreatDoor
open Go Go.RowKit

theorem slice24 (b o n c k : Nat) (hk : k ≤ n) (hn : n ≤ c) (w : World) : (Instr.sliceAt 23 (.slice (some ⟨b, o, none⟩) n c) none (some (.int .i64 k)) none).run Tryz.prog w = .ok (.slice (some ⟨b, o, none⟩) k c) w := by
  have h1 : (k : Int) ≤ (c : Int) := by omega
  go_simp
/-- A node with its first kids alone. -/
theorem nd_cut {w : World} {a : Option Addr} {c : Nat} {k : Int} {x : List UInt8} {n : Int} {ks : List Tr} {l : Tr} {p : Int} (h : Nd w (nv k x n (.slice a (ks ++ [l]).length c) p) (.mk k x n (ks ++ [l]) p)) : Nd w (nv k x n (.slice a ks.length c) p) (.mk k x n ks p) := by
  obtain ⟨a', c', e, hc, hk⟩ := h.open
  obtain ⟨-, -, -, h4, -⟩ := nv_inj e
  simp only [Value.slice.injEq] at h4
  obtain ⟨rfl, -, rfl⟩ := h4
  simp only [List.length_append, List.length_singleton] at hc
  have key : ∀ i t, ks[i]? = some t → (ks ++ [l])[i]? = some t := fun i t ht => by rw [List.getElem?_append_left (List.getElem?_eq_some_iff.1 ht).1]; exact ht
  classical
  refine .mk k x n ks p a c (fun i => if hi : i < ks.length then Classical.choose (Classical.choose_spec (Classical.choose_spec (hk i ks[i] (key i _ (List.getElem?_eq_getElem hi))))) else undef) ⟨by omega, hc.2⟩ (fun i hi => ?_) (fun i t ht => ?_)
  · have := Classical.choose_spec (Classical.choose_spec (Classical.choose_spec (hk i ks[i] (key i _ (List.getElem?_eq_getElem hi)))))
    refine ⟨_, _, this.1, ?_⟩
    rw [dif_pos hi]
    exact this.2.1
  · have hi := (List.getElem?_eq_some_iff.1 ht).1
    have := Classical.choose_spec (Classical.choose_spec (Classical.choose_spec (hk i ks[i] (key i _ (List.getElem?_eq_getElem hi)))))
    rw [dif_pos hi]
    have e : ks[i] = t := by rw [List.getElem?_eq_getElem hi] at ht; exact Option.some.inj ht
    rw [← e]
    exact this.2.2
set_option maxRecDepth 100000 in
set_option maxHeartbeats 2000000 in
seal rn Goes ans atEnd put0 putM opened putA0 oneSt st0 keep putA prt whP in
theorem more_any (l : List UInt8) (w : World) (ht : Tab w) (hl : l.length ≤ 1000000000000000000) : Calls Tryz.prog 5 #[strV l] w fun e w' => e = .returned (.bool true) ∧ Below w.heap.size w w' := by
  obtain ⟨Z, hZ⟩ : ∃ Z, whP modP l = Z := ⟨_, rfl⟩
  obtain ⟨T, hT⟩ : ∃ T, l ++ 10 :: addM = T := ⟨_, rfl⟩
  obtain ⟨M, hM⟩ : ∃ M, whP modP T = M := ⟨_, rfl⟩
  have hin := more_pure l
  rw [hT, hZ, hM] at hin
  refine Goes.begin Tryz.func5 [] Tab (fun j b o h => by cases h) (by simp [Mem.ids]) ht.stay ?_
  refine Goes.run [] [] trivial ?_
  refine Goes.call0 9 #[] (.bool true) (fun w' _ hI => shown7_any w' hI.now.2) ?_
  refine Goes.run [] [] trivial ?_
  refine Goes.callG [] 11 #[strV l] fun w1 hm1 hI1 => (xmod_any _ w1 hI1.now.2 (L := []) (fun x hx => by simp at hx)).mono fun _ w2 ⟨u, e1, hB, hS⟩ => ⟨_, fun w => Nd w u.nd Z.1, e1, hB, by rw [hZ] at hS; exact hS, ?_⟩
  rw [hZ]
  refine Goes.upto1 20 [0] [] trivial fun g1 => ?_
  refine Goes.val (binOp .add 9 (strV l) (strV (10 :: addM))) (strV (l ++ 10 :: addM)) (fun w' _ _ => addS7 (by simp [addM]; omega) w') ?_
  rw [hT]
  refine Goes.run [] [] trivial ?_
  refine Goes.callG [g1] 11 #[strV T] fun w1 hm1 hI1 => (xmod_any _ w1 hI1.now.1.2 (L := [g1]) hm1).mono fun _ w2 ⟨v, e1, hB, hS⟩ => ⟨_, fun w => Nd w v.nd M.1, e1, hB, by rw [hM] at hS; exact hS, ?_⟩
  rw [hM]
  cases he : (Z.2.2 != 0) with
  | true =>
    refine Goes.run1 [1, 1, 1] [(true, true), (Z.2.2 != 0, true)] ⟨rfl, he, trivial⟩ fun g2 => ?_
    exact Goes.ret [] (.bool true) fun w' hm hI => ⟨rfl, ch_below hI.now.1.1.1⟩
  | false =>
  cases hf : (M.2.2 != 0) with
  | true =>
    refine Goes.run1 [1, 0, 1] [(M.2.2 != 0, true), (Z.2.2 != 0, false)] ⟨hf, he, trivial⟩ fun g2 => ?_
    exact Goes.ret [] (.bool true) fun w' hm hI => ⟨rfl, ch_below hI.now.1.1.1⟩
  | false =>
    obtain ⟨x, n, ks, p, q, q', hz1, hm1⟩ := hin (by simpa using he) (by simpa using hf)
    rw [hz1, hm1]
    obtain ⟨K, hK⟩ : ∃ K, ks.length = K := ⟨_, rfl⟩
    refine Goes.know fun w3 hm hI => ?_
    obtain ⟨b, o, v0, ob, ha, h0⟩ := Stay.kid (hI.mono fun _ h => h.2) (i := K) (t := .mk 3 [122, 122] 0 [.mk 5 [] 1000000 [] q'] q) (by rw [← hK]; simp)
    have hcap : K + 1 ≤ v.c ∧ v.c ≤ 9223372036854775807 := by
      obtain ⟨a, c, e, hc, -⟩ := hI.now.2.open
      obtain ⟨-, -, -, h4, -⟩ := nv_inj (show nv v.k v.x v.n (.slice v.a v.N v.c) v.p = _ from e)
      simp only [Value.slice.injEq] at h4
      rw [h4.2.2]
      simp only [List.length_append, List.length_singleton, hK] at hc
      exact hc
    have hlen : (ks ++ [Tr.mk 3 [122, 122] 0 [.mk 5 [] 1000000 [] q'] q]).length = K + 1 := by simp [hK]
    obtain ⟨a, c, d, rfl⟩ := hI.now.2.t6
    obtain rfl : a = some ⟨b, o, none⟩ := ha
    obtain ⟨a9, c9, d9, rfl⟩ := hI.now.1.2.t6
    obtain ⟨b1, o1, v1, ob1, ha1, h1⟩ := Stay.kid (h0.mono fun _ h => h.2.1) (i := 0) rfl
    obtain ⟨a0, c0, d0, rfl⟩ := h0.now.2.1.t6
    obtain rfl : a0 = some ⟨b1, o1, none⟩ := ha1
    obtain ⟨a5, c5, d5, rfl⟩ := h1.now.2.1.t6
    refine ⟨_, hI.and (h0.and h1), ?_⟩
    rw [hK, hlen]
    have hw : (((K + 1 : Nat) : Int) != IntKind.i64.wrap ((K : Int) + 1)) = false := by rw [wrap_nat (by omega)]; simp
    refine Goes.run1 [1, 0, 0, 1, 0, 0, 1, 0] [(((K + 1 : Nat) : Int) != IntKind.i64.wrap ((K : Int) + 1), false), (M.2.2 != 0, false), (Z.2.2 != 0, false)] ⟨hw, hf, he, trivial⟩ fun g2 => ?_
    refine Goes.val (Instr.indexAt 23 (.slice (some ⟨b, o, none⟩) (K + 1) c) (.int .i64 K)) (.pointer (some ⟨b, o + K * 5, none⟩)) (fun w' _ _ => idx24 b o (K + 1) c K (by omega) w') ?_
    refine Goes.val (Instr.loadAt 25 (.pointer (some ⟨b, o + K * 5, none⟩))) (nv 3 [122, 122] 0 (.slice (some ⟨b1, o1, none⟩) 1 c0) q) (fun w' _ hI => load24 hI.now.2.1.1) ?_
    refine Goes.run1 [2, 1, 0] [] trivial fun g3 => ?_
    refine Goes.val (Instr.sliceAt 23 (.slice (some ⟨b, o, none⟩) (K + 1) c) none (some (.int .i64 K)) none) (.slice (some ⟨b, o, none⟩) K c) (fun w' _ _ => slice24 b o (K + 1) c K (by omega) hcap.1 w') ?_
    refine Goes.run [1, 1, 0, 1] [(true, true)] ⟨rfl, trivial⟩ ?_
    refine Goes.call0 15 #[nv 1 x n (.slice a9 K c9) p, nv 1 x n (.slice (some ⟨b, o, none⟩) K c) p] (.bool true) (fun w' _ hI => by
      have h3 := hI.now.1.2
      have h4 : Nd w' (nv 1 x n (.slice (some ⟨b, o, none⟩) ks.length c) p) (.mk 1 x n ks p) := nd_cut (l := .mk 3 [122, 122] 0 [.mk 5 [] 1000000 [] q'] q) (by rw [hlen]; exact h3)
      have h5 := hI.now.1.1.2
      rw [hK] at h4
      exact sameAt_any (.mk 1 x n ks p) w' ⟨1, x, n, a9, K, c9, p, 0⟩ ⟨1, x, n, some ⟨b, o, none⟩, K, c, p, 0⟩ h5 h4) ?_
    refine Goes.run [1, 2, 1, 2, 1, 2, 1, 2] [(true, true), (true, true), (true, true), (true, true)] ⟨rfl, rfl, rfl, rfl, trivial⟩ ?_
    refine Goes.val (Instr.indexAt 23 (.slice (some ⟨b1, o1, none⟩) 1 c0) (.int .i64 (0 : Nat))) (.pointer (some ⟨b1, o1 + 0 * 5, none⟩)) (fun w' _ _ => idx24 b1 o1 1 c0 0 (by decide) w') ?_
    refine Goes.run [] [] trivial ?_
    refine Goes.val (Instr.loadAt 2 (.pointer (some ⟨b1, o1 + 0 * 5 + 2, none⟩))) (.int .i64 1000000) (fun w' _ hI => cl_n hI.now.2.2.1 2 Tryz.isAgg2) ?_
    refine Goes.run [] [] trivial ?_
    exact Goes.ret [] (.bool true) fun w' hm hI => ⟨rfl, ch_below hI.now.1.1.1.1⟩
theorem syntaxMore_walk (s : ByteArray) (w : World) (ht : Tab w) (hs : s.size ≤ 140737488351232) : Calls Tryz.prog 5 #[.string s] w fun e w' => e = .returned (.bool true) ∧ Below w.heap.size w w' := by
  have := more_any s.data.toList w ht (by have : s.data.toList.length = s.size := rfl; omega)
  exact this
end Go.Proofs.YtommhgmlblecnaaGreatDoor
