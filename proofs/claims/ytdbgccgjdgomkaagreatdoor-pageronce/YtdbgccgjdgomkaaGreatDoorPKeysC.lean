/- Which pages a table has, by rising numbers: the library's contracts, laid by hand at this translation's numbers. -/
import Derived.Test.YtdbgccgjdgomkaaGreatDoorPTabC
import Derived.Test.YtdbgccgjdgomkaaGreatDoorPSessC
import Derived.Shelf.SlIterI.Sorted
import Derived.Shelf.SlIterI.Nil
namespace Go.Proofs.YtdbgccgjdgomkaaGreatDoor
open Go Go.RowKit Go.Shelf Go.Sort Go.Maps

def keysC_ren : Go.Shelf.Ren := ⟨fun | 7 => 89 | 10 => 115 | n => n, fun | 23 => 83 | 26 => 3 | 3 => 109 | 28 => 123 | 0 => 0 | 27 => 122 | 33 => 150 | 4 => 4 | n => n, fun n => n⟩
theorem keysC : SlLaysZI.n7 Tryz.prog keysC_ren := {
  mixed := by kernel_rfl
  f7 := ⟨Tryz.f89.name, by kernel_rfl, Tryz.func89.trans (congrArg some (by kernel_rfl))⟩
  f10 := ⟨Tryz.f115.name, by kernel_rfl, Tryz.func115.trans (congrArg some (by kernel_rfl))⟩
  t0 := Tryz.underlying0
  a0 := Tryz.isAgg0
  z0 := Tryz.sizeOf0
  v0 := Tryz.zeroValue0
  t4 := Tryz.underlying4
  a4 := Tryz.isAgg4
  z4 := Tryz.sizeOf4
  v4 := Tryz.zeroValue4
  t23 := Tryz.underlying83
  a23 := Tryz.isAgg83
  z23 := Tryz.sizeOf83
  v23 := Tryz.zeroValue83
  t26 := Tryz.underlying3
  a26 := Tryz.isAgg3
  z26 := Tryz.sizeOf3
  v26 := Tryz.zeroValue3
  t27 := Tryz.underlying122
  a27 := Tryz.isAgg122
  z27 := Tryz.sizeOf122
  v27 := Tryz.zeroValue122
  t28 := Tryz.underlying123
  a28 := Tryz.isAgg123
  z28 := Tryz.sizeOf123
  v28 := Tryz.zeroValue123
  t33 := Tryz.underlying150
  a33 := Tryz.isAgg150
  z33 := Tryz.sizeOf150
  v33 := Tryz.zeroValue150
}
def keysU_ren : Go.Shelf.Ren := ⟨fun | 7 => 114 | 10 => 128 | n => n, fun | 23 => 80 | 26 => 3 | 3 => 73 | 28 => 123 | 0 => 0 | 27 => 122 | 33 => 150 | 4 => 4 | n => n, fun n => n⟩
theorem keysU : SlLaysZI.n7 Tryz.prog keysU_ren := {
  mixed := by kernel_rfl
  f7 := ⟨Tryz.f114.name, by kernel_rfl, Tryz.func114.trans (congrArg some (by kernel_rfl))⟩
  f10 := ⟨Tryz.f128.name, by kernel_rfl, Tryz.func128.trans (congrArg some (by kernel_rfl))⟩
  t0 := Tryz.underlying0
  a0 := Tryz.isAgg0
  z0 := Tryz.sizeOf0
  v0 := Tryz.zeroValue0
  t4 := Tryz.underlying4
  a4 := Tryz.isAgg4
  z4 := Tryz.sizeOf4
  v4 := Tryz.zeroValue4
  t23 := Tryz.underlying80
  a23 := Tryz.isAgg80
  z23 := Tryz.sizeOf80
  v23 := Tryz.zeroValue80
  t26 := Tryz.underlying3
  a26 := Tryz.isAgg3
  z26 := Tryz.sizeOf3
  v26 := Tryz.zeroValue3
  t27 := Tryz.underlying122
  a27 := Tryz.isAgg122
  z27 := Tryz.sizeOf122
  v27 := Tryz.zeroValue122
  t28 := Tryz.underlying123
  a28 := Tryz.isAgg123
  z28 := Tryz.sizeOf123
  v28 := Tryz.zeroValue123
  t33 := Tryz.underlying150
  a33 := Tryz.isAgg150
  z33 := Tryz.sizeOf150
  v33 := Tryz.zeroValue150
}
def sorted_ren : Go.Shelf.Ren := ⟨fun | 6 => 64 | 8 => 96 | 9 => 97 | 11 => 118 | n => n, fun | 0 => 0 | 24 => 42 | 26 => 3 | 28 => 123 | 33 => 150 | n => n, fun n => n⟩
theorem sortedL : SlLaysZI.n6 Tryz.prog sorted_ren := {
  mixed := by kernel_rfl
  f6 := ⟨Tryz.f64.name, by kernel_rfl, Tryz.func64.trans (congrArg some (by kernel_rfl))⟩
  f8 := ⟨Tryz.f96.name, by kernel_rfl, Tryz.func96.trans (congrArg some (by kernel_rfl))⟩
  f11 := ⟨Tryz.f118.name, by kernel_rfl, Tryz.func118.trans (congrArg some (by kernel_rfl))⟩
  t0 := Tryz.underlying0
  a0 := Tryz.isAgg0
  z0 := Tryz.sizeOf0
  v0 := Tryz.zeroValue0
  t24 := Tryz.underlying42
  a24 := Tryz.isAgg42
  z24 := Tryz.sizeOf42
  v24 := Tryz.zeroValue42
  t26 := Tryz.underlying3
  a26 := Tryz.isAgg3
  z26 := Tryz.sizeOf3
  v26 := Tryz.zeroValue3
  t28 := Tryz.underlying123
  a28 := Tryz.isAgg123
  z28 := Tryz.sizeOf123
  v28 := Tryz.zeroValue123
  i26 := info3
}
theorem sortsIn (m : Nat) : AnyZI.SortsIn Tryz.prog sorted_ren Fence.wide m :=
  ⟨fun blk off cap ss W hH hblk hsz => callsIn_wide.2 (Tryz.slices_Sort_int blk off cap ss W hH hblk hsz), fun p cap W => callsIn_wide.2 (Tryz.slices_Sort_int_none p cap W)⟩
/-- Whatever value there is. -/
def anyR : Value → Option (DataW Unit × List MemPlace) := fun _ => some (.lit (.bool true), [])
theorem insert_perm {H : Type} (x : Lit × DataW H) : ∀ l : List (Lit × DataW H), (DataW.insert x l).Perm (x :: l)
  | [] => List.Perm.refl _
  | y :: r => by
    unfold DataW.insert
    split
    · exact List.Perm.refl _
    · exact ((insert_perm x r).cons y).trans (List.Perm.swap x y r)
theorem insert_all {H : Type} : ∀ l : List (Lit × DataW H), (l.foldr DataW.insert []).Perm l
  | [] => List.Perm.refl _
  | x :: r => (insert_perm x _).trans ((insert_all r).cons x)
theorem Mk.owns {w : World} {m : Nat} {ks : List Int} {f : Int → Option Value} (h : Mk w m ks f) (hk : ∀ k ∈ ks, 0 ≤ k ∧ k < 1023) (hl : ks.length ≤ 1000000) :
    ∃ D0 : DataW Unit, w.ownsMap Tryz.prog 3 anyR m ks.length D0 ∧ (intKeys D0).Perm ks ∧ Maps.size D0 = ks.length := by
  obtain ⟨es, cl, hm, hv⟩ := h
  have hlen := hv.len
  have hrd : ∀ (i : Nat) (x : MapEntry), es.toList[i]? = some x → ∃ k, ks[i]? = some k ∧ WideElems.rd (H := Unit) Tryz.prog 3 anyR x = some (.int .i64 k, .lit (.bool true)) := fun i x hx => by
    have hi : i < ks.length := by rw [← hlen]; exact (List.getElem?_eq_some_iff.1 hx).1
    have hki : ks[i]? = some ks[i] := List.getElem?_eq_getElem hi
    have hkey : x.key = .int .i64 ks[i] := by
      have h1 : (es.toList.map (·.key))[i]? = some (.int .i64 ks[i]) := by rw [hv.keys, List.getElem?_map, hki]; rfl
      rw [List.getElem?_map, hx] at h1
      exact Option.some.inj h1
    refine ⟨ks[i], hki, ?_⟩
    have hb := hk _ (List.getElem_mem hi)
    have hwf : (Lit.int .i64 ks[i]).wf = true := WalkArith.wf_i64 ⟨by omega, by omega⟩
    simp [WideElems.rd, keyOf, hkey, mapKey, Tryz.underlying3, hwf, anyR]
  refine ⟨_, ⟨es, cl, hm, ⟨?_, ⟨hv.born, hv.bnd, ?_⟩, fun x hx => ?_⟩, by rw [← Array.length_toList, hlen]; exact Nat.le_refl _, rfl⟩, ?_, ?_⟩
  · rw [← Array.length_toList, hlen]; unfold maxLen; omega
  · rw [hv.keys]
    exact List.pairwise_map.2 (hv.nd.imp fun hne e => hne (by injection e))
  · obtain ⟨i, hi⟩ := List.getElem?_of_mem hx
    obtain ⟨k, _, hr⟩ := hrd i x hi
    exact ⟨_, hr⟩
  · show (List.map (fun p : Lit × DataW Unit => Go.intOf p.1) _).Perm ks
    refine ((insert_all _).map _).trans ?_
    rw [List.map_map]
    have e : es.toList.map ((fun p : Lit × DataW Unit => Go.intOf p.1) ∘ WideElems.rg Tryz.prog 3 anyR) = ks := by
      apply List.ext_getElem?
      intro i
      rw [List.getElem?_map]
      cases hx : es.toList[i]? with
      | none =>
        have : ks[i]? = none := by
          rw [List.getElem?_eq_none_iff] at hx ⊢
          omega
        rw [this]; rfl
      | some x =>
        obtain ⟨k, hki, hr⟩ := hrd i x hx
        rw [hki]
        simp [WideElems.rg, hr, Go.intOf]
    rw [e]
  · show (List.foldr DataW.insert [] _).length = _
    rw [(insert_all _).length_eq, List.length_map, hlen]

theorem sorted_keysC {w : World} {m : Option Nat} {ks : List Int} {f : Int → Option Value} (hm : Mo w m ks f) (hk : ∀ k ∈ ks, 0 ≤ k ∧ k < 1023) (hl : ks.length ≤ 1000000) :
    Calls Tryz.prog 64 #[.func (.func 115) #[] #[.pointer (some ⟨w.heap.size, 0, none⟩)]] (w.alloc (.cells #[.map m] 83)) fun e w' => ∃ v, e = .returned v ∧ Ats w' w.heap.size v (sorted ks) ∧ Below w.heap.size w w' := by
  have hB : Below w.heap.size w (w.alloc (.cells #[.map m] 83)) := (Below.refl _ _).alloc (Nat.le_refl _) _
  have fin : ∀ (v : Value) (ss : List Int) (w' : World), ss.Perm ks → w'.ownsRow (w.alloc (.cells #[.map m] 83)).heap.size 3 1 v ss.length ((ss.mergeSort (fun x y => decide (x ≤ y))).map encZ) → Below (w.alloc (.cells #[.map m] 83)).heap.size (w.alloc (.cells #[.map m] 83)) w' → Ats w' w.heap.size v (sorted ks) ∧ Below w.heap.size w w' := fun v ss w' hp ho hB2 => by
    refine ⟨?_, hB.trans (hB2.mono hB.size)⟩
    have e := mergeSort_of_perm_i hp
    have e2 : (sorted ks).length = ss.length := by simp [sorted, hp.length_eq]
    unfold Ats
    rw [e2]
    have e3 : sorted ks = ss.mergeSort (fun x y => decide (x ≤ y)) := e.symm
    rw [e3]
    exact owns_base ho hB.size
  cases m with
  | none =>
    obtain ⟨rfl, rfl⟩ := hm
    have hseq : SeqGives Fence.wide 2 Tryz.prog 115 #[.pointer (some ⟨w.heap.size, 0, none⟩)] encZ (fun ss : List Int => ss = []) 0 (w.alloc (.cells #[.map none] 83)) :=
      AnyZI.keys_gives_nil (ρ := keysC_ren) { keysC with } Fence.wide _ trivial rfl w.heap.size _ (by simp) (by simp)
    refine ((callsIn_wide (n := 5)).1 (AnyZI.sorted_in sortedL Fence.wide 5 trivial trivial trivial trivial rfl (by omega) (sortsIn _) (enters_of Tryz.func97 (by kernel_rfl) rfl) 115 #[.pointer (some ⟨w.heap.size, 0, none⟩)] trivial (enters_of Tryz.func115 (by kernel_rfl) rfl) _ 0 (Nat.zero_le _) (by omega) _ hseq)).mono ?_
    rintro e w' ⟨v, ss, rfl, rfl, ho, _, hB2⟩
    exact ⟨v, rfl, fin v [] w' (List.Perm.refl _) ho hB2⟩
  | some b =>
    obtain ⟨D0, hown, hperm, hsz⟩ := Mk.owns hm hk hl
    have hown' : (w.alloc (.cells #[.map (some b)] 83)).ownsMap Tryz.prog 3 anyR b ks.length D0 := by
      obtain ⟨es, clock, hb, Ft, hs, hD⟩ := hown
      exact ⟨es, clock, below_at hB hb (heap_lt hb), Ft, hs, hD⟩
    have hseq : SeqGives Fence.wide 2 Tryz.prog 115 #[.pointer (some ⟨w.heap.size, 0, none⟩)] encZ (fun ss => ss.Perm (intKeys D0)) (Maps.size D0) (w.alloc (.cells #[.map (some b)] 83)) :=
      AnyZI.keys_gives (ρ := keysC_ren) { keysC with } Fence.wide _ trivial rfl (by omega) w.heap.size b ks.length D0 _ (by simp) (by simp) hown'
    refine ((callsIn_wide (n := 5)).1 (AnyZI.sorted_in sortedL Fence.wide 5 trivial trivial trivial trivial rfl (by omega) (sortsIn _) (enters_of Tryz.func97 (by kernel_rfl) rfl) 115 #[.pointer (some ⟨w.heap.size, 0, none⟩)] trivial (enters_of Tryz.func115 (by kernel_rfl) rfl) _ _ (by rw [hsz]; unfold maxLen; omega) (by rw [hsz]; omega) _ hseq)).mono ?_
    rintro e w' ⟨v, ss, rfl, hp, ho, _, hB2⟩
    exact ⟨v, rfl, fin v ss w' (hp.trans hperm) ho hB2⟩
set_option maxRecDepth 100000 in
set_option maxHeartbeats 800000 in
theorem pages_keysC {w : World} {b o : Nat} {m : Option Nat} {ks : List Int} {f : Int → Option Value} (hc : w.cell? ⟨b, o, none⟩ = some (.map m)) (hm : Mo w m ks f) (hk : ∀ k ∈ ks, 0 ≤ k ∧ k < 1023) (hl : ks.length ≤ 1000000) :
    Calls Tryz.prog 53 #[.pointer (some ⟨b, o, none⟩)] w fun e w' => ∃ v, e = .returned v ∧ Ats w' w.heap.size v (sorted ks) ∧ Below w.heap.size w w' := by
  have HS := hid (sorted_keysC hm hk hl)
  have HK := hid ((callsIn_wide (n := 5)).1 (AnyZI.keys_in keysC Fence.wide 5 trivial rfl m w))
  clear hm hk hl
  go_enter Tryz.func53, Tryz.ntmps53
  go_wp2_with fail
  refine HK.out.mono ?_
  rintro e w1 ⟨rfl, hw1⟩
  have HW := hid hw1
  clear hw1
  go_wp2_with fail
  rw [HW.out]
  refine HS.out.mono ?_
  rintro e w2 ⟨v, rfl, hz⟩
  have HZ := hid hz
  clear hz HS HK HW
  go_wp2_with fail
  go_ret
  exact ⟨v, rfl, HZ.out⟩

theorem sorted_keysU {w : World} {m : Option Nat} {ks : List Int} {f : Int → Option Value} (hm : Mo w m ks f) (hk : ∀ k ∈ ks, 0 ≤ k ∧ k < 1023) (hl : ks.length ≤ 1000000) :
    Calls Tryz.prog 64 #[.func (.func 128) #[] #[.pointer (some ⟨w.heap.size, 0, none⟩)]] (w.alloc (.cells #[.map m] 80)) fun e w' => ∃ v, e = .returned v ∧ Ats w' w.heap.size v (sorted ks) ∧ Below w.heap.size w w' := by
  have hB : Below w.heap.size w (w.alloc (.cells #[.map m] 80)) := (Below.refl _ _).alloc (Nat.le_refl _) _
  have fin : ∀ (v : Value) (ss : List Int) (w' : World), ss.Perm ks → w'.ownsRow (w.alloc (.cells #[.map m] 80)).heap.size 3 1 v ss.length ((ss.mergeSort (fun x y => decide (x ≤ y))).map encZ) → Below (w.alloc (.cells #[.map m] 80)).heap.size (w.alloc (.cells #[.map m] 80)) w' → Ats w' w.heap.size v (sorted ks) ∧ Below w.heap.size w w' := fun v ss w' hp ho hB2 => by
    refine ⟨?_, hB.trans (hB2.mono hB.size)⟩
    have e := mergeSort_of_perm_i hp
    have e2 : (sorted ks).length = ss.length := by simp [sorted, hp.length_eq]
    unfold Ats
    rw [e2]
    have e3 : sorted ks = ss.mergeSort (fun x y => decide (x ≤ y)) := e.symm
    rw [e3]
    exact owns_base ho hB.size
  cases m with
  | none =>
    obtain ⟨rfl, rfl⟩ := hm
    have hseq : SeqGives Fence.wide 2 Tryz.prog 128 #[.pointer (some ⟨w.heap.size, 0, none⟩)] encZ (fun ss : List Int => ss = []) 0 (w.alloc (.cells #[.map none] 80)) :=
      AnyZI.keys_gives_nil (ρ := keysU_ren) { keysU with } Fence.wide _ trivial rfl w.heap.size _ (by simp) (by simp)
    refine ((callsIn_wide (n := 5)).1 (AnyZI.sorted_in sortedL Fence.wide 5 trivial trivial trivial trivial rfl (by omega) (sortsIn _) (enters_of Tryz.func97 (by kernel_rfl) rfl) 128 #[.pointer (some ⟨w.heap.size, 0, none⟩)] trivial (enters_of Tryz.func128 (by kernel_rfl) rfl) _ 0 (Nat.zero_le _) (by omega) _ hseq)).mono ?_
    rintro e w' ⟨v, ss, rfl, rfl, ho, _, hB2⟩
    exact ⟨v, rfl, fin v [] w' (List.Perm.refl _) ho hB2⟩
  | some b =>
    obtain ⟨D0, hown, hperm, hsz⟩ := Mk.owns hm hk hl
    have hown' : (w.alloc (.cells #[.map (some b)] 80)).ownsMap Tryz.prog 3 anyR b ks.length D0 := by
      obtain ⟨es, clock, hb, Ft, hs, hD⟩ := hown
      exact ⟨es, clock, below_at hB hb (heap_lt hb), Ft, hs, hD⟩
    have hseq : SeqGives Fence.wide 2 Tryz.prog 128 #[.pointer (some ⟨w.heap.size, 0, none⟩)] encZ (fun ss => ss.Perm (intKeys D0)) (Maps.size D0) (w.alloc (.cells #[.map (some b)] 80)) :=
      AnyZI.keys_gives (ρ := keysU_ren) { keysU with } Fence.wide _ trivial rfl (by omega) w.heap.size b ks.length D0 _ (by simp) (by simp) hown'
    refine ((callsIn_wide (n := 5)).1 (AnyZI.sorted_in sortedL Fence.wide 5 trivial trivial trivial trivial rfl (by omega) (sortsIn _) (enters_of Tryz.func97 (by kernel_rfl) rfl) 128 #[.pointer (some ⟨w.heap.size, 0, none⟩)] trivial (enters_of Tryz.func128 (by kernel_rfl) rfl) _ _ (by rw [hsz]; unfold maxLen; omega) (by rw [hsz]; omega) _ hseq)).mono ?_
    rintro e w' ⟨v, ss, rfl, hp, ho, _, hB2⟩
    exact ⟨v, rfl, fin v ss w' (hp.trans hperm) ho hB2⟩
set_option maxRecDepth 100000 in
set_option maxHeartbeats 800000 in
theorem pages_keysU {w : World} {b o : Nat} {m : Option Nat} {ks : List Int} {f : Int → Option Value} (hc : w.cell? ⟨b, o, none⟩ = some (.map m)) (hm : Mo w m ks f) (hk : ∀ k ∈ ks, 0 ≤ k ∧ k < 1023) (hl : ks.length ≤ 1000000) :
    Calls Tryz.prog 87 #[.pointer (some ⟨b, o, none⟩)] w fun e w' => ∃ v, e = .returned v ∧ Ats w' w.heap.size v (sorted ks) ∧ Below w.heap.size w w' := by
  have HS := hid (sorted_keysU hm hk hl)
  have HK := hid ((callsIn_wide (n := 5)).1 (AnyZI.keys_in keysU Fence.wide 5 trivial rfl m w))
  clear hm hk hl
  go_enter Tryz.func87, Tryz.ntmps87
  go_wp2_with fail
  refine HK.out.mono ?_
  rintro e w1 ⟨rfl, hw1⟩
  have HW := hid hw1
  clear hw1
  go_wp2_with fail
  rw [HW.out]
  refine HS.out.mono ?_
  rintro e w2 ⟨v, rfl, hz⟩
  have HZ := hid hz
  clear hz HS HK HW
  go_wp2_with fail
  go_ret
  exact ⟨v, rfl, HZ.out⟩
end Go.Proofs.YtdbgccgjdgomkaaGreatDoor
