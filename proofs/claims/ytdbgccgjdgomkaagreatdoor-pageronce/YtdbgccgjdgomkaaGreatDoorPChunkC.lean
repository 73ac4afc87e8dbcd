/- slices.Chunk of bytes, a hundred and twelve at a time: its iterator. -/
import Derived.Test.YtdbgccgjdgomkaaGreatDoorPWithC
import Derived.RangeFuncNested
import Derived.RegionIn
import Derived.Sort.QuietIn
namespace Go.Proofs.YtdbgccgjdgomkaaGreatDoor
open Go Go.RowKit Go.Shelf Go.Sort

attribute [local go_sem] Oper.semAt_some

/-- Two boxes are as they were. -/
def K2 (Bs Bn : Nat) (A B : World) : Prop := B.cell? ⟨Bs, 0, none⟩ = A.cell? ⟨Bs, 0, none⟩ ∧ B.cell? ⟨Bn, 0, none⟩ = A.cell? ⟨Bn, 0, none⟩
theorem K2.refl (Bs Bn : Nat) (A : World) : K2 Bs Bn A A := ⟨rfl, rfl⟩
theorem K2.trans {Bs Bn : Nat} {A B C : World} (h : K2 Bs Bn A B) (k : K2 Bs Bn B C) : K2 Bs Bn A C := ⟨k.1.trans h.1, k.2.trans h.2⟩
theorem sl49a (b off len cap i : Nat) (h1 : i + 112 ≤ len) (h2 : len ≤ cap) (w : World) : (Instr.sliceAt 49 (.slice (some ⟨b, off, none⟩) len cap) (some (.int .i64 i)) none none).run Tryz.prog w = .ok (.slice (some ⟨b, off + i, none⟩) (len - i) (cap - i)) w := by
  go_simp
  rw [if_pos (by omega), if_neg (by omega)]
theorem sl49b (b off len cap i : Nat) (h1 : i + 112 ≤ len) (h2 : len ≤ cap) (w : World) : (Instr.sliceAt 49 (.slice (some ⟨b, off, none⟩) len cap) (some (.int .i64 i)) (some (.int .i64 ((i : Int) + 112))) (some (.int .i64 ((i : Int) + 112)))).run Tryz.prog w = .ok (.slice (some ⟨b, off + i, none⟩) 112 112) w := by
  go_simp
  have e : ((i : Int) + 112).toNat = i + 112 := by omega
  rw [if_pos ⟨by omega, by omega⟩, if_pos ⟨by omega, by omega⟩, e, if_pos (by omega), if_neg (by omega), Nat.add_sub_cancel_left]
theorem min49 (n : Nat) (h : 112 ≤ n) (ty : TypeId) (w : World) : (Builtin.min_ #[3, 3] ty #[.int .i64 112, .int .i64 n]).run Tryz.prog w = .ok (.int .i64 112) w := by
  show Result.ok (Value.int .i64 (if (n : Int) < 112 then (n : Int) else 112)) w = _
  rw [if_neg (by omega)]
theorem K2.drew (Bs Bn : Nat) (A : World) : K2 Bs Bn A A.drew := ⟨rfl, rfl⟩
theorem grown_drew (W : World) : W.grownBy W.drew none := ⟨rfl, rfl, rfl, Nat.le_refl _, fun _ _ _ => rfl⟩
set_option maxRecDepth 100000 in
set_option maxHeartbeats 2000000 in
theorem chunk1_in (n : Nat) (hn : 1 ≤ n) (l Bs Bn b off len cap m : Nat) (hm : len = m * 112) (hcap : len ≤ cap) (hlen : len ≤ 1000000) (J Jx : List Nat → World → Prop)
    (hY : ∀ pre x W, J pre W → pre.length < m → YieldAt Fence.wide (n - 1) Tryz.prog l #[.slice (some ⟨b, off + x * 112, none⟩) 112 112] W fun e W' =>
      (e = .returned (.bool true) ∧ J (pre ++ [x]) W' ∧ K2 Bs Bn W W') ∨ (e = .returned (.bool false) ∧ Jx (pre ++ [x]) W'))
    (W : World) (hJ : AbidesFrom W.heap.size J) (hBs : W.cell? ⟨Bs, 0, none⟩ = some (.slice (some ⟨b, off, none⟩) len cap)) (hBn : W.cell? ⟨Bn, 0, none⟩ = some (.int .i64 112)) (h0 : J [] W) :
    CallsIn Fence.wide n Tryz.prog 116 #[.func (.yield l) #[] #[], .pointer (some ⟨Bs, 0, none⟩), .pointer (some ⟨Bn, 0, none⟩)] W fun e W' => (∃ v, e = .returned v) ∧
      (J (List.range m) W' ∨ (∃ pre, pre <+: List.range m ∧ Jx pre W')) := by
  refine callsIn_of_wp Tryz.func116 rfl trivial ?_ rfl
  simp only [Tryz.ntmps116, List.size_toArray, List.length_cons, List.length_nil, Nat.reduceAdd, Nat.reduceSub, Array.replicate_succ, Array.replicate_zero, List.push_toArray, List.append_toArray, List.nil_append, List.cons_append]
  have HM := hid hm
  have HY := hid hY
  have HJ := hid hJ
  clear hm hY hJ
  gi_wp2
  gi_loopw [4, 5] (fun i _ wr => ∃ k : Nat, k ≤ m ∧ i = .int .i64 ((k * 112 : Nat) : Int) ∧ J (List.range k) wr ∧ K2 Bs Bn W wr)
    (fun i _ _ => m * 112 - (intOf i).toNat)
  case atStart => exact ⟨0, Nat.zero_le _, rfl, h0, K2.refl _ _ _⟩
  case round =>
    obtain ⟨k, hk, rfl, hJs, hK⟩ := hrel
    have hm := HM.out
    have hcs := hK.1.trans hBs
    have hcn := hK.2.trans hBn
    by_cases hlt : k < m
    · obtain ⟨i, hi⟩ : ∃ i, i = k * 112 := ⟨_, rfl⟩
      have hil : i + 112 ≤ len := by omega
      have hil' : (i : Int) < (len : Int) := by omega
      have hA : 0 ≤ (i : Int) + 112 ∧ (i : Int) + 112 ≤ (cap : Int) := ⟨by omega, by omega⟩
      have hM : max ((i : Int) + 112) 0 = (i : Int) + 112 := by omega
      have hT : ((i : Int) + 112).toNat = i + 112 := by omega
      have hle : i ≤ len := by omega
      have hne : ¬ cap = i := by omega
      have hd : i + 112 - i = 112 := by omega
      have hmn := min49 (len - i) (by omega)
      rw [← hi]
      have hwa : IntKind.i64.wrap ((i : Int) + 112) = ((i + 112 : Nat) : Int) := by rw [IntWalk.i64_in _ ⟨by omega, by omega⟩]; omega
      have HI := hid (And.intro hi (And.intro hil (And.intro hlt hk)))
      have HK := hid hK
      have HJS := hid hJs
      have HW2 : Hid (IntKind.i64.wrap ((i : Int) + 112) = (((k + 1) * 112 : Nat) : Int)) := hid (by rw [hwa, hi]; omega)
      have he : List.range k ++ [k] = List.range (k + 1) := List.range_succ.symm
      have HE := hid (And.intro he hi)
      clear hm hi hil hK hJs hlt hk he
      gi_wp2
      gi_quiet (fail)
      have hcsd : (wr.drewN nq).cell? ⟨Bs, 0, none⟩ = some (.slice (some ⟨b, off, none⟩) len cap) := hcs
      have hcnd : (wr.drewN nq).cell? ⟨Bn, 0, none⟩ = some (.int .i64 112) := hcn
      obtain ⟨fn, tmps, assign, body, hy, hR⟩ := HY.out (List.range k) k (wr.drewN nq) (HJ.out _ wr (wr.drewN nq) none HJS.out ⟨rfl, rfl, rfl, Nat.le_refl _, fun _ _ _ => rfl⟩ (fun r e => by cases e)) (by rw [List.length_range]; exact HI.out.2.2.1)
      rw [← HE.out.2] at hy
      rw [HE.out.1] at hR
      gi_wp2
      refine hR.mono ?_
      rintro e W3 (⟨rfl, hJ3, hk3⟩ | ⟨rfl, hJx3⟩)
      · have hcn3 : W3.cell? ⟨Bn, 0, none⟩ = some (.int .i64 112) := hk3.2.trans hcnd
        gi_wp2
        go_roundw
        case rel => exact ⟨k + 1, HI.out.2.2.1, congrArg (Value.int .i64) (by have := HI.out.1; omega), hJ3, HK.out.trans hk3⟩
        case measure => have := HI.out; have := HW2.out; simp [intOf]; omega
      · gi_wp2
        refine bodyPost_ret (results_none rfl _ _ _) rfl ?_
        refine ⟨⟨_, rfl⟩, .inr ⟨List.range (k + 1), ?_, hJx3⟩⟩
        have := List.take_prefix (k + 1) (List.range m)
        rwa [List.take_range, Nat.min_eq_left HI.out.2.2.1] at this
    · obtain rfl : k = m := by omega
      have hil' : ¬ ((k * 112 : Nat) : Int) < (len : Int) := by omega
      obtain ⟨i, hi⟩ : ∃ i, i = k * 112 := ⟨_, rfl⟩
      rw [← hi] at hil' ⊢
      clear hm hi HM
      gi_wp2
      go_end0
      exact ⟨⟨_, rfl⟩, .inl hJs⟩
end Go.Proofs.YtdbgccgjdgomkaaGreatDoor
