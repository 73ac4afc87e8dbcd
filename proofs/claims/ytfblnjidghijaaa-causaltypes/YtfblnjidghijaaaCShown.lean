/- The head of every law of layer 14. -/
import Derived.Test.YtfblnjidghijaaaCQ
namespace Go.Proofs.Ytfblnjidghijaaa
open Go Go.RowKit

def eurL : List UInt8 := [101, 117, 114]
def EURL : List UInt8 := [69, 85, 82]
def c0 : Co := .mk 29 5 [] [.mk 26 0 [] [.mk 4 0 eurL [], .mk 24 0 EURL []]]
theorem c0_typ : typP c0 = (4, true) := by kernel_rfl
theorem c0_chk : chkP c0 = 0 := by kernel_rfl
theorem c0_hz : askP hzF 0 c0 = 5 := by kernel_rfl
theorem c0_sz : askP szF 0 c0 = 4 := by kernel_rfl
def oA : Obj := .cells #[.int .i64 4, .int .i64 0, strV eurL, .slice none 0 0, .int .i64 24, .int .i64 0, strV EURL, .slice none 0 0] 24 (0, 0)
def oB (ga : Nat) : Obj := .cells #[.int .i64 26, .int .i64 0, strV [], .slice (some ⟨ga, 0, none⟩) 2 2] 24 (0, 0)
theorem c0_nc {w : World} {ga gb : Nat} (ha : w.heap[ga]? = some oA) (hb : w.heap[gb]? = some (oB ga)) : Nc w.heap.size w (cv 29 5 [] (.slice (some ⟨gb, 0, none⟩) 1 1)) c0 := by
  have hla := lt_of_get ha
  have hlb := lt_of_get hb
  have f : ∀ (op k : Int) (s : List UInt8), -100 ≤ op ∧ op ≤ 100 → -100 ≤ k ∧ k ≤ 100 → s.length ≤ 100 → Fits op k s := fun op k s h1 h2 h3 => ⟨by omega, by omega, by omega⟩
  have leaf : ∀ op k s, Fits op k s → Nc w.heap.size w (cv op k s (.slice none 0 0)) (.mk op k s []) := fun op k s hf => Nc.mk op k s [] none 0 (fun _ => undef) hf ⟨by simp, by omega⟩ (fun i h => absurd h (by simp)) (fun i t h => by simp at h)
  have ca : ∀ j, w.cell? ⟨ga, j, none⟩ = (#[Value.int .i64 4, .int .i64 0, strV eurL, .slice none 0 0, .int .i64 24, .int .i64 0, strV EURL, .slice none 0 0] : Array Value)[j]? := fun j => by unfold World.cell?; rw [ha]; simp [oA]
  have cb : ∀ j, w.cell? ⟨gb, j, none⟩ = (#[Value.int .i64 26, .int .i64 0, strV [], .slice (some ⟨ga, 0, none⟩) 2 2] : Array Value)[j]? := fun j => by unfold World.cell?; rw [hb]; simp [oB]
  have hk : Nc w.heap.size w (cv 26 0 [] (.slice (some ⟨ga, 0, none⟩) 2 2)) (.mk 26 0 [] [.mk 4 0 eurL [], .mk 24 0 EURL []]) := by
    refine Nc.mk 26 0 [] [.mk 4 0 eurL [], .mk 24 0 EURL []] (some ⟨ga, 0, none⟩) 2 (fun i => match i with | 0 => cv 4 0 eurL (.slice none 0 0) | _ => cv 24 0 EURL (.slice none 0 0)) (f _ _ _ (by omega) (by omega) (by simp)) ⟨by simp, by omega⟩ (fun i hi => ?_) (fun i t h => ?_)
    · refine ⟨ga, 0, rfl, hla, ?_⟩
      match i, hi with
      | 0, _ => exact ⟨4, 0, eurL, _, rfl, ca 0, ca 1, ca 2, ca 3⟩
      | 1, _ => exact ⟨24, 0, EURL, _, rfl, ca 4, ca 5, ca 6, ca 7⟩
    · match i, h with
      | 0, h => cases h; exact leaf _ _ _ (f _ _ _ (by omega) (by omega) (by simp [eurL]))
      | 1, h => cases h; exact leaf _ _ _ (f _ _ _ (by omega) (by omega) (by simp [EURL]))
  refine Nc.mk 29 5 [] [.mk 26 0 [] [.mk 4 0 eurL [], .mk 24 0 EURL []]] (some ⟨gb, 0, none⟩) 1 (fun _ => cv 26 0 [] (.slice (some ⟨ga, 0, none⟩) 2 2)) (f _ _ _ (by omega) (by omega) (by simp)) ⟨by simp, by omega⟩ (fun i hi => ?_) (fun i t h => ?_)
  · refine ⟨gb, 0, rfl, hlb, ?_⟩
    match i, hi with
    | 0, _ => exact ⟨26, 0, [], _, rfl, cb 0, cb 1, cb 2, cb 3⟩
  · match i, h with
    | 0, h => cases h; exact hk
set_option maxRecDepth 100000 in
seal rn rnN rnS Goes ans atEnd put0 putM opened putA0 oneSt st0 orT orG in
theorem shown_any (w : World) : Calls Try.prog 6 #[] w fun e w' => e = .returned (.bool true) ∧ Below w.heap.size w w' := by
  refine Goes.begin Try.func6 [] (fun _ => True) Holds.nil (by simp [Mem.ids]) (fun _ _ => trivial) ?_
  refine Goes.run3 [2, 2] [] trivial fun ga gb g1 => ?_
  refine Goes.call0 7 #[cv 29 5 [] (.slice (some ⟨gb, 0, none⟩) 1 1)] (.tuple #[.int .i64 4, .bool true]) (fun w' hm _ => by have := type_any (c0_nc (ga := ga) (gb := gb) (hm.get 0) (hm.get 1)); rwa [c0_typ] at this) ?_
  refine Goes.run [1, 1, 2] [(true, true), (true, true)] ⟨rfl, rfl, trivial⟩ ?_
  refine Goes.call0 9 #[cv 29 5 [] (.slice (some ⟨gb, 0, none⟩) 1 1)] (.int .i64 0) (fun w' hm _ => by have := check_any (c0_nc (ga := ga) (gb := gb) (hm.get 0) (hm.get 1)); rwa [c0_chk] at this) ?_
  refine Goes.run [1, 2] [(true, true)] ⟨rfl, trivial⟩ ?_
  refine Goes.call0 11 #[cv 29 5 [] (.slice (some ⟨gb, 0, none⟩) 1 1)] (.int .i64 5) (fun w' hm _ => by have := horizon_any (c0_nc (ga := ga) (gb := gb) (hm.get 0) (hm.get 1)); rwa [c0_hz] at this) ?_
  refine Goes.run [1, 2] [(true, true)] ⟨rfl, trivial⟩ ?_
  refine Goes.call0 16 #[cv 29 5 [] (.slice (some ⟨gb, 0, none⟩) 1 1)] (.int .i64 4) (fun w' hm _ => by have := size_any (c0_nc (ga := ga) (gb := gb) (hm.get 0) (hm.get 1)); rwa [c0_sz] at this) ?_
  refine Goes.run [] [] trivial ?_
  exact Goes.ret [] (.bool true) fun w' hm hI => ⟨rfl, bel0 hI⟩
end Go.Proofs.Ytfblnjidghijaaa
