/- disk's 'lay': a sector laid into a row of sectors. -/
import Derived.Test.YtkfomolglangdaaKMem
namespace Go.Proofs.Ytkfomolglangdaa
open Go Go.RowKit

set_option maxRecDepth 100000 in
set_option maxHeartbeats 400000 in
theorem lay_any (i : Nat) (cs : List Value) (b n cap : Nat) (cur : Array Value) (w : World) (h128 : cs.length = 128) (h1 : ∀ v ∈ cs, v.oneCell' = true)
    (hi : i < n) (hg : w.heap[b]? = some (.cells cur 70 (0, 0))) (hs : n * 128 ≤ cur.size) :
    Calls Try.prog 37 #[.agg (.int .i64 i :: cs).toArray, .slice (some ⟨b, 0, none⟩) n cap] w fun e w' => e = .returned (.tuple #[]) ∧
      w' = (w.alloc (.cells (.int .i64 i :: cs).toArray 76)).setRow b (relaid cur (i * 128) cs) := by
  have hL := loadAt_k agg70 size70 (w.alloc (.cells (.int .i64 i :: cs).toArray 76)) w.heap.size 1 (.int .i64 i :: cs).toArray 76 (0, 0) cs h128 (heap_alloc_last _ _) (fun j v h => by simpa [Nat.add_comm] using h)
  have hS := storeAt_k size70 (w.alloc (.cells (.int .i64 i :: cs).toArray 76)) b (i * 128) cur 70 cs h128 ((Below.heap_alloc _ _ b (Array.getElem?_eq_some_iff.1 hg).1).trans hg) (by omega) h1
  have hi' : (i : Int) < n := by omega
  have HL := hid hL
  have HS := hid hS
  clear hL hS
  go_enter Try.func37, Try.ntmps37
  go_wp2_with (first | (refine wp_load (t := 70) (p := .tmp 7) rfl HL.out ?_) | (refine wp_store (t := 70) (p := .tmp 9) (q := .tmp 8) rfl rfl HS.out ?_))
  go_end0
  exact ⟨rfl, rfl⟩
end Go.Proofs.Ytkfomolglangdaa
