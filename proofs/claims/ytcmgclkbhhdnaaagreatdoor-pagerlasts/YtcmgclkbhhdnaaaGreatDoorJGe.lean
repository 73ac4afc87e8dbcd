/- texts put together: JOpen JFormat JFit JWriteM JWriteS JWrite -/
import Derived.Test.YtcmgclkbhhdnaaaGreatDoorJGd
namespace Go.Proofs.YtcmgclkbhhdnaaaGreatDoor
open Go Go.RowKit

/-- The sectors of notes, and those of blocks. -/
def DS.notes (s : DS) : List (List UInt8) := (s.now.drop 2).take (nbOf s.n)
def DS.blocks (s : DS) : List (List UInt8) := (s.now.drop (2 + nbOf s.n)).take (nbOf s.n)
def okB (bs : List (List UInt8)) : Bool := bs.zipIdx.all fun x => (blkR x.1 x.2).2 == 0
theorem okB_iff (bs : List (List UInt8)) : okB bs = true ↔ ∀ (k : Nat) (l : List UInt8), bs[k]? = some l → (blkR l k).2 = 0 := by
  unfold okB
  rw [List.all_eq_true]
  constructor
  · intro h k l hl
    have := h (l, k) (List.mem_zipIdx_iff_getElem?.2 (by simpa using hl))
    simpa using this
  · rintro h ⟨l, k⟩ hm
    have := List.mem_zipIdx_iff_getElem?.1 hm
    simpa using h k l (by simpa using this)
/-- What Open does: its answer, the journal's count, the disk. -/
def DS.openR (s : DS) : Int × Int × DS :=
  if (lastR (s.now.getD 0 []) (s.now.getD 1 [])).2 ≠ 0 then ((lastR (s.now.getD 0 []) (s.now.getD 1 [])).2, 0, s) else
  match notesR (nbOf s.n) (lastR (s.now.getD 0 []) (s.now.getD 1 [])).1.1 (lastR (s.now.getD 0 []) (s.now.getD 1 [])).1.2 0 s.notes with
  | none => (62, 0, s)
  | some ns => if okB s.blocks = false then (62, 0, s) else
    ((s.mendR (nbOf s.n) (ns.filter (missF s.blocks))).1, (lastR (s.now.getD 0 []) (s.now.getD 1 [])).1.1, (s.mendR (nbOf s.n) (ns.filter (missF s.blocks))).2)
/-- What Open leaves. -/
def Opened (w : World) (p : Nat) (X : List Nat) (nb : Nat) (R : Int × Int × DS) (e : Ending) (w' : World) : Prop :=
  (∃ X', Disk w' p X' R.2.2 ∧ (∀ k ∈ X', k ∈ X ∨ w.heap.size ≤ k)) ∧ Fr X w w' ∧
  (R.1 ≠ 0 ∧ e = .returned (.tuple #[.pointer none, .int .i64 R.1]) ∨ R.1 = 0 ∧ ∃ j, w.heap.size ≤ j ∧ e = .returned (.tuple #[.pointer (some ⟨j, 0, none⟩), .int .i64 0]) ∧ Jn w' j p nb R.2.1 0)
theorem nbOf_le (n : Nat) (h : 32 ≤ n) : 2 + 2 * nbOf n ≤ n := by unfold nbOf; omega
theorem notes_len {s : DS} (hok : s.Ok) (h : 32 ≤ s.n) : s.notes.length = nbOf s.n := by
  have := nbOf_le s.n h
  unfold DS.notes
  rw [List.length_take, List.length_drop, hok.nowLen]; omega
theorem blocks_len {s : DS} (hok : s.Ok) (h : 32 ≤ s.n) : s.blocks.length = nbOf s.n := by
  have := nbOf_le s.n h
  unfold DS.blocks
  rw [List.length_take, List.length_drop, hok.nowLen]; omega
theorem notes_at {s : DS} (k : Nat) (l : List UInt8) (h : s.notes[k]? = some l) : s.now[2 + k]? = some l := by
  unfold DS.notes at h
  rw [List.getElem?_take] at h
  split at h
  · rw [List.getElem?_drop] at h; exact h
  · cases h
theorem blocks_at {s : DS} (k : Nat) (l : List UInt8) (h : s.blocks[k]? = some l) : s.now[2 + nbOf s.n + k]? = some l := by
  unfold DS.blocks at h
  rw [List.getElem?_take] at h
  split at h
  · rw [List.getElem?_drop] at h; exact h
  · cases h
set_option maxRecDepth 100000 in
set_option maxHeartbeats 8000000 in
theorem open_any {w : World} {p : Nat} {X : List Nat} {s : DS} (hD : Disk w p X s) (ht : Tab w) (hg : s.gone = false) (hn : 32 ≤ s.n) :
    Calls Tryz.prog 25 #[.pointer (some ⟨p, 0, none⟩)] w (Opened w p X (nbOf s.n) s.openR) := by
  have hok := hD.ok
  have hn1 := hok.n1
  have hnb : nbOf s.n ≤ 1000000 := by unfold nbOf; omega
  have h0 : s.now[0]? = some (s.now.getD 0 []) := by
    have : 0 < s.now.length := by rw [hok.nowLen]; omega
    simp [List.getD, this]
  have h1 : s.now[1]? = some (s.now.getD 1 []) := by
    have : 1 < s.now.length := by rw [hok.nowLen]; omega
    simp [List.getD, this]
  have HNL := hid (notes_len hok hn)
  have HBL := hid (blocks_len hok hn)
  have HOV := hid (over_ok hD hn)
  have HLM := hid (fun (w1 : World) (j : Nat) (hB : Below w.heap.size w w1) (hj : Jn w1 j p (nbOf s.n) 0 0) => lastMark_any hj (hD.below hB) (ht.below hB) hg _ _ h0 h1)
  have HNO := hid (fun (w1 : World) (j : Nat) (hB : Below w.heap.size w w1) (hj : Jn w1 j p (nbOf s.n) 0 0) (sq cnt : Int) => notesOf_any hj (hD.below hB) (ht.below hB) hg hnb sq cnt s.notes HNL.out (fun k l => notes_at k l))
  have HMI := hid (fun (w1 : World) (j g : Nat) (hB : Below w.heap.size w w1) (hj : Jn w1 j p (nbOf s.n) 0 0) (v : Value) (ns : List (Nat × List UInt8)) (hns : Nts w1 g v ns) (hl : ns.length ≤ 1000000) (hi : ∀ x ∈ ns, x.1 < nbOf s.n) => missing_any hj (hD.below hB) (ht.below hB) hns hg hnb hl hi s.blocks HBL.out (fun k l => blocks_at k l))
  have HME := hid (fun (w1 : World) (j g : Nat) (hB : Below w.heap.size w w1) (hj : Jn w1 j p (nbOf s.n) 0 0) (v : Value) (ns : List (Nat × List UInt8)) (hns : Nts w1 g v ns) (hl : ns.length ≤ 1000000) (hi : ∀ x ∈ ns, x.1 ≤ 1000000) => mend_any hj (hD.below hB) hns hnb hl hi)
  have HSTAY : Hid (∀ (w1 : World) (ev : Int), Below w.heap.size w w1 → ev ≠ 0 → Opened w p X (nbOf s.n) (ev, 0, s) (.returned (.tuple #[.pointer none, .int .i64 ev])) w1) := hid (fun w1 ev hB hne => ⟨⟨X, hD.below hB, fun k hk => .inl hk⟩, Fr.of_below (X := X) hB, .inl ⟨hne, rfl⟩⟩)
  have HNB := hid hnb
  have HDB := hid (fun (w1 : World) (hB : Below w.heap.size w w1) => hD.below hB)
  obtain ⟨RR, hRR⟩ : ∃ RR, RR = s.openR := ⟨_, rfl⟩
  rw [← hRR]
  unfold DS.openR at hRR
  generalize hlast : lastR (s.now.getD 0 []) (s.now.getD 1 []) = L at *
  obtain ⟨⟨ls, lc⟩, le⟩ := L
  have HRR := hid hRR
  dsimp only at HLM
  clear hD ht hg hn hok hn1 hnb h0 h1 hRR hlast
  generalize s.mendR (nbOf s.n) = MR at *
  generalize nbOf s.n = nb at *
  go_enter Tryz.func25, Tryz.ntmps25
  go_wp2_with fail
  refine HOV.out.mono ?_
  rintro e w1 ⟨rfl, hJ1, hB1⟩
  generalize hjb : w.heap.size = jb at *
  have HLM1 := hid (HLM.out w1 jb hB1 hJ1)
  have HJ1 := hid hJ1
  have HB1 := hid hB1
  clear hJ1 hB1 HOV HLM
  go_upto_region 4 with fail
  refine wp_region_lit ?_
  refine wp_y (v := .pointer (some ⟨jb, 0, none⟩)) rfl rfl (y_move rfl) rfl ?_
  refine wp_call (f := 69) (args := #[.pointer (some ⟨jb, 0, none⟩)]) (by kernel_rfl) (fun w => by go_simp) ?_
  refine HLM1.out.mono ?_
  rintro e w2 ⟨rfl, hB2⟩
  refine ⟨_, rfl, ?_⟩
  dsimp only [Act.put]
  refine wp_y (v := .tuple #[.agg #[.int .i64 ls, .int .i64 lc], .int .i64 le]) rfl rfl (y_move rfl) rfl ?_
  refine wp_y (v := .agg #[.int .i64 ls, .int .i64 lc]) rfl rfl (y_ext rfl (hr := ext2_0 (.agg #[.int .i64 ls, .int .i64 lc]) (.int .i64 le))) rfl ?_
  refine wp_y (v := .int .i64 le) rfl rfl (y_ext rfl (hr := ext2_1 (.agg #[.int .i64 ls, .int .i64 lc]) (.int .i64 le))) rfl ?_
  refine wp_run (v := .pointer (some ⟨w2.heap.size, 0, none⟩)) rfl rfl (run_alOp rfl (alloc78 w2)) rfl ?_
  refine wp_do rfl rfl (run_storeOp rfl (by kernel_rfl) (by kernel_rfl) (store78 (show Hd _ w2.heap.size 0 0 from heap_alloc_last w2 _) ls lc)) ?_
  refine wp_y (v := .int .i64 le) rfl rfl (y_assign rfl) rfl ?_
  try simp only [List.setIfInBounds_toArray, List.set_cons_zero, List.set_cons_succ]
  refine wp_end ?_
  have hh3 : Hd ((w2.alloc (.cells #[.int .i64 0, .int .i64 0] 131)).setRow w2.heap.size #[.int .i64 ls, .int .i64 lc]) w2.heap.size ls lc := Hd.row (show Hd (w2.alloc (.cells #[.int .i64 0, .int .i64 0] 131)) w2.heap.size 0 0 from heap_alloc_last w2 _) ls lc
  have hB3 : Below w2.heap.size w2 ((w2.alloc (.cells #[.int .i64 0, .int .i64 0] 131)).setRow w2.heap.size #[.int .i64 ls, .int .i64 lc]) := below_row ((Below.refl _ _).alloc (Nat.le_refl _) _) (Nat.le_refl _) _
  have hB13 := hB2.trans (hB3.mono hB2.size)
  generalize (w2.alloc (.cells #[.int .i64 0, .int .i64 0] 131)).setRow w2.heap.size #[.int .i64 ls, .int .i64 lc] = w3 at *
  generalize w2.heap.size = ab at *
  have HH3 := hid hh3
  have HJ3 := hid (show Jn w3 jb p nb 0 0 from below_at hB13 HJ1.out (heap_lt HJ1.out))
  have hB03 : Below jb w w3 := HB1.out.trans (hB13.mono (by have := heap_lt HJ1.out; omega))
  have HB3 := hid hB03
  clear hh3 hB3 hB13 hB2 hB03 HJ1 HB1 HLM1
  clear w1 w2
  by_cases hle : le = 0
  · subst hle
    have hRR := HRR.out
    rw [if_neg (by simp)] at hRR
    have HNO3 := hid (HNO.out w3 jb HB3.out HJ3.out ls lc)
    clear HRR HNO
    cases hns : notesR nb ls lc 0 s.notes with
    | none =>
      simp only [hns] at hRR
      rw [hns] at HNO3
      subst hRR
      go_upto_region 7 with fail
      refine wp_region_lit ?_
      refine wp_y (v := .pointer (some ⟨jb, 0, none⟩)) rfl rfl (y_move rfl) rfl ?_
      refine wp_y (v := .agg #[.int .i64 ls, .int .i64 lc]) rfl rfl (y_load rfl (hl := fun w' h => by subst h; exact load78 HH3.out)) rfl ?_
      refine wp_call (f := 70) (args := #[.pointer (some ⟨jb, 0, none⟩), .agg #[.int .i64 ls, .int .i64 lc]]) (by kernel_rfl) (fun w => by go_simp) ?_
      refine HNO3.out.mono ?_
      rintro e w4 ⟨hn4, hB4⟩
      subst hn4
      refine ⟨_, rfl, ?_⟩
      dsimp only [Act.put]
      refine wp_y (v := .tuple #[.slice none 0 0, .int .i64 62]) rfl rfl (y_move rfl) rfl ?_
      refine wp_y (v := .slice none 0 0) rfl rfl (y_ext rfl (hr := ext2_0 (.slice none 0 0) (.int .i64 62))) rfl ?_
      refine wp_y (v := .int .i64 62) rfl rfl (y_ext rfl (hr := ext2_1 (.slice none 0 0) (.int .i64 62))) rfl ?_
      refine wp_y (v := .slice none 0 0) rfl rfl (y_assign rfl) rfl ?_
      refine wp_y (v := .int .i64 62) rfl rfl (y_assign rfl) rfl ?_
      try simp only [List.setIfInBounds_toArray, List.set_cons_zero, List.set_cons_succ]
      refine wp_end ?_
      have HZ := hid (HSTAY.out w4 62 (HB3.out.trans (hB4.mono (by have := heap_lt HJ3.out; omega))) (by decide))
      clear hB4 HNO3 HMI HME HSTAY hns HNL HBL HNB HJ3 HH3
      generalize ((62 : Int), (0 : Int), s) = R0 at *
      go_wp2
      go_ret2
      exact HZ.out
    | some ns =>
      simp only [hns] at hRR
      rw [hns] at HNO3
      have HNS := hid (And.intro (notesR_len _ _ _ _ _ _ hns) (notesR_mem _ _ _ _ _ _ hns))
      clear hns
      have HRR := hid hRR
      clear hRR
      go_upto_region 7 with fail
      refine wp_region_lit ?_
      refine wp_y (v := .pointer (some ⟨jb, 0, none⟩)) rfl rfl (y_move rfl) rfl ?_
      refine wp_y (v := .agg #[.int .i64 ls, .int .i64 lc]) rfl rfl (y_load rfl (hl := fun w' h => by subst h; exact load78 HH3.out)) rfl ?_
      refine wp_call (f := 70) (args := #[.pointer (some ⟨jb, 0, none⟩), .agg #[.int .i64 ls, .int .i64 lc]]) (by kernel_rfl) (fun w => by go_simp) ?_
      refine HNO3.out.mono ?_
      rintro e w4 ⟨hn4, hB4⟩
      obtain ⟨v4, rfl, hn4⟩ := hn4
      refine ⟨_, rfl, ?_⟩
      dsimp only [Act.put]
      refine wp_y (v := .tuple #[v4, .int .i64 0]) rfl rfl (y_move rfl) rfl ?_
      refine wp_y (v := v4) rfl rfl (y_ext rfl (hr := ext2_0 (v4) (.int .i64 0))) rfl ?_
      refine wp_y (v := .int .i64 0) rfl rfl (y_ext rfl (hr := ext2_1 (v4) (.int .i64 0))) rfl ?_
      refine wp_y (v := v4) rfl rfl (y_assign rfl) rfl ?_
      refine wp_y (v := .int .i64 0) rfl rfl (y_assign rfl) rfl ?_
      try simp only [List.setIfInBounds_toArray, List.set_cons_zero, List.set_cons_succ]
      refine wp_end ?_
      obtain ⟨g4, hg4⟩ := hn4.nts
      have hJ4 : Jn w4 jb p nb 0 0 := below_at hB4 HJ3.out (heap_lt HJ3.out)
      have hB04 : Below jb w w4 := HB3.out.trans (hB4.mono (by have := heap_lt HJ3.out; omega))
      have hnl : ns.length ≤ 1000000 := by have h1 := HNS.out.1; have h2 := HNL.out; have h3 := HNB.out; omega
      have HMI4 := hid (HMI.out w4 jb g4 hB04 hJ4 v4 ns hg4 hnl (fun x hx => (HNS.out.2 x hx).1))
      have HH4 := hid (show Hd w4 ab ls lc from below_at hB4 HH3.out (heap_lt HH3.out))
      have HJ4 := hid hJ4
      have HB4 := hid hB04
      have HNL4 := hid hnl
      clear hn4 hg4 hJ4 hB04 hB4 hnl HNO3 HMI HJ3 HH3 HB3
      clear w3
      go_wp2_with fail
      refine HMI4.out.mono ?_
      rintro e w5 ⟨hM5, hB5⟩
      have hJ5 : Jn w5 jb p nb 0 0 := below_at hB5 HJ4.out (heap_lt HJ4.out)
      have hB05 : Below jb w w5 := HB4.out.trans (hB5.mono (by have := heap_lt HJ4.out; omega))
      have hH5 : Hd w5 ab ls lc := below_at hB5 HH4.out (heap_lt HH4.out)
      rcases hM5 with ⟨⟨k, l, hkl, hbad⟩, rfl⟩ | ⟨hall, v5, rfl, hn5⟩
      · have hobk : okB s.blocks = false := by
          cases h : okB s.blocks with
          | false => rfl
          | true => exact absurd ((okB_iff _).1 h k l hkl) hbad
        have hRR := HRR.out
        rw [if_pos hobk] at hRR
        subst hRR
        have HZ := hid (HSTAY.out w5 62 hB05 (by decide))
        clear hJ5 hB05 hH5 hkl hbad hB5 HRR HMI4 HME HSTAY HNS HNL HBL HNB HJ4 HH4 HB4 HNL4 hobk
        generalize ((62 : Int), (0 : Int), s) = R0 at *
        go_wp2
        go_ret2
        exact HZ.out
      · have hobk : okB s.blocks = true := (okB_iff _).2 hall
        have hRR := HRR.out
        rw [if_neg (by rw [hobk]; decide)] at hRR
        obtain ⟨g5, hg5⟩ := hn5.nts
        have hfl : (ns.filter (missF s.blocks)).length ≤ 1000000 := Nat.le_trans (List.length_filter_le _ _) HNL4.out
        have HME5 := hid (HME.out w5 jb g5 hB05 hJ5 v5 _ hg5 hfl (fun x hx => by have h1 := (HNS.out.2 x (List.mem_filter.1 hx).1).1; have h2 := HNB.out; omega))
        have HH5 := hid hH5
        have HB5 := hid hB05
        have HR6 := hid hRR
        have hjl := heap_lt hJ5
        have HABN := hid (hd_not (HDB.out w5 hB05) hJ5 hH5)
        clear hJ5 hB05 hH5 hB5 hRR hn5 hg5 hfl hall hobk HMI4 HME HNS HNL HBL HNB HJ4 HH4 HB4 HNL4 HDB HRR
        generalize MR (ns.filter (missF s.blocks)) = M at *
        obtain ⟨me, ms⟩ := M
        dsimp only at HR6
        go_wp2_with fail
        refine HME5.out.mono ?_
        rintro e w6 ⟨rfl, hJ6, X6, hD6, hX6, hF6⟩
        have hH6 : Hd w6 ab ls lc := hF6.at HH5.out HABN.out
        have hF06 : Fr X w w6 := (Fr.of_below (X := X) (show Below w.heap.size w w5 by rw [hjb]; exact HB5.out)).trans hF6 (fun k hk => by
          rcases List.mem_cons.1 hk with rfl | hk
          · exact .inr (by omega)
          · exact .inl hk)
        have hX6' : ∀ k ∈ X6, k ∈ X ∨ w.heap.size ≤ k := fun k hk => by
          rcases hX6 k hk with h | h
          · exact .inl h
          · exact .inr (by have := HB5.out.size; omega)
        dsimp only at hJ6 hD6 ⊢
        clear HME5 HB5 HH5 HABN hF6 hX6 HSTAY
        by_cases hme : me = 0
        · subst hme
          have hd0 : w6.cell? ⟨ab, 0, none⟩ = some (.int .i64 ls) := cell_at hH6 0 rfl
          have hd2 := hJ6.c2
          have hf2 := hJ6.f 2
          have hJ7 : Jn (w6.setCell ⟨jb, 2, none⟩ (.int .i64 ls)) jb p nb ls 0 := heap_setCell hJ6 2 (.int .i64 ls)
          have hFj := Fr.setCell w6 jb 2 (.int .i64 ls)
          have hD7 := hD6.fr hFj (hD6.jnot hJ6)
          have hF07 : Fr X w (w6.setCell ⟨jb, 2, none⟩ (.int .i64 ls)) := hF06.trans hFj (fun k hk => .inr (by simp at hk; omega))
          have HZ : Hid (Opened w p X nb RR (.returned (.tuple #[.pointer (some ⟨jb, 0, none⟩), .int .i64 0])) (w6.setCell ⟨jb, 2, none⟩ (.int .i64 ls))) := hid (by
            rw [HR6.out]
            exact ⟨⟨X6, hD7, hX6'⟩, hF07, .inr ⟨rfl, jb, by omega, rfl, hJ7⟩⟩)
          clear hJ7 hFj hD7 hF07 hJ6 hD6 hH6 hF06 hX6' HR6
          go_wp2
          go_ret2
          exact HZ.out
        · have HZ : Hid (Opened w p X nb RR (.returned (.tuple #[.pointer none, .int .i64 me])) w6) := hid (by
            rw [HR6.out]
            exact ⟨⟨X6, hD6, hX6'⟩, hF06, .inl ⟨hme, rfl⟩⟩)
          clear hJ6 hD6 hH6 hF06 hX6' HR6
          go_wp2
          go_ret2
          exact HZ.out
  · have hRR := HRR.out
    rw [if_pos hle] at hRR
    subst hRR
    have HZ := hid (HSTAY.out w3 le HB3.out hle)
    clear HRR HNO HMI HME HSTAY HNL HBL HNB HJ3 HH3
    generalize (le, (0 : Int), s) = R0 at *
    go_wp2
    go_ret2
    exact HZ.out
end Go.Proofs.YtcmgclkbhhdnaaaGreatDoor
namespace Go.Proofs.YtcmgclkbhhdnaaaGreatDoor
open Go Go.RowKit

theorem fill_pair (n : Nat) (z : Array Value) (hz : z.size = 2 * n) (xs ys : List Value) (ha : xs.length = n) (hb : ys.length = n) :
    Instr.fill (fun i => some (i * n, n)) z [(0, .agg xs.toArray), (1, .agg ys.toArray)] = some (xs ++ ys).toArray := by
  unfold Instr.fill
  simp only [Value.cells, List.size_toArray, ha, hz, Nat.zero_mul]
  rw [if_neg (by simp; omega)]
  have hs := fold_size xs 0 0 z
  have h1 : ∀ i, ((xs.zipIdx 0).foldl (fun (cs : Array Value) (x : Value × Nat) => cs.setIfInBounds (0 + x.2) x.1) z)[i]? = if i < n then xs[i]? else z[i]? := fun i => by
    have := fold_get xs 0 0 z i (by rw [hz, ha]; omega)
    rw [this, ha]
    by_cases h : i < n
    · rw [if_pos (by omega), if_pos h, Nat.add_zero, Nat.sub_zero]
    · rw [if_neg (by omega), if_neg h]
  have e : (xs.toArray.zipIdx.foldl (fun (cs : Array Value) (x : Value × Nat) => match x with | (c, j) => cs.setIfInBounds (0 + j) c) z) = ((xs.zipIdx 0).foldl (fun (cs : Array Value) (x : Value × Nat) => cs.setIfInBounds (0 + x.2) x.1) z) := by
    rw [← Array.foldl_toList, Array.toList_zipIdx]
  rw [e]
  generalize (xs.zipIdx 0).foldl (fun (cs : Array Value) (x : Value × Nat) => cs.setIfInBounds (0 + x.2) x.1) z = z1 at *
  unfold Instr.fill
  simp only [Value.cells, List.size_toArray, hb, hs, hz, Nat.one_mul]
  rw [if_neg (by simp; omega)]
  unfold Instr.fill
  congr 1
  apply Array.ext_getElem?
  intro i
  have h2 := fold_get ys 0 n z1 i (by rw [hs, hz, hb]; omega)
  rw [← Array.foldl_toList, Array.toList_zipIdx]
  simp only at h2 ⊢
  rw [h2, hb]
  by_cases hi : i < n
  · rw [if_neg (by omega), h1, if_pos hi, List.getElem?_toArray, List.getElem?_append_left (by omega)]
  · by_cases hi2 : i < 2 * n
    · rw [if_pos (by omega), List.getElem?_toArray, List.getElem?_append_right (by omega), ha, Nat.add_zero]
    · rw [if_neg (by omega), h1, if_neg hi, Array.getElem?_eq_none (by omega), List.getElem?_toArray, List.getElem?_eq_none (by rw [List.length_append]; omega)]
theorem build78a (w : World) (x : Int) : (Instr.build 131 #[(0, .int .i64 x)]).run Tryz.prog w = .ok (.agg #[.int .i64 x, .int .i64 0]) w := by go_simp
theorem build78b (w : World) (x : Int) : (Instr.build 131 #[(1, .int .i64 x)]).run Tryz.prog w = .ok (.agg #[.int .i64 0, .int .i64 x]) w := by go_simp
theorem under79 : Tryz.prog.underlying 143 = some (.array 2 141) := by kernel_rfl
theorem size79 : (Tryz.prog.info? 143).map (·.size) = some 256 := by kernel_rfl
theorem build79 (w : World) (a b : List UInt8) (ha : a.length = 128) (hb : b.length = 128) : (Instr.build 143 #[(0, V8 a), (1, V8 b)]).run Tryz.prog w = .ok (V8 (a ++ b)) w := by
  have hz : (zeroValue 143).run Tryz.prog w = .ok (.agg (cells8 (List.replicate (2 * 128) 0)).toArray) w := (zero_of_info (n := 256) (by kernel_rfl)).1 w
  unfold Instr.build
  simp only [Sem.run_bind, hz, Result.andThen_ok, run_underlying under79, run_size size75]
  have h := fill_pair 128 (cells8 (List.replicate (2 * 128) 0)).toArray (by rw [cells8_size, List.length_replicate]) (cells8 a) (cells8 b) (by rw [cells8_len]; exact ha) (by rw [cells8_len]; exact hb)
  simp only [V8, Value.cells]
  rw [h]
  simp [cells8, Sem.run_pure]
theorem store79 {w : World} {g : Nat} {t : TypeId} {l l' : List UInt8} (hl : l.length = 256) (hl' : l'.length = 256) (h : Rw w g t l) : (Instr.storeAt 143 (.pointer (some ⟨g, 0, none⟩)) (V8 l')).run Tryz.prog w = .ok () (w.setRow g (cells8 l').toArray) := by
  simp only [Instr.storeAt, Instr.sureAddr, Sem.run_bind, Sem.run_pure, Result.andThen]
  exact run_storeVar_row w g _ _ (cells8 l).toArray (cells8 l').toArray h (by rw [cells8_size, hl']; exact size79) (by rw [cells8_size, cells8_size, hl, hl']) (by simp [cells8]; intro x _; rfl)
theorem frs_two {w : World} {g : Nat} {t : TypeId} {a b : List UInt8} (ha : a.length = 128) (hb : b.length = 128) (h : Rw w g t (a ++ b)) : Frs w g t [a, b] := by
  refine ⟨by simp [ha, hb], _, h, by rw [cells8_size, List.length_append]; simp; omega, fun i f hf j v hj => ?_⟩
  have hjl := (List.getElem?_eq_some_iff.1 hj).1
  rw [cells8_len] at hjl
  have e : cells8 (a ++ b) = cells8 a ++ cells8 b := by simp [cells8]
  rw [List.getElem?_toArray, e]
  match i, hf with
  | 0, hf =>
    cases hf
    rw [List.getElem?_append_left (by rw [cells8_len]; omega), Nat.zero_mul, Nat.zero_add]; exact hj
  | 1, hf =>
    cases hf
    rw [List.getElem?_append_right (by rw [cells8_len]; omega), cells8_len, ha, show 1 * 128 + j - 128 = j by omega]; exact hj
  | i + 2, hf => simp at hf
theorem frs_not {w : World} {p : Nat} {X : List Nat} {s : DS} {j nb : Nat} {seq off : Int} {g : Nat} {fs : List (List UInt8)} (hD : Disk w p X s) (hj : Jn w j p nb seq off) (h : Frs w g 143 fs) : g ∉ j :: X := fun hm => by
  obtain ⟨_, cur, hg, _⟩ := h
  rcases List.mem_cons.1 hm with rfl | hm
  · rw [Jn, hg] at hj; cases hj
  · exact hD.other hg (by decide) (by decide) hm
theorem rw_not {w : World} {p : Nat} {X : List Nat} {s : DS} {j nb : Nat} {seq off : Int} {g : Nat} {l : List UInt8} (hD : Disk w p X s) (hj : Jn w j p nb seq off) (h : Rw w g 141 l) : g ∉ j :: X := fun hm => by
  rcases List.mem_cons.1 hm with rfl | hm
  · rw [Jn, show w.heap[g]? = _ from h] at hj
    injection hj with hj
    injection hj with h1 h2
    exact absurd h2 (by decide)
  · exact hD.other h (by decide) (by decide) hm
theorem Frs.fr {X : List Nat} {w w' : World} {g : Nat} {t : TypeId} {fs : List (List UInt8)} (h : Frs w g t fs) (hF : Fr X w w') (hX : g ∉ X) : Frs w' g t fs := by
  obtain ⟨h1, cur, h2, h3⟩ := h; exact ⟨h1, cur, hF.at h2 hX, h3⟩
theorem DS.puts_append (L M : List (Nat × List UInt8)) : ∀ s : DS, s.puts (L ++ M) = if (s.puts L).1 = 0 then (s.puts L).2.puts M else s.puts L := by
  induction L with
  | nil => intro s; simp [DS.puts]
  | cons y L ih =>
    intro s
    simp only [List.cons_append, DS.puts]
    split
    · exact ih _
    · rfl
theorem Fr.jt {X : List Nat} {w a b : World} {j : Nat} (h : Fr X w a) (k : Fr (j :: X) a b) (hj : w.heap.size ≤ j) : Fr X w b :=
  h.trans k (fun x hx => by
    rcases List.mem_cons.1 hx with rfl | hx
    · exact .inr hj
    · exact .inl hx)
/-- What Format lays, and where. -/
def marksL : List (Nat × List UInt8) := [(0, frameOf markK [] 0 0), (1, frameOf markK [] (-1) 0)]
def bothL (nb i : Nat) : List (Nat × List UInt8) := [(2 + i, frameOf blockK [] 0 (i : Nat)), (2 + nb + i, frameOf blockK [] 0 (i : Nat))]
def formL (nb k : Nat) : List (Nat × List UInt8) := marksL ++ (List.range k).flatMap (bothL nb)
theorem formL_succ (nb k : Nat) : formL nb (k + 1) = (formL nb k ++ [(2 + k, frameOf blockK [] 0 (k : Nat))]) ++ [(2 + nb + k, frameOf blockK [] 0 (k : Nat))] := by
  unfold formL
  rw [List.range_succ, List.flatMap_append]
  simp [bothL]
theorem formL_pre (nb k : Nat) (h : k ≤ nb) : ∃ r, formL nb nb = formL nb k ++ r := by
  refine ⟨((List.range nb).drop k).flatMap (bothL nb), ?_⟩
  unfold formL
  rw [List.append_assoc, ← List.flatMap_append]
  congr 2
  have := List.take_append_drop k (List.range nb)
  rw [List.take_range, Nat.min_eq_left h] at this
  rw [this]
/-- What Format does. -/
def DS.formR (s : DS) (nb : Nat) : Int × DS := if (s.puts (formL nb nb)).1 = 0 then (s.puts (formL nb nb)).2.fl else s.puts (formL nb nb)
/-- What Format leaves. -/
def Formed (w : World) (p : Nat) (X : List Nat) (R : Int × DS) (e : Ending) (w' : World) : Prop :=
  e = .returned (.int .i64 R.1) ∧ (∃ X', Disk w' p X' R.2 ∧ (∀ k ∈ X', k ∈ X ∨ w.heap.size ≤ k)) ∧ Fr X w w'
theorem formR_stop {s : DS} {nb k : Nat} (hk : k < nb) (h : (s.puts (formL nb k ++ [(2 + k, frameOf blockK [] 0 (k : Nat))])).1 ≠ 0) : s.formR nb = s.puts (formL nb k ++ [(2 + k, frameOf blockK [] 0 (k : Nat))]) := by
  obtain ⟨r, hr⟩ := formL_pre nb (k + 1) hk
  unfold DS.formR
  rw [hr, formL_succ, List.append_assoc, DS.puts_append, if_neg h, if_neg h]
theorem formR_stop2 {s : DS} {nb k : Nat} (hk : k < nb) (h : (s.puts (formL nb (k + 1))).1 ≠ 0) : s.formR nb = s.puts (formL nb (k + 1)) := by
  obtain ⟨r, hr⟩ := formL_pre nb (k + 1) hk
  unfold DS.formR
  rw [hr, DS.puts_append, if_neg h, if_neg h]
theorem formR_stop0 {s : DS} {nb k : Nat} (h : (s.puts (marksL.take k)).1 ≠ 0) : s.formR nb = s.puts (marksL.take k) := by
  have h1 := DS.puts_stop marksL s k h
  have h2 : (s.puts marksL).1 ≠ 0 := by rw [h1]; exact h
  unfold DS.formR formL
  rw [DS.puts_append, if_neg h2, if_neg h2, h1]
set_option maxRecDepth 100000 in
set_option maxHeartbeats 8000000 in
theorem format_any {w : World} {p : Nat} {X : List Nat} {s : DS} (hD : Disk w p X s) (ht : Tab w) (hn : 32 ≤ s.n) :
    Calls Tryz.prog 31 #[.pointer (some ⟨p, 0, none⟩)] w (Formed w p X (s.formR (nbOf s.n))) := by
  have hn1 := hD.ok.n1
  have hnb : nbOf s.n ≤ 1000000 := by unfold nbOf; omega
  have HOV := hid (over_ok hD hn)
  have HNB := hid hnb
  have HD := hid hD
  have HT := hid ht
  clear hD ht hn hn1 hnb
  generalize nbOf s.n = nb at *
  go_enter Tryz.func31, Tryz.ntmps31
  go_wp2_with fail
  refine HOV.out.mono ?_
  rintro e w1 ⟨rfl, hJ1, hB1⟩
  have HJ1 := hid hJ1
  have HD1 := hid (HD.out.below hB1)
  have HT1 := hid (HT.out.below hB1)
  have HB1 := hid hB1
  clear hJ1 hB1 HOV HD HT
  generalize hjb : w.heap.size = jb at *
  go_upto_region 4 with fail
  refine wp_region_lit ?_
  refine wp_run (v := .agg #[.int .i64 0, .int .i64 0]) rfl rfl (run_buildOp rfl (by kernel_rfl) (build78a _ 0)) rfl ?_
  refine wp_call (f := 74) (args := #[.string ⟨markK.toArray⟩, .slice none 0 0, .agg #[.int .i64 0, .int .i64 0]]) (by kernel_rfl) (fun w => by go_simp) ?_
  refine (framed_any markK [] 0 0 _ w1 HT1.out (Sl.nil _) (by omega) (by omega) (by decide)).mono ?_
  rintro e w2 ⟨rfl, hB2⟩
  refine ⟨_, rfl, ?_⟩
  dsimp only [Act.put]
  refine wp_run (v := .agg #[.int .i64 (-1), .int .i64 0]) rfl rfl (run_buildOp rfl (by kernel_rfl) (build78a _ (-1))) rfl ?_
  refine wp_call (f := 74) (args := #[.string ⟨markK.toArray⟩, .slice none 0 0, .agg #[.int .i64 (-1), .int .i64 0]]) (by kernel_rfl) (fun w => by go_simp) ?_
  refine (framed_any markK [] (-1) 0 _ w2 (HT1.out.below hB2) (Sl.nil _) (by omega) (by omega) (by decide)).mono ?_
  rintro e w3 ⟨rfl, hB3⟩
  refine ⟨_, rfl, ?_⟩
  dsimp only [Act.put]
  refine wp_run (v := V8 (frameOf markK [] 0 0 ++ frameOf markK [] (-1) 0)) rfl rfl (run_buildOp rfl (by kernel_rfl) (build79 _ _ _ (frameOf_len _ _ _ _) (frameOf_len _ _ _ _))) rfl ?_
  refine wp_run (v := .pointer (some ⟨w3.heap.size, 0, none⟩)) rfl rfl (run_alOp rfl (alloc79 w3)) rfl ?_
  refine wp_do rfl rfl (run_storeOp rfl (by kernel_rfl) (by kernel_rfl) (store79 (l' := frameOf markK [] 0 0 ++ frameOf markK [] (-1) 0) (by rw [List.length_replicate]) (by rw [List.length_append, frameOf_len, frameOf_len]) (show Rw _ w3.heap.size 143 (List.replicate (2 * 128) 0) from heap_alloc_last w3 _))) ?_
  try simp only [List.setIfInBounds_toArray, List.set_cons_zero, List.set_cons_succ]
  refine wp_end ?_
  have hm4 : Frs ((w3.alloc (.cells (cells8 (List.replicate (2 * 128) 0)).toArray 143)).setRow w3.heap.size (cells8 (frameOf markK [] 0 0 ++ frameOf markK [] (-1) 0)).toArray) w3.heap.size 143 [frameOf markK [] 0 0, frameOf markK [] (-1) 0] := frs_two (frameOf_len _ _ _ _) (frameOf_len _ _ _ _) (Rw.row (heap_alloc_last w3 _) _)
  have hB4 : Below w3.heap.size w3 ((w3.alloc (.cells (cells8 (List.replicate (2 * 128) 0)).toArray 143)).setRow w3.heap.size (cells8 (frameOf markK [] 0 0 ++ frameOf markK [] (-1) 0)).toArray) := below_row ((Below.refl _ _).alloc (Nat.le_refl _) _) (Nat.le_refl _) _
  have hB14 := (hB2.trans (hB3.mono hB2.size)).trans (hB4.mono (Nat.le_trans hB2.size hB3.size))
  generalize (w3.alloc (.cells (cells8 (List.replicate (2 * 128) 0)).toArray 143)).setRow w3.heap.size (cells8 (frameOf markK [] 0 0 ++ frameOf markK [] (-1) 0)).toArray = w4 at *
  generalize w3.heap.size = mb at *
  have HM4 := hid hm4
  have HJ4 := hid (show Jn w4 jb p nb 0 0 from below_at hB14 HJ1.out (heap_lt HJ1.out))
  have HD4 := hid (HD1.out.below hB14)
  have HT4 := hid (HT1.out.below hB14)
  have HF4 := hid (show Fr X w w4 from Fr.of_below (X := X) (by rw [hjb]; exact HB1.out.trans (hB14.mono (by have := heap_lt HJ1.out; omega))))
  have hjw : w.heap.size ≤ jb := by omega
  clear hm4 hB4 hB14 hB2 hB3 HJ1 HD1 HT1 HB1
  clear w1 w2 w3
  go_wp2_with fail
  go_loopw [25, 6, 7] (fun y _ _ wr => ∃ (k : Nat) (of : Int), k ≤ 2 ∧ y = .int .i64 k ∧ Jn wr jb p nb 0 of ∧ (s.puts (marksL.take k)).1 = 0 ∧ Disk wr p X (s.puts (marksL.take k)).2 ∧ Frs wr mb 143 [frameOf markK [] 0 0, frameOf markK [] (-1) 0] ∧ Tab wr ∧ Fr X w wr) (fun y _ _ _ => 2 - (intOf y).toNat)
  case atStart => exact ⟨0, 0, by omega, rfl, HJ4.out, rfl, HD4.out, HM4.out, HT4.out, HF4.out⟩
  case round =>
    clear HJ4 HD4 HM4 HT4 HF4
    obtain ⟨k, of, hk, rfl, hJr, h0, hDr, hMr, hTr, hFr⟩ := hrel
    have hwk : IntKind.i64.wrap ((k : Int) + 1) = ((k + 1 : Nat) : Int) := by rw [IntWalk.i64_in _ ⟨by omega, by omega⟩]; omega
    by_cases hlt : k < 2
    · have hlt' : (k : Int) < 2 := by omega
      obtain ⟨f, hf, hfm, hfl⟩ : ∃ f, [frameOf markK [] 0 0, frameOf markK [] (-1) 0][k]? = some f ∧ marksL[k]? = some (k, f) ∧ f.length = 128 := by
        match k, hlt with
        | 0, _ => exact ⟨_, rfl, rfl, frameOf_len _ _ _ _⟩
        | 1, _ => exact ⟨_, rfl, rfl, frameOf_len _ _ _ _⟩
      have hst := DS.puts_take hfm s
      rw [if_pos h0] at hst
      obtain ⟨s2, hs2⟩ : ∃ s2, s2 = (s.puts (marksL.take k)).2 := ⟨_, rfl⟩
      rw [← hs2] at hDr hst
      have HLD := hid (hMr.load hf)
      have HFL := hid hfl
      have HJ := hid hJr
      have HD := hid hDr
      have HM := hid hMr
      have HT := hid hTr
      have HF := hid hFr
      have HST := hid hst
      have HMN := hid (frs_not hDr hJr hMr)
      have HTN := hid (tab_not hDr hJr hTr)
      clear hf hfm hfl hst hs2 h0 hJr hDr hMr hTr hFr
      go_upto_region 8 with fail
      refine wp_region_lit ?_
      refine wp_y (v := .pointer (some ⟨jb, 0, none⟩)) rfl rfl (y_move rfl) rfl ?_
      refine wp_y (v := .int .i64 k) rfl rfl (y_move rfl) rfl ?_
      refine wp_y (v := .int .i64 k) rfl rfl (y_move rfl) rfl ?_
      refine wp_y (v := .pointer (some ⟨mb, k * 128, none⟩)) rfl rfl (y_index rfl (hr := idx79 mb k hlt)) rfl ?_
      refine wp_y (v := V8 f) rfl rfl (y_load rfl (hl := fun w' h => by subst h; exact HLD.out)) rfl ?_
      refine wp_call (f := 75) (args := #[.pointer (some ⟨jb, 0, none⟩), .int .i64 k, V8 f]) (by kernel_rfl) (fun w => by go_simp) ?_
      refine (put_any HJ.out HD.out (k : Nat) f HFL.out).mono ?_
      rintro e w3 ⟨rfl, hJ3, hD3, hF3⟩
      refine ⟨_, rfl, ?_⟩
      dsimp only [Act.put]
      refine wp_y (v := .int .i64 (s2.wr (k : Nat) f).1) rfl rfl (y_assign rfl) rfl ?_
      try simp only [List.setIfInBounds_toArray, List.set_cons_zero, List.set_cons_succ]
      refine wp_end ?_
      have hM3 := HM.out.fr hF3 HMN.out
      have hT3 : Tab w3 := HT.out.fr hF3 HTN.out
      have hF03 := HF.out.jt hF3 hjw
      by_cases he : (s2.wr (k : Nat) f).1 = 0
      · have HZ := hid (And.intro hJ3 (And.intro (show (s.puts (marksL.take (k + 1))).1 = 0 by rw [HST.out]; exact he) (And.intro (show Disk w3 p X (s.puts (marksL.take (k + 1))).2 by rw [HST.out]; exact hD3) (And.intro hM3 (And.intro hT3 hF03)))))
        rw [he] at HZ ⊢
        clear hJ3 hD3 hM3 hT3 hF3 hF03 he HLD HFL HJ HD HM HT HF HST HMN HTN
        go_wp2
        exact ⟨⟨k + 1, 0, by omega, rfl, HZ.out⟩, by simp [intOf]; omega⟩
      · have HL : Hid (∀ e, e = .returned (.int .i64 (s2.wr (k : Nat) f).1) → Formed w p X (s.formR nb) e w3) := hid (fun e h => by
          rw [formR_stop0 (k := k + 1) (by rw [HST.out]; exact he), HST.out]
          exact ⟨h, ⟨X, hD3, fun k hk => .inl hk⟩, hF03⟩)
        generalize (s2.wr (k : Nat) f).1 = ev at *
        clear hJ3 hD3 hM3 hT3 hF3 hF03 HLD HFL HJ HD HM HT HF HST HMN HTN
        go_wp2
        go_ret
        exact HL.out _ rfl
    · have hk2 : k = 2 := by omega
      subst hk2
      have h02 : (s.puts (formL nb 0)).1 = 0 := h0
      have hD2 : Disk wr p X (s.puts (formL nb 0)).2 := hDr
      have hc1 := hJr.c1
      have HJ := hid hJr
      have HT := hid hTr
      have HF := hid hFr
      have HZ0 := hid (And.intro h02 hD2)
      clear hJr h0 hDr hMr hTr hFr h02 hD2
      go_wp2_with fail
      clear hc1
      go_loopw [42, 8, 9, 10, 11] (fun y _ _ _ _ wq => ∃ (k : Nat) (og : Int), k ≤ nb ∧ y = .int .i64 k ∧ Jn wq jb p nb 0 og ∧ (s.puts (formL nb k)).1 = 0 ∧ Disk wq p X (s.puts (formL nb k)).2 ∧ Tab wq ∧ Fr X w wq) (fun y _ _ _ _ _ => nb - (intOf y).toNat)
      case atStart => exact ⟨0, of, by omega, rfl, HJ.out, HZ0.out.1, HZ0.out.2, HT.out, HF.out⟩
      case round =>
        clear HJ HT HF HZ0
        obtain ⟨q, og, hq, rfl, hJr, h0, hDr, hTr, hFr⟩ := hrel
        have hnb := HNB.out
        have hwk : IntKind.i64.wrap ((q : Int) + 1) = ((q + 1 : Nat) : Int) := by rw [IntWalk.i64_in _ ⟨by omega, by omega⟩]; omega
        by_cases hlq : q < nb
        · have hlq' : (q : Int) < (nb : Int) := by omega
          have HQB := hid (show q ≤ 1000000 by omega)
          have HQ0 : Hid ((-9223372036854775808 : Int) ≤ 0 ∧ (0 : Int) ≤ 9223372036854775807) := hid (by omega)
          have HQ1 : Hid ((-9223372036854775808 : Int) ≤ (q : Nat) ∧ ((q : Nat) : Int) ≤ 9223372036854775807) := hid (by omega)
          have h1 := DS.puts_snoc (formL nb q) (2 + q, frameOf blockK [] 0 (q : Nat)) s
          rw [if_pos h0] at h1
          have h2 := DS.puts_snoc (formL nb q ++ [(2 + q, frameOf blockK [] 0 (q : Nat))]) (2 + nb + q, frameOf blockK [] 0 (q : Nat)) s
          rw [← formL_succ] at h2
          obtain ⟨s2, hs2⟩ : ∃ s2, s2 = (s.puts (formL nb q)).2 := ⟨_, rfl⟩
          rw [← hs2] at hDr h1
          rw [h1] at h2
          have HS1 := hid h1
          have HS2 := hid h2
          have HJ := hid hJr
          have HD := hid hDr
          have HT := hid hTr
          have HF := hid hFr
          clear h0 h1 h2 hs2 hJr hDr hTr hFr hnb
          go_upto_region 15 with fail
          refine wp_region_lit ?_
          refine wp_y (v := .int .i64 q) rfl rfl (y_move rfl) rfl ?_
          refine wp_run (v := .agg #[.int .i64 0, .int .i64 (q : Nat)]) rfl rfl (run_buildOp rfl (by kernel_rfl) (build78b _ q)) rfl ?_
          refine wp_call (f := 74) (args := #[.string ⟨blockK.toArray⟩, .slice none 0 0, .agg #[.int .i64 0, .int .i64 (q : Nat)]]) (by kernel_rfl) (fun w => by go_simp) ?_
          refine (framed_any blockK [] 0 (q : Nat) _ wr HT.out (Sl.nil _) HQ0.out HQ1.out (by decide)).mono ?_
          rintro e w2 ⟨rfl, hB2⟩
          refine ⟨_, rfl, ?_⟩
          dsimp only [Act.put]
          refine wp_run (v := .pointer (some ⟨w2.heap.size, 0, none⟩)) rfl rfl (run_alOp rfl (alloc75 w2)) rfl ?_
          refine wp_do rfl rfl (run_storeOp rfl (by kernel_rfl) (by kernel_rfl) (store75 z128_len (frameOf_len blockK [] 0 (q : Nat)) (show Rw _ w2.heap.size 141 z128 from heap_alloc_last w2 _))) ?_
          try simp only [List.setIfInBounds_toArray, List.set_cons_zero, List.set_cons_succ]
          refine wp_end ?_
          have hr3 : Rw ((w2.alloc (.cells (cells8 z128).toArray 141)).setRow w2.heap.size (cells8 (frameOf blockK [] 0 (q : Nat))).toArray) w2.heap.size 141 (frameOf blockK [] 0 (q : Nat)) := Rw.row (heap_alloc_last w2 _) _
          have hB3 : Below w2.heap.size w2 ((w2.alloc (.cells (cells8 z128).toArray 141)).setRow w2.heap.size (cells8 (frameOf blockK [] 0 (q : Nat))).toArray) := below_row ((Below.refl _ _).alloc (Nat.le_refl _) _) (Nat.le_refl _) _
          have hBr3 := hB2.trans (hB3.mono hB2.size)
          generalize (w2.alloc (.cells (cells8 z128).toArray 141)).setRow w2.heap.size (cells8 (frameOf blockK [] 0 (q : Nat))).toArray = w3 at *
          generalize w2.heap.size = lb at *
          have HR3 := hid hr3
          have HJ3 := hid (show Jn w3 jb p nb 0 og from below_at hBr3 HJ.out (heap_lt HJ.out))
          have HD3 := hid (HD.out.below hBr3)
          have HT3 := hid (HT.out.below hBr3)
          have HF3 := hid (show Fr X w w3 from HF.out.trans (Fr.of_below (X := []) hBr3) (by simp))
          clear hr3 hB3 hBr3 hB2 HJ HD HT HF
          clear w2
          go_upto_region 16 with fail
          refine z_open (S := fun w' => (∃ o, Jn w' jb p nb 0 o) ∧ Rw w' lb 141 (frameOf blockK [] 0 (q : Nat))) 5 (by kernel_rfl) (by kernel_rfl) (fun _ _ _ _ _ h => h) (L := #[false, false, false, false, false, false]) (by kernel_rfl) ?_
          intro Q' hns hP hN
          have hS := (show (∃ o, Jn w3.drew jb p nb 0 o) ∧ Rw w3.drew lb 141 (frameOf blockK [] 0 (q : Nat)) from ⟨⟨_, HJ3.out⟩, HR3.out⟩)
          refine z_pure (i := 0) (v := .pointer (some ⟨jb, 0, none⟩)) hns rfl rfl rfl (by kernel_rfl) (by kernel_rfl) hP (y_move rfl) (fun _ => hS) rfl (L' := #[true, false, false, false, false, false]) (by kernel_rfl) ?_
          refine z_pure (i := 1) (v := .int .i64 q) hns rfl rfl rfl (by kernel_rfl) (by kernel_rfl) hP (y_move rfl) (fun _ => hS) rfl (L' := #[true, true, false, false, false, false]) (by kernel_rfl) ?_
          refine z_read (i := 3) (v := V8 (frameOf blockK [] 0 (q : Nat))) hns rfl (by kernel_rfl) rfl rfl (by kernel_rfl) (by kernel_rfl) hP (y_load rfl (hl := fun w' h => load75 (frameOf_len _ _ _ _) h.2)) rfl hS rfl (L' := #[true, true, false, true, false, false]) (by kernel_rfl) ?_
          refine z_call (i := 2) (f := 76) (args := #[.int .i64 q]) (by kernel_rfl) rfl rfl (by kernel_rfl) (enter_go rfl (by kernel_rfl) (fun w => by go_simp)) (L' := #[true, true, true, true, false, false]) (by kernel_rfl) ?_
          refine (noteAt_any q HQB.out _).mono ?_
          rintro e wz ⟨rfl, hwz⟩
          subst hwz
          refine ⟨_, rfl, hS, ?_⟩
          refine z_call (i := 4) (f := 75) (args := #[.pointer (some ⟨jb, 0, none⟩), .int .i64 (2 + q : Nat), V8 (frameOf blockK [] 0 (q : Nat))]) (by kernel_rfl) rfl rfl (by kernel_rfl) (enter_go rfl (by kernel_rfl) (fun w => by go_simp)) (L' := #[true, true, true, true, true, false]) (by kernel_rfl) ?_
          refine (put_any (show Jn w3.drew jb p nb 0 _ from HJ3.out) (show Disk w3.drew p X s2 from HD3.out) (2 + q : Nat) (frameOf blockK [] 0 (q : Nat)) (frameOf_len _ _ _ _)).mono ?_
          rintro e w5 ⟨rfl, hJ5, hD5, hF5⟩
          have hF5 : Fr (jb :: X) w3 w5 := hF5.undrew
          have hr5 : Rw w5 lb 141 (frameOf blockK [] 0 (q : Nat)) := hF5.at HR3.out (rw_not HD3.out HJ3.out HR3.out)
          have hS5 : (∃ o, Jn w5 jb p nb 0 o) ∧ Rw w5 lb 141 (frameOf blockK [] 0 (q : Nat)) := ⟨⟨_, hJ5⟩, hr5⟩
          refine ⟨_, rfl, hS5, ?_⟩
          refine z_val (i := 5) (v := .int .i64 (s2.wr (2 + q : Nat) (frameOf blockK [] 0 (q : Nat))).1) (by kernel_rfl) rfl rfl (by kernel_rfl) (run_asg rfl (by kernel_rfl)) hS5 rfl (L' := #[true, true, true, true, true, true]) (by kernel_rfl) ?_
          try simp only [List.setIfInBounds_toArray, List.set_cons_zero, List.set_cons_succ]
          refine z_done (by kernel_rfl) ?_ _
          refine hN _ _ ?_
          clear hP hN hns
          clear hS
          have hT5 : Tab w5 := HT3.out.fr hF5 (tab_not HD3.out HJ3.out HT3.out)
          have hF05 := HF3.out.jt hF5 hjw
          clear hS5
          by_cases he : (s2.wr (2 + q : Nat) (frameOf blockK [] 0 (q : Nat))).1 = 0
          · have HS3 := HS2.out
            rw [if_pos he] at HS3
            have HS2 := hid HS3
            rw [he] at hJ5 ⊢
            generalize (s2.wr (2 + q : Nat) (frameOf blockK [] 0 (q : Nat))).2 = s5 at *
            have HJ5 := hid hJ5
            have HD5 := hid hD5
            have HT5 := hid hT5
            have HF5 := hid hF05
            have HR5 := hid hr5
            clear hJ5 hD5 hT5 hF05 hF5 hr5 he HS3 HS1 HJ3 HD3 HT3 HF3 HR3
            go_upto_region 19 with fail
            refine z_open (S := fun w' => (∃ o, Jn w' jb p nb 0 o) ∧ Rw w' lb 141 (frameOf blockK [] 0 (q : Nat))) 6 (by kernel_rfl) (by kernel_rfl) (fun _ _ _ _ _ h => h) (L := #[false, false, false, false, false, false, false]) (by kernel_rfl) ?_
            intro Q' hns hP hN
            have hS := (show (∃ o, Jn w5.drew jb p nb 0 o) ∧ Rw w5.drew lb 141 (frameOf blockK [] 0 (q : Nat)) from ⟨⟨_, HJ5.out⟩, HR5.out⟩)
            refine z_pure (i := 0) (v := .pointer (some ⟨jb, 0, none⟩)) hns rfl rfl rfl (by kernel_rfl) (by kernel_rfl) hP (y_move rfl) (fun _ => hS) rfl (L' := #[true, false, false, false, false, false, false]) (by kernel_rfl) ?_
            refine z_pure (i := 1) (v := .pointer (some ⟨jb, 0, none⟩)) hns rfl rfl rfl (by kernel_rfl) (by kernel_rfl) hP (y_move rfl) (fun _ => hS) rfl (L' := #[true, true, false, false, false, false, false]) (by kernel_rfl) ?_
            refine z_pure (i := 2) (v := .int .i64 q) hns rfl rfl rfl (by kernel_rfl) (by kernel_rfl) hP (y_move rfl) (fun _ => hS) rfl (L' := #[true, true, true, false, false, false, false]) (by kernel_rfl) ?_
            refine z_read (i := 4) (v := V8 (frameOf blockK [] 0 (q : Nat))) hns rfl (by kernel_rfl) rfl rfl (by kernel_rfl) (by kernel_rfl) hP (y_load rfl (hl := fun w' h => load75 (frameOf_len _ _ _ _) h.2)) rfl hS rfl (L' := #[true, true, true, false, true, false, false]) (by kernel_rfl) ?_
            refine z_call (i := 3) (f := 77) (args := #[.pointer (some ⟨jb, 0, none⟩), .int .i64 q]) (by kernel_rfl) rfl rfl (by kernel_rfl) (enter_go rfl (by kernel_rfl) (fun w => by go_simp)) (L' := #[true, true, true, true, true, false, false]) (by kernel_rfl) ?_
            refine (blockAt_any (show Jn w5.drew jb p nb 0 _ from HJ5.out) HNB.out q HQB.out).mono ?_
            rintro e wz ⟨rfl, hwz⟩
            subst hwz
            refine ⟨_, rfl, hS, ?_⟩
            refine z_call (i := 5) (f := 75) (args := #[.pointer (some ⟨jb, 0, none⟩), .int .i64 (2 + nb + q : Nat), V8 (frameOf blockK [] 0 (q : Nat))]) (by kernel_rfl) rfl rfl (by kernel_rfl) (enter_go rfl (by kernel_rfl) (fun w => by go_simp)) (L' := #[true, true, true, true, true, true, false]) (by kernel_rfl) ?_
            refine (put_any (show Jn w5.drew jb p nb 0 _ from HJ5.out) (show Disk w5.drew p X s5 from HD5.out) (2 + nb + q : Nat) (frameOf blockK [] 0 (q : Nat)) (frameOf_len _ _ _ _)).mono ?_
            rintro e w7 ⟨rfl, hJ7, hD7, hF7⟩
            have hF7 : Fr (jb :: X) w5 w7 := hF7.undrew
            have hr7 : Rw w7 lb 141 (frameOf blockK [] 0 (q : Nat)) := hF7.at HR5.out (rw_not HD5.out HJ5.out HR5.out)
            have hS7 : (∃ o, Jn w7 jb p nb 0 o) ∧ Rw w7 lb 141 (frameOf blockK [] 0 (q : Nat)) := ⟨⟨_, hJ7⟩, hr7⟩
            refine ⟨_, rfl, hS7, ?_⟩
            refine z_val (i := 6) (v := .int .i64 (s5.wr (2 + nb + q : Nat) (frameOf blockK [] 0 (q : Nat))).1) (by kernel_rfl) rfl rfl (by kernel_rfl) (run_asg rfl (by kernel_rfl)) hS7 rfl (L' := #[true, true, true, true, true, true, true]) (by kernel_rfl) ?_
            try simp only [List.setIfInBounds_toArray, List.set_cons_zero, List.set_cons_succ]
            refine z_done (by kernel_rfl) ?_ _
            refine hN _ _ ?_
            clear hP hN hns
            clear hS
            have hT7 : Tab w7 := HT5.out.fr hF7 (tab_not HD5.out HJ5.out HT5.out)
            have hF07 := HF5.out.jt hF7 hjw
            clear hS7 hr7
            by_cases he : (s5.wr (2 + nb + q : Nat) (frameOf blockK [] 0 (q : Nat))).1 = 0
            · have HZ := hid (And.intro hJ7 (And.intro (show (s.puts (formL nb (q + 1))).1 = 0 by rw [HS2.out]; exact he) (And.intro (show Disk w7 p X (s.puts (formL nb (q + 1))).2 by rw [HS2.out]; exact hD7) (And.intro hT7 hF07))))
              rw [he] at HZ ⊢
              clear hJ7 hD7 hT7 hF7 hF07 he HJ5 HD5 HT5 HF5 HR5 HS2
              go_wp2
              exact ⟨⟨q + 1, 0, hlq, rfl, HZ.out⟩, by simp [intOf]; omega⟩
            · have HL : Hid (∀ e, e = .returned (.int .i64 (s5.wr (2 + nb + q : Nat) (frameOf blockK [] 0 (q : Nat))).1) → Formed w p X (s.formR nb) e w7) := hid (fun e h => by
                rw [formR_stop2 hlq (by rw [HS2.out]; exact he), HS2.out]
                exact ⟨h, ⟨X, hD7, fun k hk => .inl hk⟩, hF07⟩)
              generalize (s5.wr (2 + nb + q : Nat) (frameOf blockK [] 0 (q : Nat))).1 = ev at *
              clear hJ7 hD7 hT7 hF7 hF07 HJ5 HD5 HT5 HF5 HR5 HS2
              go_wp2
              go_ret
              exact HL.out _ rfl
          · have HL : Hid (∀ e, e = .returned (.int .i64 (s2.wr (2 + q : Nat) (frameOf blockK [] 0 (q : Nat))).1) → Formed w p X (s.formR nb) e w5) := hid (fun e h => by
              rw [formR_stop hlq (by rw [HS1.out]; exact he), HS1.out]
              exact ⟨h, ⟨X, hD5, fun k hk => .inl hk⟩, hF05⟩)
            generalize (s2.wr (2 + q : Nat) (frameOf blockK [] 0 (q : Nat))).1 = ev at *
            clear hJ5 hD5 hT5 hF05 hF5 hr5 HS1 HS2 HJ3 HD3 HT3 HF3 HR3
            go_wp2
            go_ret
            exact HL.out _ rfl
        · have hlq' : ¬ (q : Int) < (nb : Int) := by omega
          have hqn : q = nb := by omega
          rw [hqn] at h0 hDr
          have HRR : Hid (s.formR nb = (s.puts (formL nb nb)).2.fl) := hid (by unfold DS.formR; rw [if_pos h0])
          have HJ := hid hJr
          have HD := hid hDr
          have HF := hid hFr
          clear h0 hJr hDr hTr hFr hqn hnb
          generalize s.formR nb = R at *
          generalize (s.puts (formL nb nb)).2 = s8 at *
          go_wp2_with fail
          refine (jflush_any HJ.out HD.out).mono ?_
          rintro e w9 ⟨rfl, hJ9, X9, hD9, hX9, hF9⟩
          have HL : Hid (Formed w p X R (.returned (.int .i64 s8.fl.1)) w9) := hid (by
            rw [HRR.out]
            refine ⟨rfl, ⟨X9, hD9, fun k hk => ?_⟩, HF.out.jt hF9 hjw⟩
            rcases hX9 k hk with h | h
            · exact .inl h
            · exact .inr (Nat.le_trans HF.out.size h))
          clear hJ9 hD9 hX9 hF9 HRR HJ HD HF
          generalize s8.fl.1 = ev at *
          go_wp2
          go_ret
          exact HL.out
end Go.Proofs.YtcmgclkbhhdnaaaGreatDoor
namespace Go.Proofs.YtcmgclkbhhdnaaaGreatDoor
open Go Go.RowKit

/-- The slice v has the numbers zs. -/
def Iz (w : World) (v : Value) (zs : List Int) : Prop := ∃ a cap, v = .slice a zs.length cap ∧ ∀ (k : Nat) (x : Int), zs[k]? = some x → ∃ b o, a = some ⟨b, o, none⟩ ∧ w.cell? ⟨b, o + k, none⟩ = some (.int .i64 x)
/-- The slice v has the parts ps. -/
def Bz (w : World) (v : Value) (ps : List (List UInt8)) : Prop := ∃ a cap, v = .slice a ps.length cap ∧ Parts w a ps
def entZ : Nat → List Int → List MapEntry
  | _, [] => []
  | i, z :: r => ⟨.int .i64 z, .int .i64 i, i⟩ :: entZ (i + 1) r
theorem entZ_append : ∀ (i : Nat) (L : List Int) (x : Int), entZ i (L ++ [x]) = entZ i L ++ [⟨.int .i64 x, .int .i64 ((i + L.length : Nat) : Int), i + L.length⟩]
  | i, [], x => by simp [entZ]
  | i, y :: r, x => by simp [entZ, entZ_append (i + 1) r x]; omega
theorem findZ_out : ∀ (L : List Int) (i j : Nat) (k : Int), k ∉ L → Instr.findNow (.int .i64) (.int .i64 k) (entZ i L) j = some none
  | [], _, _, _, _ => rfl
  | y :: r, i, j, k, h => by
    have ih := findZ_out r (i + 1) (j + 1) k (fun hm => h (List.mem_cons_of_mem _ hm))
    have hb : (k == y) = false := by rw [beq_eq_false_iff_ne]; exact fun e => h (by rw [e]; simp)
    simp only [entZ, Instr.findNow, Instr.sameNow, if_true, hb, ih]
theorem findZ_in : ∀ (L : List Int) (i j : Nat) (k : Int), k ∈ L → ∃ q v, Instr.findNow (.int .i64) (.int .i64 k) (entZ i L) j = some (some (q, .int .i64 v))
  | [], _, _, _, h => by simp at h
  | y :: r, i, j, k, h => by
    by_cases e : k = y
    · subst e
      exact ⟨j, i, by simp [entZ, Instr.findNow, Instr.sameNow]⟩
    · obtain ⟨q, v, ih⟩ := findZ_in r (i + 1) (j + 1) k ((List.mem_cons.1 h).resolve_left e)
      have hb : (k == y) = false := by rw [beq_eq_false_iff_ne]; exact e
      exact ⟨q, v, by simp only [entZ, Instr.findNow, Instr.sameNow, if_true, hb, ih]⟩
/-- Which numbers there were, in block m. -/
def Mz (w : World) (m : Nat) (L : List Int) : Prop := w.heap[m]? = some (.map (entZ 0 L).toArray L.length)
theorem lookZ_in {w : World} {m : Nat} {L : List Int} (h : Mz w m L) (k : Int) (hk : k ∈ L) : ∃ v, (Instr.lookup 180 (.map (some m)) (.int .i64 k) true).run Tryz.prog w = .ok (.tuple #[.int .i64 v, .bool true]) w := by
  obtain ⟨q, v, hf⟩ := findZ_in L 0 0 k hk
  have hn : Instr.findKey 3 (.int .i64 k) (entZ 0 L) = (do
      match Instr.findNow (← underlying 3) (.int .i64 k) (entZ 0 L) 0 with
      | some r => pure r
      | none => Instr.findAsking 3 (.int .i64 k) (entZ 0 L)) := rfl
  refine ⟨v, ?_⟩
  simp only [Instr.lookup, Sem.run_bind, run_underlying Tryz.underlying180, Result.andThen_ok, MapKept.run_getObj_map h, Sem.run_pure, check_int, hn, run_underlying Tryz.underlying3, hf]
  try rfl
theorem lookZ_out {w : World} {m : Nat} {L : List Int} (h : Mz w m L) (k : Int) (hk : k ∉ L) : (Instr.lookup 180 (.map (some m)) (.int .i64 k) true).run Tryz.prog w = .ok (.tuple #[.int .i64 0, .bool false]) w := by
  have hf := findZ_out L 0 0 k hk
  have hz : (zeroValue 3).run Tryz.prog w = .ok (.int .i64 0) w := by go_simp
  have hn : Instr.findKey 3 (.int .i64 k) (entZ 0 L) = (do
      match Instr.findNow (← underlying 3) (.int .i64 k) (entZ 0 L) 0 with
      | some r => pure r
      | none => Instr.findAsking 3 (.int .i64 k) (entZ 0 L)) := rfl
  simp only [Instr.lookup, Sem.run_bind, run_underlying Tryz.underlying180, Result.andThen_ok, MapKept.run_getObj_map h, Sem.run_pure, check_int, hn, run_underlying Tryz.underlying3, hf, hz]
  try rfl
theorem putZ {w : World} {m : Nat} {L : List Int} (h : Mz w m L) (k : Int) (hk : k ∉ L) :
    ∃ w', (Instr.mapUpdate 180 (.map (some m)) (.int .i64 k) (.int .i64 L.length)).run Tryz.prog w = .ok () w' ∧ Mz w' m (L ++ [k]) ∧ Fr [m] w w' := by
  have hf := findZ_out L 0 0 k hk
  have hn : Instr.findKey 3 (.int .i64 k) (entZ 0 L) = (do
      match Instr.findNow (← underlying 3) (.int .i64 k) (entZ 0 L) 0 with
      | some r => pure r
      | none => Instr.findAsking 3 (.int .i64 k) (entZ 0 L)) := rfl
  refine ⟨{ w with heap := w.heap.setIfInBounds m (.map (entZ 0 (L ++ [k])).toArray (L ++ [k]).length) }, ?_, ?_, ⟨rfl, rfl, rfl, by simp, fun i _ hi => ?_⟩⟩
  · simp only [Instr.mapUpdate, Sem.run_bind, run_underlying Tryz.underlying180, Result.andThen_ok, MapKept.run_getObj_map h, Sem.run_pure, check_int, hn, run_underlying Tryz.underlying3, hf, MapKept.run_setObj_map _ h]
    simp [entZ_append]
  · have := heap_lt h
    simp [Mz, this]
  · have : m ≠ i := fun e => hi (by simp [e])
    simp [this]
theorem makeMap122 (w : World) : (Instr.makeMap 180 none).run Tryz.prog w = .ok (.map (some w.heap.size)) (w.alloc (.map #[] 0)) := by
  simp only [Instr.makeMap, Sem.run_bind]
  go_simp
theorem run_mmOp {o : Oper} {a : Act} {w w1 : World} {t : TypeId} {v : Value} (hop : o.op = .makeMap t none) (hr : (Instr.makeMap t none).run Tryz.prog w = .ok v w1) : (execOp a.eval o).run Tryz.prog w = .ok (.value v) w1 := by
  unfold execOp; rw [hop]; simp only [Option.map_none, Sem.run_bind, hr, Result.andThen_ok]; rfl
theorem run_lkOp {o : Oper} {a : Act} {w w1 : World} {t : TypeId} {x y : Operand} {p q v : Value} (hop : o.op = .lookup t x y true) (hx : a.eval x = p) (hy : a.eval y = q) (hr : (Instr.lookup t p q true).run Tryz.prog w = .ok v w1) : (execOp a.eval o).run Tryz.prog w = .ok (.value v) w1 := by
  unfold execOp; rw [hop]; simp only [hx, hy, Sem.run_bind, hr, Result.andThen_ok]; rfl
/-- May these parts be written there. -/
def Fit (nb : Nat) (zs : List Int) (ps : List (List UInt8)) : Prop := zs.length = ps.length ∧ zs.Nodup ∧ (∀ z ∈ zs, hasB z nb = true) ∧ ∀ l ∈ ps, l.length = 112
instance (nb : Nat) (zs : List Int) (ps : List (List UInt8)) : Decidable (Fit nb zs ps) := by unfold Fit; infer_instance
set_option maxRecDepth 100000 in
set_option maxHeartbeats 8000000 in
theorem fit_any {w : World} {j p nb : Nat} {seq off : Int} {va vb : Value} {zs : List Int} {ps : List (List UInt8)} (hj : Jn w j p nb seq off) (ha : Iz w va zs) (hb : Bz w vb ps) (hl : zs.length ≤ 281474976710656) :
    Calls Tryz.prog 91 #[.pointer (some ⟨j, 0, none⟩), va, vb] w fun e w' => e = .returned (.bool (decide (Fit nb zs ps))) ∧ Below w.heap.size w w' := by
  obtain ⟨aa, ca, rfl, ha⟩ := ha
  obtain ⟨ab, cb', rfl, hb⟩ := hb
  obtain ⟨RR, hRR⟩ : ∃ RR, RR = decide (Fit nb zs ps) := ⟨_, rfl⟩
  rw [← hRR]
  have HRR := hid hRR
  have HJ := hid hj
  have HA := hid ha
  have HBB := hid hb
  have HL := hid hl
  have hjl := heap_lt hj
  clear hRR hj ha hb hl
  by_cases hlen : zs.length = ps.length
  · obtain ⟨n, hn⟩ : ∃ n, n = zs.length := ⟨_, rfl⟩
    rw [← hlen, ← hn]
    have HN := hid hn
    have HLEN := hid (show n = ps.length from hn.trans hlen)
    clear hn hlen
    have hB0 : Below w.heap.size w (w.alloc (.map #[] 0)) := (Below.refl _ _).alloc (Nat.le_refl _) _
    have HB0 := hid hB0
    have HM0 := hid (show Mz (w.alloc (.map #[] 0)) w.heap.size [] from heap_alloc_last w _)
    clear hB0
    go_enter Tryz.func91, Tryz.ntmps91
    go_upto_region 3 with fail
    refine wp_region_lit ?_
    refine wp_run (v := .map (some w.heap.size)) rfl rfl (run_mmOp rfl (makeMap122 w)) rfl ?_
    refine wp_y (v := .map (some w.heap.size)) rfl rfl (y_assign rfl) rfl ?_
    try simp only [List.setIfInBounds_toArray, List.set_cons_zero, List.set_cons_succ]
    refine wp_end ?_
    generalize w.alloc (.map #[] 0) = w0 at *
    generalize hmb : w.heap.size = mb at *
    go_wp2_with fail
    go_loopw [20, 8, 9, 10, 11] (fun y _ _ _ _ wr => ∃ k : Nat, k ≤ n ∧ y = .int .i64 k ∧ (zs.take k).Nodup ∧ (∀ z ∈ zs.take k, hasB z nb = true) ∧ (∀ l ∈ ps.take k, l.length = 112) ∧ Mz wr mb (zs.take k) ∧ Below mb w wr) (fun y _ _ _ _ _ => n - (intOf y).toNat)
    case atStart => exact ⟨0, by omega, rfl, by simp, by simp, by simp, HM0.out, HB0.out⟩
    case round =>
      clear HM0 HB0
      obtain ⟨k, hk, rfl, hnd, hhs, hls, hMr, hBr⟩ := hrel
      have hll := HL.out
      have hwk : IntKind.i64.wrap ((k : Int) + 1) = ((k + 1 : Nat) : Int) := by
        have hlz := HN.out
        rw [IntWalk.i64_in _ ⟨by omega, by omega⟩]; omega
      have hlz := HN.out
      by_cases hlt : k < n
      · have hlt' : (k : Int) < (n : Int) := by omega
        obtain ⟨z, hz⟩ : ∃ z, zs[k]? = some z := ⟨_, List.getElem?_eq_getElem (by omega)⟩
        obtain ⟨b1, o1, rfl, hc1⟩ := HA.out k z hz
        obtain ⟨b2, o2, ap, cp, rfl, hc2, hs2⟩ := HBB.out k (by have := HLEN.out; omega)
        have hd1 : wr.cell? ⟨b1, o1 + k, none⟩ = some (.int .i64 z) := by rw [hBr.cell (p := ⟨b1, o1 + k, none⟩) (by rw [← hmb]; exact World.block_lt_of_cell? w _ hc1)]; exact hc1
        have hd2 : wr.cell? ⟨b2, o2 + k, none⟩ = some (.slice ap (ps.getD k []).length cp) := by rw [hBr.cell (p := ⟨b2, o2 + k, none⟩) (by rw [← hmb]; exact World.block_lt_of_cell? w _ hc2)]; exact hc2
        have hJr : Jn wr j p nb seq off := below_at hBr HJ.out hjl
        have HHAS := hid (jhas_any hJr z)
        have hpk : ps[k]? = some (ps.getD k []) := by simp [List.getD, show k < ps.length by have := HLEN.out; omega]
        generalize ps.getD k [] = pk at *
        have htz : zs.take (k + 1) = zs.take k ++ [z] := by rw [List.take_add_one, hz]; rfl
        have htp : ps.take (k + 1) = ps.take k ++ [pk] := by rw [List.take_add_one, hpk]; rfl
        have HK : Hid (k = (zs.take k).length) := hid (by rw [List.length_take]; have := HN.out; omega)
        have HZS := hid hz
        have HPK := hid hpk
        have HND := hid hnd
        have HHS := hid hhs
        have HLS := hid hls
        have HM := hid hMr
        have HB := hid hBr
        have HTZ := hid htz
        have HTP := hid htp
        clear hc1 hc2 hs2 hJr hnd hhs hls hMr hBr hll hz hpk htz htp hlz
        by_cases htw : z ∈ zs.take k
        · have hbad : RR = false := by
            rw [HRR.out]
            refine decide_eq_false (fun hf => ?_)
            have hnd := hf.2.1
            rw [← List.take_append_drop k zs] at hnd
            have hzd : z ∈ zs.drop k := List.mem_of_getElem? (i := 0) (by rw [List.getElem?_drop]; exact HZS.out)
            exact (List.nodup_append.1 hnd).2.2 z htw z hzd rfl
          obtain ⟨v, hlk⟩ := lookZ_in HM.out z htw
          have HLK := hid hlk
          clear hlk htw HRR HZS HPK HND HHS HLS HTZ HTP HHAS
          subst hbad
          go_upto_region 7 with fail
          refine wp_region_lit ?_
          refine wp_y (v := .map (some mb)) rfl rfl (y_move rfl) rfl ?_
          refine wp_y (v := .int .i64 z) rfl rfl (y_move rfl) rfl ?_
          refine wp_run (v := .tuple #[.int .i64 v, .bool true]) rfl rfl (run_lkOp rfl (by kernel_rfl) (by kernel_rfl) HLK.out) rfl ?_
          refine wp_y (v := .tuple #[.int .i64 v, .bool true]) rfl rfl (y_move rfl) rfl ?_
          refine wp_y (v := .int .i64 v) rfl rfl (y_ext rfl (hr := ext2_0 (.int .i64 v) (.bool true))) rfl ?_
          refine wp_y (v := .bool true) rfl rfl (y_ext rfl (hr := ext2_1 (.int .i64 v) (.bool true))) rfl ?_
          refine wp_y (v := .int .i64 v) rfl rfl (y_assign rfl) rfl ?_
          refine wp_y (v := .bool true) rfl rfl (y_assign rfl) rfl ?_
          try simp only [List.setIfInBounds_toArray, List.set_cons_zero, List.set_cons_succ]
          refine wp_end ?_
          go_wp2
          go_ret
          exact ⟨rfl, by first | exact HB.out | rw [hmb]; exact HB.out⟩
        · have HLK := hid (lookZ_out HM.out z htw)
          go_upto_region 7 with fail
          refine wp_region_lit ?_
          refine wp_y (v := .map (some mb)) rfl rfl (y_move rfl) rfl ?_
          refine wp_y (v := .int .i64 z) rfl rfl (y_move rfl) rfl ?_
          refine wp_run (v := .tuple #[.int .i64 0, .bool false]) rfl rfl (run_lkOp rfl (by kernel_rfl) (by kernel_rfl) HLK.out) rfl ?_
          refine wp_y (v := .tuple #[.int .i64 0, .bool false]) rfl rfl (y_move rfl) rfl ?_
          refine wp_y (v := .int .i64 0) rfl rfl (y_ext rfl (hr := ext2_0 (.int .i64 0) (.bool false))) rfl ?_
          refine wp_y (v := .bool false) rfl rfl (y_ext rfl (hr := ext2_1 (.int .i64 0) (.bool false))) rfl ?_
          refine wp_y (v := .int .i64 0) rfl rfl (y_assign rfl) rfl ?_
          refine wp_y (v := .bool false) rfl rfl (y_assign rfl) rfl ?_
          try simp only [List.setIfInBounds_toArray, List.set_cons_zero, List.set_cons_succ]
          refine wp_end ?_
          clear HLK
          cases hhas : hasB z nb with
          | false =>
            have hbad : RR = false := by
              rw [HRR.out]
              refine decide_eq_false (fun hf => ?_)
              rw [hf.2.2.1 z (List.mem_of_getElem? HZS.out)] at hhas; cases hhas
            rw [hhas] at HHAS
            clear htw HRR HZS HPK HND HHS HLS HTZ HTP hhas
            subst hbad
            go_wp2_with fail
            refine HHAS.out.mono ?_
            rintro e wz ⟨rfl, hwz⟩
            obtain rfl := hwz.symm
            go_wp2
            go_ret
            exact ⟨rfl, by first | exact HB.out | rw [hmb]; exact HB.out⟩
          | true =>
            rw [hhas] at HHAS
            by_cases hl112 : pk.length = 112
            · obtain ⟨w3, hup, hM3, hF3⟩ := putZ HM.out z htw
              rw [← HK.out] at hup
              have hB3 : Below mb w w3 := HB.out.trans (hF3.below (by have := HB.out.size; omega) (by simp))
              have HUP := hid hup
              have HZ : Hid ((zs.take (k + 1)).Nodup ∧ (∀ z ∈ zs.take (k + 1), hasB z nb = true) ∧ (∀ l ∈ ps.take (k + 1), l.length = 112) ∧ Mz w3 mb (zs.take (k + 1)) ∧ Below mb w w3) := hid (by
                rw [HTZ.out, HTP.out]
                refine ⟨List.nodup_append.2 ⟨HND.out, by simp, fun a ha b hb => ?_⟩, fun y hy => ?_, fun l hl => ?_, hM3, hB3⟩
                · obtain rfl : b = z := by simpa using hb
                  exact fun e => htw (e ▸ ha)
                · rcases List.mem_append.1 hy with hy | hy
                  · exact HHS.out y hy
                  · obtain rfl : y = z := by simpa using hy
                    exact hhas
                · rcases List.mem_append.1 hl with hl | hl
                  · exact HLS.out l hl
                  · obtain rfl : l = pk := by simpa using hl
                    exact hl112)
              have hpl : (pk.length : Int) = 112 := by omega
              clear hup hM3 hF3 hB3 HRR HZS HPK HND HHS HLS HTZ HTP hhas htw HM HB HK
              rw [hl112] at hd2
              clear hl112 hpl
              go_wp2_with fail
              refine HHAS.out.mono ?_
              rintro e wz ⟨rfl, hwz⟩
              obtain rfl := hwz.symm
              clear HHAS
              go_upto_region 10 with fail
              refine wp_region_lit ?_
              refine wp_y (v := .map (some mb)) rfl rfl (y_move rfl) rfl ?_
              refine wp_y (v := .int .i64 z) rfl rfl (y_move rfl) rfl ?_
              refine wp_y (v := .int .i64 k) rfl rfl (y_move rfl) rfl ?_
              refine wp_do rfl rfl (run_mapUpdate rfl (by kernel_rfl) (by kernel_rfl) (by kernel_rfl) HUP.out) ?_
              try simp only [List.setIfInBounds_toArray, List.set_cons_zero, List.set_cons_succ]
              refine wp_end ?_
              go_wp2
              exact ⟨⟨k + 1, hlt, rfl, HZ.out⟩, by simp [intOf]; omega⟩
            · have hbad : RR = false := by
                rw [HRR.out]
                refine decide_eq_false (fun hf => ?_)
                exact hl112 (hf.2.2.2 pk (List.mem_of_getElem? HPK.out))
              have hpl : ¬ (pk.length : Int) = 112 := by omega
              clear htw HRR HZS HPK HND HHS HLS HTZ HTP hhas
              subst hbad
              go_wp2_with fail
              refine HHAS.out.mono ?_
              rintro e wz ⟨rfl, hwz⟩
              obtain rfl := hwz.symm
              go_wp2
              go_ret
              exact ⟨rfl, by first | exact HB.out | rw [hmb]; exact HB.out⟩
      · have hlt' : ¬ (k : Int) < (n : Int) := by omega
        have hkl : k = n := by omega
        rw [hkl, List.take_of_length_le (by omega)] at hnd hhs
        rw [hkl, List.take_of_length_le (by rw [HLEN.out]; exact Nat.le_refl _)] at hls
        have hgood : RR = true := by rw [HRR.out]; exact decide_eq_true ⟨HN.out.symm.trans HLEN.out, hnd, hhs, hls⟩
        have HB := hid hBr
        clear HRR hnd hhs hls hMr hBr hll hlz
        subst hgood
        go_wp2
        go_ret
        exact ⟨rfl, by first | exact HB.out | rw [hmb]; exact HB.out⟩
  · have hlen' : ¬ (zs.length : Int) = (ps.length : Int) := by omega
    have hbad : RR = false := by rw [HRR.out]; exact decide_eq_false (fun hf => hlen hf.1)
    clear HRR HJ HA HBB HL
    subst hbad
    go_enter Tryz.func91, Tryz.ntmps91
    go_wp2
    go_ret
    exact ⟨rfl, Below.refl _ _⟩
end Go.Proofs.YtcmgclkbhhdnaaaGreatDoor
namespace Go.Proofs.YtcmgclkbhhdnaaaGreatDoor
open Go Go.RowKit

theorem nodup_lt : ∀ (n : Nat) (L : List Nat), L.Nodup → (∀ x ∈ L, x < n) → L.length ≤ n
  | 0, L, _, h => by
    cases L with
    | nil => simp
    | cons a r => exact absurd (h a (by simp)) (by omega)
  | n + 1, L, hd, h => by
    by_cases hn : n ∈ L
    · have h1 := nodup_lt n (L.erase n) (hd.erase n) (fun x hx => by
        have h2 := (List.Nodup.mem_erase_iff hd).1 hx
        have h3 := h x h2.2
        have h4 := h2.1
        omega)
      rw [List.length_erase_of_mem hn] at h1
      omega
    · have := nodup_lt n L hd (fun x hx => by
        have h3 := h x hx
        have : x ≠ n := fun e => hn (e ▸ hx)
        omega)
      omega
theorem Fit.len {nb : Nat} {zs : List Int} {ps : List (List UInt8)} (h : Fit nb zs ps) : zs.length ≤ nb := by
  have h1 := nodup_lt nb (zs.map Int.toNat) ?_ ?_
  · simpa using h1
  · have hnd := h.2.1
    have hh := h.2.2.1
    clear h
    unfold List.Nodup at hnd ⊢
    rw [List.pairwise_map]
    refine List.Pairwise.imp_of_mem ?_ hnd
    intro x y hx hy hne e
    have h2 := hh x hx
    have h3 := hh y hy
    unfold hasB at h2 h3
    simp at h2 h3
    exact hne (by omega)
  · intro x hx
    obtain ⟨z, hz, rfl⟩ := List.mem_map.1 hx
    have h2 := h.2.2.1 z hz
    unfold hasB at h2
    simp at h2
    omega
theorem make86 (w : World) (n : Nat) (hn : n ≤ 1000000) : ∃ cur, (Instr.makeSlice 134 (.int .i64 n) (.int .i64 n)).run Tryz.prog w = .ok (.slice (some ⟨w.heap.size, 0, none⟩) n n) (w.alloc (.cells cur 160)) ∧ Nts (w.alloc (.cells cur 160)) w.heap.size (.slice (some ⟨w.heap.size, 0, none⟩) n n) (List.replicate n (0, z128)) := by
  cases hie : Tryz.prog.info? 160 with
  | none => have := size96; rw [hie] at this; cases this
  | some i0 =>
    have hi := info96
    rw [hie] at hi
    simp only [Option.map_some, Option.some.injEq, Prod.mk.injEq] at hi
    obtain ⟨hz0, hz1, hz2⟩ := hi
    have hr := run_make (P := Tryz.prog) w 134 160 i0 (noteV (0, z128)) Tryz.underlying134 hie hz0 .i64 .i64 n n (by omega) (Int.le_refl _) (by rw [hz2]; omega) (by omega)
    rw [Int.toNat_natCast, hz1] at hr
    refine ⟨_, hr, fun f hf => ?_, .inr ⟨n, _, by rw [List.length_replicate], heap_alloc_last w _, fun i x hx j v hj => ?_⟩⟩
    · rw [List.eq_of_mem_replicate hf]; exact z128_len
    · obtain ⟨h1, h2⟩ := List.getElem?_eq_some_iff.1 hx
      rw [List.length_replicate] at h1
      rw [List.getElem_replicate] at h2
      subst h2
      have hnl : (noteC (0, z128)).length = 129 := noteC_len z128_len
      have hj' : j < 129 := by have := (List.getElem?_eq_some_iff.1 hj).1; rw [hnl] at this; exact this
      rw [made_at (noteV (0, z128)).cells 129 n i j (by show (noteC (0, z128)).toArray.size = 129; rw [List.size_toArray]; exact hnl) h1 hj']
      show (noteC (0, z128)).toArray[j]? = some v
      rw [List.getElem?_toArray]; exact hj
theorem Nts.store {w : World} {g N cap : Nat} {ns : List (Nat × List UInt8)} (h : Nts w g (.slice (some ⟨g, 0, none⟩) N cap) ns) {k : Nat} (hk : k < ns.length) (x : Nat × List UInt8) (hx : x.2.length = 128) :
    ∃ c, (Instr.storeAt 160 (.pointer (some ⟨g, k * 129, none⟩)) (noteV x)).run Tryz.prog w = .ok () (w.setRow g c) ∧ Nts (w.setRow g c) g (.slice (some ⟨g, 0, none⟩) N cap) (ns.set k x) := by
  obtain ⟨h1, h2⟩ := h
  rcases h2 with ⟨e, rfl⟩ | ⟨cap', cur, e, hg, hc⟩
  · simp at hk
  · cases e
    obtain ⟨y, hy⟩ : ∃ y, ns[k]? = some y := ⟨_, List.getElem?_eq_getElem hk⟩
    have hyl := noteC_len (h1 y (List.mem_of_getElem? hy))
    have hcl := hc k y hy 128 _ (List.getElem?_eq_getElem (by omega))
    have hsz := (Array.getElem?_eq_some_iff.1 hcl).1
    have hxl := noteC_len hx
    have hl : k * 129 + (noteC x).length ≤ cur.size := by rw [hxl]; omega
    refine ⟨relaid cur (k * 129) (noteC x), storeAt_k size96 w g (k * 129) cur 160 (noteC x) hxl hg hl (noteC_one x), fun z hz => ?_, .inr ⟨cap, _, by rw [List.length_set], setRow_heap w g cur _ _ _ hg, fun i z hz => ?_⟩⟩
    · rcases List.mem_or_eq_of_mem_set hz with h | rfl
      · exact h1 z h
      · exact hx
    · by_cases e : k = i
      · subst e
        rw [List.getElem?_set_self hk] at hz
        cases hz
        intro j v hj
        rw [relaid_in _ _ _ hl j (by have := (List.getElem?_eq_some_iff.1 hj).1; exact this)]
        exact hj
      · rw [List.getElem?_set_ne e] at hz
        intro j v hj
        have hj' : j < 129 := by have := (List.getElem?_eq_some_iff.1 hj).1; rw [noteC_len (h1 z (List.mem_of_getElem? hz))] at this; omega
        rw [relaid_out _ _ _ hl _ (by rw [hxl]; omega)]
        exact hc i z hz j v hj
/-- The notes of a write. -/
def nsOf (sq : Int) (zs : List Int) (ps : List (List UInt8)) : List (Nat × List UInt8) := (zs.zip ps).map fun x => (x.1.toNat, frameOf blockK x.2 sq x.1)
theorem nsOf_len (sq : Int) (zs : List Int) (ps : List (List UInt8)) (h : zs.length = ps.length) : (nsOf sq zs ps).length = zs.length := by simp [nsOf, h]
theorem nsOf_get {sq : Int} {zs : List Int} {ps : List (List UInt8)} {k : Nat} {z : Int} {p : List UInt8} (hz : zs[k]? = some z) (hp : ps[k]? = some p) : (nsOf sq zs ps)[k]? = some (z.toNat, frameOf blockK p sq z) := by
  unfold nsOf
  rw [List.getElem?_map, (List.getElem?_zip_eq_some (z := (z, p))).2 ⟨hz, hp⟩]
  rfl
theorem notes_set (ns : List (Nat × List UInt8)) (n k : Nat) (x : Nat × List UInt8) (hn : ns.length = n) (hx : ns[k]? = some x) : (ns.take k ++ List.replicate (n - k) (0, z128)).set k x = ns.take (k + 1) ++ List.replicate (n - (k + 1)) (0, z128) := by
  have hk : k < n := by rw [← hn]; exact (List.getElem?_eq_some_iff.1 hx).1
  rw [List.set_append_right _ _ (by rw [List.length_take]; omega), List.length_take, show k - min k ns.length = 0 by omega, show n - k = (n - (k + 1)) + 1 by omega, List.replicate_succ, List.set_cons_zero, List.take_add_one, hx]
  simp
end Go.Proofs.YtcmgclkbhhdnaaaGreatDoor
namespace Go.Proofs.YtcmgclkbhhdnaaaGreatDoor
open Go Go.RowKit

theorem idx43 (b o n cap k : Nat) (h : k < n) (w : World) : (Instr.indexAt 42 (.slice (some ⟨b, o, none⟩) n cap) (.int .i64 k)).run Tryz.prog w = .ok (.pointer (some ⟨b, o + k, none⟩)) w := by
  have h1 : (k : Int) < n := by omega
  go_simp
theorem idx46 (b o n cap k : Nat) (h : k < n) (w : World) : (Instr.indexAt 104 (.slice (some ⟨b, o, none⟩) n cap) (.int .i64 k)).run Tryz.prog w = .ok (.pointer (some ⟨b, o + k, none⟩)) w := by
  have h1 : (k : Int) < n := by omega
  go_simp
theorem add1_64 (a r : Int) (h : IntKind.i64.wrap (a + 1) = r) (w : World) : (binOp .add 2 (.int .i64 a) (.int .i64 1)).run Tryz.prog w = .ok (.int .i64 r) w := by
  go_simp
theorem y_len43 {ops : Array Oper} {S : World → Prop} {o : Oper} {a : Act} {x : Operand} {p : Option Addr} {n c : Nat} (hop : o.op = .call { callee := .builtin .len, args := #[x], argTypes := #[42] }) (hw : Region.wanted o (yielded ops a.tmps) = true) (hx : a.eval x = .slice p n c) : YieldsIf Tryz.prog ops S o (.int .i64 n) a :=
  .inl ⟨hw, fun w _ => by
    have h1 : (Builtin.len_ #[42] o.type #[a.eval x]).run Tryz.prog w = .ok (.int .i64 n) w := by rw [hx]; go_simp
    unfold execOp
    simp only [hop, resolve, invoke, builtin, Sem.run_bind, Sem.run_pure, Result.andThen_ok, List.map_toArray, List.map_cons, List.map_nil, h1]⟩
set_option maxHeartbeats 800000 in
theorem jwrite_bad {w : World} {j p nb : Nat} {seq : Int} {va vb : Value} {zs : List Int} {ps : List (List UInt8)} (hj : Jn w j p nb seq 0) (ha : Iz w va zs) (hb : Bz w vb ps) (hl : zs.length ≤ 281474976710656) (hf : ¬ Fit nb zs ps) : Calls Tryz.prog 58 #[.pointer (some ⟨j, 0, none⟩), va, vb] w fun e w' => e = .returned (.int .i64 2) ∧ Below w.heap.size w w' := by
  have c3 := hj.c3
  have H := hid (fit_any hj ha hb hl)
  rw [decide_eq_false hf] at H
  clear hj ha hb hl hf
  go_enter Tryz.func58, Tryz.ntmps58
  go_wp2_with fail
  refine H.out.mono ?_
  rintro e w2 ⟨rfl, hB⟩
  have HB := hid hB
  clear hB c3
  go_wp2
  go_ret
  exact ⟨rfl, HB.out⟩
set_option maxHeartbeats 800000 in
theorem jwrite_none {w : World} {j p nb : Nat} {seq : Int} {va vb : Value} (hj : Jn w j p nb seq 0) (ha : Iz w va []) (hb : Bz w vb []) : Calls Tryz.prog 58 #[.pointer (some ⟨j, 0, none⟩), va, vb] w fun e w' => e = .returned (.int .i64 0) ∧ Below w.heap.size w w' := by
  have c3 := hj.c3
  have H := hid (fit_any hj ha hb (by simp))
  rw [decide_eq_true (show Fit nb [] [] from ⟨rfl, by simp, by simp, by simp⟩)] at H
  obtain ⟨aa, ca, rfl, _⟩ := ha
  obtain ⟨ab, cb', rfl, _⟩ := hb
  clear hj
  go_enter Tryz.func58, Tryz.ntmps58
  go_wp2_with fail
  refine H.out.mono ?_
  rintro e w2 ⟨rfl, hB⟩
  have HB := hid hB
  clear hB c3
  go_wp2
  go_ret
  exact ⟨rfl, HB.out⟩
end Go.Proofs.YtcmgclkbhhdnaaaGreatDoor
namespace Go.Proofs.YtcmgclkbhhdnaaaGreatDoor
open Go Go.RowKit

/-- What Write leaves. -/
def Wrote (w : World) (j p nb seq : Nat) (X : List Nat) (R : Int × DS) (e : Ending) (w' : World) : Prop :=
  e = .returned (.int .i64 R.1) ∧ Jn w' j p nb (if R.1 = 0 then ((seq + 1 : Nat) : Int) else (seq : Int)) R.1 ∧ (∃ X', Disk w' p X' R.2 ∧ (∀ k ∈ X', k ∈ X ∨ w.heap.size ≤ k)) ∧ Fr (j :: X) w w'
set_option maxRecDepth 100000 in
set_option maxHeartbeats 8000000 in
theorem jwrite_any {w : World} {j p nb seq : Nat} {X : List Nat} {s : DS} {va vb : Value} {zs : List Int} {ps : List (List UInt8)} (hj : Jn w j p nb (seq : Nat) 0) (hD : Disk w p X s) (ht : Tab w) (hnb : nb ≤ 1000000) (hsq : seq < 9223372036854775807) (ha : Iz w va zs) (hb : Bz w vb ps) (hf : Fit nb zs ps) (h0 : zs ≠ []) :
    Calls Tryz.prog 58 #[.pointer (some ⟨j, 0, none⟩), va, vb] w (Wrote w j p nb seq X (s.comR nb (seq + 1) zs.length (nsOf ((seq + 1 : Nat) : Int) zs ps))) := by
  have c3 := hj.c3
  have hnl := hf.len
  have H := hid (fit_any hj ha hb (by omega))
  rw [decide_eq_true hf] at H
  obtain ⟨n, hn⟩ : ∃ n, n = zs.length := ⟨_, rfl⟩
  have hn0 : n ≠ 0 := fun e => h0 (List.length_eq_zero_iff.1 (by omega))
  obtain ⟨aa, ca, rfl, ha⟩ := ha
  obtain ⟨ab, cb', rfl, hb⟩ := hb
  rw [← hf.1, ← hn] at H ⊢
  have HIX : Hid (∀ x ∈ nsOf ((seq + 1 : Nat) : Int) zs ps, x.1 ≤ 1000000) := hid (fun x hx => by
    obtain ⟨y, hy, rfl⟩ := List.mem_map.1 hx
    have h2 := hf.2.2.1 y.1 (List.of_mem_zip hy).1
    unfold hasB at h2
    simp at h2
    show y.1.toNat ≤ 1000000
    omega)
  have HN := hid hn
  have HF := hid hf
  have HA := hid ha
  have HBB := hid hb
  have HJ := hid hj
  have HD := hid hD
  have HT := hid ht
  have HNB := hid hnb
  have HNL := hid (show n ≤ 1000000 by omega)
  have HSQ := hid hsq
  have HLEN := hid (show (nsOf ((seq + 1 : Nat) : Int) zs ps).length = n by rw [nsOf_len _ _ _ hf.1, hn])
  have hjl := heap_lt hj
  have hq1 : IntKind.i64.wrap (((seq : Nat) : Int) + 1) = ((seq + 1 : Nat) : Int) := by rw [IntWalk.i64_in _ ⟨by omega, by omega⟩]; omega
  have hn0' : ¬ (n : Int) = 0 := by omega
  clear hj hD ht hnb hsq ha hb hf h0 hnl hn
  obtain ⟨ns, hns⟩ : ∃ ns, ns = nsOf ((seq + 1 : Nat) : Int) zs ps := ⟨_, rfl⟩
  rw [← hns] at HIX HLEN ⊢
  have HNS := hid hns
  clear hns
  obtain ⟨sq, hsqe⟩ : ∃ sq, sq = seq + 1 := ⟨_, rfl⟩
  rw [← hsqe] at HNS hq1 ⊢
  have HSQ := hid (show sq < 9223372036854775808 by have := HSQ.out; omega)
  have HSE := hid hsqe
  clear hsqe
  go_enter Tryz.func58, Tryz.ntmps58
  go_wp2_with fail
  refine H.out.mono ?_
  rintro e w1 ⟨rfl, hB1⟩
  have HB1 := hid hB1
  have hc2 := Jn.c2 (show Jn w1 j p nb (seq : Nat) 0 from below_at hB1 HJ.out hjl)
  clear hB1 H c3
  have hh2 : Hd ((w1.alloc (.cells #[.int .i64 0, .int .i64 0] 131)).setRow w1.heap.size #[.int .i64 (sq : Nat), .int .i64 (n : Nat)]) w1.heap.size (sq : Nat) (n : Nat) := Hd.row (show Hd (w1.alloc (.cells #[.int .i64 0, .int .i64 0] 131)) w1.heap.size 0 0 from heap_alloc_last w1 _) (sq : Nat) (n : Nat)
  have hB2 : Below w1.heap.size w1 ((w1.alloc (.cells #[.int .i64 0, .int .i64 0] 131)).setRow w1.heap.size #[.int .i64 (sq : Nat), .int .i64 (n : Nat)]) := below_row ((Below.refl _ _).alloc (Nat.le_refl _) _) (Nat.le_refl _) _
  have HH2 := hid hh2
  have HB2 := hid (HB1.out.trans (hB2.mono HB1.out.size))
  have hhb : w.heap.size ≤ w1.heap.size := HB1.out.size
  clear hh2 hB2
  go_upto_region 9 with fail
  refine wp_region_lit ?_
  refine wp_y (v := .pointer (some ⟨j, 0, none⟩)) rfl rfl (y_move rfl) rfl ?_
  refine wp_y (v := .pointer (some ⟨j, 0, none⟩)) rfl rfl (y_nil rfl) rfl ?_
  refine wp_y (v := .pointer (some ⟨j, 2, none⟩)) rfl rfl (y_faddr rfl (hf := fa82_2 (j))) rfl ?_
  refine wp_y (v := .int .i64 (seq : Nat)) rfl rfl (y_load rfl (hl := fun w' h => by subst h; exact load1 Tryz.isAgg2 hc2)) rfl ?_
  refine wp_y (v := .int .i64 (sq : Nat)) rfl rfl (y_bin (k := .i64) (k' := .i64) (m := ((seq : Nat) : Int)) (n := 1) rfl (by kernel_rfl) (by kernel_rfl) (by kernel_rfl) (add1_64 _ _ hq1)) rfl ?_
  refine wp_y (v := .slice aa n ca) rfl rfl (y_move rfl) rfl ?_
  refine wp_y (v := .int .i64 (n : Nat)) rfl rfl (y_len43 (p := aa) (c := ca) rfl (by kernel_rfl) (by kernel_rfl)) rfl ?_
  refine wp_run (v := .agg #[.int .i64 (sq : Nat), .int .i64 (n : Nat)]) rfl rfl (run_buildOp rfl (by kernel_rfl) (build78 _ (sq : Nat) (n : Nat))) rfl ?_
  simp only [List.setIfInBounds_toArray, List.set_cons_zero, List.set_cons_succ]
  refine wp_run (v := .pointer (some ⟨w1.heap.size, 0, none⟩)) rfl rfl (run_alOp rfl (alloc78 w1)) rfl ?_
  refine wp_do rfl rfl (run_storeOp rfl (by kernel_rfl) (by kernel_rfl) (store78 (show Hd _ w1.heap.size 0 0 from heap_alloc_last w1 _) (sq : Nat) (n : Nat))) ?_
  try simp only [List.setIfInBounds_toArray, List.set_cons_zero, List.set_cons_succ]
  refine wp_end ?_
  generalize (w1.alloc (.cells #[.int .i64 0, .int .i64 0] 131)).setRow w1.heap.size #[.int .i64 (sq : Nat), .int .i64 (n : Nat)] = w2 at *
  generalize w1.heap.size = hb at *
  obtain ⟨cur0, hmk, hN3⟩ := make86 w2 n HNL.out
  have hB3 : Below w2.heap.size w2 (w2.alloc (.cells cur0 160)) := (Below.refl _ _).alloc (Nat.le_refl _) _
  have HMK := hid hmk
  have HN3 := hid hN3
  have HH3 := hid (show Hd (w2.alloc (.cells cur0 160)) hb (sq : Nat) (n : Nat) from below_at hB3 HH2.out (heap_lt HH2.out))
  have HB3 := hid (HB2.out.trans (hB3.mono HB2.out.size))
  have hgb : w.heap.size ≤ w2.heap.size := HB2.out.size
  clear hmk hN3 hB3 hc2 HB1 HB2 HH2
  clear w1
  go_upto_region 10 with fail
  refine wp_region_lit ?_
  refine wp_y (v := .slice aa n ca) rfl rfl (y_move rfl) rfl ?_
  refine wp_y (v := .int .i64 (n : Nat)) rfl rfl (y_len43 (p := aa) (c := ca) rfl (by kernel_rfl) (by kernel_rfl)) rfl ?_
  refine wp_run (v := .slice (some ⟨w2.heap.size, 0, none⟩) n n) rfl rfl (run_mkOp rfl (by kernel_rfl) (by kernel_rfl) HMK.out) rfl ?_
  refine wp_y (v := .slice (some ⟨w2.heap.size, 0, none⟩) n n) rfl rfl (y_assign rfl) rfl ?_
  try simp only [List.setIfInBounds_toArray, List.set_cons_zero, List.set_cons_succ]
  refine wp_end ?_
  clear HMK
  generalize w2.alloc (.cells cur0 160) = w3 at *
  generalize w2.heap.size = g at *
  clear w2
  go_wp2_with fail
  go_loopw [43, 9] (fun y _ wr => ∃ k : Nat, k ≤ n ∧ y = .int .i64 k ∧ Nts wr g (.slice (some ⟨g, 0, none⟩) n n) (ns.take k ++ List.replicate (n - k) (0, z128)) ∧ Hd wr hb (sq : Nat) (n : Nat) ∧ Below w.heap.size w wr) (fun y _ _ => n - (intOf y).toNat)
  case atStart => exact ⟨0, by omega, rfl, HN3.out, HH3.out, HB3.out⟩
  case round =>
    clear HN3 HH3 HB3
    obtain ⟨k, hk, rfl, hNr, hHr, hBr⟩ := hrel
    have hnl := HNL.out
    have hwk : IntKind.i64.wrap ((k : Int) + 1) = ((k + 1 : Nat) : Int) := by rw [IntWalk.i64_in _ ⟨by omega, by omega⟩]; omega
    by_cases hlt : k < n
    · have hlt' : (k : Int) < (n : Int) := by omega
      have hzl : k < zs.length := by have := HN.out; omega
      obtain ⟨z, hz⟩ : ∃ z, zs[k]? = some z := ⟨_, List.getElem?_eq_getElem hzl⟩
      obtain ⟨b1, o1, e1, hc1⟩ := HA.out k z hz
      obtain ⟨b2, o2, ap, cp, e2, hc2, hs2⟩ := HBB.out k (by have := HF.out.1; omega)
      have hpk : ps[k]? = some (ps.getD k []) := by simp [List.getD, show k < ps.length by have := HF.out.1; omega]
      generalize ps.getD k [] = pk at *
      obtain rfl := e1
      obtain rfl := e2
      have hd1 : wr.cell? ⟨b1, o1 + k, none⟩ = some (.int .i64 z) := by rw [hBr.cell (p := ⟨b1, o1 + k, none⟩) (World.block_lt_of_cell? w _ hc1)]; exact hc1
      have hd2 : wr.cell? ⟨b2, o2 + k, none⟩ = some (.slice ap pk.length cp) := by rw [hBr.cell (p := ⟨b2, o2 + k, none⟩) (World.block_lt_of_cell? w _ hc2)]; exact hc2
      have hzn := HF.out.2.2.1 z (List.mem_of_getElem? hz)
      obtain ⟨m, rfl⟩ : ∃ m : Nat, z = (m : Int) := ⟨z.toNat, by unfold hasB at hzn; simp at hzn; omega⟩
      have hmb : m < nb := by unfold hasB at hzn; simp at hzn; omega
      have hxk : ns[k]? = some (m, frameOf blockK pk (sq : Nat) (m : Nat)) := by rw [HNS.out]; exact nsOf_get hz hpk
      have HST := hid (notes_set ns n k _ HLEN.out hxk)
      have HM0 : Hid ((-9223372036854775808 : Int) ≤ (sq : Nat) ∧ ((sq : Nat) : Int) ≤ 9223372036854775807) := hid (by have := HSQ.out; omega)
      have HM1 : Hid ((-9223372036854775808 : Int) ≤ (m : Nat) ∧ ((m : Nat) : Int) ≤ 9223372036854775807) := hid (by have := HNB.out; omega)
      have HC1 := hid hd1
      have HC2 := hid hd2
      have HS2 := hid (hs2.below hBr)
      have HNR := hid hNr
      have HHR := hid hHr
      have HBR := hid hBr
      have HTR := hid (HT.out.below hBr)
      have HKL : Hid (k < (ns.take k ++ List.replicate (n - k) ((0 : Nat), z128)).length) := hid (by rw [List.length_append, List.length_take, List.length_replicate, HLEN.out]; omega)
      clear hz hc1 hc2 hs2 hpk hd1 hd2 hzn hmb hxk hNr hHr hBr hnl hzl
      go_upto_region 14 with fail
      refine z_open (S := fun w' => w'.cell? ⟨b1, o1 + k, none⟩ = some (.int .i64 (m : Nat)) ∧ w'.cell? ⟨b2, o2 + k, none⟩ = some (.slice ap pk.length cp) ∧ Hd w' hb (sq : Nat) (n : Nat)) 20 (by kernel_rfl) (by kernel_rfl) (fun _ _ _ _ _ h => h) (L := #[false, false, false, false, false, false, false, false, false, false, false, false, false, false, false, false, false, false, false, false, false]) (by kernel_rfl) ?_
      intro Q' hns hP hN
      have hS := (show wr.drew.cell? ⟨b1, o1 + k, none⟩ = some (.int .i64 (m : Nat)) ∧ wr.drew.cell? ⟨b2, o2 + k, none⟩ = some (.slice ap pk.length cp) ∧ Hd wr.drew hb (sq : Nat) (n : Nat) from ⟨HC1.out, HC2.out, HHR.out⟩)
      refine z_pure (i := 0) (v := .slice (some ⟨g, 0, none⟩) n n) hns rfl rfl rfl (by kernel_rfl) (by kernel_rfl) hP (y_move rfl) (fun _ => hS) rfl (L' := #[true, false, false, false, false, false, false, false, false, false, false, false, false, false, false, false, false, false, false, false, false]) (by kernel_rfl) ?_
      refine z_pure (i := 1) (v := .int .i64 k) hns rfl rfl rfl (by kernel_rfl) (by kernel_rfl) hP (y_move rfl) (fun _ => hS) rfl (L' := #[true, true, false, false, false, false, false, false, false, false, false, false, false, false, false, false, false, false, false, false, false]) (by kernel_rfl) ?_
      refine z_pure (i := 2) (v := .slice (some ⟨b1, o1, none⟩) n ca) hns rfl rfl rfl (by kernel_rfl) (by kernel_rfl) hP (y_move rfl) (fun _ => hS) rfl (L' := #[true, true, true, false, false, false, false, false, false, false, false, false, false, false, false, false, false, false, false, false, false]) (by kernel_rfl) ?_
      refine z_pure (i := 3) (v := .int .i64 k) hns rfl rfl rfl (by kernel_rfl) (by kernel_rfl) hP (y_move rfl) (fun _ => hS) rfl (L' := #[true, true, true, true, false, false, false, false, false, false, false, false, false, false, false, false, false, false, false, false, false]) (by kernel_rfl) ?_
      refine z_pure (i := 4) (v := .pointer (some ⟨b1, o1 + k, none⟩)) hns rfl rfl rfl (by kernel_rfl) (by kernel_rfl) hP (y_index rfl (hr := idx43 b1 o1 n ca k hlt)) (fun _ => hS) rfl (L' := #[true, true, true, true, true, false, false, false, false, false, false, false, false, false, false, false, false, false, false, false, false]) (by kernel_rfl) ?_
      refine z_read (i := 5) (v := .int .i64 (m : Nat)) hns rfl (by kernel_rfl) rfl rfl (by kernel_rfl) (by kernel_rfl) hP (y_load rfl (hl := fun w' h => load1 Tryz.isAgg3 h.1)) rfl hS rfl (L' := #[true, true, true, true, true, true, false, false, false, false, false, false, false, false, false, false, false, false, false, false, false]) (by kernel_rfl) ?_
      refine z_pure (i := 6) (v := .slice (some ⟨b2, o2, none⟩) n cb') hns rfl rfl rfl (by kernel_rfl) (by kernel_rfl) hP (y_move rfl) (fun _ => hS) rfl (L' := #[true, true, true, true, true, true, true, false, false, false, false, false, false, false, false, false, false, false, false, false, false]) (by kernel_rfl) ?_
      simp only [List.setIfInBounds_toArray, List.set_cons_zero, List.set_cons_succ]
      refine z_pure (i := 7) (v := .int .i64 k) hns rfl rfl rfl (by kernel_rfl) (by kernel_rfl) hP (y_move rfl) (fun _ => hS) rfl (L' := #[true, true, true, true, true, true, true, true, false, false, false, false, false, false, false, false, false, false, false, false, false]) (by kernel_rfl) ?_
      refine z_pure (i := 8) (v := .pointer (some ⟨b2, o2 + k, none⟩)) hns rfl rfl rfl (by kernel_rfl) (by kernel_rfl) hP (y_index rfl (hr := idx46 b2 o2 n cb' k hlt)) (fun _ => hS) rfl (L' := #[true, true, true, true, true, true, true, true, true, false, false, false, false, false, false, false, false, false, false, false, false]) (by kernel_rfl) ?_
      refine z_read (i := 9) (v := .slice ap pk.length cp) hns rfl (by kernel_rfl) rfl rfl (by kernel_rfl) (by kernel_rfl) hP (y_load rfl (hl := fun w' h => load1 Tryz.isAgg49 h.2.1)) rfl hS rfl (L' := #[true, true, true, true, true, true, true, true, true, true, false, false, false, false, false, false, false, false, false, false, false]) (by kernel_rfl) ?_
      refine z_pure (i := 10) (v := .pointer (some ⟨hb, 0, none⟩)) hns rfl rfl rfl (by kernel_rfl) (by kernel_rfl) hP (y_faddr rfl (hf := fa78_0 (hb))) (fun _ => hS) rfl (L' := #[true, true, true, true, true, true, true, true, true, true, true, false, false, false, false, false, false, false, false, false, false]) (by kernel_rfl) ?_
      refine z_read (i := 11) (v := .int .i64 (sq : Nat)) hns rfl (by kernel_rfl) rfl rfl (by kernel_rfl) (by kernel_rfl) hP (y_load rfl (hl := fun w' h => load1 Tryz.isAgg2 (cell_at h.2.2 0 rfl))) rfl hS rfl (L' := #[true, true, true, true, true, true, true, true, true, true, true, true, false, false, false, false, false, false, false, false, false]) (by kernel_rfl) ?_
      refine z_pure (i := 12) (v := .slice (some ⟨b1, o1, none⟩) n ca) hns rfl rfl rfl (by kernel_rfl) (by kernel_rfl) hP (y_move rfl) (fun _ => hS) rfl (L' := #[true, true, true, true, true, true, true, true, true, true, true, true, true, false, false, false, false, false, false, false, false]) (by kernel_rfl) ?_
      refine z_pure (i := 13) (v := .int .i64 k) hns rfl rfl rfl (by kernel_rfl) (by kernel_rfl) hP (y_move rfl) (fun _ => hS) rfl (L' := #[true, true, true, true, true, true, true, true, true, true, true, true, true, true, false, false, false, false, false, false, false]) (by kernel_rfl) ?_
      refine z_pure (i := 14) (v := .pointer (some ⟨b1, o1 + k, none⟩)) hns rfl rfl rfl (by kernel_rfl) (by kernel_rfl) hP (y_index rfl (hr := idx43 b1 o1 n ca k hlt)) (fun _ => hS) rfl (L' := #[true, true, true, true, true, true, true, true, true, true, true, true, true, true, true, false, false, false, false, false, false]) (by kernel_rfl) ?_
      simp only [List.setIfInBounds_toArray, List.set_cons_zero, List.set_cons_succ]
      refine z_read (i := 15) (v := .int .i64 (m : Nat)) hns rfl (by kernel_rfl) rfl rfl (by kernel_rfl) (by kernel_rfl) hP (y_load rfl (hl := fun w' h => load1 Tryz.isAgg3 h.1)) rfl hS rfl (L' := #[true, true, true, true, true, true, true, true, true, true, true, true, true, true, true, true, false, false, false, false, false]) (by kernel_rfl) ?_
      refine z_val (i := 16) (v := .agg #[.int .i64 (sq : Nat), .int .i64 (m : Nat)]) (by kernel_rfl) rfl rfl (by kernel_rfl) (run_buildOp rfl (by kernel_rfl) (build78 _ (sq : Nat) (m : Nat))) hS rfl (L' := #[true, true, true, true, true, true, true, true, true, true, true, true, true, true, true, true, true, false, false, false, false]) (by kernel_rfl) ?_
      refine z_call (i := 17) (f := 74) (args := #[.string ⟨blockK.toArray⟩, .slice ap pk.length cp, .agg #[.int .i64 (sq : Nat), .int .i64 (m : Nat)]]) (by kernel_rfl) rfl rfl (by kernel_rfl) (enter_go rfl (by kernel_rfl) (fun w => by go_simp)) (L' := #[true, true, true, true, true, true, true, true, true, true, true, true, true, true, true, true, true, true, false, false, false]) (by kernel_rfl) ?_
      refine (framed_any blockK pk (sq : Nat) (m : Nat) _ wr.drew (show Tab wr.drew from HTR.out) (show Sl wr.drew _ pk from HS2.out) HM0.out HM1.out (by decide)).mono ?_
      rintro e w4 ⟨rfl, hB4⟩
      have hB4 : Below wr.heap.size wr w4 := ⟨hB4.os, hB4.tape, hB4.output, hB4.size, hB4.block⟩
      have hN4 := HNR.out.below hB4
      obtain ⟨c, hst, hN5⟩ := hN4.store (k := k) HKL.out (m, frameOf blockK pk (sq : Nat) (m : Nat)) (frameOf_len _ _ _ _)
      have hS4 : w4.cell? ⟨b1, o1 + k, none⟩ = some (.int .i64 (m : Nat)) ∧ w4.cell? ⟨b2, o2 + k, none⟩ = some (.slice ap pk.length cp) ∧ Hd w4 hb (sq : Nat) (n : Nat) := ⟨by rw [hB4.cell (p := ⟨b1, o1 + k, none⟩) (World.block_lt_of_cell? wr _ HC1.out)]; exact HC1.out, by rw [hB4.cell (p := ⟨b2, o2 + k, none⟩) (World.block_lt_of_cell? wr _ HC2.out)]; exact HC2.out, below_at hB4 HHR.out (heap_lt HHR.out)⟩
      refine ⟨_, rfl, hS4, ?_⟩
      refine z_val (i := 18) (v := noteV (m, frameOf blockK pk (sq : Nat) (m : Nat))) (by kernel_rfl) rfl rfl (by kernel_rfl) (run_buildOp rfl (by kernel_rfl) (build96 _ m (frameOf blockK pk (sq : Nat) (m : Nat)) (frameOf_len _ _ _ _))) hS4 rfl (L' := #[true, true, true, true, true, true, true, true, true, true, true, true, true, true, true, true, true, true, true, false, false]) (by kernel_rfl) ?_
      refine z_pure (i := 19) (v := .pointer (some ⟨g, k * 129, none⟩)) hns rfl rfl rfl (by kernel_rfl) (by kernel_rfl) hP (y_index rfl (hr := idx86 g n n k hlt)) (fun _ => hS4) rfl (L' := #[true, true, true, true, true, true, true, true, true, true, true, true, true, true, true, true, true, true, true, true, false]) (by kernel_rfl) ?_
      refine z_last (by kernel_rfl) rfl rfl (by kernel_rfl) (run_storeOp rfl (by kernel_rfl) (by kernel_rfl) hst) rfl (L' := #[true, true, true, true, true, true, true, true, true, true, true, true, true, true, true, true, true, true, true, true, true]) (by kernel_rfl) ?_
      try simp only [List.setIfInBounds_toArray, List.set_cons_zero, List.set_cons_succ]
      refine z_done (by kernel_rfl) ?_ _
      refine hN _ _ ?_
      clear hP hN hns
      have HZ : Hid (Nts (w4.setRow g c) g (.slice (some ⟨g, 0, none⟩) n n) (ns.take (k + 1) ++ List.replicate (n - (k + 1)) (0, z128)) ∧ Hd (w4.setRow g c) hb (sq : Nat) (n : Nat) ∧ Below w.heap.size w (w4.setRow g c)) := hid (by
        refine ⟨by rw [← HST.out]; exact hN5, (setRow_other w4 g hb c (fun e => ?_)).trans hS4.2.2, below_row (HBR.out.trans (hB4.mono HBR.out.size)) hgb c⟩
        have h1 := hS4.2.2
        rcases hN4.2 with ⟨h, _⟩ | ⟨_, _, _, hg, _⟩
        · cases h
        · rw [Hd, e, hg] at h1; cases h1)
      clear hN5 hS4 hB4 hN4 hst HST HM0 HM1 HC1 HC2 HS2 HNR HHR HBR HTR HKL hS
      generalize w4.setRow g c = w5 at *
      go_wp2
      exact ⟨⟨k + 1, by omega, rfl, HZ.out⟩, by simp [intOf]; omega⟩
    · have hlt' : ¬ (k : Int) < (n : Int) := by omega
      have hkn : k = n := by omega
      rw [hkn, List.take_of_length_le (by rw [HLEN.out]; exact Nat.le_refl _), Nat.sub_self, List.replicate_zero, List.append_nil] at hNr
      have hJr : Jn wr j p nb (seq : Nat) 0 := below_at hBr HJ.out hjl
      have HCM := hid (commit_any hJr (HD.out.below hBr) hNr (HT.out.below hBr) HNB.out (by rw [HLEN.out]; exact hnl) HIX.out HSQ.out (cnt := n) hnl)
      have HHR := hid hHr
      have HBR := hid hBr
      have HHN := hid (hd_not (HD.out.below hBr) hJr hHr)
      clear hNr hHr hBr hnl hkn hJr
      generalize s.comR nb sq n ns = RR at *
      go_upto_region 16 with fail
      refine wp_region_lit ?_
      refine wp_y (v := .pointer (some ⟨j, 0, none⟩)) rfl rfl (y_move rfl) rfl ?_
      refine wp_y (v := .agg #[.int .i64 (sq : Nat), .int .i64 (n : Nat)]) rfl rfl (y_load rfl (hl := fun w' h => by subst h; exact load78 HHR.out)) rfl ?_
      refine wp_y (v := .slice (some ⟨g, 0, none⟩) n n) rfl rfl (y_move rfl) rfl ?_
      refine wp_call (f := 92) (args := #[.pointer (some ⟨j, 0, none⟩), .agg #[.int .i64 (sq : Nat), .int .i64 (n : Nat)], .slice (some ⟨g, 0, none⟩) n n]) (by kernel_rfl) (fun w => by go_simp) ?_
      refine HCM.out.mono ?_
      rintro e w6 ⟨rfl, hJ6, X6, hD6, hX6, hF6⟩
      refine ⟨_, rfl, ?_⟩
      dsimp only [Act.put]
      refine wp_y (v := .int .i64 RR.1) rfl rfl (y_assign rfl) rfl ?_
      try simp only [List.setIfInBounds_toArray, List.set_cons_zero, List.set_cons_succ]
      refine wp_end ?_
      have hH6 : Hd w6 hb (sq : Nat) (n : Nat) := hF6.at HHR.out HHN.out
      have hF06 : Fr (j :: X) w w6 := (Fr.of_below (X := j :: X) HBR.out).trans hF6 (fun k hk => .inl hk)
      have hX6' : ∀ k ∈ X6, k ∈ X ∨ w.heap.size ≤ k := fun k hk => by
        rcases hX6 k hk with h | h
        · exact .inl h
        · exact .inr (Nat.le_trans HBR.out.size h)
      clear hF6 hX6 HCM HHR HBR HHN
      by_cases hr : RR.1 = 0
      · have hd0 : w6.cell? ⟨hb, 0, none⟩ = some (.int .i64 (sq : Nat)) := cell_at hH6 0 rfl
        have hd2 := hJ6.c2
        have hf2 := hJ6.f 2
        have hJ7 : Jn (w6.setCell ⟨j, 2, none⟩ (.int .i64 (sq : Nat))) j p nb (sq : Nat) RR.1 := heap_setCell hJ6 2 (.int .i64 (sq : Nat))
        have hFj := Fr.setCell w6 j 2 (.int .i64 (sq : Nat))
        have hD7 := hD6.fr hFj (hD6.jnot hJ6)
        have HZ : Hid (Wrote w j p nb seq X RR (.returned (.int .i64 0)) (w6.setCell ⟨j, 2, none⟩ (.int .i64 (sq : Nat)))) := hid ⟨by rw [hr], by rw [if_pos hr, ← HSE.out]; exact hJ7, ⟨X6, hD7, hX6'⟩, hF06.trans hFj (fun k hk => .inl (by simp at hk; simp [hk]))⟩
        clear hJ7 hFj hD7 hF06 hX6' hH6 hJ6 hD6
        rw [hr]
        clear hr
        go_wp2
        go_ret
        exact HZ.out
      · have HZ : Hid (∀ e, e = .returned (.int .i64 RR.1) → Wrote w j p nb seq X RR e w6) := hid (fun e h => ⟨h, by rw [if_neg hr]; exact hJ6, ⟨X6, hD6, hX6'⟩, hF06⟩)
        generalize RR.1 = ev at *
        clear hF06 hX6' hH6 hJ6 hD6
        go_wp2
        go_ret
        exact HZ.out _ rfl
end Go.Proofs.YtcmgclkbhhdnaaaGreatDoor
