/- texts put together: PRead PHtw PMem PMeth PMain PGet PTwo POpen -/
import Derived.Test.YtcmgclkbhhdnaaaGreatDoorPGb
import Derived.Laws.MakeOwn
namespace Go.Proofs.YtcmgclkbhhdnaaaGreatDoor
open Go Go.RowKit

/-- The bytes of blocks that follow each other. -/
def cat (bl : List (List UInt8)) (f n : Nat) : List UInt8 := ((bl.drop f).take n).flatten
theorem cat_zero (bl : List (List UInt8)) (f : Nat) : cat bl f 0 = [] := by simp [cat]
theorem cat_succ (bl : List (List UInt8)) (f n : Nat) (b : List UInt8) (h : bl[f + n]? = some b) : cat bl f (n + 1) = cat bl f n ++ b := by
  unfold cat
  rw [List.take_add_one, List.getElem?_drop, h]
  simp
theorem cat_len (bl : List (List UInt8)) (hl : ∀ b ∈ bl, b.length = 112) (f : Nat) : ∀ n, f + n ≤ bl.length → (cat bl f n).length = n * 112
  | 0, _ => by simp [cat]
  | n + 1, h => by
    obtain ⟨b, hb⟩ : ∃ b, bl[f + n]? = some b := ⟨_, List.getElem?_eq_getElem (by omega)⟩
    rw [cat_succ bl f n b hb, List.length_append, cat_len bl hl f n (by omega), hl b (List.mem_of_getElem? hb)]
    omega
/-- Bytes are put behind bytes. -/
theorem more_bytes {w : World} {B : Nat} {v : Value} {l : List UInt8} (h : w.ownsRow B 5 1 v l.length (cells8 l)) {g m c : Nat} {b : List UInt8} (hb : Rd w g 0 b) (hm : b.length = m) (hn : l.length ≤ 1000000) (hmb : m ≤ 1000000) (hB : B ≤ w.heap.size) (ty : TypeId) :
    ∃ v' w', (Builtin.append_ #[49, 49] ty #[v, .slice (some ⟨g, 0, none⟩) m c]).run Tryz.prog w = .ok v' w' ∧ w'.ownsRow B 5 1 v' (l ++ b).length (cells8 (l ++ b)) ∧ Below B w w' := by
  obtain ⟨i0, hie, hz0, hz1, hz2⟩ := info_parts info8
  obtain ⟨v', w', hr, ho, hg, _, _⟩ := run_append_own_at (P := Tryz.prog) (w := w) B 49 ty 5 i0 (.int .u8 0) 1 1 Tryz.underlying49 hie hz0 hz1 hz2 rfl (by decide) v l.length _ h ⟨g, 0, none⟩ m c (cells8 b)
    (by rw [cells8_len, hm, Nat.mul_one]) (fun j u hj => by
      have hjl : j < b.length := by have := (List.getElem?_eq_some_iff.1 hj).1; rwa [cells8_len] at this
      rw [cells8_get b j hjl] at hj
      cases hj
      rw [Addr.add_lit]
      exact hb j hjl) (cells8_one b) (by unfold maxLen; omega) (by omega) hB
  refine ⟨v', w', hr, ?_, ?_⟩
  · rw [cells8_append, ← hm, ← List.length_append] at ho
    exact ho
  · exact (Below.refl B w).grown hg hB (fun k e => by
      rcases h.2 with ⟨rfl, _⟩ | ⟨g2, cap, cur, rfl, hb2, _, _⟩
      · simp [Value.ownBlock] at e
      · obtain rfl : g2 = k := by simpa [Value.ownBlock] using e
        exact hb2)
theorem owns_below2 {w w' : World} {B : Nat} {t : TypeId} {v : Value} {n : Nat} {xs : List Value} (h : w.ownsRow B t 1 v n xs) (hB : Below w.heap.size w w') : w'.ownsRow B t 1 v n xs := owns_fr (X := []) h (Fr.of_below hB) (by simp)
set_option maxRecDepth 100000 in
set_option maxHeartbeats 1000000 in
theorem readBlocks_any {w : World} {j p : Nat} {X : List Nat} {s : DS} {sq cnt : Nat} {bl : List (List UInt8)} (h : Jr w j p X s sq cnt bl) (f n : Nat) (hn : f + n ≤ bl.length) (hn2 : n ≤ 100) :
    Calls Tryz.prog 62 #[.pointer (some ⟨j, 0, none⟩), .int .i64 f, .int .i64 n] w fun e w' => ∃ v, e = .returned (.tuple #[v, .int .i64 0]) ∧ w'.ownsRow w.heap.size 5 1 v (n * 112) (cells8 (cat bl f n)) ∧ Below w.heap.size w w' := by
  obtain ⟨B, hB⟩ : ∃ B, w.heap.size = B := ⟨_, rfl⟩
  obtain ⟨i0, hie, hz0, hz1, hz2⟩ := info_parts info8
  obtain ⟨w1, hmk, ho1, hg1⟩ := run_make_own (P := Tryz.prog) w w.heap.size 49 5 i0 (.int .u8 0) 1 Tryz.underlying49 hie hz0 hz1 .i64 .i64 (n * 112) (by rw [hz2]; omega) (by unfold maxLen; omega) (Nat.le_refl _)
  have hB1 : Below w.heap.size w w1 := (Below.refl _ w).grown hg1 (Nat.le_refl _) (fun k e => by cases e)
  have hnb := h.nb
  have hbl : bl.length = nbOf s.n := h.sett.con.len
  obtain ⟨nn, hnn⟩ : ∃ nn, n * 112 = nn := ⟨_, rfl⟩
  have hmu : IntKind.i64.wrap ((n : Int) * 112) = (nn : Int) := by rw [IntWalk.i64_in _ ⟨by omega, by omega⟩]; omega
  rw [hnn] at hmk ho1 ⊢
  rw [hB] at hmk ho1 hB1 ⊢
  have HNN := hid hnn
  have HMK := hid hmk
  have H1 := hid (And.intro ho1 hB1)
  have HJ := hid h
  have HN := hid (show f + n ≤ bl.length ∧ n ≤ 100 ∧ bl.length < 8192 from ⟨hn, hn2, by omega⟩)
  have HB := hid hB
  have HMUL := hid hmu
  clear hmk ho1 hB1 hg1 h hn hn2 hnb hbl hB hie hz0 hz1 hz2 hnn hmu
  go_enter Tryz.func62, Tryz.ntmps62
  go_upto_region 1 with fail
  refine wp_region_lit ?_
  refine wp_y (v := .int .i64 n) rfl rfl (y_move rfl) rfl ?_
  refine wp_y (v := .int .i64 (nn : Nat)) rfl rfl (y_bin (k := .i64) (k' := .i64) (m := n) (n := 112) rfl (by kernel_rfl) (by kernel_rfl) (by kernel_rfl) (qmul _ _ _ HMUL.out)) rfl ?_
  refine wp_run (v := .slice (some ⟨B, 0, none⟩) 0 nn) rfl rfl (run_mkOp rfl (by kernel_rfl) (by kernel_rfl) HMK.out) rfl ?_
  refine wp_y (v := .slice (some ⟨B, 0, none⟩) 0 nn) rfl rfl (y_assign rfl) rfl ?_
  try simp only [List.setIfInBounds_toArray, List.set_cons_zero, List.set_cons_succ]
  refine wp_end ?_
  clear HMK
  go_wp2_with fail
  go_loopw [16, 8, 9, 10, 11] (fun y v _ _ _ wr => ∃ k : Nat, k ≤ n ∧ y = .int .i64 k ∧ wr.ownsRow B 5 1 v (k * 112) (cells8 (cat bl f k)) ∧ Below B w wr) (fun y _ _ _ _ _ => n - (intOf y).toNat)
  case atStart => exact ⟨0, Nat.zero_le _, rfl, by rw [cat_zero, Nat.zero_mul]; exact H1.out.1, H1.out.2⟩
  case round =>
    clear H1
    obtain ⟨k, hk, rfl, ho, hBr⟩ := hrel
    have hnn := HN.out
    have hwk : IntKind.i64.wrap ((k : Int) + 1) = ((k + 1 : Nat) : Int) := by rw [IntWalk.i64_in _ ⟨by omega, by omega⟩]; omega
    by_cases hlt : k < n
    · have hlt' : (k : Int) < (n : Int) := by omega
      have hwf : IntKind.i64.wrap ((f : Int) + (k : Int)) = ((f + k : Nat) : Int) := by rw [IntWalk.i64_in _ ⟨by omega, by omega⟩]; omega
      obtain ⟨b, hb⟩ : ∃ b, bl[f + k]? = some b := ⟨_, List.getElem?_eq_getElem (by omega)⟩
      have hJr := HJ.out.below (by rw [HB.out]; exact hBr)
      have hlen : b.length = 112 := hJr.sett.con.lens b (List.mem_of_getElem? hb)
      have hcl := cat_len bl hJr.sett.con.lens f k (by omega)
      have HRD := hid (hJr.readS hb)
      have HO := hid ho
      have HBR := hid hBr
      have HK := hid (And.intro hlt (And.intro hb (And.intro hlen hcl)))
      clear ho hBr hJr hb hlen hcl hlt hk
      obtain ⟨fk, hfk⟩ : ∃ fk, fk = f + k := ⟨_, rfl⟩
      rw [← hfk] at hwf HRD
      have HFK := hid hfk
      clear hfk
      have hfkI : (f : Int) + (k : Int) = (fk : Int) := by have := HFK.out; omega
      go_wp2_with fail
      refine HRD.out.mono ?_
      rintro e w3 ⟨hB3, g, fr, hg, rfl, hfr, hfl, hft, hsl⟩
      have hkk := HK.out
      have hrd : Rd w3 g 0 b := by
        have h1 := hfr.rd.part 0 112
        rw [List.drop_zero, hft] at h1
        exact h1
      have ho3 := owns_below2 HO.out hB3
      have hBs : B ≤ w3.heap.size := by have := HBR.out.size; have := hB3.size; have := HB.out; omega
      rw [← hkk.2.2.2] at ho3
      obtain ⟨v', w4, hap, ho4, hB4⟩ := more_bytes (c := 112) ho3 hrd hkk.2.2.1 (by rw [hkk.2.2.2]; omega) (by decide) hBs 49
      rw [← cat_succ bl f k b hkk.2.1] at ho4
      have hl4 : (cat bl f (k + 1)).length = (k + 1) * 112 := by rw [cat_succ bl f k b hkk.2.1, List.length_append, hkk.2.2.2, hkk.2.2.1]; omega
      rw [hl4] at ho4
      have HAP := hid hap
      have HZ := hid (And.intro ho4 ((HBR.out.trans (hB3.mono (by have := HBR.out.size; have := HB.out; omega))).trans hB4))
      have HLT := hid hkk.1
      clear hkk hrd ho3 hBs hap ho4 hB4 hl4 hB3 hg hfr hfl hft hsl hfkI
      go_upto_region 8 with fail
      refine wp_region_lit ?_
      refine wp_y (v := u8) rfl rfl (y_move rfl) rfl ?_
      refine wp_y (v := .slice (some ⟨g, 0, none⟩) 112 112) rfl rfl (y_move rfl) rfl ?_
      refine wp_run (v := v') rfl rfl (run_appOp rfl (by kernel_rfl) (by kernel_rfl) HAP.out) rfl ?_
      refine wp_y (v := v') rfl rfl (y_assign rfl) rfl ?_
      try simp only [List.setIfInBounds_toArray, List.set_cons_zero, List.set_cons_succ]
      refine wp_end ?_
      go_wp2_with fail
      exact ⟨⟨k + 1, HLT.out, rfl, HZ.out⟩, by have := HLT.out; simp [intOf]; omega⟩
    · obtain rfl : k = n := by omega
      have hlt' : ¬ (k : Int) < (k : Int) := by omega
      have HZ := hid (And.intro ho hBr)
      clear ho hBr hk hlt
      go_wp2_with fail
      go_ret2
      exact ⟨_, rfl, by rw [← HNN.out]; exact HZ.out.1, HZ.out.2⟩
theorem pagesOf_any {w : World} {j p nb : Nat} {sq off : Int} (hj : Jn w j p nb sq off) (h0 : 2 ≤ nb) (h1 : nb < 8192) : Calls Tryz.prog 41 #[.pointer (some ⟨j, 0, none⟩)] w fun e w' => e = .returned (.int .i64 (((nb - 2) / 8 : Nat) : Int)) ∧ w' = w := by
  have HB := hid (jblocks_any hj)
  have h2 : IntKind.i64.wrap ((nb : Int) - 2) = ((nb - 2 : Nat) : Int) := by rw [IntWalk.i64_in _ ⟨by omega, by omega⟩]; omega
  have HE := hid (show wrap64 (((nb - 2 : Nat) : Int) / 8) = (((nb - 2) / 8 : Nat) : Int) by unfold wrap64; omega)
  generalize (nb - 2) / 8 = q at *
  generalize nb - 2 = n2 at *
  clear hj
  go_enter Tryz.func41, Tryz.ntmps41
  go_wp2_with fail
  refine HB.out.mono ?_
  rintro e wz ⟨rfl, hwz⟩
  obtain rfl := hwz.symm
  clear HB
  go_wp2
  go_ret
  exact ⟨by show Ending.returned (.int .i64 (wrap64 ((n2 : Int) / 8))) = _; rw [HE.out], rfl⟩
theorem firstBlock_any (k : Nat) (hk : k ≤ 1023) (w : World) : Calls Tryz.prog 56 #[.int .i64 k] w fun e w' => e = .returned (.int .i64 ((2 + k * 8 : Nat) : Int)) ∧ w' = w := by
  have h1 : IntKind.i64.wrap ((k : Int) * 8) = ((k * 8 : Nat) : Int) := by rw [IntWalk.i64_in _ ⟨by omega, by omega⟩]; omega
  have h2 : IntKind.i64.wrap (2 + ((k * 8 : Nat) : Int)) = ((2 + k * 8 : Nat) : Int) := by rw [IntWalk.i64_in _ ⟨by omega, by omega⟩]; omega
  generalize 2 + k * 8 = q at *
  generalize k * 8 = r at *
  go_enter Tryz.func56, Tryz.ntmps56
  go_wp2
  go_ret
  exact ⟨by simp [*], rfl⟩
end Go.Proofs.YtcmgclkbhhdnaaaGreatDoor
namespace Go.Proofs.YtcmgclkbhhdnaaaGreatDoor
open Go Go.RowKit

/-- A part of a value of many bytes: its block, the block's kind, which part, and the bytes of the whole. -/
structure Pq where
  g : Nat
  t : TypeId
  x : Nat
  L : List UInt8
def Pq.val (q : Pq) : Value := chk q.g 0 q.x
def Pq.by (q : Pq) : List UInt8 := (q.L.drop (q.x * 112)).take 112
def Pq.ok (w : World) (q : Pq) : Prop := Rw w q.g q.t q.L ∧ (q.t = 70 ∨ q.t = 109) ∧ q.x * 112 + 112 ≤ q.L.length
theorem Pq.by_len {w : World} {q : Pq} (h : q.ok w) : q.by.length = 112 := by
  have := h.2.2
  unfold Pq.by
  rw [List.length_take, List.length_drop]; omega
theorem Pq.sl {w : World} {q : Pq} (h : q.ok w) : Sl w q.val q.by := by
  have h1 := h.1.rd.part (q.x * 112) 112
  have hl := Pq.by_len h
  unfold Pq.val chk
  have h2 := Sl.mk (cap := 112) h1 (by show q.by.length ≤ _; omega)
  have : ((q.L.drop (q.x * 112)).take 112).length = 112 := hl
  rw [this] at h2
  exact h2
theorem Pq.ot {w w' : World} {q : Pq} (h : q.ok w) (hO : Ot2 w w') : q.ok w' := by
  refine ⟨hO.block _ _ h.1 (fun c e => ?_) (fun c e => ?_), h.2⟩
  · injection e with _ e2
    rcases h.2.1 with h1 | h1 <;> rw [h1] at e2 <;> exact absurd e2 (by decide)
  · injection e with _ e2
    rcases h.2.1 with h1 | h1 <;> rw [h1] at e2 <;> exact absurd e2 (by decide)
theorem Pq.below {w w' : World} {q : Pq} (h : q.ok w) (hB : Below w.heap.size w w') : q.ok w' := ⟨h.1.below hB h.1.lt, h.2⟩
/-- The slice v has these parts. -/
def Bq (w : World) (B : Nat) (v : Value) (qs : List Pq) : Prop := w.ownsRow B 49 1 v qs.length (qs.map Pq.val) ∧ ∀ q ∈ qs, q.ok w
theorem Bq.below {w w' : World} {B : Nat} {v : Value} {qs : List Pq} (h : Bq w B v qs) (hB : Below w.heap.size w w') : Bq w' B v qs := ⟨owns_below2 h.1 hB, fun q hq => Pq.below (h.2 q hq) hB⟩
theorem Bq.bz {w : World} {B : Nat} {v : Value} {qs : List Pq} (h : Bq w B v qs) : Bz w v (qs.map Pq.by) := by
  obtain ⟨a, cap, hv⟩ : ∃ a cap, v = .slice a qs.length cap := by
    rcases h.1.2 with ⟨rfl, h0⟩ | ⟨g, cap, cur, rfl, _⟩
    · exact ⟨none, 0, by rw [h0]⟩
    · exact ⟨_, cap, rfl⟩
  refine ⟨a, cap, by rw [hv, List.length_map], fun k hk => ?_⟩
  rw [List.length_map] at hk
  obtain ⟨q, hq⟩ : ∃ q, qs[k]? = some q := ⟨qs[k], List.getElem?_eq_getElem hk⟩
  have hok := h.2 q (List.mem_of_getElem? hq)
  have hg : (qs.map Pq.by).getD k [] = q.by := by simp [List.getD, hq]
  rcases h.1.2 with ⟨e, h0⟩ | ⟨g, cap', cur, e, hb, hgg, hc, hm, hs, ht⟩
  · omega
  · rw [hv] at e
    injection e with e1 e2 e3
    subst e1
    refine ⟨g, 0, some ⟨q.g, 0 + q.x * 112, none⟩, 112, rfl, ?_, ?_⟩
    · rw [Nat.zero_add, hg, Pq.by_len hok]
      refine cell_at hgg k ?_
      have h1 : (qs.map Pq.val)[k]? = some q.val := by rw [List.getElem?_map, hq]; rfl
      rw [← ht, List.getElem?_take_of_lt (by omega)] at h1
      rw [Array.getElem?_toList] at h1
      exact h1
    · rw [hg]
      have := Pq.sl hok
      unfold Pq.val chk at this
      rw [Pq.by_len hok]
      exact this
theorem parr70 (g cap : Nat) (w : World) : (Instr.arrayAt 70 (.slice (some ⟨g, 0, none⟩) 224 cap)).run Tryz.prog w = .ok (.pointer (some ⟨g, 0, none⟩)) w := by
  simp [Instr.arrayAt, run_underlying punder70, Sem.run_bind, Sem.run_pure, Result.andThen]
theorem parr109 (g o cap : Nat) (w : World) : (Instr.arrayAt 109 (.slice (some ⟨g, o, none⟩) 896 cap)).run Tryz.prog w = .ok (.pointer (some ⟨g, o, none⟩)) w := by
  simp [Instr.arrayAt, run_underlying under109, Sem.run_bind, Sem.run_pure, Result.andThen]
/-- Bytes that lie somewhere, as one value. -/
theorem load_rd {T : TypeId} {k : Nat} (ha : ∀ w, (isAgg T).run Tryz.prog w = .ok true w) (hz : (Tryz.prog.info? T).map (·.size) = some k) {w : World} {g o : Nat} {l : List UInt8} (hl : l.length = k) (h : Rd w g o l) : (Instr.loadAt T (.pointer (some ⟨g, o, none⟩))).run Tryz.prog w = .ok (V8 l) w := by
  have hc := run_loadCells_list (P := Tryz.prog) w ⟨g, o, none⟩ (cells8 l) (fun j v hv => by
    have hj : j < l.length := by have := (List.getElem?_eq_some_iff.1 hv).1; rwa [cells8_len] at this
    rw [cells8_get l j hj] at hv
    cases hv
    rw [add_lit]
    exact h j hj)
  rw [cells8_len, hl] at hc
  unfold V8
  simp only [Instr.loadAt, Instr.sureAddr, Sem.run_bind, Sem.run_pure, Result.andThen, loadVar, ha, run_size hz, hc, if_true]
set_option maxRecDepth 100000 in
set_option maxHeartbeats 1000000 in
theorem htw_any (l : List Bool) (kl kr : Int) (hl : l.length ≤ 1023) (r : Nat) (hr : kr + 1 = (r : Int)) (hr2 : r < 65536) (w : World) :
    Calls Tryz.prog 52 #[St l kl kr] w fun e w' => ∃ va vb g, e = .returned (.tuple #[va, vb]) ∧ Ats w' w.heap.size va [0, 1] ∧ Bq w' w.heap.size vb [⟨g, 70, 0, hdOf l r⟩, ⟨g, 70, 1, hdOf l r⟩] ∧ Below w.heap.size w w' := by
  obtain ⟨g0, hg0⟩ : ∃ g, w.heap.size = g := ⟨_, rfl⟩
  have hbx := pbox76 w l kl kr
  have hB1 : Below w.heap.size w (w.alloc (.cells (stC l kl kr).toArray 76)) := (Below.refl _ _).alloc (Nat.le_refl _) _
  have hS1 : Sb (w.alloc (.cells (stC l kl kr).toArray 76)) w.heap.size l kl kr := heap_alloc_last w _
  generalize hw1 : w.alloc (.cells (stC l kl kr).toArray 76) = w1 at *
  rw [hg0] at hbx hS1 hB1 ⊢
  have hz1 : g0 ≤ w1.heap.size := by rw [← hg0]; exact hB1.size
  have HHS := hid (head_state l kl kr hl r hr hr2 w1)
  have hdl := hdOf_len l r
  obtain ⟨hd, hhd⟩ : ∃ hd, hdOf l r = hd := ⟨_, rfl⟩
  rw [hhd] at HHS hdl ⊢
  have HBX := hid hbx
  have HLD := hid (pload76 hl hS1)
  have H1 := hid (And.intro hB1 hz1)
  have HDL := hid hdl
  clear hbx hB1 hS1 hw1 hz1 hl hr hr2 hdl hhd hg0
  go_enter Tryz.func52, Tryz.ntmps52
  go_upto_region 0 with fail
  refine wp_region_lit ?_
  refine wp_run (v := .pointer (some ⟨g0, 0, none⟩)) rfl rfl (run_boxOp rfl (by kernel_rfl) HBX.out) rfl ?_
  refine wp_y (v := (.slice none 0 0)) rfl rfl (y_assign rfl) rfl ?_
  refine wp_y (v := (.slice none 0 0)) rfl rfl (y_assign rfl) rfl ?_
  try simp only [List.setIfInBounds_toArray, List.set_cons_zero, List.set_cons_succ]
  refine wp_end ?_
  go_upto_region 1 with fail
  refine wp_region_lit ?_
  refine wp_y (v := St l kl kr) rfl rfl (y_load rfl (hl := fun w' h => by rw [h]; exact HLD.out)) rfl ?_
  refine wp_call (f := 84) (args := #[St l kl kr]) (by kernel_rfl) (fun w => by go_simp) ?_
  refine HHS.out.mono ?_
  rintro e w2 ⟨rfl, hB2⟩
  refine ⟨_, rfl, ?_⟩
  have h1 := H1.out
  have hB2g : Below g0 w w2 := h1.1.trans (hB2.mono h1.2)
  obtain ⟨g2, hg2⟩ : ∃ g, w2.heap.size = g := ⟨_, rfl⟩
  have hal := palloc70 w2
  have hB3 : Below w2.heap.size w2 (w2.alloc (.cells (cells8 z224).toArray 70)) := (Below.refl _ _).alloc (Nat.le_refl _) _
  have hR3 : Rw (w2.alloc (.cells (cells8 z224).toArray 70)) w2.heap.size 70 z224 := heap_alloc_last w2 _
  generalize w2.alloc (.cells (cells8 z224).toArray 70) = w3 at *
  rw [hg2] at hal hB3 hR3
  have hg02 : g0 ≤ g2 := by rw [← hg2]; exact Nat.le_trans h1.2 hB2.size
  have hst := pstore70 z224_len HDL.out hR3
  have hR4 := hR3.row hd
  have hF4 := Fr.setRow w3 g2 (cells8 hd).toArray
  generalize w3.setRow g2 (cells8 hd).toArray = w4 at *
  have hB4 : Below g0 w w4 := (hB2g.trans (hB3.mono hg02)).trans (hF4.below (by have := hR3.lt; omega) (by simp; omega))
  have HAL := hid hal
  have HST := hid hst
  have H4 := hid (And.intro hR4 (And.intro hB4 (And.intro hg02 (Nat.lt_of_lt_of_le hR3.lt hF4.size))))
  clear h1 hB2 hB2g hB3 hR3 hal hst hR4 hF4 hB4 hg2 hg02 H1
  dsimp only [Act.put]
  refine wp_run (v := .pointer (some ⟨g2, 0, none⟩)) rfl rfl (run_alOp rfl HAL.out) rfl ?_
  refine wp_do rfl rfl (run_storeOp rfl (by kernel_rfl) (by kernel_rfl) HST.out) ?_
  try simp only [List.setIfInBounds_toArray, List.set_cons_zero, List.set_cons_succ]
  refine wp_end ?_
  clear HHS HLD HAL HST HBX
  go_upto_region 2 with fail
  refine wp_region_lit ?_
  refine wp_y (v := .slice (some ⟨g2, 0, none⟩) 224 224) rfl rfl (y_slice rfl (by kernel_rfl) (by kernel_rfl) (by kernel_rfl) (by kernel_rfl) (by kernel_rfl) (sl70 g2)) rfl ?_
  refine wp_call (f := 55) (args := #[.slice none 0 0, .slice none 0 0, .int .i64 0, .slice (some ⟨g2, 0, none⟩) 224 224]) (by kernel_rfl) (fun w => by go_simp) ?_
  have h4 := H4.out
  refine (also_any (B := g0) (zs := []) (ps := []) (World.ownsRow_nil _ _ _ _) (World.ownsRow_nil _ _ _ _) (by omega) 0 (by decide) (by decide) g2 0 224 224 2 rfl (Nat.le_refl _) (by decide) (by simp) (by simp)).mono ?_
  rintro e w5 ⟨va, vb, rfl, hA5, hO5, hB5, hT5⟩
  refine ⟨_, rfl, ?_⟩
  have hq : ∀ x, x < 2 → (Pq.ok w5 ⟨g2, 70, x, hd⟩) := fun x hx => Pq.ot (w := w4) ⟨h4.1, .inl rfl, by show x * 112 + 112 ≤ hd.length; rw [HDL.out]; omega⟩ hT5
  have HZ : Hid (∃ va' vb' g, (Ending.returned (.tuple #[va, vb]) : Ending) = .returned (.tuple #[va', vb']) ∧ Ats w5 g0 va' [0, 1] ∧ Bq w5 g0 vb' [⟨g, 70, 0, hd⟩, ⟨g, 70, 1, hd⟩] ∧ Below g0 w w5) := hid ⟨va, vb, g2, rfl, hA5, ⟨hO5, fun q hm => by
    simp only [List.mem_cons, List.not_mem_nil, or_false] at hm
    rcases hm with rfl | rfl
    · exact hq 0 (by decide)
    · exact hq 1 (by decide)⟩, h4.2.1.trans hB5⟩
  clear h4 hA5 hO5 hB5 hT5 hq H4
  dsimp only [Act.put]
  refine wp_y (v := va) rfl rfl (y_ext rfl (hr := ext2_0 (va) (vb))) rfl ?_
  refine wp_y (v := vb) rfl rfl (y_ext rfl (hr := ext2_1 (va) (vb))) rfl ?_
  refine wp_y (v := va) rfl rfl (y_assign rfl) rfl ?_
  refine wp_y (v := vb) rfl rfl (y_assign rfl) rfl ?_
  try simp only [List.setIfInBounds_toArray, List.set_cons_zero, List.set_cons_succ]
  refine wp_end ?_
  go_wp2_with fail
  go_ret2
  exact HZ.out
set_option maxRecDepth 100000 in
set_option maxHeartbeats 1000000 in
theorem readHead_any {w : World} {j p : Nat} {X : List Nat} {s : DS} {sq cnt : Nat} {bl : List (List UInt8)} (h : Jr w j p X s sq cnt bl) (hb : 2 ≤ bl.length) :
    Calls Tryz.prog 39 #[.pointer (some ⟨j, 0, none⟩)] w fun e w' => e = .returned (.tuple #[V8 (cat bl 0 2), .int .i64 0]) ∧ Below w.heap.size w w' := by
  obtain ⟨g0, hg0⟩ : ∃ g, w.heap.size = g := ⟨_, rfl⟩
  have hal := palloc70 w
  have hB1 : Below w.heap.size w (w.alloc (.cells (cells8 z224).toArray 70)) := (Below.refl _ _).alloc (Nat.le_refl _) _
  have hR1 : Rw (w.alloc (.cells (cells8 z224).toArray 70)) w.heap.size 70 z224 := heap_alloc_last w _
  generalize hw1 : w.alloc (.cells (cells8 z224).toArray 70) = w1 at *
  have hJ1 := h.below hB1
  rw [hg0] at hal hR1 hB1 ⊢
  have HRB := hid (readBlocks_any hJ1 0 2 (by omega) (by decide))
  have hcl : (cat bl 0 2).length = 224 := cat_len bl h.sett.con.lens 0 2 (by omega)
  generalize cat bl 0 2 = hd at *
  have HAL := hid hal
  have H1 := hid (And.intro hB1 (And.intro hR1 hcl))
  have HG0 := hid hg0
  clear hal hB1 hR1 hJ1 hcl hw1 h hb hg0
  go_enter Tryz.func39, Tryz.ntmps39
  go_upto_region 0 with fail
  refine wp_region_lit ?_
  refine wp_run (v := .pointer (some ⟨g0, 0, none⟩)) rfl rfl (run_alOp rfl HAL.out) rfl ?_
  refine wp_y (v := (.int .i64 0)) rfl rfl (y_assign rfl) rfl ?_
  try simp only [List.setIfInBounds_toArray, List.set_cons_zero, List.set_cons_succ]
  refine wp_end ?_
  go_wp2_with fail
  refine HRB.out.mono ?_
  rintro e w2 ⟨v, rfl, ho, hB2⟩
  have h1 := H1.out
  have hR2 : Rw w2 g0 70 z224 := h1.2.1.below hB2 h1.2.1.lt
  obtain ⟨g, cap, hv⟩ : ∃ g cap, v = .slice (some ⟨g, 0, none⟩) 224 cap := by
    rcases ho.2 with ⟨_, h0⟩ | ⟨g, cap, cur, e, _⟩
    · exact absurd h0 (by decide)
    · exact ⟨g, cap, e⟩
  subst hv
  have hrd : Rd w2 g 0 hd := fun k hk => by
    have hc := ho.cells (g := g) rfl k _ (cells8_get hd k hk)
    rwa [Addr.add_lit] at hc
  have HLD := hid (load_rd hagg70 hsize70 h1.2.2 hrd)
  have HST := hid (pstore70 z224_len h1.2.2 hR2)
  have HLR := hid (pload70 h1.2.2 (hR2.row hd))
  have HZ : Hid (Below g0 w (w2.setRow g0 (cells8 hd).toArray)) := hid ((h1.1.trans (hB2.mono (by have := h1.2.1.lt; omega))).trans ((Fr.setRow w2 g0 _).below (by have := hB2.size; have := h1.2.1.lt; omega) (by simp)))
  clear ho hB2 h1 hR2 hrd HRB H1
  go_upto_region 4 with fail
  refine wp_region_lit ?_
  refine wp_y (v := .slice (some ⟨g, 0, none⟩) 224 cap) rfl rfl (y_move rfl) rfl ?_
  refine wp_y (v := .pointer (some ⟨g, 0, none⟩)) rfl rfl (y_arr rfl (by kernel_rfl) (by kernel_rfl) (parr70 g cap)) rfl ?_
  refine wp_y (v := V8 hd) rfl rfl (y_load rfl (hl := fun w' h => by rw [h]; exact HLD.out)) rfl ?_
  refine wp_do rfl rfl (run_storeOp rfl (by kernel_rfl) (by kernel_rfl) HST.out) ?_
  refine wp_y (v := (.int .i64 0)) rfl rfl (y_assign rfl) rfl ?_
  try simp only [List.setIfInBounds_toArray, List.set_cons_zero, List.set_cons_succ]
  refine wp_end ?_
  go_wp2_with fail
  exact ret_pair rfl rfl rfl HLR.out ⟨rfl, HZ.out⟩
end Go.Proofs.YtcmgclkbhhdnaaaGreatDoor
namespace Go.Proofs.YtcmgclkbhhdnaaaGreatDoor
open Go Go.RowKit

theorem len_split (p : Int → Bool) : ∀ ks : List Int, ks.length = (ks.filter p).length + (ks.filter fun k => !p k).length
  | [] => rfl
  | k :: r => by
    have ih := len_split p r
    simp only [List.filter_cons, List.length_cons]
    cases p k <;> simp <;> omega
theorem nd_len : ∀ (n : Nat) (ks : List Int), ks.Nodup → (∀ k ∈ ks, 0 ≤ k ∧ k < (n : Int)) → ks.length ≤ n
  | 0, ks, _, h => by
    cases ks with
    | nil => simp
    | cons k r => have := h k (by simp); omega
  | n + 1, ks, hn, h => by
    have h1 := nd_len n (ks.filter fun k => decide (k ≠ (n : Int))) (hn.filter _) (fun k hk => by
      have h2 := List.mem_filter.1 hk
      have h3 := h k h2.1
      have h4 : k ≠ (n : Int) := of_decide_eq_true h2.2
      omega)
    have h2 : (ks.filter fun k => !decide (k ≠ (n : Int))).length ≤ 1 := by
      have hnd := hn.filter (fun k => !decide (k ≠ (n : Int)))
      have hall : ∀ k ∈ ks.filter (fun k => !decide (k ≠ (n : Int))), k = (n : Int) := fun k hk => by
        have := (List.mem_filter.1 hk).2
        simpa using this
      generalize ks.filter (fun k => !decide (k ≠ (n : Int))) = r at *
      match r, hnd, hall with
      | [], _, _ => simp
      | [a], _, _ => simp
      | a :: b :: t, hnd, hall =>
        have ha := hall a (by simp)
        have hb := hall b (by simp)
        exact absurd (ha.trans hb.symm) (fun e => by
          have := (List.nodup_cons.1 hnd).1
          exact this (by simp [e]))
    have h3 : ks.length = (ks.filter fun k => decide (k ≠ (n : Int))).length + (ks.filter fun k => !decide (k ≠ (n : Int))).length := len_split _ ks
    omega
theorem Mo.nd {w : World} {m : Option Nat} {ks : List Int} {f : Int → Option Value} (h : Mo w m ks f) : ks.Nodup := by
  cases m with
  | none => rw [h.1]; exact List.nodup_nil
  | some b => obtain ⟨es, cl, _, hv⟩ := h; exact hv.nd
theorem Mo.lt {w : World} {m : Option Nat} {ks : List Int} {f : Int → Option Value} (h : Mo w m ks f) {b : Nat} (hb : m = some b) : b < w.heap.size := by subst hb; exact Mk.lt h
theorem Mo.cells {w : World} {m : Option Nat} {ks : List Int} {f : Int → Option Value} (h : Mo w m ks f) {b : Nat} (hb : m = some b) {c : Array Value} {t : TypeId} {z : Nat × Nat} : w.heap[b]? ≠ some (.cells c t z) := fun e => by
  subst hb
  obtain ⟨es, cl, hh, _⟩ := h
  rw [hh] at e; cases e
theorem Mo.mem {w : World} {m : Option Nat} {ks : List Int} {f : Int → Option Value} (h : Mo w m ks f) (k : Int) : k ∈ ks ↔ f k ≠ none := by
  cases m with
  | none =>
    obtain ⟨rfl, rfl⟩ := h
    simp
  | some b =>
    obtain ⟨es, cl, _, hv⟩ := h
    constructor
    · intro hk
      obtain ⟨i, hi⟩ := List.getElem?_of_mem hk
      have hil : i < es.toList.length := by rw [hv.len]; exact (List.getElem?_eq_some_iff.1 hi).1
      rw [hv.vals i _ k (List.getElem?_eq_getElem hil) hi]
      simp
    · intro hf
      by_cases hk : k ∈ ks
      · exact hk
      · exact absurd (hv.out k hk) hf
theorem uV_none (u : Int → Option Bool) (k : Int) : uV u k ≠ none ↔ u k ≠ none := by unfold uV; cases u k <;> simp
theorem gV_none (g : Int → Option (List UInt8)) (k : Int) : gV g k ≠ none ↔ g k ≠ none := by unfold gV; cases g k <;> simp
/-- A pager and its two tables. -/
structure PM (w : World) (p j : Nat) (l : List Bool) (kl kr : Int) (bg : Bool) (lf rt : Int) (um bm : Option Nat) (off : Int) (u : Int → Option Bool) (g : Int → Option (List UInt8)) : Prop where
  pg : Pg w p j l kl kr bg lf rt um bm off
  mu : ∃ ku, Mo w um ku (uV u)
  mb : ∃ kb, Mo w bm kb (gV g)
  ne : ∀ m, um = some m → bm ≠ some m
  gl : ∀ k c, g k = some c → c.length = 896
  kd : ∀ k, u k ≠ none → 0 ≤ k ∧ k < (l.length : Int)
  kb : ∀ k, g k ≠ none → 0 ≤ k ∧ k < (l.length : Int)
section
variable {w : World} {p j : Nat} {l : List Bool} {kl kr : Int} {bg : Bool} {lf rt : Int} {um bm : Option Nat} {off : Int} {u : Int → Option Bool} {g : Int → Option (List UInt8)} (h : PM w p j l kl kr bg lf rt um bm off u g)
include h
theorem PM.below {w' : World} (hB : Below w.heap.size w w') : PM w' p j l kl kr bg lf rt um bm off u g := by
  obtain ⟨ku, hu⟩ := h.mu
  obtain ⟨kb, hb⟩ := h.mb
  exact ⟨h.pg.below hB h.pg.lt, ⟨ku, hu.below hB⟩, ⟨kb, hb.below hB⟩, h.ne, h.gl, h.kd, h.kb⟩
end
set_option maxRecDepth 100000 in
set_option maxHeartbeats 800000 in
theorem useOf_any {w : World} {p j : Nat} {l : List Bool} {kl kr : Int} {bg : Bool} {lf rt : Int} {um bm : Option Nat} {off : Int} {u : Int → Option Bool} {g : Int → Option (List UInt8)} (h : PM w p j l kl kr bg lf rt um bm off u g) (k : Nat) (hk : k < l.length) :
    Calls Tryz.prog 59 #[.pointer (some ⟨p, 0, none⟩), .int .i64 k] w fun e w' => e = .returned (.int .u8 (b2u (usf l u k)).toNat) ∧ w' = w := by
  obtain ⟨ku, hu⟩ := h.mu
  have HG := get_use h.pg.cum hu (k : Int)
  have hl := h.pg.1
  have HLD := hid (load1 Tryz.isAgg73 (h.pg.cu k hk))
  have HK := hid (show k < 1023 by omega)
  have e8 : at8 (useB l) k = ((b2u (l.getD k false)).toNat : Int) := by unfold at8; rw [useB_get l k hk]
  rw [e8] at HLD
  unfold usf
  unfold uV at HG
  clear h hu hl e8
  cases huk : u (k : Int) with
  | some b =>
    rw [huk] at HG
    have HGG := hid HG
    clear HG huk
    go_enter Tryz.func59, Tryz.ntmps59
    go_wp2_with fail
    refine HGG.out.mono ?_
    rintro e w1 ⟨rfl, hw1⟩
    obtain rfl := hw1.symm
    clear HGG
    go_wp2
    go_ret
    exact ⟨rfl, rfl⟩
  | none =>
    rw [huk] at HG
    have HGG := hid HG
    show Calls _ _ _ _ (fun e w' => e = .returned (.int .u8 ((b2u (l.getD k false)).toNat : Nat)) ∧ w' = w)
    generalize (b2u (l.getD k false)).toNat = v at *
    clear HG huk
    go_enter Tryz.func59, Tryz.ntmps59
    go_wp2_with fail
    refine HGG.out.mono ?_
    rintro e w1 ⟨rfl, hw1⟩
    obtain rfl := hw1.symm
    clear HGG
    go_upto_region 4 with fail
    refine wp_region_lit ?_
    refine wp_y (v := .pointer (some ⟨p, 0, none⟩)) rfl rfl (y_move rfl) rfl ?_
    refine wp_y (v := .int .i64 k) rfl rfl (y_move rfl) rfl ?_
    refine wp_y (v := .pointer (some ⟨p, 0, none⟩)) rfl rfl (y_nil rfl) rfl ?_
    refine wp_y (v := .pointer (some ⟨p, 1, none⟩)) rfl rfl (y_faddr rfl (hf := fa90_1 (p))) rfl ?_
    refine wp_y (v := .pointer (some ⟨p, 4, none⟩)) rfl rfl (y_faddr rfl (hf := fg76_3 (p) (1))) rfl ?_
    refine wp_y (v := .pointer (some ⟨p, 4 + k, none⟩)) rfl rfl (y_index rfl (hr := ix74 p 4 k HK.out)) rfl ?_
    refine wp_y (v := .int .u8 v) rfl rfl (y_load rfl (hl := fun w' h => by rw [h]; exact HLD.out)) rfl ?_
    refine wp_y (v := .int .u8 v) rfl rfl (y_assign rfl) rfl ?_
    try simp only [List.setIfInBounds_toArray, List.set_cons_zero, List.set_cons_succ]
    refine wp_end ?_
    go_wp2_with fail
    go_ret
    exact ⟨rfl, rfl⟩
theorem readyFor_off {w : World} {p j : Nat} {l : List Bool} {kl kr : Int} {bg : Bool} {lf rt : Int} {um bm : Option Nat} (h : Pg w p j l kl kr bg lf rt um bm 43) (k : Int) : Calls Tryz.prog 61 #[.pointer (some ⟨p, 0, none⟩), .int .i64 k] w fun e w' => e = .returned (.int .i64 43) ∧ w' = w := by
  have HR := hid (ready_any h)
  clear h
  go_enter Tryz.func61, Tryz.ntmps61
  go_wp2_with fail
  refine HR.out.mono ?_
  rintro e w1 ⟨rfl, hw1⟩
  obtain rfl := hw1.symm
  clear HR
  go_wp2
  go_ret
  exact ⟨rfl, rfl⟩
/-- Is a page taken, as the change has it? -/
def tkn (l : List Bool) (u : Int → Option Bool) (k : Int) : Bool := decide (0 ≤ k) && (decide (k < (l.length : Int)) && usf l u k.toNat)
set_option maxRecDepth 100000 in
set_option maxHeartbeats 800000 in
theorem readyFor_any {w : World} {p j : Nat} {l : List Bool} {kl kr : Int} {bg : Bool} {lf rt : Int} {um bm : Option Nat} {u : Int → Option Bool} {g : Int → Option (List UInt8)} (h : PM w p j l kl kr bg lf rt um bm 0 u g) (k : Int) :
    Calls Tryz.prog 61 #[.pointer (some ⟨p, 0, none⟩), .int .i64 k] w fun e w' => e = .returned (.int .i64 (if tkn l u k then 0 else 81)) ∧ w' = w := by
  have HR := hid (ready_any h.pg)
  have h1 := h.pg.c1
  by_cases h0 : k < 0
  · have e : tkn l u k = false := by unfold tkn; rw [decide_eq_false (by omega)]; rfl
    rw [e]
    have hb : decide (k < 0) = true := decide_eq_true h0
    clear h e
    go_enter Tryz.func61, Tryz.ntmps61
    go_wp2_with fail
    refine HR.out.mono ?_
    rintro e w1 ⟨rfl, hw1⟩
    obtain rfl := hw1.symm
    clear HR
    go_wp2
    go_ret
    exact ⟨rfl, rfl⟩
  · have hb0 : decide (k < 0) = false := decide_eq_false h0
    by_cases hl : k < (l.length : Int)
    · obtain ⟨q, hq⟩ : ∃ q : Nat, k = q := ⟨k.toNat, by omega⟩
      subst hq
      have hql : q < l.length := by omega
      have e : tkn l u (q : Int) = usf l u q := by unfold tkn; rw [decide_eq_true (by omega), decide_eq_true hl]; simp
      rw [e]
      have HU := hid (useOf_any h q hql)
      have hb1 : decide (l.length ≤ q) = false := decide_eq_false (by omega)
      generalize l.length = n at *
      clear h e h0 hl
      cases hus : usf l u q with
      | true =>
        rw [hus] at HU
        clear hus
        go_enter Tryz.func61, Tryz.ntmps61
        go_wp2_with fail
        refine HR.out.mono ?_
        rintro e w1 ⟨rfl, hw1⟩
        obtain rfl := hw1.symm
        clear HR
        go_wp2_with fail
        refine HU.out.mono ?_
        rintro e w1 ⟨rfl, hw1⟩
        obtain rfl := hw1.symm
        clear HU
        simp only [b2u]
        go_wp2
        go_ret
        exact ⟨rfl, rfl⟩
      | false =>
        rw [hus] at HU
        clear hus
        go_enter Tryz.func61, Tryz.ntmps61
        go_wp2_with fail
        refine HR.out.mono ?_
        rintro e w1 ⟨rfl, hw1⟩
        obtain rfl := hw1.symm
        clear HR
        go_wp2_with fail
        refine HU.out.mono ?_
        rintro e w1 ⟨rfl, hw1⟩
        obtain rfl := hw1.symm
        clear HU
        simp only [b2u]
        go_wp2
        go_ret
        exact ⟨rfl, rfl⟩
    · have e : tkn l u k = false := by unfold tkn; rw [decide_eq_false hl]; simp
      rw [e]
      have hb1 : decide ((l.length : Int) ≤ k) = true := decide_eq_true (by omega)
      generalize l.length = n at *
      clear h e
      go_enter Tryz.func61, Tryz.ntmps61
      go_wp2_with fail
      refine HR.out.mono ?_
      rintro e w1 ⟨rfl, hw1⟩
      obtain rfl := hw1.symm
      clear HR
      go_wp2
      go_ret
      exact ⟨rfl, rfl⟩
end Go.Proofs.YtcmgclkbhhdnaaaGreatDoor
namespace Go.Proofs.YtcmgclkbhhdnaaaGreatDoor
open Go Go.RowKit

/-- What a call leaves: the pager with other tables, and all else as it was. -/
def Did (um bm : Option Nat) (w w' : World) (p : Nat) (Q : Option Nat → Option Nat → Prop) : Prop := ∃ um' bm', Q um' bm' ∧ (∀ m, um' = some m → um = some m ∨ w.heap.size ≤ m) ∧ (∀ m, bm' = some m → bm = some m ∨ w.heap.size ≤ m) ∧ Fr (p :: (um.toList ++ bm.toList)) w w'
theorem Did.mono {um bm : Option Nat} {w w' : World} {p : Nat} {Q R : Option Nat → Option Nat → Prop} (h : Did um bm w w' p Q) (hQ : ∀ a b, Q a b → R a b) : Did um bm w w' p R := by
  obtain ⟨a, b, h1, h2⟩ := h
  exact ⟨a, b, hQ a b h1, h2⟩
section
variable {w : World} {p j : Nat} {l : List Bool} {kl kr : Int} {bg : Bool} {lf rt : Int} {um bm : Option Nat} {off : Int} {u : Int → Option Bool} {g : Int → Option (List UInt8)} (h : PM w p j l kl kr bg lf rt um bm off u g)
include h
theorem PM.own {w' : World} {bg' : Bool} {lf' rt' off' : Int} (hP : Pg w' p j l kl kr bg' lf' rt' um bm off') (hF : Fr [p] w w') : PM w' p j l kl kr bg' lf' rt' um bm off' u g := by
  obtain ⟨ku, hu⟩ := h.mu
  obtain ⟨kb, hb⟩ := h.mb
  have hp := h.pg.2
  refine ⟨hP, ⟨ku, hu.fr hF (fun m hm hx => ?_)⟩, ⟨kb, hb.fr hF (fun m hm hx => ?_)⟩, h.ne, h.gl, h.kd, h.kb⟩
  · have e : m = p := by simpa using hx
    subst e
    exact hu.cells hm hp
  · have e : m = p := by simpa using hx
    subst e
    exact hb.cells hm hp
/-- A use is put. -/
theorem PM.putU (k : Nat) (hk : k < l.length) (b : Bool) :
    Calls Tryz.prog 93 #[.pointer (some ⟨p, 1030, none⟩), .int .i64 k, .int .u8 (b2u b).toNat] w fun e w' => e = .returned (.tuple #[]) ∧ Did um bm w w' p fun um' bm' => bm' = bm ∧ PM w' p j l kl kr bg lf rt um' bm' off (updF u k (some b)) g := by
  obtain ⟨ku, hu⟩ := h.mu
  obtain ⟨kb, hb⟩ := h.mb
  refine (put_use h.pg hu (k : Int) ((b2u b).toNat : Int)).mono ?_
  rintro e w' ⟨rfl, m, hm, ⟨hP, hM⟩, hF⟩
  rw [uV_upd] at hM
  refine ⟨rfl, some m, bm, ⟨rfl, hP, ⟨_, hM⟩, ⟨kb, hb.fr hF (fun x hx hmem => ?_)⟩, fun x hx hbx => ?_, h.gl, fun x hx => ?_, h.kb⟩, fun x hx => by cases hx; exact hm.imp id (·.2), fun x hx => .inl hx, hF.mono (fun x hx => .inl ?_)⟩
  · rcases List.mem_cons.1 hmem with rfl | hmem
    · exact hb.cells hx h.pg.2
    · exact h.ne x (by simpa using hmem) hx
  · cases hx
    rcases hm with hm | ⟨_, hm⟩
    · exact h.ne m hm hbx
    · have := hb.lt hbx; omega
  · by_cases e : x = (k : Int)
    · subst e; omega
    · rw [updF_ne _ _ e] at hx; exact h.kd x hx
  · simp only [List.mem_cons, List.mem_append] at hx ⊢
    rcases hx with rfl | hx
    · exact .inl rfl
    · exact .inr (.inl hx)
/-- A page's bytes are put. -/
theorem PM.putC (k : Nat) (hk : k < l.length) (c : List UInt8) (hc : c.length = 896) :
    Calls Tryz.prog 94 #[.pointer (some ⟨p, 1031, none⟩), .int .i64 k, V8 c] w fun e w' => e = .returned (.tuple #[]) ∧ Did um bm w w' p fun um' bm' => um' = um ∧ PM w' p j l kl kr bg lf rt um' bm' off u (updF g k (some c)) := by
  obtain ⟨ku, hu⟩ := h.mu
  obtain ⟨kb, hb⟩ := h.mb
  refine (put_con h.pg hb (k : Int) c hc).mono ?_
  rintro e w' ⟨rfl, m, hm, ⟨hP, hM⟩, hF⟩
  rw [gV_upd] at hM
  refine ⟨rfl, um, some m, ⟨rfl, hP, ⟨ku, hu.fr hF (fun x hx hmem => ?_)⟩, ⟨_, hM⟩, fun x hx hbx => ?_, fun x d hx => ?_, h.kd, fun x hx => ?_⟩, fun x hx => .inl hx, fun x hx => by cases hx; exact hm.imp id (·.2), hF.mono (fun x hx => .inl ?_)⟩
  · rcases List.mem_cons.1 hmem with rfl | hmem
    · exact hu.cells hx h.pg.2
    · exact h.ne x hx (by simpa using hmem)
  · cases hbx
    rcases hm with hm | ⟨_, hm⟩
    · exact h.ne m hx hm
    · have := hu.lt hx; omega
  · by_cases e : x = (k : Int)
    · subst e; rw [updF_same] at hx; cases hx; exact hc
    · rw [updF_ne _ _ e] at hx; exact h.gl x d hx
  · by_cases e : x = (k : Int)
    · subst e; omega
    · rw [updF_ne _ _ e] at hx; exact h.kb x hx
  · simp only [List.mem_cons, List.mem_append] at hx ⊢
    rcases hx with rfl | hx
    · exact .inl rfl
    · exact .inr (.inr hx)
/-- A page's bytes are struck out. -/
theorem PM.dropC (k : Nat) :
    Calls Tryz.prog 107 #[.pointer (some ⟨p, 1031, none⟩), .int .i64 k] w fun e w' => e = .returned (.tuple #[]) ∧ Did um bm w w' p fun um' bm' => um' = um ∧ bm' = bm ∧ PM w' p j l kl kr bg lf rt um' bm' off u (updF g k none) := by
  obtain ⟨ku, hu⟩ := h.mu
  obtain ⟨kb, hb⟩ := h.mb
  refine (drop_con h.pg hb (k : Int)).mono ?_
  rintro e w' ⟨rfl, ks', hP, hM, _, hF⟩
  rw [gV_del] at hM
  refine ⟨rfl, um, bm, ⟨rfl, rfl, hP, ⟨ku, hu.fr hF (fun x hx hmem => ?_)⟩, ⟨_, hM⟩, h.ne, fun x d hx => ?_, h.kd, fun x hx => ?_⟩, fun x hx => .inl hx, fun x hx => .inl hx, hF.mono (fun x hx => .inl ?_)⟩
  · exact h.ne x hx (by simpa using hmem)
  · by_cases e : x = (k : Int)
    · subst e; rw [updF_same] at hx; cases hx
    · rw [updF_ne _ _ e] at hx; exact h.gl x d hx
  · by_cases e : x = (k : Int)
    · subst e; rw [updF_same] at hx; exact absurd rfl hx
    · rw [updF_ne _ _ e] at hx; exact h.kb x hx
  · simp only [List.mem_cons, List.mem_append]
    exact .inr (.inr hx)
end
theorem Did.trans {um bm : Option Nat} {w w1 w2 : World} {p : Nat} {um1 bm1 : Option Nat} {Q : Option Nat → Option Nat → Prop} (hF : Fr (p :: (um.toList ++ bm.toList)) w w1) (h1 : ∀ m, um1 = some m → um = some m ∨ w.heap.size ≤ m) (h2 : ∀ m, bm1 = some m → bm = some m ∨ w.heap.size ≤ m) (h : Did um1 bm1 w1 w2 p Q) : Did um bm w w2 p Q := by
  obtain ⟨a, b, hQ, q1, q2, hF2⟩ := h
  refine ⟨a, b, hQ, fun m hm => ?_, fun m hm => ?_, hF.trans hF2 (fun x hx => ?_)⟩
  · rcases q1 m hm with h | h
    · exact h1 m h
    · exact .inr (Nat.le_trans hF.size h)
  · rcases q2 m hm with h | h
    · exact h2 m h
    · exact .inr (Nat.le_trans hF.size h)
  simp only [List.mem_cons, List.mem_append, Option.mem_toList] at hx ⊢
  rcases hx with rfl | hx | hx
  · exact .inl (.inl rfl)
  · rcases h1 x hx with h | h
    · exact .inl (.inr (.inl h))
    · exact .inr h
  · rcases h2 x hx with h | h
    · exact .inl (.inr (.inr h))
    · exact .inr h
theorem Did.fst {um bm : Option Nat} {w w1 w2 : World} {p : Nat} {Q : Option Nat → Option Nat → Prop} (hF : Fr [p] w w1) (h : Did um bm w1 w2 p Q) : Did um bm w w2 p Q :=
  Did.trans (hF.mono (fun x hx => .inl (by simp at hx ⊢; exact .inl hx))) (fun _ h => .inl h) (fun _ h => .inl h) h
set_option maxRecDepth 100000 in
set_option maxHeartbeats 1000000 in
theorem take_any {w : World} {p j : Nat} {l : List Bool} {kl kr : Int} {bg : Bool} {lf rt : Int} {um bm : Option Nat} {off : Int} {u : Int → Option Bool} {g : Int → Option (List UInt8)} (h : PM w p j l kl kr bg lf rt um bm off u g) (k : Nat) (hk : k < l.length) (hl0 : 0 < lf) (hl1 : lf ≤ 100000) :
    Calls Tryz.prog 60 #[.pointer (some ⟨p, 1027, none⟩), .int .i64 k] w fun e w' => e = .returned (.tuple #[]) ∧ Did um bm w w' p fun um' bm' => PM w' p j l kl kr true (lf - 1) rt um' bm' off (updF u k (some true)) (updF g k (some z896)) := by
  have c0 := h.pg.cbg
  have f0 := h.pg.fz 1027
  have hF1 := Fr.setCell w p 1027 (.bool true)
  have h1 := h.own (h.pg.sbg true) hF1
  have c1 := h1.pg.clf
  have f1 := h1.pg.fz 1028
  have hF2 := Fr.setCell (w.setCell ⟨p, 1027, none⟩ (.bool true)) p 1028 (.int .i64 (lf - 1))
  have h2 := h1.own (h1.pg.slf (lf - 1)) hF2
  have hFF : Fr [p] w ((w.setCell ⟨p, 1027, none⟩ (.bool true)).setCell ⟨p, 1028, none⟩ (.int .i64 (lf - 1))) := hF1.trans hF2 (fun x hx => .inl hx)
  have hws : IntKind.i64.wrap (lf - 1) = lf - 1 := by rw [IntWalk.i64_in _ ⟨by omega, by omega⟩]
  have HP := hid (h2.putU k hk true)
  have HF := hid hFF
  have HK := hid hk
  clear h h1 h2 hF1 hF2 hFF hk hl0 hl1
  go_enter Tryz.func60, Tryz.ntmps60
  go_wp2_with fail
  refine HP.out.mono ?_
  rintro e w3 ⟨rfl, hD3⟩
  have hD3 := Did.fst HF.out hD3
  obtain ⟨um1, bm1, ⟨rfl, h3⟩, q1, q2, hF3⟩ := hD3
  have HC := hid (h3.putC k HK.out z896 z896_len)
  have H3 := hid (And.intro q1 (And.intro q2 hF3))
  clear h3 hF3 q1 q2 HP
  go_upto_region 3 with fail
  refine wp_region_lit ?_
  refine wp_y (v := .pointer (some ⟨p, 1027, none⟩)) rfl rfl (y_move rfl) rfl ?_
  refine wp_y (v := .pointer (some ⟨p, 1027, none⟩)) rfl rfl (y_nil rfl) rfl ?_
  refine wp_y (v := .pointer (some ⟨p, 1031, none⟩)) rfl rfl (y_faddr rfl (hf := fg87_4 (p) (1027))) rfl ?_
  refine wp_y (v := .int .i64 k) rfl rfl (y_move rfl) rfl ?_
  refine wp_run (v := V8 z896) rfl rfl (run_buildOp rfl (by kernel_rfl) (pbuild109 _)) rfl ?_
  refine wp_call (f := 94) (args := #[.pointer (some ⟨p, 1031, none⟩), .int .i64 k, V8 z896]) (by kernel_rfl) (fun w => by go_simp) ?_
  refine HC.out.mono ?_
  rintro e w4 ⟨rfl, h4⟩
  refine ⟨_, rfl, ?_⟩
  dsimp only [Act.put]
  have HZ : Hid (Did um bm1 w w4 p fun um' bm' => PM w4 p j l kl kr true (lf - 1) rt um' bm' off (updF u k (some true)) (updF g k (some z896))) := hid (Did.trans H3.out.2.2 H3.out.1 H3.out.2.1 (h4.mono fun a b hab => by obtain ⟨_, hab⟩ := hab; exact hab))
  clear h4 H3 HC
  refine wp_end ?_
  go_wp2_with fail
  go_end0
  exact ⟨rfl, HZ.out⟩
set_option maxRecDepth 100000 in
set_option maxHeartbeats 1000000 in
theorem give_any {w : World} {p j : Nat} {l : List Bool} {kl kr : Int} {bg : Bool} {lf rt : Int} {um bm : Option Nat} {off : Int} {u : Int → Option Bool} {g : Int → Option (List UInt8)} (h : PM w p j l kl kr bg lf rt um bm off u g) (k : Nat) (hk : k < l.length) (hl0 : 0 ≤ lf) (hl1 : lf ≤ 100000) :
    Calls Tryz.prog 73 #[.pointer (some ⟨p, 1027, none⟩), .int .i64 k] w fun e w' => e = .returned (.tuple #[]) ∧ Did um bm w w' p fun um' bm' => PM w' p j l kl kr true (lf + 1) rt um' bm' off (updF u k (some false)) (updF g k none) := by
  have c0 := h.pg.cbg
  have f0 := h.pg.fz 1027
  have hF1 := Fr.setCell w p 1027 (.bool true)
  have h1 := h.own (h.pg.sbg true) hF1
  have c1 := h1.pg.clf
  have f1 := h1.pg.fz 1028
  have hF2 := Fr.setCell (w.setCell ⟨p, 1027, none⟩ (.bool true)) p 1028 (.int .i64 (lf + 1))
  have h2 := h1.own (h1.pg.slf (lf + 1)) hF2
  have hFF : Fr [p] w ((w.setCell ⟨p, 1027, none⟩ (.bool true)).setCell ⟨p, 1028, none⟩ (.int .i64 (lf + 1))) := hF1.trans hF2 (fun x hx => .inl hx)
  have hws : IntKind.i64.wrap (lf + 1) = lf + 1 := by rw [IntWalk.i64_in _ ⟨by omega, by omega⟩]
  have HP := hid (h2.putU k hk false)
  have HF := hid hFF
  clear h h1 h2 hF1 hF2 hFF hk hl0 hl1
  go_enter Tryz.func73, Tryz.ntmps73
  go_wp2_with fail
  refine HP.out.mono ?_
  rintro e w3 ⟨rfl, hD3⟩
  have hD3 := Did.fst HF.out hD3
  obtain ⟨um1, bm1, ⟨rfl, h3⟩, q1, q2, hF3⟩ := hD3
  have HC := hid (h3.dropC k)
  have H3 := hid (And.intro q1 (And.intro q2 hF3))
  clear h3 hF3 q1 q2 HP
  go_wp2_with fail
  refine HC.out.mono ?_
  rintro e w4 ⟨rfl, h4⟩
  have HZ : Hid (Did um bm1 w w4 p fun um' bm' => PM w4 p j l kl kr true (lf + 1) rt um' bm' off (updF u k (some false)) (updF g k none)) := hid (Did.trans H3.out.2.2 H3.out.1 H3.out.2.1 (h4.mono fun a b hab => by obtain ⟨_, _, hab⟩ := hab; exact hab))
  clear h4 H3 HC
  go_wp2_with fail
  go_end0
  exact ⟨rfl, HZ.out⟩
set_option maxRecDepth 100000 in
set_option maxHeartbeats 1000000 in
theorem cwrite_any {w : World} {p j : Nat} {l : List Bool} {kl kr : Int} {bg : Bool} {lf rt : Int} {um bm : Option Nat} {off : Int} {u : Int → Option Bool} {g : Int → Option (List UInt8)} (h : PM w p j l kl kr bg lf rt um bm off u g) (k : Nat) (hk : k < l.length) (c : List UInt8) (hc : c.length = 896) :
    Calls Tryz.prog 80 #[.pointer (some ⟨p, 1027, none⟩), .int .i64 k, V8 c] w fun e w' => e = .returned (.tuple #[]) ∧ Did um bm w w' p fun um' bm' => PM w' p j l kl kr true lf rt um' bm' off u (updF g k (some c)) := by
  obtain ⟨gb, hgb⟩ : ∃ gb, w.heap.size = gb := ⟨_, rfl⟩
  have hbx := box109 w c
  have hB0 : Below w.heap.size w (w.alloc (.cells (cells8 c).toArray 109)) := (Below.refl _ _).alloc (Nat.le_refl _) _
  have hR0 : Rw (w.alloc (.cells (cells8 c).toArray 109)) w.heap.size 109 c := heap_alloc_last w _
  have h0 := h.below hB0
  have hpl := h.pg.lt
  have HN : Hid (gb ∉ p :: (um.toList ++ bm.toList)) := hid (fun hm => by
    obtain ⟨ku, hu⟩ := h.mu
    obtain ⟨kb, hb⟩ := h.mb
    simp only [List.mem_cons, List.mem_append, Option.mem_toList] at hm
    rcases hm with hm | hm | hm
    · omega
    · have := hu.lt hm; omega
    · have := hb.lt hm; omega)
  generalize w.alloc (.cells (cells8 c).toArray 109) = w0 at *
  rw [hgb] at hbx hR0 hB0
  have c0 := h0.pg.cbg
  have f0 := h0.pg.fz 1027
  have hF1 := Fr.setCell w0 p 1027 (.bool true)
  have h1 := h0.own (h0.pg.sbg true) hF1
  have hR1 : Rw (w0.setCell ⟨p, 1027, none⟩ (.bool true)) gb 109 c := hF1.at hR0 (by simp; omega)
  have hFw : Fr [p] w (w0.setCell ⟨p, 1027, none⟩ (.bool true)) := (Fr.of_below (X := [p]) (by rw [hgb]; exact hB0)).trans hF1 (fun x hx => .inl hx)
  obtain ⟨w1, hw1⟩ : ∃ w1, w1 = w0.setCell ⟨p, 1027, none⟩ (.bool true) := ⟨_, rfl⟩
  rw [← hw1] at h1 hR1 hFw
  have hd : Below w1.heap.size w1 w1.drew := (Below.refl _ _).drew
  have h1d := h1.below hd
  have hFd : Fr [p] w w1.drew := hFw.trans (Fr.of_below (X := []) hd) (by simp)
  have HC := hid (h1d.putC k hk c hc)
  have HS : Hid (Rw w1.drew gb 109 c) := hid hR1
  have HF := hid hFd
  have HBX := hid hbx
  have HCL := hid hc
  have HW1 := hid hw1
  clear hbx hB0 hR0 h h0 h1 hF1 hR1 hFw hd h1d hFd hgb hk hc hpl hw1
  go_enter Tryz.func80, Tryz.ntmps80
  go_upto_region 0 with fail
  refine wp_region_lit ?_
  refine wp_run (v := .pointer (some ⟨gb, 0, none⟩)) rfl rfl (run_boxOp rfl (by kernel_rfl) HBX.out) rfl ?_
  try simp only [List.setIfInBounds_toArray, List.set_cons_zero, List.set_cons_succ]
  refine wp_end ?_
  go_wp2_with fail
  rw [← HW1.out]
  refine h_openL (S := fun w' => Rw w' gb 109 c) (by kernel_rfl) (by kernel_rfl) (fun _ _ _ _ _ h => h) (L := #[false, false, false, false, false, false]) (by kernel_rfl) ?_
  intro Q' hns hP hN
  have hS := HS.out
  refine h_takeL (i := 0) (v := .pointer (some ⟨p, 1027, none⟩)) hns rfl rfl (by kernel_rfl) (by kernel_rfl) hP (y_move rfl) hS rfl (L' := #[true, false, false, false, false, false]) (by kernel_rfl) ?_
  refine h_takeL (i := 1) (v := .pointer (some ⟨p, 1027, none⟩)) hns rfl rfl (by kernel_rfl) (by kernel_rfl) hP (y_nil rfl) hS rfl (L' := #[true, true, false, false, false, false]) (by kernel_rfl) ?_
  refine h_takeL (i := 2) (v := .pointer (some ⟨p, 1031, none⟩)) hns rfl rfl (by kernel_rfl) (by kernel_rfl) hP (y_faddr rfl (hf := fg87_4 (p) (1027))) hS rfl (L' := #[true, true, true, false, false, false]) (by kernel_rfl) ?_
  refine h_takeL (i := 3) (v := .int .i64 k) hns rfl rfl (by kernel_rfl) (by kernel_rfl) hP (y_move rfl) hS rfl (L' := #[true, true, true, true, false, false]) (by kernel_rfl) ?_
  refine h_takeL (i := 4) (v := V8 c) hns rfl rfl (by kernel_rfl) (by kernel_rfl) hP (y_load rfl (hl := fun w' h => load109 HCL.out h)) hS rfl (L' := #[true, true, true, true, true, false]) (by kernel_rfl) ?_
  refine h_callL (i := 5) (f := 94) (args := #[.pointer (some ⟨p, 1031, none⟩), .int .i64 k, V8 c]) (by kernel_rfl) rfl rfl (by kernel_rfl) (enter_go rfl (by kernel_rfl) (fun w => by go_simp)) (L' := #[true, true, true, true, true, true]) (by kernel_rfl) ?_
  refine HC.out.mono ?_
  rintro e w4 ⟨rfl, h4⟩
  refine ⟨_, rfl, ?_, ?_⟩
  · exact h4.elim fun _ h => h.elim fun _ h => h.2.2.2.at HS.out HN.out
  try simp only [List.setIfInBounds_toArray, List.set_cons_zero, List.set_cons_succ]
  refine wpAnyH_done (by kernel_rfl) ?_ _
  refine hN _ _ ?_
  clear hP hN hns
  have HZ : Hid (Did um bm w w4 p fun um' bm' => PM w4 p j l kl kr true lf rt um' bm' off u (updF g k (some c))) := hid (Did.fst HF.out (h4.mono fun a b hab => by obtain ⟨_, hab⟩ := hab; exact hab))
  clear h4 HC HS HF hS
  go_wp2_with fail
  go_end0
  exact ⟨rfl, HZ.out⟩
set_option maxRecDepth 100000 in
set_option maxHeartbeats 1000000 in
theorem csetRoot_any {w : World} {p j : Nat} {l : List Bool} {kl kr : Int} {bg : Bool} {lf rt : Int} {um bm : Option Nat} {off : Int} {u : Int → Option Bool} {g : Int → Option (List UInt8)} (h : PM w p j l kl kr bg lf rt um bm off u g) (k : Int) :
    Calls Tryz.prog 81 #[.pointer (some ⟨p, 1027, none⟩), .int .i64 k] w fun e w' => e = .returned (.tuple #[]) ∧ PM w' p j l kl kr true lf k um bm off u g ∧ Fr [p] w w' := by
  have c0 := h.pg.cbg
  have f0 := h.pg.fz 1027
  have hF1 := Fr.setCell w p 1027 (.bool true)
  have h1 := h.own (h.pg.sbg true) hF1
  have c1 := h1.pg.crt
  have f1 := h1.pg.fz 1029
  have hF2 := Fr.setCell (w.setCell ⟨p, 1027, none⟩ (.bool true)) p 1029 (.int .i64 k)
  have h2 := h1.own (h1.pg.srt k) hF2
  have HZ := hid (And.intro h2 (hF1.trans hF2 (fun x hx => .inl hx)))
  clear h h1 h2 hF1 hF2
  go_enter Tryz.func81, Tryz.ntmps81
  go_wp2
  go_end0
  exact ⟨rfl, HZ.out⟩
end Go.Proofs.YtcmgclkbhhdnaaaGreatDoor
namespace Go.Proofs.YtcmgclkbhhdnaaaGreatDoor
open Go Go.RowKit

theorem cell_same {w w' : World} {g o : Nat} {v : Value} (h : w'.heap[g]? = w.heap[g]?) (hc : w.cell? ⟨g, o, none⟩ = some v) : w'.cell? ⟨g, o, none⟩ = some v := by
  rw [← hc]
  unfold World.cell?
  simp only [h]
set_option maxRecDepth 100000 in
set_option maxHeartbeats 1000000 in
theorem alloc_full {w : World} {p j : Nat} {l : List Bool} {kl kr : Int} {bg : Bool} {lf rt : Int} {um bm : Option Nat} {u : Int → Option Bool} {g : Int → Option (List UInt8)} (h : PM w p j l kl kr bg lf rt um bm 0 u g) (hf : ∀ k, k < l.length → usf l u k = true) :
    Calls Tryz.prog 22 #[.pointer (some ⟨p, 0, none⟩)] w fun e w' => e = .returned (.tuple #[.int .i64 0, .int .i64 80]) ∧ w' = w := by
  have HR := hid (ready_any h.pg)
  have c1 := h.pg.c1
  have HU : Hid (∀ k, k < l.length → Calls Tryz.prog 59 #[.pointer (some ⟨p, 0, none⟩), .int .i64 k] w fun e w' => e = .returned (.int .u8 1) ∧ w' = w) := hid (fun k hk => by
    have h1 := useOf_any h k hk
    rw [hf k hk] at h1
    exact h1)
  have HN := hid h.pg.1
  generalize l.length = n at *
  clear h hf
  go_enter Tryz.func22, Tryz.ntmps22
  go_wp2_with fail
  refine HR.out.mono ?_
  rintro e w1 ⟨rfl, hw1⟩
  obtain rfl := hw1.symm
  clear HR
  go_wp2_with fail
  go_loopw [16, 5] (fun y _ wr => ∃ k : Nat, k ≤ n ∧ y = .int .i64 k ∧ wr = w) (fun y _ _ => n - (intOf y).toNat)
  case atStart => exact ⟨0, Nat.zero_le _, rfl, rfl⟩
  case round =>
    obtain ⟨k, hk, rfl, rfl⟩ := hrel
    have hnn := HN.out
    have hwk : IntKind.i64.wrap ((k : Int) + 1) = ((k + 1 : Nat) : Int) := by rw [IntWalk.i64_in _ ⟨by omega, by omega⟩]; omega
    by_cases hlt : k < n
    · have hlt' : (k : Int) < (n : Int) := by omega
      have HUK := hid (HU.out k hlt)
      have HK := hid hlt
      clear hk hlt hnn HU
      go_wp2_with fail
      refine HUK.out.mono ?_
      rintro e w1 ⟨rfl, hw1⟩
      obtain rfl := hw1.symm
      clear HUK
      go_wp2_with fail
      exact ⟨⟨k + 1, HK.out, rfl, trivial⟩, by have := HK.out; simp [intOf]; omega⟩
    · obtain rfl : k = n := by omega
      have hlt' : ¬ (k : Int) < (k : Int) := by omega
      clear hk hlt hnn HU
      go_wp2_with fail
      go_ret2
      exact ⟨rfl, rfl⟩
set_option maxRecDepth 100000 in
set_option maxHeartbeats 1000000 in
theorem alloc_at {w : World} {p j : Nat} {l : List Bool} {kl kr : Int} {bg : Bool} {lf rt : Int} {um bm : Option Nat} {u : Int → Option Bool} {g : Int → Option (List UInt8)} (h : PM w p j l kl kr bg lf rt um bm 0 u g) (q : Nat) (hq : q < l.length) (hf : usf l u q = false) (hb : ∀ k, k < q → usf l u k = true) (hl0 : 0 < lf) (hl1 : lf ≤ 100000) :
    Calls Tryz.prog 22 #[.pointer (some ⟨p, 0, none⟩)] w fun e w' => e = .returned (.tuple #[.int .i64 q, .int .i64 0]) ∧ Did um bm w w' p fun um' bm' => PM w' p j l kl kr true (lf - 1) rt um' bm' 0 (updF u q (some true)) (updF g q (some z896)) := by
  have HR := hid (ready_any h.pg)
  have c1 := h.pg.c1
  have HU : Hid (∀ k, k < q → Calls Tryz.prog 59 #[.pointer (some ⟨p, 0, none⟩), .int .i64 k] w fun e w' => e = .returned (.int .u8 1) ∧ w' = w) := hid (fun k hk => by
    have h1 := useOf_any h k (by omega)
    rw [hb k hk] at h1
    exact h1)
  have HUQ : Hid (Calls Tryz.prog 59 #[.pointer (some ⟨p, 0, none⟩), .int .i64 q] w fun e w' => e = .returned (.int .u8 0) ∧ w' = w) := hid (by
    have h1 := useOf_any h q hq
    rw [hf] at h1
    exact h1)
  have HT := hid (take_any h q hq hl0 hl1)
  have HN := hid (And.intro h.pg.1 hq)
  obtain ⟨n, hn⟩ : ∃ n, l.length = n := ⟨_, rfl⟩
  rw [hn] at c1 HN
  clear h hf hb hq hl0 hl1 hn
  go_enter Tryz.func22, Tryz.ntmps22
  go_wp2_with fail
  refine HR.out.mono ?_
  rintro e w1 ⟨rfl, hw1⟩
  obtain rfl := hw1.symm
  clear HR
  go_wp2_with fail
  go_loopw [16, 5] (fun y _ wr => ∃ k : Nat, k ≤ q ∧ y = .int .i64 k ∧ wr = w) (fun y _ _ => n - (intOf y).toNat)
  case atStart => exact ⟨0, Nat.zero_le _, rfl, rfl⟩
  case round =>
    obtain ⟨k, hk, rfl, rfl⟩ := hrel
    have hnn := HN.out
    have hwk : IntKind.i64.wrap ((k : Int) + 1) = ((k + 1 : Nat) : Int) := by rw [IntWalk.i64_in _ ⟨by omega, by omega⟩]; omega
    have hlt' : (k : Int) < (n : Int) := by omega
    by_cases hlt : k < q
    · have HUK := hid (HU.out k hlt)
      have HK := hid hlt
      clear hk hlt hnn HU HUQ HT
      go_wp2_with fail
      refine HUK.out.mono ?_
      rintro e w1 ⟨rfl, hw1⟩
      obtain rfl := hw1.symm
      clear HUK
      go_wp2_with fail
      exact ⟨⟨k + 1, HK.out, rfl, trivial⟩, by have := HK.out; have := HN.out; simp [intOf]; omega⟩
    · obtain rfl : k = q := by omega
      clear hk hlt hnn HU
      go_wp2_with fail
      refine HUQ.out.mono ?_
      rintro e w1 ⟨rfl, hw1⟩
      obtain rfl := hw1.symm
      clear HUQ
      go_wp2_with fail
      refine HT.out.mono ?_
      rintro e w2 ⟨rfl, hD⟩
      have HD := hid hD
      clear HT hD
      go_wp2_with fail
      go_ret2
      exact ⟨rfl, HD.out⟩
theorem alloc_off {w : World} {p j : Nat} {l : List Bool} {kl kr : Int} {bg : Bool} {lf rt : Int} {um bm : Option Nat} (h : Pg w p j l kl kr bg lf rt um bm 43) :
    Calls Tryz.prog 22 #[.pointer (some ⟨p, 0, none⟩)] w fun e w' => e = .returned (.tuple #[.int .i64 0, .int .i64 43]) ∧ w' = w := by
  have HR := hid (ready_any h)
  clear h
  go_enter Tryz.func22, Tryz.ntmps22
  go_wp2_with fail
  refine HR.out.mono ?_
  rintro e w1 ⟨rfl, hw1⟩
  obtain rfl := hw1.symm
  clear HR
  go_wp2_with fail
  go_ret2
  exact ⟨rfl, rfl⟩
set_option maxHeartbeats 1000000 in
theorem free_none {w : World} {p j : Nat} {l : List Bool} {kl kr : Int} {bg : Bool} {lf rt : Int} {um bm : Option Nat} {u : Int → Option Bool} {g : Int → Option (List UInt8)} (h : PM w p j l kl kr bg lf rt um bm 0 u g) (k : Int) (ht : tkn l u k = false) :
    Calls Tryz.prog 27 #[.pointer (some ⟨p, 0, none⟩), .int .i64 k] w fun e w' => e = .returned (.int .i64 81) ∧ w' = w := by
  have h1 := readyFor_any h k
  rw [ht] at h1
  have HR := hid h1
  clear h h1 ht
  go_enter Tryz.func27, Tryz.ntmps27
  go_wp2_with fail
  refine HR.out.mono ?_
  rintro e w1 ⟨rfl, hw1⟩
  obtain rfl := hw1.symm
  clear HR
  simp only [Bool.false_eq_true, if_false]
  go_wp2
  go_ret
  exact ⟨rfl, rfl⟩
set_option maxHeartbeats 1000000 in
theorem free_root {w : World} {p j : Nat} {l : List Bool} {kl kr : Int} {bg : Bool} {lf rt : Int} {um bm : Option Nat} {u : Int → Option Bool} {g : Int → Option (List UInt8)} (h : PM w p j l kl kr bg lf rt um bm 0 u g) (k : Int) (ht : tkn l u k = true) (hk : k = rt) :
    Calls Tryz.prog 27 #[.pointer (some ⟨p, 0, none⟩), .int .i64 k] w fun e w' => e = .returned (.int .i64 2) ∧ w' = w := by
  have h1 := readyFor_any h k
  rw [ht] at h1
  have HR := hid h1
  have c1 := h.pg.crt
  clear h h1 ht
  subst hk
  go_enter Tryz.func27, Tryz.ntmps27
  go_wp2_with fail
  refine HR.out.mono ?_
  rintro e w1 ⟨rfl, hw1⟩
  obtain rfl := hw1.symm
  clear HR
  simp only [if_true]
  go_wp2
  go_ret
  exact ⟨rfl, rfl⟩
theorem tkn_at {l : List Bool} {u : Int → Option Bool} {k : Int} (h : tkn l u k = true) : ∃ q : Nat, k = q ∧ q < l.length ∧ usf l u q = true := by
  unfold tkn at h
  simp only [Bool.and_eq_true, decide_eq_true_eq] at h
  exact ⟨k.toNat, by omega, by omega, h.2.2⟩
set_option maxRecDepth 100000 in
set_option maxHeartbeats 1000000 in
theorem free_ok {w : World} {p j : Nat} {l : List Bool} {kl kr : Int} {bg : Bool} {lf rt : Int} {um bm : Option Nat} {u : Int → Option Bool} {g : Int → Option (List UInt8)} (h : PM w p j l kl kr bg lf rt um bm 0 u g) (q : Nat) (hq : q < l.length) (ht : usf l u q = true) (hk : (q : Int) ≠ rt) (hl0 : 0 ≤ lf) (hl1 : lf ≤ 100000) :
    Calls Tryz.prog 27 #[.pointer (some ⟨p, 0, none⟩), .int .i64 q] w fun e w' => e = .returned (.int .i64 0) ∧ Did um bm w w' p fun um' bm' => PM w' p j l kl kr true (lf + 1) rt um' bm' 0 (updF u q (some false)) (updF g q none) := by
  have h1 := readyFor_any h (q : Int)
  have e1 : tkn l u (q : Int) = true := by unfold tkn; simp [hq, ht]
  rw [e1] at h1
  have HR := hid h1
  have c1 := h.pg.crt
  have HG := hid (give_any h q hq hl0 hl1)
  have hb : ((q : Int) == rt) = false := by rw [beq_eq_false_iff_ne]; exact hk
  clear h h1 ht e1 hq hl0 hl1
  go_enter Tryz.func27, Tryz.ntmps27
  go_wp2_with fail
  refine HR.out.mono ?_
  rintro e w1 ⟨rfl, hw1⟩
  obtain rfl := hw1.symm
  clear HR
  simp only [if_true]
  go_wp2_with fail
  refine HG.out.mono ?_
  rintro e w2 ⟨rfl, hD⟩
  have HD := hid hD
  clear HG hD
  go_wp2_with fail
  go_ret
  exact ⟨rfl, HD.out⟩
set_option maxHeartbeats 1000000 in
theorem pwrite_none {w : World} {p j : Nat} {l : List Bool} {kl kr : Int} {bg : Bool} {lf rt : Int} {um bm : Option Nat} {u : Int → Option Bool} {g : Int → Option (List UInt8)} (h : PM w p j l kl kr bg lf rt um bm 0 u g) (k : Int) (ht : tkn l u k = false) (v : Value) :
    Calls Tryz.prog 36 #[.pointer (some ⟨p, 0, none⟩), .int .i64 k, v] w fun e w' => e = .returned (.int .i64 81) ∧ w' = w := by
  have h1 := readyFor_any h k
  rw [ht] at h1
  have HR := hid h1
  clear h h1 ht
  go_enter Tryz.func36, Tryz.ntmps36
  go_wp2_with fail
  refine HR.out.mono ?_
  rintro e w1 ⟨rfl, hw1⟩
  obtain rfl := hw1.symm
  clear HR
  simp only [Bool.false_eq_true, if_false]
  go_wp2
  go_ret
  exact ⟨rfl, rfl⟩
set_option maxHeartbeats 1000000 in
theorem pwrite_len {w : World} {p j : Nat} {l : List Bool} {kl kr : Int} {bg : Bool} {lf rt : Int} {um bm : Option Nat} {u : Int → Option Bool} {g : Int → Option (List UInt8)} (h : PM w p j l kl kr bg lf rt um bm 0 u g) (k : Int) (ht : tkn l u k = true) (a : Option Addr) (m cap : Nat) (hm : m ≠ 896) :
    Calls Tryz.prog 36 #[.pointer (some ⟨p, 0, none⟩), .int .i64 k, .slice a m cap] w fun e w' => e = .returned (.int .i64 2) ∧ w' = w := by
  have h1 := readyFor_any h k
  rw [ht] at h1
  have HR := hid h1
  have hb : ((m : Int) == 896) = false := by rw [beq_eq_false_iff_ne]; omega
  clear h h1 ht
  go_enter Tryz.func36, Tryz.ntmps36
  go_wp2_with fail
  refine HR.out.mono ?_
  rintro e w1 ⟨rfl, hw1⟩
  obtain rfl := hw1.symm
  clear HR
  simp only [if_true]
  go_wp2
  go_ret
  exact ⟨rfl, rfl⟩
set_option maxRecDepth 100000 in
set_option maxHeartbeats 1000000 in
theorem pwrite_ok {w : World} {p j : Nat} {l : List Bool} {kl kr : Int} {bg : Bool} {lf rt : Int} {um bm : Option Nat} {u : Int → Option Bool} {g : Int → Option (List UInt8)} (h : PM w p j l kl kr bg lf rt um bm 0 u g) (q : Nat) (hq : q < l.length) (ht : usf l u q = true) (gs o cap : Nat) (c : List UInt8) (hc : c.length = 896) (hrd : Rd w gs o c) {cs : Array Value} {t : TypeId} {z : Nat × Nat} (hgs : w.heap[gs]? = some (.cells cs t z)) (hne : t ≠ 90) :
    Calls Tryz.prog 36 #[.pointer (some ⟨p, 0, none⟩), .int .i64 q, .slice (some ⟨gs, o, none⟩) 896 cap] w fun e w' => e = .returned (.int .i64 0) ∧ Did um bm w w' p fun um' bm' => PM w' p j l kl kr true lf rt um' bm' 0 u (updF g q (some c)) := by
  have h1 := readyFor_any h (q : Int)
  have e1 : tkn l u (q : Int) = true := by unfold tkn; simp [hq, ht]
  rw [e1] at h1
  have HR := hid h1
  have hd : Below w.heap.size w w.drew := (Below.refl _ _).drew
  have HW := hid (cwrite_any (h.below hd) q hq c hc)
  have HN : Hid (gs ∉ p :: (um.toList ++ bm.toList)) := hid (fun hm => by
    obtain ⟨ku, hu⟩ := h.mu
    obtain ⟨kb, hb⟩ := h.mb
    simp only [List.mem_cons, List.mem_append, Option.mem_toList] at hm
    rcases hm with hm | hm | hm
    · subst hm
      have h2 := h.pg.2
      rw [hgs] at h2
      injection h2 with h2
      injection h2 with _ e
      exact hne e
    · exact hu.cells hm hgs
    · exact hb.cells hm hgs)
  have HS : Hid (Rd w.drew gs o c ∧ w.drew.heap[gs]? = some (.cells cs t z)) := hid ⟨hrd, hgs⟩
  have HC := hid hc
  have HDW : Hid (Fr [p] w w.drew) := hid (Fr.of_below hd)
  clear h h1 ht e1 hq hd hrd hgs hne hc
  go_enter Tryz.func36, Tryz.ntmps36
  go_wp2_with fail
  refine HR.out.mono ?_
  rintro e w1 ⟨rfl, hw1⟩
  obtain rfl := hw1.symm
  clear HR
  simp only [if_true]
  go_upto_region 6 with fail
  refine h_openL (S := fun w' => Rd w' gs o c ∧ w'.heap[gs]? = some (.cells cs t z)) (by kernel_rfl) (by kernel_rfl) (fun _ _ _ _ _ h => h) (L := #[false, false, false, false, false, false, false, false]) (by kernel_rfl) ?_
  intro Q' hns hP hN
  have hS := HS.out
  refine h_takeL (i := 0) (v := .pointer (some ⟨p, 0, none⟩)) hns rfl rfl (by kernel_rfl) (by kernel_rfl) hP (y_move rfl) hS rfl (L' := #[true, false, false, false, false, false, false, false]) (by kernel_rfl) ?_
  refine h_takeL (i := 1) (v := .pointer (some ⟨p, 0, none⟩)) hns rfl rfl (by kernel_rfl) (by kernel_rfl) hP (y_nil rfl) hS rfl (L' := #[true, true, false, false, false, false, false, false]) (by kernel_rfl) ?_
  refine h_takeL (i := 2) (v := .pointer (some ⟨p, 1027, none⟩)) hns rfl rfl (by kernel_rfl) (by kernel_rfl) hP (y_faddr rfl (hf := fa90_2 (p))) hS rfl (L' := #[true, true, true, false, false, false, false, false]) (by kernel_rfl) ?_
  refine h_takeL (i := 3) (v := .int .i64 q) hns rfl rfl (by kernel_rfl) (by kernel_rfl) hP (y_move rfl) hS rfl (L' := #[true, true, true, true, false, false, false, false]) (by kernel_rfl) ?_
  refine h_takeL (i := 4) (v := .slice (some ⟨gs, o, none⟩) 896 cap) hns rfl rfl (by kernel_rfl) (by kernel_rfl) hP (y_move rfl) hS rfl (L' := #[true, true, true, true, true, false, false, false]) (by kernel_rfl) ?_
  refine h_takeL (i := 5) (v := .pointer (some ⟨gs, o, none⟩)) hns rfl rfl (by kernel_rfl) (by kernel_rfl) hP (y_arr rfl (by kernel_rfl) (by kernel_rfl) (parr109 gs o cap)) hS rfl (L' := #[true, true, true, true, true, true, false, false]) (by kernel_rfl) ?_
  refine h_takeL (i := 6) (v := V8 c) hns rfl rfl (by kernel_rfl) (by kernel_rfl) hP (y_load rfl (hl := fun w' h => load_rd agg109 size109 HC.out h.1)) hS rfl (L' := #[true, true, true, true, true, true, true, false]) (by kernel_rfl) ?_
  try simp only [List.setIfInBounds_toArray, List.set_cons_zero, List.set_cons_succ]
  refine h_callL (i := 7) (f := 80) (args := #[.pointer (some ⟨p, 1027, none⟩), .int .i64 q, V8 c]) (by kernel_rfl) rfl rfl (by kernel_rfl) (enter_go rfl (by kernel_rfl) (fun w => by go_simp)) (L' := #[true, true, true, true, true, true, true, true]) (by kernel_rfl) ?_
  refine HW.out.mono ?_
  rintro e w4 ⟨rfl, h4⟩
  refine ⟨_, rfl, ?_, ?_⟩
  · obtain ⟨_, _, _, _, _, hF4⟩ := h4
    exact ⟨fun k hk => cell_same (hF4.block gs (heap_lt HS.out.2) HN.out) (HS.out.1 k hk), hF4.at HS.out.2 HN.out⟩
  try simp only [List.setIfInBounds_toArray, List.set_cons_zero, List.set_cons_succ]
  refine wpAnyH_done (by kernel_rfl) ?_ _
  refine hN _ _ ?_
  clear hP hN hns
  have HD := hid (Did.fst HDW.out h4)
  clear h4 HW HS hS HN
  go_wp2_with fail
  go_ret
  exact ⟨rfl, HD.out⟩
set_option maxHeartbeats 1000000 in
theorem setRoot_none {w : World} {p j : Nat} {l : List Bool} {kl kr : Int} {bg : Bool} {lf rt : Int} {um bm : Option Nat} {u : Int → Option Bool} {g : Int → Option (List UInt8)} (h : PM w p j l kl kr bg lf rt um bm 0 u g) (k : Int) (ht : tkn l u k = false) (hk : k ≠ -1) :
    Calls Tryz.prog 38 #[.pointer (some ⟨p, 0, none⟩), .int .i64 k] w fun e w' => e = .returned (.int .i64 81) ∧ w' = w := by
  have HY := hid (ready_any h.pg)
  have h1 := readyFor_any h k
  rw [ht] at h1
  have HR := hid h1
  have hb : (k == -1) = false := by rw [beq_eq_false_iff_ne]; exact hk
  clear h h1 ht
  go_enter Tryz.func38, Tryz.ntmps38
  go_wp2_with fail
  refine HY.out.mono ?_
  rintro e w1 ⟨rfl, hw1⟩
  obtain rfl := hw1.symm
  clear HY
  go_wp2_with fail
  refine HR.out.mono ?_
  rintro e w1 ⟨rfl, hw1⟩
  obtain rfl := hw1.symm
  clear HR
  simp only [Bool.false_eq_true, if_false]
  go_wp2
  go_ret
  exact ⟨rfl, rfl⟩
set_option maxHeartbeats 1000000 in
theorem setRoot_ok {w : World} {p j : Nat} {l : List Bool} {kl kr : Int} {bg : Bool} {lf rt : Int} {um bm : Option Nat} {u : Int → Option Bool} {g : Int → Option (List UInt8)} (h : PM w p j l kl kr bg lf rt um bm 0 u g) (k : Int) (ht : tkn l u k = true) :
    Calls Tryz.prog 38 #[.pointer (some ⟨p, 0, none⟩), .int .i64 k] w fun e w' => e = .returned (.int .i64 0) ∧ PM w' p j l kl kr true lf k um bm 0 u g ∧ Fr [p] w w' := by
  have HY := hid (ready_any h.pg)
  have h1 := readyFor_any h k
  rw [ht] at h1
  have HR := hid h1
  have HS := hid (csetRoot_any h k)
  obtain ⟨q, hq, _⟩ := tkn_at ht
  have hb : (k == -1) = false := by rw [beq_eq_false_iff_ne]; omega
  clear h h1 ht hq
  go_enter Tryz.func38, Tryz.ntmps38
  go_wp2_with fail
  refine HY.out.mono ?_
  rintro e w1 ⟨rfl, hw1⟩
  obtain rfl := hw1.symm
  clear HY
  go_wp2_with fail
  refine HR.out.mono ?_
  rintro e w1 ⟨rfl, hw1⟩
  obtain rfl := hw1.symm
  clear HR
  simp only [if_true]
  go_wp2_with fail
  refine HS.out.mono ?_
  rintro e w2 ⟨rfl, hD⟩
  have HD := hid hD
  clear HS hD
  go_wp2_with fail
  go_ret
  exact ⟨rfl, HD.out⟩
set_option maxHeartbeats 1000000 in
theorem setRoot_no {w : World} {p j : Nat} {l : List Bool} {kl kr : Int} {bg : Bool} {lf rt : Int} {um bm : Option Nat} {u : Int → Option Bool} {g : Int → Option (List UInt8)} (h : PM w p j l kl kr bg lf rt um bm 0 u g) :
    Calls Tryz.prog 38 #[.pointer (some ⟨p, 0, none⟩), .int .i64 (-1)] w fun e w' => e = .returned (.int .i64 0) ∧ PM w' p j l kl kr true lf (-1) um bm 0 u g ∧ Fr [p] w w' := by
  have HY := hid (ready_any h.pg)
  have HS := hid (csetRoot_any h (-1))
  clear h
  go_enter Tryz.func38, Tryz.ntmps38
  go_wp2_with fail
  refine HY.out.mono ?_
  rintro e w1 ⟨rfl, hw1⟩
  obtain rfl := hw1.symm
  clear HY
  go_wp2_with fail
  refine HS.out.mono ?_
  rintro e w2 ⟨rfl, hD⟩
  have HD := hid hD
  clear HS hD
  go_wp2_with fail
  go_ret
  exact ⟨rfl, HD.out⟩
theorem Pg.bare {w : World} {p j : Nat} {l : List Bool} {kl kr : Int} (h : Pg w p j l kl kr false kl kr none none 0) : PM w p j l kl kr false kl kr none none 0 (fun _ => none) (fun _ => none) :=
  ⟨h, ⟨[], rfl, rfl⟩, ⟨[], rfl, rfl⟩, fun m hm => (by cases hm), fun k c hc => (by cases hc), fun k hk => absurd rfl hk, fun k hk => absurd rfl hk⟩
set_option maxRecDepth 100000 in
set_option maxHeartbeats 1000000 in
theorem abort_any {w : World} {p j : Nat} {l : List Bool} {kl kr : Int} {bg : Bool} {lf rt : Int} {um bm : Option Nat} (h : Pg w p j l kl kr bg lf rt um bm 0) :
    Calls Tryz.prog 28 #[.pointer (some ⟨p, 0, none⟩)] w fun e w' => e = .returned (.tuple #[]) ∧ Pg w' p j l kl kr false kl kr none none 0 ∧ Fr [p] w w' := by
  have HR := hid (ready_any h)
  have HLD := hid h.loadS
  have HU := hid (unchanged_any l kl kr w)
  have HP := hid h
  clear h
  go_enter Tryz.func28, Tryz.ntmps28
  go_wp2_with fail
  refine HR.out.mono ?_
  rintro e w1 ⟨rfl, hw1⟩
  obtain rfl := hw1.symm
  clear HR
  go_upto_region 1 with fail
  refine wp_region_lit ?_
  refine wp_y (v := .pointer (some ⟨p, 0, none⟩)) rfl rfl (y_move rfl) rfl ?_
  refine wp_y (v := .pointer (some ⟨p, 0, none⟩)) rfl rfl (y_move rfl) rfl ?_
  refine wp_y (v := .pointer (some ⟨p, 0, none⟩)) rfl rfl (y_nil rfl) rfl ?_
  refine wp_y (v := .pointer (some ⟨p, 1, none⟩)) rfl rfl (y_faddr rfl (hf := fa90_1 (p))) rfl ?_
  refine wp_y (v := St l kl kr) rfl rfl (y_load rfl (hl := fun w' h => by rw [h]; exact HLD.out)) rfl ?_
  refine wp_call (f := 42) (args := #[St l kl kr]) (by kernel_rfl) (fun w => by go_simp) ?_
  refine HU.out.mono ?_
  rintro e w2 ⟨rfl, hB2⟩
  refine ⟨_, rfl, ?_⟩
  have hP2 := HP.out.below hB2 HP.out.lt
  obtain ⟨w3, hst, hP3, hF3⟩ := hP2.storeC false kl kr none none
  have HST := hid hst
  have HZ := hid (And.intro hP3 ((Fr.of_below (X := [p]) hB2).trans hF3 (fun x hx => .inl hx)))
  clear hP2 hst hP3 hF3 hB2 HP HU HLD
  dsimp only [Act.put]
  refine wp_y (v := .pointer (some ⟨p, 0, none⟩)) rfl rfl (y_nil rfl) rfl ?_
  refine wp_y (v := .pointer (some ⟨p, 1027, none⟩)) rfl rfl (y_faddr rfl (hf := fa90_2 (p))) rfl ?_
  try simp only [List.setIfInBounds_toArray, List.set_cons_zero, List.set_cons_succ]
  refine wp_do rfl rfl (run_storeOp rfl (by kernel_rfl) (by kernel_rfl) HST.out) ?_
  try simp only [List.setIfInBounds_toArray, List.set_cons_zero, List.set_cons_succ]
  refine wp_end ?_
  go_wp2_with fail
  go_end0
  exact ⟨rfl, HZ.out⟩
end Go.Proofs.YtcmgclkbhhdnaaaGreatDoor
namespace Go.Proofs.YtcmgclkbhhdnaaaGreatDoor
open Go Go.RowKit

theorem owns_mono {w : World} {b b' : Nat} {t : TypeId} {v : Value} {n : Nat} {xs : List Value} (h : w.ownsRow b t 1 v n xs) (hb : b' ≤ b) : w.ownsRow b' t 1 v n xs :=
  ⟨h.1, h.2.imp id fun ⟨g, cap, cur, e, h1, r⟩ => ⟨g, cap, cur, e, Nat.le_trans hb h1, r⟩⟩
theorem Below.undr {B : Nat} {w w' : World} (h : Below B w.drew w') : Below B w w' := ((Below.refl B w).drew).trans h
set_option maxHeartbeats 1000000 in
theorem pread_none {w : World} {p j : Nat} {l : List Bool} {kl kr : Int} {bg : Bool} {lf rt : Int} {um bm : Option Nat} {u : Int → Option Bool} {g : Int → Option (List UInt8)} (h : PM w p j l kl kr bg lf rt um bm 0 u g) (k : Int) (ht : tkn l u k = false) :
    Calls Tryz.prog 23 #[.pointer (some ⟨p, 0, none⟩), .int .i64 k] w fun e w' => e = .returned (.tuple #[.slice none 0 0, .int .i64 81]) ∧ w' = w := by
  have h1 := readyFor_any h k
  rw [ht] at h1
  have HR := hid h1
  clear h h1 ht
  go_enter Tryz.func23, Tryz.ntmps23
  go_wp2_with fail
  refine HR.out.mono ?_
  rintro e w1 ⟨rfl, hw1⟩
  obtain rfl := hw1.symm
  clear HR
  simp only [Bool.false_eq_true, if_false]
  go_wp2
  go_ret2
  exact ⟨rfl, rfl⟩
theorem pread_off {w : World} {p j : Nat} {l : List Bool} {kl kr : Int} {bg : Bool} {lf rt : Int} {um bm : Option Nat} (h : Pg w p j l kl kr bg lf rt um bm 43) (k : Int) :
    Calls Tryz.prog 23 #[.pointer (some ⟨p, 0, none⟩), .int .i64 k] w fun e w' => e = .returned (.tuple #[.slice none 0 0, .int .i64 43]) ∧ w' = w := by
  have HR := hid (readyFor_off h k)
  clear h
  go_enter Tryz.func23, Tryz.ntmps23
  go_wp2_with fail
  refine HR.out.mono ?_
  rintro e w1 ⟨rfl, hw1⟩
  obtain rfl := hw1.symm
  clear HR
  go_wp2
  go_ret2
  exact ⟨rfl, rfl⟩
set_option maxRecDepth 100000 in
set_option maxHeartbeats 1000000 in
theorem pread_map {w : World} {p j : Nat} {l : List Bool} {kl kr : Int} {bg : Bool} {lf rt : Int} {um bm : Option Nat} {u : Int → Option Bool} {g : Int → Option (List UInt8)} (h : PM w p j l kl kr bg lf rt um bm 0 u g) (q : Nat) (hq : q < l.length) (ht : usf l u q = true) (c : List UInt8) (hc : g q = some c) :
    Calls Tryz.prog 23 #[.pointer (some ⟨p, 0, none⟩), .int .i64 q] w fun e w' => ∃ b, w.heap.size ≤ b ∧ e = .returned (.tuple #[.slice (some ⟨b, 0, none⟩) 896 896, .int .i64 0]) ∧ Rw w' b 109 c ∧ Below w.heap.size w w' := by
  have h1 := readyFor_any h (q : Int)
  have e1 : tkn l u (q : Int) = true := by unfold tkn; simp [hq, ht]
  rw [e1] at h1
  have HR := hid h1
  have hcl := h.gl q c hc
  obtain ⟨kb, hb⟩ := h.mb
  have hgc := get_con h.pg.cbm hb h.gl (q : Int)
  unfold cget at hgc
  rw [hc] at hgc
  have HG : Hid (Calls Tryz.prog 54 #[.pointer (some ⟨p, 1031, none⟩), .int .i64 q] w fun e w' => e = .returned (.tuple #[V8 c, .bool true]) ∧ Below w.heap.size w w') := hid hgc
  have HC := hid hcl
  clear h h1 ht e1 hq hb hgc hc hcl
  go_enter Tryz.func23, Tryz.ntmps23
  go_wp2_with fail
  refine HR.out.mono ?_
  rintro e w1 ⟨rfl, hw1⟩
  obtain rfl := hw1.symm
  clear HR
  simp only [if_true]
  go_upto_region 4 with fail
  refine wp_region_lit ?_
  refine wp_y (v := .pointer (some ⟨p, 0, none⟩)) rfl rfl (y_move rfl) rfl ?_
  refine wp_y (v := .pointer (some ⟨p, 0, none⟩)) rfl rfl (y_nil rfl) rfl ?_
  refine wp_y (v := .pointer (some ⟨p, 1027, none⟩)) rfl rfl (y_faddr rfl (hf := fa90_2 (p))) rfl ?_
  refine wp_y (v := .pointer (some ⟨p, 1031, none⟩)) rfl rfl (y_faddr rfl (hf := fg87_4 (p) (1027))) rfl ?_
  refine wp_y (v := .int .i64 q) rfl rfl (y_move rfl) rfl ?_
  refine wp_call (f := 54) (args := #[.pointer (some ⟨p, 1031, none⟩), .int .i64 q]) (by kernel_rfl) (fun w => by go_simp) ?_
  refine HG.out.mono ?_
  rintro e w2 ⟨rfl, hB2⟩
  refine ⟨_, rfl, ?_⟩
  have hal := alloc109 w2
  have hB3 : Below w2.heap.size w2 (w2.alloc (.cells (cells8 z896).toArray 109)) := (Below.refl _ _).alloc (Nat.le_refl _) _
  have hR3 : Rw (w2.alloc (.cells (cells8 z896).toArray 109)) w2.heap.size 109 z896 := heap_alloc_last w2 _
  generalize w2.alloc (.cells (cells8 z896).toArray 109) = w3 at *
  obtain ⟨g2, hg2⟩ : ∃ g, w2.heap.size = g := ⟨_, rfl⟩
  have hs2 := hB2.size
  rw [hg2] at hal hR3 hB3 hs2
  have hst := store109 z896_len HC.out hR3
  have hR4 := hR3.row c
  have hF4 := Fr.setRow w3 g2 (cells8 c).toArray
  generalize w3.setRow g2 (cells8 c).toArray = w4 at *
  have HZ : Hid (∃ b, w.heap.size ≤ b ∧ Ending.returned (.tuple #[.slice (some ⟨g2, 0, none⟩) 896 896, .int .i64 0]) = .returned (.tuple #[.slice (some ⟨b, 0, none⟩) 896 896, .int .i64 0]) ∧ Rw w4 b 109 c ∧ Below w.heap.size w w4) := hid ⟨g2, hs2, rfl, hR4, (hB2.trans (hB3.mono hs2)).trans (hF4.below (by have := hR3.lt; omega) (by simp; omega))⟩
  have HAL := hid hal
  have HST := hid hst
  clear hB2 hB3 hR3 hal hst hR4 hF4 hg2 hs2 HG
  dsimp only [Act.put]
  refine wp_y (v := .tuple #[V8 c, .bool true]) rfl rfl (y_move rfl) rfl ?_
  refine wp_y (v := V8 c) rfl rfl (y_ext rfl (hr := ext2_0 (V8 c) (.bool true))) rfl ?_
  try simp only [List.setIfInBounds_toArray, List.set_cons_zero, List.set_cons_succ]
  refine wp_y (v := .bool true) rfl rfl (y_ext rfl (hr := ext2_1 (V8 c) (.bool true))) rfl ?_
  refine wp_run (v := .pointer (some ⟨g2, 0, none⟩)) rfl rfl (run_alOp rfl HAL.out) rfl ?_
  refine wp_do rfl rfl (run_storeOp rfl (by kernel_rfl) (by kernel_rfl) HST.out) ?_
  refine wp_y (v := .bool true) rfl rfl (y_assign rfl) rfl ?_
  try simp only [List.setIfInBounds_toArray, List.set_cons_zero, List.set_cons_succ]
  refine wp_end ?_
  go_upto_region 6 with fail
  refine wp_region_lit ?_
  refine wp_y (v := .slice (some ⟨g2, 0, none⟩) 896 896) rfl rfl (y_slice rfl (by kernel_rfl) (by kernel_rfl) (by kernel_rfl) (by kernel_rfl) (by kernel_rfl) (sl109 g2)) rfl ?_
  refine wp_y (v := .slice (some ⟨g2, 0, none⟩) 896 896) rfl rfl (y_assign rfl) rfl ?_
  refine wp_y (v := (.int .i64 0)) rfl rfl (y_assign rfl) rfl ?_
  try simp only [List.setIfInBounds_toArray, List.set_cons_zero, List.set_cons_succ]
  refine wp_end ?_
  go_wp2_with fail
  go_ret2
  exact HZ.out
set_option maxRecDepth 100000 in
set_option maxHeartbeats 1000000 in
theorem pread_blk {w : World} {p j : Nat} {l : List Bool} {kl kr : Int} {bg : Bool} {lf rt : Int} {um bm : Option Nat} {u : Int → Option Bool} {g : Int → Option (List UInt8)} (h : PM w p j l kl kr bg lf rt um bm 0 u g) {d : Nat} {X : List Nat} {s : DS} {sq cnt : Nat} {bl : List (List UInt8)} (hJ : Jr w j d X s sq cnt bl) (q : Nat) (hq : q < l.length) (ht : usf l u q = true) (hc : g q = none) (hn : 2 + q * 8 + 8 ≤ bl.length) :
    Calls Tryz.prog 23 #[.pointer (some ⟨p, 0, none⟩), .int .i64 q] w fun e w' => ∃ v, e = .returned (.tuple #[v, .int .i64 0]) ∧ w'.ownsRow w.heap.size 5 1 v 896 (cells8 (cat bl (2 + q * 8) 8)) ∧ Below w.heap.size w w' := by
  have h1 := readyFor_any h (q : Int)
  have e1 : tkn l u (q : Int) = true := by unfold tkn; simp [hq, ht]
  rw [e1] at h1
  have HR := hid h1
  obtain ⟨kb, hb⟩ := h.mb
  have hgc := get_con h.pg.cbm hb h.gl (q : Int)
  unfold cget at hgc
  rw [hc] at hgc
  have HG : Hid (Calls Tryz.prog 54 #[.pointer (some ⟨p, 1031, none⟩), .int .i64 q] w fun e w' => e = .returned (.tuple #[V8 z896, .bool false]) ∧ Below w.heap.size w w') := hid hgc
  have HC : Hid (z896.length = 896) := hid z896_len
  have HJ := hid (And.intro hJ (And.intro h.pg (And.intro hn (show q ≤ 1023 by have := h.pg.1; omega))))
  obtain ⟨c, hcc⟩ : ∃ c, z896 = c := ⟨_, rfl⟩
  rw [hcc] at HG HC
  clear h h1 ht e1 hq hb hgc hc hJ hn hcc
  go_enter Tryz.func23, Tryz.ntmps23
  go_wp2_with fail
  refine HR.out.mono ?_
  rintro e w1 ⟨rfl, hw1⟩
  obtain rfl := hw1.symm
  clear HR
  simp only [if_true]
  go_upto_region 4 with fail
  refine wp_region_lit ?_
  refine wp_y (v := .pointer (some ⟨p, 0, none⟩)) rfl rfl (y_move rfl) rfl ?_
  refine wp_y (v := .pointer (some ⟨p, 0, none⟩)) rfl rfl (y_nil rfl) rfl ?_
  refine wp_y (v := .pointer (some ⟨p, 1027, none⟩)) rfl rfl (y_faddr rfl (hf := fa90_2 (p))) rfl ?_
  refine wp_y (v := .pointer (some ⟨p, 1031, none⟩)) rfl rfl (y_faddr rfl (hf := fg87_4 (p) (1027))) rfl ?_
  refine wp_y (v := .int .i64 q) rfl rfl (y_move rfl) rfl ?_
  refine wp_call (f := 54) (args := #[.pointer (some ⟨p, 1031, none⟩), .int .i64 q]) (by kernel_rfl) (fun w => by go_simp) ?_
  refine HG.out.mono ?_
  rintro e w2 ⟨rfl, hB2⟩
  refine ⟨_, rfl, ?_⟩
  have hal := alloc109 w2
  have hB3 : Below w2.heap.size w2 (w2.alloc (.cells (cells8 z896).toArray 109)) := (Below.refl _ _).alloc (Nat.le_refl _) _
  have hR3 : Rw (w2.alloc (.cells (cells8 z896).toArray 109)) w2.heap.size 109 z896 := heap_alloc_last w2 _
  generalize w2.alloc (.cells (cells8 z896).toArray 109) = w3 at *
  obtain ⟨g2, hg2⟩ : ∃ g, w2.heap.size = g := ⟨_, rfl⟩
  have hs2 := hB2.size
  rw [hg2] at hal hR3 hB3 hs2
  have hst := store109 z896_len HC.out hR3
  have hR4 := hR3.row c
  have hF4 := Fr.setRow w3 g2 (cells8 c).toArray
  generalize w3.setRow g2 (cells8 c).toArray = w4 at *
  have HZ : Hid (∃ b, w.heap.size ≤ b ∧ Ending.returned (.tuple #[.slice (some ⟨g2, 0, none⟩) 896 896, .int .i64 0]) = .returned (.tuple #[.slice (some ⟨b, 0, none⟩) 896 896, .int .i64 0]) ∧ Rw w4 b 109 c ∧ Below w.heap.size w w4) := hid ⟨g2, hs2, rfl, hR4, (hB2.trans (hB3.mono hs2)).trans (hF4.below (by have := hR3.lt; omega) (by simp; omega))⟩
  have HAL := hid hal
  have HST := hid hst
  clear hB2 hB3 hR3 hal hst hR4 hF4 hg2 hs2 HG
  dsimp only [Act.put]
  refine wp_y (v := .tuple #[V8 c, .bool false]) rfl rfl (y_move rfl) rfl ?_
  refine wp_y (v := V8 c) rfl rfl (y_ext rfl (hr := ext2_0 (V8 c) (.bool false))) rfl ?_
  try simp only [List.setIfInBounds_toArray, List.set_cons_zero, List.set_cons_succ]
  refine wp_y (v := .bool false) rfl rfl (y_ext rfl (hr := ext2_1 (V8 c) (.bool false))) rfl ?_
  refine wp_run (v := .pointer (some ⟨g2, 0, none⟩)) rfl rfl (run_alOp rfl HAL.out) rfl ?_
  refine wp_do rfl rfl (run_storeOp rfl (by kernel_rfl) (by kernel_rfl) HST.out) ?_
  refine wp_y (v := .bool false) rfl rfl (y_assign rfl) rfl ?_
  try simp only [List.setIfInBounds_toArray, List.set_cons_zero, List.set_cons_succ]
  refine wp_end ?_
  have hz := HZ.out
  obtain ⟨b, _, _, hR4, hB4⟩ := hz
  have hJ := HJ.out
  have hJ4 := hJ.1.below hB4
  have hP4 := hJ.2.1.below hB4 hJ.2.1.lt
  have hdr : Below w4.heap.size w4 w4.drew := (Below.refl _ _).drew
  have HFB := hid (firstBlock_any q hJ.2.2.2 w4.drew)
  have HRB := hid (readBlocks_any (hJ4.below hdr) (2 + q * 8) 8 hJ.2.2.1 (by decide))
  have HS : Hid (w4.drew.cell? ⟨p, 0, none⟩ = some (.pointer (some ⟨j, 0, none⟩))) := hid hP4.c0
  have HP4 := hid (And.intro hP4.c0 hP4.lt)
  have HB4 : Hid (Below w.heap.size w w4 ∧ w.heap.size ≤ w4.heap.size) := hid ⟨hB4, hB4.size⟩
  clear hJ hJ4 hP4 hB4 hR4 hdr HJ HZ
  go_upto_region 7 with fail
  refine h_openL (S := fun w' => w'.cell? ⟨p, 0, none⟩ = some (.pointer (some ⟨j, 0, none⟩))) (by kernel_rfl) (by kernel_rfl) (fun _ _ _ _ _ h => h) (L := #[false, false, false, false, false, false, false, false, false, false, false, false]) (by kernel_rfl) ?_
  intro Q' hns hP hN
  have hS := HS.out
  refine h_takeL (i := 0) (v := .pointer (some ⟨p, 0, none⟩)) hns rfl rfl (by kernel_rfl) (by kernel_rfl) hP (y_move rfl) hS rfl (L' := #[true, false, false, false, false, false, false, false, false, false, false, false]) (by kernel_rfl) ?_
  refine h_takeL (i := 1) (v := .pointer (some ⟨p, 0, none⟩)) hns rfl rfl (by kernel_rfl) (by kernel_rfl) hP (y_nil rfl) hS rfl (L' := #[true, true, false, false, false, false, false, false, false, false, false, false]) (by kernel_rfl) ?_
  refine h_takeL (i := 2) (v := .pointer (some ⟨p, 0, none⟩)) hns rfl rfl (by kernel_rfl) (by kernel_rfl) hP (y_faddr rfl (hf := fa90_0 (p))) hS rfl (L' := #[true, true, true, false, false, false, false, false, false, false, false, false]) (by kernel_rfl) ?_
  refine h_takeL (i := 3) (v := .pointer (some ⟨j, 0, none⟩)) hns rfl rfl (by kernel_rfl) (by kernel_rfl) hP (y_load rfl (hl := fun w' h => load1 Tryz.isAgg25 h)) hS rfl (L' := #[true, true, true, true, false, false, false, false, false, false, false, false]) (by kernel_rfl) ?_
  refine h_takeL (i := 4) (v := .int .i64 q) hns rfl rfl (by kernel_rfl) (by kernel_rfl) hP (y_move rfl) hS rfl (L' := #[true, true, true, true, true, false, false, false, false, false, false, false]) (by kernel_rfl) ?_
  refine h_callL (i := 5) (f := 56) (args := #[.int .i64 q]) (by kernel_rfl) rfl rfl (by kernel_rfl) (enter_go rfl (by kernel_rfl) (fun w => by go_simp)) (L' := #[true, true, true, true, true, true, false, false, false, false, false, false]) (by kernel_rfl) ?_
  refine HFB.out.mono ?_
  rintro e w5 ⟨rfl, rfl⟩
  refine ⟨_, rfl, HS.out, ?_⟩
  refine h_callL (i := 6) (f := 62) (args := #[.pointer (some ⟨j, 0, none⟩), .int .i64 ((2 + q * 8 : Nat) : Int), .int .i64 8]) (by kernel_rfl) rfl rfl (by kernel_rfl) (enter_go rfl (by kernel_rfl) (fun w => by go_simp)) (L' := #[true, true, true, true, true, true, true, false, false, false, false, false]) (by kernel_rfl) ?_
  refine HRB.out.mono ?_
  rintro e w6 ⟨v, rfl, ho, hB6⟩
  have hS6 : w6.cell? ⟨p, 0, none⟩ = some (.pointer (some ⟨j, 0, none⟩)) := (hB6.cell (p := ⟨p, 0, none⟩) HP4.out.2).trans HS.out
  have HO : Hid (w6.ownsRow w.heap.size 5 1 v 896 (cells8 (cat bl (2 + q * 8) 8)) ∧ Below w.heap.size w w6) := hid ⟨owns_mono ho HB4.out.2, HB4.out.1.trans ((Below.undr hB6).mono HB4.out.2)⟩
  refine ⟨_, rfl, hS6, ?_⟩
  clear hS hB6 ho
  have hS := hS6
  clear hS6
  try simp only [List.setIfInBounds_toArray, List.set_cons_zero, List.set_cons_succ]
  refine h_takeL (i := 7) (v := .tuple #[v, .int .i64 0]) hns rfl rfl (by kernel_rfl) (by kernel_rfl) hP (y_move rfl) hS rfl (L' := #[true, true, true, true, true, true, true, true, false, false, false, false]) (by kernel_rfl) ?_
  refine h_takeL (i := 8) (v := v) hns rfl rfl (by kernel_rfl) (by kernel_rfl) hP (y_ext rfl (hr := ext2_0 (v) (.int .i64 0))) hS rfl (L' := #[true, true, true, true, true, true, true, true, true, false, false, false]) (by kernel_rfl) ?_
  refine h_takeL (i := 9) (v := .int .i64 0) hns rfl rfl (by kernel_rfl) (by kernel_rfl) hP (y_ext rfl (hr := ext2_1 (v) (.int .i64 0))) hS rfl (L' := #[true, true, true, true, true, true, true, true, true, true, false, false]) (by kernel_rfl) ?_
  refine h_takeL (i := 10) (v := v) hns rfl rfl (by kernel_rfl) (by kernel_rfl) hP (y_assign rfl) hS rfl (L' := #[true, true, true, true, true, true, true, true, true, true, true, false]) (by kernel_rfl) ?_
  refine h_takeL (i := 11) (v := .int .i64 0) hns rfl rfl (by kernel_rfl) (by kernel_rfl) hP (y_assign rfl) hS rfl (L' := #[true, true, true, true, true, true, true, true, true, true, true, true]) (by kernel_rfl) ?_
  try simp only [List.setIfInBounds_toArray, List.set_cons_zero, List.set_cons_succ]
  refine wpAnyH_done (by kernel_rfl) ?_ _
  refine hN _ _ ?_
  clear hP hN hns
  have HT := hid (ptold_ok (w := w6) p)
  clear HFB HRB HS HP4 hS
  go_wp2_with fail
  refine HT.out.mono ?_
  rintro e w7 ⟨rfl, hw7⟩
  obtain rfl := hw7.symm
  clear HT
  go_wp2_with fail
  go_ret2
  exact ⟨v, rfl, HO.out⟩
/-- A part of a head. -/
def hp (hd : List UInt8) (x : Nat) : List UInt8 := (hd.drop (x * 112)).take 112
theorem fit_head {nb : Nat} (hn : 2 ≤ nb) {hd : List UInt8} (hl : hd.length = 224) : Fit nb [0, 1] [hp hd 0, hp hd 1] := by
  refine ⟨rfl, by decide, fun z hz => ?_, fun l hm => ?_⟩
  · simp only [List.mem_cons, List.not_mem_nil, or_false] at hz
    unfold hasB
    rcases hz with rfl | rfl <;> simp <;> omega
  · simp only [List.mem_cons, List.not_mem_nil, or_false] at hm
    rcases hm with rfl | rfl <;> simp [hp, hl]
set_option maxRecDepth 100000 in
set_option maxHeartbeats 1000000 in
theorem pformat_any {B : Nat} {w : World} {j d : Nat} {X : List Nat} {s : DS} {sq cnt : Nat} {bl : List (List UInt8)} (h : Js B w j d X s sq cnt bl) (hBw : B ≤ w.heap.size) (hsq : sq + 1 ≤ 1000000000) (ho : s.ops + ((2 * nbOf s.n + 4 : Nat) : Int) ≤ 1048576) {n : Nat} (hn : (nbOf s.n - 2) / 8 = n) :
    Calls Tryz.prog 32 #[.pointer (some ⟨j, 0, none⟩)] w fun e w' => e = .returned (.int .i64 0) ∧ ∃ s' X' cnt', Js B w' j d X' s' (sq + 1) cnt' (layAll bl (wsOf [0, 1] [hp (hdOf (List.replicate n false) 0) 0, hp (hdOf (List.replicate n false) 0) 1])) ∧ s'.n = s.n ∧ s.ops ≤ s'.ops ∧ s'.ops ≤ s.ops + 8 ∧ Below B w w' ∧ Kp w w' := by
  have hnb := h.jr.nb
  have hbl : bl.length = nbOf s.n := h.jr.sett.con.len
  have hn32 := h.jr.sett.n32
  have hnb2 : 2 ≤ nbOf s.n := by unfold nbOf; omega
  have hpo := pagesOf_any h.jr.jn hnb2 hnb
  rw [hn] at hpo
  have HP := hid hpo
  have HE := hid (empty_any n (by omega) w)
  have HH : Hid (∀ w', Calls Tryz.prog 52 #[St (List.replicate n false) n (-1)] w' fun e w'' => ∃ va vb g, e = .returned (.tuple #[va, vb]) ∧ Ats w'' w'.heap.size va [0, 1] ∧ Bq w'' w'.heap.size vb [⟨g, 70, 0, hdOf (List.replicate n false) 0⟩, ⟨g, 70, 1, hdOf (List.replicate n false) 0⟩] ∧ Below w'.heap.size w' w'') := hid (fun w' => htw_any (List.replicate n false) n (-1) (by simp; omega) 0 rfl (by decide) w')
  have HJ := hid (And.intro h (And.intro hBw (And.intro hsq (And.intro ho (show 2 ≤ bl.length by omega)))))
  clear hnb hbl hn32 hnb2 hpo h hBw hsq ho hn
  go_enter Tryz.func32, Tryz.ntmps32
  go_wp2_with fail
  refine HP.out.mono ?_
  rintro e w1 ⟨rfl, hw1⟩
  obtain rfl := hw1.symm
  clear HP
  go_wp2_with fail
  refine HE.out.mono ?_
  rintro e w2 ⟨rfl, hB2⟩
  have HB2 := hid hB2
  clear HE hB2
  go_wp2_with fail
  refine (HH.out w2).mono ?_
  rintro e w3 ⟨va, vb, g, rfl, ha, hb, hB3⟩
  have hJ := HJ.out
  have hJ3 := (hJ.1.below HB2.out).below hB3
  have hdl := hdOf_len (List.replicate n false) 0
  have hf := fit_head hJ.2.2.2.2 hdl
  have hB2 := HB2.out
  have hwr := hJ3.wr (by have := hB2.size; have := hB3.size; omega) hJ.2.2.1 ha.iz hb.bz (by decide) hJ.2.2.2.1
  have hre : refE bl [0, 1] [hp (hdOf (List.replicate n false) 0) 0, hp (hdOf (List.replicate n false) 0) 1] = 0 := if_pos hf
  have hrw : refW sq bl [0, 1] [hp (hdOf (List.replicate n false) 0) 0, hp (hdOf (List.replicate n false) 0) 1] = (sq + 1, layAll bl (wsOf [0, 1] [hp (hdOf (List.replicate n false) 0) 0, hp (hdOf (List.replicate n false) 0) 1])) := if_pos ⟨hf, by simp⟩
  have hwr2 : Calls Tryz.prog 58 #[.pointer (some ⟨j, 0, none⟩), va, vb] w3 fun e w' => e = .returned (.int .i64 0) ∧ ∃ s' X' cnt', Js B w' j d X' s' (sq + 1) cnt' (layAll bl (wsOf [0, 1] [hp (hdOf (List.replicate n false) 0) 0, hp (hdOf (List.replicate n false) 0) 1])) ∧ s'.n = s.n ∧ s.ops ≤ s'.ops ∧ s'.ops ≤ s.ops + 8 ∧ Below B w w' ∧ Kp w w' := hwr.mono (by
    rintro e w4 ⟨rfl, s', X', cnt', hJ4, h1, h2, h3, _, _, _, hB4, hK4⟩
    refine ⟨congrArg (fun x => Ending.returned (.int .i64 x)) hre, s', X', cnt', ?_, h1, h2, h3, ((hB2.mono hJ.2.1).trans (hB3.mono (by have := hB2.size; omega))).trans hB4, ((Kp.of_below hB2).trans (Kp.of_below hB3)).trans hK4⟩
    have e1 : ([⟨g, 70, 0, hdOf (List.replicate n false) 0⟩, ⟨g, 70, 1, hdOf (List.replicate n false) 0⟩] : List Pq).map Pq.by = [hp (hdOf (List.replicate n false) 0) 0, hp (hdOf (List.replicate n false) 0) 1] := rfl
    rw [e1, hrw] at hJ4
    exact hJ4)
  have HW := hid hwr2
  clear hJ hJ3 hdl hf hB2 hwr hre hrw hwr2 ha hb hB3 HH HB2 HJ
  go_wp2_with fail
  refine HW.out.mono ?_
  rintro e w4 ⟨rfl, h4⟩
  have HZ := hid h4
  clear HW h4
  go_wp2_with fail
  go_ret
  exact ⟨rfl, HZ.out⟩
end Go.Proofs.YtcmgclkbhhdnaaaGreatDoor
namespace Go.Proofs.YtcmgclkbhhdnaaaGreatDoor
open Go Go.RowKit

variable {ops : Array Oper} {S : World → Prop} {o o2 : Oper} {a : Act} {Q : Exit → Act → World → Prop} {md : Region.Mode} {fuel : Nat} {w w1 : World} {i i2 : Nat} {L L' : Array Bool}
theorem h_two (hr : Region.ready md ops L = [i, i2]) (hi : ops[i]? = some o) (hi2 : ops[i2]? = some o2) (hw : Region.wanted o (yielded ops a.tmps) = true) (hw2 : Region.wanted o2 (yielded ops a.tmps) = true)
    (h : o.wp Tryz.prog a w (fun a' w' => S w' ∧ wpAnyH Tryz.prog md ops Q S fuel (L.setIfInBounds i true) a' w') Q)
    (h2 : o2.wp Tryz.prog a w (fun a' w' => S w' ∧ wpAnyH Tryz.prog md ops Q S fuel (L.setIfInBounds i2 true) a' w') Q) : wpAnyH Tryz.prog md ops Q S (fuel + 1) L a w := by
  refine wpAnyH_all hr (by simp) (fun j hj => ?_)
  simp only [List.mem_cons, List.not_mem_nil, or_false] at hj
  unfold wpOp
  rcases hj with rfl | rfl
  · rw [hi]
    simp only [hw, if_true]
    exact .inl h
  · rw [hi2]
    simp only [hw2, if_true]
    exact .inl h2
theorem o_val {d : Nat} {v : Value} {tmps T : Array Value} {ds : List Deferred} (hd : o.dst = some d)
    (he : (execOp (Act.mk tmps ds).eval o).run Tryz.prog w = .ok (.value v) w1) (hS : S w1) (hT : tmps.setIfInBounds d v = T) (hL : L.setIfInBounds i true = L')
    (h : wpAnyH Tryz.prog md ops Q S fuel L' ⟨T, ds⟩ w1) : o.wp Tryz.prog ⟨tmps, ds⟩ w (fun a' w' => S w' ∧ wpAnyH Tryz.prog md ops Q S fuel (L.setIfInBounds i true) a' w') Q := by
  subst hL
  subst hT
  unfold Oper.wp
  rw [he, Oper.upon_value, hd]
  exact ⟨hS, h⟩
theorem o_call {d : Nat} {f : FuncId} {args : Array Value} {tmps : Array Value} {ds : List Deferred} (hd : o.dst = some d)
    (he : ∀ w, (execOp (Act.mk tmps ds).eval o).run Tryz.prog w = .ok (.enter f args) w) (hL : L.setIfInBounds i true = L')
    (h : Calls Tryz.prog f args w fun e w' => ∃ v, e = .returned v ∧ S w' ∧ wpAnyH Tryz.prog md ops Q S fuel L' ⟨tmps.setIfInBounds d v, ds⟩ w') : o.wp Tryz.prog ⟨tmps, ds⟩ w (fun a' w' => S w' ∧ wpAnyH Tryz.prog md ops Q S fuel (L.setIfInBounds i true) a' w') Q := by
  subst hL
  unfold Oper.wp
  rw [he w, Oper.upon_enter]
  refine h.mono fun e w' ⟨v, he, h1, h2⟩ => ?_
  subst he
  rw [hd]
  exact ⟨h1, h2⟩
end Go.Proofs.YtcmgclkbhhdnaaaGreatDoor
namespace Go.Proofs.YtcmgclkbhhdnaaaGreatDoor
open Go Go.RowKit

theorem hdOf_root (l : List Bool) (r : Nat) (hr : r < 65536) : r = ((hdOf l r).getD 18 0).toNat * 256 + ((hdOf l r).getD 19 0).toNat := by
  rw [(hdOf_18 l r).1, (hdOf_18 l r).2, UInt8.toNat_ofNat', UInt8.toNat_ofNat']
  omega
set_option maxRecDepth 100000 in
set_option maxHeartbeats 1000000 in
theorem popen_ok {w : World} {j d : Nat} {X : List Nat} {s : DS} {sq cnt : Nat} {bl : List (List UInt8)} (h : Jr w j d X s sq cnt bl) {n : Nat} {l : List Bool} {r : Nat} (hn : (nbOf s.n - 2) / 8 = n) (hl : l.length = n) (hc : cat bl 0 2 = hdOf l r) (hr : r < 65536) (hroot : r = 0 ∨ ∃ q, r = q + 1 ∧ l[q]? = some true) :
    Calls Tryz.prog 13 #[.pointer (some ⟨j, 0, none⟩)] w fun e w' => ∃ p, w.heap.size ≤ p ∧ e = .returned (.tuple #[.pointer (some ⟨p, 0, none⟩), .int .i64 0]) ∧ Pg w' p j l (lef l) ((r : Int) - 1) false (lef l) ((r : Int) - 1) none none 0 ∧ Below w.heap.size w w' := by
  have hn1 := h.nb
  have hbl : bl.length = nbOf s.n := h.sett.con.len
  have hnb2 : 2 ≤ nbOf s.n := by have := h.sett.n32; unfold nbOf; omega
  have hrh := readHead_any h (by omega)
  rw [hc] at hrh
  have HRH := hid hrh
  have HDL := hid (hdOf_len l r)
  have HLL : Hid (l.length ≤ 1023) := hid (by omega)
  have HS6 : Hid (∀ w', Calls Tryz.prog 40 #[V8 (hdOf l r), .int .i64 n] w' fun e w'' => e = .returned (.tuple #[St l (lef l) ((r : Int) - 1), .bool true]) ∧ Below w'.heap.size w' w'') := hid (fun w' => by
    have hlk : lk (hdOf l r) n n = l := by rw [← hl]; exact lk_full l r (by omega)
    have h1 := state_any (hdOf l r) (hdOf_len l r) n (by omega) r (hdOf_root l r hr) (by rw [hlk]; exact hroot) w'
    rw [hlk, if_pos rfl, decide_eq_true rfl] at h1
    exact h1)
  generalize hdOf l r = hd at *
  generalize (lef l : Int) = kl at *
  generalize (r : Int) - 1 = kr at *
  obtain ⟨B, hB⟩ : ∃ B, w.heap.size = B := ⟨_, rfl⟩
  have hHB := HRH.out
  have HPO : Hid (∀ w', Below B w w' → Calls Tryz.prog 41 #[.pointer (some ⟨j, 0, none⟩)] w' fun e w'' => e = .returned (.int .i64 n) ∧ w'' = w') := hid (fun w' hB' => by
    have h1 := pagesOf_any (h.below (by rw [hB]; exact hB')).jn hnb2 h.nb
    rw [hn] at h1
    exact h1)
  rw [hB] at hHB ⊢
  have HRH2 := hid hHB
  have HB := hid hB
  have HPO0 := HPO
  clear HRH hHB h hn hnb2 hB hn1 hbl hrh hl hc hr hroot
  go_enter Tryz.func13, Tryz.ntmps13
  go_upto_region 3 with fail
  refine wp_region_lit ?_
  refine wp_y (v := .pointer (some ⟨j, 0, none⟩)) rfl rfl (y_move rfl) rfl ?_
  refine wp_call (f := 39) (args := #[.pointer (some ⟨j, 0, none⟩)]) (by kernel_rfl) (fun w => by go_simp) ?_
  refine HRH2.out.mono ?_
  rintro e w2 ⟨rfl, hB2⟩
  refine ⟨_, rfl, ?_⟩
  have hal := palloc70 w2
  have hB3 : Below w2.heap.size w2 (w2.alloc (.cells (cells8 z224).toArray 70)) := (Below.refl _ _).alloc (Nat.le_refl _) _
  have hR3 : Rw (w2.alloc (.cells (cells8 z224).toArray 70)) w2.heap.size 70 z224 := heap_alloc_last w2 _
  generalize w2.alloc (.cells (cells8 z224).toArray 70) = w3 at *
  obtain ⟨g4, hg4⟩ : ∃ g, w2.heap.size = g := ⟨_, rfl⟩
  have hs2 : B ≤ g4 := by have := hB2.size; have := HB.out; omega
  rw [hg4] at hal hR3 hB3
  have hst := pstore70 z224_len HDL.out hR3
  have hR4 := hR3.row hd
  have hF4 := Fr.setRow w3 g4 (cells8 hd).toArray
  generalize w3.setRow g4 (cells8 hd).toArray = w4 at *
  have HZ4 : Hid (Rw w4 g4 70 hd ∧ Below B w w4 ∧ B ≤ w4.heap.size) := hid ⟨hR4, (hB2.trans (hB3.mono hs2)).trans (hF4.below (by have := hR3.lt; omega) (by simp; omega)), by have := hR4.lt; omega⟩
  have HAL := hid hal
  have HST := hid hst
  clear hB2 hB3 hR3 hal hst hR4 hF4 hg4 hs2
  dsimp only [Act.put]
  refine wp_y (v := .tuple #[V8 hd, .int .i64 0]) rfl rfl (y_move rfl) rfl ?_
  refine wp_y (v := V8 hd) rfl rfl (y_ext rfl (hr := ext2_0 (V8 hd) (.int .i64 0))) rfl ?_
  refine wp_y (v := .int .i64 0) rfl rfl (y_ext rfl (hr := ext2_1 (V8 hd) (.int .i64 0))) rfl ?_
  refine wp_run (v := .pointer (some ⟨g4, 0, none⟩)) rfl rfl (run_alOp rfl HAL.out) rfl ?_
  refine wp_do rfl rfl (run_storeOp rfl (by kernel_rfl) (by kernel_rfl) HST.out) ?_
  refine wp_y (v := .int .i64 0) rfl rfl (y_assign rfl) rfl ?_
  try simp only [List.setIfInBounds_toArray, List.set_cons_zero, List.set_cons_succ]
  refine wp_end ?_
  clear HAL HST
  obtain ⟨G, hG⟩ : ∃ G, w4.heap.size = G := ⟨_, rfl⟩
  obtain ⟨wd, hwd⟩ : ∃ wd, w4.drew = wd := ⟨_, rfl⟩
  have HS : Hid (Below G w4 wd) := hid (by rw [← hwd]; exact (Below.refl _ _).drew)
  have h4 := HZ4.out
  have HPO : Hid (∀ w', Below G w4 w' → Calls Tryz.prog 41 #[.pointer (some ⟨j, 0, none⟩)] w' fun e w'' => e = .returned (.int .i64 n) ∧ w'' = w') := hid (fun w' hB' => HPO0.out w' (h4.2.1.trans (hB'.mono (by omega))))
  have H4 : Hid (Rw w4 g4 70 hd ∧ g4 < G) := hid ⟨h4.1, by rw [← hG]; exact h4.1.lt⟩
  have H4B : Hid (Below B w w4 ∧ B ≤ w4.heap.size) := hid h4.2
  have HG := hid hG
  have HWD := hid hwd
  clear h4 HZ4 HPO0 hG hwd HRH2 HB
  go_upto_region 6 with fail
  refine h_openL (S := fun w' => Below G w4 w') (by kernel_rfl) (by kernel_rfl) (fun _ _ _ _ _ h => h) (L := #[false, false, false, false, false, false, false, false, false, false]) (by kernel_rfl) ?_
  intro Q' hns hP hN
  have hS := HS.out
  rw [HWD.out]
  refine h_takeL (i := 0) (v := V8 hd) hns rfl rfl (by kernel_rfl) (by kernel_rfl) hP (y_load rfl (hl := fun w' h => pload70 HDL.out (H4.out.1.below h H4.out.2))) hS rfl (L' := #[true, false, false, false, false, false, false, false, false, false]) (by kernel_rfl) ?_
  refine h_takeL (i := 1) (v := .pointer (some ⟨j, 0, none⟩)) hns rfl rfl (by kernel_rfl) (by kernel_rfl) hP (y_move rfl) hS rfl (L' := #[true, true, false, false, false, false, false, false, false, false]) (by kernel_rfl) ?_
  try simp only [List.setIfInBounds_toArray, List.set_cons_zero, List.set_cons_succ]
  refine h_two (i := 2) (i2 := 7) (by kernel_rfl) rfl rfl (by kernel_rfl) (by kernel_rfl) ?_ ?_
  · refine o_call (i := 2) (f := 41) (args := #[.pointer (some ⟨j, 0, none⟩)]) rfl (enter_go rfl (by kernel_rfl) (fun w => by go_simp)) (L' := #[true, true, true, false, false, false, false, false, false, false]) (by kernel_rfl) ?_
    refine (HPO.out wd hS).mono ?_
    rintro e w5 ⟨rfl, hw5⟩
    obtain rfl := hw5.symm
    refine ⟨_, rfl, hS, ?_⟩
    try simp only [List.setIfInBounds_toArray, List.set_cons_zero, List.set_cons_succ]
    refine h_two (i := 3) (i2 := 7) (by kernel_rfl) rfl rfl (by kernel_rfl) (by kernel_rfl) ?_ ?_
    · refine o_call (i := 3) (f := 40) (args := #[V8 hd, .int .i64 n]) rfl (enter_go rfl (by kernel_rfl) (fun w => by go_simp)) (L' := #[true, true, true, true, false, false, false, false, false, false]) (by kernel_rfl) ?_
      refine (HS6.out wd).mono ?_
      rintro e w6 ⟨rfl, hB6⟩
      have hS6 : Below G w4 w6 := hS.trans (hB6.mono (by have := hS.size; have := HG.out; omega))
      refine ⟨_, rfl, hS6, ?_⟩
      try simp only [List.setIfInBounds_toArray, List.set_cons_zero, List.set_cons_succ]
      have HSS := hid hS6
      clear hS hB6 hS6
      have hS := HSS.out
      clear HSS
      refine h_takeL (i := 4) (v := .tuple #[St l kl kr, .bool true]) hns rfl rfl (by kernel_rfl) (by kernel_rfl) hP (y_move rfl) hS rfl (L' := #[true, true, true, true, true, false, false, false, false, false]) (by kernel_rfl) ?_
      refine h_takeL (i := 5) (v := St l kl kr) hns rfl rfl (by kernel_rfl) (by kernel_rfl) hP (y_ext rfl (hr := ext2_0 (St l kl kr) (.bool true))) hS rfl (L' := #[true, true, true, true, true, true, false, false, false, false]) (by kernel_rfl) ?_
      refine h_takeL (i := 6) (v := .bool true) hns rfl rfl (by kernel_rfl) (by kernel_rfl) hP (y_ext rfl (hr := ext2_1 (St l kl kr) (.bool true))) hS rfl (L' := #[true, true, true, true, true, true, true, false, false, false]) (by kernel_rfl) ?_
      try simp only [List.setIfInBounds_toArray, List.set_cons_zero, List.set_cons_succ]
      have hal := palloc76 w6
      have hBa : Below w6.heap.size w6 (w6.alloc (.cells (stC [] 0 0).toArray 76)) := (Below.refl _ _).alloc (Nat.le_refl _) _
      have hSb : Sb (w6.alloc (.cells (stC [] 0 0).toArray 76)) w6.heap.size [] 0 0 := heap_alloc_last w6 _
      generalize w6.alloc (.cells (stC [] 0 0).toArray 76) = wa at *
      obtain ⟨g6, hg6⟩ : ∃ g, w6.heap.size = g := ⟨_, rfl⟩
      rw [hg6] at hal hBa hSb
      have hGg : G ≤ g6 := by have := hS.size; have := HG.out; omega
      have hSa : Below G w4 wa := hS.trans (hBa.mono hGg)
      have HGG := hid hGg
      clear hGg hg6 hBa
      refine h_valL (i := 7) (v := .pointer (some ⟨g6, 0, none⟩)) (by kernel_rfl) rfl rfl (by kernel_rfl) (run_alOp rfl hal) hSa rfl (L' := #[true, true, true, true, true, true, true, true, false, false]) (by kernel_rfl) ?_
      try simp only [List.setIfInBounds_toArray, List.set_cons_zero, List.set_cons_succ]
      clear hS hal
      have hS := hSa
      clear hSa
      have hst := pstore76 (l := []) (kl := 0) (kr := 0) (by simp) HLL.out (kl' := kl) (kr' := kr) hSb
      have hS8 := hSb.row l kl kr
      have hF8 := Fr.setRow wa g6 (stC l kl kr).toArray
      generalize wa.setRow g6 (stC l kl kr).toArray = w8 at *
      have hB8 : Below G w4 w8 := hS.trans (hF8.below (by have := hS.size; have := HG.out; omega) (by have := HGG.out; simp; omega))
      have HE := hid (And.intro hS8 (And.intro hB8 HGG.out))
      have HST := hid hst
      have HB8 := hid hB8
      clear hst hS8 hF8 hB8 hSb
      refine h_skipL (i := 8) (by kernel_rfl) rfl rfl (by kernel_rfl) (run_storeOp rfl (by kernel_rfl) (by kernel_rfl) HST.out) HB8.out (L' := #[true, true, true, true, true, true, true, true, true, false]) (by kernel_rfl) ?_
      refine h_takeL (i := 9) (v := .bool true) hns rfl rfl (by kernel_rfl) (by kernel_rfl) hP (y_assign rfl) HB8.out rfl (L' := #[true, true, true, true, true, true, true, true, true, true]) (by kernel_rfl) ?_
      try simp only [List.setIfInBounds_toArray, List.set_cons_zero, List.set_cons_succ]
      refine wpAnyH_done (by kernel_rfl) ?_ _
      refine hN _ _ ?_
      clear hP hN hns
      clear hS HST HB8 HGG HS6 HPO HS
      go_upto_region 9 with fail
      refine h_openL (S := fun w' => Sb w' g6 l kl kr) (by kernel_rfl) (by kernel_rfl) (fun _ _ _ _ _ h => h) (L := #[false, false, false, false, false, false, false, false]) (by kernel_rfl) ?_
      intro Q' hns hP hN
      have hS := HE.out.1
      refine h_takeL (i := 0) (v := .pointer (some ⟨j, 0, none⟩)) hns rfl rfl (by kernel_rfl) (by kernel_rfl) hP (y_move rfl) hS rfl (L' := #[true, false, false, false, false, false, false, false]) (by kernel_rfl) ?_
      refine h_takeL (i := 1) (v := St l kl kr) hns rfl rfl (by kernel_rfl) (by kernel_rfl) hP (y_load rfl (hl := fun w' h => pload76 HLL.out h)) hS rfl (L' := #[true, true, false, false, false, false, false, false]) (by kernel_rfl) ?_
      refine h_takeL (i := 2) (v := St l kl kr) hns rfl rfl (by kernel_rfl) (by kernel_rfl) hP (y_load rfl (hl := fun w' h => pload76 HLL.out h)) hS rfl (L' := #[true, true, true, false, false, false, false, false]) (by kernel_rfl) ?_
      refine h_callL (i := 3) (f := 42) (args := #[St l kl kr]) (by kernel_rfl) rfl rfl (by kernel_rfl) (enter_go rfl (by kernel_rfl) (fun w => by go_simp)) (L' := #[true, true, true, true, false, false, false, false]) (by kernel_rfl) ?_
      refine (unchanged_any l kl kr _).mono ?_
      rintro e w9 ⟨rfl, hB9⟩
      have hS9 := Sb.below (B := w8.heap.size) hS (Below.undr hB9) (heap_lt hS)
      have hbx := pbox90 w9 j l kl kr false kl kr none none 0
      have hBx : Below w9.heap.size w9 (w9.alloc (.cells (pgC j l kl kr false kl kr none none 0).toArray 90)) := (Below.refl _ _).alloc (Nat.le_refl _) _
      have hPx : Pg (w9.alloc (.cells (pgC j l kl kr false kl kr none none 0).toArray 90)) w9.heap.size j l kl kr false kl kr none none 0 := ⟨HLL.out, heap_alloc_last w9 _⟩
      generalize w9.alloc (.cells (pgC j l kl kr false kl kr none none 0).toArray 90) = wx at *
      have hsz : B ≤ w9.heap.size := by have := hB9.size; have := HE.out.2.1.size; have := H4B.out.2; have := HG.out; have : w8.drew.heap.size = w8.heap.size := rfl; omega
      have hBB : Below B w wx := (((H4B.out.1.trans (HE.out.2.1.mono (by have := H4B.out.2; have := HG.out; omega))).trans ((Below.undr hB9).mono (by have := HE.out.2.1.size; have := H4B.out.2; have : w8.drew.heap.size = w8.heap.size := rfl; omega)))).trans (hBx.mono hsz)
      have hSx := hS9.below hBx (heap_lt hS9)
      obtain ⟨pp, hpp⟩ : ∃ g, w9.heap.size = g := ⟨_, rfl⟩
      rw [hpp] at hbx hPx hsz
      have HZ := hid (And.intro hsz (And.intro hPx hBB))
      have HBX := hid hbx
      have HSX := hid hSx
      refine ⟨_, rfl, hS9, ?_⟩
      have HS9 := hid hS9
      clear hS hB9 hS9 hbx hBx hPx hsz hBB hSx hpp
      have hS := HS9.out
      refine h_valL (i := 4) (v := .agg (pgC j l kl kr false kl kr none none 0).toArray) (by kernel_rfl) rfl rfl (by kernel_rfl) (run_buildOp rfl (by kernel_rfl) (pbuild90 j l kl kr kl kr HLL.out _)) hS rfl (L' := #[true, true, true, true, true, false, false, false]) (by kernel_rfl) ?_
      refine h_valL (i := 5) (v := .pointer (some ⟨pp, 0, none⟩)) (by kernel_rfl) rfl rfl (by kernel_rfl) (run_boxOp rfl (by kernel_rfl) HBX.out) HSX.out rfl (L' := #[true, true, true, true, true, true, false, false]) (by kernel_rfl) ?_
      clear hS HS9
      have hS := HSX.out
      refine h_takeL (i := 6) (v := .pointer (some ⟨pp, 0, none⟩)) hns rfl rfl (by kernel_rfl) (by kernel_rfl) hP (y_assign rfl) hS rfl (L' := #[true, true, true, true, true, true, true, false]) (by kernel_rfl) ?_
      try simp only [List.setIfInBounds_toArray, List.set_cons_zero, List.set_cons_succ]
      refine h_takeL (i := 7) (v := (.int .i64 0)) hns rfl rfl (by kernel_rfl) (by kernel_rfl) hP (y_assign rfl) hS rfl (L' := #[true, true, true, true, true, true, true, true]) (by kernel_rfl) ?_
      try simp only [List.setIfInBounds_toArray, List.set_cons_zero, List.set_cons_succ]
      refine wpAnyH_done (by kernel_rfl) ?_ _
      refine hN _ _ ?_
      clear hP hN hns
      clear hS HBX HSX
      go_wp2_with fail
      go_ret2
      exact ⟨pp, HZ.out.1, rfl, HZ.out.2⟩
    · have hal := palloc76 wd
      have hBa : Below wd.heap.size wd (wd.alloc (.cells (stC [] 0 0).toArray 76)) := (Below.refl _ _).alloc (Nat.le_refl _) _
      have hSb : Sb (wd.alloc (.cells (stC [] 0 0).toArray 76)) wd.heap.size [] 0 0 := heap_alloc_last wd _
      generalize wd.alloc (.cells (stC [] 0 0).toArray 76) = wa at *
      obtain ⟨g6, hg6⟩ : ∃ g, wd.heap.size = g := ⟨_, rfl⟩
      rw [hg6] at hal hBa hSb
      have hGg : G ≤ g6 := by have := hS.size; have := HG.out; omega
      have hSa : Below G w4 wa := hS.trans (hBa.mono hGg)
      have HGG := hid hGg
      clear hGg hg6 hBa
      refine o_val (i := 7) (v := .pointer (some ⟨g6, 0, none⟩)) rfl (run_alOp rfl hal) hSa rfl (L' := #[true, true, true, false, false, false, false, true, false, false]) (by kernel_rfl) ?_
      try simp only [List.setIfInBounds_toArray, List.set_cons_zero, List.set_cons_succ]
      clear hS hal
      have hS := hSa
      clear hSa
      refine h_callL (i := 3) (f := 40) (args := #[V8 hd, .int .i64 n]) (by kernel_rfl) rfl rfl (by kernel_rfl) (enter_go rfl (by kernel_rfl) (fun w => by go_simp)) (L' := #[true, true, true, true, false, false, false, true, false, false]) (by kernel_rfl) ?_
      refine (HS6.out wa).mono ?_
      rintro e w6 ⟨rfl, hB6⟩
      have hS6 : Below G w4 w6 := hS.trans (hB6.mono (by have := hS.size; have := HG.out; omega))
      have hSb6 := hSb.below hB6 (heap_lt hSb)
      refine ⟨_, rfl, hS6, ?_⟩
      try simp only [List.setIfInBounds_toArray, List.set_cons_zero, List.set_cons_succ]
      have HSS := hid hS6
      have HSB := hid hSb6
      clear hSb hSb6
      clear hS hB6 hS6
      have hS := HSS.out
      clear HSS
      have hSb := HSB.out
      clear HSB
      refine h_takeL (i := 4) (v := .tuple #[St l kl kr, .bool true]) hns rfl rfl (by kernel_rfl) (by kernel_rfl) hP (y_move rfl) hS rfl (L' := #[true, true, true, true, true, false, false, true, false, false]) (by kernel_rfl) ?_
      refine h_takeL (i := 5) (v := St l kl kr) hns rfl rfl (by kernel_rfl) (by kernel_rfl) hP (y_ext rfl (hr := ext2_0 (St l kl kr) (.bool true))) hS rfl (L' := #[true, true, true, true, true, true, false, true, false, false]) (by kernel_rfl) ?_
      refine h_takeL (i := 6) (v := .bool true) hns rfl rfl (by kernel_rfl) (by kernel_rfl) hP (y_ext rfl (hr := ext2_1 (St l kl kr) (.bool true))) hS rfl (L' := #[true, true, true, true, true, true, true, true, false, false]) (by kernel_rfl) ?_
      try simp only [List.setIfInBounds_toArray, List.set_cons_zero, List.set_cons_succ]
      have hst := pstore76 (l := []) (kl := 0) (kr := 0) (by simp) HLL.out (kl' := kl) (kr' := kr) hSb
      have hS8 := hSb.row l kl kr
      have hF8 := Fr.setRow w6 g6 (stC l kl kr).toArray
      generalize w6.setRow g6 (stC l kl kr).toArray = w8 at *
      have hB8 : Below G w4 w8 := hS.trans (hF8.below (by have := hS.size; have := HG.out; omega) (by have := HGG.out; simp; omega))
      have HE := hid (And.intro hS8 (And.intro hB8 HGG.out))
      have HST := hid hst
      have HB8 := hid hB8
      clear hst hS8 hF8 hB8 hSb
      refine h_skipL (i := 8) (by kernel_rfl) rfl rfl (by kernel_rfl) (run_storeOp rfl (by kernel_rfl) (by kernel_rfl) HST.out) HB8.out (L' := #[true, true, true, true, true, true, true, true, true, false]) (by kernel_rfl) ?_
      refine h_takeL (i := 9) (v := .bool true) hns rfl rfl (by kernel_rfl) (by kernel_rfl) hP (y_assign rfl) HB8.out rfl (L' := #[true, true, true, true, true, true, true, true, true, true]) (by kernel_rfl) ?_
      try simp only [List.setIfInBounds_toArray, List.set_cons_zero, List.set_cons_succ]
      refine wpAnyH_done (by kernel_rfl) ?_ _
      refine hN _ _ ?_
      clear hP hN hns
      clear hS HST HB8 HGG HS6 HPO HS
      go_upto_region 9 with fail
      refine h_openL (S := fun w' => Sb w' g6 l kl kr) (by kernel_rfl) (by kernel_rfl) (fun _ _ _ _ _ h => h) (L := #[false, false, false, false, false, false, false, false]) (by kernel_rfl) ?_
      intro Q' hns hP hN
      have hS := HE.out.1
      refine h_takeL (i := 0) (v := .pointer (some ⟨j, 0, none⟩)) hns rfl rfl (by kernel_rfl) (by kernel_rfl) hP (y_move rfl) hS rfl (L' := #[true, false, false, false, false, false, false, false]) (by kernel_rfl) ?_
      refine h_takeL (i := 1) (v := St l kl kr) hns rfl rfl (by kernel_rfl) (by kernel_rfl) hP (y_load rfl (hl := fun w' h => pload76 HLL.out h)) hS rfl (L' := #[true, true, false, false, false, false, false, false]) (by kernel_rfl) ?_
      refine h_takeL (i := 2) (v := St l kl kr) hns rfl rfl (by kernel_rfl) (by kernel_rfl) hP (y_load rfl (hl := fun w' h => pload76 HLL.out h)) hS rfl (L' := #[true, true, true, false, false, false, false, false]) (by kernel_rfl) ?_
      refine h_callL (i := 3) (f := 42) (args := #[St l kl kr]) (by kernel_rfl) rfl rfl (by kernel_rfl) (enter_go rfl (by kernel_rfl) (fun w => by go_simp)) (L' := #[true, true, true, true, false, false, false, false]) (by kernel_rfl) ?_
      refine (unchanged_any l kl kr _).mono ?_
      rintro e w9 ⟨rfl, hB9⟩
      have hS9 := Sb.below (B := w8.heap.size) hS (Below.undr hB9) (heap_lt hS)
      have hbx := pbox90 w9 j l kl kr false kl kr none none 0
      have hBx : Below w9.heap.size w9 (w9.alloc (.cells (pgC j l kl kr false kl kr none none 0).toArray 90)) := (Below.refl _ _).alloc (Nat.le_refl _) _
      have hPx : Pg (w9.alloc (.cells (pgC j l kl kr false kl kr none none 0).toArray 90)) w9.heap.size j l kl kr false kl kr none none 0 := ⟨HLL.out, heap_alloc_last w9 _⟩
      generalize w9.alloc (.cells (pgC j l kl kr false kl kr none none 0).toArray 90) = wx at *
      have hsz : B ≤ w9.heap.size := by have := hB9.size; have := HE.out.2.1.size; have := H4B.out.2; have := HG.out; have : w8.drew.heap.size = w8.heap.size := rfl; omega
      have hBB : Below B w wx := (((H4B.out.1.trans (HE.out.2.1.mono (by have := H4B.out.2; have := HG.out; omega))).trans ((Below.undr hB9).mono (by have := HE.out.2.1.size; have := H4B.out.2; have : w8.drew.heap.size = w8.heap.size := rfl; omega)))).trans (hBx.mono hsz)
      have hSx := hS9.below hBx (heap_lt hS9)
      obtain ⟨pp, hpp⟩ : ∃ g, w9.heap.size = g := ⟨_, rfl⟩
      rw [hpp] at hbx hPx hsz
      have HZ := hid (And.intro hsz (And.intro hPx hBB))
      have HBX := hid hbx
      have HSX := hid hSx
      refine ⟨_, rfl, hS9, ?_⟩
      have HS9 := hid hS9
      clear hS hB9 hS9 hbx hBx hPx hsz hBB hSx hpp
      have hS := HS9.out
      refine h_valL (i := 4) (v := .agg (pgC j l kl kr false kl kr none none 0).toArray) (by kernel_rfl) rfl rfl (by kernel_rfl) (run_buildOp rfl (by kernel_rfl) (pbuild90 j l kl kr kl kr HLL.out _)) hS rfl (L' := #[true, true, true, true, true, false, false, false]) (by kernel_rfl) ?_
      refine h_valL (i := 5) (v := .pointer (some ⟨pp, 0, none⟩)) (by kernel_rfl) rfl rfl (by kernel_rfl) (run_boxOp rfl (by kernel_rfl) HBX.out) HSX.out rfl (L' := #[true, true, true, true, true, true, false, false]) (by kernel_rfl) ?_
      clear hS HS9
      have hS := HSX.out
      refine h_takeL (i := 6) (v := .pointer (some ⟨pp, 0, none⟩)) hns rfl rfl (by kernel_rfl) (by kernel_rfl) hP (y_assign rfl) hS rfl (L' := #[true, true, true, true, true, true, true, false]) (by kernel_rfl) ?_
      try simp only [List.setIfInBounds_toArray, List.set_cons_zero, List.set_cons_succ]
      refine h_takeL (i := 7) (v := (.int .i64 0)) hns rfl rfl (by kernel_rfl) (by kernel_rfl) hP (y_assign rfl) hS rfl (L' := #[true, true, true, true, true, true, true, true]) (by kernel_rfl) ?_
      try simp only [List.setIfInBounds_toArray, List.set_cons_zero, List.set_cons_succ]
      refine wpAnyH_done (by kernel_rfl) ?_ _
      refine hN _ _ ?_
      clear hP hN hns
      clear hS HBX HSX
      go_wp2_with fail
      go_ret2
      exact ⟨pp, HZ.out.1, rfl, HZ.out.2⟩
  · have hal := palloc76 wd
    have hBa : Below wd.heap.size wd (wd.alloc (.cells (stC [] 0 0).toArray 76)) := (Below.refl _ _).alloc (Nat.le_refl _) _
    have hSb : Sb (wd.alloc (.cells (stC [] 0 0).toArray 76)) wd.heap.size [] 0 0 := heap_alloc_last wd _
    generalize wd.alloc (.cells (stC [] 0 0).toArray 76) = wa at *
    obtain ⟨g6, hg6⟩ : ∃ g, wd.heap.size = g := ⟨_, rfl⟩
    rw [hg6] at hal hBa hSb
    have hGg : G ≤ g6 := by have := hS.size; have := HG.out; omega
    have hSa : Below G w4 wa := hS.trans (hBa.mono hGg)
    have HGG := hid hGg
    clear hGg hg6 hBa
    refine o_val (i := 7) (v := .pointer (some ⟨g6, 0, none⟩)) rfl (run_alOp rfl hal) hSa rfl (L' := #[true, true, false, false, false, false, false, true, false, false]) (by kernel_rfl) ?_
    try simp only [List.setIfInBounds_toArray, List.set_cons_zero, List.set_cons_succ]
    clear hS hal
    have hS := hSa
    clear hSa
    refine h_callL (i := 2) (f := 41) (args := #[.pointer (some ⟨j, 0, none⟩)]) (by kernel_rfl) rfl rfl (by kernel_rfl) (enter_go rfl (by kernel_rfl) (fun w => by go_simp)) (L' := #[true, true, true, false, false, false, false, true, false, false]) (by kernel_rfl) ?_
    refine (HPO.out wa hS).mono ?_
    rintro e w5 ⟨rfl, hw5⟩
    obtain rfl := hw5.symm
    refine ⟨_, rfl, hS, ?_⟩
    try simp only [List.setIfInBounds_toArray, List.set_cons_zero, List.set_cons_succ]
    refine h_callL (i := 3) (f := 40) (args := #[V8 hd, .int .i64 n]) (by kernel_rfl) rfl rfl (by kernel_rfl) (enter_go rfl (by kernel_rfl) (fun w => by go_simp)) (L' := #[true, true, true, true, false, false, false, true, false, false]) (by kernel_rfl) ?_
    refine (HS6.out wa).mono ?_
    rintro e w6 ⟨rfl, hB6⟩
    have hS6 : Below G w4 w6 := hS.trans (hB6.mono (by have := hS.size; have := HG.out; omega))
    have hSb6 := hSb.below hB6 (heap_lt hSb)
    refine ⟨_, rfl, hS6, ?_⟩
    try simp only [List.setIfInBounds_toArray, List.set_cons_zero, List.set_cons_succ]
    have HSS := hid hS6
    have HSB := hid hSb6
    clear hSb hSb6
    clear hS hB6 hS6
    have hS := HSS.out
    clear HSS
    have hSb := HSB.out
    clear HSB
    refine h_takeL (i := 4) (v := .tuple #[St l kl kr, .bool true]) hns rfl rfl (by kernel_rfl) (by kernel_rfl) hP (y_move rfl) hS rfl (L' := #[true, true, true, true, true, false, false, true, false, false]) (by kernel_rfl) ?_
    refine h_takeL (i := 5) (v := St l kl kr) hns rfl rfl (by kernel_rfl) (by kernel_rfl) hP (y_ext rfl (hr := ext2_0 (St l kl kr) (.bool true))) hS rfl (L' := #[true, true, true, true, true, true, false, true, false, false]) (by kernel_rfl) ?_
    refine h_takeL (i := 6) (v := .bool true) hns rfl rfl (by kernel_rfl) (by kernel_rfl) hP (y_ext rfl (hr := ext2_1 (St l kl kr) (.bool true))) hS rfl (L' := #[true, true, true, true, true, true, true, true, false, false]) (by kernel_rfl) ?_
    try simp only [List.setIfInBounds_toArray, List.set_cons_zero, List.set_cons_succ]
    have hst := pstore76 (l := []) (kl := 0) (kr := 0) (by simp) HLL.out (kl' := kl) (kr' := kr) hSb
    have hS8 := hSb.row l kl kr
    have hF8 := Fr.setRow w6 g6 (stC l kl kr).toArray
    generalize w6.setRow g6 (stC l kl kr).toArray = w8 at *
    have hB8 : Below G w4 w8 := hS.trans (hF8.below (by have := hS.size; have := HG.out; omega) (by have := HGG.out; simp; omega))
    have HE := hid (And.intro hS8 (And.intro hB8 HGG.out))
    have HST := hid hst
    have HB8 := hid hB8
    clear hst hS8 hF8 hB8 hSb
    refine h_skipL (i := 8) (by kernel_rfl) rfl rfl (by kernel_rfl) (run_storeOp rfl (by kernel_rfl) (by kernel_rfl) HST.out) HB8.out (L' := #[true, true, true, true, true, true, true, true, true, false]) (by kernel_rfl) ?_
    refine h_takeL (i := 9) (v := .bool true) hns rfl rfl (by kernel_rfl) (by kernel_rfl) hP (y_assign rfl) HB8.out rfl (L' := #[true, true, true, true, true, true, true, true, true, true]) (by kernel_rfl) ?_
    try simp only [List.setIfInBounds_toArray, List.set_cons_zero, List.set_cons_succ]
    refine wpAnyH_done (by kernel_rfl) ?_ _
    refine hN _ _ ?_
    clear hP hN hns
    clear hS HST HB8 HGG HS6 HPO HS
    go_upto_region 9 with fail
    refine h_openL (S := fun w' => Sb w' g6 l kl kr) (by kernel_rfl) (by kernel_rfl) (fun _ _ _ _ _ h => h) (L := #[false, false, false, false, false, false, false, false]) (by kernel_rfl) ?_
    intro Q' hns hP hN
    have hS := HE.out.1
    refine h_takeL (i := 0) (v := .pointer (some ⟨j, 0, none⟩)) hns rfl rfl (by kernel_rfl) (by kernel_rfl) hP (y_move rfl) hS rfl (L' := #[true, false, false, false, false, false, false, false]) (by kernel_rfl) ?_
    refine h_takeL (i := 1) (v := St l kl kr) hns rfl rfl (by kernel_rfl) (by kernel_rfl) hP (y_load rfl (hl := fun w' h => pload76 HLL.out h)) hS rfl (L' := #[true, true, false, false, false, false, false, false]) (by kernel_rfl) ?_
    refine h_takeL (i := 2) (v := St l kl kr) hns rfl rfl (by kernel_rfl) (by kernel_rfl) hP (y_load rfl (hl := fun w' h => pload76 HLL.out h)) hS rfl (L' := #[true, true, true, false, false, false, false, false]) (by kernel_rfl) ?_
    refine h_callL (i := 3) (f := 42) (args := #[St l kl kr]) (by kernel_rfl) rfl rfl (by kernel_rfl) (enter_go rfl (by kernel_rfl) (fun w => by go_simp)) (L' := #[true, true, true, true, false, false, false, false]) (by kernel_rfl) ?_
    refine (unchanged_any l kl kr _).mono ?_
    rintro e w9 ⟨rfl, hB9⟩
    have hS9 := Sb.below (B := w8.heap.size) hS (Below.undr hB9) (heap_lt hS)
    have hbx := pbox90 w9 j l kl kr false kl kr none none 0
    have hBx : Below w9.heap.size w9 (w9.alloc (.cells (pgC j l kl kr false kl kr none none 0).toArray 90)) := (Below.refl _ _).alloc (Nat.le_refl _) _
    have hPx : Pg (w9.alloc (.cells (pgC j l kl kr false kl kr none none 0).toArray 90)) w9.heap.size j l kl kr false kl kr none none 0 := ⟨HLL.out, heap_alloc_last w9 _⟩
    generalize w9.alloc (.cells (pgC j l kl kr false kl kr none none 0).toArray 90) = wx at *
    have hsz : B ≤ w9.heap.size := by have := hB9.size; have := HE.out.2.1.size; have := H4B.out.2; have := HG.out; have : w8.drew.heap.size = w8.heap.size := rfl; omega
    have hBB : Below B w wx := (((H4B.out.1.trans (HE.out.2.1.mono (by have := H4B.out.2; have := HG.out; omega))).trans ((Below.undr hB9).mono (by have := HE.out.2.1.size; have := H4B.out.2; have : w8.drew.heap.size = w8.heap.size := rfl; omega)))).trans (hBx.mono hsz)
    have hSx := hS9.below hBx (heap_lt hS9)
    obtain ⟨pp, hpp⟩ : ∃ g, w9.heap.size = g := ⟨_, rfl⟩
    rw [hpp] at hbx hPx hsz
    have HZ := hid (And.intro hsz (And.intro hPx hBB))
    have HBX := hid hbx
    have HSX := hid hSx
    refine ⟨_, rfl, hS9, ?_⟩
    have HS9 := hid hS9
    clear hS hB9 hS9 hbx hBx hPx hsz hBB hSx hpp
    have hS := HS9.out
    refine h_valL (i := 4) (v := .agg (pgC j l kl kr false kl kr none none 0).toArray) (by kernel_rfl) rfl rfl (by kernel_rfl) (run_buildOp rfl (by kernel_rfl) (pbuild90 j l kl kr kl kr HLL.out _)) hS rfl (L' := #[true, true, true, true, true, false, false, false]) (by kernel_rfl) ?_
    refine h_valL (i := 5) (v := .pointer (some ⟨pp, 0, none⟩)) (by kernel_rfl) rfl rfl (by kernel_rfl) (run_boxOp rfl (by kernel_rfl) HBX.out) HSX.out rfl (L' := #[true, true, true, true, true, true, false, false]) (by kernel_rfl) ?_
    clear hS HS9
    have hS := HSX.out
    refine h_takeL (i := 6) (v := .pointer (some ⟨pp, 0, none⟩)) hns rfl rfl (by kernel_rfl) (by kernel_rfl) hP (y_assign rfl) hS rfl (L' := #[true, true, true, true, true, true, true, false]) (by kernel_rfl) ?_
    try simp only [List.setIfInBounds_toArray, List.set_cons_zero, List.set_cons_succ]
    refine h_takeL (i := 7) (v := (.int .i64 0)) hns rfl rfl (by kernel_rfl) (by kernel_rfl) hP (y_assign rfl) hS rfl (L' := #[true, true, true, true, true, true, true, true]) (by kernel_rfl) ?_
    try simp only [List.setIfInBounds_toArray, List.set_cons_zero, List.set_cons_succ]
    refine wpAnyH_done (by kernel_rfl) ?_ _
    refine hN _ _ ?_
    clear hP hN hns
    clear hS HBX HSX
    go_wp2_with fail
    go_ret2
    exact ⟨pp, HZ.out.1, rfl, HZ.out.2⟩
end Go.Proofs.YtcmgclkbhhdnaaaGreatDoor
