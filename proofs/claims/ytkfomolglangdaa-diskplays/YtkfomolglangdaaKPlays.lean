/- plays: writes and flushes on a new disk of eight sectors. -/
import Derived.Test.YtkfomolglangdaaKShown
namespace Go.Proofs.Ytkfomolglangdaa
open Go Go.RowKit

/-- One of a script's calls, as it lies in memory. -/
structure OpV where
  kind : Int
  at_ : Int
  nn : Int
  ba : Option Addr
  bl : Nat
  bc : Nat
  sa : Option Addr
  sl : Nat
  sc : Nat
def i64 (x : Int) : Prop := -9223372036854775808 ≤ x ∧ x ≤ 9223372036854775807
/-- The slice reads as the script xs. -/
def Ops (w : World) (a : Option Addr) (len : Nat) (xs : List OpV) : Prop :=
  xs.length = len ∧ ∀ j x, xs[j]? = some x → i64 x.kind ∧ i64 x.at_ ∧ i64 x.nn ∧ ∃ b off, a = some ⟨b, off, none⟩ ∧
    w.cell? ⟨b, off + j * 5, none⟩ = some (.int .i64 x.kind) ∧ w.cell? ⟨b, off + j * 5 + 1, none⟩ = some (.int .i64 x.at_) ∧ w.cell? ⟨b, off + j * 5 + 2, none⟩ = some (.int .i64 x.nn) ∧
    w.cell? ⟨b, off + j * 5 + 3, none⟩ = some (.slice x.ba x.bl x.bc) ∧ w.cell? ⟨b, off + j * 5 + 4, none⟩ = some (.slice x.sa x.sl x.sc)
theorem cell_below {w w' : World} (hB : Below w.heap.size w w') {p : Addr} {v : Value} (h : w.cell? p = some v) : w'.cell? p = some v := by
  rw [hB.cell (World.block_lt_of_cell? w _ h)]; exact h
theorem Ops.below {w w' : World} {a : Option Addr} {len : Nat} {xs : List OpV} (h : Ops w a len xs) (hB : Below w.heap.size w w') : Ops w' a len xs :=
  ⟨h.1, fun j x hx => by
    obtain ⟨h1, h2, h3, b, off, e, c0, c1, c2, c3, c4⟩ := h.2 j x hx
    exact ⟨h1, h2, h3, b, off, e, cell_below hB c0, cell_below hB c1, cell_below hB c2, cell_below hB c3, cell_below hB c4⟩⟩

def opc (k : (Nat × List UInt8) × Value) : List Value := [.int .i64 0, .int .i64 k.1.1, .int .i64 0, k.2, .slice none 0 0]
/-- The slice v has the writes L, each with its bytes. -/
def LO (w : World) (base : Nat) (v : Value) (L : List (Nat × List UInt8)) : Prop :=
  ∃ K : List ((Nat × List UInt8) × Value), K.map (·.1) = L ∧ (∀ k ∈ K, Byt w k.2 k.1.2) ∧ w.ownsRow base 38 5 v L.length ((K.map opc).flatten)
theorem LO.nil (w : World) (base : Nat) : LO w base (.slice none 0 0) [] := ⟨[], rfl, by simp, World.ownsRow_nil _ _ _ _⟩
theorem owns_fr {X : List Nat} {w w' : World} {B : Nat} {e : TypeId} {size : Nat} {v : Value} {n : Nat} {xs : List Value} (h : w.ownsRow B e size v n xs) (hF : Fr X w w') (hX : ∀ g c, w.heap[g]? = some (.cells c e (0, 0)) → g ∉ X) : w'.ownsRow B e size v n xs := by
  obtain ⟨h1, h2⟩ := h
  refine ⟨h1, ?_⟩
  rcases h2 with h2 | ⟨g, cap, cur, rfl, hb, hg, r⟩
  · exact .inl h2
  · exact .inr ⟨g, cap, cur, rfl, hb, hF.at hg (hX g _ hg), r⟩
theorem LO.disk {w w' : World} {base : Nat} {v : Value} {L : List (Nat × List UInt8)} {p : Nat} {X : List Nat} {s : DS} (h : LO w base v L) (hD : Disk w p X s) (hF : Fr X w w') : LO w' base v L := by
  obtain ⟨K, h1, h2, h3⟩ := h
  exact ⟨K, h1, fun k hk => (h2 k hk).fr hF (fun g c hg => hD.other hg (by decide) (by decide)), owns_fr h3 hF (fun g c hg => hD.other hg (by decide) (by decide))⟩
theorem LO.below {w w' : World} {base : Nat} {v : Value} {L : List (Nat × List UInt8)} (h : LO w base v L) (hB : Below w.heap.size w w') : LO w' base v L := by
  obtain ⟨K, h1, h2, h3⟩ := h
  exact ⟨K, h1, fun k hk => (h2 k hk).below hB, owns_fr h3 (Fr.of_below (X := []) hB) (by simp)⟩

theorem grown_fr {w w' : World} {row : Option Nat} (h : w.grownBy w' row) : Fr row.toList w w' :=
  ⟨h.os, h.tape, h.output, h.size, fun k hk hX => h.block k hk (fun e => hX (by rw [← e]; simp))⟩
theorem own_type {w : World} {B : Nat} {e : TypeId} {size : Nat} {v : Value} {n : Nat} {xs : List Value} (h : w.ownsRow B e size v n xs) : ∀ g ∈ v.ownBlock.toList, ∃ c, w.heap[g]? = some (.cells c e (0, 0)) := by
  intro g hg
  rcases h.2 with ⟨rfl, _⟩ | ⟨g', cap, cur, rfl, hb, hg', r⟩
  · simp [Value.ownBlock] at hg
  · simp [Value.ownBlock] at hg; subst hg; exact ⟨cur, hg'⟩
theorem opcs_len (K : List ((Nat × List UInt8) × Value)) : (K.map opc).flatten.length = K.length * 5 := by
  induction K with
  | nil => rfl
  | cons k r ih => simp only [List.map_cons, List.flatten_cons, List.length_append, ih, List.length_cons]; simp [opc]; omega

theorem info38 : (Try.prog.info? 38).map (fun i => (i.zero, i.size, i.bytes)) = some (some (.agg #[.int .i64 0, .int .i64 0, .int .i64 0, .slice none 0 0, .slice none 0 0]), 5, 72) := by kernel_rfl

set_option maxRecDepth 100000 in
set_option maxHeartbeats 4000000 in
theorem plays_any (w : World) (a : Option Addr) (len cap : Nat) (xs : List OpV) (hs : Ops w a len xs) (hlen : len ≤ 9223372036854775807) :
    Calls Try.prog 14 #[.int .i64 8, .slice a len cap] w fun e w' => ∃ p X s v, e = .returned (.tuple #[.pointer (some ⟨p, 0, none⟩), v, .bool true]) ∧
      Disk w' p X s ∧ s.n = 8 ∧ s.cut = -1 ∧ s.gone = false ∧ s.ops ≤ 100 ∧ (∀ k ∈ X, w.heap.size ≤ k) ∧ LO w' w.heap.size v s.loose ∧ Below w.heap.size w w' := by
  obtain ⟨i0, hi, hz0, hz1, hz2⟩ := info_parts info38
  have HS := hid hs
  clear hs
  go_enter Try.func14, Try.ntmps14
  go_wp2_with fail
  refine (new_d w 8 (by omega) (by omega)).mono ?_
  rintro e w1 ⟨p, X, rfl, hD, hX, hB⟩
  have HD := hid hD
  have HX := hid hX
  have HB := hid hB
  clear hD hX hB
  go_upto_region 6 with fail
  go_loopw [9, 10, 11, 12, 13, 14] (fun v x _ _ _ _ wr => ∃ (k : Nat) (X : List Nat) (s : DS), k ≤ len ∧ k ≤ 100 ∧ x = .int .i64 k ∧ Disk wr p X s ∧ s.n = 8 ∧ s.cut = -1 ∧ s.gone = false ∧ s.ops ≤ k ∧ (∀ k ∈ X, w.heap.size ≤ k) ∧ LO wr w.heap.size v s.loose ∧ Below w.heap.size w wr) (fun _ x _ _ _ _ _ => 100 - (intOf x).toNat)
  case atStart => exact ⟨0, X, DS.new 8, by omega, by omega, rfl, HD.out, rfl, rfl, rfl, Int.le_refl _, HX.out, LO.nil _ _, HB.out⟩
  case round =>
    obtain ⟨k, Xr, s, hk, hk1, rfl, hDr, hn, hcut, hgone, hops, hXr, hLO, hBr⟩ := hrel
    have hok := hDr.ok
    have hops0 := hok.o0
    have hlo : lost s.cut s.ops = false := by rw [hcut]; exact lost_neg _
    have hwk : wrap64 ((k : Int) + 1) = ((k + 1 : Nat) : Int) := by unfold wrap64; omega
    by_cases hlt : k < len
    · have hlt' : decide ((k : Int) < (len : Int)) = true := decide_eq_true (by omega)
      by_cases hlt2 : k < 100
      · have hlt2' : decide ((k : Int) < 100) = true := decide_eq_true (by omega)
        have hmes : 100 - ((k + 1 : Nat) : Int).toNat < 100 - (k : Int).toNat := by omega
        obtain ⟨x, hx⟩ : ∃ x, xs[k]? = some x := ⟨_, List.getElem?_eq_getElem (by rw [HS.out.1]; exact hlt)⟩
        obtain ⟨b1, b2, b3, b, off, rfl, c0, c1, c2, c3, c4⟩ := HS.out.2 k x hx
        have q0 := hBr.cell (p := ⟨b, off + k * 5, none⟩) (World.block_lt_of_cell? w _ c0) |>.trans c0
        have q1 := hBr.cell (p := ⟨b, off + k * 5 + 1, none⟩) (World.block_lt_of_cell? w _ c1) |>.trans c1
        have q2 := hBr.cell (p := ⟨b, off + k * 5 + 2, none⟩) (World.block_lt_of_cell? w _ c2) |>.trans c2
        have q3 := hBr.cell (p := ⟨b, off + k * 5 + 3, none⟩) (World.block_lt_of_cell? w _ c3) |>.trans c3
        have q4 := hBr.cell (p := ⟨b, off + k * 5 + 4, none⟩) (World.block_lt_of_cell? w _ c4) |>.trans c4
        have HH := hid (And.intro hDr (And.intro hXr (And.intro hLO hBr)))
        clear hDr hXr hLO hBr c0 c1 c2 c3 c4 hok
        go_wp2_with fail
        have hBa : Below wr.heap.size wr (wr.alloc (.cells #[.int .i64 x.kind, .int .i64 x.at_, .int .i64 x.nn, .slice x.ba x.bl x.bc, .slice x.sa x.sl x.sc] 38)) := (Below.refl _ _).alloc (Nat.le_refl _) _
        have hg0 := cell_at (heap_alloc_last wr (.cells #[.int .i64 x.kind, .int .i64 x.at_, .int .i64 x.nn, .slice x.ba x.bl x.bc, .slice x.sa x.sl x.sc] 38)) 0 rfl
        have hg1 := cell_at (heap_alloc_last wr (.cells #[.int .i64 x.kind, .int .i64 x.at_, .int .i64 x.nn, .slice x.ba x.bl x.bc, .slice x.sa x.sl x.sc] 38)) 1 rfl
        obtain ⟨hDr, hXr, hLO, hBr⟩ := HH.out
        have hDq := hDr.below hBa
        have hLq := hLO.below hBa
        have hBq := Below.next hBr hBa
        have hor : wr.heap.size < (wr.alloc (.cells #[.int .i64 x.kind, .int .i64 x.at_, .int .i64 x.nn, .slice x.ba x.bl x.bc, .slice x.sa x.sl x.sc] 38)).heap.size := by simp
        clear HH q0 q1 q2 q3 q4 hDr hLO hBr hBa
        generalize wr.heap.size = o at *
        generalize wr.alloc (.cells #[.int .i64 x.kind, .int .i64 x.at_, .int .i64 x.nn, .slice x.ba x.bl x.bc, .slice x.sa x.sl x.sc] 38) = wq at *
        refine (pick_any x.kind 4 b1.1 b1.2 (by omega) wq).mono ?_
        rintro e wq ⟨rfl, rfl⟩
        by_cases hz : pk x.kind 4 = 0
        · rw [hz]
          have HH := hid (And.intro hDq (And.intro hXr (And.intro hLq hBq)))
          clear hDq hXr hLq hBq
          go_wp2_with fail
          refine (flush_d HH.out.1).mono ?_
          rintro e w3 ⟨rfl, X3, hD3, hX3, hF3⟩
          rw [DS.fl_ok hlo (by omega)] at hD3 ⊢
          have hBw : Below w.heap.size w w3 := HH.out.2.2.2.trans (hF3.below HH.out.2.2.2.size HH.out.2.1)
          have hXw : ∀ k ∈ X3, w.heap.size ≤ k := fun k hk => by rcases hX3 k hk with h | h; exact HH.out.2.1 k h; exact Nat.le_trans HH.out.2.2.2.size h
          have HH3 := hid (And.intro hD3 (And.intro hXw hBw))
          clear hD3 hX3 hF3 hBw hXw HH
          go_wp2
          go_roundw
          case rel => exact ⟨k + 1, X3, _, hlt, by omega, rfl, HH3.out.1, hn, hcut, rfl, by show s.ops + 1 ≤ ((k + 1 : Nat) : Int); omega, HH3.out.2.1, LO.nil _ _, HH3.out.2.2⟩
          case measure => exact hmes
        · have hzb : (((pk x.kind 4 : Nat) : Int) == 0) = false := by rw [beq_eq_false_iff_ne]; omega
          generalize ((pk x.kind 4 : Nat) : Int) = z4 at *
          have HH := hid (And.intro hDq (And.intro hXr (And.intro hLq hBq)))
          have hg1' : wq.cell? ⟨o, 1, none⟩ = some (.int .i64 x.at_) := hg1
          clear hDq hXr hLq hBq hg0 hg1 hz
          go_wp2_with fail
          refine (pick_any x.at_ 8 b2.1 b2.2 (by omega) wq).mono ?_
          rintro e wq ⟨rfl, rfl⟩
          have hi8 := pk_lt x.at_ (show (8 : Nat) ≠ 0 by omega)
          generalize pk x.at_ 8 = i at *
          go_wp2_with fail
          refine (of_int ((k : Int) + 1) (by omega) (by omega) wq).mono ?_
          generalize List.replicate 128 (UInt8.ofNat ((k : Int) + 1).toNat) = l
          rintro e w3 ⟨rfl, hbt, hB3⟩
          have hl : l.length = 128 := by obtain ⟨_, _, h, _⟩ := hbt; exact h
          have HH3 := hid (And.intro (HH.out.1.below hB3) (And.intro HH.out.2.1 (And.intro (HH.out.2.2.1.below hB3) (And.intro (Below.next HH.out.2.2.2 hB3) hbt))))
          clear HH hg1' hor hB3 hbt
          generalize wq.heap.size = g at *
          go_wp2_with fail
          have hB4 : Below w3.heap.size w3 (w3.alloc (.cells #[.int .i64 0, .int .i64 i, .int .i64 0, .slice (some ⟨g, 0, none⟩) 128 128, .slice none 0 0] 38)) := (Below.refl _ _).alloc (Nat.le_refl _) _
          have hg4 := heap_alloc_last w3 (.cells #[.int .i64 0, .int .i64 i, .int .i64 0, .slice (some ⟨g, 0, none⟩) 128 128, .slice none 0 0] 38)
          obtain ⟨hD3, hX3, hL3, hBw3, hbt3⟩ := HH3.out
          have hD4 := hD3.below hB4
          have hL4 := hL3.below hB4
          have hBw4 := Below.next hBw3 hB4
          have hbt4 := hbt3.below hB4
          clear HH3 hD3 hL3 hBw3 hbt3 hB4
          generalize w3.heap.size = o2 at *
          generalize w3.alloc (.cells #[.int .i64 0, .int .i64 i, .int .i64 0, .slice (some ⟨g, 0, none⟩) 128 128, .slice none 0 0] 38) = w4 at *
          refine (write_d hD4 i hbt4.sl).mono ?_
          rintro e w5 ⟨rfl, hD5, hF5⟩
          rw [DS.wr_ok hlo (by rw [hn]; exact hi8) hl (by omega)] at hD5 ⊢
          have hL5 := hL4.disk hD4 hF5
          have hbt5 := hbt4.fr hF5 (fun g c hg => hD4.other hg (by decide) (by decide))
          have hg5 := hF5.at hg4 (hD4.other hg4 (by decide) (by decide))
          have hBw5 : Below w.heap.size w w5 := hBw4.trans (hF5.below hBw4.size hX3)
          have HH5 := hid (And.intro hD5 (And.intro hX3 (And.intro hL5 (And.intro hBw5 (And.intro hbt5 hg5)))))
          have c0 := cell_at hg5 0 rfl
          have c1 := cell_at hg5 1 rfl
          have c2 := cell_at hg5 2 rfl
          have c3 := cell_at hg5 3 rfl
          have c4 := cell_at hg5 4 rfl
          clear hD5 hX3 hL5 hBw5 hbt5 hg5 hD4 hL4 hBw4 hbt4 hg4 hF5
          obtain ⟨K, hK1, hK2, hK3⟩ := HH5.out.2.2.1
          have HK3 := hid (hK3.alloc (.cells #[.int .i64 0, .int .i64 i, .int .i64 0, .slice (some ⟨g, 0, none⟩) 128 128, .slice none 0 0] 38))
          have hKl : K.length = s.loose.length := by rw [← hK1]; simp
          have hfew := HH5.out.1.ok.few
          have hfew' : (s.loose.length : Int) + 1 ≤ s.ops + 1 := by simpa using hfew
          have hB6 : Below w5.heap.size w5 (w5.alloc (.cells #[.int .i64 0, .int .i64 i, .int .i64 0, .slice (some ⟨g, 0, none⟩) 128 128, .slice none 0 0] 38)) := (Below.refl _ _).alloc (Nat.le_refl _) _
          have HB6 := hid hB6
          have HK2 := hid hK2
          have hBs := HH5.out.2.2.2.1.size
          clear hK3 hfew hB6 hK2
          go_wp2_with (at_builtin; refine wpList_append_own _ rfl _ _ 22 rfl w.heap.size 38 i0 (.agg #[.int .i64 0, .int .i64 0, .int .i64 0, .slice none 0 0, .slice none 0 0]) 5 72 Try.underlying22 hi hz0 hz1 hz2 rfl (by decide) _ _ _ rfl HK3.out ⟨w5.heap.size, 0, none⟩ 1 1 (opc ((i, l), .slice (some ⟨g, 0, none⟩) 128 128)) rfl rfl ?qc2 ?qc3 ?qc4 ?qc5 ?qc6 ?_)
          case qc2 =>
            intro j u hj
            rw [Addr.add_lit, Nat.zero_add]
            exact cell_at (heap_alloc_last w5 _) j (by simpa [opc] using hj)
          case qc3 => intro u hu; simp only [opc, List.mem_cons, List.not_mem_nil, or_false] at hu; rcases hu with rfl | rfl | rfl | rfl | rfl <;> rfl
          case qc4 => unfold maxLen; omega
          case qc5 => omega
          case qc6 => simp; omega
          intro v7 w7 hown7 hgrow7 _
          have hF7 := grown_fr hgrow7
          have htyp := own_type HK3.out
          have hD6 := HH5.out.1.below HB6.out
          have hD7 := hD6.fr hF7 (fun k hk hk2 => by obtain ⟨c, hc⟩ := htyp k hk2; exact hD6.other hc (by decide) (by decide) hk)
          have hbt : ∀ v l, Byt w5 v l → Byt w7 v l := fun v l h => (h.below HB6.out).fr hF7 (fun g c hg hk2 => by obtain ⟨c', hc⟩ := htyp g hk2; rw [hg] at hc; cases hc)
          have hBw7 : Below w.heap.size w w7 := (Below.next HH5.out.2.2.2.1 HB6.out).trans (hF7.below (by have := HB6.out.size; omega) (fun k hk => by
            rcases HK3.out.2 with ⟨e, _⟩ | ⟨g', cap', cur, e, hb, _⟩
            · rw [e] at hk; simp [Value.ownBlock] at hk
            · rw [e] at hk; simp [Value.ownBlock] at hk; subst hk; exact hb))
          have hL7 : LO w7 w.heap.size v7 (s.loose ++ [(i, l)]) := by
            refine ⟨K ++ [((i, l), .slice (some ⟨g, 0, none⟩) 128 128)], by simp [hK1], ?_, ?_⟩
            · intro k hk
              rcases List.mem_append.1 hk with hk | hk
              · exact hbt _ _ (HK2.out k hk)
              · obtain rfl : k = ((i, l), .slice (some ⟨g, 0, none⟩) 128 128) := by simpa using hk
                exact hbt _ _ HH5.out.2.2.2.2.1
            · simpa using hown7
          have HH7 := hid (And.intro hD7 (And.intro hBw7 hL7))
          have HX7 := hid HH5.out.2.1
          clear hD7 hBw7 hL7 hown7 hgrow7 hF7 htyp hD6 hbt HH5 HK3 HK2 HB6
          go_wp2
          go_roundw
          case rel => exact ⟨k + 1, Xr, _, hlt, by omega, rfl, HH7.out.1, hn, hcut, rfl, by show s.ops + 1 ≤ ((k + 1 : Nat) : Int); omega, HX7.out, HH7.out.2.2, HH7.out.2.1⟩
          case measure => exact hmes
      · have hlt2' : decide ((k : Int) < 100) = false := decide_eq_false (by omega)
        have HH := hid (And.intro hDr (And.intro hXr (And.intro hLO hBr)))
        clear hDr hXr hLO hBr hok
        go_wp2
        go_ret3
        exact ⟨p, Xr, s, u9, rfl, HH.out.1, hn, hcut, hgone, by omega, HH.out.2.1, HH.out.2.2.1, HH.out.2.2.2⟩
    · have hlt' : decide ((k : Int) < (len : Int)) = false := decide_eq_false (by omega)
      have HH := hid (And.intro hDr (And.intro hXr (And.intro hLO hBr)))
      clear hDr hXr hLO hBr hok
      go_wp2
      go_ret3
      exact ⟨p, Xr, s, u9, rfl, HH.out.1, hn, hcut, hgone, by omega, HH.out.2.1, HH.out.2.2.1, HH.out.2.2.2⟩
end Go.Proofs.Ytkfomolglangdaa
