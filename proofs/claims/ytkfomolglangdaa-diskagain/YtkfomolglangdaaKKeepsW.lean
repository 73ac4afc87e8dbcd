/- The walk of DiskKeeps. -/
import Derived.Test.YtkfomolglangdaaKKeepsM
import Derived.Test.YtkfomolglangdaaKOffW
namespace Go.Proofs.Ytkfomolglangdaa
open Go Go.RowKit

theorem inc_ok {k : Nat} (h : k ≤ 9223372036854775806) : IntKind.i64.wrap ((k : Int) + 1) = ((k + 1 : Nat) : Int) := by
  rw [IntWalk.i64_in _ ⟨by omega, by omega⟩]; omega
theorem contains_take (zs : List Int) (k : Nat) (z m : Int) (hz : zs[k]? = some z) : (zs.take (k + 1)).contains m = ((zs.take k).contains m || z == m) := by
  rw [List.take_add_one, hz]
  simp only [Option.toList_some, List.contains_append, List.contains_cons, List.contains_nil, Bool.or_false]
  congr 1
  exact Bool.beq_comm

set_option maxRecDepth 100000 in
set_option maxHeartbeats 8000000 in
theorem diskKeeps_walk (a0 : Option Addr) (len0 cap0 : Nat) (xs : List OpV) (a1 : Option Addr) (len1 cap1 : Nat) (z1 : List Int) (w : World)
    (hs : Ops w a0 len0 xs) (hl0 : len0 ≤ 9223372036854775807) (hI1 : Ints w.heap.size w a1 len1 z1) (_hz1 : ∀ z ∈ z1, i64 z) (h1 : len1 * 8 ≤ 140737488351232) :
    Calls Try.prog 4 #[.slice a0 len0 cap0, .slice a1 len1 cap1] w fun e w' => e = .returned (.bool true) ∧ Below w.heap.size w w' := by
  obtain ⟨i0, hi, hz0, hz1, hz2⟩ := info_parts info3
  have HS := hid hs
  have HI1 := hid hI1
  clear hs hI1
  go_enter Try.func4, Try.ntmps4
  go_wp2_with fail
  refine (shown_any w).mono ?_
  rintro e w1 ⟨rfl, hB1⟩
  have HB1 := hid hB1
  clear hB1
  go_wp2_with fail
  refine (plays_any w1 a0 len0 cap0 xs (HS.out.below HB1.out) hl0).mono ?_
  rintro e w2 ⟨p, X, s, v2, rfl, hD, hn, hcut, hgone, hops, hX, hLO, hB2⟩
  obtain ⟨av, cv, rfl⟩ := hLO.shape
  have hfew := hD.ok.few
  have hlen100 : s.loose.length ≤ 100 := by omega
  have hnl : s.now.length = 8 := by rw [hD.ok.nowLen, hn]
  have hkl : s.kept.length = 8 := by rw [hD.ok.keptLen, hn]
  have hsame := hD.ok.same
  have HD := hid hD
  have HL := hid hLO
  have HB := hid (Below.next HB1.out hB2)
  have hbase := HB1.out.size
  clear hD hX hB2 HB1 HS hLO hfew hops
  go_wp2_with fail
  refine (loose_d HD.out).mono ?_
  rintro e w2 ⟨rfl, rfl⟩
  go_upto_region 7 with fail
  go_loopw [9, 10] (fun v x wr => ∃ k : Nat, k ≤ s.loose.length ∧ x = .int .i64 k ∧ wr.ownsRow w.heap.size 3 1 v k ((alls k).map (Value.int .i64)) ∧ Disk wr p X s ∧ LO wr w1.heap.size (.slice av s.loose.length cv) s.loose ∧ Below w.heap.size w wr) (fun _ x _ => s.loose.length - (intOf x).toNat)
  case atStart => exact ⟨0, by omega, rfl, World.ownsRow_nil _ _ _ _, HD.out, HL.out, HB.out⟩
  case round =>
    obtain ⟨k, hk, rfl, hWr, hDr, hLr, hBr⟩ := hrel
    have HWk := hid (inc_ok (k := k) (by omega))
    by_cases hlt : k < s.loose.length
    · have hlt' : (k : Int) < (s.loose.length : Int) := by omega
      have hmes : s.loose.length - ((k + 1 : Nat) : Int).toNat < s.loose.length - (k : Int).toNat := by omega
      have HW3 := hid (hWr.alloc (.cells #[.int .i64 k] 3))
      have HH3 := hid (And.intro hDr (And.intro hLr hBr))
      have hsz3 := hBr.size
      clear hWr hDr hLr hBr
      go_wp2_with (at_builtin; refine wpList_append_own _ rfl _ _ 36 rfl w.heap.size 3 i0 (.int .i64 0) 1 8 Try.underlying36 hi hz0 hz1 hz2 rfl (by decide) _ _ _ rfl HW3.out ⟨wr.heap.size, 0, none⟩ 1 1 [.int .i64 k] rfl rfl ?qc2 ?qc3 ?qc4 ?qc5 ?qc6 ?_)
      case qc2 =>
        intro j u hj
        rw [Addr.add_lit, Nat.zero_add]
        exact cell_at (heap_alloc_last wr _) j (by simpa using hj)
      case qc3 => intro u hu; simp only [List.mem_cons, List.not_mem_nil, or_false] at hu; subst hu; rfl
      case qc4 => unfold maxLen; omega
      case qc5 => omega
      case qc6 => simp; omega
      intro v7 w7 hown7 hgrow7 _
      have hF7 := grown_fr hgrow7
      have htyp := own_type HW3.out
      have hB4 : Below wr.heap.size wr (wr.alloc (.cells #[.int .i64 k] 3)) := (Below.refl _ _).alloc (Nat.le_refl _) _
      have hD4 := HH3.out.1.below hB4
      have hL4 := HH3.out.2.1.below hB4
      have hD7 := hD4.fr hF7 (fun k hk hk2 => by obtain ⟨c, hc⟩ := htyp k hk2; exact hD4.other hc (by decide) (by decide) hk)
      have hL7 : LO w7 w1.heap.size (.slice av s.loose.length cv) s.loose := by
        obtain ⟨K, k1, k2, k3⟩ := hL4
        exact ⟨K, k1, fun k hk => (k2 k hk).fr hF7 (fun g c hg hk2 => by obtain ⟨c', hc⟩ := htyp g hk2; rw [hg] at hc; cases hc), owns_fr k3 hF7 (fun g c hg hk2 => by obtain ⟨c', hc⟩ := htyp g hk2; rw [hg] at hc; cases hc)⟩
      have hB7 : Below w.heap.size w w7 := (Below.next HH3.out.2.2 hB4).trans (hF7.below (by simp; omega) (fun k hk => by
        rcases HW3.out.2 with ⟨e, _⟩ | ⟨g', cap', cur, e, hb, _⟩
        · rw [e] at hk; simp [Value.ownBlock] at hk
        · rw [e] at hk; simp [Value.ownBlock] at hk; subst hk; exact hb))
      have hW7 : w7.ownsRow w.heap.size 3 1 v7 (k + 1) ((alls (k + 1)).map (Value.int .i64)) := by
        rw [alls_succ]; simpa using hown7
      have HH7 := hid (And.intro hW7 (And.intro hD7 (And.intro hL7 hB7)))
      clear hF7 htyp hB4 hD4 hD7 hB7 hW7 hL4 hL7 hown7 hgrow7 HH3 HW3
      go_upto_region 8 with fail
      refine wp_region_lit ?_
      refine wp_move (v := .int .i64 k) (by kernel_rfl) ?_
      refine wp_addi (z := ((k + 1 : Nat) : Int)) (by kernel_rfl) (by kernel_rfl) HWk.out ?_
      refine wp_assign (v := .int .i64 (k + 1 : Nat)) (by kernel_rfl) ?_
      dsimp only [Act.put]
      simp only [List.setIfInBounds_toArray, List.set_cons_zero, List.set_cons_succ]
      refine wp_end ?_
      go_wp2_with fail
      go_roundw
      case rel => exact ⟨k + 1, hlt, rfl, HH7.out.1, HH7.out.2.1, HH7.out.2.2.1, HH7.out.2.2.2⟩
      case measure => exact hmes
    · obtain rfl : k = s.loose.length := by omega
      have hlt' : ¬ (s.loose.length : Int) < (s.loose.length : Int) := by omega
      obtain ⟨aa, ca, rfl, hIa⟩ := ints_of_owns (alls_len _) hWr
      have HA := hid hIa
      have HD2 := hid hDr
      have HL2 := hid hLr
      have HB2 := hid hBr
      clear hWr hIa hDr hLr hBr HD HL HB HWk hlt
      go_wp2_with fail
      refine (crash_d HD2.out (ints_later HI1.out HB2.out) h1).mono ?_
      rintro e w3 ⟨p1, X1, rfl, hD1, _, hB3⟩
      have HD1 := hid hD1
      have HD3 := hid (HD2.out.below hB3)
      have HL3 := hid (HL2.out.below hB3)
      have HA3 := hid (ints_later HA.out hB3)
      have HB3 := hid (Below.next HB2.out hB3)
      clear hD1 hB3 HD2 HL2 HA HB2
      go_wp2_with fail
      refine (crash_d HD3.out (a := none) (len := 0) (cp := 0) (zs := []) ⟨rfl, fun h => absurd rfl h⟩ (by omega)).mono ?_
      rintro e w4 ⟨p2, X2, rfl, hD2, _, hB4⟩
      have HN4 := hid hD2
      have HS4 := hid (HD1.out.below hB4)
      have HD4 := hid (HD3.out.below hB4)
      have HL4 := hid (HL3.out.below hB4)
      have HA4 := hid (ints_later HA3.out hB4)
      have HB4 := hid (Below.next HB3.out hB4)
      clear hD2 hB4 HD1 HD3 HL3 HA3 HB3
      go_wp2_with fail
      refine (crash_d HD4.out HA4.out (by omega)).mono ?_
      rintro e w5 ⟨p3, X3, rfl, hD3, _, hB5⟩
      have HZ := hid (And.intro (HD4.out.below hB5) (And.intro (HS4.out.below hB5) (And.intro (HN4.out.below hB5) (And.intro hD3 (And.intro (HL4.out.below hB5) (Below.next HB4.out hB5))))))
      clear hD3 hB5 HN4 HS4 HD4 HL4 HA4 HB4
      go_upto_region 16 with fail
      go_loopw [14, 15, 16, 17, 18, 19, 20, 21, 22, 23, 24, 25, 26] (fun x _ _ _ _ _ _ _ _ _ _ _ _ wr => ∃ t : Nat, t ≤ 8 ∧ x = .int .i64 t ∧ Disk wr p X s ∧ Disk wr p1 X1 (s.cr z1) ∧ Disk wr p2 X2 (s.cr []) ∧ Disk wr p3 X3 (s.cr (alls s.loose.length)) ∧ LO wr w1.heap.size (.slice av s.loose.length cv) s.loose ∧ Below w.heap.size w wr) (fun x _ _ _ _ _ _ _ _ _ _ _ _ _ => 8 - (intOf x).toNat)
      case atStart => exact ⟨0, by omega, rfl, HZ.out.1, HZ.out.2.1, HZ.out.2.2.1, HZ.out.2.2.2.1, HZ.out.2.2.2.2.1, HZ.out.2.2.2.2.2⟩
      case round =>
        obtain ⟨t, ht, rfl, hD, hD1, hD2, hD3, hL, hB⟩ := hrel
        have HWt := hid (inc_ok (k := t) (by omega))
        by_cases ht8 : t < 8
        · have ht8' : (t : Int) < 8 := by omega
          have hmest : 8 - ((t + 1 : Nat) : Int).toNat < 8 - (t : Int).toNat := by omega
          obtain ⟨k0, hk0⟩ : ∃ k0, s.kept[t]? = some k0 := ⟨_, List.getElem?_eq_getElem (by omega)⟩
          obtain ⟨n0, hn0⟩ : ∃ n0, s.now[t]? = some n0 := ⟨_, List.getElem?_eq_getElem (by omega)⟩
          have hk128 := hD.ok.lens k0 (List.mem_of_getElem? hk0)
          have hn128 := hD.ok.nowLens n0 (List.mem_of_getElem? hn0)
          have hnone : (s.cr []).now[t]? = some k0 := by show (crashed _ _ _)[t]? = _; rw [crashed_nil]; exact hk0
          have hfull : (s.cr (alls s.loose.length)).now[t]? = some n0 := by show (crashed _ _ _)[t]? = _; rw [crashed_alls, ← hsame]; exact hn0
          obtain ⟨vs, hsome, hlast⟩ := crashed_last (L := s.loose) hk0 z1
          have hs128 := hD1.ok.nowLens vs (List.mem_of_getElem? hsome)
          have hsome' : (s.cr z1).now[t]? = some vs := hsome
          have HH := hid (And.intro hD (And.intro hD1 (And.intro hD2 (And.intro hD3 (And.intro hL hB)))))
          clear hD hD1 hD2 hD3 hL hB hsome
          go_wp2_with fail
          refine (read_d HH.out.2.2.1 rfl t k0 hnone).mono ?_
          rintro e W ⟨rfl, hW⟩
          have hBW : Below wr.heap.size wr W := by rw [hW]; exact (Below.refl _ _).alloc (Nat.le_refl _) _
          have hSW : Sl W (.slice (some ⟨wr.heap.size, 0, none⟩) 128 128) k0 := by rw [hW]; exact alloc_sl wr k0 hk128 _
          have HK := hid (And.intro (HH.out.1.below hBW) (And.intro (HH.out.2.1.below hBW) (And.intro (HH.out.2.2.1.below hBW) (And.intro (HH.out.2.2.2.1.below hBW) (And.intro (HH.out.2.2.2.2.1.below hBW) (Below.next HH.out.2.2.2.2.2 hBW))))))
          have HSW := hid hSW
          clear HH hBW hW hSW
          generalize Value.slice (some ⟨wr.heap.size, 0, none⟩) 128 128 = vw at *
          go_upto_region 21 with fail
          go_loopw [17, 18, 19, 20] (fun vq x _ _ wr => ∃ (m : Nat) (v : List UInt8), m ≤ s.loose.length ∧ x = .int .i64 m ∧ Sl W vq v ∧ LastM s.loose t k0 z1 m v ∧ wr = W) (fun _ x _ _ _ => s.loose.length - (intOf x).toNat)
          case atStart => exact ⟨0, k0, by omega, rfl, HSW.out, LastM.start _ _ _ _, rfl⟩
          case round =>
            obtain ⟨m, v, hm, rfl, hv, hlm, rfl⟩ := hrel
            have HWm := hid (inc_ok (k := m) (by omega))
            by_cases hml : m < s.loose.length
            · have hml' : (m : Int) < (s.loose.length : Int) := by omega
              have hmesm : s.loose.length - ((m + 1 : Nat) : Int).toNat < s.loose.length - (m : Int).toNat := by omega
              obtain ⟨x, hx⟩ : ∃ x, s.loose[m]? = some x := ⟨_, List.getElem?_eq_getElem hml⟩
              obtain ⟨g, cg, vb, hvs, c1, c3, hbt⟩ := HK.out.2.2.2.2.1.at hx
              cases hvs
              obtain ⟨gb, rfl, _, _⟩ := id hbt
              have HV := hid (And.intro hv (And.intro hlm hbt.sl))
              have HC := hid (And.intro c1 c3)
              clear hv hlm hbt c1 c3
              go_upto_region 25 with fail
              go_loopw [19, 20] (fun b y wr' => ∃ k : Nat, k ≤ len1 ∧ y = .int .i64 k ∧ b = .bool ((z1.take k).contains (m : Int)) ∧ wr' = wr) (fun _ y _ => len1 - (intOf y).toNat)
              case atStart => exact ⟨0, by omega, rfl, by simp, rfl⟩
              case round =>
                obtain ⟨k, hk, rfl, rfl, rfl⟩ := hrel
                have HWk := hid (inc_ok (k := k) (by omega))
                have hzl := HI1.out.1
                by_cases hkl1 : k < len1
                · have hkl1' : (k : Int) < (len1 : Int) := by omega
                  have hmesk : len1 - ((k + 1 : Nat) : Int).toNat < len1 - (k : Int).toNat := by omega
                  obtain ⟨z, hz⟩ : ∃ z, z1[k]? = some z := ⟨_, List.getElem?_eq_getElem (by omega)⟩
                  obtain ⟨bs, os, rfl, hbs, hcs⟩ := HI1.out.2 (by omega)
                  have hcx := cell_below HK.out.2.2.2.2.2 (hcs k (by omega))
                  rw [hz] at hcx
                  simp only [Option.getD_some] at hcx
                  have hct := contains_take z1 k z (m : Int) hz
                  have HCT := hid hct
                  clear hct hcs hz
                  generalize (z1.take k).contains (m : Int) = sb at *
                  cases sb with
                  | true =>
                    go_upto_region 26 with fail
                    refine wp_region_lit ?_
                    refine wp_move (v := .int .i64 k) (by kernel_rfl) ?_
                    refine wp_addi (z := ((k + 1 : Nat) : Int)) (by kernel_rfl) (by kernel_rfl) HWk.out ?_
                    refine wp_assign (v := .int .i64 (k + 1 : Nat)) (by kernel_rfl) ?_
                    dsimp only [Act.put]
                    simp only [List.setIfInBounds_toArray, List.set_cons_zero, List.set_cons_succ]
                    refine wp_end ?_
                    go_wp2_with fail
                    go_roundw
                    case rel => exact ⟨k + 1, hkl1, rfl, by rw [HCT.out]; rfl, trivial⟩
                    case measure => exact hmesk
                  | false =>
                    go_upto_region 26 with fail
                    refine wp_region_lit ?_
                    refine wp_move (v := .int .i64 k) (by kernel_rfl) ?_
                    refine wp_addi (z := ((k + 1 : Nat) : Int)) (by kernel_rfl) (by kernel_rfl) HWk.out ?_
                    refine wp_assign (v := .int .i64 (k + 1 : Nat)) (by kernel_rfl) ?_
                    dsimp only [Act.put]
                    simp only [List.setIfInBounds_toArray, List.set_cons_zero, List.set_cons_succ]
                    refine wp_end ?_
                    go_wp2_with fail
                    go_roundw
                    case rel => exact ⟨k + 1, hkl1, rfl, by rw [HCT.out, Bool.false_or], trivial⟩
                    case measure => exact hmesk
                · obtain rfl : k = len1 := by omega
                  have hkl1' : ¬ (k : Int) < (k : Int) := by omega
                  rw [show z1.take k = z1 from List.take_of_length_le (by omega)]
                  have hmiss : ¬ ((m : Int) ∈ z1 ∧ x.1 = t) → LastM s.loose t k0 z1 (m + 1) v := fun h => HV.out.2.1.miss hx h
                  have hcon : z1.contains (m : Int) = true ↔ (m : Int) ∈ z1 := by simp
                  generalize z1.contains (m : Int) = sb at *
                  clear HWk
                  cases sb with
                  | false =>
                    have hno : LastM s.loose t k0 z1 (m + 1) v := hmiss (fun h => by have := hcon.2 h.1; cases this)
                    have HNo := hid hno
                    clear hno hmiss hcon
                    go_upto_region 22 with fail
                    refine wp_region_lit ?_
                    refine wp_move (v := .int .i64 m) (by kernel_rfl) ?_
                    refine wp_addi (z := ((m + 1 : Nat) : Int)) (by kernel_rfl) (by kernel_rfl) HWm.out ?_
                    refine wp_assign (v := .int .i64 (m + 1 : Nat)) (by kernel_rfl) ?_
                    dsimp only [Act.put]
                    simp only [List.setIfInBounds_toArray, List.set_cons_zero, List.set_cons_succ]
                    refine wp_end ?_
                    go_wp2_with fail
                    go_roundw
                    case rel => exact ⟨m + 1, v, hml, rfl, HV.out.1, HNo.out, trivial⟩
                    case measure => exact hmesm
                  | true =>
                    have hin : (m : Int) ∈ z1 := hcon.1 rfl
                    have c1 := HC.out.1
                    have c3 := HC.out.2
                    by_cases hxt : x.1 = t
                    · have hxt' : ((x.1 : Int) == (t : Int)) = true := by rw [hxt]; simp
                      have HNo := hid (LastM.hit (k0 := k0) hx hin hxt)
                      rw [hxt] at c1
                      clear hmiss hcon
                      go_upto_region 22 with fail
                      refine wp_region_lit ?_
                      refine wp_move (v := .int .i64 m) (by kernel_rfl) ?_
                      refine wp_addi (z := ((m + 1 : Nat) : Int)) (by kernel_rfl) (by kernel_rfl) HWm.out ?_
                      refine wp_assign (v := .int .i64 (m + 1 : Nat)) (by kernel_rfl) ?_
                      dsimp only [Act.put]
                      simp only [List.setIfInBounds_toArray, List.set_cons_zero, List.set_cons_succ]
                      refine wp_end ?_
                      go_wp2_with fail
                      go_roundw
                      case rel => exact ⟨m + 1, x.2, hml, rfl, HV.out.2.2, HNo.out, trivial⟩
                      case measure => exact hmesm
                    · have hxt' : ((x.1 : Int) == (t : Int)) = false := by rw [beq_eq_false_iff_ne]; omega
                      have HNo := hid (hmiss (fun h => hxt h.2))
                      generalize (x.1 : Int) = xa at *
                      clear hmiss hcon
                      go_upto_region 22 with fail
                      refine wp_region_lit ?_
                      refine wp_move (v := .int .i64 m) (by kernel_rfl) ?_
                      refine wp_addi (z := ((m + 1 : Nat) : Int)) (by kernel_rfl) (by kernel_rfl) HWm.out ?_
                      refine wp_assign (v := .int .i64 (m + 1 : Nat)) (by kernel_rfl) ?_
                      dsimp only [Act.put]
                      simp only [List.setIfInBounds_toArray, List.set_cons_zero, List.set_cons_succ]
                      refine wp_end ?_
                      go_wp2_with fail
                      go_roundw
                      case rel => exact ⟨m + 1, v, hml, rfl, HV.out.1, HNo.out, trivial⟩
                      case measure => exact hmesm
            · obtain rfl : m = s.loose.length := by omega
              have hml' : ¬ (s.loose.length : Int) < (s.loose.length : Int) := by omega
              obtain rfl : v = vs := hlm.done.unique hlast
              have HVv := hid hv
              clear hv hlm hml
              go_wp2_with fail
              refine (read_d HK.out.2.1 rfl t v hsome').mono ?_
              rintro e w6 ⟨rfl, hw6⟩
              have hB6 : Below wr.heap.size wr w6 := by rw [hw6]; exact (Below.refl _ _).alloc (Nat.le_refl _) _
              have hS6 : Sl w6 (.slice (some ⟨wr.heap.size, 0, none⟩) 128 128) v := by rw [hw6]; exact alloc_sl wr v hs128 _
              have HK6 := hid (And.intro (HK.out.1.below hB6) (And.intro (HK.out.2.1.below hB6) (And.intro (HK.out.2.2.1.below hB6) (And.intro (HK.out.2.2.2.1.below hB6) (And.intro (HK.out.2.2.2.2.1.below hB6) (Below.next HK.out.2.2.2.2.2 hB6))))))
              have HG6 := hid (And.intro hS6 (HVv.out.below hB6))
              clear HK hB6 hS6 hw6 HVv
              generalize Value.slice (some ⟨wr.heap.size, 0, none⟩) 128 128 = vg at *
              go_wp2_with fail
              refine (read_d HK6.out.1 hgone t n0 hn0).mono ?_
              rintro e w7 ⟨rfl, hw7⟩
              have hB7 : Below w6.heap.size w6 w7 := by rw [hw7]; exact (Below.refl _ _).alloc (Nat.le_refl _) _
              have hS7 : Sl w7 (.slice (some ⟨w6.heap.size, 0, none⟩) 128 128) n0 := by rw [hw7]; exact alloc_sl w6 n0 hn128 _
              have HK7 := hid (And.intro (HK6.out.1.below hB7) (And.intro (HK6.out.2.1.below hB7) (And.intro (HK6.out.2.2.1.below hB7) (And.intro (HK6.out.2.2.2.1.below hB7) (And.intro (HK6.out.2.2.2.2.1.below hB7) (Below.next HK6.out.2.2.2.2.2 hB7))))))
              have HG7 := hid (And.intro (HG6.out.1.below hB7) (And.intro (HG6.out.2.below hB7) hS7))
              clear HK6 HG6 hB7 hS7 hw7
              generalize Value.slice (some ⟨w6.heap.size, 0, none⟩) 128 128 = vn at *
              go_wp2_with fail
              refine (read_d HK7.out.2.2.2.1 rfl t n0 hfull).mono ?_
              rintro e w8 ⟨rfl, hw8⟩
              have hB8 : Below w7.heap.size w7 w8 := by rw [hw8]; exact (Below.refl _ _).alloc (Nat.le_refl _) _
              have hS8 : Sl w8 (.slice (some ⟨w7.heap.size, 0, none⟩) 128 128) n0 := by rw [hw8]; exact alloc_sl w7 n0 hn128 _
              have HK8 := hid (And.intro (HK7.out.1.below hB8) (And.intro (HK7.out.2.1.below hB8) (And.intro (HK7.out.2.2.1.below hB8) (And.intro (HK7.out.2.2.2.1.below hB8) (And.intro (HK7.out.2.2.2.2.1.below hB8) (Below.next HK7.out.2.2.2.2.2 hB8))))))
              have cv1 := conv_sl (HG7.out.1.below hB8)
              have cv2 := conv_sl (HG7.out.2.1.below hB8)
              have cv3 := conv_sl (HG7.out.2.2.below hB8)
              have cv4 := conv_sl hS8
              clear HK7 HG7 hB8 hS8 hw8
              generalize Value.slice (some ⟨w7.heap.size, 0, none⟩) 128 128 = vo at *
              go_upto_region 17 with fail
              refine wp_region_lit ?_
              refine wp_move (v := .int .i64 t) (by kernel_rfl) ?_
              refine wp_addi (z := ((t + 1 : Nat) : Int)) (by kernel_rfl) (by kernel_rfl) HWt.out ?_
              refine wp_assign (v := .int .i64 (t + 1 : Nat)) (by kernel_rfl) ?_
              dsimp only [Act.put]
              simp only [List.setIfInBounds_toArray, List.set_cons_zero, List.set_cons_succ]
              refine wp_end ?_
              go_wp2_with fail
              go_roundw
              case rel => exact ⟨t + 1, ht8, rfl, HK8.out.1, HK8.out.2.1, HK8.out.2.2.1, HK8.out.2.2.2.1, HK8.out.2.2.2.2.1, HK8.out.2.2.2.2.2⟩
              case measure => exact hmest
        · obtain rfl : t = 8 := by omega
          have ht8' : ¬ ((8 : Nat) : Int) < 8 := by omega
          have HB8 := hid hB
          clear hD hD1 hD2 hD3 hL hB
          go_wp2
          go_ret
          exact ⟨rfl, HB8.out⟩
end Go.Proofs.Ytkfomolglangdaa
