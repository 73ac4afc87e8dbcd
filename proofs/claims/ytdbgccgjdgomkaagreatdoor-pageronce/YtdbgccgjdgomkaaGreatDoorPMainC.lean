/- The pager's methods that touch memory alone: Alloc, Free, Write, SetRoot, Abort. -/
import Derived.Test.YtdbgccgjdgomkaaGreatDoorPMethC
namespace Go.Proofs.YtdbgccgjdgomkaaGreatDoor
open Go Go.RowKit

theorem cell_same {w w' : World} {g o : Nat} {v : Value} (h : w'.heap[g]? = w.heap[g]?) (hc : w.cell? ⟨g, o, none⟩ = some v) : w'.cell? ⟨g, o, none⟩ = some v := by
  rw [← hc]
  unfold World.cell?
  simp only [h]
set_option maxRecDepth 100000 in
set_option maxHeartbeats 1000000 in
theorem alloc_full {w : World} {p j : Nat} {l : List Bool} {kl kr : Int} {bg : Bool} {lf rt : Int} {um bm : Option Nat} {u : Int → Option Bool} {g : Int → Option (List UInt8)} (h : PM w p j l kl kr bg lf rt um bm 0 u g) (hf : ∀ k, k < l.length → usf l u k = true) :
    Calls Tryz.prog 22 #[.pointer (some ⟨p, 0, none⟩)] w fun e w' => e = .returned (.tuple #[.int .i64 0, .int .i64 80]) ∧ w' = w := by
  have HR := hid (ready_any h.pg)
  have c1 := h.pg.c1
  have HU : Hid (∀ k, k < l.length → Calls Tryz.prog 59 #[.pointer (some ⟨p, 0, none⟩), .int .i64 k] w fun e w' => e = .returned (.int .u8 1) ∧ w' = w) := hid (fun k hk => by
    have h1 := useOf_any h k hk
    rw [hf k hk] at h1
    exact h1)
  have HN := hid h.pg.1
  generalize l.length = n at *
  clear h hf
  go_enter Tryz.func22, Tryz.ntmps22
  go_wp2_with fail
  refine HR.out.mono ?_
  rintro e w1 ⟨rfl, hw1⟩
  obtain rfl := hw1.symm
  clear HR
  go_wp2_with fail
  go_loopw [16, 5] (fun y _ wr => ∃ k : Nat, k ≤ n ∧ y = .int .i64 k ∧ wr = w) (fun y _ _ => n - (intOf y).toNat)
  case atStart => exact ⟨0, Nat.zero_le _, rfl, rfl⟩
  case round =>
    obtain ⟨k, hk, rfl, rfl⟩ := hrel
    have hnn := HN.out
    have hwk : IntKind.i64.wrap ((k : Int) + 1) = ((k + 1 : Nat) : Int) := by rw [IntWalk.i64_in _ ⟨by omega, by omega⟩]; omega
    by_cases hlt : k < n
    · have hlt' : (k : Int) < (n : Int) := by omega
      have HUK := hid (HU.out k hlt)
      have HK := hid hlt
      clear hk hlt hnn HU
      go_wp2_with fail
      refine HUK.out.mono ?_
      rintro e w1 ⟨rfl, hw1⟩
      obtain rfl := hw1.symm
      clear HUK
      go_wp2_with fail
      exact ⟨⟨k + 1, HK.out, rfl, trivial⟩, by have := HK.out; simp [intOf]; omega⟩
    · obtain rfl : k = n := by omega
      have hlt' : ¬ (k : Int) < (k : Int) := by omega
      clear hk hlt hnn HU
      go_wp2_with fail
      go_ret2
      exact ⟨rfl, rfl⟩
set_option maxRecDepth 100000 in
set_option maxHeartbeats 1000000 in
theorem alloc_at {w : World} {p j : Nat} {l : List Bool} {kl kr : Int} {bg : Bool} {lf rt : Int} {um bm : Option Nat} {u : Int → Option Bool} {g : Int → Option (List UInt8)} (h : PM w p j l kl kr bg lf rt um bm 0 u g) (q : Nat) (hq : q < l.length) (hf : usf l u q = false) (hb : ∀ k, k < q → usf l u k = true) (hl0 : 0 < lf) (hl1 : lf ≤ 100000) :
    Calls Tryz.prog 22 #[.pointer (some ⟨p, 0, none⟩)] w fun e w' => e = .returned (.tuple #[.int .i64 q, .int .i64 0]) ∧ Did um bm w w' p fun um' bm' => PM w' p j l kl kr true (lf - 1) rt um' bm' 0 (updF u q (some true)) (updF g q (some z896)) := by
  have HR := hid (ready_any h.pg)
  have c1 := h.pg.c1
  have HU : Hid (∀ k, k < q → Calls Tryz.prog 59 #[.pointer (some ⟨p, 0, none⟩), .int .i64 k] w fun e w' => e = .returned (.int .u8 1) ∧ w' = w) := hid (fun k hk => by
    have h1 := useOf_any h k (by omega)
    rw [hb k hk] at h1
    exact h1)
  have HUQ : Hid (Calls Tryz.prog 59 #[.pointer (some ⟨p, 0, none⟩), .int .i64 q] w fun e w' => e = .returned (.int .u8 0) ∧ w' = w) := hid (by
    have h1 := useOf_any h q hq
    rw [hf] at h1
    exact h1)
  have HT := hid (take_any h q hq hl0 hl1)
  have HN := hid (And.intro h.pg.1 hq)
  obtain ⟨n, hn⟩ : ∃ n, l.length = n := ⟨_, rfl⟩
  rw [hn] at c1 HN
  clear h hf hb hq hl0 hl1 hn
  go_enter Tryz.func22, Tryz.ntmps22
  go_wp2_with fail
  refine HR.out.mono ?_
  rintro e w1 ⟨rfl, hw1⟩
  obtain rfl := hw1.symm
  clear HR
  go_wp2_with fail
  go_loopw [16, 5] (fun y _ wr => ∃ k : Nat, k ≤ q ∧ y = .int .i64 k ∧ wr = w) (fun y _ _ => n - (intOf y).toNat)
  case atStart => exact ⟨0, Nat.zero_le _, rfl, rfl⟩
  case round =>
    obtain ⟨k, hk, rfl, rfl⟩ := hrel
    have hnn := HN.out
    have hwk : IntKind.i64.wrap ((k : Int) + 1) = ((k + 1 : Nat) : Int) := by rw [IntWalk.i64_in _ ⟨by omega, by omega⟩]; omega
    have hlt' : (k : Int) < (n : Int) := by omega
    by_cases hlt : k < q
    · have HUK := hid (HU.out k hlt)
      have HK := hid hlt
      clear hk hlt hnn HU HUQ HT
      go_wp2_with fail
      refine HUK.out.mono ?_
      rintro e w1 ⟨rfl, hw1⟩
      obtain rfl := hw1.symm
      clear HUK
      go_wp2_with fail
      exact ⟨⟨k + 1, HK.out, rfl, trivial⟩, by have := HK.out; have := HN.out; simp [intOf]; omega⟩
    · obtain rfl : k = q := by omega
      clear hk hlt hnn HU
      go_wp2_with fail
      refine HUQ.out.mono ?_
      rintro e w1 ⟨rfl, hw1⟩
      obtain rfl := hw1.symm
      clear HUQ
      go_wp2_with fail
      refine HT.out.mono ?_
      rintro e w2 ⟨rfl, hD⟩
      have HD := hid hD
      clear HT hD
      go_wp2_with fail
      go_ret2
      exact ⟨rfl, HD.out⟩
theorem alloc_off {w : World} {p j : Nat} {l : List Bool} {kl kr : Int} {bg : Bool} {lf rt : Int} {um bm : Option Nat} (h : Pg w p j l kl kr bg lf rt um bm 43) :
    Calls Tryz.prog 22 #[.pointer (some ⟨p, 0, none⟩)] w fun e w' => e = .returned (.tuple #[.int .i64 0, .int .i64 43]) ∧ w' = w := by
  have HR := hid (ready_any h)
  clear h
  go_enter Tryz.func22, Tryz.ntmps22
  go_wp2_with fail
  refine HR.out.mono ?_
  rintro e w1 ⟨rfl, hw1⟩
  obtain rfl := hw1.symm
  clear HR
  go_wp2_with fail
  go_ret2
  exact ⟨rfl, rfl⟩
theorem alloc_nil (w : World) :
    Calls Tryz.prog 22 #[.pointer none] w fun e w' => e = .returned (.tuple #[.int .i64 0, .int .i64 1]) ∧ w' = w := by
  have HR := hid (ready_nil w)
  go_enter Tryz.func22, Tryz.ntmps22
  go_wp2_with fail
  refine HR.out.mono ?_
  rintro e w1 ⟨rfl, hw1⟩
  obtain rfl := hw1.symm
  clear HR
  go_wp2_with fail
  go_ret2
  exact ⟨rfl, rfl⟩
set_option maxHeartbeats 1000000 in
theorem free_none {w : World} {p j : Nat} {l : List Bool} {kl kr : Int} {bg : Bool} {lf rt : Int} {um bm : Option Nat} {u : Int → Option Bool} {g : Int → Option (List UInt8)} (h : PM w p j l kl kr bg lf rt um bm 0 u g) (k : Int) (ht : tkn l u k = false) :
    Calls Tryz.prog 27 #[.pointer (some ⟨p, 0, none⟩), .int .i64 k] w fun e w' => e = .returned (.int .i64 81) ∧ w' = w := by
  have h1 := readyFor_any h k
  rw [ht] at h1
  have HR := hid h1
  clear h h1 ht
  go_enter Tryz.func27, Tryz.ntmps27
  go_wp2_with fail
  refine HR.out.mono ?_
  rintro e w1 ⟨rfl, hw1⟩
  obtain rfl := hw1.symm
  clear HR
  simp only [Bool.false_eq_true, if_false]
  go_wp2
  go_ret
  exact ⟨rfl, rfl⟩
theorem free_nil (k : Int) (w : World) :
    Calls Tryz.prog 27 #[.pointer none, .int .i64 k] w fun e w' => e = .returned (.int .i64 1) ∧ w' = w := by
  have HR := hid (readyFor_nil k w)
  go_enter Tryz.func27, Tryz.ntmps27
  go_wp2_with fail
  refine HR.out.mono ?_
  rintro e w1 ⟨rfl, hw1⟩
  obtain rfl := hw1.symm
  clear HR
  go_wp2
  go_ret
  exact ⟨rfl, rfl⟩
set_option maxHeartbeats 1000000 in
theorem free_root {w : World} {p j : Nat} {l : List Bool} {kl kr : Int} {bg : Bool} {lf rt : Int} {um bm : Option Nat} {u : Int → Option Bool} {g : Int → Option (List UInt8)} (h : PM w p j l kl kr bg lf rt um bm 0 u g) (k : Int) (ht : tkn l u k = true) (hk : k = rt) :
    Calls Tryz.prog 27 #[.pointer (some ⟨p, 0, none⟩), .int .i64 k] w fun e w' => e = .returned (.int .i64 2) ∧ w' = w := by
  have h1 := readyFor_any h k
  rw [ht] at h1
  have HR := hid h1
  have c1 := h.pg.crt
  clear h h1 ht
  subst hk
  go_enter Tryz.func27, Tryz.ntmps27
  go_wp2_with fail
  refine HR.out.mono ?_
  rintro e w1 ⟨rfl, hw1⟩
  obtain rfl := hw1.symm
  clear HR
  simp only [if_true]
  go_wp2
  go_ret
  exact ⟨rfl, rfl⟩
theorem tkn_at {l : List Bool} {u : Int → Option Bool} {k : Int} (h : tkn l u k = true) : ∃ q : Nat, k = q ∧ q < l.length ∧ usf l u q = true := by
  unfold tkn at h
  simp only [Bool.and_eq_true, decide_eq_true_eq] at h
  exact ⟨k.toNat, by omega, by omega, h.2.2⟩
set_option maxRecDepth 100000 in
set_option maxHeartbeats 1000000 in
theorem free_ok {w : World} {p j : Nat} {l : List Bool} {kl kr : Int} {bg : Bool} {lf rt : Int} {um bm : Option Nat} {u : Int → Option Bool} {g : Int → Option (List UInt8)} (h : PM w p j l kl kr bg lf rt um bm 0 u g) (q : Nat) (hq : q < l.length) (ht : usf l u q = true) (hk : (q : Int) ≠ rt) (hl0 : 0 ≤ lf) (hl1 : lf ≤ 100000) :
    Calls Tryz.prog 27 #[.pointer (some ⟨p, 0, none⟩), .int .i64 q] w fun e w' => e = .returned (.int .i64 0) ∧ Did um bm w w' p fun um' bm' => PM w' p j l kl kr true (lf + 1) rt um' bm' 0 (updF u q (some false)) (updF g q none) := by
  have h1 := readyFor_any h (q : Int)
  have e1 : tkn l u (q : Int) = true := by unfold tkn; simp [hq, ht]
  rw [e1] at h1
  have HR := hid h1
  have c1 := h.pg.crt
  have HG := hid (give_any h q hq hl0 hl1)
  have hb : ((q : Int) == rt) = false := by rw [beq_eq_false_iff_ne]; exact hk
  clear h h1 ht e1 hq hl0 hl1
  go_enter Tryz.func27, Tryz.ntmps27
  go_wp2_with fail
  refine HR.out.mono ?_
  rintro e w1 ⟨rfl, hw1⟩
  obtain rfl := hw1.symm
  clear HR
  simp only [if_true]
  go_wp2_with fail
  refine HG.out.mono ?_
  rintro e w2 ⟨rfl, hD⟩
  have HD := hid hD
  clear HG hD
  go_wp2_with fail
  go_ret
  exact ⟨rfl, HD.out⟩
set_option maxHeartbeats 1000000 in
theorem pwrite_none {w : World} {p j : Nat} {l : List Bool} {kl kr : Int} {bg : Bool} {lf rt : Int} {um bm : Option Nat} {u : Int → Option Bool} {g : Int → Option (List UInt8)} (h : PM w p j l kl kr bg lf rt um bm 0 u g) (k : Int) (ht : tkn l u k = false) (v : Value) :
    Calls Tryz.prog 36 #[.pointer (some ⟨p, 0, none⟩), .int .i64 k, v] w fun e w' => e = .returned (.int .i64 81) ∧ w' = w := by
  have h1 := readyFor_any h k
  rw [ht] at h1
  have HR := hid h1
  clear h h1 ht
  go_enter Tryz.func36, Tryz.ntmps36
  go_wp2_with fail
  refine HR.out.mono ?_
  rintro e w1 ⟨rfl, hw1⟩
  obtain rfl := hw1.symm
  clear HR
  simp only [Bool.false_eq_true, if_false]
  go_wp2
  go_ret
  exact ⟨rfl, rfl⟩
theorem pwrite_nil (k : Int) (v : Value) (w : World) :
    Calls Tryz.prog 36 #[.pointer none, .int .i64 k, v] w fun e w' => e = .returned (.int .i64 1) ∧ w' = w := by
  have HR := hid (readyFor_nil k w)
  go_enter Tryz.func36, Tryz.ntmps36
  go_wp2_with fail
  refine HR.out.mono ?_
  rintro e w1 ⟨rfl, hw1⟩
  obtain rfl := hw1.symm
  clear HR
  go_wp2
  go_ret
  exact ⟨rfl, rfl⟩
set_option maxHeartbeats 1000000 in
theorem pwrite_len {w : World} {p j : Nat} {l : List Bool} {kl kr : Int} {bg : Bool} {lf rt : Int} {um bm : Option Nat} {u : Int → Option Bool} {g : Int → Option (List UInt8)} (h : PM w p j l kl kr bg lf rt um bm 0 u g) (k : Int) (ht : tkn l u k = true) (a : Option Addr) (m cap : Nat) (hm : m ≠ 896) :
    Calls Tryz.prog 36 #[.pointer (some ⟨p, 0, none⟩), .int .i64 k, .slice a m cap] w fun e w' => e = .returned (.int .i64 2) ∧ w' = w := by
  have h1 := readyFor_any h k
  rw [ht] at h1
  have HR := hid h1
  have hb : ((m : Int) == 896) = false := by rw [beq_eq_false_iff_ne]; omega
  clear h h1 ht
  go_enter Tryz.func36, Tryz.ntmps36
  go_wp2_with fail
  refine HR.out.mono ?_
  rintro e w1 ⟨rfl, hw1⟩
  obtain rfl := hw1.symm
  clear HR
  simp only [if_true]
  go_wp2
  go_ret
  exact ⟨rfl, rfl⟩
set_option maxRecDepth 100000 in
set_option maxHeartbeats 1000000 in
theorem pwrite_ok {w : World} {p j : Nat} {l : List Bool} {kl kr : Int} {bg : Bool} {lf rt : Int} {um bm : Option Nat} {u : Int → Option Bool} {g : Int → Option (List UInt8)} (h : PM w p j l kl kr bg lf rt um bm 0 u g) (q : Nat) (hq : q < l.length) (ht : usf l u q = true) (gs o cap : Nat) (c : List UInt8) (hc : c.length = 896) (hrd : Rd w gs o c) {cs : Array Value} {t : TypeId} {z : Nat × Nat} (hgs : w.heap[gs]? = some (.cells cs t z)) (hne : t ≠ 90) :
    Calls Tryz.prog 36 #[.pointer (some ⟨p, 0, none⟩), .int .i64 q, .slice (some ⟨gs, o, none⟩) 896 cap] w fun e w' => e = .returned (.int .i64 0) ∧ Did um bm w w' p fun um' bm' => PM w' p j l kl kr true lf rt um' bm' 0 u (updF g q (some c)) := by
  have h1 := readyFor_any h (q : Int)
  have e1 : tkn l u (q : Int) = true := by unfold tkn; simp [hq, ht]
  rw [e1] at h1
  have HR := hid h1
  have hd : Below w.heap.size w w.drew := (Below.refl _ _).drew
  have HW := hid (cwrite_any (h.below hd) q hq c hc)
  have HN : Hid (gs ∉ p :: (um.toList ++ bm.toList)) := hid (fun hm => by
    obtain ⟨ku, hu⟩ := h.mu
    obtain ⟨kb, hb⟩ := h.mb
    simp only [List.mem_cons, List.mem_append, Option.mem_toList] at hm
    rcases hm with hm | hm | hm
    · subst hm
      have h2 := h.pg.2
      rw [hgs] at h2
      injection h2 with h2
      injection h2 with _ e
      exact hne e
    · exact hu.cells hm hgs
    · exact hb.cells hm hgs)
  have HS : Hid (Rd w.drew gs o c ∧ w.drew.heap[gs]? = some (.cells cs t z)) := hid ⟨hrd, hgs⟩
  have HC := hid hc
  have HDW : Hid (Fr [p] w w.drew) := hid (Fr.of_below hd)
  clear h h1 ht e1 hq hd hrd hgs hne hc
  go_enter Tryz.func36, Tryz.ntmps36
  go_wp2_with fail
  refine HR.out.mono ?_
  rintro e w1 ⟨rfl, hw1⟩
  obtain rfl := hw1.symm
  clear HR
  simp only [if_true]
  go_upto_region 6 with fail
  refine h_openL (S := fun w' => Rd w' gs o c ∧ w'.heap[gs]? = some (.cells cs t z)) (by kernel_rfl) (by kernel_rfl) (fun _ _ _ _ _ h => h) (L := #[false, false, false, false, false, false, false, false]) (by kernel_rfl) ?_
  intro Q' hns hP hN
  have hS := HS.out
  refine h_takeL (i := 0) (v := .pointer (some ⟨p, 0, none⟩)) hns rfl rfl (by kernel_rfl) (by kernel_rfl) hP (y_move rfl (by kernel_rfl) (by kernel_rfl)) hS rfl (L' := #[true, false, false, false, false, false, false, false]) (by kernel_rfl) ?_
  refine h_takeL (i := 1) (v := .pointer (some ⟨p, 0, none⟩)) hns rfl rfl (by kernel_rfl) (by kernel_rfl) hP (y_nil rfl (by kernel_rfl) (by kernel_rfl)) hS rfl (L' := #[true, true, false, false, false, false, false, false]) (by kernel_rfl) ?_
  refine h_takeL (i := 2) (v := .pointer (some ⟨p, 1027, none⟩)) hns rfl rfl (by kernel_rfl) (by kernel_rfl) hP (y_faddr rfl (by kernel_rfl) (by kernel_rfl) (fa90_2 (p))) hS rfl (L' := #[true, true, true, false, false, false, false, false]) (by kernel_rfl) ?_
  refine h_takeL (i := 3) (v := .int .i64 q) hns rfl rfl (by kernel_rfl) (by kernel_rfl) hP (y_move rfl (by kernel_rfl) (by kernel_rfl)) hS rfl (L' := #[true, true, true, true, false, false, false, false]) (by kernel_rfl) ?_
  refine h_takeL (i := 4) (v := .slice (some ⟨gs, o, none⟩) 896 cap) hns rfl rfl (by kernel_rfl) (by kernel_rfl) hP (y_move rfl (by kernel_rfl) (by kernel_rfl)) hS rfl (L' := #[true, true, true, true, true, false, false, false]) (by kernel_rfl) ?_
  refine h_takeL (i := 5) (v := .pointer (some ⟨gs, o, none⟩)) hns rfl rfl (by kernel_rfl) (by kernel_rfl) hP (y_arr rfl (by kernel_rfl) (by kernel_rfl) (parr109 gs o cap)) hS rfl (L' := #[true, true, true, true, true, true, false, false]) (by kernel_rfl) ?_
  refine h_takeL (i := 6) (v := V8 c) hns rfl rfl (by kernel_rfl) (by kernel_rfl) hP (y_load rfl (by kernel_rfl) (by kernel_rfl) (fun w' h => load_rd agg109 size109 HC.out h.1)) hS rfl (L' := #[true, true, true, true, true, true, true, false]) (by kernel_rfl) ?_
  try simp only [List.setIfInBounds_toArray, List.set_cons_zero, List.set_cons_succ]
  refine h_callL (i := 7) (f := 80) (args := #[.pointer (some ⟨p, 1027, none⟩), .int .i64 q, V8 c]) (by kernel_rfl) rfl rfl (by kernel_rfl) (enter_go rfl (by kernel_rfl) (fun w => by go_simp)) (L' := #[true, true, true, true, true, true, true, true]) (by kernel_rfl) ?_
  refine HW.out.mono ?_
  rintro e w4 ⟨rfl, h4⟩
  refine ⟨_, rfl, ?_, ?_⟩
  · obtain ⟨_, _, _, _, _, hF4⟩ := h4
    exact ⟨fun k hk => cell_same (hF4.block gs (heap_lt HS.out.2) HN.out) (HS.out.1 k hk), hF4.at HS.out.2 HN.out⟩
  try simp only [List.setIfInBounds_toArray, List.set_cons_zero, List.set_cons_succ]
  refine wpAnyH_done (by kernel_rfl) ?_ _
  refine hN _ _ ?_
  clear hP hN hns
  have HD := hid (Did.fst HDW.out h4)
  clear h4 HW HS hS HN
  go_wp2_with fail
  go_ret
  exact ⟨rfl, HD.out⟩
set_option maxHeartbeats 1000000 in
theorem setRoot_none {w : World} {p j : Nat} {l : List Bool} {kl kr : Int} {bg : Bool} {lf rt : Int} {um bm : Option Nat} {u : Int → Option Bool} {g : Int → Option (List UInt8)} (h : PM w p j l kl kr bg lf rt um bm 0 u g) (k : Int) (ht : tkn l u k = false) (hk : k ≠ -1) :
    Calls Tryz.prog 38 #[.pointer (some ⟨p, 0, none⟩), .int .i64 k] w fun e w' => e = .returned (.int .i64 81) ∧ w' = w := by
  have HY := hid (ready_any h.pg)
  have h1 := readyFor_any h k
  rw [ht] at h1
  have HR := hid h1
  have hb : (k == -1) = false := by rw [beq_eq_false_iff_ne]; exact hk
  clear h h1 ht
  go_enter Tryz.func38, Tryz.ntmps38
  go_wp2_with fail
  refine HY.out.mono ?_
  rintro e w1 ⟨rfl, hw1⟩
  obtain rfl := hw1.symm
  clear HY
  go_wp2_with fail
  refine HR.out.mono ?_
  rintro e w1 ⟨rfl, hw1⟩
  obtain rfl := hw1.symm
  clear HR
  simp only [Bool.false_eq_true, if_false]
  go_wp2
  go_ret
  exact ⟨rfl, rfl⟩
set_option maxHeartbeats 1000000 in
theorem setRoot_ok {w : World} {p j : Nat} {l : List Bool} {kl kr : Int} {bg : Bool} {lf rt : Int} {um bm : Option Nat} {u : Int → Option Bool} {g : Int → Option (List UInt8)} (h : PM w p j l kl kr bg lf rt um bm 0 u g) (k : Int) (ht : tkn l u k = true) :
    Calls Tryz.prog 38 #[.pointer (some ⟨p, 0, none⟩), .int .i64 k] w fun e w' => e = .returned (.int .i64 0) ∧ PM w' p j l kl kr true lf k um bm 0 u g ∧ Fr [p] w w' := by
  have HY := hid (ready_any h.pg)
  have h1 := readyFor_any h k
  rw [ht] at h1
  have HR := hid h1
  have HS := hid (csetRoot_any h k)
  obtain ⟨q, hq, _⟩ := tkn_at ht
  have hb : (k == -1) = false := by rw [beq_eq_false_iff_ne]; omega
  clear h h1 ht hq
  go_enter Tryz.func38, Tryz.ntmps38
  go_wp2_with fail
  refine HY.out.mono ?_
  rintro e w1 ⟨rfl, hw1⟩
  obtain rfl := hw1.symm
  clear HY
  go_wp2_with fail
  refine HR.out.mono ?_
  rintro e w1 ⟨rfl, hw1⟩
  obtain rfl := hw1.symm
  clear HR
  simp only [if_true]
  go_wp2_with fail
  refine HS.out.mono ?_
  rintro e w2 ⟨rfl, hD⟩
  have HD := hid hD
  clear HS hD
  go_wp2_with fail
  go_ret
  exact ⟨rfl, HD.out⟩
set_option maxHeartbeats 1000000 in
theorem setRoot_no {w : World} {p j : Nat} {l : List Bool} {kl kr : Int} {bg : Bool} {lf rt : Int} {um bm : Option Nat} {u : Int → Option Bool} {g : Int → Option (List UInt8)} (h : PM w p j l kl kr bg lf rt um bm 0 u g) :
    Calls Tryz.prog 38 #[.pointer (some ⟨p, 0, none⟩), .int .i64 (-1)] w fun e w' => e = .returned (.int .i64 0) ∧ PM w' p j l kl kr true lf (-1) um bm 0 u g ∧ Fr [p] w w' := by
  have HY := hid (ready_any h.pg)
  have HS := hid (csetRoot_any h (-1))
  clear h
  go_enter Tryz.func38, Tryz.ntmps38
  go_wp2_with fail
  refine HY.out.mono ?_
  rintro e w1 ⟨rfl, hw1⟩
  obtain rfl := hw1.symm
  clear HY
  go_wp2_with fail
  refine HS.out.mono ?_
  rintro e w2 ⟨rfl, hD⟩
  have HD := hid hD
  clear HS hD
  go_wp2_with fail
  go_ret
  exact ⟨rfl, HD.out⟩
theorem setRoot_nil (w : World) :
    Calls Tryz.prog 38 #[.pointer none, .int .i64 (-1)] w fun e w' => e = .returned (.int .i64 1) ∧ w' = w := by
  have HR := hid (ready_nil w)
  go_enter Tryz.func38, Tryz.ntmps38
  go_wp2_with fail
  refine HR.out.mono ?_
  rintro e w1 ⟨rfl, hw1⟩
  obtain rfl := hw1.symm
  clear HR
  go_wp2
  go_ret
  exact ⟨rfl, rfl⟩
theorem abort_nil (w : World) :
    Calls Tryz.prog 28 #[.pointer none] w fun e w' => e = .returned (.tuple #[]) ∧ w' = w := by
  have HR := hid (ready_nil w)
  go_enter Tryz.func28, Tryz.ntmps28
  go_wp2_with fail
  refine HR.out.mono ?_
  rintro e w1 ⟨rfl, hw1⟩
  obtain rfl := hw1.symm
  clear HR
  go_wp2
  exact bodyPost_ret (results_none rfl _ _ _) rfl ⟨rfl, rfl⟩
theorem Pg.bare {w : World} {p j : Nat} {l : List Bool} {kl kr : Int} (h : Pg w p j l kl kr false kl kr none none 0) : PM w p j l kl kr false kl kr none none 0 (fun _ => none) (fun _ => none) :=
  ⟨h, ⟨[], rfl, rfl⟩, ⟨[], rfl, rfl⟩, fun m hm => (by cases hm), fun k c hc => (by cases hc), fun k hk => absurd rfl hk, fun k hk => absurd rfl hk⟩
set_option maxRecDepth 100000 in
set_option maxHeartbeats 1000000 in
theorem abort_any {w : World} {p j : Nat} {l : List Bool} {kl kr : Int} {bg : Bool} {lf rt : Int} {um bm : Option Nat} (h : Pg w p j l kl kr bg lf rt um bm 0) :
    Calls Tryz.prog 28 #[.pointer (some ⟨p, 0, none⟩)] w fun e w' => e = .returned (.tuple #[]) ∧ Pg w' p j l kl kr false kl kr none none 0 ∧ Fr [p] w w' := by
  have HR := hid (ready_any h)
  have HLD := hid h.loadS
  have HU := hid (unchanged_any l kl kr w)
  have HP := hid h
  clear h
  go_enter Tryz.func28, Tryz.ntmps28
  go_wp2_with fail
  refine HR.out.mono ?_
  rintro e w1 ⟨rfl, hw1⟩
  obtain rfl := hw1.symm
  clear HR
  go_upto_region 1 with fail
  refine wp_region_lit ?_
  refine wp_y (v := .pointer (some ⟨p, 0, none⟩)) rfl rfl (y_move rfl (by kernel_rfl) (by kernel_rfl)) rfl ?_
  refine wp_y (v := .pointer (some ⟨p, 0, none⟩)) rfl rfl (y_move rfl (by kernel_rfl) (by kernel_rfl)) rfl ?_
  refine wp_y (v := .pointer (some ⟨p, 0, none⟩)) rfl rfl (y_nil rfl (by kernel_rfl) (by kernel_rfl)) rfl ?_
  refine wp_y (v := .pointer (some ⟨p, 1, none⟩)) rfl rfl (y_faddr rfl (by kernel_rfl) (by kernel_rfl) (fa90_1 (p))) rfl ?_
  refine wp_y (v := St l kl kr) rfl rfl (y_load rfl (by kernel_rfl) (by kernel_rfl) (fun w' h => by rw [h]; exact HLD.out)) rfl ?_
  refine wp_call (f := 42) (args := #[St l kl kr]) (by kernel_rfl) (fun w => by go_simp) ?_
  refine HU.out.mono ?_
  rintro e w2 ⟨rfl, hB2⟩
  refine ⟨_, rfl, ?_⟩
  have hP2 := HP.out.below hB2 HP.out.lt
  obtain ⟨w3, hst, hP3, hF3⟩ := hP2.storeC false kl kr none none
  have HST := hid hst
  have HZ := hid (And.intro hP3 ((Fr.of_below (X := [p]) hB2).trans hF3 (fun x hx => .inl hx)))
  clear hP2 hst hP3 hF3 hB2 HP HU HLD
  dsimp only [Act.put]
  refine wp_y (v := .pointer (some ⟨p, 0, none⟩)) rfl rfl (y_nil rfl (by kernel_rfl) (by kernel_rfl)) rfl ?_
  refine wp_y (v := .pointer (some ⟨p, 1027, none⟩)) rfl rfl (y_faddr rfl (by kernel_rfl) (by kernel_rfl) (fa90_2 (p))) rfl ?_
  try simp only [List.setIfInBounds_toArray, List.set_cons_zero, List.set_cons_succ]
  refine wp_do rfl rfl (run_storeOp rfl (by kernel_rfl) (by kernel_rfl) HST.out) ?_
  try simp only [List.setIfInBounds_toArray, List.set_cons_zero, List.set_cons_succ]
  refine wp_end ?_
  go_wp2_with fail
  go_end0
  exact ⟨rfl, HZ.out⟩
end Go.Proofs.YtdbgccgjdgomkaaGreatDoor
