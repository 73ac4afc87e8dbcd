/- texts put together: SMade SRowW SLen SExpr SWhole -/
import Derived.Test.YtgpkcjpanpbhdaaGreatDoorSGd
import Derived.Test.YtgpkcjpanpbhdaaGreatDoorSGa
import Derived.Maps.AppendAt
set_option maxRecDepth 100000
set_option maxHeartbeats 4000000
namespace Go.Proofs.YtgpkcjpanpbhdaaGreatDoor
open Go Go.RowKit
def Kx (E : Nat → Prop) (w w' : World) : Prop := ∀ (b : Nat) (cs : Array Value) (z : Nat × Nat), ¬ E b → w.heap[b]? = some (.cells cs 36 z) → w'.heap[b]? = some (.cells cs 36 z)
theorem Kx.refl (E : Nat → Prop) (w : World) : Kx E w w := fun _ _ _ _ h => h
theorem Kx.trans {E : Nat → Prop} {a b c : World} (h : Kx E a b) (k : Kx E b c) : Kx E a c := fun x cs z hx hh => k x cs z hx (h x cs z hx hh)
theorem kx_below {E : Nat → Prop} {w w' : World} (hB : Below w.heap.size w w') : Kx E w w' := fun _ _ _ _ h => below_at hB h (heap_lt h)
def Wx (E : Nat → Prop) (w : World) (v : Value) (x : Wr) : Prop := ∀ w', Kx E w w' → Wv w' v x
theorem Wx.now {E : Nat → Prop} {w : World} {v : Value} {x : Wr} (h : Wx E w v x) : Wv w v x := h w (Kx.refl E w)
theorem Wx.keep {E : Nat → Prop} {w w' : World} {v : Value} {x : Wr} (h : Wx E w v x) (k : Kx E w w') : Wx E w' v x := fun w2 k2 => h w2 (k.trans k2)
theorem Wx.other {E E' : Nat → Prop} {w w' : World} {v : Value} {x : Wr} (h : Wx E w v x) (k : Kx E w w') (he : ∀ b cs z, w.heap[b]? = some (Obj.cells cs 36 z) → ¬ E b → ¬ E' b) : Wx E' w' v x :=
 fun w2 k2 => h w2 fun b cs z hb hh => k2 b cs z (he b cs z hh hb) (k b cs z hb hh)
theorem Wx.ifc {E : Nat → Prop} {w : World} {v : Value} {x : Wr} (h : Wx E w v x) : ∃ t u, v = .iface t u := by have := h.now; cases this <;> exact ⟨_, _, rfl⟩
theorem Wx.word {E : Nat → Prop} {w : World} (s : List UInt8) : Wx E w (.iface 64 (strV s)) (.word s) := fun _ _ => .word s
theorem Wx.unary {E : Nat → Prop} {w : World} {v : Value} {k : Wr} (s : List UInt8) (h : Wx E w v k) : Wx E w (.iface 130 (.agg #[strV s, v])) (.unary s k) := fun w' hk => .unary s k v (h w' hk)
theorem Wx.binary {E : Nat → Prop} {w : World} {v u : Value} {x y : Wr} (s : List UInt8) (h : Wx E w v x) (h' : Wx E w u y) : Wx E w (.iface 132 (.agg #[strV s, v, u])) (.binary s x y) := fun w' hk => .binary s x y v u (h w' hk) (h' w' hk)
theorem Wx.choice {E : Nat → Prop} {w : World} {v u t : Value} {x y z : Wr} (h : Wx E w v x) (h' : Wx E w u y) (h'' : Wx E w t z) : Wx E w (.iface 134 (.agg #[v, u, t])) (.choice x y z) := fun w' hk => .choice x y z v u t (h w' hk) (h' w' hk) (h'' w' hk)
def Wsx (E : Nat → Prop) (w : World) (sv : Value) (xs : List Wr) : Prop := ∃ a c, sv = .slice a xs.length c ∧ xs.length ≤ 9223372036854775807 ∧ ∀ i x, xs[i]? = some x → ∃ b o cs z v, a = some ⟨b, o, none⟩ ∧ ¬ E b ∧ w.heap[b]? = some (.cells cs 36 z) ∧ cs[o + i]? = some v ∧ Wx E w v x
theorem Wsx.keep {E : Nat → Prop} {w w' : World} {sv : Value} {xs : List Wr} (h : Wsx E w sv xs) (k : Kx E w w') : Wsx E w' sv xs := by
 obtain ⟨a, c, e, hl, h⟩ := h
 refine ⟨a, c, e, hl, fun i x hx => ?_⟩
 obtain ⟨b, o, cs, z, v, h1, h2, h3, h4, h5⟩ := h i x hx
 exact ⟨b, o, cs, z, v, h1, h2, k _ _ _ h2 h3, h4, h5.keep k⟩
theorem Wsx.vs {E : Nat → Prop} {w : World} {a : Option Addr} {c : Nat} {ks : List Wr} (h : Wsx E w (.slice a ks.length c) ks) : ∃ vs : Nat → Value, ∀ i, ∀ x, ks[i]? = some x → ∃ b o cs z, a = some ⟨b, o, none⟩ ∧ ¬ E b ∧ w.heap[b]? = some (.cells cs 36 z) ∧ cs[o + i]? = some (vs i) ∧ Wx E w (vs i) x := by
 obtain ⟨a', c', e, hl, h⟩ := h
 cases e
 have key : ∀ i : Nat, ∃ v : Value, ∀ x, ks[i]? = some x → ∃ b o cs z, a = some ⟨b, o, none⟩ ∧ ¬ E b ∧ w.heap[b]? = some (.cells cs 36 z) ∧ cs[o + i]? = some v ∧ Wx E w v x := fun i => by
  cases hx : ks[i]? with
  | none => exact ⟨undef, fun x e => by cases e⟩
  | some x =>
   obtain ⟨b, o, cs, z, v, h1, h0, h2, h3, h4⟩ := h i x hx
   exact ⟨v, fun y e => by cases e; exact ⟨b, o, cs, z, h1, h0, h2, h3, h4⟩⟩
 exact Classical.axiomOfChoice key
theorem Wsx.len {E : Nat → Prop} {w : World} {sv : Value} {ks : List Wr} (h : Wsx E w sv ks) : ks.length ≤ 9223372036854775807 := by
 obtain ⟨a', c', e, hl, h⟩ := h; exact hl
theorem Wsx.rowP {E : Nat → Prop} {w : World} {a : Option Addr} {c : Nat} {ks : List Wr} (h : Wsx E w (.slice a ks.length c) ks) : ∃ vs : Nat → Value, ∀ w', Kx E w w' → (∀ i, i < ks.length → ∃ b o cs z, a = some ⟨b, o, none⟩ ∧ w'.heap[b]? = some (.cells cs 36 z) ∧ cs[o + i]? = some (vs i)) ∧ (∀ i x, ks[i]? = some x → Wv w' (vs i) x) := by
 obtain ⟨vs, hv⟩ := h.vs
 refine ⟨vs, fun w' k => ⟨fun i hi => ?_, fun i x hx => ?_⟩⟩
 ·obtain ⟨b, o, cs, z, h1, h0, h2, h3, h4⟩ := hv i _ (List.getElem?_eq_getElem hi)
  exact ⟨b, o, cs, z, h1, k _ _ _ h0 h2, h3⟩
 ·obtain ⟨b, o, cs, z, h1, h0, h2, h3, h4⟩ := hv i x hx
  exact h4 w' k
theorem Wsx.list {E : Nat → Prop} {w : World} {a : Option Addr} {c : Nat} {ks : List Wr} (h : Wsx E w (.slice a ks.length c) ks) (hd : List UInt8) : Wx E w (.iface 123 (.agg #[strV hd, .slice a ks.length c])) (.list hd ks) := by
 obtain ⟨vs, hv⟩ := h.rowP
 exact fun w' k => .list hd ks a c vs h.len (hv w' k).1 (hv w' k).2
theorem Wsx.at {E : Nat → Prop} {w : World} {a : Option Addr} {n c : Nat} {ks : List Wr} (h : Wsx E w (.slice a n c) ks) (i : Nat) (hi : i < ks.length) : ∃ b o v, a = some ⟨b, o, none⟩ ∧ w.cell? ⟨b, o + i, none⟩ = some v ∧ Wx E w v (ks.getD i (.word [])) := by
 obtain ⟨a', c', e, hl, h⟩ := h
 cases e
 obtain ⟨b, o, cs, z, v, h1, h0, h2, h3, h4⟩ := h i _ (List.getElem?_eq_getElem hi)
 exact ⟨b, o, v, h1, cell_at h2 (o + i) h3, by rw [List.getD_eq_getElem?_getD, List.getElem?_eq_getElem hi]; exact h4⟩
theorem dshow_any {n : Int} (h : btw 0 73048 n = true) {B : Nat} {w : World} (ht : Tb B w) : Calls Tryz.prog 118 #[.int .i64 n] w fun e w' => e = .returned (.tuple #[strV (dsh n.toNat), .int .i64 0]) ∧ Below w.heap.size w w' := by
 have hb : 0 ≤ n ∧ n ≤ 73048 := by simpa [btw] using h
 obtain ⟨m, rfl⟩ : ∃ m : Nat, n = m := ⟨n.toNat, by omega⟩
 refine (show_yes m (by omega) w ht.date).mono fun e w' h' => ?_
 obtain ⟨y, mm, d, hd, he, rfl, hB⟩ := h'
 refine ⟨?_, hB⟩
 rw [Int.toNat_natCast, ← he, dsh_eq hd]
 rfl
theorem kidsOk_of {k : Int} {n lo hi : Nat} (h : kidsOk k n = true) (he : kidsOf k = ((lo : Int), (hi : Int))) : lo ≤ n ∧ n ≤ hi := by
 rw [kidsOk, he] at h
 simp only [Bool.and_eq_true, decide_eq_true_eq] at h
 omega
seal wpList in
theorem truth_any (n : Int) (w : World) : Calls Tryz.prog 119 #[.int .i64 n] w fun e w' => e = .returned (strV (tru n)) ∧ w' = w := by
 go_enter Tryz.func119, Tryz.ntmps119
 go_upto_region 0 with fail
 refine rl ?_
 refine qv (strV []) ?_
 simp only [nA, nB, nC]
 refine we ?_
 go_upto_region 1 with fail
 refine rl ?_
 refine qv (.int .i64 n) ?_
 simp only [nA, nB, nC]
 rcases bt ((n == (0 : Int))) with Hhb1 | Hhb1
 ·refine wp_y (v := (.bool true)) rfl rfl (y_bin (k := .i64) (k' := .i64) (m := n) (n := 0) rfl (hr := beql_int64 n 0 true Hhb1.out)) rfl ?_
  try simp only [nA, nB, nC]
  refine we ?_
  go_upto_region 2 with fail
  refine rl ?_
  refine qv (strV [102, 97, 108, 115, 101]) ?_
  simp only [nA, nB, nC]
  refine we ?_
  go_wp2_with fail
  go_ret
  exact ⟨by rw [tru]; simp only [Hhb1.out, cond_true]; rfl, rfl⟩
 ·refine wp_y (v := (.bool false)) rfl rfl (y_bin (k := .i64) (k' := .i64) (m := n) (n := 0) rfl (hr := beql_int64 n 0 false Hhb1.out)) rfl ?_
  try simp only [nA, nB, nC]
  refine we ?_
  go_upto_region 3 with fail
  refine rl ?_
  refine qv (strV [116, 114, 117, 101]) ?_
  simp only [nA, nB, nC]
  refine we ?_
  go_wp2_with fail
  go_ret
  exact ⟨by rw [tru]; simp only [Hhb1.out, cond_false]; rfl, rfl⟩
seal wpList in
theorem quoted_any (kw tx : List UInt8) (w : World) (ht : kw.length + tx.length ≤ 9223372036854775800) : Calls Tryz.prog 120 #[strV kw, strV tx] w fun e w' => e = .returned (strV (quo kw tx)) ∧ w' = w := by
 have HT := hid ht
 clear ht
 go_enter Tryz.func120, Tryz.ntmps120
 go_upto_region 0 with fail
 refine rl ?_
 refine qv (strV []) ?_
 simp only [nA, nB, nC]
 refine we ?_
 go_upto_region 1 with fail
 refine rl ?_
 refine qv (strV kw) ?_
 simp only [nA, nB, nC]
 refine wp_y (v := (strV (kw ++ [32, 34]))) rfl rfl (y_addS (l := kw) (m := [32, 34]) rfl (by kernel_rfl) (by kernel_rfl) (by kernel_rfl) (by have := HT.out; simp only [List.length_cons, List.length_nil]; omega)) rfl ?_
 simp only [nA, nB, nC]
 refine qv (strV tx) ?_
 simp only [nA, nB, nC]
 refine wp_y (v := (strV (kw ++ [32, 34] ++ tx))) rfl rfl (y_addS (l := kw ++ [32, 34]) (m := tx) rfl (by kernel_rfl) (by kernel_rfl) (by kernel_rfl) (by have := HT.out; simp only [List.length_append, List.length_cons, List.length_nil]; omega)) rfl ?_
 simp only [nA, nB, nC]
 refine wp_y (v := (strV (kw ++ [32, 34] ++ tx ++ [34]))) rfl rfl (y_addS (l := kw ++ [32, 34] ++ tx) (m := [34]) rfl (by kernel_rfl) (by kernel_rfl) (by kernel_rfl) (by have := HT.out; simp only [List.length_append, List.length_cons, List.length_nil]; omega)) rfl ?_
 simp only [nA, nB, nC]
 refine qv (strV (kw ++ [32, 34] ++ tx ++ [34])) ?_
 simp only [nA, nB, nC]
 refine we ?_
 go_wp2_with fail
 go_ret
 exact ⟨rfl, rfl⟩
seal wpList in
theorem ahead_any (tx : List UInt8) (w : World) (ht : tx.length ≤ 9223372036854775800) : Calls Tryz.prog 121 #[strV tx] w fun e w' => e = .returned (strV (ahd tx)) ∧ w' = w := by
 have HT := hid ht
 clear ht
 go_enter Tryz.func121, Tryz.ntmps121
 go_upto_region 0 with fail
 refine rl ?_
 refine qv (strV []) ?_
 simp only [nA, nB, nC]
 refine we ?_
 go_upto_region 1 with fail
 refine rl ?_
 refine qv (strV tx) ?_
 simp only [nA, nB, nC]
 rcases bt (nam tx) with Hhb1 | Hhb1
 ·refine wp_call (f := 112) (args := #[(strV tx)]) (by kernel_rfl) (fun w => by go_simp) ?_
  have HCA := hid (isName_any tx w (by have := HT.out; omega))
  refine HCA.out.mono ?_
  rintro e wz ⟨he, hwz⟩
  rw [Hhb1.out] at he
  subst he
  refine ⟨_, rfl, ?_⟩
  obtain rfl := hwz.symm
  try simp only [Act.put, nA, nB, nC]
  refine we ?_
  go_upto_region 2 with fail
  refine rl ?_
  refine qv (strV tx) ?_
  simp only [nA, nB, nC]
  refine wp_y (v := (strV (tx ++ [32]))) rfl rfl (y_addS (l := tx) (m := [32]) rfl (by kernel_rfl) (by kernel_rfl) (by kernel_rfl) (by have := HT.out; simp only [List.length_cons, List.length_nil]; omega)) rfl ?_
  simp only [nA, nB, nC]
  refine qv (strV (tx ++ [32])) ?_
  simp only [nA, nB, nC]
  refine we ?_
  go_wp2_with fail
  go_ret
  exact ⟨by rw [ahd]; simp only [Hhb1.out, cond_true]; rfl, rfl⟩
 ·refine wp_call (f := 112) (args := #[(strV tx)]) (by kernel_rfl) (fun w => by go_simp) ?_
  have HCA := hid (isName_any tx w (by have := HT.out; omega))
  refine HCA.out.mono ?_
  rintro e wz ⟨he, hwz⟩
  rw [Hhb1.out] at he
  subst he
  refine ⟨_, rfl, ?_⟩
  obtain rfl := hwz.symm
  try simp only [Act.put, nA, nB, nC]
  refine we ?_
  go_upto_region 3 with fail
  refine rl ?_
  refine qv (strV tx) ?_
  refine qv (strV tx) ?_
  simp only [nA, nB, nC]
  refine we ?_
  go_wp2_with fail
  go_ret
  exact ⟨by rw [ahd]; simp only [Hhb1.out, cond_false]; rfl, rfl⟩
theorem bu_show_list_0_1 (w : World) (s0 : List UInt8) (a1 : Option Addr) (n1 c1 : Nat) : (Instr.build 123 #[(0, (strV s0)), (1, (.slice a1 n1 c1))]).run Tryz.prog w = .ok (.agg #[(strV s0), (.slice a1 n1 c1)]) w := by
 unfold strV
 go_simp
theorem bu_show_unary_0_1 (w : World) (s0 : List UInt8) (x1 : Value) (h1 : ∃ t u, x1 = .iface t u) : (Instr.build 130 #[(0, (strV s0)), (1, x1)]).run Tryz.prog w = .ok (.agg #[(strV s0), x1]) w := by
 obtain ⟨th1, uh1, rfl⟩ := h1
 unfold strV
 go_simp
theorem bu_show_binary_0_1_2 (w : World) (s0 : List UInt8) (x1 : Value) (h1 : ∃ t u, x1 = .iface t u) (x2 : Value) (h2 : ∃ t u, x2 = .iface t u) : (Instr.build 132 #[(0, (strV s0)), (1, x1), (2, x2)]).run Tryz.prog w = .ok (.agg #[(strV s0), x1, x2]) w := by
 obtain ⟨th1, uh1, rfl⟩ := h1
 obtain ⟨th2, uh2, rfl⟩ := h2
 unfold strV
 go_simp
theorem bu_show_choice_0_1_2 (w : World) (x0 : Value) (h0 : ∃ t u, x0 = .iface t u) (x1 : Value) (h1 : ∃ t u, x1 = .iface t u) (x2 : Value) (h2 : ∃ t u, x2 = .iface t u) : (Instr.build 134 #[(0, x0), (1, x1), (2, x2)]).run Tryz.prog w = .ok (.agg #[x0, x1, x2]) w := by
 obtain ⟨th0, uh0, rfl⟩ := h0
 obtain ⟨th1, uh1, rfl⟩ := h1
 obtain ⟨th2, uh2, rfl⟩ := h2
 go_simp
seal wpList in
theorem made_any {E : Nat → Prop} {B : Nat} {w : World} {v sv : Value} {k : Int} {tx : List UInt8} {n : Int} {kids : List Tr} {at_ : Int} {ks : List Wr} (h : Nd w v (.mk k tx n kids at_)) (ht : tx.length ≤ 9223372036854775700) (hs : Wsx E w sv ks) (how : own k tx n = true) (hko : kidsOk k ks.length = true) (htb : Tb B w) : Calls Tryz.prog 80 #[v, sv] w fun e w' => ∃ u, e = .returned u ∧ Wx E w' u (mkW k tx n ks) ∧ Below w.heap.size w w' := by
 obtain ⟨a, c, rfl, -, -⟩ := h.open
 have HS := hid hs
 obtain ⟨a2, c2, rfl, -, -⟩ := hs
 have HT := hid ht
 have HOW := hid how
 have HKO := hid hko
 have HTB := hid htb
 clear h ht how hko htb
 generalize kids.length = N
 have HB0 := hid (Below.refl w.heap.size w)
 go_enter Tryz.func80, Tryz.ntmps80
 go_upto_region 0 with fail
 refine rl ?_
 obtain ⟨w3, g1, (HX : Hid _), (K2 : Hid _), (HB4 : Hid _)⟩ := box_x 24 w #[(.int .i64 k), (strV tx), (.int .i64 n), (.slice a N c), (.int .i64 at_)]
 refine wp_run (v := (.pointer (some ⟨g1, 0, none⟩))) rfl rfl (run_boxOp rfl (by kernel_rfl) HX.out) rfl ?_
 try simp only [nA, nB, nC]
 replace HTB := hid (HTB.out.below HB4.out)
 replace HS := hid (HS.out.keep (kx_below HB4.out))
 replace HB0 := kb HB0 HB4
 refine qv .nilIface ?_
 simp only [nA, nB, nC]
 refine we ?_
 go_upto_region 1 with fail
 refine rl ?_
 refine qf (fa_api_Node_0 g1 0) ?_
 refine ql (.int .i64 k) Tryz.isAgg3 0 K2 ?_
 simp only [nA, nB, nC]
 refine we ?_
 go_upto_region 2 with fail
 refine rl ?_
 rcases bt ((k == (5 : Int))) with Hhb5 | Hhb5
 ·have hk5 : k = 5 := by simpa using Hhb5.out
  clear hk5
  refine qb (beql_int k 5 true Hhb5.out) ?_
  refine qv (.bool true) ?_
  simp only [nA, nB, nC]
  refine we ?_
  go_upto_region 3 with fail
  refine rl ?_
  refine qf (fa_api_Node_2 g1 0) ?_
  refine ql (.int .i64 n) Tryz.isAgg2 2 K2 ?_
  simp only [nA, nB, nC]
  refine qc #[(.int .i64 n)] ?_
  have HCA := hid (show_any n w3 HTB.out.num)
  refine HCA.out.mono ?_
  rintro e w6 ⟨rfl, (HB7 : Hid _)⟩
  refine ⟨_, rfl, ?_⟩
  replace K2 := ka HB7 K2
  replace HTB := hid (HTB.out.below HB7.out)
  replace HS := hid (HS.out.keep (kx_below HB7.out))
  replace HB0 := kb HB0 HB7
  try simp only [Act.put, nA, nB, nC]
  refine wp_y (v := (.iface 64 (strV (showL n)))) rfl rfl (y_mkI rfl (by kernel_rfl) (by kernel_rfl) (fun w => mk_show_word _ w)) rfl ?_
  simp only [nA, nB, nC]
  refine qv (.iface 64 (strV (showL n))) ?_
  simp only [nA, nB, nC]
  refine we ?_
  go_wp2_with fail
  go_ret
  refine ⟨_, rfl, ?_, HB0.out⟩
  rw [show mkW k tx n ks = .word (showL n) from by simp [mkW, Hhb5.out]]
  exact Wx.word _
 ·refine wp_y (v := (.bool false)) rfl rfl (y_bin (k := .i64) (k' := .i64) (m := k) (n := 5) rfl (hr := beql_int k 5 false Hhb5.out)) rfl ?_
  try simp only [nA, nB, nC]
  refine qv (.bool false) ?_
  simp only [nA, nB, nC]
  refine we ?_
  go_upto_region 4 with fail
  refine rl ?_
  rcases bt ((k == (6 : Int))) with Hhb8 | Hhb8
  ·have hk6 : k = 6 := by simpa using Hhb8.out
   have HD : Hid (btw 0 73048 n = true) := hid (by have h9 := HOW.out; rw [hk6] at h9; simp [own] at h9; exact h9.2)
   clear hk6
   refine qb (beql_int k 6 true Hhb8.out) ?_
   refine qv (.bool true) ?_
   simp only [nA, nB, nC]
   refine we ?_
   go_upto_region 5 with fail
   refine rl ?_
   refine qf (fa_api_Node_2 g1 0) ?_
   refine ql (.int .i64 n) Tryz.isAgg2 2 K2 ?_
   simp only [nA, nB, nC]
   refine qc #[(.int .i64 n)] ?_
   have HCA := hid (dshow_any HD.out HTB.out)
   refine HCA.out.mono ?_
   rintro e w9 ⟨rfl, (HB10 : Hid _)⟩
   refine ⟨_, rfl, ?_⟩
   replace K2 := ka HB10 K2
   replace HTB := hid (HTB.out.below HB10.out)
   replace HS := hid (HS.out.keep (kx_below HB10.out))
   replace HB0 := kb HB0 HB10
   try simp only [Act.put, nA, nB, nC]
   refine qv (.tuple #[(strV (dsh n.toNat)), (.int .i64 0)]) ?_
   refine qv (strV (dsh n.toNat)) ?_
   refine qv (.int .i64 0) ?_
   refine qv (strV (dsh n.toNat)) ?_
   simp only [nA, nB, nC]
   refine qv (.int .i64 0) ?_
   simp only [nA, nB, nC]
   refine we ?_
   go_upto_region 6 with fail
   refine rl ?_
   refine qv (strV (dsh n.toNat)) ?_
   simp only [nA, nB, nC]
   refine wp_y (v := (.iface 64 (strV (dsh n.toNat)))) rfl rfl (y_mkI rfl (by kernel_rfl) (by kernel_rfl) (fun w => mk_show_word _ w)) rfl ?_
   simp only [nA, nB, nC]
   refine qv (.iface 64 (strV (dsh n.toNat))) ?_
   simp only [nA, nB, nC]
   refine we ?_
   go_wp2_with fail
   go_ret
   refine ⟨_, rfl, ?_, HB0.out⟩
   rw [show mkW k tx n ks = .word (dsh n.toNat) from by simp [mkW, Hhb5.out, Hhb8.out]]
   exact Wx.word _
  ·refine wp_y (v := (.bool false)) rfl rfl (y_bin (k := .i64) (k' := .i64) (m := k) (n := 6) rfl (hr := beql_int k 6 false Hhb8.out)) rfl ?_
   try simp only [nA, nB, nC]
   refine qv (.bool false) ?_
   simp only [nA, nB, nC]
   refine we ?_
   go_upto_region 7 with fail
   refine rl ?_
   rcases bt ((k == (8 : Int))) with Hhb11 | Hhb11
   ·have hk8 : k = 8 := by simpa using Hhb11.out
    clear hk8
    refine qb (beql_int k 8 true Hhb11.out) ?_
    refine qv (.bool true) ?_
    simp only [nA, nB, nC]
    refine we ?_
    go_upto_region 8 with fail
    refine rl ?_
    refine qf (fa_api_Node_2 g1 0) ?_
    refine ql (.int .i64 n) Tryz.isAgg2 2 K2 ?_
    simp only [nA, nB, nC]
    refine qc #[(.int .i64 n)] ?_
    have HCA := hid (truth_any n w3)
    refine HCA.out.mono ?_
    rintro e wz ⟨rfl, hwz⟩
    refine ⟨_, rfl, ?_⟩
    obtain rfl := hwz.symm
    try simp only [Act.put, nA, nB, nC]
    refine wp_y (v := (.iface 64 (strV (tru n)))) rfl rfl (y_mkI rfl (by kernel_rfl) (by kernel_rfl) (fun w => mk_show_word _ w)) rfl ?_
    simp only [nA, nB, nC]
    refine qv (.iface 64 (strV (tru n))) ?_
    simp only [nA, nB, nC]
    refine we ?_
    go_wp2_with fail
    go_ret
    refine ⟨_, rfl, ?_, HB0.out⟩
    rw [show mkW k tx n ks = .word (tru n) from by simp [mkW, Hhb11.out, Hhb5.out, Hhb8.out]]
    exact Wx.word _
   ·refine wp_y (v := (.bool false)) rfl rfl (y_bin (k := .i64) (k' := .i64) (m := k) (n := 8) rfl (hr := beql_int k 8 false Hhb11.out)) rfl ?_
    try simp only [nA, nB, nC]
    refine qv (.bool false) ?_
    simp only [nA, nB, nC]
    refine we ?_
    go_upto_region 9 with fail
    refine rl ?_
    rcases bt ((k == (9 : Int))) with Hhb12 | Hhb12
    ·have hk9 : k = 9 := by simpa using Hhb12.out
     clear hk9
     refine qb (beql_int k 9 true Hhb12.out) ?_
     refine qv (.bool true) ?_
     simp only [nA, nB, nC]
     refine we ?_
     go_upto_region 10 with fail
     refine rl ?_
     refine qf (fa_api_Node_1 g1 0) ?_
     refine ql (strV tx) Tryz.isAgg9 1 K2 ?_
     simp only [nA, nB, nC]
     refine qc #[(strV [102, 101, 101, 100]), (strV tx)] ?_
     have HCA := hid (quoted_any [102, 101, 101, 100] tx w3 (by have := HT.out; simp only [List.length_cons, List.length_nil]; omega))
     refine HCA.out.mono ?_
     rintro e wz ⟨rfl, hwz⟩
     refine ⟨_, rfl, ?_⟩
     obtain rfl := hwz.symm
     try simp only [Act.put, nA, nB, nC]
     refine wp_y (v := (.iface 64 (strV (quo [102, 101, 101, 100] tx)))) rfl rfl (y_mkI rfl (by kernel_rfl) (by kernel_rfl) (fun w => mk_show_word _ w)) rfl ?_
     simp only [nA, nB, nC]
     refine qv (.iface 64 (strV (quo [102, 101, 101, 100] tx))) ?_
     simp only [nA, nB, nC]
     refine we ?_
     go_wp2_with fail
     go_ret
     refine ⟨_, rfl, ?_, HB0.out⟩
     rw [show mkW k tx n ks = .word (quo [102, 101, 101, 100] tx) from by simp [mkW, Hhb11.out, Hhb12.out, Hhb5.out, Hhb8.out]]
     exact Wx.word _
    ·refine wp_y (v := (.bool false)) rfl rfl (y_bin (k := .i64) (k' := .i64) (m := k) (n := 9) rfl (hr := beql_int k 9 false Hhb12.out)) rfl ?_
     try simp only [nA, nB, nC]
     refine qv (.bool false) ?_
     simp only [nA, nB, nC]
     refine we ?_
     go_upto_region 11 with fail
     refine rl ?_
     rcases bt ((k == (11 : Int))) with Hhb13 | Hhb13
     ·have hk11 : k = 11 := by simpa using Hhb13.out
      clear hk11
      refine qb (beql_int k 11 true Hhb13.out) ?_
      refine qv (.bool true) ?_
      simp only [nA, nB, nC]
      refine we ?_
      go_upto_region 12 with fail
      refine rl ?_
      refine qf (fa_api_Node_1 g1 0) ?_
      refine ql (strV tx) Tryz.isAgg9 1 K2 ?_
      refine qv (.slice a2 ks.length c2) ?_
      simp only [nA, nB, nC]
      refine wp_y (v := (.agg #[(strV tx), (.slice a2 ks.length c2)])) rfl rfl (y_val2 rfl (h := fun w' h => by rw [h]; exact run_buildOp rfl (by kernel_rfl) (bu_show_list_0_1 w3 tx a2 ks.length c2))) rfl ?_
      simp only [nA, nB, nC]
      refine wp_y (v := (.iface 123 (.agg #[(strV tx), (.slice a2 ks.length c2)]))) rfl rfl (y_mkI rfl (by kernel_rfl) (by kernel_rfl) (fun w => mk_show_list _ w)) rfl ?_
      simp only [nA, nB, nC]
      refine qv (.iface 123 (.agg #[(strV tx), (.slice a2 ks.length c2)])) ?_
      simp only [nA, nB, nC]
      refine we ?_
      go_wp2_with fail
      go_ret
      refine ⟨_, rfl, ?_, HB0.out⟩
      rw [show mkW k tx n ks = .list tx ks from by simp [mkW, Hhb11.out, Hhb12.out, Hhb13.out, Hhb5.out, Hhb8.out]]
      exact HS.out.list _
     ·refine wp_y (v := (.bool false)) rfl rfl (y_bin (k := .i64) (k' := .i64) (m := k) (n := 11) rfl (hr := beql_int k 11 false Hhb13.out)) rfl ?_
      try simp only [nA, nB, nC]
      refine qv (.bool false) ?_
      simp only [nA, nB, nC]
      refine we ?_
      go_upto_region 13 with fail
      refine rl ?_
      rcases bt ((k == (15 : Int))) with Hhb14 | Hhb14
      ·have hk15 : k = 15 := by simpa using Hhb14.out
       clear hk15
       refine qb (beql_int k 15 true Hhb14.out) ?_
       refine qv (.bool true) ?_
       simp only [nA, nB, nC]
       refine we ?_
       go_upto_region 14 with fail
       refine rl ?_
       refine qf (fa_api_Node_1 g1 0) ?_
       refine ql (strV tx) Tryz.isAgg9 1 K2 ?_
       simp only [nA, nB, nC]
       refine qc #[(strV [112, 105, 99, 107]), (strV tx)] ?_
       have HCA := hid (quoted_any [112, 105, 99, 107] tx w3 (by have := HT.out; simp only [List.length_cons, List.length_nil]; omega))
       refine HCA.out.mono ?_
       rintro e wz ⟨rfl, hwz⟩
       refine ⟨_, rfl, ?_⟩
       obtain rfl := hwz.symm
       try simp only [Act.put, nA, nB, nC]
       refine qv (.slice a2 ks.length c2) ?_
       simp only [nA, nB, nC]
       refine wp_y (v := (.agg #[(strV (quo [112, 105, 99, 107] tx)), (.slice a2 ks.length c2)])) rfl rfl (y_val2 rfl (h := fun w' h => by rw [h]; exact run_buildOp rfl (by kernel_rfl) (bu_show_list_0_1 w3 (quo [112, 105, 99, 107] tx) a2 ks.length c2))) rfl ?_
       simp only [nA, nB, nC]
       refine wp_y (v := (.iface 123 (.agg #[(strV (quo [112, 105, 99, 107] tx)), (.slice a2 ks.length c2)]))) rfl rfl (y_mkI rfl (by kernel_rfl) (by kernel_rfl) (fun w => mk_show_list _ w)) rfl ?_
       simp only [nA, nB, nC]
       refine qv (.iface 123 (.agg #[(strV (quo [112, 105, 99, 107] tx)), (.slice a2 ks.length c2)])) ?_
       simp only [nA, nB, nC]
       refine we ?_
       go_wp2_with fail
       go_ret
       refine ⟨_, rfl, ?_, HB0.out⟩
       rw [show mkW k tx n ks = .list (quo [112, 105, 99, 107] tx) ks from by simp [mkW, Hhb11.out, Hhb12.out, Hhb13.out, Hhb14.out, Hhb5.out, Hhb8.out]]
       exact HS.out.list _
      ·refine wp_y (v := (.bool false)) rfl rfl (y_bin (k := .i64) (k' := .i64) (m := k) (n := 15) rfl (hr := beql_int k 15 false Hhb14.out)) rfl ?_
       try simp only [nA, nB, nC]
       refine qv (.bool false) ?_
       simp only [nA, nB, nC]
       refine we ?_
       go_upto_region 15 with fail
       refine rl ?_
       rcases bt ((k == (12 : Int))) with Hhb15 | Hhb15
       ·have hk12 : k = 12 := by simpa using Hhb15.out
        have HKN := hid (kidsOk_of (lo := 1) (hi := 1) HKO.out (by rw [hk12]; rfl))
        obtain ⟨b0, o0, v0, he0, hc0, hv0⟩ := HS.out.at 0 (by have := HKN.out; omega)
        subst he0
        have HC0 := hid hc0
        have HV0 := hid hv0
        clear hc0 hv0
        clear hk12
        refine qb (beql_int k 12 true Hhb15.out) ?_
        refine qv (.bool true) ?_
        simp only [nA, nB, nC]
        refine we ?_
        go_upto_region 16 with fail
        obtain ⟨w16, hwd⟩ : ∃ x, x = w3.drew := ⟨_, rfl⟩
        have HB17 : Hid (Below w3.heap.size w3 w16) := hid (by rw [hwd]; exact ⟨rfl, rfl, rfl, Nat.le_refl _, fun _ _ => rfl⟩)
        refine h_openL (S := fun x => Below w16.heap.size w16 x) (by kernel_rfl) (by kernel_rfl) (fun _ _ _ _ _ h => h) (L := #[false, false, false, false, false, false, false, false, false]) (by kernel_rfl) ?_
        intro Q' hns hP hN
        rw [← hwd]
        clear hwd
        replace K2 := ka HB17 K2
        replace HTB := hid (HTB.out.below HB17.out)
        replace HS := hid (HS.out.keep (kx_below HB17.out))
        replace HC0 := hid ((HB17.out.cell (p := ⟨b0, o0 + 0, none⟩) (World.block_lt_of_cell? _ _ HC0.out)).trans HC0.out)
        replace HV0 := hid (HV0.out.keep (kx_below HB17.out))
        replace HB0 := kb HB0 HB17
        have hS : Below w16.heap.size w16 w16 := Below.refl _ _
        refine h_takeL (i := 0) (v := (.pointer (some ⟨g1, 1, none⟩))) hns rfl rfl (by kernel_rfl) (by kernel_rfl) hP (y_faddr rfl (hf := fa_api_Node_1 g1 0)) hS rfl (L' := #[true, false, false, false, false, false, false, false, false]) (by kernel_rfl) ?_
        try simp only [nA, nB, nC]
        refine h_takeL (i := 1) (v := (strV tx)) hns rfl rfl (by kernel_rfl) (by kernel_rfl) hP (y_load rfl (hl := fun w' h => load1 Tryz.isAgg9 (cell_at (below_at h K2.out (heap_lt K2.out)) 1 rfl))) hS rfl (L' := #[true, true, false, false, false, false, false, false, false]) (by kernel_rfl) ?_
        try simp only [nA, nB, nC]
        refine h_takeL (i := 3) (v := (.slice (some ⟨b0, o0, none⟩) ks.length c2)) hns rfl rfl (by kernel_rfl) (by kernel_rfl) hP (y_move rfl) hS rfl (L' := #[true, true, false, true, false, false, false, false, false]) (by kernel_rfl) ?_
        try simp only [nA, nB, nC]
        refine h_takeL (i := 4) (v := (.pointer (some ⟨b0, o0 + 0, none⟩))) hns rfl rfl (by kernel_rfl) (by kernel_rfl) hP (y_index rfl (hr := idx_w b0 o0 ks.length c2 0 (by have := HKN.out; omega))) hS rfl (L' := #[true, true, false, true, true, false, false, false, false]) (by kernel_rfl) ?_
        try simp only [nA, nB, nC]
        refine h_takeL (i := 5) (v := v0) hns rfl rfl (by kernel_rfl) (by kernel_rfl) hP (y_load rfl (hl := fun w' h => load1 Tryz.isAgg36 ((h.cell (p := ⟨b0, o0 + 0, none⟩) (World.block_lt_of_cell? _ _ HC0.out)).trans HC0.out))) hS rfl (L' := #[true, true, false, true, true, true, false, false, false]) (by kernel_rfl) ?_
        try simp only [nA, nB, nC]
        refine h_callL (i := 2) (f := 121) (args := #[(strV tx)]) (by kernel_rfl) rfl rfl (by kernel_rfl) (enter_go rfl (by kernel_rfl) (fun w => by go_simp)) (L' := #[true, true, true, true, true, true, false, false, false]) (by kernel_rfl) ?_
        have HCA := hid (ahead_any tx w16 (by have := HT.out; omega))
        refine HCA.out.mono ?_
        rintro e wz ⟨rfl, hwz⟩
        refine ⟨_, rfl, by rw [hwz]; exact hS, ?_⟩
        obtain rfl := hwz.symm
        try simp only [nA, nB, nC]
        refine h_takeL (i := 6) (v := (.agg #[(strV (ahd tx)), v0])) hns rfl rfl (by kernel_rfl) (by kernel_rfl) hP (y_val2 rfl (h := fun w' _ => run_buildOp rfl (by kernel_rfl) (bu_show_unary_0_1 w' (ahd tx) v0 HV0.out.ifc))) hS rfl (L' := #[true, true, true, true, true, true, true, false, false]) (by kernel_rfl) ?_
        try simp only [nA, nB, nC]
        refine h_takeL (i := 7) (v := (.iface 130 (.agg #[(strV (ahd tx)), v0]))) hns rfl rfl (by kernel_rfl) (by kernel_rfl) hP (y_mkI rfl (by kernel_rfl) (by kernel_rfl) (fun w => mk_show_unary _ w)) hS rfl (L' := #[true, true, true, true, true, true, true, true, false]) (by kernel_rfl) ?_
        try simp only [nA, nB, nC]
        refine h_takeL (i := 8) (v := (.iface 130 (.agg #[(strV (ahd tx)), v0]))) hns rfl rfl (by kernel_rfl) (by kernel_rfl) hP (y_assign rfl) hS rfl (L' := #[true, true, true, true, true, true, true, true, true]) (by kernel_rfl) ?_
        try simp only [nA, nB, nC]
        refine wpAnyH_done (by kernel_rfl) ?_ _
        refine hN _ _ ?_
        clear hP hN hns hS
        go_wp2_with fail
        go_ret
        refine ⟨_, rfl, ?_, HB0.out⟩
        rw [show mkW k tx n ks = .unary (ahd tx) (ks.getD 0 (.word [])) from by simp [mkW, Hhb11.out, Hhb12.out, Hhb13.out, Hhb14.out, Hhb15.out, Hhb5.out, Hhb8.out]]
        exact Wx.unary _ HV0.out
       ·refine wp_y (v := (.bool false)) rfl rfl (y_bin (k := .i64) (k' := .i64) (m := k) (n := 12) rfl (hr := beql_int k 12 false Hhb15.out)) rfl ?_
        try simp only [nA, nB, nC]
        refine qv (.bool false) ?_
        simp only [nA, nB, nC]
        refine we ?_
        go_upto_region 17 with fail
        refine rl ?_
        rcases bt ((k == (13 : Int))) with Hhb18 | Hhb18
        ·have hk13 : k = 13 := by simpa using Hhb18.out
         have HKN := hid (kidsOk_of (lo := 2) (hi := 2) HKO.out (by rw [hk13]; rfl))
         obtain ⟨b0, o0, v0, he0, hc0, hv0⟩ := HS.out.at 0 (by have := HKN.out; omega)
         obtain ⟨b1, o1, v1, he1, hc1, hv1⟩ := HS.out.at 1 (by have := HKN.out; omega)
         subst he0
         cases he1
         have HC0 := hid hc0
         have HV0 := hid hv0
         clear hc0 hv0
         have HC1 := hid hc1
         have HV1 := hid hv1
         clear hc1 hv1
         clear hk13
         refine qb (beql_int k 13 true Hhb18.out) ?_
         refine qv (.bool true) ?_
         simp only [nA, nB, nC]
         refine we ?_
         go_upto_region 18 with fail
         obtain ⟨w19, hwd⟩ : ∃ x, x = w3.drew := ⟨_, rfl⟩
         have HB20 : Hid (Below w3.heap.size w3 w19) := hid (by rw [hwd]; exact ⟨rfl, rfl, rfl, Nat.le_refl _, fun _ _ => rfl⟩)
         refine h_openL (S := fun x => Below w19.heap.size w19 x) (by kernel_rfl) (by kernel_rfl) (fun _ _ _ _ _ h => h) (L := #[false, false, false, false, false, false, false, false, false, false, false]) (by kernel_rfl) ?_
         intro Q' hns hP hN
         rw [← hwd]
         clear hwd
         replace K2 := ka HB20 K2
         replace HTB := hid (HTB.out.below HB20.out)
         replace HS := hid (HS.out.keep (kx_below HB20.out))
         replace HC0 := hid ((HB20.out.cell (p := ⟨b0, o0 + 0, none⟩) (World.block_lt_of_cell? _ _ HC0.out)).trans HC0.out)
         replace HV0 := hid (HV0.out.keep (kx_below HB20.out))
         replace HC1 := hid ((HB20.out.cell (p := ⟨b0, o0 + 1, none⟩) (World.block_lt_of_cell? _ _ HC1.out)).trans HC1.out)
         replace HV1 := hid (HV1.out.keep (kx_below HB20.out))
         replace HB0 := kb HB0 HB20
         have hS : Below w19.heap.size w19 w19 := Below.refl _ _
         refine h_takeL (i := 0) (v := (.pointer (some ⟨g1, 1, none⟩))) hns rfl rfl (by kernel_rfl) (by kernel_rfl) hP (y_faddr rfl (hf := fa_api_Node_1 g1 0)) hS rfl (L' := #[true, false, false, false, false, false, false, false, false, false, false]) (by kernel_rfl) ?_
         try simp only [nA, nB, nC]
         refine h_takeL (i := 1) (v := (strV tx)) hns rfl rfl (by kernel_rfl) (by kernel_rfl) hP (y_load rfl (hl := fun w' h => load1 Tryz.isAgg9 (cell_at (below_at h K2.out (heap_lt K2.out)) 1 rfl))) hS rfl (L' := #[true, true, false, false, false, false, false, false, false, false, false]) (by kernel_rfl) ?_
         try simp only [nA, nB, nC]
         refine h_takeL (i := 2) (v := (.slice (some ⟨b0, o0, none⟩) ks.length c2)) hns rfl rfl (by kernel_rfl) (by kernel_rfl) hP (y_move rfl) hS rfl (L' := #[true, true, true, false, false, false, false, false, false, false, false]) (by kernel_rfl) ?_
         try simp only [nA, nB, nC]
         refine h_takeL (i := 3) (v := (.pointer (some ⟨b0, o0 + 0, none⟩))) hns rfl rfl (by kernel_rfl) (by kernel_rfl) hP (y_index rfl (hr := idx_w b0 o0 ks.length c2 0 (by have := HKN.out; omega))) hS rfl (L' := #[true, true, true, true, false, false, false, false, false, false, false]) (by kernel_rfl) ?_
         try simp only [nA, nB, nC]
         refine h_takeL (i := 4) (v := v0) hns rfl rfl (by kernel_rfl) (by kernel_rfl) hP (y_load rfl (hl := fun w' h => load1 Tryz.isAgg36 ((h.cell (p := ⟨b0, o0 + 0, none⟩) (World.block_lt_of_cell? _ _ HC0.out)).trans HC0.out))) hS rfl (L' := #[true, true, true, true, true, false, false, false, false, false, false]) (by kernel_rfl) ?_
         try simp only [nA, nB, nC]
         refine h_takeL (i := 5) (v := (.slice (some ⟨b0, o0, none⟩) ks.length c2)) hns rfl rfl (by kernel_rfl) (by kernel_rfl) hP (y_move rfl) hS rfl (L' := #[true, true, true, true, true, true, false, false, false, false, false]) (by kernel_rfl) ?_
         try simp only [nA, nB, nC]
         refine h_takeL (i := 6) (v := (.pointer (some ⟨b0, o0 + 1, none⟩))) hns rfl rfl (by kernel_rfl) (by kernel_rfl) hP (y_index rfl (hr := idx_w b0 o0 ks.length c2 1 (by have := HKN.out; omega))) hS rfl (L' := #[true, true, true, true, true, true, true, false, false, false, false]) (by kernel_rfl) ?_
         try simp only [nA, nB, nC]
         refine h_takeL (i := 7) (v := v1) hns rfl rfl (by kernel_rfl) (by kernel_rfl) hP (y_load rfl (hl := fun w' h => load1 Tryz.isAgg36 ((h.cell (p := ⟨b0, o0 + 1, none⟩) (World.block_lt_of_cell? _ _ HC1.out)).trans HC1.out))) hS rfl (L' := #[true, true, true, true, true, true, true, true, false, false, false]) (by kernel_rfl) ?_
         try simp only [nA, nB, nC]
         refine h_takeL (i := 8) (v := (.agg #[(strV tx), v0, v1])) hns rfl rfl (by kernel_rfl) (by kernel_rfl) hP (y_val2 rfl (h := fun w' _ => run_buildOp rfl (by kernel_rfl) (bu_show_binary_0_1_2 w' tx v0 HV0.out.ifc v1 HV1.out.ifc))) hS rfl (L' := #[true, true, true, true, true, true, true, true, true, false, false]) (by kernel_rfl) ?_
         try simp only [nA, nB, nC]
         refine h_takeL (i := 9) (v := (.iface 132 (.agg #[(strV tx), v0, v1]))) hns rfl rfl (by kernel_rfl) (by kernel_rfl) hP (y_mkI rfl (by kernel_rfl) (by kernel_rfl) (fun w => mk_show_binary _ w)) hS rfl (L' := #[true, true, true, true, true, true, true, true, true, true, false]) (by kernel_rfl) ?_
         try simp only [nA, nB, nC]
         refine h_takeL (i := 10) (v := (.iface 132 (.agg #[(strV tx), v0, v1]))) hns rfl rfl (by kernel_rfl) (by kernel_rfl) hP (y_assign rfl) hS rfl (L' := #[true, true, true, true, true, true, true, true, true, true, true]) (by kernel_rfl) ?_
         try simp only [nA, nB, nC]
         refine wpAnyH_done (by kernel_rfl) ?_ _
         refine hN _ _ ?_
         clear hP hN hns hS
         go_wp2_with fail
         go_ret
         refine ⟨_, rfl, ?_, HB0.out⟩
         rw [show mkW k tx n ks = .binary tx (ks.getD 0 (.word [])) (ks.getD 1 (.word [])) from by simp [mkW, Hhb11.out, Hhb12.out, Hhb13.out, Hhb14.out, Hhb15.out, Hhb18.out, Hhb5.out, Hhb8.out]]
         exact Wx.binary _ HV0.out HV1.out
        ·refine wp_y (v := (.bool false)) rfl rfl (y_bin (k := .i64) (k' := .i64) (m := k) (n := 13) rfl (hr := beql_int k 13 false Hhb18.out)) rfl ?_
         try simp only [nA, nB, nC]
         refine qv (.bool false) ?_
         simp only [nA, nB, nC]
         refine we ?_
         go_upto_region 19 with fail
         refine rl ?_
         rcases bt ((k == (14 : Int))) with Hhb21 | Hhb21
         ·have hk14 : k = 14 := by simpa using Hhb21.out
          have HKN := hid (kidsOk_of (lo := 3) (hi := 3) HKO.out (by rw [hk14]; rfl))
          obtain ⟨b0, o0, v0, he0, hc0, hv0⟩ := HS.out.at 0 (by have := HKN.out; omega)
          obtain ⟨b1, o1, v1, he1, hc1, hv1⟩ := HS.out.at 1 (by have := HKN.out; omega)
          obtain ⟨b2, o2, v2, he2, hc2, hv2⟩ := HS.out.at 2 (by have := HKN.out; omega)
          subst he0
          cases he1
          cases he2
          have HC0 := hid hc0
          have HV0 := hid hv0
          clear hc0 hv0
          have HC1 := hid hc1
          have HV1 := hid hv1
          clear hc1 hv1
          have HC2 := hid hc2
          have HV2 := hid hv2
          clear hc2 hv2
          clear hk14
          refine qb (beql_int k 14 true Hhb21.out) ?_
          refine qv (.bool true) ?_
          simp only [nA, nB, nC]
          refine we ?_
          go_upto_region 20 with fail
          obtain ⟨w22, hwd⟩ : ∃ x, x = w3.drew := ⟨_, rfl⟩
          have HB23 : Hid (Below w3.heap.size w3 w22) := hid (by rw [hwd]; exact ⟨rfl, rfl, rfl, Nat.le_refl _, fun _ _ => rfl⟩)
          refine h_openL (S := fun x => Below w22.heap.size w22 x) (by kernel_rfl) (by kernel_rfl) (fun _ _ _ _ _ h => h) (L := #[false, false, false, false, false, false, false, false, false, false, false, false]) (by kernel_rfl) ?_
          intro Q' hns hP hN
          rw [← hwd]
          clear hwd
          replace K2 := ka HB23 K2
          replace HTB := hid (HTB.out.below HB23.out)
          replace HS := hid (HS.out.keep (kx_below HB23.out))
          replace HC0 := hid ((HB23.out.cell (p := ⟨b0, o0 + 0, none⟩) (World.block_lt_of_cell? _ _ HC0.out)).trans HC0.out)
          replace HV0 := hid (HV0.out.keep (kx_below HB23.out))
          replace HC1 := hid ((HB23.out.cell (p := ⟨b0, o0 + 1, none⟩) (World.block_lt_of_cell? _ _ HC1.out)).trans HC1.out)
          replace HV1 := hid (HV1.out.keep (kx_below HB23.out))
          replace HC2 := hid ((HB23.out.cell (p := ⟨b0, o0 + 2, none⟩) (World.block_lt_of_cell? _ _ HC2.out)).trans HC2.out)
          replace HV2 := hid (HV2.out.keep (kx_below HB23.out))
          replace HB0 := kb HB0 HB23
          have hS : Below w22.heap.size w22 w22 := Below.refl _ _
          refine h_takeL (i := 0) (v := (.slice (some ⟨b0, o0, none⟩) ks.length c2)) hns rfl rfl (by kernel_rfl) (by kernel_rfl) hP (y_move rfl) hS rfl (L' := #[true, false, false, false, false, false, false, false, false, false, false, false]) (by kernel_rfl) ?_
          try simp only [nA, nB, nC]
          refine h_takeL (i := 1) (v := (.pointer (some ⟨b0, o0 + 0, none⟩))) hns rfl rfl (by kernel_rfl) (by kernel_rfl) hP (y_index rfl (hr := idx_w b0 o0 ks.length c2 0 (by have := HKN.out; omega))) hS rfl (L' := #[true, true, false, false, false, false, false, false, false, false, false, false]) (by kernel_rfl) ?_
          try simp only [nA, nB, nC]
          refine h_takeL (i := 2) (v := v0) hns rfl rfl (by kernel_rfl) (by kernel_rfl) hP (y_load rfl (hl := fun w' h => load1 Tryz.isAgg36 ((h.cell (p := ⟨b0, o0 + 0, none⟩) (World.block_lt_of_cell? _ _ HC0.out)).trans HC0.out))) hS rfl (L' := #[true, true, true, false, false, false, false, false, false, false, false, false]) (by kernel_rfl) ?_
          try simp only [nA, nB, nC]
          refine h_takeL (i := 3) (v := (.slice (some ⟨b0, o0, none⟩) ks.length c2)) hns rfl rfl (by kernel_rfl) (by kernel_rfl) hP (y_move rfl) hS rfl (L' := #[true, true, true, true, false, false, false, false, false, false, false, false]) (by kernel_rfl) ?_
          try simp only [nA, nB, nC]
          refine h_takeL (i := 4) (v := (.pointer (some ⟨b0, o0 + 1, none⟩))) hns rfl rfl (by kernel_rfl) (by kernel_rfl) hP (y_index rfl (hr := idx_w b0 o0 ks.length c2 1 (by have := HKN.out; omega))) hS rfl (L' := #[true, true, true, true, true, false, false, false, false, false, false, false]) (by kernel_rfl) ?_
          try simp only [nA, nB, nC]
          refine h_takeL (i := 5) (v := v1) hns rfl rfl (by kernel_rfl) (by kernel_rfl) hP (y_load rfl (hl := fun w' h => load1 Tryz.isAgg36 ((h.cell (p := ⟨b0, o0 + 1, none⟩) (World.block_lt_of_cell? _ _ HC1.out)).trans HC1.out))) hS rfl (L' := #[true, true, true, true, true, true, false, false, false, false, false, false]) (by kernel_rfl) ?_
          try simp only [nA, nB, nC]
          refine h_takeL (i := 6) (v := (.slice (some ⟨b0, o0, none⟩) ks.length c2)) hns rfl rfl (by kernel_rfl) (by kernel_rfl) hP (y_move rfl) hS rfl (L' := #[true, true, true, true, true, true, true, false, false, false, false, false]) (by kernel_rfl) ?_
          try simp only [nA, nB, nC]
          refine h_takeL (i := 7) (v := (.pointer (some ⟨b0, o0 + 2, none⟩))) hns rfl rfl (by kernel_rfl) (by kernel_rfl) hP (y_index rfl (hr := idx_w b0 o0 ks.length c2 2 (by have := HKN.out; omega))) hS rfl (L' := #[true, true, true, true, true, true, true, true, false, false, false, false]) (by kernel_rfl) ?_
          try simp only [nA, nB, nC]
          refine h_takeL (i := 8) (v := v2) hns rfl rfl (by kernel_rfl) (by kernel_rfl) hP (y_load rfl (hl := fun w' h => load1 Tryz.isAgg36 ((h.cell (p := ⟨b0, o0 + 2, none⟩) (World.block_lt_of_cell? _ _ HC2.out)).trans HC2.out))) hS rfl (L' := #[true, true, true, true, true, true, true, true, true, false, false, false]) (by kernel_rfl) ?_
          try simp only [nA, nB, nC]
          refine h_takeL (i := 9) (v := (.agg #[v0, v1, v2])) hns rfl rfl (by kernel_rfl) (by kernel_rfl) hP (y_val2 rfl (h := fun w' _ => run_buildOp rfl (by kernel_rfl) (bu_show_choice_0_1_2 w' v0 HV0.out.ifc v1 HV1.out.ifc v2 HV2.out.ifc))) hS rfl (L' := #[true, true, true, true, true, true, true, true, true, true, false, false]) (by kernel_rfl) ?_
          try simp only [nA, nB, nC]
          refine h_takeL (i := 10) (v := (.iface 134 (.agg #[v0, v1, v2]))) hns rfl rfl (by kernel_rfl) (by kernel_rfl) hP (y_mkI rfl (by kernel_rfl) (by kernel_rfl) (fun w => mk_show_choice _ w)) hS rfl (L' := #[true, true, true, true, true, true, true, true, true, true, true, false]) (by kernel_rfl) ?_
          try simp only [nA, nB, nC]
          refine h_takeL (i := 11) (v := (.iface 134 (.agg #[v0, v1, v2]))) hns rfl rfl (by kernel_rfl) (by kernel_rfl) hP (y_assign rfl) hS rfl (L' := #[true, true, true, true, true, true, true, true, true, true, true, true]) (by kernel_rfl) ?_
          try simp only [nA, nB, nC]
          refine wpAnyH_done (by kernel_rfl) ?_ _
          refine hN _ _ ?_
          clear hP hN hns hS
          go_wp2_with fail
          go_ret
          refine ⟨_, rfl, ?_, HB0.out⟩
          rw [show mkW k tx n ks = .choice (ks.getD 0 (.word [])) (ks.getD 1 (.word [])) (ks.getD 2 (.word [])) from by simp [mkW, Hhb11.out, Hhb12.out, Hhb13.out, Hhb14.out, Hhb15.out, Hhb18.out, Hhb21.out, Hhb5.out, Hhb8.out]]
          exact Wx.choice HV0.out HV1.out HV2.out
         ·refine wp_y (v := (.bool false)) rfl rfl (y_bin (k := .i64) (k' := .i64) (m := k) (n := 14) rfl (hr := beql_int k 14 false Hhb21.out)) rfl ?_
          try simp only [nA, nB, nC]
          refine qv (.bool false) ?_
          simp only [nA, nB, nC]
          refine we ?_
          go_upto_region 21 with fail
          refine rl ?_
          refine qf (fa_api_Node_1 g1 0) ?_
          refine ql (strV tx) Tryz.isAgg9 1 K2 ?_
          simp only [nA, nB, nC]
          refine wp_y (v := (.iface 64 (strV tx))) rfl rfl (y_mkI rfl (by kernel_rfl) (by kernel_rfl) (fun w => mk_show_word _ w)) rfl ?_
          simp only [nA, nB, nC]
          refine qv (.iface 64 (strV tx)) ?_
          simp only [nA, nB, nC]
          refine we ?_
          go_wp2_with fail
          go_ret
          refine ⟨_, rfl, ?_, HB0.out⟩
          rw [show mkW k tx n ks = .word tx from by simp [mkW, Hhb11.out, Hhb12.out, Hhb13.out, Hhb14.out, Hhb15.out, Hhb18.out, Hhb21.out, Hhb5.out, Hhb8.out]]
          exact Wx.word _
theorem st_x {T : TypeId} {k : Nat} {w : World} {g : Nat} {c c' : Array Value} {t : TypeId} (hz : (Tryz.prog.info? T).map (·.size) = some k) (hk : c.size = k) (hk' : c'.size = k) (hg : w.heap[g]? = some (.cells c t (0, 0))) (h1 : ∀ v ∈ c'.toList, v.oneCell' = true) : ∃ w1, (Instr.storeAt T (.pointer (some ⟨g, 0, none⟩)) (.agg c')).run Tryz.prog w = .ok () w1 ∧ w1.heap[g]? = some (.cells c' t (0, 0)) ∧ Fr [g] w w1 := by
 refine ⟨_, storeAt_all hz hk hk' hg h1, ?_, Fr.setRow w g c'⟩
 simp [World.setRow, Array.getElem?_modify, hg]
theorem Nd.kid {w : World} {k : Int} {tx : List UInt8} {n : Int} {a : Option Addr} {N c : Nat} {at_ : Int} {kids : List Tr} (h : Nd w (nv k tx n (.slice a N c) at_) (.mk k tx n kids at_)) {i : Nat} {t : Tr} (ht : kids[i]? = some t) : ∃ b o k' tx' n' ks' at' a' c', a = some ⟨b, o, none⟩ ∧ t = .mk k' tx' n' ks' at' ∧ Cl w b (o + i * 5) (nv k' tx' n' (.slice a' ks'.length c') at') ∧ Nd w (nv k' tx' n' (.slice a' ks'.length c') at') t := by
 obtain ⟨a2, c2, e, hl, hk⟩ := h.open
 obtain ⟨b, o, u, e2, hc, hn⟩ := hk i t ht
 have e3 : a = a2 := by unfold nv at e; injection e with e; simp at e; exact e.1
 subst e3
 obtain ⟨k', tx', n', ks', at'⟩ := t
 obtain ⟨a', c', rfl, -, -⟩ := hn.open
 exact ⟨b, o, k', tx', n', ks', at', a', c', e2, rfl, hc, hn⟩
def Wo (n : Nat) (w : World) (v : Value) (xs : List Wr) : Prop := ∃ vs : List Value, w.ownsRow n 36 1 v xs.length vs ∧ ∀ (i : Nat) (x : Wr), xs[i]? = some x → ∃ u, vs[i]? = some u ∧ Wx (fun b => b < n ∨ v.ownBlock = some b) w u x
theorem Wo.nil (n : Nat) (w : World) : Wo n w (.slice none 0 0) [] := ⟨[], ⟨rfl, .inl ⟨rfl, rfl⟩⟩, fun i x h => by simp at h⟩
theorem Wo.keep {n : Nat} {w w' : World} {v : Value} {xs : List Wr} (h : Wo n w v xs) (k : Kx (fun _ => False) w w') : Wo n w' v xs := by
 obtain ⟨vs, ho, hx⟩ := h
 refine ⟨vs, ⟨ho.1, ?_⟩, fun i x hi => ?_⟩
 ·rcases ho.2 with h | ⟨g, cap, cur, a, b, hg, r⟩
  ·exact .inl h
  ·exact .inr ⟨g, cap, cur, a, b, k _ _ _ (fun h => h) hg, r⟩
 ·obtain ⟨u, h1, h2⟩ := hx i x hi
  exact ⟨u, h1, h2.keep fun b cs z _ hh => k b cs z (fun h => h) hh⟩
theorem Wo.val {n : Nat} {w : World} {v : Value} {xs : List Wr} (h : Wo n w v xs) : ∃ a c, v = .slice a xs.length c := by
 obtain ⟨vs, ho, hx⟩ := h
 rcases ho.2 with ⟨h, h0⟩ | ⟨g, cap, cur, a, b, hg, r⟩
 ·exact ⟨none, 0, by rw [h, h0]⟩
 ·exact ⟨_, _, a⟩
theorem Wo.wsx {n : Nat} {w : World} {v : Value} {xs : List Wr} (h : Wo n w v xs) (hl : xs.length ≤ 9223372036854775807) : Wsx (fun b => b < n) w v xs := by
 obtain ⟨a, c, he⟩ := h.val
 obtain ⟨vs, ho, hx⟩ := h
 refine ⟨a, c, he, hl, fun i x hi => ?_⟩
 obtain ⟨u, h1, h2⟩ := hx i x hi
 rcases ho.2 with ⟨h, h0⟩ | ⟨g, cap, cur, e, hb, hg, h3, h4, h5, h6⟩
 ·rw [List.eq_nil_of_length_eq_zero h0] at hi; simp at hi
 ·rw [e] at he
  injection he with he
  have hlt := (List.getElem?_eq_some_iff.1 hi).1
  refine ⟨g, 0, cur, (0, 0), u, he.symm, by omega, hg, ?_, h2.other (Kx.refl _ _) (fun b cs z _ hb => fun h => hb (.inl h))⟩
  rw [Nat.zero_add, ← h1, ← h6, List.getElem?_take_of_lt (by omega), Array.getElem?_toList]
theorem grown_fr {w w' : World} {row : Option Nat} (h : w.grownBy w' row) : Fr row.toList w w' := ⟨h.os, h.tape, h.output, h.size, fun i hi hn => h.block i hi (fun e => hn (by rw [← e]; simp))⟩
theorem inf37 : ∃ i, Tryz.prog.info? 36 = some i ∧ i.zero = some .nilIface ∧ i.size = 1 ∧ i.bytes = 16 := info_parts (by kernel_rfl)
theorem Wo.own_lt {n : Nat} {w : World} {v : Value} {xs : List Wr} (h : Wo n w v xs) {b : Nat} (hb : v.ownBlock = some b) : ∃ c, w.heap[b]? = some (.cells c 36 (0, 0)) ∧ n ≤ b := by
 obtain ⟨vs, ho, hx⟩ := h
 rcases ho.2 with ⟨h, h0⟩ | ⟨g, cap, cur, e, hn, hg, r⟩
 ·rw [h] at hb; cases hb
 ·rw [e] at hb; cases hb; exact ⟨cur, hg, hn⟩
theorem Wo.app {n : Nat} {w : World} {v u : Value} {xs : List Wr} {x : Wr} (h : Wo n w v xs) (hu : Wx (fun b => b < n ∨ v.ownBlock = some b) w u x) (hlen : xs.length + 1 ≤ 10000) (hn : n ≤ w.heap.size) {g : Nat} (hg : w.heap[g]? = some (.cells #[u] 36 (0, 0))) :
  ∃ v' w', (∀ ty, (Builtin.append_ #[65, 65] ty #[v, .slice (some ⟨g, 0, none⟩) 1 1]).run Tryz.prog w = .ok v' w') ∧ Wo n w' v' (xs ++ [x]) ∧ Fr v.ownBlock.toList w w' := by
 obtain ⟨vs, ho, hx⟩ := h
 obtain ⟨i0, hi, hz0, hz1, hz2⟩ := inf37
 obtain ⟨t, pv, rfl⟩ := hu.ifc
 have key := fun ty => run_append_own_at (P := Tryz.prog) (w := w) n 65 ty 36 i0 .nilIface 1 16 (by kernel_rfl) hi hz0 hz1 hz2 rfl (by decide) v _ vs ho ⟨g, 0, none⟩ 1 1 [.iface t pv] rfl (fun j u hj => by
  match j, hj with
  | 0, hj => cases hj; rw [add_lit]; exact cell_at hg 0 rfl) (fun u hu => by simp at hu; subst hu; rfl) (by unfold maxLen; omega) (by omega) hn
 obtain ⟨v', w', h1, h2, h3, -, h5⟩ := key 0
 have hF := grown_fr h3
 have hl : vs.length = xs.length := by simpa using ho.1
 have hK : Kx (fun b => b < n ∨ v.ownBlock = some b) w w' := fun b cs z hb hh => hF.at hh (fun hm => hb (.inr (by simpa using hm)))
 have hne : ∀ b cs z, w.heap[b]? = some (Obj.cells cs 36 z) → ¬ (b < n ∨ v.ownBlock = some b) → ¬ (b < n ∨ v'.ownBlock = some b) := by
  intro b cs z hb hc hd
  rcases hd with hd | hd
  ·exact hc (.inl hd)
  ·rcases h5 with h5 | h5
   ·exact hc (.inr (by rw [← h5]; exact hd))
   ·have := heap_lt hb
    rw [h5] at hd; cases hd; omega
 refine ⟨v', w', fun ty => h1, ⟨vs ++ [.iface t pv], by rw [List.length_append]; exact h2, fun i y hi => ?_⟩, hF⟩
 by_cases hlt : i < xs.length
 ·rw [List.getElem?_append_left hlt] at hi
  obtain ⟨u, e1, e2⟩ := hx i y hi
  exact ⟨u, by rw [List.getElem?_append_left (by omega)]; exact e1, e2.other hK hne⟩
 ·rw [List.getElem?_append_right (by omega)] at hi
  have hi0 : i = xs.length := by
   have := (List.getElem?_eq_some_iff.1 hi).1
   simp at this; omega
  subst hi0
  simp at hi
  subst hi
  exact ⟨_, by rw [List.getElem?_append_right (by omega)]; simp [hl], hu.other hK hne⟩
theorem cut_split (l : List UInt8) (h : (Lib.cut l [46]).2.2 = true) : l.length = (Lib.cut l [46]).1.length + 1 + (Lib.cut l [46]).2.1.length := by
 rcases Lib.indexB_cases ⟨l.toArray⟩ ⟨#[46]⟩ with hix | ⟨i, hix, hroom⟩
 ·have hix' : Lib.index l [46] = -1 := hix
  unfold Lib.cut at h
  rw [hix'] at h
  simp at h
 ·have hix' : Lib.index l [46] = (i : Int) := hix
  have hr : i + 1 ≤ l.length := by have : i + 1 ≤ (⟨l.toArray⟩ : ByteArray).size := hroom; rw [size_strV] at this; exact this
  unfold Lib.cut
  rw [hix']
  simp
  omega
theorem cut_none (l : List UInt8) (h : (Lib.cut l [46]).2.2 = false) : (Lib.cut l [46]).1 = l := by
 unfold Lib.cut at h ⊢
 split
 ·rename_i h0; rw [if_pos h0] at h; simp at h
 ·rfl
theorem nam_len {l : List UInt8} (h : nam l = true) : l.length ≤ 24 := by
 unfold nam at h; simp only [Bool.and_eq_true, decide_eq_true_eq] at h; exact h.1.2
theorem fre_len {l : List UInt8} (h : fre l = true) : l.length ≤ 24 := by
 unfold fre at h; simp only [Bool.and_eq_true] at h; exact nam_len h.1
theorem nof_len {l : List UInt8} (h : nof l = true) : l.length ≤ 49 := by
 unfold nof at h
 simp only [Bool.and_eq_true, Bool.or_eq_true, Bool.not_eq_true'] at h
 have h1 := fre_len h.1
 cases hb : (Lib.cut l [46]).2.2 with
 | false => rw [cut_none l hb] at h1; omega
 | true =>
  rcases h.2 with h2 | h2
  ·rw [hb] at h2; cases h2
  ·have := cut_split l hb; have := fre_len h2; omega
theorem own_len {k : Int} {tx : List UInt8} {n : Int} (h : own k tx n = true) : tx.length ≤ 49 := by
 have key : ∀ b : Bool, (decide (tx = []) && b) = true → tx.length ≤ 49 := fun b hb => by
  simp only [Bool.and_eq_true, decide_eq_true_eq] at hb; rw [hb.1]; simp
 unfold own at h
 cases h5 : k == 5 with
 | true => rw [h5, cond_true] at h; exact key _ h
 | false =>
  rw [h5, cond_false] at h
  cases h6 : k == 6 with
  | true => rw [h6, cond_true] at h; exact key _ h
  | false =>
   rw [h6, cond_false] at h
   cases h8 : k == 8 with
   | true => rw [h8, cond_true] at h; exact key _ h
   | false =>
    rw [h8, cond_false] at h
    simp only [Bool.and_eq_true] at h
    have h := h.2
    unfold ownT at h
    cases h7 : k == 7 with
    | true => rw [h7, cond_true] at h; unfold cur at h; simp only [Bool.and_eq_true, decide_eq_true_eq] at h; omega
    | false =>
     rw [h7, cond_false] at h
     cases h9 : k == 9 with
     | true => rw [h9, cond_true] at h; have := nam_len h; omega
     | false =>
      rw [h9, cond_false] at h
      cases h15 : k == 15 with
      | true => rw [h15, cond_true] at h; have := nam_len h; omega
      | false =>
       rw [h15, cond_false] at h
       cases h10 : k == 10 with
       | true => rw [h10, cond_true] at h; exact nof_len h
       | false =>
        rw [h10, cond_false] at h
        cases h11 : k == 11 with
        | true => rw [h11, cond_true] at h; exact nof_len h
        | false =>
         rw [h11, cond_false] at h
         cases h12 : k == 12 with
         | true => rw [h12, cond_true, decide_eq_true_eq] at h; simp [uns] at h; rcases h with rfl | rfl <;> simp
         | false =>
          rw [h12, cond_false] at h
          cases h13 : k == 13 with
          | true => rw [h13, cond_true, decide_eq_true_eq] at h; simp [sgns] at h; rcases h with rfl | rfl | rfl | rfl | rfl | rfl | rfl | rfl | rfl <;> simp
          | false =>
           rw [h13, cond_false] at h
           cases h14 : k == 14 with
           | true => rw [h14, cond_true, decide_eq_true_eq] at h; rw [h]; simp
           | false => rw [h14, cond_false] at h; cases h
theorem kids_le {k : Int} {n : Nat} (h : kidsOk k n = true) : n ≤ 8 := by
 unfold kidsOk at h
 simp only [Bool.and_eq_true, decide_eq_true_eq] at h
 have : (kidsOf k).2 ≤ 8 := by unfold kidsOf; repeat' (first | (split; · decide) | decide)
 omega
theorem not_mkr {w : World} {p g : Nat} {m : Int} {c : Array Value} {t : TypeId} {z : Nat × Nat} (h : w.heap[g]? = some (.cells c t z)) (hm : Mkr w p m) (ht : t ≠ 62) : g ∉ [p] := by
 intro hg
 rw [List.mem_singleton] at hg
 subst hg
 rw [Mkr, h] at hm
 cases hm
 exact ht rfl
theorem kx_fr {E : Nat → Prop} {w w' : World} {p : Nat} {m : Int} (hF : Fr [p] w w') (hm : Mkr w p m) : Kx E w w' := fun _ _ _ _ h => hF.at h (not_mkr h hm (by decide))
theorem not_own {n : Nat} {w : World} {v : Value} {xs : List Wr} (h : Wo n w v xs) {g : Nat} {c : Array Value} {t : TypeId} {z : Nat × Nat} (hg : w.heap[g]? = some (.cells c t z)) (ht : t ≠ 36) : g ∉ v.ownBlock.toList := by
 intro hm
 have hb : v.ownBlock = some g := by simpa using hm
 obtain ⟨c', hc, -⟩ := h.own_lt hb
 rw [hg] at hc
 cases hc
 exact ht rfl
theorem lfts_take_nn : ∀ (ks : List Tr) (i : Nat) (m : Int), 0 ≤ lfts ks m → 0 ≤ lfts (ks.take i) m := fun ks i m h => by
 by_cases hx : 0 ≤ lfts (ks.take i) m
 ·exact hx
 ·rw [lfts_over ks i m (by omega)] at h; exact h
theorem rt_no {d : Nat} {ks : List Tr} {j : Nat} {t : Tr} {m : Int} (h : ks[j]? = some t) (hx : 0 ≤ lfts (ks.take j) m) (hs : (rt d t && decide (0 ≤ lft t (lfts (ks.take j) m))) = false) : (ks.all (rt d) && decide (0 ≤ lfts ks m)) = false := by
 cases hr : rt d t with
 | false =>
  have : ks.all (rt d) = false := by
   rw [List.all_eq_false]; exact ⟨t, List.mem_of_getElem? h, by rw [hr]; simp⟩
  rw [this, Bool.false_and]
 | true =>
  rw [hr, Bool.true_and, decide_eq_false_iff_not] at hs
  have : ¬ 0 ≤ lfts ks m := fun h0 => hs (by
   have h1 := lfts_take_nn ks (j + 1) m h0
   rw [take_next h, lfts_snoc _ _ _ hx] at h1
   exact h1)
  rw [decide_eq_false this, Bool.and_false]
theorem rt_next {d : Nat} {ks : List Tr} {j : Nat} {t : Tr} {m : Int} (h : ks[j]? = some t) (ha : (ks.take j).all (rt d) = true) (hx : 0 ≤ lfts (ks.take j) m) (hs : (rt d t && decide (0 ≤ lft t (lfts (ks.take j) m))) = true) : (ks.take (j + 1)).all (rt d) = true ∧ 0 ≤ lfts (ks.take (j + 1)) m ∧ lfts (ks.take (j + 1)) m = lft t (lfts (ks.take j) m) := by
 simp only [Bool.and_eq_true, decide_eq_true_eq] at hs
 rw [take_next h, lfts_snoc _ _ _ hx]
 refine ⟨?_, hs.2, rfl⟩
 rw [List.all_append, ha, Bool.true_and]
 simp [hs.1]
theorem wrsOf_snoc (ks : List Tr) (t : Tr) : wrsOf (ks ++ [t]) = wrsOf ks ++ [wrOf t] := by simp [wrsOf_map]
theorem wrsOf_len (ks : List Tr) : (wrsOf ks).length = ks.length := by simp [wrsOf_map]
theorem Tr.Ok.kid {k : Int} {tx : List UInt8} {n : Int} {ks : List Tr} {at_ : Int} (h : Tr.Ok (.mk k tx n ks at_)) {i : Nat} {t : Tr} (ht : ks[i]? = some t) : t.Ok := by
 cases h with
 | mk _ _ _ _ _ hk hn ha ht' hs => exact hs i t ht
theorem Tr.Ok.text {k : Int} {tx : List UInt8} {n : Int} {ks : List Tr} {at_ : Int} (h : Tr.Ok (.mk k tx n ks at_)) : tx.length ≤ 9223372036854775807 := by
 cases h with
 | mk _ _ _ _ _ hk hn ha ht' hs => exact ht'
def ExP (t : Tr) : Prop := ∀ (B d : Nat) (m : Int) (p : Nat) (w : World) (v : Value), t.Ok → 0 ≤ m → m ≤ 8192 → d ≤ 100 → Mkr w p m → B ≤ p → B ≤ w.heap.size → Tb B w → Nd w v t → Calls Tryz.prog 51 #[.pointer (some ⟨p, 0, none⟩), v, .int .i64 d] w fun e w' =>
 ((rt d t && decide (0 ≤ lft t m)) = true ∧ Fr [p] w w' ∧ ∃ u, e = .returned (.tuple #[u, .bool true]) ∧ Wx (fun b => b < w.heap.size) w' u (wrOf t) ∧ Mkr w' p (lft t m)) ∨ ((rt d t && decide (0 ≤ lft t m)) = false ∧ Fr [p] w w' ∧ e = .returned (.tuple #[.nilIface, .bool false]) ∧ ∃ m', Mkr w' p m')
theorem bs_Sshow_writer_1 (w : World) (x0 : Value) (h0 : x0.cells = #[x0]) : ∃ w1 g, (Instr.buildSlice 65 1 #[(0, x0)]).run Tryz.prog w = .ok (.slice (some ⟨g, 0, none⟩) 1 1) w1 ∧ w1.heap[g]? = some (.cells #[x0] 36 (0, 0)) ∧ Below w.heap.size w w1 := by
 refine ⟨w.alloc (.cells #[x0] 36), w.heap.size, ?_, heap_alloc_last w _, (Below.refl _ _).alloc (Nat.le_refl _) _⟩
 simp [Instr.buildSlice, Instr.fill, h0]
 go_simp
theorem alg_api_Node (w : World) : ∃ w1 g, (Instr.alloc 24 true (.tuple #[])).run Tryz.prog w = .ok (.pointer (some ⟨g, 0, none⟩)) w1 ∧ w1.heap[g]? = some (.cells #[(.int .i64 0), (strV []), (.int .i64 0), (.slice none 0 0), (.int .i64 0)] 24 (0, 0)) ∧ Below w.heap.size w w1 ∧ w.heap.size ≤ g :=
 ⟨w.alloc (.cells #[(.int .i64 0), (strV []), (.int .i64 0), (.slice none 0 0), (.int .i64 0)] 24), w.heap.size, by unfold strV; go_simp, heap_alloc_last w _, (Below.refl _ _).alloc (Nat.le_refl _) _, Nat.le_refl _⟩
seal wpList in
theorem expr_zero {k : Int} {tx : List UInt8} {n : Int} {kids : List Tr} {at_ : Int} {p : Nat} {m : Int} {w : World} {v : Value} (hm : Mkr w p m) (hnd : Nd w v (.mk k tx n kids at_)) : Calls Tryz.prog 51 #[.pointer (some ⟨p, 0, none⟩), v, .int .i64 0] w fun e w' => (rt 0 (.mk k tx n kids at_) && decide (0 ≤ lft (.mk k tx n kids at_) m)) = false ∧ Fr [p] w w' ∧ e = .returned (.tuple #[.nilIface, .bool false]) ∧ ∃ m', Mkr w' p m' := by
 obtain ⟨a, c, rfl, hl, -⟩ := hnd.open
 have HM := hid hm
 have HF0 := hid (Fr.refl [p] w)
 clear hm hnd hl
 generalize kids.length = N
 go_enter Tryz.func51, Tryz.ntmps51
 go_upto_region 0 with fail
 refine rl ?_
 obtain ⟨w3, g1, (HX : Hid _), (K2 : Hid _), (HB4 : Hid _)⟩ := box_x 24 w #[(.int .i64 k), (strV tx), (.int .i64 n), (.slice a N c), (.int .i64 at_)]
 refine wp_run (v := (.pointer (some ⟨g1, 0, none⟩))) rfl rfl (run_boxOp rfl (by kernel_rfl) HX.out) rfl ?_
 try simp only [nA, nB, nC]
 replace HF0 := kf HF0 HB4
 replace HM := ka HB4 HM
 refine qv .nilIface ?_
 refine qv (.bool false) ?_
 simp only [nA, nB, nC]
 refine we ?_
 go_upto_region 1 with fail
 refine rl ?_
 refine qv (.int .i64 0) ?_
 refine qb (beql_int 0 0 true (by decide)) ?_
 refine qv (.bool true) ?_
 simp only [nA, nB, nC]
 refine qs rfl ?_
 simp only [nA, nB, nC]
 refine qs rfl ?_
 simp only [nA, nB, nC]
 refine qs rfl ?_
 simp only [nA, nB, nC]
 refine qv (.bool true) ?_
 refine qv (.bool true) ?_
 simp only [nA, nB, nC]
 refine qs rfl ?_
 simp only [nA, nB, nC]
 refine qs rfl ?_
 simp only [nA, nB, nC]
 refine qs rfl ?_
 simp only [nA, nB, nC]
 refine qv (.bool true) ?_
 refine qv (.bool true) ?_
 simp only [nA, nB, nC]
 refine qs rfl ?_
 simp only [nA, nB, nC]
 refine qs rfl ?_
 simp only [nA, nB, nC]
 refine qs rfl ?_
 simp only [nA, nB, nC]
 refine qv (.bool true) ?_
 simp only [nA, nB, nC]
 refine we ?_
 go_upto_region 2 with fail
 refine rl ?_
 refine qv .nilIface ?_
 refine qv (.bool false) ?_
 simp only [nA, nB, nC]
 refine we ?_
 go_wp2_with fail
 go_ret2
 exact ⟨by rw [rt]; rfl, HF0.out, rfl, _, HM.out⟩
seal wpList in
theorem expr_succ {k : Int} {tx : List UInt8} {n : Int} {kids : List Tr} {at_ : Int} (ih : ∀ t ∈ kids, ExP t) {B d1 : Nat} {m : Int} {p : Nat} {w : World} {v : Value} (hok : Tr.Ok (.mk k tx n kids at_)) (h0 : 0 ≤ m) (h1 : m ≤ 8192) (hd : d1 + 1 ≤ 100) (hm : Mkr w p m) (hbp : B ≤ p) (hbw : B ≤ w.heap.size) (htb : Tb B w) (hnd : Nd w v (.mk k tx n kids at_)) : Calls Tryz.prog 51 #[.pointer (some ⟨p, 0, none⟩), v, .int .i64 (d1 + 1 : Nat)] w fun e w' =>
 ((rt (d1 + 1) (.mk k tx n kids at_) && decide (0 ≤ lft (.mk k tx n kids at_) m)) = true ∧ Fr [p] w w' ∧ ∃ u, e = .returned (.tuple #[u, .bool true]) ∧ Wx (fun b => b < w.heap.size) w' u (wrOf (.mk k tx n kids at_)) ∧ Mkr w' p (lft (.mk k tx n kids at_) m)) ∨ ((rt (d1 + 1) (.mk k tx n kids at_) && decide (0 ≤ lft (.mk k tx n kids at_) m)) = false ∧ Fr [p] w w' ∧ e = .returned (.tuple #[.nilIface, .bool false]) ∧ ∃ m', Mkr w' p m') := by
 obtain ⟨a, c, rfl, hl, -⟩ := hnd.open
 have HN0 := hid hnd
 have HM0 := hid hm
 have HM := hid hm
 have HT := hid hok.text
 have HOK := hid hok
 have HMM : Hid (0 ≤ m ∧ m ≤ 8192) := hid ⟨h0, h1⟩
 have HBP := hid hbp
 have HBW := hid hbw
 have HTB := hid htb
 have HF0 := hid (Fr.refl [p] w)
 have HIH0 := hid ih
 obtain ⟨N, hN⟩ : ∃ N, kids.length = N := ⟨_, rfl⟩
 have HN := hid hN
 have HD : Hid (d1 ≤ 100) := hid (by omega)
 have HD0 : Hid ((((d1 + 1 : Nat) : Int) == (0 : Int)) = false) := hid (by simp; omega)
 have HS2 : Hid (IntKind.i64.wrap (((d1 + 1 : Nat) : Int) - 1) = ((d1 : Nat) : Int)) := hid (by rw [IntWalk.i64_in _ ⟨by omega, by omega⟩]; omega)
 rw [hN] at HN0 ⊢
 clear hok h0 h1 hd hm hbp hbw htb hnd hl ih hN
 go_enter Tryz.func51, Tryz.ntmps51
 go_upto_region 0 with fail
 refine rl ?_
 obtain ⟨w3, g1, (HX : Hid _), (K2 : Hid _), (HB4 : Hid _)⟩ := box_x 24 w #[(.int .i64 k), (strV tx), (.int .i64 n), (.slice a N c), (.int .i64 at_)]
 refine wp_run (v := (.pointer (some ⟨g1, 0, none⟩))) rfl rfl (run_boxOp rfl (by kernel_rfl) HX.out) rfl ?_
 try simp only [nA, nB, nC]
 replace HF0 := kf HF0 HB4
 replace HM := ka HB4 HM
 refine qv .nilIface ?_
 refine qv (.bool false) ?_
 simp only [nA, nB, nC]
 refine we ?_
 go_upto_region 1 with fail
 refine rl ?_
 refine qv (.int .i64 (((d1 + 1 : Nat) : Int))) ?_
 refine qb (beql_int ((d1 + 1 : Nat) : Int) 0 false HD0.out) ?_
 refine qv (.bool false) ?_
 simp only [nA, nB, nC]
 refine qg (.pointer (some ⟨p, 0, none⟩)) rfl ?_
 simp only [nA, nB, nC]
 rcases bt (decide (0 ≤ m - 1)) with Hhb5 | Hhb5
 ·refine wp_callg (f := 70) (args := #[(.pointer (some ⟨p, 0, none⟩))]) rfl (by kernel_rfl) (enter_go rfl (by kernel_rfl) (fun w => by go_simp)) ?_
  have HCA := hid (counts_any HM.out (by have := HMM.out; omega))
  refine HCA.out.mono ?_
  rintro e w6 ⟨he, hF, hm⟩
  rw [Hhb5.out] at he
  subst he
  refine ⟨_, rfl, ?_⟩
  have HFF := hid hF
  clear hF
  replace K2 := hid (Fr.at HFF.out K2.out (not_mkr K2.out HM.out (by decide)))
  replace HF0 := hid (HF0.out.trans HFF.out (by simp))
  replace HM := hid hm
  clear hm HFF
  try simp only [nA, nB, nC]
  refine wp_yg (v := (.bool false)) rfl (y_un (p := .bool true) rfl (by kernel_rfl) (by kernel_rfl) (fun w => qnotB true w)) rfl ?_
  try simp only [nA, nB, nC]
  refine qv (.bool false) ?_
  refine qv (.bool false) ?_
  simp only [nA, nB, nC]
  refine wp_yg (v := (nv k tx n (.slice a N c) at_)) rfl (y_load rfl (hl := fun w' h => by rw [h]; exact load_blk Tryz.isAgg24 (by kernel_rfl) rfl K2.out)) rfl ?_
  try simp only [nA, nB, nC]
  rcases bt (own k tx n) with Hhb7 | Hhb7
  ·have HOW := hid Hhb7.out
   refine wp_callg (f := 78) (args := #[(nv k tx n (.slice a N c) at_)]) rfl (by kernel_rfl) (enter_go rfl (by kernel_rfl) (fun w => by go_simp)) ?_
   have HCA := hid (own_any (HN0.out.fr HF0.out HM0.out) HT.out)
   refine HCA.out.mono ?_
   rintro e w8 ⟨he, hq⟩
   rw [Hhb7.out] at he
   subst he
   refine ⟨_, rfl, ?_⟩
   have HB9 := hid hq
   clear hq
   replace K2 := ka HB9 K2
   replace HF0 := kf HF0 HB9
   replace HM := ka HB9 HM
   try simp only [nA, nB, nC]
   refine wp_yg (v := (.bool false)) rfl (y_un (p := .bool true) rfl (by kernel_rfl) (by kernel_rfl) (fun w => qnotB true w)) rfl ?_
   try simp only [nA, nB, nC]
   refine qv (.bool false) ?_
   refine qv (.bool false) ?_
   simp only [nA, nB, nC]
   refine wp_yg (v := (nv k tx n (.slice a N c) at_)) rfl (y_load rfl (hl := fun w' h => by rw [h]; exact load_blk Tryz.isAgg24 (by kernel_rfl) rfl K2.out)) rfl ?_
   try simp only [nA, nB, nC]
   rcases bt (kidsOk k kids.length) with Hhb10 | Hhb10
   ·have HKO := hid Hhb10.out
    refine wp_callg (f := 79) (args := #[(nv k tx n (.slice a N c) at_)]) rfl (by kernel_rfl) (enter_go rfl (by kernel_rfl) (fun w => by go_simp)) ?_
    have HCA := hid (hasKids_any (HN0.out.fr HF0.out HM0.out))
    refine HCA.out.mono ?_
    rintro e w11 ⟨he, hq⟩
    rw [Hhb10.out] at he
    subst he
    refine ⟨_, rfl, ?_⟩
    have HB12 := hid hq
    clear hq
    replace K2 := ka HB12 K2
    replace HF0 := kf HF0 HB12
    replace HM := ka HB12 HM
    try simp only [nA, nB, nC]
    refine wp_yg (v := (.bool false)) rfl (y_un (p := .bool true) rfl (by kernel_rfl) (by kernel_rfl) (fun w => qnotB true w)) rfl ?_
    try simp only [nA, nB, nC]
    refine qv (.bool false) ?_
    simp only [nA, nB, nC]
    refine we ?_
    go_upto_region 3 with fail
    refine rl ?_
    refine qv (.slice none 0 0) ?_
    simp only [nA, nB, nC]
    refine we ?_
    go_upto_region 4 with fail
    refine rl ?_
    refine qf (fa_api_Node_3 g1 0) ?_
    refine ql (.slice a N c) Tryz.isAgg22 3 K2 ?_
    simp only [nA, nB, nC]
    refine wp_y (v := (.int .i64 ((N : Nat)))) rfl rfl (y_lenT len_Sapi_Node (p := a) (n := N) (c := c) rfl (by kernel_rfl) (by kernel_rfl)) rfl ?_
    simp only [nA, nB, nC]
    refine qv (.int .i64 0) ?_
    simp only [nA, nB, nC]
    refine we ?_
    go_wp2_with fail
    go_loopw [33, 8] (fun v33 v8 wr => ∃ j : Nat, j ≤ N ∧ v33 = .int .i64 j ∧ Wo w.heap.size wr v8 (wrsOf (kids.take j)) ∧ (kids.take j).all (rt d1) = true ∧ 0 ≤ lfts (kids.take j) (m - 1) ∧ Mkr wr p (lfts (kids.take j) (m - 1)) ∧ Fr [p] w wr ∧ wr.heap[g1]? = some (.cells #[.int .i64 k, strV tx, .int .i64 n, .slice a N c, .int .i64 at_] 24 (0, 0))) (fun v33 _ _ => N - (intOf v33).toNat)
    case atStart =>
     exact ⟨0, Nat.zero_le _, rfl, by simpa [wrsOf] using Wo.nil _ _, by simp, by rw [List.take_zero, lfts]; exact of_decide_eq_true Hhb5.out, by rw [List.take_zero, lfts]; exact HM.out, HF0.out, K2.out⟩
    case round =>
     obtain ⟨j, hj, rfl, hw, ha, hn, hm, hF, hk⟩ := hrel
     clear HM HF0
     have HWO := hid hw
     have HAL := hid ha
     have HNN := hid hn
     have HM := hid hm
     have HF0 := hid hF
     have KN := hid hk
     have HJJ := hid hj
     clear hw ha hn hm hF hk hj
     go_upto_region 5 with fail
     refine rl ?_
     rcases bt (decide (((j : Nat) : Int) < ((N : Nat) : Int))) with Hhb13 | Hhb13
     ·have hlt : j < N := by have := of_decide_eq_true Hhb13.out; omega
      obtain ⟨t, ht⟩ : ∃ t, kids[j]? = some t := ⟨_, List.getElem?_eq_getElem (by rw [HN.out]; exact hlt)⟩
      obtain ⟨b, o, k', tx', n', ks', at', a', c', rfl, rfl, hcl, hnd⟩ := Nd.kid HN0.out ht
      have HIH := hid (HIH0.out _ (List.mem_of_getElem? ht))
      have HOKK := hid (HOK.out.kid ht)
      have HJ := hid ht
      have HLT := hid hlt
      have HCL := hid (load24 (hcl.fr HF0.out HM0.out))
      have HNK0 := hid hnd
      have HNK := hid (hnd.fr HF0.out HM0.out)
      have HS1 := hid (wrap_next (N := N) hlt (by have := kids_le HKO.out; rw [HN.out] at this; omega))
      clear hlt ht hcl hnd
      obtain ⟨N', hN'⟩ : ∃ x, ks'.length = x := ⟨_, rfl⟩
      rw [hN'] at HCL HNK HNK0
      clear hN'
      have HLE : Hid (lfts (kids.take j) (m - 1) ≤ 8192) := hid (by have h8 := (lfts_le (kids.take j) (fun t _ => lft_le t) (m - 1) (by have := HMM.out; omega)).2; have := HMM.out; omega)
      refine qb (blss_int ((j : Nat) : Int) ((N : Nat) : Int) true Hhb13.out) ?_
      simp only [nA, nB, nC]
      refine we ?_
      go_upto_region 6 with fail
      refine rl ?_
      refine wp_y (v := (.pointer (some ⟨b, o + j * 5, none⟩))) rfl rfl (y_index rfl (hr := idx24 b o N c j HLT.out)) rfl ?_
      simp only [nA, nB, nC]
      refine wp_y (v := (nv k' tx' n' (.slice a' N' c') at')) rfl rfl (y_load rfl (hl := fun w' h => by rw [h]; exact HCL.out)) rfl ?_
      simp only [nA, nB, nC]
      have KN0 := hid KN.out
      have HMB := hid HM.out
      have HFB := hid HF0.out
      obtain ⟨w16, g14, hbx, hbk, hbb, hge⟩ := alg_api_Node wr
      have K15 := hid hbk
      have HB17 := hid hbb
      have HX := hid hbx
      have K15G := hid hge
      clear hbx hbk hbb hge
      refine wp_run (v := (.pointer (some ⟨g14, 0, none⟩))) rfl rfl (run_alOp rfl HX.out) rfl ?_
      try simp only [nA, nB, nC]
      replace KN := ka HB17 KN
      replace HF0 := kf HF0 HB17
      replace HM := ka HB17 HM
      replace HWO := hid (HWO.out.keep (kx_below HB17.out))
      replace HNK := hid (HNK.out.later HB17.out)
      have HGN : Hid (¬ g1 = g14) := hid (fun e => by have h1 := heap_lt KN0.out; have h2 := K15G.out; omega)
      have HGM : Hid (¬ p = g14) := hid (fun e => by have h1 := heap_lt HMB.out; have h2 := K15G.out; omega)
      have HGW : Hid (∀ b cs z, w16.heap[b]? = some (Obj.cells cs 36 z) → b ∉ [g14]) := hid (fun b cs z hb hm => by rw [List.mem_singleton] at hm; rw [hm, K15.out] at hb; cases hb)
      have HGS : Hid (w.heap.size ≤ g14) := hid (by have h1 := HFB.out.size; have h2 := K15G.out; omega)
      clear K15G KN0 HMB HFB
      obtain ⟨w18, hbx, hbk, hbf⟩ := st_x (T := 24) (c := #[(.int .i64 0), (strV []), (.int .i64 0), (.slice none 0 0), (.int .i64 0)]) (c' := #[(.int .i64 k'), (strV tx'), (.int .i64 n'), (.slice (a') N' c'), (.int .i64 at')]) (by kernel_rfl) rfl rfl K15.out (by intro v hv; simp at hv; rcases hv with rfl | rfl | rfl | rfl | rfl <;> first | rfl | assumption)
      replace K15 := hid hbk
      have HF19 := hid hbf
      have HX := hid hbx
      clear hbx hbk hbf
      refine wp_do rfl rfl (run_storeOp rfl (by kernel_rfl) (by kernel_rfl) HX.out) ?_
      try simp only [nA, nB, nC]
      replace KN := hid (Fr.at HF19.out KN.out (by simpa using HGN.out))
      replace HM := hid (Fr.at HF19.out HM.out (by simpa using HGM.out))
      replace HWO := hid (HWO.out.keep (fun b cs z _ h => Fr.at HF19.out h (HGW.out b cs z h)))
      replace HF0 := hid (HF0.out.trans HF19.out (fun x hx => .inr (by rw [List.mem_singleton] at hx; rw [hx]; exact HGS.out)))
      replace HNK : Hid (Nd w18 _ _) := hid (HNK0.out.fr HF0.out HM0.out)
      clear HGN HGM HGW HGS
      refine we ?_
      go_upto_region 7 with fail
      refine rl ?_
      refine qv (.pointer (some ⟨p, 0, none⟩)) ?_
      refine qk (nv k' tx' n' (.slice a' N' c') at') Tryz.isAgg24 K15 ?_
      refine qv (.int .i64 (((d1 + 1 : Nat) : Int))) ?_
      refine qb (bsub_int ((d1 + 1 : Nat) : Int) 1 ((d1 : Nat) : Int) HS2.out) ?_
      simp only [nA, nB, nC]
      refine qc #[(.pointer (some ⟨p, 0, none⟩)), (nv k' tx' n' (.slice a' N' c') at'), (.int .i64 (((d1 : Nat) : Int)))] ?_
      have HCA := hid (HIH.out B d1 _ p w18 _ HOKK.out HNN.out HLE.out HD.out HM.out HBP.out (Nat.le_trans HBW.out HF0.out.size) (HTB.out.on (fr_below HF0.out HBW.out HBP.out)) HNK.out)
      refine HCA.out.mono ?_
      rintro e w20 (⟨hR, hF, u, he, hx, hm⟩ | ⟨hR, hF, he, m9, hm⟩)
      ·subst he
       refine ⟨_, rfl, ?_⟩
       have HUX : Hid (Wx (fun b => b < w.heap.size ∨ u8.ownBlock = some b) w20 u (wrOf (.mk k' tx' n' ks' at'))) := hid (hx.other (Kx.refl _ _) (fun b cs zz _ hnb hc => by
          rcases hc with hc | hc
          ·have := HF0.out.size; omega
          ·obtain ⟨c9, h9, -⟩ := HWO.out.own_lt hc
           exact hnb (heap_lt h9)))
       have HR := hid hR
       clear hx hR
       have HFF := hid hF
       clear hF
       replace KN := hid (Fr.at HFF.out KN.out (not_mkr KN.out HM.out (by decide)))
       replace K15 := hid (Fr.at HFF.out K15.out (not_mkr K15.out HM.out (by decide)))
       replace HWO := hid (HWO.out.keep (kx_fr HFF.out HM.out))
       replace HF0 := hid (HF0.out.trans HFF.out (by simp))
       replace HM := hid hm
       clear hm HFF
       try simp only [Act.put, nA, nB, nC]
       refine qv (.tuple #[u, (.bool true)]) ?_
       refine qv u ?_
       refine qv (.bool true) ?_
       refine qv u ?_
       simp only [nA, nB, nC]
       refine qv (.bool true) ?_
       simp only [nA, nB, nC]
       refine we ?_
       go_upto_region 8 with fail
       refine rl ?_
       refine qv (.bool true) ?_
       simp only [nA, nB, nC]
       refine wp_y (v := (.bool false)) rfl rfl (y_un (p := .bool true) rfl (by kernel_rfl) (by kernel_rfl) (fun w => qnotB true w)) rfl ?_
       simp only [nA, nB, nC]
       refine we ?_
       go_upto_region 10 with fail
       refine rl ?_
       refine qv u8 ?_
       refine qv u ?_
       simp only [nA, nB, nC]
       obtain ⟨w23, g21, (HX : Hid _), (K22 : Hid _), (HB24 : Hid _)⟩ := bs_Sshow_writer_1 w20 u HUX.out.now.cl
       refine wp_run (v := (.slice (some ⟨g21, 0, none⟩) 1 1)) rfl rfl (run_bsOp rfl (by kernel_rfl) HX.out) rfl ?_
       try simp only [nA, nB, nC]
       replace KN := ka HB24 KN
       replace K15 := ka HB24 K15
       replace HF0 := kf HF0 HB24
       replace HM := ka HB24 HM
       replace HWO := hid (HWO.out.keep (kx_below HB24.out))
       replace HUX := hid (HUX.out.keep (kx_below HB24.out))
       obtain ⟨v9, w9, ha1, ha2, ha3⟩ := HWO.out.app HUX.out (by rw [wrsOf_len]; have := kids_le HKO.out; have : (kids.take j).length ≤ kids.length := List.length_take ▸ Nat.min_le_right _ _; omega) HF0.out.size K22.out
       have HAP := hid ha1
       have HW9 := hid ha2
       have HF9 := hid ha3
       clear ha1 ha2 ha3
       refine wp_run (v := v9) rfl rfl (run_appOp rfl (by kernel_rfl) (by kernel_rfl) (HAP.out _)) rfl ?_
       try simp only [nA, nB, nC]
       replace KN := hid (Fr.at HF9.out KN.out (not_own HWO.out KN.out (by decide)))
       replace HM := hid (Fr.at HF9.out HM.out (not_own HWO.out HM.out (by decide)))
       replace HF0 := hid (HF0.out.trans HF9.out (fun x hx => .inr (by obtain ⟨c9, h9, h8⟩ := HWO.out.own_lt (by simpa using hx); exact h8)))
       replace HWO := hid HW9.out
       clear HW9 HF9 HAP HUX
       refine qv v9 ?_
       simp only [nA, nB, nC]
       refine we ?_
       go_upto_region 11 with fail
       refine rl ?_
       refine qb (badd_int ((j : Nat) : Int) 1 ((j + 1 : Nat) : Int) HS1.out) ?_
       refine qv (.int .i64 (((j + 1 : Nat) : Int))) ?_
       simp only [nA, nB, nC]
       refine we ?_
       go_wp2_with fail
       obtain ⟨q1, q2, q3⟩ := rt_next HJ.out HAL.out HNN.out HR.out
       exact ⟨⟨j + 1, HLT.out, rfl, by rw [take_next HJ.out, wrsOf_snoc]; exact HWO.out, q1, q2, by rw [q3]; exact HM.out, HF0.out, KN.out⟩, by have := HLT.out; simp [intOf]; omega⟩
      ·subst he
       refine ⟨_, rfl, ?_⟩
       have HR := hid hR
       clear hR
       have HFF := hid hF
       clear hF
       replace KN := hid (Fr.at HFF.out KN.out (not_mkr KN.out HM.out (by decide)))
       replace K15 := hid (Fr.at HFF.out K15.out (not_mkr K15.out HM.out (by decide)))
       replace HWO := hid (HWO.out.keep (kx_fr HFF.out HM.out))
       replace HF0 := hid (HF0.out.trans HFF.out (by simp))
       replace HM := hid hm
       clear hm HFF
       try simp only [Act.put, nA, nB, nC]
       refine qv (.tuple #[.nilIface, (.bool false)]) ?_
       refine qv .nilIface ?_
       refine qv (.bool false) ?_
       refine qv .nilIface ?_
       simp only [nA, nB, nC]
       refine qv (.bool false) ?_
       simp only [nA, nB, nC]
       refine we ?_
       go_upto_region 8 with fail
       refine rl ?_
       refine qv (.bool false) ?_
       simp only [nA, nB, nC]
       refine wp_y (v := (.bool true)) rfl rfl (y_un (p := .bool false) rfl (by kernel_rfl) (by kernel_rfl) (fun w => qnotB false w)) rfl ?_
       simp only [nA, nB, nC]
       refine we ?_
       go_upto_region 9 with fail
       refine rl ?_
       refine qv .nilIface ?_
       refine qv (.bool false) ?_
       simp only [nA, nB, nC]
       refine we ?_
       go_wp2_with fail
       go_ret2
       exact .inr ⟨by rw [rt, lft, HOW.out, HKO.out, Bool.true_and, Bool.true_and]; exact rt_no HJ.out HNN.out HR.out, HF0.out, rfl, _, HM.out⟩
     ·have hlt : j = N := by have := of_decide_eq_false Hhb13.out; have := HJJ.out; omega
      have htk : kids.take j = kids := by rw [hlt, List.take_of_length_le (by rw [HN.out]; exact Nat.le_refl _)]
      rw [htk] at HWO HAL HNN HM
      clear hlt htk
      have HWS := hid (HWO.out.wsx (by rw [wrsOf_len, HN.out]; have := kids_le HKO.out; rw [HN.out] at this; omega))
      refine qb (blss_int ((j : Nat) : Int) ((N : Nat) : Int) false Hhb13.out) ?_
      simp only [nA, nB, nC]
      refine we ?_
      go_upto_region 12 with fail
      refine rl ?_
      refine qk (nv k tx n (.slice a N c) at_) Tryz.isAgg24 KN ?_
      refine qv u8 ?_
      simp only [nA, nB, nC]
      refine qc #[(nv k tx n (.slice a N c) at_), u8] ?_
      have HCA := hid (made_any (ks := wrsOf kids) (HN0.out.fr HF0.out HM0.out) (Nat.le_trans (own_len HOW.out) (by decide)) HWS.out HOW.out (by rw [wrsOf_len]; exact HKO.out) (HTB.out.on (fr_below HF0.out HBW.out HBP.out)))
      refine HCA.out.mono ?_
      rintro e w25 ⟨uu, he, hq⟩
      ·subst he
       refine ⟨_, rfl, ?_⟩
       obtain ⟨hx, hb⟩ := hq
       have HUU : Hid (Wx (fun b => b < w.heap.size) w25 uu (wrOf (.mk k tx n kids at_))) := hid (by rw [wrOf]; exact hx)
       have HBQ := hid hb
       clear hx hb
       replace KN := ka HBQ KN
       replace HF0 := kf HF0 HBQ
       replace HM := ka HBQ HM
       have HRT : Hid ((rt (d1 + 1) (.mk k tx n kids at_) && decide (0 ≤ lft (.mk k tx n kids at_) m)) = true) := hid (by rw [rt, lft, HOW.out, HKO.out, HAL.out, decide_eq_true HNN.out]; rfl)
       try simp only [Act.put, nA, nB, nC]
       refine qv uu ?_
       refine qv (.bool true) ?_
       simp only [nA, nB, nC]
       refine we ?_
       go_wp2_with fail
       go_ret2
       exact .inl ⟨HRT.out, HF0.out, uu, rfl, HUU.out, by have h9 := HM.out; rw [lft]; exact h9⟩
   ·refine wp_callg (f := 79) (args := #[(nv k tx n (.slice a N c) at_)]) rfl (by kernel_rfl) (enter_go rfl (by kernel_rfl) (fun w => by go_simp)) ?_
    have HCA := hid (hasKids_any (HN0.out.fr HF0.out HM0.out))
    refine HCA.out.mono ?_
    rintro e w26 ⟨he, hq⟩
    rw [Hhb10.out] at he
    subst he
    refine ⟨_, rfl, ?_⟩
    have HB27 := hid hq
    clear hq
    replace K2 := ka HB27 K2
    replace HF0 := kf HF0 HB27
    replace HM := ka HB27 HM
    try simp only [nA, nB, nC]
    refine wp_yg (v := (.bool true)) rfl (y_un (p := .bool false) rfl (by kernel_rfl) (by kernel_rfl) (fun w => qnotB false w)) rfl ?_
    try simp only [nA, nB, nC]
    refine qv (.bool true) ?_
    simp only [nA, nB, nC]
    refine we ?_
    go_upto_region 2 with fail
    refine rl ?_
    refine qv .nilIface ?_
    refine qv (.bool false) ?_
    simp only [nA, nB, nC]
    refine we ?_
    go_wp2_with fail
    go_ret2
    exact .inr ⟨by rw [rt, Hhb10.out, Bool.and_false]; rfl, HF0.out, rfl, _, HM.out⟩
  ·refine wp_callg (f := 78) (args := #[(nv k tx n (.slice a N c) at_)]) rfl (by kernel_rfl) (enter_go rfl (by kernel_rfl) (fun w => by go_simp)) ?_
   have HCA := hid (own_any (HN0.out.fr HF0.out HM0.out) HT.out)
   refine HCA.out.mono ?_
   rintro e w28 ⟨he, hq⟩
   rw [Hhb7.out] at he
   subst he
   refine ⟨_, rfl, ?_⟩
   have HB29 := hid hq
   clear hq
   replace K2 := ka HB29 K2
   replace HF0 := kf HF0 HB29
   replace HM := ka HB29 HM
   try simp only [nA, nB, nC]
   refine wp_yg (v := (.bool true)) rfl (y_un (p := .bool false) rfl (by kernel_rfl) (by kernel_rfl) (fun w => qnotB false w)) rfl ?_
   try simp only [nA, nB, nC]
   refine qv (.bool true) ?_
   refine qv (.bool true) ?_
   simp only [nA, nB, nC]
   refine qs rfl ?_
   simp only [nA, nB, nC]
   refine qs rfl ?_
   simp only [nA, nB, nC]
   refine qs rfl ?_
   simp only [nA, nB, nC]
   refine qv (.bool true) ?_
   simp only [nA, nB, nC]
   refine we ?_
   go_upto_region 2 with fail
   refine rl ?_
   refine qv .nilIface ?_
   refine qv (.bool false) ?_
   simp only [nA, nB, nC]
   refine we ?_
   go_wp2_with fail
   go_ret2
   exact .inr ⟨by rw [rt, Hhb7.out]; rfl, HF0.out, rfl, _, HM.out⟩
 ·refine wp_callg (f := 70) (args := #[(.pointer (some ⟨p, 0, none⟩))]) rfl (by kernel_rfl) (enter_go rfl (by kernel_rfl) (fun w => by go_simp)) ?_
  have HCA := hid (counts_any HM.out (by have := HMM.out; omega))
  refine HCA.out.mono ?_
  rintro e w30 ⟨he, hF, hm⟩
  rw [Hhb5.out] at he
  subst he
  refine ⟨_, rfl, ?_⟩
  have HFF := hid hF
  clear hF
  replace K2 := hid (Fr.at HFF.out K2.out (not_mkr K2.out HM.out (by decide)))
  replace HF0 := hid (HF0.out.trans HFF.out (by simp))
  replace HM := hid hm
  clear hm HFF
  try simp only [nA, nB, nC]
  refine wp_yg (v := (.bool true)) rfl (y_un (p := .bool false) rfl (by kernel_rfl) (by kernel_rfl) (fun w => qnotB false w)) rfl ?_
  try simp only [nA, nB, nC]
  refine qv (.bool true) ?_
  refine qv (.bool true) ?_
  simp only [nA, nB, nC]
  refine qs rfl ?_
  simp only [nA, nB, nC]
  refine qs rfl ?_
  simp only [nA, nB, nC]
  refine qs rfl ?_
  simp only [nA, nB, nC]
  refine qv (.bool true) ?_
  refine qv (.bool true) ?_
  simp only [nA, nB, nC]
  refine qs rfl ?_
  simp only [nA, nB, nC]
  refine qs rfl ?_
  simp only [nA, nB, nC]
  refine qs rfl ?_
  simp only [nA, nB, nC]
  refine qv (.bool true) ?_
  simp only [nA, nB, nC]
  refine we ?_
  go_upto_region 2 with fail
  refine rl ?_
  refine qv .nilIface ?_
  refine qv (.bool false) ?_
  simp only [nA, nB, nC]
  refine we ?_
  go_wp2_with fail
  go_ret2
  exact .inr ⟨by rw [lft, lfts_neg _ _ (by have := of_decide_eq_false Hhb5.out; omega), Bool.and_eq_false_iff]; right; exact decide_eq_false (by have := of_decide_eq_false Hhb5.out; omega), HF0.out, rfl, _, HM.out⟩
theorem expr_any (t : Tr) : ExP t := by
 induction t using Tr.ind with
 | h k tx n kids at_ ih =>
  intro B d m p w v hok h0 h1 hd hm hbp hbw htb hnd
  cases d with
  | zero => exact (expr_zero hm hnd).mono fun e w' h => .inr h
  | succ d1 => exact expr_succ ih hok h0 h1 hd hm hbp hbw htb hnd
theorem box_g (T : TypeId) (w : World) (c : Array Value) : ∃ w1 g, (Instr.box T (.agg c)).run Tryz.prog w = .ok (.pointer (some ⟨g, 0, none⟩)) w1 ∧ w1.heap[g]? = some (.cells c T (0, 0)) ∧ Below w.heap.size w w1 ∧ w.heap.size ≤ g :=
 ⟨_, _, box_agg T w c, heap_alloc_last w _, (Below.refl _ _).alloc (Nat.le_refl _) _, Nat.le_refl _⟩
theorem alg_B (w : World) : ∃ w1 g, (Instr.alloc 58 true (.tuple #[])).run Tryz.prog w = .ok (.pointer (some ⟨g, 0, none⟩)) w1 ∧ IsB w.heap.size w1 g [] ∧ Below w.heap.size w w1 ∧ w.heap.size ≤ g :=
 ⟨w.alloc (.cells #[.pointer none, .slice none 0 0] 58), w.heap.size, by go_simp, .inl ⟨Nat.le_refl _, _, heap_alloc_last w _, ⟨rfl, .inl ⟨rfl, rfl⟩⟩, by simp [Value.ownBlock]⟩, (Below.refl _ _).alloc (Nat.le_refl _) _, Nat.le_refl _⟩
theorem bu_show_maker_0 (w : World) (z0 : Int) : (Instr.build 62 #[(0, (.int .i64 z0))]).run Tryz.prog w = .ok (.agg #[(.int .i64 z0)]) w := by
 go_simp
seal wpList in
theorem newMaker_any (w : World) : Calls Tryz.prog 26 #[] w fun e w' => ∃ p, e = .returned (.pointer (some ⟨p, 0, none⟩)) ∧ Mkr w' p 8192 ∧ Below w.heap.size w w' ∧ w.heap.size ≤ p := by
 go_enter Tryz.func26, Tryz.ntmps26
 go_upto_region 0 with fail
 refine rl ?_
 refine qv (.pointer none) ?_
 try simp only [List.setIfInBounds_toArray, List.set_cons_zero]
 refine we ?_
 go_upto_region 1 with fail
 refine rl ?_
 refine wp_y (v := (.agg #[(.int .i64 8192)])) rfl rfl (y_val2 rfl (h := fun w' h => by rw [h]; exact run_buildOp rfl (by kernel_rfl) (bu_show_maker_0 w 8192))) rfl ?_
 simp only [nA, nB, nC]
 obtain ⟨w1, p, hbx, hbk, hbb, hge⟩ := box_g 62 w #[(.int .i64 8192)]
 have HX := hid hbx
 have HK := hid hbk
 have HBB := hid hbb
 have HG := hid hge
 clear hbx hbk hbb hge
 refine wp_run (v := (.pointer (some ⟨p, 0, none⟩))) rfl rfl (run_boxOp rfl (by kernel_rfl) HX.out) rfl ?_
 try simp only [nA, nB, nC]
 refine qv (.pointer (some ⟨p, 0, none⟩)) ?_
 try simp only [List.setIfInBounds_toArray, List.set_cons_zero]
 refine we ?_
 go_wp2_with fail
 go_ret
 exact ⟨p, rfl, HK.out, HBB.out, HG.out⟩
seal wpList in
theorem outer_any (t : Tr) {B : Nat} {m : Int} {p : Nat} {w : World} {v : Value} (hok : t.Ok) (h0 : 0 ≤ m) (h1 : m ≤ 8192) (hm : Mkr w p m) (hbp : B ≤ p) (hbw : B ≤ w.heap.size) (htb : Tb B w) (hnd : Nd w v t) : Calls Tryz.prog 30 #[.pointer (some ⟨p, 0, none⟩), v] w fun e w' => ((rt 100 t && decide (0 ≤ lft t m)) = true ∧ Fr [p] w w' ∧ ∃ u, e = .returned (.tuple #[u, .bool true]) ∧ Wx (fun b => b < w.heap.size) w' u (wrOf t) ∧ Mkr w' p (lft t m)) ∨ ((rt 100 t && decide (0 ≤ lft t m)) = false ∧ Fr [p] w w' ∧ e = .returned (.tuple #[.nilIface, .bool false]) ∧ ∃ m', Mkr w' p m') := by
 have HOK := hid hok
 have HM0 := hid h0
 have HM1 := hid h1
 have HM := hid hm
 have HBP := hid hbp
 have HBW := hid hbw
 have HTB := hid htb
 have HN := hid hnd
 obtain ⟨k, tx, n, kids, at_⟩ := t
 obtain ⟨a, c, rfl, -, -⟩ := hnd.open
 clear hok h0 h1 hm hbp hbw htb hnd
 generalize kids.length = N at *
 obtain ⟨t, ht⟩ : ∃ t, Tr.mk k tx n kids at_ = t := ⟨_, rfl⟩
 rw [ht] at HOK HN ⊢
 clear ht
 have HB0 := hid (Below.refl w.heap.size w)
 go_enter Tryz.func30, Tryz.ntmps30
 go_upto_region 0 with fail
 refine rl ?_
 obtain ⟨w3, g1, (HX : Hid _), (K2 : Hid _), (HB4 : Hid _)⟩ := box_x 24 w #[(.int .i64 k), (strV tx), (.int .i64 n), (.slice a N c), (.int .i64 at_)]
 refine wp_run (v := (.pointer (some ⟨g1, 0, none⟩))) rfl rfl (run_boxOp rfl (by kernel_rfl) HX.out) rfl ?_
 try simp only [nA, nB, nC]
 replace HTB := hid (HTB.out.below HB4.out)
 replace HM := ka HB4 HM
 replace HN := hid (HN.out.later HB4.out)
 replace HB0 := kb HB0 HB4
 refine qv .nilIface ?_
 refine qv (.bool false) ?_
 simp only [nA, nB, nC]
 refine we ?_
 go_upto_region 1 with fail
 refine rl ?_
 refine qv (.pointer (some ⟨p, 0, none⟩)) ?_
 refine qk (nv k tx n (.slice a N c) at_) Tryz.isAgg24 K2 ?_
 simp only [nA, nB, nC]
 refine qc #[(.pointer (some ⟨p, 0, none⟩)), (nv k tx n (.slice a N c) at_), (.int .i64 100)] ?_
 have HCA := hid (expr_any t B 100 m p w3 _ HOK.out HM0.out HM1.out (Nat.le_refl _) HM.out HBP.out (Nat.le_trans HBW.out HB0.out.size) HTB.out HN.out)
 refine HCA.out.mono ?_
 rintro e w5 (⟨hR, hF, u, he, hx, hm⟩ | ⟨hR, hF, he, m9, hm⟩)
 ·subst he
  refine ⟨_, rfl, ?_⟩
  have HE : Hid ((rt 100 t && decide (0 ≤ lft t m)) = true ∧ Fr [p] w w5 ∧ Wx (fun b => b < w.heap.size) w5 u (wrOf t) ∧ Mkr w5 p (lft t m)) := hid ⟨hR, (Fr.of_below (X := [p]) HB0.out).trans hF (by simp), hx.other (Kx.refl _ _) (fun b cs z _ hb hc => hb (by have := HB0.out.size; omega)), hm⟩
  clear hR hF hx hm
  try simp only [Act.put, nA, nB, nC]
  refine qv u ?_
  refine qv (.bool true) ?_
  refine qv u ?_
  refine qv (.bool true) ?_
  simp only [nA, nB, nC]
  refine we ?_
  go_wp2_with fail
  go_ret2
  exact .inl ⟨HE.out.1, HE.out.2.1, u, rfl, HE.out.2.2⟩
 ·subst he
  refine ⟨_, rfl, ?_⟩
  have HE : Hid ((rt 100 t && decide (0 ≤ lft t m)) = false ∧ Fr [p] w w5 ∧ ∃ m', Mkr w5 p m') := hid ⟨hR, (Fr.of_below (X := [p]) HB0.out).trans hF (by simp), m9, hm⟩
  clear hR hF hm
  try simp only [Act.put, nA, nB, nC]
  refine qv .nilIface ?_
  refine qv (.bool false) ?_
  refine qv .nilIface ?_
  refine qv (.bool false) ?_
  simp only [nA, nB, nC]
  refine we ?_
  go_wp2_with fail
  go_ret2
  exact .inr ⟨HE.out.1, HE.out.2.1, rfl, HE.out.2.2⟩
seal wpList in
theorem whole_no (w : World) : Calls Tryz.prog 25 #[.nilIface, .bool false] w fun e w' => e = .returned (.tuple #[strV [], .int .i64 90]) ∧ w' = w := by
 go_enter Tryz.func25, Tryz.ntmps25
 go_upto_region 0 with fail
 refine rl ?_
 refine qv (strV []) ?_
 refine qv (.int .i64 0) ?_
 simp only [nA, nB, nC]
 refine we ?_
 go_upto_region 1 with fail
 refine rl ?_
 refine qv (.bool false) ?_
 simp only [nA, nB, nC]
 refine wp_y (v := (.bool true)) rfl rfl (y_un (p := .bool false) rfl (by kernel_rfl) (by kernel_rfl) (fun w => qnotB false w)) rfl ?_
 simp only [nA, nB, nC]
 refine we ?_
 go_upto_region 2 with fail
 refine rl ?_
 refine qv (strV []) ?_
 refine qv (.int .i64 90) ?_
 simp only [nA, nB, nC]
 refine we ?_
 go_wp2_with fail
 go_ret2
 exact ⟨rfl, rfl⟩
seal wpList in
theorem whole_yes {E : Nat → Prop} {w : World} {u : Value} {x : Wr} (hx : Wx E w u x) (hl : (fw x).length ≤ 140737488355328) : Calls Tryz.prog 25 #[u, .bool true] w fun e w' => e = .returned (.tuple #[strV (fw x), .int .i64 0]) ∧ Below w.heap.size w w' := by
 have HX0 := hid hx
 have HL := hid hl
 clear hx hl
 go_enter Tryz.func25, Tryz.ntmps25
 go_upto_region 0 with fail
 refine rl ?_
 refine qv (strV []) ?_
 refine qv (.int .i64 0) ?_
 simp only [nA, nB, nC]
 refine we ?_
 go_upto_region 1 with fail
 refine rl ?_
 refine qv (.bool true) ?_
 simp only [nA, nB, nC]
 refine wp_y (v := (.bool false)) rfl rfl (y_un (p := .bool true) rfl (by kernel_rfl) (by kernel_rfl) (fun w => qnotB true w)) rfl ?_
 simp only [nA, nB, nC]
 refine we ?_
 go_upto_region 3 with fail
 refine rl ?_
 obtain ⟨w1, q, hbx, hi, hbb, hge⟩ := alg_B w
 have HX := hid hbx
 have HI := hid hi
 have HBB := hid hbb
 have HG := hid hge
 have HV := hid (HX0.out.now.keep (kpw_below hbb))
 clear hbx hi hbb hge
 refine wp_run (v := (.pointer (some ⟨q, 0, none⟩))) rfl rfl (run_alOp rfl HX.out) rfl ?_
 try simp only [nA, nB, nC]
 refine we ?_
 go_upto_region 4 with fail
 refine rl ?_
 refine qv u ?_
 simp only [nA, nB, nC]
 obtain ⟨T, pv, f1, args1, -, hen, hca⟩ := write_ok x w.heap.size q [] w1 u HV.out HI.out (by simpa using HL.out) HBB.out.size
 have HEN := hid hen
 have HCA := hid hca
 clear hen hca
 refine wp_calle (f := f1) (args := args1) rfl rfl (enter_inv rfl (by kernel_rfl) (by kernel_rfl) HEN.out) ?_
 refine HCA.out.mono ?_
 rintro e w1 ⟨rfl, hq⟩
 refine ⟨_, rfl, ?_⟩
 obtain ⟨hi, hb, ho⟩ := hq
 replace HI := hid hi
 replace HBB : Hid (Below w.heap.size w w1) := hid (HBB.out.trans hb)
 clear hi hb ho
 try simp only [nA, nB, nC]
 refine we ?_
 go_upto_region 5 with fail
 refine rl ?_
 refine qc #[(.pointer (some ⟨q, 0, none⟩))] ?_
 have HCA := hid (Tryz.Builder_String_any_k w.heap.size q (fw x) w1 (by simpa using HI.out) HBB.out.size)
 refine HCA.out.mono ?_
 rintro e w2 ⟨rfl, hq⟩
 refine ⟨_, rfl, ?_⟩
 obtain ⟨hi, hb, ho⟩ := hq
 replace HI := hid hi
 replace HBB : Hid (Below w.heap.size w w2) := hid (HBB.out.trans hb)
 clear hi hb ho
 try simp only [Act.put, nA, nB, nC]
 refine qv (strV (fw x)) ?_
 refine qv (.int .i64 0) ?_
 simp only [nA, nB, nC]
 refine we ?_
 go_wp2_with fail
 go_ret2
 exact ⟨rfl, HBB.out⟩
seal wpList in
theorem rightExpr_any {t : Tr} {w : World} {v : Value} (hok : t.Ok) (htb : Tb w.heap.size w) (hnd : Nd w v t) : Calls Tryz.prog 16 #[v] w fun e w' => e = .returned (.bool (rt 100 t && decide (0 ≤ lft t 8192))) ∧ Below w.heap.size w w' := by
 have HOK := hid hok
 have HTB := hid (htb.mono (Nat.le_refl _))
 have HN := hid hnd
 obtain ⟨k, tx, n, kids, at_⟩ := t
 obtain ⟨a, c, rfl, -, -⟩ := hnd.open
 clear hok htb hnd
 generalize kids.length = N at *
 obtain ⟨t, ht⟩ : ∃ t, Tr.mk k tx n kids at_ = t := ⟨_, rfl⟩
 rw [ht] at HOK HN ⊢
 clear ht
 have HB0 := hid (Below.refl w.heap.size w)
 go_enter Tryz.func16, Tryz.ntmps16
 go_upto_region 0 with fail
 refine rl ?_
 obtain ⟨w3, g1, (HX : Hid _), (K2 : Hid _), (HB4 : Hid _)⟩ := box_x 24 w #[(.int .i64 k), (strV tx), (.int .i64 n), (.slice a N c), (.int .i64 at_)]
 refine wp_run (v := (.pointer (some ⟨g1, 0, none⟩))) rfl rfl (run_boxOp rfl (by kernel_rfl) HX.out) rfl ?_
 try simp only [nA, nB, nC]
 replace HTB := hid (HTB.out.below HB4.out)
 replace HN := hid (HN.out.later HB4.out)
 replace HB0 := kb HB0 HB4
 refine qv (.bool false) ?_
 simp only [nA, nB, nC]
 refine we ?_
 go_upto_region 1 with fail
 obtain ⟨w5, hwd⟩ : ∃ x, x = w3.drew := ⟨_, rfl⟩
 have HB6 : Hid (Below w3.heap.size w3 w5) := hid (by rw [hwd]; exact ⟨rfl, rfl, rfl, Nat.le_refl _, fun _ _ => rfl⟩)
 refine h_openL (S := fun x => Below w5.heap.size w5 x) (by kernel_rfl) (by kernel_rfl) (fun _ _ _ _ _ h => h) (L := #[false, false, false, false, false, false, false, false]) (by kernel_rfl) ?_
 intro Q' hns hP hN
 rw [← hwd]
 clear hwd
 replace K2 := ka HB6 K2
 replace HTB := hid (HTB.out.below HB6.out)
 replace HN := hid (HN.out.later HB6.out)
 replace HB0 := kb HB0 HB6
 have hS : Below w5.heap.size w5 w5 := Below.refl _ _
 refine h_takeL (i := 1) (v := (nv k tx n (.slice a N c) at_)) hns rfl rfl (by kernel_rfl) (by kernel_rfl) hP (y_load rfl (hl := fun w' h => load_blk Tryz.isAgg24 (by kernel_rfl) rfl (below_at h K2.out (heap_lt K2.out)))) hS rfl (L' := #[false, true, false, false, false, false, false, false]) (by kernel_rfl) ?_
 try simp only [nA, nB, nC]
 refine h_callL (i := 0) (f := 26) (args := #[]) (by kernel_rfl) rfl rfl (by kernel_rfl) (enter_go rfl (by kernel_rfl) (fun w => by go_simp)) (L' := #[true, true, false, false, false, false, false, false]) (by kernel_rfl) ?_
 have HCA := hid (newMaker_any w5)
 refine HCA.out.mono ?_
 rintro e w7 ⟨p, he, hm, hb, hge⟩
 ·subst he
  replace hS := hS.trans (hb.mono hS.size)
  refine ⟨_, rfl, hS, ?_⟩
  have HB00 : Hid (w.heap.size ≤ w5.heap.size) := hid HB0.out.size
  have HM := hid hm
  have HGE := hid hge
  have HBN := hid hb
  have HGS := hid hge
  clear hm hge hb
  replace K2 := ka HBN K2
  replace HTB := hid (HTB.out.below HBN.out)
  replace HN := hid (HN.out.later HBN.out)
  replace HB0 := kb HB0 HBN
  try simp only [nA, nB, nC]
  refine h_callL (i := 2) (f := 30) (args := #[(.pointer (some ⟨p, 0, none⟩)), (nv k tx n (.slice a N c) at_)]) (by kernel_rfl) rfl rfl (by kernel_rfl) (enter_go rfl (by kernel_rfl) (fun w => by go_simp)) (L' := #[true, true, true, false, false, false, false, false]) (by kernel_rfl) ?_
  have HCA := hid (outer_any t (B := w.heap.size) HOK.out (by decide) (by decide) HM.out (by have := HGS.out; have := HB00.out; omega) HB0.out.size HTB.out HN.out)
  refine HCA.out.mono ?_
  rintro e w8 (⟨hR, hF, u, he, hx, hm⟩ | ⟨hR, hF, he, m9, hm⟩)
  ·subst he
   replace hS := hS.trans (hF.below hS.size (by have := HGS.out; simpa using this))
   refine ⟨_, rfl, hS, ?_⟩
   have HR := hid hR
   have HXX := hid hx
   have HBF : Hid (Below w.heap.size w w8) := hid (HB0.out.trans (hF.below HB0.out.size (by have := HGS.out; have := HB00.out; simp; omega)))
   clear hR hF hx hm
   try simp only [nA, nB, nC]
   refine h_takeL (i := 3) (v := (.tuple #[u, (.bool true)])) hns rfl rfl (by kernel_rfl) (by kernel_rfl) hP (y_move rfl) hS rfl (L' := #[true, true, true, true, false, false, false, false]) (by kernel_rfl) ?_
   try simp only [nA, nB, nC]
   refine h_takeL (i := 4) (v := u) hns rfl rfl (by kernel_rfl) (by kernel_rfl) hP (y_ext rfl (hr := ext2_0 u (.bool true))) hS rfl (L' := #[true, true, true, true, true, false, false, false]) (by kernel_rfl) ?_
   try simp only [nA, nB, nC]
   refine h_takeL (i := 5) (v := (.bool true)) hns rfl rfl (by kernel_rfl) (by kernel_rfl) hP (y_ext rfl (hr := ext2_1 u (.bool true))) hS rfl (L' := #[true, true, true, true, true, true, false, false]) (by kernel_rfl) ?_
   try simp only [nA, nB, nC]
   refine h_takeL (i := 6) (v := u) hns rfl rfl (by kernel_rfl) (by kernel_rfl) hP (y_assign rfl) hS rfl (L' := #[true, true, true, true, true, true, true, false]) (by kernel_rfl) ?_
   try simp only [nA, nB, nC]
   refine h_takeL (i := 7) (v := (.bool true)) hns rfl rfl (by kernel_rfl) (by kernel_rfl) hP (y_assign rfl) hS rfl (L' := #[true, true, true, true, true, true, true, true]) (by kernel_rfl) ?_
   try simp only [nA, nB, nC]
   refine wpAnyH_done (by kernel_rfl) ?_ _
   refine hN _ _ ?_
   clear hP hN hns hS
   go_upto_region 2 with fail
   refine rl ?_
   refine qv (.bool true) ?_
   refine qv (.bool true) ?_
   simp only [nA, nB, nC]
   refine we ?_
   go_wp2_with fail
   go_ret
   exact ⟨congrArg (fun b => Ending.returned (.bool b)) HR.out.symm, HBF.out⟩
  ·subst he
   replace hS := hS.trans (hF.below hS.size (by have := HGS.out; simpa using this))
   refine ⟨_, rfl, hS, ?_⟩
   have HR := hid hR
   have HBF : Hid (Below w.heap.size w w8) := hid (HB0.out.trans (hF.below HB0.out.size (by have := HGS.out; have := HB00.out; simp; omega)))
   clear hR hF hm
   try simp only [nA, nB, nC]
   refine h_takeL (i := 3) (v := (.tuple #[.nilIface, (.bool false)])) hns rfl rfl (by kernel_rfl) (by kernel_rfl) hP (y_move rfl) hS rfl (L' := #[true, true, true, true, false, false, false, false]) (by kernel_rfl) ?_
   try simp only [nA, nB, nC]
   refine h_takeL (i := 4) (v := .nilIface) hns rfl rfl (by kernel_rfl) (by kernel_rfl) hP (y_ext rfl (hr := ext2_0 .nilIface (.bool false))) hS rfl (L' := #[true, true, true, true, true, false, false, false]) (by kernel_rfl) ?_
   try simp only [nA, nB, nC]
   refine h_takeL (i := 5) (v := (.bool false)) hns rfl rfl (by kernel_rfl) (by kernel_rfl) hP (y_ext rfl (hr := ext2_1 .nilIface (.bool false))) hS rfl (L' := #[true, true, true, true, true, true, false, false]) (by kernel_rfl) ?_
   try simp only [nA, nB, nC]
   refine h_takeL (i := 6) (v := .nilIface) hns rfl rfl (by kernel_rfl) (by kernel_rfl) hP (y_assign rfl) hS rfl (L' := #[true, true, true, true, true, true, true, false]) (by kernel_rfl) ?_
   try simp only [nA, nB, nC]
   refine h_takeL (i := 7) (v := (.bool false)) hns rfl rfl (by kernel_rfl) (by kernel_rfl) hP (y_assign rfl) hS rfl (L' := #[true, true, true, true, true, true, true, true]) (by kernel_rfl) ?_
   try simp only [nA, nB, nC]
   refine wpAnyH_done (by kernel_rfl) ?_ _
   refine hN _ _ ?_
   clear hP hN hns hS
   go_upto_region 2 with fail
   refine rl ?_
   refine qv (.bool false) ?_
   refine qv (.bool false) ?_
   simp only [nA, nB, nC]
   refine we ?_
   go_wp2_with fail
   go_ret
   exact ⟨congrArg (fun b => Ending.returned (.bool b)) HR.out.symm, HBF.out⟩
seal wpList in
theorem expr12_any {t : Tr} {w : World} {v : Value} (hok : t.Ok) (htb : Tb w.heap.size w) (hnd : Nd w v t) (hlf : (rt 100 t && decide (0 ≤ lft t 8192)) = true → (fw (wrOf t)).length ≤ 140737488355328) : Calls Tryz.prog 12 #[v] w fun e w' => e = .returned (bif (rt 100 t && decide (0 ≤ lft t 8192)) then .tuple #[strV (fw (wrOf t)), .int .i64 0] else .tuple #[strV [], .int .i64 90]) ∧ Below w.heap.size w w' := by
 have HLF := hid hlf
 clear hlf
 have HOK := hid hok
 have HTB := hid (htb.mono (Nat.le_refl _))
 have HN := hid hnd
 obtain ⟨k, tx, n, kids, at_⟩ := t
 obtain ⟨a, c, rfl, -, -⟩ := hnd.open
 clear hok htb hnd
 generalize kids.length = N at *
 obtain ⟨t, ht⟩ : ∃ t, Tr.mk k tx n kids at_ = t := ⟨_, rfl⟩
 rw [ht] at HOK HN HLF ⊢
 clear ht
 have HB0 := hid (Below.refl w.heap.size w)
 go_enter Tryz.func12, Tryz.ntmps12
 go_upto_region 0 with fail
 refine rl ?_
 obtain ⟨w3, g1, (HX : Hid _), (K2 : Hid _), (HB4 : Hid _)⟩ := box_x 24 w #[(.int .i64 k), (strV tx), (.int .i64 n), (.slice a N c), (.int .i64 at_)]
 refine wp_run (v := (.pointer (some ⟨g1, 0, none⟩))) rfl rfl (run_boxOp rfl (by kernel_rfl) HX.out) rfl ?_
 try simp only [nA, nB, nC]
 replace HTB := hid (HTB.out.below HB4.out)
 replace HN := hid (HN.out.later HB4.out)
 replace HB0 := kb HB0 HB4
 refine qv (strV []) ?_
 refine qv (.int .i64 0) ?_
 simp only [nA, nB, nC]
 refine we ?_
 go_upto_region 1 with fail
 obtain ⟨w5, hwd⟩ : ∃ x, x = w3.drew := ⟨_, rfl⟩
 have HB6 : Hid (Below w3.heap.size w3 w5) := hid (by rw [hwd]; exact ⟨rfl, rfl, rfl, Nat.le_refl _, fun _ _ => rfl⟩)
 refine h_openL (S := fun x => Below w5.heap.size w5 x) (by kernel_rfl) (by kernel_rfl) (fun _ _ _ _ _ h => h) (L := #[false, false, false, false, false, false, false, false, false, false]) (by kernel_rfl) ?_
 intro Q' hns hP hN
 rw [← hwd]
 clear hwd
 replace K2 := ka HB6 K2
 replace HTB := hid (HTB.out.below HB6.out)
 replace HN := hid (HN.out.later HB6.out)
 replace HB0 := kb HB0 HB6
 have hS : Below w5.heap.size w5 w5 := Below.refl _ _
 refine h_takeL (i := 1) (v := (nv k tx n (.slice a N c) at_)) hns rfl rfl (by kernel_rfl) (by kernel_rfl) hP (y_load rfl (hl := fun w' h => load_blk Tryz.isAgg24 (by kernel_rfl) rfl (below_at h K2.out (heap_lt K2.out)))) hS rfl (L' := #[false, true, false, false, false, false, false, false, false, false]) (by kernel_rfl) ?_
 try simp only [nA, nB, nC]
 refine h_callL (i := 0) (f := 26) (args := #[]) (by kernel_rfl) rfl rfl (by kernel_rfl) (enter_go rfl (by kernel_rfl) (fun w => by go_simp)) (L' := #[true, true, false, false, false, false, false, false, false, false]) (by kernel_rfl) ?_
 have HCA := hid (newMaker_any w5)
 refine HCA.out.mono ?_
 rintro e w7 ⟨p, he, hm, hb, hge⟩
 ·subst he
  replace hS := hS.trans (hb.mono hS.size)
  refine ⟨_, rfl, hS, ?_⟩
  have HB00 : Hid (w.heap.size ≤ w5.heap.size) := hid HB0.out.size
  have HM := hid hm
  have HGE := hid hge
  have HBN := hid hb
  have HGS := hid hge
  clear hm hge hb
  replace K2 := ka HBN K2
  replace HTB := hid (HTB.out.below HBN.out)
  replace HN := hid (HN.out.later HBN.out)
  replace HB0 := kb HB0 HBN
  try simp only [nA, nB, nC]
  refine h_callL (i := 2) (f := 30) (args := #[(.pointer (some ⟨p, 0, none⟩)), (nv k tx n (.slice a N c) at_)]) (by kernel_rfl) rfl rfl (by kernel_rfl) (enter_go rfl (by kernel_rfl) (fun w => by go_simp)) (L' := #[true, true, true, false, false, false, false, false, false, false]) (by kernel_rfl) ?_
  have HCA := hid (outer_any t (B := w.heap.size) HOK.out (by decide) (by decide) HM.out (by have := HGS.out; have := HB00.out; omega) HB0.out.size HTB.out HN.out)
  refine HCA.out.mono ?_
  rintro e w8 (⟨hR, hF, u, he, hx, hm⟩ | ⟨hR, hF, he, m9, hm⟩)
  ·subst he
   replace hS := hS.trans (hF.below hS.size (by have := HGS.out; simpa using this))
   refine ⟨_, rfl, hS, ?_⟩
   have HR := hid hR
   have HXX := hid hx
   have HBF : Hid (Below w.heap.size w w8) := hid (HB0.out.trans (hF.below HB0.out.size (by have := HGS.out; have := HB00.out; simp; omega)))
   clear hR hF hx hm
   try simp only [nA, nB, nC]
   refine h_takeL (i := 3) (v := u) hns rfl rfl (by kernel_rfl) (by kernel_rfl) hP (y_ext rfl (hr := ext2_0 u (.bool true))) hS rfl (L' := #[true, true, true, true, false, false, false, false, false, false]) (by kernel_rfl) ?_
   try simp only [nA, nB, nC]
   refine h_takeL (i := 4) (v := (.bool true)) hns rfl rfl (by kernel_rfl) (by kernel_rfl) hP (y_ext rfl (hr := ext2_1 u (.bool true))) hS rfl (L' := #[true, true, true, true, true, false, false, false, false, false]) (by kernel_rfl) ?_
   try simp only [nA, nB, nC]
   refine h_callL (i := 5) (f := 25) (args := #[u, (.bool true)]) (by kernel_rfl) rfl rfl (by kernel_rfl) (enter_go rfl (by kernel_rfl) (fun w => by go_simp)) (L' := #[true, true, true, true, true, true, false, false, false, false]) (by kernel_rfl) ?_
   have HCA := hid (whole_yes HXX.out (HLF.out HR.out))
   refine HCA.out.mono ?_
   rintro e w9 ⟨rfl, hq⟩
   replace hS := hS.trans (hq.mono hS.size)
   refine ⟨_, rfl, hS, ?_⟩
   replace HBF : Hid (Below w.heap.size w w9) := hid (HBF.out.trans (hq.mono HBF.out.size))
   clear hq
   try simp only [nA, nB, nC]
   refine h_takeL (i := 6) (v := (strV (fw (wrOf t)))) hns rfl rfl (by kernel_rfl) (by kernel_rfl) hP (y_ext rfl (hr := ext2_0 (strV (fw (wrOf t))) (.int .i64 0))) hS rfl (L' := #[true, true, true, true, true, true, true, false, false, false]) (by kernel_rfl) ?_
   try simp only [nA, nB, nC]
   refine h_takeL (i := 7) (v := (.int .i64 0)) hns rfl rfl (by kernel_rfl) (by kernel_rfl) hP (y_ext rfl (hr := ext2_1 (strV (fw (wrOf t))) (.int .i64 0))) hS rfl (L' := #[true, true, true, true, true, true, true, true, false, false]) (by kernel_rfl) ?_
   try simp only [nA, nB, nC]
   refine h_takeL (i := 8) (v := (strV (fw (wrOf t)))) hns rfl rfl (by kernel_rfl) (by kernel_rfl) hP (y_assign rfl) hS rfl (L' := #[true, true, true, true, true, true, true, true, true, false]) (by kernel_rfl) ?_
   try simp only [nA, nB, nC]
   refine h_takeL (i := 9) (v := (.int .i64 0)) hns rfl rfl (by kernel_rfl) (by kernel_rfl) hP (y_assign rfl) hS rfl (L' := #[true, true, true, true, true, true, true, true, true, true]) (by kernel_rfl) ?_
   try simp only [nA, nB, nC]
   refine wpAnyH_done (by kernel_rfl) ?_ _
   refine hN _ _ ?_
   clear hP hN hns hS
   go_wp2_with fail
   go_ret2
   exact ⟨by rw [HR.out]; rfl, HBF.out⟩
  ·subst he
   replace hS := hS.trans (hF.below hS.size (by have := HGS.out; simpa using this))
   refine ⟨_, rfl, hS, ?_⟩
   have HR := hid hR
   have HBF : Hid (Below w.heap.size w w8) := hid (HB0.out.trans (hF.below HB0.out.size (by have := HGS.out; have := HB00.out; simp; omega)))
   clear hR hF hm
   try simp only [nA, nB, nC]
   refine h_takeL (i := 3) (v := .nilIface) hns rfl rfl (by kernel_rfl) (by kernel_rfl) hP (y_ext rfl (hr := ext2_0 .nilIface (.bool false))) hS rfl (L' := #[true, true, true, true, false, false, false, false, false, false]) (by kernel_rfl) ?_
   try simp only [nA, nB, nC]
   refine h_takeL (i := 4) (v := (.bool false)) hns rfl rfl (by kernel_rfl) (by kernel_rfl) hP (y_ext rfl (hr := ext2_1 .nilIface (.bool false))) hS rfl (L' := #[true, true, true, true, true, false, false, false, false, false]) (by kernel_rfl) ?_
   try simp only [nA, nB, nC]
   refine h_callL (i := 5) (f := 25) (args := #[.nilIface, (.bool false)]) (by kernel_rfl) rfl rfl (by kernel_rfl) (enter_go rfl (by kernel_rfl) (fun w => by go_simp)) (L' := #[true, true, true, true, true, true, false, false, false, false]) (by kernel_rfl) ?_
   have HCA := hid (whole_no w8)
   refine HCA.out.mono ?_
   rintro e wz ⟨rfl, hwz⟩
   refine ⟨_, rfl, by rw [hwz]; exact hS, ?_⟩
   obtain rfl := hwz.symm
   try simp only [nA, nB, nC]
   refine h_takeL (i := 6) (v := (strV [])) hns rfl rfl (by kernel_rfl) (by kernel_rfl) hP (y_ext rfl (hr := ext2_0 (strV []) (.int .i64 90))) hS rfl (L' := #[true, true, true, true, true, true, true, false, false, false]) (by kernel_rfl) ?_
   try simp only [nA, nB, nC]
   refine h_takeL (i := 7) (v := (.int .i64 90)) hns rfl rfl (by kernel_rfl) (by kernel_rfl) hP (y_ext rfl (hr := ext2_1 (strV []) (.int .i64 90))) hS rfl (L' := #[true, true, true, true, true, true, true, true, false, false]) (by kernel_rfl) ?_
   try simp only [nA, nB, nC]
   refine h_takeL (i := 8) (v := (strV [])) hns rfl rfl (by kernel_rfl) (by kernel_rfl) hP (y_assign rfl) hS rfl (L' := #[true, true, true, true, true, true, true, true, true, false]) (by kernel_rfl) ?_
   try simp only [nA, nB, nC]
   refine h_takeL (i := 9) (v := (.int .i64 90)) hns rfl rfl (by kernel_rfl) (by kernel_rfl) hP (y_assign rfl) hS rfl (L' := #[true, true, true, true, true, true, true, true, true, true]) (by kernel_rfl) ?_
   try simp only [nA, nB, nC]
   refine wpAnyH_done (by kernel_rfl) ?_ _
   refine hN _ _ ?_
   clear hP hN hns hS
   go_wp2_with fail
   go_ret2
   exact ⟨by rw [HR.out]; rfl, HBF.out⟩
end Go.Proofs.YtgpkcjpanpbhdaaGreatDoor
