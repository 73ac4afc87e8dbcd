/- What a change does: take, giveBack, write, setRoot. -/
import Derived.Test.YtdbgccgjdgomkaaGreatDoorPMemC
namespace Go.Proofs.YtdbgccgjdgomkaaGreatDoor
open Go Go.RowKit

/-- What a call leaves: the pager with other tables, and all else as it was. -/
def Did (um bm : Option Nat) (w w' : World) (p : Nat) (Q : Option Nat → Option Nat → Prop) : Prop := ∃ um' bm', Q um' bm' ∧ (∀ m, um' = some m → um = some m ∨ w.heap.size ≤ m) ∧ (∀ m, bm' = some m → bm = some m ∨ w.heap.size ≤ m) ∧ Fr (p :: (um.toList ++ bm.toList)) w w'
theorem Did.mono {um bm : Option Nat} {w w' : World} {p : Nat} {Q R : Option Nat → Option Nat → Prop} (h : Did um bm w w' p Q) (hQ : ∀ a b, Q a b → R a b) : Did um bm w w' p R := by
  obtain ⟨a, b, h1, h2⟩ := h
  exact ⟨a, b, hQ a b h1, h2⟩
section
variable {w : World} {p j : Nat} {l : List Bool} {kl kr : Int} {bg : Bool} {lf rt : Int} {um bm : Option Nat} {off : Int} {u : Int → Option Bool} {g : Int → Option (List UInt8)} (h : PM w p j l kl kr bg lf rt um bm off u g)
include h
theorem PM.own {w' : World} {bg' : Bool} {lf' rt' off' : Int} (hP : Pg w' p j l kl kr bg' lf' rt' um bm off') (hF : Fr [p] w w') : PM w' p j l kl kr bg' lf' rt' um bm off' u g := by
  obtain ⟨ku, hu⟩ := h.mu
  obtain ⟨kb, hb⟩ := h.mb
  have hp := h.pg.2
  refine ⟨hP, ⟨ku, hu.fr hF (fun m hm hx => ?_)⟩, ⟨kb, hb.fr hF (fun m hm hx => ?_)⟩, h.ne, h.gl, h.kd, h.kb⟩
  · have e : m = p := by simpa using hx
    subst e
    exact hu.cells hm hp
  · have e : m = p := by simpa using hx
    subst e
    exact hb.cells hm hp
theorem PM.pu : ∀ m, um = some m → m ≠ p := fun m hm e => by
  obtain ⟨ku, hu⟩ := h.mu
  subst e
  exact hu.cells hm h.pg.2
theorem PM.pb : ∀ m, bm = some m → m ≠ p := fun m hm e => by
  obtain ⟨kb, hb⟩ := h.mb
  subst e
  exact hb.cells hm h.pg.2
/-- A use is put. -/
theorem PM.putU (k : Nat) (hk : k < l.length) (b : Bool) :
    Calls Tryz.prog 93 #[.pointer (some ⟨p, 1030, none⟩), .int .i64 k, .int .u8 (b2u b).toNat] w fun e w' => e = .returned (.tuple #[]) ∧ Did um bm w w' p fun um' bm' => bm' = bm ∧ PM w' p j l kl kr bg lf rt um' bm' off (updF u k (some b)) g := by
  obtain ⟨ku, hu⟩ := h.mu
  obtain ⟨kb, hb⟩ := h.mb
  refine (put_use h.pg hu (k : Int) ((b2u b).toNat : Int)).mono ?_
  rintro e w' ⟨rfl, m, hm, ⟨hP, hM⟩, hF⟩
  rw [uV_upd] at hM
  refine ⟨rfl, some m, bm, ⟨rfl, hP, ⟨_, hM⟩, ⟨kb, hb.fr hF (fun x hx hmem => ?_)⟩, fun x hx hbx => ?_, h.gl, fun x hx => ?_, h.kb⟩, fun x hx => by cases hx; exact hm.imp id (·.2), fun x hx => .inl hx, hF.mono (fun x hx => .inl ?_)⟩
  · rcases List.mem_cons.1 hmem with rfl | hmem
    · exact hb.cells hx h.pg.2
    · exact h.ne x (by simpa using hmem) hx
  · cases hx
    rcases hm with hm | ⟨_, hm⟩
    · exact h.ne m hm hbx
    · have := hb.lt hbx; omega
  · by_cases e : x = (k : Int)
    · subst e; omega
    · rw [updF_ne _ _ e] at hx; exact h.kd x hx
  · simp only [List.mem_cons, List.mem_append] at hx ⊢
    rcases hx with rfl | hx
    · exact .inl rfl
    · exact .inr (.inl hx)
/-- A page's bytes are put. -/
theorem PM.putC (k : Nat) (hk : k < l.length) (c : List UInt8) (hc : c.length = 896) :
    Calls Tryz.prog 94 #[.pointer (some ⟨p, 1031, none⟩), .int .i64 k, V8 c] w fun e w' => e = .returned (.tuple #[]) ∧ Did um bm w w' p fun um' bm' => um' = um ∧ PM w' p j l kl kr bg lf rt um' bm' off u (updF g k (some c)) := by
  obtain ⟨ku, hu⟩ := h.mu
  obtain ⟨kb, hb⟩ := h.mb
  refine (put_con h.pg hb (k : Int) c hc).mono ?_
  rintro e w' ⟨rfl, m, hm, ⟨hP, hM⟩, hF⟩
  rw [gV_upd] at hM
  refine ⟨rfl, um, some m, ⟨rfl, hP, ⟨ku, hu.fr hF (fun x hx hmem => ?_)⟩, ⟨_, hM⟩, fun x hx hbx => ?_, fun x d hx => ?_, h.kd, fun x hx => ?_⟩, fun x hx => .inl hx, fun x hx => by cases hx; exact hm.imp id (·.2), hF.mono (fun x hx => .inl ?_)⟩
  · rcases List.mem_cons.1 hmem with rfl | hmem
    · exact hu.cells hx h.pg.2
    · exact h.ne x hx (by simpa using hmem)
  · cases hbx
    rcases hm with hm | ⟨_, hm⟩
    · exact h.ne m hx hm
    · have := hu.lt hx; omega
  · by_cases e : x = (k : Int)
    · subst e; rw [updF_same] at hx; cases hx; exact hc
    · rw [updF_ne _ _ e] at hx; exact h.gl x d hx
  · by_cases e : x = (k : Int)
    · subst e; omega
    · rw [updF_ne _ _ e] at hx; exact h.kb x hx
  · simp only [List.mem_cons, List.mem_append] at hx ⊢
    rcases hx with rfl | hx
    · exact .inl rfl
    · exact .inr (.inr hx)
/-- A page's bytes are struck out. -/
theorem PM.dropC (k : Nat) :
    Calls Tryz.prog 107 #[.pointer (some ⟨p, 1031, none⟩), .int .i64 k] w fun e w' => e = .returned (.tuple #[]) ∧ Did um bm w w' p fun um' bm' => um' = um ∧ bm' = bm ∧ PM w' p j l kl kr bg lf rt um' bm' off u (updF g k none) := by
  obtain ⟨ku, hu⟩ := h.mu
  obtain ⟨kb, hb⟩ := h.mb
  refine (drop_con h.pg hb (k : Int)).mono ?_
  rintro e w' ⟨rfl, ks', hP, hM, _, hF⟩
  rw [gV_del] at hM
  refine ⟨rfl, um, bm, ⟨rfl, rfl, hP, ⟨ku, hu.fr hF (fun x hx hmem => ?_)⟩, ⟨_, hM⟩, h.ne, fun x d hx => ?_, h.kd, fun x hx => ?_⟩, fun x hx => .inl hx, fun x hx => .inl hx, hF.mono (fun x hx => .inl ?_)⟩
  · exact h.ne x hx (by simpa using hmem)
  · by_cases e : x = (k : Int)
    · subst e; rw [updF_same] at hx; cases hx
    · rw [updF_ne _ _ e] at hx; exact h.gl x d hx
  · by_cases e : x = (k : Int)
    · subst e; rw [updF_same] at hx; exact absurd rfl hx
    · rw [updF_ne _ _ e] at hx; exact h.kb x hx
  · simp only [List.mem_cons, List.mem_append]
    exact .inr (.inr hx)
end
theorem Did.trans {um bm : Option Nat} {w w1 w2 : World} {p : Nat} {um1 bm1 : Option Nat} {Q : Option Nat → Option Nat → Prop} (hF : Fr (p :: (um.toList ++ bm.toList)) w w1) (h1 : ∀ m, um1 = some m → um = some m ∨ w.heap.size ≤ m) (h2 : ∀ m, bm1 = some m → bm = some m ∨ w.heap.size ≤ m) (h : Did um1 bm1 w1 w2 p Q) : Did um bm w w2 p Q := by
  obtain ⟨a, b, hQ, q1, q2, hF2⟩ := h
  refine ⟨a, b, hQ, fun m hm => ?_, fun m hm => ?_, hF.trans hF2 (fun x hx => ?_)⟩
  · rcases q1 m hm with h | h
    · exact h1 m h
    · exact .inr (Nat.le_trans hF.size h)
  · rcases q2 m hm with h | h
    · exact h2 m h
    · exact .inr (Nat.le_trans hF.size h)
  simp only [List.mem_cons, List.mem_append, Option.mem_toList] at hx ⊢
  rcases hx with rfl | hx | hx
  · exact .inl (.inl rfl)
  · rcases h1 x hx with h | h
    · exact .inl (.inr (.inl h))
    · exact .inr h
  · rcases h2 x hx with h | h
    · exact .inl (.inr (.inr h))
    · exact .inr h
theorem Did.own {um bm : Option Nat} {w w' : World} {p : Nat} {Q : Option Nat → Option Nat → Prop} (hF : Fr [p] w w') (h : Q um bm) : Did um bm w w' p Q := ⟨um, bm, h, fun _ h => .inl h, fun _ h => .inl h, hF.mono (fun x hx => .inl (by simp at hx ⊢; exact .inl hx))⟩
theorem Did.fst {um bm : Option Nat} {w w1 w2 : World} {p : Nat} {Q : Option Nat → Option Nat → Prop} (hF : Fr [p] w w1) (h : Did um bm w1 w2 p Q) : Did um bm w w2 p Q :=
  Did.trans (hF.mono (fun x hx => .inl (by simp at hx ⊢; exact .inl hx))) (fun _ h => .inl h) (fun _ h => .inl h) h
set_option maxRecDepth 100000 in
set_option maxHeartbeats 1000000 in
theorem take_any {w : World} {p j : Nat} {l : List Bool} {kl kr : Int} {bg : Bool} {lf rt : Int} {um bm : Option Nat} {off : Int} {u : Int → Option Bool} {g : Int → Option (List UInt8)} (h : PM w p j l kl kr bg lf rt um bm off u g) (k : Nat) (hk : k < l.length) (hl0 : 0 < lf) (hl1 : lf ≤ 100000) :
    Calls Tryz.prog 60 #[.pointer (some ⟨p, 1027, none⟩), .int .i64 k] w fun e w' => e = .returned (.tuple #[]) ∧ Did um bm w w' p fun um' bm' => PM w' p j l kl kr true (lf - 1) rt um' bm' off (updF u k (some true)) (updF g k (some z896)) := by
  have c0 := h.pg.cbg
  have f0 := h.pg.fz 1027
  have hF1 := Fr.setCell w p 1027 (.bool true)
  have h1 := h.own (h.pg.sbg true) hF1
  have c1 := h1.pg.clf
  have f1 := h1.pg.fz 1028
  have hF2 := Fr.setCell (w.setCell ⟨p, 1027, none⟩ (.bool true)) p 1028 (.int .i64 (lf - 1))
  have h2 := h1.own (h1.pg.slf (lf - 1)) hF2
  have hFF : Fr [p] w ((w.setCell ⟨p, 1027, none⟩ (.bool true)).setCell ⟨p, 1028, none⟩ (.int .i64 (lf - 1))) := hF1.trans hF2 (fun x hx => .inl hx)
  have hws : IntKind.i64.wrap (lf - 1) = lf - 1 := by rw [IntWalk.i64_in _ ⟨by omega, by omega⟩]
  have HP := hid (h2.putU k hk true)
  have HF := hid hFF
  have HK := hid hk
  clear h h1 h2 hF1 hF2 hFF hk hl0 hl1
  go_enter Tryz.func60, Tryz.ntmps60
  go_wp2_with fail
  refine HP.out.mono ?_
  rintro e w3 ⟨rfl, hD3⟩
  have hD3 := Did.fst HF.out hD3
  obtain ⟨um1, bm1, ⟨rfl, h3⟩, q1, q2, hF3⟩ := hD3
  have HC := hid (h3.putC k HK.out z896 z896_len)
  have H3 := hid (And.intro q1 (And.intro q2 hF3))
  clear h3 hF3 q1 q2 HP
  go_upto_region 3 with fail
  refine wp_region_lit ?_
  refine wp_y (v := .pointer (some ⟨p, 1027, none⟩)) rfl rfl (y_move rfl (by kernel_rfl) (by kernel_rfl)) rfl ?_
  refine wp_y (v := .pointer (some ⟨p, 1027, none⟩)) rfl rfl (y_nil rfl (by kernel_rfl) (by kernel_rfl)) rfl ?_
  refine wp_y (v := .pointer (some ⟨p, 1031, none⟩)) rfl rfl (y_faddr rfl (by kernel_rfl) (by kernel_rfl) (fg87_4 (p) (1027))) rfl ?_
  refine wp_y (v := .int .i64 k) rfl rfl (y_move rfl (by kernel_rfl) (by kernel_rfl)) rfl ?_
  refine wp_run (v := V8 z896) rfl rfl (run_buildOp rfl (by kernel_rfl) (pbuild109 _)) rfl ?_
  refine wp_call (f := 94) (args := #[.pointer (some ⟨p, 1031, none⟩), .int .i64 k, V8 z896]) (by kernel_rfl) (fun w => by go_simp) ?_
  refine HC.out.mono ?_
  rintro e w4 ⟨rfl, h4⟩
  refine ⟨_, rfl, ?_⟩
  dsimp only [Act.put]
  have HZ : Hid (Did um bm1 w w4 p fun um' bm' => PM w4 p j l kl kr true (lf - 1) rt um' bm' off (updF u k (some true)) (updF g k (some z896))) := hid (Did.trans H3.out.2.2 H3.out.1 H3.out.2.1 (h4.mono fun a b hab => by obtain ⟨_, hab⟩ := hab; exact hab))
  clear h4 H3 HC
  refine wp_end ?_
  go_wp2_with fail
  go_end0
  exact ⟨rfl, HZ.out⟩
set_option maxRecDepth 100000 in
set_option maxHeartbeats 1000000 in
theorem give_any {w : World} {p j : Nat} {l : List Bool} {kl kr : Int} {bg : Bool} {lf rt : Int} {um bm : Option Nat} {off : Int} {u : Int → Option Bool} {g : Int → Option (List UInt8)} (h : PM w p j l kl kr bg lf rt um bm off u g) (k : Nat) (hk : k < l.length) (hl0 : 0 ≤ lf) (hl1 : lf ≤ 100000) :
    Calls Tryz.prog 73 #[.pointer (some ⟨p, 1027, none⟩), .int .i64 k] w fun e w' => e = .returned (.tuple #[]) ∧ Did um bm w w' p fun um' bm' => PM w' p j l kl kr true (lf + 1) rt um' bm' off (updF u k (some false)) (updF g k none) := by
  have c0 := h.pg.cbg
  have f0 := h.pg.fz 1027
  have hF1 := Fr.setCell w p 1027 (.bool true)
  have h1 := h.own (h.pg.sbg true) hF1
  have c1 := h1.pg.clf
  have f1 := h1.pg.fz 1028
  have hF2 := Fr.setCell (w.setCell ⟨p, 1027, none⟩ (.bool true)) p 1028 (.int .i64 (lf + 1))
  have h2 := h1.own (h1.pg.slf (lf + 1)) hF2
  have hFF : Fr [p] w ((w.setCell ⟨p, 1027, none⟩ (.bool true)).setCell ⟨p, 1028, none⟩ (.int .i64 (lf + 1))) := hF1.trans hF2 (fun x hx => .inl hx)
  have hws : IntKind.i64.wrap (lf + 1) = lf + 1 := by rw [IntWalk.i64_in _ ⟨by omega, by omega⟩]
  have HP := hid (h2.putU k hk false)
  have HF := hid hFF
  clear h h1 h2 hF1 hF2 hFF hk hl0 hl1
  go_enter Tryz.func73, Tryz.ntmps73
  go_wp2_with fail
  refine HP.out.mono ?_
  rintro e w3 ⟨rfl, hD3⟩
  have hD3 := Did.fst HF.out hD3
  obtain ⟨um1, bm1, ⟨rfl, h3⟩, q1, q2, hF3⟩ := hD3
  have HC := hid (h3.dropC k)
  have H3 := hid (And.intro q1 (And.intro q2 hF3))
  clear h3 hF3 q1 q2 HP
  go_wp2_with fail
  refine HC.out.mono ?_
  rintro e w4 ⟨rfl, h4⟩
  have HZ : Hid (Did um bm1 w w4 p fun um' bm' => PM w4 p j l kl kr true (lf + 1) rt um' bm' off (updF u k (some false)) (updF g k none)) := hid (Did.trans H3.out.2.2 H3.out.1 H3.out.2.1 (h4.mono fun a b hab => by obtain ⟨_, _, hab⟩ := hab; exact hab))
  clear h4 H3 HC
  go_wp2_with fail
  go_end0
  exact ⟨rfl, HZ.out⟩
set_option maxRecDepth 100000 in
set_option maxHeartbeats 1000000 in
theorem cwrite_any {w : World} {p j : Nat} {l : List Bool} {kl kr : Int} {bg : Bool} {lf rt : Int} {um bm : Option Nat} {off : Int} {u : Int → Option Bool} {g : Int → Option (List UInt8)} (h : PM w p j l kl kr bg lf rt um bm off u g) (k : Nat) (hk : k < l.length) (c : List UInt8) (hc : c.length = 896) :
    Calls Tryz.prog 80 #[.pointer (some ⟨p, 1027, none⟩), .int .i64 k, V8 c] w fun e w' => e = .returned (.tuple #[]) ∧ Did um bm w w' p fun um' bm' => PM w' p j l kl kr true lf rt um' bm' off u (updF g k (some c)) := by
  obtain ⟨gb, hgb⟩ : ∃ gb, w.heap.size = gb := ⟨_, rfl⟩
  have hbx := box109 w c
  have hB0 : Below w.heap.size w (w.alloc (.cells (cells8 c).toArray 109)) := (Below.refl _ _).alloc (Nat.le_refl _) _
  have hR0 : Rw (w.alloc (.cells (cells8 c).toArray 109)) w.heap.size 109 c := heap_alloc_last w _
  have h0 := h.below hB0
  have hpl := h.pg.lt
  have HN : Hid (gb ∉ p :: (um.toList ++ bm.toList)) := hid (fun hm => by
    obtain ⟨ku, hu⟩ := h.mu
    obtain ⟨kb, hb⟩ := h.mb
    simp only [List.mem_cons, List.mem_append, Option.mem_toList] at hm
    rcases hm with hm | hm | hm
    · omega
    · have := hu.lt hm; omega
    · have := hb.lt hm; omega)
  generalize w.alloc (.cells (cells8 c).toArray 109) = w0 at *
  rw [hgb] at hbx hR0 hB0
  have c0 := h0.pg.cbg
  have f0 := h0.pg.fz 1027
  have hF1 := Fr.setCell w0 p 1027 (.bool true)
  have h1 := h0.own (h0.pg.sbg true) hF1
  have hR1 : Rw (w0.setCell ⟨p, 1027, none⟩ (.bool true)) gb 109 c := hF1.at hR0 (by simp; omega)
  have hFw : Fr [p] w (w0.setCell ⟨p, 1027, none⟩ (.bool true)) := (Fr.of_below (X := [p]) (by rw [hgb]; exact hB0)).trans hF1 (fun x hx => .inl hx)
  obtain ⟨w1, hw1⟩ : ∃ w1, w1 = w0.setCell ⟨p, 1027, none⟩ (.bool true) := ⟨_, rfl⟩
  rw [← hw1] at h1 hR1 hFw
  have hd : Below w1.heap.size w1 w1.drew := (Below.refl _ _).drew
  have h1d := h1.below hd
  have hFd : Fr [p] w w1.drew := hFw.trans (Fr.of_below (X := []) hd) (by simp)
  have HC := hid (h1d.putC k hk c hc)
  have HS : Hid (Rw w1.drew gb 109 c) := hid hR1
  have HF := hid hFd
  have HBX := hid hbx
  have HCL := hid hc
  have HW1 := hid hw1
  clear hbx hB0 hR0 h h0 h1 hF1 hR1 hFw hd h1d hFd hgb hk hc hpl hw1
  go_enter Tryz.func80, Tryz.ntmps80
  go_upto_region 0 with fail
  refine wp_region_lit ?_
  refine wp_run (v := .pointer (some ⟨gb, 0, none⟩)) rfl rfl (run_boxOp rfl (by kernel_rfl) HBX.out) rfl ?_
  try simp only [List.setIfInBounds_toArray, List.set_cons_zero, List.set_cons_succ]
  refine wp_end ?_
  go_wp2_with fail
  rw [← HW1.out]
  refine h_openL (S := fun w' => Rw w' gb 109 c) (by kernel_rfl) (by kernel_rfl) (fun _ _ _ _ _ h => h) (L := #[false, false, false, false, false, false]) (by kernel_rfl) ?_
  intro Q' hns hP hN
  have hS := HS.out
  refine h_takeL (i := 0) (v := .pointer (some ⟨p, 1027, none⟩)) hns rfl rfl (by kernel_rfl) (by kernel_rfl) hP (y_move rfl (by kernel_rfl) (by kernel_rfl)) hS rfl (L' := #[true, false, false, false, false, false]) (by kernel_rfl) ?_
  refine h_takeL (i := 1) (v := .pointer (some ⟨p, 1027, none⟩)) hns rfl rfl (by kernel_rfl) (by kernel_rfl) hP (y_nil rfl (by kernel_rfl) (by kernel_rfl)) hS rfl (L' := #[true, true, false, false, false, false]) (by kernel_rfl) ?_
  refine h_takeL (i := 2) (v := .pointer (some ⟨p, 1031, none⟩)) hns rfl rfl (by kernel_rfl) (by kernel_rfl) hP (y_faddr rfl (by kernel_rfl) (by kernel_rfl) (fg87_4 (p) (1027))) hS rfl (L' := #[true, true, true, false, false, false]) (by kernel_rfl) ?_
  refine h_takeL (i := 3) (v := .int .i64 k) hns rfl rfl (by kernel_rfl) (by kernel_rfl) hP (y_move rfl (by kernel_rfl) (by kernel_rfl)) hS rfl (L' := #[true, true, true, true, false, false]) (by kernel_rfl) ?_
  refine h_takeL (i := 4) (v := V8 c) hns rfl rfl (by kernel_rfl) (by kernel_rfl) hP (y_load rfl (by kernel_rfl) (by kernel_rfl) (fun w' h => load109 HCL.out h)) hS rfl (L' := #[true, true, true, true, true, false]) (by kernel_rfl) ?_
  refine h_callL (i := 5) (f := 94) (args := #[.pointer (some ⟨p, 1031, none⟩), .int .i64 k, V8 c]) (by kernel_rfl) rfl rfl (by kernel_rfl) (enter_go rfl (by kernel_rfl) (fun w => by go_simp)) (L' := #[true, true, true, true, true, true]) (by kernel_rfl) ?_
  refine HC.out.mono ?_
  rintro e w4 ⟨rfl, h4⟩
  refine ⟨_, rfl, ?_, ?_⟩
  · exact h4.elim fun _ h => h.elim fun _ h => h.2.2.2.at HS.out HN.out
  try simp only [List.setIfInBounds_toArray, List.set_cons_zero, List.set_cons_succ]
  refine wpAnyH_done (by kernel_rfl) ?_ _
  refine hN _ _ ?_
  clear hP hN hns
  have HZ : Hid (Did um bm w w4 p fun um' bm' => PM w4 p j l kl kr true lf rt um' bm' off u (updF g k (some c))) := hid (Did.fst HF.out (h4.mono fun a b hab => by obtain ⟨_, hab⟩ := hab; exact hab))
  clear h4 HC HS HF hS
  go_wp2_with fail
  go_end0
  exact ⟨rfl, HZ.out⟩
set_option maxRecDepth 100000 in
set_option maxHeartbeats 1000000 in
theorem csetRoot_any {w : World} {p j : Nat} {l : List Bool} {kl kr : Int} {bg : Bool} {lf rt : Int} {um bm : Option Nat} {off : Int} {u : Int → Option Bool} {g : Int → Option (List UInt8)} (h : PM w p j l kl kr bg lf rt um bm off u g) (k : Int) :
    Calls Tryz.prog 81 #[.pointer (some ⟨p, 1027, none⟩), .int .i64 k] w fun e w' => e = .returned (.tuple #[]) ∧ PM w' p j l kl kr true lf k um bm off u g ∧ Fr [p] w w' := by
  have c0 := h.pg.cbg
  have f0 := h.pg.fz 1027
  have hF1 := Fr.setCell w p 1027 (.bool true)
  have h1 := h.own (h.pg.sbg true) hF1
  have c1 := h1.pg.crt
  have f1 := h1.pg.fz 1029
  have hF2 := Fr.setCell (w.setCell ⟨p, 1027, none⟩ (.bool true)) p 1029 (.int .i64 k)
  have h2 := h1.own (h1.pg.srt k) hF2
  have HZ := hid (And.intro h2 (hF1.trans hF2 (fun x hx => .inl hx)))
  clear h h1 h2 hF1 hF2
  go_enter Tryz.func81, Tryz.ntmps81
  go_wp2
  go_end0
  exact ⟨rfl, HZ.out⟩
end Go.Proofs.YtdbgccgjdgomkaaGreatDoor
