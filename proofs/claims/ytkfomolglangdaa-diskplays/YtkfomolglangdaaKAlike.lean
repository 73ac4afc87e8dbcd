/- The law's own comparing of both disks. -/
import Derived.Test.YtkfomolglangdaaKDoesA
namespace Go.Proofs.Ytkfomolglangdaa
open Go Go.RowKit

/-- The law's pair of disks at block q. -/
def Bo (w : World) (q p r : Nat) : Prop := w.heap[q]? = some (.cells #[.pointer (some ⟨p, 0, none⟩), .pointer (some ⟨r, 0, none⟩)] 33 (0, 0))
theorem Bo.c0 {w : World} {q p r : Nat} (h : Bo w q p r) : w.cell? ⟨q, 0, none⟩ = some (.pointer (some ⟨p, 0, none⟩)) := cell_at h 0 rfl
theorem Bo.c1 {w : World} {q p r : Nat} (h : Bo w q p r) : w.cell? ⟨q, 1, none⟩ = some (.pointer (some ⟨r, 0, none⟩)) := cell_at h 1 rfl
theorem fa33_0 (b : Nat) (w : World) : (Instr.fieldAt 33 (.pointer (some ⟨b, 0, none⟩)) 0).run Try.prog w = .ok (.pointer (some ⟨b, 0, none⟩)) w := by go_simp
theorem fa33_1 (b : Nat) (w : World) : (Instr.fieldAt 33 (.pointer (some ⟨b, 0, none⟩)) 1).run Try.prog w = .ok (.pointer (some ⟨b, 1, none⟩)) w := by go_simp
theorem fa62_2 (b : Nat) (w : World) : (Instr.fieldAt 62 (.pointer (some ⟨b, 0, none⟩)) 2).run Try.prog w = .ok (.pointer (some ⟨b, 2, none⟩)) w := by go_simp
section
variable {ops : Array Oper} {S : World → Prop} {o : Oper} {a : Act}
theorem y_lenW59 {x : Operand} {p : Option Addr} {n c : Nat} (hop : o.op = .call { callee := .builtin .len, args := #[x], argTypes := #[59] }) (hw : Region.wanted o (yielded ops a.tmps) = true) (hx : a.eval x = .slice p n c) : YieldsIf Try.prog ops S o (.int .i64 n) a :=
  .inl ⟨hw, fun w _ => by
    have h1 : (Builtin.len_ #[59] o.type #[a.eval x]).run Try.prog w = .ok (.int .i64 n) w := by rw [hx]; go_simp
    unfold execOp
    simp only [hop, resolve, invoke, builtin, Sem.run_bind, Sem.run_pure, Result.andThen_ok, List.map_toArray, List.map_cons, List.map_nil, h1]⟩
theorem y_lenW60 {x : Operand} {p : Option Addr} {n c : Nat} (hop : o.op = .call { callee := .builtin .len, args := #[x], argTypes := #[60] }) (hw : Region.wanted o (yielded ops a.tmps) = true) (hx : a.eval x = .slice p n c) : YieldsIf Try.prog ops S o (.int .i64 n) a :=
  .inl ⟨hw, fun w _ => by
    have h1 : (Builtin.len_ #[60] o.type #[a.eval x]).run Try.prog w = .ok (.int .i64 n) w := by rw [hx]; go_simp
    unfold execOp
    simp only [hop, resolve, invoke, builtin, Sem.run_bind, Sem.run_pure, Result.andThen_ok, List.map_toArray, List.map_cons, List.map_nil, h1]⟩
end
theorem Bk.sl {w : World} {v : Value} {l : List UInt8} (h : Bk w v l) : Sl w v l := by
  obtain ⟨g, cap, rfl⟩ := h.shape
  have h1 := h.2
  have hl := h.1
  have := owns_sl (l := l) (cap := cap) (by rw [hl]; exact h1)
  rw [hl] at this
  exact this
set_option maxRecDepth 100000 in
set_option maxHeartbeats 3200000 in
theorem alike_any {w : World} {q p r B : Nat} {X : List Nat} {s : DS} (hb : Bo w q p r) (hD : Disk w p X s) (hR : Ref w B r s) :
    Calls Try.prog 13 #[.pointer (some ⟨q, 0, none⟩)] w fun e w' => e = .returned (.bool true) ∧ Below w.heap.size w w' := by
  have hok := hD.ok
  have hR' := hR
  obtain ⟨vs, vl, _, hRc, hS, hL, _⟩ := hR'
  obtain ⟨sa, sc, rfl⟩ := hS.shape
  obtain ⟨la, lc, rfl⟩ := hL.shape
  rw [hok.keptLen] at hRc
  have HC := hid (show w.drew.cell? ⟨q, 0, none⟩ = some (.pointer (some ⟨p, 0, none⟩)) ∧ w.drew.cell? ⟨q, 1, none⟩ = some (.pointer (some ⟨r, 0, none⟩)) ∧ w.drew.cell? ⟨r, 0, none⟩ = some (.slice sa s.n sc) ∧ w.drew.cell? ⟨r, 1, none⟩ = some (.slice la s.loose.length lc) ∧ w.drew.cell? ⟨r, 2, none⟩ = some (.int .i64 s.ops) from ⟨hb.c0, hb.c1, hRc.c0, hRc.c1, hRc.c2⟩)
  have HD0 := hid (show Disk w.drew p X s from hD)
  have HR0 := hid (show Ref w.drew B r s from hR)
  have HB0 := hid (show Bo w.drew q p r from hb)
  have HRC := hid (show Rc w.drew r (.slice sa s.n sc) (.slice la s.loose.length lc) s.ops s.cut s.gone from hRc)
  have HOK := hid hok
  have hq0 : w.drew.cell? ⟨q, 1, none⟩ = some (.pointer (some ⟨r, 0, none⟩)) := hb.c1
  obtain ⟨gn, hgn⟩ : ∃ gn, s.gone = gn := ⟨_, rfl⟩
  have hr4 : w.drew.cell? ⟨r, 4, none⟩ = some (.bool gn) := by rw [← hgn]; exact hRc.c4
  have HGN := hid hgn
  clear hgn
  clear hb hD hR hRc hS hL hok
  go_enter Try.func13, Try.ntmps13
  go_upto_region 1 with fail
  refine h_openL (S := fun w' => w' = w.drew) (by kernel_rfl) (by kernel_rfl) (fun _ _ _ _ _ h => h) (L := #[false, false, false, false, false, false, false, false, false, false, false, false, false, false, false, false, false, false, false, false, false, false, false, false, false, false, false, false, false, false, false, false, false, false, false, false, false, false, false, false, false, false, false, false, false]) (by kernel_rfl) ?_
  intro Q' hns hP hN
  have hS := (show w.drew = w.drew from rfl)
  refine h_takeL (i := 0) (v := .pointer (some ⟨q, 0, none⟩)) hns rfl rfl (by kernel_rfl) (by kernel_rfl) hP (y_move rfl (by kernel_rfl) (by kernel_rfl)) hS rfl (L' := #[true, false, false, false, false, false, false, false, false, false, false, false, false, false, false, false, false, false, false, false, false, false, false, false, false, false, false, false, false, false, false, false, false, false, false, false, false, false, false, false, false, false, false, false, false]) (by kernel_rfl) ?_
  refine h_takeL (i := 1) (v := .pointer (some ⟨q, 0, none⟩)) hns rfl rfl (by kernel_rfl) (by kernel_rfl) hP (y_nil rfl (by kernel_rfl) (by kernel_rfl)) hS rfl (L' := #[true, true, false, false, false, false, false, false, false, false, false, false, false, false, false, false, false, false, false, false, false, false, false, false, false, false, false, false, false, false, false, false, false, false, false, false, false, false, false, false, false, false, false, false, false]) (by kernel_rfl) ?_
  refine h_takeL (i := 2) (v := .pointer (some ⟨q, 0, none⟩)) hns rfl rfl (by kernel_rfl) (by kernel_rfl) hP (y_faddr rfl (by kernel_rfl) (by kernel_rfl) (fa33_0 (q))) hS rfl (L' := #[true, true, true, false, false, false, false, false, false, false, false, false, false, false, false, false, false, false, false, false, false, false, false, false, false, false, false, false, false, false, false, false, false, false, false, false, false, false, false, false, false, false, false, false, false]) (by kernel_rfl) ?_
  refine h_takeL (i := 3) (v := .pointer (some ⟨p, 0, none⟩)) hns rfl rfl (by kernel_rfl) (by kernel_rfl) hP (y_load rfl (by kernel_rfl) (by kernel_rfl) (fun w' h => by subst h; exact load1 Try.isAgg24 HC.out.1)) hS rfl (L' := #[true, true, true, true, false, false, false, false, false, false, false, false, false, false, false, false, false, false, false, false, false, false, false, false, false, false, false, false, false, false, false, false, false, false, false, false, false, false, false, false, false, false, false, false, false]) (by kernel_rfl) ?_
  refine h_takeL (i := 5) (v := .pointer (some ⟨q, 0, none⟩)) hns rfl rfl (by kernel_rfl) (by kernel_rfl) hP (y_move rfl (by kernel_rfl) (by kernel_rfl)) hS rfl (L' := #[true, true, true, true, false, true, false, false, false, false, false, false, false, false, false, false, false, false, false, false, false, false, false, false, false, false, false, false, false, false, false, false, false, false, false, false, false, false, false, false, false, false, false, false, false]) (by kernel_rfl) ?_
  refine h_takeL (i := 6) (v := .pointer (some ⟨q, 0, none⟩)) hns rfl rfl (by kernel_rfl) (by kernel_rfl) hP (y_nil rfl (by kernel_rfl) (by kernel_rfl)) hS rfl (L' := #[true, true, true, true, false, true, true, false, false, false, false, false, false, false, false, false, false, false, false, false, false, false, false, false, false, false, false, false, false, false, false, false, false, false, false, false, false, false, false, false, false, false, false, false, false]) (by kernel_rfl) ?_
  refine h_takeL (i := 7) (v := .pointer (some ⟨q, 1, none⟩)) hns rfl rfl (by kernel_rfl) (by kernel_rfl) hP (y_faddr rfl (by kernel_rfl) (by kernel_rfl) (fa33_1 (q))) hS rfl (L' := #[true, true, true, true, false, true, true, true, false, false, false, false, false, false, false, false, false, false, false, false, false, false, false, false, false, false, false, false, false, false, false, false, false, false, false, false, false, false, false, false, false, false, false, false, false]) (by kernel_rfl) ?_
  simp only [List.setIfInBounds_toArray, List.set_cons_zero, List.set_cons_succ]
  refine h_takeL (i := 8) (v := .pointer (some ⟨r, 0, none⟩)) hns rfl rfl (by kernel_rfl) (by kernel_rfl) hP (y_load rfl (by kernel_rfl) (by kernel_rfl) (fun w' h => by subst h; exact load1 Try.isAgg28 HC.out.2.1)) hS rfl (L' := #[true, true, true, true, false, true, true, true, true, false, false, false, false, false, false, false, false, false, false, false, false, false, false, false, false, false, false, false, false, false, false, false, false, false, false, false, false, false, false, false, false, false, false, false, false]) (by kernel_rfl) ?_
  refine h_takeL (i := 9) (v := .pointer (some ⟨r, 0, none⟩)) hns rfl rfl (by kernel_rfl) (by kernel_rfl) hP (y_nil rfl (by kernel_rfl) (by kernel_rfl)) hS rfl (L' := #[true, true, true, true, false, true, true, true, true, true, false, false, false, false, false, false, false, false, false, false, false, false, false, false, false, false, false, false, false, false, false, false, false, false, false, false, false, false, false, false, false, false, false, false, false]) (by kernel_rfl) ?_
  refine h_takeL (i := 10) (v := .pointer (some ⟨r, 0, none⟩)) hns rfl rfl (by kernel_rfl) (by kernel_rfl) hP (y_faddr rfl (by kernel_rfl) (by kernel_rfl) (fa62_0 (r))) hS rfl (L' := #[true, true, true, true, false, true, true, true, true, true, true, false, false, false, false, false, false, false, false, false, false, false, false, false, false, false, false, false, false, false, false, false, false, false, false, false, false, false, false, false, false, false, false, false, false]) (by kernel_rfl) ?_
  refine h_takeL (i := 11) (v := .slice sa s.n sc) hns rfl rfl (by kernel_rfl) (by kernel_rfl) hP (y_load rfl (by kernel_rfl) (by kernel_rfl) (fun w' h => by subst h; exact load1 Try.isAgg59 HC.out.2.2.1)) hS rfl (L' := #[true, true, true, true, false, true, true, true, true, true, true, true, false, false, false, false, false, false, false, false, false, false, false, false, false, false, false, false, false, false, false, false, false, false, false, false, false, false, false, false, false, false, false, false, false]) (by kernel_rfl) ?_
  refine h_takeL (i := 12) (v := .int .i64 s.n) hns rfl rfl (by kernel_rfl) (by kernel_rfl) hP (y_lenW59 (p := sa) (c := sc) rfl (by kernel_rfl) (by kernel_rfl)) hS rfl (L' := #[true, true, true, true, false, true, true, true, true, true, true, true, true, false, false, false, false, false, false, false, false, false, false, false, false, false, false, false, false, false, false, false, false, false, false, false, false, false, false, false, false, false, false, false, false]) (by kernel_rfl) ?_
  refine h_callL (i := 4) (f := 22) (args := #[.pointer (some ⟨p, 0, none⟩)]) (by kernel_rfl) rfl rfl (by kernel_rfl) (enter_go rfl (by kernel_rfl) (fun w => by go_simp)) (L' := #[true, true, true, true, true, true, true, true, true, true, true, true, true, false, false, false, false, false, false, false, false, false, false, false, false, false, false, false, false, false, false, false, false, false, false, false, false, false, false, false, false, false, false, false, false]) (by kernel_rfl) ?_
  refine (sectors_d HD0.out).mono ?_
  rintro e wz ⟨rfl, hwz⟩
  subst hwz
  refine ⟨_, rfl, hS, ?_⟩
  refine h_takeL (i := 13) (v := .bool false) hns rfl rfl (by kernel_rfl) (by kernel_rfl) hP (y_neqi (t := 3) (x := s.n) (y := s.n) (.inl rfl) rfl (by kernel_rfl) (by kernel_rfl) (by kernel_rfl) (by simp)) hS rfl (L' := #[true, true, true, true, true, true, true, true, true, true, true, true, true, true, false, false, false, false, false, false, false, false, false, false, false, false, false, false, false, false, false, false, false, false, false, false, false, false, false, false, false, false, false, false, false]) (by kernel_rfl) ?_
  refine h_takeL (i := 14) (v := .bool false) hns rfl rfl (by kernel_rfl) (by kernel_rfl) hP (y_move rfl (by kernel_rfl) (by kernel_rfl)) hS rfl (L' := #[true, true, true, true, true, true, true, true, true, true, true, true, true, true, true, false, false, false, false, false, false, false, false, false, false, false, false, false, false, false, false, false, false, false, false, false, false, false, false, false, false, false, false, false, false]) (by kernel_rfl) ?_
  simp only [List.setIfInBounds_toArray, List.set_cons_zero, List.set_cons_succ]
  refine h_takeL (i := 15) (v := .pointer (some ⟨q, 0, none⟩)) hns rfl rfl (by kernel_rfl) (by kernel_rfl) hP (y_move rfl (by kernel_rfl) (by kernel_rfl)) hS rfl (L' := #[true, true, true, true, true, true, true, true, true, true, true, true, true, true, true, true, false, false, false, false, false, false, false, false, false, false, false, false, false, false, false, false, false, false, false, false, false, false, false, false, false, false, false, false, false]) (by kernel_rfl) ?_
  refine h_takeL (i := 16) (v := .pointer (some ⟨q, 0, none⟩)) hns rfl rfl (by kernel_rfl) (by kernel_rfl) hP (y_nil rfl (by kernel_rfl) (by kernel_rfl)) hS rfl (L' := #[true, true, true, true, true, true, true, true, true, true, true, true, true, true, true, true, true, false, false, false, false, false, false, false, false, false, false, false, false, false, false, false, false, false, false, false, false, false, false, false, false, false, false, false, false]) (by kernel_rfl) ?_
  refine h_takeL (i := 17) (v := .pointer (some ⟨q, 0, none⟩)) hns rfl rfl (by kernel_rfl) (by kernel_rfl) hP (y_faddr rfl (by kernel_rfl) (by kernel_rfl) (fa33_0 (q))) hS rfl (L' := #[true, true, true, true, true, true, true, true, true, true, true, true, true, true, true, true, true, true, false, false, false, false, false, false, false, false, false, false, false, false, false, false, false, false, false, false, false, false, false, false, false, false, false, false, false]) (by kernel_rfl) ?_
  refine h_takeL (i := 18) (v := .pointer (some ⟨p, 0, none⟩)) hns rfl rfl (by kernel_rfl) (by kernel_rfl) hP (y_load rfl (by kernel_rfl) (by kernel_rfl) (fun w' h => by subst h; exact load1 Try.isAgg24 HC.out.1)) hS rfl (L' := #[true, true, true, true, true, true, true, true, true, true, true, true, true, true, true, true, true, true, true, false, false, false, false, false, false, false, false, false, false, false, false, false, false, false, false, false, false, false, false, false, false, false, false, false, false]) (by kernel_rfl) ?_
  refine h_takeL (i := 20) (v := .pointer (some ⟨q, 0, none⟩)) hns rfl rfl (by kernel_rfl) (by kernel_rfl) hP (y_move rfl (by kernel_rfl) (by kernel_rfl)) hS rfl (L' := #[true, true, true, true, true, true, true, true, true, true, true, true, true, true, true, true, true, true, true, false, true, false, false, false, false, false, false, false, false, false, false, false, false, false, false, false, false, false, false, false, false, false, false, false, false]) (by kernel_rfl) ?_
  refine h_takeL (i := 21) (v := .pointer (some ⟨q, 0, none⟩)) hns rfl rfl (by kernel_rfl) (by kernel_rfl) hP (y_nil rfl (by kernel_rfl) (by kernel_rfl)) hS rfl (L' := #[true, true, true, true, true, true, true, true, true, true, true, true, true, true, true, true, true, true, true, false, true, true, false, false, false, false, false, false, false, false, false, false, false, false, false, false, false, false, false, false, false, false, false, false, false]) (by kernel_rfl) ?_
  refine h_takeL (i := 22) (v := .pointer (some ⟨q, 1, none⟩)) hns rfl rfl (by kernel_rfl) (by kernel_rfl) hP (y_faddr rfl (by kernel_rfl) (by kernel_rfl) (fa33_1 (q))) hS rfl (L' := #[true, true, true, true, true, true, true, true, true, true, true, true, true, true, true, true, true, true, true, false, true, true, true, false, false, false, false, false, false, false, false, false, false, false, false, false, false, false, false, false, false, false, false, false, false]) (by kernel_rfl) ?_
  refine h_takeL (i := 23) (v := .pointer (some ⟨r, 0, none⟩)) hns rfl rfl (by kernel_rfl) (by kernel_rfl) hP (y_load rfl (by kernel_rfl) (by kernel_rfl) (fun w' h => by subst h; exact load1 Try.isAgg28 HC.out.2.1)) hS rfl (L' := #[true, true, true, true, true, true, true, true, true, true, true, true, true, true, true, true, true, true, true, false, true, true, true, true, false, false, false, false, false, false, false, false, false, false, false, false, false, false, false, false, false, false, false, false, false]) (by kernel_rfl) ?_
  simp only [List.setIfInBounds_toArray, List.set_cons_zero, List.set_cons_succ]
  refine h_takeL (i := 24) (v := .pointer (some ⟨r, 0, none⟩)) hns rfl rfl (by kernel_rfl) (by kernel_rfl) hP (y_nil rfl (by kernel_rfl) (by kernel_rfl)) hS rfl (L' := #[true, true, true, true, true, true, true, true, true, true, true, true, true, true, true, true, true, true, true, false, true, true, true, true, true, false, false, false, false, false, false, false, false, false, false, false, false, false, false, false, false, false, false, false, false]) (by kernel_rfl) ?_
  refine h_takeL (i := 25) (v := .pointer (some ⟨r, 2, none⟩)) hns rfl rfl (by kernel_rfl) (by kernel_rfl) hP (y_faddr rfl (by kernel_rfl) (by kernel_rfl) (fa62_2 (r))) hS rfl (L' := #[true, true, true, true, true, true, true, true, true, true, true, true, true, true, true, true, true, true, true, false, true, true, true, true, true, true, false, false, false, false, false, false, false, false, false, false, false, false, false, false, false, false, false, false, false]) (by kernel_rfl) ?_
  refine h_takeL (i := 26) (v := .int .i64 s.ops) hns rfl rfl (by kernel_rfl) (by kernel_rfl) hP (y_load rfl (by kernel_rfl) (by kernel_rfl) (fun w' h => by subst h; exact load1 Try.isAgg3 HC.out.2.2.2.2)) hS rfl (L' := #[true, true, true, true, true, true, true, true, true, true, true, true, true, true, true, true, true, true, true, false, true, true, true, true, true, true, true, false, false, false, false, false, false, false, false, false, false, false, false, false, false, false, false, false, false]) (by kernel_rfl) ?_
  refine h_callL (i := 19) (f := 24) (args := #[.pointer (some ⟨p, 0, none⟩)]) (by kernel_rfl) rfl rfl (by kernel_rfl) (enter_go rfl (by kernel_rfl) (fun w => by go_simp)) (L' := #[true, true, true, true, true, true, true, true, true, true, true, true, true, true, true, true, true, true, true, true, true, true, true, true, true, true, true, false, false, false, false, false, false, false, false, false, false, false, false, false, false, false, false, false, false]) (by kernel_rfl) ?_
  refine (ops_d HD0.out).mono ?_
  rintro e wz ⟨rfl, hwz⟩
  subst hwz
  refine ⟨_, rfl, hS, ?_⟩
  refine h_takeL (i := 27) (v := .bool false) hns rfl rfl (by kernel_rfl) (by kernel_rfl) hP (y_neqi (t := 3) (x := s.ops) (y := s.ops) (.inl rfl) rfl (by kernel_rfl) (by kernel_rfl) (by kernel_rfl) (by simp)) hS rfl (L' := #[true, true, true, true, true, true, true, true, true, true, true, true, true, true, true, true, true, true, true, true, true, true, true, true, true, true, true, true, false, false, false, false, false, false, false, false, false, false, false, false, false, false, false, false, false]) (by kernel_rfl) ?_
  refine h_takeL (i := 28) (v := .bool false) hns rfl rfl (by kernel_rfl) (by kernel_rfl) hP (y_pick (b := false) rfl (by kernel_rfl) (by kernel_rfl) rfl) hS rfl (L' := #[true, true, true, true, true, true, true, true, true, true, true, true, true, true, true, true, true, true, true, true, true, true, true, true, true, true, true, true, true, false, false, false, false, false, false, false, false, false, false, false, false, false, false, false, false]) (by kernel_rfl) ?_
  refine h_takeL (i := 29) (v := .bool false) hns rfl rfl (by kernel_rfl) (by kernel_rfl) hP (y_move rfl (by kernel_rfl) (by kernel_rfl)) hS rfl (L' := #[true, true, true, true, true, true, true, true, true, true, true, true, true, true, true, true, true, true, true, true, true, true, true, true, true, true, true, true, true, true, false, false, false, false, false, false, false, false, false, false, false, false, false, false, false]) (by kernel_rfl) ?_
  refine h_takeL (i := 30) (v := .pointer (some ⟨q, 0, none⟩)) hns rfl rfl (by kernel_rfl) (by kernel_rfl) hP (y_move rfl (by kernel_rfl) (by kernel_rfl)) hS rfl (L' := #[true, true, true, true, true, true, true, true, true, true, true, true, true, true, true, true, true, true, true, true, true, true, true, true, true, true, true, true, true, true, true, false, false, false, false, false, false, false, false, false, false, false, false, false, false]) (by kernel_rfl) ?_
  simp only [List.setIfInBounds_toArray, List.set_cons_zero, List.set_cons_succ]
  refine h_takeL (i := 31) (v := .pointer (some ⟨q, 0, none⟩)) hns rfl rfl (by kernel_rfl) (by kernel_rfl) hP (y_nil rfl (by kernel_rfl) (by kernel_rfl)) hS rfl (L' := #[true, true, true, true, true, true, true, true, true, true, true, true, true, true, true, true, true, true, true, true, true, true, true, true, true, true, true, true, true, true, true, true, false, false, false, false, false, false, false, false, false, false, false, false, false]) (by kernel_rfl) ?_
  refine h_takeL (i := 32) (v := .pointer (some ⟨q, 0, none⟩)) hns rfl rfl (by kernel_rfl) (by kernel_rfl) hP (y_faddr rfl (by kernel_rfl) (by kernel_rfl) (fa33_0 (q))) hS rfl (L' := #[true, true, true, true, true, true, true, true, true, true, true, true, true, true, true, true, true, true, true, true, true, true, true, true, true, true, true, true, true, true, true, true, true, false, false, false, false, false, false, false, false, false, false, false, false]) (by kernel_rfl) ?_
  refine h_takeL (i := 33) (v := .pointer (some ⟨p, 0, none⟩)) hns rfl rfl (by kernel_rfl) (by kernel_rfl) hP (y_load rfl (by kernel_rfl) (by kernel_rfl) (fun w' h => by subst h; exact load1 Try.isAgg24 HC.out.1)) hS rfl (L' := #[true, true, true, true, true, true, true, true, true, true, true, true, true, true, true, true, true, true, true, true, true, true, true, true, true, true, true, true, true, true, true, true, true, true, false, false, false, false, false, false, false, false, false, false, false]) (by kernel_rfl) ?_
  refine h_takeL (i := 35) (v := .pointer (some ⟨q, 0, none⟩)) hns rfl rfl (by kernel_rfl) (by kernel_rfl) hP (y_move rfl (by kernel_rfl) (by kernel_rfl)) hS rfl (L' := #[true, true, true, true, true, true, true, true, true, true, true, true, true, true, true, true, true, true, true, true, true, true, true, true, true, true, true, true, true, true, true, true, true, true, false, true, false, false, false, false, false, false, false, false, false]) (by kernel_rfl) ?_
  refine h_takeL (i := 36) (v := .pointer (some ⟨q, 0, none⟩)) hns rfl rfl (by kernel_rfl) (by kernel_rfl) hP (y_nil rfl (by kernel_rfl) (by kernel_rfl)) hS rfl (L' := #[true, true, true, true, true, true, true, true, true, true, true, true, true, true, true, true, true, true, true, true, true, true, true, true, true, true, true, true, true, true, true, true, true, true, false, true, true, false, false, false, false, false, false, false, false]) (by kernel_rfl) ?_
  refine h_takeL (i := 37) (v := .pointer (some ⟨q, 1, none⟩)) hns rfl rfl (by kernel_rfl) (by kernel_rfl) hP (y_faddr rfl (by kernel_rfl) (by kernel_rfl) (fa33_1 (q))) hS rfl (L' := #[true, true, true, true, true, true, true, true, true, true, true, true, true, true, true, true, true, true, true, true, true, true, true, true, true, true, true, true, true, true, true, true, true, true, false, true, true, true, false, false, false, false, false, false, false]) (by kernel_rfl) ?_
  refine h_takeL (i := 38) (v := .pointer (some ⟨r, 0, none⟩)) hns rfl rfl (by kernel_rfl) (by kernel_rfl) hP (y_load rfl (by kernel_rfl) (by kernel_rfl) (fun w' h => by subst h; exact load1 Try.isAgg28 HC.out.2.1)) hS rfl (L' := #[true, true, true, true, true, true, true, true, true, true, true, true, true, true, true, true, true, true, true, true, true, true, true, true, true, true, true, true, true, true, true, true, true, true, false, true, true, true, true, false, false, false, false, false, false]) (by kernel_rfl) ?_
  refine h_takeL (i := 39) (v := .pointer (some ⟨r, 0, none⟩)) hns rfl rfl (by kernel_rfl) (by kernel_rfl) hP (y_nil rfl (by kernel_rfl) (by kernel_rfl)) hS rfl (L' := #[true, true, true, true, true, true, true, true, true, true, true, true, true, true, true, true, true, true, true, true, true, true, true, true, true, true, true, true, true, true, true, true, true, true, false, true, true, true, true, true, false, false, false, false, false]) (by kernel_rfl) ?_
  simp only [List.setIfInBounds_toArray, List.set_cons_zero, List.set_cons_succ]
  refine h_takeL (i := 40) (v := .pointer (some ⟨r, 1, none⟩)) hns rfl rfl (by kernel_rfl) (by kernel_rfl) hP (y_faddr rfl (by kernel_rfl) (by kernel_rfl) (fa62_1 (r))) hS rfl (L' := #[true, true, true, true, true, true, true, true, true, true, true, true, true, true, true, true, true, true, true, true, true, true, true, true, true, true, true, true, true, true, true, true, true, true, false, true, true, true, true, true, true, false, false, false, false]) (by kernel_rfl) ?_
  refine h_takeL (i := 41) (v := .slice la s.loose.length lc) hns rfl rfl (by kernel_rfl) (by kernel_rfl) hP (y_load rfl (by kernel_rfl) (by kernel_rfl) (fun w' h => by subst h; exact load1 Try.isAgg60 HC.out.2.2.2.1)) hS rfl (L' := #[true, true, true, true, true, true, true, true, true, true, true, true, true, true, true, true, true, true, true, true, true, true, true, true, true, true, true, true, true, true, true, true, true, true, false, true, true, true, true, true, true, true, false, false, false]) (by kernel_rfl) ?_
  refine h_takeL (i := 42) (v := .int .i64 s.loose.length) hns rfl rfl (by kernel_rfl) (by kernel_rfl) hP (y_lenW60 (p := la) (c := lc) rfl (by kernel_rfl) (by kernel_rfl)) hS rfl (L' := #[true, true, true, true, true, true, true, true, true, true, true, true, true, true, true, true, true, true, true, true, true, true, true, true, true, true, true, true, true, true, true, true, true, true, false, true, true, true, true, true, true, true, true, false, false]) (by kernel_rfl) ?_
  refine h_callL (i := 34) (f := 15) (args := #[.pointer (some ⟨p, 0, none⟩)]) (by kernel_rfl) rfl rfl (by kernel_rfl) (enter_go rfl (by kernel_rfl) (fun w => by go_simp)) (L' := #[true, true, true, true, true, true, true, true, true, true, true, true, true, true, true, true, true, true, true, true, true, true, true, true, true, true, true, true, true, true, true, true, true, true, true, true, true, true, true, true, true, true, true, false, false]) (by kernel_rfl) ?_
  refine (loose_d HD0.out).mono ?_
  rintro e wz ⟨rfl, hwz⟩
  subst hwz
  refine ⟨_, rfl, hS, ?_⟩
  refine h_takeL (i := 43) (v := .bool false) hns rfl rfl (by kernel_rfl) (by kernel_rfl) hP (y_neqi (t := 3) (x := s.loose.length) (y := s.loose.length) (.inl rfl) rfl (by kernel_rfl) (by kernel_rfl) (by kernel_rfl) (by simp)) hS rfl (L' := #[true, true, true, true, true, true, true, true, true, true, true, true, true, true, true, true, true, true, true, true, true, true, true, true, true, true, true, true, true, true, true, true, true, true, true, true, true, true, true, true, true, true, true, true, false]) (by kernel_rfl) ?_
  refine h_takeL (i := 44) (v := .bool false) hns rfl rfl (by kernel_rfl) (by kernel_rfl) hP (y_pick (b := false) rfl (by kernel_rfl) (by kernel_rfl) rfl) hS rfl (L' := #[true, true, true, true, true, true, true, true, true, true, true, true, true, true, true, true, true, true, true, true, true, true, true, true, true, true, true, true, true, true, true, true, true, true, true, true, true, true, true, true, true, true, true, true, true]) (by kernel_rfl) ?_
  simp only [List.setIfInBounds_toArray, List.set_cons_zero, List.set_cons_succ]
  refine wpAnyH_done (by kernel_rfl) ?_ _
  refine hN _ _ ?_
  clear hP hN hns
  clear hS HC
  have hBd : Below w.heap.size w w.drew := (Below.refl _ _).drew
  have HBD := hid hBd
  clear hBd
  generalize w.drew = w0 at *
  go_wp2_with fail
  go_loopw [4, 5, 6, 7, 8] (fun x _ _ _ _ wr => ∃ k : Nat, k ≤ s.n ∧ x = .int .i64 k ∧ Below w0.heap.size w0 wr) (fun x _ _ _ _ _ => s.n - (intOf x).toNat)
  case atStart => exact ⟨0, Nat.zero_le _, rfl, Below.refl _ _⟩
  case round =>
    obtain ⟨k, hk, rfl, hBr⟩ := hrel
    have hn1 := HOK.out.n1
    have hwk : IntKind.i64.wrap ((k : Int) + 1) = ((k + 1 : Nat) : Int) := incR (k := k) (by omega)
    have hRr := HR0.out.below hBr
    have hDr := HD0.out.below hBr
    have hBo : Bo wr q p r := below_at hBr HB0.out (heap_lt HB0.out)
    have hRcr : Rc wr r (.slice sa s.n sc) (.slice la s.loose.length lc) s.ops s.cut s.gone := below_at hBr HRC.out (heap_lt HRC.out)
    have c0 := hBo.c0
    have c1 := hBo.c1
    have r0 := hRcr.c0
    clear hq0 hr4 hn1
    by_cases hlt : k < s.n
    · have hlt' : (k : Int) < (s.n : Int) := by omega
      have HRr := hid hRr
      have HDr := hid hDr
      have HBr := hid hBr
      have HBo := hid hBo
      clear hRr hDr hBr hBo hRcr
      go_wp2_with fail
      cases gn
      · have hg := HGN.out
        obtain ⟨l, hl⟩ : ∃ l, s.now[k]? = some l := ⟨_, List.getElem?_eq_getElem (by rw [HOK.out.nowLen]; exact hlt)⟩
        have hll : l.length = 128 := HOK.out.nowLens l (List.mem_of_getElem? hl)
        refine (read_d HDr.out hg k l hl).mono ?_
        clear hg
        rintro e w1 ⟨rfl, hw1⟩
        have hsl := alloc_sl wr l hll 70
        have hB1 : Below wr.heap.size wr w1 := by rw [hw1]; exact (Below.refl _ _).alloc (Nat.le_refl _) _
        rw [← hw1] at hsl
        have c1' : w1.cell? ⟨q, 1, none⟩ = some (.pointer (some ⟨r, 0, none⟩)) := cell_below hB1 c1
        have HSL := hid hsl
        have HB1 := hid hB1
        clear hw1 hsl hB1 c0 c1 r0
        go_wp2_with fail
        refine (rRead_ok (HRr.out.below HB1.out) HGN.out k l hl).mono ?_
        rintro e w2 ⟨v2, rfl, hbk, hB2⟩
        have hcv1 := conv_sl (HSL.out.below hB2)
        have hcv2 := conv_sl hbk.sl
        have HB2 := hid (HBr.out.trans ((HB1.out.trans (hB2.mono HB1.out.size)).mono HBr.out.size))
        clear hbk hB2 HB1 HSL c1'
        go_wp2
        go_roundw
        case rel => exact ⟨k + 1, hlt, by go_num, HB2.out⟩
        case measure => simp [intOf]; omega
      · have hg := HGN.out
        refine (read_gone_d HDr.out hg k).mono ?_
        clear hg
        rintro e w1 ⟨rfl, hw1⟩
        subst hw1
        go_wp2_with fail
        refine (rRead_gone HRr.out HGN.out k).mono ?_
        rintro e w2 ⟨rfl, hw2⟩
        subst hw2
        have hcv1 := conv_sl (Sl.nil w2)
        go_wp2
        go_roundw
        case rel => exact ⟨k + 1, hlt, by go_num, HBr.out⟩
        case measure => simp [intOf]; omega
    · have hlt' : ¬ (k : Int) < (s.n : Int) := by omega
      have HBr := hid hBr
      clear hRr hDr hBr hBo hRcr
      go_wp2
      go_ret
      exact ⟨rfl, HBD.out.trans (HBr.out.mono HBD.out.size)⟩
end Go.Proofs.Ytkfomolglangdaa
