/- the text ZPureB -/
import Derived.Test.YtommhgmlblecnaaGreatDoorZGc
import Derived.Test.YtommhgmlblecnaaGreatDoorYPureWC
namespace Go.Proofs.YtommhgmlblecnaaGreatDoor
open Go Go.RowKit

/-- What an operand finds wrong stays. -/
theorem kp_first {ts : List Tk} {en : Nat → RS → TD × RS} (h : ∀ n, KpF (en n)) {m : Nat} {s : RS} (h1 : (tkAt ts s).is [[45]] = false) (h2 : (tkAt ts s).is [wNot] = false) : Kpt (atomP ts (en (m + 1)) s).2 (orP ts en m s).2 := by
  have e1 : unaryP ts en m s = atomP ts (en (m + 1)) s := by unfold unaryP bwP; rw [h1]; rfl
  have k1 : Kpt (atomP ts (en (m + 1)) s).2 (prodP ts en m s).2 := by rw [← e1]; exact kp_chR ts (kp_unary ts h m) _ _ _ _
  have k2 : Kpt (prodP ts en m s).2 (sumP ts en m s).2 := kp_chR ts (kp_prod ts h m) _ _ _ _
  have k3 : Kpt (sumP ts en m s).2 (relP ts en m s).2 := by
    unfold relP
    cases (tkAt ts (sumP ts en m s).2).is [[60], [60, 61], [61]] with
    | false => exact Kpt.refl _
    | true => exact kp_bin ts (kp_sum ts h m) _ _
  have e2 : notP ts en m s = relP ts en m s := by unfold notP bwP; rw [h2]; rfl
  have k4 : Kpt (relP ts en m s).2 (andP ts en m s).2 := by rw [← e2]; exact kp_chR ts (kp_not ts h m) _ _ _ _
  exact (((k1.trans k2).trans k3).trans k4).trans (kp_chR ts (kp_and ts h m) _ _ _ _)
theorem samf_all2 : ∀ {ks ks' : List Tr}, All2 (fun t t' => sam t t' = true) ks ks' → sams ks ks' = true
  | _, _, .nil => rfl
  | _, _, .cons h1 h2 => by rw [sams, h1, samf_all2 h2]; rfl
theorem samf_node (k : Int) (x : List UInt8) (n : Int) (ks ks' : List Tr) (p p' : Int) (h : All2 (fun t t' => sam t t' = true) ks ks') (_ : True) : (fun t t' => sam t t' = true) (Tr.mk k x n ks p) (Tr.mk k x n ks' p') := by
  show sam (.mk k x n ks p) (.mk k x n ks' p') = true
  rw [sam, samf_all2 h, h.len]
  simp
theorem all2_getD {R : Tk → Tk → Prop} : ∀ {l m : List Tk}, All2 R l m → ∀ i, i < l.length → R (l.getD i tk0) (m.getD i tk0)
  | _, _, .nil, i, h => by simp at h
  | _, _, .cons h1 h2, 0, _ => by simpa using h1
  | _, _, .cons h1 h2, i + 1, h => by simpa using all2_getD h2 i (by simpa using h)
seal parseL dPar in
theorem any40 (U : List UInt8) : anyT (40 :: U) 0 = (⟨1, [40], 0, 0, 1⟩, 0) := by rfl
def opK : Tk := ⟨1, [40], 0, 0, 1⟩
/-- The tokens of the text that is laid anew. -/
theorem prt_out (s : List UInt8) (mk : Nat → List UInt8) (hmk : ∀ j, mk j ∈ marksL) (h : (prt s).2.1 = 0) : ∃ bs, prt s = (bs ++ [endK s.length], 0, 0) ∧ ((40 :: UF s mk 0 bs).length ≤ 16384 → bs.length ≤ 8187 → ∃ bs', All2 (TkE fun _ _ => True) bs bs' ∧ prt (40 :: UF s mk 0 bs) = ([opK] ++ bs' ++ [parK (40 :: UF s mk 0 bs).length, endK (40 :: UF s mk 0 bs).length], 0, 0)) := by
  obtain ⟨h1, h2⟩ := prt_long h
  rw [h2] at h ⊢
  rw [skip_drop, List.drop_zero, Nat.zero_add] at h ⊢
  have hnd : ND s (sk s) := by
    have := nd_skip (s := s) (E := 0) (fun x y h => absurd h (by omega))
    rwa [List.drop_zero, Nat.zero_add] at this
  obtain ⟨bs, e1, -, -, hrun⟩ := out_run s mk hmk (s.length + 1) (sk s) 0 [] (sk_le s) (by omega) (sk_sk _ _ (Nat.le_refl _)) h hnd
  refine ⟨bs, by rw [e1]; simp, fun hl hb => ?_⟩
  have e2 : (40 :: UF s mk 0 bs) = [40] ++ UF s mk 0 bs := rfl
  have hsk := sk_le (UF s mk 0 bs)
  have h40 : skip (40 :: UF s mk 0 bs) 0 = 0 := skip_at (c := 40) rfl (by decide) (by decide)
  rw [prt_short hl, h40, prtF_step (by simp) (by rw [any40]) (by simp), any40]
  have h41 : skip (40 :: UF s mk 0 bs) ((1 : Int)).toNat = [40].length + sk (UF s mk 0 bs) := by
    rw [skip_drop]
    rfl
  simp only [h41, List.nil_append]
  obtain ⟨bs', g1, g2⟩ := hrun [40] ((40 :: UF s mk 0 bs).length) [opK] (by simp only [List.length_append, List.length_cons, List.length_nil]; omega) (by simp only [List.length_cons, List.length_nil]; omega)
  exact ⟨bs', g1, g2⟩
/-- Blanks and remarks between tokens, and parentheses about the whole, make no difference but to places. -/
theorem blanks_pure (s : List UInt8) (mk : Nat → List UInt8) (hmk : ∀ j, mk j ∈ marksL) (hz : (whP xprP s).2.2 = 0) : ∃ bs, (prt s).1 = bs ++ [endK s.length] ∧ ((40 :: UF s mk 0 bs).length ≤ 16384 → bs.length ≤ 8187 →
    (whP xprP (40 :: UF s mk 0 bs)).2.2 = 75 ∨ (whP xprP (40 :: UF s mk 0 bs)).2.2 = 0 ∧ sam (whP xprP s).1 (whP xprP (40 :: UF s mk 0 bs)).1 = true) := by
  obtain ⟨z1, z2, z3⟩ := whP_ok hz
  obtain ⟨bs, e1, hout⟩ := prt_out s mk hmk z1
  obtain ⟨body, b1, b2, -⟩ := prt_shape z1
  obtain rfl : bs = body := snoc_inj (by rw [e1] at b1; exact (Prod.ext_iff.1 b1).1)
  refine ⟨bs, by rw [e1], fun hl hb => ?_⟩
  obtain ⟨bs', g1, g2⟩ := hout hl hb
  obtain ⟨N, hN⟩ : ∃ N, (40 :: UF s mk 0 bs) = N := ⟨_, rfl⟩
  rw [hN] at g2 ⊢
  have e0 : (prt s).1 = bs ++ [endK s.length] := by rw [e1]
  obtain ⟨ts, hts⟩ : ∃ ts, bs ++ [endK s.length] = ts := ⟨_, rfl⟩
  obtain ⟨ts', hts'⟩ : ∃ ts', [opK] ++ bs' ++ [parK N.length, endK N.length] = ts' := ⟨_, rfl⟩
  have hlen := g1.len
  have htl : ts.length = bs.length + 1 := by rw [← hts]; simp
  have hS1 : ∀ p, tkAt ts' ⟨bs.length + 1, 0, p⟩ = parK N.length := by
    intro p
    rw [← hts', hlen]
    unfold tkAt
    simp [List.getD]
  have hS2 : ∀ p, tkAt ts' ⟨bs.length + 2, 0, p⟩ = endK N.length := by
    intro p
    rw [← hts', hlen]
    unfold tkAt
    simp [List.getD]
  have hS0 : ∀ p, tkAt ts' ⟨0, 0, p⟩ = opK := by
    intro p
    rw [← hts']
    rfl
  have hA : Alike (fun _ _ => True) ts ts' 1 := by
    refine ⟨fun i hi => ?_, ?_, by omega, ?_, ?_⟩
    · have hi' : i < bs.length := by omega
      have := all2_getD g1 i hi'
      rw [← hts, ← hts']
      have k1 : (bs ++ [endK s.length]).getD i tk0 = bs.getD i tk0 := by simp [List.getD, List.getElem?_append_left hi']
      have k2 : ([opK] ++ bs' ++ [parK N.length, endK N.length]).getD (i + 1) tk0 = bs'.getD i tk0 := getD_mid (A := [opK]) (by omega)
      rw [k1, k2]
      exact this
    · rw [htl, ← hts]
      simp [List.getD, endK]
    · rw [htl, ← hts', hlen]
      simp
    · have := hS1 0
      unfold tkAt at this
      simp only at this
      rw [htl, Nat.add_sub_cancel, this]
      exact .inr ⟨rfl, .inr (.inl rfl)⟩
  rw [e0, hts] at z2 z3
  obtain ⟨z4, z5⟩ := kind_end z2
  have hM0 : Mt ts 1 ⟨0, 0, 0⟩ ⟨1, 0, 0⟩ := ⟨rfl, rfl, rfl, show 0 < ts.length by omega⟩
  have hw : whP xprP N = whR xprP ts' := by
    unfold whP
    rw [g2, hts']
    rfl
  have ht1 : rTake ts' ⟨0, 0, 0⟩ = ⟨1, 0, 0⟩ := by unfold rTake; rw [hS0]; rfl
  have ha1 : atomP ts' (exprP ts' 300 (1 + 1)) ⟨0, 0, 0⟩ = closedP ts' (exprP ts' 300 2) ⟨1, 0, 0⟩ := by
    unfold atomP
    simp only
    rw [ht1, hS0]
    rfl
  have hor : exprP ts' 301 1 ⟨0, 0, 0⟩ = orP ts' (exprP ts' 300) 1 ⟨0, 0, 0⟩ := expr_or (by decide) (by rw [hS0]; rfl) (by rw [hS0]; rfl)
  rcases (sim_expr (X := True) samf_node hA 301 300 1 2 (by decide) (by decide) (by decide) (by decide) (by decide) (.inr trivial)).go _ _ hM0 z4 with ⟨-, h75⟩ | ⟨h1, h2, h3⟩
  · refine .inl ?_
    have k2 := kp_first (ts := ts') (en := exprP ts' 300) (kp_expr ts' 300) (m := 1) (s := ⟨0, 0, 0⟩) (by rw [hS0]; rfl) (by rw [hS0]; rfl)
    rw [ha1] at k2
    have k3 : Kpt (exprP ts' 300 2 ⟨1, 0, 0⟩).2 (closedP ts' (exprP ts' 300 2) ⟨1, 0, 0⟩).2 := kp_want ts' _ _
    have k4 := (k3.trans k2) (by rw [h75]; decide)
    have k5 : (exprP ts' 301 1 ⟨0, 0, 0⟩).2.wh = 75 := by rw [hor, k4.1, h75]
    have k6 := (kp_kind ts' 0 (exprP ts' 301 1 ⟨0, 0, 0⟩).2) (by rw [k5]; decide)
    have k7 : (rKind ts' 0 (xprP ts' ⟨0, 0, 0⟩).2).wh = 75 := by
      show (rKind ts' 0 (exprP ts' 301 1 ⟨0, 0, 0⟩).2).wh = 75
      rw [k6.1, k5]
    rw [hw]
    unfold whR
    rw [k7]
    rfl
  · refine .inr ?_
    have hi : (exprP ts 301 1 ⟨0, 0, 0⟩).2.i = bs.length := by
      rw [← hts] at z5 h1 ⊢
      exact end_last b2 h1.lt z5
    obtain ⟨r, hr⟩ : ∃ r, exprP ts' 300 2 ⟨1, 0, 0⟩ = r := ⟨_, rfl⟩
    rw [hr] at h1 h3
    have hri : r.2 = ⟨bs.length + 1, 0, r.2.p⟩ := by
      have := h1.i
      have hw := h1.w'
      cases hr2 : r.2
      rw [hr2] at this hw
      simp only at this hw
      rw [this, hw]
      have : (exprP ts 301 1 ⟨0, 0, 0⟩).2.i + 1 = bs.length + 1 := by rw [hi]
      rw [this]
    have hcl : closedP ts' (exprP ts' 300 2) ⟨1, 0, 0⟩ = (r.1, ⟨bs.length + 2, 0, r.2.p⟩) := by
      unfold closedP
      rw [hr, hri]
      simp only
      have e3 : rWant ts' [41] ⟨bs.length + 1, 0, r.2.p⟩ = ⟨bs.length + 1 + 1, 0, r.2.p⟩ := by unfold rWant; rw [hS1]; rfl
      rw [e3]
    have hlone : lone (tkAt ts' ⟨bs.length + 2, 0, r.2.p⟩) := by rw [hS2]; exact lone_stop (.inl rfl)
    have hfin : exprP ts' 301 1 ⟨0, 0, 0⟩ = (r.1, ⟨bs.length + 2, 0, r.2.p⟩) := by
      rw [hor, or_lone (by rw [hS0]; rfl) (by rw [hS0]; rfl) (by rw [ha1, hcl]; exact hlone), ha1, hcl]
    have hk : rKind ts' 0 ⟨bs.length + 2, 0, r.2.p⟩ = ⟨bs.length + 2, 0, r.2.p⟩ := by
      unfold rKind rTake
      rw [hS2]
      rfl
    have hx : xprP ts' ⟨0, 0, 0⟩ = (r.1.t, ⟨bs.length + 2, 0, r.2.p⟩) := by unfold xprP; rw [hfin]
    have hR : whR xprP ts' = (r.1.t, 0, 0) := by
      unfold whR
      rw [hx]
      simp only
      rw [hk]
      rfl
    rw [hw, hR, z3]
    exact ⟨rfl, h3.t⟩
end Go.Proofs.YtommhgmlblecnaaGreatDoor
