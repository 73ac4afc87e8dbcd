/- the text ZBlanksW -/
import Derived.Test.YtommhgmlblecnaaGreatDoorZMarksC
import Derived.Test.YtommhgmlblecnaaGreatDoorYGb
namespace Go.Proofs.YtommhgmlblecnaaGreatDoor
open Go Go.RowKit

/-- A row of numbers that is handed in. -/
def MoreF (a : Option Addr) (zs : List Int) (w : World) : Prop := ∀ (k : Nat) (x : Int), zs[k]? = some x → ∃ b o, a = some ⟨b, o, none⟩ ∧ w.cell? ⟨b, o + k, none⟩ = some (.int .i64 x)
theorem MoreF.below {a : Option Addr} {zs : List Int} {w w' : World} (h : MoreF a zs w) (hB : Below w.heap.size w w') : MoreF a zs w' := fun k x hx => by
  obtain ⟨b, o, e, hc⟩ := h k x hx
  refine ⟨b, o, e, ?_⟩
  unfold World.cell? at hc ⊢
  cases hb : w.heap[b]? with
  | none => rw [hb] at hc; cases hc
  | some ob =>
    rw [hB.block b (lt_of_get hb), hb]
    rw [hb] at hc
    exact hc
theorem MoreF.stay {a : Option Addr} {zs : List Int} {w : World} (h : MoreF a zs w) : Stay [] w (MoreF a zs) := fun _ hc => h.below (ch_below hc)
/-- The mark ahead of piece j. -/
def mkF (zs : List Int) (j : Nat) : List UInt8 := bif decide (j < zs.length) && decide (j < 2000) then mkK (zs.getD j 0) else []
theorem mkF_mem (zs : List Int) (j : Nat) : mkF zs j ∈ marksL := by
  unfold mkF
  cases decide (j < zs.length) && decide (j < 2000) with
  | true => exact mkK_mem _
  | false => show [] ∈ marksL; decide
theorem idxTk (b n cap k : Nat) (h : k < n) (w : World) : (Instr.indexAt 32 (.slice (some ⟨b, 0, none⟩) n cap) (.int .i64 k)).run Tryz.prog w = .ok (.pointer (some ⟨b, k * 4, none⟩)) w := by go_simp
theorem idxIs (b o n cap k : Nat) (h : k < n) (w : World) : (Instr.indexAt 31 (.slice (some ⟨b, o, none⟩) n cap) (.int .i64 k)).run Tryz.prog w = .ok (.pointer (some ⟨b, o + k, none⟩)) w := by go_simp
theorem whP_scan {l : List UInt8} (h : (prt l).2.1 ≠ 0) : (whP xprP l).2.2 = (prt l).2.1 := by
  unfold whP
  have : ((prt l).2.1 != 0) = true := by simpa using h
  rw [this]
  rfl
theorem tk_load {w : World} {b i : Nat} {rs : List RK} {t : RK} (h : RTks w b rs) (hi : rs[i]? = some t) : (Instr.loadAt 3 (.pointer (some ⟨b, i * 4 + 3, none⟩))).run Tryz.prog w = .ok (.int .i64 t.a) w := by
  obtain ⟨cur, z, hb, hr⟩ := h
  refine load1 Tryz.isAgg3 ?_
  unfold World.cell?
  rw [hb]
  exact hr i t hi 3 (by decide)
theorem mkK_len (k : Int) : (mkK k).length ≤ 11 := by
  have : ∀ m ∈ marksL, m.length ≤ 11 := by decide
  exact this _ (mkK_mem k)
theorem mkF_len (zs : List Int) (j : Nat) : (mkF zs j).length ≤ 11 := by
  have : ∀ m ∈ marksL, m.length ≤ 11 := by decide
  exact this _ (mkF_mem zs j)
/-- The tokens' places: they rise, and lie within the text. -/
theorem prt_asc (s : List UInt8) : ∀ (f i : Nat) (acc : List Tk), i ≤ s.length → s.length + 1 ≤ f + i → (prtF s f i acc).2.1 = 0 →
    ∃ bs, prtF s f i acc = (acc ++ bs ++ [endK s.length], 0, 0) ∧ (bs ++ [endK s.length]).map Tk.a = (stF s bs).map (fun n : Nat => (n : Int)) ∧ (∀ n ∈ stF s bs, i ≤ n ∧ n ≤ s.length) ∧ (stF s bs).Pairwise (· ≤ ·)
  | 0, i, acc, hi, hf, _ => by omega
  | f + 1, i, acc, hi, hf, hp => by
    rcases Nat.lt_or_ge i s.length with hlt | hge
    · obtain ⟨h0, h1, h2⟩ := prtF_go hlt hp
      obtain ⟨E, hE, hE1, hE2⟩ := anyT_fwd hlt h0
      have hat : (anyT s i).1.a = i := anyT_at h0
      rw [hE, Int.toNat_natCast] at h2
      rw [h2] at hp ⊢
      have hs := skip_in s hE2
      obtain ⟨bs, e1, e2, e3, e4⟩ := prt_asc s f (skip s E) _ hs.2 (by omega) hp
      have hst : stF s ((anyT s i).1 :: bs) = i :: stF s bs := by unfold stF; rw [List.map_cons, hat]; rfl
      refine ⟨(anyT s i).1 :: bs, by rw [e1]; simp, ?_, ?_, ?_⟩
      · rw [hst, List.cons_append, List.map_cons, List.map_cons, e2, hat]
      · rw [hst]
        intro n hn
        rcases List.mem_cons.1 hn with rfl | hn
        · exact ⟨Nat.le_refl _, hi⟩
        · have := e3 n hn
          omega
      · rw [hst]
        exact .cons (fun n hn => by have := e3 n hn; omega) e4
    · refine ⟨[], by rw [prtF_end hge]; simp, by simp [stF, endK], fun n hn => ?_, by simp [stF]⟩
      simp [stF] at hn
      omega
/-- A loop's state. -/
structure BL where
  j : Nat
  d : List UInt8
set_option maxRecDepth 100000 in
set_option maxHeartbeats 2000000 in
seal rn Goes ans atEnd put0 putM opened putA0 oneSt st0 keep putA prt whP in
theorem blanks_any (l : List UInt8) (a : Option Addr) (zs : List Int) (cap : Nat) (w : World) (ht : Tab w) (hzs : MoreF a zs w) (hl : l.length ≤ 1000000000000000000) : Calls Tryz.prog 4 #[strV l, .slice a zs.length cap] w fun e w' => e = .returned (.bool true) ∧ Below w.heap.size w w' := by
  obtain ⟨Z, hZ⟩ : ∃ Z, whP xprP l = Z := ⟨_, rfl⟩
  have hsc := whP_scan (l := l)
  have hpure := blanks_pure l (mkF zs) (mkF_mem zs)
  rw [hZ] at hsc hpure
  refine Goes.begin Tryz.func4 [] (fun w => Tab w ∧ MoreF a zs w) (fun j b o h => by cases h) (by simp [Mem.ids]) (ht.stay.and hzs.stay) ?_
  refine Goes.run [] [] trivial ?_
  refine Goes.call0 9 #[] (.bool true) (fun w' _ hI => shown7_any w' hI.now.2.1) ?_
  refine Goes.run [] [] trivial ?_
  refine Goes.callG [] 10 #[strV l] fun w1 hm1 hI1 => (xexpr_any _ w1 hI1.now.2.1 (L := []) (fun x hx => by simp at hx)).mono fun _ w2 ⟨u, e1, hB, hS⟩ => ⟨_, fun w => Nd w u.nd Z.1, e1, hB, by rw [hZ] at hS; exact hS, ?_⟩
  rw [hZ]
  refine Goes.run1 [0] [] trivial fun g1 => ?_
  cases h0 : ((prt l).2.1 != 0) with
  | true =>
    have h0' : (prt l).2.1 ≠ 0 := by simpa using h0
    have hz0 : (Z.2.2 != 0) = true := by rw [hsc h0']; exact h0
    refine Goes.callG [g1] 13 #[strV l] fun w1 hm1 hI1 => (scan_any _ w1 (L := [g1]) hm1).mono fun _ w2 ⟨hB, v, e1, hS⟩ => ⟨_, fun _ => True, e1, hB, fun _ _ => trivial, ?_⟩
    refine Goes.run [1, 1, 1] [(true, true), (true, true), ((prt l).2.1 != 0, true)] ⟨rfl, rfl, h0, trivial⟩ ?_
    refine Goes.ret [] (.bool (Z.2.2 != 0)) fun w' hm hI => ⟨by rw [hz0], ch_below hI.now.1.1.1⟩
  | false =>
    have h0' : (prt l).2.1 = 0 := by simpa using h0
    refine Goes.callG [g1] 13 #[strV l] fun w1 hm1 hI1 => (scan_any _ w1 (L := [g1]) hm1).mono fun _ w2 hq => ?_
    obtain ⟨hB, v, e1, hS⟩ := hq
    obtain ⟨b, c, rs, rfl, hat, hST⟩ := hS h0'
    refine ⟨_, fun w => RTks w b rs, e1, hB, hST, ?_⟩
    cases he : (Z.2.2 != 0) with
    | true =>
      refine Goes.run [0, 1, 1] [(true, true), (Z.2.2 != 0, true), ((prt l).2.1 != 0, false)] ⟨rfl, he, h0, trivial⟩ ?_
      exact Goes.ret [] (.bool (Z.2.2 != 0)) fun w' hm hI => ⟨by rw [he], ch_below hI.now.1.1.1⟩
    | false =>
    have he' : Z.2.2 = 0 := by simpa using he
    obtain ⟨bs, hbs, hfin⟩ := hpure he'
    obtain ⟨hl1, hl2⟩ := prt_long h0'
    have hsk0 := skip_in l (Nat.zero_le l.length)
    obtain ⟨bs2, a1, a2, a3, a4⟩ := prt_asc l (l.length + 1) (skip l 0) [] hsk0.2 (by omega) (by rw [← hl2]; exact h0')
    obtain rfl : bs2 = bs := by
      rw [hl2, a1] at hbs
      simpa using hbs
    obtain ⟨A, hA⟩ : ∃ A, stF l bs2 = A := ⟨_, rfl⟩
    have hmap : rs.map RK.a = A.map (fun n : Nat => (n : Int)) := by rw [hat, hbs, a2, hA]
    rw [hA] at a3 a4
    have hAl : A.length = rs.length := by have := congrArg List.length hmap; simpa using this.symm
    have hbl : rs.length = bs2.length + 1 := by rw [← hAl, ← hA]; simp [stF]
    have h8 : bs2.length ≤ 8192 := by
      obtain ⟨body, q1, -, q3⟩ := prt_shape h0'
      have : bs2 = body := snoc_inj (by rw [q1] at hbs; exact hbs.symm)
      rw [this]; exact q3
    have hget : ∀ (k x : Nat), A[k]? = some x → ∃ t : RK, rs[k]? = some t ∧ t.a = (x : Int) := by
      intro k x hx
      have h1 : (rs.map RK.a)[k]? = some (x : Int) := by rw [hmap, List.getElem?_map, hx]; rfl
      rw [List.getElem?_map] at h1
      cases hr : rs[k]? with
      | none => rw [hr] at h1; cases h1
      | some t => rw [hr] at h1; exact ⟨t, rfl, by simpa using h1⟩
    have hU : UF l (mkF zs) 0 bs2 = outF l (mkF zs) 0 A ++ [10, 41] := by unfold UF; rw [hA]
    rw [hU] at hfin
    clear hpure hat hbs a1 a2 hl2 hsc hmap
    obtain ⟨n, hn⟩ : ∃ n, rs.length = n := ⟨_, rfl⟩
    rw [hn] at hAl hbl ⊢
    obtain ⟨Q, hQ⟩ : ∃ Q, outF l (mkF zs) 0 A = Q := ⟨_, rfl⟩
    obtain ⟨pp, hpp⟩ : ∃ pp, (prt l).2.2 = pp := ⟨_, rfl⟩
    obtain ⟨pq, hpq⟩ : ∃ pq, (prt l).2.1 = pq := ⟨_, rfl⟩
    rw [hQ] at hfin
    rw [hpp, hpq]
    rw [hpq] at h0
    refine Goes.run [0, 0] [(Z.2.2 != 0, false), (pq != 0, false)] ⟨he, h0, trivial⟩ ?_
    refine Goes.loop0 (α := BL) 117 (fun q => [(0, strV l), (1, .slice a zs.length cap), (4, .bool false), (5, .bool true), (6, .pointer (some ⟨g1, 0, none⟩)), (7, .int .i64 Z.2.1), (8, .int .i64 Z.2.2), (9, .slice (some ⟨b, 0, none⟩) n c), (10, .int .i64 pp), (11, .int .i64 pq), (12, strV (40 :: q.d)), (13, .int .i64 q.j)]) [(g1, .cells #[.int .i64 u.k, strV u.x, .int .i64 u.n, .slice u.a u.N u.c, .int .i64 u.p] 25 (0, 0))] (fun q => q.j ≤ n ∧ q.d.length ≤ q.j * 20000 ∧ q.d ++ outF l (mkF zs) q.j (A.drop q.j) = Q) (fun q => n - q.j) ⟨0, []⟩ ⟨Nat.zero_le _, Nat.zero_le _, hQ⟩ ?_
    rintro ⟨j, d⟩ J ⟨hj, hd, hout⟩ back
    simp only at hj hd hout ⊢
    cases hlt : decide ((j : Int) < (n : Int)) with
    | false =>
      have hjn : n ≤ j := by have := of_decide_eq_false hlt; omega
      rw [List.drop_eq_nil_of_le (by omega)] at hout
      have hdQ : d = Q := by rw [← hout]; simp [outF]
      subst hdQ
      refine Goes.upto 87 [0, 0] [(decide ((j : Int) < (n : Int)), false)] ⟨hlt, trivial⟩ ?_
      refine Goes.val (binOp .add 9 (strV (40 :: d)) (strV [10, 41])) (strV ((40 :: d) ++ [10, 41])) (fun w' _ _ => addS7 (by simp; omega) w') ?_
      obtain ⟨T, hT⟩ : ∃ T, 40 :: (d ++ [10, 41]) = T := ⟨_, rfl⟩
      rw [List.cons_append, hT]
      rw [hT] at hfin
      cases hbig : decide ((T.length : Int) > 16384) with
      | true =>
        refine Goes.run [1, 1] [(true, true), (decide ((T.length : Int) > 16384), true)] ⟨rfl, hbig, trivial⟩ ?_
        exact Goes.ret [] (.bool true) fun w' hm hI => ⟨rfl, ch_below hI.now.1.1.1⟩
      | false =>
      cases hmany : decide ((n : Int) > 8188) with
      | true =>
        refine Goes.run [0, 1] [(decide ((n : Int) > 8188), true), (decide ((T.length : Int) > 16384), false)] ⟨hmany, hbig, trivial⟩ ?_
        exact Goes.ret [] (.bool true) fun w' hm hI => ⟨rfl, ch_below hI.now.1.1.1⟩
      | false =>
        have hT1 : T.length ≤ 16384 := by have := of_decide_eq_false hbig; omega
        have hb1 : bs2.length ≤ 8187 := by have := of_decide_eq_false hmany; omega
        have hres := hfin hT1 hb1
        obtain ⟨M, hM⟩ : ∃ M, whP xprP T = M := ⟨_, rfl⟩
        rw [hM] at hres
        refine Goes.run [0, 0] [(decide ((n : Int) > 8188), false), (decide ((T.length : Int) > 16384), false)] ⟨hmany, hbig, trivial⟩ ?_
        refine Goes.callG [g1] 10 #[strV T] fun w1 hm1 hI1 => (xexpr_any _ w1 hI1.now.1.1.2.1 (L := [g1]) hm1).mono fun _ w2 ⟨v, e1, hB, hS⟩ => ⟨_, fun w => Nd w v.nd M.1, e1, hB, by rw [hM] at hS; exact hS, ?_⟩
        rw [hM]
        rcases hres with h75 | ⟨hz, hsam⟩
        · have c0 : (M.2.2 == 0) = false := by rw [h75]; rfl
          have c1 : (M.2.2 == 75) = true := by rw [h75]; rfl
          refine Goes.run1 [1, 1, 0, 0] [(false, false), (M.2.2 == 0, false), (true, true)] ⟨rfl, c0, rfl, trivial⟩ fun g2 => ?_
          exact Goes.ret [] (.bool (M.2.2 == 75)) fun w' hm hI => ⟨by rw [c1], ch_below hI.now.1.1.1.1⟩
        · have c0 : (M.2.2 == 0) = true := by rw [hz]; rfl
          refine Goes.run1 [1, 1, 1, 0, 1] [(M.2.2 == 0, true), (true, true)] ⟨c0, rfl, trivial⟩ fun g2 => ?_
          refine Goes.call0 12 #[u.nd, v.nd] (.bool true) (fun w' _ hI => hsam ▸ rsame_any Z.1 M.1 w' u.nd v.nd hI.now.1.1.2 hI.now.2) ?_
          refine Goes.run [1] [(true, true)] ⟨rfl, trivial⟩ ?_
          exact Goes.ret [] (.bool true) fun w' hm hI => ⟨rfl, ch_below hI.now.1.1.1.1⟩
    | true =>
      have hjn : j < n := by have := of_decide_eq_true hlt; omega
      have hjw := wrap_nat (k := j) (by omega)
      obtain ⟨x, hx⟩ : ∃ x, A[j]? = some x := ⟨A[j]'(by omega), by simp⟩
      obtain ⟨tj, htj, htja⟩ := hget j x hx
      have hdr : A.drop j = x :: A.drop (j + 1) := by
        rw [List.drop_eq_getElem_cons (by omega)]
        congr 1
        exact (List.getElem?_eq_some_iff.1 hx).2
      rw [hdr] at hout
      simp only [outF] at hout
      have hxl := (a3 x (List.mem_of_getElem? hx)).2
      cases hn1 : decide (IntKind.i64.wrap ((j : Int) + 1) < (n : Int)) with
      | true =>
        have hjn1 : j + 1 < n := by have := of_decide_eq_true hn1; rw [hjw] at this; omega
        obtain ⟨y, hy1⟩ : ∃ y, A[j + 1]? = some y := ⟨A[j + 1]'(by omega), by simp⟩
        obtain ⟨tk, htk, htka⟩ := hget (j + 1) y hy1
        have hy : (A.drop (j + 1)).headD l.length = y := by rw [List.drop_eq_getElem_cons (by omega)]; exact (List.getElem?_eq_some_iff.1 hy1).2
        have hyl := (a3 y (List.mem_of_getElem? hy1)).2
        have hxy : x ≤ y := by
          have := List.pairwise_iff_getElem.1 a4 j (j + 1) (by omega) (by omega) (by omega)
          rw [(List.getElem?_eq_some_iff.1 hx).2, (List.getElem?_eq_some_iff.1 hy1).2] at this
          exact this
        refine Goes.run [0, 1, 1] [(decide (IntKind.i64.wrap ((j : Int) + 1) < (n : Int)), true), (decide ((j : Int) < (n : Int)), true)] ⟨hn1, hlt, trivial⟩ ?_
        refine Goes.slot 57 (.int .i64 (j + 1 : Nat)) (u := .int .i64 (IntKind.i64.wrap ((j : Int) + 1))) (congrArg _ hjw) ?_
        refine Goes.val (Instr.indexAt 32 (.slice (some ⟨b, 0, none⟩) n c) (.int .i64 (j + 1 : Nat))) (.pointer (some ⟨b, (j + 1) * 4, none⟩)) (fun w' _ _ => idxTk b n c (j + 1) hjn1 w') ?_
        refine Goes.run [] [] trivial ?_
        refine Goes.val (Instr.loadAt 3 (.pointer (some ⟨b, (j + 1) * 4 + 3, none⟩))) (.int .i64 (y : Nat)) (fun w' _ hI => htka ▸ tk_load hI.now.2 htk) ?_
        cases hm1 : decide ((j : Int) < (zs.length : Int)) with
        | false =>
          have hmk : mkF zs j = [] := by unfold mkF; rw [decide_eq_false (by have := of_decide_eq_false hm1; omega)]; rfl
          refine Goes.run [0, 0] [(false, false), (decide ((j : Int) < (zs.length : Int)), false)] ⟨rfl, hm1, trivial⟩ ?_
          refine Goes.val (Instr.indexAt 32 (.slice (some ⟨b, 0, none⟩) n c) (.int .i64 j)) (.pointer (some ⟨b, j * 4, none⟩)) (fun w' _ _ => idxTk b n c j hjn w') ?_
          refine Goes.run [] [] trivial ?_
          refine Goes.val (Instr.loadAt 3 (.pointer (some ⟨b, j * 4 + 3, none⟩))) (.int .i64 (x : Nat)) (fun w' _ hI => htja ▸ tk_load hI.now.2 htj) ?_
          refine Goes.run [] [] trivial ?_
          refine Goes.val (Instr.sliceAt 9 (strV l) (some (.int .i64 (x : Nat))) (some (.int .i64 (y : Nat))) none) (strV (cutL l x y)) (fun w' _ _ => sliceS hxy hyl w') ?_
          refine Goes.val (binOp .add 9 (strV (40 :: d)) (strV (cutL l x y))) (strV ((40 :: d) ++ cutL l x y)) (fun w' _ _ => addS7 (by have := cutL_len l x y; simp; omega) w') ?_
          refine Goes.run [] [] trivial ?_
          refine Goes.slot 13 (.int .i64 (j + 1 : Nat)) (u := .int .i64 (IntKind.i64.wrap ((j : Int) + 1))) (congrArg _ hjw) ?_
          refine Goes.slot 12 (strV (40 :: (d ++ (mkF zs j ++ cutL l x y)))) (u := strV ((40 :: d) ++ cutL l x y)) (by rw [hmk]; simp) ?_
          exact back ⟨j + 1, d ++ (mkF zs j ++ cutL l x y)⟩ _ ⟨hjn, by have := cutL_len l x y; have := mkF_len zs j; simp only [List.length_append]; omega, by rw [← hout, hy]; simp⟩ (by show n - (j + 1) < n - j; omega) (by kernel_rfl) (by kernel_rfl) (by kernel_rfl)
        | true =>
        have hjz : j < zs.length := by have := of_decide_eq_true hm1; omega
        cases hm2 : decide ((j : Int) < 2000) with
        | false =>
          have hmk : mkF zs j = [] := by unfold mkF; rw [decide_eq_false (show ¬ j < 2000 by have := of_decide_eq_false hm2; omega), Bool.and_false]; rfl
          refine Goes.run [1, 0] [(decide ((j : Int) < 2000), false), (decide ((j : Int) < (zs.length : Int)), true)] ⟨hm2, hm1, trivial⟩ ?_
          refine Goes.val (Instr.indexAt 32 (.slice (some ⟨b, 0, none⟩) n c) (.int .i64 j)) (.pointer (some ⟨b, j * 4, none⟩)) (fun w' _ _ => idxTk b n c j hjn w') ?_
          refine Goes.run [] [] trivial ?_
          refine Goes.val (Instr.loadAt 3 (.pointer (some ⟨b, j * 4 + 3, none⟩))) (.int .i64 (x : Nat)) (fun w' _ hI => htja ▸ tk_load hI.now.2 htj) ?_
          refine Goes.run [] [] trivial ?_
          refine Goes.val (Instr.sliceAt 9 (strV l) (some (.int .i64 (x : Nat))) (some (.int .i64 (y : Nat))) none) (strV (cutL l x y)) (fun w' _ _ => sliceS hxy hyl w') ?_
          refine Goes.val (binOp .add 9 (strV (40 :: d)) (strV (cutL l x y))) (strV ((40 :: d) ++ cutL l x y)) (fun w' _ _ => addS7 (by have := cutL_len l x y; simp; omega) w') ?_
          refine Goes.run [] [] trivial ?_
          refine Goes.slot 13 (.int .i64 (j + 1 : Nat)) (u := .int .i64 (IntKind.i64.wrap ((j : Int) + 1))) (congrArg _ hjw) ?_
          refine Goes.slot 12 (strV (40 :: (d ++ (mkF zs j ++ cutL l x y)))) (u := strV ((40 :: d) ++ cutL l x y)) (by rw [hmk]; simp) ?_
          exact back ⟨j + 1, d ++ (mkF zs j ++ cutL l x y)⟩ _ ⟨hjn, by have := cutL_len l x y; have := mkF_len zs j; simp only [List.length_append]; omega, by rw [← hout, hy]; simp⟩ (by show n - (j + 1) < n - j; omega) (by kernel_rfl) (by kernel_rfl) (by kernel_rfl)
        | true =>
          obtain ⟨z, hz⟩ : ∃ z, zs[j]? = some z := ⟨zs[j], by simp⟩
          have hmk : mkF zs j = mkK z := by unfold mkF; rw [decide_eq_true hjz, decide_eq_true (show j < 2000 by have := of_decide_eq_true hm2; omega)]; simp [List.getD, hz]
          have hml := mkK_len z
          obtain ⟨bz, oz, rfl, -⟩ := hzs j z hz
          refine Goes.run [1, 1] [(decide ((j : Int) < 2000), true), (decide ((j : Int) < (zs.length : Int)), true)] ⟨hm2, hm1, trivial⟩ ?_
          refine Goes.val (Instr.indexAt 31 (.slice (some ⟨bz, oz, none⟩) zs.length cap) (.int .i64 j)) (.pointer (some ⟨bz, oz + j, none⟩)) (fun w' _ _ => idxIs bz oz zs.length cap j hjz w') ?_
          refine Goes.val (Instr.loadAt 3 (.pointer (some ⟨bz, oz + j, none⟩))) (.int .i64 z) (fun w' _ hI => by
            obtain ⟨b', o', e, hc⟩ := hI.now.1.1.2.2 j z hz
            cases e
            exact load1 Tryz.isAgg3 hc) ?_
          refine Goes.call0 14 #[.int .i64 z] (strV (mkK z)) (fun w' _ _ => marks_any z w') ?_
          obtain ⟨m, hm⟩ : ∃ m, mkK z = m := ⟨_, rfl⟩
          rw [hm] at hmk hml ⊢
          refine Goes.val (binOp .add 9 (strV (40 :: d)) (strV m)) (strV ((40 :: d) ++ m)) (fun w' _ _ => addS7 (by simp; omega) w') ?_
          refine Goes.run [] [] trivial ?_
          refine Goes.val (Instr.indexAt 32 (.slice (some ⟨b, 0, none⟩) n c) (.int .i64 j)) (.pointer (some ⟨b, j * 4, none⟩)) (fun w' _ _ => idxTk b n c j hjn w') ?_
          refine Goes.run [] [] trivial ?_
          refine Goes.val (Instr.loadAt 3 (.pointer (some ⟨b, j * 4 + 3, none⟩))) (.int .i64 (x : Nat)) (fun w' _ hI => htja ▸ tk_load hI.now.2 htj) ?_
          refine Goes.run [] [] trivial ?_
          refine Goes.val (Instr.sliceAt 9 (strV l) (some (.int .i64 (x : Nat))) (some (.int .i64 (y : Nat))) none) (strV (cutL l x y)) (fun w' _ _ => sliceS hxy hyl w') ?_
          refine Goes.val (binOp .add 9 (strV ((40 :: d) ++ m)) (strV (cutL l x y))) (strV (((40 :: d) ++ m) ++ cutL l x y)) (fun w' _ _ => addS7 (by have := cutL_len l x y; simp; omega) w') ?_
          refine Goes.run [] [] trivial ?_
          refine Goes.slot 13 (.int .i64 (j + 1 : Nat)) (u := .int .i64 (IntKind.i64.wrap ((j : Int) + 1))) (congrArg _ hjw) ?_
          refine Goes.slot 12 (strV (40 :: (d ++ (mkF zs j ++ cutL l x y)))) (u := strV (((40 :: d) ++ m) ++ cutL l x y)) (by rw [hmk]; simp) ?_
          exact back ⟨j + 1, d ++ (mkF zs j ++ cutL l x y)⟩ _ ⟨hjn, by have := cutL_len l x y; have := mkF_len zs j; simp only [List.length_append]; omega, by rw [← hout, hy]; simp⟩ (by show n - (j + 1) < n - j; omega) (by kernel_rfl) (by kernel_rfl) (by kernel_rfl)
      | false =>
        have hjn1 : n ≤ j + 1 := by have := of_decide_eq_false hn1; rw [hjw] at this; omega
        obtain ⟨y, hyy⟩ : ∃ y, l.length = y := ⟨_, rfl⟩
        have hy : (A.drop (j + 1)).headD l.length = y := by rw [List.drop_eq_nil_of_le (by omega)]; exact hyy
        have hyl : y ≤ l.length := by omega
        have hxy : x ≤ y := by omega
        refine Goes.run [0, 1, 0] [(decide (IntKind.i64.wrap ((j : Int) + 1) < (n : Int)), false), (decide ((j : Int) < (n : Int)), true)] ⟨hn1, hlt, trivial⟩ ?_
        refine Goes.slot 14 (.int .i64 (y : Nat)) (u := .int .i64 (l.length : Nat)) (by rw [hyy]) ?_
        cases hm1 : decide ((j : Int) < (zs.length : Int)) with
        | false =>
          have hmk : mkF zs j = [] := by unfold mkF; rw [decide_eq_false (by have := of_decide_eq_false hm1; omega)]; rfl
          refine Goes.run [0, 0] [(false, false), (decide ((j : Int) < (zs.length : Int)), false)] ⟨rfl, hm1, trivial⟩ ?_
          refine Goes.val (Instr.indexAt 32 (.slice (some ⟨b, 0, none⟩) n c) (.int .i64 j)) (.pointer (some ⟨b, j * 4, none⟩)) (fun w' _ _ => idxTk b n c j hjn w') ?_
          refine Goes.run [] [] trivial ?_
          refine Goes.val (Instr.loadAt 3 (.pointer (some ⟨b, j * 4 + 3, none⟩))) (.int .i64 (x : Nat)) (fun w' _ hI => htja ▸ tk_load hI.now.2 htj) ?_
          refine Goes.run [] [] trivial ?_
          refine Goes.val (Instr.sliceAt 9 (strV l) (some (.int .i64 (x : Nat))) (some (.int .i64 (y : Nat))) none) (strV (cutL l x y)) (fun w' _ _ => sliceS hxy hyl w') ?_
          refine Goes.val (binOp .add 9 (strV (40 :: d)) (strV (cutL l x y))) (strV ((40 :: d) ++ cutL l x y)) (fun w' _ _ => addS7 (by have := cutL_len l x y; simp; omega) w') ?_
          refine Goes.run [] [] trivial ?_
          refine Goes.slot 13 (.int .i64 (j + 1 : Nat)) (u := .int .i64 (IntKind.i64.wrap ((j : Int) + 1))) (congrArg _ hjw) ?_
          refine Goes.slot 12 (strV (40 :: (d ++ (mkF zs j ++ cutL l x y)))) (u := strV ((40 :: d) ++ cutL l x y)) (by rw [hmk]; simp) ?_
          exact back ⟨j + 1, d ++ (mkF zs j ++ cutL l x y)⟩ _ ⟨hjn, by have := cutL_len l x y; have := mkF_len zs j; simp only [List.length_append]; omega, by rw [← hout, hy]; simp⟩ (by show n - (j + 1) < n - j; omega) (by kernel_rfl) (by kernel_rfl) (by kernel_rfl)
        | true =>
        have hjz : j < zs.length := by have := of_decide_eq_true hm1; omega
        cases hm2 : decide ((j : Int) < 2000) with
        | false =>
          have hmk : mkF zs j = [] := by unfold mkF; rw [decide_eq_false (show ¬ j < 2000 by have := of_decide_eq_false hm2; omega), Bool.and_false]; rfl
          refine Goes.run [1, 0] [(decide ((j : Int) < 2000), false), (decide ((j : Int) < (zs.length : Int)), true)] ⟨hm2, hm1, trivial⟩ ?_
          refine Goes.val (Instr.indexAt 32 (.slice (some ⟨b, 0, none⟩) n c) (.int .i64 j)) (.pointer (some ⟨b, j * 4, none⟩)) (fun w' _ _ => idxTk b n c j hjn w') ?_
          refine Goes.run [] [] trivial ?_
          refine Goes.val (Instr.loadAt 3 (.pointer (some ⟨b, j * 4 + 3, none⟩))) (.int .i64 (x : Nat)) (fun w' _ hI => htja ▸ tk_load hI.now.2 htj) ?_
          refine Goes.run [] [] trivial ?_
          refine Goes.val (Instr.sliceAt 9 (strV l) (some (.int .i64 (x : Nat))) (some (.int .i64 (y : Nat))) none) (strV (cutL l x y)) (fun w' _ _ => sliceS hxy hyl w') ?_
          refine Goes.val (binOp .add 9 (strV (40 :: d)) (strV (cutL l x y))) (strV ((40 :: d) ++ cutL l x y)) (fun w' _ _ => addS7 (by have := cutL_len l x y; simp; omega) w') ?_
          refine Goes.run [] [] trivial ?_
          refine Goes.slot 13 (.int .i64 (j + 1 : Nat)) (u := .int .i64 (IntKind.i64.wrap ((j : Int) + 1))) (congrArg _ hjw) ?_
          refine Goes.slot 12 (strV (40 :: (d ++ (mkF zs j ++ cutL l x y)))) (u := strV ((40 :: d) ++ cutL l x y)) (by rw [hmk]; simp) ?_
          exact back ⟨j + 1, d ++ (mkF zs j ++ cutL l x y)⟩ _ ⟨hjn, by have := cutL_len l x y; have := mkF_len zs j; simp only [List.length_append]; omega, by rw [← hout, hy]; simp⟩ (by show n - (j + 1) < n - j; omega) (by kernel_rfl) (by kernel_rfl) (by kernel_rfl)
        | true =>
          obtain ⟨z, hz⟩ : ∃ z, zs[j]? = some z := ⟨zs[j], by simp⟩
          have hmk : mkF zs j = mkK z := by unfold mkF; rw [decide_eq_true hjz, decide_eq_true (show j < 2000 by have := of_decide_eq_true hm2; omega)]; simp [List.getD, hz]
          have hml := mkK_len z
          obtain ⟨bz, oz, rfl, -⟩ := hzs j z hz
          refine Goes.run [1, 1] [(decide ((j : Int) < 2000), true), (decide ((j : Int) < (zs.length : Int)), true)] ⟨hm2, hm1, trivial⟩ ?_
          refine Goes.val (Instr.indexAt 31 (.slice (some ⟨bz, oz, none⟩) zs.length cap) (.int .i64 j)) (.pointer (some ⟨bz, oz + j, none⟩)) (fun w' _ _ => idxIs bz oz zs.length cap j hjz w') ?_
          refine Goes.val (Instr.loadAt 3 (.pointer (some ⟨bz, oz + j, none⟩))) (.int .i64 z) (fun w' _ hI => by
            obtain ⟨b', o', e, hc⟩ := hI.now.1.1.2.2 j z hz
            cases e
            exact load1 Tryz.isAgg3 hc) ?_
          refine Goes.call0 14 #[.int .i64 z] (strV (mkK z)) (fun w' _ _ => marks_any z w') ?_
          obtain ⟨m, hm⟩ : ∃ m, mkK z = m := ⟨_, rfl⟩
          rw [hm] at hmk hml ⊢
          refine Goes.val (binOp .add 9 (strV (40 :: d)) (strV m)) (strV ((40 :: d) ++ m)) (fun w' _ _ => addS7 (by simp; omega) w') ?_
          refine Goes.run [] [] trivial ?_
          refine Goes.val (Instr.indexAt 32 (.slice (some ⟨b, 0, none⟩) n c) (.int .i64 j)) (.pointer (some ⟨b, j * 4, none⟩)) (fun w' _ _ => idxTk b n c j hjn w') ?_
          refine Goes.run [] [] trivial ?_
          refine Goes.val (Instr.loadAt 3 (.pointer (some ⟨b, j * 4 + 3, none⟩))) (.int .i64 (x : Nat)) (fun w' _ hI => htja ▸ tk_load hI.now.2 htj) ?_
          refine Goes.run [] [] trivial ?_
          refine Goes.val (Instr.sliceAt 9 (strV l) (some (.int .i64 (x : Nat))) (some (.int .i64 (y : Nat))) none) (strV (cutL l x y)) (fun w' _ _ => sliceS hxy hyl w') ?_
          refine Goes.val (binOp .add 9 (strV ((40 :: d) ++ m)) (strV (cutL l x y))) (strV (((40 :: d) ++ m) ++ cutL l x y)) (fun w' _ _ => addS7 (by have := cutL_len l x y; simp; omega) w') ?_
          refine Goes.run [] [] trivial ?_
          refine Goes.slot 13 (.int .i64 (j + 1 : Nat)) (u := .int .i64 (IntKind.i64.wrap ((j : Int) + 1))) (congrArg _ hjw) ?_
          refine Goes.slot 12 (strV (40 :: (d ++ (mkF zs j ++ cutL l x y)))) (u := strV (((40 :: d) ++ m) ++ cutL l x y)) (by rw [hmk]; simp) ?_
          exact back ⟨j + 1, d ++ (mkF zs j ++ cutL l x y)⟩ _ ⟨hjn, by have := cutL_len l x y; have := mkF_len zs j; simp only [List.length_append]; omega, by rw [← hout, hy]; simp⟩ (by show n - (j + 1) < n - j; omega) (by kernel_rfl) (by kernel_rfl) (by kernel_rfl)
end Go.Proofs.YtommhgmlblecnaaGreatDoor
