/- The document's side of causal: typed. -/
import Derived.Test.YtfblnjidghijaaaCRefT
import Derived.Test.YtfblnjidghijaaaCType
import Derived.Test.YtfblnjidghijaaaEKid
namespace Go.Proofs.Ytfblnjidghijaaa
open Go Go.RowKit

theorem tys_drop {d : Int} {kids : List Co} {i : Nat} {u : Co} {l : List Int} (hd : kids.drop i = u :: kids.drop (i + 1)) (h : (tysF d (kids.drop i)).map (l ++ ·) = tysF d kids) : ((typF d u).2 = false → tysF d kids = none) ∧ ((typF d u).2 = true → (tysF d (kids.drop (i + 1))).map ((l ++ [(typF d u).1]) ++ ·) = tysF d kids) := by
  rw [← h, hd, tysF]
  refine ⟨fun e => by rw [e]; rfl, fun e => ?_⟩
  rw [e, cond_true, Option.map_map]
  congr 1
  funext x
  simp
theorem kids_form {w w' : World} {v : Value} {ks : List Int} (h : KidsAt w w' v ks) : (v = .slice none 0 0 ∧ ks = []) ∨ ∃ g, w.heap.size ≤ g ∧ v = .slice (some ⟨g, 0, none⟩) ks.length ks.length ∧ w'.heap[g]? = some (zO ks []) := by
  rcases h with h | ⟨g, h1, h2, h3, -⟩
  · exact .inl h
  · exact .inr ⟨g, h1, h2, by unfold zO; rw [List.append_nil]; exact h3⟩
theorem kr_form {op : Int} {w w' : World} {e : Ending} (h : Kr3 (rkP op) w e w') : (∃ t ok, rkP op = (bif ok then some ([], t) else none) ∧ (ok = false → t = 0) ∧ e = .returned (.tuple #[.slice none 0 0, .int .i64 t, .bool ok]) ∧ Below w.heap.size w w') ∨ ∃ g ks t, rkP op = some (ks, t) ∧ ks ≠ [] ∧ e = .returned (.tuple #[.slice (some ⟨g, 0, none⟩) ks.length ks.length, .int .i64 t, .bool true]) ∧ w.heap.size ≤ g ∧ w'.heap[g]? = some (zO ks []) ∧ Below w.heap.size w w' := by
  obtain ⟨v, he, hB, hK⟩ := h
  cases hr : rkP op with
  | none =>
    rw [hr] at he hK
    rcases kids_form hK with ⟨rfl, -⟩ | ⟨g, h1, h2, h3⟩
    · exact .inl ⟨0, false, rfl, fun _ => rfl, he, hB⟩
    · rcases hK with ⟨rfl, -⟩ | ⟨g', h1', h2', h3', h4', -⟩
      · cases h2
      · simp at h4'
  | some q =>
    obtain ⟨ks, t⟩ := q
    rw [hr] at he hK
    simp only [Option.map_some, Option.getD_some] at hK
    rcases kids_form hK with ⟨rfl, rfl⟩ | ⟨g, h1, h2, h3⟩
    · exact .inl ⟨t, true, rfl, fun h => (by cases h), he, hB⟩
    · rcases hK with ⟨rfl, rfl⟩ | ⟨g', h1', h2', h3', h4', -⟩
      · cases h2
      · refine .inr ⟨g, ks, t, rfl, fun e => ?_, by rw [he, h2]; rfl, h1, h3, hB⟩
        subst e
        simp at h4'
set_option maxRecDepth 100000 in
seal rn rnS Goes ans atEnd put0 putM opened putA0 putA oneSt st0 keep in
theorem typed_any (c : Co) : ∀ (v : Value) (w : World) (d : Int), 1 ≤ d → d ≤ 201 → Nc w.heap.size w v c → Calls Try.prog 21 #[v, .int .i64 d] w fun e w' => e = .returned (.tuple #[.int .i64 (typF d c).1, .bool (typF d c).2]) ∧ Below w.heap.size w w' := by
  induction c using Co.ind with
  | h op k t kids ih =>
    intro v w d hd1 hd2 hN
    obtain ⟨a, cc, rfl, hfit, hcap, hkids⟩ := hN.open
    obtain ⟨N, hL⟩ : ∃ N, kids.length = N := ⟨_, rfl⟩
    rw [hL] at hcap ⊢
    refine Goes.begin Try.func21 [] (fun _ => True) Holds.nil (by simp [Mem.ids]) (fun _ _ => trivial) ?_
    refine Goes.run1 [0] [] trivial fun g => ?_
    refine Goes.call0 38 #[cv op k t (.slice a N cc)] (.bool (fldP op k t)) (fun w' _ _ => fld_any op k t a N cc w' hfit.s) ?_
    have no : ∀ {w' : World}, (!fldP op k t || decide (d > 200) || decide ((kids.length : Int) > 3)) = true → Below w.heap.size w w' → (Ending.returned (.tuple #[.int .i64 0, .bool false]) = .returned (.tuple #[.int .i64 (typF d (.mk op k t kids)).1, .bool (typF d (.mk op k t kids)).2])) ∧ Below w.heap.size w w' := fun h hB => ⟨by rw [typF, h, cond_true], hB⟩
    cases hf : fldP op k t with
    | false =>
      refine Goes.run [1, 1, 1] [(true, true), (true, true), (true, true)] ⟨rfl, rfl, rfl, trivial⟩ ?_
      exact Goes.ret [] (.tuple #[.int .i64 0, .bool false]) fun w' hm hI => no (by rw [hf]; rfl) (bel0 hI)
    | true =>
    cases hdp : decide (d > 200) with
    | true =>
      refine Goes.run [0, 1, 1] [(true, true), (decide (d > 200), true), (false, false)] ⟨rfl, hdp, rfl, trivial⟩ ?_
      exact Goes.ret [] (.tuple #[.int .i64 0, .bool false]) fun w' hm hI => no (by rw [hf, hdp]; rfl) (bel0 hI)
    | false =>
    cases hn3 : decide ((N : Int) > 3) with
    | true =>
      refine Goes.run [0, 0, 0, 1] [(decide ((N : Int) > 3), true), (decide (d > 200), false), (false, false)] ⟨hn3, hdp, rfl, trivial⟩ ?_
      exact Goes.ret [] (.tuple #[.int .i64 0, .bool false]) fun w' hm hI => no (by rw [hf, hdp, hL, hn3]; rfl) (bel0 hI)
    | false =>
    have hN3 : N ≤ 3 := by have := of_decide_eq_false hn3; omega
    have hd : d ≤ 200 := by have := of_decide_eq_false hdp; omega
    have hw : IntKind.i64.wrap (d + 1) = d + 1 := IntWalk.i64_in _ ⟨by omega, by omega⟩
    have hgo : (tysF (d + 1) kids = none → typF d (.mk op k t kids) = (0, false)) ∧ ∀ l, tysF (d + 1) kids = some l → typF d (.mk op k t kids) = endF op l := by
      have e : typF d (.mk op k t kids) = (match tysF (d + 1) kids with | none => (0, false) | some l => endF op l) := by
        conv => lhs; rw [typF, hf, hdp, hL, hn3]
        rfl
      refine ⟨fun h => by rw [e, h], fun l h => by rw [e, h]⟩
    refine Goes.run [0, 0, 0, 0] [(decide ((N : Int) > 3), false), (decide (d > 200), false), (false, false)] ⟨hn3, hdp, rfl, trivial⟩ ?_
    refine Goes.knowQ (Q := w.heap.size ≤ g) (fun w' _ _ hI => fresh_of hI (g := g) (ids_get (j := 0) (o := cO op k t (.slice a N cc)) (by kernel_rfl)) (by simp [Mem.ids])) fun hg => ?_
    refine Goes.loop (α := List Int × Value) 114 (fun q => [(1, .int .i64 d), (2, .pointer (some ⟨g, 0, none⟩)), (7, q.2), (8, .int .i64 (q.1.length : Nat))]) (fun _ => [(g, cO op k t (.slice a N cc))]) (fun q w' => Below w.heap.size w w' ∧ w'.ownsRow w.heap.size 3 1 q.2 q.1.length (q.1.map (Value.int .i64)))
      (fun q => q.1.length ≤ N ∧ (tysF (d + 1) (kids.drop q.1.length)).map (q.1 ++ ·) = tysF (d + 1) kids) (fun q => N - q.1.length) ([], .slice none 0 0) ⟨Nat.zero_le _, by simp⟩ (fun w' h => ⟨h.1.toB (fun x hx => by cases hx), by simp, .inl ⟨rfl, rfl⟩⟩) ?_
    rintro ⟨l, rv⟩ J ⟨hi, hrest⟩ back
    simp only at hi hrest back ⊢
    cases hlt : decide ((l.length : Int) < (N : Int)) with
    | true =>
      have hil : l.length < N := by have := of_decide_eq_true hlt; omega
      obtain ⟨u, hu⟩ : ∃ u, kids[l.length]? = some u := ⟨kids[l.length]'(by omega), by simp⟩
      obtain ⟨b, o, x, rfl, hb, hcl, hx⟩ := hkids l.length u hu
      obtain ⟨op', k', t', a', N', c', rfl⟩ := hx.cells
      have hdrop : kids.drop l.length = u :: kids.drop (l.length + 1) := by
        obtain ⟨h1, h2⟩ := List.getElem?_eq_some_iff.1 hu
        rw [List.drop_eq_getElem_cons h1, h2]
      obtain ⟨t0, t1⟩ := tys_drop hdrop hrest
      refine Goes.run [0, 0, 1, 0] [(decide ((l.length : Int) < (N : Int)), true)] ⟨hlt, trivial⟩ ?_
      refine Goes.val (Instr.indexAt 22 (.slice (some ⟨b, o, none⟩) N cc) (.int .i64 l.length)) (.pointer (some ⟨b, o + l.length * 4, none⟩)) (fun w' _ _ => idxC b o N cc l.length hil w') ?_
      refine Goes.val (Instr.loadAt 24 (.pointer (some ⟨b, o + l.length * 4, none⟩))) (cv op' k' t' (.slice a' N' c')) (fun w' _ hI => loadC (hcl.below hb hI.now.1)) ?_
      refine Goes.run [] [] trivial ?_
      refine Goes.slot 43 (.int .i64 (d + 1)) (u := .int .i64 (IntKind.i64.wrap (d + 1))) (congrArg _ hw) ?_
      refine Goes.call0 21 #[cv op' k' t' (.slice a' N' c'), .int .i64 (d + 1)] (.tuple #[.int .i64 (typF (d + 1) u).1, .bool (typF (d + 1) u).2]) (fun w' _ hI => ih u (List.mem_of_getElem? hu) _ w' (d + 1) (by omega) (by omega) (hx.at hI.now.1)) ?_
      cases hty : typF (d + 1) u with
      | mk z bz =>
      rw [hty] at t0 t1
      cases bz with
      | false =>
        refine Goes.run [1] [(true, true)] ⟨rfl, trivial⟩ ?_
        exact Goes.ret [] (.tuple #[.int .i64 0, .bool false]) fun w' hm hI => ⟨by rw [hgo.1 (t0 rfl)], hI.now.1⟩
      | true =>
        refine Goes.run1 [0] [(false, false)] ⟨rfl, trivial⟩ fun gb => ?_
        refine Goes.append (I0 := Below w.heap.size w) w.heap.size 50 3 50 1 8 rv l.length (l.map (Value.int .i64)) 1 gb 1 1 [.int .i64 z] 3 (0, 0) (fun w' h => ⟨h.1, h.2, h.1.size⟩) (fun w' w'' h h' => h.trans h') rfl (by simp [Value.oneCell']) (by decide) (by unfold maxLen; omega) (by omega) fun ra rc => ?_
        refine Goes.keep 1 ?_
        refine Goes.run [] [] trivial ?_
        refine Goes.slot 8 (.int .i64 ((l ++ [z]).length : Nat)) (u := .int .i64 (IntKind.i64.wrap ((l.length : Int) + 1))) (congrArg _ ((wrap_nat (by omega)).trans (by simp))) ?_
        refine (back (l ++ [z], .slice ra (l.length + 1) rc) _ ⟨by simp; omega, by simpa using t1 rfl⟩ (by simp; omega) (by kernel_rfl) (by kernel_rfl) (by kernel_rfl)).inv fun w' h => ⟨h.1, by simpa using h.2⟩
    | false =>
    obtain rfl : N = l.length := by have := of_decide_eq_false hlt; omega
    have hT : tysF (d + 1) kids = some l := by rw [← hrest, List.drop_of_length_le (by omega)]; simp [tysF]
    rw [hgo.2 l hT]
    cases h22 : (op == 22) with
    | true =>
      have eE : endF op l = (lastZ l, ifF l) := by unfold endF; rw [h22] <;> rfl
      rw [eE]
      refine Goes.row (I0 := Below w.heap.size w) w.heap.size 3 1 rv l.length (l.map (Value.int .i64)) (fun w' h => h) (fun w' w'' h h' => h.trans h') (fun e0 ⟨ra, rc, e⟩ => ?_) (fun b cap r hn0 e hb hle => ?_)
      · obtain rfl : l = [] := List.eq_nil_of_length_eq_zero e0
        subst e
        refine Goes.run [0, 0, 0, 0, 1] [(op == 22, true), (false, false)] ⟨h22, rfl, trivial⟩ ?_
        refine Goes.open [] ?_
        refine Goes.run [0, 2, 3, 4] [] trivial ?_
        refine Goes.callA0 1 39 #[.slice ra 0 rc] (.int .i64 0) (fun w' _ _ => last_nil ra rc w') ?_
        refine Goes.run [5, 6, 7, 8, 9, 10, 11, 12, 13, 14, 15, 16, 17, 18, 19, 20, 21, 22, 23, 24, 25, 26, 27] [] trivial ?_
        exact Goes.ret [] (.tuple #[.int .i64 0, .bool false]) fun w' hm hI => ⟨rfl, hI.now⟩
      · subst e
        match l, hn0, hN3 with
          | [x], _, _ =>
            refine Goes.run [0, 0, 0, 0, 1] [(op == 22, true), (false, false)] ⟨h22, rfl, trivial⟩ ?_
            refine Goes.open [1] ?_
            refine Goes.run [0, 2, 3, 4] [] trivial ?_
            refine Goes.callA0 1 39 #[.slice (some ⟨b, 0, none⟩) 1 cap] (.int .i64 x) (fun w' hm _ => last_any b cap [x] r (by simp) (by simp) w' (hm.get 1)) ?_
            refine Goes.run [5, 6, 7, 8, 9, 10, 11, 12, 13, 14, 15, 16, 17, 18, 19, 20, 21, 22, 23, 24, 25, 26, 27] [] trivial ?_
            exact Goes.ret [] (.tuple #[.int .i64 x, .bool false]) fun w' hm hI => ⟨rfl, hI.now⟩
          | [x, y], _, _ =>
            refine Goes.run [0, 0, 0, 0, 1] [(op == 22, true), (false, false)] ⟨h22, rfl, trivial⟩ ?_
            refine Goes.open [1] ?_
            refine Goes.run [0, 2, 3, 4] [] trivial ?_
            refine Goes.callA0 1 39 #[.slice (some ⟨b, 0, none⟩) 2 cap] (.int .i64 y) (fun w' hm _ => last_any b cap [x, y] r (by simp) (by simp) w' (hm.get 1)) ?_
            refine Goes.run [5, 6, 7, 8, 9, 10, 11, 12, 13, 14, 15, 16, 17, 18, 19, 20, 21, 22, 23, 24, 25, 26, 27] [] trivial ?_
            exact Goes.ret [] (.tuple #[.int .i64 y, .bool false]) fun w' hm hI => ⟨rfl, hI.now⟩
          | [x, y, z], _, _ =>
            refine Goes.run [0, 0, 0, 0, 1] [(op == 22, true), (false, false)] ⟨h22, rfl, trivial⟩ ?_
            refine Goes.open [1] ?_
            refine Goes.run [0, 2, 3, 4] [] trivial ?_
            refine Goes.callA0 1 39 #[.slice (some ⟨b, 0, none⟩) 3 cap] (.int .i64 z) (fun w' hm _ => last_any b cap [x, y, z] r (by simp) (by simp) w' (hm.get 1)) ?_
            refine Goes.run [5, 6, 7, 0, 8, 0, 9] [] trivial ?_
            cases hx1 : (x == 1) with
            | false =>
              refine Goes.slot 65 (.bool false) (u := .bool (x == 1)) (congrArg _ hx1) ?_
              refine Goes.run [10, 11, 12, 13, 14, 15, 16, 17, 18, 19, 20, 21, 22, 23, 24, 25, 26, 27] [] trivial ?_
              exact Goes.ret [] (.tuple #[.int .i64 z, .bool false]) fun w' hm hI => ⟨by simp only [lastZ, ifF, hx1, Bool.false_and], hI.now⟩
            | true =>
              refine Goes.slot 65 (.bool true) (u := .bool (x == 1)) (congrArg _ hx1) ?_
              refine Goes.run [10, 11, 12, 13, 0, 14, 0, 15, 16, 0, 17, 0, 18] [] trivial ?_
              cases hyz : (y == z) with
              | false =>
                refine Goes.slot 74 (.bool false) (u := .bool (y == z)) (congrArg _ hyz) ?_
                refine Goes.run [19, 20, 21, 22, 23, 24, 25, 26, 27] [] trivial ?_
                exact Goes.ret [] (.tuple #[.int .i64 z, .bool false]) fun w' hm hI => ⟨by simp only [lastZ, ifF, hx1, hyz, Bool.true_and, Bool.false_and], hI.now⟩
              | true =>
                refine Goes.slot 74 (.bool true) (u := .bool (y == z)) (congrArg _ hyz) ?_
                refine Goes.run [19, 20, 21, 22, 0, 23, 0, 24, 25, 26, 27] [] trivial ?_
                exact Goes.ret [] (.tuple #[.int .i64 z, .bool (y != 4)]) fun w' hm hI => ⟨by simp only [lastZ, ifF, hx1, hyz, Bool.true_and], hI.now⟩
    | false =>
      have eE : endF op l = (match rkP op with | none => (0, false) | some (want, t) => bif (want.length : Int) != (l.length : Int) then (0, false) else bif want == l then (t, true) else (0, false)) := by unfold endF; rw [h22] <;> rfl
      rw [eE]
      refine Goes.row (I0 := Below w.heap.size w) w.heap.size 3 1 rv l.length (l.map (Value.int .i64)) (fun w' h => h) (fun w' w'' h h' => h.trans h') (fun e0 ⟨ra, rc, e⟩ => ?_) (fun b cap r hn0 e hb hle => ?_)
      · obtain rfl : l = [] := List.eq_nil_of_length_eq_zero e0
        subst e
        refine Goes.run [0, 0, 0, 0, 0, 0] [(op == 22, false), (false, false)] ⟨h22, rfl, trivial⟩ ?_
        refine Goes.call 40 #[.int .i64 op] fun w1 hm1 hn1 hI1 => (rk_any op w1).mono fun e w2 hk => ?_
        rcases kr_form hk with ⟨t', ok, hr, h0, rfl, hB⟩ | ⟨g', ks, t', hr, hne, rfl, hg', hz, hB⟩
        · refine ⟨_, Below w.heap.size w, _, rfl, hm1.bel hB, hn1, hI1.bel hB, ?_⟩
          cases ok with
          | false =>
            refine Goes.run [1, 1] [(true, true), (true, true)] ⟨rfl, rfl, trivial⟩ ?_
            exact Goes.ret [] (.tuple #[.int .i64 0, .bool false]) fun w' hm hI => ⟨by rw [hr]; rfl, hI.now⟩
          | true =>
            refine Goes.run [0, 0, 0, 0] [(false, false), (false, false), (false, false)] ⟨rfl, rfl, rfl, trivial⟩ ?_
            exact Goes.ret [] (.tuple #[.int .i64 t', .bool true]) fun w' hm hI => ⟨by rw [hr]; rfl, hI.now⟩
        · have hq : ((ks.length : Int) != ((0 : Nat) : Int)) = true := by cases ks with | nil => exact absurd rfl hne | cons x y => simp; omega
          refine ⟨_, Below w.heap.size w, _, rfl, hm1.bel hB, hn1, hI1.bel hB, ?_⟩
          refine Goes.run [0, 1] [((ks.length : Int) != ((0 : Nat) : Int), true), (false, false)] ⟨hq, rfl, trivial⟩ ?_
          exact Goes.ret [] (.tuple #[.int .i64 0, .bool false]) fun w' hm hI => ⟨by rw [hr]; simp only [List.length_nil, hq, cond_true], hI.now⟩
      · subst e
        refine Goes.run [0, 0, 0, 0, 0, 0] [(op == 22, false), (decide ((l.length : Int) < (l.length : Int)), false)] ⟨h22, by simp, trivial⟩ ?_
        refine Goes.call 40 #[.int .i64 op] fun w1 hm1 hn1 hI1 => (rk_any op w1).mono fun e w2 hk => ?_
        rcases kr_form hk with ⟨t', ok, hr, h0, rfl, hB⟩ | ⟨g', ks, t', hr, hne, rfl, hg', hz, hB⟩
        · refine ⟨_, Below w.heap.size w, _, rfl, hm1.bel hB, hn1, hI1.bel hB, ?_⟩
          cases ok with
          | false =>
            refine Goes.run [1, 1] [(true, true), (true, true)] ⟨rfl, rfl, trivial⟩ ?_
            exact Goes.ret [] (.tuple #[.int .i64 0, .bool false]) fun w' hm hI => ⟨by rw [hr]; rfl, hI.now⟩
          | true =>
            have hq : (((0 : Nat) : Int) != (l.length : Int)) = true := by simp; omega
            refine Goes.run [0, 1] [(((0 : Nat) : Int) != (l.length : Int), true), (false, false)] ⟨hq, rfl, trivial⟩ ?_
            exact Goes.ret [] (.tuple #[.int .i64 0, .bool false]) fun w' hm hI => ⟨by rw [hr]; simp only [cond_true, List.length_nil, hq], hI.now⟩
        · have hids : [g, b].Nodup := Nodup.of_ids hn1
          have x0 : w1.heap[g]? = some (cO op k t (.slice a l.length cc)) := hm1.get 0
          have x1 : w1.heap[b]? = some (zO l r) := hm1.get 1
          have lg := lt_of_get x0
          have lb := lt_of_get x1
          refine ⟨_, Below w.heap.size w, [(g, cO op k t (.slice a l.length cc)), (b, zO l r), (g', zO ks [])], rfl, fun j b' o h => by match j, h with | 0, h => (cases h; exact (hB.block g lg).trans x0) | 1, h => (cases h; exact (hB.block b lb).trans x1) | 2, h => (cases h; exact hz), ?_, ?_, ?_⟩
          · simp only [Mem.ids, List.map_cons, List.map_nil, List.nodup_cons, List.mem_cons, List.not_mem_nil, or_false, not_or] at hids ⊢
            exact ⟨⟨hids.1, by omega⟩, by omega, by simp, by simp⟩
          · intro w3 hc
            have hBw : Below w.heap.size w w2 := (hI1.now).trans (hB.mono hI1.now.size)
            refine hBw.trans ⟨hc.os, hc.tape, hc.output, hc.size, fun i hi => hc.block i (Nat.lt_of_lt_of_le hi hBw.size) (fun hm => ?_)⟩
            have := hI1.now.size
            simp only [Mem.ids, List.map_cons, List.map_nil, List.mem_cons, List.not_mem_nil, or_false] at hm
            rcases hm with rfl | rfl | rfl <;> omega
          cases hq : ((ks.length : Int) != (l.length : Int)) with
          | true =>
            refine Goes.run [0, 1] [((ks.length : Int) != (l.length : Int), true), (false, false)] ⟨hq, rfl, trivial⟩ ?_
            exact Goes.ret [] (.tuple #[.int .i64 0, .bool false]) fun w' hm hI => ⟨by rw [hr]; simp only [hq, cond_true], hI.now⟩
          | false =>
            have hkl : ks.length = l.length := by simp at hq; omega
            have eR : (match rkP op with | none => (0, false) | some (want, t) => bif (want.length : Int) != (l.length : Int) then (0, false) else bif want == l then (t, true) else (0, false)) = bif ks == l then (t', true) else (0, false) := by rw [hr]; simp only [hq, cond_false]
            rw [eR]
            refine Goes.run [0, 0] [((ks.length : Int) != (l.length : Int), false), (false, false)] ⟨hq, rfl, trivial⟩ ?_
            refine Goes.loop0 (α := Nat) 114 (fun j => [(7, .slice (some ⟨b, 0, none⟩) l.length cap), (11, .slice (some ⟨g', 0, none⟩) ks.length ks.length), (12, .int .i64 t'), (14, .int .i64 j)]) [(g, cO op k t (.slice a l.length cc)), (b, zO l r), (g', zO ks [])] (fun j => j ≤ l.length ∧ (ks == l) = (ks.drop j == l.drop j)) (fun j => l.length - j) 0 ⟨Nat.zero_le _, rfl⟩ ?_
            rintro j J2 ⟨hj, hjq⟩ back2
            cases hjl : decide ((j : Int) < (l.length : Int)) with
            | false =>
              have hje : l.length ≤ j := by have := of_decide_eq_false hjl; omega
              refine Goes.run [0, 0] [(decide ((j : Int) < (l.length : Int)), false)] ⟨hjl, trivial⟩ ?_
              exact Goes.ret [] (.tuple #[.int .i64 t', .bool true]) fun w' hm hI => ⟨by rw [hjq, List.drop_of_length_le hje, List.drop_of_length_le (by omega)]; rfl, hI.now⟩
            | true =>
              have hjl' : j < l.length := by have := of_decide_eq_true hjl; omega
              obtain ⟨x, hx⟩ : ∃ x, l[j]? = some x := ⟨l[j], by simp⟩
              obtain ⟨y, hy⟩ : ∃ y, ks[j]? = some y := ⟨ks[j]'(by omega), by simp⟩
              have d1 : l.drop j = x :: l.drop (j + 1) := by
                obtain ⟨h1, h2⟩ := List.getElem?_eq_some_iff.1 hx
                rw [List.drop_eq_getElem_cons h1, h2]
              have d2 : ks.drop j = y :: ks.drop (j + 1) := by
                obtain ⟨h1, h2⟩ := List.getElem?_eq_some_iff.1 hy
                rw [List.drop_eq_getElem_cons h1, h2]
              refine Goes.run [0, 1] [(decide ((j : Int) < (l.length : Int)), true)] ⟨hjl, trivial⟩ ?_
              refine Goes.open [1, 2] ?_
              refine Goes.run [0, 1, 4, 5] [] trivial ?_
              refine Goes.valA 2 (Instr.indexAt 50 (.slice (some ⟨b, 0, none⟩) l.length cap) (.int .i64 j)) (.pointer (some ⟨b, j, none⟩)) (fun w' _ => idxI b _ cap j hjl' w') ?_
              refine Goes.valA 3 (Instr.loadAt 3 (.pointer (some ⟨b, j, none⟩))) (.int .i64 x) (fun w' h => loadZ (r := r) (h.get 0) hx) ?_
              refine Goes.valA 6 (Instr.indexAt 50 (.slice (some ⟨g', 0, none⟩) ks.length ks.length) (.int .i64 j)) (.pointer (some ⟨g', j, none⟩)) (fun w' _ => idxI g' _ _ j (by omega) w') ?_
              refine Goes.valA 7 (Instr.loadAt 3 (.pointer (some ⟨g', j, none⟩))) (.int .i64 y) (fun w' h => loadZ (r := []) (h.get 1) hy) ?_
              refine Goes.run [8] [] trivial ?_
              cases hxy : (x != y) with
              | true =>
                refine Goes.run [1] [(x != y, true)] ⟨hxy, trivial⟩ ?_
                exact Goes.ret [] (.tuple #[.int .i64 0, .bool false]) fun w' hm hI => ⟨by
                  have : (y == x) = false := by rw [beq_eq_false_iff_ne]; intro e; subst e; simp at hxy
                  rw [hjq, d1, d2, List.cons_beq_cons, this]; rfl, hI.now⟩
              | false =>
                have hxe : x = y := by simpa using hxy
                subst hxe
                refine Goes.run [0] [(x != x, false)] ⟨hxy, trivial⟩ ?_
                refine Goes.slot 14 (.int .i64 (j + 1 : Nat)) (u := .int .i64 (IntKind.i64.wrap ((j : Int) + 1))) (congrArg _ (wrap_nat (by omega))) ?_
                exact back2 (j + 1) _ ⟨hjl', by rw [hjq, d1, d2, List.cons_beq_cons, beq_self_eq_true, Bool.true_and]⟩ (by omega) (by kernel_rfl) (by kernel_rfl) (by kernel_rfl)
end Go.Proofs.Ytfblnjidghijaaa
