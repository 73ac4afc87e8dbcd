/- alsoWrite, walked. -/
import Derived.Test.YtdbgccgjdgomkaaGreatDoorPAlsoC
namespace Go.Proofs.YtdbgccgjdgomkaaGreatDoor
open Go Go.RowKit Go.Shelf Go.Sort

attribute [local go_sem] Oper.semAt_some

set_option maxHeartbeats 400000 in
theorem chunk_any (b off len cap : Nat) (w : World) :
    Calls Tryz.prog 90 #[.slice (some ⟨b, off, none⟩) len cap, .int .i64 112] w fun e w' => e = .returned (.func (.func 116) #[] #[.pointer (some ⟨w.heap.size, 0, none⟩), .pointer (some ⟨w.heap.size + 1, 0, none⟩)]) ∧ w' = (w.alloc (.cells #[.slice (some ⟨b, off, none⟩) len cap] 49)).alloc (.cells #[.int .i64 112] 3) := by
  go_enter Tryz.func90, Tryz.ntmps90
  go_wp2
  go_ret
  exact ⟨rfl, rfl⟩
/-- The part number x of a row of bytes. -/
def chk (b off x : Nat) : Value := .slice (some ⟨b, off + x * 112, none⟩) 112 112
theorem chunk_stops (n : Nat) (hn : 1 ≤ n) (Bs Bn b off len cap m : Nat) (hm : len = m * 112) (hcap : len ≤ cap) (hlen : len ≤ 1000000) (w : World) (hs : Bs < w.heap.size) (hb : Bn < w.heap.size) (hBs : w.cell? ⟨Bs, 0, none⟩ = some (.slice (some ⟨b, off, none⟩) len cap)) (hBn : w.cell? ⟨Bn, 0, none⟩ = some (.int .i64 112)) :
    SeqStopsK Fence.wide n Tryz.prog 116 #[.pointer (some ⟨Bs, 0, none⟩), .pointer (some ⟨Bn, 0, none⟩)] (fun x : Nat => #[chk b off x]) (K2 Bs Bn) (fun ys => ys = List.range m) (fun pre => pre <+: List.range m) m w := fun l J Jx W hW hJ _ hY h0 => by
  refine (chunk1_in n hn l Bs Bn b off len cap m hm hcap hlen J Jx hY W hJ ((hW.cell (p := ⟨Bs, 0, none⟩) hs).trans hBs) ((hW.cell (p := ⟨Bn, 0, none⟩) hb).trans hBn) h0).mono ?_
  rintro e W' ⟨he, hj | hj⟩
  · exact ⟨he, .inl ⟨_, rfl, hj⟩⟩
  · exact ⟨he, .inr hj⟩
/-- So many numbers from f on. -/
def seqZ (f : Int) (n : Nat) : List Int := (List.range n).map fun i => f + (i : Nat)
theorem seqZ_len (f : Int) (n : Nat) : (seqZ f n).length = n := by simp [seqZ]
theorem seqZ_succ (f : Int) (n : Nat) : seqZ f (n + 1) = seqZ f n ++ [f + (n : Nat)] := by simp [seqZ, List.range_succ]
set_option maxRecDepth 100000 in
set_option maxHeartbeats 4000000 in
theorem also_in (N n : Nat) (hn : 3 ≤ n) {w : World} {B : Nat} {va vb : Value} {zs : List Int} {ps : List Value} (hva : Ats w B va zs) (hvb : w.ownsRow B 49 1 vb ps.length ps) (hB : B ≤ w.heap.size) (f : Int) (hf0 : 0 ≤ f) (hf1 : f ≤ 1000000) (b off len cap m : Nat) (hm : len = m * 112) (hcap : len ≤ cap) (hm1 : m ≤ 2000) (hz : zs.length ≤ 100000) (hp : ps.length ≤ 100000) (hNa : va.ownBlock ≠ some N) (hNb : vb.ownBlock ≠ some N) :
    CallsIn Fence.wide n Tryz.prog 55 #[va, vb, .int .i64 f, .slice (some ⟨b, off, none⟩) len cap] w fun e w' => ∃ va' vb', e = .returned (.tuple #[va', vb']) ∧ Ats w' B va' (zs ++ seqZ f m) ∧ w'.ownsRow B 49 1 vb' (ps.length + m) (ps ++ (List.range m).map (chk b off)) ∧ Below B w w' ∧ Ot2 w w' ∧ (N < w.heap.size → w'.heap[N]? = w.heap[N]? ∧ va'.ownBlock ≠ some N ∧ vb'.ownBlock ≠ some N) := by
  have h1 : 1 ≤ n := by omega
  obtain ⟨aa, ac, hae⟩ := hva.shape
  obtain ⟨ba, bc, hbe⟩ : ∃ a c, vb = .slice a ps.length c := by
    rcases hvb.2 with ⟨e, h0⟩ | ⟨g, cap, cur, e, _⟩
    · exact ⟨none, 0, by rw [e, h0]⟩
    · exact ⟨_, cap, e⟩
  refine callsIn_of_wp_marks Tryz.func55 rfl trivial ?_ rfl
  simp only [Tryz.ntmps55, List.size_toArray, List.length_cons, List.length_nil, Nat.reduceAdd, Nat.reduceSub, Array.replicate_succ, Array.replicate_zero, List.push_toArray, List.append_toArray, List.nil_append, List.cons_append]
  have HCH : ∀ w, CallsIn Fence.wide (n - 1) Tryz.prog 90 #[.slice (some ⟨b, off, none⟩) len cap, .int .i64 112] w _ := fun w => callsIn_wide.2 (chunk_any b off len cap w)
  have HVA := hid hva
  have HVB := hid hvb
  subst hae
  subst hbe
  have HM := hid hm
  have HNA := hid hNa
  have HNB := hid hNb
  clear hva hvb hm hNa hNb
  generalize hzn : zs.length = zn at *
  generalize hpn : ps.length = pn at *
  have hsz : ∀ (x : World) (o : Obj), (x.alloc o).heap.size = x.heap.size + 1 := fun x o => by show (x.heap.push _).size = _; simp
  have hsz3 : (((w.alloc (.cells #[.slice aa zn ac] 42)).alloc (.cells #[.slice ba pn bc] 104)).alloc (.cells #[.int .i64 f] 3)).heap.size = w.heap.size + 3 := by rw [hsz, hsz, hsz]
  have HCH3 := hid (HCH (((w.alloc (.cells #[.slice aa zn ac] 42)).alloc (.cells #[.slice ba pn bc] 104)).alloc (.cells #[.int .i64 f] 3)))
  rw [hsz3] at HCH3
  have hB3 : Below w.heap.size w (((w.alloc (.cells #[.slice aa zn ac] 42)).alloc (.cells #[.slice ba pn bc] 104)).alloc (.cells #[.int .i64 f] 3)) := (((Below.refl _ w).alloc (Nat.le_refl _) _).alloc (by rw [hsz]; omega) _).alloc (by rw [hsz, hsz]; omega) _
  have hbA : Boxed (((w.alloc (.cells #[.slice aa zn ac] 42)).alloc (.cells #[.slice ba pn bc] 104)).alloc (.cells #[.int .i64 f] 3)) w.heap.size 42 (.slice aa zn ac) := ((Boxed.new w _ _).alloc _).alloc _
  have hbB : Boxed (((w.alloc (.cells #[.slice aa zn ac] 42)).alloc (.cells #[.slice ba pn bc] 104)).alloc (.cells #[.int .i64 f] 3)) (w.heap.size + 1) 104 (.slice ba pn bc) := by
    have := (Boxed.new (w.alloc (.cells #[.slice aa zn ac] 42)) 104 (.slice ba pn bc)).alloc (.cells #[.int .i64 f] 3)
    rwa [hsz] at this
  have hbF : Boxed (((w.alloc (.cells #[.slice aa zn ac] 42)).alloc (.cells #[.slice ba pn bc] 104)).alloc (.cells #[.int .i64 f] 3)) (w.heap.size + 2) 3 (.int .i64 f) := by
    have := Boxed.new ((w.alloc (.cells #[.slice aa zn ac] 42)).alloc (.cells #[.slice ba pn bc] 104)) 3 (.int .i64 f)
    rwa [hsz, hsz] at this
  have H3 := hid (And.intro hB3 (And.intro hbA (And.intro hbB (And.intro hbF hsz3))))
  clear hB3 hbA hbB hbF
  gi_wp2
  refine ⟨trivial, ?_⟩
  generalize hw3 : ((w.alloc (.cells #[.slice aa zn ac] 42)).alloc (.cells #[.slice ba pn bc] 104)).alloc (.cells #[.int .i64 f] 3) = w3 at *
  refine HCH3.out.mono ?_
  rintro e w5 ⟨rfl, hw5⟩
  have hB5 : Below w3.heap.size w3 w5 := by rw [hw5]; exact ((Below.refl _ w3).alloc (Nat.le_refl _) _).alloc (by rw [hsz]; omega) _
  have hbS : Boxed w5 (w.heap.size + 3) 49 (.slice (some ⟨b, off, none⟩) len cap) := by
    rw [hw5]
    have := (Boxed.new w3 49 (.slice (some ⟨b, off, none⟩) len cap)).alloc (.cells #[.int .i64 112] 3)
    rwa [hsz3] at this
  have hbN : Boxed w5 (w.heap.size + 4) 3 (.int .i64 112) := by
    rw [hw5]
    have := Boxed.new (w3.alloc (.cells #[.slice (some ⟨b, off, none⟩) len cap] 49)) 3 (.int .i64 112)
    rwa [hsz, hsz3] at this
  have hs5 : w5.heap.size = w.heap.size + 5 := by rw [hw5, hsz, hsz, hsz3]
  have h3 := H3.out
  have hBw5 : Below w.heap.size w w5 := h3.1.trans (hB5.mono h3.1.size)
  have hAI : AI N w B zs ps f w5 := by
    refine ⟨⟨_, below_at hB5 h3.2.1 (by omega), ?_, fun k hk => .inl ?_⟩, ⟨_, below_at hB5 h3.2.2.1 (by omega), ?_, fun k hk => .inl ?_⟩, below_at hB5 h3.2.2.2.1 (by omega), hBw5.mono hB, Ot2.of_below hBw5, by omega, fun hN => hBw5.block N hN⟩
    · rw [hzn]; exact owns_fr (X := []) (by have := HVA.out; unfold Ats at this; rw [hzn] at this; exact this) (Fr.of_below hBw5) (by simp)
    · have := HVA.out.lt k hk; exact ⟨this.2, fun e => HNA.out (by rw [hk, e])⟩
    · rw [hpn]; exact owns_fr (X := []) HVB.out (Fr.of_below hBw5) (by simp)
    · have := HVB.out.lt k hk; exact ⟨this.2, fun e => HNB.out (by rw [hk, e])⟩
  have HAI := hid hAI
  have HBS := hid (And.intro hbS.cell (And.intro hbN.cell hs5))
  clear hAI h3 hB5 hBw5 hbS hbN hs5 hw5 HCH3 HCH H3 hsz3 hw3
  gi_wp2
  have hBS := HBS.out
  have hlm := HM.out
  refine wpIn_rangeFunc_ownG rfl h1 (gf := 116) (lb := #[.pointer (some ⟨w.heap.size + 3, 0, none⟩), .pointer (some ⟨w.heap.size + 4, 0, none⟩)]) rfl trivial (enters_of Tryz.func116 (by kernel_rfl) rfl)
    (chunk_stops (n - 1) (by omega) (w.heap.size + 3) (w.heap.size + 4) b off len cap m hlm hcap (by omega) w5 (by omega) (by omega) hBS.1 hBS.2.1) (fun h k => h.trans k)
    (fun W l o o' hl h0 hc hw => ⟨World.cell?_of_block (World.putObj_heap_other (by show w.heap.size + 3 ≠ l; omega)), World.cell?_of_block (World.putObj_heap_other (by show w.heap.size + 4 ≠ l; omega))⟩) (Below.refl _ _) (fun _ => rfl)
    (fun pre W => AI N w B (zs ++ seqZ f pre.length) (ps ++ pre.map (chk b off)) (f + (pre.length : Nat)) W) (fun _ _ _ => False)
    (fun s X Y row hs hg hr => hs.own hB hg (fun r e => ⟨by have := (hr r e).1; omega, (hr r e).2⟩)) (fun _ _ _ _ _ hs _ _ => hs)
    (by simpa [seqZ] using HAI.out)
    (fun x => { tmps := #[.slice aa zn ac, .slice ba pn bc, .int .i64 f, .slice (some ⟨b, off, none⟩) len cap, .pointer (some ⟨w.heap.size, 0, none⟩), .pointer (some ⟨w.heap.size + 1, 0, none⟩), .pointer (some ⟨w.heap.size + 2, 0, none⟩), undef, .slice none 0 0, .slice none 0 0, chk b off x, .slice (some ⟨b, off, none⟩) len cap,
      .func (.func 116) #[] #[.pointer (some ⟨w.heap.size + 3, 0, none⟩), .pointer (some ⟨w.heap.size + 4, 0, none⟩)], chk b off x, undef, undef, undef, undef, undef, undef, undef, undef, undef, undef, undef, undef], defers := [] }) ?assign ?body ?done ?stop
  case assign =>
    clear hlm hsz hzn hpn
    intro l x W K hK
    gi_wp2
    exact hK
  case body =>
    rintro l pre x W hA hlt
    have hzl : (zs ++ seqZ f pre.length).length ≤ 1000000 := by rw [List.length_append, seqZ_len]; omega
    have hpl : (ps ++ pre.map (chk b off)).length ≤ 1000000 := by rw [List.length_append, List.length_map]; omega
    obtain ⟨va, vb, g1, c1, w1, g2, c2, w2, a1, b1, r1, a11, b12, r2, b13, f14, hA', hzs, hke⟩ := hA.step hB (chk b off x) rfl hzl hpl (f + (pre.length : Nat) + 1)
    have hI : AI N w B (zs ++ seqZ f (pre ++ [x]).length) (ps ++ (pre ++ [x]).map (chk b off)) (f + ((pre ++ [x]).length : Nat)) ((w2.setCell ⟨w.heap.size + 1, 0, none⟩ (.slice (some ⟨g2, 0, none⟩) ((ps ++ pre.map (chk b off)).length + 1) c2)).setCell ⟨w.heap.size + 2, 0, none⟩ (.int .i64 (f + (pre.length : Nat) + 1))) := by
      have e1 : zs ++ seqZ f (pre ++ [x]).length = zs ++ seqZ f pre.length ++ [f + (pre.length : Nat)] := by rw [List.length_append, show [x].length = 1 from rfl, seqZ_succ, List.append_assoc]
      have e2 : ps ++ (pre ++ [x]).map (chk b off) = ps ++ pre.map (chk b off) ++ [chk b off x] := by simp
      have e3 : f + ((pre ++ [x]).length : Nat) = f + (pre.length : Nat) + 1 := by rw [List.length_append, show [x].length = 1 from rfl]; omega
      rw [e1, e2, e3]; exact hA'
    have hsA := hA.size
    have hK2 : K2 (w.heap.size + 3) (w.heap.size + 4) W ((w2.setCell ⟨w.heap.size + 1, 0, none⟩ (.slice (some ⟨g2, 0, none⟩) ((ps ++ pre.map (chk b off)).length + 1) c2)).setCell ⟨w.heap.size + 2, 0, none⟩ (.int .i64 (f + (pre.length : Nat) + 1))) := by
      refine ⟨World.cell?_of_block ?_, World.cell?_of_block ?_⟩
      · have h : W.heap[w.heap.size + 3]? = some W.heap[w.heap.size + 3] := Array.getElem?_eq_getElem (by omega)
        exact (hke _ _ h (.inr ⟨by omega, by omega⟩)).trans h.symm
      · have h : W.heap[w.heap.size + 4]? = some W.heap[w.heap.size + 4] := Array.getElem?_eq_getElem (by omega)
        exact (hke _ _ h (.inr ⟨by omega, by omega⟩)).trans h.symm
    have HZ := hid (And.intro (show KeepsFrom w5.heap.size W _ from ⟨hzs, fun k o _ hk ho => hke k o hk (.inl ho)⟩) (And.intro hK2 hI))
    have hcf := hA.f.cell
    have hca := a1.cell
    have hca1 := a11.cell
    have hfa1 := a11.frozen
    have hcb := b12.cell
    have hcb2 := b13.cell
    have hfb2 := b13.frozen
    have hcf4 := f14.cell
    have hff4 := f14.frozen
    have hwf : IntKind.i64.wrap (f + (pre.length : Nat) + 1) = f + (pre.length : Nat) + 1 := by rw [IntWalk.i64_in _ ⟨by omega, by omega⟩]
    have hsc : ∀ (x : World) (p : Addr) (v : Value), (x.setCell p v).heap.size = x.heap.size := fun x p v => by simp
    rw [hsc] at r2
    have HR1 := hid r1
    have HR2 := hid r2
    clear hsc
    clear hA' hke hI hK2 hzs hsA hA a1 b1 a11 b12 b13 f14 r1 r2 HAI HBS HVA HVB hlm hsz hBS hlt hzl hpl
    generalize (zs ++ seqZ f pre.length).length + 1 = z1 at *
    generalize (ps ++ pre.map (chk b off)).length + 1 = p1 at *
    generalize f + (pre.length : Nat) = f1 at *
    unfold chk at *
    gi_wp2_with (first | (gi_at_builtin; have _t := HR1; refine wpListIn_app rfl _ _ 42 rfl rfl rfl HR1.out ?_; clear HR1 _t) | (gi_at_builtin; refine wpListIn_app rfl _ _ 104 rfl rfl rfl HR2.out ?_))
    exact HZ.out
  case done =>
    rintro D ys W hD rfl hA hK
    obtain ⟨va, a1, a2, a3⟩ := hA.a
    obtain ⟨vb, b1, b2, b3⟩ := hA.b
    rw [List.length_range] at a2
    have hca := a1.cell
    have hcb := b1.cell
    have HA := hid (And.intro a2 (And.intro b2 hA))
    have HO := hid (And.intro a3 b3)
    have HD : Hid (w.heap.size + 5 ≤ D) := hid (by have := hBS.2.2; omega)
    clear a1 b1 a2 b2 a3 b3 hA HAI HBS HVA HVB hlm hsz hBS
    gi_wp2
    gi_quiet (fail)
    gi_wp2
    refine ⟨by simp, .inl ⟨_, _, rfl, run_takeDeferred hK, ?_⟩⟩
    have ha := HA.out
    have hg : W.grownBy (W.drewN nq) none := ⟨rfl, rfl, rfl, Nat.le_refl _, fun _ _ _ => rfl⟩
    have hg2 := grownBy_putObj' (W.drewN nq) D (.deferred none)
    have hKd : (W.drewN nq).heap[D]? = some (.deferred (some [])) := hK
    have hr2 : ∀ r, some D = some r → w.heap.size + 5 ≤ r ∧ ∃ o : Obj, (W.drewN nq).heap[r]? = some o ∧ o.isCells = false := fun r e => by cases e; exact ⟨HD.out, _, hKd, rfl⟩
    have hA3 := (ha.2.2.own hB hg (fun r e => by cases e)).own hB hg2 hr2
    refine ⟨_, results_tmp2 rfl _ _ _, va, vb, rfl, ?_, ?_, hA3.below, hA3.ot, fun hN => ⟨hA3.nk hN, fun e => by rcases HO.out.1 N e with h | h <;> omega, fun e => by rcases HO.out.2 N e with h | h <;> omega⟩⟩
    · have h4 := owns_grown (owns_grown ha.1 hg (fun r e => by cases e)) hg2 (fun r e => (hr2 r e).2)
      exact h4
    · have h4 := owns_grown (owns_grown ha.2.1 hg (fun r e => by cases e)) hg2 (fun r e => (hr2 r e).2)
      rw [List.length_append, List.length_map, List.length_range, hpn] at h4
      exact h4
  case stop =>
    rintro D c pre W _ _ h _
    exact h.elim
theorem also_any {w : World} {B : Nat} {va vb : Value} {zs : List Int} {ps : List Value} (hva : Ats w B va zs) (hvb : w.ownsRow B 49 1 vb ps.length ps) (hB : B ≤ w.heap.size) (f : Int) (hf0 : 0 ≤ f) (hf1 : f ≤ 1000000) (b off len cap m : Nat) (hm : len = m * 112) (hcap : len ≤ cap) (hm1 : m ≤ 2000) (hz : zs.length ≤ 100000) (hp : ps.length ≤ 100000) :
    Calls Tryz.prog 55 #[va, vb, .int .i64 f, .slice (some ⟨b, off, none⟩) len cap] w fun e w' => ∃ va' vb', e = .returned (.tuple #[va', vb']) ∧ Ats w' B va' (zs ++ seqZ f m) ∧ w'.ownsRow B 49 1 vb' (ps.length + m) (ps ++ (List.range m).map (chk b off)) ∧ Below B w w' ∧ Ot2 w w' :=
  ((callsIn_wide (n := 3)).1 (also_in w.heap.size 3 (Nat.le_refl _) hva hvb hB f hf0 hf1 b off len cap m hm hcap hm1 hz hp (fun e => by have := (hva.lt _ e).2; omega) (fun e => by have := (hvb.lt _ e).2; omega))).mono (by
    rintro e w' ⟨va', vb', h1, h2, h3, h4, h5, _⟩
    exact ⟨va', vb', h1, h2, h3, h4, h5⟩)
/-- .. and a block that is neither's stays as it was. -/
theorem also_keep {w : World} {B N : Nat} {va vb : Value} {zs : List Int} {ps : List Value} (hva : Ats w B va zs) (hvb : w.ownsRow B 49 1 vb ps.length ps) (hB : B ≤ w.heap.size) (f : Int) (hf0 : 0 ≤ f) (hf1 : f ≤ 1000000) (b off len cap m : Nat) (hm : len = m * 112) (hcap : len ≤ cap) (hm1 : m ≤ 2000) (hz : zs.length ≤ 100000) (hp : ps.length ≤ 100000) (hNa : va.ownBlock ≠ some N) (hNb : vb.ownBlock ≠ some N) (hN : N < w.heap.size) :
    Calls Tryz.prog 55 #[va, vb, .int .i64 f, .slice (some ⟨b, off, none⟩) len cap] w fun e w' => ∃ va' vb', e = .returned (.tuple #[va', vb']) ∧ Ats w' B va' (zs ++ seqZ f m) ∧ w'.ownsRow B 49 1 vb' (ps.length + m) (ps ++ (List.range m).map (chk b off)) ∧ Below B w w' ∧ Ot2 w w' ∧ w'.heap[N]? = w.heap[N]? ∧ va'.ownBlock ≠ some N ∧ vb'.ownBlock ≠ some N :=
  ((callsIn_wide (n := 3)).1 (also_in N 3 (Nat.le_refl _) hva hvb hB f hf0 hf1 b off len cap m hm hcap hm1 hz hp hNa hNb)).mono (by
    rintro e w' ⟨va', vb', h1, h2, h3, h4, h5, h6⟩
    exact ⟨va', vb', h1, h2, h3, h4, h5, h6 hN⟩)
end Go.Proofs.YtdbgccgjdgomkaaGreatDoor
