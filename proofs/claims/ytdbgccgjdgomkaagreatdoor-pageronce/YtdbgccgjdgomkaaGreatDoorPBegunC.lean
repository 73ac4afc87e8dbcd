/- The law's begun: a pager on a new journal, on a new disk. -/
import Derived.Test.YtdbgccgjdgomkaaGreatDoorPRefBC
namespace Go.Proofs.YtdbgccgjdgomkaaGreatDoor
open Go Go.RowKit

theorem results_tmp4 {fn : Func} {t u v x : Tmp} (h : fn.results = #[.tmp t, .tmp u, .tmp v, .tmp x]) (tmps : Array Value) (P : Program) (w : World) :
    (results fn tmps).run P w = .ok (.tuple #[tmps.getD t undef, tmps.getD u undef, tmps.getD v undef, tmps.getD x undef]) w := by
  simp [results, h]
theorem Pv.mono {B B' : Nat} {w : World} {p j d : Nat} {s : DS} {sq : Nat} {bl : List (List UInt8)} {cur was : Pgs} {rt wr : Int} (h : Pv B w p j d s sq bl cur was rt wr) (hB : B' ≤ B) (ht : 0 < B') : Pv B' w p j d s sq bl cur was rt wr := by
  obtain ⟨X, cnt, bg, um, bm, u, g, h⟩ := h
  exact ⟨X, cnt, bg, um, bm, u, g, { h with js := ⟨h.js.jr, h.js.cut, fun k hk => Nat.le_trans hB (h.js.lo k hk), Nat.le_trans hB h.js.jlo⟩, lo := Nat.le_trans hB h.lo, mlo := fun m hm => Nat.le_trans hB (h.mlo m hm), tb := ht, Bw := Nat.le_trans hB h.Bw }⟩
/-- How many pages a disk of so many sectors has. -/
def pgOf (n : Nat) : Nat := (nbOf n - 2) / 8
/-- What begun leaves. -/
def Bgn (w : World) (n : Nat) (e : Ending) (w' : World) : Prop :=
  ∃ d j p r s bl, e = .returned (.tuple #[.pointer (some ⟨d, 0, none⟩), .pointer (some ⟨j, 0, none⟩), .pointer (some ⟨p, 0, none⟩), .pointer (some ⟨r, 0, none⟩)]) ∧ Pv w.heap.size w' p j d s 1 bl (List.replicate (pgOf n) none) (List.replicate (pgOf n) none) (-1) (-1) ∧ s.n = n ∧ s.ops ≤ ((2 * nbOf n + 11 : Nat) : Int) ∧ Rp w' w.heap.size r (List.replicate (pgOf n) none) (List.replicate (pgOf n) none) (-1) (-1) false ∧ Below w.heap.size w w'
theorem head_laid (bl : List (List UInt8)) (hb : 2 ≤ bl.length) (hd : List UInt8) (hl : hd.length = 224) : cat (layAll bl (wsOf [0, 1] [hp hd 0, hp hd 1])) 0 2 = hd := by
  have h := (commit_math (bl := bl) (g := fun _ => none) (ks := []) (hd := hd) (n := (bl.length - 2) / 8) hl rfl hb List.nodup_nil (fun k => by simp) (fun k hk => by cases hk) (fun k c hc => by cases hc)).2.1
  exact h
set_option maxRecDepth 100000 in
set_option maxHeartbeats 2000000 in
theorem begun_any (c : Int) (h0 : -9223372036854775808 ≤ c) (h1 : c ≤ 9223372036854775807) (w : World) (ht : Tab w) : Calls Tryz.prog 11 #[.int .i64 c] w (Bgn w (32 + pk c 300)) := by
  have hpk := pk_lt c (n := 300) (by decide)
  have HPK := hid (pick_any c 300 h0 h1 (by decide) w)
  obtain ⟨n, hn⟩ : ∃ n, 32 + pk c 300 = n := ⟨_, rfl⟩
  have HN := hid (new_d w n (by omega) (by omega))
  have hadd : IntKind.i64.wrap (32 + ((pk c 300 : Nat) : Int)) = (n : Int) := by rw [IntWalk.i64_in _ ⟨by omega, by omega⟩]; omega
  have HT := hid ht
  have H0 : Hid (32 ≤ n ∧ n ≤ 331) := hid (by omega)
  have HTL := hid (tab_lt ht)
  rw [hn]
  generalize pk c 300 = q at *
  clear ht h0 h1 hpk hn
  go_enter Tryz.func11, Tryz.ntmps11
  go_wp2_with fail
  refine HPK.out.mono ?_
  rintro e wp ⟨rfl, hwp⟩
  obtain rfl := hwp.symm
  clear HPK
  go_wp2_with fail
  refine HN.out.mono ?_
  rintro e w1 ⟨d, X1, rfl, hD1, hX1, hB1⟩
  have hnot : ∀ {X : List Nat}, (∀ k ∈ X, w.heap.size ≤ k) → 0 ∉ X := fun h hm => by
    have h2 := h _ hm
    have h3 := HTL.out
    omega
  have hnb : nbOf n < 8192 := by have := H0.out; unfold nbOf; omega
  have HF := hid (format_rest hD1 (HT.out.below hB1) rfl (show 32 ≤ (DS.new n).n from H0.out.1) rfl (by show (0 : Int) + _ ≤ _; show (0 : Int) + ((2 * nbOf n + 3 : Nat) : Int) ≤ 1048576; omega) (hnot hX1))
  have HB1 := hid hB1
  have HX1 := hid hX1
  clear hD1 hB1 hX1 HN hnb hadd
  go_wp2_with fail
  refine HF.out.mono ?_
  rintro e w2 ⟨rfl, s2, X2, hD2, hT2, hS2, h21, h22, h23, hX2, hF2⟩
  have hB2 : Below w.heap.size w w2 := HB1.out.trans (hF2.below HB1.out.size HX1.out)
  have hX2' : ∀ k ∈ X2, w.heap.size ≤ k := fun k hk => by
    rcases hX2 k hk with h | h
    · exact HX1.out k h
    · exact Nat.le_trans HB1.out.size h
  have HO := hid (open_first hD2 hT2 hS2 (hnot hX2'))
  have HB2 := hid hB2
  have HX2 := hid hX2'
  have HS := hid (show s2.n = n ∧ s2.cut = -1 ∧ s2.ops = ((2 * nbOf n + 3 : Nat) : Int) from ⟨h21, h22, by rw [h23]; show (0 : Int) + _ = _; rw [Int.zero_add]; rfl⟩)
  clear hD2 hT2 hS2 h21 h22 h23 hX2 hF2 hB2 hX2' HB1 HX1 HF hnot
  go_wp2_with fail
  refine HO.out.mono ?_
  rintro e w3 ⟨j, X3, hj, rfl, hJ3, hX3, hF3⟩
  have hB3 : Below w.heap.size w w3 := HB2.out.trans (hF3.below HB2.out.size HX2.out)
  have hX3' : ∀ k ∈ X3, w.heap.size ≤ k := fun k hk => by
    rcases hX3 k hk with h | h
    · exact HX2.out k h
    · exact Nat.le_trans HB2.out.size h
  have hj' : w.heap.size ≤ j := Nat.le_trans HB2.out.size hj
  have hs2 := HS.out
  have hJs : Js w.heap.size w3 j d X3 s2 0 0 (zeros (nbOf n)) := ⟨hJ3, hs2.2.1, hX3', hj'⟩
  have h0n := H0.out
  have hnb : nbOf n ≤ 200 := by unfold nbOf; omega
  have HPF := hid (pformat_any hJs hB3.size (by decide) (by rw [hs2.1, hs2.2.2]; omega) (n := pgOf n) (by rw [hs2.1]; rfl))
  have HB3 := hid hB3
  clear hj hJ3 hX3 hF3 hB3 hX3' HO HB2 HX2 hj' hs2 hJs h0n hnb
  go_wp2_with fail
  refine HPF.out.mono ?_
  rintro e w4 ⟨rfl, s4, X4, cnt4, hJ4, hn4, ho4a, ho4, hB4, _⟩
  have hs2 := HS.out
  have hzl : (zeros (nbOf n)).length = nbOf n := by simp [zeros]
  have h15 : 15 ≤ nbOf n ∧ nbOf n ≤ 200 := by have := H0.out; unfold nbOf; omega
  have htk : tk (List.replicate (pgOf n) none) = List.replicate (pgOf n) false := by simp [tk]
  have HPO := hid (open_head hJ4 (was := List.replicate (pgOf n) none) (wr := -1) (by rw [head_laid _ (by rw [hzl]; omega) _ (hdOf_len _ _), htk]; rfl) (by rw [layAll_len, hzl, List.length_replicate]; rfl) (.inl rfl) (fun i c hi => by rw [List.getElem?_replicate] at hi; split at hi <;> simp at hi) HTL.out (Nat.le_trans HB3.out.size hB4.size))
  have HB4 := hid (HB3.out.trans hB4)
  have H4 : Hid (s4.n = n ∧ s4.ops ≤ ((2 * nbOf n + 11 : Nat) : Int) ∧ 15 ≤ nbOf n ∧ nbOf n ≤ 200) := hid ⟨hn4.trans hs2.1, by rw [hs2.2.2] at ho4; omega, h15⟩
  clear hJ4 hn4 ho4a ho4 hB4 hs2 hzl h15 htk HPF HB3 HS HT
  go_wp2_with fail
  refine HPO.out.mono ?_
  rintro e w5 ⟨p, hp5, rfl, hP5, hB5⟩
  have hBk : ∃ cnt5 X5, Js w.heap.size w5 j d X5 s4 1 cnt5 (layAll (zeros (nbOf n)) (wsOf [0, 1] [hp (hdOf (List.replicate (pgOf n) false) 0) 0, hp (hdOf (List.replicate (pgOf n) false) 0) 1])) := by
    obtain ⟨X, cnt, bg, um, bm, u, g, h⟩ := hP5
    exact ⟨cnt, X, h.js⟩
  obtain ⟨cnt5, X5, hJ5⟩ := hBk
  have hjb := jblocks_any hJ5.jr.jn
  rw [H4.out.1] at hjb
  have HJB := hid hjb
  have HRB := hid (refBegun_any (nbOf n) (pgOf n) (by have := H4.out; omega) (by have := H4.out; omega) rfl w5)
  have HP5 := hid hP5
  have HB5 : Hid (Below w.heap.size w w5 ∧ w.heap.size ≤ w5.heap.size) := hid ⟨HB4.out.trans (hB5.mono HB4.out.size), Nat.le_trans HB4.out.size hB5.size⟩
  clear hp5 hP5 hB5 hJ5 hjb HPO HB4
  go_wp2_with fail
  refine HJB.out.mono ?_
  rintro e wb ⟨rfl, hwb⟩
  obtain rfl := hwb.symm
  clear HJB
  go_wp2_with fail
  refine HRB.out.mono ?_
  rintro e w6 ⟨r, hr, rfl, hR, hB6⟩
  have hRR : Rp w6 w.heap.size r (List.replicate (pgOf n) none) (List.replicate (pgOf n) none) (-1) (-1) false := by
    obtain ⟨h1, vp, vw, al, be, h2, h3, h4, h5⟩ := hR
    exact ⟨Nat.le_trans HB5.out.2 h1, vp, vw, al, be, h2, owns_mono h3 HB5.out.2, owns_mono h4 HB5.out.2, h5⟩
  have HZ : Hid (Bgn w n (.returned (.tuple #[.pointer (some ⟨d, 0, none⟩), .pointer (some ⟨j, 0, none⟩), .pointer (some ⟨p, 0, none⟩), .pointer (some ⟨r, 0, none⟩)])) w6) := hid ⟨d, j, p, r, s4, _, rfl, HP5.out.below hB6, H4.out.1, H4.out.2.1, hRR, HB5.out.1.trans (hB6.mono HB5.out.2)⟩
  clear hr hR hB6 hRR HRB HP5 HB5 H4
  go_wp2_with fail
  try simp only [Exit.inBlock, Exit.then]
  refine bodyPost_ret (results_tmp4 rfl _ _ _) rfl ?_
  exact HZ.out
end Go.Proofs.YtdbgccgjdgomkaaGreatDoor
