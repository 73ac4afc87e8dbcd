/- The end of a text, and SHA-256 of it. -/
import Derived.Test.YtcjhimakbopipaaDoorMBytes
namespace Go.Proofs.YtcjhimakbopipaaDoor
open Go Go.RowKit

/-- Bytes lie in block b. -/
def By (w : World) (b : Nat) (t : TypeId) (l : List UInt8) : Prop := w.heap[b]? = some (.cells (cells8 l).toArray t (0, 0))
theorem By.cell {w : World} {b : Nat} {t : TypeId} {l : List UInt8} (h : By w b t l) (k : Nat) (hk : k < l.length) : w.cell? ⟨b, k, none⟩ = some (.int .u8 (at8 l k)) :=
  cell_at h k (by rw [List.getElem?_toArray]; exact cells8_get l k hk)
theorem By.set {w : World} {b : Nat} {t : TypeId} {l : List UInt8} (h : By w b t l) (k x : Nat) (hx : x < 256) : By (w.setCell ⟨b, k, none⟩ (.int .u8 x)) b t (l.set k (UInt8.ofNat x)) := by
  unfold By; rw [heap_setCell h, ← cb_ofNat x hx]
  simp [cells8, List.map_set]
theorem By.rd {w : World} {b : Nat} {t : TypeId} {l : List UInt8} (h : By w b t l) : Rd w b 0 l := fun k hk => by rw [Nat.zero_add]; exact h.cell k hk
theorem store5 {w : World} {b k : Nat} {t : TypeId} {l : List UInt8} (h : By w b t l) (hk : k < l.length) (x : Nat) (_hx : x < 256) : (Instr.storeAt 5 (.pointer (some ⟨b, k, none⟩)) (.int .u8 x)).run Tryd.prog w = .ok () (w.setCell ⟨b, k, none⟩ (.int .u8 x)) := by
  have hc := h.cell k hk
  have hf := open_at h k
  go_simp
theorem sub7 (k : Nat) (h : k < 8) (w : World) : (binOp .sub 3 (.int .i64 7) (.int .i64 k)).run Tryd.prog w = .ok (.int .i64 (7 - k : Nat)) w := by
  have h1 : IntKind.i64.wrap (7 - (k : Int)) = ((7 - k : Nat) : Int) := by rw [IntWalk.i64_in _ ⟨by omega, by omega⟩]; omega
  generalize 7 - k = q at *
  go_simp
theorem mul8 (k : Nat) (h : k < 8) (w : World) : (binOp .mul 3 (.int .i64 8) (.int .i64 k)).run Tryd.prog w = .ok (.int .i64 (8 * k : Nat)) w := by
  have h1 : IntKind.i64.wrap (8 * (k : Int)) = ((8 * k : Nat) : Int) := by rw [IntWalk.i64_in _ ⟨by omega, by omega⟩]; omega
  generalize 8 * k = q at *
  go_simp
theorem shr61 (x s : Nat) (h : s ≤ 64) (w : World) : (binOp .shr 61 (.int .u64 x) (.int .i64 (s : Nat))).run Tryd.prog w = .ok (.int .u64 (x / 2 ^ s : Nat)) w := by
  have h1 : (x : Int) / 2 ^ s = ((x / 2 ^ s : Nat) : Int) := by rw [Int.natCast_ediv, Int.natCast_pow]; rfl
  have h2 : (s : Int) ≤ 64 := by omega
  generalize x / 2 ^ s = q at *
  go_simp
theorem cvt61 (x : Nat) (w : World) : (convert 61 5 (.int .u64 x)).run Tryd.prog w = .ok (.int .u8 (x % 256 : Nat)) w := by
  have h1 : IntKind.u8.wrap (x : Int) = ((x % 256 : Nat) : Int) := by rw [IntKind.wrap_u8']; omega
  generalize x % 256 = q at *
  go_simp
theorem idx72 (b k : Nat) (h : k < 8) (w : World) : (Instr.indexAt 72 (.pointer (some ⟨b, 0, none⟩)) (.int .i64 k)).run Tryd.prog w = .ok (.pointer (some ⟨b, k, none⟩)) w := by
  have h1 : (k : Int) < 8 := by omega
  go_simp
theorem set_mid8 (x y : List UInt8) (k : Nat) (h : x.length = y.length) (hk : k < y.length) : (y.take k ++ x.drop k).set k (y.getD k 0) = y.take (k + 1) ++ x.drop (k + 1) := by
  apply List.ext_getElem?
  intro i
  rw [List.getElem?_set]
  by_cases h1 : i < k
  · rw [if_neg (by omega), List.getElem?_append_left (by simp; omega), List.getElem?_append_left (by simp; omega), List.getElem?_take_of_lt h1, List.getElem?_take_of_lt (by omega)]
  · by_cases h2 : k = i
    · subst h2
      rw [if_pos rfl, if_pos (by simp; omega), List.getElem?_append_left (by simp; omega), List.getElem?_take_of_lt (by omega)]
      simp [List.getD, hk]
    · rw [if_neg h2, List.getElem?_append_right (by simp; omega), List.getElem?_append_right (by simp; omega), List.getElem?_drop, List.getElem?_drop]
      congr 1
      simp; omega
def y8 : List UInt8 := [0, 0, 0, 0, 0, 0, 0, 0]
theorem be8_get (N k : Nat) (hk : k < 8) : (be8 N).getD k 0 = UInt8.ofNat (N / 2 ^ (8 * (7 - k)) % 256) := by
  simp [be8, List.getD, hk]
set_option maxHeartbeats 1000000 in
theorem bits_any (n : Nat) (hn : n ≤ 281474976710656) (w : World) :
    Calls Tryd.prog 39 #[.int .i64 n] w fun r w' => r = .returned (.string ⟨(be8 (8 * n)).toArray⟩) ∧ Below w.heap.size w w' := by
  have hc : IntKind.u64.wrap (n : Int) = n := by rw [IntKind.wrap_u64]; omega
  have hm : IntKind.u64.wrap ((n : Int) * 8) = ((8 * n : Nat) : Int) := by rw [IntKind.wrap_u64]; omega
  generalize 8 * n = N at *
  have a1 : By (w.alloc (.cells #[.int .u8 0, .int .u8 0, .int .u8 0, .int .u8 0, .int .u8 0, .int .u8 0, .int .u8 0, .int .u8 0] 72)) w.heap.size 72 ((be8 N).take 0 ++ y8.drop 0) := heap_alloc_last w _
  have hB0 := (Below.refl w.heap.size w).alloc (Nat.le_refl _) (.cells #[.int .u8 0, .int .u8 0, .int .u8 0, .int .u8 0, .int .u8 0, .int .u8 0, .int .u8 0, .int .u8 0] 72)
  have HA1 := hidM a1
  have HB1 := hidM hB0
  clear a1 hB0
  go_enter Tryd.func39, Tryd.ntmps39
  go_wp2_with fail
  generalize hb : w.heap.size = b at *
  go_loopw [9, 5] (fun x _ wr => ∃ k : Nat, k ≤ 8 ∧ x = .int .i64 k ∧ By wr b 72 ((be8 N).take k ++ y8.drop k) ∧ Below b w wr) (fun x _ _ => 8 - (intOf x).toNat)
  case atStart => exact ⟨0, Nat.zero_le _, rfl, HA1.out, HB1.out⟩
  case round =>
    clear HA1 HB1
    obtain ⟨k, hk, rfl, hA, hBr⟩ := hrel
    have HB := hidM hBr
    clear hBr
    by_cases hlt : k < 8
    · have hlt' : (k : Int) < 8 := by omega
      have hwk : IntKind.i64.wrap ((k : Int) + 1) = ((k + 1 : Nat) : Int) := by rw [IntWalk.i64_in _ ⟨by omega, by omega⟩]; omega
      have hset := set_mid8 y8 (be8 N) k (by rw [be8_len]; rfl) (by rw [be8_len]; exact hlt)
      rw [be8_get N k hlt] at hset
      obtain ⟨st, hst⟩ : ∃ st, st = (be8 N).take k ++ y8.drop k := ⟨_, rfl⟩
      rw [← hst] at hA hset
      have hL : st.length = 8 := by rw [hst]; simp [be8_len, y8]; omega
      have HST := hidM hset
      have HA := hidM hA
      have HL := hidM hL
      have HK := hidM hlt
      clear hA hL hst hset
      go_upto_region 6 with fail
      refine wp_region_lit ?_
      refine wp_y (v := .int .i64 k) rfl rfl (y_move rfl (by kernel_rfl) (by kernel_rfl)) rfl ?_
      refine wp_y (v := .int .u64 (N : Nat)) rfl rfl (y_move rfl (by kernel_rfl) (by kernel_rfl)) rfl ?_
      refine wp_y (v := .int .i64 k) rfl rfl (y_move rfl (by kernel_rfl) (by kernel_rfl)) rfl ?_
      refine wp_y (v := .int .i64 (7 - k : Nat)) rfl rfl (y_bin rfl (by kernel_rfl) (by kernel_rfl) (by kernel_rfl) (sub7 k HK.out)) rfl ?_
      refine wp_y (v := .int .i64 ((8 * (7 - k)) : Nat)) rfl rfl (y_bin rfl (by kernel_rfl) (by kernel_rfl) (by kernel_rfl) (mul8 (7 - k) (by omega))) rfl ?_
      refine wp_y (v := .int .u64 (N / 2 ^ (8 * (7 - k)) : Nat)) rfl rfl (y_bin rfl (by kernel_rfl) (by kernel_rfl) (by kernel_rfl) (shr61 N (8 * (7 - k)) (by omega))) rfl ?_
      refine wp_y (v := .int .u8 (N / 2 ^ (8 * (7 - k)) % 256 : Nat)) rfl rfl (y_cnv rfl (by kernel_rfl) (by kernel_rfl) (cvt61 _)) rfl ?_
      refine wp_y (v := .pointer (some ⟨b, k, none⟩)) rfl rfl (y_index rfl (by kernel_rfl) (by kernel_rfl) (by kernel_rfl) (idx72 _ k HK.out)) rfl ?_
      simp only [List.setIfInBounds_toArray, List.set_cons_zero, List.set_cons_succ]
      refine wp_do rfl rfl (run_storeOp rfl (by kernel_rfl) (by kernel_rfl) (store5 HA.out (by rw [HL.out]; exact HK.out) (N / 2 ^ (8 * (7 - k)) % 256) (Nat.mod_lt _ (by decide)))) ?_
      try simp only [List.setIfInBounds_toArray, List.set_cons_zero, List.set_cons_succ]
      refine wp_end ?_
      have hA1 : By (wr.setCell ⟨b, k, none⟩ (.int .u8 (N / 2 ^ (8 * (7 - k)) % 256 : Nat))) b 72 ((be8 N).take (k + 1) ++ y8.drop (k + 1)) := by rw [← HST.out]; exact HA.out.set k _ (Nat.mod_lt _ (by decide))
      have hB2 : Below b w (wr.setCell ⟨b, k, none⟩ (.int .u8 (N / 2 ^ (8 * (7 - k)) % 256 : Nat))) := HB.out.setCell (Nat.le_refl _) _
      have HA5 := hidM hA1
      have HB5 := hidM hB2
      clear hA1 hB2
      generalize wr.setCell ⟨b, k, none⟩ (.int .u8 (N / 2 ^ (8 * (7 - k)) % 256 : Nat)) = w2 at *
      go_wp2
      exact ⟨⟨k + 1, by omega, rfl, HA5.out, HB5.out⟩, by simp [intOf]; omega⟩
    · have hk8 : k = 8 := by omega
      subst hk8
      rw [List.take_of_length_le (by rw [be8_len]; omega), List.drop_of_length_le (by decide), List.append_nil] at hA
      have hcv := conv_sl (Sl.mk (cap := 8) hA.rd (by rw [be8_len]; omega))
      rw [be8_len] at hcv
      clear hA
      go_wp2
      go_ret
      exact ⟨rfl, by rw [hb]; exact HB.out⟩
theorem repeat0 (n : Nat) : Lib.repeatL [0] n = List.replicate n (0 : UInt8) := by
  induction n with
  | zero => rfl
  | succ n ih => rw [Lib.repeatL, ih, List.replicate_succ]; rfl
theorem str_add (a b : List UInt8) : (⟨a.toArray⟩ : ByteArray) ++ (⟨b.toArray⟩ : ByteArray) = ⟨(a ++ b).toArray⟩ := by
  apply ByteArray.ext
  simp
set_option maxHeartbeats 1000000 in
theorem filled_any (r : List UInt8) (n : Nat) (hr : r.length < 64) (hn : n ≤ 281474976710656) (w : World) :
    Calls Tryd.prog 30 #[.string ⟨r.toArray⟩, .int .i64 n] w fun e w' => e = .returned (.string ⟨(filled r n).toArray⟩) ∧ Below w.heap.size w w' := by
  have hsz : (⟨r.toArray⟩ : ByteArray).size = r.length := by simp [ByteArray.size]
  have HF : Hid (filled r n = r ++ [128] ++ List.replicate (fillN r.length) 0 ++ be8 (8 * n)) := hidM rfl
  have HE : Hid (((r.length : Int) + 9 + 64 - 1) / 64 * 64 - (r.length : Int) - 9 = ((fillN r.length : Nat) : Int)) := hidM (by unfold fillN; omega)
  have hfl : fillN r.length ≤ 64 := by unfold fillN; omega
  have HR := hidM (fun w => Tryd.strings_Repeat ⟨#[0]⟩ (fillN r.length) w (by omega) (by rw [show (⟨#[0]⟩ : ByteArray).size = 1 from rfl]; omega))
  go_enter Tryd.func30, Tryd.ntmps30
  go_wp2_with fail
  rw [HE.out]
  refine (HR.out _).mono ?_
  rintro e w1 ⟨rfl, hB1⟩
  rw [repeat0]
  have HB1 := hidM hB1
  clear hB1
  have hzs : (⟨(List.replicate (fillN r.length) (0 : UInt8)).toArray⟩ : ByteArray).size ≤ 64 := by simp [ByteArray.size]; omega
  have hbs : (⟨(be8 (8 * n)).toArray⟩ : ByteArray).size = 8 := by simp [ByteArray.size, be8_len]
  generalize List.replicate (fillN r.length) (0 : UInt8) = z at *
  have hs2 : ((⟨r.toArray⟩ : ByteArray) ++ (⟨#[128]⟩ : ByteArray)).size = r.length + 1 := by rw [ByteArray.size_append, hsz]; rfl
  have hs3 : ((⟨r.toArray⟩ : ByteArray) ++ (⟨#[128]⟩ : ByteArray) ++ (⟨z.toArray⟩ : ByteArray)).size ≤ 200 := by rw [ByteArray.size_append, hs2]; omega
  go_wp2_with fail
  refine (bits_any n hn _).mono ?_
  rintro e w2 ⟨rfl, hB2⟩
  have HB2 := hidM hB2
  clear hB2
  go_wp2
  go_ret
  refine ⟨?_, Below.next HB1.out HB2.out⟩
  rw [HF.out, show (⟨#[128]⟩ : ByteArray) = ⟨([128] : List UInt8).toArray⟩ from rfl, str_add, str_add, str_add]
  rfl
theorem y_lenS {ops : Array Oper} {S : World → Prop} {o : Oper} {a : Act} {x : Operand} {s : ByteArray} {n : Nat} (hop : o.op = .call { callee := .builtin .len, args := #[x], argTypes := #[9] }) (hw : Region.wanted o (yielded ops a.tmps) = true) (hx : a.eval x = .string s) (hn : s.size = n) : YieldsIf Tryd.prog ops S o (.int .i64 n) a :=
  .inl ⟨hw, fun w _ => by
    subst hn
    have h1 : (Builtin.len_ #[9] o.type #[a.eval x]).run Tryd.prog w = .ok (.int .i64 s.size) w := by rw [hx]; go_simp
    unfold execOp
    simp only [hop, resolve, invoke, builtin, Sem.run_bind, Sem.run_pure, Result.andThen_ok, List.map_toArray, List.map_cons, List.map_nil, h1]⟩
theorem run_alOp {o : Oper} {a : Act} {w w1 : World} {t : TypeId} {v : Value} (hop : o.op = .alloc t) (hr : (Instr.alloc t true (.tuple #[])).run Tryd.prog w = .ok v w1) :
    (execOp a.eval o).run Tryd.prog w = .ok (.value v) w1 := by
  unfold execOp; rw [hop]; simp only [Sem.run_bind, hr, Result.andThen_ok]; rfl
theorem alloc48 (w : World) : (Instr.alloc 48 true (.tuple #[])).run Tryd.prog w = .ok (.pointer (some ⟨w.heap.size, 0, none⟩)) (w.alloc (.cells (cs32 z8) 48)) := by
  have hz : (zeroValue 48).run Tryd.prog w = .ok (.agg (cs32 z8)) w := (zero_of_info (n := 8) (by kernel_rfl)).1 w
  simp only [Instr.alloc, Sem.run_bind, hz, Result.andThen_ok]
  rfl
/-- A text's last bytes. -/
theorem tail_lt (l : List UInt8) : (tailOf l).length < 64 := by unfold tailOf; rw [List.length_drop]; omega
theorem sub_hd (l : List UInt8) (m : Nat) (h : m ≤ l.length) (w : World) : (Instr.sliceAt 9 (.string ⟨l.toArray⟩) none (some (.int .i64 (m : Nat))) none).run Tryd.prog w = .ok (.string ⟨(l.take m).toArray⟩) w := by
  have e := sub_str l 0 m
  simp only [List.drop_zero, Nat.sub_zero] at e
  rw [← e]
  have h2 : (⟨l.toArray⟩ : ByteArray).size = l.length := by simp [ByteArray.size]
  rw [← h2] at h
  clear h2 e
  generalize (⟨l.toArray⟩ : ByteArray) = s at *
  go_simp
theorem sub_tl (l : List UInt8) (m : Nat) (h : m ≤ l.length) (w : World) : (Instr.sliceAt 9 (.string ⟨l.toArray⟩) (some (.int .i64 (m : Nat))) none none).run Tryd.prog w = .ok (.string ⟨(l.drop m).toArray⟩) w := by
  have e := sub_str l m l.length
  rw [List.take_of_length_le (by rw [List.length_drop]; omega)] at e
  rw [← e]
  have h2 : (⟨l.toArray⟩ : ByteArray).size = l.length := by simp [ByteArray.size]
  rw [← h2] at h ⊢
  clear h2 e
  generalize (⟨l.toArray⟩ : ByteArray) = s at *
  go_simp
set_option maxHeartbeats 1000000 in
theorem shaOf_any (l : List UInt8) (hl : l.length ≤ 281474976710656) (w : World) (hG : Glob w) :
    Calls Tryd.prog 19 #[.string ⟨l.toArray⟩] w fun e w' => e = .returned (.string ⟨(sha l).toArray⟩) ∧ Below w.heap.size w w' := by
  have hsz : (⟨l.toArray⟩ : ByteArray).size = l.length := by simp [ByteArray.size]
  have HM : Hid ((l.length : Int) - (l.length : Int) % 64 = ((64 * (l.length / 64) : Nat) : Int)) := hidM (by omega)
  have HM1 : Hid (64 * (l.length / 64) ≤ l.length) := hidM (by omega)
  have HG := hidM hG
  have HS := hidM hl
  clear hG
  go_enter Tryd.func19, Tryd.ntmps19
  go_upto_region 2 with fail
  rw [HM.out]
  generalize (l.length : Int) % 64 = u9 at *
  obtain ⟨h1, hh1⟩ : ∃ h1, h1 = overN h0s l (l.length / 64) := ⟨_, rfl⟩
  have hh0 : overN h0s (l.take (64 * (l.length / 64))) (l.length / 64) = h1 := by
    rw [hh1]
    have := overN_left h0s (l.take (64 * (l.length / 64))) (l.drop (64 * (l.length / 64))) (l.length / 64) (by rw [List.length_take]; omega) (l.length / 64) (Nat.le_refl _)
    rw [List.take_append_drop] at this
    exact this.symm
  have hL1 : h1.length = 8 := by rw [hh1]; exact overN_len h0s_len _ _
  have hU1 : U32 h1 := by rw [hh1]; exact overN_u h0s_u _ _
  have HH0 := hidM hh0
  have HH1 := hidM hh1
  have HL1 := hidM hL1
  have HU1 := hidM hU1
  clear hh0 hh1 hL1 hU1
  have hO : ∀ w, Glob w → Calls Tryd.prog 29 #[V32 h0s, .string ⟨(l.take (64 * (l.length / 64))).toArray⟩] w fun r w' => r = .returned (V32 h1) ∧ Below w.heap.size w w' := fun w hG => by
    rw [← HH0.out]
    exact overBlocks_any h0s _ (l.length / 64) h0s_len h0s_u (by rw [List.length_take]; omega) (by rw [List.length_take]; omega) w hG
  have HO := hidM hO
  clear hO
  refine wp_mono (Q := fun e a' W => e = .normal ∧ ∃ p, a' = ⟨#[.string ⟨l.toArray⟩, undef, .string ⟨#[]⟩, .int .i64 (64 * (l.length / 64) : Nat), .pointer (some ⟨p, 0, none⟩), .string ⟨l.toArray⟩, .int .i64 l.length, .string ⟨l.toArray⟩, .int .i64 l.length, .int .i64 u9, .int .i64 (64 * (l.length / 64) : Nat), V32 h0s, .string ⟨l.toArray⟩, .int .i64 (64 * (l.length / 64) : Nat), .string ⟨(l.take (64 * (l.length / 64))).toArray⟩, V32 h1, undef, undef, undef, undef, undef, undef, undef, undef, undef, undef, undef], []⟩ ∧ Ar W p 48 h1 ∧ Below w.heap.size w W ∧ w.heap.size ≤ p) ?_ ?_
  · skip
    refine z_open (S := fun w' => Below w.heap.size w w') 6 (by kernel_rfl) (by kernel_rfl) (fun _ _ _ _ _ h => by cases h.1) (L := #[false, false, false, false, false, false, false]) (by kernel_rfl) ?_
    intro Q' hns hP hN
    have hS := (show Below w.heap.size w w.drew from (Below.refl _ _).drew)
    refine z_read (i := 0) (v := V32 h0s) hns rfl (by kernel_rfl) rfl rfl (by kernel_rfl) (by kernel_rfl) hP (y_load rfl (by kernel_rfl) (by kernel_rfl) (fun w' h => loadG (HG.out.below h (Nat.le_refl _)))) rfl hS rfl (L' := #[true, false, false, false, false, false, false]) (by kernel_rfl) ?_
    refine z_pure (i := 1) (v := .string ⟨l.toArray⟩) hns rfl rfl rfl (by kernel_rfl) (by kernel_rfl) hP (y_move rfl (by kernel_rfl) (by kernel_rfl)) (fun _ => hS) rfl (L' := #[true, true, false, false, false, false, false]) (by kernel_rfl) ?_
    refine z_pure (i := 2) (v := .int .i64 (64 * (l.length / 64) : Nat)) hns rfl rfl rfl (by kernel_rfl) (by kernel_rfl) hP (y_move rfl (by kernel_rfl) (by kernel_rfl)) (fun _ => hS) rfl (L' := #[true, true, true, false, false, false, false]) (by kernel_rfl) ?_
    refine z_pure (i := 3) (v := .string ⟨(l.take (64 * (l.length / 64))).toArray⟩) hns rfl rfl rfl (by kernel_rfl) (by kernel_rfl) hP (y_slice rfl (by kernel_rfl) (by kernel_rfl) (by kernel_rfl) (by kernel_rfl) (by kernel_rfl) (sub_hd l (64 * (l.length / 64)) HM1.out)) (fun _ => hS) rfl (L' := #[true, true, true, true, false, false, false]) (by kernel_rfl) ?_
    simp only [List.setIfInBounds_toArray, List.set_cons_zero, List.set_cons_succ]
    refine z_two (i := 4) (j := 5) (by kernel_rfl) ?_ ?_
    · refine op_call (i := 4) (f := 29) (args := #[V32 h0s, .string ⟨(l.take (64 * (l.length / 64))).toArray⟩]) rfl rfl (by kernel_rfl) (enter_go rfl (by kernel_rfl) (fun w => by go_simp)) ?_
      refine (HO.out _ (HG.out.below hS (Nat.le_refl _))).mono ?_
      rintro e w1 ⟨rfl, hB1⟩
      have hS1 : Below w.heap.size w w1 := hS.trans (hB1.mono hS.size)
      refine ⟨_, rfl, fun _ => hS1, ?_⟩
      have hA : Ar (w1.alloc (.cells (cs32 z8) 48)) w1.heap.size 48 z8 := heap_alloc_last w1 _
      have hS2 : Below w.heap.size w (w1.alloc (.cells (cs32 z8) 48)) := hS1.alloc hS1.size _
      refine z_val (i := 5) (v := .pointer (some ⟨w1.heap.size, 0, none⟩)) (by kernel_rfl) rfl rfl (by kernel_rfl) (run_alOp rfl (alloc48 w1)) hS2 rfl (L' := #[true, true, true, true, true, true, false]) (by kernel_rfl) ?_
      refine z_last (by kernel_rfl) rfl rfl (by kernel_rfl) (run_storeOp rfl (by kernel_rfl) (by kernel_rfl) (store48 rfl HL1.out hA)) rfl (L' := #[true, true, true, true, true, true, true]) (by kernel_rfl) ?_
      refine z_done (by kernel_rfl) ?_ _
      refine hN _ _ ⟨rfl, w1.heap.size, ?_, hA.row h1, below_setRow hS2 hS1.size _, hS1.size⟩
      simp only [List.setIfInBounds_toArray, List.set_cons_zero, List.set_cons_succ]
    · refine op_val (i := 5) (v := .pointer (some ⟨w.heap.size, 0, none⟩)) rfl rfl (by kernel_rfl) (run_alOp rfl (alloc48 w.drew)) ?_
      have hA : Ar (w.drew.alloc (.cells (cs32 z8) 48)) w.heap.size 48 z8 := heap_alloc_last w.drew _
      have hS1 : Below w.heap.size w (w.drew.alloc (.cells (cs32 z8) 48)) := hS.alloc hS.size _
      refine ⟨fun _ => hS1, ?_⟩
      refine z_call (i := 4) (f := 29) (args := #[V32 h0s, .string ⟨(l.take (64 * (l.length / 64))).toArray⟩]) (by kernel_rfl) rfl rfl (by kernel_rfl) (enter_go rfl (by kernel_rfl) (fun w => by go_simp)) (L' := #[true, true, true, true, true, true, false]) (by kernel_rfl) ?_
      refine (HO.out _ (HG.out.below hS1 (Nat.le_refl _))).mono ?_
      rintro e w1 ⟨rfl, hB1⟩
      have hS2 : Below w.heap.size w w1 := hS1.trans (hB1.mono hS1.size)
      refine ⟨_, rfl, hS2, ?_⟩
      have hA1 := hA.below hB1 hA.lt
      refine z_last (by kernel_rfl) rfl rfl (by kernel_rfl) (run_storeOp rfl (by kernel_rfl) (by kernel_rfl) (store48 rfl HL1.out hA1)) rfl (L' := #[true, true, true, true, true, true, true]) (by kernel_rfl) ?_
      refine z_done (by kernel_rfl) ?_ _
      refine hN _ _ ⟨rfl, w.heap.size, ?_, hA1.row h1, below_setRow hS2 (Nat.le_refl _) _, Nat.le_refl _⟩
      simp only [List.setIfInBounds_toArray, List.set_cons_zero, List.set_cons_succ]
  · rintro e a' W ⟨rfl, p, rfl, hA, hBW, hp⟩
    have hfl := tail_lt l
    have hF := filled_len (tailOf l) l.length
    obtain ⟨F, hFe⟩ : ∃ F, F = filled (tailOf l) l.length := ⟨_, rfl⟩
    obtain ⟨h2, hh2⟩ : ∃ h2, h2 = overN h1 F (F.length / 64) := ⟨_, rfl⟩
    have hsha : outs h2 = sha l := by rw [hh2, hFe, HH1.out]; rfl
    rw [← hFe] at hF
    have hL2 : h2.length = 8 := by rw [hh2]; exact overN_len HL1.out _ _
    have hFm : ∀ w, Calls Tryd.prog 30 #[.string ⟨(l.drop (64 * (l.length / 64))).toArray⟩, .int .i64 l.length] w fun e w' => e = .returned (.string ⟨F.toArray⟩) ∧ Below w.heap.size w w' := fun w => by
      rw [hFe]; exact filled_any (tailOf l) l.length hfl hl w
    have hO2 : ∀ w, Glob w → Calls Tryd.prog 29 #[V32 h1, .string ⟨F.toArray⟩] w fun r w' => r = .returned (V32 h2) ∧ Below w.heap.size w w' := fun w hG => by
      rw [hh2]; exact overBlocks_any h1 F (F.length / 64) HL1.out HU1.out (by omega) (by omega) w hG
    have HA := hidM hA
    have HB := hidM hBW
    have HP := hidM hp
    have HL2 := hidM hL2
    have HFM := hidM hFm
    have HO2 := hidM hO2
    have HSH := hidM hsha
    have HGW := hidM (HG.out.below hBW (Nat.le_refl _))
    clear hA hBW hp hL2 hFm hO2 hsha hF hFe hh2 hfl HO HH0
    go_upto_region 3 with fail
    refine z_open (S := fun w' => Below W.heap.size W w') 8 (by kernel_rfl) (by kernel_rfl) (fun _ _ _ _ _ h => h) (L := #[false, false, false, false, false, false, false, false, false]) (by kernel_rfl) ?_
    intro Q' hns hP hN
    have hS := (show Below W.heap.size W W.drew from (Below.refl _ _).drew)
    refine z_read (i := 0) (v := V32 h1) hns rfl (by kernel_rfl) rfl rfl (by kernel_rfl) (by kernel_rfl) hP (y_load rfl (by kernel_rfl) (by kernel_rfl) (fun w' h => load48 HL1.out (HA.out.below h HA.out.lt))) rfl hS rfl (L' := #[true, false, false, false, false, false, false, false, false]) (by kernel_rfl) ?_
    refine z_pure (i := 1) (v := .string ⟨l.toArray⟩) hns rfl rfl rfl (by kernel_rfl) (by kernel_rfl) hP (y_move rfl (by kernel_rfl) (by kernel_rfl)) (fun _ => hS) rfl (L' := #[true, true, false, false, false, false, false, false, false]) (by kernel_rfl) ?_
    refine z_pure (i := 2) (v := .int .i64 (64 * (l.length / 64) : Nat)) hns rfl rfl rfl (by kernel_rfl) (by kernel_rfl) hP (y_move rfl (by kernel_rfl) (by kernel_rfl)) (fun _ => hS) rfl (L' := #[true, true, true, false, false, false, false, false, false]) (by kernel_rfl) ?_
    refine z_pure (i := 3) (v := .string ⟨(l.drop (64 * (l.length / 64))).toArray⟩) hns rfl rfl rfl (by kernel_rfl) (by kernel_rfl) hP (y_slice rfl (by kernel_rfl) (by kernel_rfl) (by kernel_rfl) (by kernel_rfl) (by kernel_rfl) (sub_tl l (64 * (l.length / 64)) HM1.out)) (fun _ => hS) rfl (L' := #[true, true, true, true, false, false, false, false, false]) (by kernel_rfl) ?_
    refine z_pure (i := 4) (v := .string ⟨l.toArray⟩) hns rfl rfl rfl (by kernel_rfl) (by kernel_rfl) hP (y_move rfl (by kernel_rfl) (by kernel_rfl)) (fun _ => hS) rfl (L' := #[true, true, true, true, true, false, false, false, false]) (by kernel_rfl) ?_
    refine z_pure (i := 5) (v := .int .i64 l.length) hns rfl rfl rfl (by kernel_rfl) (by kernel_rfl) hP (y_lenS rfl (by kernel_rfl) (by kernel_rfl) hsz) (fun _ => hS) rfl (L' := #[true, true, true, true, true, true, false, false, false]) (by kernel_rfl) ?_
    refine z_call (i := 6) (f := 30) (args := #[.string ⟨(l.drop (64 * (l.length / 64))).toArray⟩, .int .i64 l.length]) (by kernel_rfl) rfl rfl (by kernel_rfl) (enter_go rfl (by kernel_rfl) (fun w => by go_simp)) (L' := #[true, true, true, true, true, true, true, false, false]) (by kernel_rfl) ?_
    refine (HFM.out _).mono ?_
    rintro e w1 ⟨rfl, hB1⟩
    have hS1 : Below W.heap.size W w1 := hS.trans (hB1.mono hS.size)
    refine ⟨_, rfl, hS1, ?_⟩
    simp only [List.setIfInBounds_toArray, List.set_cons_zero, List.set_cons_succ]
    refine z_call (i := 7) (f := 29) (args := #[V32 h1, .string ⟨F.toArray⟩]) (by kernel_rfl) rfl rfl (by kernel_rfl) (enter_go rfl (by kernel_rfl) (fun w => by go_simp)) (L' := #[true, true, true, true, true, true, true, true, false]) (by kernel_rfl) ?_
    refine (HO2.out _ (HGW.out.below hS1 (Nat.le_refl _))).mono ?_
    rintro e w2 ⟨rfl, hB2⟩
    have hS2 : Below W.heap.size W w2 := hS1.trans (hB2.mono hS1.size)
    refine ⟨_, rfl, hS2, ?_⟩
    refine z_last (by kernel_rfl) rfl rfl (by kernel_rfl) (run_storeOp rfl (by kernel_rfl) (by kernel_rfl) (store48 HL1.out HL2.out (HA.out.below hS2 HA.out.lt))) rfl (L' := #[true, true, true, true, true, true, true, true, true]) (by kernel_rfl) ?_
    try simp only [List.setIfInBounds_toArray, List.set_cons_zero, List.set_cons_succ]
    refine z_done (by kernel_rfl) ?_ _
    refine hN _ _ ?_
    clear hP hN hns
    have hA3 : Ar (w2.setRow p (cs32 h2)) p 48 h2 := (HA.out.below hS2 HA.out.lt).row _
    have hB3 : Below w.heap.size w (w2.setRow p (cs32 h2)) := below_setRow (HB.out.trans (hS2.mono HB.out.size)) HP.out _
    have HA3 := hidM hA3
    have HB3 := hidM hB3
    clear hA3 hB3 hS hS1 hS2 hB1 hB2
    generalize w2.setRow p (cs32 h2) = w3 at *
    go_upto_region 4 with fail
    refine wp_region_lit ?_
    refine wp_y (v := V32 h2) rfl rfl (y_load rfl (by kernel_rfl) (by kernel_rfl) (fun w' h => by subst h; exact load48 HL2.out HA3.out)) rfl ?_
    refine wp_call (f := 31) (args := #[V32 h2]) (by kernel_rfl) (fun w => by go_simp) ?_
    refine (bytes_any h2 HL2.out _).mono ?_
    rintro e w4 ⟨v4, rfl, hs4, hB4⟩
    refine ⟨_, rfl, ?_⟩
    dsimp only [Act.put]
    have hcv := conv_sl hs4
    have HB4 := hidM hB4
    clear hB4 hs4
    simp only [List.setIfInBounds_toArray, List.set_cons_zero, List.set_cons_succ]
    go_wp2
    go_ret
    refine ⟨?_, Below.next HB3.out HB4.out⟩
    rw [← HSH.out]; rfl
end Go.Proofs.YtcjhimakbopipaaDoor
