/- Tags: a key masked, a key as a block, and Tag. -/
import Derived.Test.YtcjhimakbopipaaDoorMSum
namespace Go.Proofs.YtcjhimakbopipaaDoor
open Go Go.RowKit

def kob0 (k : List UInt8) : List UInt8 := if 64 < k.length then sha k else k
/-- A key as a block. -/
def kob (k : List UInt8) : List UInt8 := kob0 k ++ List.replicate (64 - (kob0 k).length) 0
theorem kob0_len (k : List UInt8) : (kob0 k).length ≤ 64 := by
  unfold kob0; split
  · rw [sha_len]; decide
  · omega
theorem kob_len (k : List UInt8) : (kob k).length = 64 := by
  have := kob0_len k
  unfold kob; rw [List.length_append, List.length_replicate]; omega
def msk (x : UInt8) (l : List UInt8) : List UInt8 := l.map (· ^^^ x)
theorem msk_len (x : UInt8) (l : List UInt8) : (msk x l).length = l.length := by simp [msk]
def tag (k l : List UInt8) : List UInt8 := sha (msk 92 (kob k) ++ sha (msk 54 (kob k) ++ l))
theorem tag_len (k l : List UInt8) : (tag k l).length = 32 := sha_len _
theorem load5 {w : World} {g k : Nat} {c : UInt8} (h : w.cell? ⟨g, k, none⟩ = some (.int .u8 (c.toNat : Nat))) : (Instr.loadAt 5 (.pointer (some ⟨g, k, none⟩))).run Tryd.prog w = .ok (.int .u8 (c.toNat : Nat)) w := by
  generalize c.toNat = x at *
  go_simp
theorem store5c {w : World} {g k : Nat} {v : Value} (h : w.cell? ⟨g, k, none⟩ = some v) (hf : w.frozen? ⟨g, k, none⟩ = false) (c : UInt8) : (Instr.storeAt 5 (.pointer (some ⟨g, k, none⟩)) (.int .u8 (c.toNat : Nat))).run Tryd.prog w = .ok () (w.setCell ⟨g, k, none⟩ (.int .u8 (c.toNat : Nat))) := by
  generalize c.toNat = x at *
  go_simp
theorem idx25 (g n cap k : Nat) (h : k < n) (w : World) : (Instr.indexAt 25 (.slice (some ⟨g, 0, none⟩) n cap) (.int .i64 k)).run Tryd.prog w = .ok (.pointer (some ⟨g, k, none⟩)) w := by
  have h1 : (k : Int) < n := by omega
  go_simp
theorem xor5 (a b : UInt8) (w : World) : (binOp .xor 5 (.int .u8 (a.toNat : Nat)) (.int .u8 (b.toNat : Nat))).run Tryd.prog w = .ok (.int .u8 ((a ^^^ b).toNat : Nat)) w := by
  have h1 := u8_xor_nat a.toNat b.toNat a.toNat_lt b.toNat_lt
  rw [UInt8.toNat_xor]
  generalize a.toNat ^^^ b.toNat = q at *
  generalize a.toNat = p at *
  generalize b.toNat = r at *
  go_simp
theorem Rd.set {w : World} {g : Nat} {l : List UInt8} (h : Rd w g 0 l) (k : Nat) (c : UInt8) : Rd (w.setCell ⟨g, k, none⟩ (.int .u8 (c.toNat : Nat))) g 0 (l.set k c) := fun j hj => by
  rw [List.length_set] at hj
  rw [Nat.zero_add]
  have hj' := h j hj
  rw [Nat.zero_add] at hj'
  by_cases e : k = j
  · subst e
    rw [World.cell?_setCell_same _ _ _ hj']
    simp [at8, List.getD, hj]
  · rw [World.cell?_setCell_other _ _ _ _ (by intro e'; cases e'; exact e rfl), hj']
    simp [at8, List.getD, e]
theorem set_midM (x : UInt8) (l : List UInt8) (k : Nat) (hk : k < l.length) : (msk x (l.take k) ++ l.drop k).set k (l.getD k 0 ^^^ x) = msk x (l.take (k + 1)) ++ l.drop (k + 1) := by
  have h1 := set_mid8 l (msk x l) k (by rw [msk_len]) (by rw [msk_len]; exact hk)
  have e1 : (msk x l).getD k 0 = l.getD k 0 ^^^ x := by simp [msk, List.getD, hk]
  have e2 : ∀ j, (msk x l).take j = msk x (l.take j) := fun j => by simp [msk, List.map_take]
  rw [e1, e2, e2] at h1
  exact h1
theorem conv_new (w : World) (l : List UInt8) (hl : l.length = 64) : ∃ w' cap, (convert 9 25 (.string ⟨l.toArray⟩)).run Tryd.prog w = .ok (.slice (some ⟨w.heap.size, 0, none⟩) 64 cap) w' ∧ 64 ≤ cap ∧ Rd w' w.heap.size 0 l ∧ (∀ k, k < 64 → w'.frozen? ⟨w.heap.size, k, none⟩ = false) ∧ Below w.heap.size w w' := by
  have hsz : (⟨l.toArray⟩ : ByteArray).size = 64 := by simp [ByteArray.size, hl]
  have h := run_bytes_of_string (P := Tryd.prog) w 9 25 5 ⟨l.toArray⟩ Tryd.underlying9 Tryd.underlying25 Tryd.underlying5
  rw [hsz] at h
  have hcap : 64 ≤ grownCap w 64 0 5 := grownCap_ge w 64 0 _
  generalize grownCap w 64 0 5 = cap at *
  refine ⟨_, cap, h, hcap, fun k hk => ?_, fun k hk => ?_, ((Below.refl w.heap.size w).drew).alloc (Nat.le_refl _) _⟩
  · rw [Nat.zero_add]
    show (w.drew.alloc _).cell? ⟨w.drew.heap.size, k, none⟩ = _
    have hk' : k < (⟨l.toArray⟩ : ByteArray).data.size := by simpa using hk
    rw [World.cell?_alloc_mark, bytesRow_at _ cap k hk']
    simp [at8, List.getD, hk]
  · show (w.drew.alloc _).frozen? ⟨w.drew.heap.size, k, none⟩ = _
    have : (bytesRow (⟨l.toArray⟩ : ByteArray) cap).size = cap := by
      simp [bytesRow]; omega
    rw [World.frozen?_alloc_mark, this]
    simp; omega
set_option maxHeartbeats 1000000 in
theorem masked_any (l : List UInt8) (x : UInt8) (hl : l.length = 64) (w : World) :
    Calls Tryd.prog 26 #[.string ⟨l.toArray⟩, .int .u8 (x.toNat : Nat)] w fun e w' => e = .returned (.string ⟨(msk x l).toArray⟩) ∧ Below w.heap.size w w' := by
  obtain ⟨w1, cap, hcv, hcap, hR, hF, hB⟩ := conv_new w l hl
  have HR1 := hidM hR
  have HF1 := hidM hF
  have HB1 := hidM hB
  have HL := hidM hl
  clear hR hF hB
  go_enter Tryd.func26, Tryd.ntmps26
  go_wp2_with fail
  generalize hb : w.heap.size = g at *
  clear hcv
  go_loopw [11, 6] (fun y _ wr => ∃ k : Nat, k ≤ 64 ∧ y = .int .i64 k ∧ Rd wr g 0 (msk x (l.take k) ++ l.drop k) ∧ (∀ j, j < 64 → wr.frozen? ⟨g, j, none⟩ = false) ∧ Below g w wr) (fun y _ _ => 64 - (intOf y).toNat)
  case atStart => exact ⟨0, Nat.zero_le _, rfl, HR1.out, HF1.out, HB1.out⟩
  case round =>
    clear HR1 HF1 HB1
    obtain ⟨k, hk, rfl, hR, hF, hBr⟩ := hrel
    have HB := hidM hBr
    have HFA := hidM hF
    clear hBr
    by_cases hlt : k < 64
    · have hlt' : (k : Int) < 64 := by omega
      have hwk : IntKind.i64.wrap ((k : Int) + 1) = ((k + 1 : Nat) : Int) := by rw [IntWalk.i64_in _ ⟨by omega, by omega⟩]; omega
      have hset := set_midM x l k (by omega)
      have hgk : (msk x (l.take k) ++ l.drop k).getD k 0 = l.getD k 0 := by
        simp only [List.getD]
        rw [List.getElem?_append_right (by rw [msk_len, List.length_take]; omega), List.getElem?_drop, msk_len, List.length_take]
        congr 2; omega
      have hln : (msk x (l.take k) ++ l.drop k).length = 64 := by rw [List.length_append, msk_len, List.length_take, List.length_drop]; omega
      rw [← hgk] at hset
      generalize msk x (l.take k) ++ l.drop k = st at *
      have hc := hR k (by omega)
      rw [Nat.zero_add] at hc
      have HST := hidM hset
      have HC : Hid (wr.cell? ⟨g, k, none⟩ = some (.int .u8 ((st.getD k 0).toNat : Nat))) := hidM hc
      have HF := hidM (hF k hlt)
      have HRR := hidM hR
      have HK := hidM hlt
      clear hc hR hF hset hgk hln
      go_upto_region 5 with fail
      refine wp_region_lit ?_
      refine wp_y (v := .slice (some ⟨g, 0, none⟩) 64 cap) rfl rfl (y_move rfl (by kernel_rfl) (by kernel_rfl)) rfl ?_
      refine wp_y (v := .int .i64 k) rfl rfl (y_move rfl (by kernel_rfl) (by kernel_rfl)) rfl ?_
      refine wp_y (v := .pointer (some ⟨g, k, none⟩)) rfl rfl (y_index rfl (by kernel_rfl) (by kernel_rfl) (by kernel_rfl) (idx25 g 64 cap k HK.out)) rfl ?_
      refine wp_y (v := .int .u8 ((st.getD k 0).toNat : Nat)) rfl rfl (y_load rfl (by kernel_rfl) (by kernel_rfl) (fun w' h => by subst h; exact load5 HC.out)) rfl ?_
      refine wp_y (v := .int .u8 (x.toNat : Nat)) rfl rfl (y_move rfl (by kernel_rfl) (by kernel_rfl)) rfl ?_
      refine wp_y (v := .int .u8 ((st.getD k 0 ^^^ x).toNat : Nat)) rfl rfl (y_bin rfl (by kernel_rfl) (by kernel_rfl) (by kernel_rfl) (xor5 _ _)) rfl ?_
      refine wp_y (v := .pointer (some ⟨g, k, none⟩)) rfl rfl (y_index rfl (by kernel_rfl) (by kernel_rfl) (by kernel_rfl) (idx25 g 64 cap k HK.out)) rfl ?_
      refine wp_do rfl rfl (run_storeOp rfl (by kernel_rfl) (by kernel_rfl) (store5c HC.out HF.out (st.getD k 0 ^^^ x))) ?_
      try simp only [List.setIfInBounds_toArray, List.set_cons_zero, List.set_cons_succ]
      refine wp_end ?_
      have hR2 : Rd (wr.setCell ⟨g, k, none⟩ (.int .u8 ((st.getD k 0 ^^^ x).toNat : Nat))) g 0 (msk x (l.take (k + 1)) ++ l.drop (k + 1)) := by rw [← HST.out]; exact HRR.out.set k _
      have hF2 : ∀ j, j < 64 → (wr.setCell ⟨g, k, none⟩ (.int .u8 ((st.getD k 0 ^^^ x).toNat : Nat))).frozen? ⟨g, j, none⟩ = false := fun j hj => by rw [World.frozen?_setCell]; exact HFA.out j hj
      have hB2 : Below g w (wr.setCell ⟨g, k, none⟩ (.int .u8 ((st.getD k 0 ^^^ x).toNat : Nat))) := HB.out.setCell (Nat.le_refl _) _
      have HR5 := hidM hR2
      have HF5 := hidM hF2
      have HB5 := hidM hB2
      clear hR2 hF2 hB2 HC HF HRR HFA
      generalize wr.setCell ⟨g, k, none⟩ (.int .u8 ((st.getD k 0 ^^^ x).toNat : Nat)) = w2 at *
      go_wp2
      exact ⟨⟨k + 1, by omega, rfl, HR5.out, HF5.out, HB5.out⟩, by simp [intOf]; omega⟩
    · have hk64 : k = 64 := by omega
      subst hk64
      rw [List.take_of_length_le (by omega), List.drop_of_length_le (by omega), List.append_nil] at hR
      have hcv := conv_sl (Sl.mk (cap := cap) hR (by rw [msk_len]; omega))
      rw [msk_len, hl] at hcv
      clear hR hF HFA
      go_wp2
      go_ret
      exact ⟨rfl, by first | exact HB.out | (rw [hb]; exact HB.out)⟩
set_option maxHeartbeats 1000000 in
theorem keyOfBlock_any (k : List UInt8) (hk : k.length ≤ 140737488355328) (w : World) (hG : Glob w) :
    Calls Tryd.prog 25 #[.string ⟨k.toArray⟩] w fun e w' => e = .returned (.string ⟨(kob k).toArray⟩) ∧ Below w.heap.size w w' := by
  have hsz : (⟨k.toArray⟩ : ByteArray).size = k.length := by simp [ByteArray.size]
  by_cases h : 64 < k.length
  · have h' : (64 : Int) < k.length := by omega
    have hp := pts1 w ⟨k.toArray⟩ 9
    have hB0 := (Below.refl w.heap.size w).alloc (Nat.le_refl _) (.cells #[.string ⟨k.toArray⟩] 9)
    have hs := sum_any _ _ _ (hG.below hB0 (Nat.le_refl _)) hp (by simp) (by rw [allOf_one]; exact hk)
    rw [allOf_one] at hs
    have hko : kob k = sha k ++ List.replicate 32 0 := by unfold kob kob0; rw [if_pos h, sha_len]
    have hsl := sha_len k
    have hsz2 : (⟨(sha k).toArray⟩ : ByteArray).size = 32 := by simp [ByteArray.size, hsl]
    have HK := hidM hko
    have HB0 := hidM hB0
    have HS := hidM hs
    have HR := hidM (fun w => Tryd.strings_Repeat ⟨#[0]⟩ 32 w (by omega) (by decide))
    clear hp hB0 hs hG hko
    generalize sha k = s at *
    go_enter Tryd.func25, Tryd.ntmps25
    go_wp2_with fail
    refine HS.out.mono ?_
    rintro e w1 ⟨rfl, hB1⟩
    have HB1 := hidM (Below.next HB0.out hB1)
    clear hB1
    go_wp2_with fail
    refine (HR.out _).mono ?_
    rintro e w2 ⟨rfl, hB2⟩
    have HB2 := hidM (Below.next HB1.out hB2)
    clear hB2
    rw [repeat0]
    have hz : (⟨(List.replicate 32 (0 : UInt8)).toArray⟩ : ByteArray).size = 32 := by simp [ByteArray.size]
    generalize List.replicate 32 (0 : UInt8) = z at *
    go_wp2
    go_ret
    refine ⟨?_, HB2.out⟩
    rw [HK.out]
    first | rfl | (rw [str_add]; rfl)
  · have h' : ¬ (64 : Int) < k.length := by omega
    have hko : kob k = k ++ List.replicate (64 - k.length) 0 := by unfold kob kob0; rw [if_neg h]
    have he : (64 : Int) - k.length = ((64 - k.length : Nat) : Int) := by omega
    have HE := hidM he
    have HK := hidM hko
    have HR := hidM (fun w => Tryd.strings_Repeat ⟨#[0]⟩ (64 - k.length) w (by omega) (by rw [show (⟨#[0]⟩ : ByteArray).size = 1 from rfl]; omega))
    clear hko hG he
    go_enter Tryd.func25, Tryd.ntmps25
    go_wp2_with fail
    rw [HE.out]
    refine (HR.out _).mono ?_
    rintro e w2 ⟨rfl, hB2⟩
    have HB2 := hidM hB2
    clear hB2
    rw [repeat0]
    have hz : (⟨(List.replicate (64 - k.length) (0 : UInt8)).toArray⟩ : ByteArray).size ≤ 64 := by simp [ByteArray.size]
    generalize List.replicate (64 - k.length) (0 : UInt8) = z at *
    go_wp2
    go_ret
    refine ⟨?_, HB2.out⟩
    rw [HK.out]
    first | rfl | (rw [str_add]; rfl)
set_option maxHeartbeats 1000000 in
theorem tag_any (k : List UInt8) (v : Value) (xs : List ByteArray) (hk : k.length ≤ 140737488355328) (w : World) (hG : Glob w) (hp : Pts w v xs) (hn : xs.length ≤ 140737488355328) (hlen : (allOf xs).length + 64 ≤ 140737488355328) :
    Calls Tryd.prog 13 #[.string ⟨k.toArray⟩, v] w fun e w' => e = .returned (.string ⟨(tag k (allOf xs)).toArray⟩) ∧ Below w.heap.size w w' := by
  have HKB := hidM (keyOfBlock_any k hk w hG)
  have hkl := kob_len k
  have HT : Hid (tag k (allOf xs) = sha (msk 92 (kob k) ++ sha (msk 54 (kob k) ++ allOf xs))) := hidM rfl
  have HG := hidM hG
  have HP := hidM hp
  have HN := hidM hn
  have HL := hidM hlen
  clear hG hp hn hlen hk
  generalize kob k = kb at *
  have hm1 := msk_len 54 kb
  have hm2 := msk_len 92 kb
  have HM1 := hidM (fun w => masked_any kb 54 hkl w)
  have HM2 := hidM (fun w => masked_any kb 92 hkl w)
  generalize msk 54 kb = m1 at *
  generalize msk 92 kb = m2 at *
  go_enter Tryd.func13, Tryd.ntmps13
  go_wp2_with fail
  refine HKB.out.mono ?_
  rintro e w1 ⟨rfl, hB1⟩
  have HB1 := hidM hB1
  clear hB1
  go_wp2_with fail
  refine (HM1.out _).mono ?_
  rintro e w2 ⟨rfl, hB2⟩
  have HB2 := hidM (Below.next HB1.out hB2)
  clear hB2
  go_wp2_with fail
  refine (join_any v xs w2 (HP.out.below HB2.out (Nat.le_refl _)) HN.out (by have := HL.out; omega)).mono ?_
  rintro e w3 ⟨rfl, hB3⟩
  have HB3 := hidM (Below.next HB2.out hB3)
  clear hB3
  obtain ⟨al, hal⟩ : ∃ al, al = allOf xs := ⟨_, rfl⟩
  have HAL := hidM hal
  rw [← hal] at HT HL ⊢
  clear hal
  have hp4 := pts2 w3 ⟨m1.toArray⟩ ⟨al.toArray⟩ 9
  have hB4 := HB3.out.alloc HB3.out.size (.cells #[.string ⟨m1.toArray⟩, .string ⟨al.toArray⟩] 9)
  have hs4 := sum_any _ _ _ (HG.out.below hB4 (Nat.le_refl _)) hp4 (by simp) (by rw [allOf_two, List.length_append]; have := HL.out; omega)
  rw [allOf_two] at hs4
  have hl4 := sha_len (m1 ++ al)
  generalize sha (m1 ++ al) = s4 at *
  have HB4 := hidM hB4
  have HS4 := hidM hs4
  clear hp4 hB4 hs4
  go_wp2_with fail
  refine HS4.out.mono ?_
  rintro e w5 ⟨rfl, hB5⟩
  have HB5 := hidM (Below.next HB4.out hB5)
  clear hB5
  go_wp2_with fail
  refine (HM2.out _).mono ?_
  rintro e w6 ⟨rfl, hB6⟩
  have HB6 := hidM (Below.next HB5.out hB6)
  clear hB6
  have hp7 := pts2 w6 ⟨m2.toArray⟩ ⟨s4.toArray⟩ 9
  have hB7 := HB6.out.alloc HB6.out.size (.cells #[.string ⟨m2.toArray⟩, .string ⟨s4.toArray⟩] 9)
  have hs7 := sum_any _ _ _ (HG.out.below hB7 (Nat.le_refl _)) hp7 (by simp) (by rw [allOf_two, List.length_append]; omega)
  rw [allOf_two] at hs7
  have HB7 := hidM hB7
  have HS7 := hidM hs7
  clear hp7 hB7 hs7
  go_wp2_with fail
  refine HS7.out.mono ?_
  rintro e w8 ⟨rfl, hB8⟩
  have HB8 := hidM (Below.next HB7.out hB8)
  clear hB8
  go_wp2
  go_ret
  exact ⟨by rw [← HAL.out, HT.out]; rfl, HB8.out⟩
end Go.Proofs.YtcjhimakbopipaaDoor
