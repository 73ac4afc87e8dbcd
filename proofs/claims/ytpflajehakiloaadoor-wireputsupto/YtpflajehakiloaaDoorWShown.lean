/- The walk of the laws' own 'shown': some of the document's examples. -/
import Derived.Test.YtpflajehakiloaaDoorWTakeKT
import Derived.Test.YtpflajehakiloaaDoorWCrc
import Derived.Lib.SlBytesConst
namespace Go.Proofs.YtpflajehakiloaaDoor
open Go Go.RowKit

theorem vb64 : vb (zig 64) = [128, 1] := by
  have e : zig 64 = 128 := rfl
  rw [e, vb_ge (by decide), vb_lt (by decide)]; rfl
theorem tInt64 : tInt [128, 1] 0 = some (64, 2) := by
  have h := takeI_put (n := 64) (by decide) (by decide) []
  rw [vb64] at h
  unfold tInt
  rw [if_pos (by decide)]; exact h
theorem tKT_a : tKT [97, 0, 1] 0 = some ([97], 3) := by
  have h := takeKT_put [97] []
  unfold tKT
  rw [if_pos (by decide)]; exact h
theorem lit_rd (w : World) (cs : Array Value) (fr : Nat × Nat) (l : List UInt8) (h : cs.toList = cells8 l) : Rd (w.alloc (.cells cs 5 fr)) w.heap.size 0 l := fun k hk => by
  rw [Nat.zero_add, World.cell?_alloc_mark, ← Array.getElem?_toList, h, cells8_get l k hk]
theorem lit_sl (w : World) (cs : Array Value) (fr : Nat × Nat) (l : List UInt8) (h : cs.toList = cells8 l) : Sl (w.alloc (.cells cs 5 fr)) (.slice (some ⟨w.heap.size, 0, none⟩) l.length l.length) l := Sl.mk (lit_rd w cs fr l h) (Nat.le_refl _)
theorem sl_alloc {w : World} {v : Value} {l : List UInt8} (h : Sl w v l) (o : Obj) : Sl (w.alloc o) v l := h.below ((Below.refl _ _).alloc (Nat.le_refl _) o)
theorem tab_alloc {w : World} (h : Tab w) (o : Obj) : Tab (w.alloc o) := h.below ((Below.refl _ _).alloc (Nat.le_refl _) o)
theorem parts2 (w : World) (a b : List UInt8) (ca cc : Array Value) (fa fb : Nat × Nat) (ha : ca.toList = cells8 a) (hb : cc.toList = cells8 b) :
    Parts (((w.alloc (.cells ca 5 fa)).alloc (.cells cc 5 fb)).alloc (.cells #[.slice (some ⟨w.heap.size, 0, none⟩) a.length a.length, .slice (some ⟨w.heap.size + 1, 0, none⟩) b.length b.length] 22)) (some ⟨w.heap.size + 1 + 1, 0, none⟩) [a, b] := by
  intro k hk
  have h0 := sl_alloc (sl_alloc (lit_sl w ca fa a ha) (.cells cc 5 fb)) (.cells #[.slice (some ⟨w.heap.size, 0, none⟩) a.length a.length, .slice (some ⟨w.heap.size + 1, 0, none⟩) b.length b.length] 22)
  have h1 := sl_alloc (lit_sl (w.alloc (.cells ca 5 fa)) cc fb b hb) (.cells #[.slice (some ⟨w.heap.size, 0, none⟩) a.length a.length, .slice (some ⟨w.heap.size + 1, 0, none⟩) b.length b.length] 22)
  have hc := fun j => World.cell?_alloc_mark ((w.alloc (.cells ca 5 fa)).alloc (.cells cc 5 fb)) #[.slice (some ⟨w.heap.size, 0, none⟩) a.length a.length, .slice (some ⟨w.heap.size + 1, 0, none⟩) b.length b.length] 22 (0, 0) j
  simp only [World.size_alloc] at h1 hc
  match k, hk with
  | 0, _ => exact ⟨w.heap.size + 1 + 1, 0, _, _, rfl, hc 0, h0⟩
  | 1, _ => exact ⟨w.heap.size + 1 + 1, 0, _, _, rfl, hc 1, h1⟩
theorem crc19 : crcOf [49, 50, 51, 52, 53, 54, 55, 56, 57] = 3421780262 := by decide +kernel

set_option maxRecDepth 100000 in
set_option maxHeartbeats 800000 in
theorem shown_any (w : World) (ht : Tab w) :
    Calls Tryd.prog 9 #[] w fun e w' => e = .returned (.bool true) ∧ Below w.heap.size w w' := by
  have HT := hid ht
  clear ht
  go_enter Tryd.func9, Tryd.ntmps9
  go_wp2_with fail
  refine (putInt_any none [] 0 64 w (Sl.nil w) (by decide) (by decide) (by decide)).mono ?_
  rintro e w1 ⟨rfl, ho1, hB1⟩
  rw [vb64] at ho1 ⊢
  have HO1 := hid ho1
  clear ho1
  go_wp2_with fail
  refine (takeInt_any (some ⟨w.heap.size, 0, none⟩) [128, 1] 10 0 w1 (owns_sl HO1.out) (by decide)).mono ?_
  rintro e w1 ⟨rfl, rfl⟩
  rw [tInt64]
  unfold outI tri
  have kc := fun (w : World) (C : Array Value) (n c : Nat) => Lib.run_convert_bytes_const (P := Tryd.prog) w 22 5 C n c Tryd.underlying22 Tryd.underlying5
  go_wp2_with fail
  refine (takeKeyText_any (some ⟨w1.heap.size, 0, none⟩) [97, 0, 1] 3 0 _ (lit_sl w1 _ (3, 4) [97, 0, 1] rfl) (by decide) (Nat.le_trans (kcnt_le _ _ (Nat.le_refl _)) (by decide))).mono ?_
  rintro e w2 ⟨rfl, hB2⟩
  rw [tKT_a]
  unfold outS triS
  have hB12 : Below w1.heap.size w1 w2 := ((Below.refl _ _).alloc (Nat.le_refl _) _).trans (hB2.mono (by simp))
  have hcv := conv_sl ((owns_sl HO1.out).below hB12)
  have hcv' : (convert 22 9 (.slice (some ⟨w.heap.size, 0, none⟩) 2 10)).run Tryd.prog w2 = .ok (.string ⟨#[128, 1]⟩) w2 := hcv
  clear hcv
  have kc2 := fun (w : World) (o : Obj) (C : Array Value) (n c : Nat) => Lib.run_convert_bytes_const (P := Tryd.prog) (w.alloc o) 22 5 C n c Tryd.underlying22 Tryd.underlying5
  simp only [World.size_alloc] at kc2
  go_wp2_with fail
  refine (crc_any _ 2 2 [[49, 50, 51, 52], [53, 54, 55, 56, 57]] _ (parts2 w2 [49, 50, 51, 52] [53, 54, 55, 56, 57] _ _ (4, 5) (5, 6) rfl rfl) rfl (by decide) (by decide) (tab_alloc (tab_alloc (tab_alloc (HT.out.below (hB1.trans (hB12.mono hB1.size))) _) _) _)).mono ?_
  rintro e w3 ⟨rfl, rfl⟩
  have e19 : ([[49, 50, 51, 52], [53, 54, 55, 56, 57]] : List (List UInt8)).flatten = [49, 50, 51, 52, 53, 54, 55, 56, 57] := rfl
  rw [e19, crc19]
  go_wp2
  go_ret
  refine ⟨rfl, ?_⟩
  have hb := hB1.trans (hB12.mono hB1.size)
  have hs := hb.size
  exact ((hb.alloc (by omega) _).alloc (by simp; omega) _).alloc (by simp; omega) _
end Go.Proofs.YtpflajehakiloaaDoor
