/- num's Show and Parse, as the laws use them. -/
import Derived.Test.YtehpnhmghfpjpaaDoorParse
import Derived.Test.YtehpnhmghfpjpaaDoorBackMath
import Derived.Test.YtehpnhmghfpjpaaDoorFrame
import Derived.ShutString
namespace Go.Proofs.YtehpnhmghfpjpaaDoor
open Go.RowKit

theorem tab_later {B : Nat} {w0 w : World} {nm : String} {k : IntKind} {zs : List Int} (h : Lib.TabBelow Tryd.prog B w0 nm k zs) (hb : Below B w0 w) (hB : B ≤ w.heap.size) : Lib.TabBelow Tryd.prog w.heap.size w nm k zs :=
  fun w' hw => h w' (hb.trans (hw.mono hB))

theorem show_b {w0 w : World} (a : Int) (htab : Lib.TabBelow Tryd.prog w0.heap.size w0 "internal/strconv.uint64pow10" .u64 Lib.pow10Tab) (hb : Below w0.heap.size w0 w) :
    Calls Tryd.prog 26 #[.int .i64 a] w fun e w' => e = .returned (.string ⟨(showL a).toArray⟩) ∧ Below w0.heap.size w0 w' :=
  (show_any a w (tab_later htab hb hb.size)).mono (by rintro e w' ⟨rfl, h⟩; exact ⟨rfl, hb.trans (h.mono hb.size)⟩)

theorem shown_b {w0 w : World} (htab : Lib.TabBelow Tryd.prog w0.heap.size w0 "internal/strconv.uint64pow10" .u64 Lib.pow10Tab) (hb : Below w0.heap.size w0 w) :
    Calls Tryd.prog 9 #[] w fun e w' => e = .returned (.bool true) ∧ Below w0.heap.size w0 w' :=
  (shown_any w (tab_later htab hb hb.size)).mono (by rintro e w' ⟨rfl, h⟩; exact ⟨rfl, hb.trans (h.mono hb.size)⟩)

theorem parse_b {w0 w : World} (s : ByteArray) (R : Int × Bool) (hR : parseL s.data.toList = R) (hs : s.size ≤ maxLen) (hb : Below w0.heap.size w0 w) :
    Calls Tryd.prog 24 #[.string s] w fun e w' => e = .returned (.tuple #[.int .i64 R.1, .bool R.2]) ∧ Below w0.heap.size w0 w' := by
  have := parse_any s w hs
  rw [hR] at this
  exact this.mono (by rintro e w' ⟨rfl, h⟩; exact ⟨rfl, hb.trans (h.mono hb.size)⟩)

theorem parse_shown {w0 w : World} (a : Int) (hb : Below w0.heap.size w0 w) :
    Calls Tryd.prog 24 #[.string ⟨(showL a).toArray⟩] w fun e w' => e = .returned (.tuple #[.int .i64 (clampI a), .bool true]) ∧ Below w0.heap.size w0 w' :=
  parse_b ⟨(showL a).toArray⟩ (clampI a, true) (parse_show a) (by rw [size_arr]; have := showL_len a; unfold maxLen; omega) hb
end Go.Proofs.YtehpnhmghfpjpaaDoor
