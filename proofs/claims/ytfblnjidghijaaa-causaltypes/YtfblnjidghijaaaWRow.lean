/- Bytes in memory: what a slice reads as, what a call owns, and how both stay. -/
import Derived.Test.YtfblnjidghijaaaChecked
import Derived.Test.YtfblnjidghijaaaWMath
import Derived.WalkKit
import Derived.WalkSpells
import Derived.WalkLawsBesides
import Derived.OwnWalk
import Derived.Room.AppendFits
import Derived.Deep.AppendSrc
import Derived.Deep.AppendLies
import Derived.Laws.IdiomStrings
import Derived.Laws.Bits64b
namespace Go.Proofs.Ytfblnjidghijaaa
open Go Go.RowKit

theorem info8 : (Try.prog.info? 5).map (fun i => (i.zero, i.size, i.bytes)) = some (some (.int .u8 0), 1, 1) := by kernel_rfl

theorem hid {p : Prop} (h : p) : Hid p := h

/-- A byte as a cell. -/
def cb (b : UInt8) : Value := .int .u8 (b.toNat : Int)
def cells8 (l : List UInt8) : List Value := l.map cb
theorem cells8_len (l : List UInt8) : (cells8 l).length = l.length := by simp [cells8]
theorem cells8_one (l : List UInt8) : ∀ u ∈ cells8 l, u.oneCell' = true := by
  intro u hu
  obtain ⟨_, _, rfl⟩ := List.mem_map.1 hu
  rfl
theorem cells8_append (a b : List UInt8) : cells8 a ++ cells8 b = cells8 (a ++ b) := by simp [cells8]
theorem cells8_str (s : ByteArray) : Lib.strCells s = cells8 s.data.toList := rfl
theorem cells8_get (l : List UInt8) (k : Nat) (h : k < l.length) : (cells8 l)[k]? = some (.int .u8 (at8 l k)) := by
  simp [cells8, at8, List.getD, h, cb]
theorem cells8_ofInt (x : Int) (h0 : 0 ≤ x) (h1 : x ≤ 255) : [Value.int .u8 x] = cells8 [UInt8.ofNat x.toNat] := by
  have : (UInt8.ofNat x.toNat).toNat = x.toNat := u8_ofNat (by omega)
  simp [cells8, cb]; omega

/-- The bytes l lie in block b from off on. -/
def Rd (w : World) (b off : Nat) (l : List UInt8) : Prop := ∀ k, k < l.length → w.cell? ⟨b, off + k, none⟩ = some (.int .u8 (at8 l k))
/-- The slice v reads as the bytes l. -/
def Sl (w : World) (v : Value) (l : List UInt8) : Prop :=
  ∃ a cap, v = .slice a l.length cap ∧ l.length ≤ cap ∧ (a = none → cap = 0) ∧ (l ≠ [] → ∃ b off, a = some ⟨b, off, none⟩ ∧ Rd w b off l)

theorem Rd.below {w w' : World} {b off : Nat} {l : List UInt8} (h : Rd w b off l) (hB : Below w.heap.size w w') : Rd w' b off l := fun k hk => by
  rw [hB.cell (p := ⟨b, off + k, none⟩) (World.block_lt_of_cell? w _ (h k hk))]; exact h k hk
theorem Sl.below {w w' : World} {v : Value} {l : List UInt8} (h : Sl w v l) (hB : Below w.heap.size w w') : Sl w' v l := by
  obtain ⟨a, cap, h1, h2, h3, h4⟩ := h
  exact ⟨a, cap, h1, h2, h3, fun hl => by obtain ⟨b, off, e, hr⟩ := h4 hl; exact ⟨b, off, e, hr.below hB⟩⟩
theorem Rd.drew {w : World} {b off : Nat} {l : List UInt8} (h : Rd w b off l) : Rd w.drew b off l := h
theorem Sl.drew {w : World} {v : Value} {l : List UInt8} (h : Sl w v l) : Sl w.drew v l := h
theorem Sl.nil (w : World) : Sl w (.slice none 0 0) [] := ⟨none, 0, rfl, Nat.le_refl _, fun _ => rfl, fun h => absurd rfl h⟩
theorem Sl.mk {w : World} {b off cap : Nat} {l : List UInt8} (h : Rd w b off l) (hc : l.length ≤ cap) : Sl w (.slice (some ⟨b, off, none⟩) l.length cap) l :=
  ⟨_, _, rfl, hc, fun h => (by cases h), fun _ => ⟨b, off, rfl, h⟩⟩

/-- What a call owns reads as its bytes. -/
theorem owns_rd {w : World} {B g n cap : Nat} {l : List UInt8} (h : w.ownsRow B 5 1 (.slice (some ⟨g, 0, none⟩) n cap) n (cells8 l)) : Rd w g 0 l := fun k hk => by
  have := h.cells (g := g) rfl k _ (cells8_get l k hk)
  rwa [Addr.add_lit] at this
theorem owns_cap {w : World} {B g n cap : Nat} {xs : List Value} (h : w.ownsRow B 5 1 (.slice (some ⟨g, 0, none⟩) n cap) n xs) : n ≤ cap ∧ cap ≤ maxLen ∧ B ≤ g ∧ g < w.heap.size := by
  have hl := h.lt g rfl
  rcases h.2 with ⟨h, _⟩ | ⟨g', cap', cur, hv, hb, hg, h1, h2, _⟩
  · cases h
  · cases hv
    exact ⟨h1, h2, hl⟩
theorem owns_sl {w : World} {B g cap : Nat} {l : List UInt8} (h : w.ownsRow B 5 1 (.slice (some ⟨g, 0, none⟩) l.length cap) l.length (cells8 l)) : Sl w (.slice (some ⟨g, 0, none⟩) l.length cap) l :=
  Sl.mk (owns_rd h) (owns_cap h).1

/-- What a call owns stays, as long as nothing is written ahead of a mark behind it. -/
theorem owns_below {w w' : World} {B C : Nat} {e : TypeId} {size : Nat} {v : Value} {n : Nat} {xs : List Value} (h : w.ownsRow B e size v n xs) (hB : Below C w w') (hC : ∀ k, v.ownBlock = some k → k < C) : w'.ownsRow B e size v n xs := by
  obtain ⟨h1, h2⟩ := h
  refine ⟨h1, ?_⟩
  rcases h2 with h2 | ⟨g, cap, cur, rfl, hb, hg, r⟩
  · exact .inl h2
  · exact .inr ⟨g, cap, cur, rfl, hb, by rw [hB.block g (hC g rfl)]; exact hg, r⟩
theorem owns_base {w : World} {B B' : Nat} {e : TypeId} {size : Nat} {v : Value} {n : Nat} {xs : List Value} (h : w.ownsRow B e size v n xs) (hB : B' ≤ B) : w.ownsRow B' e size v n xs := by
  obtain ⟨h1, h2⟩ := h
  refine ⟨h1, ?_⟩
  rcases h2 with h2 | ⟨g, cap, cur, hv, hb, r⟩
  · exact .inl h2
  · exact .inr ⟨g, cap, cur, hv, by omega, r⟩

end Go.Proofs.Ytfblnjidghijaaa
