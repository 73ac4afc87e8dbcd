/- The plain mathematics of layer 5 (mac): SHA-256 over numbers, no Go in sight. -/
import Derived.Test.YtcjhimakbopipaaDoorWMath
namespace Go.Proofs.YtcjhimakbopipaaDoor
open Go Go.RowKit

/-- Turned to the right by n bits. -/
def rr (n x : Nat) : Nat := (x * 2 ^ (32 - n) % 4294967296) ||| (x / 2 ^ n)
def sa0 (x : Nat) : Nat := rr 2 x ^^^ rr 13 x ^^^ rr 22 x
def sa1 (x : Nat) : Nat := rr 6 x ^^^ rr 11 x ^^^ rr 25 x
def sg0 (x : Nat) : Nat := rr 7 x ^^^ rr 18 x ^^^ (x / 8)
def sg1 (x : Nat) : Nat := rr 17 x ^^^ rr 19 x ^^^ (x / 1024)
def nt (x : Nat) : Nat := 4294967295 - x
def cho (e f g : Nat) : Nat := (e &&& f) ^^^ (nt e &&& g)
def maj (a b c : Nat) : Nat := (a &&& b) ^^^ (a &&& c) ^^^ (b &&& c)
/-- A sum of 32 bits. -/
def pl (a b : Nat) : Nat := (a + b) % 4294967296
theorem pl_lt (a b : Nat) : pl a b < 4294967296 := Nat.mod_lt _ (by decide)
theorem pl_assoc (a b c : Nat) : pl (pl a b) c = pl a (pl b c) := by unfold pl; omega
theorem pl_comm (a b : Nat) : pl a b = pl b a := by unfold pl; omega
theorem xor_lt {a b : Nat} (ha : a < 4294967296) (hb : b < 4294967296) : a ^^^ b < 4294967296 := Nat.xor_lt_two_pow (n := 32) (by omega) (by omega)
theorem or_lt {a b : Nat} (ha : a < 4294967296) (hb : b < 4294967296) : a ||| b < 4294967296 := Nat.or_lt_two_pow (n := 32) (by omega) (by omega)
theorem and_lt {a b : Nat} (hb : b < 4294967296) : a &&& b < 4294967296 := Nat.and_lt_two_pow (n := 32) _ (by omega)
theorem rr_lt {n x : Nat} (hx : x < 4294967296) : rr n x < 4294967296 :=
  or_lt (Nat.mod_lt _ (by decide)) (Nat.lt_of_le_of_lt (Nat.div_le_self _ _) hx)
theorem sa0_lt {x : Nat} (hx : x < 4294967296) : sa0 x < 4294967296 := xor_lt (xor_lt (rr_lt hx) (rr_lt hx)) (rr_lt hx)
theorem sa1_lt {x : Nat} (hx : x < 4294967296) : sa1 x < 4294967296 := xor_lt (xor_lt (rr_lt hx) (rr_lt hx)) (rr_lt hx)
theorem sg0_lt {x : Nat} (hx : x < 4294967296) : sg0 x < 4294967296 := xor_lt (xor_lt (rr_lt hx) (rr_lt hx)) (by omega)
theorem sg1_lt {x : Nat} (hx : x < 4294967296) : sg1 x < 4294967296 := xor_lt (xor_lt (rr_lt hx) (rr_lt hx)) (by omega)
theorem nt_lt (x : Nat) : nt x < 4294967296 := by unfold nt; omega
theorem cho_lt {e f g : Nat} (hf : f < 4294967296) (hg : g < 4294967296) : cho e f g < 4294967296 := xor_lt (and_lt hf) (and_lt hg)
theorem maj_lt {a b c : Nat} (hb : b < 4294967296) (hc : c < 4294967296) : maj a b c < 4294967296 := xor_lt (xor_lt (and_lt hb) (and_lt hc)) (and_lt hc)

/-- Eight numbers, or sixty-four. -/
def U32 (l : List Nat) : Prop := ∀ x ∈ l, x < 4294967296
theorem U32.get {l : List Nat} (h : U32 l) (k : Nat) : l.getD k 0 < 4294967296 := by
  by_cases hk : k < l.length
  · simp only [List.getD, List.getElem?_eq_getElem hk, Option.getD_some]; exact h _ (List.getElem_mem hk)
  · simp [List.getD, List.getElem?_eq_none (by omega : l.length ≤ k)]
theorem list8 {l : List Nat} (h : l.length = 8) : ∃ a b c d e f g i, l = [a, b, c, d, e, f, g, i] := by
  match l, h with
  | [a, b, c, d, e, f, g, i], _ => exact ⟨a, b, c, d, e, f, g, i, rfl⟩

/-- One round, of which kw is Kt + Wt. -/
def turn (l : List Nat) (kw : Nat) : List Nat := match l with
  | [a, b, c, d, e, f, g, h] => [pl (pl (pl (pl h (sa1 e)) (cho e f g)) kw) (pl (sa0 a) (maj a b c)), a, b, c, pl d (pl (pl (pl h (sa1 e)) (cho e f g)) kw), e, f, g]
  | l => l
theorem turn_len {l : List Nat} (h : l.length = 8) (kw : Nat) : (turn l kw).length = 8 := by
  obtain ⟨a, b, c, d, e, f, g, i, rfl⟩ := list8 h; rfl
theorem turn_u {l : List Nat} (h : l.length = 8) (hu : U32 l) (kw : Nat) : U32 (turn l kw) := by
  obtain ⟨a, b, c, d, e, f, g, i, rfl⟩ := list8 h
  intro x hx
  simp only [turn, List.mem_cons, List.not_mem_nil, or_false] at hx
  rcases hx with rfl | rfl | rfl | rfl | rfl | rfl | rfl | rfl
  all_goals first | exact pl_lt _ _ | exact hu _ (by simp)

/-- The sixty-four. -/
def kts : List Nat := [1116352408, 1899447441, 3049323471, 3921009573, 961987163, 1508970993, 2453635748, 2870763221, 3624381080, 310598401, 607225278, 1426881987, 1925078388, 2162078206, 2614888103, 3248222580, 3835390401, 4022224774, 264347078, 604807628, 770255983, 1249150122, 1555081692, 1996064986, 2554220882, 2821834349, 2952996808, 3210313671, 3336571891, 3584528711, 113926993, 338241895, 666307205, 773529912, 1294757372, 1396182291, 1695183700, 1986661051, 2177026350, 2456956037, 2730485921, 2820302411, 3259730800, 3345764771, 3516065817, 3600352804, 4094571909, 275423344, 430227734, 506948616, 659060556, 883997877, 958139571, 1322822218, 1537002063, 1747873779, 1955562222, 2024104815, 2227730452, 2361852424, 2428436474, 2756734187, 3204031479, 3329325298]
def h0s : List Nat := [1779033703, 3144134277, 1013904242, 2773480762, 1359893119, 2600822924, 528734635, 1541459225]
theorem kts_len : kts.length = 64 := rfl
theorem h0s_len : h0s.length = 8 := rfl
theorem kts_u : U32 kts := by unfold U32; decide
theorem h0s_u : U32 h0s := by unfold U32; decide

/-- So many rounds. -/
def mixN (w : List Nat) (h : List Nat) : Nat → List Nat
  | 0 => h
  | t + 1 => turn (mixN w h t) (pl (kts.getD t 0) (w.getD t 0))
theorem mixN_len {w h : List Nat} (hl : h.length = 8) : ∀ t, (mixN w h t).length = 8
  | 0 => hl
  | t + 1 => turn_len (mixN_len hl t) _
theorem mixN_u {w h : List Nat} (hl : h.length = 8) (hu : U32 h) : ∀ t, U32 (mixN w h t)
  | 0 => hu
  | t + 1 => turn_u (mixN_len hl t) (mixN_u hl hu t) _

def plus (a b : List Nat) : List Nat := List.zipWith pl a b
theorem plus_len {a b : List Nat} (ha : a.length = 8) (hb : b.length = 8) : (plus a b).length = 8 := by simp [plus, ha, hb]
theorem plus_u (a b : List Nat) : U32 (plus a b) := by
  intro x hx
  obtain ⟨i, hi, rfl⟩ := List.mem_iff_getElem.1 hx
  simp only [plus, List.getElem_zipWith]; exact pl_lt _ _

/-- Four bytes as a number, the highest first. -/
def be4 (l : List UInt8) (i : Nat) : Nat := (((l.getD (4 * i) 0).toNat * 256 + (l.getD (4 * i + 1) 0).toNat) * 256 + (l.getD (4 * i + 2) 0).toNat) * 256 + (l.getD (4 * i + 3) 0).toNat
theorem be4_lt (l : List UInt8) (i : Nat) : be4 l i < 4294967296 := by
  unfold be4
  have h0 := (l.getD (4 * i) 0).toNat_lt
  have h1 := (l.getD (4 * i + 1) 0).toNat_lt
  have h2 := (l.getD (4 * i + 2) 0).toNat_lt
  have h3 := (l.getD (4 * i + 3) 0).toNat_lt
  omega
def sched (l : List Nat) (t : Nat) : Nat := pl (pl (pl (sg1 (l.getD (t - 2) 0)) (l.getD (t - 7) 0)) (sg0 (l.getD (t - 15) 0))) (l.getD (t - 16) 0)
def first16 (b : List UInt8) : List Nat := (List.range 16).map (be4 b)
/-- The words, so many behind the sixteen. -/
def wordN (b : List UInt8) : Nat → List Nat
  | 0 => first16 b
  | n + 1 => wordN b n ++ [sched (wordN b n) (16 + n)]
theorem wordN_len (b : List UInt8) : ∀ n, (wordN b n).length = 16 + n
  | 0 => by simp [wordN, first16]
  | n + 1 => by simp [wordN, wordN_len b n]; omega
theorem first16_u (b : List UInt8) : U32 (first16 b) := by
  intro x hx
  obtain ⟨i, _, rfl⟩ := List.mem_map.1 hx
  exact be4_lt b i
theorem wordN_u (b : List UInt8) : ∀ n, U32 (wordN b n)
  | 0 => first16_u b
  | n + 1 => by
    intro x hx
    rcases List.mem_append.1 hx with h | h
    · exact wordN_u b n x h
    · simp only [List.mem_singleton] at h; subst h; exact pl_lt _ _
def wordsOf (b : List UInt8) : List Nat := wordN b 48
theorem wordsOf_len (b : List UInt8) : (wordsOf b).length = 64 := wordN_len b 48
theorem wordsOf_u (b : List UInt8) : U32 (wordsOf b) := wordN_u b 48

/-- What a block makes of the eight. -/
def blk (h : List Nat) (b : List UInt8) : List Nat := plus h (mixN (wordsOf b) h 64)
theorem blk_len {h : List Nat} (hl : h.length = 8) (b : List UInt8) : (blk h b).length = 8 := plus_len hl (mixN_len hl 64)
theorem blk_u (h : List Nat) (b : List UInt8) : U32 (blk h b) := plus_u _ _
/-- So many blocks. -/
def overN (h : List Nat) (l : List UInt8) : Nat → List Nat
  | 0 => h
  | k + 1 => blk (overN h l k) ((l.drop (64 * k)).take 64)
theorem overN_len {h : List Nat} (hl : h.length = 8) (l : List UInt8) : ∀ k, (overN h l k).length = 8
  | 0 => hl
  | k + 1 => blk_len (overN_len hl l k) _
theorem overN_u {h : List Nat} (hu : U32 h) (l : List UInt8) : ∀ k, U32 (overN h l k)
  | 0 => hu
  | _ + 1 => blk_u _ _
theorem overN_left (h : List Nat) (x y : List UInt8) (n : Nat) (hx : x.length = 64 * n) : ∀ k, k ≤ n → overN h (x ++ y) k = overN h x k
  | 0, _ => rfl
  | k + 1, hk => by
    simp only [overN]
    rw [overN_left h x y n hx k (by omega)]
    congr 1
    rw [List.drop_append_of_le_length (by omega), List.take_append_of_le_length (by simp; omega)]
theorem overN_right (h : List Nat) (x y : List UInt8) (n : Nat) (hx : x.length = 64 * n) : ∀ k, overN h (x ++ y) (n + k) = overN (overN h x n) y k
  | 0 => by simp only [Nat.add_zero, overN]; exact overN_left h x y n hx n (Nat.le_refl _)
  | k + 1 => by
    rw [← Nat.add_assoc]
    simp only [overN]
    rw [overN_right h x y n hx k]
    congr 2
    rw [show 64 * (n + k) = x.length + 64 * k by omega, List.drop_append]
    simp

/-- A number's eight bytes, the highest first. -/
def be8 (n : Nat) : List UInt8 := (List.range 8).map fun i => UInt8.ofNat (n / 2 ^ (8 * (7 - i)) % 256)
theorem be8_len (n : Nat) : (be8 n).length = 8 := by simp [be8]
/-- What is behind the last whole block, filled up. -/
def fillN (r : Nat) : Nat := (r + 72) / 64 * 64 - r - 9
def filled (r : List UInt8) (n : Nat) : List UInt8 := r ++ [128] ++ List.replicate (fillN r.length) 0 ++ be8 (8 * n)
theorem filled_len (r : List UInt8) (n : Nat) : (filled r n).length = (r.length + 72) / 64 * 64 := by
  simp only [filled, List.length_append, List.length_replicate, be8_len, fillN, List.length_cons, List.length_nil]; omega
/-- Numbers as bytes. -/
def out4 (x : Nat) : List UInt8 := [UInt8.ofNat (x / 16777216 % 256), UInt8.ofNat (x / 65536 % 256), UInt8.ofNat (x / 256 % 256), UInt8.ofNat (x % 256)]
def outs : List Nat → List UInt8
  | [] => []
  | x :: r => out4 x ++ outs r
theorem outs_len : ∀ l : List Nat, (outs l).length = 4 * l.length
  | [] => rfl
  | x :: r => by simp [outs, outs_len r, out4]; omega
theorem outs_snoc (x : Nat) : ∀ l, outs (l ++ [x]) = outs l ++ out4 x
  | [] => by simp [outs]
  | y :: r => by simp [outs, outs_snoc x r]
def tailOf (l : List UInt8) : List UInt8 := l.drop (64 * (l.length / 64))
/-- SHA-256. -/
def sha (l : List UInt8) : List UInt8 := outs (overN (overN h0s l (l.length / 64)) (filled (tailOf l) l.length) ((filled (tailOf l) l.length).length / 64))
theorem sha_len (l : List UInt8) : (sha l).length = 32 := by
  unfold sha; rw [outs_len, overN_len (overN_len h0s_len _ _)]
end Go.Proofs.YtcjhimakbopipaaDoor
