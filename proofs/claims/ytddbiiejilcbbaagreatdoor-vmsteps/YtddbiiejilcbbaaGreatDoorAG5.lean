/- texts put together: CRefL CRefM CStr NCell CNcs CFrame -/
import Derived.Test.YtddbiiejilcbbaaGreatDoorAG4
import Derived.Test.YtddbiiejilcbbaaGreatDoorAG2
import Derived.Laws.MakeOwn
import Derived.Sort.Walk0
import Derived.Test.YtddbiiejilcbbaaGreatDoorAG3
import Derived.Test.YtddbiiejilcbbaaGreatDoorRows
import Derived.ProofKit
import Derived.LaidMore
import Derived.OpenShut
import Derived.ShutString
import Derived.ChangeMaps5
import Derived.Stop.Joined
import Derived.Stop.LaidErr
import Derived.Lib.LaidTab
import Derived.Deep.DeepHandedRow
import Derived.Deep.Slices
import Derived.Deep.Matrix
namespace Go.Proofs.YtddbiiejilcbbaaGreatDoor
open Go Go.RowKit

mutual
def lefF (m d : Int) : Co → Int
  | .mk _ _ _ kids => bif decide (d > 200) then -1 else lefL (m - 1) (d + 1) kids
def lefL (m d : Int) : List Co → Int
  | [] => m
  | c :: r => bif decide (m ≥ 0) then lefL (lefF m d c) d r else m
end
mutual
theorem lef_low : ∀ (c : Co) (m d : Int), 0 ≤ m → -1 ≤ lefF m d c ∧ lefF m d c ≤ m
  | .mk _ _ _ kids, m, d, h => by
    rw [lefF]
    cases decide (d > 200) with
    | true => exact ⟨by simp, by simp; omega⟩
    | false => have := lef_lowL kids (m - 1) (d + 1) (by omega); simp only [cond_false]; omega
theorem lef_lowL : ∀ (l : List Co) (m d : Int), -1 ≤ m → -1 ≤ lefL m d l ∧ lefL m d l ≤ m
  | [], m, d, h => by rw [lefL]; omega
  | c :: r, m, d, h => by
    rw [lefL]
    cases hm : decide (m ≥ 0) with
    | true =>
      have h1 := lef_low c m d (of_decide_eq_true hm)
      have h2 := lef_lowL r (lefF m d c) d h1.1
      simp only [cond_true]; omega
    | false => simp only [cond_false]; omega
end
def smaP (c : Co) : Bool := decide (lefF 2000 1 c ≥ 0)
end Go.Proofs.YtddbiiejilcbbaaGreatDoor
namespace Go.Proofs.YtddbiiejilcbbaaGreatDoor
open Go Go.RowKit

def TP (c : Co) : Prop := ∀ d : Int, (∀ z, tyOk z → (okT z d c = true ↔ typF d c = (z, true))) ∧ ((typF d c).2 = true → tyOk (typF d c).1)
theorem tys_ok : ∀ (kids : List Co), (∀ c ∈ kids, TP c) → ∀ (d : Int) (l : List Int), (tysF d kids = some l ↔ l.length = kids.length ∧ (∀ z ∈ l, tyOk z) ∧ okTs d l kids = true)
  | [], _, d, l => by
    rw [tysF]
    unfold okTs
    constructor
    · rintro ⟨⟩; simp
    · rintro ⟨h, -⟩; rw [List.eq_nil_of_length_eq_zero h]
  | c :: r, ih, d, l => by
    obtain ⟨h1, h2⟩ := ih c (by simp) d
    have h3 := tys_ok r (fun c hc => ih c (by simp [hc])) d
    rw [tysF]
    cases hc : typF d c with
    | mk z b =>
    rw [hc] at h2
    cases b with
    | false =>
      simp only [cond_false]
      constructor
      · intro h; cases h
      · rintro ⟨e, ht, ho⟩
        cases l with
        | nil => cases e
        | cons x xs =>
          unfold okTs at ho
          simp only [Bool.and_eq_true] at ho
          have := (h1 x (ht x (by simp))).1 ho.1
          rw [hc] at this
          cases this
    | true =>
      simp only [cond_true]
      have hz := h2 rfl
      cases hr : tysF d r with
      | none =>
        constructor
        · intro h; cases h
        · rintro ⟨e, ht, ho⟩
          cases l with
          | nil => cases e
          | cons x xs =>
            unfold okTs at ho
            simp only [Bool.and_eq_true] at ho
            have := (h3 xs).2 ⟨by simpa using e, fun z hz => ht z (by simp [hz]), ho.2⟩
            rw [hr] at this
            cases this
      | some q =>
        have hq := (h3 q).1 hr
        constructor
        · intro h
          simp only [Option.map_some, Option.some.injEq] at h
          subst h
          refine ⟨by simp [hq.1], fun y hy => ?_, ?_⟩
          · rcases List.mem_cons.1 hy with e | e
            · rw [e]; exact hz
            · exact hq.2.1 y e
          · unfold okTs
            show (okT z d c && okTs d q r) = true
            rw [(h1 z hz).2 hc, hq.2.2]
            rfl
        · rintro ⟨e, ht, ho⟩
          cases l with
          | nil => cases e
          | cons x xs =>
            unfold okTs at ho
            simp only [Bool.and_eq_true] at ho
            have e1 := (h1 x (ht x (by simp))).1 ho.1
            rw [hc] at e1
            cases e1
            have e2 := (h3 xs).2 ⟨by simpa using e, fun z hz => ht z (by simp [hz]), ho.2⟩
            rw [hr] at e2
            cases e2
            rfl
theorem tp_all (c : Co) : TP c := by
  induction c using Co.ind with
  | h op k t kids ih =>
    intro d
    have hk := tys_ok kids ih (d + 1)
    refine ⟨fun z hz => ?_, fun h => ?_⟩
    · rw [typ_parts]
      constructor
      · intro ho
        unfold okT at ho
        cases hko : kOf op z with
        | none => rw [hko] at ho; cases ho
        | some ks =>
          rw [hko] at ho
          simp only [Bool.and_eq_true, beq_iff_eq, decide_eq_true_eq] at ho
          obtain ⟨⟨⟨h1, h2⟩, h3⟩, h4⟩ := ho
          have hl3 := kOf_len op z ks hko
          refine ⟨h2, h3, by omega, ks, (hk ks).2 ⟨by omega, kOf_ty hz ks hko, h4⟩, ?_⟩
          unfold endF
          cases h22 : (op == 22) with
          | true =>
            have e := eq_of_beq h22
            subst e
            rw [k22] at hko
            cases hz4 : (z == 4) with
            | true => rw [hz4] at hko; cases hko
            | false =>
              rw [hz4] at hko
              cases hko
              have : (z != 4) = true := by simp only [bne, hz4, Bool.not_false]
              simp only [cond_true, lastZ, ifF, beq_self_eq_true, Bool.true_and, this]
          | false =>
            rw [rk_op hz h22] at hko
            cases hr : rkP op with
            | none => rw [hr] at hko; cases hko
            | some q =>
              obtain ⟨ks', t'⟩ := q
              rw [hr] at hko
              simp only at hko
              cases ht' : (t' == z) with
              | false => rw [ht'] at hko; cases hko
              | true =>
                rw [ht'] at hko
                cases hko
                have := eq_of_beq ht'
                subst this
                simp
      · rintro ⟨h1, h2, h3, l, hl, he⟩
        obtain ⟨e1, e2, e3⟩ := (hk l).1 hl
        have fin : kOf op z = some l → okT z d (.mk op k t kids) = true := by
          intro hko
          unfold okT
          rw [hko]
          simp only [h1, e3, Bool.and_true, Bool.and_eq_true, beq_iff_eq, decide_eq_true_eq]
          exact ⟨by omega, h2⟩
        unfold endF at he
        cases h22 : (op == 22) with
        | true =>
          rw [h22, cond_true] at he
          simp only [Prod.mk.injEq] at he
          obtain ⟨y, rfl, hy⟩ := if_shape he.2
          have hyz : y = z := he.1
          subst hyz
          have e := eq_of_beq h22
          subst e
          refine fin ?_
          rw [k22]
          have : (y == 4) = false := by simpa using hy
          rw [this]
          rfl
        | false =>
          rw [h22, cond_false] at he
          refine fin ?_
          rw [rk_op hz h22]
          cases hr : rkP op with
          | none => rw [hr] at he; cases he
          | some q =>
            obtain ⟨ks', t'⟩ := q
            rw [hr] at he
            simp only at he
            cases hlen : ((ks'.length : Int) != (l.length : Int)) with
            | true => rw [hlen] at he; cases he
            | false =>
              rw [hlen, cond_false] at he
              cases hq : (ks' == l) with
              | false => rw [hq] at he; cases he
              | true =>
                rw [hq] at he
                cases he
                have := eq_of_beq hq
                subst this
                simp
    · cases hc : typF d (.mk op k t kids) with
      | mk z b =>
      rw [hc] at h
      have hb : b = true := h
      subst hb
      obtain ⟨-, -, -, l, hl, he⟩ := typ_parts.1 hc
      obtain ⟨e1, e2, e3⟩ := (hk l).1 hl
      unfold endF at he
      cases h22 : (op == 22) with
      | true =>
        rw [h22, cond_true] at he
        simp only [Prod.mk.injEq] at he
        obtain ⟨y, rfl, hy⟩ := if_shape he.2
        have hyz : y = z := he.1
        subst hyz
        exact e2 y (by simp)
      | false =>
        rw [h22, cond_false] at he
        cases hr : rkP op with
        | none => rw [hr] at he; cases he
        | some q =>
          obtain ⟨ks', t'⟩ := q
          rw [hr] at he
          simp only at he
          cases hlen : ((ks'.length : Int) != (l.length : Int)) with
          | true => rw [hlen] at he; cases he
          | false =>
            rw [hlen, cond_false] at he
            cases hq : (ks' == l) with
            | false => rw [hq] at he; cases he
            | true =>
              rw [hq] at he
              cases he
              exact rk_tyOk hr
def LP (c : Co) : Prop := ∀ (d m : Int), (typF d c).2 = true → 0 ≤ m → (szC c ≤ m → lefF m d c = m - szC c) ∧ (m < szC c → lefF m d c < 0)
theorem lef_row : ∀ (l : List Co), (∀ c ∈ l, LP c) → ∀ (d m : Int), (∀ c ∈ l, (typF d c).2 = true) → -1 ≤ m → (szL l ≤ m → lefL m d l = m - szL l) ∧ (m < szL l → lefL m d l < 0)
  | [], _, d, m, _, hm => by rw [lefL, szL]; omega
  | c :: r, ih, d, m, hk, hm => by
    have hp := szC_pos c
    have hq := szL_pos r
    rw [lefL, szL]
    cases hd : decide (m ≥ 0) with
    | false =>
      have := of_decide_eq_false hd
      simp only [cond_false]
      omega
    | true =>
      have hm0 := of_decide_eq_true hd
      obtain ⟨h1, h2⟩ := ih c (by simp) d m (hk c (by simp)) hm0
      have hlow := lef_low c m d hm0
      have h3 := lef_row r (fun c hc => ih c (by simp [hc])) d (lefF m d c) (fun c hc => hk c (by simp [hc])) hlow.1
      have h4 := lef_lowL r (lefF m d c) d hlow.1
      simp only [cond_true]
      by_cases hs : szC c ≤ m
      · rw [h1 hs] at h3 ⊢
        omega
      · have := h2 (by omega)
        omega
theorem lef_all (c : Co) : LP c := by
  induction c using Co.ind with
  | h op k t kids ih =>
    intro d m ht hm
    obtain ⟨-, hd, hk⟩ := typ_kids ht
    have h := lef_row kids ih (d + 1) (m - 1) hk (by omega)
    rw [lefF, szC, decide_eq_false (by omega), cond_false]
    omega
def rtyP (c : Co) : Int × Bool := bif smaP c then (bif (typF 1 c).2 then ((typF 1 c).1, true) else (0, false)) else (0, false)
theorem rty_eq (c : Co) : rtyP c = typP c := by
  obtain ⟨h1, h2⟩ := tp_all c 1
  have no : (∀ z, tyOk z → isOfP z c = false) → typP c = (0, false) := by
    intro h
    unfold typP
    rw [h 0 (.inl rfl), h 1 (.inr (.inl rfl)), h 2 (.inr (.inr (.inl rfl))), h 4 (.inr (.inr (.inr rfl)))]
    rfl
  cases hc : typF 1 c with
  | mk z b =>
  rw [hc] at h1 h2
  cases b with
  | false =>
    have : typP c = (0, false) := no fun x hx => by
      cases hi : isOfP x c with
      | false => rfl
      | true =>
        have := (h1 x hx).1 ((isOfP_eq x c).1 hi).1
        cases this
    rw [this]
    unfold rtyP
    rw [hc]
    cases smaP c <;> rfl
  | true =>
    have hz := h2 rfl
    have hl := lef_all c 1 2000 (by rw [hc]) (by omega)
    have hs : smaP c = decide (szC c ≤ 2000) := by
      unfold smaP
      by_cases h : szC c ≤ 2000
      · rw [hl.1 h, decide_eq_true h, decide_eq_true (by omega)]
      · rw [decide_eq_false h, decide_eq_false (by have := hl.2 (by omega); omega)]
    unfold rtyP
    rw [hs, hc]
    by_cases h : szC c ≤ 2000
    · have hi : ∀ x, tyOk x → isOfP x c = (x == z) := by
        intro x hx
        rw [Bool.eq_iff_iff, isOfP_eq, h1 x hx, beq_iff_eq]
        simp only [Prod.mk.injEq, and_true]
        exact ⟨fun h => h.1.symm, fun e => ⟨e.symm, h⟩⟩
      rw [decide_eq_true h]
      unfold typP
      rw [hi 0 (.inl rfl), hi 1 (.inr (.inl rfl)), hi 2 (.inr (.inr (.inl rfl))), hi 4 (.inr (.inr (.inr rfl)))]
      rcases hz with e | e | e | e <;> (have e' : z = _ := e; subst e'; rfl)
    · rw [decide_eq_false h]
      exact (no fun x hx => by
        cases hi : isOfP x c with
        | false => rfl
        | true => exact absurd ((isOfP_eq x c).1 hi).2 h).symm
theorem typ_right {c : Co} (h : (typP c).2 = true) : (typF 1 c).2 = true ∧ szC c ≤ 2000 := by
  obtain ⟨want, -, hi⟩ := typ_ex h
  refine ⟨?_, ((isOfP_eq want c).1 hi).2⟩
  rw [← rty_eq] at h
  unfold rtyP at h
  cases hs : smaP c with
  | false => rw [hs] at h; cases h
  | true =>
    rw [hs, cond_true] at h
    cases hc : (typF 1 c).2 with
    | true => rfl
    | false => rw [hc] at h; cases h
end Go.Proofs.YtddbiiejilcbbaaGreatDoor
namespace Go.Proofs.YtddbiiejilcbbaaGreatDoor
open Go Go.RowKit

section
variable {P : Program} {F : Exit → Act → World → Prop} {Inv : World → Prop} {s : St}
/-- What an append of cells that are known does. -/
theorem append_coreA {base : Nat} {t e ty : TypeId} {size bytes : Nat} {v : Value} {n : Nat} {xs : List Value} {a : Addr} {m c : Nat} {news : List Value} {w : World}
    (hown : w.ownsRow base e size v n xs) (hbase : base ≤ w.heap.size) (hl : news.length = m * size) (hnews : ∀ j u, news[j]? = some u → w.cell? (a.add j) = some u) (h1 : ∀ u ∈ news, u.oneCell' = true) (hm0 : v ≠ .slice none 0 0 ∨ 0 < m) (h63 : n + m ≤ maxLen) (hbytes : (n + m) * bytes ≤ 140737488355328)
    (hel : elOk P t e size bytes = true) : ∃ b c' w', (Builtin.append_ #[t, t] ty #[v, .slice (some a) m c]).run P w = .ok (.slice (some ⟨b, 0, none⟩) (n + m) c') w' ∧ w'.ownsRow base e size (.slice (some ⟨b, 0, none⟩) (n + m) c') (n + m) (xs ++ news) ∧ w.grownBy w' v.ownBlock ∧ ((Value.slice (some ⟨b, 0, none⟩) (n + m) c').ownBlock = v.ownBlock ∨ (Value.slice (some ⟨b, 0, none⟩) (n + m) c').ownBlock = some w.heap.size) := by
  unfold elOk at hel
  simp only [Bool.and_eq_true, decide_eq_true_eq] at hel
  obtain ⟨⟨hu, hi⟩, hsz⟩ := hel
  cases hu1 : P.underlying t with
  | none => rw [hu1] at hu; cases hu
  | some d =>
    rw [hu1] at hu
    obtain rfl : d = .slice e := by
      cases d <;> simp at hu
      rw [hu]
    cases hi1 : P.info? e with
    | none => rw [hi1] at hi; cases hi
    | some i =>
      rw [hi1] at hi
      simp only [Bool.and_eq_true, beq_iff_eq] at hi
      cases hz1 : i.zero with
      | none => rw [hz1] at hi; simp at hi
      | some z0 =>
        rw [hz1] at hi
        obtain ⟨v', w', hrun, hown', hgr, hnil, hob⟩ := run_append_own_at (P := P) (w := w) base t ty e i z0 size bytes hu1 hi1 hz1 hi.1.1 hi.1.2 (eq_of_beq hi.2) hsz v n xs hown a m c news hl hnews h1 h63 hbytes hbase
        obtain ⟨b, c', rfl⟩ : ∃ b c', v' = .slice (some ⟨b, 0, none⟩) (n + m) c' := by
          rcases hown'.2 with ⟨h0, -⟩ | ⟨g, cap, cur, e, -⟩
          · obtain ⟨h2, h3⟩ := hnil.1 h0
            rcases hm0 with h4 | h4
            · exact absurd h2 h4
            · omega
          · exact ⟨_, _, e⟩
        exact ⟨b, c', w', hrun, hown', hgr, hob⟩
end
end Go.Proofs.YtddbiiejilcbbaaGreatDoor
namespace Go.Proofs.YtddbiiejilcbbaaGreatDoor
open Go Go.RowKit

theorem cell_same {w w' : World} {b o : Nat} (h : w'.heap[b]? = w.heap[b]?) : w'.cell? ⟨b, o, none⟩ = w.cell? ⟨b, o, none⟩ := by
  unfold World.cell?
  rw [h]
theorem blk_of {w : World} {b : Nat} (h : b < w.heap.size) : ∃ ob, w.heap[b]? = some ob := ⟨w.heap[b], by simp [h]⟩
theorem hex1 {w w' : World} {b : Nat} {ob : Obj} (hb : w.heap[b]? = some ob) (h : Ch (Mem.ids []) w w') : Holds [(b, ob)] w' := fun j c o hj => by
  match j, hj with
  | 0, hj => cases hj; exact (h.block b (lt_of_get hb) (by simp [Mem.ids])).trans hb
end Go.Proofs.YtddbiiejilcbbaaGreatDoor
namespace Go.Proofs.YtddbiiejilcbbaaGreatDoor
open Go Go.RowKit

/-- The value v is the term c, all the way down, in blocks of the set A. -/
inductive NcS (A : Nat → Prop) (w : World) : Value → Co → Prop
  | mk (op k : Int) (s : List UInt8) (kids : List Co) (a : Option Addr) (c : Nat) (vs : Nat → Value) (hf : Fits op k s) (hl : kids.length ≤ c ∧ c ≤ 9223372036854775807)
      (hc : ∀ i, i < kids.length → ∃ b o, a = some ⟨b, o, none⟩ ∧ A b ∧ Cl4 w b (o + i * 4) (vs i)) (hk : ∀ i t, kids[i]? = some t → NcS A w (vs i) t) : NcS A w (cv op k s (.slice a kids.length c)) (.mk op k s kids)
theorem NcS.toN {A : Nat → Prop} {n : Nat} {w : World} {v : Value} {t : Co} (h : NcS A w v t) (hA : ∀ x, A x → x < n) : Nc n w v t := by
  induction h with
  | mk op k s kids a c vs hf hl hc hk ih =>
    refine .mk op k s kids a c vs hf hl (fun i hi => ?_) ih
    obtain ⟨b, o, e, hb, h⟩ := hc i hi
    exact ⟨b, o, e, hA b hb, h⟩
end Go.Proofs.YtddbiiejilcbbaaGreatDoor
namespace Go.Proofs.YtddbiiejilcbbaaGreatDoor
open Go Go.ChangeShapes Go.WideShapes Go.ChangeAt Go.WideMaps Go.WideElems Go.RowKit Go.ChangeMaps Go.Deep

theorem own : ownKnob Tryz.prog.godebug = none := by kernel_rfl
theorem laidOut : laidOutB Tryz.prog = true := by kernel_rfl
theorem spot_none {w : World} {ad : Addr} {v : Value} (h : w.cell? (ad.add 0) = some v) : ad.spot = none := by
  simpa [Addr.add] using World.cell?_spot h
end Go.Proofs.YtddbiiejilcbbaaGreatDoor
