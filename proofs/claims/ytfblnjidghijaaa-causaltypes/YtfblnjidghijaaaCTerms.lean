/- causal: fitting, terms, and the iterator. -/
import Derived.Test.YtfblnjidghijaaaCFit
namespace Go.Proofs.Ytfblnjidghijaaa
open Go Go.RowKit

def fitV (gs gw : Nat) : Value := .func (.func 44) #[] #[.pointer (some ⟨gs, 0, none⟩), .pointer (some ⟨gw, 0, none⟩)]
set_option maxRecDepth 100000 in
seal rn rnN rnS Goes ans atEnd put0 putM opened putA0 putA oneSt st0 in
theorem fitting_any (want : Int) (w : World) : Calls Try.prog 35 #[.int .i64 want] w fun e w' => ∃ gs gw O, e = .returned (fitV gs gw) ∧ FsJ w.heap.size gs gw (0, [want]) O w' ∧ Below w.heap.size w w' := by
  refine Goes.begin Try.func35 [] (fun _ => True) Holds.nil (by simp [Mem.ids]) (fun _ _ => trivial) ?_
  refine Goes.run3 [1, 2] [] trivial fun gb gw gs => ?_
  refine Goes.know3 fun hids => ?_
  exact Goes.ret [] (fitV gs gw) fun w' hm hI => by
    have f0 : w.heap.size ≤ gb := fresh_of hI (g := gb) (ids_get (j := 0) (o := .cells #[.int .i64 want] 3 (0, 0)) (by kernel_rfl)) (by simp [Mem.ids])
    have f1 : w.heap.size ≤ gw := fresh_of hI (g := gw) (ids_get (j := 1) (o := .cells #[.slice (some ⟨gb, 0, none⟩) 1 1] 50 (0, 0)) (by kernel_rfl)) (by simp [Mem.ids])
    have f2 : w.heap.size ≤ gs := fresh_of hI (g := gs) (ids_get (j := 2) (o := .cells #[.int .i64 0] 3 (0, 0)) (by kernel_rfl)) (by simp [Mem.ids])
    have hd : [gb, gw, gs].Nodup := Nodup.of_ids hids
    refine ⟨gs, gw, [gs, gw, gb], rfl, ⟨gb, 1, #[.int .i64 want], rfl, ?_, ?_, hm.get 2, hm.get 1, hm.get 0, by simp [maxLen], rfl, rfl⟩, bel0 hI⟩
    · simp only [List.nodup_cons, List.mem_cons, List.not_mem_nil, or_false, not_or] at hd ⊢
      exact ⟨⟨fun e => hd.2.1 e.symm, fun e => hd.1.2 e.symm⟩, fun e => hd.1.1 e.symm, by simp, by simp⟩
    · intro x hx
      simp only [List.mem_cons, List.not_mem_nil, or_false] at hx
      rcases hx with rfl | rfl | rfl <;> assumption
def termsV (g : Nat) : Value := .func (.func 48) #[] #[.pointer (some ⟨g, 0, none⟩)]
set_option maxRecDepth 100000 in
seal rn rnN rnS Goes ans atEnd put0 putM opened putA0 putA oneSt st0 in
theorem terms_any (op k : Int) (t : List UInt8) (a : Option Addr) (N c : Nat) (w : World) : Calls Try.prog 36 #[cv op k t (.slice a N c)] w fun e w' => ∃ g, e = .returned (termsV g) ∧ w'.heap[g]? = some (cO op k t (.slice a N c)) ∧ w.heap.size ≤ g ∧ Below w.heap.size w w' := by
  refine Goes.begin Try.func36 [] (fun _ => True) Holds.nil (by simp [Mem.ids]) (fun _ _ => trivial) ?_
  refine Goes.run1 [] [] trivial fun g => ?_
  exact Goes.ret [] (termsV g) fun w' hm hI => ⟨g, rfl, hm.get 0, fresh_of hI (g := g) (ids_get (j := 0) (o := cO op k t (.slice a N c)) (by kernel_rfl)) (by simp [Mem.ids]), bel0 hI⟩
theorem cl_of_cO {w : World} {g : Nat} {op k : Int} {t : List UInt8} {v : Value} (h : w.heap[g]? = some (cO op k t v)) : Cl4 w g 0 (cv op k t v) := by
  refine ⟨op, k, t, v, rfl, ?_, ?_, ?_, ?_⟩ <;> unfold World.cell? <;> rw [h] <;> rfl
set_option maxRecDepth 100000 in
seal rn rnN rnS Goes ans atEnd put0 putM opened putA0 putA oneSt st0 in
theorem iter_any {σ : Type} {n₀ l : Nat} {f : σ → Int → Co → σ × Bool} {ok : σ → Prop} {J : Bool → σ → List Nat → World → Prop} (Y : Yl n₀ l f ok J) {c : Co} {op k : Int} {t : List UInt8} {a : Option Addr} {N cc g : Nat} {w : World} {s : σ} {O : List Nat} (hsafe : safeP f ok s 1 c) (hJ : J true s O w) (hN : Nc n₀ w (cv op k t (.slice a N cc)) c) (hn : n₀ ≤ w.heap.size) (hg : w.heap[g]? = some (cO op k t (.slice a N cc))) :
    Calls Try.prog 48 #[.func (.yield l) #[] #[], .pointer (some ⟨g, 0, none⟩)] w fun e w' => e = .returned (.tuple #[]) ∧ ∃ O', J (walkP f s 1 c).2 (walkP f s 1 c).1 O' w' ∧ Ch O w w' ∧ Sub w O O' := by
  refine Goes.enter Try.func48 [] (fun w' => Ch [] w w') Holds.nil (by simp [Mem.ids]) (fun w' hc => hc) ?_
  refine Goes.run [] [] trivial ?_
  refine Goes.val (Instr.loadAt 24 (.pointer (some ⟨g, 0, none⟩))) (cv op k t (.slice a N cc)) (fun w' _ hI => loadC (cl_of_cO ((hI.now.block g (lt_of_get hg) (by simp)).trans hg))) ?_
  refine Goes.run [] [] trivial ?_
  refine Goes.call 49 #[cv op k t (.slice a N cc), .int .i64 1, .func (.yield l) #[] #[]] fun w1 hm1 hn1 hI1 => ?_
  have hc1 : Ch [] w w1 := hI1.now
  refine (walk_any Y c _ w1 s O 1 hsafe (Y.stay _ _ _ _ _ hJ (fun x hx => hc1.block x (Y.low _ _ _ _ hJ x hx).2 (by simp))) (hN.later (hc1.low (fun x hx => by cases hx) hn)) (Nat.le_trans hn hc1.size)).mono fun e w2 ⟨he, O', h1, h2, h3⟩ => ?_
  refine ⟨_, fun w' => Ch O w w' ∧ J (walkP f s 1 c).2 (walkP f s 1 c).1 O' w' ∧ Sub w O O', [], he, Holds.nil, by simp [Mem.ids], fun w3 hc => ⟨((hc1.mono (fun x hx => by cases hx)).trans h2 (fun x hx => .inl hx)).trans hc (fun x hx => by cases hx), Y.stay _ _ _ _ _ h1 (fun x hx => hc.block x (Y.low _ _ _ _ h1 x hx).2 (by simp [Mem.ids])), fun x hx => ?_⟩, ?_⟩
  · rcases h3 x hx with e | e
    · exact .inl e
    · exact .inr (Nat.le_trans hc1.size e)
  refine Goes.run [] [] trivial ?_
  exact Goes.ret [] (.tuple #[]) fun w' hm hI => ⟨rfl, O', hI.now.2.1, hI.now.1, hI.now.2.2⟩
end Go.Proofs.Ytfblnjidghijaaa
