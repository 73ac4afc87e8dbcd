/- texts put together: VmD VmQ VmP2 VmC VmU0 VmE0 VmEt VmE1 -/
import Derived.Test.YtddbiiejilcbbaaGreatDoorAG21
import Derived.Test.DevTool
import Derived.Test.YtddbiiejilcbbaaGreatDoorAG20
import Derived.Laws.MakeOwn
namespace Go.Proofs.YtddbiiejilcbbaaGreatDoor
open Go Go.RowKit

theorem plus_back {day n : Int} (hd : 0 ≤ day ∧ day ≤ 73048) (hn : 0 ≤ n ∧ n ≤ 3660) : ((plusV day (-n) : Nat) : Int) = ((clampD (day - n) : Nat) : Int) := by
  unfold plusV
  have h1 : withinI (-n) 73048 = -n := by unfold withinI; rw [if_neg (by omega), if_neg (by omega)]
  have h2 : ((clampD day : Nat) : Int) = day := by unfold clampD; rw [if_neg (by omega), if_neg (by omega)]; omega
  rw [h1, h2]
  rfl
/-- What an instruction asks. -/
structure DoH (n0 g : Nat) (fs : Fs) (fv : Value) (w : World) (day xa xb xc xn op : Int) : Prop where
  hR : RFd fs
  hE : En n0 fs fv w
  hg0 : n0 ≤ g
  hd : 0 ≤ day ∧ day ≤ 73048
  ha : 0 ≤ xa ∧ xa < 256
  hb : 0 ≤ xb ∧ xb < 256
  hc : 0 ≤ xc ∧ xc < 256
  hn : (op = 2 ∨ op = 3) → 0 ≤ xn ∧ xn ≤ 3660
section
variable {w : World} {g n0 : Nat} {r : Rg} {fs : Fs} {a : Option Addr} {N c : Nat}
set_option maxHeartbeats 2000000 in
set_option maxRecDepth 100000 in
seal rn rnN rnS Goes ans atEnd put0 put putM opened openedY putA0 putA oneSt st0 keep mkSt newSt rnO in
theorem do_2 (h : w.heap[g]? = some (rnO r)) {day xa xb xc xn to : Int} {s : List UInt8} (H : DoH n0 g fs (.slice a N c) w day xa xb xc xn 2) : Calls Tryz.prog 67 #[.pointer (some ⟨g, 0, none⟩), iV ⟨2, xa, xb, xc, xn, s, to⟩, dwV day (.slice a N c)] w (RnQ g w (doQ fs day ⟨2, xa, xb, xc, xn, s, to⟩ r)) := by
  obtain ⟨hR, hE, hg0, hd, ha, hb, hc, hn⟩ := H
  have hlt := lt_of_get h
  refine Goes.begin Tryz.func67 [(g, rnO r)] (fun _ => True) (hold1v h) (by simp [Mem.ids]) (fun _ _ => trivial) ?_
  refine Goes.run [] [] trivial ?_
  refine Goes.new1 w.heap.size (fun w' h => h.1.size) fun g4 hg4 => ?_
  refine Goes.run [] [] trivial ?_
  refine Goes.new1 w.heap.size (fun w' h => h.1.size) fun g5 hg5 => ?_
  refine Goes.run [1, 1, 1, 2] [(true, true)] ⟨rfl, trivial⟩ ?_
  refine Goes.call2 0 g 111 #[.pointer (some ⟨g, 0, none⟩), iV ⟨2, xa, xb, xc, xn, s, to⟩, dwV day (.slice a N c)] (.tuple #[]) (rnO (doQ fs day ⟨2, xa, xb, xc, xn, s, to⟩ r)) (fun w' hm hI => feed_any (hm.get 0) hR (hE.ch hI.now.1 hg0) hg0 hd ⟨2, xa, xb, xc, xn, s, to⟩ ha (hn (.inl rfl)) rfl) ?_
  refine Goes.run [] [] trivial ?_
  exact Goes.ret [] (.tuple #[]) fun w' hm hI => ⟨rfl, hI.now.1, hm.get 0⟩
set_option maxHeartbeats 2000000 in
set_option maxRecDepth 100000 in
seal rn rnN rnS Goes ans atEnd put0 put putM opened openedY putA0 putA oneSt st0 keep mkSt newSt rnO in
theorem do_3 (h : w.heap[g]? = some (rnO r)) {day xa xb xc xn to : Int} {s : List UInt8} (H : DoH n0 g fs (.slice a N c) w day xa xb xc xn 3) : Calls Tryz.prog 67 #[.pointer (some ⟨g, 0, none⟩), iV ⟨3, xa, xb, xc, xn, s, to⟩, dwV day (.slice a N c)] w (RnQ g w (doQ fs day ⟨3, xa, xb, xc, xn, s, to⟩ r)) := by
  obtain ⟨hR, hE, hg0, hd, ha, hb, hc, hn⟩ := H
  have hlt := lt_of_get h
  rw [show doQ fs day ⟨3, xa, xb, xc, xn, s, to⟩ r = r.put xa (clampD (day - xn) : Nat) from rfl]
  refine Goes.begin Tryz.func67 [(g, rnO r)] (fun _ => True) (hold1v h) (by simp [Mem.ids]) (fun _ _ => trivial) ?_
  refine Goes.run [] [] trivial ?_
  refine Goes.new1 w.heap.size (fun w' h => h.1.size) fun g4 hg4 => ?_
  refine Goes.run [] [] trivial ?_
  refine Goes.new1 w.heap.size (fun w' h => h.1.size) fun g5 hg5 => ?_
  refine Goes.run [1, 0, 1] [(true, true), (false, false)] ⟨rfl, rfl, trivial⟩ ?_
  refine Goes.open [1, 2] ?_
  refine Goes.run [0, 1, 2, 0, 3, 4, 1, 5, 6, 0, 7, 9, 10] [] trivial ?_
  refine Goes.slot 46 (.int .i64 (-xn)) (u := .int .i64 (IntKind.i64.wrap (0 - xn))) (congrArg _ (by have := hn (.inr rfl); rw [IntWalk.i64_in _ ⟨by omega, by omega⟩]; omega)) ?_
  refine Goes.callA0 8 112 #[.int .i64 day, .int .i64 (-xn)] (.int .i64 ((clampD (day - xn) : Nat) : Int)) (fun w' _ hI => by rw [← plus_back hd (hn (.inr rfl))]; exact (plus_any day (-xn) w').mono fun _ _ h => belQ h) ?_
  refine Goes.valA 11 (Instr.indexAt 123 (.pointer (some ⟨g, 0, none⟩)) (.int .i64 xa)) (.pointer (some ⟨g, xa.toNat, none⟩)) (fun w' _ => idxRg g ha w') ?_
  refine Goes.lone1 12 (TookS.stoK 12 0 g (Instr.storeAt 2 (.pointer (some ⟨g, xa.toNat, none⟩)) (.int .i64 ((clampD (day - xn) : Nat)))) (rnO (r.put xa ((clampD (day - xn) : Nat)))) (fun w' hm => rn_st (hm.get 0) ha _) [(g4, .cells (iC ⟨3, xa, xb, xc, xn, s, to⟩).toArray 72 (0, 0)), (g5, .cells #[.int .i64 day, .slice a N c] 79 (0, 0))] (fun q hq => by simp at hq; rcases hq with rfl | rfl <;> simp only <;> omega) ?_)
  refine Goes.run [] [] trivial ?_
  exact Goes.ret [] (.tuple #[]) fun w' hm hI => ⟨rfl, hI.now.1, hm.get 0⟩
set_option maxHeartbeats 2000000 in
set_option maxRecDepth 100000 in
seal rn rnN rnS Goes ans atEnd put0 put putM opened openedY putA0 putA oneSt st0 keep mkSt newSt rnO in
theorem do_19 (h : w.heap[g]? = some (rnO r)) {day xa xb xc xn to : Int} {s : List UInt8} (H : DoH n0 g fs (.slice a N c) w day xa xb xc xn 19) : Calls Tryz.prog 67 #[.pointer (some ⟨g, 0, none⟩), iV ⟨19, xa, xb, xc, xn, s, to⟩, dwV day (.slice a N c)] w (RnQ g w (doQ fs day ⟨19, xa, xb, xc, xn, s, to⟩ r)) := by
  obtain ⟨hR, hE, hg0, hd, ha, hb, hc, hn⟩ := H
  have hlt := lt_of_get h
  rw [show doQ fs day ⟨19, xa, xb, xc, xn, s, to⟩ r = r.go to (r.get xb == 0) from rfl]
  refine Goes.begin Tryz.func67 [(g, rnO r)] (fun _ => True) (hold1v h) (by simp [Mem.ids]) (fun _ _ => trivial) ?_
  refine Goes.run [] [] trivial ?_
  refine Goes.new1 w.heap.size (fun w' h => h.1.size) fun g4 hg4 => ?_
  refine Goes.run [] [] trivial ?_
  refine Goes.new1 w.heap.size (fun w' h => h.1.size) fun g5 hg5 => ?_
  refine Goes.run [1, 0, 0, 1] [(true, true), (false, false), (false, false)] ⟨rfl, rfl, rfl, trivial⟩ ?_
  refine Goes.open [1, 2] ?_
  refine Goes.run [0, 1, 2, 0, 3, 4, 5, 0, 6, 7] [] trivial ?_
  refine Goes.valA 8 (Instr.indexAt 123 (.pointer (some ⟨g, 0, none⟩)) (.int .i64 xb)) (.pointer (some ⟨g, xb.toNat, none⟩)) (fun w' _ => idxRg g hb w') ?_
  refine Goes.lone1 9 (TookS.valV 9 (Instr.loadAt 2 (.pointer (some ⟨g, xb.toNat, none⟩))) (.int .i64 (r.get xb)) (fun w' hm _ => rn_ld (hm.get 0) (by omega)) ?_)
  refine Goes.run [10] [] trivial ?_
  refine Goes.callK 11 0 g 113 #[.pointer (some ⟨g, 0, none⟩), .int .i64 to, .bool (r.get xb == 0)] (.tuple #[]) (rnO (r.go to (r.get xb == 0))) (fun w' hm hI => jump_any (hm.get 0) to _) [(g4, .cells (iC ⟨19, xa, xb, xc, xn, s, to⟩).toArray 72 (0, 0)), (g5, .cells #[.int .i64 day, .slice a N c] 79 (0, 0))] (fun q hq => by simp at hq; rcases hq with rfl | rfl <;> simp only <;> omega) ?_
  refine Goes.run [] [] trivial ?_
  exact Goes.ret [] (.tuple #[]) fun w' hm hI => ⟨rfl, hI.now.1, hm.get 0⟩
set_option maxHeartbeats 2000000 in
set_option maxRecDepth 100000 in
seal rn rnN rnS Goes ans atEnd put0 put putM opened openedY putA0 putA oneSt st0 keep mkSt newSt rnO in
theorem do_20 (h : w.heap[g]? = some (rnO r)) {day xa xb xc xn to : Int} {s : List UInt8} (H : DoH n0 g fs (.slice a N c) w day xa xb xc xn 20) : Calls Tryz.prog 67 #[.pointer (some ⟨g, 0, none⟩), iV ⟨20, xa, xb, xc, xn, s, to⟩, dwV day (.slice a N c)] w (RnQ g w (doQ fs day ⟨20, xa, xb, xc, xn, s, to⟩ r)) := by
  obtain ⟨hR, hE, hg0, hd, ha, hb, hc, hn⟩ := H
  have hlt := lt_of_get h
  rw [show doQ fs day ⟨20, xa, xb, xc, xn, s, to⟩ r = r.go to true from rfl]
  refine Goes.begin Tryz.func67 [(g, rnO r)] (fun _ => True) (hold1v h) (by simp [Mem.ids]) (fun _ _ => trivial) ?_
  refine Goes.run [] [] trivial ?_
  refine Goes.new1 w.heap.size (fun w' h => h.1.size) fun g4 hg4 => ?_
  refine Goes.run [] [] trivial ?_
  refine Goes.new1 w.heap.size (fun w' h => h.1.size) fun g5 hg5 => ?_
  refine Goes.run [1, 0, 0, 0, 1, 1] [(true, true), (false, false), (false, false), (false, false)] ⟨rfl, rfl, rfl, rfl, trivial⟩ ?_
  refine Goes.call2 0 g 113 #[.pointer (some ⟨g, 0, none⟩), .int .i64 to, .bool (true)] (.tuple #[]) (rnO (r.go to (true))) (fun w' hm hI => jump_any (hm.get 0) to _) ?_
  refine Goes.run [] [] trivial ?_
  exact Goes.ret [] (.tuple #[]) fun w' hm hI => ⟨rfl, hI.now.1, hm.get 0⟩
set_option maxHeartbeats 2000000 in
set_option maxRecDepth 100000 in
seal rn rnN rnS Goes ans atEnd put0 put putM opened openedY putA0 putA oneSt st0 keep mkSt newSt rnO in
theorem do_21 (h : w.heap[g]? = some (rnO r)) {day xa xb xc xn to : Int} {s : List UInt8} (H : DoH n0 g fs (.slice a N c) w day xa xb xc xn 21) : Calls Tryz.prog 67 #[.pointer (some ⟨g, 0, none⟩), iV ⟨21, xa, xb, xc, xn, s, to⟩, dwV day (.slice a N c)] w (RnQ g w (doQ fs day ⟨21, xa, xb, xc, xn, s, to⟩ r)) := by
  obtain ⟨hR, hE, hg0, hd, ha, hb, hc, hn⟩ := H
  have hlt := lt_of_get h
  rw [show doQ fs day ⟨21, xa, xb, xc, xn, s, to⟩ r = r.go to (decide (day > xn)) from rfl]
  refine Goes.begin Tryz.func67 [(g, rnO r)] (fun _ => True) (hold1v h) (by simp [Mem.ids]) (fun _ _ => trivial) ?_
  refine Goes.run [] [] trivial ?_
  refine Goes.new1 w.heap.size (fun w' h => h.1.size) fun g4 hg4 => ?_
  refine Goes.run [] [] trivial ?_
  refine Goes.new1 w.heap.size (fun w' h => h.1.size) fun g5 hg5 => ?_
  refine Goes.run [1, 0, 0, 0, 0, 1, 1, 2, 1] [(true, true), (false, false), (false, false), (false, false), (false, false)] ⟨rfl, rfl, rfl, rfl, rfl, trivial⟩ ?_
  refine Goes.call2 0 g 113 #[.pointer (some ⟨g, 0, none⟩), .int .i64 to, .bool (decide (day > xn))] (.tuple #[]) (rnO (r.go to (decide (day > xn)))) (fun w' hm hI => jump_any (hm.get 0) to _) ?_
  refine Goes.run [] [] trivial ?_
  exact Goes.ret [] (.tuple #[]) fun w' hm hI => ⟨rfl, hI.now.1, hm.get 0⟩
set_option maxHeartbeats 2000000 in
set_option maxRecDepth 100000 in
seal rn rnN rnS Goes ans atEnd put0 put putM opened openedY putA0 putA oneSt st0 keep mkSt newSt rnO in
theorem do_22 (h : w.heap[g]? = some (rnO r)) {day xa xb xc xn to : Int} {s : List UInt8} (H : DoH n0 g fs (.slice a N c) w day xa xb xc xn 22) : Calls Tryz.prog 67 #[.pointer (some ⟨g, 0, none⟩), iV ⟨22, xa, xb, xc, xn, s, to⟩, dwV day (.slice a N c)] w (RnQ g w (doQ fs day ⟨22, xa, xb, xc, xn, s, to⟩ r)) := by
  obtain ⟨hR, hE, hg0, hd, ha, hb, hc, hn⟩ := H
  have hlt := lt_of_get h
  rw [show doQ fs day ⟨22, xa, xb, xc, xn, s, to⟩ r = r.go to (decide (day < xn)) from rfl]
  refine Goes.begin Tryz.func67 [(g, rnO r)] (fun _ => True) (hold1v h) (by simp [Mem.ids]) (fun _ _ => trivial) ?_
  refine Goes.run [] [] trivial ?_
  refine Goes.new1 w.heap.size (fun w' h => h.1.size) fun g4 hg4 => ?_
  refine Goes.run [] [] trivial ?_
  refine Goes.new1 w.heap.size (fun w' h => h.1.size) fun g5 hg5 => ?_
  refine Goes.run [1, 0, 0, 0, 0, 0, 1, 1, 2, 1] [(true, true), (false, false), (false, false), (false, false), (false, false), (false, false)] ⟨rfl, rfl, rfl, rfl, rfl, rfl, trivial⟩ ?_
  refine Goes.call2 0 g 113 #[.pointer (some ⟨g, 0, none⟩), .int .i64 to, .bool (decide (day < xn))] (.tuple #[]) (rnO (r.go to (decide (day < xn)))) (fun w' hm hI => jump_any (hm.get 0) to _) ?_
  refine Goes.run [] [] trivial ?_
  exact Goes.ret [] (.tuple #[]) fun w' hm hI => ⟨rfl, hI.now.1, hm.get 0⟩
set_option maxHeartbeats 2000000 in
set_option maxRecDepth 100000 in
seal rn rnN rnS Goes ans atEnd put0 put putM opened openedY putA0 putA oneSt st0 keep mkSt newSt rnO in
theorem do_23 (h : w.heap[g]? = some (rnO r)) {day xa xb xc xn to : Int} {s : List UInt8} (H : DoH n0 g fs (.slice a N c) w day xa xb xc xn 23) : Calls Tryz.prog 67 #[.pointer (some ⟨g, 0, none⟩), iV ⟨23, xa, xb, xc, xn, s, to⟩, dwV day (.slice a N c)] w (RnQ g w (doQ fs day ⟨23, xa, xb, xc, xn, s, to⟩ r)) := by
  obtain ⟨hR, hE, hg0, hd, ha, hb, hc, hn⟩ := H
  have hlt := lt_of_get h
  rw [show doQ fs day ⟨23, xa, xb, xc, xn, s, to⟩ r = r.fac (mulI r.f (r.get xb)) from rfl]
  refine Goes.begin Tryz.func67 [(g, rnO r)] (fun _ => True) (hold1v h) (by simp [Mem.ids]) (fun _ _ => trivial) ?_
  refine Goes.run [] [] trivial ?_
  refine Goes.new1 w.heap.size (fun w' h => h.1.size) fun g4 hg4 => ?_
  refine Goes.run [] [] trivial ?_
  refine Goes.new1 w.heap.size (fun w' h => h.1.size) fun g5 hg5 => ?_
  refine Goes.run [1, 0, 0, 0, 0, 0, 0, 1] [(true, true), (false, false), (false, false), (false, false), (false, false), (false, false), (false, false)] ⟨rfl, rfl, rfl, rfl, rfl, rfl, rfl, trivial⟩ ?_
  refine Goes.open [1, 2] ?_
  refine Goes.run [0, 1, 2, 3, 5, 6, 7, 0, 8, 9] [] trivial ?_
  refine Goes.valA 10 (Instr.indexAt 123 (.pointer (some ⟨g, 0, none⟩)) (.int .i64 xb)) (.pointer (some ⟨g, xb.toNat, none⟩)) (fun w' _ => idxRg g hb w') ?_
  refine Goes.two 4 11 (TookS.valV 4 (Instr.loadAt 2 (.pointer (some ⟨g, 257, none⟩))) (.int .i64 r.f) (fun w' hm _ => rn_ldF (hm.get 0)) (Goes.lone1 11 (TookS.valV 11 (Instr.loadAt 2 (.pointer (some ⟨g, xb.toNat, none⟩))) (.int .i64 (r.get xb)) (fun w' hm _ => rn_ld (hm.get 0) (by omega)) ?_))) (TookS.valV 11 (Instr.loadAt 2 (.pointer (some ⟨g, xb.toNat, none⟩))) (.int .i64 (r.get xb)) (fun w' hm _ => rn_ld (hm.get 0) (by omega)) (Goes.lone1 4 (TookS.valV 4 (Instr.loadAt 2 (.pointer (some ⟨g, 257, none⟩))) (.int .i64 r.f) (fun w' hm _ => rn_ldF (hm.get 0)) ?_)))
  · skip
    refine Goes.callA0 12 114 #[.int .i64 r.f, .int .i64 (r.get xb)] (.int .i64 (mulI r.f (r.get xb))) (fun w' _ hI => (mul_any r.f (r.get xb) w').mono fun _ _ h => belD h) ?_
    refine Goes.run [13, 14] [] trivial ?_
    refine Goes.lone1 15 (TookS.stoK 15 0 g (Instr.storeAt 2 (.pointer (some ⟨g, 257, none⟩)) (.int .i64 (mulI r.f (r.get xb)))) (rnO (r.fac (mulI r.f (r.get xb)))) (fun w' hm => rn_stF (hm.get 0) _) [(g4, .cells (iC ⟨23, xa, xb, xc, xn, s, to⟩).toArray 72 (0, 0)), (g5, .cells #[.int .i64 day, .slice a N c] 79 (0, 0))] (fun q hq => by simp at hq; rcases hq with rfl | rfl <;> simp only <;> omega) ?_)
    refine Goes.run [] [] trivial ?_
    exact Goes.ret [] (.tuple #[]) fun w' hm hI => ⟨rfl, hI.now.1, hm.get 0⟩
  · skip
    refine Goes.callA0 12 114 #[.int .i64 r.f, .int .i64 (r.get xb)] (.int .i64 (mulI r.f (r.get xb))) (fun w' _ hI => (mul_any r.f (r.get xb) w').mono fun _ _ h => belD h) ?_
    refine Goes.run [13, 14] [] trivial ?_
    refine Goes.lone1 15 (TookS.stoK 15 0 g (Instr.storeAt 2 (.pointer (some ⟨g, 257, none⟩)) (.int .i64 (mulI r.f (r.get xb)))) (rnO (r.fac (mulI r.f (r.get xb)))) (fun w' hm => rn_stF (hm.get 0) _) [(g4, .cells (iC ⟨23, xa, xb, xc, xn, s, to⟩).toArray 72 (0, 0)), (g5, .cells #[.int .i64 day, .slice a N c] 79 (0, 0))] (fun q hq => by simp at hq; rcases hq with rfl | rfl <;> simp only <;> omega) ?_)
    refine Goes.run [] [] trivial ?_
    exact Goes.ret [] (.tuple #[]) fun w' hm hI => ⟨rfl, hI.now.1, hm.get 0⟩
set_option maxHeartbeats 2000000 in
set_option maxRecDepth 100000 in
seal rn rnN rnS Goes ans atEnd put0 put putM opened openedY putA0 putA oneSt st0 keep mkSt newSt rnO in
theorem do_24 (h : w.heap[g]? = some (rnO r)) {day xa xb xc xn to : Int} {s : List UInt8} (H : DoH n0 g fs (.slice a N c) w day xa xb xc xn 24) : Calls Tryz.prog 67 #[.pointer (some ⟨g, 0, none⟩), iV ⟨24, xa, xb, xc, xn, s, to⟩, dwV day (.slice a N c)] w (RnQ g w (doQ fs day ⟨24, xa, xb, xc, xn, s, to⟩ r)) := by
  obtain ⟨hR, hE, hg0, hd, ha, hb, hc, hn⟩ := H
  have hlt := lt_of_get h
  rw [show doQ fs day ⟨24, xa, xb, xc, xn, s, to⟩ r = r.fac (- clampI r.f) from rfl]
  refine Goes.begin Tryz.func67 [(g, rnO r)] (fun _ => True) (hold1v h) (by simp [Mem.ids]) (fun _ _ => trivial) ?_
  refine Goes.run [] [] trivial ?_
  refine Goes.new1 w.heap.size (fun w' h => h.1.size) fun g4 hg4 => ?_
  refine Goes.run [] [] trivial ?_
  refine Goes.new1 w.heap.size (fun w' h => h.1.size) fun g5 hg5 => ?_
  refine Goes.run [1, 0, 0, 0, 0, 0, 0, 0, 1] [(true, true), (false, false), (false, false), (false, false), (false, false), (false, false), (false, false), (false, false)] ⟨rfl, rfl, rfl, rfl, rfl, rfl, rfl, rfl, trivial⟩ ?_
  refine Goes.val (Instr.loadAt 2 (.pointer (some ⟨g, 257, none⟩))) (.int .i64 r.f) (fun w' hm _ => rn_ldF (hm.get 0)) ?_
  refine Goes.call0 115 #[.int .i64 r.f] (.int .i64 (- clampI r.f)) (fun w' _ hI => (neg_any r.f w').mono fun _ _ h => belQ h) ?_
  refine Goes.run [] [] trivial ?_
  refine Goes.stoK 0 g (Instr.storeAt 2 (.pointer (some ⟨g, 257, none⟩)) (.int .i64 (- clampI r.f))) (rnO (r.fac (- clampI r.f))) (fun w' hm => rn_stF (hm.get 0) _) ?_
  refine Goes.run [] [] trivial ?_
  exact Goes.ret [] (.tuple #[]) fun w' hm hI => ⟨rfl, hI.now.1, hm.get 0⟩
set_option maxHeartbeats 2000000 in
set_option maxRecDepth 100000 in
seal rn rnN rnS Goes ans atEnd put0 put putM opened openedY putA0 putA oneSt st0 keep mkSt newSt rnO in
theorem do_25 (h : w.heap[g]? = some (rnO r)) {day xa xb xc xn to : Int} {s : List UInt8} (H : DoH n0 g fs (.slice a N c) w day xa xb xc xn 25) : Calls Tryz.prog 67 #[.pointer (some ⟨g, 0, none⟩), iV ⟨25, xa, xb, xc, xn, s, to⟩, dwV day (.slice a N c)] w (RnQ g w (doQ fs day ⟨25, xa, xb, xc, xn, s, to⟩ r)) := by
  obtain ⟨hR, hE, hg0, hd, ha, hb, hc, hn⟩ := H
  have hlt := lt_of_get h
  rw [show doQ fs day ⟨25, xa, xb, xc, xn, s, to⟩ r = r.put xa r.f from rfl]
  refine Goes.begin Tryz.func67 [(g, rnO r)] (fun _ => True) (hold1v h) (by simp [Mem.ids]) (fun _ _ => trivial) ?_
  refine Goes.run [] [] trivial ?_
  refine Goes.new1 w.heap.size (fun w' h => h.1.size) fun g4 hg4 => ?_
  refine Goes.run [] [] trivial ?_
  refine Goes.new1 w.heap.size (fun w' h => h.1.size) fun g5 hg5 => ?_
  refine Goes.run [1, 0, 0, 0, 0, 0, 0, 0, 0, 1] [(true, true), (false, false), (false, false), (false, false), (false, false), (false, false), (false, false), (false, false), (false, false)] ⟨rfl, rfl, rfl, rfl, rfl, rfl, rfl, rfl, rfl, trivial⟩ ?_
  refine Goes.open [1, 2] ?_
  refine Goes.run [0, 1, 2, 0, 3, 4, 5, 7, 8] [] trivial ?_
  refine Goes.lone1 6 (TookS.valV 6 (Instr.loadAt 2 (.pointer (some ⟨g, 257, none⟩))) (.int .i64 r.f) (fun w' hm _ => rn_ldF (hm.get 0)) ?_)
  refine Goes.valA 9 (Instr.indexAt 123 (.pointer (some ⟨g, 0, none⟩)) (.int .i64 xa)) (.pointer (some ⟨g, xa.toNat, none⟩)) (fun w' _ => idxRg g ha w') ?_
  refine Goes.lone1 10 (TookS.stoK 10 0 g (Instr.storeAt 2 (.pointer (some ⟨g, xa.toNat, none⟩)) (.int .i64 (r.f))) (rnO (r.put xa (r.f))) (fun w' hm => rn_st (hm.get 0) ha _) [(g4, .cells (iC ⟨25, xa, xb, xc, xn, s, to⟩).toArray 72 (0, 0)), (g5, .cells #[.int .i64 day, .slice a N c] 79 (0, 0))] (fun q hq => by simp at hq; rcases hq with rfl | rfl <;> simp only <;> omega) ?_)
  refine Goes.run [] [] trivial ?_
  exact Goes.ret [] (.tuple #[]) fun w' hm hI => ⟨rfl, hI.now.1, hm.get 0⟩
set_option maxHeartbeats 2000000 in
set_option maxRecDepth 100000 in
seal rn rnN rnS Goes ans atEnd put0 put putM opened openedY putA0 putA oneSt st0 keep mkSt newSt rnO in
theorem do_26 (h : w.heap[g]? = some (rnO r)) {day xa xb xc xn to : Int} {s : List UInt8} (H : DoH n0 g fs (.slice a N c) w day xa xb xc xn 26) : Calls Tryz.prog 67 #[.pointer (some ⟨g, 0, none⟩), iV ⟨26, xa, xb, xc, xn, s, to⟩, dwV day (.slice a N c)] w (RnQ g w (doQ fs day ⟨26, xa, xb, xc, xn, s, to⟩ r)) := by
  obtain ⟨hR, hE, hg0, hd, ha, hb, hc, hn⟩ := H
  have hlt := lt_of_get h
  rw [show doQ fs day ⟨26, xa, xb, xc, xn, s, to⟩ r = r.fac (clampI (r.get xb)) from rfl]
  refine Goes.begin Tryz.func67 [(g, rnO r)] (fun _ => True) (hold1v h) (by simp [Mem.ids]) (fun _ _ => trivial) ?_
  refine Goes.run [] [] trivial ?_
  refine Goes.new1 w.heap.size (fun w' h => h.1.size) fun g4 hg4 => ?_
  refine Goes.run [] [] trivial ?_
  refine Goes.new1 w.heap.size (fun w' h => h.1.size) fun g5 hg5 => ?_
  refine Goes.run [1, 0, 0, 0, 0, 0, 0, 0, 0, 0, 1] [(true, true), (false, false), (false, false), (false, false), (false, false), (false, false), (false, false), (false, false), (false, false), (false, false)] ⟨rfl, rfl, rfl, rfl, rfl, rfl, rfl, rfl, rfl, rfl, trivial⟩ ?_
  refine Goes.open [1, 2] ?_
  refine Goes.run [0, 1, 2, 3, 0, 4, 5] [] trivial ?_
  refine Goes.valA 6 (Instr.indexAt 123 (.pointer (some ⟨g, 0, none⟩)) (.int .i64 xb)) (.pointer (some ⟨g, xb.toNat, none⟩)) (fun w' _ => idxRg g hb w') ?_
  refine Goes.lone1 7 (TookS.valV 7 (Instr.loadAt 2 (.pointer (some ⟨g, xb.toNat, none⟩))) (.int .i64 (r.get xb)) (fun w' hm _ => rn_ld (hm.get 0) (by omega)) ?_)
  refine Goes.callA0 8 116 #[.int .i64 (r.get xb)] (.int .i64 (clampI (r.get xb))) (fun w' _ hI => (clamp_any (r.get xb) w').mono fun _ _ h => belQ h) ?_
  refine Goes.run [9, 10] [] trivial ?_
  refine Goes.lone1 11 (TookS.stoK 11 0 g (Instr.storeAt 2 (.pointer (some ⟨g, 257, none⟩)) (.int .i64 (clampI (r.get xb)))) (rnO (r.fac (clampI (r.get xb)))) (fun w' hm => rn_stF (hm.get 0) _) [(g4, .cells (iC ⟨26, xa, xb, xc, xn, s, to⟩).toArray 72 (0, 0)), (g5, .cells #[.int .i64 day, .slice a N c] 79 (0, 0))] (fun q hq => by simp at hq; rcases hq with rfl | rfl <;> simp only <;> omega) ?_)
  refine Goes.run [] [] trivial ?_
  exact Goes.ret [] (.tuple #[]) fun w' hm hI => ⟨rfl, hI.now.1, hm.get 0⟩
set_option maxHeartbeats 2000000 in
set_option maxRecDepth 100000 in
seal rn rnN rnS Goes ans atEnd put0 put putM opened openedY putA0 putA oneSt st0 keep mkSt newSt rnO in
theorem do_1 (h : w.heap[g]? = some (rnO r)) {day xa xb xc xn to : Int} {s : List UInt8} (H : DoH n0 g fs (.slice a N c) w day xa xb xc xn 1) : Calls Tryz.prog 67 #[.pointer (some ⟨g, 0, none⟩), iV ⟨1, xa, xb, xc, xn, s, to⟩, dwV day (.slice a N c)] w (RnQ g w (doQ fs day ⟨1, xa, xb, xc, xn, s, to⟩ r)) := by
  obtain ⟨hR, hE, hg0, hd, ha, hb, hc, hn⟩ := H
  have hlt := lt_of_get h
  rw [show doQ fs day ⟨1, xa, xb, xc, xn, s, to⟩ r = r.put xa xn from rfl]
  refine Goes.begin Tryz.func67 [(g, rnO r)] (fun _ => True) (hold1v h) (by simp [Mem.ids]) (fun _ _ => trivial) ?_
  refine Goes.run [] [] trivial ?_
  refine Goes.new1 w.heap.size (fun w' h => h.1.size) fun g4 hg4 => ?_
  refine Goes.run [] [] trivial ?_
  refine Goes.new1 w.heap.size (fun w' h => h.1.size) fun g5 hg5 => ?_
  refine Goes.run [1, 0, 0, 0, 0, 0, 0, 0, 0, 0, 0, 1] [(true, true), (false, false), (false, false), (false, false), (false, false), (false, false), (false, false), (false, false), (false, false), (false, false), (false, false)] ⟨rfl, rfl, rfl, rfl, rfl, rfl, rfl, rfl, rfl, rfl, rfl, trivial⟩ ?_
  refine Goes.open [1, 2] ?_
  refine Goes.run [0, 1, 2, 0, 3, 4, 0, 5, 6] [] trivial ?_
  refine Goes.valA 7 (Instr.indexAt 123 (.pointer (some ⟨g, 0, none⟩)) (.int .i64 xa)) (.pointer (some ⟨g, xa.toNat, none⟩)) (fun w' _ => idxRg g ha w') ?_
  refine Goes.lone1 8 (TookS.stoK 8 0 g (Instr.storeAt 2 (.pointer (some ⟨g, xa.toNat, none⟩)) (.int .i64 (xn))) (rnO (r.put xa (xn))) (fun w' hm => rn_st (hm.get 0) ha _) [(g4, .cells (iC ⟨1, xa, xb, xc, xn, s, to⟩).toArray 72 (0, 0)), (g5, .cells #[.int .i64 day, .slice a N c] 79 (0, 0))] (fun q hq => by simp at hq; rcases hq with rfl | rfl <;> simp only <;> omega) ?_)
  refine Goes.run [] [] trivial ?_
  exact Goes.ret [] (.tuple #[]) fun w' hm hI => ⟨rfl, hI.now.1, hm.get 0⟩
set_option maxHeartbeats 2000000 in
set_option maxRecDepth 100000 in
seal rn rnN rnS Goes ans atEnd put0 put putM opened openedY putA0 putA oneSt st0 keep mkSt newSt rnO in
theorem do_rest (h : w.heap[g]? = some (rnO r)) {day xa xb xc xn to : Int} {s : List UInt8} {op : Int} (h2 : (op == 2) = false) (h3 : (op == 3) = false) (h19 : (op == 19) = false) (h20 : (op == 20) = false) (h21 : (op == 21) = false) (h22 : (op == 22) = false) (h23 : (op == 23) = false) (h24 : (op == 24) = false) (h25 : (op == 25) = false) (h26 : (op == 26) = false) (h1 : (op == 1) = false) (H : DoH n0 g fs (.slice a N c) w day xa xb xc xn op) : Calls Tryz.prog 67 #[.pointer (some ⟨g, 0, none⟩), iV ⟨op, xa, xb, xc, xn, s, to⟩, dwV day (.slice a N c)] w (RnQ g w (doQ fs day ⟨op, xa, xb, xc, xn, s, to⟩ r)) := by
  obtain ⟨hR, hE, hg0, hd, ha, hb, hc, hn⟩ := H
  have hlt := lt_of_get h
  rw [show doQ fs day ⟨op, xa, xb, xc, xn, s, to⟩ r = r.put xa (vkP op (r.get xb) (r.get xc)) by unfold doQ; simp only [h2, h3, h19, h20, h21, h22, h23, h24, h25, h26, h1, cond_false]]
  refine Goes.begin Tryz.func67 [(g, rnO r)] (fun _ => True) (hold1v h) (by simp [Mem.ids]) (fun _ _ => trivial) ?_
  refine Goes.run [] [] trivial ?_
  refine Goes.new1 w.heap.size (fun w' h => h.1.size) fun g4 hg4 => ?_
  refine Goes.run [] [] trivial ?_
  refine Goes.new1 w.heap.size (fun w' h => h.1.size) fun g5 hg5 => ?_
  refine Goes.run [1, 0, 0, 0, 0, 0, 0, 0, 0, 0, 0, 0] [(op == 1, false), (op == 26, false), (op == 25, false), (op == 24, false), (op == 23, false), (op == 22, false), (op == 21, false), (op == 20, false), (op == 19, false), (op == 3, false), (op == 2, false)] ⟨h1, h26, h25, h24, h23, h22, h21, h20, h19, h3, h2, trivial⟩ ?_
  refine Goes.open [1, 2] ?_
  refine Goes.run [0, 1, 2, 0, 3, 4, 0, 5, 6, 7, 0, 8, 9, 12, 13, 14, 0, 15, 16, 20, 21] [] trivial ?_
  refine Goes.valA 10 (Instr.indexAt 123 (.pointer (some ⟨g, 0, none⟩)) (.int .i64 xb)) (.pointer (some ⟨g, xb.toNat, none⟩)) (fun w' _ => idxRg g hb w') ?_
  refine Goes.valA 17 (Instr.indexAt 123 (.pointer (some ⟨g, 0, none⟩)) (.int .i64 xc)) (.pointer (some ⟨g, xc.toNat, none⟩)) (fun w' _ => idxRg g hc w') ?_
  refine Goes.two 11 18 (TookS.valV 11 (Instr.loadAt 2 (.pointer (some ⟨g, xb.toNat, none⟩))) (.int .i64 (r.get xb)) (fun w' hm _ => rn_ld (hm.get 0) (by omega)) (Goes.lone1 18 (TookS.valV 18 (Instr.loadAt 2 (.pointer (some ⟨g, xc.toNat, none⟩))) (.int .i64 (r.get xc)) (fun w' hm _ => rn_ld (hm.get 0) (by omega)) ?_))) (TookS.valV 18 (Instr.loadAt 2 (.pointer (some ⟨g, xc.toNat, none⟩))) (.int .i64 (r.get xc)) (fun w' hm _ => rn_ld (hm.get 0) (by omega)) (Goes.lone1 11 (TookS.valV 11 (Instr.loadAt 2 (.pointer (some ⟨g, xb.toNat, none⟩))) (.int .i64 (r.get xb)) (fun w' hm _ => rn_ld (hm.get 0) (by omega)) ?_)))
  · skip
    refine Goes.callA0 19 117 #[.int .i64 op, .int .i64 (r.get xb), .int .i64 (r.get xc)] (.int .i64 (vkP op (r.get xb) (r.get xc))) (fun w' _ hI => vreck_any op _ _ w' (hE.ch hI.now.1 hg0).tb) ?_
    refine Goes.valA 22 (Instr.indexAt 123 (.pointer (some ⟨g, 0, none⟩)) (.int .i64 xa)) (.pointer (some ⟨g, xa.toNat, none⟩)) (fun w' _ => idxRg g ha w') ?_
    refine Goes.lone1 23 (TookS.stoK 23 0 g (Instr.storeAt 2 (.pointer (some ⟨g, xa.toNat, none⟩)) (.int .i64 (vkP op (r.get xb) (r.get xc)))) (rnO (r.put xa (vkP op (r.get xb) (r.get xc)))) (fun w' hm => rn_st (hm.get 0) ha _) [(g4, .cells (iC ⟨op, xa, xb, xc, xn, s, to⟩).toArray 72 (0, 0)), (g5, .cells #[.int .i64 day, .slice a N c] 79 (0, 0))] (fun q hq => by simp at hq; rcases hq with rfl | rfl <;> simp only <;> omega) ?_)
    refine Goes.run [] [] trivial ?_
    exact Goes.ret [] (.tuple #[]) fun w' hm hI => ⟨rfl, hI.now.1, hm.get 0⟩
  · skip
    refine Goes.callA0 19 117 #[.int .i64 op, .int .i64 (r.get xb), .int .i64 (r.get xc)] (.int .i64 (vkP op (r.get xb) (r.get xc))) (fun w' _ hI => vreck_any op _ _ w' (hE.ch hI.now.1 hg0).tb) ?_
    refine Goes.valA 22 (Instr.indexAt 123 (.pointer (some ⟨g, 0, none⟩)) (.int .i64 xa)) (.pointer (some ⟨g, xa.toNat, none⟩)) (fun w' _ => idxRg g ha w') ?_
    refine Goes.lone1 23 (TookS.stoK 23 0 g (Instr.storeAt 2 (.pointer (some ⟨g, xa.toNat, none⟩)) (.int .i64 (vkP op (r.get xb) (r.get xc)))) (rnO (r.put xa (vkP op (r.get xb) (r.get xc)))) (fun w' hm => rn_st (hm.get 0) ha _) [(g4, .cells (iC ⟨op, xa, xb, xc, xn, s, to⟩).toArray 72 (0, 0)), (g5, .cells #[.int .i64 day, .slice a N c] 79 (0, 0))] (fun q hq => by simp at hq; rcases hq with rfl | rfl <;> simp only <;> omega) ?_)
    refine Goes.run [] [] trivial ?_
    exact Goes.ret [] (.tuple #[]) fun w' hm hI => ⟨rfl, hI.now.1, hm.get 0⟩
theorem vdo_any (h : w.heap[g]? = some (rnO r)) (hR : RFd fs) (hE : En n0 fs (.slice a N c) w) (hg0 : n0 ≤ g) {day : Int} (hd : 0 ≤ day ∧ day ≤ 73048) {k : Kd} {i : Nat} {x : Ik} (hx : XOk k i x) : Calls Tryz.prog 67 #[.pointer (some ⟨g, 0, none⟩), iV x, dwV day (.slice a N c)] w (RnQ g w (doQ fs day x r)) := by
  obtain ⟨op, xa, xb, xc, xn, s, to⟩ := x
  obtain ⟨ha, hb, hc, hn, -, -, -, -⟩ := hx
  cases h2 : (op == 2) with
  | true => obtain rfl := eq_of_beq h2; exact do_2 h ⟨hR, hE, hg0, hd, ha, hb, hc, hn⟩
  | false =>
  cases h3 : (op == 3) with
  | true => obtain rfl := eq_of_beq h3; exact do_3 h ⟨hR, hE, hg0, hd, ha, hb, hc, hn⟩
  | false =>
  cases h19 : (op == 19) with
  | true => obtain rfl := eq_of_beq h19; exact do_19 h ⟨hR, hE, hg0, hd, ha, hb, hc, hn⟩
  | false =>
  cases h20 : (op == 20) with
  | true => obtain rfl := eq_of_beq h20; exact do_20 h ⟨hR, hE, hg0, hd, ha, hb, hc, hn⟩
  | false =>
  cases h21 : (op == 21) with
  | true => obtain rfl := eq_of_beq h21; exact do_21 h ⟨hR, hE, hg0, hd, ha, hb, hc, hn⟩
  | false =>
  cases h22 : (op == 22) with
  | true => obtain rfl := eq_of_beq h22; exact do_22 h ⟨hR, hE, hg0, hd, ha, hb, hc, hn⟩
  | false =>
  cases h23 : (op == 23) with
  | true => obtain rfl := eq_of_beq h23; exact do_23 h ⟨hR, hE, hg0, hd, ha, hb, hc, hn⟩
  | false =>
  cases h24 : (op == 24) with
  | true => obtain rfl := eq_of_beq h24; exact do_24 h ⟨hR, hE, hg0, hd, ha, hb, hc, hn⟩
  | false =>
  cases h25 : (op == 25) with
  | true => obtain rfl := eq_of_beq h25; exact do_25 h ⟨hR, hE, hg0, hd, ha, hb, hc, hn⟩
  | false =>
  cases h26 : (op == 26) with
  | true => obtain rfl := eq_of_beq h26; exact do_26 h ⟨hR, hE, hg0, hd, ha, hb, hc, hn⟩
  | false =>
  cases h1 : (op == 1) with
  | true => obtain rfl := eq_of_beq h1; exact do_1 h ⟨hR, hE, hg0, hd, ha, hb, hc, hn⟩
  | false =>
  exact do_rest h h2 h3 h19 h20 h21 h22 h23 h24 h25 h26 h1 ⟨hR, hE, hg0, hd, ha, hb, hc, hn⟩
end
end Go.Proofs.YtddbiiejilcbbaaGreatDoor
namespace Go.Proofs.YtddbiiejilcbbaaGreatDoor
open Go Go.RowKit

section
variable {w : World} {g : Nat} {day rg st : Int} {fv wv iv tv : Value} {a : Option Addr} {n c : Nat}
set_option maxRecDepth 100000 in
seal rn rnN rnS Goes ans atEnd put0 put putM opened openedY putA0 putA oneSt st0 keep mkSt newSt in
theorem vtoo_any (hg : w.heap[g]? = some (vmO day fv rg wv iv (.slice a n c) tv st)) : Calls Tryz.prog 65 #[.pointer (some ⟨g, 0, none⟩)] w fun e w' => e = .returned (.bool (decide (st > 65536) || decide ((n : Int) > 250))) ∧ Below w.heap.size w w' := by
  refine Goes.begin Tryz.func65 [(g, vmO day fv rg wv iv (.slice a n c) tv st)] (fun _ => True) (hold1v hg) (by simp [Mem.ids]) (fun _ _ => trivial) ?_
  cases h : decide (st > 65536) with
  | true =>
    refine Goes.run [0, 1] [(decide (st > 65536), true)] ⟨h, trivial⟩ ?_
    exact Goes.ret [] (.bool true) fun w' hm hI => ⟨rfl, below_end (hold1v hg) hI.now.1 hm (by kernel_chk)⟩
  | false =>
    refine Goes.run [0, 0, 0] [(decide (st > 65536), false)] ⟨h, trivial⟩ ?_
    exact Goes.ret [] (.bool (decide ((n : Int) > 250))) fun w' hm hI => ⟨by rw [Bool.false_or], below_end (hold1v hg) hI.now.1 hm (by kernel_chk)⟩
end
set_option maxRecDepth 100000 in
seal rn rnN rnS Goes ans atEnd put0 put putM opened openedY putA0 putA oneSt st0 keep mkSt newSt in
theorem vpay_any {n0 g : Nat} {day rg st : Int} {fv wv iv lv tv : Value} {ls : List (Int × Int)} {ts : List (List UInt8 × Int)} {w : World} (hl : Hds n0 w lv ls) (ht : Trs n0 day w tv ts) (hg : w.heap[g]? = some (vmO day fv rg wv iv lv tv st)) (hn : n0 ≤ w.heap.size) (s : List UInt8) (f : Int) (hlen : ts.length + 1 ≤ 100000000) : Calls Tryz.prog 66 #[.pointer (some ⟨g, 0, none⟩), strV s, .int .i64 f] w (VQ n0 g day (vmB day fv rg wv iv st) w lv tv (.tuple #[]) ls (ts ++ bif f == 0 then [] else [(s, f)])) := by
  have hm0 : Holds [(g, vmO day fv rg wv iv lv tv st)] w := fun j b o h => by match j, h with | 0, h => (cases h; exact hg)
  refine Goes.enter Tryz.func66 [(g, vmO day fv rg wv iv lv tv st)] (McI n0 g day w lv tv lv tv ls ts) hm0 (by simp [Mem.ids]) ((McI.refl hl ht).stay ⟨_, _, _, hg, by decide, by decide⟩ (fun x hx => .inl (by simpa [Mem.ids] using hx))) ?_
  cases h0 : (f == 0) with
  | true =>
    refine Goes.run [0] [(f != 0, false)] ⟨by rw [bne, h0]; rfl, trivial⟩ ?_
    exact Goes.ret [] (.tuple #[]) fun w' hm hI => ⟨lv, tv, rfl, hm.get 0, by simpa using hI.now⟩
  | false =>
    refine Goes.run [1] [(f != 0, true)] ⟨by rw [bne, h0]; rfl, trivial⟩ ?_
    refine Goes.open [] ?_
    refine Goes.run [0, 1, 2, 3, 5, 6, 7, 8, 10, 11] [] trivial ?_
    refine Goes.two 4 9 (TookS.run 4 0 ?_) (TookS.run 9 0 ?_)
    · refine Goes.lone1 9 (TookS.run 9 0 ?_)
      refine Goes.run [12] [] trivial ?_
      refine Goes.lone1 13 (TookS.new1 13 0 [] (fun _ _ => Nat.zero_le _) fun gb _ => ?_)
      refine Goes.lone1 14 (TookS.eff 14 (Builtin.append_ #[38, 38] 38 #[tv, .slice (some ⟨gb, 0, none⟩) 1 1]) fun w1 hm1 hn1 hI1 => ?_)
      have z1 : w1.heap[gb]? = some (.cells #[.int .i64 day, strV s, .int .i64 f] 59 (0, 0)) := hm1.get 1
      obtain ⟨b, c', w2, hr, hI2, hk⟩ := hI1.now.pay (Nat.le_trans hn hI1.now.1.size) (s, f) z1 hlen (ty := 38) (c := 1)
      have z2 : w2.heap[g]? = some (vmO day fv rg wv iv lv tv st) := hk g _ _ _ (hm1.get 0) (by decide)
      refine ⟨_, w2, _, [(g, vmO day fv rg wv iv lv tv st)], hr, fun j b o h => by match j, h with | 0, h => (cases h; exact z2), by simp [Mem.ids], hI2.stay ⟨_, _, _, z2, by decide, by decide⟩ (fun x hx => .inl (by simpa [Mem.ids] using hx)), ?_⟩
      refine Goes.run [15, 16] [] trivial ?_
      refine Goes.lone1 17 (TookS.run 17 0 ?_)
      refine Goes.run [] [] trivial ?_
      exact Goes.ret [] (.tuple #[]) fun w' hm hI => ⟨lv, _, rfl, hm.get 0, hI.now⟩
    · refine Goes.run [12] [] trivial ?_
      refine Goes.two 4 13 (TookS.run 4 0 ?_) (TookS.new1 13 0 [] (fun _ _ => Nat.zero_le _) fun gb _ => ?_)
      · refine Goes.lone1 13 (TookS.new1 13 0 [] (fun _ _ => Nat.zero_le _) fun gb _ => ?_)
        refine Goes.lone1 14 (TookS.eff 14 (Builtin.append_ #[38, 38] 38 #[tv, .slice (some ⟨gb, 0, none⟩) 1 1]) fun w1 hm1 hn1 hI1 => ?_)
        have z1 : w1.heap[gb]? = some (.cells #[.int .i64 day, strV s, .int .i64 f] 59 (0, 0)) := hm1.get 1
        obtain ⟨b, c', w2, hr, hI2, hk⟩ := hI1.now.pay (Nat.le_trans hn hI1.now.1.size) (s, f) z1 hlen (ty := 38) (c := 1)
        have z2 : w2.heap[g]? = some (vmO day fv rg wv iv lv tv st) := hk g _ _ _ (hm1.get 0) (by decide)
        refine ⟨_, w2, _, [(g, vmO day fv rg wv iv lv tv st)], hr, fun j b o h => by match j, h with | 0, h => (cases h; exact z2), by simp [Mem.ids], hI2.stay ⟨_, _, _, z2, by decide, by decide⟩ (fun x hx => .inl (by simpa [Mem.ids] using hx)), ?_⟩
        refine Goes.run [15, 16] [] trivial ?_
        refine Goes.lone1 17 (TookS.run 17 0 ?_)
        refine Goes.run [] [] trivial ?_
        exact Goes.ret [] (.tuple #[]) fun w' hm hI => ⟨lv, _, rfl, hm.get 0, hI.now⟩
      · refine Goes.lone1 4 (TookS.run 4 0 ?_)
        refine Goes.lone1 14 (TookS.eff 14 (Builtin.append_ #[38, 38] 38 #[tv, .slice (some ⟨gb, 0, none⟩) 1 1]) fun w1 hm1 hn1 hI1 => ?_)
        have z1 : w1.heap[gb]? = some (.cells #[.int .i64 day, strV s, .int .i64 f] 59 (0, 0)) := hm1.get 1
        obtain ⟨b, c', w2, hr, hI2, hk⟩ := hI1.now.pay (Nat.le_trans hn hI1.now.1.size) (s, f) z1 hlen (ty := 38) (c := 1)
        have z2 : w2.heap[g]? = some (vmO day fv rg wv iv lv tv st) := hk g _ _ _ (hm1.get 0) (by decide)
        refine ⟨_, w2, _, [(g, vmO day fv rg wv iv lv tv st)], hr, fun j b o h => by match j, h with | 0, h => (cases h; exact z2), by simp [Mem.ids], hI2.stay ⟨_, _, _, z2, by decide, by decide⟩ (fun x hx => .inl (by simpa [Mem.ids] using hx)), ?_⟩
        refine Goes.run [15, 16] [] trivial ?_
        refine Goes.lone1 17 (TookS.run 17 0 ?_)
        refine Goes.run [] [] trivial ?_
        exact Goes.ret [] (.tuple #[]) fun w' hm hI => ⟨lv, _, rfl, hm.get 0, hI.now⟩
section
variable {w : World} {g : Nat} {day rg st : Int} {fv wv iv : Value} {a at' : Option Addr} {n c nt ct : Nat}
set_option maxHeartbeats 2000000 in
set_option maxRecDepth 100000 in
seal rn rnN rnS Goes ans atEnd put0 put putM opened openedY putA0 putA oneSt st0 keep mkSt newSt in
theorem vdone_any (hg : w.heap[g]? = some (vmO day fv rg wv iv (.slice a n c) (.slice at' nt ct) st)) : Calls Tryz.prog 32 #[.pointer (some ⟨g, 0, none⟩)] w fun e w' => e = .returned (bif decide (st > 65536) || decide ((n : Int) > 250) then .tuple #[.slice none 0 0, .slice none 0 0, .int .i64 0, .int .i64 180] else .tuple #[.slice a n c, .slice at' nt ct, .int .i64 st, .int .i64 0]) ∧ Below w.heap.size w w' := by
  obtain ⟨B, hB⟩ : ∃ B, (decide (st > 65536) || decide ((n : Int) > 250)) = B := ⟨_, rfl⟩
  rw [hB]
  refine Goes.begin Tryz.func32 [(g, vmO day fv rg wv iv (.slice a n c) (.slice at' nt ct) st)] (fun _ => True) (hold1v hg) (by simp [Mem.ids]) (fun _ _ => trivial) ?_
  refine Goes.run [] [] trivial ?_
  refine Goes.call0 65 #[.pointer (some ⟨g, 0, none⟩)] (.bool B) (fun w' hm hI => hB ▸ vtoo_any (show w'.heap[g]? = some (vmO day fv rg wv iv (.slice a n c) (.slice at' nt ct) st) from hm.get 0)) ?_
  cases B with
  | true =>
    refine Goes.run [1] [(true, true)] ⟨rfl, trivial⟩ ?_
    exact Goes.ret [] (.tuple #[.slice none 0 0, .slice none 0 0, .int .i64 0, .int .i64 180]) fun w' hm hI => ⟨rfl, below_end (hold1v hg) hI.now.1 hm (by kernel_chk)⟩
  | false =>
    refine Goes.run [0] [(false, false)] ⟨rfl, trivial⟩ ?_
    refine Goes.open [0] ?_
    refine Goes.run [0, 1, 2, 3, 0, 4, 5, 6, 7, 0, 8, 9, 10, 11, 0, 12, 13, 14, 15] [] trivial ?_
    exact Goes.ret [] (.tuple #[.slice a n c, .slice at' nt ct, .int .i64 st, .int .i64 0]) fun w' hm hI => ⟨rfl, below_end (hold1v hg) hI.now.1 hm (by kernel_chk)⟩
set_option maxHeartbeats 2000000 in
set_option maxRecDepth 100000 in
seal rn rnN rnS Goes ans atEnd put0 put putM opened openedY putA0 putA oneSt st0 keep mkSt newSt in
theorem vmright_any {fs : Fs} {aW aI : Option Addr} {N cf nW cW nI cI : Nat} {hv tv : Value} {k : Kd} (hg : w.heap[g]? = some (vmO day (.slice a N cf) rg (.slice aW nW cW) (.slice aI nI cI) hv tv st)) (hF : Fds w.heap.size w (.slice a N cf) fs) (hl : ∀ f ∈ fs, f.1.length ≤ 9223372036854775807) (hU : TabU w) (hM : CdM w aW nW cW aI nI cI k) (hrg : k.regs = rg) (hwf : k.wf) : Calls Tryz.prog 30 #[.pointer (some ⟨g, 0, none⟩)] w fun e w' => e = .returned (.bool (dayP day && rfP fs && rightR k)) ∧ Below w.heap.size w w' := by
  obtain ⟨B, hB⟩ : ∃ B, (dayP day && rfP fs) = B := ⟨_, rfl⟩
  rw [hB]
  have bel : ∀ {w' : World} {s : St}, Holds s.mem w' → s.mem.take 1 = [(g, vmO day (.slice a N cf) rg (.slice aW nW cW) (.slice aI nI cI) hv tv st)] → Ch [g] w w' → Below w.heap.size w w' := fun hm e hc => below_end (hold1v hg) hc hm e
  refine Goes.begin Tryz.func30 [(g, vmO day (.slice a N cf) rg (.slice aW nW cW) (.slice aI nI cI) hv tv st)] (fun _ => True) (hold1v hg) (by simp [Mem.ids]) (fun _ _ => trivial) ?_
  refine Goes.run [0] [] trivial ?_
  refine Goes.call0 64 #[dwV day (.slice a N cf)] (.bool B) (fun w' hm hI => hB ▸ vright_any day (hF.at (bel hm (by kernel_chk) hI.now.1)) hl (hU.below (bel hm (by kernel_chk) hI.now.1))) ?_
  cases B with
  | false =>
    refine Goes.run [0] [(false, false)] ⟨rfl, trivial⟩ ?_
    exact Goes.ret [] (.bool false) fun w' hm hI => ⟨rfl, bel hm (by kernel_chk) hI.now.1⟩
  | true =>
    refine Goes.run [1, 0] [(true, true)] ⟨rfl, trivial⟩ ?_
    refine Goes.call0 23 #[cdV rg aW nW cW aI nI cI] (.bool (rightR k)) (fun w' hm hI => by rw [← right_eq]; exact gright_any (hU.below (bel hm (by kernel_chk) hI.now.1)) (hM.below (bel hm (by kernel_chk) hI.now.1)) hrg hwf) ?_
    refine Goes.run [] [] trivial ?_
    exact Goes.ret [] (.bool (rightR k)) fun w' hm hI => ⟨rfl, bel hm (by kernel_chk) hI.now.1⟩
end
end Go.Proofs.YtddbiiejilcbbaaGreatDoor
namespace Go.Proofs.YtddbiiejilcbbaaGreatDoor
open Go Go.RowKit

/-- What runs came to is small. -/
structure Ms.Fit (s : Ms) : Prop where
  lo : 0 ≤ s.steps
  hi : s.steps ≤ 65537
  holds : s.holds.length ≤ 251
  out : (s.out.length : Int) ≤ s.steps
theorem Ms.Fit.one {s : Ms} (h : s.Fit) (ho : overM s = false) : s.one.Fit ∧ s.one.holds.length ≤ 250 := by
  have := over_iff.1 ho
  exact ⟨⟨by show 0 ≤ s.steps + 1; have := h.lo; omega, by show s.steps + 1 ≤ 65537; omega, h.holds, by show (s.out.length : Int) ≤ s.steps + 1; have := h.out; omega⟩, this.2⟩
theorem Ms.Fit.hold {s : Ms} (h : s.one.Fit) (h2 : s.one.holds.length ≤ 250) (n f : Int) : (s.one.hold n f).Fit := ⟨h.lo, h.hi, by show (s.one.holds ++ [(n, f)]).length ≤ 251; rw [List.length_append]; simp; omega, h.out⟩
theorem Ms.Fit.pay {s : Ms} (h : s.Fit) (c : List UInt8) (f : Int) (hs : s.one.Fit) : (s.one.pay c f).Fit := ⟨hs.lo, hs.hi, hs.holds, by
  have h9 : (bif f == 0 then [] else [(c, f)] : List (List UInt8 × Int)).length ≤ 1 := by cases f == 0 <;> simp
  show ((s.out ++ bif f == 0 then [] else [(c, f)]).length : Int) ≤ s.steps + 1
  rw [List.length_append]
  have := h.out
  omega⟩
theorem runP_fit (k : Kd) (fs : Fs) (day : Int) : ∀ (n : Nat) (r : Rg) (s : Ms), s.Fit → (runP k fs day n r s).Fit
  | 0, r, s, h => h
  | n + 1, r, s, h => by
    rw [runP]
    cases ho : overM s with
    | true => exact h
    | false =>
    simp only [cond_false]
    obtain ⟨h1, h2⟩ := h.one ho
    cases k.ins[r.next.toNat]? with
    | none => exact h
    | some x =>
      simp only
      cases x.op == 30 with
      | true => exact h1
      | false =>
      cases x.op == 29 with
      | true => exact runP_fit k fs day n _ _ (runP_fit k fs day n _ _ h1)
      | false =>
      cases x.op == 28 with
      | true => exact runP_fit k fs day n _ _ (h1.hold h2 _ _)
      | false =>
      cases x.op == 27 with
      | true => exact runP_fit k fs day n _ _ (h.pay _ _ h1)
      | false => exact runP_fit k fs day n _ _ h1
theorem doQ_next {k : Kd} {i : Nat} {x : Ik} (hx : XOk k i x) (h30 : x.op ≠ 30) (fs : Fs) (day : Int) {r : Rg} (hr : r.next = ((i + 1 : Nat) : Int)) : 0 ≤ (doQ fs day x r).next ∧ (doQ fs day x r).next < (k.ins.length : Int) := by
  have hn := hx.next h30
  have key : ∀ b : Bool, (x.op = 2 ∨ x.op = 19 ∨ x.op = 20 ∨ x.op = 21 ∨ x.op = 22) → 0 ≤ (r.go x.to b).next ∧ (r.go x.to b).next < (k.ins.length : Int) := fun b ho => by
    have := hx.to ho
    cases b with
    | true => show 0 ≤ x.to ∧ x.to < _; omega
    | false => show 0 ≤ r.next ∧ r.next < _; rw [hr]; omega
  have same : 0 ≤ r.next ∧ r.next < (k.ins.length : Int) := by rw [hr]; omega
  unfold doQ
  cases h2 : (x.op == 2) with
  | true =>
    simp only [cond_true]
    cases fedP x.s (day - x.n) fs with
    | some v => exact same
    | none => exact key true (.inl (eq_of_beq h2))
  | false =>
  cases x.op == 3 with
  | true => exact same
  | false =>
  cases h19 : (x.op == 19) with
  | true => exact key _ (.inr (.inl (eq_of_beq h19)))
  | false =>
  cases h20 : (x.op == 20) with
  | true => exact key _ (.inr (.inr (.inl (eq_of_beq h20))))
  | false =>
  cases h21 : (x.op == 21) with
  | true => exact key _ (.inr (.inr (.inr (.inl (eq_of_beq h21)))))
  | false =>
  cases h22 : (x.op == 22) with
  | true => exact key _ (.inr (.inr (.inr (.inr (eq_of_beq h22)))))
  | false =>
  cases x.op == 23 with
  | true => exact same
  | false =>
  cases x.op == 24 with
  | true => exact same
  | false =>
  cases x.op == 25 with
  | true => exact same
  | false =>
  cases x.op == 26 with
  | true => exact same
  | false =>
  cases x.op == 1 with
  | true => exact same
  | false => exact same
/-- A step of a run, by what stands there. -/
theorem runP_at {k : Kd} {fs : Fs} {day : Int} {n i : Nat} {r : Rg} {s : Ms} {x : Ik} (ho : overM s = false) (hr : r.next = (i : Int)) (hx : k.ins[i]? = some x) : runP k fs day (n + 1) r s = bif x.op == 30 then s.one else bif x.op == 29 then runP k fs day n r.on (runP k fs day n ⟨zeros, entK k x.n, r.f⟩ s.one) else bif x.op == 28 then runP k fs day n r.on (s.one.hold x.n r.f) else bif x.op == 27 then runP k fs day n r.on (s.one.pay x.s r.f) else runP k fs day n (doQ fs day x r.on) s.one := by
  rw [runP, ho, hr, Int.toNat_natCast, hx]
  rfl
end Go.Proofs.YtddbiiejilcbbaaGreatDoor
namespace Go.Proofs.YtddbiiejilcbbaaGreatDoor
open Go Go.RowKit

section
variable {P : Program} {F : Exit → Act → World → Prop} {s : St} {n0 g : Nat} {day : Int} {lv tv lv1 tv1 : Value} {ls1 : List (Int × Int)} {ts1 : List (List UInt8 × Int)} {w : World}
theorem Goes.callVQA (i : Nat) (f : FuncId) (args : Array Value) (u : Value) (ob1 ob2 : Value → Value → Obj) (ho1 : IsM ob1) (ho2 : IsM ob2) (ls2 : List (Int × Int)) (ts2 : List (List UInt8 × Int)) (loc : Mem) (hloc : Loc5 w loc) (m0 : Mem) (hm0 : ∀ q ∈ m0, q.1 < n0 ∨ ∃ c e z, q.2 = .cells c e z ∧ ty5 e = false) (hg0 : n0 ≤ g) (hn : n0 ≤ w.heap.size)
    (hr : ∀ w1, Holds s.mem w1 → McI n0 g day w lv tv lv1 tv1 ls1 ts1 w1 → Calls P f args w1 (VQ n0 g day ob2 w1 lv1 tv1 u ls2 ts2))
    (h : ∀ lv2 tv2, Goes P F (McI n0 g day w lv tv lv2 tv2 ls2 ts2) (putA i s u ((g, ob2 lv2 tv2) :: loc)))
    (hM : anyM s = m0 := by kernel_chk) (hmem : s.mem = (g, ob1 lv1 tv1) :: loc := by kernel_chk) (ha : askA i s = some (f, args) := by kernel_chk) (hw : anyLone i s = true := by kernel_chk) (hf : okf P f = true := by kernel_chk) : Goes P F (McI n0 g day w lv tv lv1 tv1 ls1 ts1) s :=
  Goes.callA i f args (fun ops m1 n l k ht w1 hm hnd hI h0 => (hr w1 hm hI.now).mono fun e w2 ⟨lv2, tv2, he, hg2, hA⟩ => by
    obtain ⟨h1, h2, h3⟩ := vq_next hloc ho1 ho2 hmem hm hI.now hg2 hA
    have hB : Below n0 w1 w2 := mcB hI.now.2.1 hI.now.2.2.1 hg0 (Nat.le_trans hn hI.now.1.size) hA
    refine ⟨u, _, _, he, hold_in fun q hq => ?_, h1, by rw [hmem] at hnd; exact hnd, h2, h lv2 tv2⟩
    have hq' : q ∈ m0 := by rw [← hM]; unfold anyM; rw [ht]; exact hq
    have := in_hold h0 q hq
    rcases hm0 q hq' with hl | ⟨c, e, z, e1, e2⟩
    · exact (hB.block q.1 hl).trans this
    · rw [e1] at this ⊢
      exact h3 _ _ _ _ this e2) ha hw hf
end
theorem holds2v {w : World} {b b' : Nat} {ob ob' : Obj} (h : w.heap[b]? = some ob) (h' : w.heap[b']? = some ob') : Holds [(b, ob), (b', ob')] w := hold_in (by simpa using ⟨h, h'⟩)
theorem WcAt.objV {w w' : World} {b o : Nat} {x : Wk} (h : WcAt w b o x) {ob : Obj} (h0 : w.heap[b]? = some ob) (h1 : w'.heap[b]? = some ob) : WcAt w' b o x := fun j u hj => by
  have := h j u hj
  unfold World.cell? at this ⊢
  rw [h1]
  rw [h0] at this
  exact this
theorem IcAt.objV {w w' : World} {b o : Nat} {x : Ik} (h : IcAt w b o x) {ob : Obj} (h0 : w.heap[b]? = some ob) (h1 : w'.heap[b]? = some ob) : IcAt w' b o x := fun j u hj => by
  have := h j u hj
  unfold World.cell? at this ⊢
  rw [h1]
  rw [h0] at this
  exact this
theorem obj_ofV {w : World} {b : Nat} (h : b < w.heap.size) : ∃ ob, w.heap[b]? = some ob := ⟨w.heap[b], by simp [h]⟩
end Go.Proofs.YtddbiiejilcbbaaGreatDoor
namespace Go.Proofs.YtddbiiejilcbbaaGreatDoor
open Go Go.RowKit

/-- What all runs of a call stand on: as it lay in the world in which the call began. -/
structure Rn0 (w0 : World) (k : Kd) (fs : Fs) (fa : Option Addr) (fN fc : Nat) (rg : Int) (aW : Option Addr) (nW cW : Nat) (aI : Option Addr) (nI cI : Nat) (day : Int) : Prop where
  code : CdM w0 aW nW cW aI nI cI k
  regs : k.regs = rg
  right : rightR k = true
  fds : Fds w0.heap.size w0 (.slice fa fN fc) fs
  rf : RFd fs
  tab : Tab w0
  day : 0 ≤ day ∧ day ≤ 73048
theorem tab_lt {w : World} (h : Tab w) : 1 < w.heap.size := World.block_lt_of_cell? w _ (h 0 (by decide))
theorem Rn0.en {w0 w : World} {k : Kd} {fs : Fs} {fa aW aI : Option Addr} {fN fc nW cW nI cI : Nat} {rg day : Int} (h : Rn0 w0 k fs fa fN fc rg aW nW cW aI nI cI day) (hB : Below w0.heap.size w0 w) : En w0.heap.size fs (.slice fa fN fc) w := (⟨h.fds, h.tab, tab_lt h.tab, Nat.le_refl _⟩ : En w0.heap.size fs (.slice fa fN fc) w0).bel hB
def RunAt (w0 : World) (k : Kd) (fs : Fs) (fa : Option Addr) (fN fc : Nat) (rg : Int) (aW : Option Addr) (nW cW : Nat) (aI : Option Addr) (nI cI : Nat) (day : Int) (g N : Nat) : Prop := ∀ (at' : Nat) (f : Int) (w : World) (hv tv : Value) (s : Ms), Below w0.heap.size w0 w → Hds w0.heap.size w hv s.holds → Trs w0.heap.size day w tv s.out → w.heap[g]? = some (vmO day (.slice fa fN fc) rg (.slice aW nW cW) (.slice aI nI cI) hv tv s.steps) → at' < k.ins.length → s.Fit → 65538 ≤ s.steps + N → Calls Tryz.prog 31 #[.pointer (some ⟨g, 0, none⟩), .int .i64 at', .int .i64 f] w (VQ w0.heap.size g day (vmB day (.slice fa fN fc) rg (.slice aW nW cW) (.slice aI nI cI) (runP k fs day N ⟨zeros, at', f⟩ s).steps) w hv tv (.tuple #[]) (runP k fs day N ⟨zeros, at', f⟩ s).holds (runP k fs day N ⟨zeros, at', f⟩ s).out)
theorem rn_cells (r : Rg) : ∃ c e z, rnO r = .cells c e z ∧ ty5 e = false := ⟨_, _, _, rfl, by decide⟩
theorem rn_blk {w : World} {b : Nat} {r : Rg} (h : w.heap[b]? = some (rnO r)) : ∃ c e z, w.heap[b]? = some (.cells c e z) ∧ ty5 e = false := ⟨_, _, _, h, by decide⟩
theorem rn_kept {w w' : World} {b : Nat} {r : Rg} (hk : ∀ (i : Nat) (c : Array Value) (e : TypeId) (z : Nat × Nat), w.heap[i]? = some (.cells c e z) → e ≠ 86 → w'.heap[i]? = some (.cells c e z)) (h : w.heap[b]? = some (rnO r)) : w'.heap[b]? = some (rnO r) := hk b _ _ _ h (by decide)
structure LpU where
  r : Rg
  s : Ms
  M : Nat
  hv : Value
  tv : Value
structure LpU.ok (k : Kd) (fs : Fs) (day : Int) (N : Nat) (R : Ms) (x : LpU) : Prop where
  run : runP k fs day x.M x.r x.s = R
  fit : x.s.Fit
  left : 65538 ≤ x.s.steps + x.M
  most : x.M ≤ N
  next : 0 ≤ x.r.next ∧ x.r.next < (k.ins.length : Int)
abbrev uS (g g6 : Nat) : List (Nat × Value) := [(0, .pointer (some ⟨g, 0, none⟩)), (6, .pointer (some ⟨g6, 0, none⟩))]
abbrev nl : Value := .slice none 0 0
noncomputable def ruH : List TI := (rn Tryz.prog [] [] (offL (rn Tryz.prog [1] [] (mkSt Tryz.prog 6 (rn Tryz.prog [] [] (st0S Tryz.f31 #[.pointer (some ⟨1, 0, none⟩), .int .i64 0, .int .i64 0] [(1, vmO 0 nl 0 nl nl nl nl 0)])).st)).st)).st.todo
noncomputable def ruA : St := (rn Tryz.prog [1, 0, 0] [] (put0 (rn Tryz.prog [0] [] ⟨ruH, fr 84 (uS 1 6) (fun _ => undef), [(1, vmO 0 nl 0 nl nl nl nl 0), (6, rnO ⟨zeros, 0, 0⟩)]⟩).st (.bool false))).st
noncomputable def ruB : St := oneSt Tryz.prog 10 2 (newSt Tryz.prog 9 7 (putA0 8 (putA0 7 (putA0 6 (rn Tryz.prog [0, 1, 2, 3, 4, 0, 5] [] (openedY [0, 1] [] ruA)).st (.int .i64 0)) (.pointer (some ⟨9, 0, none⟩))) (iV ⟨0, 0, 0, 0, 0, [], 0⟩)))
noncomputable def ruS : List TI := (putM (rn Tryz.prog [] [] (put0 (rn Tryz.prog [] [] ruB).st (.int .i64 0))).st undef 1 6 (rnO ⟨zeros, 0, 0⟩)).todo
/-- What a round stands on. -/
structure CaseH (w0 w : World) (k : Kd) (fs : Fs) (fa aW aI : Option Addr) (fN fc nW cW nI cI : Nat) (rg day : Int) (g g6 g7 : Nat) (hv tv : Value) (sh : List (Int × Int)) (so : List (List UInt8 × Int)) (N M i : Nat) (s1 : Ms) (r : Rg) (x : Ik) : Prop where
  h0 : Rn0 w0 k fs fa fN fc rg aW nW cW aI nI cI day
  hg0 : w0.heap.size ≤ g
  hBw : Below w0.heap.size w0 w
  hl : Hds w0.heap.size w hv sh
  ht : Trs w0.heap.size day w tv so
  hge : g < w.heap.size
  hg6 : w.heap.size ≤ g6
  hg7 : w.heap.size ≤ g7
  hne : g6 ≠ g7
  hX : XOk k i x
  hFit : s1.Fit
  hFit1 : s1.one.Fit
  hH1 : s1.one.holds.length ≤ 250
  hLeft : 65538 ≤ s1.steps + ((M + 1 : Nat) : Int)
  hMost : M + 1 ≤ N
  hon : r.on.next = ((i + 1 : Nat) : Int)
/-- The loop goes on from here. -/
def BackTo (w0 w : World) (k : Kd) (fs : Fs) (fa aW aI : Option Addr) (fN fc nW cW nI cI : Nat) (rg day : Int) (g g6 : Nat) (hv tv : Value) (N M : Nat) (R : Ms) (Q : Ending → World → Prop) : Prop := ∀ (r' : Rg) (s' : Ms) (M' : Nat) (hv' tv' : Value), LpU.ok k fs day N R ⟨r', s', M', hv', tv'⟩ → M' < M + 1 → ∀ J, Goes Tryz.prog (bodyPost Tryz.prog Tryz.f31 Q) (McI w0.heap.size g day w hv tv hv' tv' s'.holds s'.out) ⟨ruH, fr 84 (uS g g6) J, [(g, vmO day (.slice fa fN fc) rg (.slice aW nW cW) (.slice aI nI cI) hv' tv' s'.steps), (g6, rnO r')]⟩
theorem hBv {w0 w w' : World} {g : Nat} {day : Int} {hv tv a b : Value} {sh ls : List (Int × Int)} {so ts : List (List UInt8 × Int)} (hg0 : w0.heap.size ≤ g) (hBw : Below w0.heap.size w0 w) (hl : Hds w0.heap.size w hv sh) (ht : Trs w0.heap.size day w tv so) (h : McI w0.heap.size g day w hv tv a b ls ts w') : Below w0.heap.size w0 w' := hBw.trans (mcB hl ht hg0 hBw.size h)
end Go.Proofs.YtddbiiejilcbbaaGreatDoor
namespace Go.Proofs.YtddbiiejilcbbaaGreatDoor
open Go Go.RowKit

def dmO (day : Int) (fv hv tv : Value) (st : Int) (b : Bool) : Obj := .cells #[.int .i64 day, fv, hv, tv, .int .i64 st, .bool b] 56 (0, 0)
abbrev dmB (day : Int) (fv : Value) (st : Int) (b : Bool) : Value → Value → Obj := fun hv tv => dmO day fv hv tv st b
theorem dmB_is (day : Int) (fv : Value) (st : Int) (b : Bool) : IsM (dmB day fv st b) := fun a c => ⟨_, _, _, rfl, by decide, by decide, by decide⟩
abbrev cdO (rg : Int) (wv iv : Value) : Obj := .cells #[.int .i64 rg, wv, iv] 27 (0, 0)
/-- A row of registers. -/
def rgO (R : Nat → Int) : Obj := .cells ((List.range 256).map (fun i => Value.int .i64 (R i))).toArray 2 (0, 0)
theorem infoI64v : (Tryz.prog.info? 2).map (fun i => (i.zero, i.size, i.bytes)) = some (some (.int .i64 0), 1, 8) := by kernel_chk
theorem makeG (w : World) : (Instr.makeSlice 101 (.int .i64 256) (.int .i64 256)).run Tryz.prog w = .ok (.slice (some ⟨w.heap.size, 0, none⟩) 256 256) (w.alloc (rgO zeros)) := by
  cases hie : Tryz.prog.info? 2 with
  | none => have := infoI64v; rw [hie] at this; cases this
  | some i0 =>
    have hi := infoI64v
    rw [hie] at hi
    simp only [Option.map_some, Option.some.injEq, Prod.mk.injEq] at hi
    obtain ⟨hz0, hz1, hz2⟩ := hi
    have hr := run_make (P := Tryz.prog) w 101 2 i0 (.int .i64 0) Tryz.underlying101 hie hz0 .i64 .i64 256 256 (by omega) (by omega) (by rw [hz2]; omega) (by omega)
    have e : Obj.cells (madeCells (Value.cells (.int .i64 0)) ((256 : Int).toNat * 1)) 2 = rgO zeros := by kernel_chk
    rw [hz1, e] at hr
    exact hr
section
variable {w : World} {g : Nat} {R : Nat → Int}
theorem rg_cell (h : w.heap[g]? = some (rgO R)) {i : Nat} (hi : i < 256) : w.cell? ⟨g, i, none⟩ = some (.int .i64 (R i)) := by
  unfold World.cell?
  rw [h]
  unfold rgO
  simp [hi]
theorem rg_set {i : Nat} (h : i < 256) (v : Int) : ((List.range 256).map (fun j => Value.int .i64 (R j))).set i (.int .i64 v) = (List.range 256).map (fun j => Value.int .i64 (updR R i v j)) := by
  apply List.ext_getElem?
  intro j
  rw [List.getElem?_set]
  by_cases hij : i = j
  · subst hij
    rw [if_pos rfl, if_pos (by simpa using h), List.getElem?_map, List.getElem?_range h]
    simp [updR]
  · rw [if_neg hij, List.getElem?_map, List.getElem?_map]
    by_cases hj : j < 256
    · rw [List.getElem?_range hj]
      have : (j == i) = false := by simp; omega
      simp [updR, this]
    · rw [List.getElem?_eq_none (by simp; omega)]
      rfl
theorem rg_ld (h : w.heap[g]? = some (rgO R)) {i : Int} (hi : 0 ≤ i ∧ i < 256) : (Instr.loadAt 2 (.pointer (some ⟨g, i.toNat, none⟩))).run Tryz.prog w = .ok (.int .i64 (R i.toNat)) w := load1 Tryz.isAgg2 (rg_cell h (by omega))
theorem rg_st (h : w.heap[g]? = some (rgO R)) {i : Int} (hi : 0 ≤ i ∧ i < 256) (v : Int) : ∃ w', (Instr.storeAt 2 (.pointer (some ⟨g, i.toNat, none⟩)) (.int .i64 v)).run Tryz.prog w = .ok () w' ∧ Ch [g] w w' ∧ w'.heap[g]? = some (rgO (updR R i.toNat v)) := by
  have hfr : w.frozen? ⟨g, i.toNat, none⟩ = false := by
    unfold World.frozen?
    rw [h]
    simp [rgO]
  refine ⟨_, store1 Tryz.sizeOf2 (.int .i64 v) rfl rfl (rg_cell h (by omega)) hfr, ⟨rfl, rfl, rfl, by unfold World.setCell; simp, fun j hj hx => ?_⟩, ?_⟩
  · unfold World.setCell
    simp only
    rw [Array.getElem?_modify, if_neg (fun e => hx (by simp [e]))]
  · unfold World.setCell
    simp only
    rw [Array.getElem?_modify, if_pos rfl, h]
    unfold rgO
    simp only [Option.map_some]
    rw [← rg_set (by omega) v]
    simp
theorem idxG (b : Nat) {i : Int} (h : 0 ≤ i ∧ i < 256) (w : World) : (Instr.indexAt 101 (.slice (some ⟨b, 0, none⟩) 256 256) (.int .i64 i)).run Tryz.prog w = .ok (.pointer (some ⟨b, i.toNat, none⟩)) w := by
  obtain ⟨k, rfl⟩ : ∃ k : Nat, i = (k : Int) := ⟨i.toNat, by omega⟩
  have hk : k < 256 := by omega
  go_simp
  try omega
end
theorem rg_cells (R : Nat → Int) : ∃ c e z, rgO R = .cells c e z ∧ ty5 e = false := ⟨_, _, _, rfl, by decide⟩
theorem rg_blk {w : World} {b : Nat} {R : Nat → Int} (h : w.heap[b]? = some (rgO R)) : ∃ c e z, w.heap[b]? = some (.cells c e z) ∧ ty5 e = false := ⟨_, _, _, h, by decide⟩
theorem rg_kept {w w' : World} {b : Nat} {R : Nat → Int} (hk : ∀ (i : Nat) (c : Array Value) (e : TypeId) (z : Nat × Nat), w.heap[i]? = some (.cells c e z) → e ≠ 86 → w'.heap[i]? = some (.cells c e z)) (h : w.heap[b]? = some (rgO R)) : w'.heap[b]? = some (rgO R) := hk b _ _ _ h (by decide)
theorem rg_keptT {w w' : World} {b : Nat} {R : Nat → Int} (hk : ∀ (i : Nat) (c : Array Value) (e : TypeId) (z : Nat × Nat), w.heap[i]? = some (.cells c e z) → e ≠ 59 → w'.heap[i]? = some (.cells c e z)) (h : w.heap[b]? = some (rgO R)) : w'.heap[b]? = some (rgO R) := hk b _ _ _ h (by decide)
def RunDt (w0 : World) (k : Kd) (fs : Fs) (fa : Option Addr) (fN fc : Nat) (rg : Int) (aW : Option Addr) (nW cW : Nat) (aI : Option Addr) (nI cI : Nat) (day : Int) (g N : Nat) : Prop := ∀ (at' : Nat) (f : Int) (w : World) (hv tv : Value) (s : Ms), Below w0.heap.size w0 w → Hds w0.heap.size w hv s.holds → Trs w0.heap.size day w tv s.out → w.heap[g]? = some (dmO day (.slice fa fN fc) hv tv s.steps false) → at' < k.ins.length → s.Fit → overM s = false → 65538 ≤ s.steps + N → Calls Tryz.prog 21 #[.pointer (some ⟨g, 0, none⟩), cdV rg aW nW cW aI nI cI, .int .i64 at', .int .i64 f] w (VQ w0.heap.size g day (dmB day (.slice fa fN fc) (runD k fs day N ⟨zeros, at', f⟩ s).1.steps (runD k fs day N ⟨zeros, at', f⟩ s).2) w hv tv (.tuple #[]) (runD k fs day N ⟨zeros, at', f⟩ s).1.holds (runD k fs day N ⟨zeros, at', f⟩ s).1.out)
structure LpE where
  r : Rg
  s : Ms
  bad : Bool
  M : Nat
  hv : Value
  tv : Value
structure LpE.ok (k : Kd) (fs : Fs) (day : Int) (N : Nat) (R : Ms × Bool) (x : LpE) : Prop where
  run : (bif x.bad then (x.s, true) else runD k fs day x.M x.r x.s) = R
  most : x.M ≤ N
  fine : x.bad = false → x.s.Fit ∧ overM x.s = false ∧ 65538 ≤ x.s.steps + x.M ∧ 0 ≤ x.r.next ∧ x.r.next < (k.ins.length : Int)
abbrev slG (gR : Nat) : Value := .slice (some ⟨gR, 0, none⟩) 256 256
abbrev eS (g gc gR : Nat) (r : Rg) : List (Nat × Value) := [(0, .pointer (some ⟨g, 0, none⟩)), (2, .int .i64 r.next), (3, .int .i64 r.f), (5, .pointer (some ⟨gc, 0, none⟩)), (8, slG gR)]
abbrev eS9 (g gc gR g9 : Nat) (r : Rg) : List (Nat × Value) := eS g gc gR r ++ [(9, .pointer (some ⟨g9, 0, none⟩)), (10, .bool false), (41, .pointer (some ⟨g9, 0, none⟩))]
abbrev eST (g gc gR g9 : Nat) (r : Rg) (b : Bool) : List (Nat × Value) := eS g gc gR r ++ [(9, .pointer (some ⟨g9, 0, none⟩)), (225, .bool b)]
noncomputable def erH : List TI := (rn Tryz.prog [] [] (put (rn Tryz.prog [] [] (mkSt Tryz.prog 2 (rn Tryz.prog [] [] (st0 Tryz.f21 #[.pointer (some ⟨1, 0, none⟩), cdV 0 none 0 0 none 0 0, .int .i64 0, .int .i64 0] [(1, dmO 0 nl nl nl 0 false)])).st)).st (slG 3) [(1, dmO 0 nl nl nl 0 false), (2, cdO 0 nl nl), (3, rgO zeros)])).st.todo
noncomputable def erA : St := (rn Tryz.prog [0, 0, 1, 1] [] ⟨erH, fr 228 (eS 1 2 3 ⟨zeros, 0, 0⟩) (fun _ => undef), [(1, dmO 0 nl nl nl 0 false), (2, cdO 0 nl nl), (3, rgO zeros)]⟩).st
noncomputable def erB : St := (rn Tryz.prog [3, 0, 0] [] (mkSt Tryz.prog 4 (put0 (put0 erA (.pointer (some ⟨9, 0, none⟩))) (iV ⟨0, 0, 0, 0, 0, [], 0⟩)))).st
noncomputable def erS : List TI := (rn Tryz.prog [0, 0] [] ⟨erB.todo, fr 228 (eS 1 2 3 ⟨zeros, 0, 0⟩ ++ [(9, .pointer (some ⟨4, 0, none⟩)), (35, .pointer (some ⟨1, 4, none⟩))]) (fun _ => undef), [(1, dmO 0 nl nl nl 1 false), (2, cdO 0 nl nl), (3, rgO zeros), (4, .cells (iC ⟨0, 0, 0, 0, 0, [], 0⟩).toArray 72 (0, 0))]⟩).st.todo
noncomputable def erT : List TI := (rn Tryz.prog [3, 0, 0, 0, 0, 0, 1] [] ⟨erS, fr 228 (eS9 1 2 3 4 ⟨zeros, 0, 0⟩) (fun _ => undef), [(1, dmO 0 nl nl nl 1 false), (2, cdO 0 nl nl), (3, rgO zeros), (4, .cells (iC ⟨20, 0, 0, 0, 0, [], 0⟩).toArray 72 (0, 0))]⟩).st.todo
/-- What a round stands on. -/
structure CaseE (w0 w : World) (k : Kd) (fs : Fs) (fa aW aI : Option Addr) (fN fc nW cW nI cI : Nat) (rg day : Int) (g gc gR g9 : Nat) (hv tv : Value) (sh : List (Int × Int)) (so : List (List UInt8 × Int)) (N M i : Nat) (s1 : Ms) (r : Rg) (x : Ik) : Prop where
  h0 : Rn0 w0 k fs fa fN fc rg aW nW cW aI nI cI day
  hg0 : w0.heap.size ≤ g
  hBw : Below w0.heap.size w0 w
  hl : Hds w0.heap.size w hv sh
  ht : Trs w0.heap.size day w tv so
  hge : g < w.heap.size
  hgc : w.heap.size ≤ gc
  hgR : w.heap.size ≤ gR
  hg9 : w.heap.size ≤ g9
  hnd : [g, gc, gR, g9].Nodup
  hX : XOk k i x
  hs : x.s.length ≤ 9223372036854775807
  hFit : s1.Fit
  hFit1 : s1.one.Fit
  hov : overM s1.one = false
  hH1 : s1.one.holds.length ≤ 250
  hLeft : 65538 ≤ s1.steps + ((M + 1 : Nat) : Int)
  hMost : M + 1 ≤ N
  hon : r.next = ((i + 1 : Nat) : Int)
/-- The loop goes on from here. -/
def BackE (w0 w : World) (k : Kd) (fs : Fs) (fa aW aI : Option Addr) (fN fc nW cW nI cI : Nat) (rg day : Int) (g gc gR : Nat) (hv tv : Value) (N M : Nat) (R : Ms × Bool) (Q : Ending → World → Prop) : Prop := ∀ (r' : Rg) (s' : Ms) (b' : Bool) (M' : Nat) (hv' tv' : Value), LpE.ok k fs day N R ⟨r', s', b', M', hv', tv'⟩ → M' < M + 1 → ∀ J, Goes Tryz.prog (bodyPost Tryz.prog Tryz.f21 Q) (McI w0.heap.size g day w hv tv hv' tv' s'.holds s'.out) ⟨erH, fr 228 (eS g gc gR r') J, [(g, dmO day (.slice fa fN fc) hv' tv' s'.steps b'), (gc, cdO rg (.slice aW nW cW) (.slice aI nI cI)), (gR, rgO r'.regs)]⟩
/-- A round's end: does it jump? -/
def TailE (w0 w : World) (k : Kd) (fs : Fs) (fa aW aI : Option Addr) (fN fc nW cW nI cI : Nat) (rg day : Int) (g gc gR g9 : Nat) (hv tv : Value) (N M : Nat) (R : Ms × Bool) (Q : Ending → World → Prop) (x : Ik) : Prop := ∀ (r1 : Rg) (b : Bool) (s' : Ms) (b' : Bool) (hv' tv' : Value), LpE.ok k fs day N R ⟨r1.go x.to b, s', b', M, hv', tv'⟩ → ∀ J, Goes Tryz.prog (bodyPost Tryz.prog Tryz.f21 Q) (McI w0.heap.size g day w hv tv hv' tv' s'.holds s'.out) ⟨erT, fr 228 (eST g gc gR g9 r1 b) J, [(g, dmO day (.slice fa fN fc) hv' tv' s'.steps b'), (gc, cdO rg (.slice aW nW cW) (.slice aI nI cI)), (gR, rgO r1.regs), (g9, .cells (iC x).toArray 72 (0, 0))]⟩
end Go.Proofs.YtddbiiejilcbbaaGreatDoor
namespace Go.Proofs.YtddbiiejilcbbaaGreatDoor
open Go Go.RowKit

set_option maxHeartbeats 4000000 in
set_option maxRecDepth 100000 in
seal rn rnN rnS Goes ans atEnd put0 put putM opened openedY putA0 putA oneSt st0 keep mkSt newSt rgO erH erS erT in
theorem tail_any {w0 w : World} {k : Kd} {fs : Fs} {fa aW aI : Option Addr} {fN fc nW cW nI cI : Nat} {rg day : Int} {g gc gR g9 : Nat} {hv tv : Value} {N M : Nat} {R : Ms × Bool} {Q : Ending → World → Prop} {x : Ik} (bk : BackE w0 w k fs fa aW aI fN fc nW cW nI cI rg day g gc gR hv tv N M R Q) : TailE w0 w k fs fa aW aI fN fc nW cW nI cI rg day g gc gR g9 hv tv N M R Q x := by
  intro r1 b s' b' hv' tv' hok J
  cases b with
  | true =>
    refine Goes.run [1, 3] [(true, true)] ⟨rfl, trivial⟩ ?_
    refine Goes.keep 3 ?_
    exact Goes.at (K := erH) (n := 228) (S := eS g gc gR (r1.go x.to true)) (m := [(g, dmO day (.slice fa fN fc) hv' tv' s'.steps b'), (gc, cdO rg (.slice aW nW cW) (.slice aI nI cI)), (gR, rgO r1.regs)]) (fun J => bk (r1.go x.to true) s' b' M hv' tv' hok (by omega) J) (by kernel_chk) (by kernel_chk) (by kernel_chk)
  | false =>
    refine Goes.run [0] [(false, false)] ⟨rfl, trivial⟩ ?_
    refine Goes.keep 3 ?_
    exact Goes.at (K := erH) (n := 228) (S := eS g gc gR r1) (m := [(g, dmO day (.slice fa fN fc) hv' tv' s'.steps b'), (gc, cdO rg (.slice aW nW cW) (.slice aI nI cI)), (gR, rgO r1.regs)]) (fun J => bk r1 s' b' M hv' tv' hok (by omega) J) (by kernel_chk) (by kernel_chk) (by kernel_chk)
theorem CaseE.okQ {w0 w : World} {k : Kd} {fs : Fs} {fa aW aI : Option Addr} {fN fc nW cW nI cI : Nat} {rg day : Int} {g gc gR g9 : Nat} {hv tv hv1 tv1 : Value} {sh : List (Int × Int)} {so : List (List UInt8 × Int)} {N M i : Nat} {s1 : Ms} {r : Rg} {x : Ik} {R : Ms × Bool} (H : CaseE w0 w k fs fa aW aI fN fc nW cW nI cI rg day g gc gR g9 hv tv sh so N M i s1 r x) (h30 : x.op ≠ 30) (hRun : runD k fs day M (doQ fs day x r) s1.one = R) (r1 : Rg) (b : Bool) (e : r1.go x.to b = doQ fs day x r) : LpE.ok k fs day N R ⟨r1.go x.to b, s1.one, false, M, hv1, tv1⟩ := by
  have hL := H.hLeft
  have hM := H.hMost
  rw [e]
  exact ⟨hRun, by show M ≤ N; omega, fun _ => ⟨H.hFit1, H.hov, by show 65538 ≤ s1.steps + 1 + (M : Int); omega, doQ_next H.hX h30 fs day H.hon⟩⟩
end Go.Proofs.YtddbiiejilcbbaaGreatDoor
namespace Go.Proofs.YtddbiiejilcbbaaGreatDoor
open Go Go.RowKit

section
variable {w0 w : World} {k : Kd} {fs : Fs} {fa aW aI : Option Addr} {fN fc nW cW nI cI : Nat} {rg day : Int} {g gc gR g9 : Nat} {hv tv hv1 tv1 : Value} {sh : List (Int × Int)} {so : List (List UInt8 × Int)} {N M i : Nat} {R : Ms × Bool} {s1 : Ms} {r : Rg} {Q : Ending → World → Prop}

set_option maxHeartbeats 4000000 in
set_option maxRecDepth 100000 in
seal rn rnN rnS Goes ans atEnd put0 put putM opened openedY putA0 putA oneSt st0 keep mkSt newSt rgO erH erS erT in
theorem ed_1 {xa xb xc xn xt : Int} {xs : List UInt8} (H : CaseE w0 w k fs fa aW aI fN fc nW cW nI cI rg day g gc gR g9 hv tv sh so N M i s1 r ⟨1, xa, xb, xc, xn, xs, xt⟩) (hRun : runD k fs day M (doQ fs day ⟨1, xa, xb, xc, xn, xs, xt⟩ r) s1.one = R) (tl : TailE w0 w k fs fa aW aI fN fc nW cW nI cI rg day g gc gR g9 hv tv N M R Q ⟨1, xa, xb, xc, xn, xs, xt⟩) (J : Nat → Value) : Goes Tryz.prog (bodyPost Tryz.prog Tryz.f21 Q) (McI w0.heap.size g day w hv tv hv1 tv1 s1.holds s1.out) ⟨erS, fr 228 (eS9 g gc gR g9 r) J, [(g, dmO day (.slice fa fN fc) hv1 tv1 (s1.steps + 1) false), (gc, cdO rg (.slice aW nW cW) (.slice aI nI cI)), (gR, rgO r.regs), (g9, .cells (iC ⟨1, xa, xb, xc, xn, xs, xt⟩).toArray 72 (0, 0))]⟩ := by
  obtain ⟨h0, hg0, hBw, hl, ht, hge, hgc, hgR, hg9, hnd, hX, hs, hFit, hFit1, hov, hH1, hLeft, hMost, hon⟩ := id H
  have H30 : (⟨1, xa, xb, xc, xn, xs, xt⟩ : Ik).op ≠ 30 := by show ((1 : Int)) ≠ 30; decide
  refine Goes.run [3, 0, 1, 3, 3] [(true, true), (false, false)] ⟨rfl, rfl, trivial⟩ ?_
  refine Goes.val (Instr.indexAt 101 (slG gR) (.int .i64 xa)) (.pointer (some ⟨gR, xa.toNat, none⟩)) (fun w' _ _ => idxG gR hX.a w') ?_
  refine Goes.stoK 2 gR (Instr.storeAt 2 (.pointer (some ⟨gR, xa.toNat, none⟩)) (.int .i64 (xn))) (rgO (r.put xa (xn)).regs) (fun w' hm => rg_st (hm.get 2) hX.a _) ?_
  refine Goes.run [] [] trivial ?_
  exact Goes.at (K := erT) (n := 228) (S := eST g gc gR g9 (r.put xa xn) (false)) (m := [(g, dmO day (.slice fa fN fc) hv1 tv1 (s1.steps + 1) false), (gc, cdO rg (.slice aW nW cW) (.slice aI nI cI)), (gR, rgO (r.put xa xn).regs), (g9, .cells (iC ⟨1, xa, xb, xc, xn, xs, xt⟩).toArray 72 (0, 0))]) (fun J => tl (r.put xa xn) (false) (s1.one) false hv1 tv1 (H.okQ H30 hRun (r.put xa xn) (false) rfl) J) (by kernel_chk) (by kernel_chk) (by kernel_chk)
set_option maxHeartbeats 4000000 in
set_option maxRecDepth 100000 in
seal rn rnN rnS Goes ans atEnd put0 put putM opened openedY putA0 putA oneSt st0 keep mkSt newSt rgO erH erS erT in
theorem ed_20 {xa xb xc xn xt : Int} {xs : List UInt8} (H : CaseE w0 w k fs fa aW aI fN fc nW cW nI cI rg day g gc gR g9 hv tv sh so N M i s1 r ⟨20, xa, xb, xc, xn, xs, xt⟩) (hRun : runD k fs day M (doQ fs day ⟨20, xa, xb, xc, xn, xs, xt⟩ r) s1.one = R) (tl : TailE w0 w k fs fa aW aI fN fc nW cW nI cI rg day g gc gR g9 hv tv N M R Q ⟨20, xa, xb, xc, xn, xs, xt⟩) (J : Nat → Value) : Goes Tryz.prog (bodyPost Tryz.prog Tryz.f21 Q) (McI w0.heap.size g day w hv tv hv1 tv1 s1.holds s1.out) ⟨erS, fr 228 (eS9 g gc gR g9 r) J, [(g, dmO day (.slice fa fN fc) hv1 tv1 (s1.steps + 1) false), (gc, cdO rg (.slice aW nW cW) (.slice aI nI cI)), (gR, rgO r.regs), (g9, .cells (iC ⟨20, xa, xb, xc, xn, xs, xt⟩).toArray 72 (0, 0))]⟩ := by
  obtain ⟨h0, hg0, hBw, hl, ht, hge, hgc, hgR, hg9, hnd, hX, hs, hFit, hFit1, hov, hH1, hLeft, hMost, hon⟩ := id H
  have H30 : (⟨20, xa, xb, xc, xn, xs, xt⟩ : Ik).op ≠ 30 := by show ((20 : Int)) ≠ 30; decide
  refine Goes.run [3, 0, 0, 0, 0, 0, 1] [(true, true), (false, false), (false, false), (false, false), (false, false), (false, false)] ⟨rfl, rfl, rfl, rfl, rfl, rfl, trivial⟩ ?_
  refine Goes.run [] [] trivial ?_
  exact Goes.at (K := erT) (n := 228) (S := eST g gc gR g9 (r) (true)) (m := [(g, dmO day (.slice fa fN fc) hv1 tv1 (s1.steps + 1) false), (gc, cdO rg (.slice aW nW cW) (.slice aI nI cI)), (gR, rgO (r).regs), (g9, .cells (iC ⟨20, xa, xb, xc, xn, xs, xt⟩).toArray 72 (0, 0))]) (fun J => tl (r) (true) (s1.one) false hv1 tv1 (H.okQ H30 hRun (r) (true) rfl) J) (by kernel_chk) (by kernel_chk) (by kernel_chk)
set_option maxHeartbeats 4000000 in
set_option maxRecDepth 100000 in
seal rn rnN rnS Goes ans atEnd put0 put putM opened openedY putA0 putA oneSt st0 keep mkSt newSt rgO erH erS erT in
theorem ed_19 {xa xb xc xn xt : Int} {xs : List UInt8} (H : CaseE w0 w k fs fa aW aI fN fc nW cW nI cI rg day g gc gR g9 hv tv sh so N M i s1 r ⟨19, xa, xb, xc, xn, xs, xt⟩) (hRun : runD k fs day M (doQ fs day ⟨19, xa, xb, xc, xn, xs, xt⟩ r) s1.one = R) (tl : TailE w0 w k fs fa aW aI fN fc nW cW nI cI rg day g gc gR g9 hv tv N M R Q ⟨19, xa, xb, xc, xn, xs, xt⟩) (J : Nat → Value) : Goes Tryz.prog (bodyPost Tryz.prog Tryz.f21 Q) (McI w0.heap.size g day w hv tv hv1 tv1 s1.holds s1.out) ⟨erS, fr 228 (eS9 g gc gR g9 r) J, [(g, dmO day (.slice fa fN fc) hv1 tv1 (s1.steps + 1) false), (gc, cdO rg (.slice aW nW cW) (.slice aI nI cI)), (gR, rgO r.regs), (g9, .cells (iC ⟨19, xa, xb, xc, xn, xs, xt⟩).toArray 72 (0, 0))]⟩ := by
  obtain ⟨h0, hg0, hBw, hl, ht, hge, hgc, hgR, hg9, hnd, hX, hs, hFit, hFit1, hov, hH1, hLeft, hMost, hon⟩ := id H
  have H30 : (⟨19, xa, xb, xc, xn, xs, xt⟩ : Ik).op ≠ 30 := by show ((19 : Int)) ≠ 30; decide
  refine Goes.run [3, 0, 0, 0, 0, 1, 3] [(true, true), (false, false), (false, false), (false, false), (false, false)] ⟨rfl, rfl, rfl, rfl, rfl, trivial⟩ ?_
  refine Goes.val (Instr.indexAt 101 (slG gR) (.int .i64 xb)) (.pointer (some ⟨gR, xb.toNat, none⟩)) (fun w' _ _ => idxG gR hX.b w') ?_
  refine Goes.val (Instr.loadAt 2 (.pointer (some ⟨gR, xb.toNat, none⟩))) (.int .i64 (r.get xb)) (fun w' hm _ => rg_ld (hm.get 2) hX.b) ?_
  refine Goes.run [] [] trivial ?_
  exact Goes.at (K := erT) (n := 228) (S := eST g gc gR g9 (r) (r.get xb == 0)) (m := [(g, dmO day (.slice fa fN fc) hv1 tv1 (s1.steps + 1) false), (gc, cdO rg (.slice aW nW cW) (.slice aI nI cI)), (gR, rgO (r).regs), (g9, .cells (iC ⟨19, xa, xb, xc, xn, xs, xt⟩).toArray 72 (0, 0))]) (fun J => tl (r) (r.get xb == 0) (s1.one) false hv1 tv1 (H.okQ H30 hRun (r) (r.get xb == 0) rfl) J) (by kernel_chk) (by kernel_chk) (by kernel_chk)
set_option maxHeartbeats 4000000 in
set_option maxRecDepth 100000 in
seal rn rnN rnS Goes ans atEnd put0 put putM opened openedY putA0 putA oneSt st0 keep mkSt newSt rgO erH erS erT in
theorem ed_21 {xa xb xc xn xt : Int} {xs : List UInt8} (H : CaseE w0 w k fs fa aW aI fN fc nW cW nI cI rg day g gc gR g9 hv tv sh so N M i s1 r ⟨21, xa, xb, xc, xn, xs, xt⟩) (hRun : runD k fs day M (doQ fs day ⟨21, xa, xb, xc, xn, xs, xt⟩ r) s1.one = R) (tl : TailE w0 w k fs fa aW aI fN fc nW cW nI cI rg day g gc gR g9 hv tv N M R Q ⟨21, xa, xb, xc, xn, xs, xt⟩) (J : Nat → Value) : Goes Tryz.prog (bodyPost Tryz.prog Tryz.f21 Q) (McI w0.heap.size g day w hv tv hv1 tv1 s1.holds s1.out) ⟨erS, fr 228 (eS9 g gc gR g9 r) J, [(g, dmO day (.slice fa fN fc) hv1 tv1 (s1.steps + 1) false), (gc, cdO rg (.slice aW nW cW) (.slice aI nI cI)), (gR, rgO r.regs), (g9, .cells (iC ⟨21, xa, xb, xc, xn, xs, xt⟩).toArray 72 (0, 0))]⟩ := by
  obtain ⟨h0, hg0, hBw, hl, ht, hge, hgc, hgR, hg9, hnd, hX, hs, hFit, hFit1, hov, hH1, hLeft, hMost, hon⟩ := id H
  have H30 : (⟨21, xa, xb, xc, xn, xs, xt⟩ : Ik).op ≠ 30 := by show ((21 : Int)) ≠ 30; decide
  refine Goes.run [3, 0, 0, 0, 0, 0, 0, 1] [(true, true), (false, false), (false, false), (false, false), (false, false), (false, false), (false, false)] ⟨rfl, rfl, rfl, rfl, rfl, rfl, rfl, trivial⟩ ?_
  refine Goes.open [0, 3] ?_
  refine Goes.run [0, 1, 2, 3, 0, 4, 5, 1, 6, 7] [] trivial ?_
  refine Goes.run [] [] trivial ?_
  exact Goes.at (K := erT) (n := 228) (S := eST g gc gR g9 (r) (decide (day > xn))) (m := [(g, dmO day (.slice fa fN fc) hv1 tv1 (s1.steps + 1) false), (gc, cdO rg (.slice aW nW cW) (.slice aI nI cI)), (gR, rgO (r).regs), (g9, .cells (iC ⟨21, xa, xb, xc, xn, xs, xt⟩).toArray 72 (0, 0))]) (fun J => tl (r) (decide (day > xn)) (s1.one) false hv1 tv1 (H.okQ H30 hRun (r) (decide (day > xn)) rfl) J) (by kernel_chk) (by kernel_chk) (by kernel_chk)
set_option maxHeartbeats 4000000 in
set_option maxRecDepth 100000 in
seal rn rnN rnS Goes ans atEnd put0 put putM opened openedY putA0 putA oneSt st0 keep mkSt newSt rgO erH erS erT in
theorem ed_22 {xa xb xc xn xt : Int} {xs : List UInt8} (H : CaseE w0 w k fs fa aW aI fN fc nW cW nI cI rg day g gc gR g9 hv tv sh so N M i s1 r ⟨22, xa, xb, xc, xn, xs, xt⟩) (hRun : runD k fs day M (doQ fs day ⟨22, xa, xb, xc, xn, xs, xt⟩ r) s1.one = R) (tl : TailE w0 w k fs fa aW aI fN fc nW cW nI cI rg day g gc gR g9 hv tv N M R Q ⟨22, xa, xb, xc, xn, xs, xt⟩) (J : Nat → Value) : Goes Tryz.prog (bodyPost Tryz.prog Tryz.f21 Q) (McI w0.heap.size g day w hv tv hv1 tv1 s1.holds s1.out) ⟨erS, fr 228 (eS9 g gc gR g9 r) J, [(g, dmO day (.slice fa fN fc) hv1 tv1 (s1.steps + 1) false), (gc, cdO rg (.slice aW nW cW) (.slice aI nI cI)), (gR, rgO r.regs), (g9, .cells (iC ⟨22, xa, xb, xc, xn, xs, xt⟩).toArray 72 (0, 0))]⟩ := by
  obtain ⟨h0, hg0, hBw, hl, ht, hge, hgc, hgR, hg9, hnd, hX, hs, hFit, hFit1, hov, hH1, hLeft, hMost, hon⟩ := id H
  have H30 : (⟨22, xa, xb, xc, xn, xs, xt⟩ : Ik).op ≠ 30 := by show ((22 : Int)) ≠ 30; decide
  refine Goes.run [3, 0, 0, 0, 0, 0, 0, 0, 1] [(true, true), (false, false), (false, false), (false, false), (false, false), (false, false), (false, false), (false, false)] ⟨rfl, rfl, rfl, rfl, rfl, rfl, rfl, rfl, trivial⟩ ?_
  refine Goes.open [0, 3] ?_
  refine Goes.run [0, 1, 2, 3, 0, 4, 5, 1, 6, 7] [] trivial ?_
  refine Goes.run [] [] trivial ?_
  exact Goes.at (K := erT) (n := 228) (S := eST g gc gR g9 (r) (decide (day < xn))) (m := [(g, dmO day (.slice fa fN fc) hv1 tv1 (s1.steps + 1) false), (gc, cdO rg (.slice aW nW cW) (.slice aI nI cI)), (gR, rgO (r).regs), (g9, .cells (iC ⟨22, xa, xb, xc, xn, xs, xt⟩).toArray 72 (0, 0))]) (fun J => tl (r) (decide (day < xn)) (s1.one) false hv1 tv1 (H.okQ H30 hRun (r) (decide (day < xn)) rfl) J) (by kernel_chk) (by kernel_chk) (by kernel_chk)
set_option maxHeartbeats 4000000 in
set_option maxRecDepth 100000 in
seal rn rnN rnS Goes ans atEnd put0 put putM opened openedY putA0 putA oneSt st0 keep mkSt newSt rgO erH erS erT in
theorem ed_3 {xa xb xc xn xt : Int} {xs : List UInt8} (H : CaseE w0 w k fs fa aW aI fN fc nW cW nI cI rg day g gc gR g9 hv tv sh so N M i s1 r ⟨3, xa, xb, xc, xn, xs, xt⟩) (hRun : runD k fs day M (doQ fs day ⟨3, xa, xb, xc, xn, xs, xt⟩ r) s1.one = R) (tl : TailE w0 w k fs fa aW aI fN fc nW cW nI cI rg day g gc gR g9 hv tv N M R Q ⟨3, xa, xb, xc, xn, xs, xt⟩) (J : Nat → Value) : Goes Tryz.prog (bodyPost Tryz.prog Tryz.f21 Q) (McI w0.heap.size g day w hv tv hv1 tv1 s1.holds s1.out) ⟨erS, fr 228 (eS9 g gc gR g9 r) J, [(g, dmO day (.slice fa fN fc) hv1 tv1 (s1.steps + 1) false), (gc, cdO rg (.slice aW nW cW) (.slice aI nI cI)), (gR, rgO r.regs), (g9, .cells (iC ⟨3, xa, xb, xc, xn, xs, xt⟩).toArray 72 (0, 0))]⟩ := by
  obtain ⟨h0, hg0, hBw, hl, ht, hge, hgc, hgR, hg9, hnd, hX, hs, hFit, hFit1, hov, hH1, hLeft, hMost, hon⟩ := id H
  have H30 : (⟨3, xa, xb, xc, xn, xs, xt⟩ : Ik).op ≠ 30 := by show ((3 : Int)) ≠ 30; decide
  refine Goes.run [3, 0, 0, 1] [(true, true), (false, false), (false, false)] ⟨rfl, rfl, rfl, trivial⟩ ?_
  refine Goes.open [0, 3] ?_
  refine Goes.run [0, 1, 2, 1, 3, 4, 5, 6, 0, 7, 8, 1, 9] [] trivial ?_
  refine Goes.slot 81 (.int .i64 (day - xn)) (u := .int .i64 (IntKind.i64.wrap (day - xn))) (congrArg _ (IntWalk.i64_in _ ⟨by have := hX.n (.inr rfl); have := h0.day; simp only at *; omega, by have := hX.n (.inr rfl); have := h0.day; simp only at *; omega⟩)) ?_
  refine Goes.callA0 10 47 #[.int .i64 (day - xn)] (.int .i64 ((clampD (day - xn) : Nat) : Int)) (fun w' _ _ => (rclamp_day (day - xn) w').mono fun _ _ h => ⟨h.1, by rw [h.2]; exact Below.refl _ _⟩) ?_
  refine Goes.valA 11 (Instr.indexAt 101 (slG gR) (.int .i64 xa)) (.pointer (some ⟨gR, xa.toNat, none⟩)) (fun w' _ => idxG gR hX.a w') ?_
  refine Goes.lone1 12 (TookS.stoK 12 2 gR (Instr.storeAt 2 (.pointer (some ⟨gR, xa.toNat, none⟩)) (.int .i64 (((clampD (day - xn) : Nat) : Int)))) (rgO (r.put xa (((clampD (day - xn) : Nat) : Int))).regs) (fun w' hm => rg_st (hm.get 2) hX.a _) [(g, dmO day (.slice fa fN fc) hv1 tv1 (s1.steps + 1) false), (g9, .cells (iC ⟨3, xa, xb, xc, xn, xs, xt⟩).toArray 72 (0, 0))] (fun q hq => by simp at hq hnd; rcases hq with rfl | rfl <;> simp only <;> omega) ?_)
  refine Goes.run [] [] trivial ?_
  exact Goes.at (K := erT) (n := 228) (S := eST g gc gR g9 (r.put xa ((clampD (day - xn) : Nat) : Int)) (false)) (m := [(g, dmO day (.slice fa fN fc) hv1 tv1 (s1.steps + 1) false), (gc, cdO rg (.slice aW nW cW) (.slice aI nI cI)), (gR, rgO (r.put xa ((clampD (day - xn) : Nat) : Int)).regs), (g9, .cells (iC ⟨3, xa, xb, xc, xn, xs, xt⟩).toArray 72 (0, 0))]) (fun J => tl (r.put xa ((clampD (day - xn) : Nat) : Int)) (false) (s1.one) false hv1 tv1 (H.okQ H30 hRun (r.put xa ((clampD (day - xn) : Nat) : Int)) (false) rfl) J) (by kernel_chk) (by kernel_chk) (by kernel_chk)
set_option maxHeartbeats 4000000 in
set_option maxRecDepth 100000 in
seal rn rnN rnS Goes ans atEnd put0 put putM opened openedY putA0 putA oneSt st0 keep mkSt newSt rgO erH erS erT in
theorem ed_23 {xa xb xc xn xt : Int} {xs : List UInt8} (H : CaseE w0 w k fs fa aW aI fN fc nW cW nI cI rg day g gc gR g9 hv tv sh so N M i s1 r ⟨23, xa, xb, xc, xn, xs, xt⟩) (hRun : runD k fs day M (doQ fs day ⟨23, xa, xb, xc, xn, xs, xt⟩ r) s1.one = R) (tl : TailE w0 w k fs fa aW aI fN fc nW cW nI cI rg day g gc gR g9 hv tv N M R Q ⟨23, xa, xb, xc, xn, xs, xt⟩) (J : Nat → Value) : Goes Tryz.prog (bodyPost Tryz.prog Tryz.f21 Q) (McI w0.heap.size g day w hv tv hv1 tv1 s1.holds s1.out) ⟨erS, fr 228 (eS9 g gc gR g9 r) J, [(g, dmO day (.slice fa fN fc) hv1 tv1 (s1.steps + 1) false), (gc, cdO rg (.slice aW nW cW) (.slice aI nI cI)), (gR, rgO r.regs), (g9, .cells (iC ⟨23, xa, xb, xc, xn, xs, xt⟩).toArray 72 (0, 0))]⟩ := by
  obtain ⟨h0, hg0, hBw, hl, ht, hge, hgc, hgR, hg9, hnd, hX, hs, hFit, hFit1, hov, hH1, hLeft, hMost, hon⟩ := id H
  have H30 : (⟨23, xa, xb, xc, xn, xs, xt⟩ : Ik).op ≠ 30 := by show ((23 : Int)) ≠ 30; decide
  refine Goes.run [3, 0, 0, 0, 0, 0, 0, 0, 0, 1, 3] [(true, true), (false, false), (false, false), (false, false), (false, false), (false, false), (false, false), (false, false), (false, false)] ⟨rfl, rfl, rfl, rfl, rfl, rfl, rfl, rfl, rfl, trivial⟩ ?_
  refine Goes.val (Instr.indexAt 101 (slG gR) (.int .i64 xb)) (.pointer (some ⟨gR, xb.toNat, none⟩)) (fun w' _ _ => idxG gR hX.b w') ?_
  refine Goes.val (Instr.loadAt 2 (.pointer (some ⟨gR, xb.toNat, none⟩))) (.int .i64 (r.get xb)) (fun w' hm _ => rg_ld (hm.get 2) hX.b) ?_
  refine Goes.call0 49 #[.int .i64 r.f, .int .i64 (r.get xb)] (.int .i64 (mulI r.f (r.get xb))) (fun w' _ _ => (rmul_any r.f (r.get xb) w').mono fun _ _ h => ⟨h.1, by rw [h.2]; exact Below.refl _ _⟩) ?_
  refine Goes.run [] [] trivial ?_
  exact Goes.at (K := erT) (n := 228) (S := eST g gc gR g9 (r.fac (mulI r.f (r.get xb))) (false)) (m := [(g, dmO day (.slice fa fN fc) hv1 tv1 (s1.steps + 1) false), (gc, cdO rg (.slice aW nW cW) (.slice aI nI cI)), (gR, rgO (r.fac (mulI r.f (r.get xb))).regs), (g9, .cells (iC ⟨23, xa, xb, xc, xn, xs, xt⟩).toArray 72 (0, 0))]) (fun J => tl (r.fac (mulI r.f (r.get xb))) (false) (s1.one) false hv1 tv1 (H.okQ H30 hRun (r.fac (mulI r.f (r.get xb))) (false) rfl) J) (by kernel_chk) (by kernel_chk) (by kernel_chk)
set_option maxHeartbeats 4000000 in
set_option maxRecDepth 100000 in
seal rn rnN rnS Goes ans atEnd put0 put putM opened openedY putA0 putA oneSt st0 keep mkSt newSt rgO erH erS erT in
theorem ed_24 {xa xb xc xn xt : Int} {xs : List UInt8} (H : CaseE w0 w k fs fa aW aI fN fc nW cW nI cI rg day g gc gR g9 hv tv sh so N M i s1 r ⟨24, xa, xb, xc, xn, xs, xt⟩) (hRun : runD k fs day M (doQ fs day ⟨24, xa, xb, xc, xn, xs, xt⟩ r) s1.one = R) (tl : TailE w0 w k fs fa aW aI fN fc nW cW nI cI rg day g gc gR g9 hv tv N M R Q ⟨24, xa, xb, xc, xn, xs, xt⟩) (J : Nat → Value) : Goes Tryz.prog (bodyPost Tryz.prog Tryz.f21 Q) (McI w0.heap.size g day w hv tv hv1 tv1 s1.holds s1.out) ⟨erS, fr 228 (eS9 g gc gR g9 r) J, [(g, dmO day (.slice fa fN fc) hv1 tv1 (s1.steps + 1) false), (gc, cdO rg (.slice aW nW cW) (.slice aI nI cI)), (gR, rgO r.regs), (g9, .cells (iC ⟨24, xa, xb, xc, xn, xs, xt⟩).toArray 72 (0, 0))]⟩ := by
  obtain ⟨h0, hg0, hBw, hl, ht, hge, hgc, hgR, hg9, hnd, hX, hs, hFit, hFit1, hov, hH1, hLeft, hMost, hon⟩ := id H
  have H30 : (⟨24, xa, xb, xc, xn, xs, xt⟩ : Ik).op ≠ 30 := by show ((24 : Int)) ≠ 30; decide
  refine Goes.run [3, 0, 0, 0, 0, 0, 0, 0, 0, 0, 1] [(true, true), (false, false), (false, false), (false, false), (false, false), (false, false), (false, false), (false, false), (false, false), (false, false)] ⟨rfl, rfl, rfl, rfl, rfl, rfl, rfl, rfl, rfl, rfl, trivial⟩ ?_
  refine Goes.call0 50 #[.int .i64 r.f] (.int .i64 (- clampI r.f)) (fun w' _ _ => (rneg_any r.f w').mono fun _ _ h => ⟨h.1, by rw [h.2]; exact Below.refl _ _⟩) ?_
  refine Goes.run [] [] trivial ?_
  exact Goes.at (K := erT) (n := 228) (S := eST g gc gR g9 (r.fac (- clampI r.f)) (false)) (m := [(g, dmO day (.slice fa fN fc) hv1 tv1 (s1.steps + 1) false), (gc, cdO rg (.slice aW nW cW) (.slice aI nI cI)), (gR, rgO (r.fac (- clampI r.f)).regs), (g9, .cells (iC ⟨24, xa, xb, xc, xn, xs, xt⟩).toArray 72 (0, 0))]) (fun J => tl (r.fac (- clampI r.f)) (false) (s1.one) false hv1 tv1 (H.okQ H30 hRun (r.fac (- clampI r.f)) (false) rfl) J) (by kernel_chk) (by kernel_chk) (by kernel_chk)
set_option maxHeartbeats 4000000 in
set_option maxRecDepth 100000 in
seal rn rnN rnS Goes ans atEnd put0 put putM opened openedY putA0 putA oneSt st0 keep mkSt newSt rgO erH erS erT in
theorem ed_25 {xa xb xc xn xt : Int} {xs : List UInt8} (H : CaseE w0 w k fs fa aW aI fN fc nW cW nI cI rg day g gc gR g9 hv tv sh so N M i s1 r ⟨25, xa, xb, xc, xn, xs, xt⟩) (hRun : runD k fs day M (doQ fs day ⟨25, xa, xb, xc, xn, xs, xt⟩ r) s1.one = R) (tl : TailE w0 w k fs fa aW aI fN fc nW cW nI cI rg day g gc gR g9 hv tv N M R Q ⟨25, xa, xb, xc, xn, xs, xt⟩) (J : Nat → Value) : Goes Tryz.prog (bodyPost Tryz.prog Tryz.f21 Q) (McI w0.heap.size g day w hv tv hv1 tv1 s1.holds s1.out) ⟨erS, fr 228 (eS9 g gc gR g9 r) J, [(g, dmO day (.slice fa fN fc) hv1 tv1 (s1.steps + 1) false), (gc, cdO rg (.slice aW nW cW) (.slice aI nI cI)), (gR, rgO r.regs), (g9, .cells (iC ⟨25, xa, xb, xc, xn, xs, xt⟩).toArray 72 (0, 0))]⟩ := by
  obtain ⟨h0, hg0, hBw, hl, ht, hge, hgc, hgR, hg9, hnd, hX, hs, hFit, hFit1, hov, hH1, hLeft, hMost, hon⟩ := id H
  have H30 : (⟨25, xa, xb, xc, xn, xs, xt⟩ : Ik).op ≠ 30 := by show ((25 : Int)) ≠ 30; decide
  refine Goes.run [3, 0, 0, 0, 0, 0, 0, 0, 0, 0, 0, 1, 3] [(true, true), (false, false), (false, false), (false, false), (false, false), (false, false), (false, false), (false, false), (false, false), (false, false), (false, false)] ⟨rfl, rfl, rfl, rfl, rfl, rfl, rfl, rfl, rfl, rfl, rfl, trivial⟩ ?_
  refine Goes.val (Instr.indexAt 101 (slG gR) (.int .i64 xa)) (.pointer (some ⟨gR, xa.toNat, none⟩)) (fun w' _ _ => idxG gR hX.a w') ?_
  refine Goes.stoK 2 gR (Instr.storeAt 2 (.pointer (some ⟨gR, xa.toNat, none⟩)) (.int .i64 (r.f))) (rgO (r.put xa (r.f)).regs) (fun w' hm => rg_st (hm.get 2) hX.a _) ?_
  refine Goes.run [] [] trivial ?_
  exact Goes.at (K := erT) (n := 228) (S := eST g gc gR g9 (r.put xa r.f) (false)) (m := [(g, dmO day (.slice fa fN fc) hv1 tv1 (s1.steps + 1) false), (gc, cdO rg (.slice aW nW cW) (.slice aI nI cI)), (gR, rgO (r.put xa r.f).regs), (g9, .cells (iC ⟨25, xa, xb, xc, xn, xs, xt⟩).toArray 72 (0, 0))]) (fun J => tl (r.put xa r.f) (false) (s1.one) false hv1 tv1 (H.okQ H30 hRun (r.put xa r.f) (false) rfl) J) (by kernel_chk) (by kernel_chk) (by kernel_chk)
set_option maxHeartbeats 4000000 in
set_option maxRecDepth 100000 in
seal rn rnN rnS Goes ans atEnd put0 put putM opened openedY putA0 putA oneSt st0 keep mkSt newSt rgO erH erS erT in
theorem ed_26 {xa xb xc xn xt : Int} {xs : List UInt8} (H : CaseE w0 w k fs fa aW aI fN fc nW cW nI cI rg day g gc gR g9 hv tv sh so N M i s1 r ⟨26, xa, xb, xc, xn, xs, xt⟩) (hRun : runD k fs day M (doQ fs day ⟨26, xa, xb, xc, xn, xs, xt⟩ r) s1.one = R) (tl : TailE w0 w k fs fa aW aI fN fc nW cW nI cI rg day g gc gR g9 hv tv N M R Q ⟨26, xa, xb, xc, xn, xs, xt⟩) (J : Nat → Value) : Goes Tryz.prog (bodyPost Tryz.prog Tryz.f21 Q) (McI w0.heap.size g day w hv tv hv1 tv1 s1.holds s1.out) ⟨erS, fr 228 (eS9 g gc gR g9 r) J, [(g, dmO day (.slice fa fN fc) hv1 tv1 (s1.steps + 1) false), (gc, cdO rg (.slice aW nW cW) (.slice aI nI cI)), (gR, rgO r.regs), (g9, .cells (iC ⟨26, xa, xb, xc, xn, xs, xt⟩).toArray 72 (0, 0))]⟩ := by
  obtain ⟨h0, hg0, hBw, hl, ht, hge, hgc, hgR, hg9, hnd, hX, hs, hFit, hFit1, hov, hH1, hLeft, hMost, hon⟩ := id H
  have H30 : (⟨26, xa, xb, xc, xn, xs, xt⟩ : Ik).op ≠ 30 := by show ((26 : Int)) ≠ 30; decide
  refine Goes.run [3, 0, 0, 0, 0, 0, 0, 0, 0, 0, 0, 0, 1, 3] [(true, true), (false, false), (false, false), (false, false), (false, false), (false, false), (false, false), (false, false), (false, false), (false, false), (false, false), (false, false)] ⟨rfl, rfl, rfl, rfl, rfl, rfl, rfl, rfl, rfl, rfl, rfl, rfl, trivial⟩ ?_
  refine Goes.val (Instr.indexAt 101 (slG gR) (.int .i64 xb)) (.pointer (some ⟨gR, xb.toNat, none⟩)) (fun w' _ _ => idxG gR hX.b w') ?_
  refine Goes.val (Instr.loadAt 2 (.pointer (some ⟨gR, xb.toNat, none⟩))) (.int .i64 (r.get xb)) (fun w' hm _ => rg_ld (hm.get 2) hX.b) ?_
  refine Goes.call0 51 #[.int .i64 (r.get xb)] (.int .i64 (clampI (r.get xb))) (fun w' _ _ => (rclamp_any (r.get xb) w').mono fun _ _ h => ⟨h.1, by rw [h.2]; exact Below.refl _ _⟩) ?_
  refine Goes.run [] [] trivial ?_
  exact Goes.at (K := erT) (n := 228) (S := eST g gc gR g9 (r.fac (clampI (r.get xb))) (false)) (m := [(g, dmO day (.slice fa fN fc) hv1 tv1 (s1.steps + 1) false), (gc, cdO rg (.slice aW nW cW) (.slice aI nI cI)), (gR, rgO (r.fac (clampI (r.get xb))).regs), (g9, .cells (iC ⟨26, xa, xb, xc, xn, xs, xt⟩).toArray 72 (0, 0))]) (fun J => tl (r.fac (clampI (r.get xb))) (false) (s1.one) false hv1 tv1 (H.okQ H30 hRun (r.fac (clampI (r.get xb))) (false) rfl) J) (by kernel_chk) (by kernel_chk) (by kernel_chk)
set_option maxHeartbeats 4000000 in
set_option maxRecDepth 100000 in
seal rn rnN rnS Goes ans atEnd put0 put putM opened openedY putA0 putA oneSt st0 keep mkSt newSt rgO erH erS erT in
theorem ed_2 {xa xb xc xn xt : Int} {xs : List UInt8} (H : CaseE w0 w k fs fa aW aI fN fc nW cW nI cI rg day g gc gR g9 hv tv sh so N M i s1 r ⟨2, xa, xb, xc, xn, xs, xt⟩) (hRun : runD k fs day M (doQ fs day ⟨2, xa, xb, xc, xn, xs, xt⟩ r) s1.one = R) (tl : TailE w0 w k fs fa aW aI fN fc nW cW nI cI rg day g gc gR g9 hv tv N M R Q ⟨2, xa, xb, xc, xn, xs, xt⟩) (J : Nat → Value) : Goes Tryz.prog (bodyPost Tryz.prog Tryz.f21 Q) (McI w0.heap.size g day w hv tv hv1 tv1 s1.holds s1.out) ⟨erS, fr 228 (eS9 g gc gR g9 r) J, [(g, dmO day (.slice fa fN fc) hv1 tv1 (s1.steps + 1) false), (gc, cdO rg (.slice aW nW cW) (.slice aI nI cI)), (gR, rgO r.regs), (g9, .cells (iC ⟨2, xa, xb, xc, xn, xs, xt⟩).toArray 72 (0, 0))]⟩ := by
  obtain ⟨h0, hg0, hBw, hl, ht, hge, hgc, hgR, hg9, hnd, hX, hs, hFit, hFit1, hov, hH1, hLeft, hMost, hon⟩ := id H
  have H30 : (⟨2, xa, xb, xc, xn, xs, xt⟩ : Ik).op ≠ 30 := by show ((2 : Int)) ≠ 30; decide
  have hfit : Fits 4 xn xs := ⟨by omega, by have := hX.n (.inl rfl); simp only at this; omega, hs⟩
  have hval : valP fs day (.mk 4 xn xs []) = fedP xs (day - xn) fs := by
    have e : IntKind.i64.wrap (day - xn) = day - xn := IntWalk.i64_in _ ⟨by have := hX.n (.inl rfl); have := h0.day; simp only at *; omega, by have := hX.n (.inl rfl); have := h0.day; simp only at *; omega⟩
    show fedP xs (IntKind.i64.wrap (day - xn)) fs = _
    rw [e]
  cases hq : fedP xs (day - xn) fs with
  | none =>
    refine Goes.run [3, 0, 0, 0, 1] [(true, true), (false, false), (false, false), (false, false)] ⟨rfl, rfl, rfl, rfl, trivial⟩ ?_
    refine Goes.open [0, 3] ?_
    refine Goes.run [0, 1, 1, 2, 3, 1, 4, 5, 6, 7, 8, 0, 9, 10, 11, 12, 0] [] trivial ?_
    refine Goes.callA0 13 48 #[cv 4 xn xs (.slice none 0 0), .int .i64 day, (.slice fa fN fc)] (oV (none)) (fun w' _ hI => by have h2 := val_any (fs := fs) (fv := (.slice fa fN fc)) day (.mk 4 xn xs []) _ w' rfl (leafC hfit) (h0.en (hBv hg0 hBw hl ht hI.now)).fd; rw [hval, hq] at h2; exact h2) ?_
    refine Goes.run [14, 15, 16, 17, 18] [] trivial ?_
    refine Goes.run [0] [(false, false)] ⟨rfl, trivial⟩ ?_
    refine Goes.run [] [] trivial ?_
    exact Goes.at (K := erT) (n := 228) (S := eST g gc gR g9 (r) (true)) (m := [(g, dmO day (.slice fa fN fc) hv1 tv1 (s1.steps + 1) false), (gc, cdO rg (.slice aW nW cW) (.slice aI nI cI)), (gR, rgO (r).regs), (g9, .cells (iC ⟨2, xa, xb, xc, xn, xs, xt⟩).toArray 72 (0, 0))]) (fun J => tl (r) (true) (s1.one) false hv1 tv1 (H.okQ H30 hRun (r) (true) (by show _ = _; unfold doQ; simp only [hq]; rfl)) J) (by kernel_chk) (by kernel_chk) (by kernel_chk)
  | some v =>
    refine Goes.run [3, 0, 0, 0, 1] [(true, true), (false, false), (false, false), (false, false)] ⟨rfl, rfl, rfl, rfl, trivial⟩ ?_
    refine Goes.open [0, 3] ?_
    refine Goes.run [0, 1, 1, 2, 3, 1, 4, 5, 6, 7, 8, 0, 9, 10, 11, 12, 0] [] trivial ?_
    refine Goes.callA0 13 48 #[cv 4 xn xs (.slice none 0 0), .int .i64 day, (.slice fa fN fc)] (oV (some v)) (fun w' _ hI => by have h2 := val_any (fs := fs) (fv := (.slice fa fN fc)) day (.mk 4 xn xs []) _ w' rfl (leafC hfit) (h0.en (hBv hg0 hBw hl ht hI.now)).fd; rw [hval, hq] at h2; exact h2) ?_
    refine Goes.run [14, 15, 16, 17, 18] [] trivial ?_
    refine Goes.run [1, 3] [(true, true)] ⟨rfl, trivial⟩ ?_
    refine Goes.val (Instr.indexAt 101 (slG gR) (.int .i64 xa)) (.pointer (some ⟨gR, xa.toNat, none⟩)) (fun w' _ _ => idxG gR hX.a w') ?_
    refine Goes.stoK 2 gR (Instr.storeAt 2 (.pointer (some ⟨gR, xa.toNat, none⟩)) (.int .i64 (v))) (rgO (r.put xa (v)).regs) (fun w' hm => rg_st (hm.get 2) hX.a _) ?_
    refine Goes.run [] [] trivial ?_
    exact Goes.at (K := erT) (n := 228) (S := eST g gc gR g9 (r.put xa v) (false)) (m := [(g, dmO day (.slice fa fN fc) hv1 tv1 (s1.steps + 1) false), (gc, cdO rg (.slice aW nW cW) (.slice aI nI cI)), (gR, rgO (r.put xa v).regs), (g9, .cells (iC ⟨2, xa, xb, xc, xn, xs, xt⟩).toArray 72 (0, 0))]) (fun J => tl (r.put xa v) (false) (s1.one) false hv1 tv1 (H.okQ H30 hRun (r.put xa v) (false) (by show _ = _; unfold doQ; simp only [hq]; rfl)) J) (by kernel_chk) (by kernel_chk) (by kernel_chk)
set_option maxHeartbeats 4000000 in
set_option maxRecDepth 100000 in
seal rn rnN rnS Goes ans atEnd put0 put putM opened openedY putA0 putA oneSt st0 keep mkSt newSt rgO erH erS erT in
theorem ed_rest {op xa xb xc xn xt : Int} {xs : List UInt8} (H : CaseE w0 w k fs fa aW aI fN fc nW cW nI cI rg day g gc gR g9 hv tv sh so N M i s1 r ⟨op, xa, xb, xc, xn, xs, xt⟩) (h30 : (op == 30) = false) (h1 : (op == 1) = false) (h3 : (op == 3) = false) (h2 : (op == 2) = false) (h19 : (op == 19) = false) (h20 : (op == 20) = false) (h21 : (op == 21) = false) (h22 : (op == 22) = false) (h23 : (op == 23) = false) (h24 : (op == 24) = false) (h25 : (op == 25) = false) (h26 : (op == 26) = false) (h27 : (op == 27) = false) (h28 : (op == 28) = false) (h29 : (op == 29) = false) (hRun : runD k fs day M (doQ fs day ⟨op, xa, xb, xc, xn, xs, xt⟩ r) s1.one = R) (tl : TailE w0 w k fs fa aW aI fN fc nW cW nI cI rg day g gc gR g9 hv tv N M R Q ⟨op, xa, xb, xc, xn, xs, xt⟩) (J : Nat → Value) : Goes Tryz.prog (bodyPost Tryz.prog Tryz.f21 Q) (McI w0.heap.size g day w hv tv hv1 tv1 s1.holds s1.out) ⟨erS, fr 228 (eS9 g gc gR g9 r) J, [(g, dmO day (.slice fa fN fc) hv1 tv1 (s1.steps + 1) false), (gc, cdO rg (.slice aW nW cW) (.slice aI nI cI)), (gR, rgO r.regs), (g9, .cells (iC ⟨op, xa, xb, xc, xn, xs, xt⟩).toArray 72 (0, 0))]⟩ := by
  obtain ⟨h0, hg0, hBw, hl, ht, hge, hgc, hgR, hg9, hnd, hX, hs, hFit, hFit1, hov, hH1, hLeft, hMost, hon⟩ := id H
  have H30 : (⟨op, xa, xb, xc, xn, xs, xt⟩ : Ik).op ≠ 30 := fun e => by replace e : op = 30 := e; rw [e] at h30; cases h30
  have hdo : doQ fs day ⟨op, xa, xb, xc, xn, xs, xt⟩ r = r.put xa (vkP op (r.get xb) (r.get xc)) := by unfold doQ; simp only [h1, h3, h2, h19, h20, h21, h22, h23, h24, h25, h26, cond_false]
  refine Goes.run [3, 0, 0, 0, 0, 0, 0, 0, 0, 0, 0, 0, 0, 0, 0, 0] [(op == 29, false), (op == 28, false), (op == 27, false), (op == 26, false), (op == 25, false), (op == 24, false), (op == 23, false), (op == 22, false), (op == 21, false), (op == 20, false), (op == 19, false), (op == 2, false), (op == 3, false), (op == 1, false), (op == 30, false)] ⟨h29, h28, h27, h26, h25, h24, h23, h22, h21, h20, h19, h2, h3, h1, h30, trivial⟩ ?_
  refine Goes.open [0, 3] ?_
  refine Goes.run [0, 1, 2, 1, 3, 4, 1, 5, 6, 7, 1, 10, 11, 12, 1] [] trivial ?_
  refine Goes.valA 8 (Instr.indexAt 101 (slG gR) (.int .i64 xb)) (.pointer (some ⟨gR, xb.toNat, none⟩)) (fun w' _ => idxG gR hX.b w') ?_
  refine Goes.valA 13 (Instr.indexAt 101 (slG gR) (.int .i64 xc)) (.pointer (some ⟨gR, xc.toNat, none⟩)) (fun w' _ => idxG gR hX.c w') ?_
  refine Goes.two 9 14 (TookS.valV 9 (Instr.loadAt 2 (.pointer (some ⟨gR, xb.toNat, none⟩))) (.int .i64 (r.get xb)) (fun w' hm _ => rg_ld (hm.get 2) hX.b) (Goes.lone1 14 (TookS.valV 14 (Instr.loadAt 2 (.pointer (some ⟨gR, xc.toNat, none⟩))) (.int .i64 (r.get xc)) (fun w' hm _ => rg_ld (hm.get 2) hX.c) ?_))) (TookS.valV 14 (Instr.loadAt 2 (.pointer (some ⟨gR, xc.toNat, none⟩))) (.int .i64 (r.get xc)) (fun w' hm _ => rg_ld (hm.get 2) hX.c) (Goes.lone1 9 (TookS.valV 9 (Instr.loadAt 2 (.pointer (some ⟨gR, xb.toNat, none⟩))) (.int .i64 (r.get xb)) (fun w' hm _ => rg_ld (hm.get 2) hX.b) ?_)))
  · skip
    refine Goes.callA0 15 52 #[.int .i64 op, .int .i64 (r.get xb), .int .i64 (r.get xc)] (.int .i64 (vkP op (r.get xb) (r.get xc))) (fun w' _ _ => dreck_any op _ _ w') ?_
    refine Goes.valA 16 (Instr.indexAt 101 (slG gR) (.int .i64 xa)) (.pointer (some ⟨gR, xa.toNat, none⟩)) (fun w' _ => idxG gR hX.a w') ?_
    refine Goes.lone1 17 (TookS.stoK 17 2 gR (Instr.storeAt 2 (.pointer (some ⟨gR, xa.toNat, none⟩)) (.int .i64 (vkP op (r.get xb) (r.get xc)))) (rgO (r.put xa (vkP op (r.get xb) (r.get xc))).regs) (fun w' hm => rg_st (hm.get 2) hX.a _) [(g, dmO day (.slice fa fN fc) hv1 tv1 (s1.steps + 1) false), (g9, .cells (iC ⟨op, xa, xb, xc, xn, xs, xt⟩).toArray 72 (0, 0))] (fun q hq => by simp at hq hnd; rcases hq with rfl | rfl <;> simp only <;> omega) ?_)
    refine Goes.run [] [] trivial ?_
    exact Goes.at (K := erT) (n := 228) (S := eST g gc gR g9 (r.put xa (vkP op (r.get xb) (r.get xc))) (false)) (m := [(g, dmO day (.slice fa fN fc) hv1 tv1 (s1.steps + 1) false), (gc, cdO rg (.slice aW nW cW) (.slice aI nI cI)), (gR, rgO (r.put xa (vkP op (r.get xb) (r.get xc))).regs), (g9, .cells (iC ⟨op, xa, xb, xc, xn, xs, xt⟩).toArray 72 (0, 0))]) (fun J => tl (r.put xa (vkP op (r.get xb) (r.get xc))) (false) (s1.one) false hv1 tv1 (H.okQ H30 hRun (r.put xa (vkP op (r.get xb) (r.get xc))) (false) (hdo.symm)) J) (by kernel_chk) (by kernel_chk) (by kernel_chk)
  · skip
    refine Goes.callA0 15 52 #[.int .i64 op, .int .i64 (r.get xb), .int .i64 (r.get xc)] (.int .i64 (vkP op (r.get xb) (r.get xc))) (fun w' _ _ => dreck_any op _ _ w') ?_
    refine Goes.valA 16 (Instr.indexAt 101 (slG gR) (.int .i64 xa)) (.pointer (some ⟨gR, xa.toNat, none⟩)) (fun w' _ => idxG gR hX.a w') ?_
    refine Goes.lone1 17 (TookS.stoK 17 2 gR (Instr.storeAt 2 (.pointer (some ⟨gR, xa.toNat, none⟩)) (.int .i64 (vkP op (r.get xb) (r.get xc)))) (rgO (r.put xa (vkP op (r.get xb) (r.get xc))).regs) (fun w' hm => rg_st (hm.get 2) hX.a _) [(g, dmO day (.slice fa fN fc) hv1 tv1 (s1.steps + 1) false), (g9, .cells (iC ⟨op, xa, xb, xc, xn, xs, xt⟩).toArray 72 (0, 0))] (fun q hq => by simp at hq hnd; rcases hq with rfl | rfl <;> simp only <;> omega) ?_)
    refine Goes.run [] [] trivial ?_
    exact Goes.at (K := erT) (n := 228) (S := eST g gc gR g9 (r.put xa (vkP op (r.get xb) (r.get xc))) (false)) (m := [(g, dmO day (.slice fa fN fc) hv1 tv1 (s1.steps + 1) false), (gc, cdO rg (.slice aW nW cW) (.slice aI nI cI)), (gR, rgO (r.put xa (vkP op (r.get xb) (r.get xc))).regs), (g9, .cells (iC ⟨op, xa, xb, xc, xn, xs, xt⟩).toArray 72 (0, 0))]) (fun J => tl (r.put xa (vkP op (r.get xb) (r.get xc))) (false) (s1.one) false hv1 tv1 (H.okQ H30 hRun (r.put xa (vkP op (r.get xb) (r.get xc))) (false) (hdo.symm)) J) (by kernel_chk) (by kernel_chk) (by kernel_chk)
end
end Go.Proofs.YtddbiiejilcbbaaGreatDoor
