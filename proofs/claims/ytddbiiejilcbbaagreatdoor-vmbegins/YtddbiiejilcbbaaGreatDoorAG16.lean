/- texts put together: VmD VmQ VmP2 VmC VmU0 VmE0 VmEt VmE1 VmE2 VmE3 VmU1 VmU2 VmU3 VmU4 VmE4 VmL0 NRf VmL1 -/
import Derived.Test.YtddbiiejilcbbaaGreatDoorAG15
import Derived.Test.DevTool
import Derived.Laws.MakeOwn
import Derived.Test.YtddbiiejilcbbaaGreatDoorAG14
import Derived.Test.YtddbiiejilcbbaaGreatDoorAG2
namespace Go.Proofs.YtddbiiejilcbbaaGreatDoor
open Go Go.RowKit

theorem plus_back {day n : Int} (hd : 0 ≤ day ∧ day ≤ 73048) (hn : 0 ≤ n ∧ n ≤ 3660) : ((plusV day (-n) : Nat) : Int) = ((clampD (day - n) : Nat) : Int) := by
  unfold plusV
  have h1 : withinI (-n) 73048 = -n := by unfold withinI; rw [if_neg (by omega), if_neg (by omega)]
  have h2 : ((clampD day : Nat) : Int) = day := by unfold clampD; rw [if_neg (by omega), if_neg (by omega)]; omega
  rw [h1, h2]
  rfl
/-- What an instruction asks. -/
structure DoH (n0 g : Nat) (fs : Fs) (fv : Value) (w : World) (day xa xb xc xn op : Int) : Prop where
  hR : RFd fs
  hE : En n0 fs fv w
  hg0 : n0 ≤ g
  hd : 0 ≤ day ∧ day ≤ 73048
  ha : 0 ≤ xa ∧ xa < 256
  hb : 0 ≤ xb ∧ xb < 256
  hc : 0 ≤ xc ∧ xc < 256
  hn : (op = 2 ∨ op = 3) → 0 ≤ xn ∧ xn ≤ 3660
section
variable {w : World} {g n0 : Nat} {r : Rg} {fs : Fs} {a : Option Addr} {N c : Nat}
set_option maxHeartbeats 2000000 in
set_option maxRecDepth 100000 in
seal rn rnN rnS Goes ans atEnd put0 put putM opened openedY putA0 putA oneSt st0 keep mkSt newSt rnO in
theorem do_2 (h : w.heap[g]? = some (rnO r)) {day xa xb xc xn to : Int} {s : List UInt8} (H : DoH n0 g fs (.slice a N c) w day xa xb xc xn 2) : Calls Tryz.prog 67 #[.pointer (some ⟨g, 0, none⟩), iV ⟨2, xa, xb, xc, xn, s, to⟩, dwV day (.slice a N c)] w (RnQ g w (doQ fs day ⟨2, xa, xb, xc, xn, s, to⟩ r)) := by
  obtain ⟨hR, hE, hg0, hd, ha, hb, hc, hn⟩ := H
  have hlt := lt_of_get h
  refine Goes.begin Tryz.func67 [(g, rnO r)] (fun _ => True) (hold1v h) (by simp [Mem.ids]) (fun _ _ => trivial) ?_
  refine Goes.run [] [] trivial ?_
  refine Goes.new1 w.heap.size (fun w' h => h.1.size) fun g4 hg4 => ?_
  refine Goes.run [] [] trivial ?_
  refine Goes.new1 w.heap.size (fun w' h => h.1.size) fun g5 hg5 => ?_
  refine Goes.run [1, 1, 1, 2] [(true, true)] ⟨rfl, trivial⟩ ?_
  refine Goes.call2 0 g 111 #[.pointer (some ⟨g, 0, none⟩), iV ⟨2, xa, xb, xc, xn, s, to⟩, dwV day (.slice a N c)] (.tuple #[]) (rnO (doQ fs day ⟨2, xa, xb, xc, xn, s, to⟩ r)) (fun w' hm hI => feed_any (hm.get 0) hR (hE.ch hI.now.1 hg0) hg0 hd ⟨2, xa, xb, xc, xn, s, to⟩ ha (hn (.inl rfl)) rfl) ?_
  refine Goes.run [] [] trivial ?_
  exact Goes.ret [] (.tuple #[]) fun w' hm hI => ⟨rfl, hI.now.1, hm.get 0⟩
set_option maxHeartbeats 2000000 in
set_option maxRecDepth 100000 in
seal rn rnN rnS Goes ans atEnd put0 put putM opened openedY putA0 putA oneSt st0 keep mkSt newSt rnO in
theorem do_3 (h : w.heap[g]? = some (rnO r)) {day xa xb xc xn to : Int} {s : List UInt8} (H : DoH n0 g fs (.slice a N c) w day xa xb xc xn 3) : Calls Tryz.prog 67 #[.pointer (some ⟨g, 0, none⟩), iV ⟨3, xa, xb, xc, xn, s, to⟩, dwV day (.slice a N c)] w (RnQ g w (doQ fs day ⟨3, xa, xb, xc, xn, s, to⟩ r)) := by
  obtain ⟨hR, hE, hg0, hd, ha, hb, hc, hn⟩ := H
  have hlt := lt_of_get h
  rw [show doQ fs day ⟨3, xa, xb, xc, xn, s, to⟩ r = r.put xa (clampD (day - xn) : Nat) from rfl]
  refine Goes.begin Tryz.func67 [(g, rnO r)] (fun _ => True) (hold1v h) (by simp [Mem.ids]) (fun _ _ => trivial) ?_
  refine Goes.run [] [] trivial ?_
  refine Goes.new1 w.heap.size (fun w' h => h.1.size) fun g4 hg4 => ?_
  refine Goes.run [] [] trivial ?_
  refine Goes.new1 w.heap.size (fun w' h => h.1.size) fun g5 hg5 => ?_
  refine Goes.run [1, 0, 1] [(true, true), (false, false)] ⟨rfl, rfl, trivial⟩ ?_
  refine Goes.open [1, 2] ?_
  refine Goes.run [0, 1, 2, 0, 3, 4, 1, 5, 6, 0, 7, 9, 10] [] trivial ?_
  refine Goes.slot 46 (.int .i64 (-xn)) (u := .int .i64 (IntKind.i64.wrap (0 - xn))) (congrArg _ (by have := hn (.inr rfl); rw [IntWalk.i64_in _ ⟨by omega, by omega⟩]; omega)) ?_
  refine Goes.callA0 8 112 #[.int .i64 day, .int .i64 (-xn)] (.int .i64 ((clampD (day - xn) : Nat) : Int)) (fun w' _ hI => by rw [← plus_back hd (hn (.inr rfl))]; exact (plus_any day (-xn) w').mono fun _ _ h => belQ h) ?_
  refine Goes.valA 11 (Instr.indexAt 123 (.pointer (some ⟨g, 0, none⟩)) (.int .i64 xa)) (.pointer (some ⟨g, xa.toNat, none⟩)) (fun w' _ => idxRg g ha w') ?_
  refine Goes.lone1 12 (TookS.stoK 12 0 g (Instr.storeAt 2 (.pointer (some ⟨g, xa.toNat, none⟩)) (.int .i64 ((clampD (day - xn) : Nat)))) (rnO (r.put xa ((clampD (day - xn) : Nat)))) (fun w' hm => rn_st (hm.get 0) ha _) [(g4, .cells (iC ⟨3, xa, xb, xc, xn, s, to⟩).toArray 72 (0, 0)), (g5, .cells #[.int .i64 day, .slice a N c] 79 (0, 0))] (fun q hq => by simp at hq; rcases hq with rfl | rfl <;> simp only <;> omega) ?_)
  refine Goes.run [] [] trivial ?_
  exact Goes.ret [] (.tuple #[]) fun w' hm hI => ⟨rfl, hI.now.1, hm.get 0⟩
set_option maxHeartbeats 2000000 in
set_option maxRecDepth 100000 in
seal rn rnN rnS Goes ans atEnd put0 put putM opened openedY putA0 putA oneSt st0 keep mkSt newSt rnO in
theorem do_19 (h : w.heap[g]? = some (rnO r)) {day xa xb xc xn to : Int} {s : List UInt8} (H : DoH n0 g fs (.slice a N c) w day xa xb xc xn 19) : Calls Tryz.prog 67 #[.pointer (some ⟨g, 0, none⟩), iV ⟨19, xa, xb, xc, xn, s, to⟩, dwV day (.slice a N c)] w (RnQ g w (doQ fs day ⟨19, xa, xb, xc, xn, s, to⟩ r)) := by
  obtain ⟨hR, hE, hg0, hd, ha, hb, hc, hn⟩ := H
  have hlt := lt_of_get h
  rw [show doQ fs day ⟨19, xa, xb, xc, xn, s, to⟩ r = r.go to (r.get xb == 0) from rfl]
  refine Goes.begin Tryz.func67 [(g, rnO r)] (fun _ => True) (hold1v h) (by simp [Mem.ids]) (fun _ _ => trivial) ?_
  refine Goes.run [] [] trivial ?_
  refine Goes.new1 w.heap.size (fun w' h => h.1.size) fun g4 hg4 => ?_
  refine Goes.run [] [] trivial ?_
  refine Goes.new1 w.heap.size (fun w' h => h.1.size) fun g5 hg5 => ?_
  refine Goes.run [1, 0, 0, 1] [(true, true), (false, false), (false, false)] ⟨rfl, rfl, rfl, trivial⟩ ?_
  refine Goes.open [1, 2] ?_
  refine Goes.run [0, 1, 2, 0, 3, 4, 5, 0, 6, 7] [] trivial ?_
  refine Goes.valA 8 (Instr.indexAt 123 (.pointer (some ⟨g, 0, none⟩)) (.int .i64 xb)) (.pointer (some ⟨g, xb.toNat, none⟩)) (fun w' _ => idxRg g hb w') ?_
  refine Goes.lone1 9 (TookS.valV 9 (Instr.loadAt 2 (.pointer (some ⟨g, xb.toNat, none⟩))) (.int .i64 (r.get xb)) (fun w' hm _ => rn_ld (hm.get 0) (by omega)) ?_)
  refine Goes.run [10] [] trivial ?_
  refine Goes.callK 11 0 g 113 #[.pointer (some ⟨g, 0, none⟩), .int .i64 to, .bool (r.get xb == 0)] (.tuple #[]) (rnO (r.go to (r.get xb == 0))) (fun w' hm hI => jump_any (hm.get 0) to _) [(g4, .cells (iC ⟨19, xa, xb, xc, xn, s, to⟩).toArray 72 (0, 0)), (g5, .cells #[.int .i64 day, .slice a N c] 79 (0, 0))] (fun q hq => by simp at hq; rcases hq with rfl | rfl <;> simp only <;> omega) ?_
  refine Goes.run [] [] trivial ?_
  exact Goes.ret [] (.tuple #[]) fun w' hm hI => ⟨rfl, hI.now.1, hm.get 0⟩
set_option maxHeartbeats 2000000 in
set_option maxRecDepth 100000 in
seal rn rnN rnS Goes ans atEnd put0 put putM opened openedY putA0 putA oneSt st0 keep mkSt newSt rnO in
theorem do_20 (h : w.heap[g]? = some (rnO r)) {day xa xb xc xn to : Int} {s : List UInt8} (H : DoH n0 g fs (.slice a N c) w day xa xb xc xn 20) : Calls Tryz.prog 67 #[.pointer (some ⟨g, 0, none⟩), iV ⟨20, xa, xb, xc, xn, s, to⟩, dwV day (.slice a N c)] w (RnQ g w (doQ fs day ⟨20, xa, xb, xc, xn, s, to⟩ r)) := by
  obtain ⟨hR, hE, hg0, hd, ha, hb, hc, hn⟩ := H
  have hlt := lt_of_get h
  rw [show doQ fs day ⟨20, xa, xb, xc, xn, s, to⟩ r = r.go to true from rfl]
  refine Goes.begin Tryz.func67 [(g, rnO r)] (fun _ => True) (hold1v h) (by simp [Mem.ids]) (fun _ _ => trivial) ?_
  refine Goes.run [] [] trivial ?_
  refine Goes.new1 w.heap.size (fun w' h => h.1.size) fun g4 hg4 => ?_
  refine Goes.run [] [] trivial ?_
  refine Goes.new1 w.heap.size (fun w' h => h.1.size) fun g5 hg5 => ?_
  refine Goes.run [1, 0, 0, 0, 1, 1] [(true, true), (false, false), (false, false), (false, false)] ⟨rfl, rfl, rfl, rfl, trivial⟩ ?_
  refine Goes.call2 0 g 113 #[.pointer (some ⟨g, 0, none⟩), .int .i64 to, .bool (true)] (.tuple #[]) (rnO (r.go to (true))) (fun w' hm hI => jump_any (hm.get 0) to _) ?_
  refine Goes.run [] [] trivial ?_
  exact Goes.ret [] (.tuple #[]) fun w' hm hI => ⟨rfl, hI.now.1, hm.get 0⟩
set_option maxHeartbeats 2000000 in
set_option maxRecDepth 100000 in
seal rn rnN rnS Goes ans atEnd put0 put putM opened openedY putA0 putA oneSt st0 keep mkSt newSt rnO in
theorem do_21 (h : w.heap[g]? = some (rnO r)) {day xa xb xc xn to : Int} {s : List UInt8} (H : DoH n0 g fs (.slice a N c) w day xa xb xc xn 21) : Calls Tryz.prog 67 #[.pointer (some ⟨g, 0, none⟩), iV ⟨21, xa, xb, xc, xn, s, to⟩, dwV day (.slice a N c)] w (RnQ g w (doQ fs day ⟨21, xa, xb, xc, xn, s, to⟩ r)) := by
  obtain ⟨hR, hE, hg0, hd, ha, hb, hc, hn⟩ := H
  have hlt := lt_of_get h
  rw [show doQ fs day ⟨21, xa, xb, xc, xn, s, to⟩ r = r.go to (decide (day > xn)) from rfl]
  refine Goes.begin Tryz.func67 [(g, rnO r)] (fun _ => True) (hold1v h) (by simp [Mem.ids]) (fun _ _ => trivial) ?_
  refine Goes.run [] [] trivial ?_
  refine Goes.new1 w.heap.size (fun w' h => h.1.size) fun g4 hg4 => ?_
  refine Goes.run [] [] trivial ?_
  refine Goes.new1 w.heap.size (fun w' h => h.1.size) fun g5 hg5 => ?_
  refine Goes.run [1, 0, 0, 0, 0, 1, 1, 2, 1] [(true, true), (false, false), (false, false), (false, false), (false, false)] ⟨rfl, rfl, rfl, rfl, rfl, trivial⟩ ?_
  refine Goes.call2 0 g 113 #[.pointer (some ⟨g, 0, none⟩), .int .i64 to, .bool (decide (day > xn))] (.tuple #[]) (rnO (r.go to (decide (day > xn)))) (fun w' hm hI => jump_any (hm.get 0) to _) ?_
  refine Goes.run [] [] trivial ?_
  exact Goes.ret [] (.tuple #[]) fun w' hm hI => ⟨rfl, hI.now.1, hm.get 0⟩
set_option maxHeartbeats 2000000 in
set_option maxRecDepth 100000 in
seal rn rnN rnS Goes ans atEnd put0 put putM opened openedY putA0 putA oneSt st0 keep mkSt newSt rnO in
theorem do_22 (h : w.heap[g]? = some (rnO r)) {day xa xb xc xn to : Int} {s : List UInt8} (H : DoH n0 g fs (.slice a N c) w day xa xb xc xn 22) : Calls Tryz.prog 67 #[.pointer (some ⟨g, 0, none⟩), iV ⟨22, xa, xb, xc, xn, s, to⟩, dwV day (.slice a N c)] w (RnQ g w (doQ fs day ⟨22, xa, xb, xc, xn, s, to⟩ r)) := by
  obtain ⟨hR, hE, hg0, hd, ha, hb, hc, hn⟩ := H
  have hlt := lt_of_get h
  rw [show doQ fs day ⟨22, xa, xb, xc, xn, s, to⟩ r = r.go to (decide (day < xn)) from rfl]
  refine Goes.begin Tryz.func67 [(g, rnO r)] (fun _ => True) (hold1v h) (by simp [Mem.ids]) (fun _ _ => trivial) ?_
  refine Goes.run [] [] trivial ?_
  refine Goes.new1 w.heap.size (fun w' h => h.1.size) fun g4 hg4 => ?_
  refine Goes.run [] [] trivial ?_
  refine Goes.new1 w.heap.size (fun w' h => h.1.size) fun g5 hg5 => ?_
  refine Goes.run [1, 0, 0, 0, 0, 0, 1, 1, 2, 1] [(true, true), (false, false), (false, false), (false, false), (false, false), (false, false)] ⟨rfl, rfl, rfl, rfl, rfl, rfl, trivial⟩ ?_
  refine Goes.call2 0 g 113 #[.pointer (some ⟨g, 0, none⟩), .int .i64 to, .bool (decide (day < xn))] (.tuple #[]) (rnO (r.go to (decide (day < xn)))) (fun w' hm hI => jump_any (hm.get 0) to _) ?_
  refine Goes.run [] [] trivial ?_
  exact Goes.ret [] (.tuple #[]) fun w' hm hI => ⟨rfl, hI.now.1, hm.get 0⟩
set_option maxHeartbeats 2000000 in
set_option maxRecDepth 100000 in
seal rn rnN rnS Goes ans atEnd put0 put putM opened openedY putA0 putA oneSt st0 keep mkSt newSt rnO in
theorem do_23 (h : w.heap[g]? = some (rnO r)) {day xa xb xc xn to : Int} {s : List UInt8} (H : DoH n0 g fs (.slice a N c) w day xa xb xc xn 23) : Calls Tryz.prog 67 #[.pointer (some ⟨g, 0, none⟩), iV ⟨23, xa, xb, xc, xn, s, to⟩, dwV day (.slice a N c)] w (RnQ g w (doQ fs day ⟨23, xa, xb, xc, xn, s, to⟩ r)) := by
  obtain ⟨hR, hE, hg0, hd, ha, hb, hc, hn⟩ := H
  have hlt := lt_of_get h
  rw [show doQ fs day ⟨23, xa, xb, xc, xn, s, to⟩ r = r.fac (mulI r.f (r.get xb)) from rfl]
  refine Goes.begin Tryz.func67 [(g, rnO r)] (fun _ => True) (hold1v h) (by simp [Mem.ids]) (fun _ _ => trivial) ?_
  refine Goes.run [] [] trivial ?_
  refine Goes.new1 w.heap.size (fun w' h => h.1.size) fun g4 hg4 => ?_
  refine Goes.run [] [] trivial ?_
  refine Goes.new1 w.heap.size (fun w' h => h.1.size) fun g5 hg5 => ?_
  refine Goes.run [1, 0, 0, 0, 0, 0, 0, 1] [(true, true), (false, false), (false, false), (false, false), (false, false), (false, false), (false, false)] ⟨rfl, rfl, rfl, rfl, rfl, rfl, rfl, trivial⟩ ?_
  refine Goes.open [1, 2] ?_
  refine Goes.run [0, 1, 2, 3, 5, 6, 7, 0, 8, 9] [] trivial ?_
  refine Goes.valA 10 (Instr.indexAt 123 (.pointer (some ⟨g, 0, none⟩)) (.int .i64 xb)) (.pointer (some ⟨g, xb.toNat, none⟩)) (fun w' _ => idxRg g hb w') ?_
  refine Goes.two 4 11 (TookS.valV 4 (Instr.loadAt 2 (.pointer (some ⟨g, 257, none⟩))) (.int .i64 r.f) (fun w' hm _ => rn_ldF (hm.get 0)) (Goes.lone1 11 (TookS.valV 11 (Instr.loadAt 2 (.pointer (some ⟨g, xb.toNat, none⟩))) (.int .i64 (r.get xb)) (fun w' hm _ => rn_ld (hm.get 0) (by omega)) ?_))) (TookS.valV 11 (Instr.loadAt 2 (.pointer (some ⟨g, xb.toNat, none⟩))) (.int .i64 (r.get xb)) (fun w' hm _ => rn_ld (hm.get 0) (by omega)) (Goes.lone1 4 (TookS.valV 4 (Instr.loadAt 2 (.pointer (some ⟨g, 257, none⟩))) (.int .i64 r.f) (fun w' hm _ => rn_ldF (hm.get 0)) ?_)))
  · skip
    refine Goes.callA0 12 114 #[.int .i64 r.f, .int .i64 (r.get xb)] (.int .i64 (mulI r.f (r.get xb))) (fun w' _ hI => (mul_any r.f (r.get xb) w').mono fun _ _ h => belD h) ?_
    refine Goes.run [13, 14] [] trivial ?_
    refine Goes.lone1 15 (TookS.stoK 15 0 g (Instr.storeAt 2 (.pointer (some ⟨g, 257, none⟩)) (.int .i64 (mulI r.f (r.get xb)))) (rnO (r.fac (mulI r.f (r.get xb)))) (fun w' hm => rn_stF (hm.get 0) _) [(g4, .cells (iC ⟨23, xa, xb, xc, xn, s, to⟩).toArray 72 (0, 0)), (g5, .cells #[.int .i64 day, .slice a N c] 79 (0, 0))] (fun q hq => by simp at hq; rcases hq with rfl | rfl <;> simp only <;> omega) ?_)
    refine Goes.run [] [] trivial ?_
    exact Goes.ret [] (.tuple #[]) fun w' hm hI => ⟨rfl, hI.now.1, hm.get 0⟩
  · skip
    refine Goes.callA0 12 114 #[.int .i64 r.f, .int .i64 (r.get xb)] (.int .i64 (mulI r.f (r.get xb))) (fun w' _ hI => (mul_any r.f (r.get xb) w').mono fun _ _ h => belD h) ?_
    refine Goes.run [13, 14] [] trivial ?_
    refine Goes.lone1 15 (TookS.stoK 15 0 g (Instr.storeAt 2 (.pointer (some ⟨g, 257, none⟩)) (.int .i64 (mulI r.f (r.get xb)))) (rnO (r.fac (mulI r.f (r.get xb)))) (fun w' hm => rn_stF (hm.get 0) _) [(g4, .cells (iC ⟨23, xa, xb, xc, xn, s, to⟩).toArray 72 (0, 0)), (g5, .cells #[.int .i64 day, .slice a N c] 79 (0, 0))] (fun q hq => by simp at hq; rcases hq with rfl | rfl <;> simp only <;> omega) ?_)
    refine Goes.run [] [] trivial ?_
    exact Goes.ret [] (.tuple #[]) fun w' hm hI => ⟨rfl, hI.now.1, hm.get 0⟩
set_option maxHeartbeats 2000000 in
set_option maxRecDepth 100000 in
seal rn rnN rnS Goes ans atEnd put0 put putM opened openedY putA0 putA oneSt st0 keep mkSt newSt rnO in
theorem do_24 (h : w.heap[g]? = some (rnO r)) {day xa xb xc xn to : Int} {s : List UInt8} (H : DoH n0 g fs (.slice a N c) w day xa xb xc xn 24) : Calls Tryz.prog 67 #[.pointer (some ⟨g, 0, none⟩), iV ⟨24, xa, xb, xc, xn, s, to⟩, dwV day (.slice a N c)] w (RnQ g w (doQ fs day ⟨24, xa, xb, xc, xn, s, to⟩ r)) := by
  obtain ⟨hR, hE, hg0, hd, ha, hb, hc, hn⟩ := H
  have hlt := lt_of_get h
  rw [show doQ fs day ⟨24, xa, xb, xc, xn, s, to⟩ r = r.fac (- clampI r.f) from rfl]
  refine Goes.begin Tryz.func67 [(g, rnO r)] (fun _ => True) (hold1v h) (by simp [Mem.ids]) (fun _ _ => trivial) ?_
  refine Goes.run [] [] trivial ?_
  refine Goes.new1 w.heap.size (fun w' h => h.1.size) fun g4 hg4 => ?_
  refine Goes.run [] [] trivial ?_
  refine Goes.new1 w.heap.size (fun w' h => h.1.size) fun g5 hg5 => ?_
  refine Goes.run [1, 0, 0, 0, 0, 0, 0, 0, 1] [(true, true), (false, false), (false, false), (false, false), (false, false), (false, false), (false, false), (false, false)] ⟨rfl, rfl, rfl, rfl, rfl, rfl, rfl, rfl, trivial⟩ ?_
  refine Goes.val (Instr.loadAt 2 (.pointer (some ⟨g, 257, none⟩))) (.int .i64 r.f) (fun w' hm _ => rn_ldF (hm.get 0)) ?_
  refine Goes.call0 115 #[.int .i64 r.f] (.int .i64 (- clampI r.f)) (fun w' _ hI => (neg_any r.f w').mono fun _ _ h => belQ h) ?_
  refine Goes.run [] [] trivial ?_
  refine Goes.stoK 0 g (Instr.storeAt 2 (.pointer (some ⟨g, 257, none⟩)) (.int .i64 (- clampI r.f))) (rnO (r.fac (- clampI r.f))) (fun w' hm => rn_stF (hm.get 0) _) ?_
  refine Goes.run [] [] trivial ?_
  exact Goes.ret [] (.tuple #[]) fun w' hm hI => ⟨rfl, hI.now.1, hm.get 0⟩
set_option maxHeartbeats 2000000 in
set_option maxRecDepth 100000 in
seal rn rnN rnS Goes ans atEnd put0 put putM opened openedY putA0 putA oneSt st0 keep mkSt newSt rnO in
theorem do_25 (h : w.heap[g]? = some (rnO r)) {day xa xb xc xn to : Int} {s : List UInt8} (H : DoH n0 g fs (.slice a N c) w day xa xb xc xn 25) : Calls Tryz.prog 67 #[.pointer (some ⟨g, 0, none⟩), iV ⟨25, xa, xb, xc, xn, s, to⟩, dwV day (.slice a N c)] w (RnQ g w (doQ fs day ⟨25, xa, xb, xc, xn, s, to⟩ r)) := by
  obtain ⟨hR, hE, hg0, hd, ha, hb, hc, hn⟩ := H
  have hlt := lt_of_get h
  rw [show doQ fs day ⟨25, xa, xb, xc, xn, s, to⟩ r = r.put xa r.f from rfl]
  refine Goes.begin Tryz.func67 [(g, rnO r)] (fun _ => True) (hold1v h) (by simp [Mem.ids]) (fun _ _ => trivial) ?_
  refine Goes.run [] [] trivial ?_
  refine Goes.new1 w.heap.size (fun w' h => h.1.size) fun g4 hg4 => ?_
  refine Goes.run [] [] trivial ?_
  refine Goes.new1 w.heap.size (fun w' h => h.1.size) fun g5 hg5 => ?_
  refine Goes.run [1, 0, 0, 0, 0, 0, 0, 0, 0, 1] [(true, true), (false, false), (false, false), (false, false), (false, false), (false, false), (false, false), (false, false), (false, false)] ⟨rfl, rfl, rfl, rfl, rfl, rfl, rfl, rfl, rfl, trivial⟩ ?_
  refine Goes.open [1, 2] ?_
  refine Goes.run [0, 1, 2, 0, 3, 4, 5, 7, 8] [] trivial ?_
  refine Goes.lone1 6 (TookS.valV 6 (Instr.loadAt 2 (.pointer (some ⟨g, 257, none⟩))) (.int .i64 r.f) (fun w' hm _ => rn_ldF (hm.get 0)) ?_)
  refine Goes.valA 9 (Instr.indexAt 123 (.pointer (some ⟨g, 0, none⟩)) (.int .i64 xa)) (.pointer (some ⟨g, xa.toNat, none⟩)) (fun w' _ => idxRg g ha w') ?_
  refine Goes.lone1 10 (TookS.stoK 10 0 g (Instr.storeAt 2 (.pointer (some ⟨g, xa.toNat, none⟩)) (.int .i64 (r.f))) (rnO (r.put xa (r.f))) (fun w' hm => rn_st (hm.get 0) ha _) [(g4, .cells (iC ⟨25, xa, xb, xc, xn, s, to⟩).toArray 72 (0, 0)), (g5, .cells #[.int .i64 day, .slice a N c] 79 (0, 0))] (fun q hq => by simp at hq; rcases hq with rfl | rfl <;> simp only <;> omega) ?_)
  refine Goes.run [] [] trivial ?_
  exact Goes.ret [] (.tuple #[]) fun w' hm hI => ⟨rfl, hI.now.1, hm.get 0⟩
set_option maxHeartbeats 2000000 in
set_option maxRecDepth 100000 in
seal rn rnN rnS Goes ans atEnd put0 put putM opened openedY putA0 putA oneSt st0 keep mkSt newSt rnO in
theorem do_26 (h : w.heap[g]? = some (rnO r)) {day xa xb xc xn to : Int} {s : List UInt8} (H : DoH n0 g fs (.slice a N c) w day xa xb xc xn 26) : Calls Tryz.prog 67 #[.pointer (some ⟨g, 0, none⟩), iV ⟨26, xa, xb, xc, xn, s, to⟩, dwV day (.slice a N c)] w (RnQ g w (doQ fs day ⟨26, xa, xb, xc, xn, s, to⟩ r)) := by
  obtain ⟨hR, hE, hg0, hd, ha, hb, hc, hn⟩ := H
  have hlt := lt_of_get h
  rw [show doQ fs day ⟨26, xa, xb, xc, xn, s, to⟩ r = r.fac (clampI (r.get xb)) from rfl]
  refine Goes.begin Tryz.func67 [(g, rnO r)] (fun _ => True) (hold1v h) (by simp [Mem.ids]) (fun _ _ => trivial) ?_
  refine Goes.run [] [] trivial ?_
  refine Goes.new1 w.heap.size (fun w' h => h.1.size) fun g4 hg4 => ?_
  refine Goes.run [] [] trivial ?_
  refine Goes.new1 w.heap.size (fun w' h => h.1.size) fun g5 hg5 => ?_
  refine Goes.run [1, 0, 0, 0, 0, 0, 0, 0, 0, 0, 1] [(true, true), (false, false), (false, false), (false, false), (false, false), (false, false), (false, false), (false, false), (false, false), (false, false)] ⟨rfl, rfl, rfl, rfl, rfl, rfl, rfl, rfl, rfl, rfl, trivial⟩ ?_
  refine Goes.open [1, 2] ?_
  refine Goes.run [0, 1, 2, 3, 0, 4, 5] [] trivial ?_
  refine Goes.valA 6 (Instr.indexAt 123 (.pointer (some ⟨g, 0, none⟩)) (.int .i64 xb)) (.pointer (some ⟨g, xb.toNat, none⟩)) (fun w' _ => idxRg g hb w') ?_
  refine Goes.lone1 7 (TookS.valV 7 (Instr.loadAt 2 (.pointer (some ⟨g, xb.toNat, none⟩))) (.int .i64 (r.get xb)) (fun w' hm _ => rn_ld (hm.get 0) (by omega)) ?_)
  refine Goes.callA0 8 116 #[.int .i64 (r.get xb)] (.int .i64 (clampI (r.get xb))) (fun w' _ hI => (clamp_any (r.get xb) w').mono fun _ _ h => belQ h) ?_
  refine Goes.run [9, 10] [] trivial ?_
  refine Goes.lone1 11 (TookS.stoK 11 0 g (Instr.storeAt 2 (.pointer (some ⟨g, 257, none⟩)) (.int .i64 (clampI (r.get xb)))) (rnO (r.fac (clampI (r.get xb)))) (fun w' hm => rn_stF (hm.get 0) _) [(g4, .cells (iC ⟨26, xa, xb, xc, xn, s, to⟩).toArray 72 (0, 0)), (g5, .cells #[.int .i64 day, .slice a N c] 79 (0, 0))] (fun q hq => by simp at hq; rcases hq with rfl | rfl <;> simp only <;> omega) ?_)
  refine Goes.run [] [] trivial ?_
  exact Goes.ret [] (.tuple #[]) fun w' hm hI => ⟨rfl, hI.now.1, hm.get 0⟩
set_option maxHeartbeats 2000000 in
set_option maxRecDepth 100000 in
seal rn rnN rnS Goes ans atEnd put0 put putM opened openedY putA0 putA oneSt st0 keep mkSt newSt rnO in
theorem do_1 (h : w.heap[g]? = some (rnO r)) {day xa xb xc xn to : Int} {s : List UInt8} (H : DoH n0 g fs (.slice a N c) w day xa xb xc xn 1) : Calls Tryz.prog 67 #[.pointer (some ⟨g, 0, none⟩), iV ⟨1, xa, xb, xc, xn, s, to⟩, dwV day (.slice a N c)] w (RnQ g w (doQ fs day ⟨1, xa, xb, xc, xn, s, to⟩ r)) := by
  obtain ⟨hR, hE, hg0, hd, ha, hb, hc, hn⟩ := H
  have hlt := lt_of_get h
  rw [show doQ fs day ⟨1, xa, xb, xc, xn, s, to⟩ r = r.put xa xn from rfl]
  refine Goes.begin Tryz.func67 [(g, rnO r)] (fun _ => True) (hold1v h) (by simp [Mem.ids]) (fun _ _ => trivial) ?_
  refine Goes.run [] [] trivial ?_
  refine Goes.new1 w.heap.size (fun w' h => h.1.size) fun g4 hg4 => ?_
  refine Goes.run [] [] trivial ?_
  refine Goes.new1 w.heap.size (fun w' h => h.1.size) fun g5 hg5 => ?_
  refine Goes.run [1, 0, 0, 0, 0, 0, 0, 0, 0, 0, 0, 1] [(true, true), (false, false), (false, false), (false, false), (false, false), (false, false), (false, false), (false, false), (false, false), (false, false), (false, false)] ⟨rfl, rfl, rfl, rfl, rfl, rfl, rfl, rfl, rfl, rfl, rfl, trivial⟩ ?_
  refine Goes.open [1, 2] ?_
  refine Goes.run [0, 1, 2, 0, 3, 4, 0, 5, 6] [] trivial ?_
  refine Goes.valA 7 (Instr.indexAt 123 (.pointer (some ⟨g, 0, none⟩)) (.int .i64 xa)) (.pointer (some ⟨g, xa.toNat, none⟩)) (fun w' _ => idxRg g ha w') ?_
  refine Goes.lone1 8 (TookS.stoK 8 0 g (Instr.storeAt 2 (.pointer (some ⟨g, xa.toNat, none⟩)) (.int .i64 (xn))) (rnO (r.put xa (xn))) (fun w' hm => rn_st (hm.get 0) ha _) [(g4, .cells (iC ⟨1, xa, xb, xc, xn, s, to⟩).toArray 72 (0, 0)), (g5, .cells #[.int .i64 day, .slice a N c] 79 (0, 0))] (fun q hq => by simp at hq; rcases hq with rfl | rfl <;> simp only <;> omega) ?_)
  refine Goes.run [] [] trivial ?_
  exact Goes.ret [] (.tuple #[]) fun w' hm hI => ⟨rfl, hI.now.1, hm.get 0⟩
set_option maxHeartbeats 2000000 in
set_option maxRecDepth 100000 in
seal rn rnN rnS Goes ans atEnd put0 put putM opened openedY putA0 putA oneSt st0 keep mkSt newSt rnO in
theorem do_rest (h : w.heap[g]? = some (rnO r)) {day xa xb xc xn to : Int} {s : List UInt8} {op : Int} (h2 : (op == 2) = false) (h3 : (op == 3) = false) (h19 : (op == 19) = false) (h20 : (op == 20) = false) (h21 : (op == 21) = false) (h22 : (op == 22) = false) (h23 : (op == 23) = false) (h24 : (op == 24) = false) (h25 : (op == 25) = false) (h26 : (op == 26) = false) (h1 : (op == 1) = false) (H : DoH n0 g fs (.slice a N c) w day xa xb xc xn op) : Calls Tryz.prog 67 #[.pointer (some ⟨g, 0, none⟩), iV ⟨op, xa, xb, xc, xn, s, to⟩, dwV day (.slice a N c)] w (RnQ g w (doQ fs day ⟨op, xa, xb, xc, xn, s, to⟩ r)) := by
  obtain ⟨hR, hE, hg0, hd, ha, hb, hc, hn⟩ := H
  have hlt := lt_of_get h
  rw [show doQ fs day ⟨op, xa, xb, xc, xn, s, to⟩ r = r.put xa (vkP op (r.get xb) (r.get xc)) by unfold doQ; simp only [h2, h3, h19, h20, h21, h22, h23, h24, h25, h26, h1, cond_false]]
  refine Goes.begin Tryz.func67 [(g, rnO r)] (fun _ => True) (hold1v h) (by simp [Mem.ids]) (fun _ _ => trivial) ?_
  refine Goes.run [] [] trivial ?_
  refine Goes.new1 w.heap.size (fun w' h => h.1.size) fun g4 hg4 => ?_
  refine Goes.run [] [] trivial ?_
  refine Goes.new1 w.heap.size (fun w' h => h.1.size) fun g5 hg5 => ?_
  refine Goes.run [1, 0, 0, 0, 0, 0, 0, 0, 0, 0, 0, 0] [(op == 1, false), (op == 26, false), (op == 25, false), (op == 24, false), (op == 23, false), (op == 22, false), (op == 21, false), (op == 20, false), (op == 19, false), (op == 3, false), (op == 2, false)] ⟨h1, h26, h25, h24, h23, h22, h21, h20, h19, h3, h2, trivial⟩ ?_
  refine Goes.open [1, 2] ?_
  refine Goes.run [0, 1, 2, 0, 3, 4, 0, 5, 6, 7, 0, 8, 9, 12, 13, 14, 0, 15, 16, 20, 21] [] trivial ?_
  refine Goes.valA 10 (Instr.indexAt 123 (.pointer (some ⟨g, 0, none⟩)) (.int .i64 xb)) (.pointer (some ⟨g, xb.toNat, none⟩)) (fun w' _ => idxRg g hb w') ?_
  refine Goes.valA 17 (Instr.indexAt 123 (.pointer (some ⟨g, 0, none⟩)) (.int .i64 xc)) (.pointer (some ⟨g, xc.toNat, none⟩)) (fun w' _ => idxRg g hc w') ?_
  refine Goes.two 11 18 (TookS.valV 11 (Instr.loadAt 2 (.pointer (some ⟨g, xb.toNat, none⟩))) (.int .i64 (r.get xb)) (fun w' hm _ => rn_ld (hm.get 0) (by omega)) (Goes.lone1 18 (TookS.valV 18 (Instr.loadAt 2 (.pointer (some ⟨g, xc.toNat, none⟩))) (.int .i64 (r.get xc)) (fun w' hm _ => rn_ld (hm.get 0) (by omega)) ?_))) (TookS.valV 18 (Instr.loadAt 2 (.pointer (some ⟨g, xc.toNat, none⟩))) (.int .i64 (r.get xc)) (fun w' hm _ => rn_ld (hm.get 0) (by omega)) (Goes.lone1 11 (TookS.valV 11 (Instr.loadAt 2 (.pointer (some ⟨g, xb.toNat, none⟩))) (.int .i64 (r.get xb)) (fun w' hm _ => rn_ld (hm.get 0) (by omega)) ?_)))
  · skip
    refine Goes.callA0 19 117 #[.int .i64 op, .int .i64 (r.get xb), .int .i64 (r.get xc)] (.int .i64 (vkP op (r.get xb) (r.get xc))) (fun w' _ hI => vreck_any op _ _ w' (hE.ch hI.now.1 hg0).tb) ?_
    refine Goes.valA 22 (Instr.indexAt 123 (.pointer (some ⟨g, 0, none⟩)) (.int .i64 xa)) (.pointer (some ⟨g, xa.toNat, none⟩)) (fun w' _ => idxRg g ha w') ?_
    refine Goes.lone1 23 (TookS.stoK 23 0 g (Instr.storeAt 2 (.pointer (some ⟨g, xa.toNat, none⟩)) (.int .i64 (vkP op (r.get xb) (r.get xc)))) (rnO (r.put xa (vkP op (r.get xb) (r.get xc)))) (fun w' hm => rn_st (hm.get 0) ha _) [(g4, .cells (iC ⟨op, xa, xb, xc, xn, s, to⟩).toArray 72 (0, 0)), (g5, .cells #[.int .i64 day, .slice a N c] 79 (0, 0))] (fun q hq => by simp at hq; rcases hq with rfl | rfl <;> simp only <;> omega) ?_)
    refine Goes.run [] [] trivial ?_
    exact Goes.ret [] (.tuple #[]) fun w' hm hI => ⟨rfl, hI.now.1, hm.get 0⟩
  · skip
    refine Goes.callA0 19 117 #[.int .i64 op, .int .i64 (r.get xb), .int .i64 (r.get xc)] (.int .i64 (vkP op (r.get xb) (r.get xc))) (fun w' _ hI => vreck_any op _ _ w' (hE.ch hI.now.1 hg0).tb) ?_
    refine Goes.valA 22 (Instr.indexAt 123 (.pointer (some ⟨g, 0, none⟩)) (.int .i64 xa)) (.pointer (some ⟨g, xa.toNat, none⟩)) (fun w' _ => idxRg g ha w') ?_
    refine Goes.lone1 23 (TookS.stoK 23 0 g (Instr.storeAt 2 (.pointer (some ⟨g, xa.toNat, none⟩)) (.int .i64 (vkP op (r.get xb) (r.get xc)))) (rnO (r.put xa (vkP op (r.get xb) (r.get xc)))) (fun w' hm => rn_st (hm.get 0) ha _) [(g4, .cells (iC ⟨op, xa, xb, xc, xn, s, to⟩).toArray 72 (0, 0)), (g5, .cells #[.int .i64 day, .slice a N c] 79 (0, 0))] (fun q hq => by simp at hq; rcases hq with rfl | rfl <;> simp only <;> omega) ?_)
    refine Goes.run [] [] trivial ?_
    exact Goes.ret [] (.tuple #[]) fun w' hm hI => ⟨rfl, hI.now.1, hm.get 0⟩
theorem vdo_any (h : w.heap[g]? = some (rnO r)) (hR : RFd fs) (hE : En n0 fs (.slice a N c) w) (hg0 : n0 ≤ g) {day : Int} (hd : 0 ≤ day ∧ day ≤ 73048) {k : Kd} {i : Nat} {x : Ik} (hx : XOk k i x) : Calls Tryz.prog 67 #[.pointer (some ⟨g, 0, none⟩), iV x, dwV day (.slice a N c)] w (RnQ g w (doQ fs day x r)) := by
  obtain ⟨op, xa, xb, xc, xn, s, to⟩ := x
  obtain ⟨ha, hb, hc, hn, -, -, -, -⟩ := hx
  cases h2 : (op == 2) with
  | true => obtain rfl := eq_of_beq h2; exact do_2 h ⟨hR, hE, hg0, hd, ha, hb, hc, hn⟩
  | false =>
  cases h3 : (op == 3) with
  | true => obtain rfl := eq_of_beq h3; exact do_3 h ⟨hR, hE, hg0, hd, ha, hb, hc, hn⟩
  | false =>
  cases h19 : (op == 19) with
  | true => obtain rfl := eq_of_beq h19; exact do_19 h ⟨hR, hE, hg0, hd, ha, hb, hc, hn⟩
  | false =>
  cases h20 : (op == 20) with
  | true => obtain rfl := eq_of_beq h20; exact do_20 h ⟨hR, hE, hg0, hd, ha, hb, hc, hn⟩
  | false =>
  cases h21 : (op == 21) with
  | true => obtain rfl := eq_of_beq h21; exact do_21 h ⟨hR, hE, hg0, hd, ha, hb, hc, hn⟩
  | false =>
  cases h22 : (op == 22) with
  | true => obtain rfl := eq_of_beq h22; exact do_22 h ⟨hR, hE, hg0, hd, ha, hb, hc, hn⟩
  | false =>
  cases h23 : (op == 23) with
  | true => obtain rfl := eq_of_beq h23; exact do_23 h ⟨hR, hE, hg0, hd, ha, hb, hc, hn⟩
  | false =>
  cases h24 : (op == 24) with
  | true => obtain rfl := eq_of_beq h24; exact do_24 h ⟨hR, hE, hg0, hd, ha, hb, hc, hn⟩
  | false =>
  cases h25 : (op == 25) with
  | true => obtain rfl := eq_of_beq h25; exact do_25 h ⟨hR, hE, hg0, hd, ha, hb, hc, hn⟩
  | false =>
  cases h26 : (op == 26) with
  | true => obtain rfl := eq_of_beq h26; exact do_26 h ⟨hR, hE, hg0, hd, ha, hb, hc, hn⟩
  | false =>
  cases h1 : (op == 1) with
  | true => obtain rfl := eq_of_beq h1; exact do_1 h ⟨hR, hE, hg0, hd, ha, hb, hc, hn⟩
  | false =>
  exact do_rest h h2 h3 h19 h20 h21 h22 h23 h24 h25 h26 h1 ⟨hR, hE, hg0, hd, ha, hb, hc, hn⟩
end
end Go.Proofs.YtddbiiejilcbbaaGreatDoor
namespace Go.Proofs.YtddbiiejilcbbaaGreatDoor
open Go Go.RowKit

section
variable {w : World} {g : Nat} {day rg st : Int} {fv wv iv tv : Value} {a : Option Addr} {n c : Nat}
set_option maxRecDepth 100000 in
seal rn rnN rnS Goes ans atEnd put0 put putM opened openedY putA0 putA oneSt st0 keep mkSt newSt in
theorem vtoo_any (hg : w.heap[g]? = some (vmO day fv rg wv iv (.slice a n c) tv st)) : Calls Tryz.prog 65 #[.pointer (some ⟨g, 0, none⟩)] w fun e w' => e = .returned (.bool (decide (st > 65536) || decide ((n : Int) > 250))) ∧ Below w.heap.size w w' := by
  refine Goes.begin Tryz.func65 [(g, vmO day fv rg wv iv (.slice a n c) tv st)] (fun _ => True) (hold1v hg) (by simp [Mem.ids]) (fun _ _ => trivial) ?_
  cases h : decide (st > 65536) with
  | true =>
    refine Goes.run [0, 1] [(decide (st > 65536), true)] ⟨h, trivial⟩ ?_
    exact Goes.ret [] (.bool true) fun w' hm hI => ⟨rfl, below_end (hold1v hg) hI.now.1 hm (by kernel_chk)⟩
  | false =>
    refine Goes.run [0, 0, 0] [(decide (st > 65536), false)] ⟨h, trivial⟩ ?_
    exact Goes.ret [] (.bool (decide ((n : Int) > 250))) fun w' hm hI => ⟨by rw [Bool.false_or], below_end (hold1v hg) hI.now.1 hm (by kernel_chk)⟩
end
set_option maxRecDepth 100000 in
seal rn rnN rnS Goes ans atEnd put0 put putM opened openedY putA0 putA oneSt st0 keep mkSt newSt in
theorem vpay_any {n0 g : Nat} {day rg st : Int} {fv wv iv lv tv : Value} {ls : List (Int × Int)} {ts : List (List UInt8 × Int)} {w : World} (hl : Hds n0 w lv ls) (ht : Trs n0 day w tv ts) (hg : w.heap[g]? = some (vmO day fv rg wv iv lv tv st)) (hn : n0 ≤ w.heap.size) (s : List UInt8) (f : Int) (hlen : ts.length + 1 ≤ 100000000) : Calls Tryz.prog 66 #[.pointer (some ⟨g, 0, none⟩), strV s, .int .i64 f] w (VQ n0 g day (vmB day fv rg wv iv st) w lv tv (.tuple #[]) ls (ts ++ bif f == 0 then [] else [(s, f)])) := by
  have hm0 : Holds [(g, vmO day fv rg wv iv lv tv st)] w := fun j b o h => by match j, h with | 0, h => (cases h; exact hg)
  refine Goes.enter Tryz.func66 [(g, vmO day fv rg wv iv lv tv st)] (McI n0 g day w lv tv lv tv ls ts) hm0 (by simp [Mem.ids]) ((McI.refl hl ht).stay ⟨_, _, _, hg, by decide, by decide⟩ (fun x hx => .inl (by simpa [Mem.ids] using hx))) ?_
  cases h0 : (f == 0) with
  | true =>
    refine Goes.run [0] [(f != 0, false)] ⟨by rw [bne, h0]; rfl, trivial⟩ ?_
    exact Goes.ret [] (.tuple #[]) fun w' hm hI => ⟨lv, tv, rfl, hm.get 0, by simpa using hI.now⟩
  | false =>
    refine Goes.run [1] [(f != 0, true)] ⟨by rw [bne, h0]; rfl, trivial⟩ ?_
    refine Goes.open [] ?_
    refine Goes.run [0, 1, 2, 3, 5, 6, 7, 8, 10, 11] [] trivial ?_
    refine Goes.two 4 9 (TookS.run 4 0 ?_) (TookS.run 9 0 ?_)
    · refine Goes.lone1 9 (TookS.run 9 0 ?_)
      refine Goes.run [12] [] trivial ?_
      refine Goes.lone1 13 (TookS.new1 13 0 [] (fun _ _ => Nat.zero_le _) fun gb _ => ?_)
      refine Goes.lone1 14 (TookS.eff 14 (Builtin.append_ #[38, 38] 38 #[tv, .slice (some ⟨gb, 0, none⟩) 1 1]) fun w1 hm1 hn1 hI1 => ?_)
      have z1 : w1.heap[gb]? = some (.cells #[.int .i64 day, strV s, .int .i64 f] 59 (0, 0)) := hm1.get 1
      obtain ⟨b, c', w2, hr, hI2, hk⟩ := hI1.now.pay (Nat.le_trans hn hI1.now.1.size) (s, f) z1 hlen (ty := 38) (c := 1)
      have z2 : w2.heap[g]? = some (vmO day fv rg wv iv lv tv st) := hk g _ _ _ (hm1.get 0) (by decide)
      refine ⟨_, w2, _, [(g, vmO day fv rg wv iv lv tv st)], hr, fun j b o h => by match j, h with | 0, h => (cases h; exact z2), by simp [Mem.ids], hI2.stay ⟨_, _, _, z2, by decide, by decide⟩ (fun x hx => .inl (by simpa [Mem.ids] using hx)), ?_⟩
      refine Goes.run [15, 16] [] trivial ?_
      refine Goes.lone1 17 (TookS.run 17 0 ?_)
      refine Goes.run [] [] trivial ?_
      exact Goes.ret [] (.tuple #[]) fun w' hm hI => ⟨lv, _, rfl, hm.get 0, hI.now⟩
    · refine Goes.run [12] [] trivial ?_
      refine Goes.two 4 13 (TookS.run 4 0 ?_) (TookS.new1 13 0 [] (fun _ _ => Nat.zero_le _) fun gb _ => ?_)
      · refine Goes.lone1 13 (TookS.new1 13 0 [] (fun _ _ => Nat.zero_le _) fun gb _ => ?_)
        refine Goes.lone1 14 (TookS.eff 14 (Builtin.append_ #[38, 38] 38 #[tv, .slice (some ⟨gb, 0, none⟩) 1 1]) fun w1 hm1 hn1 hI1 => ?_)
        have z1 : w1.heap[gb]? = some (.cells #[.int .i64 day, strV s, .int .i64 f] 59 (0, 0)) := hm1.get 1
        obtain ⟨b, c', w2, hr, hI2, hk⟩ := hI1.now.pay (Nat.le_trans hn hI1.now.1.size) (s, f) z1 hlen (ty := 38) (c := 1)
        have z2 : w2.heap[g]? = some (vmO day fv rg wv iv lv tv st) := hk g _ _ _ (hm1.get 0) (by decide)
        refine ⟨_, w2, _, [(g, vmO day fv rg wv iv lv tv st)], hr, fun j b o h => by match j, h with | 0, h => (cases h; exact z2), by simp [Mem.ids], hI2.stay ⟨_, _, _, z2, by decide, by decide⟩ (fun x hx => .inl (by simpa [Mem.ids] using hx)), ?_⟩
        refine Goes.run [15, 16] [] trivial ?_
        refine Goes.lone1 17 (TookS.run 17 0 ?_)
        refine Goes.run [] [] trivial ?_
        exact Goes.ret [] (.tuple #[]) fun w' hm hI => ⟨lv, _, rfl, hm.get 0, hI.now⟩
      · refine Goes.lone1 4 (TookS.run 4 0 ?_)
        refine Goes.lone1 14 (TookS.eff 14 (Builtin.append_ #[38, 38] 38 #[tv, .slice (some ⟨gb, 0, none⟩) 1 1]) fun w1 hm1 hn1 hI1 => ?_)
        have z1 : w1.heap[gb]? = some (.cells #[.int .i64 day, strV s, .int .i64 f] 59 (0, 0)) := hm1.get 1
        obtain ⟨b, c', w2, hr, hI2, hk⟩ := hI1.now.pay (Nat.le_trans hn hI1.now.1.size) (s, f) z1 hlen (ty := 38) (c := 1)
        have z2 : w2.heap[g]? = some (vmO day fv rg wv iv lv tv st) := hk g _ _ _ (hm1.get 0) (by decide)
        refine ⟨_, w2, _, [(g, vmO day fv rg wv iv lv tv st)], hr, fun j b o h => by match j, h with | 0, h => (cases h; exact z2), by simp [Mem.ids], hI2.stay ⟨_, _, _, z2, by decide, by decide⟩ (fun x hx => .inl (by simpa [Mem.ids] using hx)), ?_⟩
        refine Goes.run [15, 16] [] trivial ?_
        refine Goes.lone1 17 (TookS.run 17 0 ?_)
        refine Goes.run [] [] trivial ?_
        exact Goes.ret [] (.tuple #[]) fun w' hm hI => ⟨lv, _, rfl, hm.get 0, hI.now⟩
section
variable {w : World} {g : Nat} {day rg st : Int} {fv wv iv : Value} {a at' : Option Addr} {n c nt ct : Nat}
set_option maxHeartbeats 2000000 in
set_option maxRecDepth 100000 in
seal rn rnN rnS Goes ans atEnd put0 put putM opened openedY putA0 putA oneSt st0 keep mkSt newSt in
theorem vdone_any (hg : w.heap[g]? = some (vmO day fv rg wv iv (.slice a n c) (.slice at' nt ct) st)) : Calls Tryz.prog 32 #[.pointer (some ⟨g, 0, none⟩)] w fun e w' => e = .returned (bif decide (st > 65536) || decide ((n : Int) > 250) then .tuple #[.slice none 0 0, .slice none 0 0, .int .i64 0, .int .i64 180] else .tuple #[.slice a n c, .slice at' nt ct, .int .i64 st, .int .i64 0]) ∧ Below w.heap.size w w' := by
  obtain ⟨B, hB⟩ : ∃ B, (decide (st > 65536) || decide ((n : Int) > 250)) = B := ⟨_, rfl⟩
  rw [hB]
  refine Goes.begin Tryz.func32 [(g, vmO day fv rg wv iv (.slice a n c) (.slice at' nt ct) st)] (fun _ => True) (hold1v hg) (by simp [Mem.ids]) (fun _ _ => trivial) ?_
  refine Goes.run [] [] trivial ?_
  refine Goes.call0 65 #[.pointer (some ⟨g, 0, none⟩)] (.bool B) (fun w' hm hI => hB ▸ vtoo_any (show w'.heap[g]? = some (vmO day fv rg wv iv (.slice a n c) (.slice at' nt ct) st) from hm.get 0)) ?_
  cases B with
  | true =>
    refine Goes.run [1] [(true, true)] ⟨rfl, trivial⟩ ?_
    exact Goes.ret [] (.tuple #[.slice none 0 0, .slice none 0 0, .int .i64 0, .int .i64 180]) fun w' hm hI => ⟨rfl, below_end (hold1v hg) hI.now.1 hm (by kernel_chk)⟩
  | false =>
    refine Goes.run [0] [(false, false)] ⟨rfl, trivial⟩ ?_
    refine Goes.open [0] ?_
    refine Goes.run [0, 1, 2, 3, 0, 4, 5, 6, 7, 0, 8, 9, 10, 11, 0, 12, 13, 14, 15] [] trivial ?_
    exact Goes.ret [] (.tuple #[.slice a n c, .slice at' nt ct, .int .i64 st, .int .i64 0]) fun w' hm hI => ⟨rfl, below_end (hold1v hg) hI.now.1 hm (by kernel_chk)⟩
set_option maxHeartbeats 2000000 in
set_option maxRecDepth 100000 in
seal rn rnN rnS Goes ans atEnd put0 put putM opened openedY putA0 putA oneSt st0 keep mkSt newSt in
theorem vmright_any {fs : Fs} {aW aI : Option Addr} {N cf nW cW nI cI : Nat} {hv tv : Value} {k : Kd} (hg : w.heap[g]? = some (vmO day (.slice a N cf) rg (.slice aW nW cW) (.slice aI nI cI) hv tv st)) (hF : Fds w.heap.size w (.slice a N cf) fs) (hl : ∀ f ∈ fs, f.1.length ≤ 9223372036854775807) (hU : TabU w) (hM : CdM w aW nW cW aI nI cI k) (hrg : k.regs = rg) (hwf : k.wf) : Calls Tryz.prog 30 #[.pointer (some ⟨g, 0, none⟩)] w fun e w' => e = .returned (.bool (dayP day && rfP fs && rightR k)) ∧ Below w.heap.size w w' := by
  obtain ⟨B, hB⟩ : ∃ B, (dayP day && rfP fs) = B := ⟨_, rfl⟩
  rw [hB]
  have bel : ∀ {w' : World} {s : St}, Holds s.mem w' → s.mem.take 1 = [(g, vmO day (.slice a N cf) rg (.slice aW nW cW) (.slice aI nI cI) hv tv st)] → Ch [g] w w' → Below w.heap.size w w' := fun hm e hc => below_end (hold1v hg) hc hm e
  refine Goes.begin Tryz.func30 [(g, vmO day (.slice a N cf) rg (.slice aW nW cW) (.slice aI nI cI) hv tv st)] (fun _ => True) (hold1v hg) (by simp [Mem.ids]) (fun _ _ => trivial) ?_
  refine Goes.run [0] [] trivial ?_
  refine Goes.call0 64 #[dwV day (.slice a N cf)] (.bool B) (fun w' hm hI => hB ▸ vright_any day (hF.at (bel hm (by kernel_chk) hI.now.1)) hl (hU.below (bel hm (by kernel_chk) hI.now.1))) ?_
  cases B with
  | false =>
    refine Goes.run [0] [(false, false)] ⟨rfl, trivial⟩ ?_
    exact Goes.ret [] (.bool false) fun w' hm hI => ⟨rfl, bel hm (by kernel_chk) hI.now.1⟩
  | true =>
    refine Goes.run [1, 0] [(true, true)] ⟨rfl, trivial⟩ ?_
    refine Goes.call0 23 #[cdV rg aW nW cW aI nI cI] (.bool (rightR k)) (fun w' hm hI => by rw [← right_eq]; exact gright_any (hU.below (bel hm (by kernel_chk) hI.now.1)) (hM.below (bel hm (by kernel_chk) hI.now.1)) hrg hwf) ?_
    refine Goes.run [] [] trivial ?_
    exact Goes.ret [] (.bool (rightR k)) fun w' hm hI => ⟨rfl, bel hm (by kernel_chk) hI.now.1⟩
end
end Go.Proofs.YtddbiiejilcbbaaGreatDoor
namespace Go.Proofs.YtddbiiejilcbbaaGreatDoor
open Go Go.RowKit

/-- What runs came to is small. -/
structure Ms.Fit (s : Ms) : Prop where
  lo : 0 ≤ s.steps
  hi : s.steps ≤ 65537
  holds : s.holds.length ≤ 251
  out : (s.out.length : Int) ≤ s.steps
theorem Ms.Fit.one {s : Ms} (h : s.Fit) (ho : overM s = false) : s.one.Fit ∧ s.one.holds.length ≤ 250 := by
  have := over_iff.1 ho
  exact ⟨⟨by show 0 ≤ s.steps + 1; have := h.lo; omega, by show s.steps + 1 ≤ 65537; omega, h.holds, by show (s.out.length : Int) ≤ s.steps + 1; have := h.out; omega⟩, this.2⟩
theorem Ms.Fit.hold {s : Ms} (h : s.one.Fit) (h2 : s.one.holds.length ≤ 250) (n f : Int) : (s.one.hold n f).Fit := ⟨h.lo, h.hi, by show (s.one.holds ++ [(n, f)]).length ≤ 251; rw [List.length_append]; simp; omega, h.out⟩
theorem Ms.Fit.pay {s : Ms} (h : s.Fit) (c : List UInt8) (f : Int) (hs : s.one.Fit) : (s.one.pay c f).Fit := ⟨hs.lo, hs.hi, hs.holds, by
  have h9 : (bif f == 0 then [] else [(c, f)] : List (List UInt8 × Int)).length ≤ 1 := by cases f == 0 <;> simp
  show ((s.out ++ bif f == 0 then [] else [(c, f)]).length : Int) ≤ s.steps + 1
  rw [List.length_append]
  have := h.out
  omega⟩
theorem runP_fit (k : Kd) (fs : Fs) (day : Int) : ∀ (n : Nat) (r : Rg) (s : Ms), s.Fit → (runP k fs day n r s).Fit
  | 0, r, s, h => h
  | n + 1, r, s, h => by
    rw [runP]
    cases ho : overM s with
    | true => exact h
    | false =>
    simp only [cond_false]
    obtain ⟨h1, h2⟩ := h.one ho
    cases k.ins[r.next.toNat]? with
    | none => exact h
    | some x =>
      simp only
      cases x.op == 30 with
      | true => exact h1
      | false =>
      cases x.op == 29 with
      | true => exact runP_fit k fs day n _ _ (runP_fit k fs day n _ _ h1)
      | false =>
      cases x.op == 28 with
      | true => exact runP_fit k fs day n _ _ (h1.hold h2 _ _)
      | false =>
      cases x.op == 27 with
      | true => exact runP_fit k fs day n _ _ (h.pay _ _ h1)
      | false => exact runP_fit k fs day n _ _ h1
theorem doQ_next {k : Kd} {i : Nat} {x : Ik} (hx : XOk k i x) (h30 : x.op ≠ 30) (fs : Fs) (day : Int) {r : Rg} (hr : r.next = ((i + 1 : Nat) : Int)) : 0 ≤ (doQ fs day x r).next ∧ (doQ fs day x r).next < (k.ins.length : Int) := by
  have hn := hx.next h30
  have key : ∀ b : Bool, (x.op = 2 ∨ x.op = 19 ∨ x.op = 20 ∨ x.op = 21 ∨ x.op = 22) → 0 ≤ (r.go x.to b).next ∧ (r.go x.to b).next < (k.ins.length : Int) := fun b ho => by
    have := hx.to ho
    cases b with
    | true => show 0 ≤ x.to ∧ x.to < _; omega
    | false => show 0 ≤ r.next ∧ r.next < _; rw [hr]; omega
  have same : 0 ≤ r.next ∧ r.next < (k.ins.length : Int) := by rw [hr]; omega
  unfold doQ
  cases h2 : (x.op == 2) with
  | true =>
    simp only [cond_true]
    cases fedP x.s (day - x.n) fs with
    | some v => exact same
    | none => exact key true (.inl (eq_of_beq h2))
  | false =>
  cases x.op == 3 with
  | true => exact same
  | false =>
  cases h19 : (x.op == 19) with
  | true => exact key _ (.inr (.inl (eq_of_beq h19)))
  | false =>
  cases h20 : (x.op == 20) with
  | true => exact key _ (.inr (.inr (.inl (eq_of_beq h20))))
  | false =>
  cases h21 : (x.op == 21) with
  | true => exact key _ (.inr (.inr (.inr (.inl (eq_of_beq h21)))))
  | false =>
  cases h22 : (x.op == 22) with
  | true => exact key _ (.inr (.inr (.inr (.inr (eq_of_beq h22)))))
  | false =>
  cases x.op == 23 with
  | true => exact same
  | false =>
  cases x.op == 24 with
  | true => exact same
  | false =>
  cases x.op == 25 with
  | true => exact same
  | false =>
  cases x.op == 26 with
  | true => exact same
  | false =>
  cases x.op == 1 with
  | true => exact same
  | false => exact same
/-- A step of a run, by what stands there. -/
theorem runP_at {k : Kd} {fs : Fs} {day : Int} {n i : Nat} {r : Rg} {s : Ms} {x : Ik} (ho : overM s = false) (hr : r.next = (i : Int)) (hx : k.ins[i]? = some x) : runP k fs day (n + 1) r s = bif x.op == 30 then s.one else bif x.op == 29 then runP k fs day n r.on (runP k fs day n ⟨zeros, entK k x.n, r.f⟩ s.one) else bif x.op == 28 then runP k fs day n r.on (s.one.hold x.n r.f) else bif x.op == 27 then runP k fs day n r.on (s.one.pay x.s r.f) else runP k fs day n (doQ fs day x r.on) s.one := by
  rw [runP, ho, hr, Int.toNat_natCast, hx]
  rfl
end Go.Proofs.YtddbiiejilcbbaaGreatDoor
namespace Go.Proofs.YtddbiiejilcbbaaGreatDoor
open Go Go.RowKit

section
variable {P : Program} {F : Exit → Act → World → Prop} {s : St} {n0 g : Nat} {day : Int} {lv tv lv1 tv1 : Value} {ls1 : List (Int × Int)} {ts1 : List (List UInt8 × Int)} {w : World}
theorem Goes.callVQA (i : Nat) (f : FuncId) (args : Array Value) (u : Value) (ob1 ob2 : Value → Value → Obj) (ho1 : IsM ob1) (ho2 : IsM ob2) (ls2 : List (Int × Int)) (ts2 : List (List UInt8 × Int)) (loc : Mem) (hloc : Loc5 w loc) (m0 : Mem) (hm0 : ∀ q ∈ m0, q.1 < n0 ∨ ∃ c e z, q.2 = .cells c e z ∧ ty5 e = false) (hg0 : n0 ≤ g) (hn : n0 ≤ w.heap.size)
    (hr : ∀ w1, Holds s.mem w1 → McI n0 g day w lv tv lv1 tv1 ls1 ts1 w1 → Calls P f args w1 (VQ n0 g day ob2 w1 lv1 tv1 u ls2 ts2))
    (h : ∀ lv2 tv2, Goes P F (McI n0 g day w lv tv lv2 tv2 ls2 ts2) (putA i s u ((g, ob2 lv2 tv2) :: loc)))
    (hM : anyM s = m0 := by kernel_chk) (hmem : s.mem = (g, ob1 lv1 tv1) :: loc := by kernel_chk) (ha : askA i s = some (f, args) := by kernel_chk) (hw : anyLone i s = true := by kernel_chk) (hf : okf P f = true := by kernel_chk) : Goes P F (McI n0 g day w lv tv lv1 tv1 ls1 ts1) s :=
  Goes.callA i f args (fun ops m1 n l k ht w1 hm hnd hI h0 => (hr w1 hm hI.now).mono fun e w2 ⟨lv2, tv2, he, hg2, hA⟩ => by
    obtain ⟨h1, h2, h3⟩ := vq_next hloc ho1 ho2 hmem hm hI.now hg2 hA
    have hB : Below n0 w1 w2 := mcB hI.now.2.1 hI.now.2.2.1 hg0 (Nat.le_trans hn hI.now.1.size) hA
    refine ⟨u, _, _, he, hold_in fun q hq => ?_, h1, by rw [hmem] at hnd; exact hnd, h2, h lv2 tv2⟩
    have hq' : q ∈ m0 := by rw [← hM]; unfold anyM; rw [ht]; exact hq
    have := in_hold h0 q hq
    rcases hm0 q hq' with hl | ⟨c, e, z, e1, e2⟩
    · exact (hB.block q.1 hl).trans this
    · rw [e1] at this ⊢
      exact h3 _ _ _ _ this e2) ha hw hf
end
theorem holds2v {w : World} {b b' : Nat} {ob ob' : Obj} (h : w.heap[b]? = some ob) (h' : w.heap[b']? = some ob') : Holds [(b, ob), (b', ob')] w := hold_in (by simpa using ⟨h, h'⟩)
theorem WcAt.objV {w w' : World} {b o : Nat} {x : Wk} (h : WcAt w b o x) {ob : Obj} (h0 : w.heap[b]? = some ob) (h1 : w'.heap[b]? = some ob) : WcAt w' b o x := fun j u hj => by
  have := h j u hj
  unfold World.cell? at this ⊢
  rw [h1]
  rw [h0] at this
  exact this
theorem IcAt.objV {w w' : World} {b o : Nat} {x : Ik} (h : IcAt w b o x) {ob : Obj} (h0 : w.heap[b]? = some ob) (h1 : w'.heap[b]? = some ob) : IcAt w' b o x := fun j u hj => by
  have := h j u hj
  unfold World.cell? at this ⊢
  rw [h1]
  rw [h0] at this
  exact this
theorem obj_ofV {w : World} {b : Nat} (h : b < w.heap.size) : ∃ ob, w.heap[b]? = some ob := ⟨w.heap[b], by simp [h]⟩
end Go.Proofs.YtddbiiejilcbbaaGreatDoor
namespace Go.Proofs.YtddbiiejilcbbaaGreatDoor
open Go Go.RowKit

/-- What all runs of a call stand on: as it lay in the world in which the call began. -/
structure Rn0 (w0 : World) (k : Kd) (fs : Fs) (fa : Option Addr) (fN fc : Nat) (rg : Int) (aW : Option Addr) (nW cW : Nat) (aI : Option Addr) (nI cI : Nat) (day : Int) : Prop where
  code : CdM w0 aW nW cW aI nI cI k
  regs : k.regs = rg
  right : rightR k = true
  fds : Fds w0.heap.size w0 (.slice fa fN fc) fs
  rf : RFd fs
  tab : Tab w0
  day : 0 ≤ day ∧ day ≤ 73048
theorem tab_lt {w : World} (h : Tab w) : 1 < w.heap.size := World.block_lt_of_cell? w _ (h 0 (by decide))
theorem Rn0.en {w0 w : World} {k : Kd} {fs : Fs} {fa aW aI : Option Addr} {fN fc nW cW nI cI : Nat} {rg day : Int} (h : Rn0 w0 k fs fa fN fc rg aW nW cW aI nI cI day) (hB : Below w0.heap.size w0 w) : En w0.heap.size fs (.slice fa fN fc) w := (⟨h.fds, h.tab, tab_lt h.tab, Nat.le_refl _⟩ : En w0.heap.size fs (.slice fa fN fc) w0).bel hB
def RunAt (w0 : World) (k : Kd) (fs : Fs) (fa : Option Addr) (fN fc : Nat) (rg : Int) (aW : Option Addr) (nW cW : Nat) (aI : Option Addr) (nI cI : Nat) (day : Int) (g N : Nat) : Prop := ∀ (at' : Nat) (f : Int) (w : World) (hv tv : Value) (s : Ms), Below w0.heap.size w0 w → Hds w0.heap.size w hv s.holds → Trs w0.heap.size day w tv s.out → w.heap[g]? = some (vmO day (.slice fa fN fc) rg (.slice aW nW cW) (.slice aI nI cI) hv tv s.steps) → at' < k.ins.length → s.Fit → 65538 ≤ s.steps + N → Calls Tryz.prog 31 #[.pointer (some ⟨g, 0, none⟩), .int .i64 at', .int .i64 f] w (VQ w0.heap.size g day (vmB day (.slice fa fN fc) rg (.slice aW nW cW) (.slice aI nI cI) (runP k fs day N ⟨zeros, at', f⟩ s).steps) w hv tv (.tuple #[]) (runP k fs day N ⟨zeros, at', f⟩ s).holds (runP k fs day N ⟨zeros, at', f⟩ s).out)
theorem rn_cells (r : Rg) : ∃ c e z, rnO r = .cells c e z ∧ ty5 e = false := ⟨_, _, _, rfl, by decide⟩
theorem rn_blk {w : World} {b : Nat} {r : Rg} (h : w.heap[b]? = some (rnO r)) : ∃ c e z, w.heap[b]? = some (.cells c e z) ∧ ty5 e = false := ⟨_, _, _, h, by decide⟩
theorem rn_kept {w w' : World} {b : Nat} {r : Rg} (hk : ∀ (i : Nat) (c : Array Value) (e : TypeId) (z : Nat × Nat), w.heap[i]? = some (.cells c e z) → e ≠ 86 → w'.heap[i]? = some (.cells c e z)) (h : w.heap[b]? = some (rnO r)) : w'.heap[b]? = some (rnO r) := hk b _ _ _ h (by decide)
structure LpU where
  r : Rg
  s : Ms
  M : Nat
  hv : Value
  tv : Value
structure LpU.ok (k : Kd) (fs : Fs) (day : Int) (N : Nat) (R : Ms) (x : LpU) : Prop where
  run : runP k fs day x.M x.r x.s = R
  fit : x.s.Fit
  left : 65538 ≤ x.s.steps + x.M
  most : x.M ≤ N
  next : 0 ≤ x.r.next ∧ x.r.next < (k.ins.length : Int)
abbrev uS (g g6 : Nat) : List (Nat × Value) := [(0, .pointer (some ⟨g, 0, none⟩)), (6, .pointer (some ⟨g6, 0, none⟩))]
abbrev nl : Value := .slice none 0 0
noncomputable def ruH : List TI := (rn Tryz.prog [] [] (offL (rn Tryz.prog [1] [] (mkSt Tryz.prog 6 (rn Tryz.prog [] [] (st0S Tryz.f31 #[.pointer (some ⟨1, 0, none⟩), .int .i64 0, .int .i64 0] [(1, vmO 0 nl 0 nl nl nl nl 0)])).st)).st)).st.todo
noncomputable def ruA : St := (rn Tryz.prog [1, 0, 0] [] (put0 (rn Tryz.prog [0] [] ⟨ruH, fr 84 (uS 1 6) (fun _ => undef), [(1, vmO 0 nl 0 nl nl nl nl 0), (6, rnO ⟨zeros, 0, 0⟩)]⟩).st (.bool false))).st
noncomputable def ruB : St := oneSt Tryz.prog 10 2 (newSt Tryz.prog 9 7 (putA0 8 (putA0 7 (putA0 6 (rn Tryz.prog [0, 1, 2, 3, 4, 0, 5] [] (openedY [0, 1] [] ruA)).st (.int .i64 0)) (.pointer (some ⟨9, 0, none⟩))) (iV ⟨0, 0, 0, 0, 0, [], 0⟩)))
noncomputable def ruS : List TI := (putM (rn Tryz.prog [] [] (put0 (rn Tryz.prog [] [] ruB).st (.int .i64 0))).st undef 1 6 (rnO ⟨zeros, 0, 0⟩)).todo
/-- What a round stands on. -/
structure CaseH (w0 w : World) (k : Kd) (fs : Fs) (fa aW aI : Option Addr) (fN fc nW cW nI cI : Nat) (rg day : Int) (g g6 g7 : Nat) (hv tv : Value) (sh : List (Int × Int)) (so : List (List UInt8 × Int)) (N M i : Nat) (s1 : Ms) (r : Rg) (x : Ik) : Prop where
  h0 : Rn0 w0 k fs fa fN fc rg aW nW cW aI nI cI day
  hg0 : w0.heap.size ≤ g
  hBw : Below w0.heap.size w0 w
  hl : Hds w0.heap.size w hv sh
  ht : Trs w0.heap.size day w tv so
  hge : g < w.heap.size
  hg6 : w.heap.size ≤ g6
  hg7 : w.heap.size ≤ g7
  hne : g6 ≠ g7
  hX : XOk k i x
  hFit : s1.Fit
  hFit1 : s1.one.Fit
  hH1 : s1.one.holds.length ≤ 250
  hLeft : 65538 ≤ s1.steps + ((M + 1 : Nat) : Int)
  hMost : M + 1 ≤ N
  hon : r.on.next = ((i + 1 : Nat) : Int)
/-- The loop goes on from here. -/
def BackTo (w0 w : World) (k : Kd) (fs : Fs) (fa aW aI : Option Addr) (fN fc nW cW nI cI : Nat) (rg day : Int) (g g6 : Nat) (hv tv : Value) (N M : Nat) (R : Ms) (Q : Ending → World → Prop) : Prop := ∀ (r' : Rg) (s' : Ms) (M' : Nat) (hv' tv' : Value), LpU.ok k fs day N R ⟨r', s', M', hv', tv'⟩ → M' < M + 1 → ∀ J, Goes Tryz.prog (bodyPost Tryz.prog Tryz.f31 Q) (McI w0.heap.size g day w hv tv hv' tv' s'.holds s'.out) ⟨ruH, fr 84 (uS g g6) J, [(g, vmO day (.slice fa fN fc) rg (.slice aW nW cW) (.slice aI nI cI) hv' tv' s'.steps), (g6, rnO r')]⟩
theorem hBv {w0 w w' : World} {g : Nat} {day : Int} {hv tv a b : Value} {sh ls : List (Int × Int)} {so ts : List (List UInt8 × Int)} (hg0 : w0.heap.size ≤ g) (hBw : Below w0.heap.size w0 w) (hl : Hds w0.heap.size w hv sh) (ht : Trs w0.heap.size day w tv so) (h : McI w0.heap.size g day w hv tv a b ls ts w') : Below w0.heap.size w0 w' := hBw.trans (mcB hl ht hg0 hBw.size h)
end Go.Proofs.YtddbiiejilcbbaaGreatDoor
namespace Go.Proofs.YtddbiiejilcbbaaGreatDoor
open Go Go.RowKit

def dmO (day : Int) (fv hv tv : Value) (st : Int) (b : Bool) : Obj := .cells #[.int .i64 day, fv, hv, tv, .int .i64 st, .bool b] 56 (0, 0)
abbrev dmB (day : Int) (fv : Value) (st : Int) (b : Bool) : Value → Value → Obj := fun hv tv => dmO day fv hv tv st b
theorem dmB_is (day : Int) (fv : Value) (st : Int) (b : Bool) : IsM (dmB day fv st b) := fun a c => ⟨_, _, _, rfl, by decide, by decide, by decide⟩
abbrev cdO (rg : Int) (wv iv : Value) : Obj := .cells #[.int .i64 rg, wv, iv] 27 (0, 0)
/-- A row of registers. -/
def rgO (R : Nat → Int) : Obj := .cells ((List.range 256).map (fun i => Value.int .i64 (R i))).toArray 2 (0, 0)
theorem infoI64v : (Tryz.prog.info? 2).map (fun i => (i.zero, i.size, i.bytes)) = some (some (.int .i64 0), 1, 8) := by kernel_chk
theorem makeG (w : World) : (Instr.makeSlice 101 (.int .i64 256) (.int .i64 256)).run Tryz.prog w = .ok (.slice (some ⟨w.heap.size, 0, none⟩) 256 256) (w.alloc (rgO zeros)) := by
  cases hie : Tryz.prog.info? 2 with
  | none => have := infoI64v; rw [hie] at this; cases this
  | some i0 =>
    have hi := infoI64v
    rw [hie] at hi
    simp only [Option.map_some, Option.some.injEq, Prod.mk.injEq] at hi
    obtain ⟨hz0, hz1, hz2⟩ := hi
    have hr := run_make (P := Tryz.prog) w 101 2 i0 (.int .i64 0) Tryz.underlying101 hie hz0 .i64 .i64 256 256 (by omega) (by omega) (by rw [hz2]; omega) (by omega)
    have e : Obj.cells (madeCells (Value.cells (.int .i64 0)) ((256 : Int).toNat * 1)) 2 = rgO zeros := by kernel_chk
    rw [hz1, e] at hr
    exact hr
section
variable {w : World} {g : Nat} {R : Nat → Int}
theorem rg_cell (h : w.heap[g]? = some (rgO R)) {i : Nat} (hi : i < 256) : w.cell? ⟨g, i, none⟩ = some (.int .i64 (R i)) := by
  unfold World.cell?
  rw [h]
  unfold rgO
  simp [hi]
theorem rg_set {i : Nat} (h : i < 256) (v : Int) : ((List.range 256).map (fun j => Value.int .i64 (R j))).set i (.int .i64 v) = (List.range 256).map (fun j => Value.int .i64 (updR R i v j)) := by
  apply List.ext_getElem?
  intro j
  rw [List.getElem?_set]
  by_cases hij : i = j
  · subst hij
    rw [if_pos rfl, if_pos (by simpa using h), List.getElem?_map, List.getElem?_range h]
    simp [updR]
  · rw [if_neg hij, List.getElem?_map, List.getElem?_map]
    by_cases hj : j < 256
    · rw [List.getElem?_range hj]
      have : (j == i) = false := by simp; omega
      simp [updR, this]
    · rw [List.getElem?_eq_none (by simp; omega)]
      rfl
theorem rg_ld (h : w.heap[g]? = some (rgO R)) {i : Int} (hi : 0 ≤ i ∧ i < 256) : (Instr.loadAt 2 (.pointer (some ⟨g, i.toNat, none⟩))).run Tryz.prog w = .ok (.int .i64 (R i.toNat)) w := load1 Tryz.isAgg2 (rg_cell h (by omega))
theorem rg_st (h : w.heap[g]? = some (rgO R)) {i : Int} (hi : 0 ≤ i ∧ i < 256) (v : Int) : ∃ w', (Instr.storeAt 2 (.pointer (some ⟨g, i.toNat, none⟩)) (.int .i64 v)).run Tryz.prog w = .ok () w' ∧ Ch [g] w w' ∧ w'.heap[g]? = some (rgO (updR R i.toNat v)) := by
  have hfr : w.frozen? ⟨g, i.toNat, none⟩ = false := by
    unfold World.frozen?
    rw [h]
    simp [rgO]
  refine ⟨_, store1 Tryz.sizeOf2 (.int .i64 v) rfl rfl (rg_cell h (by omega)) hfr, ⟨rfl, rfl, rfl, by unfold World.setCell; simp, fun j hj hx => ?_⟩, ?_⟩
  · unfold World.setCell
    simp only
    rw [Array.getElem?_modify, if_neg (fun e => hx (by simp [e]))]
  · unfold World.setCell
    simp only
    rw [Array.getElem?_modify, if_pos rfl, h]
    unfold rgO
    simp only [Option.map_some]
    rw [← rg_set (by omega) v]
    simp
theorem idxG (b : Nat) {i : Int} (h : 0 ≤ i ∧ i < 256) (w : World) : (Instr.indexAt 101 (.slice (some ⟨b, 0, none⟩) 256 256) (.int .i64 i)).run Tryz.prog w = .ok (.pointer (some ⟨b, i.toNat, none⟩)) w := by
  obtain ⟨k, rfl⟩ : ∃ k : Nat, i = (k : Int) := ⟨i.toNat, by omega⟩
  have hk : k < 256 := by omega
  go_simp
  try omega
end
theorem rg_cells (R : Nat → Int) : ∃ c e z, rgO R = .cells c e z ∧ ty5 e = false := ⟨_, _, _, rfl, by decide⟩
theorem rg_blk {w : World} {b : Nat} {R : Nat → Int} (h : w.heap[b]? = some (rgO R)) : ∃ c e z, w.heap[b]? = some (.cells c e z) ∧ ty5 e = false := ⟨_, _, _, h, by decide⟩
theorem rg_kept {w w' : World} {b : Nat} {R : Nat → Int} (hk : ∀ (i : Nat) (c : Array Value) (e : TypeId) (z : Nat × Nat), w.heap[i]? = some (.cells c e z) → e ≠ 86 → w'.heap[i]? = some (.cells c e z)) (h : w.heap[b]? = some (rgO R)) : w'.heap[b]? = some (rgO R) := hk b _ _ _ h (by decide)
theorem rg_keptT {w w' : World} {b : Nat} {R : Nat → Int} (hk : ∀ (i : Nat) (c : Array Value) (e : TypeId) (z : Nat × Nat), w.heap[i]? = some (.cells c e z) → e ≠ 59 → w'.heap[i]? = some (.cells c e z)) (h : w.heap[b]? = some (rgO R)) : w'.heap[b]? = some (rgO R) := hk b _ _ _ h (by decide)
def RunDt (w0 : World) (k : Kd) (fs : Fs) (fa : Option Addr) (fN fc : Nat) (rg : Int) (aW : Option Addr) (nW cW : Nat) (aI : Option Addr) (nI cI : Nat) (day : Int) (g N : Nat) : Prop := ∀ (at' : Nat) (f : Int) (w : World) (hv tv : Value) (s : Ms), Below w0.heap.size w0 w → Hds w0.heap.size w hv s.holds → Trs w0.heap.size day w tv s.out → w.heap[g]? = some (dmO day (.slice fa fN fc) hv tv s.steps false) → at' < k.ins.length → s.Fit → overM s = false → 65538 ≤ s.steps + N → Calls Tryz.prog 21 #[.pointer (some ⟨g, 0, none⟩), cdV rg aW nW cW aI nI cI, .int .i64 at', .int .i64 f] w (VQ w0.heap.size g day (dmB day (.slice fa fN fc) (runD k fs day N ⟨zeros, at', f⟩ s).1.steps (runD k fs day N ⟨zeros, at', f⟩ s).2) w hv tv (.tuple #[]) (runD k fs day N ⟨zeros, at', f⟩ s).1.holds (runD k fs day N ⟨zeros, at', f⟩ s).1.out)
structure LpE where
  r : Rg
  s : Ms
  bad : Bool
  M : Nat
  hv : Value
  tv : Value
structure LpE.ok (k : Kd) (fs : Fs) (day : Int) (N : Nat) (R : Ms × Bool) (x : LpE) : Prop where
  run : (bif x.bad then (x.s, true) else runD k fs day x.M x.r x.s) = R
  most : x.M ≤ N
  fine : x.bad = false → x.s.Fit ∧ overM x.s = false ∧ 65538 ≤ x.s.steps + x.M ∧ 0 ≤ x.r.next ∧ x.r.next < (k.ins.length : Int)
abbrev slG (gR : Nat) : Value := .slice (some ⟨gR, 0, none⟩) 256 256
abbrev eS (g gc gR : Nat) (r : Rg) : List (Nat × Value) := [(0, .pointer (some ⟨g, 0, none⟩)), (2, .int .i64 r.next), (3, .int .i64 r.f), (5, .pointer (some ⟨gc, 0, none⟩)), (8, slG gR)]
abbrev eS9 (g gc gR g9 : Nat) (r : Rg) : List (Nat × Value) := eS g gc gR r ++ [(9, .pointer (some ⟨g9, 0, none⟩)), (10, .bool false), (41, .pointer (some ⟨g9, 0, none⟩))]
abbrev eST (g gc gR g9 : Nat) (r : Rg) (b : Bool) : List (Nat × Value) := eS g gc gR r ++ [(9, .pointer (some ⟨g9, 0, none⟩)), (225, .bool b)]
noncomputable def erH : List TI := (rn Tryz.prog [] [] (put (rn Tryz.prog [] [] (mkSt Tryz.prog 2 (rn Tryz.prog [] [] (st0 Tryz.f21 #[.pointer (some ⟨1, 0, none⟩), cdV 0 none 0 0 none 0 0, .int .i64 0, .int .i64 0] [(1, dmO 0 nl nl nl 0 false)])).st)).st (slG 3) [(1, dmO 0 nl nl nl 0 false), (2, cdO 0 nl nl), (3, rgO zeros)])).st.todo
noncomputable def erA : St := (rn Tryz.prog [0, 0, 1, 1] [] ⟨erH, fr 228 (eS 1 2 3 ⟨zeros, 0, 0⟩) (fun _ => undef), [(1, dmO 0 nl nl nl 0 false), (2, cdO 0 nl nl), (3, rgO zeros)]⟩).st
noncomputable def erB : St := (rn Tryz.prog [3, 0, 0] [] (mkSt Tryz.prog 4 (put0 (put0 erA (.pointer (some ⟨9, 0, none⟩))) (iV ⟨0, 0, 0, 0, 0, [], 0⟩)))).st
noncomputable def erS : List TI := (rn Tryz.prog [0, 0] [] ⟨erB.todo, fr 228 (eS 1 2 3 ⟨zeros, 0, 0⟩ ++ [(9, .pointer (some ⟨4, 0, none⟩)), (35, .pointer (some ⟨1, 4, none⟩))]) (fun _ => undef), [(1, dmO 0 nl nl nl 1 false), (2, cdO 0 nl nl), (3, rgO zeros), (4, .cells (iC ⟨0, 0, 0, 0, 0, [], 0⟩).toArray 72 (0, 0))]⟩).st.todo
noncomputable def erT : List TI := (rn Tryz.prog [3, 0, 0, 0, 0, 0, 1] [] ⟨erS, fr 228 (eS9 1 2 3 4 ⟨zeros, 0, 0⟩) (fun _ => undef), [(1, dmO 0 nl nl nl 1 false), (2, cdO 0 nl nl), (3, rgO zeros), (4, .cells (iC ⟨20, 0, 0, 0, 0, [], 0⟩).toArray 72 (0, 0))]⟩).st.todo
/-- What a round stands on. -/
structure CaseE (w0 w : World) (k : Kd) (fs : Fs) (fa aW aI : Option Addr) (fN fc nW cW nI cI : Nat) (rg day : Int) (g gc gR g9 : Nat) (hv tv : Value) (sh : List (Int × Int)) (so : List (List UInt8 × Int)) (N M i : Nat) (s1 : Ms) (r : Rg) (x : Ik) : Prop where
  h0 : Rn0 w0 k fs fa fN fc rg aW nW cW aI nI cI day
  hg0 : w0.heap.size ≤ g
  hBw : Below w0.heap.size w0 w
  hl : Hds w0.heap.size w hv sh
  ht : Trs w0.heap.size day w tv so
  hge : g < w.heap.size
  hgc : w.heap.size ≤ gc
  hgR : w.heap.size ≤ gR
  hg9 : w.heap.size ≤ g9
  hnd : [g, gc, gR, g9].Nodup
  hX : XOk k i x
  hs : x.s.length ≤ 9223372036854775807
  hFit : s1.Fit
  hFit1 : s1.one.Fit
  hov : overM s1.one = false
  hH1 : s1.one.holds.length ≤ 250
  hLeft : 65538 ≤ s1.steps + ((M + 1 : Nat) : Int)
  hMost : M + 1 ≤ N
  hon : r.next = ((i + 1 : Nat) : Int)
/-- The loop goes on from here. -/
def BackE (w0 w : World) (k : Kd) (fs : Fs) (fa aW aI : Option Addr) (fN fc nW cW nI cI : Nat) (rg day : Int) (g gc gR : Nat) (hv tv : Value) (N M : Nat) (R : Ms × Bool) (Q : Ending → World → Prop) : Prop := ∀ (r' : Rg) (s' : Ms) (b' : Bool) (M' : Nat) (hv' tv' : Value), LpE.ok k fs day N R ⟨r', s', b', M', hv', tv'⟩ → M' < M + 1 → ∀ J, Goes Tryz.prog (bodyPost Tryz.prog Tryz.f21 Q) (McI w0.heap.size g day w hv tv hv' tv' s'.holds s'.out) ⟨erH, fr 228 (eS g gc gR r') J, [(g, dmO day (.slice fa fN fc) hv' tv' s'.steps b'), (gc, cdO rg (.slice aW nW cW) (.slice aI nI cI)), (gR, rgO r'.regs)]⟩
/-- A round's end: does it jump? -/
def TailE (w0 w : World) (k : Kd) (fs : Fs) (fa aW aI : Option Addr) (fN fc nW cW nI cI : Nat) (rg day : Int) (g gc gR g9 : Nat) (hv tv : Value) (N M : Nat) (R : Ms × Bool) (Q : Ending → World → Prop) (x : Ik) : Prop := ∀ (r1 : Rg) (b : Bool) (s' : Ms) (b' : Bool) (hv' tv' : Value), LpE.ok k fs day N R ⟨r1.go x.to b, s', b', M, hv', tv'⟩ → ∀ J, Goes Tryz.prog (bodyPost Tryz.prog Tryz.f21 Q) (McI w0.heap.size g day w hv tv hv' tv' s'.holds s'.out) ⟨erT, fr 228 (eST g gc gR g9 r1 b) J, [(g, dmO day (.slice fa fN fc) hv' tv' s'.steps b'), (gc, cdO rg (.slice aW nW cW) (.slice aI nI cI)), (gR, rgO r1.regs), (g9, .cells (iC x).toArray 72 (0, 0))]⟩
end Go.Proofs.YtddbiiejilcbbaaGreatDoor
namespace Go.Proofs.YtddbiiejilcbbaaGreatDoor
open Go Go.RowKit

set_option maxHeartbeats 4000000 in
set_option maxRecDepth 100000 in
seal rn rnN rnS Goes ans atEnd put0 put putM opened openedY putA0 putA oneSt st0 keep mkSt newSt rgO erH erS erT in
theorem tail_any {w0 w : World} {k : Kd} {fs : Fs} {fa aW aI : Option Addr} {fN fc nW cW nI cI : Nat} {rg day : Int} {g gc gR g9 : Nat} {hv tv : Value} {N M : Nat} {R : Ms × Bool} {Q : Ending → World → Prop} {x : Ik} (bk : BackE w0 w k fs fa aW aI fN fc nW cW nI cI rg day g gc gR hv tv N M R Q) : TailE w0 w k fs fa aW aI fN fc nW cW nI cI rg day g gc gR g9 hv tv N M R Q x := by
  intro r1 b s' b' hv' tv' hok J
  cases b with
  | true =>
    refine Goes.run [1, 3] [(true, true)] ⟨rfl, trivial⟩ ?_
    refine Goes.keep 3 ?_
    exact Goes.at (K := erH) (n := 228) (S := eS g gc gR (r1.go x.to true)) (m := [(g, dmO day (.slice fa fN fc) hv' tv' s'.steps b'), (gc, cdO rg (.slice aW nW cW) (.slice aI nI cI)), (gR, rgO r1.regs)]) (fun J => bk (r1.go x.to true) s' b' M hv' tv' hok (by omega) J) (by kernel_chk) (by kernel_chk) (by kernel_chk)
  | false =>
    refine Goes.run [0] [(false, false)] ⟨rfl, trivial⟩ ?_
    refine Goes.keep 3 ?_
    exact Goes.at (K := erH) (n := 228) (S := eS g gc gR r1) (m := [(g, dmO day (.slice fa fN fc) hv' tv' s'.steps b'), (gc, cdO rg (.slice aW nW cW) (.slice aI nI cI)), (gR, rgO r1.regs)]) (fun J => bk r1 s' b' M hv' tv' hok (by omega) J) (by kernel_chk) (by kernel_chk) (by kernel_chk)
theorem CaseE.okQ {w0 w : World} {k : Kd} {fs : Fs} {fa aW aI : Option Addr} {fN fc nW cW nI cI : Nat} {rg day : Int} {g gc gR g9 : Nat} {hv tv hv1 tv1 : Value} {sh : List (Int × Int)} {so : List (List UInt8 × Int)} {N M i : Nat} {s1 : Ms} {r : Rg} {x : Ik} {R : Ms × Bool} (H : CaseE w0 w k fs fa aW aI fN fc nW cW nI cI rg day g gc gR g9 hv tv sh so N M i s1 r x) (h30 : x.op ≠ 30) (hRun : runD k fs day M (doQ fs day x r) s1.one = R) (r1 : Rg) (b : Bool) (e : r1.go x.to b = doQ fs day x r) : LpE.ok k fs day N R ⟨r1.go x.to b, s1.one, false, M, hv1, tv1⟩ := by
  have hL := H.hLeft
  have hM := H.hMost
  rw [e]
  exact ⟨hRun, by show M ≤ N; omega, fun _ => ⟨H.hFit1, H.hov, by show 65538 ≤ s1.steps + 1 + (M : Int); omega, doQ_next H.hX h30 fs day H.hon⟩⟩
end Go.Proofs.YtddbiiejilcbbaaGreatDoor
namespace Go.Proofs.YtddbiiejilcbbaaGreatDoor
open Go Go.RowKit

section
variable {w0 w : World} {k : Kd} {fs : Fs} {fa aW aI : Option Addr} {fN fc nW cW nI cI : Nat} {rg day : Int} {g gc gR g9 : Nat} {hv tv hv1 tv1 : Value} {sh : List (Int × Int)} {so : List (List UInt8 × Int)} {N M i : Nat} {R : Ms × Bool} {s1 : Ms} {r : Rg} {Q : Ending → World → Prop}

set_option maxHeartbeats 4000000 in
set_option maxRecDepth 100000 in
seal rn rnN rnS Goes ans atEnd put0 put putM opened openedY putA0 putA oneSt st0 keep mkSt newSt rgO erH erS erT in
theorem ed_1 {xa xb xc xn xt : Int} {xs : List UInt8} (H : CaseE w0 w k fs fa aW aI fN fc nW cW nI cI rg day g gc gR g9 hv tv sh so N M i s1 r ⟨1, xa, xb, xc, xn, xs, xt⟩) (hRun : runD k fs day M (doQ fs day ⟨1, xa, xb, xc, xn, xs, xt⟩ r) s1.one = R) (tl : TailE w0 w k fs fa aW aI fN fc nW cW nI cI rg day g gc gR g9 hv tv N M R Q ⟨1, xa, xb, xc, xn, xs, xt⟩) (J : Nat → Value) : Goes Tryz.prog (bodyPost Tryz.prog Tryz.f21 Q) (McI w0.heap.size g day w hv tv hv1 tv1 s1.holds s1.out) ⟨erS, fr 228 (eS9 g gc gR g9 r) J, [(g, dmO day (.slice fa fN fc) hv1 tv1 (s1.steps + 1) false), (gc, cdO rg (.slice aW nW cW) (.slice aI nI cI)), (gR, rgO r.regs), (g9, .cells (iC ⟨1, xa, xb, xc, xn, xs, xt⟩).toArray 72 (0, 0))]⟩ := by
  obtain ⟨h0, hg0, hBw, hl, ht, hge, hgc, hgR, hg9, hnd, hX, hs, hFit, hFit1, hov, hH1, hLeft, hMost, hon⟩ := id H
  have H30 : (⟨1, xa, xb, xc, xn, xs, xt⟩ : Ik).op ≠ 30 := by show ((1 : Int)) ≠ 30; decide
  refine Goes.run [3, 0, 1, 3, 3] [(true, true), (false, false)] ⟨rfl, rfl, trivial⟩ ?_
  refine Goes.val (Instr.indexAt 101 (slG gR) (.int .i64 xa)) (.pointer (some ⟨gR, xa.toNat, none⟩)) (fun w' _ _ => idxG gR hX.a w') ?_
  refine Goes.stoK 2 gR (Instr.storeAt 2 (.pointer (some ⟨gR, xa.toNat, none⟩)) (.int .i64 (xn))) (rgO (r.put xa (xn)).regs) (fun w' hm => rg_st (hm.get 2) hX.a _) ?_
  refine Goes.run [] [] trivial ?_
  exact Goes.at (K := erT) (n := 228) (S := eST g gc gR g9 (r.put xa xn) (false)) (m := [(g, dmO day (.slice fa fN fc) hv1 tv1 (s1.steps + 1) false), (gc, cdO rg (.slice aW nW cW) (.slice aI nI cI)), (gR, rgO (r.put xa xn).regs), (g9, .cells (iC ⟨1, xa, xb, xc, xn, xs, xt⟩).toArray 72 (0, 0))]) (fun J => tl (r.put xa xn) (false) (s1.one) false hv1 tv1 (H.okQ H30 hRun (r.put xa xn) (false) rfl) J) (by kernel_chk) (by kernel_chk) (by kernel_chk)
set_option maxHeartbeats 4000000 in
set_option maxRecDepth 100000 in
seal rn rnN rnS Goes ans atEnd put0 put putM opened openedY putA0 putA oneSt st0 keep mkSt newSt rgO erH erS erT in
theorem ed_20 {xa xb xc xn xt : Int} {xs : List UInt8} (H : CaseE w0 w k fs fa aW aI fN fc nW cW nI cI rg day g gc gR g9 hv tv sh so N M i s1 r ⟨20, xa, xb, xc, xn, xs, xt⟩) (hRun : runD k fs day M (doQ fs day ⟨20, xa, xb, xc, xn, xs, xt⟩ r) s1.one = R) (tl : TailE w0 w k fs fa aW aI fN fc nW cW nI cI rg day g gc gR g9 hv tv N M R Q ⟨20, xa, xb, xc, xn, xs, xt⟩) (J : Nat → Value) : Goes Tryz.prog (bodyPost Tryz.prog Tryz.f21 Q) (McI w0.heap.size g day w hv tv hv1 tv1 s1.holds s1.out) ⟨erS, fr 228 (eS9 g gc gR g9 r) J, [(g, dmO day (.slice fa fN fc) hv1 tv1 (s1.steps + 1) false), (gc, cdO rg (.slice aW nW cW) (.slice aI nI cI)), (gR, rgO r.regs), (g9, .cells (iC ⟨20, xa, xb, xc, xn, xs, xt⟩).toArray 72 (0, 0))]⟩ := by
  obtain ⟨h0, hg0, hBw, hl, ht, hge, hgc, hgR, hg9, hnd, hX, hs, hFit, hFit1, hov, hH1, hLeft, hMost, hon⟩ := id H
  have H30 : (⟨20, xa, xb, xc, xn, xs, xt⟩ : Ik).op ≠ 30 := by show ((20 : Int)) ≠ 30; decide
  refine Goes.run [3, 0, 0, 0, 0, 0, 1] [(true, true), (false, false), (false, false), (false, false), (false, false), (false, false)] ⟨rfl, rfl, rfl, rfl, rfl, rfl, trivial⟩ ?_
  refine Goes.run [] [] trivial ?_
  exact Goes.at (K := erT) (n := 228) (S := eST g gc gR g9 (r) (true)) (m := [(g, dmO day (.slice fa fN fc) hv1 tv1 (s1.steps + 1) false), (gc, cdO rg (.slice aW nW cW) (.slice aI nI cI)), (gR, rgO (r).regs), (g9, .cells (iC ⟨20, xa, xb, xc, xn, xs, xt⟩).toArray 72 (0, 0))]) (fun J => tl (r) (true) (s1.one) false hv1 tv1 (H.okQ H30 hRun (r) (true) rfl) J) (by kernel_chk) (by kernel_chk) (by kernel_chk)
set_option maxHeartbeats 4000000 in
set_option maxRecDepth 100000 in
seal rn rnN rnS Goes ans atEnd put0 put putM opened openedY putA0 putA oneSt st0 keep mkSt newSt rgO erH erS erT in
theorem ed_19 {xa xb xc xn xt : Int} {xs : List UInt8} (H : CaseE w0 w k fs fa aW aI fN fc nW cW nI cI rg day g gc gR g9 hv tv sh so N M i s1 r ⟨19, xa, xb, xc, xn, xs, xt⟩) (hRun : runD k fs day M (doQ fs day ⟨19, xa, xb, xc, xn, xs, xt⟩ r) s1.one = R) (tl : TailE w0 w k fs fa aW aI fN fc nW cW nI cI rg day g gc gR g9 hv tv N M R Q ⟨19, xa, xb, xc, xn, xs, xt⟩) (J : Nat → Value) : Goes Tryz.prog (bodyPost Tryz.prog Tryz.f21 Q) (McI w0.heap.size g day w hv tv hv1 tv1 s1.holds s1.out) ⟨erS, fr 228 (eS9 g gc gR g9 r) J, [(g, dmO day (.slice fa fN fc) hv1 tv1 (s1.steps + 1) false), (gc, cdO rg (.slice aW nW cW) (.slice aI nI cI)), (gR, rgO r.regs), (g9, .cells (iC ⟨19, xa, xb, xc, xn, xs, xt⟩).toArray 72 (0, 0))]⟩ := by
  obtain ⟨h0, hg0, hBw, hl, ht, hge, hgc, hgR, hg9, hnd, hX, hs, hFit, hFit1, hov, hH1, hLeft, hMost, hon⟩ := id H
  have H30 : (⟨19, xa, xb, xc, xn, xs, xt⟩ : Ik).op ≠ 30 := by show ((19 : Int)) ≠ 30; decide
  refine Goes.run [3, 0, 0, 0, 0, 1, 3] [(true, true), (false, false), (false, false), (false, false), (false, false)] ⟨rfl, rfl, rfl, rfl, rfl, trivial⟩ ?_
  refine Goes.val (Instr.indexAt 101 (slG gR) (.int .i64 xb)) (.pointer (some ⟨gR, xb.toNat, none⟩)) (fun w' _ _ => idxG gR hX.b w') ?_
  refine Goes.val (Instr.loadAt 2 (.pointer (some ⟨gR, xb.toNat, none⟩))) (.int .i64 (r.get xb)) (fun w' hm _ => rg_ld (hm.get 2) hX.b) ?_
  refine Goes.run [] [] trivial ?_
  exact Goes.at (K := erT) (n := 228) (S := eST g gc gR g9 (r) (r.get xb == 0)) (m := [(g, dmO day (.slice fa fN fc) hv1 tv1 (s1.steps + 1) false), (gc, cdO rg (.slice aW nW cW) (.slice aI nI cI)), (gR, rgO (r).regs), (g9, .cells (iC ⟨19, xa, xb, xc, xn, xs, xt⟩).toArray 72 (0, 0))]) (fun J => tl (r) (r.get xb == 0) (s1.one) false hv1 tv1 (H.okQ H30 hRun (r) (r.get xb == 0) rfl) J) (by kernel_chk) (by kernel_chk) (by kernel_chk)
set_option maxHeartbeats 4000000 in
set_option maxRecDepth 100000 in
seal rn rnN rnS Goes ans atEnd put0 put putM opened openedY putA0 putA oneSt st0 keep mkSt newSt rgO erH erS erT in
theorem ed_21 {xa xb xc xn xt : Int} {xs : List UInt8} (H : CaseE w0 w k fs fa aW aI fN fc nW cW nI cI rg day g gc gR g9 hv tv sh so N M i s1 r ⟨21, xa, xb, xc, xn, xs, xt⟩) (hRun : runD k fs day M (doQ fs day ⟨21, xa, xb, xc, xn, xs, xt⟩ r) s1.one = R) (tl : TailE w0 w k fs fa aW aI fN fc nW cW nI cI rg day g gc gR g9 hv tv N M R Q ⟨21, xa, xb, xc, xn, xs, xt⟩) (J : Nat → Value) : Goes Tryz.prog (bodyPost Tryz.prog Tryz.f21 Q) (McI w0.heap.size g day w hv tv hv1 tv1 s1.holds s1.out) ⟨erS, fr 228 (eS9 g gc gR g9 r) J, [(g, dmO day (.slice fa fN fc) hv1 tv1 (s1.steps + 1) false), (gc, cdO rg (.slice aW nW cW) (.slice aI nI cI)), (gR, rgO r.regs), (g9, .cells (iC ⟨21, xa, xb, xc, xn, xs, xt⟩).toArray 72 (0, 0))]⟩ := by
  obtain ⟨h0, hg0, hBw, hl, ht, hge, hgc, hgR, hg9, hnd, hX, hs, hFit, hFit1, hov, hH1, hLeft, hMost, hon⟩ := id H
  have H30 : (⟨21, xa, xb, xc, xn, xs, xt⟩ : Ik).op ≠ 30 := by show ((21 : Int)) ≠ 30; decide
  refine Goes.run [3, 0, 0, 0, 0, 0, 0, 1] [(true, true), (false, false), (false, false), (false, false), (false, false), (false, false), (false, false)] ⟨rfl, rfl, rfl, rfl, rfl, rfl, rfl, trivial⟩ ?_
  refine Goes.open [0, 3] ?_
  refine Goes.run [0, 1, 2, 3, 0, 4, 5, 1, 6, 7] [] trivial ?_
  refine Goes.run [] [] trivial ?_
  exact Goes.at (K := erT) (n := 228) (S := eST g gc gR g9 (r) (decide (day > xn))) (m := [(g, dmO day (.slice fa fN fc) hv1 tv1 (s1.steps + 1) false), (gc, cdO rg (.slice aW nW cW) (.slice aI nI cI)), (gR, rgO (r).regs), (g9, .cells (iC ⟨21, xa, xb, xc, xn, xs, xt⟩).toArray 72 (0, 0))]) (fun J => tl (r) (decide (day > xn)) (s1.one) false hv1 tv1 (H.okQ H30 hRun (r) (decide (day > xn)) rfl) J) (by kernel_chk) (by kernel_chk) (by kernel_chk)
set_option maxHeartbeats 4000000 in
set_option maxRecDepth 100000 in
seal rn rnN rnS Goes ans atEnd put0 put putM opened openedY putA0 putA oneSt st0 keep mkSt newSt rgO erH erS erT in
theorem ed_22 {xa xb xc xn xt : Int} {xs : List UInt8} (H : CaseE w0 w k fs fa aW aI fN fc nW cW nI cI rg day g gc gR g9 hv tv sh so N M i s1 r ⟨22, xa, xb, xc, xn, xs, xt⟩) (hRun : runD k fs day M (doQ fs day ⟨22, xa, xb, xc, xn, xs, xt⟩ r) s1.one = R) (tl : TailE w0 w k fs fa aW aI fN fc nW cW nI cI rg day g gc gR g9 hv tv N M R Q ⟨22, xa, xb, xc, xn, xs, xt⟩) (J : Nat → Value) : Goes Tryz.prog (bodyPost Tryz.prog Tryz.f21 Q) (McI w0.heap.size g day w hv tv hv1 tv1 s1.holds s1.out) ⟨erS, fr 228 (eS9 g gc gR g9 r) J, [(g, dmO day (.slice fa fN fc) hv1 tv1 (s1.steps + 1) false), (gc, cdO rg (.slice aW nW cW) (.slice aI nI cI)), (gR, rgO r.regs), (g9, .cells (iC ⟨22, xa, xb, xc, xn, xs, xt⟩).toArray 72 (0, 0))]⟩ := by
  obtain ⟨h0, hg0, hBw, hl, ht, hge, hgc, hgR, hg9, hnd, hX, hs, hFit, hFit1, hov, hH1, hLeft, hMost, hon⟩ := id H
  have H30 : (⟨22, xa, xb, xc, xn, xs, xt⟩ : Ik).op ≠ 30 := by show ((22 : Int)) ≠ 30; decide
  refine Goes.run [3, 0, 0, 0, 0, 0, 0, 0, 1] [(true, true), (false, false), (false, false), (false, false), (false, false), (false, false), (false, false), (false, false)] ⟨rfl, rfl, rfl, rfl, rfl, rfl, rfl, rfl, trivial⟩ ?_
  refine Goes.open [0, 3] ?_
  refine Goes.run [0, 1, 2, 3, 0, 4, 5, 1, 6, 7] [] trivial ?_
  refine Goes.run [] [] trivial ?_
  exact Goes.at (K := erT) (n := 228) (S := eST g gc gR g9 (r) (decide (day < xn))) (m := [(g, dmO day (.slice fa fN fc) hv1 tv1 (s1.steps + 1) false), (gc, cdO rg (.slice aW nW cW) (.slice aI nI cI)), (gR, rgO (r).regs), (g9, .cells (iC ⟨22, xa, xb, xc, xn, xs, xt⟩).toArray 72 (0, 0))]) (fun J => tl (r) (decide (day < xn)) (s1.one) false hv1 tv1 (H.okQ H30 hRun (r) (decide (day < xn)) rfl) J) (by kernel_chk) (by kernel_chk) (by kernel_chk)
set_option maxHeartbeats 4000000 in
set_option maxRecDepth 100000 in
seal rn rnN rnS Goes ans atEnd put0 put putM opened openedY putA0 putA oneSt st0 keep mkSt newSt rgO erH erS erT in
theorem ed_3 {xa xb xc xn xt : Int} {xs : List UInt8} (H : CaseE w0 w k fs fa aW aI fN fc nW cW nI cI rg day g gc gR g9 hv tv sh so N M i s1 r ⟨3, xa, xb, xc, xn, xs, xt⟩) (hRun : runD k fs day M (doQ fs day ⟨3, xa, xb, xc, xn, xs, xt⟩ r) s1.one = R) (tl : TailE w0 w k fs fa aW aI fN fc nW cW nI cI rg day g gc gR g9 hv tv N M R Q ⟨3, xa, xb, xc, xn, xs, xt⟩) (J : Nat → Value) : Goes Tryz.prog (bodyPost Tryz.prog Tryz.f21 Q) (McI w0.heap.size g day w hv tv hv1 tv1 s1.holds s1.out) ⟨erS, fr 228 (eS9 g gc gR g9 r) J, [(g, dmO day (.slice fa fN fc) hv1 tv1 (s1.steps + 1) false), (gc, cdO rg (.slice aW nW cW) (.slice aI nI cI)), (gR, rgO r.regs), (g9, .cells (iC ⟨3, xa, xb, xc, xn, xs, xt⟩).toArray 72 (0, 0))]⟩ := by
  obtain ⟨h0, hg0, hBw, hl, ht, hge, hgc, hgR, hg9, hnd, hX, hs, hFit, hFit1, hov, hH1, hLeft, hMost, hon⟩ := id H
  have H30 : (⟨3, xa, xb, xc, xn, xs, xt⟩ : Ik).op ≠ 30 := by show ((3 : Int)) ≠ 30; decide
  refine Goes.run [3, 0, 0, 1] [(true, true), (false, false), (false, false)] ⟨rfl, rfl, rfl, trivial⟩ ?_
  refine Goes.open [0, 3] ?_
  refine Goes.run [0, 1, 2, 1, 3, 4, 5, 6, 0, 7, 8, 1, 9] [] trivial ?_
  refine Goes.slot 81 (.int .i64 (day - xn)) (u := .int .i64 (IntKind.i64.wrap (day - xn))) (congrArg _ (IntWalk.i64_in _ ⟨by have := hX.n (.inr rfl); have := h0.day; simp only at *; omega, by have := hX.n (.inr rfl); have := h0.day; simp only at *; omega⟩)) ?_
  refine Goes.callA0 10 47 #[.int .i64 (day - xn)] (.int .i64 ((clampD (day - xn) : Nat) : Int)) (fun w' _ _ => (rclamp_day (day - xn) w').mono fun _ _ h => ⟨h.1, by rw [h.2]; exact Below.refl _ _⟩) ?_
  refine Goes.valA 11 (Instr.indexAt 101 (slG gR) (.int .i64 xa)) (.pointer (some ⟨gR, xa.toNat, none⟩)) (fun w' _ => idxG gR hX.a w') ?_
  refine Goes.lone1 12 (TookS.stoK 12 2 gR (Instr.storeAt 2 (.pointer (some ⟨gR, xa.toNat, none⟩)) (.int .i64 (((clampD (day - xn) : Nat) : Int)))) (rgO (r.put xa (((clampD (day - xn) : Nat) : Int))).regs) (fun w' hm => rg_st (hm.get 2) hX.a _) [(g, dmO day (.slice fa fN fc) hv1 tv1 (s1.steps + 1) false), (g9, .cells (iC ⟨3, xa, xb, xc, xn, xs, xt⟩).toArray 72 (0, 0))] (fun q hq => by simp at hq hnd; rcases hq with rfl | rfl <;> simp only <;> omega) ?_)
  refine Goes.run [] [] trivial ?_
  exact Goes.at (K := erT) (n := 228) (S := eST g gc gR g9 (r.put xa ((clampD (day - xn) : Nat) : Int)) (false)) (m := [(g, dmO day (.slice fa fN fc) hv1 tv1 (s1.steps + 1) false), (gc, cdO rg (.slice aW nW cW) (.slice aI nI cI)), (gR, rgO (r.put xa ((clampD (day - xn) : Nat) : Int)).regs), (g9, .cells (iC ⟨3, xa, xb, xc, xn, xs, xt⟩).toArray 72 (0, 0))]) (fun J => tl (r.put xa ((clampD (day - xn) : Nat) : Int)) (false) (s1.one) false hv1 tv1 (H.okQ H30 hRun (r.put xa ((clampD (day - xn) : Nat) : Int)) (false) rfl) J) (by kernel_chk) (by kernel_chk) (by kernel_chk)
set_option maxHeartbeats 4000000 in
set_option maxRecDepth 100000 in
seal rn rnN rnS Goes ans atEnd put0 put putM opened openedY putA0 putA oneSt st0 keep mkSt newSt rgO erH erS erT in
theorem ed_23 {xa xb xc xn xt : Int} {xs : List UInt8} (H : CaseE w0 w k fs fa aW aI fN fc nW cW nI cI rg day g gc gR g9 hv tv sh so N M i s1 r ⟨23, xa, xb, xc, xn, xs, xt⟩) (hRun : runD k fs day M (doQ fs day ⟨23, xa, xb, xc, xn, xs, xt⟩ r) s1.one = R) (tl : TailE w0 w k fs fa aW aI fN fc nW cW nI cI rg day g gc gR g9 hv tv N M R Q ⟨23, xa, xb, xc, xn, xs, xt⟩) (J : Nat → Value) : Goes Tryz.prog (bodyPost Tryz.prog Tryz.f21 Q) (McI w0.heap.size g day w hv tv hv1 tv1 s1.holds s1.out) ⟨erS, fr 228 (eS9 g gc gR g9 r) J, [(g, dmO day (.slice fa fN fc) hv1 tv1 (s1.steps + 1) false), (gc, cdO rg (.slice aW nW cW) (.slice aI nI cI)), (gR, rgO r.regs), (g9, .cells (iC ⟨23, xa, xb, xc, xn, xs, xt⟩).toArray 72 (0, 0))]⟩ := by
  obtain ⟨h0, hg0, hBw, hl, ht, hge, hgc, hgR, hg9, hnd, hX, hs, hFit, hFit1, hov, hH1, hLeft, hMost, hon⟩ := id H
  have H30 : (⟨23, xa, xb, xc, xn, xs, xt⟩ : Ik).op ≠ 30 := by show ((23 : Int)) ≠ 30; decide
  refine Goes.run [3, 0, 0, 0, 0, 0, 0, 0, 0, 1, 3] [(true, true), (false, false), (false, false), (false, false), (false, false), (false, false), (false, false), (false, false), (false, false)] ⟨rfl, rfl, rfl, rfl, rfl, rfl, rfl, rfl, rfl, trivial⟩ ?_
  refine Goes.val (Instr.indexAt 101 (slG gR) (.int .i64 xb)) (.pointer (some ⟨gR, xb.toNat, none⟩)) (fun w' _ _ => idxG gR hX.b w') ?_
  refine Goes.val (Instr.loadAt 2 (.pointer (some ⟨gR, xb.toNat, none⟩))) (.int .i64 (r.get xb)) (fun w' hm _ => rg_ld (hm.get 2) hX.b) ?_
  refine Goes.call0 49 #[.int .i64 r.f, .int .i64 (r.get xb)] (.int .i64 (mulI r.f (r.get xb))) (fun w' _ _ => (rmul_any r.f (r.get xb) w').mono fun _ _ h => ⟨h.1, by rw [h.2]; exact Below.refl _ _⟩) ?_
  refine Goes.run [] [] trivial ?_
  exact Goes.at (K := erT) (n := 228) (S := eST g gc gR g9 (r.fac (mulI r.f (r.get xb))) (false)) (m := [(g, dmO day (.slice fa fN fc) hv1 tv1 (s1.steps + 1) false), (gc, cdO rg (.slice aW nW cW) (.slice aI nI cI)), (gR, rgO (r.fac (mulI r.f (r.get xb))).regs), (g9, .cells (iC ⟨23, xa, xb, xc, xn, xs, xt⟩).toArray 72 (0, 0))]) (fun J => tl (r.fac (mulI r.f (r.get xb))) (false) (s1.one) false hv1 tv1 (H.okQ H30 hRun (r.fac (mulI r.f (r.get xb))) (false) rfl) J) (by kernel_chk) (by kernel_chk) (by kernel_chk)
set_option maxHeartbeats 4000000 in
set_option maxRecDepth 100000 in
seal rn rnN rnS Goes ans atEnd put0 put putM opened openedY putA0 putA oneSt st0 keep mkSt newSt rgO erH erS erT in
theorem ed_24 {xa xb xc xn xt : Int} {xs : List UInt8} (H : CaseE w0 w k fs fa aW aI fN fc nW cW nI cI rg day g gc gR g9 hv tv sh so N M i s1 r ⟨24, xa, xb, xc, xn, xs, xt⟩) (hRun : runD k fs day M (doQ fs day ⟨24, xa, xb, xc, xn, xs, xt⟩ r) s1.one = R) (tl : TailE w0 w k fs fa aW aI fN fc nW cW nI cI rg day g gc gR g9 hv tv N M R Q ⟨24, xa, xb, xc, xn, xs, xt⟩) (J : Nat → Value) : Goes Tryz.prog (bodyPost Tryz.prog Tryz.f21 Q) (McI w0.heap.size g day w hv tv hv1 tv1 s1.holds s1.out) ⟨erS, fr 228 (eS9 g gc gR g9 r) J, [(g, dmO day (.slice fa fN fc) hv1 tv1 (s1.steps + 1) false), (gc, cdO rg (.slice aW nW cW) (.slice aI nI cI)), (gR, rgO r.regs), (g9, .cells (iC ⟨24, xa, xb, xc, xn, xs, xt⟩).toArray 72 (0, 0))]⟩ := by
  obtain ⟨h0, hg0, hBw, hl, ht, hge, hgc, hgR, hg9, hnd, hX, hs, hFit, hFit1, hov, hH1, hLeft, hMost, hon⟩ := id H
  have H30 : (⟨24, xa, xb, xc, xn, xs, xt⟩ : Ik).op ≠ 30 := by show ((24 : Int)) ≠ 30; decide
  refine Goes.run [3, 0, 0, 0, 0, 0, 0, 0, 0, 0, 1] [(true, true), (false, false), (false, false), (false, false), (false, false), (false, false), (false, false), (false, false), (false, false), (false, false)] ⟨rfl, rfl, rfl, rfl, rfl, rfl, rfl, rfl, rfl, rfl, trivial⟩ ?_
  refine Goes.call0 50 #[.int .i64 r.f] (.int .i64 (- clampI r.f)) (fun w' _ _ => (rneg_any r.f w').mono fun _ _ h => ⟨h.1, by rw [h.2]; exact Below.refl _ _⟩) ?_
  refine Goes.run [] [] trivial ?_
  exact Goes.at (K := erT) (n := 228) (S := eST g gc gR g9 (r.fac (- clampI r.f)) (false)) (m := [(g, dmO day (.slice fa fN fc) hv1 tv1 (s1.steps + 1) false), (gc, cdO rg (.slice aW nW cW) (.slice aI nI cI)), (gR, rgO (r.fac (- clampI r.f)).regs), (g9, .cells (iC ⟨24, xa, xb, xc, xn, xs, xt⟩).toArray 72 (0, 0))]) (fun J => tl (r.fac (- clampI r.f)) (false) (s1.one) false hv1 tv1 (H.okQ H30 hRun (r.fac (- clampI r.f)) (false) rfl) J) (by kernel_chk) (by kernel_chk) (by kernel_chk)
set_option maxHeartbeats 4000000 in
set_option maxRecDepth 100000 in
seal rn rnN rnS Goes ans atEnd put0 put putM opened openedY putA0 putA oneSt st0 keep mkSt newSt rgO erH erS erT in
theorem ed_25 {xa xb xc xn xt : Int} {xs : List UInt8} (H : CaseE w0 w k fs fa aW aI fN fc nW cW nI cI rg day g gc gR g9 hv tv sh so N M i s1 r ⟨25, xa, xb, xc, xn, xs, xt⟩) (hRun : runD k fs day M (doQ fs day ⟨25, xa, xb, xc, xn, xs, xt⟩ r) s1.one = R) (tl : TailE w0 w k fs fa aW aI fN fc nW cW nI cI rg day g gc gR g9 hv tv N M R Q ⟨25, xa, xb, xc, xn, xs, xt⟩) (J : Nat → Value) : Goes Tryz.prog (bodyPost Tryz.prog Tryz.f21 Q) (McI w0.heap.size g day w hv tv hv1 tv1 s1.holds s1.out) ⟨erS, fr 228 (eS9 g gc gR g9 r) J, [(g, dmO day (.slice fa fN fc) hv1 tv1 (s1.steps + 1) false), (gc, cdO rg (.slice aW nW cW) (.slice aI nI cI)), (gR, rgO r.regs), (g9, .cells (iC ⟨25, xa, xb, xc, xn, xs, xt⟩).toArray 72 (0, 0))]⟩ := by
  obtain ⟨h0, hg0, hBw, hl, ht, hge, hgc, hgR, hg9, hnd, hX, hs, hFit, hFit1, hov, hH1, hLeft, hMost, hon⟩ := id H
  have H30 : (⟨25, xa, xb, xc, xn, xs, xt⟩ : Ik).op ≠ 30 := by show ((25 : Int)) ≠ 30; decide
  refine Goes.run [3, 0, 0, 0, 0, 0, 0, 0, 0, 0, 0, 1, 3] [(true, true), (false, false), (false, false), (false, false), (false, false), (false, false), (false, false), (false, false), (false, false), (false, false), (false, false)] ⟨rfl, rfl, rfl, rfl, rfl, rfl, rfl, rfl, rfl, rfl, rfl, trivial⟩ ?_
  refine Goes.val (Instr.indexAt 101 (slG gR) (.int .i64 xa)) (.pointer (some ⟨gR, xa.toNat, none⟩)) (fun w' _ _ => idxG gR hX.a w') ?_
  refine Goes.stoK 2 gR (Instr.storeAt 2 (.pointer (some ⟨gR, xa.toNat, none⟩)) (.int .i64 (r.f))) (rgO (r.put xa (r.f)).regs) (fun w' hm => rg_st (hm.get 2) hX.a _) ?_
  refine Goes.run [] [] trivial ?_
  exact Goes.at (K := erT) (n := 228) (S := eST g gc gR g9 (r.put xa r.f) (false)) (m := [(g, dmO day (.slice fa fN fc) hv1 tv1 (s1.steps + 1) false), (gc, cdO rg (.slice aW nW cW) (.slice aI nI cI)), (gR, rgO (r.put xa r.f).regs), (g9, .cells (iC ⟨25, xa, xb, xc, xn, xs, xt⟩).toArray 72 (0, 0))]) (fun J => tl (r.put xa r.f) (false) (s1.one) false hv1 tv1 (H.okQ H30 hRun (r.put xa r.f) (false) rfl) J) (by kernel_chk) (by kernel_chk) (by kernel_chk)
set_option maxHeartbeats 4000000 in
set_option maxRecDepth 100000 in
seal rn rnN rnS Goes ans atEnd put0 put putM opened openedY putA0 putA oneSt st0 keep mkSt newSt rgO erH erS erT in
theorem ed_26 {xa xb xc xn xt : Int} {xs : List UInt8} (H : CaseE w0 w k fs fa aW aI fN fc nW cW nI cI rg day g gc gR g9 hv tv sh so N M i s1 r ⟨26, xa, xb, xc, xn, xs, xt⟩) (hRun : runD k fs day M (doQ fs day ⟨26, xa, xb, xc, xn, xs, xt⟩ r) s1.one = R) (tl : TailE w0 w k fs fa aW aI fN fc nW cW nI cI rg day g gc gR g9 hv tv N M R Q ⟨26, xa, xb, xc, xn, xs, xt⟩) (J : Nat → Value) : Goes Tryz.prog (bodyPost Tryz.prog Tryz.f21 Q) (McI w0.heap.size g day w hv tv hv1 tv1 s1.holds s1.out) ⟨erS, fr 228 (eS9 g gc gR g9 r) J, [(g, dmO day (.slice fa fN fc) hv1 tv1 (s1.steps + 1) false), (gc, cdO rg (.slice aW nW cW) (.slice aI nI cI)), (gR, rgO r.regs), (g9, .cells (iC ⟨26, xa, xb, xc, xn, xs, xt⟩).toArray 72 (0, 0))]⟩ := by
  obtain ⟨h0, hg0, hBw, hl, ht, hge, hgc, hgR, hg9, hnd, hX, hs, hFit, hFit1, hov, hH1, hLeft, hMost, hon⟩ := id H
  have H30 : (⟨26, xa, xb, xc, xn, xs, xt⟩ : Ik).op ≠ 30 := by show ((26 : Int)) ≠ 30; decide
  refine Goes.run [3, 0, 0, 0, 0, 0, 0, 0, 0, 0, 0, 0, 1, 3] [(true, true), (false, false), (false, false), (false, false), (false, false), (false, false), (false, false), (false, false), (false, false), (false, false), (false, false), (false, false)] ⟨rfl, rfl, rfl, rfl, rfl, rfl, rfl, rfl, rfl, rfl, rfl, rfl, trivial⟩ ?_
  refine Goes.val (Instr.indexAt 101 (slG gR) (.int .i64 xb)) (.pointer (some ⟨gR, xb.toNat, none⟩)) (fun w' _ _ => idxG gR hX.b w') ?_
  refine Goes.val (Instr.loadAt 2 (.pointer (some ⟨gR, xb.toNat, none⟩))) (.int .i64 (r.get xb)) (fun w' hm _ => rg_ld (hm.get 2) hX.b) ?_
  refine Goes.call0 51 #[.int .i64 (r.get xb)] (.int .i64 (clampI (r.get xb))) (fun w' _ _ => (rclamp_any (r.get xb) w').mono fun _ _ h => ⟨h.1, by rw [h.2]; exact Below.refl _ _⟩) ?_
  refine Goes.run [] [] trivial ?_
  exact Goes.at (K := erT) (n := 228) (S := eST g gc gR g9 (r.fac (clampI (r.get xb))) (false)) (m := [(g, dmO day (.slice fa fN fc) hv1 tv1 (s1.steps + 1) false), (gc, cdO rg (.slice aW nW cW) (.slice aI nI cI)), (gR, rgO (r.fac (clampI (r.get xb))).regs), (g9, .cells (iC ⟨26, xa, xb, xc, xn, xs, xt⟩).toArray 72 (0, 0))]) (fun J => tl (r.fac (clampI (r.get xb))) (false) (s1.one) false hv1 tv1 (H.okQ H30 hRun (r.fac (clampI (r.get xb))) (false) rfl) J) (by kernel_chk) (by kernel_chk) (by kernel_chk)
set_option maxHeartbeats 4000000 in
set_option maxRecDepth 100000 in
seal rn rnN rnS Goes ans atEnd put0 put putM opened openedY putA0 putA oneSt st0 keep mkSt newSt rgO erH erS erT in
theorem ed_2 {xa xb xc xn xt : Int} {xs : List UInt8} (H : CaseE w0 w k fs fa aW aI fN fc nW cW nI cI rg day g gc gR g9 hv tv sh so N M i s1 r ⟨2, xa, xb, xc, xn, xs, xt⟩) (hRun : runD k fs day M (doQ fs day ⟨2, xa, xb, xc, xn, xs, xt⟩ r) s1.one = R) (tl : TailE w0 w k fs fa aW aI fN fc nW cW nI cI rg day g gc gR g9 hv tv N M R Q ⟨2, xa, xb, xc, xn, xs, xt⟩) (J : Nat → Value) : Goes Tryz.prog (bodyPost Tryz.prog Tryz.f21 Q) (McI w0.heap.size g day w hv tv hv1 tv1 s1.holds s1.out) ⟨erS, fr 228 (eS9 g gc gR g9 r) J, [(g, dmO day (.slice fa fN fc) hv1 tv1 (s1.steps + 1) false), (gc, cdO rg (.slice aW nW cW) (.slice aI nI cI)), (gR, rgO r.regs), (g9, .cells (iC ⟨2, xa, xb, xc, xn, xs, xt⟩).toArray 72 (0, 0))]⟩ := by
  obtain ⟨h0, hg0, hBw, hl, ht, hge, hgc, hgR, hg9, hnd, hX, hs, hFit, hFit1, hov, hH1, hLeft, hMost, hon⟩ := id H
  have H30 : (⟨2, xa, xb, xc, xn, xs, xt⟩ : Ik).op ≠ 30 := by show ((2 : Int)) ≠ 30; decide
  have hfit : Fits 4 xn xs := ⟨by omega, by have := hX.n (.inl rfl); simp only at this; omega, hs⟩
  have hval : valP fs day (.mk 4 xn xs []) = fedP xs (day - xn) fs := by
    have e : IntKind.i64.wrap (day - xn) = day - xn := IntWalk.i64_in _ ⟨by have := hX.n (.inl rfl); have := h0.day; simp only at *; omega, by have := hX.n (.inl rfl); have := h0.day; simp only at *; omega⟩
    show fedP xs (IntKind.i64.wrap (day - xn)) fs = _
    rw [e]
  cases hq : fedP xs (day - xn) fs with
  | none =>
    refine Goes.run [3, 0, 0, 0, 1] [(true, true), (false, false), (false, false), (false, false)] ⟨rfl, rfl, rfl, rfl, trivial⟩ ?_
    refine Goes.open [0, 3] ?_
    refine Goes.run [0, 1, 1, 2, 3, 1, 4, 5, 6, 7, 8, 0, 9, 10, 11, 12, 0] [] trivial ?_
    refine Goes.callA0 13 48 #[cv 4 xn xs (.slice none 0 0), .int .i64 day, (.slice fa fN fc)] (oV (none)) (fun w' _ hI => by have h2 := val_any (fs := fs) (fv := (.slice fa fN fc)) day (.mk 4 xn xs []) _ w' rfl (leafC hfit) (h0.en (hBv hg0 hBw hl ht hI.now)).fd; rw [hval, hq] at h2; exact h2) ?_
    refine Goes.run [14, 15, 16, 17, 18] [] trivial ?_
    refine Goes.run [0] [(false, false)] ⟨rfl, trivial⟩ ?_
    refine Goes.run [] [] trivial ?_
    exact Goes.at (K := erT) (n := 228) (S := eST g gc gR g9 (r) (true)) (m := [(g, dmO day (.slice fa fN fc) hv1 tv1 (s1.steps + 1) false), (gc, cdO rg (.slice aW nW cW) (.slice aI nI cI)), (gR, rgO (r).regs), (g9, .cells (iC ⟨2, xa, xb, xc, xn, xs, xt⟩).toArray 72 (0, 0))]) (fun J => tl (r) (true) (s1.one) false hv1 tv1 (H.okQ H30 hRun (r) (true) (by show _ = _; unfold doQ; simp only [hq]; rfl)) J) (by kernel_chk) (by kernel_chk) (by kernel_chk)
  | some v =>
    refine Goes.run [3, 0, 0, 0, 1] [(true, true), (false, false), (false, false), (false, false)] ⟨rfl, rfl, rfl, rfl, trivial⟩ ?_
    refine Goes.open [0, 3] ?_
    refine Goes.run [0, 1, 1, 2, 3, 1, 4, 5, 6, 7, 8, 0, 9, 10, 11, 12, 0] [] trivial ?_
    refine Goes.callA0 13 48 #[cv 4 xn xs (.slice none 0 0), .int .i64 day, (.slice fa fN fc)] (oV (some v)) (fun w' _ hI => by have h2 := val_any (fs := fs) (fv := (.slice fa fN fc)) day (.mk 4 xn xs []) _ w' rfl (leafC hfit) (h0.en (hBv hg0 hBw hl ht hI.now)).fd; rw [hval, hq] at h2; exact h2) ?_
    refine Goes.run [14, 15, 16, 17, 18] [] trivial ?_
    refine Goes.run [1, 3] [(true, true)] ⟨rfl, trivial⟩ ?_
    refine Goes.val (Instr.indexAt 101 (slG gR) (.int .i64 xa)) (.pointer (some ⟨gR, xa.toNat, none⟩)) (fun w' _ _ => idxG gR hX.a w') ?_
    refine Goes.stoK 2 gR (Instr.storeAt 2 (.pointer (some ⟨gR, xa.toNat, none⟩)) (.int .i64 (v))) (rgO (r.put xa (v)).regs) (fun w' hm => rg_st (hm.get 2) hX.a _) ?_
    refine Goes.run [] [] trivial ?_
    exact Goes.at (K := erT) (n := 228) (S := eST g gc gR g9 (r.put xa v) (false)) (m := [(g, dmO day (.slice fa fN fc) hv1 tv1 (s1.steps + 1) false), (gc, cdO rg (.slice aW nW cW) (.slice aI nI cI)), (gR, rgO (r.put xa v).regs), (g9, .cells (iC ⟨2, xa, xb, xc, xn, xs, xt⟩).toArray 72 (0, 0))]) (fun J => tl (r.put xa v) (false) (s1.one) false hv1 tv1 (H.okQ H30 hRun (r.put xa v) (false) (by show _ = _; unfold doQ; simp only [hq]; rfl)) J) (by kernel_chk) (by kernel_chk) (by kernel_chk)
set_option maxHeartbeats 4000000 in
set_option maxRecDepth 100000 in
seal rn rnN rnS Goes ans atEnd put0 put putM opened openedY putA0 putA oneSt st0 keep mkSt newSt rgO erH erS erT in
theorem ed_rest {op xa xb xc xn xt : Int} {xs : List UInt8} (H : CaseE w0 w k fs fa aW aI fN fc nW cW nI cI rg day g gc gR g9 hv tv sh so N M i s1 r ⟨op, xa, xb, xc, xn, xs, xt⟩) (h30 : (op == 30) = false) (h1 : (op == 1) = false) (h3 : (op == 3) = false) (h2 : (op == 2) = false) (h19 : (op == 19) = false) (h20 : (op == 20) = false) (h21 : (op == 21) = false) (h22 : (op == 22) = false) (h23 : (op == 23) = false) (h24 : (op == 24) = false) (h25 : (op == 25) = false) (h26 : (op == 26) = false) (h27 : (op == 27) = false) (h28 : (op == 28) = false) (h29 : (op == 29) = false) (hRun : runD k fs day M (doQ fs day ⟨op, xa, xb, xc, xn, xs, xt⟩ r) s1.one = R) (tl : TailE w0 w k fs fa aW aI fN fc nW cW nI cI rg day g gc gR g9 hv tv N M R Q ⟨op, xa, xb, xc, xn, xs, xt⟩) (J : Nat → Value) : Goes Tryz.prog (bodyPost Tryz.prog Tryz.f21 Q) (McI w0.heap.size g day w hv tv hv1 tv1 s1.holds s1.out) ⟨erS, fr 228 (eS9 g gc gR g9 r) J, [(g, dmO day (.slice fa fN fc) hv1 tv1 (s1.steps + 1) false), (gc, cdO rg (.slice aW nW cW) (.slice aI nI cI)), (gR, rgO r.regs), (g9, .cells (iC ⟨op, xa, xb, xc, xn, xs, xt⟩).toArray 72 (0, 0))]⟩ := by
  obtain ⟨h0, hg0, hBw, hl, ht, hge, hgc, hgR, hg9, hnd, hX, hs, hFit, hFit1, hov, hH1, hLeft, hMost, hon⟩ := id H
  have H30 : (⟨op, xa, xb, xc, xn, xs, xt⟩ : Ik).op ≠ 30 := fun e => by replace e : op = 30 := e; rw [e] at h30; cases h30
  have hdo : doQ fs day ⟨op, xa, xb, xc, xn, xs, xt⟩ r = r.put xa (vkP op (r.get xb) (r.get xc)) := by unfold doQ; simp only [h1, h3, h2, h19, h20, h21, h22, h23, h24, h25, h26, cond_false]
  refine Goes.run [3, 0, 0, 0, 0, 0, 0, 0, 0, 0, 0, 0, 0, 0, 0, 0] [(op == 29, false), (op == 28, false), (op == 27, false), (op == 26, false), (op == 25, false), (op == 24, false), (op == 23, false), (op == 22, false), (op == 21, false), (op == 20, false), (op == 19, false), (op == 2, false), (op == 3, false), (op == 1, false), (op == 30, false)] ⟨h29, h28, h27, h26, h25, h24, h23, h22, h21, h20, h19, h2, h3, h1, h30, trivial⟩ ?_
  refine Goes.open [0, 3] ?_
  refine Goes.run [0, 1, 2, 1, 3, 4, 1, 5, 6, 7, 1, 10, 11, 12, 1] [] trivial ?_
  refine Goes.valA 8 (Instr.indexAt 101 (slG gR) (.int .i64 xb)) (.pointer (some ⟨gR, xb.toNat, none⟩)) (fun w' _ => idxG gR hX.b w') ?_
  refine Goes.valA 13 (Instr.indexAt 101 (slG gR) (.int .i64 xc)) (.pointer (some ⟨gR, xc.toNat, none⟩)) (fun w' _ => idxG gR hX.c w') ?_
  refine Goes.two 9 14 (TookS.valV 9 (Instr.loadAt 2 (.pointer (some ⟨gR, xb.toNat, none⟩))) (.int .i64 (r.get xb)) (fun w' hm _ => rg_ld (hm.get 2) hX.b) (Goes.lone1 14 (TookS.valV 14 (Instr.loadAt 2 (.pointer (some ⟨gR, xc.toNat, none⟩))) (.int .i64 (r.get xc)) (fun w' hm _ => rg_ld (hm.get 2) hX.c) ?_))) (TookS.valV 14 (Instr.loadAt 2 (.pointer (some ⟨gR, xc.toNat, none⟩))) (.int .i64 (r.get xc)) (fun w' hm _ => rg_ld (hm.get 2) hX.c) (Goes.lone1 9 (TookS.valV 9 (Instr.loadAt 2 (.pointer (some ⟨gR, xb.toNat, none⟩))) (.int .i64 (r.get xb)) (fun w' hm _ => rg_ld (hm.get 2) hX.b) ?_)))
  · skip
    refine Goes.callA0 15 52 #[.int .i64 op, .int .i64 (r.get xb), .int .i64 (r.get xc)] (.int .i64 (vkP op (r.get xb) (r.get xc))) (fun w' _ _ => dreck_any op _ _ w') ?_
    refine Goes.valA 16 (Instr.indexAt 101 (slG gR) (.int .i64 xa)) (.pointer (some ⟨gR, xa.toNat, none⟩)) (fun w' _ => idxG gR hX.a w') ?_
    refine Goes.lone1 17 (TookS.stoK 17 2 gR (Instr.storeAt 2 (.pointer (some ⟨gR, xa.toNat, none⟩)) (.int .i64 (vkP op (r.get xb) (r.get xc)))) (rgO (r.put xa (vkP op (r.get xb) (r.get xc))).regs) (fun w' hm => rg_st (hm.get 2) hX.a _) [(g, dmO day (.slice fa fN fc) hv1 tv1 (s1.steps + 1) false), (g9, .cells (iC ⟨op, xa, xb, xc, xn, xs, xt⟩).toArray 72 (0, 0))] (fun q hq => by simp at hq hnd; rcases hq with rfl | rfl <;> simp only <;> omega) ?_)
    refine Goes.run [] [] trivial ?_
    exact Goes.at (K := erT) (n := 228) (S := eST g gc gR g9 (r.put xa (vkP op (r.get xb) (r.get xc))) (false)) (m := [(g, dmO day (.slice fa fN fc) hv1 tv1 (s1.steps + 1) false), (gc, cdO rg (.slice aW nW cW) (.slice aI nI cI)), (gR, rgO (r.put xa (vkP op (r.get xb) (r.get xc))).regs), (g9, .cells (iC ⟨op, xa, xb, xc, xn, xs, xt⟩).toArray 72 (0, 0))]) (fun J => tl (r.put xa (vkP op (r.get xb) (r.get xc))) (false) (s1.one) false hv1 tv1 (H.okQ H30 hRun (r.put xa (vkP op (r.get xb) (r.get xc))) (false) (hdo.symm)) J) (by kernel_chk) (by kernel_chk) (by kernel_chk)
  · skip
    refine Goes.callA0 15 52 #[.int .i64 op, .int .i64 (r.get xb), .int .i64 (r.get xc)] (.int .i64 (vkP op (r.get xb) (r.get xc))) (fun w' _ _ => dreck_any op _ _ w') ?_
    refine Goes.valA 16 (Instr.indexAt 101 (slG gR) (.int .i64 xa)) (.pointer (some ⟨gR, xa.toNat, none⟩)) (fun w' _ => idxG gR hX.a w') ?_
    refine Goes.lone1 17 (TookS.stoK 17 2 gR (Instr.storeAt 2 (.pointer (some ⟨gR, xa.toNat, none⟩)) (.int .i64 (vkP op (r.get xb) (r.get xc)))) (rgO (r.put xa (vkP op (r.get xb) (r.get xc))).regs) (fun w' hm => rg_st (hm.get 2) hX.a _) [(g, dmO day (.slice fa fN fc) hv1 tv1 (s1.steps + 1) false), (g9, .cells (iC ⟨op, xa, xb, xc, xn, xs, xt⟩).toArray 72 (0, 0))] (fun q hq => by simp at hq hnd; rcases hq with rfl | rfl <;> simp only <;> omega) ?_)
    refine Goes.run [] [] trivial ?_
    exact Goes.at (K := erT) (n := 228) (S := eST g gc gR g9 (r.put xa (vkP op (r.get xb) (r.get xc))) (false)) (m := [(g, dmO day (.slice fa fN fc) hv1 tv1 (s1.steps + 1) false), (gc, cdO rg (.slice aW nW cW) (.slice aI nI cI)), (gR, rgO (r.put xa (vkP op (r.get xb) (r.get xc))).regs), (g9, .cells (iC ⟨op, xa, xb, xc, xn, xs, xt⟩).toArray 72 (0, 0))]) (fun J => tl (r.put xa (vkP op (r.get xb) (r.get xc))) (false) (s1.one) false hv1 tv1 (H.okQ H30 hRun (r.put xa (vkP op (r.get xb) (r.get xc))) (false) (hdo.symm)) J) (by kernel_chk) (by kernel_chk) (by kernel_chk)
end
end Go.Proofs.YtddbiiejilcbbaaGreatDoor
namespace Go.Proofs.YtddbiiejilcbbaaGreatDoor
open Go Go.RowKit

section
variable {w0 w : World} {k : Kd} {fs : Fs} {fa aW aI : Option Addr} {fN fc nW cW nI cI : Nat} {rg day : Int} {g gc gR g9 : Nat} {hv tv hv1 tv1 : Value} {sh : List (Int × Int)} {so : List (List UInt8 × Int)} {N M i : Nat} {R : Ms × Bool} {s1 : Ms} {r : Rg} {Q : Ending → World → Prop}

set_option maxHeartbeats 4000000 in
set_option maxRecDepth 100000 in
seal rn rnN rnS Goes ans atEnd put0 put putM opened openedY putA0 putA oneSt st0 keep mkSt newSt rgO erH erS erT in
theorem ed_27 {xa xb xc xn xt : Int} {xs : List UInt8} (H : CaseE w0 w k fs fa aW aI fN fc nW cW nI cI rg day g gc gR g9 hv tv sh so N M i s1 r ⟨27, xa, xb, xc, xn, xs, xt⟩) (hRun : runD k fs day M r (s1.one.pay xs r.f) = R) (tl : TailE w0 w k fs fa aW aI fN fc nW cW nI cI rg day g gc gR g9 hv tv N M R Q ⟨27, xa, xb, xc, xn, xs, xt⟩) (J : Nat → Value) : Goes Tryz.prog (bodyPost Tryz.prog Tryz.f21 Q) (McI w0.heap.size g day w hv tv hv1 tv1 s1.holds s1.out) ⟨erS, fr 228 (eS9 g gc gR g9 r) J, [(g, dmO day (.slice fa fN fc) hv1 tv1 (s1.steps + 1) false), (gc, cdO rg (.slice aW nW cW) (.slice aI nI cI)), (gR, rgO r.regs), (g9, .cells (iC ⟨27, xa, xb, xc, xn, xs, xt⟩).toArray 72 (0, 0))]⟩ := by
  obtain ⟨h0, hg0, hBw, hl, ht, hge, hgc, hgR, hg9, hnd, hX, hs, hFit, hFit1, hov, hH1, hLeft, hMost, hon⟩ := id H
  have hnd' : (Mem.ids [(g, dmO day (.slice fa fN fc) hv1 tv1 (s1.steps + 1) false), (gc, cdO rg (.slice aW nW cW) (.slice aI nI cI)), (gR, rgO r.regs), (g9, .cells (iC ⟨27, xa, xb, xc, xn, xs, xt⟩).toArray 72 (0, 0))]).Nodup := hnd
  have hids : ∀ {w3 : World}, w3.heap[gc]? = some (cdO rg (.slice aW nW cW) (.slice aI nI cI)) → w3.heap[gR]? = some (rgO r.regs) → w3.heap[g9]? = some (.cells (iC ⟨27, xa, xb, xc, xn, xs, xt⟩).toArray 72 (0, 0)) → ∀ y ∈ Mem.ids [(g, dmO day (.slice fa fN fc) hv1 tv1 (s1.steps + 1) false), (gc, cdO rg (.slice aW nW cW) (.slice aI nI cI)), (gR, rgO r.regs), (g9, .cells (iC ⟨27, xa, xb, xc, xn, xs, xt⟩).toArray 72 (0, 0))], y = g ∨ (w.heap.size ≤ y ∧ ∃ c e z, w3.heap[y]? = some (.cells c e z) ∧ ty5 e = false) := fun kc kR k9 y hy => by
    simp only [Mem.ids, List.map_cons, List.map_nil, List.mem_cons, List.not_mem_nil, or_false] at hy
    rcases hy with rfl | rfl | rfl | rfl
    · exact .inl rfl
    · exact .inr ⟨hgc, _, _, _, kc, by decide⟩
    · exact .inr ⟨hgR, rg_blk kR⟩
    · exact .inr ⟨hg9, _, _, _, k9, by decide⟩
  cases hz : (r.f == 0) with
  | true =>
    have hp : s1.one.pay xs r.f = s1.one := by unfold Ms.pay; rw [hz]; simp [Ms.one]
    rw [hp] at hRun
    refine Goes.run [3, 0, 0, 0, 0, 0, 0, 0, 0, 0, 0, 0, 0, 1, 0] [(r.f != 0, false), (true, true), (false, false), (false, false), (false, false), (false, false), (false, false), (false, false), (false, false), (false, false), (false, false), (false, false), (false, false), (false, false)] ⟨(by rw [bne, hz]; rfl), rfl, rfl, rfl, rfl, rfl, rfl, rfl, rfl, rfl, rfl, rfl, rfl, rfl, trivial⟩ ?_
    refine Goes.run [] [] trivial ?_
    exact Goes.at (K := erT) (n := 228) (S := eST g gc gR g9 (r) (false)) (m := [(g, dmO day (.slice fa fN fc) hv1 tv1 (s1.steps + 1) false), (gc, cdO rg (.slice aW nW cW) (.slice aI nI cI)), (gR, rgO (r).regs), (g9, .cells (iC ⟨27, xa, xb, xc, xn, xs, xt⟩).toArray 72 (0, 0))]) (fun J => tl (r) (false) (s1.one) false hv1 tv1 (⟨hRun, by show M ≤ N; omega, fun _ => ⟨hFit1, hov, by show 65538 ≤ s1.steps + 1 + (M : Int); omega, by show 0 ≤ r.next ∧ r.next < _; rw [hon]; have := hX.next (by show ((27 : Int)) ≠ 30; decide); omega⟩⟩) J) (by kernel_chk) (by kernel_chk) (by kernel_chk)
  | false =>
    have hp : s1.one.pay xs r.f = (⟨s1.holds, s1.out ++ [(xs, r.f)], s1.steps + 1⟩ : Ms) := by unfold Ms.pay; rw [hz]; rfl
    rw [hp] at hRun
    refine Goes.run [3, 0, 0, 0, 0, 0, 0, 0, 0, 0, 0, 0, 0, 1, 1] [(r.f != 0, true), (true, true), (false, false), (false, false), (false, false), (false, false), (false, false), (false, false), (false, false), (false, false), (false, false), (false, false), (false, false), (false, false)] ⟨(by rw [bne, hz]; rfl), rfl, rfl, rfl, rfl, rfl, rfl, rfl, rfl, rfl, rfl, rfl, rfl, rfl, trivial⟩ ?_
    refine Goes.open [3] ?_
    refine Goes.run [0, 1, 2, 3, 5, 6, 7, 9, 10, 0, 11] [] trivial ?_
    refine Goes.two 4 8 (TookS.runV 4 0 [3] [] [g, gc, gR, g9] (by simp) ?_) (TookS.runV 8 0 [3] [] [g, gc, gR, g9] (by simp) ?_)
    · refine Goes.lone1 8 (TookS.runV 8 0 [3] [] [g, gc, gR, g9] (by simp) ?_)
      refine Goes.run [12] [] trivial ?_
      refine Goes.lone1 13 (TookS.new1V 13 w.heap.size [3] [] [g, gc, gR, g9] (by simp) (fun w' h => h.1.size) fun gb hgb => ?_)
      refine Goes.lone1 14 (TookS.effM 14 (Builtin.append_ #[38, 38] 38 #[tv1, .slice (some ⟨gb, 0, none⟩) 1 1]) fun w2 hm2 hn2 hI2 hM2 => ?_)
      have z1 : w2.heap[gb]? = some (.cells #[.int .i64 day, strV xs, .int .i64 r.f] 59 (0, 0)) := hm2.get 4
      have y0 : w2.heap[g]? = some (dmO day (.slice fa fN fc) hv1 tv1 (s1.steps + 1) false) := hm2.get 0
      have yc : w2.heap[gc]? = some (cdO rg (.slice aW nW cW) (.slice aI nI cI)) := hm2.get 1
      have yR : w2.heap[gR]? = some (rgO r.regs) := hm2.get 2
      have y9 : w2.heap[g9]? = some (.cells (iC ⟨27, xa, xb, xc, xn, xs, xt⟩).toArray 72 (0, 0)) := hm2.get 3
      obtain ⟨b, c', w3, hr3, hI3, hk3⟩ := hI2.now.pay (Nat.le_trans hBw.size hI2.now.1.size) (xs, r.f) z1 (by have := hFit.out; have := hFit.hi; omega) (ty := 38) (c := 1)
      have k0 : w3.heap[g]? = some (dmO day (.slice fa fN fc) hv1 tv1 (s1.steps + 1) false) := hk3 g _ _ _ y0 (by decide)
      have kc : w3.heap[gc]? = some (cdO rg (.slice aW nW cW) (.slice aI nI cI)) := hk3 gc _ _ _ yc (by decide)
      have kR : w3.heap[gR]? = some (rgO r.regs) := rg_keptT hk3 yR
      have k9 : w3.heap[g9]? = some (.cells (iC ⟨27, xa, xb, xc, xn, xs, xt⟩).toArray 72 (0, 0)) := hk3 g9 _ _ _ y9 (by decide)
      refine ⟨_, w3, _, [(g, dmO day (.slice fa fN fc) hv1 tv1 (s1.steps + 1) false), (gc, cdO rg (.slice aW nW cW) (.slice aI nI cI)), (gR, rgO r.regs), (g9, .cells (iC ⟨27, xa, xb, xc, xn, xs, xt⟩).toArray 72 (0, 0))], hr3, by rw [show anyM _ = [(g9, .cells (iC ⟨27, xa, xb, xc, xn, xs, xt⟩).toArray 72 (0, 0))] from by kernel_chk]; exact hold1v k9, hold_in (by simpa using ⟨k0, kc, kR, k9⟩), hnd', hI3.stay ⟨_, _, _, k0, by decide, by decide⟩ (hids kc kR k9), ?_⟩
      refine Goes.run [15, 16] [] trivial ?_
      refine Goes.lone1 17 (TookS.runV 17 0 [3] [] [g, gc, gR, g9] (by simp) ?_)
      refine Goes.run [] [] trivial ?_
      exact Goes.at (K := erT) (n := 228) (S := eST g gc gR g9 (r) (false)) (m := [(g, dmO day (.slice fa fN fc) hv1 (.slice (some ⟨b, 0, none⟩) (s1.out.length + 1) c') ((⟨s1.holds, s1.out ++ [(xs, r.f)], s1.steps + 1⟩ : Ms)).steps false), (gc, cdO rg (.slice aW nW cW) (.slice aI nI cI)), (gR, rgO (r).regs), (g9, .cells (iC ⟨27, xa, xb, xc, xn, xs, xt⟩).toArray 72 (0, 0))]) (fun J => tl (r) (false) ((⟨s1.holds, s1.out ++ [(xs, r.f)], s1.steps + 1⟩ : Ms)) false hv1 (.slice (some ⟨b, 0, none⟩) (s1.out.length + 1) c') (⟨hRun, by show M ≤ N; omega, fun _ => ⟨hp ▸ hFit.pay xs r.f hFit1, hov, by show 65538 ≤ s1.steps + 1 + (M : Int); omega, by show 0 ≤ r.next ∧ r.next < _; rw [hon]; have := hX.next (by show ((27 : Int)) ≠ 30; decide); omega⟩⟩) J) (by kernel_chk) (by kernel_chk) (by kernel_chk)
    · refine Goes.run [12] [] trivial ?_
      refine Goes.two 4 13 (TookS.runV 4 0 [3] [] [g, gc, gR, g9] (by simp) ?_) (TookS.new1V 13 w.heap.size [3] [] [g, gc, gR, g9] (by simp) (fun w' h => h.1.size) fun gb hgb => ?_)
      · refine Goes.lone1 13 (TookS.new1V 13 w.heap.size [3] [] [g, gc, gR, g9] (by simp) (fun w' h => h.1.size) fun gb hgb => ?_)
        refine Goes.lone1 14 (TookS.effM 14 (Builtin.append_ #[38, 38] 38 #[tv1, .slice (some ⟨gb, 0, none⟩) 1 1]) fun w2 hm2 hn2 hI2 hM2 => ?_)
        have z1 : w2.heap[gb]? = some (.cells #[.int .i64 day, strV xs, .int .i64 r.f] 59 (0, 0)) := hm2.get 4
        have y0 : w2.heap[g]? = some (dmO day (.slice fa fN fc) hv1 tv1 (s1.steps + 1) false) := hm2.get 0
        have yc : w2.heap[gc]? = some (cdO rg (.slice aW nW cW) (.slice aI nI cI)) := hm2.get 1
        have yR : w2.heap[gR]? = some (rgO r.regs) := hm2.get 2
        have y9 : w2.heap[g9]? = some (.cells (iC ⟨27, xa, xb, xc, xn, xs, xt⟩).toArray 72 (0, 0)) := hm2.get 3
        obtain ⟨b, c', w3, hr3, hI3, hk3⟩ := hI2.now.pay (Nat.le_trans hBw.size hI2.now.1.size) (xs, r.f) z1 (by have := hFit.out; have := hFit.hi; omega) (ty := 38) (c := 1)
        have k0 : w3.heap[g]? = some (dmO day (.slice fa fN fc) hv1 tv1 (s1.steps + 1) false) := hk3 g _ _ _ y0 (by decide)
        have kc : w3.heap[gc]? = some (cdO rg (.slice aW nW cW) (.slice aI nI cI)) := hk3 gc _ _ _ yc (by decide)
        have kR : w3.heap[gR]? = some (rgO r.regs) := rg_keptT hk3 yR
        have k9 : w3.heap[g9]? = some (.cells (iC ⟨27, xa, xb, xc, xn, xs, xt⟩).toArray 72 (0, 0)) := hk3 g9 _ _ _ y9 (by decide)
        refine ⟨_, w3, _, [(g, dmO day (.slice fa fN fc) hv1 tv1 (s1.steps + 1) false), (gc, cdO rg (.slice aW nW cW) (.slice aI nI cI)), (gR, rgO r.regs), (g9, .cells (iC ⟨27, xa, xb, xc, xn, xs, xt⟩).toArray 72 (0, 0))], hr3, by rw [show anyM _ = [(g9, .cells (iC ⟨27, xa, xb, xc, xn, xs, xt⟩).toArray 72 (0, 0))] from by kernel_chk]; exact hold1v k9, hold_in (by simpa using ⟨k0, kc, kR, k9⟩), hnd', hI3.stay ⟨_, _, _, k0, by decide, by decide⟩ (hids kc kR k9), ?_⟩
        refine Goes.run [15, 16] [] trivial ?_
        refine Goes.lone1 17 (TookS.runV 17 0 [3] [] [g, gc, gR, g9] (by simp) ?_)
        refine Goes.run [] [] trivial ?_
        exact Goes.at (K := erT) (n := 228) (S := eST g gc gR g9 (r) (false)) (m := [(g, dmO day (.slice fa fN fc) hv1 (.slice (some ⟨b, 0, none⟩) (s1.out.length + 1) c') ((⟨s1.holds, s1.out ++ [(xs, r.f)], s1.steps + 1⟩ : Ms)).steps false), (gc, cdO rg (.slice aW nW cW) (.slice aI nI cI)), (gR, rgO (r).regs), (g9, .cells (iC ⟨27, xa, xb, xc, xn, xs, xt⟩).toArray 72 (0, 0))]) (fun J => tl (r) (false) ((⟨s1.holds, s1.out ++ [(xs, r.f)], s1.steps + 1⟩ : Ms)) false hv1 (.slice (some ⟨b, 0, none⟩) (s1.out.length + 1) c') (⟨hRun, by show M ≤ N; omega, fun _ => ⟨hp ▸ hFit.pay xs r.f hFit1, hov, by show 65538 ≤ s1.steps + 1 + (M : Int); omega, by show 0 ≤ r.next ∧ r.next < _; rw [hon]; have := hX.next (by show ((27 : Int)) ≠ 30; decide); omega⟩⟩) J) (by kernel_chk) (by kernel_chk) (by kernel_chk)
      · refine Goes.lone1 4 (TookS.runV 4 0 [3] [] [g, gc, gR, g9, gb] (by simp) ?_)
        refine Goes.lone1 14 (TookS.effM 14 (Builtin.append_ #[38, 38] 38 #[tv1, .slice (some ⟨gb, 0, none⟩) 1 1]) fun w2 hm2 hn2 hI2 hM2 => ?_)
        have z1 : w2.heap[gb]? = some (.cells #[.int .i64 day, strV xs, .int .i64 r.f] 59 (0, 0)) := hm2.get 4
        have y0 : w2.heap[g]? = some (dmO day (.slice fa fN fc) hv1 tv1 (s1.steps + 1) false) := hm2.get 0
        have yc : w2.heap[gc]? = some (cdO rg (.slice aW nW cW) (.slice aI nI cI)) := hm2.get 1
        have yR : w2.heap[gR]? = some (rgO r.regs) := hm2.get 2
        have y9 : w2.heap[g9]? = some (.cells (iC ⟨27, xa, xb, xc, xn, xs, xt⟩).toArray 72 (0, 0)) := hm2.get 3
        obtain ⟨b, c', w3, hr3, hI3, hk3⟩ := hI2.now.pay (Nat.le_trans hBw.size hI2.now.1.size) (xs, r.f) z1 (by have := hFit.out; have := hFit.hi; omega) (ty := 38) (c := 1)
        have k0 : w3.heap[g]? = some (dmO day (.slice fa fN fc) hv1 tv1 (s1.steps + 1) false) := hk3 g _ _ _ y0 (by decide)
        have kc : w3.heap[gc]? = some (cdO rg (.slice aW nW cW) (.slice aI nI cI)) := hk3 gc _ _ _ yc (by decide)
        have kR : w3.heap[gR]? = some (rgO r.regs) := rg_keptT hk3 yR
        have k9 : w3.heap[g9]? = some (.cells (iC ⟨27, xa, xb, xc, xn, xs, xt⟩).toArray 72 (0, 0)) := hk3 g9 _ _ _ y9 (by decide)
        refine ⟨_, w3, _, [(g, dmO day (.slice fa fN fc) hv1 tv1 (s1.steps + 1) false), (gc, cdO rg (.slice aW nW cW) (.slice aI nI cI)), (gR, rgO r.regs), (g9, .cells (iC ⟨27, xa, xb, xc, xn, xs, xt⟩).toArray 72 (0, 0))], hr3, by rw [show anyM _ = [(g9, .cells (iC ⟨27, xa, xb, xc, xn, xs, xt⟩).toArray 72 (0, 0))] from by kernel_chk]; exact hold1v k9, hold_in (by simpa using ⟨k0, kc, kR, k9⟩), hnd', hI3.stay ⟨_, _, _, k0, by decide, by decide⟩ (hids kc kR k9), ?_⟩
        refine Goes.run [15, 16] [] trivial ?_
        refine Goes.lone1 17 (TookS.runV 17 0 [3] [] [g, gc, gR, g9] (by simp) ?_)
        refine Goes.run [] [] trivial ?_
        exact Goes.at (K := erT) (n := 228) (S := eST g gc gR g9 (r) (false)) (m := [(g, dmO day (.slice fa fN fc) hv1 (.slice (some ⟨b, 0, none⟩) (s1.out.length + 1) c') ((⟨s1.holds, s1.out ++ [(xs, r.f)], s1.steps + 1⟩ : Ms)).steps false), (gc, cdO rg (.slice aW nW cW) (.slice aI nI cI)), (gR, rgO (r).regs), (g9, .cells (iC ⟨27, xa, xb, xc, xn, xs, xt⟩).toArray 72 (0, 0))]) (fun J => tl (r) (false) ((⟨s1.holds, s1.out ++ [(xs, r.f)], s1.steps + 1⟩ : Ms)) false hv1 (.slice (some ⟨b, 0, none⟩) (s1.out.length + 1) c') (⟨hRun, by show M ≤ N; omega, fun _ => ⟨hp ▸ hFit.pay xs r.f hFit1, hov, by show 65538 ≤ s1.steps + 1 + (M : Int); omega, by show 0 ≤ r.next ∧ r.next < _; rw [hon]; have := hX.next (by show ((27 : Int)) ≠ 30; decide); omega⟩⟩) J) (by kernel_chk) (by kernel_chk) (by kernel_chk)
set_option maxHeartbeats 4000000 in
set_option maxRecDepth 100000 in
seal rn rnN rnS Goes ans atEnd put0 put putM opened openedY putA0 putA oneSt st0 keep mkSt newSt rgO erH erS erT in
theorem ed_28 {xa xb xc xn xt : Int} {xs : List UInt8} (H : CaseE w0 w k fs fa aW aI fN fc nW cW nI cI rg day g gc gR g9 hv tv sh so N M i s1 r ⟨28, xa, xb, xc, xn, xs, xt⟩) (hRun : (bif decide (((s1.one.hold xn r.f).holds.length : Int) > 250) then (s1.one.hold xn r.f, true) else runD k fs day M r (s1.one.hold xn r.f)) = R) (tl : TailE w0 w k fs fa aW aI fN fc nW cW nI cI rg day g gc gR g9 hv tv N M R Q ⟨28, xa, xb, xc, xn, xs, xt⟩) (J : Nat → Value) : Goes Tryz.prog (bodyPost Tryz.prog Tryz.f21 Q) (McI w0.heap.size g day w hv tv hv1 tv1 s1.holds s1.out) ⟨erS, fr 228 (eS9 g gc gR g9 r) J, [(g, dmO day (.slice fa fN fc) hv1 tv1 (s1.steps + 1) false), (gc, cdO rg (.slice aW nW cW) (.slice aI nI cI)), (gR, rgO r.regs), (g9, .cells (iC ⟨28, xa, xb, xc, xn, xs, xt⟩).toArray 72 (0, 0))]⟩ := by
  obtain ⟨h0, hg0, hBw, hl, ht, hge, hgc, hgR, hg9, hnd, hX, hs, hFit, hFit1, hov, hH1, hLeft, hMost, hon⟩ := id H
  have hnd' : (Mem.ids [(g, dmO day (.slice fa fN fc) hv1 tv1 (s1.steps + 1) false), (gc, cdO rg (.slice aW nW cW) (.slice aI nI cI)), (gR, rgO r.regs), (g9, .cells (iC ⟨28, xa, xb, xc, xn, xs, xt⟩).toArray 72 (0, 0))]).Nodup := hnd
  have hids : ∀ {w3 : World}, w3.heap[gc]? = some (cdO rg (.slice aW nW cW) (.slice aI nI cI)) → w3.heap[gR]? = some (rgO r.regs) → w3.heap[g9]? = some (.cells (iC ⟨28, xa, xb, xc, xn, xs, xt⟩).toArray 72 (0, 0)) → ∀ y ∈ Mem.ids [(g, dmO day (.slice fa fN fc) hv1 tv1 (s1.steps + 1) false), (gc, cdO rg (.slice aW nW cW) (.slice aI nI cI)), (gR, rgO r.regs), (g9, .cells (iC ⟨28, xa, xb, xc, xn, xs, xt⟩).toArray 72 (0, 0))], y = g ∨ (w.heap.size ≤ y ∧ ∃ c e z, w3.heap[y]? = some (.cells c e z) ∧ ty5 e = false) := fun kc kR k9 y hy => by
    simp only [Mem.ids, List.map_cons, List.map_nil, List.mem_cons, List.not_mem_nil, or_false] at hy
    rcases hy with rfl | rfl | rfl | rfl
    · exact .inl rfl
    · exact .inr ⟨hgc, _, _, _, kc, by decide⟩
    · exact .inr ⟨hgR, rg_blk kR⟩
    · exact .inr ⟨hg9, _, _, _, k9, by decide⟩
  have hln : (s1.one.hold xn r.f).holds.length = s1.holds.length + 1 := by simp [Ms.hold, Ms.one]
  rw [hln] at hRun
  have hok : ∀ hv' tv', LpE.ok k fs day N R ⟨r.go xt false, s1.one.hold xn r.f, (decide (((s1.holds.length + 1 : Nat) : Int) > 250)), M, hv', tv'⟩ := fun hv' tv' => ⟨hRun, by show M ≤ N; omega, fun hb => ⟨hFit1.hold hH1 xn r.f, over_iff.2 ⟨(over_iff.1 hov).1, by
    have h1 : ¬ (((s1.holds.length + 1 : Nat) : Int) > 250) := of_decide_eq_false hb
    rw [hln]
    omega⟩, by show 65538 ≤ s1.steps + 1 + (M : Int); omega, by show 0 ≤ r.next ∧ r.next < _; rw [hon]; have := hX.next (by show ((28 : Int)) ≠ 30; decide); omega⟩⟩
  refine Goes.run [3, 0, 0, 0, 0, 0, 0, 0, 0, 0, 0, 0, 0, 0, 1] [(true, true), (false, false), (false, false), (false, false), (false, false), (false, false), (false, false), (false, false), (false, false), (false, false), (false, false), (false, false), (false, false), (false, false)] ⟨rfl, rfl, rfl, rfl, rfl, rfl, rfl, rfl, rfl, rfl, rfl, rfl, rfl, rfl, trivial⟩ ?_
  refine Goes.open [3] ?_
  refine Goes.run [0, 1, 2, 3, 5, 6, 0, 7, 8] [] trivial ?_
  refine Goes.two 4 9 (TookS.runV 4 0 [3] [] [g, gc, gR, g9] (by simp) ?_) (TookS.new1V 9 w.heap.size [3] [] [g, gc, gR, g9] (by simp) (fun w' h => h.1.size) fun gb hgb => ?_)
  · refine Goes.lone1 9 (TookS.new1V 9 w.heap.size [3] [] [g, gc, gR, g9] (by simp) (fun w' h => h.1.size) fun gb hgb => ?_)
    refine Goes.lone1 10 (TookS.effM 10 (Builtin.append_ #[37, 37] 37 #[hv1, .slice (some ⟨gb, 0, none⟩) 1 1]) fun w2 hm2 hn2 hI2 hM2 => ?_)
    have z1 : w2.heap[gb]? = some (.cells #[.int .i64 xn, .int .i64 r.f] 86 (0, 0)) := hm2.get 4
    have y0 : w2.heap[g]? = some (dmO day (.slice fa fN fc) hv1 tv1 (s1.steps + 1) false) := hm2.get 0
    have yc : w2.heap[gc]? = some (cdO rg (.slice aW nW cW) (.slice aI nI cI)) := hm2.get 1
    have yR : w2.heap[gR]? = some (rgO r.regs) := hm2.get 2
    have y9 : w2.heap[g9]? = some (.cells (iC ⟨28, xa, xb, xc, xn, xs, xt⟩).toArray 72 (0, 0)) := hm2.get 3
    obtain ⟨b, c', w3, hr3, hI3, hk3⟩ := hI2.now.live (Nat.le_trans hBw.size hI2.now.1.size) (xn, r.f) z1 (by have := hH1; have e : s1.one.holds = s1.holds := rfl; rw [e] at this; omega) (ty := 37) (c := 1)
    have k0 : w3.heap[g]? = some (dmO day (.slice fa fN fc) hv1 tv1 (s1.steps + 1) false) := hk3 g _ _ _ y0 (by decide)
    have kc : w3.heap[gc]? = some (cdO rg (.slice aW nW cW) (.slice aI nI cI)) := hk3 gc _ _ _ yc (by decide)
    have kR : w3.heap[gR]? = some (rgO r.regs) := rg_kept hk3 yR
    have k9 : w3.heap[g9]? = some (.cells (iC ⟨28, xa, xb, xc, xn, xs, xt⟩).toArray 72 (0, 0)) := hk3 g9 _ _ _ y9 (by decide)
    refine ⟨_, w3, _, [(g, dmO day (.slice fa fN fc) hv1 tv1 (s1.steps + 1) false), (gc, cdO rg (.slice aW nW cW) (.slice aI nI cI)), (gR, rgO r.regs), (g9, .cells (iC ⟨28, xa, xb, xc, xn, xs, xt⟩).toArray 72 (0, 0))], hr3, by rw [show anyM _ = [(g9, .cells (iC ⟨28, xa, xb, xc, xn, xs, xt⟩).toArray 72 (0, 0))] from by kernel_chk]; exact hold1v k9, hold_in (by simpa using ⟨k0, kc, kR, k9⟩), hnd', hI3.stay ⟨_, _, _, k0, by decide, by decide⟩ (hids kc kR k9), ?_⟩
    refine Goes.run [11, 12] [] trivial ?_
    refine Goes.lone1 13 (TookS.runV 13 0 [3] [] [g, gc, gR, g9] (by simp) ?_)
    refine Goes.run [0, 0] [] trivial ?_
    exact Goes.at (K := erT) (n := 228) (S := eST g gc gR g9 (r) (false)) (m := [(g, dmO day (.slice fa fN fc) (.slice (some ⟨b, 0, none⟩) (s1.holds.length + 1) c') tv1 (s1.one.hold xn r.f).steps (decide (((s1.holds.length + 1 : Nat) : Int) > 250))), (gc, cdO rg (.slice aW nW cW) (.slice aI nI cI)), (gR, rgO (r).regs), (g9, .cells (iC ⟨28, xa, xb, xc, xn, xs, xt⟩).toArray 72 (0, 0))]) (fun J => tl (r) (false) (s1.one.hold xn r.f) (decide (((s1.holds.length + 1 : Nat) : Int) > 250)) (.slice (some ⟨b, 0, none⟩) (s1.holds.length + 1) c') tv1 (hok _ _) J) (by kernel_chk) (by kernel_chk) (by kernel_chk)
  · refine Goes.lone1 4 (TookS.runV 4 0 [3] [] [g, gc, gR, g9, gb] (by simp) ?_)
    refine Goes.lone1 10 (TookS.effM 10 (Builtin.append_ #[37, 37] 37 #[hv1, .slice (some ⟨gb, 0, none⟩) 1 1]) fun w2 hm2 hn2 hI2 hM2 => ?_)
    have z1 : w2.heap[gb]? = some (.cells #[.int .i64 xn, .int .i64 r.f] 86 (0, 0)) := hm2.get 4
    have y0 : w2.heap[g]? = some (dmO day (.slice fa fN fc) hv1 tv1 (s1.steps + 1) false) := hm2.get 0
    have yc : w2.heap[gc]? = some (cdO rg (.slice aW nW cW) (.slice aI nI cI)) := hm2.get 1
    have yR : w2.heap[gR]? = some (rgO r.regs) := hm2.get 2
    have y9 : w2.heap[g9]? = some (.cells (iC ⟨28, xa, xb, xc, xn, xs, xt⟩).toArray 72 (0, 0)) := hm2.get 3
    obtain ⟨b, c', w3, hr3, hI3, hk3⟩ := hI2.now.live (Nat.le_trans hBw.size hI2.now.1.size) (xn, r.f) z1 (by have := hH1; have e : s1.one.holds = s1.holds := rfl; rw [e] at this; omega) (ty := 37) (c := 1)
    have k0 : w3.heap[g]? = some (dmO day (.slice fa fN fc) hv1 tv1 (s1.steps + 1) false) := hk3 g _ _ _ y0 (by decide)
    have kc : w3.heap[gc]? = some (cdO rg (.slice aW nW cW) (.slice aI nI cI)) := hk3 gc _ _ _ yc (by decide)
    have kR : w3.heap[gR]? = some (rgO r.regs) := rg_kept hk3 yR
    have k9 : w3.heap[g9]? = some (.cells (iC ⟨28, xa, xb, xc, xn, xs, xt⟩).toArray 72 (0, 0)) := hk3 g9 _ _ _ y9 (by decide)
    refine ⟨_, w3, _, [(g, dmO day (.slice fa fN fc) hv1 tv1 (s1.steps + 1) false), (gc, cdO rg (.slice aW nW cW) (.slice aI nI cI)), (gR, rgO r.regs), (g9, .cells (iC ⟨28, xa, xb, xc, xn, xs, xt⟩).toArray 72 (0, 0))], hr3, by rw [show anyM _ = [(g9, .cells (iC ⟨28, xa, xb, xc, xn, xs, xt⟩).toArray 72 (0, 0))] from by kernel_chk]; exact hold1v k9, hold_in (by simpa using ⟨k0, kc, kR, k9⟩), hnd', hI3.stay ⟨_, _, _, k0, by decide, by decide⟩ (hids kc kR k9), ?_⟩
    refine Goes.run [11, 12] [] trivial ?_
    refine Goes.lone1 13 (TookS.runV 13 0 [3] [] [g, gc, gR, g9] (by simp) ?_)
    refine Goes.run [0, 0] [] trivial ?_
    exact Goes.at (K := erT) (n := 228) (S := eST g gc gR g9 (r) (false)) (m := [(g, dmO day (.slice fa fN fc) (.slice (some ⟨b, 0, none⟩) (s1.holds.length + 1) c') tv1 (s1.one.hold xn r.f).steps (decide (((s1.holds.length + 1 : Nat) : Int) > 250))), (gc, cdO rg (.slice aW nW cW) (.slice aI nI cI)), (gR, rgO (r).regs), (g9, .cells (iC ⟨28, xa, xb, xc, xn, xs, xt⟩).toArray 72 (0, 0))]) (fun J => tl (r) (false) (s1.one.hold xn r.f) (decide (((s1.holds.length + 1 : Nat) : Int) > 250)) (.slice (some ⟨b, 0, none⟩) (s1.holds.length + 1) c') tv1 (hok _ _) J) (by kernel_chk) (by kernel_chk) (by kernel_chk)
end
end Go.Proofs.YtddbiiejilcbbaaGreatDoor
namespace Go.Proofs.YtddbiiejilcbbaaGreatDoor
open Go Go.RowKit

section
variable {w0 w : World} {k : Kd} {fs : Fs} {fa aW aI : Option Addr} {fN fc nW cW nI cI : Nat} {rg day : Int} {g gc gR g9 : Nat} {hv tv hv1 tv1 : Value} {sh : List (Int × Int)} {so : List (List UInt8 × Int)} {N M i : Nat} {R : Ms × Bool} {s1 : Ms} {r : Rg} {Q : Ending → World → Prop}

set_option maxHeartbeats 4000000 in
set_option maxRecDepth 100000 in
seal rn rnN rnS Goes ans atEnd put0 put putM opened openedY putA0 putA oneSt st0 keep mkSt newSt rgO erH erS erT in
theorem ed_30 {xa xb xc xn xt : Int} {xs : List UInt8} (h : ∀ w', w'.heap[g]? = some (dmO day (.slice fa fN fc) hv1 tv1 (s1.steps + 1) false) → McI w0.heap.size g day w hv tv hv1 tv1 s1.holds s1.out w' → Q (.returned (.tuple #[])) w') (J : Nat → Value) : Goes Tryz.prog (bodyPost Tryz.prog Tryz.f21 Q) (McI w0.heap.size g day w hv tv hv1 tv1 s1.holds s1.out) ⟨erS, fr 228 (eS9 g gc gR g9 r) J, [(g, dmO day (.slice fa fN fc) hv1 tv1 (s1.steps + 1) false), (gc, cdO rg (.slice aW nW cW) (.slice aI nI cI)), (gR, rgO r.regs), (g9, .cells (iC ⟨30, xa, xb, xc, xn, xs, xt⟩).toArray 72 (0, 0))]⟩ := by
  refine Goes.run [3, 1] [(true, true)] ⟨rfl, trivial⟩ ?_
  exact Goes.ret [] (.tuple #[]) fun w' hm hI => h w' (hm.get 0) hI.now
set_option maxHeartbeats 4000000 in
set_option maxRecDepth 100000 in
seal rn rnN rnS Goes ans atEnd put0 put putM opened openedY putA0 putA oneSt st0 keep mkSt newSt rgO erH erS erT in
theorem ed_29 {xa xb xc xn xt : Int} {xs : List UInt8} (H : CaseE w0 w k fs fa aW aI fN fc nW cW nI cI rg day g gc gR g9 hv tv sh so N M i s1 r ⟨29, xa, xb, xc, xn, xs, xt⟩) (ih : RunDt w0 k fs fa fN fc rg aW nW cW aI nI cI day g M) (hRun : (bif (runD k fs day M ⟨zeros, entK k xn, r.f⟩ s1.one).2 then runD k fs day M ⟨zeros, entK k xn, r.f⟩ s1.one else runD k fs day M r (runD k fs day M ⟨zeros, entK k xn, r.f⟩ s1.one).1) = R) (tl : TailE w0 w k fs fa aW aI fN fc nW cW nI cI rg day g gc gR g9 hv tv N M R Q ⟨29, xa, xb, xc, xn, xs, xt⟩) (J : Nat → Value) : Goes Tryz.prog (bodyPost Tryz.prog Tryz.f21 Q) (McI w0.heap.size g day w hv tv hv1 tv1 s1.holds s1.out) ⟨erS, fr 228 (eS9 g gc gR g9 r) J, [(g, dmO day (.slice fa fN fc) hv1 tv1 (s1.steps + 1) false), (gc, cdO rg (.slice aW nW cW) (.slice aI nI cI)), (gR, rgO r.regs), (g9, .cells (iC ⟨29, xa, xb, xc, xn, xs, xt⟩).toArray 72 (0, 0))]⟩ := by
  obtain ⟨h0, hg0, hBw, hl, ht, hge, hgc, hgR, hg9, hnd, hX, hs, hFit, hFit1, hov, hH1, hLeft, hMost, hon⟩ := id H
  obtain ⟨wn0, wn1⟩ := hX.wait (.inr rfl)
  replace wn0 : 0 ≤ xn := wn0
  replace wn1 : xn < (k.waits.length : Int) := wn1
  obtain ⟨ce0, ce1⟩ := hX.call rfl
  replace ce0 : 0 ≤ entK k xn := ce0
  replace ce1 : entK k xn < (k.ins.length : Int) := ce1
  obtain ⟨m, rfl⟩ : ∃ m : Nat, xn = (m : Int) := ⟨xn.toNat, by omega⟩
  have hmW : m < nW := by rw [← h0.code.lw]; omega
  obtain ⟨y, hy⟩ : ∃ y, k.waits[m]? = some y := ⟨k.waits[m]'(by omega), by simp⟩
  obtain ⟨-, bW, oW, rfl, hbW, hcW⟩ := h0.code.waits m y hy
  obtain ⟨obW, hobW⟩ := obj_ofV hbW
  have hent : entK k (m : Int) = y.entry := by unfold entK; rw [Int.toNat_natCast, hy]
  rw [hent] at hRun ce0 ce1
  obtain ⟨at', hat⟩ : ∃ a : Nat, y.entry = (a : Int) := ⟨y.entry.toNat, by omega⟩
  rw [hat] at hRun ce0 ce1
  obtain ⟨hsame, hsame2⟩ := run_same k fs day M ⟨zeros, (at' : Int), r.f⟩ s1.one hov
  obtain ⟨S2, hS2⟩ : ∃ S2, runD k fs day M ⟨zeros, (at' : Int), r.f⟩ s1.one = S2 := ⟨_, rfl⟩
  rw [hS2] at hRun hsame hsame2
  obtain ⟨m2, b2⟩ := S2
  replace hRun : (bif b2 then (m2, b2) else runD k fs day M r m2) = R := hRun
  replace hsame : b2 = overM (runP k fs day M ⟨zeros, (at' : Int), r.f⟩ s1.one) := hsame
  replace hsame2 : b2 = false → m2 = runP k fs day M ⟨zeros, (at' : Int), r.f⟩ s1.one := hsame2
  have hok : ∀ hv' tv', LpE.ok k fs day N R ⟨r.go xt false, m2, b2, M, hv', tv'⟩ := fun hv' tv' => ⟨by
    show (bif b2 then (m2, true) else runD k fs day M r m2) = R
    cases b2 with
    | true => exact hRun
    | false => exact hRun, by show M ≤ N; omega, fun hb => by
      replace hb : b2 = false := hb
      have hm2 := hsame2 hb
      have h1 := (runP_steps k fs day M ⟨zeros, (at' : Int), r.f⟩ s1.one).1
      replace h1 : s1.steps + 1 ≤ (runP k fs day M ⟨zeros, (at' : Int), r.f⟩ s1.one).steps := h1
      rw [← hm2] at h1
      exact ⟨hm2 ▸ runP_fit k fs day M _ _ hFit1, by show overM m2 = false; rw [hm2, ← hsame]; exact hb, by show 65538 ≤ m2.steps + (M : Int); omega, by show 0 ≤ r.next ∧ r.next < _; rw [hon]; have := hX.next (by show ((29 : Int)) ≠ 30; decide); omega⟩⟩
  have hloc : Loc5 w [(gc, cdO rg (.slice (some ⟨bW, oW, none⟩) nW cW) (.slice aI nI cI)), (gR, rgO r.regs), (g9, .cells (iC ⟨29, xa, xb, xc, (m : Int), xs, xt⟩).toArray 72 (0, 0))] := fun q hq => by
    simp only [List.mem_cons, List.not_mem_nil, or_false] at hq
    rcases hq with rfl | rfl | rfl
    · exact ⟨hgc, _, _, _, rfl, by decide⟩
    · exact ⟨hgR, rg_cells _⟩
    · exact ⟨hg9, _, _, _, rfl, by decide⟩
  refine Goes.run [3, 0, 0, 0, 0, 0, 0, 0, 0, 0, 0, 0, 0, 0, 0, 1] [(true, true), (false, false), (false, false), (false, false), (false, false), (false, false), (false, false), (false, false), (false, false), (false, false), (false, false), (false, false), (false, false), (false, false), (false, false)] ⟨rfl, rfl, rfl, rfl, rfl, rfl, rfl, rfl, rfl, rfl, rfl, rfl, rfl, rfl, rfl, trivial⟩ ?_
  refine Goes.openY [1, 3] [(bW, obW)] (fun w' hI => hold1v (((hBv hg0 hBw hl ht hI).block bW hbW).trans hobW)) ?_
  refine Goes.run [0, 1, 0, 2, 3, 0, 4, 5, 1, 9] [] trivial ?_
  refine Goes.valA 6 (Instr.indexAt 24 (.slice (some ⟨bW, oW, none⟩) nW cW) (.int .i64 m)) (.pointer (some ⟨bW, oW + m * 5, none⟩)) (fun w' _ => idxWk bW oW nW cW m hmW w') ?_
  refine Goes.run [7] [] trivial ?_
  refine Goes.valA 8 (Instr.loadAt 3 (.pointer (some ⟨bW, oW + m * 5, none⟩))) (.int .i64 at') (fun w' hm => by rw [← hat]; exact load1 Tryz.isAgg3 (hcW.objV hobW (hm.get 2) 0 _ rfl)) ?_
  refine Goes.callVQA 10 21 #[.pointer (some ⟨g, 0, none⟩), cdV rg (some ⟨bW, oW, none⟩) nW cW aI nI cI, .int .i64 at', .int .i64 r.f] (.tuple #[]) (dmB day (.slice fa fN fc) (s1.steps + 1) false) (dmB day (.slice fa fN fc) m2.steps b2) (dmB_is _ _ _ _) (dmB_is _ _ _ _) m2.holds m2.out [(gc, cdO rg (.slice (some ⟨bW, oW, none⟩) nW cW) (.slice aI nI cI)), (gR, rgO r.regs), (g9, .cells (iC ⟨29, xa, xb, xc, (m : Int), xs, xt⟩).toArray 72 (0, 0))] hloc [(gc, cdO rg (.slice (some ⟨bW, oW, none⟩) nW cW) (.slice aI nI cI)), (g9, .cells (iC ⟨29, xa, xb, xc, (m : Int), xs, xt⟩).toArray 72 (0, 0)), (bW, obW)] (fun q hq => by
    simp only [List.mem_cons, List.not_mem_nil, or_false] at hq
    rcases hq with rfl | rfl | rfl
    · exact .inr ⟨_, _, _, rfl, by decide⟩
    · exact .inr ⟨_, _, _, rfl, by decide⟩
    · exact .inl hbW) hg0 hBw.size (fun w1 hm1 hI1 => by have := ih at' r.f w1 hv1 tv1 s1.one (hBv hg0 hBw hl ht hI1) hI1.2.1 hI1.2.2.1 (hm1.get 0) (by omega) hFit1 hov (by show 65538 ≤ s1.steps + 1 + (M : Int); omega); rw [hS2] at this; exact this) fun hv2 tv2 => ?_
  refine Goes.run [] [] trivial ?_
  exact Goes.at (K := erT) (n := 228) (S := eST g gc gR g9 (r) (false)) (m := [(g, dmO day (.slice fa fN fc) hv2 tv2 (m2).steps b2), (gc, cdO rg (.slice (some ⟨bW, oW, none⟩) nW cW) (.slice aI nI cI)), (gR, rgO (r).regs), (g9, .cells (iC ⟨29, xa, xb, xc, (m : Int), xs, xt⟩).toArray 72 (0, 0))]) (fun J => tl (r) (false) (m2) b2 hv2 tv2 (hok hv2 tv2) J) (by kernel_chk) (by kernel_chk) (by kernel_chk)
end
end Go.Proofs.YtddbiiejilcbbaaGreatDoor
namespace Go.Proofs.YtddbiiejilcbbaaGreatDoor
open Go Go.RowKit

section
variable {w0 w : World} {k : Kd} {fs : Fs} {fa aW aI : Option Addr} {fN fc nW cW nI cI : Nat} {rg day : Int} {g g6 g7 : Nat} {hv tv hv1 tv1 : Value} {sh : List (Int × Int)} {so : List (List UInt8 × Int)} {N M i : Nat} {R s1 : Ms} {r : Rg} {x : Ik} {Q : Ending → World → Prop}

set_option maxHeartbeats 4000000 in
set_option maxRecDepth 100000 in
seal rn rnN rnS Goes ans atEnd put0 put putM opened openedY putA0 putA oneSt st0 st0S offL keep mkSt newSt newOS rnO ruH ruS in
theorem run_pay {xa xb xc xn xt : Int} {xs : List UInt8} (H : CaseH w0 w k fs fa aW aI fN fc nW cW nI cI rg day g g6 g7 hv tv sh so N M i s1 r ⟨27, xa, xb, xc, xn, xs, xt⟩) (hRun : runP k fs day M r.on (s1.one.pay xs r.f) = R) (bk : BackTo w0 w k fs fa aW aI fN fc nW cW nI cI rg day g g6 hv tv N M R Q) (J : Nat → Value) : Goes Tryz.prog (bodyPost Tryz.prog Tryz.f31 Q) (McI w0.heap.size g day w hv tv hv1 tv1 s1.holds s1.out) ⟨ruS, fr 84 (uS g g6 ++ [(7, .pointer (some ⟨g7, 0, none⟩))]) J, [(g, vmO day (.slice fa fN fc) rg (.slice aW nW cW) (.slice aI nI cI) hv1 tv1 (s1.steps + 1)), (g6, rnO r.on), (g7, .cells (iC ⟨27, xa, xb, xc, xn, xs, xt⟩).toArray 72 (0, 0))]⟩ := by
  obtain ⟨h0, hg0, hBw, hl, ht, hge, hg6, hg7, hne, hX, hFit, hFit1, hH1, hLeft, hMost, hon⟩ := H
  have hloc : ∀ r1 : Rg, Loc5 w [(g6, rnO r1), (g7, .cells (iC ⟨27, xa, xb, xc, xn, xs, xt⟩).toArray 72 (0, 0))] := fun r1 q hq => by
    simp only [List.mem_cons, List.not_mem_nil, or_false] at hq
    rcases hq with rfl | rfl
    · exact ⟨hg6, rn_cells r1⟩
    · exact ⟨hg7, _, _, _, rfl, by decide⟩
  refine Goes.run [2, 0, 0, 0, 1, 2] [(true, true), (false, false), (false, false), (false, false)] ⟨rfl, rfl, rfl, rfl, trivial⟩ ?_
  refine Goes.val (Instr.loadAt 2 (.pointer (some ⟨g6, 257, none⟩))) (.int .i64 r.f) (fun w' hm _ => rn_ldF (r := r.on) (hm.get 1)) ?_
  refine Goes.callVQ 66 #[.pointer (some ⟨g, 0, none⟩), strV xs, .int .i64 r.f] (.tuple #[]) (vmB day (.slice fa fN fc) rg (.slice aW nW cW) (.slice aI nI cI) (s1.steps + 1)) (vmB day (.slice fa fN fc) rg (.slice aW nW cW) (.slice aI nI cI) (s1.steps + 1)) (vmB_is _ _ _ _ _ _) (vmB_is _ _ _ _ _ _) s1.holds (s1.out ++ bif r.f == 0 then [] else [(xs, r.f)]) [(g6, rnO r.on), (g7, .cells (iC ⟨27, xa, xb, xc, xn, xs, xt⟩).toArray 72 (0, 0))] (hloc r.on) (fun w1 hm1 hI1 => vpay_any hI1.2.1 hI1.2.2.1 (hm1.get 0) (Nat.le_trans hBw.size hI1.1.size) xs r.f (by have := hFit.out; have := hFit.hi; omega)) fun hv2 tv2 => ?_
  refine Goes.run [] [] trivial ?_
  refine Goes.keep 2 ?_
  exact Goes.at (K := ruH) (n := 84) (S := uS g g6) (m := [(g, vmO day (.slice fa fN fc) rg (.slice aW nW cW) (.slice aI nI cI) hv2 tv2 (s1.steps + 1)), (g6, rnO (r.on))]) (fun J => bk (r.on) (s1.one.pay xs r.f) M hv2 tv2 ⟨hRun, hFit.pay xs r.f hFit1, by show 65538 ≤ s1.steps + 1 + (M : Int); omega, by show M ≤ N; omega, by show 0 ≤ r.on.next ∧ r.on.next < _; rw [hon]; have := hX.next (show ((27 : Int)) ≠ 30 by decide); omega⟩ (by omega) J) (by kernel_chk) (by kernel_chk) (by kernel_chk)
set_option maxHeartbeats 4000000 in
set_option maxRecDepth 100000 in
seal rn rnN rnS Goes ans atEnd put0 put putM opened openedY putA0 putA oneSt st0 st0S offL keep mkSt newSt newOS rnO ruH ruS in
theorem run_rest (H : CaseH w0 w k fs fa aW aI fN fc nW cW nI cI rg day g g6 g7 hv tv sh so N M i s1 r x) (h30 : (x.op == 30) = false) (h29 : (x.op == 29) = false) (h28 : (x.op == 28) = false) (h27 : (x.op == 27) = false) (hRun : runP k fs day M (doQ fs day x r.on) s1.one = R) (bk : BackTo w0 w k fs fa aW aI fN fc nW cW nI cI rg day g g6 hv tv N M R Q) (J : Nat → Value) : Goes Tryz.prog (bodyPost Tryz.prog Tryz.f31 Q) (McI w0.heap.size g day w hv tv hv1 tv1 s1.holds s1.out) ⟨ruS, fr 84 (uS g g6 ++ [(7, .pointer (some ⟨g7, 0, none⟩))]) J, [(g, vmO day (.slice fa fN fc) rg (.slice aW nW cW) (.slice aI nI cI) hv1 tv1 (s1.steps + 1)), (g6, rnO r.on), (g7, .cells (iC x).toArray 72 (0, 0))]⟩ := by
  obtain ⟨h0, hg0, hBw, hl, ht, hge, hg6, hg7, hne, hX, hFit, hFit1, hH1, hLeft, hMost, hon⟩ := H
  refine Goes.run [2, 0, 0, 0, 0] [(x.op == 27, false), (x.op == 28, false), (x.op == 29, false), (x.op == 30, false)] ⟨h27, h28, h29, h30, trivial⟩ ?_
  refine Goes.open [0, 2] ?_
  refine Goes.run [0, 1, 1, 2, 3, 4, 0] [] trivial ?_
  refine Goes.callK 5 1 g6 67 #[.pointer (some ⟨g6, 0, none⟩), iV x, dwV day (.slice fa fN fc)] (.tuple #[]) (rnO (doQ fs day x r.on)) (fun w' hm hI => vdo_any (hm.get 1) h0.rf (h0.en (hBv hg0 hBw hl ht hI.now)) (Nat.le_trans hBw.size hg6) h0.day hX) [(g, vmO day (.slice fa fN fc) rg (.slice aW nW cW) (.slice aI nI cI) hv1 tv1 (s1.steps + 1)), (g7, .cells (iC x).toArray 72 (0, 0))] (fun q hq => by simp at hq; rcases hq with rfl | rfl <;> simp only <;> omega) ?_
  refine Goes.run [] [] trivial ?_
  refine Goes.keep 2 ?_
  exact Goes.at (K := ruH) (n := 84) (S := uS g g6) (m := [(g, vmO day (.slice fa fN fc) rg (.slice aW nW cW) (.slice aI nI cI) hv1 tv1 (s1.steps + 1)), (g6, rnO (doQ fs day x r.on))]) (fun J => bk (doQ fs day x r.on) (s1.one) M hv1 tv1 ⟨hRun, hFit1, by show 65538 ≤ s1.steps + 1 + (M : Int); omega, by show M ≤ N; omega, doQ_next hX (fun e => by rw [e] at h30; cases h30) fs day hon⟩ (by omega) J) (by kernel_chk) (by kernel_chk) (by kernel_chk)
set_option maxHeartbeats 4000000 in
set_option maxRecDepth 100000 in
seal rn rnN rnS Goes ans atEnd put0 put putM opened openedY putA0 putA oneSt st0 st0S offL keep mkSt newSt newOS rnO ruH ruS in
theorem run_end {xa xb xc xn xt : Int} {xs : List UInt8} (h : ∀ w', w'.heap[g]? = some (vmO day (.slice fa fN fc) rg (.slice aW nW cW) (.slice aI nI cI) hv1 tv1 (s1.steps + 1)) → McI w0.heap.size g day w hv tv hv1 tv1 s1.holds s1.out w' → Q (.returned (.tuple #[])) w') (J : Nat → Value) : Goes Tryz.prog (bodyPost Tryz.prog Tryz.f31 Q) (McI w0.heap.size g day w hv tv hv1 tv1 s1.holds s1.out) ⟨ruS, fr 84 (uS g g6 ++ [(7, .pointer (some ⟨g7, 0, none⟩))]) J, [(g, vmO day (.slice fa fN fc) rg (.slice aW nW cW) (.slice aI nI cI) hv1 tv1 (s1.steps + 1)), (g6, rnO r.on), (g7, .cells (iC ⟨30, xa, xb, xc, xn, xs, xt⟩).toArray 72 (0, 0))]⟩ := by
  refine Goes.run [2, 1] [(true, true)] ⟨rfl, trivial⟩ ?_
  exact Goes.ret [] (.tuple #[]) fun w' hm hI => h w' (hm.get 0) hI.now
end
end Go.Proofs.YtddbiiejilcbbaaGreatDoor
namespace Go.Proofs.YtddbiiejilcbbaaGreatDoor
open Go Go.RowKit

section
variable {w0 w : World} {k : Kd} {fs : Fs} {fa aW aI : Option Addr} {fN fc nW cW nI cI : Nat} {rg day : Int} {g g6 g7 : Nat} {hv tv hv1 tv1 : Value} {sh : List (Int × Int)} {so : List (List UInt8 × Int)} {N M i : Nat} {R s1 : Ms} {r : Rg} {x : Ik} {Q : Ending → World → Prop}

set_option maxHeartbeats 4000000 in
set_option maxRecDepth 100000 in
seal rn rnN rnS Goes ans atEnd put0 put putM opened openedY putA0 putA oneSt st0 st0S offL keep mkSt newSt newOS rnO ruH ruS in
theorem run_wait {xa xb xc xn xt : Int} {xs : List UInt8} (H : CaseH w0 w k fs fa aW aI fN fc nW cW nI cI rg day g g6 g7 hv tv sh so N M i s1 r ⟨28, xa, xb, xc, xn, xs, xt⟩) (hRun : runP k fs day M r.on (s1.one.hold xn r.f) = R) (bk : BackTo w0 w k fs fa aW aI fN fc nW cW nI cI rg day g g6 hv tv N M R Q) (J : Nat → Value) : Goes Tryz.prog (bodyPost Tryz.prog Tryz.f31 Q) (McI w0.heap.size g day w hv tv hv1 tv1 s1.holds s1.out) ⟨ruS, fr 84 (uS g g6 ++ [(7, .pointer (some ⟨g7, 0, none⟩))]) J, [(g, vmO day (.slice fa fN fc) rg (.slice aW nW cW) (.slice aI nI cI) hv1 tv1 (s1.steps + 1)), (g6, rnO r.on), (g7, .cells (iC ⟨28, xa, xb, xc, xn, xs, xt⟩).toArray 72 (0, 0))]⟩ := by
  obtain ⟨h0, hg0, hBw, hl, ht, hge, hg6, hg7, hne, hX, hFit, hFit1, hH1, hLeft, hMost, hon⟩ := H
  have hnd : (Mem.ids [(g, vmO day (.slice fa fN fc) rg (.slice aW nW cW) (.slice aI nI cI) hv1 tv1 (s1.steps + 1)), (g6, rnO r.on), (g7, .cells (iC ⟨28, xa, xb, xc, xn, xs, xt⟩).toArray 72 (0, 0))]).Nodup := by simp [Mem.ids]; omega
  have hids : ∀ {w3 : World}, w3.heap[g6]? = some (rnO r.on) → w3.heap[g7]? = some (.cells (iC ⟨28, xa, xb, xc, xn, xs, xt⟩).toArray 72 (0, 0)) → ∀ x ∈ Mem.ids [(g, vmO day (.slice fa fN fc) rg (.slice aW nW cW) (.slice aI nI cI) hv1 tv1 (s1.steps + 1)), (g6, rnO r.on), (g7, .cells (iC ⟨28, xa, xb, xc, xn, xs, xt⟩).toArray 72 (0, 0))], x = g ∨ (w.heap.size ≤ x ∧ ∃ c e z, w3.heap[x]? = some (.cells c e z) ∧ ty5 e = false) := fun k6 k7 x hx => by
    simp only [Mem.ids, List.map_cons, List.map_nil, List.mem_cons, List.not_mem_nil, or_false] at hx
    rcases hx with rfl | rfl | rfl
    · exact .inl rfl
    · exact .inr ⟨hg6, rn_blk k6⟩
    · exact .inr ⟨hg7, _, _, _, k7, by decide⟩
  refine Goes.run [2, 0, 0, 1] [(true, true), (false, false), (false, false)] ⟨rfl, rfl, rfl, trivial⟩ ?_
  refine Goes.open [1, 2] ?_
  refine Goes.run [0, 1, 2, 3, 5, 6, 1, 7, 12, 13] [] trivial ?_
  refine Goes.valA 8 (Instr.loadAt 2 (.pointer (some ⟨g6, 257, none⟩))) (.int .i64 r.f) (fun w' hm => rn_ldF (r := r.on) (hm.get 0)) ?_
  refine Goes.run [9] [] trivial ?_
  refine Goes.two 4 10 (TookS.runV 4 0 [1, 2] [] [g, g6, g7] (by simp) ?_) (TookS.new1V 10 w.heap.size [1, 2] [] [g, g6, g7] (by simp) (fun w' h => h.1.size) fun gb hgb => ?_)
  · refine Goes.lone1 10 (TookS.new1V 10 w.heap.size [1, 2] [] [g, g6, g7] (by simp) (fun w' h => h.1.size) fun gb hgb => ?_)
    refine Goes.lone1 11 (TookS.effM 11 (Builtin.append_ #[37, 37] 37 #[hv1, .slice (some ⟨gb, 0, none⟩) 1 1]) fun w2 hm2 hn2 hI2 hM2 => ?_)
    have z1 : w2.heap[gb]? = some (.cells #[.int .i64 xn, .int .i64 r.f] 86 (0, 0)) := hm2.get 3
    have y0 : w2.heap[g]? = some (vmO day (.slice fa fN fc) rg (.slice aW nW cW) (.slice aI nI cI) hv1 tv1 (s1.steps + 1)) := hm2.get 0
    have y6 : w2.heap[g6]? = some (rnO r.on) := hm2.get 1
    have y7 : w2.heap[g7]? = some (.cells (iC ⟨28, xa, xb, xc, xn, xs, xt⟩).toArray 72 (0, 0)) := hm2.get 2
    obtain ⟨b, c', w3, hr3, hI3, hk3⟩ := hI2.now.live (Nat.le_trans hBw.size hI2.now.1.size) (xn, r.f) z1 (by have := hH1; have e : s1.one.holds = s1.holds := rfl; rw [e] at this; omega) (ty := 37) (c := 1)
    have k0 : w3.heap[g]? = some (vmO day (.slice fa fN fc) rg (.slice aW nW cW) (.slice aI nI cI) hv1 tv1 (s1.steps + 1)) := hk3 g _ _ _ y0 (by decide)
    have k6 : w3.heap[g6]? = some (rnO r.on) := rn_kept hk3 y6
    have k7 : w3.heap[g7]? = some (.cells (iC ⟨28, xa, xb, xc, xn, xs, xt⟩).toArray 72 (0, 0)) := hk3 g7 _ _ _ y7 (by decide)
    refine ⟨_, w3, _, [(g, vmO day (.slice fa fN fc) rg (.slice aW nW cW) (.slice aI nI cI) hv1 tv1 (s1.steps + 1)), (g6, rnO r.on), (g7, .cells (iC ⟨28, xa, xb, xc, xn, xs, xt⟩).toArray 72 (0, 0))], hr3, by rw [show anyM _ = [(g6, rnO r.on), (g7, .cells (iC ⟨28, xa, xb, xc, xn, xs, xt⟩).toArray 72 (0, 0))] from by kernel_chk]; exact holds2v k6 k7, hold_in (by simpa using ⟨k0, k6, k7⟩), hnd, hI3.stay ⟨_, _, _, k0, by decide, by decide⟩ (hids k6 k7), ?_⟩
    refine Goes.run [12, 13] [] trivial ?_
    refine Goes.lone1 14 (TookS.runV 14 0 [1, 2] [] [g, g6, g7] (by simp) ?_)
    refine Goes.run [] [] trivial ?_
    refine Goes.keep 2 ?_
    exact Goes.at (K := ruH) (n := 84) (S := uS g g6) (m := [(g, vmO day (.slice fa fN fc) rg (.slice aW nW cW) (.slice aI nI cI) (.slice (some ⟨b, 0, none⟩) (s1.holds.length + 1) c') tv1 (s1.steps + 1)), (g6, rnO r.on)]) (fun J => bk r.on (s1.one.hold xn r.f) M _ tv1 ⟨hRun, hFit1.hold hH1 xn r.f, by show 65538 ≤ s1.steps + 1 + (M : Int); omega, by show M ≤ N; omega, by show 0 ≤ r.on.next ∧ r.on.next < _; rw [hon]; have := hX.next (show ((28 : Int)) ≠ 30 by decide); omega⟩ (by omega) J) (by kernel_chk) (by kernel_chk) (by kernel_chk)
  · refine Goes.lone1 4 (TookS.runV 4 0 [1, 2] [] [g, g6, g7, gb] (by simp) ?_)
    refine Goes.lone1 11 (TookS.effM 11 (Builtin.append_ #[37, 37] 37 #[hv1, .slice (some ⟨gb, 0, none⟩) 1 1]) fun w2 hm2 hn2 hI2 hM2 => ?_)
    have z1 : w2.heap[gb]? = some (.cells #[.int .i64 xn, .int .i64 r.f] 86 (0, 0)) := hm2.get 3
    have y0 : w2.heap[g]? = some (vmO day (.slice fa fN fc) rg (.slice aW nW cW) (.slice aI nI cI) hv1 tv1 (s1.steps + 1)) := hm2.get 0
    have y6 : w2.heap[g6]? = some (rnO r.on) := hm2.get 1
    have y7 : w2.heap[g7]? = some (.cells (iC ⟨28, xa, xb, xc, xn, xs, xt⟩).toArray 72 (0, 0)) := hm2.get 2
    obtain ⟨b, c', w3, hr3, hI3, hk3⟩ := hI2.now.live (Nat.le_trans hBw.size hI2.now.1.size) (xn, r.f) z1 (by have := hH1; have e : s1.one.holds = s1.holds := rfl; rw [e] at this; omega) (ty := 37) (c := 1)
    have k0 : w3.heap[g]? = some (vmO day (.slice fa fN fc) rg (.slice aW nW cW) (.slice aI nI cI) hv1 tv1 (s1.steps + 1)) := hk3 g _ _ _ y0 (by decide)
    have k6 : w3.heap[g6]? = some (rnO r.on) := rn_kept hk3 y6
    have k7 : w3.heap[g7]? = some (.cells (iC ⟨28, xa, xb, xc, xn, xs, xt⟩).toArray 72 (0, 0)) := hk3 g7 _ _ _ y7 (by decide)
    refine ⟨_, w3, _, [(g, vmO day (.slice fa fN fc) rg (.slice aW nW cW) (.slice aI nI cI) hv1 tv1 (s1.steps + 1)), (g6, rnO r.on), (g7, .cells (iC ⟨28, xa, xb, xc, xn, xs, xt⟩).toArray 72 (0, 0))], hr3, by rw [show anyM _ = [(g6, rnO r.on), (g7, .cells (iC ⟨28, xa, xb, xc, xn, xs, xt⟩).toArray 72 (0, 0))] from by kernel_chk]; exact holds2v k6 k7, hold_in (by simpa using ⟨k0, k6, k7⟩), hnd, hI3.stay ⟨_, _, _, k0, by decide, by decide⟩ (hids k6 k7), ?_⟩
    refine Goes.run [12, 13] [] trivial ?_
    refine Goes.lone1 14 (TookS.runV 14 0 [1, 2] [] [g, g6, g7] (by simp) ?_)
    refine Goes.run [] [] trivial ?_
    refine Goes.keep 2 ?_
    exact Goes.at (K := ruH) (n := 84) (S := uS g g6) (m := [(g, vmO day (.slice fa fN fc) rg (.slice aW nW cW) (.slice aI nI cI) (.slice (some ⟨b, 0, none⟩) (s1.holds.length + 1) c') tv1 (s1.steps + 1)), (g6, rnO r.on)]) (fun J => bk r.on (s1.one.hold xn r.f) M _ tv1 ⟨hRun, hFit1.hold hH1 xn r.f, by show 65538 ≤ s1.steps + 1 + (M : Int); omega, by show M ≤ N; omega, by show 0 ≤ r.on.next ∧ r.on.next < _; rw [hon]; have := hX.next (show ((28 : Int)) ≠ 30 by decide); omega⟩ (by omega) J) (by kernel_chk) (by kernel_chk) (by kernel_chk)
end
end Go.Proofs.YtddbiiejilcbbaaGreatDoor
namespace Go.Proofs.YtddbiiejilcbbaaGreatDoor
open Go Go.RowKit

section
variable {w0 w : World} {k : Kd} {fs : Fs} {fa aW aI : Option Addr} {fN fc nW cW nI cI : Nat} {rg day : Int} {g g6 g7 : Nat} {hv tv hv1 tv1 : Value} {sh : List (Int × Int)} {so : List (List UInt8 × Int)} {N M i : Nat} {R s1 : Ms} {r : Rg} {x : Ik} {Q : Ending → World → Prop}

set_option maxHeartbeats 4000000 in
set_option maxRecDepth 100000 in
seal rn rnN rnS Goes ans atEnd put0 put putM opened openedY putA0 putA oneSt st0 st0S offL keep mkSt newSt newOS rnO ruH ruS in
theorem run_call {xa xb xc xn xt : Int} {xs : List UInt8} (H : CaseH w0 w k fs fa aW aI fN fc nW cW nI cI rg day g g6 g7 hv tv sh so N M i s1 r ⟨29, xa, xb, xc, xn, xs, xt⟩) (ih : RunAt w0 k fs fa fN fc rg aW nW cW aI nI cI day g M) (hRun : runP k fs day M r.on (runP k fs day M ⟨zeros, entK k xn, r.f⟩ s1.one) = R) (bk : BackTo w0 w k fs fa aW aI fN fc nW cW nI cI rg day g g6 hv tv N M R Q) (J : Nat → Value) : Goes Tryz.prog (bodyPost Tryz.prog Tryz.f31 Q) (McI w0.heap.size g day w hv tv hv1 tv1 s1.holds s1.out) ⟨ruS, fr 84 (uS g g6 ++ [(7, .pointer (some ⟨g7, 0, none⟩))]) J, [(g, vmO day (.slice fa fN fc) rg (.slice aW nW cW) (.slice aI nI cI) hv1 tv1 (s1.steps + 1)), (g6, rnO r.on), (g7, .cells (iC ⟨29, xa, xb, xc, xn, xs, xt⟩).toArray 72 (0, 0))]⟩ := by
  obtain ⟨h0, hg0, hBw, hl, ht, hge, hg6, hg7, hne, hX, hFit, hFit1, hH1, hLeft, hMost, hon⟩ := H
  obtain ⟨wn0, wn1⟩ := hX.wait (.inr rfl)
  replace wn0 : 0 ≤ xn := wn0
  replace wn1 : xn < (k.waits.length : Int) := wn1
  obtain ⟨ce0, ce1⟩ := hX.call rfl
  replace ce0 : 0 ≤ entK k xn := ce0
  replace ce1 : entK k xn < (k.ins.length : Int) := ce1
  obtain ⟨m, rfl⟩ : ∃ m : Nat, xn = (m : Int) := ⟨xn.toNat, by omega⟩
  have hmW : m < nW := by rw [← h0.code.lw]; omega
  obtain ⟨y, hy⟩ : ∃ y, k.waits[m]? = some y := ⟨k.waits[m]'(by omega), by simp⟩
  obtain ⟨-, bW, oW, rfl, hbW, hcW⟩ := h0.code.waits m y hy
  obtain ⟨obW, hobW⟩ := obj_ofV hbW
  have hent : entK k (m : Int) = y.entry := by unfold entK; rw [Int.toNat_natCast, hy]
  rw [hent] at hRun ce0 ce1
  obtain ⟨at', hat⟩ : ∃ a : Nat, y.entry = (a : Int) := ⟨y.entry.toNat, by omega⟩
  rw [hat] at hRun ce0 ce1
  obtain ⟨S2, hS2⟩ : ∃ S2, runP k fs day M ⟨zeros, (at' : Int), r.f⟩ s1.one = S2 := ⟨_, rfl⟩
  rw [hS2] at hRun
  have hfit2 : S2.Fit := by rw [← hS2]; exact runP_fit k fs day M _ _ hFit1
  have hst2 : s1.steps + 1 ≤ S2.steps := by rw [← hS2]; exact (runP_steps k fs day M _ s1.one).1
  have hloc : ∀ r1 : Rg, Loc5 w [(g6, rnO r1), (g7, .cells (iC ⟨29, xa, xb, xc, (m : Int), xs, xt⟩).toArray 72 (0, 0))] := fun r1 q hq => by
    simp only [List.mem_cons, List.not_mem_nil, or_false] at hq
    rcases hq with rfl | rfl
    · exact ⟨hg6, rn_cells r1⟩
    · exact ⟨hg7, _, _, _, rfl, by decide⟩
  have hex : ∀ q ∈ [(bW, obW)], q.1 ∉ [g, g6, g7] := fun q hq hm => by
    have := hBw.size
    simp only [List.mem_cons, List.not_mem_nil, or_false] at hq hm
    subst hq
    rcases hm with h | h | h <;> simp only at h <;> omega
  refine Goes.run [2, 0, 1] [(true, true), (false, false)] ⟨rfl, rfl, trivial⟩ ?_
  refine Goes.openY [1, 2] [(bW, obW)] (fun w' hI => hold1v (((hBv hg0 hBw hl ht hI).block bW hbW).trans hobW)) ?_
  refine Goes.run [0, 1, 2, 3, 4, 6, 7, 1, 11] [] trivial ?_
  refine Goes.valA 12 (Instr.loadAt 2 (.pointer (some ⟨g6, 257, none⟩))) (.int .i64 r.f) (fun w' hm => rn_ldF (r := r.on) (hm.get 0)) ?_
  refine Goes.lone1 5 (TookS.runV 5 0 [1, 2] [(bW, obW)] [g, g6, g7] hex ?_)
  refine Goes.valA 8 (Instr.indexAt 24 (.slice (some ⟨bW, oW, none⟩) nW cW) (.int .i64 m)) (.pointer (some ⟨bW, oW + m * 5, none⟩)) (fun w' _ => idxWk bW oW nW cW m hmW w') ?_
  refine Goes.run [9] [] trivial ?_
  refine Goes.valA 10 (Instr.loadAt 3 (.pointer (some ⟨bW, oW + m * 5, none⟩))) (.int .i64 at') (fun w' hm => by rw [← hat]; exact load1 Tryz.isAgg3 (hcW.objV hobW (hm.get 2) 0 _ rfl)) ?_
  refine Goes.callVQA 13 31 #[.pointer (some ⟨g, 0, none⟩), .int .i64 at', .int .i64 r.f] (.tuple #[]) (vmB day (.slice fa fN fc) rg (.slice (some ⟨bW, oW, none⟩) nW cW) (.slice aI nI cI) (s1.steps + 1)) (vmB day (.slice fa fN fc) rg (.slice (some ⟨bW, oW, none⟩) nW cW) (.slice aI nI cI) S2.steps) (vmB_is _ _ _ _ _ _) (vmB_is _ _ _ _ _ _) S2.holds S2.out [(g6, rnO r.on), (g7, .cells (iC ⟨29, xa, xb, xc, (m : Int), xs, xt⟩).toArray 72 (0, 0))] (hloc r.on) [(g6, rnO r.on), (g7, .cells (iC ⟨29, xa, xb, xc, (m : Int), xs, xt⟩).toArray 72 (0, 0)), (bW, obW)] (fun q hq => by
    simp only [List.mem_cons, List.not_mem_nil, or_false] at hq
    rcases hq with rfl | rfl | rfl
    · exact .inr (rn_cells _)
    · exact .inr ⟨_, _, _, rfl, by decide⟩
    · exact .inl hbW) hg0 hBw.size (fun w1 hm1 hI1 => by have := ih at' r.f w1 hv1 tv1 s1.one (hBv hg0 hBw hl ht hI1) hI1.2.1 hI1.2.2.1 (hm1.get 0) (by omega) hFit1 (by show 65538 ≤ s1.steps + 1 + (M : Int); omega); rw [hS2] at this; exact this) fun hv2 tv2 => ?_
  refine Goes.run [] [] trivial ?_
  refine Goes.keep 2 ?_
  exact Goes.at (K := ruH) (n := 84) (S := uS g g6) (m := [(g, vmO day (.slice fa fN fc) rg (.slice (some ⟨bW, oW, none⟩) nW cW) (.slice aI nI cI) hv2 tv2 S2.steps), (g6, rnO r.on)]) (fun J => bk r.on S2 M hv2 tv2 ⟨hRun, hfit2, by show 65538 ≤ S2.steps + (M : Int); omega, by show M ≤ N; omega, by show 0 ≤ r.on.next ∧ r.on.next < _; rw [hon]; have := hX.next (show ((29 : Int)) ≠ 30 by decide); omega⟩ (by omega) J) (by kernel_chk) (by kernel_chk) (by kernel_chk)
end
end Go.Proofs.YtddbiiejilcbbaaGreatDoor
namespace Go.Proofs.YtddbiiejilcbbaaGreatDoor
open Go Go.RowKit

theorem Goes.nd {P : Program} {F : Exit → Act → World → Prop} {Inv : World → Prop} {s : St} (L : List Nat) (h : L.Nodup → Goes P F Inv s) (hL : s.mem.ids = L := by kernel_chk) : Goes P F Inv s := fun w hm hn hI => h (hL ▸ hn) w hm hn hI
section
variable {w0 : World} {k : Kd} {fs : Fs} {fa aW aI : Option Addr} {fN fc nW cW nI cI : Nat} {rg day : Int} {g : Nat}
set_option maxHeartbeats 4000000 in
set_option maxRecDepth 100000 in
seal rn rnN rnS Goes ans atEnd put0 put putM opened openedY putA0 putA oneSt st0 st0S offL keep mkSt newSt newOS rnO ruH ruS in
theorem run_step (h0 : Rn0 w0 k fs fa fN fc rg aW nW cW aI nI cI day) (hg0 : w0.heap.size ≤ g) {N : Nat} (ih : ∀ M, M < N → RunAt w0 k fs fa fN fc rg aW nW cW aI nI cI day g M) : RunAt w0 k fs fa fN fc rg aW nW cW aI nI cI day g N := by
  intro at' f w hv tv s hBw hl ht hg hat hfit hN
  obtain ⟨R, hR⟩ : ∃ R, runP k fs day N ⟨zeros, at', f⟩ s = R := ⟨_, rfl⟩
  rw [hR]
  have hlen := right_len h0.right
  have hnw : w0.heap.size ≤ w.heap.size := hBw.size
  have hge : g < w.heap.size := lt_of_get hg
  refine Goes.enterS Tryz.func31 [(g, vmO day (.slice fa fN fc) rg (.slice aW nW cW) (.slice aI nI cI) hv tv s.steps)] (McI w0.heap.size g day w hv tv hv tv s.holds s.out) (hold1v hg) (by simp [Mem.ids]) ((McI.refl hl ht).stay ⟨_, _, _, hg, by decide, by decide⟩ (fun x hx => .inl (by simpa [Mem.ids] using hx))) ?_
  refine Goes.run [] [] trivial ?_
  refine Goes.new1 w.heap.size (fun w' h => h.1.size) fun g6 hg6 => ?_
  refine Goes.run [1] [] trivial ?_
  refine Goes.label ?_
  refine Goes.run [] [] trivial ?_
  refine Goes.at (K := ruH) (n := 84) (S := uS g g6) (m := [(g, vmO day (.slice fa fN fc) rg (.slice aW nW cW) (.slice aI nI cI) hv tv s.steps), (g6, rnO ⟨zeros, (at' : Int), f⟩)]) (fun J0 => ?_) (by kernel_chk) (by kernel_chk) (by kernel_chk)
  refine Goes.loop (α := LpU) 84 (fun x => uS g g6) (fun x => [(g, vmO day (.slice fa fN fc) rg (.slice aW nW cW) (.slice aI nI cI) x.hv x.tv x.s.steps), (g6, rnO x.r)]) (fun x => McI w0.heap.size g day w hv tv x.hv x.tv x.s.holds x.s.out) (LpU.ok k fs day N R) (fun x => x.M) ⟨⟨zeros, at', f⟩, s, N, hv, tv⟩ ⟨hR, hfit, hN, Nat.le_refl _, by show 0 ≤ (at' : Int) ∧ (at' : Int) < _; omega⟩ (fun w' h => h) ?_
  rintro ⟨r, s1, M, hv1, tv1⟩ J ⟨hRun, hFit, hLeft, hMost, hNext⟩ back
  replace hRun : runP k fs day M r s1 = R := hRun
  replace hFit : s1.Fit := hFit
  replace hLeft : 65538 ≤ s1.steps + (M : Int) := hLeft
  replace hMost : M ≤ N := hMost
  replace hNext : 0 ≤ r.next ∧ r.next < (k.ins.length : Int) := hNext
  show Goes _ _ (McI w0.heap.size g day w hv tv hv1 tv1 s1.holds s1.out) ⟨ruH, fr 84 (uS g g6) J, [(g, vmO day (.slice fa fN fc) rg (.slice aW nW cW) (.slice aI nI cI) hv1 tv1 s1.steps), (g6, rnO r)]⟩
  refine Goes.pure (Q := ∃ ah ch, hv1 = .slice ah s1.holds.length ch) (fun w' h => own_form h.2.1) ?_
  rintro ⟨ah, ch, rfl⟩
  refine Goes.run [0] [] trivial ?_
  refine Goes.call0 65 #[.pointer (some ⟨g, 0, none⟩)] (.bool (overM s1)) (fun w' hm hI => vtoo_any (show w'.heap[g]? = some (vmO day (.slice fa fN fc) rg (.slice aW nW cW) (.slice aI nI cI) (.slice ah s1.holds.length ch) tv1 s1.steps) from hm.get 0)) ?_
  cases hov : overM s1 with
  | true =>
    rw [runP_over hov] at hRun
    subst hRun
    refine Goes.run [0] [(false, false)] ⟨rfl, trivial⟩ ?_
    exact Goes.ret [] (.tuple #[]) fun w' hm hI => ⟨_, tv1, rfl, hm.get 0, hI.now⟩
  | false =>
  obtain ⟨ov1, ov2⟩ := over_iff.1 hov
  obtain ⟨hFit1, hH1⟩ := hFit.one hov
  obtain ⟨i, hi⟩ : ∃ i : Nat, r.next = (i : Int) := ⟨r.next.toNat, by omega⟩
  have hiI : i < nI := by rw [← h0.code.li]; omega
  obtain ⟨x, hx⟩ : ∃ x, k.ins[i]? = some x := ⟨k.ins[i]'(by omega), by simp⟩
  have hX := right_x h0.right hx
  obtain ⟨M', rfl⟩ : ∃ M', M = M' + 1 := ⟨M - 1, by omega⟩
  rw [runP_at hov hi hx] at hRun
  obtain ⟨-, bI, oI, rfl, hbI, hcI⟩ := h0.code.ins i x hx
  obtain ⟨obI, hobI0⟩ := obj_ofV hbI
  refine Goes.run [1, 0, 0] [(true, true)] ⟨rfl, trivial⟩ ?_
  refine Goes.objs [(g, vmO day (.slice fa fN fc) rg (.slice aW nW cW) (.slice (some ⟨bI, oI, none⟩) nI cI) (.slice ah s1.holds.length ch) tv1 (s1.steps + 1)), (g6, rnO r)] (fun w' h => holds2v (by have := h.get 0 (b := g) (o := vmO day (.slice fa fN fc) rg (.slice aW nW cW) (.slice (some ⟨bI, oI, none⟩) nI cI) (.slice ah s1.holds.length ch) tv1 (IntKind.i64.wrap (s1.steps + 1))); rwa [IntWalk.i64_in _ ⟨by have := hFit.lo; omega, by omega⟩] at this) (h.get 1)) ?_
  refine Goes.openY [0, 1] [(bI, obI)] (fun w' hI => hold1v (((hBv hg0 hBw hl ht hI).block bI hbI).trans hobI0)) ?_
  have hex2 : ∀ q ∈ [(bI, obI)], q.1 ∉ [g, g6] := fun q hq hm => by
    simp only [List.mem_cons, List.not_mem_nil, or_false] at hq hm
    subst hq
    rcases hm with h | h <;> simp only at h <;> omega
  refine Goes.run [0, 1, 2, 3, 4, 0, 5] [] trivial ?_
  refine Goes.valA 6 (Instr.loadAt 3 (.pointer (some ⟨g6, 256, none⟩))) (.int .i64 (i : Int)) (fun w' hm => by rw [← hi]; exact rn_ldN (hm.get 1)) ?_
  refine Goes.valA 7 (Instr.indexAt 25 (.slice (some ⟨bI, oI, none⟩) nI cI) (.int .i64 i)) (.pointer (some ⟨bI, oI + i * 7, none⟩)) (fun w' _ => idxIk bI oI nI cI i hiI w') ?_
  refine Goes.valA 8 (Instr.loadAt 72 (.pointer (some ⟨bI, oI + i * 7, none⟩))) (iV x) (fun w' hm => loadI (hcI.objV hobI0 (hm.get 2))) ?_
  refine Goes.lone1 9 (TookS.new1V 9 w.heap.size [0, 1] [(bI, obI)] [g, g6] hex2 (fun w' h => h.1.size) fun g7 hg7 => ?_)
  refine Goes.nd [g, g6, g7] (fun hnd => ?_)
  have hne : g6 ≠ g7 := by simp at hnd; exact hnd.2
  have hex3 : ∀ q ∈ [(bI, obI)], q.1 ∉ [g, g6, g7] := fun q hq hm => by
    simp only [List.mem_cons, List.not_mem_nil, or_false] at hq hm
    subst hq
    rcases hm with h | h | h <;> simp only at h <;> omega
  refine Goes.lone1 10 (TookS.runV 10 2 [0, 1] [(bI, obI)] [g, g6, g7] hex3 ?_)
  refine Goes.run [] [] trivial ?_
  refine Goes.val (Instr.loadAt 3 (.pointer (some ⟨g6, 256, none⟩))) (.int .i64 (i : Int)) (fun w' hm _ => by rw [← hi]; exact rn_ldN (hm.get 1)) ?_
  refine Goes.run [] [] trivial ?_
  refine Goes.slot 32 (.int .i64 ((i : Int) + 1)) (u := .int .i64 (IntKind.i64.wrap ((i : Int) + 1))) (congrArg _ (IntWalk.i64_in _ ⟨by omega, by omega⟩)) ?_
  have hON : r.on = r.go ((i : Int) + 1) true := by rw [← hi]; rfl
  refine Goes.stoK 1 g6 (Instr.storeAt 3 (.pointer (some ⟨g6, 256, none⟩)) (.int .i64 ((i : Int) + 1))) (rnO r.on) (fun w' hm => by rw [hON]; exact rn_stN (show w'.heap[g6]? = some (rnO r) from hm.get 1) ((i : Int) + 1)) ?_
  have hon : r.on.next = ((i + 1 : Nat) : Int) := by show r.next + 1 = _; rw [hi]; rfl
  refine Goes.at (K := ruS) (n := 84) (S := uS g g6 ++ [(7, .pointer (some ⟨g7, 0, none⟩))]) (m := [(g, vmO day (.slice fa fN fc) rg (.slice aW nW cW) (.slice (some ⟨bI, oI, none⟩) nI cI) (.slice ah s1.holds.length ch) tv1 (s1.steps + 1)), (g6, rnO r.on), (g7, .cells (iC x).toArray 72 (0, 0))]) (fun J1 => ?_) (by kernel_chk) (by kernel_chk) (by kernel_chk)
  have H : CaseH w0 w k fs fa aW (some ⟨bI, oI, none⟩) fN fc nW cW nI cI rg day g g6 g7 hv tv s.holds s.out N M' i s1 r x := ⟨h0, hg0, hBw, hl, ht, hge, hg6, hg7, hne, hX, hFit, hFit1, hH1, hLeft, hMost, hon⟩
  have bk : BackTo w0 w k fs fa aW (some ⟨bI, oI, none⟩) fN fc nW cW nI cI rg day g g6 hv tv N M' R (VQ w0.heap.size g day (vmB day (.slice fa fN fc) rg (.slice aW nW cW) (.slice (some ⟨bI, oI, none⟩) nI cI) R.steps) w hv tv (.tuple #[]) R.holds R.out) := fun r' s' M2 hv' tv' hok hlt J2 => back ⟨r', s', M2, hv', tv'⟩ ⟨ruH, fr 84 (uS g g6) J2, [(g, vmO day (.slice fa fN fc) rg (.slice aW nW cW) (.slice (some ⟨bI, oI, none⟩) nI cI) hv' tv' s'.steps), (g6, rnO r')]⟩ hok hlt rfl (by kernel_chk) rfl
  cases h30 : (x.op == 30) with
  | true =>
    rw [h30] at hRun
    replace hRun : s1.one = R := hRun
    subst hRun
    obtain ⟨xo, xa, xb, xc, xn, xs, xt⟩ := x
    obtain rfl : xo = 30 := by simpa using h30
    exact run_end (fun w' h hI => ⟨_, _, rfl, h, hI⟩) J1
  | false =>
  rw [h30] at hRun
  cases h29 : (x.op == 29) with
  | true =>
    rw [h29] at hRun
    obtain ⟨xo, xa, xb, xc, xn, xs, xt⟩ := x
    obtain rfl : xo = 29 := by simpa using h29
    exact run_call H (ih M' (by omega)) hRun bk J1
  | false =>
  rw [h29] at hRun
  cases h28 : (x.op == 28) with
  | true =>
    rw [h28] at hRun
    obtain ⟨xo, xa, xb, xc, xn, xs, xt⟩ := x
    obtain rfl : xo = 28 := by simpa using h28
    exact run_wait H hRun bk J1
  | false =>
  rw [h28] at hRun
  cases h27 : (x.op == 27) with
  | true =>
    rw [h27] at hRun
    obtain ⟨xo, xa, xb, xc, xn, xs, xt⟩ := x
    obtain rfl : xo = 27 := by simpa using h27
    exact run_pay H hRun bk J1
  | false =>
  rw [h27] at hRun
  exact run_rest H h30 h29 h28 h27 hRun bk J1
/-- The program's run is the plain one. -/
theorem run_all (h0 : Rn0 w0 k fs fa fN fc rg aW nW cW aI nI cI day) (hg0 : w0.heap.size ≤ g) (N : Nat) : RunAt w0 k fs fa fN fc rg aW nW cW aI nI cI day g N := by
  induction N using Nat.strongRecOn with
  | _ N ih => exact run_step h0 hg0 ih
end
end Go.Proofs.YtddbiiejilcbbaaGreatDoor
namespace Go.Proofs.YtddbiiejilcbbaaGreatDoor
open Go Go.RowKit

theorem runD_at {k : Kd} {fs : Fs} {day : Int} {n i : Nat} {r : Rg} {s : Ms} {x : Ik} (hr : r.next = (i : Int)) (hx : k.ins[i]? = some x) : runD k fs day (n + 1) r s = bif decide (s.one.steps > 65536) then (s.one, true) else
      bif x.op == 30 then (s.one, false) else
      bif x.op == 29 then (bif (runD k fs day n ⟨zeros, entK k x.n, r.f⟩ s.one).2 then runD k fs day n ⟨zeros, entK k x.n, r.f⟩ s.one else runD k fs day n r.on (runD k fs day n ⟨zeros, entK k x.n, r.f⟩ s.one).1) else
      bif x.op == 28 then (bif decide (((s.one.hold x.n r.f).holds.length : Int) > 250) then (s.one.hold x.n r.f, true) else runD k fs day n r.on (s.one.hold x.n r.f)) else
      bif x.op == 27 then runD k fs day n r.on (s.one.pay x.s r.f) else
      runD k fs day n (doQ fs day x r.on) s.one := by
  rw [runD, hr, Int.toNat_natCast, hx]
section
variable {w0 : World} {k : Kd} {fs : Fs} {fa aW aI : Option Addr} {fN fc nW cW nI cI : Nat} {rg day : Int} {g : Nat}
set_option maxHeartbeats 4000000 in
set_option maxRecDepth 100000 in
seal rn rnN rnS Goes ans atEnd put0 put putM opened openedY putA0 putA oneSt st0 keep mkSt newSt rgO erH erS erT in
theorem der_step (h0 : Rn0 w0 k fs fa fN fc rg aW nW cW aI nI cI day) (hg0 : w0.heap.size ≤ g) {N : Nat} (ih : ∀ M, M < N → RunDt w0 k fs fa fN fc rg aW nW cW aI nI cI day g M) : RunDt w0 k fs fa fN fc rg aW nW cW aI nI cI day g N := by
  intro at' f w hv tv s hBw hl ht hg hat hfit hov hN
  obtain ⟨R, hR⟩ : ∃ R, runD k fs day N ⟨zeros, at', f⟩ s = R := ⟨_, rfl⟩
  rw [hR]
  have hlen := right_len h0.right
  have hnw : w0.heap.size ≤ w.heap.size := hBw.size
  have hge : g < w.heap.size := lt_of_get hg
  refine Goes.enter Tryz.func21 [(g, dmO day (.slice fa fN fc) hv tv s.steps false)] (McI w0.heap.size g day w hv tv hv tv s.holds s.out) (hold1v hg) (by simp [Mem.ids]) ((McI.refl hl ht).stay ⟨_, _, _, hg, by decide, by decide⟩ (fun x hx => .inl (by simpa [Mem.ids] using hx))) ?_
  refine Goes.run [] [] trivial ?_
  refine Goes.new1 w.heap.size (fun w' h => h.1.size) fun gc hgc => ?_
  refine Goes.run [] [] trivial ?_
  refine Goes.eff (Instr.makeSlice 101 (.int .i64 256) (.int .i64 256)) fun w1 hm1 hn1 hI1 => ?_
  have y0 : w1.heap[g]? = some (dmO day (.slice fa fN fc) hv tv s.steps false) := hm1.get 0
  have yc : w1.heap[gc]? = some (cdO rg (.slice aW nW cW) (.slice aI nI cI)) := hm1.get 1
  have hmk := makeG w1
  have hgw : gc < w1.heap.size := lt_of_get yc
  have hlast := heap_alloc_last w1 (rgO zeros)
  have hB1 : Below w1.heap.size w1 (w1.alloc (rgO zeros)) := (Below.refl _ _).alloc (Nat.le_refl _) _
  have hsz : w.heap.size ≤ w1.heap.size := hI1.now.1.size
  obtain ⟨gR, hgRe⟩ : ∃ n, w1.heap.size = n := ⟨_, rfl⟩
  rw [hgRe] at hmk hlast hgw hsz
  have k0 : (w1.alloc (rgO zeros)).heap[g]? = some (dmO day (.slice fa fN fc) hv tv s.steps false) := (hB1.block g (by omega)).trans y0
  have kc : (w1.alloc (rgO zeros)).heap[gc]? = some (cdO rg (.slice aW nW cW) (.slice aI nI cI)) := (hB1.block gc (by omega)).trans yc
  have hgR : w.heap.size ≤ gR := hsz
  refine ⟨slG gR, w1.alloc (rgO zeros), McI w0.heap.size g day w hv tv hv tv s.holds s.out, [(g, dmO day (.slice fa fN fc) hv tv s.steps false), (gc, cdO rg (.slice aW nW cW) (.slice aI nI cI)), (gR, rgO zeros)], hmk, hold_in (by simpa using ⟨k0, kc, hlast⟩), by simp [Mem.ids]; omega, (hI1.bel hB1).now.stay ⟨_, _, _, k0, by decide, by decide⟩ (fun y hy => ?_), ?_⟩
  · simp only [Mem.ids, List.map_cons, List.map_nil, List.mem_cons, List.not_mem_nil, or_false] at hy
    rcases hy with rfl | rfl | rfl
    · exact .inl rfl
    · exact .inr ⟨hgc, _, _, _, kc, by decide⟩
    · exact .inr ⟨hgR, rg_blk hlast⟩
  refine Goes.run [] [] trivial ?_
  refine Goes.at (K := erH) (n := 228) (S := eS g gc gR ⟨zeros, (at' : Int), f⟩) (m := [(g, dmO day (.slice fa fN fc) hv tv s.steps false), (gc, cdO rg (.slice aW nW cW) (.slice aI nI cI)), (gR, rgO zeros)]) (fun J0 => ?_) (by kernel_chk) (by kernel_chk) (by kernel_chk)
  refine Goes.loop (α := LpE) 228 (fun x => eS g gc gR x.r) (fun x => [(g, dmO day (.slice fa fN fc) x.hv x.tv x.s.steps x.bad), (gc, cdO rg (.slice aW nW cW) (.slice aI nI cI)), (gR, rgO x.r.regs)]) (fun x => McI w0.heap.size g day w hv tv x.hv x.tv x.s.holds x.s.out) (LpE.ok k fs day N R) (fun x => x.M) ⟨⟨zeros, at', f⟩, s, false, N, hv, tv⟩ ⟨hR, Nat.le_refl _, fun _ => ⟨hfit, hov, hN, by show 0 ≤ (at' : Int) ∧ (at' : Int) < _; omega⟩⟩ (fun w' h => h) ?_
  rintro ⟨⟨rR, nx, rf⟩, s1, bad, M, hv1, tv1⟩ J ⟨hRun, hMost, hfine⟩ back
  show Goes _ _ (McI w0.heap.size g day w hv tv hv1 tv1 s1.holds s1.out) ⟨erH, fr 228 (eS g gc gR ⟨rR, nx, rf⟩) J, [(g, dmO day (.slice fa fN fc) hv1 tv1 s1.steps bad), (gc, cdO rg (.slice aW nW cW) (.slice aI nI cI)), (gR, rgO rR)]⟩
  cases bad with
  | true =>
    replace hRun : (s1, true) = R := hRun
    subst hRun
    refine Goes.run [0, 0, 0] [(false, false)] ⟨rfl, trivial⟩ ?_
    exact Goes.ret [] (.tuple #[]) fun w' hm hI => ⟨hv1, tv1, rfl, hm.get 0, hI.now⟩
  | false =>
  obtain ⟨hFit, hov1, hLeft, hn0, hn1⟩ := hfine rfl
  replace hRun : runD k fs day M ⟨rR, nx, rf⟩ s1 = R := hRun
  replace hFit : s1.Fit := hFit
  replace hov1 : overM s1 = false := hov1
  replace hLeft : 65538 ≤ s1.steps + (M : Int) := hLeft
  replace hMost : M ≤ N := hMost
  replace hn0 : 0 ≤ nx := hn0
  replace hn1 : nx < (k.ins.length : Int) := hn1
  obtain ⟨ov1, ov2⟩ := over_iff.1 hov1
  obtain ⟨hFit1, hH1⟩ := hFit.one hov1
  obtain ⟨i, rfl⟩ : ∃ i : Nat, nx = (i : Int) := ⟨nx.toNat, by omega⟩
  have hiI : i < nI := by rw [← h0.code.li]; omega
  obtain ⟨x, hx⟩ : ∃ x, k.ins[i]? = some x := ⟨k.ins[i]'(by omega), by simp⟩
  have hX := right_x h0.right hx
  obtain ⟨M', rfl⟩ : ∃ M', M = M' + 1 := ⟨M - 1, by omega⟩
  rw [runD_at (r := ⟨rR, (i : Int), rf⟩) rfl hx] at hRun
  obtain ⟨hs, bI, oI, rfl, hbI, hcI⟩ := h0.code.ins i x hx
  refine Goes.run [0, 0, 1, 1] [(true, true)] ⟨rfl, trivial⟩ ?_
  refine Goes.val (Instr.indexAt 25 (.slice (some ⟨bI, oI, none⟩) nI cI) (.int .i64 i)) (.pointer (some ⟨bI, oI + i * 7, none⟩)) (fun w' _ _ => idxIk bI oI nI cI i hiI w') ?_
  refine Goes.val (Instr.loadAt 72 (.pointer (some ⟨bI, oI + i * 7, none⟩))) (iV x) (fun w' hm hI => loadI (hcI.below hbI (hBv hg0 hBw hl ht hI.now))) ?_
  refine Goes.new1 w.heap.size (fun w' h => h.1.size) fun g9 hg9 => ?_
  refine Goes.run [3, 0, 0] [] trivial ?_
  refine Goes.nd [g, gc, gR, g9] (fun hnd => ?_)
  refine Goes.objs [(g, dmO day (.slice fa fN fc) hv1 tv1 (s1.steps + 1) false), (gc, cdO rg (.slice aW nW cW) (.slice (some ⟨bI, oI, none⟩) nI cI)), (gR, rgO rR), (g9, .cells (iC x).toArray 72 (0, 0))] (fun w' h => by
    have e0 := h.get 0 (b := g) (o := dmO day (.slice fa fN fc) hv1 tv1 (IntKind.i64.wrap (s1.steps + 1)) false)
    rw [IntWalk.i64_in _ ⟨by have := hFit.lo; omega, by omega⟩] at e0
    have e1 : w'.heap[gc]? = some (cdO rg (.slice aW nW cW) (.slice (some ⟨bI, oI, none⟩) nI cI)) := h.get 1
    have e2 : w'.heap[gR]? = some (rgO rR) := h.get 2
    have e3 : w'.heap[g9]? = some (.cells (iC x).toArray 72 (0, 0)) := h.get 3
    exact hold_in (by simpa using ⟨e0, e1, e2, e3⟩)) ?_
  refine Goes.slot 2 (.int .i64 ((i : Int) + 1)) (u := .int .i64 (IntKind.i64.wrap ((i : Int) + 1))) (congrArg _ (IntWalk.i64_in _ ⟨by omega, by omega⟩)) ?_
  cases hbig : decide (s1.steps + 1 > 65536) with
  | true =>
    rw [show decide (s1.one.steps > 65536) = true from hbig] at hRun
    replace hRun : (s1.one, true) = R := hRun
    subst hRun
    refine Goes.run [0, 1, 0] [(decide (s1.steps + 1 > 65536), true)] ⟨hbig, trivial⟩ ?_
    exact Goes.ret [] (.tuple #[]) fun w' hm hI => ⟨hv1, tv1, rfl, hm.get 0, hI.now⟩
  | false =>
  rw [show decide (s1.one.steps > 65536) = false from hbig] at hRun
  have hov2 : overM s1.one = false := over_iff.2 ⟨by have := of_decide_eq_false hbig; show s1.steps + 1 ≤ 65536; omega, hH1⟩
  refine Goes.run [0, 0] [(decide (s1.steps + 1 > 65536), false)] ⟨hbig, trivial⟩ ?_
  refine Goes.at (K := erS) (n := 228) (S := eS9 g gc gR g9 ⟨rR, (i : Int) + 1, rf⟩) (m := [(g, dmO day (.slice fa fN fc) hv1 tv1 (s1.steps + 1) false), (gc, cdO rg (.slice aW nW cW) (.slice (some ⟨bI, oI, none⟩) nI cI)), (gR, rgO rR), (g9, .cells (iC x).toArray 72 (0, 0))]) (fun J1 => ?_) (by kernel_chk) (by kernel_chk) (by kernel_chk)
  have H : CaseE w0 w k fs fa aW (some ⟨bI, oI, none⟩) fN fc nW cW nI cI rg day g gc gR g9 hv tv s.holds s.out N M' i s1 ⟨rR, (i : Int) + 1, rf⟩ x := ⟨h0, hg0, hBw, hl, ht, hge, hgc, hgR, hg9, hnd, hX, hs, hFit, hFit1, hov2, hH1, hLeft, hMost, rfl⟩
  have bk : BackE w0 w k fs fa aW (some ⟨bI, oI, none⟩) fN fc nW cW nI cI rg day g gc gR hv tv N M' R (VQ w0.heap.size g day (dmB day (.slice fa fN fc) R.1.steps R.2) w hv tv (.tuple #[]) R.1.holds R.1.out) := fun r' s' b' M2 hv' tv' hok hlt J2 => back ⟨r', s', b', M2, hv', tv'⟩ ⟨erH, fr 228 (eS g gc gR r') J2, [(g, dmO day (.slice fa fN fc) hv' tv' s'.steps b'), (gc, cdO rg (.slice aW nW cW) (.slice (some ⟨bI, oI, none⟩) nI cI)), (gR, rgO r'.regs)]⟩ hok hlt rfl (by kernel_chk) rfl
  have tl := fun (x : Ik) => tail_any (g9 := g9) (x := x) bk
  cases h30 : (x.op == 30) with
  | true =>
    obtain ⟨xo, xa, xb, xc, xn, xs, xt⟩ := x
    obtain rfl : xo = 30 := by simpa using h30
    replace hRun : (s1.one, false) = R := hRun
    subst hRun
    exact ed_30 (fun w' h hI => ⟨hv1, tv1, rfl, h, hI⟩) J1
  | false =>
  cases h1 : (x.op == 1) with
  | true =>
    obtain ⟨xo, xa, xb, xc, xn, xs, xt⟩ := x
    obtain rfl : xo = 1 := by simpa using h1
    exact ed_1 H hRun (tl _) J1
  | false =>
  cases h3 : (x.op == 3) with
  | true =>
    obtain ⟨xo, xa, xb, xc, xn, xs, xt⟩ := x
    obtain rfl : xo = 3 := by simpa using h3
    exact ed_3 H hRun (tl _) J1
  | false =>
  cases h2 : (x.op == 2) with
  | true =>
    obtain ⟨xo, xa, xb, xc, xn, xs, xt⟩ := x
    obtain rfl : xo = 2 := by simpa using h2
    exact ed_2 H hRun (tl _) J1
  | false =>
  cases h19 : (x.op == 19) with
  | true =>
    obtain ⟨xo, xa, xb, xc, xn, xs, xt⟩ := x
    obtain rfl : xo = 19 := by simpa using h19
    exact ed_19 H hRun (tl _) J1
  | false =>
  cases h20 : (x.op == 20) with
  | true =>
    obtain ⟨xo, xa, xb, xc, xn, xs, xt⟩ := x
    obtain rfl : xo = 20 := by simpa using h20
    exact ed_20 H hRun (tl _) J1
  | false =>
  cases h21 : (x.op == 21) with
  | true =>
    obtain ⟨xo, xa, xb, xc, xn, xs, xt⟩ := x
    obtain rfl : xo = 21 := by simpa using h21
    exact ed_21 H hRun (tl _) J1
  | false =>
  cases h22 : (x.op == 22) with
  | true =>
    obtain ⟨xo, xa, xb, xc, xn, xs, xt⟩ := x
    obtain rfl : xo = 22 := by simpa using h22
    exact ed_22 H hRun (tl _) J1
  | false =>
  cases h23 : (x.op == 23) with
  | true =>
    obtain ⟨xo, xa, xb, xc, xn, xs, xt⟩ := x
    obtain rfl : xo = 23 := by simpa using h23
    exact ed_23 H hRun (tl _) J1
  | false =>
  cases h24 : (x.op == 24) with
  | true =>
    obtain ⟨xo, xa, xb, xc, xn, xs, xt⟩ := x
    obtain rfl : xo = 24 := by simpa using h24
    exact ed_24 H hRun (tl _) J1
  | false =>
  cases h25 : (x.op == 25) with
  | true =>
    obtain ⟨xo, xa, xb, xc, xn, xs, xt⟩ := x
    obtain rfl : xo = 25 := by simpa using h25
    exact ed_25 H hRun (tl _) J1
  | false =>
  cases h26 : (x.op == 26) with
  | true =>
    obtain ⟨xo, xa, xb, xc, xn, xs, xt⟩ := x
    obtain rfl : xo = 26 := by simpa using h26
    exact ed_26 H hRun (tl _) J1
  | false =>
  cases h27 : (x.op == 27) with
  | true =>
    obtain ⟨xo, xa, xb, xc, xn, xs, xt⟩ := x
    obtain rfl : xo = 27 := by simpa using h27
    exact ed_27 H hRun (tl _) J1
  | false =>
  cases h28 : (x.op == 28) with
  | true =>
    obtain ⟨xo, xa, xb, xc, xn, xs, xt⟩ := x
    obtain rfl : xo = 28 := by simpa using h28
    exact ed_28 H hRun (tl _) J1
  | false =>
  cases h29 : (x.op == 29) with
  | true =>
    obtain ⟨xo, xa, xb, xc, xn, xs, xt⟩ := x
    obtain rfl : xo = 29 := by simpa using h29
    exact ed_29 H (ih M' (by omega)) hRun (tl _) J1
  | false =>
  rw [h30, h29, h28, h27] at hRun
  obtain ⟨xo, xa, xb, xc, xn, xs, xt⟩ := x
  exact ed_rest H h30 h1 h3 h2 h19 h20 h21 h22 h23 h24 h25 h26 h27 h28 h29 hRun (tl _) J1
/-- The document's run is the plain one. -/
theorem der_all (h0 : Rn0 w0 k fs fa fN fc rg aW nW cW aI nI cI day) (hg0 : w0.heap.size ≤ g) (N : Nat) : RunDt w0 k fs fa fN fc rg aW nW cW aI nI cI day g N := by
  induction N using Nat.strongRecOn with
  | _ N ih => exact der_step h0 hg0 ih
end
end Go.Proofs.YtddbiiejilcbbaaGreatDoor
namespace Go.Proofs.YtddbiiejilcbbaaGreatDoor
open Go Go.RowKit

theorem eqHd (a b c d : Int) (w : World) : (Op.equalIn 10000 86 (.agg #[.int .i64 a, .int .i64 b]) (.agg #[.int .i64 c, .int .i64 d])).run Tryz.prog w = .ok (a == c && b == d) w := by
  have u3 := Tryz.underlying3
  have a3 := Tryz.isAgg3
  have z3 := Tryz.sizeOf3
  have u2 := Tryz.underlying2
  have a2 := Tryz.isAgg2
  have z2 := Tryz.sizeOf2
  have hS : Tryz.prog.underlying 86 = some (.struct (Tryz.prog.fieldsOf 86)) := by kernel_chk
  rw [show (10000 : Nat) = 9999 + 1 from rfl, run_equalIn_agg w 9999 86 _ _ hS (by kernel_chk)]
  simp only [Program.fieldsOf, Tryz.underlying86]
  go_simp
  by_cases h1 : a = c <;> by_cases h2 : b = d <;> simp [h1, h2]
theorem sizeHd : (Tryz.prog.info? 86).map (·.size) = some 2 := by kernel_chk
theorem cell_obj {w : World} {b i : Nat} {cur : Array Value} {t : TypeId} {z : Nat × Nat} {u : Value} (h : w.heap[b]? = some (.cells cur t z)) (hi : cur[i]? = some u) : w.cell? ⟨b, i, none⟩ = some u := by
  unfold World.cell?
  rw [h]
  simpa using hi
theorem loadHd {w : World} {b o : Nat} {x y : Value} (h0 : w.cell? ⟨b, o, none⟩ = some x) (h1 : w.cell? ⟨b, o + 1, none⟩ = some y) : (Instr.loadAt 86 (.pointer (some ⟨b, o, none⟩))).run Tryz.prog w = .ok (.agg #[x, y]) w := loadAgg Tryz.isAgg86 sizeHd [x, y] rfl (cells2 h0 h1)
theorem own_more {w : World} {b b1 e1 s1 n1 : Nat} {v1 : Value} {x1 : List Value} (h : w.ownsRow b1 e1 s1 v1 n1 x1) (hb : b ≤ b1) : w.ownsRow b e1 s1 v1 n1 x1 := by
  refine ⟨h.1, ?_⟩
  rcases h.2 with hn | ⟨g, cap, cur, e, h0, rest⟩
  · exact .inl hn
  · exact .inr ⟨g, cap, cur, e, by omega, rest⟩
theorem hdC_at : ∀ {l : List (Int × Int)} {i : Nat} {q : Int × Int}, l[i]? = some q → (hdC l)[i * 2]? = some (.int .i64 q.1) ∧ (hdC l)[i * 2 + 1]? = some (.int .i64 q.2)
  | [], i, q, h => by simp at h
  | x :: r, 0, q, h => by simp at h; subst h; exact ⟨rfl, rfl⟩
  | x :: r, i + 1, q, h => by
    obtain ⟨h1, h2⟩ := hdC_at (l := r) (i := i) (q := q) (by simpa using h)
    have e : hdC (x :: r) = [.int .i64 x.1, .int .i64 x.2] ++ hdC r := by unfold hdC; simp
    rw [e]
    constructor
    · rw [List.getElem?_append_right (by simp; omega)]; simpa [show (i + 1) * 2 - 2 = i * 2 by omega] using h1
    · rw [List.getElem?_append_right (by simp; omega)]; simpa [show (i + 1) * 2 + 1 - 2 = i * 2 + 1 by omega] using h2
theorem trC_at {day : Int} : ∀ {l : List (List UInt8 × Int)} {i : Nat} {q : List UInt8 × Int}, l[i]? = some q → ∀ j u, [Value.int .i64 day, strV q.1, .int .i64 q.2][j]? = some u → (trC day l)[i * 3 + j]? = some u
  | [], i, q, h => by simp at h
  | x :: r, 0, q, h => by
    simp at h; subst h
    intro j u hu
    have e : trC day (x :: r) = [.int .i64 day, strV x.1, .int .i64 x.2] ++ trC day r := by unfold trC; simp
    rw [e, Nat.zero_mul, Nat.zero_add, List.getElem?_append_left (by have := (List.getElem?_eq_some_iff.1 hu).1; simpa using this)]
    exact hu
  | x :: r, i + 1, q, h => by
    intro j u hu
    have h1 := trC_at (day := day) (l := r) (i := i) (q := q) (by simpa using h) j u hu
    have e : trC day (x :: r) = [.int .i64 day, strV x.1, .int .i64 x.2] ++ trC day r := by unfold trC; simp
    rw [e, List.getElem?_append_right (by simp; omega)]
    simpa [show (i + 1) * 3 + j - 3 = i * 3 + j by omega] using h1
/-- A row, opened. -/
theorem own_open {w : World} {b1 e1 s1 n1 : Nat} {v1 : Value} {x1 : List Value} (h : w.ownsRow b1 e1 s1 v1 n1 x1) (h0 : n1 ≠ 0) : ∃ g cap cur, v1 = .slice (some ⟨g, 0, none⟩) n1 cap ∧ w.heap[g]? = some (.cells cur e1 (0, 0)) ∧ n1 ≤ cap ∧ cap ≤ maxLen ∧ ∀ (i : Nat) (u : Value), x1[i]? = some u → cur[i]? = some u := by
  rcases h.2 with ⟨-, hn⟩ | ⟨g, cap, cur, e, -, hg, h1, h2, -, ht⟩
  · exact absurd hn h0
  · refine ⟨g, cap, cur, e, hg, h1, h2, fun i u hu => ?_⟩
    rw [← ht, List.getElem?_take] at hu
    split at hu
    · simpa using hu
    · cases hu
/-- What Begin and Step answer: holds, transfers, steps, the error. -/
structure R4 where
  holds : List (Int × Int)
  out : List (List UInt8 × Int)
  steps : Int
  err : Int
def BgQ (day : Int) (w : World) (r : R4) (e : Ending) (w' : World) : Prop := ∃ lv tv, e = .returned (.tuple #[lv, tv, .int .i64 r.steps, .int .i64 r.err]) ∧ Hds w.heap.size w' lv r.holds ∧ Trs w.heap.size day w' tv r.out ∧ Below w.heap.size w w'
section
variable {P : Program} {F : Exit → Act → World → Prop} {Inv : World → Prop} {s : St}
/-- Begin or Step is called. -/
theorem Goes.callBg (f : FuncId) (args : Array Value) (day : Int) (r : R4) (n0 : Nat) (hr : ∀ w1, Holds s.mem w1 → Stay s.mem.ids w1 Inv → Calls P f args w1 (BgQ day w1 r)) (hsz : ∀ w', Inv w' → n0 ≤ w'.heap.size)
    (h : ∀ aL cL aT cT, Goes P F (fun w' => Inv w' ∧ (Hds n0 w' (.slice aL r.holds.length cL) r.holds ∧ Trs n0 day w' (.slice aT r.out.length cT) r.out)) (put0 s (.tuple #[.slice aL r.holds.length cL, .slice aT r.out.length cT, .int .i64 r.steps, .int .i64 r.err])))
    (ha : ask s = some (f, args) := by kernel_chk) (hw : wants s = true := by kernel_chk) (hf : okf P f = true := by kernel_chk) : Goes P F Inv s :=
  Goes.call f args (fun w1 hm hn hI => (hr w1 hm hI).mono fun e w2 ⟨lv, tv, he, hl, ht, hB⟩ => by
    obtain ⟨aL, cL, rfl⟩ := own_form hl
    obtain ⟨aT, cT, rfl⟩ := own_form ht
    have hn1 := hsz w1 hI.now
    have key : ∀ {b1 e1 s1 n1 : Nat} {v1 : Value} {x1 : List Value}, w2.ownsRow w1.heap.size e1 s1 v1 n1 x1 → ∀ b, v1.ownBlock = some b → b ∉ s.mem.ids := fun hr b hb hmem => by
      have h1 := (hr.lt b hb).1
      obtain ⟨q, hq, rfl⟩ := List.mem_map.1 hmem
      have := lt_of_get (in_hold hm q hq)
      omega
    exact ⟨_, _, s.mem, he, hm.bel hB, hn, fun w3 hc => ⟨hI.bel hB w3 hc, own_more (own_ch hl hc (key (b1 := 0) hl)) hn1, own_more (own_ch ht hc (key (b1 := 0) ht)) hn1⟩, h aL cL aT cT⟩) ha hw hf
end
theorem idxTr (b n cap k : Nat) (h : k < n) (w : World) : (Instr.indexAt 38 (.slice (some ⟨b, 0, none⟩) n cap) (.int .i64 k)).run Tryz.prog w = .ok (.pointer (some ⟨b, k * 3, none⟩)) w := by go_simp
theorem idxHd0 (b n cap k : Nat) (h : k < n) (w : World) : (Instr.indexAt 37 (.slice (some ⟨b, 0, none⟩) n cap) (.int .i64 k)).run Tryz.prog w = .ok (.pointer (some ⟨b, k * 2, none⟩)) w := by go_simp
theorem sizeTr : (Tryz.prog.info? 59).map (·.size) = some 3 := by kernel_chk
theorem loadTr {w : World} {g : Nat} {cur : Array Value} {day : Int} {ts : List (List UInt8 × Int)} {i : Nat} {q : List UInt8 × Int} (hg : w.heap[g]? = some (.cells cur 59 (0, 0))) (hc : ∀ (i : Nat) (u : Value), (trC day ts)[i]? = some u → cur[i]? = some u) (hq : ts[i]? = some q) : (Instr.loadAt 59 (.pointer (some ⟨g, i * 3, none⟩))).run Tryz.prog w = .ok (.agg #[.int .i64 day, strV q.1, .int .i64 q.2]) w :=
  loadAgg Tryz.isAgg59 sizeTr [.int .i64 day, strV q.1, .int .i64 q.2] rfl fun j u hu => cell_obj hg (hc _ _ (trC_at hq j u hu))
theorem loadHdR {w : World} {g : Nat} {cur : Array Value} {ls : List (Int × Int)} {i : Nat} {q : Int × Int} (hg : w.heap[g]? = some (.cells cur 86 (0, 0))) (hc : ∀ (i : Nat) (u : Value), (hdC ls)[i]? = some u → cur[i]? = some u) (hq : ls[i]? = some q) : (Instr.loadAt 86 (.pointer (some ⟨g, i * 2, none⟩))).run Tryz.prog w = .ok (.agg #[.int .i64 q.1, .int .i64 q.2]) w :=
  loadHd (cell_obj hg (hc _ _ (hdC_at hq).1)) (cell_obj hg (hc _ _ (hdC_at hq).2))
theorem hex2 {w w' : World} {b b' : Nat} {ob ob' : Obj} (hb : w.heap[b]? = some ob) (hb' : w.heap[b']? = some ob') (h : Ch (Mem.ids []) w w') : Holds [(b, ob), (b', ob')] w' := hold_in (by simp only [List.forall_mem_cons, List.not_mem_nil, false_implies, implies_true, and_true]; exact ⟨(h.block b (lt_of_get hb) (by simp [Mem.ids])).trans hb, (h.block b' (lt_of_get hb') (by simp [Mem.ids])).trans hb'⟩)
set_option maxRecDepth 100000 in
seal rn rnN rnS Goes ans atEnd put0 put putM opened openedY putA0 putA oneSt st0 keep mkSt newSt in
theorem sameholds_any {base base' : Nat} {l : List (Int × Int)} {v v' : Value} {w : World} (h : Hds base w v l) (h' : Hds base' w v' l) (hl : l.length ≤ 1000000000) : Calls Tryz.prog 15 #[v, v'] w fun e w' => e = .returned (.bool true) ∧ Below w.heap.size w w' := by
  obtain ⟨a, c, rfl⟩ := own_form h
  obtain ⟨a', c', rfl⟩ := own_form h'
  obtain ⟨N, hN⟩ : ∃ N, l.length = N := ⟨_, rfl⟩
  rw [hN] at hl h h' ⊢
  refine Goes.begin Tryz.func15 [] (fun _ => True) Holds.nil (by simp [Mem.ids]) (fun _ _ => trivial) ?_
  refine Goes.run [0] [((N : Int) != (N : Int), false)] ⟨by simp, trivial⟩ ?_
  refine Goes.loop0 (α := Nat) 26 (fun i => [(0, .slice a N c), (1, .slice a' N c'), (5, .int .i64 i)]) [] (fun i => i ≤ N) (fun i => N - i) 0 (Nat.zero_le _) ?_
  rintro i J hi back
  cases hlt : decide ((i : Int) < (N : Int)) with
  | false =>
    refine Goes.run [0, 0] [(decide ((i : Int) < (N : Int)), false)] ⟨hlt, trivial⟩ ?_
    exact Goes.ret [] (.bool true) fun w' hm hI => ⟨rfl, bel0 hI⟩
  | true =>
    have hil : i < N := by have := of_decide_eq_true hlt; omega
    obtain ⟨q, hq⟩ : ∃ q, l[i]? = some q := ⟨l[i]'(by omega), by simp⟩
    obtain ⟨g, cap, cur, he, hg, -, -, hc⟩ := own_open h (by omega)
    obtain ⟨g', cap', cur', he', hg', -, -, hc'⟩ := own_open h' (by omega)
    rw [hN] at he he'
    cases he
    cases he'
    refine Goes.run [0, 1] [(decide ((i : Int) < (N : Int)), true)] ⟨hlt, trivial⟩ ?_
    refine Goes.openY [] [(g, .cells cur 86 (0, 0)), (g', .cells cur' 86 (0, 0))] (fun w' hI => hex2 hg hg' hI.1) ?_
    refine Goes.run [0, 1] [] trivial ?_
    refine Goes.valA 2 (Instr.indexAt 37 (.slice (some ⟨g, 0, none⟩) N c) (.int .i64 i)) (.pointer (some ⟨g, i * 2, none⟩)) (fun w' _ => idxHd0 g N c i hil w') ?_
    refine Goes.valA 3 (Instr.loadAt 86 (.pointer (some ⟨g, i * 2, none⟩))) (.agg #[.int .i64 q.1, .int .i64 q.2]) (fun w' hm => loadHdR (cur := cur) (hm.get 0) hc hq) ?_
    refine Goes.run [4, 5] [] trivial ?_
    refine Goes.valA 6 (Instr.indexAt 37 (.slice (some ⟨g', 0, none⟩) N c') (.int .i64 i)) (.pointer (some ⟨g', i * 2, none⟩)) (fun w' _ => idxHd0 g' N c' i hil w') ?_
    refine Goes.valA 7 (Instr.loadAt 86 (.pointer (some ⟨g', i * 2, none⟩))) (.agg #[.int .i64 q.1, .int .i64 q.2]) (fun w' hm => loadHdR (cur := cur') (hm.get 1) hc' hq) ?_
    refine Goes.valA 8 (do eqGuard .neq 86 (.tmp 20) (.tmp 24) (.agg #[.int .i64 q.1, .int .i64 q.2]) (.agg #[.int .i64 q.1, .int .i64 q.2]); binOp .neq 86 (.agg #[.int .i64 q.1, .int .i64 q.2]) (.agg #[.int .i64 q.1, .int .i64 q.2])) (.bool false) (fun w' _ => by have := neq_agg (t := 86) (.tmp 20) (.tmp 24) (by kernel_chk) (eqHd q.1 q.2 q.1 q.2 w'); simpa using this) ?_
    refine Goes.run [0] [(false, false)] ⟨rfl, trivial⟩ ?_
    refine Goes.slot 5 (.int .i64 (i + 1 : Nat)) (u := .int .i64 (IntKind.i64.wrap ((i : Int) + 1))) (congrArg _ (wrap_nat (by omega))) ?_
    exact back (i + 1) _ hil (by omega) (by kernel_chk) (by kernel_chk) (by kernel_chk)
set_option maxRecDepth 100000 in
seal rn rnN rnS Goes ans atEnd put0 put putM opened openedY putA0 putA oneSt st0 keep mkSt newSt in
theorem sametrans_any {base base' : Nat} {l : List (List UInt8 × Int)} {v v' : Value} {w : World} {day : Int} (h : Trs base day w v l) (h' : Trs base' day w v' l) (hl : l.length ≤ 1000000000) : Calls Tryz.prog 16 #[v, v'] w fun e w' => e = .returned (.bool true) ∧ Below w.heap.size w w' := by
  obtain ⟨a, c, rfl⟩ := own_form h
  obtain ⟨a', c', rfl⟩ := own_form h'
  obtain ⟨N, hN⟩ : ∃ N, l.length = N := ⟨_, rfl⟩
  rw [hN] at hl h h' ⊢
  refine Goes.begin Tryz.func16 [] (fun _ => True) Holds.nil (by simp [Mem.ids]) (fun _ _ => trivial) ?_
  refine Goes.run [0] [((N : Int) != (N : Int), false)] ⟨by simp, trivial⟩ ?_
  refine Goes.loop0 (α := Nat) 26 (fun i => [(0, .slice a N c), (1, .slice a' N c'), (5, .int .i64 i)]) [] (fun i => i ≤ N) (fun i => N - i) 0 (Nat.zero_le _) ?_
  rintro i J hi back
  cases hlt : decide ((i : Int) < (N : Int)) with
  | false =>
    refine Goes.run [0, 0] [(decide ((i : Int) < (N : Int)), false)] ⟨hlt, trivial⟩ ?_
    exact Goes.ret [] (.bool true) fun w' hm hI => ⟨rfl, bel0 hI⟩
  | true =>
    have hil : i < N := by have := of_decide_eq_true hlt; omega
    obtain ⟨q, hq⟩ : ∃ q, l[i]? = some q := ⟨l[i]'(by omega), by simp⟩
    obtain ⟨g, cap, cur, he, hg, -, -, hc⟩ := own_open h (by omega)
    obtain ⟨g', cap', cur', he', hg', -, -, hc'⟩ := own_open h' (by omega)
    rw [hN] at he he'
    cases he
    cases he'
    refine Goes.run [0, 1] [(decide ((i : Int) < (N : Int)), true)] ⟨hlt, trivial⟩ ?_
    refine Goes.openY [] [(g, .cells cur 59 (0, 0)), (g', .cells cur' 59 (0, 0))] (fun w' hI => hex2 hg hg' hI.1) ?_
    refine Goes.run [0, 1] [] trivial ?_
    refine Goes.valA 2 (Instr.indexAt 38 (.slice (some ⟨g, 0, none⟩) N c) (.int .i64 i)) (.pointer (some ⟨g, i * 3, none⟩)) (fun w' _ => idxTr g N c i hil w') ?_
    refine Goes.valA 3 (Instr.loadAt 59 (.pointer (some ⟨g, i * 3, none⟩))) (.agg #[.int .i64 day, strV q.1, .int .i64 q.2]) (fun w' hm => loadTr (cur := cur) (hm.get 0) hc hq) ?_
    refine Goes.run [4, 5] [] trivial ?_
    refine Goes.valA 6 (Instr.indexAt 38 (.slice (some ⟨g', 0, none⟩) N c') (.int .i64 i)) (.pointer (some ⟨g', i * 3, none⟩)) (fun w' _ => idxTr g' N c' i hil w') ?_
    refine Goes.valA 7 (Instr.loadAt 59 (.pointer (some ⟨g', i * 3, none⟩))) (.agg #[.int .i64 day, strV q.1, .int .i64 q.2]) (fun w' hm => loadTr (cur := cur') (hm.get 1) hc' hq) ?_
    refine Goes.valA 8 (do eqGuard .neq 59 (.tmp 20) (.tmp 24) (.agg #[.int .i64 day, strV q.1, .int .i64 q.2]) (.agg #[.int .i64 day, strV q.1, .int .i64 q.2]); binOp .neq 59 (.agg #[.int .i64 day, strV q.1, .int .i64 q.2]) (.agg #[.int .i64 day, strV q.1, .int .i64 q.2])) (.bool false) (fun w' _ => by have := neq_agg (t := 59) (.tmp 20) (.tmp 24) (by kernel_chk) (eqTr day q.1 q.2 day q.1 q.2 w'); simpa using this) ?_
    refine Goes.run [0] [(false, false)] ⟨rfl, trivial⟩ ?_
    refine Goes.slot 5 (.int .i64 (i + 1 : Nat)) (u := .int .i64 (IntKind.i64.wrap ((i : Int) + 1))) (congrArg _ (wrap_nat (by omega))) ?_
    exact back (i + 1) _ hil (by omega) (by kernel_chk) (by kernel_chk) (by kernel_chk)
end Go.Proofs.YtddbiiejilcbbaaGreatDoor
namespace Go.Proofs.YtddbiiejilcbbaaGreatDoor
open Go Go.RowKit

def lstD (l : List (Int × Int)) : Nat → Int
  | 0 => -1
  | j + 1 => ((l[j]?).map (·.1)).getD (-1)
def lstN (fs : Fs) : Nat → List UInt8
  | 0 => []
  | j + 1 => ((fs[j]?).map (·.1)).getD []
theorem Cel.same {w w' : World} {b o : Nat} {v : Value} {ob : Obj} (h : w.cell? ⟨b, o, none⟩ = some v) (e : w.heap[b]? = some ob) (e' : w'.heap[b]? = some ob) : w'.cell? ⟨b, o, none⟩ = some v := (cell_same (e'.trans e.symm)).trans h
theorem nam_lt {s : List UInt8} (h : namP s = true) : decide (([] : List UInt8) < s) = true := by
  cases s with
  | nil => cases h
  | cons x r => exact decide_eq_true (List.nil_lt_cons _ _)
set_option maxRecDepth 100000 in
set_option maxHeartbeats 8000000 in
seal rn rnN rnS Goes ans atEnd put0 put putM opened openedY putA0 putA oneSt st0 keep in
theorem rfeedsR_any {fs : Fs} {v : Value} {w : World} (hF : Fds w.heap.size w v fs) (hl : ∀ f ∈ fs, f.1.length ≤ 9223372036854775807) : Calls Tryz.prog 68 #[v] w fun e w' => e = .returned (.bool (rfP fs)) ∧ Below w.heap.size w w' := by
  obtain ⟨a, c, rfl, hc, hfs⟩ := hF
  obtain ⟨N, hN⟩ : ∃ N, fs.length = N := ⟨_, rfl⟩
  rw [hN] at hc ⊢
  refine Goes.begin Tryz.func68 [] (fun _ => True) Holds.nil (by simp [Mem.ids]) (fun _ _ => trivial) ?_
  cases h0 : decide ((N : Int) > 64) with
  | true =>
    refine Goes.run [1] [(decide ((N : Int) > 64), true)] ⟨h0, trivial⟩ ?_
    exact Goes.ret [] (.bool false) fun w' hm hI => ⟨by unfold rfP; rw [hN, decide_eq_false (by have := of_decide_eq_true h0; omega)]; rfl, bel0 hI⟩
  | false =>
    have hW : rfP fs = fdOk [] fs := by unfold rfP; rw [hN, decide_eq_true (by have := of_decide_eq_false h0; omega), Bool.true_and]
    rw [hW]
    refine Goes.run [0] [(decide ((N : Int) > 64), false)] ⟨h0, trivial⟩ ?_
    refine Goes.loop0 (α := Nat) 106 (fun i => [(0, .slice a N c), (3, .int .i64 i)]) [] (fun i => i ≤ N ∧ fdOk [] fs = fdOk (lstN fs i) (fs.drop i)) (fun i => N - i) 0 ⟨Nat.zero_le _, rfl⟩ ?_
    rintro i J ⟨hi, hrest⟩ back
    cases hlt : decide ((i : Int) < (N : Int)) with
    | false =>
      refine Goes.run [0, 0] [(decide ((i : Int) < (N : Int)), false)] ⟨hlt, trivial⟩ ?_
      exact Goes.ret [] (.bool true) fun w' hm hI => ⟨by rw [hrest, List.drop_of_length_le (by have := of_decide_eq_false hlt; omega)]; rfl, bel0 hI⟩
    | true =>
      have hil : i < N := by have := of_decide_eq_true hlt; omega
      obtain ⟨f, hf⟩ : ∃ f, fs[i]? = some f := ⟨fs[i]'(by omega), by simp⟩
      obtain ⟨b, o, u, rfl, hb, x1, x2, a2, c2, rfl, hc2, hstm⟩ := hfs i f hf
      obtain ⟨ob, hob⟩ := blk_of hb
      obtain ⟨M, hM⟩ : ∃ M, f.2.length = M := ⟨_, rfl⟩
      rw [hM] at x2 hc2
      have hR : fdOk [] fs = ((decide (lstN fs i < f.1) && namP f.1 && stmP f.2) && fdOk f.1 (fs.drop (i + 1))) := by rw [hrest, drop_any hf, fdOk]
      cases i with
      | zero =>
        refine Goes.run [0, 1] [(decide (((0 : Nat) : Int) < (N : Int)), true)] ⟨hlt, trivial⟩ ?_
        refine Goes.val (Instr.indexAt 36 (.slice (some ⟨b, o, none⟩) N c) (.int .i64 ((0 : Nat) : Int))) (.pointer (some ⟨b, o + 0 * 2, none⟩)) (fun w' _ _ => idxF b o N c 0 hil w') ?_
        refine Goes.run [] [] trivial ?_
        refine Goes.val (Instr.loadAt 9 (.pointer (some ⟨b, o + 0 * 2, none⟩))) (strV f.1) (fun w' _ hI => load1 Tryz.isAgg9 (((bel0 hI).cell (p := ⟨b, o + 0 * 2, none⟩) hb).trans x1)) ?_
        refine Goes.call0 71 #[strV f.1] (.bool (namP f.1)) (fun w' _ _ => rname_any f.1 w' (hl f (List.mem_of_getElem? hf))) ?_
        refine Goes.run [] [] trivial ?_
        refine Goes.val (Instr.indexAt 36 (.slice (some ⟨b, o, none⟩) N c) (.int .i64 ((0 : Nat) : Int))) (.pointer (some ⟨b, o + 0 * 2, none⟩)) (fun w' _ _ => idxF b o N c 0 hil w') ?_
        refine Goes.run [] [] trivial ?_
        refine Goes.val (Instr.loadAt 160 (.pointer (some ⟨b, o + 0 * 2 + 1, none⟩))) (.slice a2 M c2) (fun w' _ hI => load1 Tryz.isAgg160 (((bel0 hI).cell (p := ⟨b, o + 0 * 2 + 1, none⟩) hb).trans x2)) ?_
        refine Goes.run [] [] trivial ?_
        refine Goes.openY [] [(b, ob)] (fun w' hI => hex1 hob hI.1) ?_
        cases hnm : namP f.1 with
        | false =>
          refine Goes.run [0, 1, 2, 3, 4, 5, 6, 7, 8, 9, 10, 11, 12, 13, 14, 15, 16, 17, 18, 19, 20, 21, 22, 23, 24, 1] [(true, true)] ⟨rfl, trivial⟩ ?_
          exact Goes.ret [] (.bool false) fun w' hm hI => ⟨by rw [hR, hnm]; simp, bel0 hI⟩
        | true =>
          have hfst : decide (lstN fs 0 < f.1) = true := nam_lt hnm
          rw [hfst, hnm] at hR
          cases hM4 : decide ((M : Int) > 4096) with
          | true =>
            refine Goes.run [0, 1, 2, 3, 4] [] trivial ?_
            refine Goes.slot 31 (.bool false) (u := .bool (decide (((0 : Nat) : Int) > 0))) (congrArg _ (rfl)) ?_
            refine Goes.run [5, 6, 7, 8, 9, 10, 11, 12, 13, 14, 15, 16, 17, 18, 19, 20, 21, 22, 23, 24, 1] [(decide ((M : Int) > 4096), true)] ⟨hM4, trivial⟩ ?_
            exact Goes.ret [] (.bool false) fun w' hm hI => ⟨by rw [hR]; unfold stmP; rw [hM, decide_eq_false (by have := of_decide_eq_true hM4; omega)]; simp, bel0 hI⟩
          | false =>
            refine Goes.run [0, 1, 2, 3, 4] [] trivial ?_
            refine Goes.slot 31 (.bool false) (u := .bool (decide (((0 : Nat) : Int) > 0))) (congrArg _ (rfl)) ?_
            refine Goes.run [5, 6, 7, 8, 9, 10, 11, 12, 13, 14, 15, 16, 17, 18, 19, 20, 21, 22, 23, 24, 0] [(decide ((M : Int) > 4096), false)] ⟨hM4, trivial⟩ ?_
            have hlen4 : stmP f.2 = stOk (-1) f.2 := by unfold stmP; rw [hM, decide_eq_true (by have := of_decide_eq_false hM4; omega), Bool.true_and]
            refine Goes.loop0 (α := Nat) 106 (fun k => [(0, .slice (some ⟨b, o, none⟩) N c), (3, .int .i64 ((0 : Nat) : Int)), (5, .slice a2 M c2), (6, .int .i64 k)]) [] (fun k => k ≤ M ∧ stOk (-1) f.2 = stOk (lstD f.2 k) (f.2.drop k)) (fun k => M - k) 0 ⟨Nat.zero_le _, rfl⟩ ?_
            rintro k J2 ⟨hkM, hst⟩ back2
            cases hkl : decide ((k : Int) < (M : Int)) with
            | false =>
              refine Goes.run [0, 0] [(decide ((k : Int) < (M : Int)), false)] ⟨hkl, trivial⟩ ?_
              refine Goes.slot 3 (.int .i64 (0 + 1 : Nat)) (u := .int .i64 (IntKind.i64.wrap (((0 : Nat) : Int) + 1))) (congrArg _ (wrap_nat (by omega))) ?_
              exact back (0 + 1) _ ⟨hil, by rw [hR, hlen4, hst, List.drop_of_length_le (by have := of_decide_eq_false hkl; omega), stOk]; simp [lstN, hf]⟩ (by omega) (by kernel_rfl) (by kernel_rfl) (by kernel_rfl)
            | true =>
              have hkl' : k < M := by have := of_decide_eq_true hkl; omega
              obtain ⟨q, hq⟩ : ∃ q, f.2[k]? = some q := ⟨f.2[k]'(by omega), by simp⟩
              obtain ⟨b2, o2, rfl, hb2, y1, y2⟩ := hstm k q hq
              obtain ⟨ob2, hob2⟩ := blk_of hb2
              have hdrop := drop_any hq
              refine Goes.run [0, 1] [(decide ((k : Int) < (M : Int)), true)] ⟨hkl, trivial⟩ ?_
              cases k with
              | zero =>
                refine Goes.openY [] [(b2, ob2)] (fun w' hI => hex1 hob2 hI.1) ?_
                cases h1 : decide (q.1 < 0) with
                | true =>
                  refine Goes.run [0, 1] [] trivial ?_
                  refine Goes.valA 2 (Instr.indexAt 160 (.slice (some ⟨b2, o2, none⟩) M c2) (.int .i64 ((0 : Nat) : Int))) (.pointer (some ⟨b2, o2 + 0 * 2, none⟩)) (fun w' _ => idxT b2 o2 M c2 0 (by omega) w') ?_
                  refine Goes.run [3] [] trivial ?_
                  refine Goes.valA 4 (Instr.loadAt 3 (.pointer (some ⟨b2, o2 + 0 * 2, none⟩))) (.int .i64 q.1) (fun w' hm => load1 Tryz.isAgg3 (Cel.same y1 hob2 (hm.get 0))) ?_
                  refine Goes.run [5] [] trivial ?_
                  refine Goes.slot 63 (.bool true) (u := .bool (decide (q.1 < 0))) (congrArg _ (h1)) ?_
                  refine Goes.run [6, 7, 8, 9, 10, 11, 12, 13, 14, 15, 16, 17, 18, 19, 20, 21, 22, 23, 24, 25, 26, 27, 28, 29, 30, 31, 32, 33, 34, 35, 36, 37, 38, 39, 40, 41, 42, 43, 44, 45, 46, 47, 1] [(true, true)] ⟨rfl, trivial⟩ ?_
                  have hbad : (!decide (q.1 ≤ lstD f.2 0) && dayP q.1 && numP q.2) = false := by
                    rw [Bool.and_eq_false_iff, Bool.and_eq_false_iff]
                    refine .inl (.inr ?_); unfold dayP; have := of_decide_eq_true h1; rw [decide_eq_false (by omega), Bool.false_and]
                  exact Goes.ret [] (.bool false) fun w' hm hI => ⟨by rw [hR, hlen4, hst, hdrop, stOk, hbad]; simp, bel0 hI⟩
                | false =>
                  cases h2 : decide (q.1 > 73048) with
                  | true =>
                    refine Goes.run [0, 1] [] trivial ?_
                    refine Goes.valA 2 (Instr.indexAt 160 (.slice (some ⟨b2, o2, none⟩) M c2) (.int .i64 ((0 : Nat) : Int))) (.pointer (some ⟨b2, o2 + 0 * 2, none⟩)) (fun w' _ => idxT b2 o2 M c2 0 (by omega) w') ?_
                    refine Goes.run [3] [] trivial ?_
                    refine Goes.valA 4 (Instr.loadAt 3 (.pointer (some ⟨b2, o2 + 0 * 2, none⟩))) (.int .i64 q.1) (fun w' hm => load1 Tryz.isAgg3 (Cel.same y1 hob2 (hm.get 0))) ?_
                    refine Goes.run [5] [] trivial ?_
                    refine Goes.slot 63 (.bool false) (u := .bool (decide (q.1 < 0))) (congrArg _ (h1)) ?_
                    refine Goes.run [6, 7, 8] [] trivial ?_
                    refine Goes.valA 9 (Instr.indexAt 160 (.slice (some ⟨b2, o2, none⟩) M c2) (.int .i64 ((0 : Nat) : Int))) (.pointer (some ⟨b2, o2 + 0 * 2, none⟩)) (fun w' _ => idxT b2 o2 M c2 0 (by omega) w') ?_
                    refine Goes.run [10] [] trivial ?_
                    refine Goes.valA 11 (Instr.loadAt 3 (.pointer (some ⟨b2, o2 + 0 * 2, none⟩))) (.int .i64 q.1) (fun w' hm => load1 Tryz.isAgg3 (Cel.same y1 hob2 (hm.get 0))) ?_
                    refine Goes.run [12] [] trivial ?_
                    refine Goes.slot 70 (.bool true) (u := .bool (decide (q.1 > 73048))) (congrArg _ (h2)) ?_
                    refine Goes.run [13, 14, 15, 16, 17, 18, 19, 20, 21, 22, 23, 24, 25, 26, 27, 28, 29, 30, 31, 32, 33, 34, 35, 36, 37, 38, 39, 40, 41, 42, 43, 44, 45, 46, 47, 1] [(true, true)] ⟨rfl, trivial⟩ ?_
                    have hbad : (!decide (q.1 ≤ lstD f.2 0) && dayP q.1 && numP q.2) = false := by
                      rw [Bool.and_eq_false_iff, Bool.and_eq_false_iff]
                      refine .inl (.inr ?_); unfold dayP; have := of_decide_eq_true h2; rw [Bool.and_eq_false_iff]; exact .inr (decide_eq_false (by omega))
                    exact Goes.ret [] (.bool false) fun w' hm hI => ⟨by rw [hR, hlen4, hst, hdrop, stOk, hbad]; simp, bel0 hI⟩
                  | false =>
                    cases h4 : decide (q.2 < -1000000000000000) with
                    | true =>
                      refine Goes.run [0, 1] [] trivial ?_
                      refine Goes.valA 2 (Instr.indexAt 160 (.slice (some ⟨b2, o2, none⟩) M c2) (.int .i64 ((0 : Nat) : Int))) (.pointer (some ⟨b2, o2 + 0 * 2, none⟩)) (fun w' _ => idxT b2 o2 M c2 0 (by omega) w') ?_
                      refine Goes.run [3] [] trivial ?_
                      refine Goes.valA 4 (Instr.loadAt 3 (.pointer (some ⟨b2, o2 + 0 * 2, none⟩))) (.int .i64 q.1) (fun w' hm => load1 Tryz.isAgg3 (Cel.same y1 hob2 (hm.get 0))) ?_
                      refine Goes.run [5] [] trivial ?_
                      refine Goes.slot 63 (.bool false) (u := .bool (decide (q.1 < 0))) (congrArg _ (h1)) ?_
                      refine Goes.run [6, 7, 8] [] trivial ?_
                      refine Goes.valA 9 (Instr.indexAt 160 (.slice (some ⟨b2, o2, none⟩) M c2) (.int .i64 ((0 : Nat) : Int))) (.pointer (some ⟨b2, o2 + 0 * 2, none⟩)) (fun w' _ => idxT b2 o2 M c2 0 (by omega) w') ?_
                      refine Goes.run [10] [] trivial ?_
                      refine Goes.valA 11 (Instr.loadAt 3 (.pointer (some ⟨b2, o2 + 0 * 2, none⟩))) (.int .i64 q.1) (fun w' hm => load1 Tryz.isAgg3 (Cel.same y1 hob2 (hm.get 0))) ?_
                      refine Goes.run [12] [] trivial ?_
                      refine Goes.slot 70 (.bool false) (u := .bool (decide (q.1 > 73048))) (congrArg _ (h2)) ?_
                      refine Goes.run [13, 14, 15, 16] [] trivial ?_
                      refine Goes.slot 74 (.bool false) (u := .bool (decide (((0 : Nat) : Int) > 0))) (congrArg _ (rfl)) ?_
                      refine Goes.run [17, 18, 19, 20, 21, 22, 23, 24, 25, 26, 27, 28, 29, 30, 31, 32, 33, 34] [] trivial ?_
                      refine Goes.valA 35 (Instr.indexAt 160 (.slice (some ⟨b2, o2, none⟩) M c2) (.int .i64 ((0 : Nat) : Int))) (.pointer (some ⟨b2, o2 + 0 * 2, none⟩)) (fun w' _ => idxT b2 o2 M c2 0 (by omega) w') ?_
                      refine Goes.run [36] [] trivial ?_
                      refine Goes.valA 37 (Instr.loadAt 2 (.pointer (some ⟨b2, o2 + 0 * 2 + 1, none⟩))) (.int .i64 q.2) (fun w' hm => load1 Tryz.isAgg2 (Cel.same y2 hob2 (hm.get 0))) ?_
                      refine Goes.run [38] [] trivial ?_
                      refine Goes.slot 96 (.bool true) (u := .bool (decide (q.2 < -1000000000000000))) (congrArg _ (h4)) ?_
                      refine Goes.run [39, 40, 41, 42, 43, 44, 45, 46, 47, 1] [(true, true)] ⟨rfl, trivial⟩ ?_
                      have hbad : (!decide (q.1 ≤ lstD f.2 0) && dayP q.1 && numP q.2) = false := by
                        rw [Bool.and_eq_false_iff, Bool.and_eq_false_iff]
                        refine .inr ?_; unfold numP; have := of_decide_eq_true h4; rw [decide_eq_false (by omega), Bool.false_and]
                      exact Goes.ret [] (.bool false) fun w' hm hI => ⟨by rw [hR, hlen4, hst, hdrop, stOk, hbad]; simp, bel0 hI⟩
                    | false =>
                      cases h5 : decide (q.2 > 1000000000000000) with
                      | true =>
                        refine Goes.run [0, 1] [] trivial ?_
                        refine Goes.valA 2 (Instr.indexAt 160 (.slice (some ⟨b2, o2, none⟩) M c2) (.int .i64 ((0 : Nat) : Int))) (.pointer (some ⟨b2, o2 + 0 * 2, none⟩)) (fun w' _ => idxT b2 o2 M c2 0 (by omega) w') ?_
                        refine Goes.run [3] [] trivial ?_
                        refine Goes.valA 4 (Instr.loadAt 3 (.pointer (some ⟨b2, o2 + 0 * 2, none⟩))) (.int .i64 q.1) (fun w' hm => load1 Tryz.isAgg3 (Cel.same y1 hob2 (hm.get 0))) ?_
                        refine Goes.run [5] [] trivial ?_
                        refine Goes.slot 63 (.bool false) (u := .bool (decide (q.1 < 0))) (congrArg _ (h1)) ?_
                        refine Goes.run [6, 7, 8] [] trivial ?_
                        refine Goes.valA 9 (Instr.indexAt 160 (.slice (some ⟨b2, o2, none⟩) M c2) (.int .i64 ((0 : Nat) : Int))) (.pointer (some ⟨b2, o2 + 0 * 2, none⟩)) (fun w' _ => idxT b2 o2 M c2 0 (by omega) w') ?_
                        refine Goes.run [10] [] trivial ?_
                        refine Goes.valA 11 (Instr.loadAt 3 (.pointer (some ⟨b2, o2 + 0 * 2, none⟩))) (.int .i64 q.1) (fun w' hm => load1 Tryz.isAgg3 (Cel.same y1 hob2 (hm.get 0))) ?_
                        refine Goes.run [12] [] trivial ?_
                        refine Goes.slot 70 (.bool false) (u := .bool (decide (q.1 > 73048))) (congrArg _ (h2)) ?_
                        refine Goes.run [13, 14, 15, 16] [] trivial ?_
                        refine Goes.slot 74 (.bool false) (u := .bool (decide (((0 : Nat) : Int) > 0))) (congrArg _ (rfl)) ?_
                        refine Goes.run [17, 18, 19, 20, 21, 22, 23, 24, 25, 26, 27, 28, 29, 30, 31, 32, 33, 34] [] trivial ?_
                        refine Goes.valA 35 (Instr.indexAt 160 (.slice (some ⟨b2, o2, none⟩) M c2) (.int .i64 ((0 : Nat) : Int))) (.pointer (some ⟨b2, o2 + 0 * 2, none⟩)) (fun w' _ => idxT b2 o2 M c2 0 (by omega) w') ?_
                        refine Goes.run [36] [] trivial ?_
                        refine Goes.valA 37 (Instr.loadAt 2 (.pointer (some ⟨b2, o2 + 0 * 2 + 1, none⟩))) (.int .i64 q.2) (fun w' hm => load1 Tryz.isAgg2 (Cel.same y2 hob2 (hm.get 0))) ?_
                        refine Goes.run [38] [] trivial ?_
                        refine Goes.slot 96 (.bool false) (u := .bool (decide (q.2 < -1000000000000000))) (congrArg _ (h4)) ?_
                        refine Goes.run [39, 40, 41, 42] [] trivial ?_
                        refine Goes.valA 43 (Instr.indexAt 160 (.slice (some ⟨b2, o2, none⟩) M c2) (.int .i64 ((0 : Nat) : Int))) (.pointer (some ⟨b2, o2 + 0 * 2, none⟩)) (fun w' _ => idxT b2 o2 M c2 0 (by omega) w') ?_
                        refine Goes.run [44] [] trivial ?_
                        refine Goes.valA 45 (Instr.loadAt 2 (.pointer (some ⟨b2, o2 + 0 * 2 + 1, none⟩))) (.int .i64 q.2) (fun w' hm => load1 Tryz.isAgg2 (Cel.same y2 hob2 (hm.get 0))) ?_
                        refine Goes.run [46] [] trivial ?_
                        refine Goes.slot 104 (.bool true) (u := .bool (decide (q.2 > 1000000000000000))) (congrArg _ (h5)) ?_
                        refine Goes.run [47, 1] [(true, true)] ⟨rfl, trivial⟩ ?_
                        have hbad : (!decide (q.1 ≤ lstD f.2 0) && dayP q.1 && numP q.2) = false := by
                          rw [Bool.and_eq_false_iff, Bool.and_eq_false_iff]
                          refine .inr ?_; unfold numP; have := of_decide_eq_true h5; rw [Bool.and_eq_false_iff]; exact .inr (decide_eq_false (by omega))
                        exact Goes.ret [] (.bool false) fun w' hm hI => ⟨by rw [hR, hlen4, hst, hdrop, stOk, hbad]; simp, bel0 hI⟩
                      | false =>
                        refine Goes.run [0, 1] [] trivial ?_
                        refine Goes.valA 2 (Instr.indexAt 160 (.slice (some ⟨b2, o2, none⟩) M c2) (.int .i64 ((0 : Nat) : Int))) (.pointer (some ⟨b2, o2 + 0 * 2, none⟩)) (fun w' _ => idxT b2 o2 M c2 0 (by omega) w') ?_
                        refine Goes.run [3] [] trivial ?_
                        refine Goes.valA 4 (Instr.loadAt 3 (.pointer (some ⟨b2, o2 + 0 * 2, none⟩))) (.int .i64 q.1) (fun w' hm => load1 Tryz.isAgg3 (Cel.same y1 hob2 (hm.get 0))) ?_
                        refine Goes.run [5] [] trivial ?_
                        refine Goes.slot 63 (.bool false) (u := .bool (decide (q.1 < 0))) (congrArg _ (h1)) ?_
                        refine Goes.run [6, 7, 8] [] trivial ?_
                        refine Goes.valA 9 (Instr.indexAt 160 (.slice (some ⟨b2, o2, none⟩) M c2) (.int .i64 ((0 : Nat) : Int))) (.pointer (some ⟨b2, o2 + 0 * 2, none⟩)) (fun w' _ => idxT b2 o2 M c2 0 (by omega) w') ?_
                        refine Goes.run [10] [] trivial ?_
                        refine Goes.valA 11 (Instr.loadAt 3 (.pointer (some ⟨b2, o2 + 0 * 2, none⟩))) (.int .i64 q.1) (fun w' hm => load1 Tryz.isAgg3 (Cel.same y1 hob2 (hm.get 0))) ?_
                        refine Goes.run [12] [] trivial ?_
                        refine Goes.slot 70 (.bool false) (u := .bool (decide (q.1 > 73048))) (congrArg _ (h2)) ?_
                        refine Goes.run [13, 14, 15, 16] [] trivial ?_
                        refine Goes.slot 74 (.bool false) (u := .bool (decide (((0 : Nat) : Int) > 0))) (congrArg _ (rfl)) ?_
                        refine Goes.run [17, 18, 19, 20, 21, 22, 23, 24, 25, 26, 27, 28, 29, 30, 31, 32, 33, 34] [] trivial ?_
                        refine Goes.valA 35 (Instr.indexAt 160 (.slice (some ⟨b2, o2, none⟩) M c2) (.int .i64 ((0 : Nat) : Int))) (.pointer (some ⟨b2, o2 + 0 * 2, none⟩)) (fun w' _ => idxT b2 o2 M c2 0 (by omega) w') ?_
                        refine Goes.run [36] [] trivial ?_
                        refine Goes.valA 37 (Instr.loadAt 2 (.pointer (some ⟨b2, o2 + 0 * 2 + 1, none⟩))) (.int .i64 q.2) (fun w' hm => load1 Tryz.isAgg2 (Cel.same y2 hob2 (hm.get 0))) ?_
                        refine Goes.run [38] [] trivial ?_
                        refine Goes.slot 96 (.bool false) (u := .bool (decide (q.2 < -1000000000000000))) (congrArg _ (h4)) ?_
                        refine Goes.run [39, 40, 41, 42] [] trivial ?_
                        refine Goes.valA 43 (Instr.indexAt 160 (.slice (some ⟨b2, o2, none⟩) M c2) (.int .i64 ((0 : Nat) : Int))) (.pointer (some ⟨b2, o2 + 0 * 2, none⟩)) (fun w' _ => idxT b2 o2 M c2 0 (by omega) w') ?_
                        refine Goes.run [44] [] trivial ?_
                        refine Goes.valA 45 (Instr.loadAt 2 (.pointer (some ⟨b2, o2 + 0 * 2 + 1, none⟩))) (.int .i64 q.2) (fun w' hm => load1 Tryz.isAgg2 (Cel.same y2 hob2 (hm.get 0))) ?_
                        refine Goes.run [46] [] trivial ?_
                        refine Goes.slot 104 (.bool false) (u := .bool (decide (q.2 > 1000000000000000))) (congrArg _ (h5)) ?_
                        refine Goes.run [47, 0] [(false, false)] ⟨rfl, trivial⟩ ?_
                        refine Goes.slot 6 (.int .i64 (0 + 1 : Nat)) (u := .int .i64 (IntKind.i64.wrap (((0 : Nat) : Int) + 1))) (congrArg _ (wrap_nat (by omega))) ?_
                        have hgood : (!decide (q.1 ≤ lstD f.2 0) && dayP q.1 && numP q.2) = true := by
                          have e1 := of_decide_eq_false h1; have e2 := of_decide_eq_false h2; have e4 := of_decide_eq_false h4; have e5 := of_decide_eq_false h5
                          have a1 : decide (q.1 ≤ lstD f.2 0) = false := decide_eq_false (by show ¬ q.1 ≤ -1; omega)
                          have a2 : dayP q.1 = true := by unfold dayP; rw [decide_eq_true (by omega), decide_eq_true (by omega)]; rfl
                          have a3 : numP q.2 = true := by unfold numP; rw [decide_eq_true (by omega), decide_eq_true (by omega)]; rfl
                          rw [a1, a2, a3]; rfl
                        exact back2 (0 + 1) _ ⟨by omega, by rw [hst, hdrop, stOk, hgood, Bool.true_and]; rw [show lstD f.2 (0 + 1) = q.1 by simp [lstD, hq]]⟩ (by omega) (by kernel_rfl) (by kernel_rfl) (by kernel_rfl)
              | succ j =>
                obtain ⟨qj, hqj⟩ : ∃ qj, f.2[j]? = some qj := ⟨f.2[j]'(by omega), by simp⟩
                obtain ⟨b9, o9, e9, -, z1, -⟩ := hstm j qj hqj
                cases e9
                have hlast : lstD f.2 (j + 1) = qj.1 := by simp [lstD, hqj]
                refine Goes.openY [] [(b2, ob2)] (fun w' hI => hex1 hob2 hI.1) ?_
                cases h1 : decide (q.1 < 0) with
                | true =>
                  refine Goes.run [0, 1] [] trivial ?_
                  refine Goes.valA 2 (Instr.indexAt 160 (.slice (some ⟨b2, o2, none⟩) M c2) (.int .i64 ((j + 1 : Nat) : Int))) (.pointer (some ⟨b2, o2 + (j + 1) * 2, none⟩)) (fun w' _ => idxT b2 o2 M c2 (j + 1) (by omega) w') ?_
                  refine Goes.run [3] [] trivial ?_
                  refine Goes.valA 4 (Instr.loadAt 3 (.pointer (some ⟨b2, o2 + (j + 1) * 2, none⟩))) (.int .i64 q.1) (fun w' hm => load1 Tryz.isAgg3 (Cel.same y1 hob2 (hm.get 0))) ?_
                  refine Goes.run [5] [] trivial ?_
                  refine Goes.slot 63 (.bool true) (u := .bool (decide (q.1 < 0))) (congrArg _ (h1)) ?_
                  refine Goes.run [6, 7, 8, 9, 10, 11, 12, 13, 14, 15, 16, 17, 18, 19, 20, 21, 22, 23, 24, 25, 26, 27, 28, 29, 30, 31, 32, 33, 34, 35, 36, 37, 38, 39, 40, 41, 42, 43, 44, 45, 46, 47, 1] [(true, true)] ⟨rfl, trivial⟩ ?_
                  have hbad : (!decide (q.1 ≤ lstD f.2 (j + 1)) && dayP q.1 && numP q.2) = false := by
                    rw [Bool.and_eq_false_iff, Bool.and_eq_false_iff]
                    refine .inl (.inr ?_); unfold dayP; have := of_decide_eq_true h1; rw [decide_eq_false (by omega), Bool.false_and]
                  exact Goes.ret [] (.bool false) fun w' hm hI => ⟨by rw [hR, hlen4, hst, hdrop, stOk, hbad]; simp, bel0 hI⟩
                | false =>
                  cases h2 : decide (q.1 > 73048) with
                  | true =>
                    refine Goes.run [0, 1] [] trivial ?_
                    refine Goes.valA 2 (Instr.indexAt 160 (.slice (some ⟨b2, o2, none⟩) M c2) (.int .i64 ((j + 1 : Nat) : Int))) (.pointer (some ⟨b2, o2 + (j + 1) * 2, none⟩)) (fun w' _ => idxT b2 o2 M c2 (j + 1) (by omega) w') ?_
                    refine Goes.run [3] [] trivial ?_
                    refine Goes.valA 4 (Instr.loadAt 3 (.pointer (some ⟨b2, o2 + (j + 1) * 2, none⟩))) (.int .i64 q.1) (fun w' hm => load1 Tryz.isAgg3 (Cel.same y1 hob2 (hm.get 0))) ?_
                    refine Goes.run [5] [] trivial ?_
                    refine Goes.slot 63 (.bool false) (u := .bool (decide (q.1 < 0))) (congrArg _ (h1)) ?_
                    refine Goes.run [6, 7, 8] [] trivial ?_
                    refine Goes.valA 9 (Instr.indexAt 160 (.slice (some ⟨b2, o2, none⟩) M c2) (.int .i64 ((j + 1 : Nat) : Int))) (.pointer (some ⟨b2, o2 + (j + 1) * 2, none⟩)) (fun w' _ => idxT b2 o2 M c2 (j + 1) (by omega) w') ?_
                    refine Goes.run [10] [] trivial ?_
                    refine Goes.valA 11 (Instr.loadAt 3 (.pointer (some ⟨b2, o2 + (j + 1) * 2, none⟩))) (.int .i64 q.1) (fun w' hm => load1 Tryz.isAgg3 (Cel.same y1 hob2 (hm.get 0))) ?_
                    refine Goes.run [12] [] trivial ?_
                    refine Goes.slot 70 (.bool true) (u := .bool (decide (q.1 > 73048))) (congrArg _ (h2)) ?_
                    refine Goes.run [13, 14, 15, 16, 17, 18, 19, 20, 21, 22, 23, 24, 25, 26, 27, 28, 29, 30, 31, 32, 33, 34, 35, 36, 37, 38, 39, 40, 41, 42, 43, 44, 45, 46, 47, 1] [(true, true)] ⟨rfl, trivial⟩ ?_
                    have hbad : (!decide (q.1 ≤ lstD f.2 (j + 1)) && dayP q.1 && numP q.2) = false := by
                      rw [Bool.and_eq_false_iff, Bool.and_eq_false_iff]
                      refine .inl (.inr ?_); unfold dayP; have := of_decide_eq_true h2; rw [Bool.and_eq_false_iff]; exact .inr (decide_eq_false (by omega))
                    exact Goes.ret [] (.bool false) fun w' hm hI => ⟨by rw [hR, hlen4, hst, hdrop, stOk, hbad]; simp, bel0 hI⟩
                  | false =>
                    cases h3 : decide (qj.1 ≥ q.1) with
                    | true =>
                      refine Goes.run [0, 1] [] trivial ?_
                      refine Goes.valA 2 (Instr.indexAt 160 (.slice (some ⟨b2, o2, none⟩) M c2) (.int .i64 ((j + 1 : Nat) : Int))) (.pointer (some ⟨b2, o2 + (j + 1) * 2, none⟩)) (fun w' _ => idxT b2 o2 M c2 (j + 1) (by omega) w') ?_
                      refine Goes.run [3] [] trivial ?_
                      refine Goes.valA 4 (Instr.loadAt 3 (.pointer (some ⟨b2, o2 + (j + 1) * 2, none⟩))) (.int .i64 q.1) (fun w' hm => load1 Tryz.isAgg3 (Cel.same y1 hob2 (hm.get 0))) ?_
                      refine Goes.run [5] [] trivial ?_
                      refine Goes.slot 63 (.bool false) (u := .bool (decide (q.1 < 0))) (congrArg _ (h1)) ?_
                      refine Goes.run [6, 7, 8] [] trivial ?_
                      refine Goes.valA 9 (Instr.indexAt 160 (.slice (some ⟨b2, o2, none⟩) M c2) (.int .i64 ((j + 1 : Nat) : Int))) (.pointer (some ⟨b2, o2 + (j + 1) * 2, none⟩)) (fun w' _ => idxT b2 o2 M c2 (j + 1) (by omega) w') ?_
                      refine Goes.run [10] [] trivial ?_
                      refine Goes.valA 11 (Instr.loadAt 3 (.pointer (some ⟨b2, o2 + (j + 1) * 2, none⟩))) (.int .i64 q.1) (fun w' hm => load1 Tryz.isAgg3 (Cel.same y1 hob2 (hm.get 0))) ?_
                      refine Goes.run [12] [] trivial ?_
                      refine Goes.slot 70 (.bool false) (u := .bool (decide (q.1 > 73048))) (congrArg _ (h2)) ?_
                      refine Goes.run [13, 14, 15, 16] [] trivial ?_
                      refine Goes.slot 74 (.bool true) (u := .bool (decide (((j + 1 : Nat) : Int) > 0))) (congrArg _ (decide_eq_true (by omega))) ?_
                      refine Goes.run [17, 18, 19, 20] [] trivial ?_
                      refine Goes.slot 78 (.int .i64 (j : Int)) (u := .int .i64 (IntKind.i64.wrap (((j + 1 : Nat) : Int) - 1))) (congrArg _ (by rw [IntWalk.i64_in _ ⟨by omega, by omega⟩]; omega)) ?_
                      refine Goes.valA 21 (Instr.indexAt 160 (.slice (some ⟨b2, o2, none⟩) M c2) (.int .i64 (j : Int))) (.pointer (some ⟨b2, o2 + j * 2, none⟩)) (fun w' _ => idxT b2 o2 M c2 j (by omega) w') ?_
                      refine Goes.run [22] [] trivial ?_
                      refine Goes.valA 23 (Instr.loadAt 3 (.pointer (some ⟨b2, o2 + j * 2, none⟩))) (.int .i64 qj.1) (fun w' hm => load1 Tryz.isAgg3 (Cel.same z1 hob2 (hm.get 0))) ?_
                      refine Goes.run [24, 25] [] trivial ?_
                      refine Goes.valA 26 (Instr.indexAt 160 (.slice (some ⟨b2, o2, none⟩) M c2) (.int .i64 ((j + 1 : Nat) : Int))) (.pointer (some ⟨b2, o2 + (j + 1) * 2, none⟩)) (fun w' _ => idxT b2 o2 M c2 (j + 1) (by omega) w') ?_
                      refine Goes.run [27] [] trivial ?_
                      refine Goes.valA 28 (Instr.loadAt 3 (.pointer (some ⟨b2, o2 + (j + 1) * 2, none⟩))) (.int .i64 q.1) (fun w' hm => load1 Tryz.isAgg3 (Cel.same y1 hob2 (hm.get 0))) ?_
                      refine Goes.run [29] [] trivial ?_
                      refine Goes.slot 87 (.bool true) (u := .bool (decide (qj.1 ≥ q.1))) (congrArg _ (h3)) ?_
                      refine Goes.run [30, 31, 32, 33, 34, 35, 36, 37, 38, 39, 40, 41, 42, 43, 44, 45, 46, 47, 1] [(true, true)] ⟨rfl, trivial⟩ ?_
                      have hbad : (!decide (q.1 ≤ lstD f.2 (j + 1)) && dayP q.1 && numP q.2) = false := by
                        rw [Bool.and_eq_false_iff, Bool.and_eq_false_iff]
                        refine .inl (.inl ?_); rw [hlast]; have := of_decide_eq_true h3; rw [decide_eq_true (by omega)]; rfl
                      exact Goes.ret [] (.bool false) fun w' hm hI => ⟨by rw [hR, hlen4, hst, hdrop, stOk, hbad]; simp, bel0 hI⟩
                    | false =>
                      cases h4 : decide (q.2 < -1000000000000000) with
                      | true =>
                        refine Goes.run [0, 1] [] trivial ?_
                        refine Goes.valA 2 (Instr.indexAt 160 (.slice (some ⟨b2, o2, none⟩) M c2) (.int .i64 ((j + 1 : Nat) : Int))) (.pointer (some ⟨b2, o2 + (j + 1) * 2, none⟩)) (fun w' _ => idxT b2 o2 M c2 (j + 1) (by omega) w') ?_
                        refine Goes.run [3] [] trivial ?_
                        refine Goes.valA 4 (Instr.loadAt 3 (.pointer (some ⟨b2, o2 + (j + 1) * 2, none⟩))) (.int .i64 q.1) (fun w' hm => load1 Tryz.isAgg3 (Cel.same y1 hob2 (hm.get 0))) ?_
                        refine Goes.run [5] [] trivial ?_
                        refine Goes.slot 63 (.bool false) (u := .bool (decide (q.1 < 0))) (congrArg _ (h1)) ?_
                        refine Goes.run [6, 7, 8] [] trivial ?_
                        refine Goes.valA 9 (Instr.indexAt 160 (.slice (some ⟨b2, o2, none⟩) M c2) (.int .i64 ((j + 1 : Nat) : Int))) (.pointer (some ⟨b2, o2 + (j + 1) * 2, none⟩)) (fun w' _ => idxT b2 o2 M c2 (j + 1) (by omega) w') ?_
                        refine Goes.run [10] [] trivial ?_
                        refine Goes.valA 11 (Instr.loadAt 3 (.pointer (some ⟨b2, o2 + (j + 1) * 2, none⟩))) (.int .i64 q.1) (fun w' hm => load1 Tryz.isAgg3 (Cel.same y1 hob2 (hm.get 0))) ?_
                        refine Goes.run [12] [] trivial ?_
                        refine Goes.slot 70 (.bool false) (u := .bool (decide (q.1 > 73048))) (congrArg _ (h2)) ?_
                        refine Goes.run [13, 14, 15, 16] [] trivial ?_
                        refine Goes.slot 74 (.bool true) (u := .bool (decide (((j + 1 : Nat) : Int) > 0))) (congrArg _ (decide_eq_true (by omega))) ?_
                        refine Goes.run [17, 18, 19, 20] [] trivial ?_
                        refine Goes.slot 78 (.int .i64 (j : Int)) (u := .int .i64 (IntKind.i64.wrap (((j + 1 : Nat) : Int) - 1))) (congrArg _ (by rw [IntWalk.i64_in _ ⟨by omega, by omega⟩]; omega)) ?_
                        refine Goes.valA 21 (Instr.indexAt 160 (.slice (some ⟨b2, o2, none⟩) M c2) (.int .i64 (j : Int))) (.pointer (some ⟨b2, o2 + j * 2, none⟩)) (fun w' _ => idxT b2 o2 M c2 j (by omega) w') ?_
                        refine Goes.run [22] [] trivial ?_
                        refine Goes.valA 23 (Instr.loadAt 3 (.pointer (some ⟨b2, o2 + j * 2, none⟩))) (.int .i64 qj.1) (fun w' hm => load1 Tryz.isAgg3 (Cel.same z1 hob2 (hm.get 0))) ?_
                        refine Goes.run [24, 25] [] trivial ?_
                        refine Goes.valA 26 (Instr.indexAt 160 (.slice (some ⟨b2, o2, none⟩) M c2) (.int .i64 ((j + 1 : Nat) : Int))) (.pointer (some ⟨b2, o2 + (j + 1) * 2, none⟩)) (fun w' _ => idxT b2 o2 M c2 (j + 1) (by omega) w') ?_
                        refine Goes.run [27] [] trivial ?_
                        refine Goes.valA 28 (Instr.loadAt 3 (.pointer (some ⟨b2, o2 + (j + 1) * 2, none⟩))) (.int .i64 q.1) (fun w' hm => load1 Tryz.isAgg3 (Cel.same y1 hob2 (hm.get 0))) ?_
                        refine Goes.run [29] [] trivial ?_
                        refine Goes.slot 87 (.bool false) (u := .bool (decide (qj.1 ≥ q.1))) (congrArg _ (h3)) ?_
                        refine Goes.run [30, 31, 32, 33, 34] [] trivial ?_
                        refine Goes.valA 35 (Instr.indexAt 160 (.slice (some ⟨b2, o2, none⟩) M c2) (.int .i64 ((j + 1 : Nat) : Int))) (.pointer (some ⟨b2, o2 + (j + 1) * 2, none⟩)) (fun w' _ => idxT b2 o2 M c2 (j + 1) (by omega) w') ?_
                        refine Goes.run [36] [] trivial ?_
                        refine Goes.valA 37 (Instr.loadAt 2 (.pointer (some ⟨b2, o2 + (j + 1) * 2 + 1, none⟩))) (.int .i64 q.2) (fun w' hm => load1 Tryz.isAgg2 (Cel.same y2 hob2 (hm.get 0))) ?_
                        refine Goes.run [38] [] trivial ?_
                        refine Goes.slot 96 (.bool true) (u := .bool (decide (q.2 < -1000000000000000))) (congrArg _ (h4)) ?_
                        refine Goes.run [39, 40, 41, 42, 43, 44, 45, 46, 47, 1] [(true, true)] ⟨rfl, trivial⟩ ?_
                        have hbad : (!decide (q.1 ≤ lstD f.2 (j + 1)) && dayP q.1 && numP q.2) = false := by
                          rw [Bool.and_eq_false_iff, Bool.and_eq_false_iff]
                          refine .inr ?_; unfold numP; have := of_decide_eq_true h4; rw [decide_eq_false (by omega), Bool.false_and]
                        exact Goes.ret [] (.bool false) fun w' hm hI => ⟨by rw [hR, hlen4, hst, hdrop, stOk, hbad]; simp, bel0 hI⟩
                      | false =>
                        cases h5 : decide (q.2 > 1000000000000000) with
                        | true =>
                          refine Goes.run [0, 1] [] trivial ?_
                          refine Goes.valA 2 (Instr.indexAt 160 (.slice (some ⟨b2, o2, none⟩) M c2) (.int .i64 ((j + 1 : Nat) : Int))) (.pointer (some ⟨b2, o2 + (j + 1) * 2, none⟩)) (fun w' _ => idxT b2 o2 M c2 (j + 1) (by omega) w') ?_
                          refine Goes.run [3] [] trivial ?_
                          refine Goes.valA 4 (Instr.loadAt 3 (.pointer (some ⟨b2, o2 + (j + 1) * 2, none⟩))) (.int .i64 q.1) (fun w' hm => load1 Tryz.isAgg3 (Cel.same y1 hob2 (hm.get 0))) ?_
                          refine Goes.run [5] [] trivial ?_
                          refine Goes.slot 63 (.bool false) (u := .bool (decide (q.1 < 0))) (congrArg _ (h1)) ?_
                          refine Goes.run [6, 7, 8] [] trivial ?_
                          refine Goes.valA 9 (Instr.indexAt 160 (.slice (some ⟨b2, o2, none⟩) M c2) (.int .i64 ((j + 1 : Nat) : Int))) (.pointer (some ⟨b2, o2 + (j + 1) * 2, none⟩)) (fun w' _ => idxT b2 o2 M c2 (j + 1) (by omega) w') ?_
                          refine Goes.run [10] [] trivial ?_
                          refine Goes.valA 11 (Instr.loadAt 3 (.pointer (some ⟨b2, o2 + (j + 1) * 2, none⟩))) (.int .i64 q.1) (fun w' hm => load1 Tryz.isAgg3 (Cel.same y1 hob2 (hm.get 0))) ?_
                          refine Goes.run [12] [] trivial ?_
                          refine Goes.slot 70 (.bool false) (u := .bool (decide (q.1 > 73048))) (congrArg _ (h2)) ?_
                          refine Goes.run [13, 14, 15, 16] [] trivial ?_
                          refine Goes.slot 74 (.bool true) (u := .bool (decide (((j + 1 : Nat) : Int) > 0))) (congrArg _ (decide_eq_true (by omega))) ?_
                          refine Goes.run [17, 18, 19, 20] [] trivial ?_
                          refine Goes.slot 78 (.int .i64 (j : Int)) (u := .int .i64 (IntKind.i64.wrap (((j + 1 : Nat) : Int) - 1))) (congrArg _ (by rw [IntWalk.i64_in _ ⟨by omega, by omega⟩]; omega)) ?_
                          refine Goes.valA 21 (Instr.indexAt 160 (.slice (some ⟨b2, o2, none⟩) M c2) (.int .i64 (j : Int))) (.pointer (some ⟨b2, o2 + j * 2, none⟩)) (fun w' _ => idxT b2 o2 M c2 j (by omega) w') ?_
                          refine Goes.run [22] [] trivial ?_
                          refine Goes.valA 23 (Instr.loadAt 3 (.pointer (some ⟨b2, o2 + j * 2, none⟩))) (.int .i64 qj.1) (fun w' hm => load1 Tryz.isAgg3 (Cel.same z1 hob2 (hm.get 0))) ?_
                          refine Goes.run [24, 25] [] trivial ?_
                          refine Goes.valA 26 (Instr.indexAt 160 (.slice (some ⟨b2, o2, none⟩) M c2) (.int .i64 ((j + 1 : Nat) : Int))) (.pointer (some ⟨b2, o2 + (j + 1) * 2, none⟩)) (fun w' _ => idxT b2 o2 M c2 (j + 1) (by omega) w') ?_
                          refine Goes.run [27] [] trivial ?_
                          refine Goes.valA 28 (Instr.loadAt 3 (.pointer (some ⟨b2, o2 + (j + 1) * 2, none⟩))) (.int .i64 q.1) (fun w' hm => load1 Tryz.isAgg3 (Cel.same y1 hob2 (hm.get 0))) ?_
                          refine Goes.run [29] [] trivial ?_
                          refine Goes.slot 87 (.bool false) (u := .bool (decide (qj.1 ≥ q.1))) (congrArg _ (h3)) ?_
                          refine Goes.run [30, 31, 32, 33, 34] [] trivial ?_
                          refine Goes.valA 35 (Instr.indexAt 160 (.slice (some ⟨b2, o2, none⟩) M c2) (.int .i64 ((j + 1 : Nat) : Int))) (.pointer (some ⟨b2, o2 + (j + 1) * 2, none⟩)) (fun w' _ => idxT b2 o2 M c2 (j + 1) (by omega) w') ?_
                          refine Goes.run [36] [] trivial ?_
                          refine Goes.valA 37 (Instr.loadAt 2 (.pointer (some ⟨b2, o2 + (j + 1) * 2 + 1, none⟩))) (.int .i64 q.2) (fun w' hm => load1 Tryz.isAgg2 (Cel.same y2 hob2 (hm.get 0))) ?_
                          refine Goes.run [38] [] trivial ?_
                          refine Goes.slot 96 (.bool false) (u := .bool (decide (q.2 < -1000000000000000))) (congrArg _ (h4)) ?_
                          refine Goes.run [39, 40, 41, 42] [] trivial ?_
                          refine Goes.valA 43 (Instr.indexAt 160 (.slice (some ⟨b2, o2, none⟩) M c2) (.int .i64 ((j + 1 : Nat) : Int))) (.pointer (some ⟨b2, o2 + (j + 1) * 2, none⟩)) (fun w' _ => idxT b2 o2 M c2 (j + 1) (by omega) w') ?_
                          refine Goes.run [44] [] trivial ?_
                          refine Goes.valA 45 (Instr.loadAt 2 (.pointer (some ⟨b2, o2 + (j + 1) * 2 + 1, none⟩))) (.int .i64 q.2) (fun w' hm => load1 Tryz.isAgg2 (Cel.same y2 hob2 (hm.get 0))) ?_
                          refine Goes.run [46] [] trivial ?_
                          refine Goes.slot 104 (.bool true) (u := .bool (decide (q.2 > 1000000000000000))) (congrArg _ (h5)) ?_
                          refine Goes.run [47, 1] [(true, true)] ⟨rfl, trivial⟩ ?_
                          have hbad : (!decide (q.1 ≤ lstD f.2 (j + 1)) && dayP q.1 && numP q.2) = false := by
                            rw [Bool.and_eq_false_iff, Bool.and_eq_false_iff]
                            refine .inr ?_; unfold numP; have := of_decide_eq_true h5; rw [Bool.and_eq_false_iff]; exact .inr (decide_eq_false (by omega))
                          exact Goes.ret [] (.bool false) fun w' hm hI => ⟨by rw [hR, hlen4, hst, hdrop, stOk, hbad]; simp, bel0 hI⟩
                        | false =>
                          refine Goes.run [0, 1] [] trivial ?_
                          refine Goes.valA 2 (Instr.indexAt 160 (.slice (some ⟨b2, o2, none⟩) M c2) (.int .i64 ((j + 1 : Nat) : Int))) (.pointer (some ⟨b2, o2 + (j + 1) * 2, none⟩)) (fun w' _ => idxT b2 o2 M c2 (j + 1) (by omega) w') ?_
                          refine Goes.run [3] [] trivial ?_
                          refine Goes.valA 4 (Instr.loadAt 3 (.pointer (some ⟨b2, o2 + (j + 1) * 2, none⟩))) (.int .i64 q.1) (fun w' hm => load1 Tryz.isAgg3 (Cel.same y1 hob2 (hm.get 0))) ?_
                          refine Goes.run [5] [] trivial ?_
                          refine Goes.slot 63 (.bool false) (u := .bool (decide (q.1 < 0))) (congrArg _ (h1)) ?_
                          refine Goes.run [6, 7, 8] [] trivial ?_
                          refine Goes.valA 9 (Instr.indexAt 160 (.slice (some ⟨b2, o2, none⟩) M c2) (.int .i64 ((j + 1 : Nat) : Int))) (.pointer (some ⟨b2, o2 + (j + 1) * 2, none⟩)) (fun w' _ => idxT b2 o2 M c2 (j + 1) (by omega) w') ?_
                          refine Goes.run [10] [] trivial ?_
                          refine Goes.valA 11 (Instr.loadAt 3 (.pointer (some ⟨b2, o2 + (j + 1) * 2, none⟩))) (.int .i64 q.1) (fun w' hm => load1 Tryz.isAgg3 (Cel.same y1 hob2 (hm.get 0))) ?_
                          refine Goes.run [12] [] trivial ?_
                          refine Goes.slot 70 (.bool false) (u := .bool (decide (q.1 > 73048))) (congrArg _ (h2)) ?_
                          refine Goes.run [13, 14, 15, 16] [] trivial ?_
                          refine Goes.slot 74 (.bool true) (u := .bool (decide (((j + 1 : Nat) : Int) > 0))) (congrArg _ (decide_eq_true (by omega))) ?_
                          refine Goes.run [17, 18, 19, 20] [] trivial ?_
                          refine Goes.slot 78 (.int .i64 (j : Int)) (u := .int .i64 (IntKind.i64.wrap (((j + 1 : Nat) : Int) - 1))) (congrArg _ (by rw [IntWalk.i64_in _ ⟨by omega, by omega⟩]; omega)) ?_
                          refine Goes.valA 21 (Instr.indexAt 160 (.slice (some ⟨b2, o2, none⟩) M c2) (.int .i64 (j : Int))) (.pointer (some ⟨b2, o2 + j * 2, none⟩)) (fun w' _ => idxT b2 o2 M c2 j (by omega) w') ?_
                          refine Goes.run [22] [] trivial ?_
                          refine Goes.valA 23 (Instr.loadAt 3 (.pointer (some ⟨b2, o2 + j * 2, none⟩))) (.int .i64 qj.1) (fun w' hm => load1 Tryz.isAgg3 (Cel.same z1 hob2 (hm.get 0))) ?_
                          refine Goes.run [24, 25] [] trivial ?_
                          refine Goes.valA 26 (Instr.indexAt 160 (.slice (some ⟨b2, o2, none⟩) M c2) (.int .i64 ((j + 1 : Nat) : Int))) (.pointer (some ⟨b2, o2 + (j + 1) * 2, none⟩)) (fun w' _ => idxT b2 o2 M c2 (j + 1) (by omega) w') ?_
                          refine Goes.run [27] [] trivial ?_
                          refine Goes.valA 28 (Instr.loadAt 3 (.pointer (some ⟨b2, o2 + (j + 1) * 2, none⟩))) (.int .i64 q.1) (fun w' hm => load1 Tryz.isAgg3 (Cel.same y1 hob2 (hm.get 0))) ?_
                          refine Goes.run [29] [] trivial ?_
                          refine Goes.slot 87 (.bool false) (u := .bool (decide (qj.1 ≥ q.1))) (congrArg _ (h3)) ?_
                          refine Goes.run [30, 31, 32, 33, 34] [] trivial ?_
                          refine Goes.valA 35 (Instr.indexAt 160 (.slice (some ⟨b2, o2, none⟩) M c2) (.int .i64 ((j + 1 : Nat) : Int))) (.pointer (some ⟨b2, o2 + (j + 1) * 2, none⟩)) (fun w' _ => idxT b2 o2 M c2 (j + 1) (by omega) w') ?_
                          refine Goes.run [36] [] trivial ?_
                          refine Goes.valA 37 (Instr.loadAt 2 (.pointer (some ⟨b2, o2 + (j + 1) * 2 + 1, none⟩))) (.int .i64 q.2) (fun w' hm => load1 Tryz.isAgg2 (Cel.same y2 hob2 (hm.get 0))) ?_
                          refine Goes.run [38] [] trivial ?_
                          refine Goes.slot 96 (.bool false) (u := .bool (decide (q.2 < -1000000000000000))) (congrArg _ (h4)) ?_
                          refine Goes.run [39, 40, 41, 42] [] trivial ?_
                          refine Goes.valA 43 (Instr.indexAt 160 (.slice (some ⟨b2, o2, none⟩) M c2) (.int .i64 ((j + 1 : Nat) : Int))) (.pointer (some ⟨b2, o2 + (j + 1) * 2, none⟩)) (fun w' _ => idxT b2 o2 M c2 (j + 1) (by omega) w') ?_
                          refine Goes.run [44] [] trivial ?_
                          refine Goes.valA 45 (Instr.loadAt 2 (.pointer (some ⟨b2, o2 + (j + 1) * 2 + 1, none⟩))) (.int .i64 q.2) (fun w' hm => load1 Tryz.isAgg2 (Cel.same y2 hob2 (hm.get 0))) ?_
                          refine Goes.run [46] [] trivial ?_
                          refine Goes.slot 104 (.bool false) (u := .bool (decide (q.2 > 1000000000000000))) (congrArg _ (h5)) ?_
                          refine Goes.run [47, 0] [(false, false)] ⟨rfl, trivial⟩ ?_
                          refine Goes.slot 6 (.int .i64 ((j + 1) + 1 : Nat)) (u := .int .i64 (IntKind.i64.wrap ((((j + 1) : Nat) : Int) + 1))) (congrArg _ (wrap_nat (by omega))) ?_
                          have hgood : (!decide (q.1 ≤ lstD f.2 (j + 1)) && dayP q.1 && numP q.2) = true := by
                            have e1 := of_decide_eq_false h1; have e2 := of_decide_eq_false h2; have e4 := of_decide_eq_false h4; have e5 := of_decide_eq_false h5
                            have a1 : decide (q.1 ≤ lstD f.2 (j + 1)) = false := decide_eq_false (by rw [hlast]; have := of_decide_eq_false h3; omega)
                            have a2 : dayP q.1 = true := by unfold dayP; rw [decide_eq_true (by omega), decide_eq_true (by omega)]; rfl
                            have a3 : numP q.2 = true := by unfold numP; rw [decide_eq_true (by omega), decide_eq_true (by omega)]; rfl
                            rw [a1, a2, a3]; rfl
                          exact back2 ((j + 1) + 1) _ ⟨by omega, by rw [hst, hdrop, stOk, hgood, Bool.true_and]; rw [show lstD f.2 ((j + 1) + 1) = q.1 by simp [lstD, hq]]⟩ (by omega) (by kernel_rfl) (by kernel_rfl) (by kernel_rfl)
      | succ j =>
        obtain ⟨fj, hfj⟩ : ∃ fj, fs[j]? = some fj := ⟨fs[j]'(by omega), by simp⟩
        obtain ⟨b9, o9, u9, e9, -, zf, -⟩ := hfs j fj hfj
        cases e9
        have hlastN : lstN fs (j + 1) = fj.1 := by simp [lstN, hfj]
        refine Goes.run [0, 1] [(decide (((j + 1 : Nat) : Int) < (N : Int)), true)] ⟨hlt, trivial⟩ ?_
        refine Goes.val (Instr.indexAt 36 (.slice (some ⟨b, o, none⟩) N c) (.int .i64 ((j + 1 : Nat) : Int))) (.pointer (some ⟨b, o + (j + 1) * 2, none⟩)) (fun w' _ _ => idxF b o N c (j + 1) hil w') ?_
        refine Goes.run [] [] trivial ?_
        refine Goes.val (Instr.loadAt 9 (.pointer (some ⟨b, o + (j + 1) * 2, none⟩))) (strV f.1) (fun w' _ hI => load1 Tryz.isAgg9 (((bel0 hI).cell (p := ⟨b, o + (j + 1) * 2, none⟩) hb).trans x1)) ?_
        refine Goes.call0 71 #[strV f.1] (.bool (namP f.1)) (fun w' _ _ => rname_any f.1 w' (hl f (List.mem_of_getElem? hf))) ?_
        refine Goes.run [] [] trivial ?_
        refine Goes.val (Instr.indexAt 36 (.slice (some ⟨b, o, none⟩) N c) (.int .i64 ((j + 1 : Nat) : Int))) (.pointer (some ⟨b, o + (j + 1) * 2, none⟩)) (fun w' _ _ => idxF b o N c (j + 1) hil w') ?_
        refine Goes.run [] [] trivial ?_
        refine Goes.val (Instr.loadAt 160 (.pointer (some ⟨b, o + (j + 1) * 2 + 1, none⟩))) (.slice a2 M c2) (fun w' _ hI => load1 Tryz.isAgg160 (((bel0 hI).cell (p := ⟨b, o + (j + 1) * 2 + 1, none⟩) hb).trans x2)) ?_
        refine Goes.run [] [] trivial ?_
        refine Goes.openY [] [(b, ob)] (fun w' hI => hex1 hob hI.1) ?_
        cases hnm : namP f.1 with
        | false =>
          refine Goes.run [0, 1, 2, 3, 4, 5, 6, 7, 8, 9, 10, 11, 12, 13, 14, 15, 16, 17, 18, 19, 20, 21, 22, 23, 24, 1] [(true, true)] ⟨rfl, trivial⟩ ?_
          exact Goes.ret [] (.bool false) fun w' hm hI => ⟨by rw [hR, hnm]; simp, bel0 hI⟩
        | true =>
          cases hlt2 : decide (fj.1 < f.1) with
          | false =>
            refine Goes.run [0, 1, 2, 3, 4] [] trivial ?_
            refine Goes.slot 31 (.bool true) (u := .bool (decide (((j + 1 : Nat) : Int) > 0))) (congrArg _ (decide_eq_true (by omega))) ?_
            refine Goes.run [5, 6, 7, 8] [] trivial ?_
            refine Goes.slot 35 (.int .i64 (j : Int)) (u := .int .i64 (IntKind.i64.wrap (((j + 1 : Nat) : Int) - 1))) (congrArg _ (by rw [IntWalk.i64_in _ ⟨by omega, by omega⟩]; omega)) ?_
            refine Goes.valA 9 (Instr.indexAt 36 (.slice (some ⟨b, o, none⟩) N c) (.int .i64 (j : Int))) (.pointer (some ⟨b, o + j * 2, none⟩)) (fun w' _ => idxF b o N c j (by omega) w') ?_
            refine Goes.run [10] [] trivial ?_
            refine Goes.valA 11 (Instr.loadAt 9 (.pointer (some ⟨b, o + j * 2, none⟩))) (strV fj.1) (fun w' hm => load1 Tryz.isAgg9 (Cel.same zf hob (hm.get 0))) ?_
            refine Goes.run [12, 13] [] trivial ?_
            refine Goes.valA 14 (Instr.indexAt 36 (.slice (some ⟨b, o, none⟩) N c) (.int .i64 ((j + 1 : Nat) : Int))) (.pointer (some ⟨b, o + (j + 1) * 2, none⟩)) (fun w' _ => idxF b o N c (j + 1) (by omega) w') ?_
            refine Goes.run [15] [] trivial ?_
            refine Goes.valA 16 (Instr.loadAt 9 (.pointer (some ⟨b, o + (j + 1) * 2, none⟩))) (strV f.1) (fun w' hm => load1 Tryz.isAgg9 (Cel.same x1 hob (hm.get 0))) ?_
            refine Goes.valA 17 (binOp .geq 9 (strV fj.1) (strV f.1)) (.bool (!(decide (fj.1 < f.1)))) (fun w' _ => geqT fj.1 f.1 w') ?_
            refine Goes.slot 44 (.bool true) (u := .bool (!(decide (fj.1 < f.1)))) (congrArg _ (by rw [hlt2]; rfl)) ?_
            refine Goes.run [18, 19, 20, 21, 22, 23, 24, 1] [(true, true)] ⟨rfl, trivial⟩ ?_
            exact Goes.ret [] (.bool false) fun w' hm hI => ⟨by rw [hR, hlastN, hlt2]; simp, bel0 hI⟩
          | true =>
            have hfst : decide (lstN fs (j + 1) < f.1) = true := by rw [hlastN]; exact hlt2
            rw [hfst, hnm] at hR
            cases hM4 : decide ((M : Int) > 4096) with
            | true =>
              refine Goes.run [0, 1, 2, 3, 4] [] trivial ?_
              refine Goes.slot 31 (.bool true) (u := .bool (decide (((j + 1 : Nat) : Int) > 0))) (congrArg _ (decide_eq_true (by omega))) ?_
              refine Goes.run [5, 6, 7, 8] [] trivial ?_
              refine Goes.slot 35 (.int .i64 (j : Int)) (u := .int .i64 (IntKind.i64.wrap (((j + 1 : Nat) : Int) - 1))) (congrArg _ (by rw [IntWalk.i64_in _ ⟨by omega, by omega⟩]; omega)) ?_
              refine Goes.valA 9 (Instr.indexAt 36 (.slice (some ⟨b, o, none⟩) N c) (.int .i64 (j : Int))) (.pointer (some ⟨b, o + j * 2, none⟩)) (fun w' _ => idxF b o N c j (by omega) w') ?_
              refine Goes.run [10] [] trivial ?_
              refine Goes.valA 11 (Instr.loadAt 9 (.pointer (some ⟨b, o + j * 2, none⟩))) (strV fj.1) (fun w' hm => load1 Tryz.isAgg9 (Cel.same zf hob (hm.get 0))) ?_
              refine Goes.run [12, 13] [] trivial ?_
              refine Goes.valA 14 (Instr.indexAt 36 (.slice (some ⟨b, o, none⟩) N c) (.int .i64 ((j + 1 : Nat) : Int))) (.pointer (some ⟨b, o + (j + 1) * 2, none⟩)) (fun w' _ => idxF b o N c (j + 1) (by omega) w') ?_
              refine Goes.run [15] [] trivial ?_
              refine Goes.valA 16 (Instr.loadAt 9 (.pointer (some ⟨b, o + (j + 1) * 2, none⟩))) (strV f.1) (fun w' hm => load1 Tryz.isAgg9 (Cel.same x1 hob (hm.get 0))) ?_
              refine Goes.valA 17 (binOp .geq 9 (strV fj.1) (strV f.1)) (.bool (!(decide (fj.1 < f.1)))) (fun w' _ => geqT fj.1 f.1 w') ?_
              refine Goes.slot 44 (.bool false) (u := .bool (!(decide (fj.1 < f.1)))) (congrArg _ (by rw [hlt2]; rfl)) ?_
              refine Goes.run [18, 19, 20, 21, 22, 23, 24, 1] [(decide ((M : Int) > 4096), true)] ⟨hM4, trivial⟩ ?_
              exact Goes.ret [] (.bool false) fun w' hm hI => ⟨by rw [hR]; unfold stmP; rw [hM, decide_eq_false (by have := of_decide_eq_true hM4; omega)]; simp, bel0 hI⟩
            | false =>
              refine Goes.run [0, 1, 2, 3, 4] [] trivial ?_
              refine Goes.slot 31 (.bool true) (u := .bool (decide (((j + 1 : Nat) : Int) > 0))) (congrArg _ (decide_eq_true (by omega))) ?_
              refine Goes.run [5, 6, 7, 8] [] trivial ?_
              refine Goes.slot 35 (.int .i64 (j : Int)) (u := .int .i64 (IntKind.i64.wrap (((j + 1 : Nat) : Int) - 1))) (congrArg _ (by rw [IntWalk.i64_in _ ⟨by omega, by omega⟩]; omega)) ?_
              refine Goes.valA 9 (Instr.indexAt 36 (.slice (some ⟨b, o, none⟩) N c) (.int .i64 (j : Int))) (.pointer (some ⟨b, o + j * 2, none⟩)) (fun w' _ => idxF b o N c j (by omega) w') ?_
              refine Goes.run [10] [] trivial ?_
              refine Goes.valA 11 (Instr.loadAt 9 (.pointer (some ⟨b, o + j * 2, none⟩))) (strV fj.1) (fun w' hm => load1 Tryz.isAgg9 (Cel.same zf hob (hm.get 0))) ?_
              refine Goes.run [12, 13] [] trivial ?_
              refine Goes.valA 14 (Instr.indexAt 36 (.slice (some ⟨b, o, none⟩) N c) (.int .i64 ((j + 1 : Nat) : Int))) (.pointer (some ⟨b, o + (j + 1) * 2, none⟩)) (fun w' _ => idxF b o N c (j + 1) (by omega) w') ?_
              refine Goes.run [15] [] trivial ?_
              refine Goes.valA 16 (Instr.loadAt 9 (.pointer (some ⟨b, o + (j + 1) * 2, none⟩))) (strV f.1) (fun w' hm => load1 Tryz.isAgg9 (Cel.same x1 hob (hm.get 0))) ?_
              refine Goes.valA 17 (binOp .geq 9 (strV fj.1) (strV f.1)) (.bool (!(decide (fj.1 < f.1)))) (fun w' _ => geqT fj.1 f.1 w') ?_
              refine Goes.slot 44 (.bool false) (u := .bool (!(decide (fj.1 < f.1)))) (congrArg _ (by rw [hlt2]; rfl)) ?_
              refine Goes.run [18, 19, 20, 21, 22, 23, 24, 0] [(decide ((M : Int) > 4096), false)] ⟨hM4, trivial⟩ ?_
              have hlen4 : stmP f.2 = stOk (-1) f.2 := by unfold stmP; rw [hM, decide_eq_true (by have := of_decide_eq_false hM4; omega), Bool.true_and]
              refine Goes.loop0 (α := Nat) 106 (fun k => [(0, .slice (some ⟨b, o, none⟩) N c), (3, .int .i64 ((j + 1 : Nat) : Int)), (5, .slice a2 M c2), (6, .int .i64 k)]) [] (fun k => k ≤ M ∧ stOk (-1) f.2 = stOk (lstD f.2 k) (f.2.drop k)) (fun k => M - k) 0 ⟨Nat.zero_le _, rfl⟩ ?_
              rintro k J2 ⟨hkM, hst⟩ back2
              cases hkl : decide ((k : Int) < (M : Int)) with
              | false =>
                refine Goes.run [0, 0] [(decide ((k : Int) < (M : Int)), false)] ⟨hkl, trivial⟩ ?_
                refine Goes.slot 3 (.int .i64 ((j + 1) + 1 : Nat)) (u := .int .i64 (IntKind.i64.wrap (((j + 1 : Nat) : Int) + 1))) (congrArg _ (wrap_nat (by omega))) ?_
                exact back ((j + 1) + 1) _ ⟨hil, by rw [hR, hlen4, hst, List.drop_of_length_le (by have := of_decide_eq_false hkl; omega), stOk]; simp [lstN, hf]⟩ (by omega) (by kernel_rfl) (by kernel_rfl) (by kernel_rfl)
              | true =>
                have hkl' : k < M := by have := of_decide_eq_true hkl; omega
                obtain ⟨q, hq⟩ : ∃ q, f.2[k]? = some q := ⟨f.2[k]'(by omega), by simp⟩
                obtain ⟨b2, o2, rfl, hb2, y1, y2⟩ := hstm k q hq
                obtain ⟨ob2, hob2⟩ := blk_of hb2
                have hdrop := drop_any hq
                refine Goes.run [0, 1] [(decide ((k : Int) < (M : Int)), true)] ⟨hkl, trivial⟩ ?_
                cases k with
                | zero =>
                  refine Goes.openY [] [(b2, ob2)] (fun w' hI => hex1 hob2 hI.1) ?_
                  cases h1 : decide (q.1 < 0) with
                  | true =>
                    refine Goes.run [0, 1] [] trivial ?_
                    refine Goes.valA 2 (Instr.indexAt 160 (.slice (some ⟨b2, o2, none⟩) M c2) (.int .i64 ((0 : Nat) : Int))) (.pointer (some ⟨b2, o2 + 0 * 2, none⟩)) (fun w' _ => idxT b2 o2 M c2 0 (by omega) w') ?_
                    refine Goes.run [3] [] trivial ?_
                    refine Goes.valA 4 (Instr.loadAt 3 (.pointer (some ⟨b2, o2 + 0 * 2, none⟩))) (.int .i64 q.1) (fun w' hm => load1 Tryz.isAgg3 (Cel.same y1 hob2 (hm.get 0))) ?_
                    refine Goes.run [5] [] trivial ?_
                    refine Goes.slot 63 (.bool true) (u := .bool (decide (q.1 < 0))) (congrArg _ (h1)) ?_
                    refine Goes.run [6, 7, 8, 9, 10, 11, 12, 13, 14, 15, 16, 17, 18, 19, 20, 21, 22, 23, 24, 25, 26, 27, 28, 29, 30, 31, 32, 33, 34, 35, 36, 37, 38, 39, 40, 41, 42, 43, 44, 45, 46, 47, 1] [(true, true)] ⟨rfl, trivial⟩ ?_
                    have hbad : (!decide (q.1 ≤ lstD f.2 0) && dayP q.1 && numP q.2) = false := by
                      rw [Bool.and_eq_false_iff, Bool.and_eq_false_iff]
                      refine .inl (.inr ?_); unfold dayP; have := of_decide_eq_true h1; rw [decide_eq_false (by omega), Bool.false_and]
                    exact Goes.ret [] (.bool false) fun w' hm hI => ⟨by rw [hR, hlen4, hst, hdrop, stOk, hbad]; simp, bel0 hI⟩
                  | false =>
                    cases h2 : decide (q.1 > 73048) with
                    | true =>
                      refine Goes.run [0, 1] [] trivial ?_
                      refine Goes.valA 2 (Instr.indexAt 160 (.slice (some ⟨b2, o2, none⟩) M c2) (.int .i64 ((0 : Nat) : Int))) (.pointer (some ⟨b2, o2 + 0 * 2, none⟩)) (fun w' _ => idxT b2 o2 M c2 0 (by omega) w') ?_
                      refine Goes.run [3] [] trivial ?_
                      refine Goes.valA 4 (Instr.loadAt 3 (.pointer (some ⟨b2, o2 + 0 * 2, none⟩))) (.int .i64 q.1) (fun w' hm => load1 Tryz.isAgg3 (Cel.same y1 hob2 (hm.get 0))) ?_
                      refine Goes.run [5] [] trivial ?_
                      refine Goes.slot 63 (.bool false) (u := .bool (decide (q.1 < 0))) (congrArg _ (h1)) ?_
                      refine Goes.run [6, 7, 8] [] trivial ?_
                      refine Goes.valA 9 (Instr.indexAt 160 (.slice (some ⟨b2, o2, none⟩) M c2) (.int .i64 ((0 : Nat) : Int))) (.pointer (some ⟨b2, o2 + 0 * 2, none⟩)) (fun w' _ => idxT b2 o2 M c2 0 (by omega) w') ?_
                      refine Goes.run [10] [] trivial ?_
                      refine Goes.valA 11 (Instr.loadAt 3 (.pointer (some ⟨b2, o2 + 0 * 2, none⟩))) (.int .i64 q.1) (fun w' hm => load1 Tryz.isAgg3 (Cel.same y1 hob2 (hm.get 0))) ?_
                      refine Goes.run [12] [] trivial ?_
                      refine Goes.slot 70 (.bool true) (u := .bool (decide (q.1 > 73048))) (congrArg _ (h2)) ?_
                      refine Goes.run [13, 14, 15, 16, 17, 18, 19, 20, 21, 22, 23, 24, 25, 26, 27, 28, 29, 30, 31, 32, 33, 34, 35, 36, 37, 38, 39, 40, 41, 42, 43, 44, 45, 46, 47, 1] [(true, true)] ⟨rfl, trivial⟩ ?_
                      have hbad : (!decide (q.1 ≤ lstD f.2 0) && dayP q.1 && numP q.2) = false := by
                        rw [Bool.and_eq_false_iff, Bool.and_eq_false_iff]
                        refine .inl (.inr ?_); unfold dayP; have := of_decide_eq_true h2; rw [Bool.and_eq_false_iff]; exact .inr (decide_eq_false (by omega))
                      exact Goes.ret [] (.bool false) fun w' hm hI => ⟨by rw [hR, hlen4, hst, hdrop, stOk, hbad]; simp, bel0 hI⟩
                    | false =>
                      cases h4 : decide (q.2 < -1000000000000000) with
                      | true =>
                        refine Goes.run [0, 1] [] trivial ?_
                        refine Goes.valA 2 (Instr.indexAt 160 (.slice (some ⟨b2, o2, none⟩) M c2) (.int .i64 ((0 : Nat) : Int))) (.pointer (some ⟨b2, o2 + 0 * 2, none⟩)) (fun w' _ => idxT b2 o2 M c2 0 (by omega) w') ?_
                        refine Goes.run [3] [] trivial ?_
                        refine Goes.valA 4 (Instr.loadAt 3 (.pointer (some ⟨b2, o2 + 0 * 2, none⟩))) (.int .i64 q.1) (fun w' hm => load1 Tryz.isAgg3 (Cel.same y1 hob2 (hm.get 0))) ?_
                        refine Goes.run [5] [] trivial ?_
                        refine Goes.slot 63 (.bool false) (u := .bool (decide (q.1 < 0))) (congrArg _ (h1)) ?_
                        refine Goes.run [6, 7, 8] [] trivial ?_
                        refine Goes.valA 9 (Instr.indexAt 160 (.slice (some ⟨b2, o2, none⟩) M c2) (.int .i64 ((0 : Nat) : Int))) (.pointer (some ⟨b2, o2 + 0 * 2, none⟩)) (fun w' _ => idxT b2 o2 M c2 0 (by omega) w') ?_
                        refine Goes.run [10] [] trivial ?_
                        refine Goes.valA 11 (Instr.loadAt 3 (.pointer (some ⟨b2, o2 + 0 * 2, none⟩))) (.int .i64 q.1) (fun w' hm => load1 Tryz.isAgg3 (Cel.same y1 hob2 (hm.get 0))) ?_
                        refine Goes.run [12] [] trivial ?_
                        refine Goes.slot 70 (.bool false) (u := .bool (decide (q.1 > 73048))) (congrArg _ (h2)) ?_
                        refine Goes.run [13, 14, 15, 16] [] trivial ?_
                        refine Goes.slot 74 (.bool false) (u := .bool (decide (((0 : Nat) : Int) > 0))) (congrArg _ (rfl)) ?_
                        refine Goes.run [17, 18, 19, 20, 21, 22, 23, 24, 25, 26, 27, 28, 29, 30, 31, 32, 33, 34] [] trivial ?_
                        refine Goes.valA 35 (Instr.indexAt 160 (.slice (some ⟨b2, o2, none⟩) M c2) (.int .i64 ((0 : Nat) : Int))) (.pointer (some ⟨b2, o2 + 0 * 2, none⟩)) (fun w' _ => idxT b2 o2 M c2 0 (by omega) w') ?_
                        refine Goes.run [36] [] trivial ?_
                        refine Goes.valA 37 (Instr.loadAt 2 (.pointer (some ⟨b2, o2 + 0 * 2 + 1, none⟩))) (.int .i64 q.2) (fun w' hm => load1 Tryz.isAgg2 (Cel.same y2 hob2 (hm.get 0))) ?_
                        refine Goes.run [38] [] trivial ?_
                        refine Goes.slot 96 (.bool true) (u := .bool (decide (q.2 < -1000000000000000))) (congrArg _ (h4)) ?_
                        refine Goes.run [39, 40, 41, 42, 43, 44, 45, 46, 47, 1] [(true, true)] ⟨rfl, trivial⟩ ?_
                        have hbad : (!decide (q.1 ≤ lstD f.2 0) && dayP q.1 && numP q.2) = false := by
                          rw [Bool.and_eq_false_iff, Bool.and_eq_false_iff]
                          refine .inr ?_; unfold numP; have := of_decide_eq_true h4; rw [decide_eq_false (by omega), Bool.false_and]
                        exact Goes.ret [] (.bool false) fun w' hm hI => ⟨by rw [hR, hlen4, hst, hdrop, stOk, hbad]; simp, bel0 hI⟩
                      | false =>
                        cases h5 : decide (q.2 > 1000000000000000) with
                        | true =>
                          refine Goes.run [0, 1] [] trivial ?_
                          refine Goes.valA 2 (Instr.indexAt 160 (.slice (some ⟨b2, o2, none⟩) M c2) (.int .i64 ((0 : Nat) : Int))) (.pointer (some ⟨b2, o2 + 0 * 2, none⟩)) (fun w' _ => idxT b2 o2 M c2 0 (by omega) w') ?_
                          refine Goes.run [3] [] trivial ?_
                          refine Goes.valA 4 (Instr.loadAt 3 (.pointer (some ⟨b2, o2 + 0 * 2, none⟩))) (.int .i64 q.1) (fun w' hm => load1 Tryz.isAgg3 (Cel.same y1 hob2 (hm.get 0))) ?_
                          refine Goes.run [5] [] trivial ?_
                          refine Goes.slot 63 (.bool false) (u := .bool (decide (q.1 < 0))) (congrArg _ (h1)) ?_
                          refine Goes.run [6, 7, 8] [] trivial ?_
                          refine Goes.valA 9 (Instr.indexAt 160 (.slice (some ⟨b2, o2, none⟩) M c2) (.int .i64 ((0 : Nat) : Int))) (.pointer (some ⟨b2, o2 + 0 * 2, none⟩)) (fun w' _ => idxT b2 o2 M c2 0 (by omega) w') ?_
                          refine Goes.run [10] [] trivial ?_
                          refine Goes.valA 11 (Instr.loadAt 3 (.pointer (some ⟨b2, o2 + 0 * 2, none⟩))) (.int .i64 q.1) (fun w' hm => load1 Tryz.isAgg3 (Cel.same y1 hob2 (hm.get 0))) ?_
                          refine Goes.run [12] [] trivial ?_
                          refine Goes.slot 70 (.bool false) (u := .bool (decide (q.1 > 73048))) (congrArg _ (h2)) ?_
                          refine Goes.run [13, 14, 15, 16] [] trivial ?_
                          refine Goes.slot 74 (.bool false) (u := .bool (decide (((0 : Nat) : Int) > 0))) (congrArg _ (rfl)) ?_
                          refine Goes.run [17, 18, 19, 20, 21, 22, 23, 24, 25, 26, 27, 28, 29, 30, 31, 32, 33, 34] [] trivial ?_
                          refine Goes.valA 35 (Instr.indexAt 160 (.slice (some ⟨b2, o2, none⟩) M c2) (.int .i64 ((0 : Nat) : Int))) (.pointer (some ⟨b2, o2 + 0 * 2, none⟩)) (fun w' _ => idxT b2 o2 M c2 0 (by omega) w') ?_
                          refine Goes.run [36] [] trivial ?_
                          refine Goes.valA 37 (Instr.loadAt 2 (.pointer (some ⟨b2, o2 + 0 * 2 + 1, none⟩))) (.int .i64 q.2) (fun w' hm => load1 Tryz.isAgg2 (Cel.same y2 hob2 (hm.get 0))) ?_
                          refine Goes.run [38] [] trivial ?_
                          refine Goes.slot 96 (.bool false) (u := .bool (decide (q.2 < -1000000000000000))) (congrArg _ (h4)) ?_
                          refine Goes.run [39, 40, 41, 42] [] trivial ?_
                          refine Goes.valA 43 (Instr.indexAt 160 (.slice (some ⟨b2, o2, none⟩) M c2) (.int .i64 ((0 : Nat) : Int))) (.pointer (some ⟨b2, o2 + 0 * 2, none⟩)) (fun w' _ => idxT b2 o2 M c2 0 (by omega) w') ?_
                          refine Goes.run [44] [] trivial ?_
                          refine Goes.valA 45 (Instr.loadAt 2 (.pointer (some ⟨b2, o2 + 0 * 2 + 1, none⟩))) (.int .i64 q.2) (fun w' hm => load1 Tryz.isAgg2 (Cel.same y2 hob2 (hm.get 0))) ?_
                          refine Goes.run [46] [] trivial ?_
                          refine Goes.slot 104 (.bool true) (u := .bool (decide (q.2 > 1000000000000000))) (congrArg _ (h5)) ?_
                          refine Goes.run [47, 1] [(true, true)] ⟨rfl, trivial⟩ ?_
                          have hbad : (!decide (q.1 ≤ lstD f.2 0) && dayP q.1 && numP q.2) = false := by
                            rw [Bool.and_eq_false_iff, Bool.and_eq_false_iff]
                            refine .inr ?_; unfold numP; have := of_decide_eq_true h5; rw [Bool.and_eq_false_iff]; exact .inr (decide_eq_false (by omega))
                          exact Goes.ret [] (.bool false) fun w' hm hI => ⟨by rw [hR, hlen4, hst, hdrop, stOk, hbad]; simp, bel0 hI⟩
                        | false =>
                          refine Goes.run [0, 1] [] trivial ?_
                          refine Goes.valA 2 (Instr.indexAt 160 (.slice (some ⟨b2, o2, none⟩) M c2) (.int .i64 ((0 : Nat) : Int))) (.pointer (some ⟨b2, o2 + 0 * 2, none⟩)) (fun w' _ => idxT b2 o2 M c2 0 (by omega) w') ?_
                          refine Goes.run [3] [] trivial ?_
                          refine Goes.valA 4 (Instr.loadAt 3 (.pointer (some ⟨b2, o2 + 0 * 2, none⟩))) (.int .i64 q.1) (fun w' hm => load1 Tryz.isAgg3 (Cel.same y1 hob2 (hm.get 0))) ?_
                          refine Goes.run [5] [] trivial ?_
                          refine Goes.slot 63 (.bool false) (u := .bool (decide (q.1 < 0))) (congrArg _ (h1)) ?_
                          refine Goes.run [6, 7, 8] [] trivial ?_
                          refine Goes.valA 9 (Instr.indexAt 160 (.slice (some ⟨b2, o2, none⟩) M c2) (.int .i64 ((0 : Nat) : Int))) (.pointer (some ⟨b2, o2 + 0 * 2, none⟩)) (fun w' _ => idxT b2 o2 M c2 0 (by omega) w') ?_
                          refine Goes.run [10] [] trivial ?_
                          refine Goes.valA 11 (Instr.loadAt 3 (.pointer (some ⟨b2, o2 + 0 * 2, none⟩))) (.int .i64 q.1) (fun w' hm => load1 Tryz.isAgg3 (Cel.same y1 hob2 (hm.get 0))) ?_
                          refine Goes.run [12] [] trivial ?_
                          refine Goes.slot 70 (.bool false) (u := .bool (decide (q.1 > 73048))) (congrArg _ (h2)) ?_
                          refine Goes.run [13, 14, 15, 16] [] trivial ?_
                          refine Goes.slot 74 (.bool false) (u := .bool (decide (((0 : Nat) : Int) > 0))) (congrArg _ (rfl)) ?_
                          refine Goes.run [17, 18, 19, 20, 21, 22, 23, 24, 25, 26, 27, 28, 29, 30, 31, 32, 33, 34] [] trivial ?_
                          refine Goes.valA 35 (Instr.indexAt 160 (.slice (some ⟨b2, o2, none⟩) M c2) (.int .i64 ((0 : Nat) : Int))) (.pointer (some ⟨b2, o2 + 0 * 2, none⟩)) (fun w' _ => idxT b2 o2 M c2 0 (by omega) w') ?_
                          refine Goes.run [36] [] trivial ?_
                          refine Goes.valA 37 (Instr.loadAt 2 (.pointer (some ⟨b2, o2 + 0 * 2 + 1, none⟩))) (.int .i64 q.2) (fun w' hm => load1 Tryz.isAgg2 (Cel.same y2 hob2 (hm.get 0))) ?_
                          refine Goes.run [38] [] trivial ?_
                          refine Goes.slot 96 (.bool false) (u := .bool (decide (q.2 < -1000000000000000))) (congrArg _ (h4)) ?_
                          refine Goes.run [39, 40, 41, 42] [] trivial ?_
                          refine Goes.valA 43 (Instr.indexAt 160 (.slice (some ⟨b2, o2, none⟩) M c2) (.int .i64 ((0 : Nat) : Int))) (.pointer (some ⟨b2, o2 + 0 * 2, none⟩)) (fun w' _ => idxT b2 o2 M c2 0 (by omega) w') ?_
                          refine Goes.run [44] [] trivial ?_
                          refine Goes.valA 45 (Instr.loadAt 2 (.pointer (some ⟨b2, o2 + 0 * 2 + 1, none⟩))) (.int .i64 q.2) (fun w' hm => load1 Tryz.isAgg2 (Cel.same y2 hob2 (hm.get 0))) ?_
                          refine Goes.run [46] [] trivial ?_
                          refine Goes.slot 104 (.bool false) (u := .bool (decide (q.2 > 1000000000000000))) (congrArg _ (h5)) ?_
                          refine Goes.run [47, 0] [(false, false)] ⟨rfl, trivial⟩ ?_
                          refine Goes.slot 6 (.int .i64 (0 + 1 : Nat)) (u := .int .i64 (IntKind.i64.wrap (((0 : Nat) : Int) + 1))) (congrArg _ (wrap_nat (by omega))) ?_
                          have hgood : (!decide (q.1 ≤ lstD f.2 0) && dayP q.1 && numP q.2) = true := by
                            have e1 := of_decide_eq_false h1; have e2 := of_decide_eq_false h2; have e4 := of_decide_eq_false h4; have e5 := of_decide_eq_false h5
                            have a1 : decide (q.1 ≤ lstD f.2 0) = false := decide_eq_false (by show ¬ q.1 ≤ -1; omega)
                            have a2 : dayP q.1 = true := by unfold dayP; rw [decide_eq_true (by omega), decide_eq_true (by omega)]; rfl
                            have a3 : numP q.2 = true := by unfold numP; rw [decide_eq_true (by omega), decide_eq_true (by omega)]; rfl
                            rw [a1, a2, a3]; rfl
                          exact back2 (0 + 1) _ ⟨by omega, by rw [hst, hdrop, stOk, hgood, Bool.true_and]; rw [show lstD f.2 (0 + 1) = q.1 by simp [lstD, hq]]⟩ (by omega) (by kernel_rfl) (by kernel_rfl) (by kernel_rfl)
                | succ j2 =>
                  obtain ⟨qj, hqj⟩ : ∃ qj, f.2[j2]? = some qj := ⟨f.2[j2]'(by omega), by simp⟩
                  obtain ⟨b9, o9, e9, -, z1, -⟩ := hstm j2 qj hqj
                  cases e9
                  have hlast : lstD f.2 (j2 + 1) = qj.1 := by simp [lstD, hqj]
                  refine Goes.openY [] [(b2, ob2)] (fun w' hI => hex1 hob2 hI.1) ?_
                  cases h1 : decide (q.1 < 0) with
                  | true =>
                    refine Goes.run [0, 1] [] trivial ?_
                    refine Goes.valA 2 (Instr.indexAt 160 (.slice (some ⟨b2, o2, none⟩) M c2) (.int .i64 ((j2 + 1 : Nat) : Int))) (.pointer (some ⟨b2, o2 + (j2 + 1) * 2, none⟩)) (fun w' _ => idxT b2 o2 M c2 (j2 + 1) (by omega) w') ?_
                    refine Goes.run [3] [] trivial ?_
                    refine Goes.valA 4 (Instr.loadAt 3 (.pointer (some ⟨b2, o2 + (j2 + 1) * 2, none⟩))) (.int .i64 q.1) (fun w' hm => load1 Tryz.isAgg3 (Cel.same y1 hob2 (hm.get 0))) ?_
                    refine Goes.run [5] [] trivial ?_
                    refine Goes.slot 63 (.bool true) (u := .bool (decide (q.1 < 0))) (congrArg _ (h1)) ?_
                    refine Goes.run [6, 7, 8, 9, 10, 11, 12, 13, 14, 15, 16, 17, 18, 19, 20, 21, 22, 23, 24, 25, 26, 27, 28, 29, 30, 31, 32, 33, 34, 35, 36, 37, 38, 39, 40, 41, 42, 43, 44, 45, 46, 47, 1] [(true, true)] ⟨rfl, trivial⟩ ?_
                    have hbad : (!decide (q.1 ≤ lstD f.2 (j2 + 1)) && dayP q.1 && numP q.2) = false := by
                      rw [Bool.and_eq_false_iff, Bool.and_eq_false_iff]
                      refine .inl (.inr ?_); unfold dayP; have := of_decide_eq_true h1; rw [decide_eq_false (by omega), Bool.false_and]
                    exact Goes.ret [] (.bool false) fun w' hm hI => ⟨by rw [hR, hlen4, hst, hdrop, stOk, hbad]; simp, bel0 hI⟩
                  | false =>
                    cases h2 : decide (q.1 > 73048) with
                    | true =>
                      refine Goes.run [0, 1] [] trivial ?_
                      refine Goes.valA 2 (Instr.indexAt 160 (.slice (some ⟨b2, o2, none⟩) M c2) (.int .i64 ((j2 + 1 : Nat) : Int))) (.pointer (some ⟨b2, o2 + (j2 + 1) * 2, none⟩)) (fun w' _ => idxT b2 o2 M c2 (j2 + 1) (by omega) w') ?_
                      refine Goes.run [3] [] trivial ?_
                      refine Goes.valA 4 (Instr.loadAt 3 (.pointer (some ⟨b2, o2 + (j2 + 1) * 2, none⟩))) (.int .i64 q.1) (fun w' hm => load1 Tryz.isAgg3 (Cel.same y1 hob2 (hm.get 0))) ?_
                      refine Goes.run [5] [] trivial ?_
                      refine Goes.slot 63 (.bool false) (u := .bool (decide (q.1 < 0))) (congrArg _ (h1)) ?_
                      refine Goes.run [6, 7, 8] [] trivial ?_
                      refine Goes.valA 9 (Instr.indexAt 160 (.slice (some ⟨b2, o2, none⟩) M c2) (.int .i64 ((j2 + 1 : Nat) : Int))) (.pointer (some ⟨b2, o2 + (j2 + 1) * 2, none⟩)) (fun w' _ => idxT b2 o2 M c2 (j2 + 1) (by omega) w') ?_
                      refine Goes.run [10] [] trivial ?_
                      refine Goes.valA 11 (Instr.loadAt 3 (.pointer (some ⟨b2, o2 + (j2 + 1) * 2, none⟩))) (.int .i64 q.1) (fun w' hm => load1 Tryz.isAgg3 (Cel.same y1 hob2 (hm.get 0))) ?_
                      refine Goes.run [12] [] trivial ?_
                      refine Goes.slot 70 (.bool true) (u := .bool (decide (q.1 > 73048))) (congrArg _ (h2)) ?_
                      refine Goes.run [13, 14, 15, 16, 17, 18, 19, 20, 21, 22, 23, 24, 25, 26, 27, 28, 29, 30, 31, 32, 33, 34, 35, 36, 37, 38, 39, 40, 41, 42, 43, 44, 45, 46, 47, 1] [(true, true)] ⟨rfl, trivial⟩ ?_
                      have hbad : (!decide (q.1 ≤ lstD f.2 (j2 + 1)) && dayP q.1 && numP q.2) = false := by
                        rw [Bool.and_eq_false_iff, Bool.and_eq_false_iff]
                        refine .inl (.inr ?_); unfold dayP; have := of_decide_eq_true h2; rw [Bool.and_eq_false_iff]; exact .inr (decide_eq_false (by omega))
                      exact Goes.ret [] (.bool false) fun w' hm hI => ⟨by rw [hR, hlen4, hst, hdrop, stOk, hbad]; simp, bel0 hI⟩
                    | false =>
                      cases h3 : decide (qj.1 ≥ q.1) with
                      | true =>
                        refine Goes.run [0, 1] [] trivial ?_
                        refine Goes.valA 2 (Instr.indexAt 160 (.slice (some ⟨b2, o2, none⟩) M c2) (.int .i64 ((j2 + 1 : Nat) : Int))) (.pointer (some ⟨b2, o2 + (j2 + 1) * 2, none⟩)) (fun w' _ => idxT b2 o2 M c2 (j2 + 1) (by omega) w') ?_
                        refine Goes.run [3] [] trivial ?_
                        refine Goes.valA 4 (Instr.loadAt 3 (.pointer (some ⟨b2, o2 + (j2 + 1) * 2, none⟩))) (.int .i64 q.1) (fun w' hm => load1 Tryz.isAgg3 (Cel.same y1 hob2 (hm.get 0))) ?_
                        refine Goes.run [5] [] trivial ?_
                        refine Goes.slot 63 (.bool false) (u := .bool (decide (q.1 < 0))) (congrArg _ (h1)) ?_
                        refine Goes.run [6, 7, 8] [] trivial ?_
                        refine Goes.valA 9 (Instr.indexAt 160 (.slice (some ⟨b2, o2, none⟩) M c2) (.int .i64 ((j2 + 1 : Nat) : Int))) (.pointer (some ⟨b2, o2 + (j2 + 1) * 2, none⟩)) (fun w' _ => idxT b2 o2 M c2 (j2 + 1) (by omega) w') ?_
                        refine Goes.run [10] [] trivial ?_
                        refine Goes.valA 11 (Instr.loadAt 3 (.pointer (some ⟨b2, o2 + (j2 + 1) * 2, none⟩))) (.int .i64 q.1) (fun w' hm => load1 Tryz.isAgg3 (Cel.same y1 hob2 (hm.get 0))) ?_
                        refine Goes.run [12] [] trivial ?_
                        refine Goes.slot 70 (.bool false) (u := .bool (decide (q.1 > 73048))) (congrArg _ (h2)) ?_
                        refine Goes.run [13, 14, 15, 16] [] trivial ?_
                        refine Goes.slot 74 (.bool true) (u := .bool (decide (((j2 + 1 : Nat) : Int) > 0))) (congrArg _ (decide_eq_true (by omega))) ?_
                        refine Goes.run [17, 18, 19, 20] [] trivial ?_
                        refine Goes.slot 78 (.int .i64 (j2 : Int)) (u := .int .i64 (IntKind.i64.wrap (((j2 + 1 : Nat) : Int) - 1))) (congrArg _ (by rw [IntWalk.i64_in _ ⟨by omega, by omega⟩]; omega)) ?_
                        refine Goes.valA 21 (Instr.indexAt 160 (.slice (some ⟨b2, o2, none⟩) M c2) (.int .i64 (j2 : Int))) (.pointer (some ⟨b2, o2 + j2 * 2, none⟩)) (fun w' _ => idxT b2 o2 M c2 j2 (by omega) w') ?_
                        refine Goes.run [22] [] trivial ?_
                        refine Goes.valA 23 (Instr.loadAt 3 (.pointer (some ⟨b2, o2 + j2 * 2, none⟩))) (.int .i64 qj.1) (fun w' hm => load1 Tryz.isAgg3 (Cel.same z1 hob2 (hm.get 0))) ?_
                        refine Goes.run [24, 25] [] trivial ?_
                        refine Goes.valA 26 (Instr.indexAt 160 (.slice (some ⟨b2, o2, none⟩) M c2) (.int .i64 ((j2 + 1 : Nat) : Int))) (.pointer (some ⟨b2, o2 + (j2 + 1) * 2, none⟩)) (fun w' _ => idxT b2 o2 M c2 (j2 + 1) (by omega) w') ?_
                        refine Goes.run [27] [] trivial ?_
                        refine Goes.valA 28 (Instr.loadAt 3 (.pointer (some ⟨b2, o2 + (j2 + 1) * 2, none⟩))) (.int .i64 q.1) (fun w' hm => load1 Tryz.isAgg3 (Cel.same y1 hob2 (hm.get 0))) ?_
                        refine Goes.run [29] [] trivial ?_
                        refine Goes.slot 87 (.bool true) (u := .bool (decide (qj.1 ≥ q.1))) (congrArg _ (h3)) ?_
                        refine Goes.run [30, 31, 32, 33, 34, 35, 36, 37, 38, 39, 40, 41, 42, 43, 44, 45, 46, 47, 1] [(true, true)] ⟨rfl, trivial⟩ ?_
                        have hbad : (!decide (q.1 ≤ lstD f.2 (j2 + 1)) && dayP q.1 && numP q.2) = false := by
                          rw [Bool.and_eq_false_iff, Bool.and_eq_false_iff]
                          refine .inl (.inl ?_); rw [hlast]; have := of_decide_eq_true h3; rw [decide_eq_true (by omega)]; rfl
                        exact Goes.ret [] (.bool false) fun w' hm hI => ⟨by rw [hR, hlen4, hst, hdrop, stOk, hbad]; simp, bel0 hI⟩
                      | false =>
                        cases h4 : decide (q.2 < -1000000000000000) with
                        | true =>
                          refine Goes.run [0, 1] [] trivial ?_
                          refine Goes.valA 2 (Instr.indexAt 160 (.slice (some ⟨b2, o2, none⟩) M c2) (.int .i64 ((j2 + 1 : Nat) : Int))) (.pointer (some ⟨b2, o2 + (j2 + 1) * 2, none⟩)) (fun w' _ => idxT b2 o2 M c2 (j2 + 1) (by omega) w') ?_
                          refine Goes.run [3] [] trivial ?_
                          refine Goes.valA 4 (Instr.loadAt 3 (.pointer (some ⟨b2, o2 + (j2 + 1) * 2, none⟩))) (.int .i64 q.1) (fun w' hm => load1 Tryz.isAgg3 (Cel.same y1 hob2 (hm.get 0))) ?_
                          refine Goes.run [5] [] trivial ?_
                          refine Goes.slot 63 (.bool false) (u := .bool (decide (q.1 < 0))) (congrArg _ (h1)) ?_
                          refine Goes.run [6, 7, 8] [] trivial ?_
                          refine Goes.valA 9 (Instr.indexAt 160 (.slice (some ⟨b2, o2, none⟩) M c2) (.int .i64 ((j2 + 1 : Nat) : Int))) (.pointer (some ⟨b2, o2 + (j2 + 1) * 2, none⟩)) (fun w' _ => idxT b2 o2 M c2 (j2 + 1) (by omega) w') ?_
                          refine Goes.run [10] [] trivial ?_
                          refine Goes.valA 11 (Instr.loadAt 3 (.pointer (some ⟨b2, o2 + (j2 + 1) * 2, none⟩))) (.int .i64 q.1) (fun w' hm => load1 Tryz.isAgg3 (Cel.same y1 hob2 (hm.get 0))) ?_
                          refine Goes.run [12] [] trivial ?_
                          refine Goes.slot 70 (.bool false) (u := .bool (decide (q.1 > 73048))) (congrArg _ (h2)) ?_
                          refine Goes.run [13, 14, 15, 16] [] trivial ?_
                          refine Goes.slot 74 (.bool true) (u := .bool (decide (((j2 + 1 : Nat) : Int) > 0))) (congrArg _ (decide_eq_true (by omega))) ?_
                          refine Goes.run [17, 18, 19, 20] [] trivial ?_
                          refine Goes.slot 78 (.int .i64 (j2 : Int)) (u := .int .i64 (IntKind.i64.wrap (((j2 + 1 : Nat) : Int) - 1))) (congrArg _ (by rw [IntWalk.i64_in _ ⟨by omega, by omega⟩]; omega)) ?_
                          refine Goes.valA 21 (Instr.indexAt 160 (.slice (some ⟨b2, o2, none⟩) M c2) (.int .i64 (j2 : Int))) (.pointer (some ⟨b2, o2 + j2 * 2, none⟩)) (fun w' _ => idxT b2 o2 M c2 j2 (by omega) w') ?_
                          refine Goes.run [22] [] trivial ?_
                          refine Goes.valA 23 (Instr.loadAt 3 (.pointer (some ⟨b2, o2 + j2 * 2, none⟩))) (.int .i64 qj.1) (fun w' hm => load1 Tryz.isAgg3 (Cel.same z1 hob2 (hm.get 0))) ?_
                          refine Goes.run [24, 25] [] trivial ?_
                          refine Goes.valA 26 (Instr.indexAt 160 (.slice (some ⟨b2, o2, none⟩) M c2) (.int .i64 ((j2 + 1 : Nat) : Int))) (.pointer (some ⟨b2, o2 + (j2 + 1) * 2, none⟩)) (fun w' _ => idxT b2 o2 M c2 (j2 + 1) (by omega) w') ?_
                          refine Goes.run [27] [] trivial ?_
                          refine Goes.valA 28 (Instr.loadAt 3 (.pointer (some ⟨b2, o2 + (j2 + 1) * 2, none⟩))) (.int .i64 q.1) (fun w' hm => load1 Tryz.isAgg3 (Cel.same y1 hob2 (hm.get 0))) ?_
                          refine Goes.run [29] [] trivial ?_
                          refine Goes.slot 87 (.bool false) (u := .bool (decide (qj.1 ≥ q.1))) (congrArg _ (h3)) ?_
                          refine Goes.run [30, 31, 32, 33, 34] [] trivial ?_
                          refine Goes.valA 35 (Instr.indexAt 160 (.slice (some ⟨b2, o2, none⟩) M c2) (.int .i64 ((j2 + 1 : Nat) : Int))) (.pointer (some ⟨b2, o2 + (j2 + 1) * 2, none⟩)) (fun w' _ => idxT b2 o2 M c2 (j2 + 1) (by omega) w') ?_
                          refine Goes.run [36] [] trivial ?_
                          refine Goes.valA 37 (Instr.loadAt 2 (.pointer (some ⟨b2, o2 + (j2 + 1) * 2 + 1, none⟩))) (.int .i64 q.2) (fun w' hm => load1 Tryz.isAgg2 (Cel.same y2 hob2 (hm.get 0))) ?_
                          refine Goes.run [38] [] trivial ?_
                          refine Goes.slot 96 (.bool true) (u := .bool (decide (q.2 < -1000000000000000))) (congrArg _ (h4)) ?_
                          refine Goes.run [39, 40, 41, 42, 43, 44, 45, 46, 47, 1] [(true, true)] ⟨rfl, trivial⟩ ?_
                          have hbad : (!decide (q.1 ≤ lstD f.2 (j2 + 1)) && dayP q.1 && numP q.2) = false := by
                            rw [Bool.and_eq_false_iff, Bool.and_eq_false_iff]
                            refine .inr ?_; unfold numP; have := of_decide_eq_true h4; rw [decide_eq_false (by omega), Bool.false_and]
                          exact Goes.ret [] (.bool false) fun w' hm hI => ⟨by rw [hR, hlen4, hst, hdrop, stOk, hbad]; simp, bel0 hI⟩
                        | false =>
                          cases h5 : decide (q.2 > 1000000000000000) with
                          | true =>
                            refine Goes.run [0, 1] [] trivial ?_
                            refine Goes.valA 2 (Instr.indexAt 160 (.slice (some ⟨b2, o2, none⟩) M c2) (.int .i64 ((j2 + 1 : Nat) : Int))) (.pointer (some ⟨b2, o2 + (j2 + 1) * 2, none⟩)) (fun w' _ => idxT b2 o2 M c2 (j2 + 1) (by omega) w') ?_
                            refine Goes.run [3] [] trivial ?_
                            refine Goes.valA 4 (Instr.loadAt 3 (.pointer (some ⟨b2, o2 + (j2 + 1) * 2, none⟩))) (.int .i64 q.1) (fun w' hm => load1 Tryz.isAgg3 (Cel.same y1 hob2 (hm.get 0))) ?_
                            refine Goes.run [5] [] trivial ?_
                            refine Goes.slot 63 (.bool false) (u := .bool (decide (q.1 < 0))) (congrArg _ (h1)) ?_
                            refine Goes.run [6, 7, 8] [] trivial ?_
                            refine Goes.valA 9 (Instr.indexAt 160 (.slice (some ⟨b2, o2, none⟩) M c2) (.int .i64 ((j2 + 1 : Nat) : Int))) (.pointer (some ⟨b2, o2 + (j2 + 1) * 2, none⟩)) (fun w' _ => idxT b2 o2 M c2 (j2 + 1) (by omega) w') ?_
                            refine Goes.run [10] [] trivial ?_
                            refine Goes.valA 11 (Instr.loadAt 3 (.pointer (some ⟨b2, o2 + (j2 + 1) * 2, none⟩))) (.int .i64 q.1) (fun w' hm => load1 Tryz.isAgg3 (Cel.same y1 hob2 (hm.get 0))) ?_
                            refine Goes.run [12] [] trivial ?_
                            refine Goes.slot 70 (.bool false) (u := .bool (decide (q.1 > 73048))) (congrArg _ (h2)) ?_
                            refine Goes.run [13, 14, 15, 16] [] trivial ?_
                            refine Goes.slot 74 (.bool true) (u := .bool (decide (((j2 + 1 : Nat) : Int) > 0))) (congrArg _ (decide_eq_true (by omega))) ?_
                            refine Goes.run [17, 18, 19, 20] [] trivial ?_
                            refine Goes.slot 78 (.int .i64 (j2 : Int)) (u := .int .i64 (IntKind.i64.wrap (((j2 + 1 : Nat) : Int) - 1))) (congrArg _ (by rw [IntWalk.i64_in _ ⟨by omega, by omega⟩]; omega)) ?_
                            refine Goes.valA 21 (Instr.indexAt 160 (.slice (some ⟨b2, o2, none⟩) M c2) (.int .i64 (j2 : Int))) (.pointer (some ⟨b2, o2 + j2 * 2, none⟩)) (fun w' _ => idxT b2 o2 M c2 j2 (by omega) w') ?_
                            refine Goes.run [22] [] trivial ?_
                            refine Goes.valA 23 (Instr.loadAt 3 (.pointer (some ⟨b2, o2 + j2 * 2, none⟩))) (.int .i64 qj.1) (fun w' hm => load1 Tryz.isAgg3 (Cel.same z1 hob2 (hm.get 0))) ?_
                            refine Goes.run [24, 25] [] trivial ?_
                            refine Goes.valA 26 (Instr.indexAt 160 (.slice (some ⟨b2, o2, none⟩) M c2) (.int .i64 ((j2 + 1 : Nat) : Int))) (.pointer (some ⟨b2, o2 + (j2 + 1) * 2, none⟩)) (fun w' _ => idxT b2 o2 M c2 (j2 + 1) (by omega) w') ?_
                            refine Goes.run [27] [] trivial ?_
                            refine Goes.valA 28 (Instr.loadAt 3 (.pointer (some ⟨b2, o2 + (j2 + 1) * 2, none⟩))) (.int .i64 q.1) (fun w' hm => load1 Tryz.isAgg3 (Cel.same y1 hob2 (hm.get 0))) ?_
                            refine Goes.run [29] [] trivial ?_
                            refine Goes.slot 87 (.bool false) (u := .bool (decide (qj.1 ≥ q.1))) (congrArg _ (h3)) ?_
                            refine Goes.run [30, 31, 32, 33, 34] [] trivial ?_
                            refine Goes.valA 35 (Instr.indexAt 160 (.slice (some ⟨b2, o2, none⟩) M c2) (.int .i64 ((j2 + 1 : Nat) : Int))) (.pointer (some ⟨b2, o2 + (j2 + 1) * 2, none⟩)) (fun w' _ => idxT b2 o2 M c2 (j2 + 1) (by omega) w') ?_
                            refine Goes.run [36] [] trivial ?_
                            refine Goes.valA 37 (Instr.loadAt 2 (.pointer (some ⟨b2, o2 + (j2 + 1) * 2 + 1, none⟩))) (.int .i64 q.2) (fun w' hm => load1 Tryz.isAgg2 (Cel.same y2 hob2 (hm.get 0))) ?_
                            refine Goes.run [38] [] trivial ?_
                            refine Goes.slot 96 (.bool false) (u := .bool (decide (q.2 < -1000000000000000))) (congrArg _ (h4)) ?_
                            refine Goes.run [39, 40, 41, 42] [] trivial ?_
                            refine Goes.valA 43 (Instr.indexAt 160 (.slice (some ⟨b2, o2, none⟩) M c2) (.int .i64 ((j2 + 1 : Nat) : Int))) (.pointer (some ⟨b2, o2 + (j2 + 1) * 2, none⟩)) (fun w' _ => idxT b2 o2 M c2 (j2 + 1) (by omega) w') ?_
                            refine Goes.run [44] [] trivial ?_
                            refine Goes.valA 45 (Instr.loadAt 2 (.pointer (some ⟨b2, o2 + (j2 + 1) * 2 + 1, none⟩))) (.int .i64 q.2) (fun w' hm => load1 Tryz.isAgg2 (Cel.same y2 hob2 (hm.get 0))) ?_
                            refine Goes.run [46] [] trivial ?_
                            refine Goes.slot 104 (.bool true) (u := .bool (decide (q.2 > 1000000000000000))) (congrArg _ (h5)) ?_
                            refine Goes.run [47, 1] [(true, true)] ⟨rfl, trivial⟩ ?_
                            have hbad : (!decide (q.1 ≤ lstD f.2 (j2 + 1)) && dayP q.1 && numP q.2) = false := by
                              rw [Bool.and_eq_false_iff, Bool.and_eq_false_iff]
                              refine .inr ?_; unfold numP; have := of_decide_eq_true h5; rw [Bool.and_eq_false_iff]; exact .inr (decide_eq_false (by omega))
                            exact Goes.ret [] (.bool false) fun w' hm hI => ⟨by rw [hR, hlen4, hst, hdrop, stOk, hbad]; simp, bel0 hI⟩
                          | false =>
                            refine Goes.run [0, 1] [] trivial ?_
                            refine Goes.valA 2 (Instr.indexAt 160 (.slice (some ⟨b2, o2, none⟩) M c2) (.int .i64 ((j2 + 1 : Nat) : Int))) (.pointer (some ⟨b2, o2 + (j2 + 1) * 2, none⟩)) (fun w' _ => idxT b2 o2 M c2 (j2 + 1) (by omega) w') ?_
                            refine Goes.run [3] [] trivial ?_
                            refine Goes.valA 4 (Instr.loadAt 3 (.pointer (some ⟨b2, o2 + (j2 + 1) * 2, none⟩))) (.int .i64 q.1) (fun w' hm => load1 Tryz.isAgg3 (Cel.same y1 hob2 (hm.get 0))) ?_
                            refine Goes.run [5] [] trivial ?_
                            refine Goes.slot 63 (.bool false) (u := .bool (decide (q.1 < 0))) (congrArg _ (h1)) ?_
                            refine Goes.run [6, 7, 8] [] trivial ?_
                            refine Goes.valA 9 (Instr.indexAt 160 (.slice (some ⟨b2, o2, none⟩) M c2) (.int .i64 ((j2 + 1 : Nat) : Int))) (.pointer (some ⟨b2, o2 + (j2 + 1) * 2, none⟩)) (fun w' _ => idxT b2 o2 M c2 (j2 + 1) (by omega) w') ?_
                            refine Goes.run [10] [] trivial ?_
                            refine Goes.valA 11 (Instr.loadAt 3 (.pointer (some ⟨b2, o2 + (j2 + 1) * 2, none⟩))) (.int .i64 q.1) (fun w' hm => load1 Tryz.isAgg3 (Cel.same y1 hob2 (hm.get 0))) ?_
                            refine Goes.run [12] [] trivial ?_
                            refine Goes.slot 70 (.bool false) (u := .bool (decide (q.1 > 73048))) (congrArg _ (h2)) ?_
                            refine Goes.run [13, 14, 15, 16] [] trivial ?_
                            refine Goes.slot 74 (.bool true) (u := .bool (decide (((j2 + 1 : Nat) : Int) > 0))) (congrArg _ (decide_eq_true (by omega))) ?_
                            refine Goes.run [17, 18, 19, 20] [] trivial ?_
                            refine Goes.slot 78 (.int .i64 (j2 : Int)) (u := .int .i64 (IntKind.i64.wrap (((j2 + 1 : Nat) : Int) - 1))) (congrArg _ (by rw [IntWalk.i64_in _ ⟨by omega, by omega⟩]; omega)) ?_
                            refine Goes.valA 21 (Instr.indexAt 160 (.slice (some ⟨b2, o2, none⟩) M c2) (.int .i64 (j2 : Int))) (.pointer (some ⟨b2, o2 + j2 * 2, none⟩)) (fun w' _ => idxT b2 o2 M c2 j2 (by omega) w') ?_
                            refine Goes.run [22] [] trivial ?_
                            refine Goes.valA 23 (Instr.loadAt 3 (.pointer (some ⟨b2, o2 + j2 * 2, none⟩))) (.int .i64 qj.1) (fun w' hm => load1 Tryz.isAgg3 (Cel.same z1 hob2 (hm.get 0))) ?_
                            refine Goes.run [24, 25] [] trivial ?_
                            refine Goes.valA 26 (Instr.indexAt 160 (.slice (some ⟨b2, o2, none⟩) M c2) (.int .i64 ((j2 + 1 : Nat) : Int))) (.pointer (some ⟨b2, o2 + (j2 + 1) * 2, none⟩)) (fun w' _ => idxT b2 o2 M c2 (j2 + 1) (by omega) w') ?_
                            refine Goes.run [27] [] trivial ?_
                            refine Goes.valA 28 (Instr.loadAt 3 (.pointer (some ⟨b2, o2 + (j2 + 1) * 2, none⟩))) (.int .i64 q.1) (fun w' hm => load1 Tryz.isAgg3 (Cel.same y1 hob2 (hm.get 0))) ?_
                            refine Goes.run [29] [] trivial ?_
                            refine Goes.slot 87 (.bool false) (u := .bool (decide (qj.1 ≥ q.1))) (congrArg _ (h3)) ?_
                            refine Goes.run [30, 31, 32, 33, 34] [] trivial ?_
                            refine Goes.valA 35 (Instr.indexAt 160 (.slice (some ⟨b2, o2, none⟩) M c2) (.int .i64 ((j2 + 1 : Nat) : Int))) (.pointer (some ⟨b2, o2 + (j2 + 1) * 2, none⟩)) (fun w' _ => idxT b2 o2 M c2 (j2 + 1) (by omega) w') ?_
                            refine Goes.run [36] [] trivial ?_
                            refine Goes.valA 37 (Instr.loadAt 2 (.pointer (some ⟨b2, o2 + (j2 + 1) * 2 + 1, none⟩))) (.int .i64 q.2) (fun w' hm => load1 Tryz.isAgg2 (Cel.same y2 hob2 (hm.get 0))) ?_
                            refine Goes.run [38] [] trivial ?_
                            refine Goes.slot 96 (.bool false) (u := .bool (decide (q.2 < -1000000000000000))) (congrArg _ (h4)) ?_
                            refine Goes.run [39, 40, 41, 42] [] trivial ?_
                            refine Goes.valA 43 (Instr.indexAt 160 (.slice (some ⟨b2, o2, none⟩) M c2) (.int .i64 ((j2 + 1 : Nat) : Int))) (.pointer (some ⟨b2, o2 + (j2 + 1) * 2, none⟩)) (fun w' _ => idxT b2 o2 M c2 (j2 + 1) (by omega) w') ?_
                            refine Goes.run [44] [] trivial ?_
                            refine Goes.valA 45 (Instr.loadAt 2 (.pointer (some ⟨b2, o2 + (j2 + 1) * 2 + 1, none⟩))) (.int .i64 q.2) (fun w' hm => load1 Tryz.isAgg2 (Cel.same y2 hob2 (hm.get 0))) ?_
                            refine Goes.run [46] [] trivial ?_
                            refine Goes.slot 104 (.bool false) (u := .bool (decide (q.2 > 1000000000000000))) (congrArg _ (h5)) ?_
                            refine Goes.run [47, 0] [(false, false)] ⟨rfl, trivial⟩ ?_
                            refine Goes.slot 6 (.int .i64 ((j2 + 1) + 1 : Nat)) (u := .int .i64 (IntKind.i64.wrap ((((j2 + 1) : Nat) : Int) + 1))) (congrArg _ (wrap_nat (by omega))) ?_
                            have hgood : (!decide (q.1 ≤ lstD f.2 (j2 + 1)) && dayP q.1 && numP q.2) = true := by
                              have e1 := of_decide_eq_false h1; have e2 := of_decide_eq_false h2; have e4 := of_decide_eq_false h4; have e5 := of_decide_eq_false h5
                              have a1 : decide (q.1 ≤ lstD f.2 (j2 + 1)) = false := decide_eq_false (by rw [hlast]; have := of_decide_eq_false h3; omega)
                              have a2 : dayP q.1 = true := by unfold dayP; rw [decide_eq_true (by omega), decide_eq_true (by omega)]; rfl
                              have a3 : numP q.2 = true := by unfold numP; rw [decide_eq_true (by omega), decide_eq_true (by omega)]; rfl
                              rw [a1, a2, a3]; rfl
                            exact back2 ((j2 + 1) + 1) _ ⟨by omega, by rw [hst, hdrop, stOk, hgood, Bool.true_and]; rw [show lstD f.2 ((j2 + 1) + 1) = q.1 by simp [lstD, hq]]⟩ (by omega) (by kernel_rfl) (by kernel_rfl) (by kernel_rfl)
end Go.Proofs.YtddbiiejilcbbaaGreatDoor
namespace Go.Proofs.YtddbiiejilcbbaaGreatDoor
open Go Go.RowKit

/-- What comes of a run: bad tells if it was too much. -/
def outP (right : Bool) (S : Ms) (bad : Bool) : R4 := bif right && !bad then ⟨S.holds, S.out, S.steps, 0⟩ else ⟨[], [], 0, 180⟩
def s0Ms : Ms := ⟨[], [], 0⟩
theorem s0_fit : s0Ms.Fit := ⟨by decide, by decide, by decide, by decide⟩
theorem s0_over : overM s0Ms = false := by decide
def rgt (k : Kd) (fs : Fs) (day : Int) : Bool := dayP day && rfP fs && rightR k
noncomputable def begP (k : Kd) (fs : Fs) (day : Int) : R4 := outP (rgt k fs day) (runP k fs day 65538 ⟨zeros, ((0 : Nat) : Int), 1000000⟩ s0Ms) (overM (runP k fs day 65538 ⟨zeros, ((0 : Nat) : Int), 1000000⟩ s0Ms))
theorem out_same {right : Bool} {S : Ms} {D : Ms × Bool} (h1 : D.2 = overM S) (h2 : D.2 = false → D.1 = S) : outP right D.1 D.2 = outP right S (overM S) := by
  unfold outP
  rw [← h1]
  cases hb : D.2 with
  | true => cases right <;> rfl
  | false => rw [h2 hb]
theorem dayP_in {day : Int} (h : dayP day = true) : 0 ≤ day ∧ day ≤ 73048 := by
  unfold dayP at h
  simp only [Bool.and_eq_true, decide_eq_true_eq] at h
  exact h
section
variable {w : World} {k : Kd} {fs : Fs} {fa aW aI : Option Addr} {fN fc nW cW nI cI : Nat} {rg day : Int}
theorem rn0_of (hM : CdM w aW nW cW aI nI cI k) (hrg : k.regs = rg) (hF : Fds w.heap.size w (.slice fa fN fc) fs) (hT : Tab w) (h : rgt k fs day = true) : Rn0 w k fs fa fN fc rg aW nW cW aI nI cI day := by
  unfold rgt at h
  simp only [Bool.and_eq_true] at h
  exact ⟨hM, hrg, h.2, hF, rf_right h.1.2, hT, dayP_in h.1.1⟩
set_option maxHeartbeats 4000000 in
set_option maxRecDepth 100000 in
seal rn rnN rnS Goes ans atEnd put0 put putM opened openedY putA0 putA oneSt st0 keep mkSt newSt in
theorem pbegin_any (hM : CdM w aW nW cW aI nI cI k) (hrg : k.regs = rg) (hwf : k.wf) (hF : Fds w.heap.size w (.slice fa fN fc) fs) (hl : ∀ f ∈ fs, f.1.length ≤ 9223372036854775807) (hU : TabU w) (hT : Tab w) : Calls Tryz.prog 13 #[cdV rg aW nW cW aI nI cI, .int .i64 day, (.slice fa fN fc)] w (BgQ day w (begP k fs day)) := by
  obtain ⟨S, hS⟩ : ∃ S, runP k fs day 65538 ⟨zeros, ((0 : Nat) : Int), 1000000⟩ s0Ms = S := ⟨_, rfl⟩
  unfold begP
  rw [hS]
  refine Goes.begin Tryz.func13 [] (fun _ => True) Holds.nil (by simp [Mem.ids]) (fun _ _ => trivial) ?_
  refine Goes.run [] [] trivial ?_
  refine Goes.new1 w.heap.size (fun w' h => h.1.size) fun gc hgc => ?_
  refine Goes.run [0] [] trivial ?_
  refine Goes.new1 w.heap.size (fun w' h => h.1.size) fun gm hgm => ?_
  refine Goes.run [1] [] trivial ?_
  have hmo : ∀ {w'}, Holds [(gc, cdO rg (.slice aW nW cW) (.slice aI nI cI)), (gm, vmO day (.slice fa fN fc) rg (.slice aW nW cW) (.slice aI nI cI) nl nl 0)] w' → w'.heap[gm]? = some (vmO day (.slice fa fN fc) rg (.slice aW nW cW) (.slice aI nI cI) nl nl 0) := fun hm => hm.get 1
  refine Goes.call0 30 #[.pointer (some ⟨gm, 0, none⟩)] (.bool (rgt k fs day)) (fun w' hm hI => vmright_any (show w'.heap[gm]? = some (vmO day (.slice fa fN fc) rg (.slice aW nW cW) (.slice aI nI cI) nl nl 0) from hm.get 1) (hF.at (bel0 hI)) hl (hU.below (bel0 hI)) (hM.below (bel0 hI)) hrg hwf) ?_
  cases hr : rgt k fs day with
  | false =>
    refine Goes.run [1] [(true, true)] ⟨rfl, trivial⟩ ?_
    exact Goes.ret [] (.tuple #[nl, nl, .int .i64 0, .int .i64 180]) fun w' hm hI => ⟨nl, nl, rfl, Hds.nil, Trs.nil, bel0 hI⟩
  | true =>
    have h0 := rn0_of hM hrg hF hT hr
    have hlen := (right_len h0.right).1
    refine Goes.run [0] [(false, false)] ⟨rfl, trivial⟩ ?_
    refine Goes.call 31 #[.pointer (some ⟨gm, 0, none⟩), .int .i64 ((0 : Nat) : Int), .int .i64 1000000] fun w1 hm1 hn1 hI1 => (run_all h0 hgm 65538 0 1000000 w1 nl nl s0Ms (bel0 hI1) Hds.nil Trs.nil (show w1.heap[gm]? = some (vmO day (.slice fa fN fc) rg (.slice aW nW cW) (.slice aI nI cI) nl nl s0Ms.steps) from hm1.get 1) (by omega) s0_fit (by decide)).mono fun e w2 ⟨lv, tv, he, hg2, hMc⟩ => ?_
    rw [hS] at hg2 hMc
    obtain ⟨aL, cL, rfl⟩ := own_form hMc.2.1
    obtain ⟨aT, cT, rfl⟩ := own_form hMc.2.2.1
    have hB1 := bel0 hI1
    refine ⟨_, _, [(gm, vmO day (.slice fa fN fc) rg (.slice aW nW cW) (.slice aI nI cI) (.slice aL S.holds.length cL) (.slice aT S.out.length cT) S.steps)], he, hold1v hg2, by simp [Mem.ids], hMc.stay ⟨_, _, _, hg2, by decide, by decide⟩ (fun x hx => .inl (by simpa [Mem.ids] using hx)), ?_⟩
    have fin : ∀ {w'}, McI w.heap.size gm day w1 nl nl (.slice aL S.holds.length cL) (.slice aT S.out.length cT) S.holds S.out w' → Below w.heap.size w w' := fun h => hB1.trans (mcB Hds.nil Trs.nil hgm hB1.size h)
    refine Goes.run [] [] trivial ?_
    cases hov : overM S with
    | true =>
      refine Goes.call0 32 #[.pointer (some ⟨gm, 0, none⟩)] (.tuple #[nl, nl, .int .i64 0, .int .i64 180]) (fun w' hm hI => by have := vdone_any (show w'.heap[gm]? = some (vmO day (.slice fa fN fc) rg (.slice aW nW cW) (.slice aI nI cI) (.slice aL S.holds.length cL) (.slice aT S.out.length cT) S.steps) from hm.get 0); rw [show (decide (S.steps > 65536) || decide ((S.holds.length : Int) > 250)) = true from hov] at this; exact this) ?_
      refine Goes.run [] [] trivial ?_
      exact Goes.ret [] (.tuple #[nl, nl, .int .i64 0, .int .i64 180]) fun w' hm hI => ⟨nl, nl, rfl, Hds.nil, Trs.nil, fin hI.now⟩
    | false =>
      refine Goes.call0 32 #[.pointer (some ⟨gm, 0, none⟩)] (.tuple #[.slice aL S.holds.length cL, .slice aT S.out.length cT, .int .i64 S.steps, .int .i64 0]) (fun w' hm hI => by have := vdone_any (show w'.heap[gm]? = some (vmO day (.slice fa fN fc) rg (.slice aW nW cW) (.slice aI nI cI) (.slice aL S.holds.length cL) (.slice aT S.out.length cT) S.steps) from hm.get 0); rw [show (decide (S.steps > 65536) || decide ((S.holds.length : Int) > 250)) = false from hov] at this; exact this) ?_
      refine Goes.run [] [] trivial ?_
      exact Goes.ret [] (.tuple #[.slice aL S.holds.length cL, .slice aT S.out.length cT, .int .i64 S.steps, .int .i64 0]) fun w' hm hI => ⟨_, _, rfl, hI.now.2.1, hI.now.2.2.1, fin hI.now⟩
set_option maxHeartbeats 4000000 in
set_option maxRecDepth 100000 in
seal rn rnN rnS Goes ans atEnd put0 put putM opened openedY putA0 putA oneSt st0 keep mkSt newSt in
theorem dright_any (hM : CdM w aW nW cW aI nI cI k) (hrg : k.regs = rg) (hF : Fds w.heap.size w (.slice fa fN fc) fs) (hl : ∀ f ∈ fs, f.1.length ≤ 9223372036854775807) : Calls Tryz.prog 33 #[cdV rg aW nW cW aI nI cI, .int .i64 day, (.slice fa fN fc)] w fun e w' => e = .returned (.bool (rgt k fs day)) ∧ Below w.heap.size w w' := by
  refine Goes.begin Tryz.func33 [] (fun _ => True) Holds.nil (by simp [Mem.ids]) (fun _ _ => trivial) ?_
  refine Goes.run [] [] trivial ?_
  refine Goes.new1 w.heap.size (fun w' h => h.1.size) fun gc hgc => ?_
  refine Goes.run [0] [] trivial ?_
  refine Goes.call0 20 #[cdV rg aW nW cW aI nI cI] (.bool (rightR k)) (fun w' hm hI => rright_any (hM.below (bel0 hI)) hrg) ?_
  refine Goes.run [] [] trivial ?_
  refine Goes.call0 68 #[(.slice fa fN fc)] (.bool (rfP fs)) (fun w' hm hI => rfeedsR_any (hF.at (bel0 hI)) hl) ?_
  unfold rgt dayP
  cases hA : rightR k with
  | false =>
    refine Goes.run [0, 0, 0] [(false, false), (false, false), (false, false)] ⟨rfl, rfl, rfl, trivial⟩ ?_
    exact Goes.ret [] (.bool false) fun w' hm hI => ⟨by simp, bel0 hI⟩
  | true =>
  cases hB : rfP fs with
  | false =>
    refine Goes.run [1, 0, 0] [(false, false), (false, false), (true, true)] ⟨rfl, rfl, rfl, trivial⟩ ?_
    exact Goes.ret [] (.bool false) fun w' hm hI => ⟨by simp, bel0 hI⟩
  | true =>
  cases hC : decide (day ≥ 0) with
  | false =>
    refine Goes.run [1, 1, 0] [(decide (day ≥ 0), false), (true, true), (true, true)] ⟨hC, rfl, rfl, trivial⟩ ?_
    exact Goes.ret [] (.bool false) fun w' hm hI => ⟨by simp, bel0 hI⟩
  | true =>
    refine Goes.run [1, 1, 1] [(decide (day ≥ 0), true), (true, true), (true, true)] ⟨hC, rfl, rfl, trivial⟩ ?_
    exact Goes.ret [] (.bool (decide (day ≤ 73048))) fun w' hm hI => ⟨by simp, bel0 hI⟩
set_option maxHeartbeats 4000000 in
set_option maxRecDepth 100000 in
seal rn rnN rnS Goes ans atEnd put0 put putM opened openedY putA0 putA oneSt st0 keep mkSt newSt in
theorem dtold_any {gm nL cL nT cT : Nat} {aL aT : Option Addr} {st : Int} {b : Bool} (hg : w.heap[gm]? = some (dmO day (.slice fa fN fc) (.slice aL nL cL) (.slice aT nT cT) st b)) : Calls Tryz.prog 34 #[.pointer (some ⟨gm, 0, none⟩)] w fun e w' => e = .returned (bif b then (.tuple #[nl, nl, .int .i64 0, .int .i64 180]) else .tuple #[.slice aL nL cL, .slice aT nT cT, .int .i64 st, .int .i64 0]) ∧ Below w.heap.size w w' := by
  refine Goes.begin Tryz.func34 [(gm, dmO day (.slice fa fN fc) (.slice aL nL cL) (.slice aT nT cT) st b)] (fun _ => True) (hold1v hg) (by simp [Mem.ids]) (fun _ _ => trivial) ?_
  cases b with
  | true =>
    refine Goes.run [0, 1] [(true, true)] ⟨rfl, trivial⟩ ?_
    exact Goes.ret [] (.tuple #[nl, nl, .int .i64 0, .int .i64 180]) fun w' hm hI => ⟨rfl, below_end (hold1v hg) hI.now.1 hm (by kernel_chk)⟩
  | false =>
    refine Goes.run [0, 0] [(false, false)] ⟨rfl, trivial⟩ ?_
    refine Goes.open [0] ?_
    refine Goes.run [0, 1, 2, 3, 0, 4, 5, 6, 7, 0, 8, 9, 10, 11, 0, 12, 13, 14, 15] [] trivial ?_
    exact Goes.ret [] (.tuple #[.slice aL nL cL, .slice aT nT cT, .int .i64 st, .int .i64 0]) fun w' hm hI => ⟨rfl, below_end (hold1v hg) hI.now.1 hm (by kernel_chk)⟩
set_option maxHeartbeats 4000000 in
set_option maxRecDepth 100000 in
seal rn rnN rnS Goes ans atEnd put0 put putM opened openedY putA0 putA oneSt st0 keep mkSt newSt in
theorem dbegin_any (hM : CdM w aW nW cW aI nI cI k) (hrg : k.regs = rg) (hF : Fds w.heap.size w (.slice fa fN fc) fs) (hl : ∀ f ∈ fs, f.1.length ≤ 9223372036854775807) (hT : Tab w) : Calls Tryz.prog 14 #[cdV rg aW nW cW aI nI cI, .int .i64 day, (.slice fa fN fc)] w (BgQ day w (begP k fs day)) := by
  obtain ⟨hs1, hs2⟩ := run_same k fs day 65538 ⟨zeros, ((0 : Nat) : Int), 1000000⟩ s0Ms s0_over
  unfold begP
  rw [← out_same hs1 hs2]
  clear hs1 hs2
  obtain ⟨D, hD⟩ : ∃ D, runD k fs day 65538 ⟨zeros, ((0 : Nat) : Int), 1000000⟩ s0Ms = D := ⟨_, rfl⟩
  rw [hD]
  obtain ⟨S, b⟩ := D
  show Calls _ _ _ w (BgQ day w (outP (rgt k fs day) S b))
  refine Goes.begin Tryz.func14 [] (fun _ => True) Holds.nil (by simp [Mem.ids]) (fun _ _ => trivial) ?_
  refine Goes.run [] [] trivial ?_
  refine Goes.new1 w.heap.size (fun w' h => h.1.size) fun gc hgc => ?_
  refine Goes.run [0] [] trivial ?_
  refine Goes.call0 33 #[cdV rg aW nW cW aI nI cI, .int .i64 day, (.slice fa fN fc)] (.bool (rgt k fs day)) (fun w' hm hI => dright_any (hM.below (bel0 hI)) hrg (hF.at (bel0 hI)) hl) ?_
  cases hr : rgt k fs day with
  | false =>
    refine Goes.run [1] [(true, true)] ⟨rfl, trivial⟩ ?_
    exact Goes.ret [] (.tuple #[nl, nl, .int .i64 0, .int .i64 180]) fun w' hm hI => ⟨nl, nl, rfl, Hds.nil, Trs.nil, bel0 hI⟩
  | true =>
    have h0 := rn0_of hM hrg hF hT hr
    have hlen := (right_len h0.right).1
    refine Goes.run [0] [(false, false)] ⟨rfl, trivial⟩ ?_
    refine Goes.new1 w.heap.size (fun w' h => h.1.size) fun gm hgm => ?_
    refine Goes.run [0] [] trivial ?_
    refine Goes.call 21 #[.pointer (some ⟨gm, 0, none⟩), cdV rg aW nW cW aI nI cI, .int .i64 ((0 : Nat) : Int), .int .i64 1000000] fun w1 hm1 hn1 hI1 => (der_all h0 hgm 65538 0 1000000 w1 nl nl s0Ms (bel0 hI1) Hds.nil Trs.nil (show w1.heap[gm]? = some (dmO day (.slice fa fN fc) nl nl s0Ms.steps false) from hm1.get 1) (by omega) s0_fit s0_over (by decide)).mono fun e w2 ⟨lv, tv, he, hg2, hMc⟩ => ?_
    rw [hD] at hg2 hMc
    replace hMc : McI w.heap.size gm day w1 nl nl lv tv S.holds S.out w2 := hMc
    obtain ⟨aL, cL, rfl⟩ := own_form hMc.2.1
    obtain ⟨aT, cT, rfl⟩ := own_form hMc.2.2.1
    have hB1 := bel0 hI1
    refine ⟨_, _, [(gm, dmO day (.slice fa fN fc) (.slice aL S.holds.length cL) (.slice aT S.out.length cT) S.steps b)], he, hold1v hg2, by simp [Mem.ids], hMc.stay ⟨_, _, _, hg2, by decide, by decide⟩ (fun x hx => .inl (by simpa [Mem.ids] using hx)), ?_⟩
    have fin : ∀ {w'}, McI w.heap.size gm day w1 nl nl (.slice aL S.holds.length cL) (.slice aT S.out.length cT) S.holds S.out w' → Below w.heap.size w w' := fun h => hB1.trans (mcB Hds.nil Trs.nil hgm hB1.size h)
    refine Goes.run [] [] trivial ?_
    cases b with
    | true =>
      refine Goes.call0 34 #[.pointer (some ⟨gm, 0, none⟩)] (.tuple #[nl, nl, .int .i64 0, .int .i64 180]) (fun w' hm hI => dtold_any (show w'.heap[gm]? = some (dmO day (.slice fa fN fc) (.slice aL S.holds.length cL) (.slice aT S.out.length cT) S.steps true) from hm.get 0)) ?_
      refine Goes.run [] [] trivial ?_
      exact Goes.ret [] (.tuple #[nl, nl, .int .i64 0, .int .i64 180]) fun w' hm hI => ⟨nl, nl, rfl, Hds.nil, Trs.nil, fin hI.now⟩
    | false =>
      refine Goes.call0 34 #[.pointer (some ⟨gm, 0, none⟩)] (.tuple #[.slice aL S.holds.length cL, .slice aT S.out.length cT, .int .i64 S.steps, .int .i64 0]) (fun w' hm hI => dtold_any (show w'.heap[gm]? = some (dmO day (.slice fa fN fc) (.slice aL S.holds.length cL) (.slice aT S.out.length cT) S.steps false) from hm.get 0)) ?_
      refine Goes.run [] [] trivial ?_
      exact Goes.ret [] (.tuple #[.slice aL S.holds.length cL, .slice aT S.out.length cT, .int .i64 S.steps, .int .i64 0]) fun w' hm hI => ⟨_, _, rfl, hI.now.2.1, hI.now.2.2.1, fin hI.now⟩
end
end Go.Proofs.YtddbiiejilcbbaaGreatDoor
