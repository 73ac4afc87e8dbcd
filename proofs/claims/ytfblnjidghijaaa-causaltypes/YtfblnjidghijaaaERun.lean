/- The engine's steps: what is still to be done is a stack; what is known is a row of values and blocks. -/
import Derived.Test.YtfblnjidghijaaaEBase
namespace Go.Proofs.Ytfblnjidghijaaa
open Go

/-- What is still to be done. -/
inductive TI where
  | code (c : Code)
  | blk (id : Nat)
  | lp (c : Code)
  | reg (ops : Array Oper) (rest : List Oper) (res : List Nat)
  | any (ops : Array Oper) (m0 : Mem) (n : Nat) (l : Array Bool)
/-- A loop, from its head on. -/
def LoopFrom (P : Program) (c : Code) (Q : Exit → Act → World → Prop) (a : Act) (w : World) : Prop :=
  ∀ (b : Frame) (k : List Item) (cs : List Frame), ∃ e a' w', Q e a' w' ∧ Arrives P (lone (b.at a (.code c :: .inLoop c :: k)) cs w) b k cs e a' w'
def QK (P : Program) (F : Exit → Act → World → Prop) : List TI → Exit → Act → World → Prop
  | [], e => F e
  | .code c :: k, e =>
    match e with
    | .normal => c.wp P (QK P F k)
    | e => QK P F k e
  | .blk id :: k, e =>
    match e with
    | .exit id' => if id' = id then QK P F k .normal else QK P F k (.exit id')
    | e => QK P F k e
  | .lp c :: k, e =>
    match e with
    | .normal => LoopFrom P c (QK P F k)
    | e => QK P F k e
  | .reg ops rest _ :: k, e =>
    match e with
    | .normal => wpList P ops (QK P F k) rest
    | e => QK P F k e
  | .any ops m0 n l :: k, e =>
    match e with
    | .normal => fun a w => Holds m0 w → wpAnyH P .any ops (QK P F k) (Holds m0) n l a w
    | e => QK P F k e
section
variable {P : Program} {F : Exit → Act → World → Prop} {k : List TI} {a : Act} {w : World}
theorem qk_skip (h : QK P F k .normal a w) : QK P F (.code .skip :: k) .normal a w := wp_skip h
theorem qk_seq {x y : Code} (h : QK P F (.code x :: .code y :: k) .normal a w) : QK P F (.code (.seq x y) :: k) .normal a w := by
  refine wp_seq (wp_mono (show x.wp P (QK P F (.code y :: k)) a w from h) fun e a w q => ?_)
  cases e <;> exact q
theorem qk_block {id : Nat} {c : Code} (h : QK P F (.code c :: .blk id :: k) .normal a w) : QK P F (.code (.block id c) :: k) .normal a w := by
  refine wp_block (wp_mono (show c.wp P (QK P F (.blk id :: k)) a w from h) fun e a w q => ?_)
  cases e with
  | exit i =>
    show if i = id then _ else _
    simp only [QK] at q
    split at q
    · rename_i hi; rw [if_pos hi]; exact q
    · rename_i hi; rw [if_neg hi]; exact q
  | _ => exact q
theorem qk_blk {id : Nat} (h : QK P F k .normal a w) : QK P F (.blk id :: k) .normal a w := h
theorem qk_loop {c : Code} (h : QK P F (.lp c :: k) .normal a w) : QK P F (.code (.loop c) :: k) .normal a w := by
  intro b ks cs
  obtain ⟨e, a', w', hq, harr⟩ := (show LoopFrom P c (QK P F k) a w from h) b ks cs
  exact ⟨e, a', w', hq, .of_steps (.one step_loop) harr⟩
theorem qk_lp {c : Code} (h : QK P F (.code c :: .lp c :: k) .normal a w) : QK P F (.lp c :: k) .normal a w := by
  intro b ks cs
  obtain ⟨e, a₁, w₁, hq, harr⟩ := (show c.wp P (QK P F (.lp c :: k)) a w from h) b (.inLoop c :: ks) cs
  cases e with
  | normal =>
    obtain ⟨e₂, a₂, w₂, hq₂, harr₂⟩ := (show LoopFrom P c (QK P F k) a₁ w₁ from hq) b ks cs
    exact ⟨e₂, a₂, w₂, hq₂, .of_steps (Steps.trans harr (.one step_inLoop)) harr₂⟩
  | exit id => exact ⟨_, a₁, w₁, hq, .pass (x := .inLoop c) rfl (fun _ _ => .inl (by simp)) harr⟩
  | goto l => exact ⟨_, a₁, w₁, hq, .pass (x := .inLoop c) rfl (fun _ _ => .inl (by simp)) harr⟩
  | ret => exact ⟨_, a₁, w₁, hq, .pass (x := .inLoop c) rfl (fun _ _ => .inl (by simp)) harr⟩
  | panic ch => exact ⟨_, a₁, w₁, hq, .pass (x := .inLoop c) rfl (fun _ _ => .inl (by simp)) harr⟩
  | outgrown => exact ⟨_, a₁, w₁, hq, .pass (x := .inLoop c) rfl (fun _ _ => .inl (by simp)) harr⟩
/-- Where an exit leads. -/
def outOf (id : Nat) : List TI → Option (List TI)
  | [] => none
  | .blk i :: k => if id = i then some k else outOf id k
  | _ :: k => outOf id k
theorem qk_out {id : Nat} : ∀ {k k' : List TI}, outOf id k = some k' → QK P F k' .normal a w → QK P F k (.exit id) a w
  | [], _, h, _ => by cases h
  | .blk i :: k, k', h, hq => by
    unfold outOf at h
    simp only [QK]
    split at h
    · rename_i e; cases h; rw [if_pos e]; exact hq
    · rename_i e; rw [if_neg e]; exact qk_out h hq
  | .code c :: k, k', h, hq => qk_out (k := k) h hq
  | .lp c :: k, k', h, hq => qk_out (k := k) h hq
  | .reg _ _ _ :: k, k', h, hq => qk_out (k := k) h hq
  | .any _ _ _ _ :: k, k', h, hq => qk_out (k := k) h hq
theorem qk_exit {id : Nat} {k' : List TI} (hk : outOf id k = some k') (h : QK P F k' .normal a w) : QK P F (.code (.exit id) :: k) .normal a w := wp_exit (qk_out hk h)
theorem qk_cond {c : Operand} {x y : Code} {t : Bool} (hc : a.eval c = .bool t) (h : QK P F (.code (if t then x else y) :: k) .normal a w) : QK P F (.code (.cond c x y) :: k) .normal a w := wp_cond hc h
theorem qk_reg {id : Nat} {ops : Array Oper} (h : QK P F (.reg ops ops.toList [] :: k) .normal a w) : QK P F (.code (.region id ops false) :: k) .normal a w := wp_region_list h
theorem qk_any {id : Nat} {ops : Array Oper} {m0 : Mem} (hm : P.follows .mixedOrders = true) (h0 : Holds m0 w) (h : QK P F (.any ops m0 ops.size (Array.replicate ops.size false) :: k) .normal a { w with drawn := w.drawn + 1 }) : QK P F (.code (.region id ops true) :: k) .normal a w := wp_region_held hm (h h0)
theorem qk_ret : ∀ {k : List TI}, F .ret a w → QK P F k .ret a w
  | [], h => h
  | .code _ :: k, h => qk_ret (k := k) h
  | .blk _ :: k, h => qk_ret (k := k) h
  | .lp _ :: k, h => qk_ret (k := k) h
  | .reg _ _ _ :: k, h => qk_ret (k := k) h
  | .any _ _ _ _ :: k, h => qk_ret (k := k) h
theorem qk_panic {c : List PanicEntry} : ∀ {k : List TI}, QK P F k (.panic c) a w = F (.panic c) a w
  | [] => rfl
  | .code _ :: k => qk_panic (k := k)
  | .blk _ :: k => qk_panic (k := k)
  | .lp _ :: k => qk_panic (k := k)
  | .reg _ _ _ :: k => qk_panic (k := k)
  | .any _ _ _ _ :: k => qk_panic (k := k)
end

/-- What is known of a function under way. -/
structure St where
  todo : List TI
  tmps : List Value
  mem : Mem
def St.act (s : St) : Act := ⟨s.tmps.toArray, []⟩
/-- From here on the function does what is asked, in every world in which these blocks lie so and Inv holds. -/
def Goes (P : Program) (F : Exit → Act → World → Prop) (Inv : World → Prop) (s : St) : Prop :=
  ∀ w, Holds s.mem w → s.mem.ids.Nodup → Stay s.mem.ids w Inv → QK P F s.todo .normal s.act w

/-- A run: the state, hints that are left, what must be the same. -/
structure X where
  st : St
  hs : List Nat
  on : List (Nat × Nat)
  ob : List (Bool × Bool)
/-- How an operation is taken: 0: it needs no hint; 1: it wants one; 2: it makes something, and stops; 3: it stops. -/
def cls : Op → Nat
  | .move _ | .assign _ | .pick .. | .nilCheck _ | .binOp .. | .unOp .. | .makeInterface .. | .makeFunc .. | .fieldAddr .. | .field .. | .extract .. | .build .. => 0
  | .load .. | .store .. | .index .. | .indexAddr .. | .slice .. | .convert .. | .typeAssert .. | .sliceToArrayPointer .. | .insert .. | .mapUpdate .. | .lookup .. => 1
  | .call { callee := .builtin .len, .. } => 0
  | .call { callee := .builtin _, .. } => 1
  | .alloc .. | .box .. | .buildSlice .. | .makeMap .. => 2
  | _ => 3
def evalL (T : List Value) : Operand → Value
  | .tmp t => T.getD t undef
  | .const v => v
  | .global g => .pointer (some ⟨g, 0, none⟩)
  | .func f => .func (.func f) #[] #[]
def putL (T : List Value) : Option Tmp → Value → List Value
  | some d, v => T.set d v
  | none, _ => T
def hbit : Nat → Bool
  | 0 => false
  | _ => true
/-- An operation that is wanted, by its hint. -/
def doOp (P : Program) (o : Oper) (h : Nat) (g : Option Nat) (x : X) (todo : List TI) : Option X :=
  match srun P (execOp (evalL x.st.tmps) o) [h] g x.st.mem x.on false with
  | some ⟨.value v, m, on, _⟩ => some { x with st := ⟨todo, putL x.st.tmps o.dst v, m⟩, on }
  | some ⟨.skip, m, on, _⟩ => some { x with st := ⟨todo, putL x.st.tmps o.dst undef, m⟩, on }
  | _ => none
def boolAt (T : List Value) (t : Nat) : Option Bool :=
  match T[t]? with
  | some (.bool b) => some b
  | _ => none
def opDst (ops : Array Oper) (j : Nat) : Option Tmp := (ops[j]?).bind (·.dst)
def step (P : Program) (x : X) : Option X :=
  match x.st.todo with
  | .code .skip :: k => some { x with st := { x.st with todo := k } }
  | .code (.seq a b) :: k => some { x with st := { x.st with todo := .code a :: .code b :: k } }
  | .code (.block id c) :: k => some { x with st := { x.st with todo := .code c :: .blk id :: k } }
  | .blk _ :: k => some { x with st := { x.st with todo := k } }
  | .code (.loop c) :: k => some { x with st := { x.st with todo := .lp c :: k } }
  | .lp c :: k =>
    match x.hs with
    | _ :: hs => some { x with st := { x.st with todo := .code c :: .lp c :: k }, hs }
    | [] => none
  | .code (.exit id) :: k =>
    match outOf id k with
    | some k' => some { x with st := { x.st with todo := k' } }
    | none => none
  | .code (.cond c a b) :: k =>
    match x.hs, evalL x.st.tmps c with
    | h :: hs, .bool t => some { x with st := { x.st with todo := .code (bif hbit h then a else b) :: k }, hs, ob := (t, hbit h) :: x.ob }
    | _, _ => none
  | .code (.region _ ops false) :: k => some { x with st := { x.st with todo := .reg ops ops.toList [] :: k } }
  | .reg _ [] _ :: k => some { x with st := { x.st with todo := k } }
  | .reg ops (o :: rest) res :: k =>
    match o.guard with
    | some (j, want) =>
      match opDst ops j with
      | none => none
      | some t =>
        match res.contains j, boolAt x.st.tmps t with
        | true, some b =>
          match b == want with
          | true =>
            match cls o.op, x.hs with
            | 0, _ => doOp P o 0 none x (.reg ops rest res :: k)
            | 1, h :: hs => doOp P o h none { x with hs } (.reg ops rest res :: k)
            | _, _ => none
          | false => some { x with st := { x.st with todo := .reg ops rest res :: k, tmps := putL x.st.tmps o.dst undef } }
        | false, some b =>
          match x.hs with
          | h :: hs => some { x with st := { x.st with todo := .reg ops (o :: rest) (j :: res) :: k, tmps := x.st.tmps.set t (.bool (hbit h)) }, hs, ob := (b, hbit h) :: x.ob }
          | [] => none
        | _, none => some { x with st := { x.st with todo := .reg ops rest res :: k, tmps := putL x.st.tmps o.dst undef } }
    | none =>
      match cls o.op, x.hs with
      | 0, _ => doOp P o 0 none x (.reg ops rest res :: k)
      | 1, h :: hs => doOp P o h none { x with hs } (.reg ops rest res :: k)
      | _, _ => none
  | .any ops m0 n l :: k =>
    match (Region.ready .any ops l).isEmpty, n, x.hs with
    | true, _, _ => some { x with st := { x.st with todo := k } }
    | false, n + 1, i :: hs =>
      match ops[i]? with
      | none => none
      | some o =>
        match Region.noSelect ops && Region.free .any ops l i && (Region.ready .any ops l).contains i with
        | false => none
        | true =>
          match Region.wanted o (yielded ops x.st.tmps.toArray) with
          | false => some { x with st := { x.st with todo := .any ops m0 n (l.setIfInBounds i true) :: k, tmps := putL x.st.tmps o.dst undef }, hs }
          | true =>
            match srun P (execOp (evalL x.st.tmps) o) [hs.headD 0] none m0 x.on false with
            | some ⟨.value v, _, on, false⟩ => some { x with st := { x.st with todo := .any ops m0 n (l.setIfInBounds i true) :: k, tmps := putL x.st.tmps o.dst v }, hs := (match cls o.op with | 1 => hs.tail | _ => hs), on }
            | _ => none
    | _, _, _ => none
  | _ => none
def ex (P : Program) : Nat → X → X
  | 0, x => x
  | n + 1, x =>
    match step P x with
    | some y => ex P n y
    | none => x

theorem evalL_eq (T : List Value) (ds : List Deferred) : (Act.mk T.toArray ds).eval = evalL T := by
  funext o
  cases o <;> simp [Act.eval, evalL, List.getD, Array.getD]
  split <;> simp_all
theorem putL_eq (T : List Value) (d : Option Tmp) (v : Value) : (Act.mk T.toArray []).put d v = ⟨(putL T d v).toArray, []⟩ := by
  cases d <;> simp [Act.put, putL]
def Ok (x : X) : Prop := (∀ p ∈ x.on, p.1 = p.2) ∧ (∀ p ∈ x.ob, p.1 = p.2)
theorem yielded_eq (ops : Array Oper) (T : List Value) (j : Nat) : yielded ops T.toArray j = (opDst ops j).bind (boolAt T) := by
  unfold yielded opDst
  cases h : (ops[j]?).bind (·.dst) with
  | none => rfl
  | some t =>
    simp only [Option.bind_some]
    unfold boolAt
    simp only [List.getElem?_toArray]
    cases T[t]? with
    | none => rfl
    | some v => cases v <;> rfl
section
variable {P : Program} {F : Exit → Act → World → Prop} {Inv : World → Prop}
theorem doOp_on {o : Oper} {h : Nat} {g : Option Nat} {x y : X} {todo : List TI} (hd : doOp P o h g x todo = some y) : y.hs = x.hs ∧ y.ob = x.ob ∧ ((∀ p ∈ y.on, p.1 = p.2) → ∀ p ∈ x.on, p.1 = p.2) := by
  unfold doOp at hd
  split at hd
  · rename_i hs; cases hd; exact ⟨rfl, rfl, srun_ob P _ _ _ _ _ _ _ hs⟩
  · rename_i hs; cases hd; exact ⟨rfl, rfl, srun_ob P _ _ _ _ _ _ _ hs⟩
  · cases hd
theorem doOp_goes {o : Oper} {h : Nat} {g : Option Nat} {x y : X} {ops : Array Oper} {rest : List Oper} {res res' : List Nat} {k : List TI} (hx : x.st.todo = .reg ops (o :: rest) res :: k)
    (hd : doOp P o h g x (.reg ops rest res' :: k) = some y) (hw : Region.wanted o (yielded ops x.st.tmps.toArray) = true) (hy : Ok y) {w : World} (hG : Goes P F Inv y.st) (hm : Holds x.st.mem w) (hn : x.st.mem.ids.Nodup) (hI : Stay x.st.mem.ids w Inv) (hg : ∀ n, g = some n → n = w.heap.size) : QK P F x.st.todo .normal x.st.act w := by
  rw [hx]
  show wpList P ops (QK P F k) (o :: rest) ⟨x.st.tmps.toArray, []⟩ w
  refine wpList_step fun K hK => ?_
  rw [if_pos hw]
  unfold Oper.wp
  rw [evalL_eq]
  unfold doOp at hd
  split at hd
  · rename_i v m on d hs
    cases hd
    obtain ⟨w', D⟩ := srun_did P _ _ _ _ _ _ _ w hs hy.1 hm hn hg
    rw [D.run, Oper.upon_value]
    refine hK _ _ ?_
    rw [putL_eq]
    exact hG w' D.holds D.nd (hI.ch D.ch D.new)
  · rename_i m on d hs
    cases hd
    obtain ⟨w', D⟩ := srun_did P _ _ _ _ _ _ _ w hs hy.1 hm hn hg
    rw [D.run, Oper.upon_skip]
    refine hK _ _ ?_
    rw [putL_eq]
    exact hG w' D.holds D.nd (hI.ch D.ch D.new)
  · cases hd
theorem set_self {T : List Value} {t : Nat} {v : Value} (h : T[t]? = some v) : T.set t v = T := by
  apply List.ext_getElem?
  intro i
  rw [List.getElem?_set]
  split
  · rename_i e; subst e; split
    · exact h.symm
    · rename_i hl; rw [List.getElem?_eq_none (by omega)]
  · rfl
theorem bool_hint {b : Bool} {h : Nat} (e : b = hbit h) {α : Type} (x y : α) : (bif hbit h then x else y) = if b then x else y := by
  rw [← e]
  cases b <;> rfl
theorem wpList_not {ops : Array Oper} {Q : Exit → Act → World → Prop} {o : Oper} {rest : List Oper} {a : Act} {w : World} (hw : Region.wanted o (yielded ops a.tmps) = false) (h : wpList P ops Q rest (a.put o.dst undef) w) : wpList P ops Q (o :: rest) a w := by
  unfold wpList
  rw [if_neg (by rw [hw]; simp)]
  exact h
theorem step_goes (hF : ∀ c T T' ds w, F (.panic c) ⟨T, ds⟩ w → F (.panic c) ⟨T', ds⟩ w) {x y : X} (hs : step P x = some y) (hy : Ok y) (hG : Goes P F Inv y.st) : Ok x ∧ Goes P F Inv x.st := by
  unfold step at hs
  split at hs
  case h_1 k hk => cases hs; exact ⟨hy, fun w hm hn hI => by rw [hk]; exact qk_skip (hG w hm hn hI)⟩
  case h_2 a b k hk => cases hs; exact ⟨hy, fun w hm hn hI => by rw [hk]; exact qk_seq (hG w hm hn hI)⟩
  case h_3 id c k hk => cases hs; exact ⟨hy, fun w hm hn hI => by rw [hk]; exact qk_block (hG w hm hn hI)⟩
  case h_4 id k hk => cases hs; exact ⟨hy, fun w hm hn hI => by rw [hk]; exact qk_blk (hG w hm hn hI)⟩
  case h_5 c k hk => cases hs; exact ⟨hy, fun w hm hn hI => by rw [hk]; exact qk_loop (hG w hm hn hI)⟩
  case h_6 c k hk =>
    split at hs
    · cases hs; exact ⟨hy, fun w hm hn hI => by rw [hk]; exact qk_lp (hG w hm hn hI)⟩
    · cases hs
  case h_7 id k hk =>
    split at hs
    · rename_i k' hk'
      cases hs; exact ⟨hy, fun w hm hn hI => by rw [hk]; exact qk_exit hk' (hG w hm hn hI)⟩
    · cases hs
  case h_8 c a b k hk =>
    split at hs
    · rename_i h hs' t hh hv
      cases hs
      have hb := hy.2 (t, hbit h) List.mem_cons_self
      refine ⟨⟨hy.1, fun p hp => hy.2 p (List.mem_cons_of_mem _ hp)⟩, fun w hm hn hI => ?_⟩
      rw [hk]
      refine qk_cond (t := t) (by unfold St.act; rw [evalL_eq]; exact hv) ?_
      have h1 := hG w hm hn hI
      have h2 := bool_hint hb a b
      simp only [h2] at h1
      exact h1
    · cases hs
  case h_9 id ops k hk => cases hs; exact ⟨hy, fun w hm hn hI => by rw [hk]; exact qk_reg (hG w hm hn hI)⟩
  case h_10 ops res k hk => cases hs; exact ⟨hy, fun w hm hn hI => by
    rw [hk]
    exact wpList_nil (P := P) (ops := ops) (Q := QK P F k) (hG w hm hn hI)⟩
  case h_11 ops o rest res k hk =>
    split at hs
    · rename_i j want hg
      have hwq : ∀ b, (opDst ops j).bind (boolAt x.st.tmps) = b → Region.wanted o (yielded ops x.st.tmps.toArray) = (b == some want) := by
        intro b hb
        unfold Region.wanted
        rw [hg]
        simp only [yielded_eq, hb]
      split at hs
      · cases hs
      · rename_i t ht
        rw [ht] at hwq
        split at hs
        · rename_i b hres hb
          have hw := hwq (some b) hb
          split at hs
          · rename_i hbw
            have hw' : Region.wanted o (yielded ops x.st.tmps.toArray) = true := by
              rw [hw, eq_of_beq hbw]; simp
            split at hs
            · have h1 := doOp_on hs
              exact ⟨⟨h1.2.2 hy.1, h1.2.1 ▸ hy.2⟩, fun w hm hn hI => doOp_goes hk hs hw' hy hG hm hn hI (by simp)⟩
            · rename_i h hs' hc hh
              have h1 := doOp_on hs
              exact ⟨⟨h1.2.2 hy.1, h1.2.1 ▸ hy.2⟩, fun w hm hn hI => doOp_goes (x := { x with hs := hs' }) hk hs hw' hy hG hm hn hI (by simp)⟩
            · cases hs
          · rename_i hbw
            cases hs
            refine ⟨hy, fun w hm hn hI => ?_⟩
            rw [hk]
            have h1 := hG w hm hn hI
            refine wpList_not (by show Region.wanted o (yielded ops x.st.tmps.toArray) = false; rw [hw]; simpa using hbw) ?_
            unfold St.act
            rw [putL_eq]
            exact h1
        · rename_i b hres hb
          split at hs
          · rename_i h hs' hh
            cases hs
            have hbb := hy.2 (b, hbit h) List.mem_cons_self
            refine ⟨⟨hy.1, fun p hp => hy.2 p (List.mem_cons_of_mem _ hp)⟩, fun w hm hn hI => ?_⟩
            have h1 := hG w hm hn hI
            have hT : x.st.tmps[t]? = some (.bool b) := by
              unfold boolAt at hb
              split at hb
              · rename_i hq; cases hb; exact hq
              · cases hb
            simp only at hbb
            rw [← hbb] at h1
            unfold St.act at h1
            simp only [set_self hT] at h1
            rw [hk]
            exact h1
          · cases hs
        · rename_i hb
          cases hs
          refine ⟨hy, fun w hm hn hI => ?_⟩
          rw [hk]
          have h1 := hG w hm hn hI
          refine wpList_not (by show Region.wanted o (yielded ops x.st.tmps.toArray) = false; rw [hwq none hb]; rfl) ?_
          unfold St.act
          rw [putL_eq]
          exact h1
    · rename_i hg
      have hw' : Region.wanted o (yielded ops x.st.tmps.toArray) = true := by
        unfold Region.wanted; rw [hg]
      split at hs
      · have h1 := doOp_on hs
        exact ⟨⟨h1.2.2 hy.1, h1.2.1 ▸ hy.2⟩, fun w hm hn hI => doOp_goes hk hs hw' hy hG hm hn hI (by simp)⟩
      · rename_i h hs' hc hh
        have h1 := doOp_on hs
        exact ⟨⟨h1.2.2 hy.1, h1.2.1 ▸ hy.2⟩, fun w hm hn hI => doOp_goes (x := { x with hs := hs' }) hk hs hw' hy hG hm hn hI (by simp)⟩
      · cases hs
  case h_12 ops m0 n l k hk =>
    split at hs
    · rename_i hr
      cases hs
      refine ⟨hy, fun w hm hn hI => ?_⟩
      rw [hk]
      exact fun _ => wpAnyH_done (by simpa using hr) (hG w hm hn hI) _
    · rename_i n i hs' hr hh
      split at hs
      · cases hs
      · rename_i o ho
        split at hs
        · cases hs
        · rename_i hc
          simp only [Bool.and_eq_true] at hc
          have hQ : ∀ v c a w, QK P F k (.panic c) (a.put o.dst v) w → QK P F k (.panic c) a w := by
            intro v c a w h
            rw [qk_panic] at h ⊢
            obtain ⟨T, ds⟩ := a
            cases hd : o.dst with
            | none => rw [hd] at h; exact h
            | some d => rw [hd] at h; exact hF _ _ _ _ _ h
          split at hs
          · rename_i hw
            cases hs
            refine ⟨hy, fun w hm hn hI => ?_⟩
            rw [hk]
            intro h0
            have h1 := hG w hm hn hI h0
            refine wpAnyH_take (v := undef) ho hc.1.1 hc.1.2 hc.2 (hQ _) (.inr ⟨hw, rfl⟩) h0 ?_
            unfold St.act
            rw [putL_eq]
            exact h1
          · rename_i hw
            split at hs
            · rename_i v m1 on hr1
              cases hs
              obtain ⟨-, -, h3⟩ := srun_still P _ _ _ _ _ _ hr1 rfl
              refine ⟨⟨srun_ob P _ _ _ _ _ _ _ hr1 hy.1, hy.2⟩, fun w hm hn hI => ?_⟩
              rw [hk]
              intro h0
              have h1 := hG w hm hn hI h0
              refine wpAnyH_take (v := v) ho hc.1.1 hc.1.2 hc.2 (hQ _) (.inl ⟨hw, fun w' hw' => ?_⟩) h0 ?_
              · unfold St.act
                rw [evalL_eq]
                exact h3 hy.1 w' hw'
              · unfold St.act
                rw [putL_eq]
                exact h1
            · cases hs
    · cases hs
  case h_13 => cases hs
theorem ex_goes (hF : ∀ c T T' ds w, F (.panic c) ⟨T, ds⟩ w → F (.panic c) ⟨T', ds⟩ w) : ∀ (n : Nat) {x : X}, Ok (ex P n x) → Goes P F Inv (ex P n x).st → Ok x ∧ Goes P F Inv x.st
  | 0, _, h, hG => ⟨h, hG⟩
  | n + 1, x, h, hG => by
    unfold ex at h hG
    split at h
    · rename_i y hy
      rw [hy] at hG
      have h1 := ex_goes hF n h hG
      exact step_goes hF hy h1.1 h1.2
    · rename_i hy
      rw [hy] at hG
      exact ⟨h, hG⟩
end
end Go.Proofs.Ytfblnjidghijaaa
