import Derived.Test.YtakjjillnllocaaEv10
namespace Go.Ev
open Go
variable {P : Program}
def fr (f : FuncId) (t : Array Value) (k : List Item) (ds : List Deferred) (kd : CallKind) (ro : Option Nat) : Frame :=
  { fn := f, tmps := t, todo := k, defers := ds, mode := .run, kind := kd, roundOf := ro }
theorem fr_eval (f : FuncId) (t : Array Value) (k : List Item) (ds : List Deferred) (kd : CallKind) (ro : Option Nat) (x : Operand) :
    (fr f t k ds kd ro).eval x = (⟨t, []⟩ : Act).eval x := by cases x <;> rfl
section
variable {f : FuncId} {t : Array Value} {k : List Item} {ds : List Deferred} {kd : CallKind} {ro : Option Nat} {cs : List Frame} {w : World}
theorem st_skip : step P (lone (fr f t (.code .skip :: k) ds kd ro) cs w) = .next (lone (fr f t k ds kd ro) cs w) := step_lone_go (by simp [stepG, stepG.exec, fr])
theorem st_label {l : Nat} : step P (lone (fr f t (.code (.label l) :: k) ds kd ro) cs w) = .next (lone (fr f t k ds kd ro) cs w) := step_lone_go (by simp [stepG, stepG.exec, fr])
theorem st_inBlock {l : Nat} : step P (lone (fr f t (.inBlock l :: k) ds kd ro) cs w) = .next (lone (fr f t k ds kd ro) cs w) := step_lone_go (by simp [stepG, stepG.exec, fr])
theorem st_inScope {c : Code} : step P (lone (fr f t (.inScope c :: k) ds kd ro) cs w) = .next (lone (fr f t k ds kd ro) cs w) := step_lone_go (by simp [stepG, stepG.exec, fr])
theorem st_seq {x y : Code} : step P (lone (fr f t (.code (.seq x y) :: k) ds kd ro) cs w) = .next (lone (fr f t (.code x :: .code y :: k) ds kd ro) cs w) := step_lone_go (by simp [stepG, stepG.exec, fr])
theorem st_block {id : Nat} {c : Code} : step P (lone (fr f t (.code (.block id c) :: k) ds kd ro) cs w) = .next (lone (fr f t (.code c :: .inBlock id :: k) ds kd ro) cs w) := step_lone_go (by simp [stepG, stepG.exec, fr])
theorem st_scope {c : Code} : step P (lone (fr f t (.code (.scope c) :: k) ds kd ro) cs w) = .next (lone (fr f t (.code c :: .inScope c :: k) ds kd ro) cs w) := step_lone_go (by simp [stepG, stepG.exec, fr])
theorem st_loop {c : Code} : step P (lone (fr f t (.code (.loop c) :: k) ds kd ro) cs w) = .next (lone (fr f t (.code c :: .inLoop c :: k) ds kd ro) cs w) := step_lone_go (by simp [stepG, stepG.exec, fr])
theorem st_inLoop {c : Code} : step P (lone (fr f t (.inLoop c :: k) ds kd ro) cs w) = .next (lone (fr f t (.code c :: .inLoop c :: k) ds kd ro) cs w) := step_lone_go (by simp [stepG, stepG.exec, fr])
theorem st_cond {c : Operand} {x y : Code} {b : Bool} (h : (⟨t, []⟩ : Act).eval c = .bool b) :
    step P (lone (fr f t (.code (.cond c x y) :: k) ds kd ro) cs w) = .next (lone (fr f t (.code (if b then x else y) :: k) ds kd ro) cs w) :=
  step_lone_go (by
    have := fr_eval f t (.code (.cond c x y) :: k) ds kd ro c
    simp only [fr] at this
    simp [stepG, stepG.exec, fr, this, h])
theorem st_exit {id : Nat} {k' : List Item} (h : exitTo id k = some k') :
    step P (lone (fr f t (.code (.exit id) :: k) ds kd ro) cs w) = .next (lone (fr f t k' ds kd ro) cs w) := step_lone_go (by simp [stepG, stepG.exec, fr, h])
theorem st_region {id : Nat} {ops : Array Oper} :
    step P (lone (fr f t (.code (.region id ops false) :: k) ds kd ro) cs w) = .next (lone (fr f t (.inRegion ops (List.range ops.size) :: k) ds kd ro) cs w) := step_lone_go (by simp [stepG, stepG.exec, fr])
theorem st_region_draw {id : Nat} {ops : Array Oper} :
    step P (lone (fr f t (.code (.region id ops true) :: k) ds kd ro) cs w) =
      .next (lone (fr f t (.inRegion ops (Region.schedule (P.follows .mixedOrders) ops (w.tape w.drawn (.order f id))) :: k) ds kd ro) cs { w with drawn := w.drawn + 1 }) :=
  step_lone_go (by simp [stepG, stepG.exec, fr, choose, Sem.run, Question.forced, Question.cut])
theorem st_region_end {ops : Array Oper} : step P (lone (fr f t (.inRegion ops [] :: k) ds kd ro) cs w) = .next (lone (fr f t k ds kd ro) cs w) := step_lone_go (by simp [stepG, stepG.exec, fr])
theorem fr_finish {ops : Array Oper} {i : Nat} {rest : List Nat} {o : Oper} (ho : ops[i]? = some o) (v : Value) :
    (fr f t (.inRegion ops (i :: rest) :: k) ds kd ro).finish v = fr f ((⟨t, []⟩ : Act).put o.dst v).tmps (.inRegion ops rest :: k) ds kd ro := by
  simp only [Frame.finish, fr, ho, Option.bind_some, Act.put]
  cases o.dst <;> rfl
theorem stepG_op' {ops : Array Oper} {i : Nat} {rest : List Nat} {o : Oper} (ho : ops[i]? = some o) (hw : Region.wanted o (yielded ops t) = true) (hd : ∀ c, o.op ≠ .defer c) :
    stepG P true { frame := fr f t (.inRegion ops (i :: rest) :: k) ds kd ro, callers := cs, status := .running, dying := none } w =
      stepG.apply P true (fr f t (.inRegion ops (i :: rest) :: k) ds kd ro) cs none (execOp (⟨t, []⟩ : Act).eval o) w := by
  have he : (fr f t (.inRegion ops (i :: rest) :: k) ds kd ro).eval = (⟨t, []⟩ : Act).eval := funext (fr_eval f t _ ds kd ro)
  simp only [fr] at *
  simp only [stepG, stepG.exec, ho, Option.map_some, hw, Option.getD_some, if_true, stepG.oper, Frame.oper?, he]
  split
  · rename_i h1 h2; exact absurd h2 (hd _)
  · rfl
theorem st_op_value {ops : Array Oper} {i : Nat} {rest : List Nat} {o : Oper} {v : Value} {w' : World} (ho : ops[i]? = some o) (hw : Region.wanted o (yielded ops t) = true) (hd : ∀ c, o.op ≠ .defer c)
    (hr : (execOp (⟨t, []⟩ : Act).eval o).run P w = .ok (.value v) w' ∨ ((execOp (⟨t, []⟩ : Act).eval o).run P w = .ok .skip w' ∧ v = undef)) :
    step P (lone (fr f t (.inRegion ops (i :: rest) :: k) ds kd ro) cs w) = .next (lone (fr f ((⟨t, []⟩ : Act).put o.dst v).tmps (.inRegion ops rest :: k) ds kd ro) cs w') := by
  refine step_lone_go ?_
  rw [stepG_op' ho hw hd, ← fr_finish ho]
  rcases hr with hr | ⟨hr, rfl⟩ <;> simp [stepG.apply, hr]
theorem st_op_enter {ops : Array Oper} {i : Nat} {rest : List Nat} {o : Oper} {g : FuncId} {args : Array Value} {w' : World} (ho : ops[i]? = some o) (hw : Region.wanted o (yielded ops t) = true) (hd : ∀ c, o.op ≠ .defer c)
    (hr : (execOp (⟨t, []⟩ : Act).eval o).run P w = .ok (.enter g args) w') :
    step P (lone (fr f t (.inRegion ops (i :: rest) :: k) ds kd ro) cs w) = .next (lone (Frame.enter P g args .normal) (fr f t (.inRegion ops (i :: rest) :: k) ds kd ro :: cs) w') := by
  refine step_lone_go ?_
  rw [stepG_op' ho hw hd]
  simp [stepG.apply, hr, fr]
theorem st_op_round {ops : Array Oper} {i : Nat} {rest : List Nat} {o : Oper} {l g : Nat} {tm : Array Value} {as bd : Code} {w' : World} (ho : ops[i]? = some o) (hw : Region.wanted o (yielded ops t) = true) (hd : ∀ c, o.op ≠ .defer c)
    (hr : (execOp (⟨t, []⟩ : Act).eval o).run P w = .ok (.round l g tm as bd) w') :
    step P (lone (fr f t (.inRegion ops (i :: rest) :: k) ds kd ro) cs w) = .next (lone (Frame.round l g tm as bd .normal) (fr f t (.inRegion ops (i :: rest) :: k) ds kd ro :: cs) w') := by
  refine step_lone_go ?_
  rw [stepG_op' ho hw hd]
  simp [stepG.apply, hr]
theorem st_op_skip {ops : Array Oper} {i : Nat} {rest : List Nat} {o : Oper} (ho : ops[i]? = some o) (hw : Region.wanted o (yielded ops t) = false) :
    step P (lone (fr f t (.inRegion ops (i :: rest) :: k) ds kd ro) cs w) = .next (lone (fr f ((⟨t, []⟩ : Act).put o.dst undef).tmps (.inRegion ops rest :: k) ds kd ro) cs w) := by
  refine step_lone_go ?_
  rw [← fr_finish ho]
  simp [stepG, stepG.exec, fr, ho, hw]
theorem st_leave {kd : CallKind} : step P (lone (fr f t [] ds kd none) cs w) = .next (lone { fr f t [] ds kd none with mode := .returning } cs w) :=
  step_lone_go (by simp [stepG, stepG.exec, fr])
theorem st_leave_ret {kd : CallKind} : step P (lone (fr f t (.code .ret :: k) ds kd none) cs w) = .next (lone { fr f t (.code .ret :: k) ds kd none with mode := .returning } cs w) :=
  step_lone_go (by simp [stepG, stepG.exec, fr])
theorem st_unwind {r : Nat} {w' : World} (h : (Instr.takeDeferred r).run P w = .ok [] w') :
    step P (lone { fr f t k ({ target := .collected r, args := #[] } :: ds) kd ro with mode := .returning } cs w) = .next (lone { fr f t k ds kd ro with mode := .returning } cs w') :=
  step_lone_go (by simp [stepG, unwind, fr, h])
theorem st_return {fn : Func} {v : Value} {c : Frame} (hf : P.funcs[f]? = some fn) (h : (results fn t).run P w = .ok v w) :
    step P (lone { fr f t k [] .normal ro with mode := .returning } (c :: cs) w) = .next (lone (c.finish v) cs w) :=
  step_lone_go (by simp [stepG, unwind, fr, hf, h, doReturn])
theorem st_begin {l : Nat} {w' : World} (h : (Instr.beginRound l).run P w = .ok () w') :
    step P (lone (fr f t (.beginRound :: k) ds kd (some l)) cs w) = .next (lone (fr f t k ds kd (some l)) cs w') :=
  step_lone_go (by simp [stepG, stepG.exec, stepG.apply, fr, h, Frame.finish])
theorem st_round_end {l : Nat} {v : Value} {w' : World} {c : Frame} (h : (Instr.endRound l none).run P w = .ok v w') :
    step P (lone (fr f t [] ds .normal (some l)) (c :: cs) w) = .next (lone (c.finish v) cs w') :=
  step_lone_go (by simp [stepG, stepG.exec, fr, h, doReturn])
theorem st_round_exit {l id : Nat} {v : Value} {w' : World} {c : Frame} (hx : exitTo id k = none) (h : (Instr.endRound l (some (.exit id))).run P w = .ok v w') :
    step P (lone (fr f t (.code (.exit id) :: k) ds .normal (some l)) (c :: cs) w) = .next (lone (c.finish v) cs w') :=
  step_lone_go (by simp [stepG, stepG.exec, fr, hx, h, doReturn])
theorem st_round_ret {l : Nat} {v : Value} {w' : World} {c : Frame} (h : (Instr.endRound l (some .ret)).run P w = .ok v w') :
    step P (lone (fr f t (.code .ret :: k) ds .normal (some l)) (c :: cs) w) = .next (lone (c.finish v) cs w') :=
  step_lone_go (by simp [stepG, stepG.exec, fr, h, doReturn])
theorem st_range {x : Operand} {ps : Array Tmp} {as bd : Code} {l g : Nat} {mark : List Deferred} {first cap : Array Value} {w' : World} {fn : Func} {c : Code}
    (h : (Instr.enterLoop f t ps as bd ro).run P w = .ok (l, mark) w') (hx : (⟨t, []⟩ : Act).eval x = .func (.func g) first cap)
    (hf : P.funcs[g]? = some fn) (hb : fn.body = some c) (hn : (fn.name == "runtime.NumGoroutine") = false) :
    step P (lone (fr f t (.code (.rangeFunc x ps as bd) :: k) ds kd ro) cs w) =
      .next (lone (Frame.enter P g (first ++ #[.func (.yield l) #[] #[]] ++ cap) .normal) (fr f t (.inRangeFunc l :: k) (mark ++ ds) kd ro :: cs) w') := by
  refine step_lone_go ?_
  have he := fr_eval f t (.inRangeFunc l :: k) (mark ++ ds) kd ro x
  simp only [fr] at he
  have hn' : ¬ fn.name = "runtime.NumGoroutine" := by simpa using hn
  have e2 : Frame.eval { fn := f, tmps := t, todo := .inRangeFunc l :: k, defers := mark ++ ds, mode := .run, kind := kd, roundOf := ro } (.const (.func (.yield l) #[] #[])) = .func (.yield l) #[] #[] := rfl
  simp [stepG, stepG.exec, fr, h, stepG.apply, resolve, he, hx, Deferred.ofValue, invoke, callFunc, hf, hn', hb, e2]
theorem st_range_end {l : Nat} {jump : Option Code} {w' : World} (h : (Instr.endLoop l).run P w = .ok jump w') :
    step P (lone (fr f t (.endRangeFunc l :: k) ds kd ro) cs w) = .next (lone (fr f t ((jump.map Item.code).toList ++ k) ds kd ro) cs w') :=
  step_lone_go (by simp [stepG, stepG.exec, fr, h])
end
end Go.Ev
