/- A panic that goes through a range over a function: out of a round into the iterator, and on: no page of the kit has it. A walk for the frames of one function (its number known). -/
import Derived.RangeFuncNested
import Derived.RangeFuncLeaves
import Derived.RangeFuncSeq
set_option linter.unusedVariables false
set_option linter.unusedSimpArgs false
set_option maxHeartbeats 4000000
namespace Go.Proofs.Ytngciahmoenkiab
open Go Go.RowKit
/-- where a frame comes to: behind its code, on its way out, or with a panic -/
def arrG (P : Program) (m : Machine) (b : Frame) (k : List Item) (cs : List Frame) : Exit → Act → World → Prop
  | .normal, a, w => Steps P m (lone (b.atR a k) cs w)
  | .ret, a, w => ∃ todo, Steps P m (lone { b.atR a todo with mode := .returning } cs w)
  | .panic ch, a, w => ∃ todo, Steps P m (lone { b.atR a todo with mode := .panicking ch } cs w)
  | _, _, _ => False
/-- a walk for the frames of one function -/
def wpG (f : FuncId) (P : Program) (c : Code) (Q : Exit → Act → World → Prop) (a : Act) (w : World) : Prop :=
  ∀ (b : Frame) (k : List Item) (cs : List Frame), b.fn = f → b.roundOf = none → ∃ e a' w', Q e a' w' ∧ arrG P (lone (b.atR a (.code c :: k)) cs w) b k cs e a' w'
/-- no other way out -/
def Tame (Q : Exit → Act → World → Prop) : Prop := (∀ id a w, ¬ Q (.exit id) a w) ∧ (∀ l a w, ¬ Q (.goto l) a w) ∧ ∀ a w, ¬ Q .outgrown a w
variable {P : Program} {f : FuncId} {Q : Exit → Act → World → Prop} {a : Act} {w : World}
theorem wpG_of {c : Code} {n : Nat} (hQ : Tame Q) (h : c.wpIn Fence.wide n P Q a w) : wpG f P c Q a w := by
  intro b k cs hb hr
  obtain ⟨e, a', w', hq, harr⟩ := h b k cs hr trivial (room_wide _)
  refine ⟨e, a', w', hq, ?_⟩
  cases e with
  | normal => exact stepsIn_wide.1 harr
  | ret => exact (harr.1 hr).imp fun _ s => stepsIn_wide.1 s
  | panic ch => exact Exists.imp (fun _ s => stepsIn_wide.1 s) harr
  | exit id => exact (hQ.1 _ _ _ hq).elim
  | goto l => exact (hQ.2.1 _ _ _ hq).elim
  | outgrown => exact (hQ.2.2 _ _ hq).elim
theorem arrG.head {m m' : Machine} {b : Frame} {k : List Item} {cs : List Frame} {e : Exit} (h : step P m = .next m') (h2 : arrG P m' b k cs e a w) : arrG P m b k cs e a w := by
  cases e with
  | normal => exact Steps.head h h2
  | ret => exact Exists.imp (fun _ s => Steps.head h s) h2
  | panic ch => exact Exists.imp (fun _ s => Steps.head h s) h2
  | exit id => exact h2
  | goto l => exact h2
  | outgrown => exact h2
theorem arrG.trans {m m' : Machine} {b : Frame} {k : List Item} {cs : List Frame} {e : Exit} (h : Steps P m m') (h2 : arrG P m' b k cs e a w) : arrG P m b k cs e a w := by
  cases e with
  | normal => exact Steps.trans h h2
  | ret => exact Exists.imp (fun _ s => Steps.trans h s) h2
  | panic ch => exact Exists.imp (fun _ s => Steps.trans h s) h2
  | exit id => exact h2
  | goto l => exact h2
  | outgrown => exact h2
theorem wpG_seq {x y : Code} (h : wpG f P x (Exit.then (wpG f P y Q) Q) a w) : wpG f P (x.seq y) Q a w := by
  intro b k cs hb hr
  obtain ⟨e, a1, w1, hq, harr⟩ := h b (.code y :: k) cs hb hr
  cases e with
  | normal =>
    obtain ⟨e2, a2, w2, hq2, harr2⟩ := hq b k cs hb hr
    exact ⟨e2, a2, w2, hq2, .head stepR_seq (.trans harr harr2)⟩
  | ret => exact ⟨_, a1, w1, hq, .head stepR_seq harr⟩
  | panic ch => exact ⟨_, a1, w1, hq, .head stepR_seq harr⟩
  | exit id => exact harr.elim
  | goto l => exact harr.elim
  | outgrown => exact harr.elim
theorem wpG_seq_k {x y : Code} {n : Nat} (hQ : Tame Q) (h : ∀ K : Act → World → Prop, (∀ a w, wpG f P y Q a w → K a w) → x.wpIn Fence.wide n P (Exit.then K Q) a w) : wpG f P (x.seq y) Q a w :=
  wpG_seq (wpG_of ⟨fun id a w => hQ.1 id a w, fun l a w => hQ.2.1 l a w, fun a w => hQ.2.2 a w⟩ (h _ fun _ _ h => h))
theorem wpG_block {i : Nat} {x : Code} (h : wpG f P x Q a w) : wpG f P (.block i x) Q a w := by
  intro b k cs hb hr
  obtain ⟨e, a1, w1, hq, harr⟩ := h b (.inBlock i :: k) cs hb hr
  cases e with
  | normal => exact ⟨_, a1, w1, hq, .head stepR_block (Steps.trans harr (.one stepR_inBlock))⟩
  | ret => exact ⟨_, a1, w1, hq, .head stepR_block harr⟩
  | panic ch => exact ⟨_, a1, w1, hq, .head stepR_block harr⟩
  | exit id => exact harr.elim
  | goto l => exact harr.elim
  | outgrown => exact harr.elim
/-- the statement: the iterator's call ends, and nothing is pending; or it panics -/
theorem wpG_range {g : Operand} {ps : Array Tmp} {assign body : Code} {l : Nat} {mark : List Deferred} {w1 w1' w2 : World} {d : Deferred} {gf : FuncId} {args : Array Value}
    (he : (Instr.enterLoop f a.tmps ps assign body none).run P w = .ok (l, mark) w1) (hres : (resolve a.eval (rangeCall g l) 0).run P w1 = .ok d w1')
    (hinv : (invoke d.target d.args).run P w1' = .ok (.enter gf args) w2)
    (h : Calls P gf args w2 fun e w3 => (∃ v w4, e = .returned v ∧ (Instr.endLoop l).run P w3 = .ok none w4 ∧ Q .normal { a with defers := mark ++ a.defers } w4) ∨ (∃ ch, e = .panicked ch ∧ Q (.panic ch) { a with defers := mark ++ a.defers } w3)) :
    wpG f P (.rangeFunc g ps assign body) Q a w := by
  intro b k cs hb hr
  have he' : (Instr.enterLoop b.fn a.tmps ps assign body b.roundOf).run P w = .ok (l, mark) w1 := by rw [hb, hr]; exact he
  have s0 := stepR_rangeFunc (P := P) (b := b) (a := a) (k := k) (cs := cs) (w := w) he' hres hinv
  obtain ⟨e, w3, fr, hR, hs, hfn, hl⟩ := h (b.atR { a with defers := mark ++ a.defers } (.inRangeFunc l :: k) :: cs)
  rcases hR with ⟨v, w4, rfl, hend, hq⟩ | ⟨ch, rfl, hq⟩
  · refine ⟨.normal, _, w4, hq, .head s0 (Steps.trans hs (.head ?_ (.one (stepR_endRangeFunc hend))))⟩
    rw [← finish_atR_inRangeFunc l v]
    exact step_leave_returned hl
  · refine ⟨.panic ch, _, w3, hq, .inRangeFunc l :: k, .head s0 (Steps.trans hs (.one ?_))⟩
    rw [← Frame.raise_atR]
    exact step_leave_panicked hl
theorem wpG_range_fn {g : Operand} {ps : Array Tmp} {assign body : Code} {gf : FuncId} {lb : Array Value} (hg : a.eval g = .func (.func gf) #[] lb) (eg : ∀ args w, (callFunc gf args).run P w = .ok (.enter gf args) w)
    (h : ∀ rc : Loop, rc = { state := .ready, pending := none, fn := f, tmps := a.tmps, params := ps, assign, body, defers := w.heap.size } →
      Calls P gf (#[.func (.yield (w.heap.size + 1)) #[] #[]] ++ lb) ((w.alloc (.deferred (some []))).alloc (.loop rc)) fun e w3 => (∃ v w4, e = .returned v ∧ (Instr.endLoop (w.heap.size + 1)).run P w3 = .ok none w4 ∧ Q .normal { a with defers := { target := .collected w.heap.size, args := #[] } :: a.defers } w4) ∨ (∃ ch, e = .panicked ch ∧ Q (.panic ch) { a with defers := { target := .collected w.heap.size, args := #[] } :: a.defers } w3)) :
    wpG f P (.rangeFunc g ps assign body) Q a w := by
  have h1 := h _ rfl
  have he := run_enterLoop_outer (P := P) (w := w) f a.tmps ps assign body
  generalize (w.alloc (.deferred (some []))).alloc (.loop { state := .ready, pending := none, fn := f, tmps := a.tmps, params := ps, assign, body, defers := w.heap.size }) = W1 at h1 he
  clear h
  generalize w.heap.size = N at *
  have hres : (resolve a.eval (rangeCall g (N + 1)) 0).run P W1 = .ok { target := .fn (.func gf) lb, args := #[.func (.yield (N + 1)) #[] #[]] } W1 := by
    clear h1 he
    simp only [resolve, hg]
    simp [go_sem]
  have hinv : (invoke (.fn (.func gf) lb) #[.func (.yield (N + 1)) #[] #[]]).run P W1 = .ok (.enter gf (#[.func (.yield (N + 1)) #[] #[]] ++ lb)) W1 := by
    clear h1 he hres
    simp [invoke, go_sem, eg]
  exact wpG_range he hres hinv h1
theorem calls_of_wpG {fn : Func} {c : Code} {args : Array Value} {R : Ending → World → Prop} {n : Nat} (hf : P.funcs[f]? = some fn) (hb : fn.body = some c)
    (h : wpG f P c (bodyPostM Fence.wide n P fn R) { tmps := args ++ Array.replicate (fn.ntmps - args.size) undef, defers := [] } w) : Calls P f args w R := by
  intro cs
  let b : Frame := { (default : Frame) with fn := f, kind := .normal, roundOf := none }
  have henter : Frame.enter P f args .normal = b.atR { tmps := args ++ Array.replicate (fn.ntmps - args.size) undef, defers := [] } [.code c] := by
    simp [Frame.enter, Frame.atR, hf, hb, b]
  obtain ⟨e, a', w', hq, harr⟩ := h b [] cs rfl rfl
  rw [← henter] at harr
  cases e with
  | normal =>
    obtain ⟨e', w'', fr', hR, hs, hfn, hl⟩ := leaves_stepsInM a'.defers .returning w' { b.atR a' [] with mode := .returning } cs rfl rfl rfl hf rfl trivial (room_wide _) hq
    exact ⟨e', w'', fr', hR, Comes.of_steps (Steps.trans harr (.one (stepR_end rfl))) hs.comes, hfn, hl⟩
  | ret =>
    obtain ⟨todo, hs0⟩ := harr
    obtain ⟨e', w'', fr', hR, hs, hfn, hl⟩ := leaves_stepsInM a'.defers .returning w' { b.atR a' todo with mode := .returning } cs rfl rfl rfl hf rfl trivial (room_wide _) hq
    exact ⟨e', w'', fr', hR, Comes.of_steps hs0 hs.comes, hfn, hl⟩
  | panic ch =>
    obtain ⟨todo, hs0⟩ := harr
    obtain ⟨e', w'', fr', hR, hs, hfn, hl⟩ := leaves_stepsInM a'.defers (.panicking ch) w' { b.atR a' todo with mode := .panicking ch } cs rfl rfl rfl hf rfl trivial (room_wide _) hq
    exact ⟨e', w'', fr', hR, Comes.of_steps hs0 hs.comes, hfn, hl⟩
  | exit id => exact harr.elim
  | goto l => exact harr.elim
  | outgrown => exact harr.elim
/-- how a round may be left: off its end, or with a panic -/
def postP (P : Program) (l : Nat) (R : Ending → World → Prop) : Exit → Act → World → Prop
  | .normal, _, w => ∃ v w', (Instr.endRound l none).run P w = .ok v w' ∧ R (.returned v) w'
  | .panic ch, a, w => a.defers = [] ∧ R (.panicked ch) w
  | _, _, _ => False
/-- a round, out of its body's walk -/
theorem round_np {l n : Nat} {fn : Func} {tmps : Array Value} {assign body : Code} {R : Ending → World → Prop} (hf : P.funcs[f]? = some fn)
    (h : assign.wpIn (Fence.wide.inRound l) n P (Exit.then (fun a1 w1 => ∃ w2, (Instr.beginRound l).run P w1 = .ok () w2 ∧ body.wpIn (Fence.wide.inRound l) n P (postP P l R) a1 w2) (fun _ _ _ => False)) { tmps := tmps, defers := [] } w) :
    RoundIn Fence.wide n P l f tmps assign body w R := by
  refine ⟨trivial, fun c cs hr => ?_⟩
  let b : Frame := { (default : Frame) with fn := f, kind := .normal, roundOf := some l }
  have hb0 : Frame.round l f tmps assign body .normal = b.atR { tmps := tmps, defers := [] } [.code assign, .beginRound, .code body] := by
    simp [Frame.round, Frame.atR, b]
  have hr' : (Fence.wide.inRound l).room ((c :: cs).length + 1 + n) := hr
  obtain ⟨e, a1, w1, hq, harr⟩ := h b [.beginRound, .code body] (c :: cs) rfl trivial hr'
  rw [← hb0] at harr
  cases e with
  | normal =>
    obtain ⟨w2, hbr, hbody⟩ := hq
    have s1 : StepsIn (Machine.fenced P (Fence.wide.inRound l)) P (lone (b.atR a1 [.beginRound, .code body]) (c :: cs) w1) (lone (b.atR a1 [.code body]) (c :: cs) w2) :=
      .one (fenced_calm (fr := b.atR a1 [.beginRound, .code body]) trivial hr' rfl) (stepR_beginRound rfl hbr)
    obtain ⟨e2, a2, w3, hq2, harr2⟩ := hbody b [] (c :: cs) rfl trivial hr'
    cases e2 with
    | normal =>
      obtain ⟨v, w4, hend, hR⟩ := hq2
      exact ⟨.returned v, w4, hR, (StepsIn.trans harr s1).trans (StepsIn.trans harr2 (.one (fenced_calm (fr := b.atR a2 []) trivial hr' rfl) (stepR_round_end rfl rfl hend)))⟩
    | panic ch =>
      obtain ⟨hd, hR⟩ := hq2
      obtain ⟨todo, hs⟩ := harr2
      have hlv : ({ b.atR a2 todo with mode := .panicking ch } : Frame).leaving P w3 (.panicked ch) := ⟨rfl, hd, fn, hf⟩
      exact ⟨.panicked ch, w3, hR, (StepsIn.trans harr s1).trans (StepsIn.trans hs (.one (fenced_leaving (n := n) trivial hr' hlv) (step_leave_panicked hlv)))⟩
    | ret => exact hq2.elim
    | exit id => exact hq2.elim
    | goto t => exact hq2.elim
    | outgrown => exact hq2.elim
  | exit id => exact hq.elim
  | goto t => exact hq.elim
  | ret => exact hq.elim
  | panic chain => exact hq.elim
  | outgrown => exact hq.elim
end Go.Proofs.Ytngciahmoenkiab
