/- A range over a function whose iterator may turn what it has laid itself: no page of the kit has it. -/
import Derived.RangeFuncNested
set_option linter.unusedVariables false
set_option linter.unusedSimpArgs false
set_option maxHeartbeats 4000000
namespace Go.Proofs.Ytonnmbmdmkmhmaa
open Go Go.RowKit
/-- what D names, and whatever lies from B on, lies as it lay -/
structure KeptAt (D : Nat → Prop) (B : Nat) (X Y : World) : Prop where
  size : X.heap.size ≤ Y.heap.size
  same : ∀ k, (D k ∨ B ≤ k) → k < X.heap.size → Y.heap[k]? = X.heap[k]?
theorem KeptAt.refl (D : Nat → Prop) (B : Nat) (X : World) : KeptAt D B X X := ⟨Nat.le_refl _, fun _ _ _ => rfl⟩
theorem KeptAt.trans {D : Nat → Prop} {B : Nat} {X Y Z : World} (h : KeptAt D B X Y) (k : KeptAt D B Y Z) : KeptAt D B X Z :=
  ⟨Nat.le_trans h.size k.size, fun i hi hl => (k.same i hi (Nat.lt_of_lt_of_le hl h.size)).trans (h.same i hi hl)⟩
/-- what lies below B is as it was, and no fewer orders were drawn -/
structure Bel (B : Nat) (X Y : World) : Prop where
  b : Below B X Y
  d : X.drawn ≤ Y.drawn
theorem Bel.refl (B : Nat) (X : World) : Bel B X X := ⟨Below.refl B X, Nat.le_refl _⟩
theorem Bel.trans {B : Nat} {X Y Z : World} (h : Bel B X Y) (k : Bel B Y Z) : Bel B X Z := ⟨h.b.trans k.b, Nat.le_trans h.d k.d⟩
theorem Bel.mono {B C : Nat} {X Y : World} (h : Bel B X Y) (hc : C ≤ B) : Bel C X Y := ⟨h.b.mono hc, h.d⟩
theorem Bel.size {B : Nat} {X Y : World} (h : Bel B X Y) : X.heap.size ≤ Y.heap.size := h.b.size
theorem Bel.block {B : Nat} {X Y : World} (h : Bel B X Y) (k : Nat) (hk : k < B) : Y.heap[k]? = X.heap[k]? := h.b.block k hk
theorem Bel.alloc {B : Nat} {X Y : World} (h : Bel B X Y) (hB : B ≤ Y.heap.size) (o : Obj) : Bel B X (Y.alloc o) := ⟨h.b.alloc hB o, h.d⟩
theorem Bel.setCell {B : Nat} {X Y : World} (h : Bel B X Y) {p : Addr} (hp : B ≤ p.block) (v : Value) : Bel B X (Y.setCell p v) := ⟨h.b.setCell hp v, h.d⟩
theorem below_put {B : Nat} {W : World} {l : Nat} (h : B ≤ l) (o : Obj) : Bel B W (W.putObj l o) :=
  ⟨⟨rfl, rfl, rfl, by simp, fun k hk => World.putObj_heap_other (by omega)⟩, Nat.le_refl _⟩
/-- an iterator that hands out what it is asked for: of the caller's world it turns nothing, of its own whatever it will -/
def SeqBel {α : Type} (F : Fence) (n : Nat) (P : Program) (g : Nat) (lb : Array Value) (encs : α → Array Value) (D : Nat → Prop) (S Sp : List α → Prop) (N : Nat) (w : World) : Prop :=
  ∀ (l : Nat) (J Jx : List α → World → Prop) (W : World), Bel w.heap.size w W → (∀ s A C, J s A → Bel W.heap.size A C → J s C) → (∀ s A C, Jx s A → Bel W.heap.size A C → Jx s C) →
    (∀ pre x W1, J pre W1 → W.heap.size ≤ W1.heap.size → pre.length < N → YieldAt F (n - 1) P l (encs x) W1 fun e W' =>
      KeptAt D W.heap.size W1 W' ∧ ((e = .returned (.bool true) ∧ J (pre ++ [x]) W') ∨ (e = .returned (.bool false) ∧ Jx (pre ++ [x]) W'))) →
    J [] W →
    CallsIn F n P g (#[.func (.yield l) #[] #[]] ++ lb) W fun e W' => (∃ v, e = .returned v) ∧ ((∃ xs, S xs ∧ J xs W') ∨ (∃ pre, Sp pre ∧ Jx pre W'))
/-- how a round may be left -/
def postB {α : Type} (D : Nat → Prop) (B : Nat) (I : List α → World → Prop) (Ix : Code → List α → World → Prop) (xs : List α) (W : World) : Exit → Act → World → Prop
  | .normal, _, W' => KeptAt D B W W' ∧ I xs W'
  | .ret, _, W' => KeptAt D B W W' ∧ Ix .ret xs W'
  | .exit id, _, W' => KeptAt D B W W' ∧ Ix (.exit id) xs W'
  | .goto t, _, W' => KeptAt D B W W' ∧ Ix (.goto t) xs W'
  | .panic _, _, _ => False
  | .outgrown, _, _ => False
variable {F : Fence} {n : Nat} {P : Program}
theorem wpIn_range_below {α : Type} {g : Operand} {ps : Array Tmp} {assign body : Code} {Q : Exit → Act → World → Prop} {a : Act} {w : World}
    (hro : F.round = none) (h1 : 1 ≤ n) {gf : Nat} {lb : Array Value} (hg : a.eval g = .func (.func gf) #[] lb) (hFg : F.fn gf) (eg : ∀ args w, (callFunc gf args).run P w = .ok (.enter gf args) w)
    {encs : α → Array Value} {D : Nat → Prop} {S Sp : List α → Prop} {N : Nat} {w0 : World} (hseq : SeqBel F (n - 1) P gf lb encs D S Sp N w0)
    (hD : ∀ k, D k → k < w.heap.size) (hb0 : Bel w0.heap.size w0 w) (hps : ∀ x, (encs x).size = ps.size)
    (I : List α → World → Prop) (Ix : Code → List α → World → Prop) (hI : ∀ s A C, I s A → Bel w.heap.size A C → I s C) (hIx : ∀ c s A C, Ix c s A → Bel w.heap.size A C → Ix c s C) (h0 : I [] w) (Ax : α → Act → World → Prop) (hAx : ∀ x a' W r, Ax x a' W → Ax x a' (W.putObj (w.heap.size + 1) r))
    (hassign : ∀ (l : Nat) (pre : List α) (x : α) (W : World) (K : Act → World → Prop), I pre W → w.heap.size + 2 ≤ W.heap.size → (∀ a' W', Bel W.heap.size W W' → Ax x a' W' → K a' W') →
      assign.wpIn (F.inRound l) (n - 1 - 1) P (Exit.then K (fun _ _ _ => False)) { tmps := (ps.zip (encs x)).foldl (fun t (p, v) => t.setIfInBounds p v) a.tmps, defers := [] } W)
    (hbody : ∀ (l : Nat) (pre : List α) (x : α) (a' : Act) (W : World), I pre W → w.heap.size + 2 ≤ W.heap.size → Ax x a' W → pre.length < N → body.wpIn (F.inRound l) (n - 1 - 1) P (postB D w.heap.size I Ix (pre ++ [x]) W) a' W)
    (hdone : ∀ (Dd : Nat) (xs : List α) (W : World), w.heap.size ≤ Dd → S xs → I xs W → W.heap[Dd]? = some (.deferred (some [])) → Q .normal { a with defers := { target := .collected Dd, args := #[] } :: a.defers } W)
    (hstop : ∀ (Dd : Nat) (c : Code) (pre : List α) (W : World), w.heap.size ≤ Dd → Sp pre → Ix c pre W → W.heap[Dd]? = some (.deferred (some [])) → c.wpIn F n P Q { a with defers := { target := .collected Dd, args := #[] } :: a.defers } W) :
    (Code.rangeFunc g ps assign body).wpIn F n P Q a w := by
  refine wpIn_rangeFunc ?_
  intro fn hfn
  rw [hro]
  obtain ⟨rec, hrec⟩ : ∃ rec : LoopState → Option Code → Loop, rec = fun st pe => { state := st, pending := pe, fn, tmps := a.tmps, params := ps, assign, body, defers := w.heap.size } := ⟨_, rfl⟩
  obtain ⟨W1, hW1⟩ : ∃ W1, (w.alloc (.deferred (some []))).alloc (.loop (rec .ready none)) = W1 := ⟨_, rfl⟩
  have hs1 : W1.heap.size = w.heap.size + 2 := by rw [← hW1]; simp
  have hL1 : W1.heap[w.heap.size + 1]? = some (.loop (rec .ready none)) := by
    rw [← hW1]; have := World.alloc_heap_new (w.alloc (.deferred (some []))) (.loop (rec .ready none)); rwa [World.size_alloc] at this
  have hK1 : W1.heap[w.heap.size]? = some (.deferred (some [])) := by
    rw [← hW1]; exact (Below.heap_alloc _ _ _ (by simp)).trans (World.alloc_heap_new w _)
  have hbw : Bel w.heap.size w W1 := by
    rw [← hW1]; exact ((Bel.refl _ w).alloc (Nat.le_refl _) _).alloc (by simp) _
  have hI1 : I [] W1 := hI _ _ _ h0 hbw
  have hb1 : Bel w0.heap.size w0 W1 := hb0.trans (hbw.mono hb0.size)
  refine ⟨w.heap.size + 1, [{ target := .collected w.heap.size, args := #[] }], W1, { target := .fn (.func gf) lb, args := #[.func (.yield (w.heap.size + 1)) #[] #[]] }, W1, gf,
    #[.func (.yield (w.heap.size + 1)) #[] #[]] ++ lb, W1, ?_, ?_, ?_, ?_, fun _ => h1, ?_⟩
  · rw [← hW1, hrec]; exact run_enterLoop_outer _ _ _ _ _
  · simp only [resolve, hg]
    simp [go_sem]
  · intro f' hf'; simp [Target.leads] at hf'; subst hf'; exact hFg
  · simp [invoke, go_sem, eg]
  · refine (hseq (w.heap.size + 1)
      (fun pre W => I pre W ∧ W.heap[w.heap.size + 1]? = some (.loop (rec .ready none)) ∧ W.heap[w.heap.size]? = some (.deferred (some [])))
      (fun pre W => ∃ c, Ix c pre W ∧ W.heap[w.heap.size + 1]? = some (.loop (rec .done (some c))) ∧ W.heap[w.heap.size]? = some (.deferred (some [])))
      W1 hb1
      (fun s A C hs hb => ⟨hI s A C hs.1 (hb.mono (by omega)), (hb.block _ (by omega)).trans hs.2.1, (hb.block _ (by omega)).trans hs.2.2⟩)
      (fun s A C hs hb => by
        obtain ⟨c, hc, hl, hk⟩ := hs
        exact ⟨c, hIx c s A C hc (hb.mono (by omega)), (hb.block _ (by omega)).trans hl, (hb.block _ (by omega)).trans hk⟩)
      ?_ ⟨hI1, hL1, hK1⟩).mono ?_
    · rintro pre x W ⟨hi, hl, hk⟩ hsz hlen
      rw [hs1] at hsz ⊢
      have hlt : w.heap.size + 1 < W.heap.size := (Array.getElem?_eq_some_iff.1 hl).1
      have hy := run_yield (P := P) (args := encs x) hl (by rw [hrec]; exact hps x)
      rw [hrec] at hy
      refine ⟨fn, _, assign, body, hy, roundIn_of_wpIn hfn (hassign _ pre x W _ hi hsz ?_)⟩
      clear hy
      intro a' Wa hba hax
      replace hl := (hba.block _ hlt).trans hl
      replace hk := (hba.block _ (by omega)).trans hk
      replace hi := hI _ _ _ hi (hba.mono (by omega))
      have hsa : w.heap.size + 2 ≤ Wa.heap.size := Nat.le_trans hsz hba.size
      refine ⟨_, run_beginRound hl (by rw [hrec]), ?_⟩
      have hl2 : (Wa.putObj (w.heap.size + 1) (.loop { rec .ready none with state := .busy })).heap[w.heap.size + 1]? = some (.loop { rec .ready none with state := .busy }) := World.putObj_heap_same (by omega)
      have hk2 : (Wa.putObj (w.heap.size + 1) (.loop { rec .ready none with state := .busy })).heap[w.heap.size]? = some (.deferred (some [])) := (World.putObj_heap_other (by omega)).trans hk
      have hz2 : ∀ o, (Wa.putObj (w.heap.size + 1) o).heap.size = Wa.heap.size := fun o => by simp
      refine wpIn_mono (hbody _ pre x a' _ (hI _ _ _ hi (below_put (by omega) _)) (by simpa using hsa) (hAx _ _ _ _ hax) hlen) ?_
      have fin : ∀ (jump : Option Code) (W3 : World), KeptAt D w.heap.size (Wa.putObj (w.heap.size + 1) (.loop { rec .ready none with state := .busy })) W3 →
          (Instr.endRound (w.heap.size + 1) jump).run P W3 = .ok (.bool jump.isNone) (W3.putObj (w.heap.size + 1) (.loop (rec (if jump.isNone then .ready else .done) jump))) ∧
          (W3.putObj (w.heap.size + 1) (.loop (rec (if jump.isNone then .ready else .done) jump))).heap[w.heap.size + 1]? = some (.loop (rec (if jump.isNone then .ready else .done) jump)) ∧
          (W3.putObj (w.heap.size + 1) (.loop (rec (if jump.isNone then .ready else .done) jump))).heap[w.heap.size]? = some (.deferred (some [])) ∧
          KeptAt D (w.heap.size + 2) W (W3.putObj (w.heap.size + 1) (.loop (rec (if jump.isNone then .ready else .done) jump))) := fun jump W3 hk3 => by
        have hl3 := (hk3.same (w.heap.size + 1) (Or.inr (by omega)) (by rw [hz2]; omega)).trans hl2
        have := run_endRound (P := P) jump hl3
        have hz3 := hk3.size
        rw [hz2] at hz3
        have hza := hba.size
        refine ⟨?_, World.putObj_heap_same (by omega), (World.putObj_heap_other (by omega)).trans ((hk3.same _ (Or.inr (Nat.le_refl _)) (by rw [hz2]; omega)).trans hk2), ⟨by simp; omega, fun k hkk hkl => ?_⟩⟩
        · rw [hrec] at this ⊢
          exact this
        · have hne : k ≠ w.heap.size + 1 := by
            rcases hkk with h | h
            · have := hD k h; omega
            · omega
          refine (World.putObj_heap_other (by omega)).trans ((hk3.same k (hkk.imp_right (by omega)) (by rw [hz2]; omega)).trans ((World.putObj_heap_other (by omega)).trans (hba.block k hkl)))
      rintro e a3 W3 hp
      cases e with
      | normal =>
        obtain ⟨hk3, hi3⟩ := hp
        obtain ⟨hr, hl4, hk4, hkk⟩ := fin none W3 hk3
        exact ⟨_, _, hr, hkk, .inl ⟨rfl, hI _ _ _ hi3 (below_put (by omega) _), hl4, hk4⟩⟩
      | ret =>
        obtain ⟨hk3, hi3⟩ := hp
        obtain ⟨hr, hl4, hk4, hkk⟩ := fin (some .ret) W3 hk3
        exact ⟨_, _, hr, hkk, .inr ⟨rfl, .ret, hIx _ _ _ _ hi3 (below_put (by omega) _), hl4, hk4⟩⟩
      | exit id =>
        obtain ⟨hk3, hi3⟩ := hp
        obtain ⟨hr, hl4, hk4, hkk⟩ := fin (some (.exit id)) W3 hk3
        exact ⟨_, _, hr, hkk, .inr ⟨rfl, .exit id, hIx _ _ _ _ hi3 (below_put (by omega) _), hl4, hk4⟩⟩
      | goto t =>
        obtain ⟨hk3, hi3⟩ := hp
        obtain ⟨hr, hl4, hk4, hkk⟩ := fin (some (.goto t)) W3 hk3
        exact ⟨_, _, hr, hkk, .inr ⟨rfl, .goto t, hIx _ _ _ _ hi3 (below_put (by omega) _), hl4, hk4⟩⟩
      | panic ch => exact hp.elim
      | outgrown => exact hp.elim
    · rintro e W2 ⟨⟨v, rfl⟩, (⟨xs, hS, hi, hl, hk⟩ | ⟨pre, hSp, c, hi, hl, hk⟩)⟩
      · exact ⟨none, _, by have := run_endLoop (P := P) hl (by rw [hrec]; simp); rw [hrec] at this; exact this, hdone _ xs _ (Nat.le_refl _) hS (hI _ _ _ hi (below_put (by omega) _)) ((World.putObj_heap_other (by omega)).trans hk)⟩
      · exact ⟨some c, _, by have := run_endLoop (P := P) hl (by rw [hrec]; simp); rw [hrec] at this; exact this, hstop _ c pre _ (Nat.le_refl _) hSp (hIx _ _ _ _ hi (below_put (by omega) _)) ((World.putObj_heap_other (by omega)).trans hk)⟩
end Go.Proofs.Ytonnmbmdmkmhmaa
