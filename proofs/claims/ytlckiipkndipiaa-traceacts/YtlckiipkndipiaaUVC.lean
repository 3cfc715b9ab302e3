/- Over this seat's translation: the program's host; New (package trace). -/
import Derived.Test.YtlckiipkndipiaaUVB
set_option linter.unusedVariables false
set_option linter.unusedSimpArgs false
set_option maxRecDepth 100000
set_option maxHeartbeats 4000000
namespace Go.Proofs.Ytlckiipkndipiaa
open Go.RowKit
def hr3 (a b c : Value) : Nat → Value := fun i => if i = 0 then a else if i = 1 then b else c
/-- a list of one's own, in a block of a label -/
def Vow (lab : Nat → Nat) (tag : Nat) (w : World) (B : Nat) (u : Value) (l : Vl) (g : Nat) : Prop := ∃ A cap, u = .slice A l.1 cap ∧ l.1 * 16 ≤ 140737488351232 ∧ (l.1 = 0 ∨ Rv w A l g ∧ lab g = tag ∧ B ≤ g)
theorem Vow.chg {lab lab' : Nat → Nat} {S : Nat → Prop} {w w' : World} {B tag g : Nat} {u : Value} {l : Vl} (h : Vow lab tag w B u l g) (hc : Chg lab S w w' lab') (hs : ¬ S tag) : Vow lab' tag w' B u l g := by
  obtain ⟨A, cap, e, h0, h1⟩ := h
  refine ⟨A, cap, e, h0, ?_⟩
  rcases h1 with h1 | ⟨h2, h3, h4⟩
  · exact Or.inl h1
  · have := h2.chg hc (by rw [h3]; exact hs)
    exact Or.inr ⟨this.1, this.2.trans h3, h4⟩
/-- so many lists of one's own, from a place on, each in a block of its own -/
def Own (lab : Nat → Nat) (tag : Nat) (w : World) (B : Nat) (F : Nat → Value) (pl n : Nat) (f : Nat → Vl) (G : Nat → Nat) : Prop := (∀ i, i < n → Vow lab tag w B (F (pl + i)) (f i) (G i)) ∧ ∀ i j, i < n → j < n → i ≠ j → (f i).1 ≠ 0 → (f j).1 ≠ 0 → G i ≠ G j
theorem Own.chg {lab lab' : Nat → Nat} {S : Nat → Prop} {w w' : World} {B tag pl n : Nat} {F : Nat → Value} {f : Nat → Vl} {G : Nat → Nat} (h : Own lab tag w B F pl n f G) (hc : Chg lab S w w' lab') (hs : ¬ S tag) : Own lab' tag w' B F pl n f G := ⟨fun i hi => (h.1 i hi).chg hc hs, h.2⟩
theorem Rv.later {w w' : World} {A : Option Addr} {l : Vl} {g : Nat} (h : Rv w A l g) (hl : Later w w') : Rv w' A l g := (h.chg (lab := fun _ => 0) (S := fun _ => False) (Chg.of_later hl) (fun x => x)).1
/-- the program's host: labels 0 to 4 -/
def HoP (lab : Nat → Nat) (w : World) (B p : Nat) (s : Hs) (g1 : Nat) (A2 : Option Addr) (c2 N pl : Nat) (L2 : List Value) (F1 : Nat → Value) (G : Nat → Nat) : Prop :=
  N = pl + s.1 ∧ N * 24 ≤ 140737488351232 ∧ Str lab 0 w B p 62 3 (hr3 (.slice (some ⟨g1, 0, none⟩) N N) (.int .i64 (pl : Nat)) (.slice A2 s.2.2.1 c2)) ∧ Str lab 1 w B g1 24 N F1 ∧ Fld lab 3 w B 52 2 (.slice A2 s.2.2.1 c2) s.2.2.1 L2 ∧ Own lab 2 w B F1 pl s.1 s.2.1 G ∧ Hrd lab 4 w B L2 s.2.2.1 s.2.2.2.1 s.2.2.2.2
theorem HoP.chg {lab lab' : Nat → Nat} {S : Nat → Prop} {w w' : World} {B p : Nat} {s : Hs} {g1 : Nat} {A2 : Option Addr} {c2 N pl : Nat} {L2 : List Value} {F1 : Nat → Value} {G : Nat → Nat} (h : HoP lab w B p s g1 A2 c2 N pl L2 F1 G) (hc : Chg lab S w w' lab') (hs : ∀ k, k < 10 → ¬ S k) : HoP lab' w' B p s g1 A2 c2 N pl L2 F1 G :=
  ⟨h.1, h.2.1, h.2.2.1.chg hc (hs _ (by decide)), h.2.2.2.1.chg hc (hs _ (by decide)), h.2.2.2.2.1.chg hc (hs _ (by decide)), h.2.2.2.2.2.1.chg hc (hs _ (by decide)), h.2.2.2.2.2.2.chg hc (hs _ (by decide))⟩
def HoS (lab : Nat → Nat) (w : World) (B p : Nat) (s : Hs) : Prop := ∃ g1 A2 c2 N pl L2 F1 G, HoP lab w B p s g1 A2 c2 N pl L2 F1 G
theorem HoS.chg {lab lab' : Nat → Nat} {S : Nat → Prop} {w w' : World} {B p : Nat} {s : Hs} (h : HoS lab w B p s) (hc : Chg lab S w w' lab') (hs : ∀ k, k < 10 → ¬ S k) : HoS lab' w' B p s := by
  obtain ⟨g1, A2, c2, N, pl, L2, F1, G, h⟩ := h
  exact ⟨g1, A2, c2, N, pl, L2, F1, G, h.chg hc hs⟩
theorem info_vls : (Try.prog.info? 24).map (fun i => (i.zero, i.size, i.bytes)) = some (some (.slice none 0 0), 1, 24) := by kernel_rfl
theorem vls_parts : ∃ i, Try.prog.info? 24 = some i ∧ i.zero = some (.slice none 0 0) ∧ i.size = 1 ∧ i.bytes = 24 := by
  have h := info_vls
  cases hh : Try.prog.info? 24 with
  | none => rw [hh] at h; cases h
  | some i =>
    rw [hh] at h
    simp only [Option.map_some, Option.some.injEq, Prod.mk.injEq] at h
    exact ⟨i, rfl, h⟩
theorem Own.more {lab : Nat → Nat} {tag : Nat} {w : World} {B n : Nat} {F F' : Nat → Value} {f : Nat → Vl} {G : Nat → Nat} {g : Nat} (h : Own lab tag w B F 0 n f G) (hF : ∀ i, i < n → F' i = F i) (hv : Vow lab tag w B (F' n) (f n) g) (hg : ∀ i, i < n → (f i).1 ≠ 0 → (f n).1 ≠ 0 → G i ≠ g) : Own lab tag w B F' 0 (n + 1) f (ups G n g) := by
  refine ⟨fun i hi => ?_, fun i j hi hj hij h1 h2 => ?_⟩
  · rw [Nat.zero_add]
    unfold ups
    by_cases hin : i = n
    · rw [if_pos hin, hin]; exact hv
    · have := h.1 i (by omega)
      rw [Nat.zero_add] at this
      rw [if_neg hin, hF i (by omega)]
      exact this
  · unfold ups
    by_cases hin : i = n
    · by_cases hjn : j = n
      · omega
      · rw [if_pos hin, if_neg hjn]
        exact (hg j (by omega) h2 (by rw [← hin]; exact h1)).symm
    · by_cases hjn : j = n
      · rw [if_neg hin, if_pos hjn]
        exact hg i (by omega) h1 (by rw [← hjn]; exact h2)
      · rw [if_neg hin, if_neg hjn]
        exact h.2 i j (by omega) (by omega) hij h1 h2
/-- the rows laid by New, labelled -/
theorem host_made (lab : Nat → Nat) (w0 w wr : World) (hL : Later w0 w) (hW : Later w wr) (n : Nat) (hn : n * 24 ≤ 140737488351232) (f : Nat → Vl) (F : Nat → Value) (G : Nat → Nat) (hR : wr.rowIs w.heap.size 24 n F) (hO : Own (fun _ => 0) 0 wr (w.heap.size + 1) F 0 n f G) (c : Nat → Int) (a : Nat → Vl) :
    ∃ lab', Chg lab (fun _ => False) w (wr.alloc (.cells #[.slice (some ⟨w.heap.size, 0, none⟩) n n, .int .i64 0, .slice none 0 0] 62)) lab' ∧ HoS lab' (wr.alloc (.cells #[.slice (some ⟨w.heap.size, 0, none⟩) n n, .int .i64 0, .slice none 0 0] 62)) w0.heap.size wr.heap.size (n, f, 0, c, a) := by
  have h2 := World.rowIs_alloc wr #[.slice (some ⟨w.heap.size, 0, none⟩) n n, .int .i64 0, .slice none 0 0] 62 (hr3 (.slice (some ⟨w.heap.size, 0, none⟩) n n) (.int .i64 ((0 : Nat) : Int)) (.slice none 0 0)) (by
    intro i hi
    match i, hi with
    | 0, _ => rfl
    | 1, _ => rfl
    | 2, _ => rfl)
  have hl1 := hR.lt
  have hL1 := hL.size
  have hA : Later wr (wr.alloc (.cells #[.slice (some ⟨w.heap.size, 0, none⟩) n n, .int .i64 0, .slice none 0 0] 62)) := La (Lz _)
  refine ⟨fun k => if k < w.heap.size then lab k else if k = w.heap.size then 1 else if k = wr.heap.size then 0 else 2, ⟨(hW.trans hA).size, fun k hk _ => ⟨if_pos hk, (hW.trans hA).block hk⟩⟩, w.heap.size, none, 0, n, 0, [], F, G, by simp, hn, ⟨by simpa using h2, by omega, ?_⟩, ⟨rowIs_later hA hR, hL1, ?_⟩, ⟨World.ownsRow_nil _ _ _ _, fun g hg => by cases hg⟩, ⟨fun i hi => ?_, hO.2⟩, fun i hi => absurd hi (Nat.not_lt_zero _)⟩
  · show (if wr.heap.size < w.heap.size then _ else if wr.heap.size = w.heap.size then 1 else if wr.heap.size = wr.heap.size then 0 else 2) = 0
    rw [if_neg (by omega), if_neg (by omega), if_pos rfl]
  · show (if w.heap.size < w.heap.size then _ else if w.heap.size = w.heap.size then 1 else if w.heap.size = wr.heap.size then 0 else 2) = 1
    rw [if_neg (by omega), if_pos rfl]
  · obtain ⟨A, cap, e, h0, h1⟩ := hO.1 i hi
    refine ⟨A, cap, e, h0, ?_⟩
    rcases h1 with h1 | ⟨h3, h4, h5⟩
    · exact Or.inl h1
    · have hlt := h3.lt
      refine Or.inr ⟨h3.later hA, ?_, by omega⟩
      show (if G i < w.heap.size then _ else if G i = w.heap.size then 1 else if G i = wr.heap.size then 0 else 2) = 2
      rw [if_neg (by omega), if_neg (by omega), if_neg (by omega)]
theorem hnew_any (lab : Nat → Nat) (w0 w : World) (hL : Later w0 w) (A : Option Addr) (n cap : Nat) (f : Nat → Vl) (hn : n * 24 ≤ 140737488351232) (hA : Anv w A n f) :
    Calls Try.prog 7 #[.slice A n cap] w fun e w' => ∃ p, e = .returned (.pointer (some ⟨p, 0, none⟩)) ∧ Later w w' ∧ ∀ c a, ∃ lab', Chg lab (fun _ => False) w w' lab' ∧ HoS lab' w' w0.heap.size p (n, f, 0, c, a) := by
  obtain ⟨iv, hv1, hv2, hv3, hv4⟩ := vls_parts
  have hmk : ∀ w' : World, (Instr.makeSlice 60 (.int .i64 (n : Int)) (.int .i64 (n : Int))).run Try.prog w' = .ok (.slice (some ⟨w'.heap.size, 0, none⟩) n n) (w'.alloc (.cells (madeCells #[.slice none 0 0] n) 24)) := fun w' => by
    have hr := run_make (P := Try.prog) w' 60 24 iv _ Try.underlying60 hv1 hv2 .i64 .i64 n n (by omega) (Int.le_refl _) (by rw [hv4]; omega) (by omega)
    simp only [Int.toNat_natCast, hv3, Nat.mul_one] at hr
    exact hr
  have hrow : (w.alloc (.cells (madeCells #[.slice none 0 0] n) 24)).rowIs w.heap.size 24 n (fun _ => .slice none 0 0) := World.rowIs_made w (.slice none 0 0) n 24
  generalize madeCells #[.slice none 0 0] n = C at *
  replace hrow : Hid _ := hrow
  replace hA : Hid (Anv w A n f) := hA
  replace hL : Hid (Later w0 w) := hL
  clear hv1 hv2 hv3 hv4
  go_enter Try.func7, Try.ntmps7
  go_wp2
  go_loopw [11] (fun i wr => ∃ (j : Nat) (F : Nat → Value) (G : Nat → Nat), j ≤ n ∧ i = .int .i64 (j : Nat) ∧ Later w wr ∧ wr.rowIs w.heap.size 24 n F ∧ Own (fun _ => 0) 0 wr (w.heap.size + 1) F 0 j f G) (fun i _ => n - (intOf i).toNat)
  case atStart => exact ⟨0, _, fun _ => 0, Nat.zero_le _, rfl, La (Lz _), hrow.out, fun i hi => absurd hi (Nat.not_lt_zero _), fun i j hi => absurd hi (Nat.not_lt_zero _)⟩
  case round =>
    obtain ⟨j, F, G, hj, rfl, hW, hR, hO⟩ := hrel
    clear hrow hmk
    by_cases hlt : j < n
    · have hl1 : (j : Int) < (n : Int) := by omega
      obtain ⟨bb, oo, rfl, hc⟩ := hA.out.resolve_left (by omega)
      obtain ⟨S, cs, k1, k2, k3⟩ := hc j hlt
      have a0 := hW.cell_of k1
      have la := cell_lt a0
      replace k3 := k3.later hW
      replace hW : Hid (Later w wr) := hW
      replace hR : Hid (wr.rowIs w.heap.size 24 n F) := hR
      replace hO : Hid (Own (fun _ => 0) 0 wr (w.heap.size + 1) F 0 j f G) := hO
      clear hc k1
      go_wp2_with fail
      refine (clone_any S cs (f j) _ k2 (k3.later (by repeat first | exact Lz _ | apply La | apply Lv | apply Ld | apply Ln))).mono ?_
      rintro e w2 ⟨A', c', rfl, hc, hl⟩
      have l2 : Later wr w2 := Later.trans (by repeat first | exact Lz _ | apply La | apply Lv | apply Ld | apply Ln) hl.out
      have R2 := rowIs_later l2 hR.out
      have z0 := R2.frozen j
      have q0 := R2.cell (i := j) hlt
      have T1 : Turned w.heap.size w2 (w2.setCell ⟨w.heap.size, j, none⟩ (.slice A' (f j).1 c')) := (Turned.refl R2).set R2 _ _
      have R3 := R2.set j (.slice A' (f j).1 c')
      have L3 := (hW.out.trans l2).turned R2 (Nat.le_refl _) T1
      have hwr := hR.out.lt
      have hfin : Hid (Later w (w2.setCell ⟨w.heap.size, j, none⟩ (.slice A' (f j).1 c')) ∧ (w2.setCell ⟨w.heap.size, j, none⟩ (.slice A' (f j).1 c')).rowIs w.heap.size 24 n (fun i => if i = j then .slice A' (f j).1 c' else F i) ∧ ∃ G, Own (fun _ => 0) 0 (w2.setCell ⟨w.heap.size, j, none⟩ (.slice A' (f j).1 c')) (w.heap.size + 1) (fun i => if i = j then .slice A' (f j).1 c' else F i) 0 (j + 1) f G) := by
        refine ⟨L3, R3, ?_⟩
        have hO2 : Own (fun _ => 0) 0 (w2.setCell ⟨w.heap.size, j, none⟩ (.slice A' (f j).1 c')) (w.heap.size + 1) F 0 j f G := ⟨fun i hi => by
          obtain ⟨B, d, e, h0, h1⟩ := hO.out.1 i hi
          refine ⟨B, d, e, h0, ?_⟩
          rcases h1 with h1 | ⟨h2, h3, h4⟩
          · exact Or.inl h1
          · exact Or.inr ⟨(h2.later l2).turned T1 (by omega), h3, h4⟩, hO.out.2⟩
        rcases hc.out with h | ⟨g, h1, h2⟩
        · exact ⟨_, hO2.more (g := 0) (fun i hi => if_neg (by omega)) ⟨A', c', if_pos rfl, k2, Or.inl h⟩ (fun i hi _ h3 => absurd h h3)⟩
        · have h3 : wr.heap.size ≤ g := Nat.le_trans (Later.size (by repeat first | exact Lz _ | apply La | apply Lv | apply Ld | apply Ln)) h2
          refine ⟨_, hO2.more (g := g) (fun i hi => if_neg (by omega)) ⟨A', c', if_pos rfl, k2, Or.inr ⟨h1.turned T1 (by omega), rfl, by omega⟩⟩ (fun i hi h4 _ => ?_)⟩
          obtain ⟨B, d, e, h0, h5⟩ := hO.out.1 i hi
          have := (h5.resolve_left h4).1.lt
          omega
      clear hc hl l2 R2 T1 R3 L3 hW hR hO k3 hA
      go_wp2
      go_roundw
      case rel => exact ⟨j + 1, _, _, by omega, by go_num, hfin.out.1, hfin.out.2.1, hfin.out.2.2.choose_spec⟩
      case measure => simp [intOf]; omega
    · have hje : j = n := by omega
      subst hje
      have hfin : Hid (Later w (wr.alloc (.cells #[.slice (some ⟨w.heap.size, 0, none⟩) j j, .int .i64 0, .slice none 0 0] 62)) ∧ ∀ c a, ∃ lab', Chg lab (fun _ => False) w (wr.alloc (.cells #[.slice (some ⟨w.heap.size, 0, none⟩) j j, .int .i64 0, .slice none 0 0] 62)) lab' ∧ HoS lab' (wr.alloc (.cells #[.slice (some ⟨w.heap.size, 0, none⟩) j j, .int .i64 0, .slice none 0 0] 62)) w0.heap.size wr.heap.size (j, f, 0, c, a)) := ⟨La hW, fun c a => host_made lab w0 w wr hL.out hW j hn f F G hR hO c a⟩
      clear hW hR hO hA hL
      go_wp2
      go_ret
      exact ⟨_, rfl, hfin.out⟩
end Go.Proofs.Ytlckiipkndipiaa
