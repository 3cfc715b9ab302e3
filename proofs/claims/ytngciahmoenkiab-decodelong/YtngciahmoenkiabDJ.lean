/- package decode: a module put together (module). -/
import Derived.Test.YtngciahmoenkiabEQ
import Derived.Test.YtngciahmoenkiabDI
set_option linter.unusedVariables false
set_option linter.unusedSimpArgs false
set_option maxRecDepth 100000
set_option maxHeartbeats 8000000
namespace Go.Proofs.Ytngciahmoenkiab
open Go.RowKit Go.Shelf
/-- what is answered, in new blocks without a mark -/
def UnQ (w : World) (r : Md × Int) (e : Ending) (w' : World) : Prop := ∃ L : List Value, e = .returned (.tuple #[.agg L.toArray, .int .i64 r.2]) ∧ ModC (Zf w.heap.size w') w' r.1 L ∧ Later w w'
attribute [local go_sem] Oper.semAt_some
/-- what a module put together is -/
def ModP (w : World) (r : Md × Int) (e : Ending) (w' : World) : Prop :=
  (r.2 = 0 ∧ ∃ L : List Value, e = .returned (.agg L.toArray) ∧ ModC (Zf w.heap.size w') w' r.1 L ∧ Later w w') ∨ (∃ c, ¬ c = 0 ∧ r = (mdZ 0, c) ∧ e = thr c ∧ Later w w')
theorem tame_post {n : Nat} {P : Program} {fn : Func} {R : Ending → World → Prop} (hR : ∀ w, ¬ R .outgrown w) : Tame (bodyPostM Fence.wide n P fn R) := ⟨fun _ _ _ h => h, fun _ _ _ h => h, fun _ w h => hR w h⟩
theorem sections_any (s : ByteArray) (w : World) : Calls Try.prog 22 #[.string s] w fun e w' => e = .returned (.func (.func 26) #[] #[.pointer (some ⟨w.heap.size, 0, none⟩)]) ∧ w' = w.alloc (.cells #[.string s] 9) := by
  have hmf : ∀ (fn : Fn) (first cap : Array Value) (w : World), (Instr.makeFunc fn first cap).run Try.prog w = .ok (.func fn first cap) w := fun _ _ _ _ => rfl
  go_enter Try.func22, Try.ntmps22
  go_wp2_with fail
  go_ret
  exact ⟨rfl, rfl⟩
theorem ssec_in {u : ByteArray} (id : Int) (m : Md) : Sin u (ssec u id m).2 := by
  have h0 : Sin u ⟨0, 0⟩ := ⟨Int.le_refl _, by show (0 : Int) ≤ u.size; omega⟩
  unfold ssec
  split
  · exact stys_in h0
  · split
    · exact simps_in h0
    · split
      · exact sfuncs_in h0
      · split
        · exact stabs_in h0
        · split
          · exact smems_in h0
          · split
            · exact sglos_in h0
            · split
              · exact sexps_in h0
              · split
                · exact snum_in h0
                · split
                  · exact selms_in h0
                  · split
                    · exact scodes_in h0
                    · exact sdats_in h0
theorem sfill_in {u : ByteArray} (id : Int) (m : Md) : Sin u (sfill u id m).2 := by
  unfold sfill
  split
  · exact ⟨by show (0 : Int) ≤ u.size; omega, Int.le_refl _⟩
  · exact ssec_in id m
theorem sec0_bad {u : ByteArray} {id : Int} {m : Md} {x : Nat} (h : ¬ (sfill u id m).2.code = 0) : (ssec0 u id m x).2.code = (sfill u id m).2.code := by
  unfold sfill ssec0 at *
  by_cases hz : id = 0
  · rw [if_pos hz, if_pos hz]
  · rw [if_neg hz] at h
    rw [if_neg hz, if_neg hz]
    show (sclose _ _ _).code = _
    unfold sclose
    rw [if_neg (fun z => h z.1)]
theorem sec0_left {u : ByteArray} {id : Int} {m : Md} {x : Nat} (hx : x = u.size) (h : (sfill u id m).2.code = 0) (h2 : ¬ (sfill u id m).2.at_ = u.size) : (ssec0 u id m x).2.code = 1504 := by
  unfold sfill ssec0 at *
  by_cases hz : id = 0
  · rw [if_pos hz] at h2
    exact absurd rfl h2
  · rw [if_neg hz] at h h2
    rw [if_neg hz]
    show (sclose _ _ _).code = _
    unfold sclose
    rw [if_pos ⟨h, by rw [hx]; omega⟩]
    unfold sfail
    rw [if_pos h]
theorem sec0_ok {u : ByteArray} {id : Int} {m : Md} {x : Nat} (hx : x = u.size) (h : (sfill u id m).2.code = 0) (h2 : (sfill u id m).2.at_ = u.size) : (ssec0 u id m x).2.code = 0 ∧ (ssec0 u id m x).1 = (sfill u id m).1 := by
  unfold sfill ssec0 at *
  by_cases hz : id = 0
  · rw [if_pos hz] at h ⊢
    rw [if_pos hz]
    exact ⟨h, rfl⟩
  · rw [if_neg hz] at h h2
    rw [if_neg hz, if_neg hz]
    refine ⟨?_, rfl⟩
    show (sclose _ _ _).code = _
    unfold sclose
    rw [if_neg (fun z => z.2 (by rw [hx]; omega))]
    exact h
theorem cell_put {W : World} {k : Nat} {o : Obj} {a : Addr} (h : a.block ≠ k) : (W.putObj k o).cell? a = W.cell? a := World.cell?_of_block (World.putObj_heap_other h)
theorem wr_put {S : Nat → Prop} {w W : World} {k : Nat} {o : Obj} (h : Wr S w W) (hk : S k) : Wr S w (W.putObj k o) := ⟨h.os, h.tape, h.output, by simpa using h.size, h.drawn, fun j hj hs => (World.putObj_heap_other (fun e => hs (by rw [e]; exact hk))).trans (h.block j hj hs)⟩
theorem module_any (s : ByteArray) (hs : s.size ≤ 65536) (h8 : 8 ≤ s.size) (w : World) :
    Calls Try.prog 20 #[.string s] w (ModP w (unL s s.size 8 0 (mdZ (-1)))) := by
  have hT : Tame (bodyPostM Fence.wide 9 Try.prog Try.f20 (ModP w (unL s s.size 8 0 (mdZ (-1))))) := tame_post fun w' h => by
    rcases h with ⟨_, L, h, _⟩ | ⟨_, _, _, h, _⟩ <;> cases h
  refine calls_of_wpG (n := 9) Try.func20 rfl ?_
  simp only [Try.ntmps20, List.size_toArray, List.length_cons, List.length_nil, Nat.reduceAdd, Nat.reduceSub, Array.replicate_succ, Array.replicate_zero, List.push_toArray, List.append_toArray, List.nil_append, List.cons_append]
  refine wpG_seq_k (n := 9) hT fun K hK => ?_
  gi_wp2
  refine wpG_seq_k (n := 9) hT fun K hK => ?_
  gi_wp2
  refine wpG_seq ?_
  refine wpG_seq_k (n := 9) ⟨fun _ _ _ h => h, fun _ _ _ h => h, fun a w h => hT.2.2 a w h⟩ fun K hK => ?_
  gi_wp2
  refine ⟨trivial, ?_⟩
  refine (callsIn_wide.2 (sections_any s _)).mono ?_
  rintro e w2 ⟨rfl, hw2⟩
  gi_wp2
  refine wpG_block ?_
  clear hw2
  obtain ⟨W2, hW2⟩ : ∃ W2, (((w.alloc (.cells #[.slice none 0 0, .slice none 0 0, .slice none 0 0, .slice none 0 0, .slice none 0 0, .slice none 0 0, .slice none 0 0, .int .i64 0, .slice none 0 0, .slice none 0 0, .slice none 0 0] 34)).alloc (.cells #[.slice none 0 0, .slice none 0 0, .slice none 0 0, .slice none 0 0, .slice none 0 0, .slice none 0 0, .slice none 0 0, .int .i64 (-1), .slice none 0 0, .slice none 0 0, .slice none 0 0] 34)).alloc (.cells #[.string s] 9)) = W2 := ⟨_, rfl⟩
  rw [hW2]
  have z2 : W2.heap.size = w.heap.size + 3 := by rw [← hW2]; simp
  have L2 : Later w W2 := by rw [← hW2]; exact La (La (La (Lz _)))
  have P0 : Rl W2 w.heap.size 34 [.slice none 0 0, .slice none 0 0, .slice none 0 0, .slice none 0 0, .slice none 0 0, .slice none 0 0, .slice none 0 0, .int .i64 0, .slice none 0 0, .slice none 0 0, .slice none 0 0] := by
    rw [← hW2]
    exact Rl.later (row_new w 34 [.slice none 0 0, .slice none 0 0, .slice none 0 0, .slice none 0 0, .slice none 0 0, .slice none 0 0, .slice none 0 0, .int .i64 0, .slice none 0 0, .slice none 0 0, .slice none 0 0]) (La (La (Lz _)))
  have P1 : Rl W2 (w.heap.size + 1) 34 [.slice none 0 0, .slice none 0 0, .slice none 0 0, .slice none 0 0, .slice none 0 0, .slice none 0 0, .slice none 0 0, .int .i64 (-1), .slice none 0 0, .slice none 0 0, .slice none 0 0] := by
    rw [← hW2]
    have t := row_new (w.alloc (.cells #[.slice none 0 0, .slice none 0 0, .slice none 0 0, .slice none 0 0, .slice none 0 0, .slice none 0 0, .slice none 0 0, .int .i64 0, .slice none 0 0, .slice none 0 0, .slice none 0 0] 34)) 34 [.slice none 0 0, .slice none 0 0, .slice none 0 0, .slice none 0 0, .slice none 0 0, .slice none 0 0, .slice none 0 0, .int .i64 (-1), .slice none 0 0, .slice none 0 0, .slice none 0 0]
    rw [World.size_alloc] at t
    exact Rl.later t (La (Lz _))
  have cg : W2.cell? ⟨w.heap.size + 2, 0, none⟩ = some (.string s) := by
    rw [← hW2]
    simp [go_sem]
  clear hW2 w2
  have eg : ∀ args w, (callFunc 26 args).run Try.prog w = .ok (.enter 26 args) w := enters_of Try.func26 (by kernel_rfl) rfl
  refine wpG_range_fn (gf := 26) (lb := #[.pointer (some ⟨w.heap.size + 2, 0, none⟩)]) rfl eg fun rc hrc => ?_
  have hY : ∀ (m : Md) (id bg sz : Nat) (W : World), Iv s w (w.heap.size + 1) (w.heap.size + 2) W2.heap.size (W2.heap.size + 1) rc m W → id ≤ 11 → bg + sz ≤ s.size → YieldAt Fence.wide 9 Try.prog (W2.heap.size + 1) #[.int .i64 (id : Int), .pointer (some ⟨W.heap.size, 0, none⟩)] (W.alloc (.cells #[.string (s.extract 0 (bg + sz)), .int .i64 (bg : Int)] 82)) (RdP s w (w.heap.size + 1) (w.heap.size + 2) W2.heap.size (W2.heap.size + 1) rc (ssec0 (s.extract bg (bg + sz)) (id : Int) m sz)) := by
    intro m id bg sz W hI hid hbs
    obtain ⟨i1, ⟨i2, i2r⟩, i3, i4, Z, L, i5, i6, i7⟩ := hI
    have hlW : W2.heap.size + 1 < W.heap.size := (Array.getElem?_eq_some_iff.1 i4).1
    have row : (W.alloc (.cells #[.string (s.extract 0 (bg + sz)), .int .i64 (bg : Int)] 82)).rowIs W.heap.size 82 2 (dF (s.extract 0 (bg + sz)) bg 0) := by
      have t := row_new W 82 [.string (s.extract 0 (bg + sz)), .int .i64 (bg : Int)]
      have e : dF (s.extract 0 (bg + sz)) bg 0 = fun j => [Value.string (s.extract 0 (bg + sz)), .int .i64 (bg : Int)].getD j undef := by
        funext j
        unfold dF
        rw [Int.add_zero]
      rw [e]
      exact t
    have L1 : Later W (W.alloc (.cells #[.string (s.extract 0 (bg + sz)), .int .i64 (bg : Int)] 82)) := La (Lz _)
    have z1 : (W.alloc (.cells #[.string (s.extract 0 (bg + sz)), .int .i64 (bg : Int)] 82)).heap.size = W.heap.size + 1 := by simp
    generalize W.alloc (.cells #[.string (s.extract 0 (bg + sz)), .int .i64 (bg : Int)] 82) = W1 at *
    have j4 := (L1.block hlW).trans i4
    have hy := run_yield (P := Try.prog) (args := #[.int .i64 (id : Int), .pointer (some ⟨W.heap.size, 0, none⟩)]) j4 (by rw [hrc]; rfl)
    rw [hrc] at hy
    refine ⟨_, _, _, _, hy, ?_⟩
    clear hy
    refine round_np Try.func20 ?_
    gi_wp2
    have rs : rc.state = .ready := by rw [hrc]
    have hre : ({ ({ rc with state := .busy } : Loop) with state := if (none : Option Code).isNone then .ready else .done, pending := none } : Loop) = rc := by rw [hrc]; rfl
    refine ⟨_, run_beginRound j4 rs, ?_⟩
    have k3 : (W1.putObj (W2.heap.size + 1) (.loop { rc with state := .busy })).heap[W2.heap.size + 1]? = some (.loop { rc with state := .busy }) := World.putObj_heap_same (by omega)
    have ko : ∀ k, k ≠ W2.heap.size + 1 → (W1.putObj (W2.heap.size + 1) (.loop { rc with state := .busy })).heap[k]? = W1.heap[k]? := fun k hk => World.putObj_heap_other hk
    have zo : (W1.putObj (W2.heap.size + 1) (.loop { rc with state := .busy })).heap.size = W1.heap.size := by simp
    have w3 : Wr (fun k => w.heap.size ≤ k) w (W1.putObj (W2.heap.size + 1) (.loop { rc with state := .busy })) := wr_put (i1.ltr L1) (by show w.heap.size ≤ _; omega)
    generalize W1.putObj (W2.heap.size + 1) (.loop { rc with state := .busy }) = W3 at *
    generalize ({ rc with state := .busy } : Loop) = rb at *
    have r3 := row.of_block (ko W.heap.size (by omega))
    have R3 : Rl W3 (w.heap.size + 1) 34 L := World.rowIs.of_block (i6.later L1) (ko _ (by omega))
    have C3 : ModC Z W3 m L := i7.move fun k hk hl => ⟨hk, (ko k (by have := (i5 k hk).1; omega)).trans (L1.block hl)⟩
    have d3 : W3.heap[W2.heap.size]? = some (.deferred (some [])) := (ko _ (by omega)).trans ((L1.block (by omega)).trans i3)
    have g3 : W3.cell? ⟨w.heap.size + 2, 0, none⟩ = some (.string s) := (World.cell?_of_block (ko _ (by show w.heap.size + 2 ≠ _; omega))).trans (L1.cell_of i2)
    have q3 : Rl W3 w.heap.size 34 [.slice none 0 0, .slice none 0 0, .slice none 0 0, .slice none 0 0, .slice none 0 0, .slice none 0 0, .slice none 0 0, .int .i64 0, .slice none 0 0, .slice none 0 0, .slice none 0 0] := World.rowIs.of_block (i2r.later L1) (ko _ (by omega))
    have hS := shf_cut s bg (bg + sz) (by omega) hbs
    have hv : (s.extract 0 (bg + sz)).size ≤ 65536 := by rw [ByteArray.size_extract]; omega
    have hu : sz = (s.extract bg (bg + sz)).size := by rw [ByteArray.size_extract]; omega
    have hZ : ∀ k, Z k → k ≠ W.heap.size ∧ k ≠ w.heap.size + 1 := fun k hk => ⟨by have := (i5 k hk).2.1; omega, by have := (i5 k hk).1; omega⟩
    have hZl : ∀ k, Z k → W2.heap.size + 1 < k := fun k hk => (i5 k hk).1
    have hZn : ∀ k, Z k → k < W3.heap.size ∧ Nf W3 k := fun k hk => ⟨by have := (i5 k hk).2.1; have := L1.size; omega, nfof ((ko k (by have := (i5 k hk).1; omega)).trans (L1.block (i5 k hk).2.1)) (i5 k hk).2.2⟩
    have hZq : ∀ k, Z k → k ≠ W.heap.size := fun k hk => (hZ k hk).1
    have hf := fill_any id hid hv hS (by rw [zo, z1]; omega) (by omega) hZ C3 r3 R3
    have hb0 := sec0_bad (u := s.extract bg (bg + sz)) (id := (id : Int)) (m := m) (x := sz)
    have hl0 := sec0_left (u := s.extract bg (bg + sz)) (id := (id : Int)) (m := m) (x := sz) hu
    have hk0 := sec0_ok (u := s.extract bg (bg + sz)) (id := (id : Int)) (m := m) (x := sz) hu
    have hi0 := sfill_in (u := s.extract bg (bg + sz)) (id : Int) m
    generalize sfill (s.extract bg (bg + sz)) (id : Int) m = rr at *
    generalize ssec0 (s.extract bg (bg + sz)) (id : Int) m sz = R0 at *
    obtain ⟨m5, a5, cd5⟩ := rr
    have hq3 : W.heap.size < W3.heap.size := by omega
    have hqz : W2.heap.size + 1 < W.heap.size := hlW
    have hlf : ∀ W4 : World, W4.rowIs W.heap.size 82 2 (dF (s.extract 0 (bg + sz)) bg a5) → CallsIn Fence.wide 8 Try.prog 25 #[.pointer (some ⟨W.heap.size, 0, none⟩)] W4 fun e w' => e = .returned (.int .i64 (((s.extract bg (bg + sz)).size : Int) - a5)) ∧ Hid (Ds W.heap.size bg W4 w' (s.extract 0 (bg + sz)) a5) := fun W4 h4 => callsIn_wide.2 (left_any (by omega) hS hi0 W4 h4)
    have hEr : ∀ W4, Wr (fun k => k = W.heap.size ∨ k = w.heap.size + 1) W3 W4 → Er w W2.heap.size W4 := fun W4 h4 => ⟨w3.trans (h4.mono (fun k _ e => by rcases e with e | e <;> (show w.heap.size ≤ k; omega))), (h4.block _ (by omega) (by omega)).trans d3⟩
    have hIv : ∀ W4 L', Wr (fun k => k = W.heap.size ∨ k = w.heap.size + 1) W3 W4 → Rl W4 (w.heap.size + 1) 34 L' → ModC (fun k => Z k ∨ Zf W3.heap.size W4 k) W4 m5 L' → ∃ W5, (Instr.endRound (W2.heap.size + 1) none).run Try.prog W4 = .ok (.bool true) W5 ∧ Iv s w (w.heap.size + 1) (w.heap.size + 2) W2.heap.size (W2.heap.size + 1) rc m5 W5 := fun W4 L' h4 hR4 hC4 => by
      have kk := (h4.block (W2.heap.size + 1) (by omega) (by omega)).trans k3
      have he := run_endRound (P := Try.prog) none kk
      rw [hre] at he
      have hz4 := h4.size
      refine ⟨_, he, wr_put (hEr W4 h4).1 (by show w.heap.size ≤ _; omega), ⟨(cell_put (by show w.heap.size + 2 ≠ _; omega)).trans (h4.cell (by omega) g3), World.rowIs.of_block (Rl.wr q3 h4 (by omega)) (World.putObj_heap_other (by omega))⟩, (World.putObj_heap_other (by omega)).trans (hEr W4 h4).2, World.putObj_heap_same (by omega), fun k => (Z k ∨ Zf W3.heap.size W4 k) ∧ k < W4.heap.size, L', fun k hk => ⟨?_, by simpa using hk.2, ?_⟩, World.rowIs.of_block hR4 (World.putObj_heap_other (by omega)), hC4.move fun k hk hl => ⟨⟨hk, hl⟩, World.putObj_heap_other ?_⟩⟩
      · rcases hk.1 with h | h
        · exact hZl k h
        · have := h.1
          omega
      · rcases hk.1 with h | h
        · have a := hZl k h
          have b := hZn k h
          exact nfof ((World.putObj_heap_other (by omega)).trans (h4.block k b.1 (by rintro (e | e); exact (hZ k h).1 e; exact (hZ k h).2 e))) b.2
        · have a := h.1
          exact nfof (World.putObj_heap_other (by omega)) h.2
      · rcases hk with h | h
        · have := hZl k h; omega
        · have := h.1; omega
    clear i1 i2 i2r q3 i3 i4 i5 i6 i7 row L1 z1 j4 rs hre k3 ko zo w3 r3 R3 C3 d3 g3 hS hv hu hZ hZl hZn hi0 eg hrc
    replace hIv : Hid (∀ W4 L', Wr (fun k => k = W.heap.size ∨ k = w.heap.size + 1) W3 W4 → Rl W4 (w.heap.size + 1) 34 L' → ModC (fun k => Z k ∨ Zf W3.heap.size W4 k) W4 m5 L' → ∃ W5, (Instr.endRound (W2.heap.size + 1) none).run Try.prog W4 = .ok (.bool true) W5 ∧ Iv s w (w.heap.size + 1) (w.heap.size + 2) W2.heap.size (W2.heap.size + 1) rc m5 W5) := hIv
    replace hEr : Hid (∀ W4, Wr (fun k => k = W.heap.size ∨ k = w.heap.size + 1) W3 W4 → Er w W2.heap.size W4) := hEr
    replace hZq : Hid (∀ k, Z k → k ≠ W.heap.size) := hZq
    replace hlf : Hid (∀ W4 : World, W4.rowIs W.heap.size 82 2 (dF (s.extract 0 (bg + sz)) bg a5) → CallsIn Fence.wide 8 Try.prog 25 #[.pointer (some ⟨W.heap.size, 0, none⟩)] W4 fun e w' => e = .returned (.int .i64 (((s.extract bg (bg + sz)).size : Int) - a5)) ∧ Hid (Ds W.heap.size bg W4 w' (s.extract 0 (bg + sz)) a5)) := hlf
    replace z2 : Hid (W2.heap.size = w.heap.size + 3) := z2
    clear P0 P1 cg L2 hT
    gi_wp2
    refine ⟨trivial, ?_⟩
    refine ((callsIn_wide.2 hf).inRound _).mono ?_
    clear hf
    rintro e W4 (⟨hc4, rfl, L', f1, f2, f3, f4⟩ | ⟨hc4, rfl, f1⟩)
    · obtain rfl : cd5 = 0 := hc4
      have hl4 := hlf.out W4 f2
      clear hlf
      by_cases h5 : a5 = ((s.extract bg (bg + sz)).size : Int)
      · obtain ⟨q1, q2⟩ := hk0 rfl h5
        rw [h5, Int.sub_self] at hl4
        have hn := (callsIn_wide (n := 8)).2 (need_ok 1504 W4)
        have hfin : Hid (∀ W5, Wr (fun k => k = W.heap.size) W4 W5 → ∃ W6, (Instr.endRound (W2.heap.size + 1) none).run Try.prog W5 = .ok (.bool true) W6 ∧ RdP s w (w.heap.size + 1) (w.heap.size + 2) W2.heap.size (W2.heap.size + 1) rc R0 (.returned (.bool true)) W6) := fun W5 h5w => by
          have hz4 := f1.size
          have zz := z2.out
          obtain ⟨W6, e6, I6⟩ := hIv.out W5 L' (f1.trans (h5w.mono (fun k _ e => Or.inl e))) (Rl.wr f3 h5w (by omega)) (f4.move fun k hk hl => by
            have e0 := h5w.block k hl (fun e => by
              have e : k = W.heap.size := e
              rcases hk with hk | hk
              · exact (hZq.out k hk) e
              · have := hk.1
                omega)
            exact ⟨hk.elim Or.inl (fun z => Or.inr ⟨z.1, nfof e0 z.2⟩), e0⟩)
          exact ⟨W6, e6, Or.inl ⟨q1, rfl, by rw [q2]; exact I6⟩⟩
        clear hIv hEr hk0 hl0 hb0 f1 f2 f3 f4 hZq hn
        gi_wp2
        refine ⟨trivial, ?_⟩
        refine (hl4.inRound _).mono ?_
        clear hl4
        rintro e W5 ⟨rfl, D5⟩
        gi_wp2
        refine ⟨trivial, ?_⟩
        refine ((callsIn_wide.2 (need_ok 1504 _)).inRound _).mono ?_
        rintro e W6 ⟨rfl, rfl⟩
        gi_wp2
        obtain ⟨W7, e7, r7⟩ := hfin.out _ D5.out.1
        exact ⟨_, _, e7, r7⟩
      · have q1 := hl0 rfl h5
        obtain ⟨M, hM⟩ : ∃ M : Int, M = ((s.extract bg (bg + sz)).size : Int) - a5 := ⟨_, rfl⟩
        rw [← hM] at hl4
        have h6 : (M == 0) = false := beq_false (by omega)
        have hfin : Hid (∀ W5, Wr (fun k => k = W.heap.size) W4 W5 → RdP s w (w.heap.size + 1) (w.heap.size + 2) W2.heap.size (W2.heap.size + 1) rc R0 (thr 1504) W5) := fun W5 h5w => Or.inr ⟨by rw [q1]; decide, by rw [q1], hEr.out W5 (f1.trans (h5w.mono (fun k _ e => Or.inl e)))⟩
        clear hIv hEr hk0 hl0 hb0 f1 f2 f3 f4 hZq hM h5
        gi_wp2
        refine ⟨trivial, ?_⟩
        refine (hl4.inRound _).mono ?_
        clear hl4
        rintro e W5 ⟨rfl, D5⟩
        gi_wp2
        refine ⟨trivial, ?_⟩
        refine ((callsIn_wide.2 (need_bad 1504 _)).inRound _).mono ?_
        rintro e W6 ⟨rfl, rfl⟩
        exact ⟨rfl, hfin.out _ D5.out.1⟩
    · replace hc4 : ¬ cd5 = 0 := hc4
      have q1 : R0.2.code = cd5 := hb0 hc4
      exact ⟨rfl, Or.inr ⟨by rw [q1]; exact hc4, by rw [q1], hEr.out _ f1⟩⟩
  have hI : Iv s w (w.heap.size + 1) (w.heap.size + 2) W2.heap.size (W2.heap.size + 1) rc (mdZ (-1)) ((W2.alloc (.deferred (some []))).alloc (.loop rc)) := by
    have LL : Later W2 ((W2.alloc (.deferred (some []))).alloc (.loop rc)) := ((Lz _).put).put
    have k1 := World.alloc_heap_new (W2.alloc (.deferred (some []))) (.loop rc)
    rw [World.size_alloc] at k1
    refine ⟨Wr.of_later (L2.trans LL), ⟨LL.cell_of cg, P0.later LL⟩, (Below.heap_alloc _ _ _ (by simp)).trans (World.alloc_heap_new W2 _), k1, fun _ => False, _, fun k hk => hk.elim, P1.later LL, ModC.zero _ _ (-1)⟩
  refine ((callsIn_wide (n := 9)).1 (sections_it hs h8 9 9 (mdZ (-1)) hY hI)).mono ?_
  clear hY hI
  generalize unL s s.size 8 0 (mdZ (-1)) = r at *
  rintro e W5 (⟨v, mf, rfl, ⟨w5, ⟨g5, q5⟩, d5, l5, Z5, L5, hz5, R5, C5⟩, hr⟩ | ⟨c, hc, rfl, hr, w5, d5⟩)
  · have he := run_endLoop (P := Try.prog) l5 (by rw [hrc]; simp)
    rw [show rc.pending = none by rw [hrc]] at he
    refine Or.inl ⟨v, _, rfl, he, ?_⟩
    clear he
    have hlW : W2.heap.size + 1 < W5.heap.size := (Array.getElem?_eq_some_iff.1 l5).1
    clear hrc eg
    generalize ({ state := LoopState.exhausted, pending := none, fn := rc.fn, tmps := rc.tmps, params := rc.params, assign := rc.assign, body := rc.body, defers := rc.defers } : Loop) = rx
    have w6 := wr_put (o := .loop rx) w5 (k := W2.heap.size + 1) (by show w.heap.size ≤ _; omega)
    have q6 : Rl (W5.putObj (W2.heap.size + 1) (.loop rx)) w.heap.size 34 [.slice none 0 0, .slice none 0 0, .slice none 0 0, .slice none 0 0, .slice none 0 0, .slice none 0 0, .slice none 0 0, .int .i64 0, .slice none 0 0, .slice none 0 0, .slice none 0 0] := World.rowIs.of_block q5 (World.putObj_heap_other (by omega))
    have d6 : (W5.putObj (W2.heap.size + 1) (.loop rx)).heap[W2.heap.size]? = some (.deferred (some [])) := (World.putObj_heap_other (by omega)).trans d5
    have R6 : Rl (W5.putObj (W2.heap.size + 1) (.loop rx)) (w.heap.size + 1) 34 L5 := World.rowIs.of_block R5 (World.putObj_heap_other (by omega))
    have C6 : ModC (fun k => W2.heap.size + 1 < k ∧ Nf (W5.putObj (W2.heap.size + 1) (.loop rx)) k) (W5.putObj (W2.heap.size + 1) (.loop rx)) mf L5 := C5.move fun k hk hl => by
      have e : (W5.putObj (W2.heap.size + 1) (.loop rx)).heap[k]? = W5.heap[k]? := World.putObj_heap_other (by have := (hz5 k hk).1; omega)
      exact ⟨⟨(hz5 k hk).1, nfof e (hz5 k hk).2.2⟩, e⟩
    have z6 : (W5.putObj (W2.heap.size + 1) (.loop rx)).heap.size = W5.heap.size := by simp
    generalize W5.putObj (W2.heap.size + 1) (.loop rx) = W6 at *
    clear w5 g5 q5 d5 l5 hz5 R5 C5 L2 P0 P1 cg
    have C7 := C6
    obtain ⟨v0, v1, v2, v3, v4, v5, v6, v8, v9, v10, e, ⟨A0, c0, rfl, y0⟩, ⟨A1, c1, rfl, y1⟩, ⟨A2, c2, rfl, y2⟩, ⟨A3, c3, rfl, y3⟩, ⟨A4, c4, rfl, y4⟩, ⟨A5, c5, rfl, y5⟩, ⟨A6, c6, rfl, y6⟩, ⟨A8, c8, rfl, y8⟩, ⟨A9, c9, rfl, y9⟩, ⟨A10, c10, rfl, y10⟩⟩ := C6
    subst e
    have k0' : W6.cell? ⟨w.heap.size + 1, 0, none⟩ = some (.slice A0 mf.ty.length c0) := R6.cell 0 rfl
    have p0' : W6.cell? ⟨w.heap.size, 0, none⟩ = some (.slice none 0 0) := q6.cell 0 rfl
    have f0' := Rl.frozen q6 0
    have k1' : W6.cell? ⟨w.heap.size + 1, 1, none⟩ = some (.slice A1 mf.im.length c1) := R6.cell 1 rfl
    have p1' : W6.cell? ⟨w.heap.size, 1, none⟩ = some (.slice none 0 0) := q6.cell 1 rfl
    have f1' := Rl.frozen q6 1
    have k2' : W6.cell? ⟨w.heap.size + 1, 2, none⟩ = some (.slice A2 mf.fu.length c2) := R6.cell 2 rfl
    have p2' : W6.cell? ⟨w.heap.size, 2, none⟩ = some (.slice none 0 0) := q6.cell 2 rfl
    have f2' := Rl.frozen q6 2
    have k3' : W6.cell? ⟨w.heap.size + 1, 3, none⟩ = some (.slice A3 mf.ta.length c3) := R6.cell 3 rfl
    have p3' : W6.cell? ⟨w.heap.size, 3, none⟩ = some (.slice none 0 0) := q6.cell 3 rfl
    have f3' := Rl.frozen q6 3
    have k4' : W6.cell? ⟨w.heap.size + 1, 4, none⟩ = some (.slice A4 mf.me.length c4) := R6.cell 4 rfl
    have p4' : W6.cell? ⟨w.heap.size, 4, none⟩ = some (.slice none 0 0) := q6.cell 4 rfl
    have f4' := Rl.frozen q6 4
    have k5' : W6.cell? ⟨w.heap.size + 1, 5, none⟩ = some (.slice A5 mf.gl.length c5) := R6.cell 5 rfl
    have p5' : W6.cell? ⟨w.heap.size, 5, none⟩ = some (.slice none 0 0) := q6.cell 5 rfl
    have f5' := Rl.frozen q6 5
    have k6' : W6.cell? ⟨w.heap.size + 1, 6, none⟩ = some (.slice A6 mf.ex.length c6) := R6.cell 6 rfl
    have p6' : W6.cell? ⟨w.heap.size, 6, none⟩ = some (.slice none 0 0) := q6.cell 6 rfl
    have f6' := Rl.frozen q6 6
    have k7' : W6.cell? ⟨w.heap.size + 1, 7, none⟩ = some (.int .i64 mf.st) := R6.cell 7 rfl
    have p7' : W6.cell? ⟨w.heap.size, 7, none⟩ = some (.int .i64 0) := q6.cell 7 rfl
    have f7' := Rl.frozen q6 7
    have k8' : W6.cell? ⟨w.heap.size + 1, 8, none⟩ = some (.slice A8 mf.el.length c8) := R6.cell 8 rfl
    have p8' : W6.cell? ⟨w.heap.size, 8, none⟩ = some (.slice none 0 0) := q6.cell 8 rfl
    have f8' := Rl.frozen q6 8
    have k9' : W6.cell? ⟨w.heap.size + 1, 9, none⟩ = some (.slice A9 mf.co.length c9) := R6.cell 9 rfl
    have p9' : W6.cell? ⟨w.heap.size, 9, none⟩ = some (.slice none 0 0) := q6.cell 9 rfl
    have f9' := Rl.frozen q6 9
    have k10' : W6.cell? ⟨w.heap.size + 1, 10, none⟩ = some (.slice A10 mf.da.length c10) := R6.cell 10 rfl
    have p10' : W6.cell? ⟨w.heap.size, 10, none⟩ = some (.slice none 0 0) := q6.cell 10 rfl
    have f10' := Rl.frozen q6 10
    have hlp := cell_lt k0'
    have hlq := cell_lt p0'
    refine wpG_of (n := 9) hT ?_
    by_cases hcnt : mf.fu.length = mf.co.length
    · rw [if_pos hcnt] at hr
      have hfin : Hid (∀ W7, Wr (fun k => k = w.heap.size) W6 W7 → W7.heap[W2.heap.size]? = some (.deferred (some [])) ∧ ModP w r (.returned (.agg #[.slice A0 mf.ty.length c0, .slice A1 mf.im.length c1, .slice A2 mf.fu.length c2, .slice A3 mf.ta.length c3, .slice A4 mf.me.length c4, .slice A5 mf.gl.length c5, .slice A6 mf.ex.length c6, .int .i64 mf.st, .slice A8 mf.el.length c8, .slice A9 mf.co.length c9, .slice A10 mf.da.length c10])) (W7.putObj W2.heap.size (.deferred none))) := fun W7 h7 => by
        refine ⟨(h7.block _ (by omega) (by omega)).trans d6, Or.inl ⟨by rw [hr], [.slice A0 mf.ty.length c0, .slice A1 mf.im.length c1, .slice A2 mf.fu.length c2, .slice A3 mf.ta.length c3, .slice A4 mf.me.length c4, .slice A5 mf.gl.length c5, .slice A6 mf.ex.length c6, .int .i64 mf.st, .slice A8 mf.el.length c8, .slice A9 mf.co.length c9, .slice A10 mf.da.length c10], rfl, ?_, (wr_put (w6.trans (h7.mono (fun k _ e => by have e : k = w.heap.size := e; show w.heap.size ≤ k; omega))) (by show w.heap.size ≤ _; omega)).later (fun k hk => hk)⟩⟩
        rw [hr]
        exact C7.move fun k hk hl => by
          have hk1 : W2.heap.size + 1 < k := hk.1
          have e1 := h7.block k hl (by show ¬ k = w.heap.size; omega)
          exact zfof (B := W2.heap.size + 1) ⟨Nat.le_of_lt hk1, hk.2⟩ (by show w.heap.size ≤ k; omega) ((World.putObj_heap_other (by omega)).trans e1)
      have hn : Hid (∀ W, CallsIn Fence.wide 8 Try.prog 24 #[.bool true, .int .i64 1505] W fun e w' => e = .returned (.tuple #[]) ∧ w' = W) := fun W => callsIn_wide.2 (need_ok 1505 W)
      have hz7 : W2.heap.size ≠ w.heap.size := by omega
      rw [hcnt] at k2'
      rw [hcnt] at hfin
      clear hT C7 hr y0 y1 y2 y3 y4 y5 y6 y8 y9 y10 R6 q6 w6 z6 z2 hlW hs h8
      gi_wp2
      refine ⟨trivial, ?_⟩
      refine (hn.out _).mono ?_
      rintro e W7 ⟨rfl, rfl⟩
      gi_wp2
      have hW : Wr (fun k => k = w.heap.size) W7 (((((((((((W7.setCell ⟨w.heap.size, 0, none⟩ (.slice A0 mf.ty.length c0)).setCell ⟨w.heap.size, 1, none⟩ (.slice A1 mf.im.length c1)).setCell ⟨w.heap.size, 2, none⟩ (.slice A2 mf.co.length c2)).setCell ⟨w.heap.size, 3, none⟩ (.slice A3 mf.ta.length c3)).setCell ⟨w.heap.size, 4, none⟩ (.slice A4 mf.me.length c4)).setCell ⟨w.heap.size, 5, none⟩ (.slice A5 mf.gl.length c5)).setCell ⟨w.heap.size, 6, none⟩ (.slice A6 mf.ex.length c6)).setCell ⟨w.heap.size, 7, none⟩ (.int .i64 mf.st)).setCell ⟨w.heap.size, 8, none⟩ (.slice A8 mf.el.length c8)).setCell ⟨w.heap.size, 9, none⟩ (.slice A9 mf.co.length c9)).setCell ⟨w.heap.size, 10, none⟩ (.slice A10 mf.da.length c10)) := (((((((((((Wr.refl (fun k => k = w.heap.size) W7).set 0 _ (Or.inl rfl)).set 1 _ (Or.inl rfl)).set 2 _ (Or.inl rfl)).set 3 _ (Or.inl rfl)).set 4 _ (Or.inl rfl)).set 5 _ (Or.inl rfl)).set 6 _ (Or.inl rfl)).set 7 _ (Or.inl rfl)).set 8 _ (Or.inl rfl)).set 9 _ (Or.inl rfl)).set 10 _ (Or.inl rfl)
      obtain ⟨d7, m7⟩ := hfin.out _ hW
      have r0' : (((((((((((W7.setCell ⟨w.heap.size, 0, none⟩ (.slice A0 mf.ty.length c0)).setCell ⟨w.heap.size, 1, none⟩ (.slice A1 mf.im.length c1)).setCell ⟨w.heap.size, 2, none⟩ (.slice A2 mf.co.length c2)).setCell ⟨w.heap.size, 3, none⟩ (.slice A3 mf.ta.length c3)).setCell ⟨w.heap.size, 4, none⟩ (.slice A4 mf.me.length c4)).setCell ⟨w.heap.size, 5, none⟩ (.slice A5 mf.gl.length c5)).setCell ⟨w.heap.size, 6, none⟩ (.slice A6 mf.ex.length c6)).setCell ⟨w.heap.size, 7, none⟩ (.int .i64 mf.st)).setCell ⟨w.heap.size, 8, none⟩ (.slice A8 mf.el.length c8)).setCell ⟨w.heap.size, 9, none⟩ (.slice A9 mf.co.length c9)).setCell ⟨w.heap.size, 10, none⟩ (.slice A10 mf.da.length c10)).cell? ⟨w.heap.size, 0, none⟩ = some (.slice A0 mf.ty.length c0) := by simp [go_sem, p0', p1', p2', p3', p4', p5', p6', p7', p8', p9', p10', hlq]
      have r1' : (((((((((((W7.setCell ⟨w.heap.size, 0, none⟩ (.slice A0 mf.ty.length c0)).setCell ⟨w.heap.size, 1, none⟩ (.slice A1 mf.im.length c1)).setCell ⟨w.heap.size, 2, none⟩ (.slice A2 mf.co.length c2)).setCell ⟨w.heap.size, 3, none⟩ (.slice A3 mf.ta.length c3)).setCell ⟨w.heap.size, 4, none⟩ (.slice A4 mf.me.length c4)).setCell ⟨w.heap.size, 5, none⟩ (.slice A5 mf.gl.length c5)).setCell ⟨w.heap.size, 6, none⟩ (.slice A6 mf.ex.length c6)).setCell ⟨w.heap.size, 7, none⟩ (.int .i64 mf.st)).setCell ⟨w.heap.size, 8, none⟩ (.slice A8 mf.el.length c8)).setCell ⟨w.heap.size, 9, none⟩ (.slice A9 mf.co.length c9)).setCell ⟨w.heap.size, 10, none⟩ (.slice A10 mf.da.length c10)).cell? ⟨w.heap.size, 1, none⟩ = some (.slice A1 mf.im.length c1) := by simp [go_sem, p0', p1', p2', p3', p4', p5', p6', p7', p8', p9', p10', hlq]
      have r2' : (((((((((((W7.setCell ⟨w.heap.size, 0, none⟩ (.slice A0 mf.ty.length c0)).setCell ⟨w.heap.size, 1, none⟩ (.slice A1 mf.im.length c1)).setCell ⟨w.heap.size, 2, none⟩ (.slice A2 mf.co.length c2)).setCell ⟨w.heap.size, 3, none⟩ (.slice A3 mf.ta.length c3)).setCell ⟨w.heap.size, 4, none⟩ (.slice A4 mf.me.length c4)).setCell ⟨w.heap.size, 5, none⟩ (.slice A5 mf.gl.length c5)).setCell ⟨w.heap.size, 6, none⟩ (.slice A6 mf.ex.length c6)).setCell ⟨w.heap.size, 7, none⟩ (.int .i64 mf.st)).setCell ⟨w.heap.size, 8, none⟩ (.slice A8 mf.el.length c8)).setCell ⟨w.heap.size, 9, none⟩ (.slice A9 mf.co.length c9)).setCell ⟨w.heap.size, 10, none⟩ (.slice A10 mf.da.length c10)).cell? ⟨w.heap.size, 2, none⟩ = some (.slice A2 mf.co.length c2) := by simp [go_sem, p0', p1', p2', p3', p4', p5', p6', p7', p8', p9', p10', hlq]
      have r3' : (((((((((((W7.setCell ⟨w.heap.size, 0, none⟩ (.slice A0 mf.ty.length c0)).setCell ⟨w.heap.size, 1, none⟩ (.slice A1 mf.im.length c1)).setCell ⟨w.heap.size, 2, none⟩ (.slice A2 mf.co.length c2)).setCell ⟨w.heap.size, 3, none⟩ (.slice A3 mf.ta.length c3)).setCell ⟨w.heap.size, 4, none⟩ (.slice A4 mf.me.length c4)).setCell ⟨w.heap.size, 5, none⟩ (.slice A5 mf.gl.length c5)).setCell ⟨w.heap.size, 6, none⟩ (.slice A6 mf.ex.length c6)).setCell ⟨w.heap.size, 7, none⟩ (.int .i64 mf.st)).setCell ⟨w.heap.size, 8, none⟩ (.slice A8 mf.el.length c8)).setCell ⟨w.heap.size, 9, none⟩ (.slice A9 mf.co.length c9)).setCell ⟨w.heap.size, 10, none⟩ (.slice A10 mf.da.length c10)).cell? ⟨w.heap.size, 3, none⟩ = some (.slice A3 mf.ta.length c3) := by simp [go_sem, p0', p1', p2', p3', p4', p5', p6', p7', p8', p9', p10', hlq]
      have r4' : (((((((((((W7.setCell ⟨w.heap.size, 0, none⟩ (.slice A0 mf.ty.length c0)).setCell ⟨w.heap.size, 1, none⟩ (.slice A1 mf.im.length c1)).setCell ⟨w.heap.size, 2, none⟩ (.slice A2 mf.co.length c2)).setCell ⟨w.heap.size, 3, none⟩ (.slice A3 mf.ta.length c3)).setCell ⟨w.heap.size, 4, none⟩ (.slice A4 mf.me.length c4)).setCell ⟨w.heap.size, 5, none⟩ (.slice A5 mf.gl.length c5)).setCell ⟨w.heap.size, 6, none⟩ (.slice A6 mf.ex.length c6)).setCell ⟨w.heap.size, 7, none⟩ (.int .i64 mf.st)).setCell ⟨w.heap.size, 8, none⟩ (.slice A8 mf.el.length c8)).setCell ⟨w.heap.size, 9, none⟩ (.slice A9 mf.co.length c9)).setCell ⟨w.heap.size, 10, none⟩ (.slice A10 mf.da.length c10)).cell? ⟨w.heap.size, 4, none⟩ = some (.slice A4 mf.me.length c4) := by simp [go_sem, p0', p1', p2', p3', p4', p5', p6', p7', p8', p9', p10', hlq]
      have r5' : (((((((((((W7.setCell ⟨w.heap.size, 0, none⟩ (.slice A0 mf.ty.length c0)).setCell ⟨w.heap.size, 1, none⟩ (.slice A1 mf.im.length c1)).setCell ⟨w.heap.size, 2, none⟩ (.slice A2 mf.co.length c2)).setCell ⟨w.heap.size, 3, none⟩ (.slice A3 mf.ta.length c3)).setCell ⟨w.heap.size, 4, none⟩ (.slice A4 mf.me.length c4)).setCell ⟨w.heap.size, 5, none⟩ (.slice A5 mf.gl.length c5)).setCell ⟨w.heap.size, 6, none⟩ (.slice A6 mf.ex.length c6)).setCell ⟨w.heap.size, 7, none⟩ (.int .i64 mf.st)).setCell ⟨w.heap.size, 8, none⟩ (.slice A8 mf.el.length c8)).setCell ⟨w.heap.size, 9, none⟩ (.slice A9 mf.co.length c9)).setCell ⟨w.heap.size, 10, none⟩ (.slice A10 mf.da.length c10)).cell? ⟨w.heap.size, 5, none⟩ = some (.slice A5 mf.gl.length c5) := by simp [go_sem, p0', p1', p2', p3', p4', p5', p6', p7', p8', p9', p10', hlq]
      have r6' : (((((((((((W7.setCell ⟨w.heap.size, 0, none⟩ (.slice A0 mf.ty.length c0)).setCell ⟨w.heap.size, 1, none⟩ (.slice A1 mf.im.length c1)).setCell ⟨w.heap.size, 2, none⟩ (.slice A2 mf.co.length c2)).setCell ⟨w.heap.size, 3, none⟩ (.slice A3 mf.ta.length c3)).setCell ⟨w.heap.size, 4, none⟩ (.slice A4 mf.me.length c4)).setCell ⟨w.heap.size, 5, none⟩ (.slice A5 mf.gl.length c5)).setCell ⟨w.heap.size, 6, none⟩ (.slice A6 mf.ex.length c6)).setCell ⟨w.heap.size, 7, none⟩ (.int .i64 mf.st)).setCell ⟨w.heap.size, 8, none⟩ (.slice A8 mf.el.length c8)).setCell ⟨w.heap.size, 9, none⟩ (.slice A9 mf.co.length c9)).setCell ⟨w.heap.size, 10, none⟩ (.slice A10 mf.da.length c10)).cell? ⟨w.heap.size, 6, none⟩ = some (.slice A6 mf.ex.length c6) := by simp [go_sem, p0', p1', p2', p3', p4', p5', p6', p7', p8', p9', p10', hlq]
      have r7' : (((((((((((W7.setCell ⟨w.heap.size, 0, none⟩ (.slice A0 mf.ty.length c0)).setCell ⟨w.heap.size, 1, none⟩ (.slice A1 mf.im.length c1)).setCell ⟨w.heap.size, 2, none⟩ (.slice A2 mf.co.length c2)).setCell ⟨w.heap.size, 3, none⟩ (.slice A3 mf.ta.length c3)).setCell ⟨w.heap.size, 4, none⟩ (.slice A4 mf.me.length c4)).setCell ⟨w.heap.size, 5, none⟩ (.slice A5 mf.gl.length c5)).setCell ⟨w.heap.size, 6, none⟩ (.slice A6 mf.ex.length c6)).setCell ⟨w.heap.size, 7, none⟩ (.int .i64 mf.st)).setCell ⟨w.heap.size, 8, none⟩ (.slice A8 mf.el.length c8)).setCell ⟨w.heap.size, 9, none⟩ (.slice A9 mf.co.length c9)).setCell ⟨w.heap.size, 10, none⟩ (.slice A10 mf.da.length c10)).cell? ⟨w.heap.size, 7, none⟩ = some (.int .i64 mf.st) := by simp [go_sem, p0', p1', p2', p3', p4', p5', p6', p7', p8', p9', p10', hlq]
      have r8' : (((((((((((W7.setCell ⟨w.heap.size, 0, none⟩ (.slice A0 mf.ty.length c0)).setCell ⟨w.heap.size, 1, none⟩ (.slice A1 mf.im.length c1)).setCell ⟨w.heap.size, 2, none⟩ (.slice A2 mf.co.length c2)).setCell ⟨w.heap.size, 3, none⟩ (.slice A3 mf.ta.length c3)).setCell ⟨w.heap.size, 4, none⟩ (.slice A4 mf.me.length c4)).setCell ⟨w.heap.size, 5, none⟩ (.slice A5 mf.gl.length c5)).setCell ⟨w.heap.size, 6, none⟩ (.slice A6 mf.ex.length c6)).setCell ⟨w.heap.size, 7, none⟩ (.int .i64 mf.st)).setCell ⟨w.heap.size, 8, none⟩ (.slice A8 mf.el.length c8)).setCell ⟨w.heap.size, 9, none⟩ (.slice A9 mf.co.length c9)).setCell ⟨w.heap.size, 10, none⟩ (.slice A10 mf.da.length c10)).cell? ⟨w.heap.size, 8, none⟩ = some (.slice A8 mf.el.length c8) := by simp [go_sem, p0', p1', p2', p3', p4', p5', p6', p7', p8', p9', p10', hlq]
      have r9' : (((((((((((W7.setCell ⟨w.heap.size, 0, none⟩ (.slice A0 mf.ty.length c0)).setCell ⟨w.heap.size, 1, none⟩ (.slice A1 mf.im.length c1)).setCell ⟨w.heap.size, 2, none⟩ (.slice A2 mf.co.length c2)).setCell ⟨w.heap.size, 3, none⟩ (.slice A3 mf.ta.length c3)).setCell ⟨w.heap.size, 4, none⟩ (.slice A4 mf.me.length c4)).setCell ⟨w.heap.size, 5, none⟩ (.slice A5 mf.gl.length c5)).setCell ⟨w.heap.size, 6, none⟩ (.slice A6 mf.ex.length c6)).setCell ⟨w.heap.size, 7, none⟩ (.int .i64 mf.st)).setCell ⟨w.heap.size, 8, none⟩ (.slice A8 mf.el.length c8)).setCell ⟨w.heap.size, 9, none⟩ (.slice A9 mf.co.length c9)).setCell ⟨w.heap.size, 10, none⟩ (.slice A10 mf.da.length c10)).cell? ⟨w.heap.size, 9, none⟩ = some (.slice A9 mf.co.length c9) := by simp [go_sem, p0', p1', p2', p3', p4', p5', p6', p7', p8', p9', p10', hlq]
      have r10' : (((((((((((W7.setCell ⟨w.heap.size, 0, none⟩ (.slice A0 mf.ty.length c0)).setCell ⟨w.heap.size, 1, none⟩ (.slice A1 mf.im.length c1)).setCell ⟨w.heap.size, 2, none⟩ (.slice A2 mf.co.length c2)).setCell ⟨w.heap.size, 3, none⟩ (.slice A3 mf.ta.length c3)).setCell ⟨w.heap.size, 4, none⟩ (.slice A4 mf.me.length c4)).setCell ⟨w.heap.size, 5, none⟩ (.slice A5 mf.gl.length c5)).setCell ⟨w.heap.size, 6, none⟩ (.slice A6 mf.ex.length c6)).setCell ⟨w.heap.size, 7, none⟩ (.int .i64 mf.st)).setCell ⟨w.heap.size, 8, none⟩ (.slice A8 mf.el.length c8)).setCell ⟨w.heap.size, 9, none⟩ (.slice A9 mf.co.length c9)).setCell ⟨w.heap.size, 10, none⟩ (.slice A10 mf.da.length c10)).cell? ⟨w.heap.size, 10, none⟩ = some (.slice A10 mf.da.length c10) := by simp [go_sem, p0', p1', p2', p3', p4', p5', p6', p7', p8', p9', p10', hlq]
      generalize (((((((((((W7.setCell ⟨w.heap.size, 0, none⟩ (.slice A0 mf.ty.length c0)).setCell ⟨w.heap.size, 1, none⟩ (.slice A1 mf.im.length c1)).setCell ⟨w.heap.size, 2, none⟩ (.slice A2 mf.co.length c2)).setCell ⟨w.heap.size, 3, none⟩ (.slice A3 mf.ta.length c3)).setCell ⟨w.heap.size, 4, none⟩ (.slice A4 mf.me.length c4)).setCell ⟨w.heap.size, 5, none⟩ (.slice A5 mf.gl.length c5)).setCell ⟨w.heap.size, 6, none⟩ (.slice A6 mf.ex.length c6)).setCell ⟨w.heap.size, 7, none⟩ (.int .i64 mf.st)).setCell ⟨w.heap.size, 8, none⟩ (.slice A8 mf.el.length c8)).setCell ⟨w.heap.size, 9, none⟩ (.slice A9 mf.co.length c9)).setCell ⟨w.heap.size, 10, none⟩ (.slice A10 mf.da.length c10)) = W8 at *
      refine ⟨by simp, .inl ⟨_, _, rfl, run_takeDeferred d7, ?_⟩⟩
      have s0' : (W8.putObj W2.heap.size (.deferred none)).cell? ⟨w.heap.size, 0, none⟩ = some (.slice A0 mf.ty.length c0) := (cell_put (fun e => hz7 e.symm)).trans r0'
      have s1' : (W8.putObj W2.heap.size (.deferred none)).cell? ⟨w.heap.size, 1, none⟩ = some (.slice A1 mf.im.length c1) := (cell_put (fun e => hz7 e.symm)).trans r1'
      have s2' : (W8.putObj W2.heap.size (.deferred none)).cell? ⟨w.heap.size, 2, none⟩ = some (.slice A2 mf.co.length c2) := (cell_put (fun e => hz7 e.symm)).trans r2'
      have s3' : (W8.putObj W2.heap.size (.deferred none)).cell? ⟨w.heap.size, 3, none⟩ = some (.slice A3 mf.ta.length c3) := (cell_put (fun e => hz7 e.symm)).trans r3'
      have s4' : (W8.putObj W2.heap.size (.deferred none)).cell? ⟨w.heap.size, 4, none⟩ = some (.slice A4 mf.me.length c4) := (cell_put (fun e => hz7 e.symm)).trans r4'
      have s5' : (W8.putObj W2.heap.size (.deferred none)).cell? ⟨w.heap.size, 5, none⟩ = some (.slice A5 mf.gl.length c5) := (cell_put (fun e => hz7 e.symm)).trans r5'
      have s6' : (W8.putObj W2.heap.size (.deferred none)).cell? ⟨w.heap.size, 6, none⟩ = some (.slice A6 mf.ex.length c6) := (cell_put (fun e => hz7 e.symm)).trans r6'
      have s7' : (W8.putObj W2.heap.size (.deferred none)).cell? ⟨w.heap.size, 7, none⟩ = some (.int .i64 mf.st) := (cell_put (fun e => hz7 e.symm)).trans r7'
      have s8' : (W8.putObj W2.heap.size (.deferred none)).cell? ⟨w.heap.size, 8, none⟩ = some (.slice A8 mf.el.length c8) := (cell_put (fun e => hz7 e.symm)).trans r8'
      have s9' : (W8.putObj W2.heap.size (.deferred none)).cell? ⟨w.heap.size, 9, none⟩ = some (.slice A9 mf.co.length c9) := (cell_put (fun e => hz7 e.symm)).trans r9'
      have s10' : (W8.putObj W2.heap.size (.deferred none)).cell? ⟨w.heap.size, 10, none⟩ = some (.slice A10 mf.da.length c10) := (cell_put (fun e => hz7 e.symm)).trans r10'
      generalize W8.putObj W2.heap.size (.deferred none) = W9 at *
      have hl9 := cell_lt s0'
      clear hfin hn hW d7 r0' r1' r2' r3' r4' r5' r6' r7' r8' r9' r10' p0' p1' p2' p3' p4' p5' p6' p7' p8' p9' p10' k0' k1' k2' k3' k4' k5' k6' k7' k8' k9' k10' f0' f1' f2' f3' f4' f5' f6' f7' f8' f9' f10'
      exact ⟨_, by simp [results, Try.results20, go_sem, s0', s1', s2', s3', s4', s5', s6', s7', s8', s9', s10', hl9], m7⟩
    · rw [if_neg hcnt] at hr
      have hfin : Hid (ModP w r (thr 1505) (W6.putObj W2.heap.size (.deferred none))) := Or.inr ⟨1505, by decide, hr, rfl, (wr_put w6 (by show w.heap.size ≤ _; omega)).later (fun k hk => hk)⟩
      have hn : Hid (∀ W, CallsIn Fence.wide 8 Try.prog 24 #[.bool false, .int .i64 1505] W fun e w' => e = thr 1505 ∧ w' = W) := fun W => callsIn_wide.2 (need_bad 1505 W)
      have hc1 : (mf.fu.length == mf.co.length) = false := by simpa using hcnt
      have hc2 : ((mf.fu.length : Int) == (mf.co.length : Int)) = false := beq_false (by omega)
      clear hT C7 hr y0 y1 y2 y3 y4 y5 y6 y8 y9 y10 R6 q6 w6 z6 z2 hlW hs h8 hcnt
      gi_wp2
      refine ⟨trivial, ?_⟩
      refine (hn.out _).mono ?_
      rintro e W7 ⟨rfl, rfl⟩
      exact ⟨by simp, .inl ⟨_, _, rfl, run_takeDeferred d6, hfin.out⟩⟩
  · refine Or.inr ⟨_, rfl, ?_⟩
    refine ⟨by simp, .inl ⟨_, _, rfl, run_takeDeferred d5, ?_⟩⟩
    refine Or.inr ⟨c, hc, hr, rfl, ?_⟩
    exact (wr_put w5 (by show w.heap.size ≤ _; omega)).later (fun k hk => hk)
end Go.Proofs.Ytngciahmoenkiab
