/- package encode: what each section holds. -/
import Derived.Test.YtngciahmoenkiacBN
import Derived.Test.YtngciahmoenkiacBM
set_option linter.unusedVariables false
set_option linter.unusedSimpArgs false
set_option maxRecDepth 100000
set_option maxHeartbeats 4000000
namespace Go.Proofs.Ytngciahmoenkiac.en
open Go.RowKit
variable {B q mb : Nat} {P Z : Nat → Prop} {w w' w1 : World} {d b : List Int} {o o2 : Ob} {r : Value} {e : Ending} {m : Md}
/-- how great a module's parts may be -/
structure MdB (m : Md) : Prop where
  ty : m.ty.length ≤ 140737488351232 ∧ ∀ x ∈ m.ty, x.1.length ≤ 140737488351232 ∧ x.2.length ≤ 140737488351232
  im : m.im.length ≤ 140737488351232 ∧ ∀ x ∈ m.im, x.1.size < 9223372036854775000 ∧ x.2.1.size < 9223372036854775000
  fu : m.fu.length ≤ 140737488351232
  ta : m.ta.length ≤ 140737488351232
  me : m.me.length ≤ 140737488351232
  gl : m.gl.length ≤ 140737488351232 ∧ ∀ x ∈ m.gl, x.2.2.Ok ∧ x.2.2.len * 112 ≤ 140737488351232
  ex : m.ex.length ≤ 140737488351232 ∧ ∀ x ∈ m.ex, x.1.size < 9223372036854775000
  el : m.el.length ≤ 140737488351232 ∧ ∀ x ∈ m.el, x.1.Ok ∧ x.1.len * 112 ≤ 140737488351232 ∧ x.2.length ≤ 140737488351232
  co : m.co.length ≤ 140737488351232 ∧ ∀ x ∈ m.co, x.2.Ok ∧ x.2.len * 112 ≤ 140737488351232
  da : m.da.length ≤ 140737488351232 ∧ ∀ x ∈ m.da, x.1.Ok ∧ x.1.len * 112 ≤ 140737488351232 ∧ x.2.size ≤ 140737488351232
/-- a module in a block of its own -/
def Mo (Z : Nat → Prop) (w : World) (mb : Nat) (m : Md) : Prop := ∃ L, w.rowIs mb 33 11 (fun j => L.getD j undef) ∧ ModC Z w m L ∧ Z mb
theorem Mo.later {W : World} (h : Mo Z w mb m) (hl : Later w W) : Mo (fun k => Z k ∧ k < w.heap.size) W mb m := by
  obtain ⟨L, h1, h2, h3⟩ := h
  exact ⟨L, rowIs_later hl h1, h2.move fun k hk hl2 => ⟨⟨hk, hl2⟩, hl.block hl2⟩, h3, h1.lt⟩
theorem by_eC (x : Int) (h : 0 ≤ x ∧ x < 256) : By (eC x) := fun b hb => by obtain rfl := Option.some.inj hb; intro y hy; rw [List.mem_singleton.1 hy]; exact h
theorem by_eB (x : Bool) : By (eB x) := fun b hb => by obtain rfl := Option.some.inj hb; intro y hy; rw [List.mem_singleton.1 hy]; split <;> omega
theorem by_eKi (x : Int) : By (eKi x) := by
  unfold eKi
  split
  · rename_i h
    exact by_eC x (by omega)
  · intro b hb; cases hb
theorem by_str (s : ByteArray) : By (some (strL s)) := fun b hb => by obtain rfl := Option.some.inj hb; exact strL_byte s
theorem by_eT (s : ByteArray) : By (eT s) := by
  unfold eT
  split
  · exact by_str _
  · intro b hb; cases hb
theorem by_eLi (x : Int × Int) : By (eLi x) := by
  unfold eLi
  split
  · exact (by_eC 0 (by decide)).two (by_eN _)
  · exact (by_eC 1 (by decide)).two ((by_eN _).two (by_eN _))
theorem by_eTa (x : Int × Int) : By (eTa x) := (by_eC 112 (by decide)).two (by_eLi x)
theorem by_eK (x : Int) : By (eK x) := fun b hb => eK_byte x hb
theorem by_eTy (x : List Int × List Int) : By (eTy x) := (by_eC 96 (by decide)).two ((by_eL _ by_eK _).two (by_eL _ by_eK _))
theorem by_none : By none := fun b hb => by cases hb
theorem by_eIm (x : Imp) : By (eIm x) := by
  refine (by_eT _).two ((by_eT _).two ((by_eKi _).two ?_))
  unfold eD
  split
  · split
    · exact by_eN _
    · exact by_none
  · split
    · split
      · exact by_eTa _
      · exact by_none
    · split
      · split
        · exact by_eLi _
        · exact by_none
      · split
        · exact (by_eK _).two (by_eB _)
        · exact by_none
theorem by_eGl (x : Int × Bool × Fs) : By (eGl x) := (by_eK _).two ((by_eB _).two (by_eI _))
theorem by_eEx (x : ByteArray × Int × Int) : By (eEx x) := (by_eT _).two ((by_eKi _).two (by_eN _))
theorem by_eEl (x : Fs × List Int) : By (eEl x) := (by_eC 0 (by decide)).two ((by_eI _).two (by_eL _ by_eN _))
theorem by_eZ (o : Ob) (h : By o) : By (eZ o) := by
  cases o with
  | none => exact by_none
  | some x => exact (by_leb (x.length : Int)).two h
theorem by_eCo (x : List Int × Fs) : By (eCo x) := by_eZ _ ((by_eLo _).two (by_eI _))
theorem by_eDa (x : Fs × ByteArray) : By (eDa x) := (by_eC 0 (by decide)).two ((by_eI _).two ((by_leb _).two (by_str _)))
theorem el_ne {α : Type} {most : Nat} {g : α → Ob} {xs : List α} {b : List Int} (h : eL most g xs = some b) : b ≠ [] := by
  unfold eL at h
  split at h
  · obtain ⟨x, y, e1, _, rfl⟩ := oB_eq h
    obtain rfl := Option.some.inj e1
    exact fun hx => lebF_ne _ _ (List.append_eq_nil_iff.1 hx).1
  · cases h
theorem en_ne {x : Int} {b : List Int} (h : eN x = some b) : b ≠ [] := by
  unfold eN at h
  split at h
  · obtain rfl := Option.some.inj h
    exact lebF_ne _ _
  · cases h
theorem el_nil {α : Type} {most : Nat} {g : α → Ob} {xs : List α} (h : xs.length = 0) : Fit [] (eL most g xs) := by
  obtain rfl := List.length_eq_zero_iff.1 h
  exact ⟨lebL 0, by unfold eL; rw [if_pos (show ([] : List α).length ≤ most from Nat.zero_le _)]; rfl, by decide +kernel⟩
theorem fit_sec {id : Int} {n : Nat} (h0 : n = 0 → Fit [] o) (hf : ¬ Fit [] o) : ¬ Fit d (eS id n o) := by
  rintro ⟨b, hb, hl⟩
  cases o with
  | none => cases hb
  | some x =>
    by_cases hn : n = 0
    · exact hf (h0 hn)
    · have e : id :: (lebL (x.length : Int) ++ x) = b := by
        have : (if n = 0 then some [] else some (id :: (lebL (x.length : Int) ++ x))) = some b := hb
        rw [if_neg hn] at this
        exact Option.some.inj this
      refine hf ⟨x, rfl, ?_⟩
      rw [← e] at hl
      simp only [List.length_cons, List.length_append] at hl
      show 0 + x.length ≤ 65536
      omega
theorem es_two {id : Int} {n : Nat} (hn : ¬ n = 0) : eS id n (some b) = oB (eC id) (eZ (some b)) := by
  show (if n = 0 then some [] else some (id :: (lebL (b.length : Int) ++ b))) = _
  rw [if_neg hn]
  rfl
theorem c_types (hM : Mo Z w mb m) (hZ : ∀ k, Z k → k < w.heap.size → ¬ Sq B P q k) (hb : MdB m) (h : Ew B P q w d) :
    Calls Try.prog 14 #[.pointer (some ⟨q, 0, none⟩), .pointer (some ⟨mb, 0, none⟩)] w (Pt B P q w d (eL 256 eTy m.ty) (.int .i64 m.ty.length)) := by
  obtain ⟨L, hrow, hC, hz⟩ := hM
  obtain ⟨v0, v1, v2, v3, v4, v5, v6, v8, v9, v10, eL0, h0, h1, h2, h3, h4, h5, h6, h8, h9, h10⟩ := hC
  obtain ⟨A, c, rfl, hR⟩ := h0
  have hL : Hid (Calls Try.prog 27 #[.pointer (some ⟨q, 0, none⟩), .slice A m.ty.length c, .int .i64 256, .func (.func 28) #[.pointer (some ⟨q, 0, none⟩)] #[]] w (Pt B P q w d (eL 256 eTy m.ty) (.int .i64 m.ty.length))) := list_tys m.ty A c Z hR hZ hb.ty.1 hb.ty.2 h
  have k0 : w.cell? ⟨mb, 0, none⟩ = some (.slice A m.ty.length c) := by
    have := hrow.cell (i := 0) (by decide)
    rw [eL0] at this
    exact this
  have l0 := cell_lt k0
  clear hrow hR hZ hb h eL0 hz
  generalize eL 256 eTy m.ty = o at *
  generalize m.ty.length = n at *
  go_enter Try.func14, Try.ntmps14
  go_wp2_with (go_at_call 27; refine hL.out.mono ?_; rintro e w' ⟨V, (⟨b, hb, rfl, E⟩ | ⟨n, rfl⟩)⟩)
  · have hf : Hid (Pt B P q w d o (.int .i64 n) (.returned (.int .i64 n)) w') := ⟨V, Or.inl ⟨b, hb, rfl, E⟩⟩
    clear V hb E
    go_wp2_with fail
    go_ret
    exact hf.out
  · exact ⟨rfl, V, Or.inr ⟨n, rfl⟩⟩
theorem c_imports (hM : Mo Z w mb m) (hZ : ∀ k, Z k → k < w.heap.size → ¬ Sq B P q k) (hb : MdB m) (h : Ew B P q w d) :
    Calls Try.prog 15 #[.pointer (some ⟨q, 0, none⟩), .pointer (some ⟨mb, 0, none⟩)] w (Pt B P q w d (eL 1024 eIm m.im) (.int .i64 m.im.length)) := by
  obtain ⟨L, hrow, hC, hz⟩ := hM
  obtain ⟨v0, v1, v2, v3, v4, v5, v6, v8, v9, v10, eL0, h0, h1, h2, h3, h4, h5, h6, h8, h9, h10⟩ := hC
  obtain ⟨A, c, rfl, hR⟩ := h1
  have hL : Hid (Calls Try.prog 29 #[.pointer (some ⟨q, 0, none⟩), .slice A m.im.length c, .int .i64 1024, .func (.func 30) #[.pointer (some ⟨q, 0, none⟩)] #[]] w (Pt B P q w d (eL 1024 eIm m.im) (.int .i64 m.im.length))) := list_imps m.im A c Z hR hZ hb.im.1 hb.im.2 h
  have k0 : w.cell? ⟨mb, 1, none⟩ = some (.slice A m.im.length c) := by
    have := hrow.cell (i := 1) (by decide)
    rw [eL0] at this
    exact this
  have l0 := cell_lt k0
  clear hrow hR hZ hb h eL0 hz
  generalize eL 1024 eIm m.im = o at *
  generalize m.im.length = n at *
  go_enter Try.func15, Try.ntmps15
  go_wp2_with (go_at_call 29; refine hL.out.mono ?_; rintro e w' ⟨V, (⟨b, hb, rfl, E⟩ | ⟨n, rfl⟩)⟩)
  · have hf : Hid (Pt B P q w d o (.int .i64 n) (.returned (.int .i64 n)) w') := ⟨V, Or.inl ⟨b, hb, rfl, E⟩⟩
    clear V hb E
    go_wp2_with fail
    go_ret
    exact hf.out
  · exact ⟨rfl, V, Or.inr ⟨n, rfl⟩⟩
theorem c_funcs (hM : Mo Z w mb m) (hZ : ∀ k, Z k → k < w.heap.size → ¬ Sq B P q k) (hb : MdB m) (h : Ew B P q w d) :
    Calls Try.prog 16 #[.pointer (some ⟨q, 0, none⟩), .pointer (some ⟨mb, 0, none⟩)] w (Pt B P q w d (eL 256 eN m.fu) (.int .i64 m.fu.length)) := by
  obtain ⟨L, hrow, hC, hz⟩ := hM
  obtain ⟨v0, v1, v2, v3, v4, v5, v6, v8, v9, v10, eL0, h0, h1, h2, h3, h4, h5, h6, h8, h9, h10⟩ := hC
  obtain ⟨A, c, rfl, hR⟩ := h2
  have hL : Hid (Calls Try.prog 31 #[.pointer (some ⟨q, 0, none⟩), .slice A m.fu.length c, .int .i64 256, .func (.func 32) #[.pointer (some ⟨q, 0, none⟩)] #[]] w (Pt B P q w d (eL 256 eN m.fu) (.int .i64 m.fu.length))) := list_funcs m.fu A c Z hR hZ hb.fu h
  have k0 : w.cell? ⟨mb, 2, none⟩ = some (.slice A m.fu.length c) := by
    have := hrow.cell (i := 2) (by decide)
    rw [eL0] at this
    exact this
  have l0 := cell_lt k0
  clear hrow hR hZ hb h eL0 hz
  generalize eL 256 eN m.fu = o at *
  generalize m.fu.length = n at *
  go_enter Try.func16, Try.ntmps16
  go_wp2_with (go_at_call 31; refine hL.out.mono ?_; rintro e w' ⟨V, (⟨b, hb, rfl, E⟩ | ⟨n, rfl⟩)⟩)
  · have hf : Hid (Pt B P q w d o (.int .i64 n) (.returned (.int .i64 n)) w') := ⟨V, Or.inl ⟨b, hb, rfl, E⟩⟩
    clear V hb E
    go_wp2_with fail
    go_ret
    exact hf.out
  · exact ⟨rfl, V, Or.inr ⟨n, rfl⟩⟩
theorem c_tables (hM : Mo Z w mb m) (hZ : ∀ k, Z k → k < w.heap.size → ¬ Sq B P q k) (hb : MdB m) (h : Ew B P q w d) :
    Calls Try.prog 17 #[.pointer (some ⟨q, 0, none⟩), .pointer (some ⟨mb, 0, none⟩)] w (Pt B P q w d (eL 1024 eTa m.ta) (.int .i64 m.ta.length)) := by
  obtain ⟨L, hrow, hC, hz⟩ := hM
  obtain ⟨v0, v1, v2, v3, v4, v5, v6, v8, v9, v10, eL0, h0, h1, h2, h3, h4, h5, h6, h8, h9, h10⟩ := hC
  obtain ⟨A, c, rfl, hR⟩ := h3
  have hL : Hid (Calls Try.prog 33 #[.pointer (some ⟨q, 0, none⟩), .slice A m.ta.length c, .int .i64 1024, .func (.func 34) #[.pointer (some ⟨q, 0, none⟩)] #[]] w (Pt B P q w d (eL 1024 eTa m.ta) (.int .i64 m.ta.length))) := list_tabs m.ta A c Z hR hZ hb.ta h
  have k0 : w.cell? ⟨mb, 3, none⟩ = some (.slice A m.ta.length c) := by
    have := hrow.cell (i := 3) (by decide)
    rw [eL0] at this
    exact this
  have l0 := cell_lt k0
  clear hrow hR hZ hb h eL0 hz
  generalize eL 1024 eTa m.ta = o at *
  generalize m.ta.length = n at *
  go_enter Try.func17, Try.ntmps17
  go_wp2_with (go_at_call 33; refine hL.out.mono ?_; rintro e w' ⟨V, (⟨b, hb, rfl, E⟩ | ⟨n, rfl⟩)⟩)
  · have hf : Hid (Pt B P q w d o (.int .i64 n) (.returned (.int .i64 n)) w') := ⟨V, Or.inl ⟨b, hb, rfl, E⟩⟩
    clear V hb E
    go_wp2_with fail
    go_ret
    exact hf.out
  · exact ⟨rfl, V, Or.inr ⟨n, rfl⟩⟩
theorem c_mems (hM : Mo Z w mb m) (hZ : ∀ k, Z k → k < w.heap.size → ¬ Sq B P q k) (hb : MdB m) (h : Ew B P q w d) :
    Calls Try.prog 18 #[.pointer (some ⟨q, 0, none⟩), .pointer (some ⟨mb, 0, none⟩)] w (Pt B P q w d (eL 1024 eLi m.me) (.int .i64 m.me.length)) := by
  obtain ⟨L, hrow, hC, hz⟩ := hM
  obtain ⟨v0, v1, v2, v3, v4, v5, v6, v8, v9, v10, eL0, h0, h1, h2, h3, h4, h5, h6, h8, h9, h10⟩ := hC
  obtain ⟨A, c, rfl, hR⟩ := h4
  have hL : Hid (Calls Try.prog 33 #[.pointer (some ⟨q, 0, none⟩), .slice A m.me.length c, .int .i64 1024, .func (.func 35) #[.pointer (some ⟨q, 0, none⟩)] #[]] w (Pt B P q w d (eL 1024 eLi m.me) (.int .i64 m.me.length))) := list_mems m.me A c Z hR hZ hb.me h
  have k0 : w.cell? ⟨mb, 4, none⟩ = some (.slice A m.me.length c) := by
    have := hrow.cell (i := 4) (by decide)
    rw [eL0] at this
    exact this
  have l0 := cell_lt k0
  clear hrow hR hZ hb h eL0 hz
  generalize eL 1024 eLi m.me = o at *
  generalize m.me.length = n at *
  go_enter Try.func18, Try.ntmps18
  go_wp2_with (go_at_call 33; refine hL.out.mono ?_; rintro e w' ⟨V, (⟨b, hb, rfl, E⟩ | ⟨n, rfl⟩)⟩)
  · have hf : Hid (Pt B P q w d o (.int .i64 n) (.returned (.int .i64 n)) w') := ⟨V, Or.inl ⟨b, hb, rfl, E⟩⟩
    clear V hb E
    go_wp2_with fail
    go_ret
    exact hf.out
  · exact ⟨rfl, V, Or.inr ⟨n, rfl⟩⟩
theorem c_globals (hM : Mo Z w mb m) (hZ : ∀ k, Z k → k < w.heap.size → ¬ Sq B P q k) (hb : MdB m) (h : Ew B P q w d) :
    Calls Try.prog 19 #[.pointer (some ⟨q, 0, none⟩), .pointer (some ⟨mb, 0, none⟩)] w (Pt B P q w d (eL 1024 eGl m.gl) (.int .i64 m.gl.length)) := by
  obtain ⟨L, hrow, hC, hz⟩ := hM
  obtain ⟨v0, v1, v2, v3, v4, v5, v6, v8, v9, v10, eL0, h0, h1, h2, h3, h4, h5, h6, h8, h9, h10⟩ := hC
  obtain ⟨A, c, rfl, hR⟩ := h5
  have hL : Hid (Calls Try.prog 36 #[.pointer (some ⟨q, 0, none⟩), .slice A m.gl.length c, .int .i64 1024, .func (.func 37) #[.pointer (some ⟨q, 0, none⟩)] #[]] w (Pt B P q w d (eL 1024 eGl m.gl) (.int .i64 m.gl.length))) := list_glos m.gl A c Z hR hZ hb.gl.1 hb.gl.2 h
  have k0 : w.cell? ⟨mb, 5, none⟩ = some (.slice A m.gl.length c) := by
    have := hrow.cell (i := 5) (by decide)
    rw [eL0] at this
    exact this
  have l0 := cell_lt k0
  clear hrow hR hZ hb h eL0 hz
  generalize eL 1024 eGl m.gl = o at *
  generalize m.gl.length = n at *
  go_enter Try.func19, Try.ntmps19
  go_wp2_with (go_at_call 36; refine hL.out.mono ?_; rintro e w' ⟨V, (⟨b, hb, rfl, E⟩ | ⟨n, rfl⟩)⟩)
  · have hf : Hid (Pt B P q w d o (.int .i64 n) (.returned (.int .i64 n)) w') := ⟨V, Or.inl ⟨b, hb, rfl, E⟩⟩
    clear V hb E
    go_wp2_with fail
    go_ret
    exact hf.out
  · exact ⟨rfl, V, Or.inr ⟨n, rfl⟩⟩
theorem c_exports (hM : Mo Z w mb m) (hZ : ∀ k, Z k → k < w.heap.size → ¬ Sq B P q k) (hb : MdB m) (h : Ew B P q w d) :
    Calls Try.prog 20 #[.pointer (some ⟨q, 0, none⟩), .pointer (some ⟨mb, 0, none⟩)] w (Pt B P q w d (eL 1024 eEx m.ex) (.int .i64 m.ex.length)) := by
  obtain ⟨L, hrow, hC, hz⟩ := hM
  obtain ⟨v0, v1, v2, v3, v4, v5, v6, v8, v9, v10, eL0, h0, h1, h2, h3, h4, h5, h6, h8, h9, h10⟩ := hC
  obtain ⟨A, c, rfl, hR⟩ := h6
  have hL : Hid (Calls Try.prog 38 #[.pointer (some ⟨q, 0, none⟩), .slice A m.ex.length c, .int .i64 1024, .func (.func 39) #[.pointer (some ⟨q, 0, none⟩)] #[]] w (Pt B P q w d (eL 1024 eEx m.ex) (.int .i64 m.ex.length))) := list_exps m.ex A c Z hR hZ hb.ex.1 hb.ex.2 h
  have k0 : w.cell? ⟨mb, 6, none⟩ = some (.slice A m.ex.length c) := by
    have := hrow.cell (i := 6) (by decide)
    rw [eL0] at this
    exact this
  have l0 := cell_lt k0
  clear hrow hR hZ hb h eL0 hz
  generalize eL 1024 eEx m.ex = o at *
  generalize m.ex.length = n at *
  go_enter Try.func20, Try.ntmps20
  go_wp2_with (go_at_call 38; refine hL.out.mono ?_; rintro e w' ⟨V, (⟨b, hb, rfl, E⟩ | ⟨n, rfl⟩)⟩)
  · have hf : Hid (Pt B P q w d o (.int .i64 n) (.returned (.int .i64 n)) w') := ⟨V, Or.inl ⟨b, hb, rfl, E⟩⟩
    clear V hb E
    go_wp2_with fail
    go_ret
    exact hf.out
  · exact ⟨rfl, V, Or.inr ⟨n, rfl⟩⟩
theorem c_elems (hM : Mo Z w mb m) (hZ : ∀ k, Z k → k < w.heap.size → ¬ Sq B P q k) (hb : MdB m) (h : Ew B P q w d) :
    Calls Try.prog 22 #[.pointer (some ⟨q, 0, none⟩), .pointer (some ⟨mb, 0, none⟩)] w (Pt B P q w d (eL 1024 eEl m.el) (.int .i64 m.el.length)) := by
  obtain ⟨L, hrow, hC, hz⟩ := hM
  obtain ⟨v0, v1, v2, v3, v4, v5, v6, v8, v9, v10, eL0, h0, h1, h2, h3, h4, h5, h6, h8, h9, h10⟩ := hC
  obtain ⟨A, c, rfl, hR⟩ := h8
  have hL : Hid (Calls Try.prog 40 #[.pointer (some ⟨q, 0, none⟩), .slice A m.el.length c, .int .i64 1024, .func (.func 41) #[.pointer (some ⟨q, 0, none⟩)] #[]] w (Pt B P q w d (eL 1024 eEl m.el) (.int .i64 m.el.length))) := list_elms m.el A c Z hR hZ hb.el.1 hb.el.2 h
  have k0 : w.cell? ⟨mb, 8, none⟩ = some (.slice A m.el.length c) := by
    have := hrow.cell (i := 8) (by decide)
    rw [eL0] at this
    exact this
  have l0 := cell_lt k0
  clear hrow hR hZ hb h eL0 hz
  generalize eL 1024 eEl m.el = o at *
  generalize m.el.length = n at *
  go_enter Try.func22, Try.ntmps22
  go_wp2_with (go_at_call 40; refine hL.out.mono ?_; rintro e w' ⟨V, (⟨b, hb, rfl, E⟩ | ⟨n, rfl⟩)⟩)
  · have hf : Hid (Pt B P q w d o (.int .i64 n) (.returned (.int .i64 n)) w') := ⟨V, Or.inl ⟨b, hb, rfl, E⟩⟩
    clear V hb E
    go_wp2_with fail
    go_ret
    exact hf.out
  · exact ⟨rfl, V, Or.inr ⟨n, rfl⟩⟩
theorem c_codes (hM : Mo Z w mb m) (hZ : ∀ k, Z k → k < w.heap.size → ¬ Sq B P q k) (hb : MdB m) (h : Ew B P q w d) :
    Calls Try.prog 23 #[.pointer (some ⟨q, 0, none⟩), .pointer (some ⟨mb, 0, none⟩)] w (Pt B P q w d (eL 256 eCo m.co) (.int .i64 m.co.length)) := by
  obtain ⟨L, hrow, hC, hz⟩ := hM
  obtain ⟨v0, v1, v2, v3, v4, v5, v6, v8, v9, v10, eL0, h0, h1, h2, h3, h4, h5, h6, h8, h9, h10⟩ := hC
  obtain ⟨A, c, rfl, hR⟩ := h9
  have hL : Hid (Calls Try.prog 42 #[.pointer (some ⟨q, 0, none⟩), .slice A m.co.length c, .int .i64 256, .func (.func 43) #[.pointer (some ⟨q, 0, none⟩)] #[]] w (Pt B P q w d (eL 256 eCo m.co) (.int .i64 m.co.length))) := list_cods m.co A c Z hR hZ hb.co.1 hb.co.2 h
  have k0 : w.cell? ⟨mb, 9, none⟩ = some (.slice A m.co.length c) := by
    have := hrow.cell (i := 9) (by decide)
    rw [eL0] at this
    exact this
  have l0 := cell_lt k0
  clear hrow hR hZ hb h eL0 hz
  generalize eL 256 eCo m.co = o at *
  generalize m.co.length = n at *
  go_enter Try.func23, Try.ntmps23
  go_wp2_with (go_at_call 42; refine hL.out.mono ?_; rintro e w' ⟨V, (⟨b, hb, rfl, E⟩ | ⟨n, rfl⟩)⟩)
  · have hf : Hid (Pt B P q w d o (.int .i64 n) (.returned (.int .i64 n)) w') := ⟨V, Or.inl ⟨b, hb, rfl, E⟩⟩
    clear V hb E
    go_wp2_with fail
    go_ret
    exact hf.out
  · exact ⟨rfl, V, Or.inr ⟨n, rfl⟩⟩
theorem c_datas (hM : Mo Z w mb m) (hZ : ∀ k, Z k → k < w.heap.size → ¬ Sq B P q k) (hb : MdB m) (h : Ew B P q w d) :
    Calls Try.prog 24 #[.pointer (some ⟨q, 0, none⟩), .pointer (some ⟨mb, 0, none⟩)] w (Pt B P q w d (eL 1024 eDa m.da) (.int .i64 m.da.length)) := by
  obtain ⟨L, hrow, hC, hz⟩ := hM
  obtain ⟨v0, v1, v2, v3, v4, v5, v6, v8, v9, v10, eL0, h0, h1, h2, h3, h4, h5, h6, h8, h9, h10⟩ := hC
  obtain ⟨A, c, rfl, hR⟩ := h10
  have hL : Hid (Calls Try.prog 44 #[.pointer (some ⟨q, 0, none⟩), .slice A m.da.length c, .int .i64 1024, .func (.func 45) #[.pointer (some ⟨q, 0, none⟩)] #[]] w (Pt B P q w d (eL 1024 eDa m.da) (.int .i64 m.da.length))) := list_dats m.da A c Z hR hZ hb.da.1 hb.da.2 h
  have k0 : w.cell? ⟨mb, 10, none⟩ = some (.slice A m.da.length c) := by
    have := hrow.cell (i := 10) (by decide)
    rw [eL0] at this
    exact this
  have l0 := cell_lt k0
  clear hrow hR hZ hb h eL0 hz
  generalize eL 1024 eDa m.da = o at *
  generalize m.da.length = n at *
  go_enter Try.func24, Try.ntmps24
  go_wp2_with (go_at_call 44; refine hL.out.mono ?_; rintro e w' ⟨V, (⟨b, hb, rfl, E⟩ | ⟨n, rfl⟩)⟩)
  · have hf : Hid (Pt B P q w d o (.int .i64 n) (.returned (.int .i64 n)) w') := ⟨V, Or.inl ⟨b, hb, rfl, E⟩⟩
    clear V hb E
    go_wp2_with fail
    go_ret
    exact hf.out
  · exact ⟨rfl, V, Or.inr ⟨n, rfl⟩⟩
/-- the one section that is no list -/
abbrev oSt (x : Int) : Ob := if x = -1 then some [] else eN x
abbrev nSt (x : Int) : Nat := if x = -1 then 0 else 1
theorem c_start (hM : Mo Z w mb m) (hZ : ∀ k, Z k → k < w.heap.size → ¬ Sq B P q k) (hb : MdB m) (h : Ew B P q w d) :
    Calls Try.prog 21 #[.pointer (some ⟨q, 0, none⟩), .pointer (some ⟨mb, 0, none⟩)] w (Pt B P q w d (oSt m.st) (.int .i64 (nSt m.st : Nat))) := by
  obtain ⟨L, hrow, hC, hz⟩ := hM
  obtain ⟨v0, v1, v2, v3, v4, v5, v6, v8, v9, v10, eL0, _⟩ := hC
  have k0 : w.cell? ⟨mb, 7, none⟩ = some (.int .i64 m.st) := by
    have := hrow.cell (i := 7) (by decide)
    rw [eL0] at this
    exact this
  have l0 := cell_lt k0
  have hn : Hid (Calls Try.prog 32 #[.pointer (some ⟨q, 0, none⟩), .int .i64 m.st] w (Pt B P q w d (eN m.st) (.tuple #[]))) := number_any m.st h
  have h00 : Hid (Pt B P q w d (some []) (.int .i64 0) (.returned (.int .i64 0)) w) := Pt.one (Wr.refl _ _) (by rw [List.append_nil]; exact h) _
  clear hrow hZ hb h eL0 hz
  generalize m.st = x at *
  by_cases hx : x = -1
  · subst hx
    go_enter Try.func21, Try.ntmps21
    go_wp2_with fail
    go_ret
    exact h00.out
  · rw [show oSt x = eN x from if_neg hx, show nSt x = 1 from if_neg hx]
    have g : (x == -1) = false := by simpa using hx
    clear h00 hx
    generalize eN x = o at *
    go_enter Try.func21, Try.ntmps21
    go_wp2_with (go_at_call 32; refine hn.out.mono ?_; rintro e w' ⟨V, (⟨b, hb, rfl, E⟩ | ⟨n, rfl⟩)⟩)
    · have hf : Hid (Pt B P q w d o (.int .i64 1) (.returned (.int .i64 1)) w') := ⟨V, Or.inl ⟨b, hb, rfl, E⟩⟩
      clear V hb E
      go_wp2_with fail
      go_ret
      exact hf.out
    · exact ⟨rfl, V, Or.inr ⟨n, rfl⟩⟩
end Go.Proofs.Ytngciahmoenkiac.en
