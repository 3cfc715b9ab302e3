/- Over this seat's translation: 'awake' of package peloruslaw7. -/
import Derived.Test.YtdfgcagbpndabaaGreatDoorVH
import Derived.Test.YtdfgcagbpndabaaGreatDoorVD
import Derived.Lib.LaidTab
import Derived.Stop.LaidErr
import Derived.Stop.Joined
import Derived.OpenShut
import Derived.LaidMore
import Derived.Test.YtdfgcagbpndabaaGreatDoorZL
set_option linter.unusedVariables false
set_option linter.unusedSimpArgs false
set_option maxRecDepth 100000
set_option maxHeartbeats 2000000
namespace Go.Proofs.YtdfgcagbpndabaaGreatDoor
open Go.RowKit Go.AM
theorem k106 : kP 106 = 127 ∧ kC 106 = 2 ∧ kR 106 = 127 := by decide +kernel
theorem k128 : kP 128 = 126 ∧ kC 128 = 2 ∧ kR 128 = 126 := by decide +kernel
theorem r106 : resN (kR 106) (numN 106 (kP 106) 2 2 3) = (127, 5, 0, 0) := by decide +kernel
theorem r128 : resN (kR 128) (numN 128 (kP 128) 2 0 0) = (0, 0, 2, 0) := by decide +kernel
theorem in_small (x : Int) (h : 0 ≤ x ∧ x ≤ 4294967295) : inI x := by unfold inI; omega
theorem of106 (g cap : Nat) (w : World) (c0 : w.cell? ⟨g, 0, none⟩ = some (.int .i64 127)) (c1 : w.cell? ⟨g, 1, none⟩ = some (.int .i64 2)) (c2 : w.cell? ⟨g, 2, none⟩ = some (.int .i64 127)) (c3 : w.cell? ⟨g, 3, none⟩ = some (.int .i64 3)) :
    RW Tryz.prog 9 #[.int .i64 106, .slice (some ⟨g, 0, none⟩) 2 cap] w (toV (127, 5, 0, 0)) := by
  have := of_fit2 w 106 2 g 0 cap 3 (by decide) k106.2.1 (in_small 2 (by decide)) (in_small 3 (by decide)) (by rw [k106.1]; exact c0) c1 (by rw [k106.1]; exact c2) c3 (by rw [k106.1]; decide) (by rw [k106.1]; decide) w (Lz w)
  rw [r106] at this
  exact this
theorem of128 (g cap : Nat) (w : World) (c0 : w.cell? ⟨g, 0, none⟩ = some (.int .i64 126)) (c1 : w.cell? ⟨g, 1, none⟩ = some (.int .i64 0)) (c2 : w.cell? ⟨g, 2, none⟩ = some (.int .i64 126)) (c3 : w.cell? ⟨g, 3, none⟩ = some (.int .i64 0)) :
    RW Tryz.prog 9 #[.int .i64 128, .slice (some ⟨g, 0, none⟩) 2 cap] w (toV (0, 0, 2, 0)) := by
  have := of_fit2 w 128 0 g 0 cap 0 (by decide) k128.2.1 (in_small 0 (by decide)) (in_small 0 (by decide)) (by rw [k128.1]; exact c0) c1 (by rw [k128.1]; exact c2) c3 (by rw [k128.1]; decide) (by rw [k128.1]; decide) w (Lz w)
  rw [r128] at this
  exact this
theorem of106a (A : Option Addr) (cap : Nat) (w : World) :
    Calls Tryz.prog 9 #[.int .i64 106, .slice A 1 cap] w fun e w' => e = .returned (toV bad4) ∧ Later w w' :=
  of_len w 106 A 1 cap (by decide) (by rw [k106.2.1]; decide) w (Lz w)
theorem aty106 (w : World) : Calls Tryz.prog 7 #[.int .i64 106] w fun e w' => ∃ B C cap, e = .returned (tv B 2 cap C 0) ∧ Hid (Later w w') ∧ w.heap.size ≤ B ∧ w.heap.size ≤ C ∧ B ≠ C ∧ Hid (IntsAt w' B [127, 127]) ∧ Hid (IntsAt w' C [127]) := by
  have hs := shape_any 106 (by decide) (by decide)
  rw [k106.1, k106.2.1, k106.2.2] at hs
  exact atype_2 106 127 127 (by decide) hs w
theorem awake_any (w : World) :
    RW Tryz.prog 15 #[] w (.bool true) := by
  go_enter Tryz.func15, Tryz.ntmps15
  go_wp2_with fail
  refine (aty106 _).mono ?_
  rintro e w1 ⟨B, C, cp, rfl, hl, hB0, hC0, hBC, hB, hC⟩
  clear hB0 hC0
  go_wp2_with fail
  refine (of106 _ _ _ (by simp [go_sem]) (by simp [go_sem]) (by simp [go_sem]) (by simp [go_sem])).mono ?_
  rintro e w2 ⟨rfl, h2⟩
  have t0 : w2.cell? ⟨w1.heap.size, 0, none⟩ = some (.slice (some ⟨B, 0, none⟩) 2 cp) := h2.cell_of (by simp [go_sem])
  have t1 : w2.cell? ⟨w1.heap.size, 1, none⟩ = some (.slice (some ⟨C, 0, none⟩) 1 1) := h2.cell_of (by simp [go_sem])
  have L2 : Hid (Later w1 w2) := Later.trans (by repeat first | exact Lz _ | apply La | apply Lp | apply Lv | apply Ln | apply Ld) h2
  replace h2 : Hid True := trivial
  go_wp2_with fail
  refine (of128 _ _ _ (by simp [go_sem]) (by simp [go_sem]) (by simp [go_sem]) (by simp [go_sem])).mono ?_
  rintro e w3 ⟨rfl, h3⟩
  have L3 : Hid (Later w2 w3) := Later.trans (by repeat first | exact Lz _ | apply La | apply Lp | apply Lv | apply Ln | apply Ld) h3
  have v0 : w3.cell? ⟨w2.heap.size, 0, none⟩ = some (.int .i64 127) := h3.cell_of (by simp [go_sem])
  have v1 : w3.cell? ⟨w2.heap.size, 1, none⟩ = some (.int .i64 5) := h3.cell_of (by simp [go_sem])
  replace t0 := (later_of L3).cell_of t0
  replace t1 := (later_of L3).cell_of t1
  replace h3 : Hid True := trivial
  go_wp2_with fail
  refine (of106a _ _ _).mono ?_
  rintro e w4 ⟨rfl, h4⟩
  have L4 : Hid (Later w3 w4) := Later.trans (by repeat first | exact Lz _ | apply La | apply Lp | apply Lv | apply Ln | apply Ld) h4
  replace h4 : Hid True := trivial
  replace t0 := (later_of L4).cell_of t0
  replace t1 := (later_of L4).cell_of t1
  replace v0 := (later_of L4).cell_of v0
  replace v1 := (later_of L4).cell_of v1
  have lt := cell_lt t0
  have lv := cell_lt v0
  have LL : Hid (Later w w4) := (((later_of hl).trans (later_of L2)).trans (later_of L3)).trans (later_of L4)
  have L14 : Hid (Later w1 w4) := ((later_of L2).trans (later_of L3)).trans (later_of L4)
  have b0 := (hB.out.later (later_of L14)).cell (j := 0) (x := 127) rfl
  have b1 := (hB.out.later (later_of L14)).cell (j := 1) (x := 127) rfl
  have q0 := (hC.out.later (later_of L14)).cell (j := 0) (x := 127) rfl
  have lB := cell_lt b0
  have lC := cell_lt q0
  clear hl L2 L3 L4 L14 hB hC
  go_wp2_with fail
  refine (stype _ _ _ _ _ _ _ _ _ _ _ _ _ ?qa ?qb).mono ?qc
  case qa =>
    intro w5 h5
    exact same2 127 _ _ _ _ w5 (h5.cell_of (by simp [go_sem, b0, b1, q0, lB, lC])) (h5.cell_of (by simp [go_sem, b0, b1, q0, lB, lC])) (h5.cell_of (by simp [go_sem, b0, b1, q0, lB, lC])) (h5.cell_of (by simp [go_sem, b0, b1, q0, lB, lC])) (Nat.lt_of_lt_of_le (by simp [go_sem]; try omega) h5.size) (Nat.lt_of_lt_of_le (by simp [go_sem]; try omega) h5.size)
  case qb =>
    intro w5 h5
    exact same1 127 _ _ _ _ w5 (h5.cell_of (by simp [go_sem, b0, b1, q0, lB, lC])) (h5.cell_of (by simp [go_sem, b0, b1, q0, lB, lC])) (Nat.lt_of_lt_of_le (by simp [go_sem]; try omega) h5.size) (Nat.lt_of_lt_of_le (by simp [go_sem]; try omega) h5.size)
  case qc =>
    rintro e w6 ⟨rfl, h6⟩
    have L6 : Hid (Later w4 w6) := Later.trans (by repeat first | exact Lz _ | apply La | apply Lp | apply Lv | apply Ln | apply Ld) h6
    replace h6 : Hid True := trivial
    replace v0 := (later_of L6).cell_of v0
    replace v1 := (later_of L6).cell_of v1
    clear t0 t1 b0 b1 q0 lB lC lt lv
    go_wp2_with (go_at_call 12; refine (num_any _ _).mono ?_; rintro e w' ⟨rfl, rfl⟩)
    go_ret
    exact ⟨rfl, ((later_of LL).trans (later_of L6)).trans (by repeat first | exact Lz _ | apply La | apply Lp | apply Lv | apply Ln | apply Ld)⟩
end Go.Proofs.YtdfgcagbpndabaaGreatDoor
namespace Go.Proofs.YtdfgcagbpndabaaGreatDoor
open Go.RowKit Go.AM
def u32 (v : Int) : Prop := 0 ≤ v ∧ v ≤ 4294967295
theorem u_div (A B : Int) (hA : u32 A) (hB : 0 ≤ B) : u32 (A / B) := ⟨Int.ediv_nonneg hA.1 hB, Int.le_trans (Int.ediv_le_self B hA.1) hA.2⟩
theorem u_rem (A B : Int) (hA : u32 A) (hB : 0 ≤ B) : u32 (A % B) := by
  have h1 := Int.mul_ediv_add_emod A B
  have h2 : 0 ≤ B * (A / B) := Int.mul_nonneg hB (Int.ediv_nonneg hA.1 hB)
  refine ⟨?_, ?_⟩
  · rcases Int.lt_or_eq_of_le hB with g | g
    · exact Int.emod_nonneg A (by omega)
    · rw [← g, Int.emod_zero]; exact hA.1
  · have := hA.2; omega
theorem u_mod (A : Int) : u32 (A % 4294967296) := by unfold u32; omega
theorem u_nat (n : Nat) (h : n < 4294967296) : u32 (n : Int) := by unfold u32; omega
theorem u_zero : u32 0 := by unfold u32; omega
theorem u_flag (b : Bool) : u32 (BM.flagI b) := by cases b <;> (unfold u32 BM.flagI; decide)
theorem low_lt (a : Int) : (a % 4294967296).toNat < 2 ^ 32 := by have : (2 : Nat) ^ 32 = 4294967296 := by decide
                                                                 omega
theorem r_un32 (op a : Int) (h : op = 69 ∨ (103 ≤ op ∧ op ≤ 105)) : u32 (BM.un32 op a).1 := by
  have hl := low_lt a
  have hc : op = 69 ∨ op = 103 ∨ op = 104 ∨ op = 105 := by omega
  clear h
  rcases hc with rfl | rfl | rfl | rfl
  · exact u_flag _
  · have := Lib.bitLen_le _ 32 (by decide) hl
    show u32 (32 - (Lib.bitLen (a % 4294967296).toNat : Int))
    unfold u32; omega
  · show u32 (Lib.ctz 32 (a % 4294967296).toNat : Int)
    apply u_nat
    unfold Lib.ctz
    split
    · decide
    · obtain ⟨m, _, h2⟩ := Lib.ctzFrom_spec 32 (a % 4294967296).toNat (by omega) hl
      omega
  · have := BM.popAux_le 32 (a % 4294967296).toNat
    exact u_nat _ (by omega)
theorem r_bin32 (op a b : Int) (h : (70 ≤ op ∧ op ≤ 79) ∨ (106 ≤ op ∧ op ≤ 120)) : u32 (BM.bin32 op a b).1 := by
  have ha := low_lt a
  have hb := low_lt b
  have e : (2 : Nat) ^ 32 = 4294967296 := by decide
  unfold BM.bin32
  by_cases h1 : 70 ≤ op ∧ op ≤ 79
  · rw [if_pos h1]; exact u_flag _
  · rw [if_neg h1]
    have hc : op = 106 ∨ op = 107 ∨ op = 108 ∨ op = 109 ∨ op = 110 ∨ op = 111 ∨ op = 112 ∨ op = 113 ∨ op = 114 ∨ op = 115 ∨ op = 116 ∨ op = 117 ∨ op = 118 ∨ op = 119 ∨ op = 120 := by omega
    clear h h1
    rcases hc with rfl | rfl | rfl | rfl | rfl | rfl | rfl | rfl | rfl | rfl | rfl | rfl | rfl | rfl | rfl
    all_goals repeat (first | rw [if_pos rfl] | rw [if_neg (by decide)])
    all_goals (repeat' split)
    all_goals first
      | exact u_zero
      | exact u_mod _
      | exact u_div _ _ (u_mod _) (Int.emod_nonneg _ (by decide))
      | exact u_rem _ _ (u_mod _) (Int.emod_nonneg _ (by decide))
      | exact u_div _ _ (u_mod _) (Int.le_of_lt (Int.pow_pos (by decide)))
      | exact u_nat _ (by rw [← e]; exact Nat.and_lt_two_pow _ hb)
      | exact u_nat _ (by rw [← e]; exact Nat.or_lt_two_pow ha hb)
      | exact u_nat _ (by rw [← e]; exact Nat.xor_lt_two_pow ha hb)
      | exact u_nat _ (by rw [← e]; exact BM.rotl_lt 32 _ _ (by omega) ha)
theorem r_trunc (f : Ieee.Format) (x : Nat) (s : Bool) : u32 (FM.truncI f x 32 s).1 := by
  unfold FM.truncI
  split
  · exact u_zero
  · split
    · exact u_zero
    · split
      · rw [FM.bits_32]; exact u_mod _
      · exact u_zero
theorem r_narrow (x : Nat) : u32 ((FM.otherW Ieee.double Ieee.single x : Nat) : Int) := by
  by_cases h : FM.isN Ieee.double x
  · rw [FM.other_nan _ _ x h]; exact u_nat _ (by decide +kernel)
  · exact u_nat _ (Q.other_num x h).2
theorem r_f1 (op a : Int) (h : 139 ≤ op ∧ op ≤ 145) : u32 (P3.unI op a).1 := by
  unfold P3.unI; rw [if_pos h]
  apply u_nat
  rw [S.un_same op _ h]
  exact S.unF_lt _ _ (by omega)
theorem r_f2 (op a b : Int) (h : (91 ≤ op ∧ op ≤ 96) ∨ (146 ≤ op ∧ op ≤ 152)) : u32 (P3.binI op a b).1 := by
  unfold P3.binI; rw [if_pos h]
  apply u_nat
  rcases h with h | h
  · unfold P3.binW; rw [if_pos h.2]; split <;> decide
  · rw [S.bin_same op _ _ h]
    exact S.binG_lt _ _ _ (by omega) (by omega)
theorem r_d2 (op a b : Int) (h : 97 ≤ op ∧ op ≤ 102) : u32 (P6.binI op a b).1 := by
  unfold P6.binI; rw [if_pos (Or.inl h)]
  unfold P6.binW; rw [if_pos h.2]
  split
  · rw [P6.sw_one]; unfold u32; decide
  · rw [P6.sw_zero]; exact u_zero
theorem ok_u32 (r v : Int) (h : u32 v) : okX r v = true := by
  unfold okX
  rw [show (v % 4294967296 == v) = true from by have := h.1; have := h.2; simp only [beq_iff_eq]; omega, Bool.or_true]
theorem ok_wide (r v : Int) (h : r = 126 ∨ r = 124) : okX r v = true := by rcases h with rfl | rfl <;> rfl
theorem okR1 (op x : Int) (h : 69 ≤ op ∧ op ≤ 191) (hc : kC op = 1) : okX (kR op) (numN op (kP op) 1 x 0).1 = true := by
  unfold numN
  by_cases ho : 166 < op
  · rw [if_pos ho]
    have hc : op = 167 ∨ op = 168 ∨ op = 169 ∨ op = 170 ∨ op = 171 ∨ op = 172 ∨ op = 173 ∨ op = 174 ∨ op = 175 ∨ op = 176 ∨ op = 177 ∨ op = 178 ∨ op = 179 ∨ op = 180 ∨ op = 181 ∨ op = 182 ∨ op = 183 ∨ op = 184 ∨ op = 185 ∨ op = 186 ∨ op = 187 ∨ op = 188 ∨ op = 189 ∨ op = 190 ∨ op = 191 := by omega
    rcases hc with rfl | rfl | rfl | rfl | rfl | rfl | rfl | rfl | rfl | rfl | rfl | rfl | rfl | rfl | rfl | rfl | rfl | rfl | rfl | rfl | rfl | rfl | rfl | rfl | rfl
    · rw [FM.of_167]; exact ok_u32 _ _ (u_mod _)
    · rw [FM.of_168]; exact ok_u32 _ _ (r_trunc _ _ _)
    · rw [FM.of_169]; exact ok_u32 _ _ (r_trunc _ _ _)
    · rw [FM.of_170]; exact ok_u32 _ _ (r_trunc _ _ _)
    · rw [FM.of_171]; exact ok_u32 _ _ (r_trunc _ _ _)
    all_goals try exact ok_wide _ _ (by decide +kernel)
    · rw [FM.of_178]; exact ok_u32 _ _ (u_nat _ (FM.from_lt32 _))
    · rw [FM.of_179]; exact ok_u32 _ _ (u_nat _ (FM.from_lt32 _))
    · rw [FM.of_180]; exact ok_u32 _ _ (u_nat _ (FM.from_lt32 _))
    · rw [FM.of_181]; exact ok_u32 _ _ (u_nat _ (FM.from_lt32 _))
    · rw [FM.of_182]; exact ok_u32 _ _ (r_narrow _)
    · rw [FM.of_188]; exact ok_u32 _ _ (u_mod _)
    · rw [FM.of_190]; exact ok_u32 _ _ (u_mod _)
  · rw [if_neg ho, if_pos rfl]
    have g := grp_k op h.1 (by omega)
    rw [hc] at g
    unfold unN
    revert g
    generalize kP op = p
    generalize kR op = r
    intro g
    rcases g with ⟨a, b, rfl, k, rfl⟩ | ⟨a, b, rfl, k, rfl⟩ | ⟨a, b, rfl, k, rfl⟩ | ⟨a, b, rfl, k, rfl⟩ | ⟨a, b, rfl, k, rfl⟩ | ⟨a, b, rfl, k, rfl⟩ | ⟨a, b, rfl, k, rfl⟩ | ⟨a, b, rfl, k, rfl⟩ | ⟨a, b, rfl, k, rfl⟩ | ⟨a, b, rfl, k, rfl⟩ | ⟨a, b, rfl, k, rfl⟩ | ⟨a, b, rfl, k, rfl⟩ | ⟨a, b, rfl, k, rfl⟩ | ⟨a, b, rfl, k, rfl⟩ | F
    all_goals first
      | exact F.elim
      | exact absurd k (by decide)
      | exact ok_wide _ _ (by decide)
      | exact ok_u32 _ _ (r_un32 op x (by omega))
      | exact ok_u32 _ _ (r_f1 op x ⟨a, b⟩)
      | (have : op = 80 := by omega
         subst this; exact ok_u32 _ _ (u_flag _))
theorem okR2 (op x y : Int) (h : 69 ≤ op ∧ op ≤ 166) (hc : kC op = 2) : okX (kR op) (numN op (kP op) 2 x y).1 = true := by
  unfold numN
  rw [if_neg (by omega), if_neg (by decide)]
  have g := grp_k op h.1 h.2
  rw [hc] at g
  unfold binN
  revert g
  generalize kP op = p
  generalize kR op = r
  intro g
  rcases g with ⟨a, b, rfl, k, rfl⟩ | ⟨a, b, rfl, k, rfl⟩ | ⟨a, b, rfl, k, rfl⟩ | ⟨a, b, rfl, k, rfl⟩ | ⟨a, b, rfl, k, rfl⟩ | ⟨a, b, rfl, k, rfl⟩ | ⟨a, b, rfl, k, rfl⟩ | ⟨a, b, rfl, k, rfl⟩ | ⟨a, b, rfl, k, rfl⟩ | ⟨a, b, rfl, k, rfl⟩ | ⟨a, b, rfl, k, rfl⟩ | ⟨a, b, rfl, k, rfl⟩ | ⟨a, b, rfl, k, rfl⟩ | ⟨a, b, rfl, k, rfl⟩ | F
  all_goals first
    | exact F.elim
    | exact absurd k (by decide)
    | exact ok_wide _ _ (by decide)
    | exact ok_u32 _ _ (r_bin32 op x y (by omega))
    | exact ok_u32 _ _ (r_f2 op x y (by omega))
    | exact ok_u32 _ _ (r_d2 op x y ⟨a, b⟩)
    | (have e : BM.bin64 op x y = (BM.flagI (BM.cmp64 op x y), 0) := by unfold BM.bin64; rw [if_pos ⟨a, b⟩]
       exact ok_u32 _ _ (by show u32 (BM.bin64 op x y).1; rw [e]; exact u_flag _))
end Go.Proofs.YtdfgcagbpndabaaGreatDoor
namespace Go.Proofs.YtdfgcagbpndabaaGreatDoor
open Go.RowKit Go.AM
theorem info_val : (Tryz.prog.info? 33).map (fun i => (i.zero, i.size, i.bytes)) = some (some (.agg #[.int .i64 0, .int .i64 0]), 2, 16) := by kernel_rfl
theorem add_lit (b j : Nat) : (⟨b, 0, none⟩ : Addr).add j = ⟨b, j, none⟩ := by unfold Addr.add; split <;> simp_all
theorem news2 {X : World} {b : Nat} {t x : Int} (hb : b = X.heap.size) : ∀ (j : Nat) (u : Value), [Value.int .i64 t, Value.int .i64 x][j]? = some u → (X.alloc (.cells #[.int .i64 t, .int .i64 x] 33)).cell? ((⟨b, 0, none⟩ : Addr).add j) = some u := by
  subst hb
  intro j u h
  rw [add_lit]
  rw [cell_of_row _ _ _ _ _ _ (heap_alloc_new X _)]
  match j, h with
  | 0, h => simpa using h
  | 1, h => simpa using h
theorem one2 (t x : Int) : ∀ u ∈ [Value.int .i64 t, Value.int .i64 x], u.oneCell' = true := by
  intro u hu
  simp only [List.mem_cons, List.not_mem_nil, or_false] at hu
  rcases hu with rfl | rfl <;> rfl
theorem res_ways (r : Int) (ve : Int × Int) (h : okX r ve.1 = true) (he : ve.2 = 0 ∨ trapN ve.2 ≠ 0) : (∃ v, resN r ve = (r, v, 0, 0) ∧ okX r v = true) ∨ (∃ T, resN r ve = (0, 0, T, 0) ∧ ¬ T = 0) := by
  by_cases h0 : ve.2 = 0
  · exact Or.inl ⟨ve.1, res_val r ve h0, h⟩
  · exact Or.inr ⟨_, res_trap r ve h0, he.resolve_left h0⟩
theorem trap_pos (e : Int) : trapN e ≠ 0 := by
  unfold trapN; repeat' split
  all_goals decide
def cutX (p a : Int) : Int := if p = 127 ∨ p = 125 then a % 4294967296 else a
theorem cut_ok (p a : Int) (hp : p = 127 ∨ p = 126 ∨ p = 125 ∨ p = 124) : okX p (cutX p a) = true := by
  unfold cutX
  rcases hp with rfl | rfl | rfl | rfl
  · rw [if_pos (by decide)]; exact ok_u32 _ _ (u_mod _)
  · rfl
  · rw [if_pos (by decide)]; exact ok_u32 _ _ (u_mod _)
  · rfl
theorem cut_in (p a : Int) (ha : inI a) : inI (cutX p a) := by
  unfold cutX
  split
  · unfold inI; omega
  · exact ha
theorem and_low (a : Int) : bits .and .i64 a 4294967295 = a % 4294967296 := MI.and_mask a 32 (by decide)
theorem may_true (r v : Int) (hr : r = 127 ∨ r = 126 ∨ r = 125 ∨ r = 124) (h : okX r v = true) : MY r v true := by
  have := may_any r v hr
  rw [h] at this
  exact this
def AT1 (op p r : Int) : Prop := ∀ w : World, Calls Tryz.prog 7 #[.int .i64 op] w fun e w' => ∃ B C cap, e = .returned (tv B 1 cap C 0) ∧ Hid (Later w w') ∧ w.heap.size ≤ B ∧ w.heap.size ≤ C ∧ B ≠ C ∧ Hid (IntsAt w' B [p]) ∧ Hid (IntsAt w' C [r])
def AT2 (op p r : Int) : Prop := ∀ w : World, Calls Tryz.prog 7 #[.int .i64 op] w fun e w' => ∃ B C cap, e = .returned (tv B 2 cap C 0) ∧ Hid (Later w w') ∧ w.heap.size ≤ B ∧ w.heap.size ≤ C ∧ B ≠ C ∧ Hid (IntsAt w' B [p, p]) ∧ Hid (IntsAt w' C [r])
theorem at1 (op : Int) (h : 69 ≤ op ∧ op ≤ 191) (hc : kC op = 1) : AT1 op (kP op) (kR op) := by
  have hs := shape_any op h.1 h.2
  rw [hc] at hs
  exact atype_1 op _ _ h hs
theorem at2 (op : Int) (h : 69 ≤ op ∧ op ≤ 191) (hc : kC op = 2) : AT2 op (kP op) (kR op) := by
  have hs := shape_any op h.1 h.2
  rw [hc] at hs
  exact atype_2 op _ _ h hs
theorem oa1 (op a : Int) (h : 69 ≤ op ∧ op ≤ 191) (hc : kC op = 1) (ha : inI a) (w : World) (hT : Tabs w) (wv : World) (g cap : Nat) (hl : Hid (Later w wv)) (c0 : wv.cell? ⟨g, 0, none⟩ = some (.int .i64 (kP op))) (c1 : wv.cell? ⟨g, 1, none⟩ = some (.int .i64 (cutX (kP op) a))) :
    ∃ A4 B4 C4, OfC wv op (.slice (some ⟨g, 0, none⟩) 1 cap) (A4, B4, C4, 0) ∧ ApC wv op (.slice (some ⟨g, 0, none⟩) 1 cap) (A4, B4, C4, 0) ∧ Hid ((A4 = kR op ∧ C4 = 0 ∧ okX (kR op) B4 = true) ∨ (A4 = 0 ∧ B4 = 0 ∧ ¬ C4 = 0)) := by
  have hx := cut_ok (kP op) a (kP_or op h.1 h.2)
  have hi := cut_in (kP op) a ha
  generalize cutX (kP op) a = x at *
  have f1 := of_fit1 wv op x g 0 cap h hc (hT.later hl) c0 c1 hx
  have f2 := ap_fit1 wv op x g 0 cap h hc hi c0 c1 hx
  rcases res_ways (kR op) (numN op (kP op) 1 x 0) (okR1 op x h hc) (Or.inr (trap_pos _)) with ⟨v, e, k⟩ | ⟨T, e, k⟩
  · rw [e] at f1 f2
    exact ⟨_, _, _, f1, f2, Or.inl ⟨rfl, rfl, k⟩⟩
  · rw [e] at f1 f2
    exact ⟨_, _, _, f1, f2, Or.inr ⟨rfl, rfl, k⟩⟩
theorem oa2 (op a b : Int) (h : 69 ≤ op ∧ op ≤ 191) (hc : kC op = 2) (ha : inI a) (hb : inI b) (w wv : World) (g cap : Nat) (hl : Hid (Later w wv)) (c0 : wv.cell? ⟨g, 0, none⟩ = some (.int .i64 (kP op))) (c1 : wv.cell? ⟨g, 1, none⟩ = some (.int .i64 (cutX (kP op) a))) (c2 : wv.cell? ⟨g, 2, none⟩ = some (.int .i64 (kP op))) (c3 : wv.cell? ⟨g, 3, none⟩ = some (.int .i64 (cutX (kP op) b))) :
    ∃ A4 B4 C4, OfC wv op (.slice (some ⟨g, 0, none⟩) 2 cap) (A4, B4, C4, 0) ∧ ApC wv op (.slice (some ⟨g, 0, none⟩) 2 cap) (A4, B4, C4, 0) ∧ Hid ((A4 = kR op ∧ C4 = 0 ∧ okX (kR op) B4 = true) ∨ (A4 = 0 ∧ B4 = 0 ∧ ¬ C4 = 0)) := by
  have hx := cut_ok (kP op) a (kP_or op h.1 h.2)
  have hi := cut_in (kP op) a ha
  have hy := cut_ok (kP op) b (kP_or op h.1 h.2)
  have hj := cut_in (kP op) b hb
  generalize cutX (kP op) a = x at *
  generalize cutX (kP op) b = y at *
  have f1 := of_fit2 wv op x g 0 cap y h hc hi hj c0 c1 c2 c3 hx hy
  have f2 := ap_fit2 wv op x g 0 cap y h hc hi hj c0 c1 c2 c3 hx hy
  rcases res_ways (kR op) (numN op (kP op) 2 x y) (okR2 op x y ⟨h.1, (rt2 op h hc).1⟩ hc) (Or.inr (trap_pos _)) with ⟨v, e, k⟩ | ⟨T, e, k⟩
  · rw [e] at f1 f2
    exact ⟨_, _, _, f1, f2, Or.inl ⟨rfl, rfl, k⟩⟩
  · rw [e] at f1 f2
    exact ⟨_, _, _, f1, f2, Or.inr ⟨rfl, rfl, k⟩⟩
theorem rtype_badE (E op : Int) (hE : E = 700) (h : ¬ (69 ≤ op ∧ op ≤ 191)) (w : World) :
    RW Tryz.prog 8 #[.int .i64 op] w (.tuple #[.agg #[.slice none 0 0, .slice none 0 0], .int .i64 E]) := by subst hE; exact rtype_bad op h w
theorem atype_badE (E op : Int) (hE : E = 700) (h : ¬ (69 ≤ op ∧ op ≤ 191)) (w : World) :
    RW Tryz.prog 7 #[.int .i64 op] w (.tuple #[.agg #[.slice none 0 0, .slice none 0 0], .int .i64 E]) := by subst hE; exact atype_bad op h w
theorem aof_badE (E op : Int) (V : Value) (hE : E = 700) (h : ¬ (69 ≤ op ∧ op ≤ 191)) (w : World) :
    RW Tryz.prog 9 #[.int .i64 op, V] w (toV (0, 0, 0, E)) := by subst hE; exact aof_bad op V h w
theorem rap_badE (E op : Int) (V : Value) (hE : E = 700) (h : ¬ (69 ≤ op ∧ op ≤ 191)) (w : World) :
    RW Tryz.prog 10 #[.int .i64 op, V] w (toV (0, 0, 0, E)) := by subst hE; exact rap_bad op V h w
theorem cut_low (p a : Int) (h : p = 127 ∨ p = 125) : cutX p a = a % 4294967296 := by unfold cutX; rw [if_pos h]
theorem cut_wide (p a : Int) (h : ¬ p = 127) (h2 : ¬ p = 125) : cutX p a = a := by unfold cutX; rw [if_neg (by omega)]
end Go.Proofs.YtdfgcagbpndabaaGreatDoor
set_option linter.unusedVariables false
namespace Go.Proofs.YtdfgcagbpndabaaGreatDoor
open Go.ChangeShapes Go.WideShapes Go.ChangeAt Go.RowKit
theorem own : ownKnob Tryz.prog.godebug = none := by kernel_rfl
theorem g32 : Tryz.prog.globalNamed "math/bits.deBruijn32tab" = some 1 := by kernel_rfl
theorem g64 : Tryz.prog.globalNamed "math/bits.deBruijn64tab" = some 2 := by kernel_rfl
theorem gt32 : (Tryz.prog.globals[1]?).map (·.type) = some 128 := by kernel_rfl
theorem gt64 : (Tryz.prog.globals[2]?).map (·.type) = some 129 := by kernel_rfl
def tabs : List (String × DataW Unit) := [("math/bits.deBruijn32tab", Rows.laid_math_bits_deBruijn32tab), ("math/bits.deBruijn64tab", Rows.laid_math_bits_deBruijn64tab)]
theorem d32 : (Rows.laid_math_bits_deBruijn32tab : DataW Unit) = Lib.tabData .u8 (Lib.deBruijn32tab.map fun n : Nat => (n : Int)) := rfl
theorem d64 : (Rows.laid_math_bits_deBruijn64tab : DataW Unit) = Lib.tabData .u8 (Lib.deBruijn64tab.map fun n : Nat => (n : Int)) := rfl
theorem getD_map (l : List Nat) (j : Nat) : (l.map fun n : Nat => (n : Int)).getD j 0 = (l.getD j 0 : Int) := by
  simp only [List.getD_eq_getElem?_getD, List.getElem?_map]
  cases l[j]? <;> rfl
theorem door_met (os : Os) (args : Array Value) : laidMetH Tryz.prog tabs ((World.doorLaid Tryz.prog 400 os).forCall (fun _ _ => 0) ⟨#[], args, []⟩).memory :=
  laidMetH_of_parts3 (fuel := 8) (laidMet_of_run' 8 (by kernel_rfl) (by kernel_rfl)) (by kernel_rfl) (by kernel_rfl)
theorem of_laid {W : World} (h : laidMetH Tryz.prog tabs W) : Tab 1 Lib.deBruijn32tab W ∧ Tab 2 Lib.deBruijn64tab W := by
  rw [MakeChecks.laidMetH_plain _ _ _ (by kernel_rfl)] at h
  have h2 : laidMet Tryz.prog [("math/bits.deBruijn64tab", Rows.laid_math_bits_deBruijn64tab)] W := laidMet.tail h
  unfold tabs at h
  rw [d32] at h
  rw [d64] at h2
  have t1 := Lib.tabIs_of_head g32 gt32 Tryz.underlying128 Tryz.underlying5 (by kernel_rfl) (by kernel_rfl) h
  have t2 := Lib.tabIs_of_head g64 gt64 Tryz.underlying129 Tryz.underlying5 (by kernel_rfl) (by kernel_rfl) h2
  refine ⟨fun j hj => ?_, fun j hj => ?_⟩
  · have := t1.cell g32 j (by simpa using hj)
    rw [getD_map] at this
    exact this
  · have := t2.cell g64 j (by simpa using hj)
    rw [getD_map] at this
    exact this
end Go.Proofs.YtdfgcagbpndabaaGreatDoor
