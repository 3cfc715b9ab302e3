/- Contracts of the document's floats (pelorusref4), over this seat's translation: roots, the walks. -/
import Derived.Test.YtdfgcagbpndabaaGreatDoorZDC
import Derived.Test.YtdfgcagbpndabaaGreatDoorZD
import Derived.Test.YtdfgcagbpndabaaGreatDoorZA
import Derived.WalkLawsBesides
import Derived.RegionCalls
import Derived.Deep.RegionWith
set_option linter.unusedVariables false
set_option maxHeartbeats 4000000
set_option maxRecDepth 100000
namespace Go.Proofs.YtdfgcagbpndabaaGreatDoor.D
open Go.RowKit
open Go.FM (W64 two bl lost isN qn)
theorem root_fin0 (m i : Int) (p c H R : Nat) (b1 b2 d by1 e1 e2 ee u1 u2 x y y2 : Int) (z : Nat) (hm : (m == 0) = false) (hm2 : ¬ m = 0) (hp : Hid (∀ w : World, Calls Tryz.prog 154 #[.int .u64 m] w fun e w' => e = .returned (.int .i64 (p : Nat)) ∧ w' = w)) (hpb : p ≤ 64) (hb1 : IntKind.i64.wrap (64 + (p : Int)) = b1) (hb2 : IntKind.i64.wrap (b1 - 2) = b2) (hd : IntKind.i64.wrap (i - b2) = d) (ho : bits .and .i64 d 1 = 0) (hby : b2 = by1) (h64 : 64 ≤ by1) (hc : IntKind.i64.wrap (by1 - 64) = (c : Int)) (hcb : c < 64) (hH : IntKind.u64.wrap (m * 2 ^ c) = (H : Int)) (hHb : H < W64) (hR : Hid (FM.IsRoot (two H 0) R)) (hM : Hid (∀ w : World, Calls Tryz.prog 156 #[.int .u64 (R : Nat), .int .u64 (R : Nat)] w fun e w' => e = .returned (.tuple #[.int .u64 u1, .int .u64 u2]) ∧ w' = w)) (hU : RL Tryz.prog 155 #[.int .u64 (R : Nat), .int .i64 1] (.tuple #[.int .u64 x, .int .u64 y])) (ht : Hid ((u1 = (H : Int) ∧ u2 = 0 ∧ y2 = y) ∨ (¬ u1 = (H : Int) ∧ bits .or .u64 y 1 = y2) ∨ (u1 = (H : Int) ∧ ¬ u2 = 0 ∧ bits .or .u64 y 1 = y2))) (he : d = e1) (he2 : IntKind.i64.wrap (e1.tdiv 2) = e2) (hee : IntKind.i64.wrap (e2 - 1) = ee) (hr : RL Tryz.prog 122 #[fm, .bool false, .int .u64 x, .int .u64 y2, .int .i64 ee] (.int .u64 (z : Nat))) (w : World) :
    RW Tryz.prog 128 #[fm, fv false false false m i] w (.int .u64 (z : Nat)) := by
  subst hby
  subst he
  have hN : Hid (two H 0 < 2 ^ 128) := FM.two_lt H 0 hHb (by decide)
  have hHb2 : Hid (H < W64) := hHb
  clear hHb
  go_enter Tryz.func128, Tryz.ntmps128
  go_wp2_with fail
  refine (hp.out _).mono ?_
  rintro e w' ⟨rfl, rfl⟩
  go_wp2
  go_loop [8, 9] (fun a i => ∃ j r : Nat, j ≤ 64 ∧ i = .int .i64 ((j : Int) - 1) ∧ a = .int .u64 (r : Nat) ∧ Hid (∃ c, r = c * 2 ^ j) ∧ Hid (r * r ≤ two H 0) ∧ Hid (two H 0 < (r + 2 ^ j) * (r + 2 ^ j))) (fun _ i => (intOf i + 1).toNat)
  case atStart =>
    exact ⟨64, 0, Nat.le_refl _, rfl, rfl, ⟨0, by rw [Nat.zero_mul]⟩, Nat.zero_le _, by show _ < _; rw [Nat.zero_add, ← Nat.pow_add]; exact hN.out⟩
  case round =>
    obtain ⟨j, r, hj, rfl, rfl, Hc, Hl, Hu⟩ := hrel
    rcases Nat.eq_zero_or_pos j with h0 | h0
    · subst h0
      have er : r = R := FM.root_one ⟨Hl.out, Hu.out⟩ hR.out
      subst er
      have ht := ht.out
      clear Hc Hl Hu hR
      rcases ht with ⟨rfl, rfl, rfl⟩ | ⟨ht1, ht2⟩ | ⟨rfl, ht1, ht2⟩
      · go_wp2_with fail
        refine (hM.out _).mono ?_
        rintro e w' ⟨rfl, rfl⟩
        go_wp2_with fail
        refine (hU.out _).mono ?_
        rintro e w' ⟨rfl, bs3, n3, rfl⟩
        go_wp2_with fail
        refine (hr.out _).mono ?_
        rintro e w' ⟨rfl, bs4, n4, rfl⟩
        go_wp2
        go_ret
        exact ⟨rfl, (by repeat first | exact Lz _ | apply La | apply Lv | apply Ln | apply Ld)⟩
      · go_wp2_with fail
        refine (hM.out _).mono ?_
        rintro e w' ⟨rfl, rfl⟩
        go_wp2_with fail
        refine (hU.out _).mono ?_
        rintro e w' ⟨rfl, bs6, n6, rfl⟩
        go_wp2_with fail
        refine (hr.out _).mono ?_
        rintro e w' ⟨rfl, bs7, n7, rfl⟩
        go_wp2
        go_ret
        exact ⟨rfl, (by repeat first | exact Lz _ | apply La | apply Lv | apply Ln | apply Ld)⟩
      · go_wp2_with fail
        refine (hM.out _).mono ?_
        rintro e w' ⟨rfl, rfl⟩
        go_wp2_with fail
        refine (hU.out _).mono ?_
        rintro e w' ⟨rfl, bs9, n9, rfl⟩
        go_wp2_with fail
        refine (hr.out _).mono ?_
        rintro e w' ⟨rfl, bs10, n10, rfl⟩
        go_wp2
        go_ret
        exact ⟨rfl, (by repeat first | exact Lz _ | apply La | apply Lv | apply Ln | apply Ld)⟩
    · obtain ⟨k, rfl⟩ : ∃ k, j = k + 1 := ⟨j - 1, by omega⟩
      obtain ⟨cc, hcc⟩ := Hc.out
      have room := FM.root_room r (k + 1) cc _ hj hcc Hl.out hN.out
      have eo := FM.root_or r k cc (by omega) hcc room
      have hP0 := Nat.two_pow_pos k
      have e2 : 2 ^ (k + 1) = 2 ^ k * 2 := Nat.pow_succ 2 k
      have htb : r + 2 ^ k < W64 := by simp only [W64]; omega
      have hmul : Hid (∀ w, Calls Tryz.prog 156 #[.int .u64 ((r + 2 ^ k : Nat) : Int), .int .u64 ((r + 2 ^ k : Nat) : Int)] w fun e w' => e = .returned (.tuple #[.int .u64 (((r + 2 ^ k) * (r + 2 ^ k) / W64 : Nat) : Int), .int .u64 (((r + 2 ^ k) * (r + 2 ^ k) % W64 : Nat) : Int)]) ∧ w' = w) := mul_any _ _ htb htb
      have hle := FM.two_le ((r + 2 ^ k) * (r + 2 ^ k) / W64) ((r + 2 ^ k) * (r + 2 ^ k) % W64) H (Nat.mod_lt _ (by decide))
      rw [FM.two_parts] at hle
      have cyes : Hid (∃ c, r + 2 ^ k = c * 2 ^ k) := ⟨2 * cc + 1, by rw [Nat.add_mul, Nat.one_mul, hcc, e2, Nat.mul_comm (2 ^ k) 2, ← Nat.mul_assoc, Nat.mul_comm cc 2]⟩
      have cno : Hid (∃ c, r = c * 2 ^ k) := ⟨2 * cc, by rw [hcc, e2, Nat.mul_comm (2 ^ k) 2, ← Nat.mul_assoc, Nat.mul_comm cc 2]⟩
      have Hyes : Hid (two H 0 < (r + 2 ^ k + 2 ^ k) * (r + 2 ^ k + 2 ^ k)) := FM.root_yes r k _ Hu.out
      have hle' : Hid ((r + 2 ^ k) * (r + 2 ^ k) ≤ two H 0 ↔ (r + 2 ^ k) * (r + 2 ^ k) / W64 < H ∨ (r + 2 ^ k) * (r + 2 ^ k) / W64 = H ∧ (r + 2 ^ k) * (r + 2 ^ k) % W64 = 0) := hle
      have ek : ((k + 1 : Nat) : Int) - 1 = (k : Int) := by omega
      rw [ek]
      have hk64 : k < 64 := by omega
      have ep : (2 : Int) ^ k = ((2 ^ k : Nat) : Int) := by rw [Int.natCast_pow]; rfl
      have hPw : IntKind.u64.wrap ((2 ^ k : Nat) : Int) = ((2 ^ k : Nat) : Int) := by rw [IntKind.wrap_u64]; omega
      clear hcc room e2 htb hle Hu hR hM hU ht hr hp
      generalize hTT : (r + 2 ^ k) * (r + 2 ^ k) = tt at *
      generalize hT : r + 2 ^ k = t at *
      generalize hPP : 2 ^ k = P at *
      have TT : Hid (t * t = tt) := hTT
      have T1 : Hid (r + P = t) := hT
      have T2 : Hid (2 ^ k = P) := hPP
      have C1 : Hid (∃ c, t = c * 2 ^ k) := by obtain ⟨c, hc⟩ := cyes.out; exact ⟨c, by rw [hPP]; exact hc⟩
      have C0 : Hid (∃ c, r = c * 2 ^ k) := by obtain ⟨c, hc⟩ := cno.out; exact ⟨c, by rw [hPP]; exact hc⟩
      clear hTT hT hPP cyes cno hP0
      by_cases hy : tt ≤ two H 0
      · have Hy : Hid (tt ≤ two H 0) := hy
        rcases hle'.out.1 hy with h1 | ⟨h1, h2⟩
        · have g1 : ((tt / W64 : Nat) : Int) < (H : Int) := Int.ofNat_lt.2 h1
          generalize ((tt / W64 : Nat) : Int) = q1 at *
          generalize ((tt % W64 : Nat) : Int) = q2 at *
          clear h1
          go_wp2_with (go_at_call 156; refine (hmul.out _).mono ?_; rintro e w' ⟨rfl, rfl⟩)
          go_round
          case rel => exact ⟨k, t, by omega, by go_num, rfl, C1, by show _ ≤ _; rw [TT.out]; exact Hy.out, by show _ < _; rw [T2.out]; exact Hyes.out⟩
          case measure => simp [intOf]
        · rw [h1, h2] at hmul
          clear h1 h2
          go_wp2_with (go_at_call 156; refine (hmul.out _).mono ?_; rintro e w' ⟨rfl, rfl⟩)
          go_round
          case rel => exact ⟨k, t, by omega, by go_num, rfl, C1, by show _ ≤ _; rw [TT.out]; exact Hy.out, by show _ < _; rw [T2.out]; exact Hyes.out⟩
          case measure => simp [intOf]
      · have Hy : Hid (two H 0 < tt) := Nat.lt_of_not_le hy
        have g0 : Hid (¬ ((tt / W64 < H) ∨ (tt / W64 = H ∧ tt % W64 = 0))) := fun hh => hy (hle'.out.2 hh)
        clear hy
        by_cases h1 : tt / W64 = H
        · have g2 : ¬ tt % W64 = 0 := fun hh => g0.out (Or.inr ⟨h1, hh⟩)
          rw [h1] at hmul
          have g3 : ¬ ((tt % W64 : Nat) : Int) ≤ 0 := by omega
          generalize ((tt % W64 : Nat) : Int) = q2 at *
          clear h1 g2
          go_wp2_with (go_at_call 156; refine (hmul.out _).mono ?_; rintro e w' ⟨rfl, rfl⟩)
          go_round
          case rel => exact ⟨k, r, by omega, by go_num, rfl, C0, Hl, by show _ < _; rw [T2.out, T1.out, TT.out]; exact Hy.out⟩
          case measure => simp [intOf]
        · have g2 : ¬ ((tt / W64 : Nat) : Int) < (H : Int) := fun hh => g0.out (Or.inl (Int.ofNat_lt.1 hh))
          have g3 : ¬ ((tt / W64 : Nat) : Int) = (H : Int) := fun hh => h1 (Int.ofNat_inj.1 hh)
          generalize ((tt / W64 : Nat) : Int) = q1 at *
          generalize ((tt % W64 : Nat) : Int) = q2 at *
          clear h1
          go_wp2_with (go_at_call 156; refine (hmul.out _).mono ?_; rintro e w' ⟨rfl, rfl⟩)
          go_round
          case rel => exact ⟨k, r, by omega, by go_num, rfl, C0, Hl, by show _ < _; rw [T2.out, T1.out, TT.out]; exact Hy.out⟩
          case measure => simp [intOf]
end Go.Proofs.YtdfgcagbpndabaaGreatDoor.D
namespace Go.Proofs.YtdfgcagbpndabaaGreatDoor.D
open Go.RowKit
open Go.FM (W64 two bl lost isN qn)
theorem root_fin1 (m i : Int) (p c H R : Nat) (b1 b2 d by1 e1 e2 ee u1 u2 x y y2 : Int) (z : Nat) (hm : (m == 0) = false) (hm2 : ¬ m = 0) (hp : Hid (∀ w : World, Calls Tryz.prog 154 #[.int .u64 m] w fun e w' => e = .returned (.int .i64 (p : Nat)) ∧ w' = w)) (hpb : p ≤ 64) (hb1 : IntKind.i64.wrap (64 + (p : Int)) = b1) (hb2 : IntKind.i64.wrap (b1 - 2) = b2) (hd : IntKind.i64.wrap (i - b2) = d) (ho : bits .and .i64 d 1 = 1) (hby : IntKind.i64.wrap (b2 - 1) = by1) (h64 : 64 ≤ by1) (hc : IntKind.i64.wrap (by1 - 64) = (c : Int)) (hcb : c < 64) (hH : IntKind.u64.wrap (m * 2 ^ c) = (H : Int)) (hHb : H < W64) (hR : Hid (FM.IsRoot (two H 0) R)) (hM : Hid (∀ w : World, Calls Tryz.prog 156 #[.int .u64 (R : Nat), .int .u64 (R : Nat)] w fun e w' => e = .returned (.tuple #[.int .u64 u1, .int .u64 u2]) ∧ w' = w)) (hU : RL Tryz.prog 155 #[.int .u64 (R : Nat), .int .i64 1] (.tuple #[.int .u64 x, .int .u64 y])) (ht : Hid ((u1 = (H : Int) ∧ u2 = 0 ∧ y2 = y) ∨ (¬ u1 = (H : Int) ∧ bits .or .u64 y 1 = y2) ∨ (u1 = (H : Int) ∧ ¬ u2 = 0 ∧ bits .or .u64 y 1 = y2))) (he : IntKind.i64.wrap (i - by1) = e1) (he2 : IntKind.i64.wrap (e1.tdiv 2) = e2) (hee : IntKind.i64.wrap (e2 - 1) = ee) (hr : RL Tryz.prog 122 #[fm, .bool false, .int .u64 x, .int .u64 y2, .int .i64 ee] (.int .u64 (z : Nat))) (w : World) :
    RW Tryz.prog 128 #[fm, fv false false false m i] w (.int .u64 (z : Nat)) := by
  have hN : Hid (two H 0 < 2 ^ 128) := FM.two_lt H 0 hHb (by decide)
  have hHb2 : Hid (H < W64) := hHb
  clear hHb
  go_enter Tryz.func128, Tryz.ntmps128
  go_wp2_with fail
  refine (hp.out _).mono ?_
  rintro e w' ⟨rfl, rfl⟩
  go_wp2
  go_loop [8, 9] (fun a i => ∃ j r : Nat, j ≤ 64 ∧ i = .int .i64 ((j : Int) - 1) ∧ a = .int .u64 (r : Nat) ∧ Hid (∃ c, r = c * 2 ^ j) ∧ Hid (r * r ≤ two H 0) ∧ Hid (two H 0 < (r + 2 ^ j) * (r + 2 ^ j))) (fun _ i => (intOf i + 1).toNat)
  case atStart =>
    exact ⟨64, 0, Nat.le_refl _, rfl, rfl, ⟨0, by rw [Nat.zero_mul]⟩, Nat.zero_le _, by show _ < _; rw [Nat.zero_add, ← Nat.pow_add]; exact hN.out⟩
  case round =>
    obtain ⟨j, r, hj, rfl, rfl, Hc, Hl, Hu⟩ := hrel
    rcases Nat.eq_zero_or_pos j with h0 | h0
    · subst h0
      have er : r = R := FM.root_one ⟨Hl.out, Hu.out⟩ hR.out
      subst er
      have ht := ht.out
      clear Hc Hl Hu hR
      rcases ht with ⟨rfl, rfl, rfl⟩ | ⟨ht1, ht2⟩ | ⟨rfl, ht1, ht2⟩
      · go_wp2_with fail
        refine (hM.out _).mono ?_
        rintro e w' ⟨rfl, rfl⟩
        go_wp2_with fail
        refine (hU.out _).mono ?_
        rintro e w' ⟨rfl, bs13, n13, rfl⟩
        go_wp2_with fail
        refine (hr.out _).mono ?_
        rintro e w' ⟨rfl, bs14, n14, rfl⟩
        go_wp2
        go_ret
        exact ⟨rfl, (by repeat first | exact Lz _ | apply La | apply Lv | apply Ln | apply Ld)⟩
      · go_wp2_with fail
        refine (hM.out _).mono ?_
        rintro e w' ⟨rfl, rfl⟩
        go_wp2_with fail
        refine (hU.out _).mono ?_
        rintro e w' ⟨rfl, bs16, n16, rfl⟩
        go_wp2_with fail
        refine (hr.out _).mono ?_
        rintro e w' ⟨rfl, bs17, n17, rfl⟩
        go_wp2
        go_ret
        exact ⟨rfl, (by repeat first | exact Lz _ | apply La | apply Lv | apply Ln | apply Ld)⟩
      · go_wp2_with fail
        refine (hM.out _).mono ?_
        rintro e w' ⟨rfl, rfl⟩
        go_wp2_with fail
        refine (hU.out _).mono ?_
        rintro e w' ⟨rfl, bs19, n19, rfl⟩
        go_wp2_with fail
        refine (hr.out _).mono ?_
        rintro e w' ⟨rfl, bs20, n20, rfl⟩
        go_wp2
        go_ret
        exact ⟨rfl, (by repeat first | exact Lz _ | apply La | apply Lv | apply Ln | apply Ld)⟩
    · obtain ⟨k, rfl⟩ : ∃ k, j = k + 1 := ⟨j - 1, by omega⟩
      obtain ⟨cc, hcc⟩ := Hc.out
      have room := FM.root_room r (k + 1) cc _ hj hcc Hl.out hN.out
      have eo := FM.root_or r k cc (by omega) hcc room
      have hP0 := Nat.two_pow_pos k
      have e2 : 2 ^ (k + 1) = 2 ^ k * 2 := Nat.pow_succ 2 k
      have htb : r + 2 ^ k < W64 := by simp only [W64]; omega
      have hmul : Hid (∀ w, Calls Tryz.prog 156 #[.int .u64 ((r + 2 ^ k : Nat) : Int), .int .u64 ((r + 2 ^ k : Nat) : Int)] w fun e w' => e = .returned (.tuple #[.int .u64 (((r + 2 ^ k) * (r + 2 ^ k) / W64 : Nat) : Int), .int .u64 (((r + 2 ^ k) * (r + 2 ^ k) % W64 : Nat) : Int)]) ∧ w' = w) := mul_any _ _ htb htb
      have hle := FM.two_le ((r + 2 ^ k) * (r + 2 ^ k) / W64) ((r + 2 ^ k) * (r + 2 ^ k) % W64) H (Nat.mod_lt _ (by decide))
      rw [FM.two_parts] at hle
      have cyes : Hid (∃ c, r + 2 ^ k = c * 2 ^ k) := ⟨2 * cc + 1, by rw [Nat.add_mul, Nat.one_mul, hcc, e2, Nat.mul_comm (2 ^ k) 2, ← Nat.mul_assoc, Nat.mul_comm cc 2]⟩
      have cno : Hid (∃ c, r = c * 2 ^ k) := ⟨2 * cc, by rw [hcc, e2, Nat.mul_comm (2 ^ k) 2, ← Nat.mul_assoc, Nat.mul_comm cc 2]⟩
      have Hyes : Hid (two H 0 < (r + 2 ^ k + 2 ^ k) * (r + 2 ^ k + 2 ^ k)) := FM.root_yes r k _ Hu.out
      have hle' : Hid ((r + 2 ^ k) * (r + 2 ^ k) ≤ two H 0 ↔ (r + 2 ^ k) * (r + 2 ^ k) / W64 < H ∨ (r + 2 ^ k) * (r + 2 ^ k) / W64 = H ∧ (r + 2 ^ k) * (r + 2 ^ k) % W64 = 0) := hle
      have ek : ((k + 1 : Nat) : Int) - 1 = (k : Int) := by omega
      rw [ek]
      have hk64 : k < 64 := by omega
      have ep : (2 : Int) ^ k = ((2 ^ k : Nat) : Int) := by rw [Int.natCast_pow]; rfl
      have hPw : IntKind.u64.wrap ((2 ^ k : Nat) : Int) = ((2 ^ k : Nat) : Int) := by rw [IntKind.wrap_u64]; omega
      clear hcc room e2 htb hle Hu hR hM hU ht hr hp
      generalize hTT : (r + 2 ^ k) * (r + 2 ^ k) = tt at *
      generalize hT : r + 2 ^ k = t at *
      generalize hPP : 2 ^ k = P at *
      have TT : Hid (t * t = tt) := hTT
      have T1 : Hid (r + P = t) := hT
      have T2 : Hid (2 ^ k = P) := hPP
      have C1 : Hid (∃ c, t = c * 2 ^ k) := by obtain ⟨c, hc⟩ := cyes.out; exact ⟨c, by rw [hPP]; exact hc⟩
      have C0 : Hid (∃ c, r = c * 2 ^ k) := by obtain ⟨c, hc⟩ := cno.out; exact ⟨c, by rw [hPP]; exact hc⟩
      clear hTT hT hPP cyes cno hP0
      by_cases hy : tt ≤ two H 0
      · have Hy : Hid (tt ≤ two H 0) := hy
        rcases hle'.out.1 hy with h1 | ⟨h1, h2⟩
        · have g1 : ((tt / W64 : Nat) : Int) < (H : Int) := Int.ofNat_lt.2 h1
          generalize ((tt / W64 : Nat) : Int) = q1 at *
          generalize ((tt % W64 : Nat) : Int) = q2 at *
          clear h1
          go_wp2_with (go_at_call 156; refine (hmul.out _).mono ?_; rintro e w' ⟨rfl, rfl⟩)
          go_round
          case rel => exact ⟨k, t, by omega, by go_num, rfl, C1, by show _ ≤ _; rw [TT.out]; exact Hy.out, by show _ < _; rw [T2.out]; exact Hyes.out⟩
          case measure => simp [intOf]
        · rw [h1, h2] at hmul
          clear h1 h2
          go_wp2_with (go_at_call 156; refine (hmul.out _).mono ?_; rintro e w' ⟨rfl, rfl⟩)
          go_round
          case rel => exact ⟨k, t, by omega, by go_num, rfl, C1, by show _ ≤ _; rw [TT.out]; exact Hy.out, by show _ < _; rw [T2.out]; exact Hyes.out⟩
          case measure => simp [intOf]
      · have Hy : Hid (two H 0 < tt) := Nat.lt_of_not_le hy
        have g0 : Hid (¬ ((tt / W64 < H) ∨ (tt / W64 = H ∧ tt % W64 = 0))) := fun hh => hy (hle'.out.2 hh)
        clear hy
        by_cases h1 : tt / W64 = H
        · have g2 : ¬ tt % W64 = 0 := fun hh => g0.out (Or.inr ⟨h1, hh⟩)
          rw [h1] at hmul
          have g3 : ¬ ((tt % W64 : Nat) : Int) ≤ 0 := by omega
          generalize ((tt % W64 : Nat) : Int) = q2 at *
          clear h1 g2
          go_wp2_with (go_at_call 156; refine (hmul.out _).mono ?_; rintro e w' ⟨rfl, rfl⟩)
          go_round
          case rel => exact ⟨k, r, by omega, by go_num, rfl, C0, Hl, by show _ < _; rw [T2.out, T1.out, TT.out]; exact Hy.out⟩
          case measure => simp [intOf]
        · have g2 : ¬ ((tt / W64 : Nat) : Int) < (H : Int) := fun hh => g0.out (Or.inl (Int.ofNat_lt.1 hh))
          have g3 : ¬ ((tt / W64 : Nat) : Int) = (H : Int) := fun hh => h1 (Int.ofNat_inj.1 hh)
          generalize ((tt / W64 : Nat) : Int) = q1 at *
          generalize ((tt % W64 : Nat) : Int) = q2 at *
          clear h1
          go_wp2_with (go_at_call 156; refine (hmul.out _).mono ?_; rintro e w' ⟨rfl, rfl⟩)
          go_round
          case rel => exact ⟨k, r, by omega, by go_num, rfl, C0, Hl, by show _ < _; rw [T2.out, T1.out, TT.out]; exact Hy.out⟩
          case measure => simp [intOf]
end Go.Proofs.YtdfgcagbpndabaaGreatDoor.D
