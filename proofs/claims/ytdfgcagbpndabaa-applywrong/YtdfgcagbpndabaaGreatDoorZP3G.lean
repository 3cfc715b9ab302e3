/- Contracts of package f32n over this seat's translation: Un and Bin. -/
import Derived.Test.YtdfgcagbpndabaaGreatDoorZP3
import Derived.Test.YtdfgcagbpndabaaGreatDoorZD
set_option maxRecDepth 100000
set_option linter.unusedVariables false
namespace Go.Proofs.YtdfgcagbpndabaaGreatDoor.P3
open Go.RowKit
open Go.FM (isN fixn qn)
def unI (op a : Int) : Int × Int := if 139 ≤ op ∧ op ≤ 145 then ((unW op (a % 4294967296).toNat : Nat), 0) else (0, 400)
def binW (op : Int) (x y : Nat) : Nat :=
  if op ≤ 96 then (if cmpW op x y then 1 else 0) else if op ≤ 149 then arithW op x y else if op = 150 then FM.minW sf x y else if op = 151 then FM.maxW sf x y
  else x % 2147483648 ||| (y &&& 2147483648)
def binI (op a b : Int) : Int × Int := if (91 ≤ op ∧ op ≤ 96) ∨ (146 ≤ op ∧ op ≤ 152) then ((binW op (a % 4294967296).toNat (b % 4294967296).toNat : Nat), 0) else (0, 400)
theorem low_nat (a : Int) : ∃ x : Nat, a % 4294967296 = (x : Int) ∧ x < 4294967296 ∧ (a % 4294967296).toNat = x := ⟨(a % 4294967296).toNat, by omega, by omega, rfl⟩
theorem un_139 (a : Int) (x : Nat) (hx : Hid (a % 4294967296 = (x : Int))) (hb : Hid (x < 4294967296)) (w : World) :
    RW Tryz.prog 59 #[.int .i64 139, .int .i64 a] w (.tuple #[.int .i64 ((unW 139 x : Nat) : Int), .int .i64 0]) := by
  rw [unW_139]
  have h1 := FM.andNot_top x hb.out
  go_enter Tryz.func59, Tryz.ntmps59
  go_wp2_with (go_at_call 45; refine (low_eq a x hx _).mono ?_; rintro e w' ⟨rfl, rfl⟩)
  go_ret2
  exact ⟨rfl, (by repeat first | exact Lz _ | apply La | apply Lv | apply Ln | apply Ld)⟩
theorem un_140 (a : Int) (x : Nat) (hx : Hid (a % 4294967296 = (x : Int))) (hb : Hid (x < 4294967296)) (w : World) :
    RW Tryz.prog 59 #[.int .i64 140, .int .i64 a] w (.tuple #[.int .i64 ((unW 140 x : Nat) : Int), .int .i64 0]) := by
  rw [unW_140]
  have h1 : bits .xor .i64 (x : Int) 2147483648 = ((x ^^^ 2147483648 : Nat) : Int) := FM.xor_i x 2147483648 hb.out (by decide)
  go_enter Tryz.func59, Tryz.ntmps59
  go_wp2_with (go_at_call 45; refine (low_eq a x hx _).mono ?_; rintro e w' ⟨rfl, rfl⟩)
  go_ret2
  exact ⟨rfl, (by repeat first | exact Lz _ | apply La | apply Lv | apply Ln | apply Ld)⟩
theorem un_141 (a : Int) (x : Nat) (hx : Hid (a % 4294967296 = (x : Int))) (hb : Hid (x < 4294967296)) (w : World) :
    RW Tryz.prog 59 #[.int .i64 141, .int .i64 a] w (.tuple #[.int .i64 ((unW 141 x : Nat) : Int), .int .i64 0]) := by
  obtain ⟨R, hR⟩ : ∃ R, unW 141 x = R := ⟨_, rfl⟩
  rw [hR]
  have h1 : Hid (∀ w, Calls Tryz.prog 94 #[.int .i64 141, .float .f32 x] w fun e w' => ∃ b : Nat, e = .returned (.float .f32 b) ∧ Later w w' ∧ (b : Int) < 4294967296 ∧ fixn sf b = R) := by
    intro w
    rw [← hR]
    exact reshape_141 x hb.out w
  have h2 : Hid ((x : Int) < 4294967296) := Int.ofNat_lt.2 hb.out
  clear hR
  go_enter Tryz.func59, Tryz.ntmps59
  go_wp2_with (first | (go_at_call 45; refine (low_eq a x hx _).mono ?_; rintro e w' ⟨rfl, rfl⟩) | (go_at_call 95; refine (floatOf_any x h2.out _).mono ?_; rintro e w' ⟨rfl, rfl⟩) | (go_at_call 94; refine (h1.out _).mono ?_; rintro e w' ⟨b, rfl, ⟨bs, n, rfl⟩, hc, hd⟩; have hc : Hid _ := hc; have hd : Hid _ := hd) | (go_at_call 93; refine (bitsOf_any _ hc.out _).mono ?_; rintro e w' ⟨rfl, rfl⟩; rw [hd.out]))
  go_ret2
  exact ⟨rfl, (by repeat first | exact Lz _ | apply La | apply Lv | apply Ln | apply Ld)⟩
theorem un_142 (a : Int) (x : Nat) (hx : Hid (a % 4294967296 = (x : Int))) (hb : Hid (x < 4294967296)) (w : World) :
    RW Tryz.prog 59 #[.int .i64 142, .int .i64 a] w (.tuple #[.int .i64 ((unW 142 x : Nat) : Int), .int .i64 0]) := by
  obtain ⟨R, hR⟩ : ∃ R, unW 142 x = R := ⟨_, rfl⟩
  rw [hR]
  have h1 : Hid (∀ w, Calls Tryz.prog 94 #[.int .i64 142, .float .f32 x] w fun e w' => ∃ b : Nat, e = .returned (.float .f32 b) ∧ Later w w' ∧ (b : Int) < 4294967296 ∧ fixn sf b = R) := by
    intro w
    rw [← hR]
    exact reshape_142 x hb.out w
  have h2 : Hid ((x : Int) < 4294967296) := Int.ofNat_lt.2 hb.out
  clear hR
  go_enter Tryz.func59, Tryz.ntmps59
  go_wp2_with (first | (go_at_call 45; refine (low_eq a x hx _).mono ?_; rintro e w' ⟨rfl, rfl⟩) | (go_at_call 95; refine (floatOf_any x h2.out _).mono ?_; rintro e w' ⟨rfl, rfl⟩) | (go_at_call 94; refine (h1.out _).mono ?_; rintro e w' ⟨b, rfl, ⟨bs, n, rfl⟩, hc, hd⟩; have hc : Hid _ := hc; have hd : Hid _ := hd) | (go_at_call 93; refine (bitsOf_any _ hc.out _).mono ?_; rintro e w' ⟨rfl, rfl⟩; rw [hd.out]))
  go_ret2
  exact ⟨rfl, (by repeat first | exact Lz _ | apply La | apply Lv | apply Ln | apply Ld)⟩
theorem un_143 (a : Int) (x : Nat) (hx : Hid (a % 4294967296 = (x : Int))) (hb : Hid (x < 4294967296)) (w : World) :
    RW Tryz.prog 59 #[.int .i64 143, .int .i64 a] w (.tuple #[.int .i64 ((unW 143 x : Nat) : Int), .int .i64 0]) := by
  obtain ⟨R, hR⟩ : ∃ R, unW 143 x = R := ⟨_, rfl⟩
  rw [hR]
  have h1 : Hid (∀ w, Calls Tryz.prog 94 #[.int .i64 143, .float .f32 x] w fun e w' => ∃ b : Nat, e = .returned (.float .f32 b) ∧ Later w w' ∧ (b : Int) < 4294967296 ∧ fixn sf b = R) := by
    intro w
    rw [← hR]
    exact reshape_143 x hb.out w
  have h2 : Hid ((x : Int) < 4294967296) := Int.ofNat_lt.2 hb.out
  clear hR
  go_enter Tryz.func59, Tryz.ntmps59
  go_wp2_with (first | (go_at_call 45; refine (low_eq a x hx _).mono ?_; rintro e w' ⟨rfl, rfl⟩) | (go_at_call 95; refine (floatOf_any x h2.out _).mono ?_; rintro e w' ⟨rfl, rfl⟩) | (go_at_call 94; refine (h1.out _).mono ?_; rintro e w' ⟨b, rfl, ⟨bs, n, rfl⟩, hc, hd⟩; have hc : Hid _ := hc; have hd : Hid _ := hd) | (go_at_call 93; refine (bitsOf_any _ hc.out _).mono ?_; rintro e w' ⟨rfl, rfl⟩; rw [hd.out]))
  go_ret2
  exact ⟨rfl, (by repeat first | exact Lz _ | apply La | apply Lv | apply Ln | apply Ld)⟩
theorem un_144 (a : Int) (x : Nat) (hx : Hid (a % 4294967296 = (x : Int))) (hb : Hid (x < 4294967296)) (w : World) :
    RW Tryz.prog 59 #[.int .i64 144, .int .i64 a] w (.tuple #[.int .i64 ((unW 144 x : Nat) : Int), .int .i64 0]) := by
  obtain ⟨R, hR⟩ : ∃ R, unW 144 x = R := ⟨_, rfl⟩
  rw [hR]
  have h1 : Hid (∀ w, Calls Tryz.prog 94 #[.int .i64 144, .float .f32 x] w fun e w' => ∃ b : Nat, e = .returned (.float .f32 b) ∧ Later w w' ∧ (b : Int) < 4294967296 ∧ fixn sf b = R) := by
    intro w
    rw [← hR]
    exact reshape_144 x hb.out w
  have h2 : Hid ((x : Int) < 4294967296) := Int.ofNat_lt.2 hb.out
  clear hR
  go_enter Tryz.func59, Tryz.ntmps59
  go_wp2_with (first | (go_at_call 45; refine (low_eq a x hx _).mono ?_; rintro e w' ⟨rfl, rfl⟩) | (go_at_call 95; refine (floatOf_any x h2.out _).mono ?_; rintro e w' ⟨rfl, rfl⟩) | (go_at_call 94; refine (h1.out _).mono ?_; rintro e w' ⟨b, rfl, ⟨bs, n, rfl⟩, hc, hd⟩; have hc : Hid _ := hc; have hd : Hid _ := hd) | (go_at_call 93; refine (bitsOf_any _ hc.out _).mono ?_; rintro e w' ⟨rfl, rfl⟩; rw [hd.out]))
  go_ret2
  exact ⟨rfl, (by repeat first | exact Lz _ | apply La | apply Lv | apply Ln | apply Ld)⟩
theorem un_145 (a : Int) (x : Nat) (hx : Hid (a % 4294967296 = (x : Int))) (hb : Hid (x < 4294967296)) (w : World) :
    RW Tryz.prog 59 #[.int .i64 145, .int .i64 a] w (.tuple #[.int .i64 ((unW 145 x : Nat) : Int), .int .i64 0]) := by
  obtain ⟨R, hR⟩ : ∃ R, unW 145 x = R := ⟨_, rfl⟩
  rw [hR]
  have h1 : Hid (∀ w, Calls Tryz.prog 94 #[.int .i64 145, .float .f32 x] w fun e w' => ∃ b : Nat, e = .returned (.float .f32 b) ∧ Later w w' ∧ (b : Int) < 4294967296 ∧ fixn sf b = R) := by
    intro w
    rw [← hR]
    rw [unW_145]; exact reshape_145 x _ hb.out rfl w
  have h2 : Hid ((x : Int) < 4294967296) := Int.ofNat_lt.2 hb.out
  clear hR
  go_enter Tryz.func59, Tryz.ntmps59
  go_wp2_with (first | (go_at_call 45; refine (low_eq a x hx _).mono ?_; rintro e w' ⟨rfl, rfl⟩) | (go_at_call 95; refine (floatOf_any x h2.out _).mono ?_; rintro e w' ⟨rfl, rfl⟩) | (go_at_call 94; refine (h1.out _).mono ?_; rintro e w' ⟨b, rfl, ⟨bs, n, rfl⟩, hc, hd⟩; have hc : Hid _ := hc; have hd : Hid _ := hd) | (go_at_call 93; refine (bitsOf_any _ hc.out _).mono ?_; rintro e w' ⟨rfl, rfl⟩; rw [hd.out]))
  go_ret2
  exact ⟨rfl, (by repeat first | exact Lz _ | apply La | apply Lv | apply Ln | apply Ld)⟩
theorem un_bad (op a : Int) (h : op < 139 ∨ 145 < op) (w : World) :
    RW Tryz.prog 59 #[.int .i64 op, .int .i64 a] w (.tuple #[.int .i64 0, .int .i64 400]) := by
  have h1 : ¬ op = 139 := by omega
  have h2 : ¬ op = 140 := by omega
  have h3 : Hid (∀ a : Int, ∃ x : Nat, a % 4294967296 = (x : Int) ∧ x < 4294967296 ∧ (a % 4294967296).toNat = x) := low_nat
  rcases h with h | h
  · have h4 : ¬ (141 ≤ op) := by omega
    go_enter Tryz.func59, Tryz.ntmps59
    go_wp2_with (go_at_call 45; refine (low_any a _).mono ?_; rintro e w' ⟨rfl, rfl⟩)
    go_ret2
    exact ⟨rfl, (by repeat first | exact Lz _ | apply La | apply Lv | apply Ln | apply Ld)⟩
  · have h4 : 141 ≤ op := by omega
    have h5 : ¬ (op ≤ 145) := by omega
    go_enter Tryz.func59, Tryz.ntmps59
    go_wp2_with (go_at_call 45; refine (low_any a _).mono ?_; rintro e w' ⟨rfl, rfl⟩)
    go_ret2
    exact ⟨rfl, (by repeat first | exact Lz _ | apply La | apply Lv | apply Ln | apply Ld)⟩
theorem un_any (op a : Int) (w : World) :
    RW Tryz.prog 59 #[.int .i64 op, .int .i64 a] w (.tuple #[.int .i64 (unI op a).1, .int .i64 (unI op a).2]) := by
  unfold unI
  by_cases h : 139 ≤ op ∧ op ≤ 145
  · obtain ⟨x, h1, h2, h3⟩ := low_nat a
    rw [if_pos h, h3]
    have hc : op = 139 ∨ op = 140 ∨ op = 141 ∨ op = 142 ∨ op = 143 ∨ op = 144 ∨ op = 145 := by omega
    rcases hc with rfl | rfl | rfl | rfl | rfl | rfl | rfl
    · exact un_139 a x h1 h2 w
    · exact un_140 a x h1 h2 w
    · exact un_141 a x h1 h2 w
    · exact un_142 a x h1 h2 w
    · exact un_143 a x h1 h2 w
    · exact un_144 a x h1 h2 w
    · exact un_145 a x h1 h2 w
  · rw [if_neg h]
    exact un_bad op a (by omega) w
end Go.Proofs.YtdfgcagbpndabaaGreatDoor.P3
namespace Go.Proofs.YtdfgcagbpndabaaGreatDoor.P3
open Go.RowKit
open Go.FM (isN fixn qn)
theorem fl_nat (c : Bool) : fl c = ((if c then 1 else 0 : Nat) : Int) := by cases c <;> rfl
theorem bin_cmp0 (op a b : Int) (x y : Nat) (hx : Hid (a % 4294967296 = (x : Int))) (hy : Hid (b % 4294967296 = (y : Int))) (hbx : Hid (x < 4294967296)) (hby : Hid (y < 4294967296)) (h : 91 ≤ op ∧ op ≤ 96) (w : World) :
    Calls Tryz.prog 63 #[.int .i64 op, .int .i64 a, .int .i64 b] w fun e w' => e = .returned (.tuple #[.int .i64 ((if cmpW op x y then 1 else 0 : Nat) : Int), .int .i64 0]) ∧ w' = w := by
  rw [← fl_nat]
  have h4 := h.1
  have h5 := h.2
  have h2 : Hid ((x : Int) < 4294967296) := Int.ofNat_lt.2 hbx.out
  have h3 : Hid ((y : Int) < 4294967296) := Int.ofNat_lt.2 hby.out
  have h6 : Hid (91 ≤ op ∧ op ≤ 96) := h
  clear h
  go_enter Tryz.func63, Tryz.ntmps63
  go_wp2_with (first | (first | (go_at_call_of 45 a; refine (low_eq a x hx _).mono ?_; rintro e w' ⟨rfl, rfl⟩) | (go_at_call_of 45 b; refine (low_eq b y hy _).mono ?_; rintro e w' ⟨rfl, rfl⟩)) | (first | (go_at_call_of 95 x; refine (floatOf_any x h2.out _).mono ?_; rintro e w' ⟨rfl, rfl⟩) | (go_at_call_of 95 y; refine (floatOf_any y h3.out _).mono ?_; rintro e w' ⟨rfl, rfl⟩)) | (go_at_call 110; refine (compare_any op x y h6.out _).mono ?_; rintro e w' ⟨rfl, rfl⟩) | (go_at_call 109; refine (flag_any _ _).mono ?_; rintro e w' ⟨rfl, rfl⟩))
  go_ret2
  exact ⟨rfl, rfl⟩
theorem bin_cmp (op a b : Int) (x y : Nat) (hx : Hid (a % 4294967296 = (x : Int))) (hy : Hid (b % 4294967296 = (y : Int))) (hbx : Hid (x < 4294967296)) (hby : Hid (y < 4294967296)) (h : 91 ≤ op ∧ op ≤ 96) (w : World) :
    Calls Tryz.prog 63 #[.int .i64 op, .int .i64 a, .int .i64 b] w fun e w' => e = .returned (.tuple #[.int .i64 ((if cmpW op x y then 1 else 0 : Nat) : Int), .int .i64 0]) ∧ Later w w' :=
  (bin_cmp0 op a b x y hx hy hbx hby h w).mono fun e w' h => ⟨h.1, by rw [h.2]; exact Lz _⟩
theorem bin_146 (a b : Int) (x y R : Nat) (hx : Hid (a % 4294967296 = (x : Int))) (hy : Hid (b % 4294967296 = (y : Int))) (hbx : Hid (x < 4294967296)) (hby : Hid (y < 4294967296)) (hR : arithW 146 x y = R) (w : World) :
    RW Tryz.prog 63 #[.int .i64 146, .int .i64 a, .int .i64 b] w (.tuple #[.int .i64 ((R : Nat) : Int), .int .i64 0]) := by
  have h1 : Hid (∀ w, Calls Tryz.prog 111 #[.int .i64 146, .float .f32 x, .float .f32 y] w fun e w' => ∃ b : Nat, e = .returned (.float .f32 b) ∧ Later w w' ∧ (b : Int) < 4294967296 ∧ fixn sf b = R) := by
    intro w
    rw [← hR]
    exact combine_add x y w
  have h2 : Hid ((x : Int) < 4294967296) := Int.ofNat_lt.2 hbx.out
  have h3 : Hid ((y : Int) < 4294967296) := Int.ofNat_lt.2 hby.out
  clear hR
  go_enter Tryz.func63, Tryz.ntmps63
  go_wp2_with (first | (first | (go_at_call_of 45 a; refine (low_eq a x hx _).mono ?_; rintro e w' ⟨rfl, rfl⟩) | (go_at_call_of 45 b; refine (low_eq b y hy _).mono ?_; rintro e w' ⟨rfl, rfl⟩)) | (first | (go_at_call_of 95 x; refine (floatOf_any x h2.out _).mono ?_; rintro e w' ⟨rfl, rfl⟩) | (go_at_call_of 95 y; refine (floatOf_any y h3.out _).mono ?_; rintro e w' ⟨rfl, rfl⟩)) | (go_at_call 111; refine (h1.out _).mono ?_; rintro e w' ⟨z, rfl, ⟨bs, n, rfl⟩, hc, hd⟩; have hc : Hid _ := hc; have hd : Hid _ := hd) | (go_at_call 93; refine (bitsOf_any _ hc.out _).mono ?_; rintro e w' ⟨rfl, rfl⟩; rw [hd.out]))
  go_ret2
  exact ⟨rfl, (by repeat first | exact Lz _ | apply La | apply Lv | apply Ln | apply Ld)⟩
theorem bin_147 (a b : Int) (x y R : Nat) (hx : Hid (a % 4294967296 = (x : Int))) (hy : Hid (b % 4294967296 = (y : Int))) (hbx : Hid (x < 4294967296)) (hby : Hid (y < 4294967296)) (hR : arithW 147 x y = R) (w : World) :
    RW Tryz.prog 63 #[.int .i64 147, .int .i64 a, .int .i64 b] w (.tuple #[.int .i64 ((R : Nat) : Int), .int .i64 0]) := by
  have h1 : Hid (∀ w, Calls Tryz.prog 111 #[.int .i64 147, .float .f32 x, .float .f32 y] w fun e w' => ∃ b : Nat, e = .returned (.float .f32 b) ∧ Later w w' ∧ (b : Int) < 4294967296 ∧ fixn sf b = R) := by
    intro w
    rw [← hR]
    exact combine_sub x y w
  have h2 : Hid ((x : Int) < 4294967296) := Int.ofNat_lt.2 hbx.out
  have h3 : Hid ((y : Int) < 4294967296) := Int.ofNat_lt.2 hby.out
  clear hR
  go_enter Tryz.func63, Tryz.ntmps63
  go_wp2_with (first | (first | (go_at_call_of 45 a; refine (low_eq a x hx _).mono ?_; rintro e w' ⟨rfl, rfl⟩) | (go_at_call_of 45 b; refine (low_eq b y hy _).mono ?_; rintro e w' ⟨rfl, rfl⟩)) | (first | (go_at_call_of 95 x; refine (floatOf_any x h2.out _).mono ?_; rintro e w' ⟨rfl, rfl⟩) | (go_at_call_of 95 y; refine (floatOf_any y h3.out _).mono ?_; rintro e w' ⟨rfl, rfl⟩)) | (go_at_call 111; refine (h1.out _).mono ?_; rintro e w' ⟨z, rfl, ⟨bs, n, rfl⟩, hc, hd⟩; have hc : Hid _ := hc; have hd : Hid _ := hd) | (go_at_call 93; refine (bitsOf_any _ hc.out _).mono ?_; rintro e w' ⟨rfl, rfl⟩; rw [hd.out]))
  go_ret2
  exact ⟨rfl, (by repeat first | exact Lz _ | apply La | apply Lv | apply Ln | apply Ld)⟩
theorem bin_148 (a b : Int) (x y R : Nat) (hx : Hid (a % 4294967296 = (x : Int))) (hy : Hid (b % 4294967296 = (y : Int))) (hbx : Hid (x < 4294967296)) (hby : Hid (y < 4294967296)) (hR : arithW 148 x y = R) (w : World) :
    RW Tryz.prog 63 #[.int .i64 148, .int .i64 a, .int .i64 b] w (.tuple #[.int .i64 ((R : Nat) : Int), .int .i64 0]) := by
  have h1 : Hid (∀ w, Calls Tryz.prog 111 #[.int .i64 148, .float .f32 x, .float .f32 y] w fun e w' => ∃ b : Nat, e = .returned (.float .f32 b) ∧ Later w w' ∧ (b : Int) < 4294967296 ∧ fixn sf b = R) := by
    intro w
    rw [← hR]
    exact combine_mul x y w
  have h2 : Hid ((x : Int) < 4294967296) := Int.ofNat_lt.2 hbx.out
  have h3 : Hid ((y : Int) < 4294967296) := Int.ofNat_lt.2 hby.out
  clear hR
  go_enter Tryz.func63, Tryz.ntmps63
  go_wp2_with (first | (first | (go_at_call_of 45 a; refine (low_eq a x hx _).mono ?_; rintro e w' ⟨rfl, rfl⟩) | (go_at_call_of 45 b; refine (low_eq b y hy _).mono ?_; rintro e w' ⟨rfl, rfl⟩)) | (first | (go_at_call_of 95 x; refine (floatOf_any x h2.out _).mono ?_; rintro e w' ⟨rfl, rfl⟩) | (go_at_call_of 95 y; refine (floatOf_any y h3.out _).mono ?_; rintro e w' ⟨rfl, rfl⟩)) | (go_at_call 111; refine (h1.out _).mono ?_; rintro e w' ⟨z, rfl, ⟨bs, n, rfl⟩, hc, hd⟩; have hc : Hid _ := hc; have hd : Hid _ := hd) | (go_at_call 93; refine (bitsOf_any _ hc.out _).mono ?_; rintro e w' ⟨rfl, rfl⟩; rw [hd.out]))
  go_ret2
  exact ⟨rfl, (by repeat first | exact Lz _ | apply La | apply Lv | apply Ln | apply Ld)⟩
theorem bin_149 (a b : Int) (x y R : Nat) (hx : Hid (a % 4294967296 = (x : Int))) (hy : Hid (b % 4294967296 = (y : Int))) (hbx : Hid (x < 4294967296)) (hby : Hid (y < 4294967296)) (hR : arithW 149 x y = R) (w : World) :
    RW Tryz.prog 63 #[.int .i64 149, .int .i64 a, .int .i64 b] w (.tuple #[.int .i64 ((R : Nat) : Int), .int .i64 0]) := by
  have h1 : Hid (∀ w, Calls Tryz.prog 111 #[.int .i64 149, .float .f32 x, .float .f32 y] w fun e w' => ∃ b : Nat, e = .returned (.float .f32 b) ∧ Later w w' ∧ (b : Int) < 4294967296 ∧ fixn sf b = R) := by
    intro w
    rw [← hR]
    exact combine_div x y w
  have h2 : Hid ((x : Int) < 4294967296) := Int.ofNat_lt.2 hbx.out
  have h3 : Hid ((y : Int) < 4294967296) := Int.ofNat_lt.2 hby.out
  clear hR
  go_enter Tryz.func63, Tryz.ntmps63
  go_wp2_with (first | (first | (go_at_call_of 45 a; refine (low_eq a x hx _).mono ?_; rintro e w' ⟨rfl, rfl⟩) | (go_at_call_of 45 b; refine (low_eq b y hy _).mono ?_; rintro e w' ⟨rfl, rfl⟩)) | (first | (go_at_call_of 95 x; refine (floatOf_any x h2.out _).mono ?_; rintro e w' ⟨rfl, rfl⟩) | (go_at_call_of 95 y; refine (floatOf_any y h3.out _).mono ?_; rintro e w' ⟨rfl, rfl⟩)) | (go_at_call 111; refine (h1.out _).mono ?_; rintro e w' ⟨z, rfl, ⟨bs, n, rfl⟩, hc, hd⟩; have hc : Hid _ := hc; have hd : Hid _ := hd) | (go_at_call 93; refine (bitsOf_any _ hc.out _).mono ?_; rintro e w' ⟨rfl, rfl⟩; rw [hd.out]))
  go_ret2
  exact ⟨rfl, (by repeat first | exact Lz _ | apply La | apply Lv | apply Ln | apply Ld)⟩
theorem bin_150 (a b : Int) (x y R : Nat) (hx : Hid (a % 4294967296 = (x : Int))) (hy : Hid (b % 4294967296 = (y : Int))) (hbx : Hid (x < 4294967296)) (hby : Hid (y < 4294967296)) (hR : FM.minW sf x y = R) (w : World) :
    RW Tryz.prog 63 #[.int .i64 150, .int .i64 a, .int .i64 b] w (.tuple #[.int .i64 ((R : Nat) : Int), .int .i64 0]) := by
  have h1 : Hid (∀ w, Calls Tryz.prog 112 #[.int .i64 (x : Int), .int .i64 (y : Int)] w fun e w' => e = .returned (.int .i64 (R : Nat)) ∧ w' = w) := by
    intro w
    rw [← hR]
    exact least_any x y hbx hby w
  clear hR
  go_enter Tryz.func63, Tryz.ntmps63
  go_wp2_with (first | (first | (go_at_call_of 45 a; refine (low_eq a x hx _).mono ?_; rintro e w' ⟨rfl, rfl⟩) | (go_at_call_of 45 b; refine (low_eq b y hy _).mono ?_; rintro e w' ⟨rfl, rfl⟩)) | (go_at_call 112; refine (h1.out _).mono ?_; rintro e w' ⟨rfl, rfl⟩))
  go_ret2
  exact ⟨rfl, (by repeat first | exact Lz _ | apply La | apply Lv | apply Ln | apply Ld)⟩
theorem bin_151 (a b : Int) (x y R : Nat) (hx : Hid (a % 4294967296 = (x : Int))) (hy : Hid (b % 4294967296 = (y : Int))) (hbx : Hid (x < 4294967296)) (hby : Hid (y < 4294967296)) (hR : FM.maxW sf x y = R) (w : World) :
    RW Tryz.prog 63 #[.int .i64 151, .int .i64 a, .int .i64 b] w (.tuple #[.int .i64 ((R : Nat) : Int), .int .i64 0]) := by
  have h1 : Hid (∀ w, Calls Tryz.prog 113 #[.int .i64 (x : Int), .int .i64 (y : Int)] w fun e w' => e = .returned (.int .i64 (R : Nat)) ∧ w' = w) := by
    intro w
    rw [← hR]
    exact most_any x y hbx hby w
  clear hR
  go_enter Tryz.func63, Tryz.ntmps63
  go_wp2_with (first | (first | (go_at_call_of 45 a; refine (low_eq a x hx _).mono ?_; rintro e w' ⟨rfl, rfl⟩) | (go_at_call_of 45 b; refine (low_eq b y hy _).mono ?_; rintro e w' ⟨rfl, rfl⟩)) | (go_at_call 113; refine (h1.out _).mono ?_; rintro e w' ⟨rfl, rfl⟩))
  go_ret2
  exact ⟨rfl, (by repeat first | exact Lz _ | apply La | apply Lv | apply Ln | apply Ld)⟩
theorem bin_152 (a b : Int) (x y R : Nat) (hx : Hid (a % 4294967296 = (x : Int))) (hy : Hid (b % 4294967296 = (y : Int))) (hbx : Hid (x < 4294967296)) (hby : Hid (y < 4294967296)) (hR : x % 2147483648 ||| (y &&& 2147483648) = R) (w : World) :
    RW Tryz.prog 63 #[.int .i64 152, .int .i64 a, .int .i64 b] w (.tuple #[.int .i64 ((R : Nat) : Int), .int .i64 0]) := by
  have h1 := FM.andNot_top x hbx.out
  have h2 : bits .and .i64 (y : Int) 2147483648 = ((y &&& 2147483648 : Nat) : Int) := FM.and_i y 2147483648 hby.out (by decide)
  have h3 : bits .or .i64 ((x % 2147483648 : Nat) : Int) ((y &&& 2147483648 : Nat) : Int) = (R : Int) := by
    rw [← hR]
    exact FM.or_i _ _ (by have := Nat.mod_lt x (show 0 < 2147483648 by decide); omega) (Nat.lt_of_le_of_lt Nat.and_le_right (by decide))
  clear hR
  have h4 : Hid (x % 2147483648 = x % 2147483648) := rfl
  generalize y &&& 2147483648 = u at *
  generalize x % 2147483648 = v at *
  go_enter Tryz.func63, Tryz.ntmps63
  go_wp2_with (first | (go_at_call_of 45 a; refine (low_eq a x hx _).mono ?_; rintro e w' ⟨rfl, rfl⟩) | (go_at_call_of 45 b; refine (low_eq b y hy _).mono ?_; rintro e w' ⟨rfl, rfl⟩))
  go_ret2
  exact ⟨rfl, (by repeat first | exact Lz _ | apply La | apply Lv | apply Ln | apply Ld)⟩
theorem bin_bad (op a b : Int) (h : ¬ ((91 ≤ op ∧ op ≤ 96) ∨ (146 ≤ op ∧ op ≤ 152))) (w : World) :
    RW Tryz.prog 63 #[.int .i64 op, .int .i64 a, .int .i64 b] w (.tuple #[.int .i64 0, .int .i64 400]) := by
  have h1 : ¬ op = 150 := by omega
  have h2 : ¬ op = 151 := by omega
  have h3 : ¬ op = 152 := by omega
  have hc : op < 91 ∨ (96 < op ∧ op < 146) ∨ 152 < op := by omega
  clear h
  rcases hc with h | ⟨h, h'⟩ | h
  · have h4 : ¬ (91 ≤ op) := by omega
    have h5 : ¬ (146 ≤ op) := by omega
    go_enter Tryz.func63, Tryz.ntmps63
    go_wp2_with (go_at_call 45; refine (low_any _ _).mono ?_; rintro e w' ⟨rfl, rfl⟩)
    go_ret2
    exact ⟨rfl, (by repeat first | exact Lz _ | apply La | apply Lv | apply Ln | apply Ld)⟩
  · have h4 : 91 ≤ op := by omega
    have h6 : ¬ (op ≤ 96) := by omega
    have h5 : ¬ (146 ≤ op) := by omega
    go_enter Tryz.func63, Tryz.ntmps63
    go_wp2_with (go_at_call 45; refine (low_any _ _).mono ?_; rintro e w' ⟨rfl, rfl⟩)
    go_ret2
    exact ⟨rfl, (by repeat first | exact Lz _ | apply La | apply Lv | apply Ln | apply Ld)⟩
  · have h4 : 91 ≤ op := by omega
    have h6 : ¬ (op ≤ 96) := by omega
    have h5 : 146 ≤ op := by omega
    have h7 : ¬ (op ≤ 149) := by omega
    go_enter Tryz.func63, Tryz.ntmps63
    go_wp2_with (go_at_call 45; refine (low_any _ _).mono ?_; rintro e w' ⟨rfl, rfl⟩)
    go_ret2
    exact ⟨rfl, (by repeat first | exact Lz _ | apply La | apply Lv | apply Ln | apply Ld)⟩
theorem bin_any (op a b : Int) (w : World) :
    RW Tryz.prog 63 #[.int .i64 op, .int .i64 a, .int .i64 b] w (.tuple #[.int .i64 (binI op a b).1, .int .i64 (binI op a b).2]) := by
  unfold binI
  by_cases h : (91 ≤ op ∧ op ≤ 96) ∨ (146 ≤ op ∧ op ≤ 152)
  · obtain ⟨x, h1, h2, h3⟩ := low_nat a
    obtain ⟨y, g1, g2, g3⟩ := low_nat b
    rw [if_pos h, h3, g3]
    clear h3 g3
    by_cases hc : 91 ≤ op ∧ op ≤ 96
    · have e : binW op x y = if cmpW op x y then 1 else 0 := by unfold binW; rw [if_pos hc.2]
      rw [e]
      exact bin_cmp op a b x y h1 g1 h2 g2 hc w
    · have hd : op = 146 ∨ op = 147 ∨ op = 148 ∨ op = 149 ∨ op = 150 ∨ op = 151 ∨ op = 152 := by omega
      clear h hc
      rcases hd with rfl | rfl | rfl | rfl | rfl | rfl | rfl
      · exact bin_146 a b x y _ h1 g1 h2 g2 (show arithW 146 x y = binW 146 x y by simp [binW]) w
      · exact bin_147 a b x y _ h1 g1 h2 g2 (show arithW 147 x y = binW 147 x y by simp [binW]) w
      · exact bin_148 a b x y _ h1 g1 h2 g2 (show arithW 148 x y = binW 148 x y by simp [binW]) w
      · exact bin_149 a b x y _ h1 g1 h2 g2 (show arithW 149 x y = binW 149 x y by simp [binW]) w
      · exact bin_150 a b x y _ h1 g1 h2 g2 (show FM.minW sf x y = binW 150 x y by simp [binW]) w
      · exact bin_151 a b x y _ h1 g1 h2 g2 (show FM.maxW sf x y = binW 151 x y by simp [binW]) w
      · exact bin_152 a b x y _ h1 g1 h2 g2 (show x % 2147483648 ||| (y &&& 2147483648) = binW 152 x y by simp [binW]) w
  · rw [if_neg h]
    exact bin_bad op a b h w
end Go.Proofs.YtdfgcagbpndabaaGreatDoor.P3
namespace Go.Proofs.YtdfgcagbpndabaaGreatDoor.P3
open Go.RowKit
open Go.FM (isN fixn qn)
end Go.Proofs.YtdfgcagbpndabaaGreatDoor.P3
namespace Go.Proofs.YtdfgcagbpndabaaGreatDoor.P3
open Go.RowKit
open Go.FM (isN fixn qn)
theorem f_add (X Y : Nat) : binW 146 X Y = FM.fixo sf (sf.add X Y) := by simp [binW, arithW, arithO]
theorem f_sub (X Y : Nat) : binW 147 X Y = FM.fixo sf (sf.sub X Y) := by simp [binW, arithW, arithO]
theorem f_mul (X Y : Nat) : binW 148 X Y = FM.fixo sf (sf.mul X Y) := by simp [binW, arithW, arithO]
theorem f_div (X Y : Nat) : binW 149 X Y = FM.fixo sf (sf.div X Y) := by simp [binW, arithW, arithO]
theorem f_min (X Y : Nat) : binW 150 X Y = FM.minW sf X Y := by simp [binW]
theorem f_max (X Y : Nat) : binW 151 X Y = FM.maxW sf X Y := by simp [binW]
theorem f_sign (X Y : Nat) : binW 152 X Y = X % 2147483648 ||| (Y &&& 2147483648) := by simp [binW]
end Go.Proofs.YtdfgcagbpndabaaGreatDoor.P3
