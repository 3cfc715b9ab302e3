/- 'NameRunes' of package peloruslaw13 returns true at every two ints: which numbers are runes, in how many bytes. No condition. -/
import Derived.Test.YthbagkaodcplmaaOW
import Derived.Laws.Runes
import Derived.LoopTactic
import Derived.OpenShut
import Derived.ChangeMaps5
import Derived.ShutString
import Derived.SizedLaws
set_option linter.unusedVariables false
set_option linter.unusedSimpArgs false
set_option maxRecDepth 100000
set_option maxHeartbeats 8000000
namespace Go.Proofs.Ythbagkaodcplmaa.nameRunes
open Go.ChangeShapes Go.WideShapes Go.ChangeAt Go.RowKit
/-- one rune alone -/
theorem utf_one (s : ByteArray) (m : Nat) (l h : Int) (hl : lead (bt s 0) = some (m, l, h)) (hs : s.size = 1 + m) (ht : tls s 1 m l h = true) : utfR s = true := by
  have := utf_step s 0 m l h (by omega) hl
  rw [Nat.sub_zero] at this
  unfold utfR
  rw [this, Nat.zero_add, ht, utf_end s _ _ (by omega)]
  rfl
theorem bt_num (d : List Int) (i : Nat) (hi : i < d.length) (h : 0 ≤ d[i] ∧ d[i] < 256) : bt (strOfNums d) i = d[i] := by
  rw [bt_get]
  simp [strOfNums, hi, h]
  omega
theorem tl_num (d : List Int) (i : Nat) (l h : Int) (hi : i < d.length) (hd : 0 ≤ d[i] ∧ d[i] < 256) (h1 : l ≤ d[i]) (h2 : d[i] ≤ h) : tl (strOfNums d) i l h = true := by
  unfold tl
  rw [bt_num d i hi hd, strOfNums_size]
  exact decide_eq_true ⟨hi, h1, h2⟩
theorem lead1 (c : Int) (h : 0 ≤ c ∧ c < 128) : lead c = some (0, 128, 191) := if_pos h.2
theorem lead2 (c : Int) (h : 194 ≤ c ∧ c ≤ 223) : lead c = some (1, 128, 191) := by
  unfold lead
  rw [if_neg (by omega), if_pos h]
theorem lead3 (c : Int) (h : 224 ≤ c ∧ c ≤ 239) : lead c = some (2, (if c = 224 then 160 else 128), (if c = 237 then 159 else 191)) := by
  unfold lead
  rw [if_neg (by omega), if_neg (by omega), if_pos h]
theorem lead4 (c : Int) (h : 240 ≤ c ∧ c ≤ 244) : lead c = some (3, (if c = 240 then 144 else 128), (if c = 244 then 143 else 191)) := by
  unfold lead
  rw [if_neg (by omega), if_neg (by omega), if_neg (by omega), if_pos h]
/-- a rune's bytes -/
def enc (c : Nat) : List Int :=
  if c < 128 then [(c : Int)] else if c < 2048 then [192 + (c : Int) / 64, 128 + (c : Int) % 64]
  else if c < 65536 then [224 + (c : Int) / 4096, 128 + (c : Int) / 64 % 64, 128 + (c : Int) % 64]
  else [240 + (c : Int) / 262144, 128 + (c : Int) / 4096 % 64, 128 + (c : Int) / 64 % 64, 128 + (c : Int) % 64]
theorem nums_n (c : Nat) : ((128 : Int) + (c : Int) % 64).toNat = 128 + c % 64 ∧ ((128 : Int) + (c : Int) / 64 % 64).toNat = 128 + c / 64 % 64 ∧ ((128 : Int) + (c : Int) / 4096 % 64).toNat = 128 + c / 4096 % 64 ∧ ((192 : Int) + (c : Int) / 64).toNat = 192 + c / 64 ∧ ((224 : Int) + (c : Int) / 4096).toNat = 224 + c / 4096 ∧ ((240 : Int) + (c : Int) / 262144).toNat = 240 + c / 262144 := by omega
theorem enc_may (c : Nat) (hc : c < 55296 ∨ (57344 ≤ c ∧ c ≤ 1114111)) : mayN (strOfNums (enc c)) = true := by
  have hsz : (strOfNums (enc c)).size ≤ 64 := by
    rw [strOfNums_size]
    unfold enc
    split
    · simp
    · split
      · simp
      · split <;> simp
  unfold mayN
  rw [decide_eq_true hsz, Bool.true_and]
  unfold enc
  by_cases h1 : c < 128
  · rw [if_pos h1]
    refine utf_one _ 0 128 191 ?_ (strOfNums_size _) rfl
    rw [bt_num _ 0 (by simp) (by show 0 ≤ (c : Int) ∧ (c : Int) < 256; omega)]
    exact lead1 _ (by show 0 ≤ (c : Int) ∧ (c : Int) < 128; omega)
  · rw [if_neg h1]
    by_cases h2 : c < 2048
    · rw [if_pos h2]
      refine utf_one _ 1 128 191 ?_ (strOfNums_size _) ?_
      · rw [bt_num _ 0 (by simp) (by show 0 ≤ 192 + (c : Int) / 64 ∧ 192 + (c : Int) / 64 < 256; omega)]
        exact lead2 _ (by show 194 ≤ 192 + (c : Int) / 64 ∧ 192 + (c : Int) / 64 ≤ 223; omega)
      · rw [tls_succ, tl_num _ 1 _ _ (by simp) (by show 0 ≤ 128 + (c : Int) % 64 ∧ 128 + (c : Int) % 64 < 256; omega) (by show 128 ≤ 128 + (c : Int) % 64; omega) (by show 128 + (c : Int) % 64 ≤ 191; omega)]
        rfl
    · rw [if_neg h2]
      by_cases h3 : c < 65536
      · rw [if_pos h3]
        have hb : bt (strOfNums [224 + (c : Int) / 4096, 128 + (c : Int) / 64 % 64, 128 + (c : Int) % 64]) 0 = 224 + (c : Int) / 4096 := bt_num _ 0 (by simp) (by show 0 ≤ 224 + (c : Int) / 4096 ∧ 224 + (c : Int) / 4096 < 256; omega)
        refine utf_one _ 2 _ _ (by rw [hb]; exact lead3 _ (by omega)) (strOfNums_size _) ?_
        rw [tls_succ, tl_num _ 1 _ _ (by simp) (by show 0 ≤ 128 + (c : Int) / 64 % 64 ∧ 128 + (c : Int) / 64 % 64 < 256; omega) (by show (if 224 + (c : Int) / 4096 = 224 then 160 else 128) ≤ 128 + (c : Int) / 64 % 64; split <;> omega) (by show 128 + (c : Int) / 64 % 64 ≤ (if 224 + (c : Int) / 4096 = 237 then 159 else 191); split <;> omega), tls_succ, tl_num _ 2 _ _ (by simp) (by show 0 ≤ 128 + (c : Int) % 64 ∧ 128 + (c : Int) % 64 < 256; omega) (by show 128 ≤ 128 + (c : Int) % 64; omega) (by show 128 + (c : Int) % 64 ≤ 191; omega)]
        rfl
      · rw [if_neg h3]
        have hb : bt (strOfNums [240 + (c : Int) / 262144, 128 + (c : Int) / 4096 % 64, 128 + (c : Int) / 64 % 64, 128 + (c : Int) % 64]) 0 = 240 + (c : Int) / 262144 := bt_num _ 0 (by simp) (by show 0 ≤ 240 + (c : Int) / 262144 ∧ 240 + (c : Int) / 262144 < 256; omega)
        refine utf_one _ 3 _ _ (by rw [hb]; exact lead4 _ (by omega)) (strOfNums_size _) ?_
        rw [tls_succ, tl_num _ 1 _ _ (by simp) (by show 0 ≤ 128 + (c : Int) / 4096 % 64 ∧ 128 + (c : Int) / 4096 % 64 < 256; omega) (by show (if 240 + (c : Int) / 262144 = 240 then 144 else 128) ≤ 128 + (c : Int) / 4096 % 64; split <;> omega) (by show 128 + (c : Int) / 4096 % 64 ≤ (if 240 + (c : Int) / 262144 = 244 then 143 else 191); split <;> omega), tls_succ, tl_num _ 2 _ _ (by simp) (by show 0 ≤ 128 + (c : Int) / 64 % 64 ∧ 128 + (c : Int) / 64 % 64 < 256; omega) (by show 128 ≤ 128 + (c : Int) / 64 % 64; omega) (by show 128 + (c : Int) / 64 % 64 ≤ 191; omega), tls_succ, tl_num _ 3 _ _ (by simp) (by show 0 ≤ 128 + (c : Int) % 64 ∧ 128 + (c : Int) % 64 < 256; omega) (by show 128 ≤ 128 + (c : Int) % 64; omega) (by show 128 + (c : Int) % 64 ≤ 191; omega)]
        rfl
/-- what stands for no rune stands for one alone -/
theorem enc_eq (c : Nat) (h : strOfNums (enc c) = strOfNums [239, 191, 189]) (hc : c ≤ 1114111) : c = 65533 := by
  have hz := congrArg ByteArray.size h
  rw [strOfNums_size, strOfNums_size] at hz
  have hb := fun i => congrArg (fun s => bt s i) h
  unfold enc at hz hb
  by_cases h1 : c < 128
  · rw [if_pos h1] at hz; simp at hz
  · rw [if_neg h1] at hz hb
    by_cases h2 : c < 2048
    · rw [if_pos h2] at hz; simp at hz
    · rw [if_neg h2] at hz hb
      by_cases h3 : c < 65536
      · rw [if_pos h3] at hb
        have b0 := hb 0
        have b1 := hb 1
        have b2 := hb 2
        rw [bt_num _ 0 (by simp) (by show 0 ≤ 224 + (c : Int) / 4096 ∧ 224 + (c : Int) / 4096 < 256; omega), bt_num _ 0 (by simp) (by decide)] at b0
        rw [bt_num _ 1 (by simp) (by show 0 ≤ 128 + (c : Int) / 64 % 64 ∧ 128 + (c : Int) / 64 % 64 < 256; omega), bt_num _ 1 (by simp) (by decide)] at b1
        rw [bt_num _ 2 (by simp) (by show 0 ≤ 128 + (c : Int) % 64 ∧ 128 + (c : Int) % 64 < 256; omega), bt_num _ 2 (by simp) (by decide)] at b2
        change 224 + (c : Int) / 4096 = 239 at b0
        change 128 + (c : Int) / 64 % 64 = 191 at b1
        change 128 + (c : Int) % 64 = 189 at b2
        omega
      · rw [if_neg h3] at hz; simp at hz
theorem enc_val (x : Nat) (hx : x < 1114112) : ∃ c : Nat, Utf8.encode (x : Int) = strOfNums (enc c) ∧ (c < 55296 ∨ (57344 ≤ c ∧ c ≤ 1114111)) ∧ ((55296 ≤ x ∧ x ≤ 57343 ∧ c = 65533) ∨ (¬ (55296 ≤ x ∧ x ≤ 57343) ∧ c = x)) := by
  by_cases hs : 55296 ≤ x ∧ x ≤ 57343
  · refine ⟨65533, ?_, by omega, Or.inl ⟨hs.1, hs.2, rfl⟩⟩
    have hv : Utf8.valid (x : Int) = false := by simp [Utf8.valid]; omega
    unfold Utf8.encode
    simp only [hv, Bool.false_eq_true, if_false]
    rfl
  · refine ⟨x, ?_, by omega, Or.inr ⟨hs, rfl⟩⟩
    have hv : Utf8.valid (x : Int) = true := by simp [Utf8.valid]; omega
    obtain ⟨e1, e2, e3, e4, e5, e6⟩ := nums_n x
    unfold Utf8.encode enc
    simp only [hv, if_true, Int.toNat_natCast]
    by_cases h1 : x < 128
    · simp [h1, strOfNums]
    · by_cases h2 : x < 2048
      · simp [h1, h2, strOfNums, e1, e4]
      · by_cases h3 : x < 65536
        · simp [h1, h2, h3, strOfNums, e1, e2, e5]
        · simp [h1, h2, h3, strOfNums, e1, e2, e3, e6]
theorem wrongs (c : Nat) (h : c < 64) : mayN (strOfNums [237, 160 + (c : Int) % 32, 128 + (c : Int)]) = false ∧ mayN (strOfNums [192 + (c : Int) % 2, 128 + (c : Int)]) = false ∧ mayN (strOfNums [128 + (c : Int)]) = false ∧ mayN (strOfNums [244, 144, 128 + (c : Int), 128 + (c : Int)]) = false ∧ bits .and .u8 (128 + (c : Int)) 31 = (c : Int) % 32 ∧ bits .and .u8 (128 + (c : Int)) 1 = (c : Int) % 2 := by
  have hh : ∀ c : Fin 64, mayN (strOfNums [237, 160 + (c.val : Int) % 32, 128 + (c.val : Int)]) = false ∧ mayN (strOfNums [192 + (c.val : Int) % 2, 128 + (c.val : Int)]) = false ∧ mayN (strOfNums [128 + (c.val : Int)]) = false ∧ mayN (strOfNums [244, 144, 128 + (c.val : Int), 128 + (c.val : Int)]) = false ∧ bits .and .u8 (128 + (c.val : Int)) 31 = (c.val : Int) % 32 ∧ bits .and .u8 (128 + (c.val : Int)) 1 = (c.val : Int) % 2 := by decide +kernel
  exact hh ⟨c, h⟩
theorem conv_n (d : List Int) (hd : ∀ b ∈ d, 0 ≤ b ∧ b < 256) (n : Nat) (hn : d.length = n) (W : World) : (convert 36 9 (.slice (some ⟨W.heap.size, 0, none⟩) n n)).run Try.prog (W.alloc (.cells (bys d).toArray 5)) = .ok (.string (strOfNums d)) (W.alloc (.cells (bys d).toArray 5)) := by
  subst hn
  have hB : Lib.Bytes (W.alloc (.cells (bys d).toArray 5)) W.heap.size 0 (strOfNums d) := Lib.bytes_of_nums rfl hd (fun i hi => by
    rw [Nat.zero_add, cell_of_row _ _ _ _ _ _ (heap_alloc_new W _)]
    simp [bys, List.getD, hi])
  have := Lib.run_convert_whole (P := Try.prog) _ 36 5 9 Try.underlying36 Try.underlying5 Try.underlying9 W.heap.size 0 _ hB d.length
  rwa [strOfNums_size] at this
theorem at_x (r : Int) : ∃ x : Nat, wrap64 ((IntKind.u64.wrap r).tmod 1114112) = (x : Int) ∧ x < 1114112 := by
  have h0 : 0 ≤ IntKind.u64.wrap r := by rw [IntKind.wrap_u64]; omega
  refine ⟨((IntKind.u64.wrap r) % 1114112).toNat, ?_, by omega⟩
  rw [Int.tmod_eq_emod_of_nonneg h0]
  unfold wrap64
  omega
theorem at_c (low : Int) : ∃ c : Nat, bits .and .i64 low 63 = (c : Int) ∧ c < 64 := ⟨(low % 64).toNat, by rw [show (63 : Int) = ((2 ^ 6 : Nat) - 1 : Int) by decide, BM.and_mask low 6 (by decide)]; omega, by omega⟩
theorem wr_b (c : Nat) (h : c < 64) : IntKind.u8.wrap (128 + (c : Int)) = 128 + (c : Int) ∧ IntKind.u8.wrap (160 + (c : Int) % 32) = 160 + (c : Int) % 32 ∧ IntKind.u8.wrap (192 + (c : Int) % 2) = 192 + (c : Int) % 2 := by
  simp only [IntKind.wrap_u8]
  omega
theorem wr_x (x : Nat) (h : x < 1114112) : IntKind.i32.wrap (x : Int) = (x : Int) := by
  rw [IntKind.wrap_i32]
  omega
theorem bytes_ (c : Nat) (h : c < 64) : ∃ b u p v q : Int, IntKind.u8.wrap (128 + (c : Int)) = b ∧ bits .and .u8 b 31 = u ∧ IntKind.u8.wrap (160 + u) = p ∧ bits .and .u8 b 1 = v ∧ IntKind.u8.wrap (192 + v) = q ∧ (0 ≤ b ∧ b < 256) ∧ (0 ≤ p ∧ p < 256) ∧ (0 ≤ q ∧ q < 256) ∧ mayN (strOfNums [237, p, b]) = false ∧ mayN (strOfNums [q, b]) = false ∧ mayN (strOfNums [b]) = false ∧ mayN (strOfNums [244, 144, b, b]) = false := by
  obtain ⟨g1, g2, g3, g4, a1, a2⟩ := wrongs c h
  obtain ⟨b1, b2, b3⟩ := wr_b c h
  exact ⟨128 + (c : Int), (c : Int) % 32, 160 + (c : Int) % 32, (c : Int) % 2, 192 + (c : Int) % 2, b1, a1, b2, a2, b3, by omega, by omega, by omega, g1, g2, g3, g4⟩
theorem walk (r low : Int) (w : World) :
    Calls Try.prog 5 #[.int .i64 r, .int .i64 low] w fun e w' => e = .returned (.bool true) ∧ Later w w' := by
  obtain ⟨x, hx, hxl⟩ := at_x r
  obtain ⟨c, hc', hcl⟩ := at_c low
  obtain ⟨b, u, p, v, q, b1, a1, b2, a2, b3, rb, rp, rq, g1, g2, g3, g4⟩ := bytes_ c hcl
  obtain ⟨d, hd⟩ : ∃ d : Int, d = (c : Int) := ⟨_, rfl⟩
  rw [← hd] at hc' b1
  have hdb1 : -9223372036854775808 ≤ 128 + d := by omega
  have hdb2 : 128 + d ≤ 9223372036854775807 := by omega
  have hdw : wrap64 (128 + d) = 128 + d := by unfold wrap64; omega
  have hc : Hid _ := hc'
  clear hc' hd hdw
  have hx2 := wr_x x hxl
  obtain ⟨k, hk, hkv, hks⟩ := enc_val x hxl
  have hm := enc_may k hkv
  have c1 : ∀ (W : World) (g : Nat), g = W.heap.size → (convert 36 9 (.slice (some ⟨g, 0, none⟩) 3 3)).run Try.prog (W.alloc (.cells #[.int .u8 237, .int .u8 p, .int .u8 b] 5)) = .ok (.string (strOfNums [237, p, b])) (W.alloc (.cells #[.int .u8 237, .int .u8 p, .int .u8 b] 5)) := fun W g hg => by
    subst hg
    exact conv_n [237, p, b] (by simp; omega) 3 rfl W
  have c2 : ∀ (W : World) (g : Nat), g = W.heap.size → (convert 36 9 (.slice (some ⟨g, 0, none⟩) 2 2)).run Try.prog (W.alloc (.cells #[.int .u8 q, .int .u8 b] 5)) = .ok (.string (strOfNums [q, b])) (W.alloc (.cells #[.int .u8 q, .int .u8 b] 5)) := fun W g hg => by
    subst hg
    exact conv_n [q, b] (by simp; omega) 2 rfl W
  have c3 : ∀ (W : World) (g : Nat), g = W.heap.size → (convert 36 9 (.slice (some ⟨g, 0, none⟩) 1 1)).run Try.prog (W.alloc (.cells #[.int .u8 b] 5)) = .ok (.string (strOfNums [b])) (W.alloc (.cells #[.int .u8 b] 5)) := fun W g hg => by
    subst hg
    exact conv_n [b] (by simp; omega) 1 rfl W
  have c4 : ∀ (W : World) (g : Nat), g = W.heap.size → (convert 36 9 (.slice (some ⟨g, 0, none⟩) 4 4)).run Try.prog (W.alloc (.cells #[.int .u8 244, .int .u8 144, .int .u8 b, .int .u8 b] 5)) = .ok (.string (strOfNums [244, 144, b, b])) (W.alloc (.cells #[.int .u8 244, .int .u8 144, .int .u8 b, .int .u8 b] 5)) := fun W g hg => by
    subst hg
    exact conv_n [244, 144, b, b] (by simp; omega) 4 rfl W
  have hsz : (strOfNums (enc k)).size ≤ 64 := by
    unfold mayN at hm
    rw [Bool.and_eq_true] at hm
    exact of_decide_eq_true hm.1
  have h0 : Hid (∀ w : World, Calls Try.prog 11 #[.string (strOfNums (enc k))] w fun e w' => e = .returned (.bool true) ∧ Later w w') := fun w => may_is _ true hm (by omega) w
  have h1 : Hid (∀ w : World, Calls Try.prog 11 #[.string (strOfNums [237, p, b])] w fun e w' => e = .returned (.bool false) ∧ Later w w') := fun w => may_is _ false g1 (by rw [strOfNums_size]; simp) w
  have h2 : Hid (∀ w : World, Calls Try.prog 11 #[.string (strOfNums [q, b])] w fun e w' => e = .returned (.bool false) ∧ Later w w') := fun w => may_is _ false g2 (by rw [strOfNums_size]; simp) w
  have h3 : Hid (∀ w : World, Calls Try.prog 11 #[.string (strOfNums [b])] w fun e w' => e = .returned (.bool false) ∧ Later w w') := fun w => may_is _ false g3 (by rw [strOfNums_size]; simp) w
  have h4 : Hid (∀ w : World, Calls Try.prog 11 #[.string (strOfNums [244, 144, b, b])] w fun e w' => e = .returned (.bool false) ∧ Later w w') := fun w => may_is _ false g4 (by rw [strOfNums_size]; simp) w
  have hcase : (decide (55296 ≤ (x : Int)) = true ∧ decide ((x : Int) ≤ 57343) = true ∧ strOfNums (enc k) = ({ data := #[239, 191, 189] } : ByteArray) ∧ ((x : Int) != 65533) = true) ∨ ((decide (55296 ≤ (x : Int)) = false ∨ (decide (55296 ≤ (x : Int)) = true ∧ decide ((x : Int) ≤ 57343) = false)) ∧ ((strOfNums (enc k) = ({ data := #[239, 191, 189] } : ByteArray) ∧ ((x : Int) != 65533) = false) ∨ ¬ (strOfNums (enc k)).toList = [239, 191, 189])) := by
    have hcon : ({ data := #[239, 191, 189] } : ByteArray) = strOfNums [239, 191, 189] := by decide
    have hen : strOfNums (enc 65533) = strOfNums [239, 191, 189] := by decide
    rw [hcon]
    rcases hks with ⟨s1, s2, rfl⟩ | ⟨s1, rfl⟩
    · refine Or.inl ⟨decide_eq_true (by omega), decide_eq_true (by omega), hen, ?_⟩
      simp; omega
    · refine Or.inr ⟨?_, ?_⟩
      · by_cases h6 : 55296 ≤ (k : Int)
        · exact Or.inr ⟨decide_eq_true h6, decide_eq_false (by omega)⟩
        · exact Or.inl (decide_eq_false h6)
      by_cases h5 : k = 65533
      · subst h5
        exact Or.inl ⟨hen, rfl⟩
      · exact Or.inr (fun he => h5 (enc_eq k (WideShapes.bytes_inj (by rw [Lib.toList_data] at he; rw [he]; rfl)) (by omega)))
  clear g1 g2 g3 g4 hm hkv hks hxl hcl rb rp rq
  generalize strOfNums (enc k) = S at *
  replace hc := hc.out
  rcases hcase with ⟨s1, s2, s3, s4⟩ | ⟨s1 | ⟨s1, s2⟩, ⟨s3, s4⟩ | s3⟩
  · skip
    subst s3
    go_enter Try.func5, Try.ntmps5
    go_wp2_with fail
    refine (awake_any _).mono ?_
    rintro e w' ⟨rfl, bs, n, rfl⟩
    go_wp2_with fail
    refine (h0.out _).mono ?_
    rintro e w' ⟨rfl, bs1, n1, rfl⟩
    go_wp2_with fail
    refine (h1.out _).mono ?_
    rintro e w' ⟨rfl, bs2, n2, rfl⟩
    go_wp2_with fail
    refine (h2.out _).mono ?_
    rintro e w' ⟨rfl, bs3, n3, rfl⟩
    go_wp2_with fail
    refine (h3.out _).mono ?_
    rintro e w' ⟨rfl, bs4, n4, rfl⟩
    go_wp2_with fail
    refine (h4.out _).mono ?_
    rintro e w' ⟨rfl, bs5, n5, rfl⟩
    go_wp2_with (go_at_call 13; refine (num_any _ _).mono ?_; rintro e w' ⟨rfl, rfl⟩)
    go_ret
    exact ⟨rfl, by repeat first | exact Lz _ | apply La | apply Lv | apply Ld | apply Ln⟩
  · skip
    subst s3
    go_enter Try.func5, Try.ntmps5
    go_wp2_with fail
    refine (awake_any _).mono ?_
    rintro e w' ⟨rfl, bs, n, rfl⟩
    go_wp2_with fail
    refine (h0.out _).mono ?_
    rintro e w' ⟨rfl, bs1, n1, rfl⟩
    go_wp2_with fail
    refine (h1.out _).mono ?_
    rintro e w' ⟨rfl, bs2, n2, rfl⟩
    go_wp2_with fail
    refine (h2.out _).mono ?_
    rintro e w' ⟨rfl, bs3, n3, rfl⟩
    go_wp2_with fail
    refine (h3.out _).mono ?_
    rintro e w' ⟨rfl, bs4, n4, rfl⟩
    go_wp2_with fail
    refine (h4.out _).mono ?_
    rintro e w' ⟨rfl, bs5, n5, rfl⟩
    go_wp2_with (go_at_call 13; refine (num_any _ _).mono ?_; rintro e w' ⟨rfl, rfl⟩)
    go_ret
    exact ⟨rfl, by repeat first | exact Lz _ | apply La | apply Lv | apply Ld | apply Ln⟩
  · skip
    replace s3 : Hid _ := s3
    go_enter Try.func5, Try.ntmps5
    go_wp2_with fail
    refine (awake_any _).mono ?_
    rintro e w' ⟨rfl, bs, n, rfl⟩
    go_wp2_with fail
    refine (h0.out _).mono ?_
    rintro e w' ⟨rfl, bs1, n1, rfl⟩
    clear hsz hk hx hx2 hc
    replace s3 := s3.out
    go_wp2_with fail
    refine (h1.out _).mono ?_
    rintro e w' ⟨rfl, bs2, n2, rfl⟩
    go_wp2_with fail
    refine (h2.out _).mono ?_
    rintro e w' ⟨rfl, bs3, n3, rfl⟩
    go_wp2_with fail
    refine (h3.out _).mono ?_
    rintro e w' ⟨rfl, bs4, n4, rfl⟩
    go_wp2_with fail
    refine (h4.out _).mono ?_
    rintro e w' ⟨rfl, bs5, n5, rfl⟩
    go_wp2_with (go_at_call 13; refine (num_any _ _).mono ?_; rintro e w' ⟨rfl, rfl⟩)
    go_ret
    exact ⟨rfl, by repeat first | exact Lz _ | apply La | apply Lv | apply Ld | apply Ln⟩
  · skip
    subst s3
    go_enter Try.func5, Try.ntmps5
    go_wp2_with fail
    refine (awake_any _).mono ?_
    rintro e w' ⟨rfl, bs, n, rfl⟩
    go_wp2_with fail
    refine (h0.out _).mono ?_
    rintro e w' ⟨rfl, bs1, n1, rfl⟩
    go_wp2_with fail
    refine (h1.out _).mono ?_
    rintro e w' ⟨rfl, bs2, n2, rfl⟩
    go_wp2_with fail
    refine (h2.out _).mono ?_
    rintro e w' ⟨rfl, bs3, n3, rfl⟩
    go_wp2_with fail
    refine (h3.out _).mono ?_
    rintro e w' ⟨rfl, bs4, n4, rfl⟩
    go_wp2_with fail
    refine (h4.out _).mono ?_
    rintro e w' ⟨rfl, bs5, n5, rfl⟩
    go_wp2_with (go_at_call 13; refine (num_any _ _).mono ?_; rintro e w' ⟨rfl, rfl⟩)
    go_ret
    exact ⟨rfl, by repeat first | exact Lz _ | apply La | apply Lv | apply Ld | apply Ln⟩
  · skip
    replace s3 : Hid _ := s3
    go_enter Try.func5, Try.ntmps5
    go_wp2_with fail
    refine (awake_any _).mono ?_
    rintro e w' ⟨rfl, bs, n, rfl⟩
    go_wp2_with fail
    refine (h0.out _).mono ?_
    rintro e w' ⟨rfl, bs1, n1, rfl⟩
    clear hsz hk hx hx2 hc
    replace s3 := s3.out
    go_wp2_with fail
    refine (h1.out _).mono ?_
    rintro e w' ⟨rfl, bs2, n2, rfl⟩
    go_wp2_with fail
    refine (h2.out _).mono ?_
    rintro e w' ⟨rfl, bs3, n3, rfl⟩
    go_wp2_with fail
    refine (h3.out _).mono ?_
    rintro e w' ⟨rfl, bs4, n4, rfl⟩
    go_wp2_with fail
    refine (h4.out _).mono ?_
    rintro e w' ⟨rfl, bs5, n5, rfl⟩
    go_wp2_with (go_at_call 13; refine (num_any _ _).mono ?_; rintro e w' ⟨rfl, rfl⟩)
    go_ret
    exact ⟨rfl, by repeat first | exact Lz _ | apply La | apply Lv | apply Ld | apply Ln⟩

set_option maxRecDepth 100000 in
theorem lifted (os : Os) (started : os.Started) (H : Type) (enc : TypeId × Value → H) :
    ReturnsInHanded {} Try.checked os 5 .any (Rows.nameRunesSpec.pre6 enc Try.prog Try.f5 Rows.nameRunesRow.domain false) (Rows.nameRunesSpec.post enc Try.prog Try.f5 false true false false) := by
  refine returnsInHanded_of_change_sized (C := Try.checked) own started (by kernel_rfl) Try.func5
    (ChangeSpec.witness6 (enc := enc) (C := Try.checked) false ⟨#[], #[.int .i64 0, .int .i64 0], []⟩ 8 (by kernel_rfl) (by kernel_rfl) (by kernel_rfl) (by kernel_rfl)) ?_
  intro W base args ds gs before hval0 hW _ _ _
  have hval : ∀ (j : Nat) t v, Try.f5.params[j]? = some t → args[j]? = some v → Value.okWide Try.prog W .any base t v := hval0
  have hW' := hW
  obtain ⟨p, q, hA0, hV, rfl, hfz, hnd⟩ := hW
  have hA : DataW.TrodAll enc Try.prog W 0 (fun _ => true) true Try.f5.params.toList args.toList ds p := hA0
  rw [Try.params5] at hA hval
  obtain ⟨v0, vs0, d0, ds0, p0, q0, hargs, rfl, rfl, h0, r0⟩ := trodAll_cons hA
  obtain ⟨v1, vs1, d1, ds1, p1, q1, rfl, rfl, rfl, h1, r1⟩ := trodAll_cons r0
  obtain ⟨rfl, rfl, rfl⟩ := trodAll_nil r1
  obtain rfl : args = #[v0, v1] := by cases args; simp_all
  obtain ⟨rfl, rfl⟩ := trodVars_none hV
  obtain ⟨a0, rfl, rfl, rfl, w0⟩ := open_int Try.underlying3 (hval 0 3 v0 rfl rfl) h0
  obtain ⟨a1, rfl, rfl, rfl, w1⟩ := open_int Try.underlying3 (hval 1 3 v1 rfl rfl) h1
  clear hA0 hval0
  simp only [List.append_nil, List.nil_append] at hW'
  have hlt : ∀ x ∈ ([] : List MemPlace), x.block < W.heap.size := fun x hx => by simpa using hW'.lt x hx
  refine (walk a0 a1 W ).mono fun e W' ⟨he, hl⟩ => ?_
  subst he
  have hbel : Below W.heap.size W W' := by obtain ⟨bs, nn, rfl⟩ := hl; exact ⟨rfl, rfl, rfl, by rw [World.far_size]; omega, fun k hk => World.far_block W bs nn k hk⟩
  have hx : ∀ sp : Nat → Bool, (∀ p ∈ ([] : List MemPlace), sp p.block = true) → DataW.TrodAll enc Try.prog W' 0 sp true [3, 3] [.int .i64 a0, .int .i64 a1] [.lit (.int .i64 a0), .lit (.int .i64 a1)] (([] : List MemPlace)) := fun sp hsp => by simpa using (trodAll_cons_mk (shut_int Try.underlying3 w0) (trodAll_cons_mk (shut_int Try.underlying3 w1) trodAll_mk0))
  exact ⟨_, rfl, post_none hW' (fun _ _ _ => (trodAll_cons_mk (shut_bool Try.underlying4 _) trodAll_mk0)) (fun sp => hx sp (fun p hp => absurd hp List.not_mem_nil)) (fun _ => rfl) (hbel.frame _) (ok_one (by kernel_rfl) rfl (okWide_bool_mk Try.underlying4 _))⟩

theorem over : Rows.nameRunesRow.holds Try.pinned (OpenSpec.ofChange Rows.nameRunesSpec) :=
  OpenClaim.holds_of_wide 5 Try.f5 rfl rfl rfl rfl rfl rfl rfl ⟨rfl, rfl, rfl, rfl, rfl⟩ rfl rfl rfl rfl rfl (by kernel_rfl) Try.func5 (by kernel_rfl)
    (of_decide_eq_true (by kernel_rfl)) (by unfold Func.isWrapper; first | (rw [if_pos (by decide +kernel)]; kernel_rfl) | (rw [if_neg (by decide +kernel)]; exact ⟨rfl, rfl⟩))
    (fun os started H enc _ => lifted os started H enc)


theorem proved : Rows.NameRunesSaid := over
end Go.Proofs.Ythbagkaodcplmaa.nameRunes
namespace Go.Proofs.Ythbagkaodcplmaa
theorem nameRunes_holds : Rows.NameRunesSaid := nameRunes.proved
#print axioms nameRunes_holds
end Go.Proofs.Ythbagkaodcplmaa
