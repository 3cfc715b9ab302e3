import Derived.Test.YtngciahmoenkiaaGreatOA
import Derived.Test.YtngciahmoenkiaaGreatXC
set_option linter.unusedVariables false
set_option linter.unusedSimpArgs false
set_option maxRecDepth 100000
set_option maxHeartbeats 4000000
namespace Go.Proofs.YtngciahmoenkiaaGreat
open Go.RowKit
def unR (s:ByteArray) (at_:Int):ByteArray×Int×Int :=
 if (ulR s at_ 32).2.2=0∧(ulR s at_ 32).1≤(s.size:Int) - (ulR s at_ 32).2.1 then
  if 64<(ulR s at_ 32).1 then (⟨#[]⟩,0,1301)
  else if utfR (s.extract (ulR s at_ 32).2.1.toNat ((ulR s at_ 32).2.1.toNat+(ulR s at_ 32).1.toNat))=true then (s.extract (ulR s at_ 32).2.1.toNat ((ulR s at_ 32).2.1.toNat+(ulR s at_ 32).1.toNat),(ulR s at_ 32).2.1+(ulR s at_ 32).1,0)
  else (⟨#[]⟩,0,1300)
 else (⟨#[]⟩,0,1300)
theorem sl_eq (u:ByteArray) (a n:Nat) (h:a+n≤u.size) (w:World):(Instr.slice 9 (.string u) (some (.int .i64 (a:Int))) (some (.int .i64 ((a:Int)+(n:Int)))) none).run Tryz.prog w=.ok (.string (u.extract a (a+n))) w:=by
 have ht:=Tryz.underlying9
 have h1:(a:Int)≤(a:Int)+(n:Int):=by omega
 have h2:(a:Int)+(n:Int)≤(u.size:Int):=by omega
 have h3:(0:Int)≤(a:Int)+(n:Int):=by omega
 have h4:((a:Int)+(n:Int)).toNat=a+n:=by omega
 simp [Instr.slice,run_underlying ht,Instr.sliceBounds,run_sliceBound,sliced,h1,h2,h3,h4]
theorem unname_any (s:ByteArray) (hs:s.size<9223372036854775000) (at_:Int) (w:World) :
    Calls Tryz.prog 26 #[.string s,.int .i64 at_] w fun e w'=>e=.returned (.tuple #[.string (unR s at_).1,.int .i64 (unR s at_).2.1,.int .i64 (unR s at_).2.2])∧w'=w:=by
 have hul:Hid (∀w:World,Calls Tryz.prog 12 #[.string s,.int .i64 at_,.int .i64 32] w fun e w'=>e=.returned (.tuple #[.int .i64 (ulR s at_ 32).1,.int .i64 (ulR s at_ 32).2.1,.int .i64 (ulR s at_ 32).2.2])∧w'=w):=fun w=>unleb_any s hs at_ 32 w
 unfold unR
 have hr:=ul_rng s at_
 obtain⟨⟨k,to,e⟩,hq⟩:∃q,ulR s at_ 32=q:=⟨_,rfl⟩
 rw [hq] at hul hr ⊢
 simp only at hul hr ⊢
 by_cases he:e=0
 · subst he
   obtain⟨r1,r2,r3,r4⟩:=hr rfl
   obtain⟨K,rfl⟩:=Int.eq_ofNat_of_zero_le r1
   obtain⟨A,rfl⟩:=Int.eq_ofNat_of_zero_le r3
   simp only [Int.toNat_natCast,true_and]
   clear hr hq
   have hw1:-9223372036854775808≤(s.size:Int) - (A:Int):=by omega
   have hw2:(s.size:Int) - (A:Int)≤9223372036854775807:=by omega
   by_cases hk:(K:Int)≤(s.size:Int) - (A:Int)
   · rw [if_pos hk]
     have hk1:¬((s.size:Int) - (A:Int)<(K:Int)):=by omega
     by_cases h64:(64:Int)<(K:Int)
     · rw [if_pos h64]
       clear r1 r2 r3 r4 hk
       go_enter Tryz.func26,Tryz.ntmps26
       go_wp2_with (go_at_call 12;refine (hul.out _).mono ?_;rintro e w' ⟨rfl,hw⟩;obtain rfl:w=w':=hw.symm)
       go_ret3
       exact⟨rfl,rfl⟩
     · rw [if_neg h64]
       have hsl:=sl_eq s A K (by omega)
       have hwk:wrap64 ((A:Int)+(K:Int))=(A:Int)+(K:Int):=by unfold wrap64;omega
       have hz:(s.extract A (A+K)).size<9223372036854775000:=by rw [ByteArray.size_extract];omega
       cases hu:utfR (s.extract A (A+K)) with
       | false =>
        have hu2:Hid (∀w:World,Calls Tryz.prog 43 #[.string (s.extract A (A+K))] w fun e w'=>e=.returned (.bool false)∧w'=w):=fun w=>utf8_any _ hz _ hu w
        rw [if_neg (by decide)]
        clear hu hz r1 r2 r3 r4 hk
        go_enter Tryz.func26,Tryz.ntmps26
        go_wp2_with (first|(go_at_call 12;refine (hul.out _).mono ?_;rintro e w' ⟨rfl,hw⟩;obtain rfl:w=w':=hw.symm)|(go_at_call 43;refine (hu2.out _).mono ?_;rintro e w' ⟨rfl,hw⟩;obtain rfl:w=w':=hw.symm))
        go_ret3
        exact⟨rfl,rfl⟩
       | true =>
        have hu2:Hid (∀w:World,Calls Tryz.prog 43 #[.string (s.extract A (A+K))] w fun e w'=>e=.returned (.bool true)∧w'=w):=fun w=>utf8_any _ hz _ hu w
        rw [if_pos rfl]
        clear hu hz r1 r2 r3 r4 hk
        go_enter Tryz.func26,Tryz.ntmps26
        go_wp2_with (first|(go_at_call 12;refine (hul.out _).mono ?_;rintro e w' ⟨rfl,hw⟩;obtain rfl:w=w':=hw.symm)|(go_at_call 43;refine (hu2.out _).mono ?_;rintro e w' ⟨rfl,hw⟩;obtain rfl:w=w':=hw.symm))
        go_ret3
        exact⟨rfl,rfl⟩
   · rw [if_neg hk]
     have hk1:(s.size:Int) - (A:Int)<(K:Int):=by omega
     clear hk
     go_enter Tryz.func26,Tryz.ntmps26
     go_wp2_with (go_at_call 12;refine (hul.out _).mono ?_;rintro e w' ⟨rfl,hw⟩;obtain rfl:w=w':=hw.symm)
     go_ret3
     exact⟨rfl,rfl⟩
 · rw [if_neg (fun h=>he h.1)]
   have he2:(e != 0)=true:=by simpa using he
   clear hr hq he
   go_enter Tryz.func26,Tryz.ntmps26
   go_wp2_with (go_at_call 12;refine (hul.out _).mono ?_;rintro e w' ⟨rfl,hw⟩;obtain rfl:w=w':=hw.symm)
   go_ret3
   exact⟨rfl,rfl⟩
