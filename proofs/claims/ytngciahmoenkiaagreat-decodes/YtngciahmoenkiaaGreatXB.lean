import Derived.Test.YtngciahmoenkiaaGreatRows
import Derived.WalkKit
import Derived.ProofKit
import Derived.Deep.QuietTactic
import Derived.BigQuiet
import Derived.LoopN
import Derived.LoopTactic
import Derived.Lib.SlBytesRow
import Derived.Test.YtngciahmoenkiaaGreatXA
set_option linter.unusedVariables false
set_option linter.unusedSimpArgs false
set_option maxRecDepth 100000
set_option maxHeartbeats 4000000
namespace Go.Proofs.YtngciahmoenkiaaGreat
open Go.RowKit
theorem info_byte:(Tryz.prog.info? 5).map (fun i=>(i.zero,i.size,i.bytes))=some (some (.int .u8 0),1,1):=by kernel_rfl
theorem byte_parts:∃i,Tryz.prog.info? 5=some i∧i.zero=some (.int .u8 0)∧i.size=1∧i.bytes=1:=by
 have h:=info_byte
 cases hh:Tryz.prog.info? 5 with
 | none=>rw [hh] at h;cases h
 | some i =>
  rw [hh] at h
  simp only [Option.map_some,Option.some.injEq,Prod.mk.injEq] at h
  exact⟨i,rfl,h⟩
end Go.Proofs.YtngciahmoenkiaaGreat
namespace Go.Proofs.YtngciahmoenkiaaGreat
open Go.RowKit
end Go.Proofs.YtngciahmoenkiaaGreat
namespace Go.Proofs.YtngciahmoenkiaaGreat
open Go.RowKit
def bt (s:ByteArray) (i:Nat):Int:=if h:i<s.size then (s[i].toNat:Int) else 0
theorem bt_lt (s:ByteArray) (i:Nat):0≤bt s i∧bt s i<256:=by
 unfold bt
 split
 · have:=s[i].toNat_lt;omega
 · omega
def pt (s:ByteArray) (at_:Nat):Nat→Nat→Int×Int
 | 0,i=>(0,1200)
 | r+1,i=>if s.size≤at_+i then (0,1201) else if bt s (at_+i)<128 then (((at_+i:Nat):Int),0) else pt s at_ r (i+1)
def ptR (s:ByteArray) (at_ bits_:Int):Int×Int:=if (bits_=32∨bits_=64)∧0≤at_∧at_≤(s.size:Int) then pt s at_.toNat ((bits_+6) / 7).toNat 0 else (0,1200)
theorem parts_form (s:ByteArray) (at_ bits_:Int) (h:¬((bits_=32∨bits_=64)∧0≤at_∧at_≤(s.size:Int))) (w:World) :
    Calls Tryz.prog 25 #[.string s,.int .i64 at_,.int .i64 bits_] w fun e w'=>e=.returned (.tuple #[.int .i64 0,.int .i64 1200])∧w'=w:=by
 have h3:((bits_ != 32)=true∧(bits_ != 64)=true)∨(bits_=32∧at_<0)∨(bits_=32∧¬at_<0∧(s.size:Int)<at_)∨((bits_ != 32)=true∧bits_=64∧at_<0)∨((bits_ != 32)=true∧bits_=64∧¬at_<0∧(s.size:Int)<at_):=by
  simp only [bne_iff_ne,ne_eq]
  omega
 clear h
 rcases h3 with ⟨h1,h2⟩|⟨rfl,h1⟩|⟨rfl,h1,h2⟩|⟨_,rfl,h1⟩|⟨_,rfl,h1,h2⟩
 all_goals
  go_enter Tryz.func25,Tryz.ntmps25
  go_wp2
  go_ret2
  exact⟨rfl,rfl⟩
theorem parts_in (s:ByteArray) (hs:s.size<9223372036854775000) (a:Nat) (ha:a≤s.size) (bits_:Int) (m:Nat) (hb:(bits_=32∧m=5)∨(bits_=64∧m=10)) (K E:Int) (hr:Hid (pt s a m 0=(K,E))) (w:World) :
    Calls Tryz.prog 25 #[.string s,.int .i64 (a:Int),.int .i64 bits_] w fun e w'=>e=.returned (.tuple #[.int .i64 K,.int .i64 E])∧w'=w:=by
 have h1:¬(a:Int)<0:=by omega
 have h2:¬(s.size:Int)<(a:Int):=by omega
 have hm:Hid (0<m∧m≤10):=by
  show _∧_
  omega
 rcases hb with ⟨rfl,rfl⟩|⟨rfl,rfl⟩
 · go_enter Tryz.func25,Tryz.ntmps25
   go_wp2_with fail
   go_loopw [9] (fun v wr=>∃i:Nat,i≤5∧v=.int .i64 (i:Nat)∧wr=w∧pt s a (5 - i) i=(K,E)) (fun v _=>5 - (intOf v).toNat)
   case atStart=>exact⟨0,by decide,rfl,rfl,hr.out⟩
   case round =>
    obtain⟨i,hi,rfl,hw,hp⟩:=hrel
    obtain rfl:w=wr:=hw.symm
    clear hr
    by_cases hlt:i<5
    · have hl1:(i:Int)<5:=by omega
      rw [show 5 - i=(5 - (i+1))+1 by omega] at hp
      unfold pt at hp
      by_cases h3:s.size≤a+i
      · rw [if_pos h3] at hp
        cases hp
        have h4:(s.size:Int)≤(a:Int)+(i:Int):=by omega
        go_wp2
        go_ret2
        exact⟨rfl,rfl⟩
      · rw [if_neg h3] at hp
        have h4:¬(s.size:Int)≤(a:Int)+(i:Int):=by omega
        have h5:a+i<s.size:=by omega
        have hbt:bt s (a+i)=(s[a+i].toNat:Int):=dif_pos h5
        by_cases h6:bt s (a+i)<128
        · rw [if_pos h6] at hp
          cases hp
          rw [hbt] at h6
          clear hbt
          go_wp2
          go_ret2
          exact⟨rfl,rfl⟩
        · rw [if_neg h6] at hp
          rw [hbt] at h6
          replace hp:Hid _:=hp
          clear hbt
          go_wp2
          go_roundw
          case rel=>exact⟨i+1,by omega,by go_num,trivial,hp.out⟩
          case measure=>simp [intOf];omega
    · have hie:i=5:=by omega
      subst hie
      simp only [Nat.sub_self,pt] at hp
      cases hp
      go_wp2
      go_ret2
      exact⟨rfl,rfl⟩
 · go_enter Tryz.func25,Tryz.ntmps25
   go_wp2_with fail
   go_loopw [9] (fun v wr=>∃i:Nat,i≤10∧v=.int .i64 (i:Nat)∧wr=w∧pt s a (10 - i) i=(K,E)) (fun v _=>10 - (intOf v).toNat)
   case atStart=>exact⟨0,by decide,rfl,rfl,hr.out⟩
   case round =>
    obtain⟨i,hi,rfl,hw,hp⟩:=hrel
    obtain rfl:w=wr:=hw.symm
    clear hr
    by_cases hlt:i<10
    · have hl1:(i:Int)<10:=by omega
      rw [show 10 - i=(10 - (i+1))+1 by omega] at hp
      unfold pt at hp
      by_cases h3:s.size≤a+i
      · rw [if_pos h3] at hp
        cases hp
        have h4:(s.size:Int)≤(a:Int)+(i:Int):=by omega
        go_wp2
        go_ret2
        exact⟨rfl,rfl⟩
      · rw [if_neg h3] at hp
        have h4:¬(s.size:Int)≤(a:Int)+(i:Int):=by omega
        have h5:a+i<s.size:=by omega
        have hbt:bt s (a+i)=(s[a+i].toNat:Int):=dif_pos h5
        by_cases h6:bt s (a+i)<128
        · rw [if_pos h6] at hp
          cases hp
          rw [hbt] at h6
          clear hbt
          go_wp2
          go_ret2
          exact⟨rfl,rfl⟩
        · rw [if_neg h6] at hp
          rw [hbt] at h6
          replace hp:Hid _:=hp
          clear hbt
          go_wp2
          go_roundw
          case rel=>exact⟨i+1,by omega,by go_num,trivial,hp.out⟩
          case measure=>simp [intOf];omega
    · have hie:i=10:=by omega
      subst hie
      simp only [Nat.sub_self,pt] at hp
      cases hp
      go_wp2
      go_ret2
      exact⟨rfl,rfl⟩
end Go.Proofs.YtngciahmoenkiaaGreat
namespace Go.Proofs.YtngciahmoenkiaaGreat
open Go.RowKit
def ac (s:ByteArray) (a:Nat):Nat→Int→Int
 | 0,x=>x
 | j+1,x=>ac s a j (wrap64 (x*128+bt s (a+j) % 128))
theorem or_part (x p:Int) (h0:0≤p) (h1:p<128):bits .or .i64 (wrap64 (x*128)) p=wrap64 (x*128+p):=by
 rw [BM.or_i64]
 obtain⟨V,hV⟩:∃V:Nat,(wrap64 (x*128) % 18446744073709551616).toNat=V*128:=⟨((x % 144115188075855872)).toNat,by unfold wrap64;omega⟩
 rw [hV,show (p % 18446744073709551616).toNat=p.toNat by omega]
 have hor:V*128 ||| p.toNat=V*128+p.toNat:=by
  rw [show V*128=V <<< 7 by rw [Nat.shiftLeft_eq]]
  exact (Nat.shiftLeft_add_eq_or_of_lt (by omega) V).symm
 rw [hor]
 unfold wrap64 at *
 omega
theorem and_127 (b:Int) (h:0≤b∧b<256):bits .and .u8 b 127=b % 128:=by
 have hh:∀n:Nat,n<256→bits .and .u8 (n:Int) 127=(n:Int) % 128:=by decide +kernel
 have:=hh b.toNat (by omega)
 rwa [Int.toNat_of_nonneg h.1] at this
theorem wrap_part (b:Int) (h:0≤b∧b<256):wrap64 (b % 128)=b % 128:=by unfold wrap64;omega
def ulR (s:ByteArray) (at_ bits_:Int):Int×Int×Int :=
 if (ptR s at_ bits_).2=0 then
  if (ptR s at_ bits_).1 - at_=(bits_+6) / 7 - 1∧¬bt s (ptR s at_ bits_).1.toNat / 2 ^ (bits_ % 7).toNat=0 then (0,0,1200)
  else (ac s at_.toNat ((ptR s at_ bits_).1.toNat+1 - at_.toNat) 0,(ptR s at_ bits_).1+1,0)
 else (0,0,(ptR s at_ bits_).2)
theorem parts_any (s:ByteArray) (hs:s.size<9223372036854775000) (at_ bits_:Int) (w:World) :
    Calls Tryz.prog 25 #[.string s,.int .i64 at_,.int .i64 bits_] w fun e w'=>e=.returned (.tuple #[.int .i64 (ptR s at_ bits_).1,.int .i64 (ptR s at_ bits_).2])∧w'=w:=by
 unfold ptR
 by_cases h:(bits_=32∨bits_=64)∧0≤at_∧at_≤(s.size:Int)
 · rw [if_pos h]
   obtain⟨a,rfl⟩:=Int.eq_ofNat_of_zero_le h.2.1
   rw [Int.toNat_natCast]
   rcases h.1 with rfl|rfl
   · exact parts_in s hs a (by omega) 32 5 (Or.inl ⟨rfl,rfl⟩) _ _ rfl w
   · exact parts_in s hs a (by omega) 64 10 (Or.inr ⟨rfl,rfl⟩) _ _ rfl w
 · rw [if_neg h]
   exact parts_form s at_ bits_ h w
theorem pt_in (s:ByteArray) (a:Nat):∀(r i:Nat),(pt s a r i).2=0→∃k:Nat,(pt s a r i).1=(k:Int)∧a+i≤k∧k<s.size∧k<a+i+r∧bt s k<128
 | 0,i,h=>by simp [pt] at h
 | r+1,i,h=>by
  unfold pt at h ⊢
  by_cases h3:s.size≤a+i
  · rw [if_pos h3] at h;simp at h
  · rw [if_neg h3] at h ⊢
    by_cases h6:bt s (a+i)<128
    · rw [if_pos h6] at h ⊢
      exact⟨a+i,rfl,by omega,by omega,by omega,h6⟩
    · rw [if_neg h6] at h ⊢
      obtain⟨k,h7,h8,h9,h10,h11⟩:=pt_in s a r (i+1) h
      exact⟨k,h7,by omega,h9,by omega,h11⟩
theorem ptR_in {s:ByteArray} {at_ bits_:Int} (h:(ptR s at_ bits_).2=0):∃a k m:Nat,at_=(a:Int)∧((bits_=32∧m=5)∨(bits_=64∧m=10))∧(ptR s at_ bits_).1=(k:Int)∧a≤k∧k<s.size∧k<a+m∧bt s k<128:=by
 unfold ptR at h ⊢
 by_cases hh:(bits_=32∨bits_=64)∧0≤at_∧at_≤(s.size:Int)
 · rw [if_pos hh] at h ⊢
   obtain⟨a,rfl⟩:=Int.eq_ofNat_of_zero_le hh.2.1
   rw [Int.toNat_natCast] at h ⊢
   rcases hh.1 with rfl|rfl
   · obtain⟨k,h1,h2,h3,h4,h5⟩:=pt_in s a 5 0 h
     exact⟨a,k,5,rfl,Or.inl ⟨rfl,rfl⟩,h1,by omega,h3,by omega,h5⟩
   · obtain⟨k,h1,h2,h3,h4,h5⟩:=pt_in s a 10 0 h
     exact⟨a,k,10,rfl,Or.inr ⟨rfl,rfl⟩,h1,by omega,h3,by omega,h5⟩
 · rw [if_neg hh] at h
   simp at h
theorem unleb_err (s:ByteArray) (hs:s.size<9223372036854775000) (at_ bits_:Int) (h:¬(ptR s at_ bits_).2=0) (w:World) :
    Calls Tryz.prog 12 #[.string s,.int .i64 at_,.int .i64 bits_] w fun e w'=>e=.returned (.tuple #[.int .i64 0,.int .i64 0,.int .i64 (ptR s at_ bits_).2])∧w'=w:=by
 have hp:=parts_any s hs at_ bits_
 replace hp:Hid (∀w:World,Calls Tryz.prog 25 #[.string s,.int .i64 at_,.int .i64 bits_] w fun e w'=>e=.returned (.tuple #[.int .i64 (ptR s at_ bits_).1,.int .i64 (ptR s at_ bits_).2])∧w'=w):=hp
 generalize (ptR s at_ bits_).1=K at *
 generalize (ptR s at_ bits_).2=E at *
 have h2:(E != 0)=true:=by simpa using h
 go_enter Tryz.func12,Tryz.ntmps12
 go_wp2_with (go_at_call 25;refine (hp.out _).mono ?_;rintro e w' ⟨rfl,rfl⟩)
 go_ret3
 exact⟨rfl,rfl⟩
end Go.Proofs.YtngciahmoenkiaaGreat
namespace Go.Proofs.YtngciahmoenkiaaGreat
open Go.RowKit
theorem unleb_form32 (s:ByteArray) (hs:s.size<9223372036854775000) (a k:Nat) (hp:Hid (ptR s (a:Int) 32=((k:Int),0))) (hk:a≤k) (hk2:k<s.size) (hk3:k<a+5) (he:k=a+4) (hf:¬bt s k / 16=0) (w:World) :
    Calls Tryz.prog 12 #[.string s,.int .i64 (a:Int),.int .i64 32] w fun e w'=>e=.returned (.tuple #[.int .i64 0,.int .i64 0,.int .i64 1200])∧w'=w:=by
 have hpp:Hid (∀w:World,Calls Tryz.prog 25 #[.string s,.int .i64 (a:Int),.int .i64 32] w fun e w'=>e=.returned (.tuple #[.int .i64 (k:Int),.int .i64 0])∧w'=w):=fun w=>by
  have:=parts_any s hs (a:Int) 32 w
  rwa [hp.out] at this
 clear hp
 have hbt:bt s k=(s[k].toNat:Int):=dif_pos hk2
 have hwr:wrap64 (s[k].toNat:Int)=(s[k].toNat:Int):=by have:=s[k].toNat_lt;unfold wrap64;omega
 rw [hbt] at hf
 have hf2:(((s[k].toNat:Int) / 16) != 0)=true:=by simpa using hf
 have e1:(k:Int) - (a:Int)=4:=by omega
 clear hbt hf he
 go_enter Tryz.func12,Tryz.ntmps12
 go_wp2_with (go_at_call 25;refine (hpp.out _).mono ?_;rintro e w' ⟨rfl,hw⟩;obtain rfl:w=w':=hw.symm)
 go_ret3
 exact⟨rfl,rfl⟩
theorem unleb_ok32 (s:ByteArray) (hs:s.size<9223372036854775000) (a k:Nat) (hp:Hid (ptR s (a:Int) 32=((k:Int),0))) (hk:a≤k) (hk2:k<s.size) (hk3:k<a+5) (he:¬(k=a+4∧¬bt s k / 16=0)) (w:World) :
    Calls Tryz.prog 12 #[.string s,.int .i64 (a:Int),.int .i64 32] w fun e w'=>e=.returned (.tuple #[.int .i64 (ac s a (k+1 - a) 0),.int .i64 ((k:Int)+1),.int .i64 0])∧w'=w:=by
 have hpp:Hid (∀w:World,Calls Tryz.prog 25 #[.string s,.int .i64 (a:Int),.int .i64 32] w fun e w'=>e=.returned (.tuple #[.int .i64 (k:Int),.int .i64 0])∧w'=w):=fun w=>by
  have:=parts_any s hs (a:Int) 32 w
  rwa [hp.out] at this
 clear hp
 have hbt:bt s k=(s[k].toNat:Int):=dif_pos hk2
 have hwr:wrap64 (s[k].toNat:Int)=(s[k].toNat:Int):=by have:=s[k].toNat_lt;unfold wrap64;omega
 rw [hbt] at he
 replace he:((k:Int) - (a:Int)==4)=false∨((k:Int) - (a:Int)=4∧(((s[k].toNat:Int) / 16) != 0)=false):=by
  by_cases h1:k=a+4
  · right
    refine⟨by omega,?_⟩
    by_cases h2:(s[k].toNat:Int) / 16=0
    · simpa using h2
    · exact absurd ⟨h1,h2⟩ he
  · left
    simp
    omega
 clear hbt
 obtain⟨R,hR⟩:∃R,ac s a (k+1 - a) 0=R:=⟨_,rfl⟩
 rw [hR]
 replace hR:Hid _:=hR
 rcases he with he|⟨he,hf⟩
 all_goals
  go_enter Tryz.func12,Tryz.ntmps12
  go_wp2_with (go_at_call 25;refine (hpp.out _).mono ?_;rintro e w' ⟨rfl,hw⟩;obtain rfl:w=w':=hw.symm)
  go_loopw [11,12] (fun v i wr=>∃(j:Nat) (x:Int),v=.int .i64 x∧i=.int .i64 ((a:Int)+(j:Int) - 1)∧j≤k+1 - a∧wr=w∧ac s a j x=R) (fun v i _=>(intOf i+1 - (a:Int)).toNat)
  case atStart=>exact⟨k+1 - a,0,rfl,by congr 1;omega,Nat.le_refl _,rfl,hR.out⟩
  case round =>
   clear hR he hwr
   try clear hf
   obtain⟨j,x,rfl,rfl,hj,hw,hac⟩:=hrel
   obtain rfl:w=wr:=hw.symm
   by_cases h0:j=0
   · subst h0
     simp only [ac] at hac
     subst hac
     obtain⟨z,hz⟩:∃z,(a:Int)+((0:Nat):Int) - 1=z:=⟨_,rfl⟩
     rw [hz]
     have h1:z<(a:Int):=by omega
     clear hz hj hw hpp hk hk3
     go_wp2
     go_ret3
     exact⟨rfl,rfl⟩
   · obtain⟨j,rfl⟩:∃j',j=j'+1:=⟨j - 1,by omega⟩
     have e1:(a:Int)+((j+1:Nat):Int) - 1=(a:Int)+(j:Int):=by omega
     have hlt:a+j<s.size:=by omega
     have h1:(a:Int)≤(a:Int)+(j:Int):=by omega
     have h2:(a:Int)+(j:Int)<(s.size:Int):=by omega
     have hb2:bt s (a+j)=(s[a+j].toNat:Int):=dif_pos hlt
     have hbb:=bt_lt s (a+j)
     rw [hb2] at hbb
     have q1:=and_127 _ hbb
     have q2:=wrap_part _ hbb
     have q3:=or_part x ((s[a+j].toNat:Int) % 128) (Int.emod_nonneg _ (by decide)) (Int.emod_lt_of_pos _ (by decide))
     simp only [ac,hb2] at hac
     rw [e1]
     replace hac:Hid _:=hac
     have hj2:Hid (j≤k+1 - a):=(by show j≤k+1 - a;exact Nat.le_of_succ_le hj)
     clear hb2 hbb e1 hj hw h0 hpp hk hk3
     go_wp2
     go_roundw
     case rel=>exact⟨j,_,rfl,rfl,hj2.out,trivial,hac.out⟩
     case measure=>simp [intOf];omega
theorem unleb_form64 (s:ByteArray) (hs:s.size<9223372036854775000) (a k:Nat) (hp:Hid (ptR s (a:Int) 64=((k:Int),0))) (hk:a≤k) (hk2:k<s.size) (hk3:k<a+10) (he:k=a+9) (hf:¬bt s k / 2=0) (w:World) :
    Calls Tryz.prog 12 #[.string s,.int .i64 (a:Int),.int .i64 64] w fun e w'=>e=.returned (.tuple #[.int .i64 0,.int .i64 0,.int .i64 1200])∧w'=w:=by
 have hpp:Hid (∀w:World,Calls Tryz.prog 25 #[.string s,.int .i64 (a:Int),.int .i64 64] w fun e w'=>e=.returned (.tuple #[.int .i64 (k:Int),.int .i64 0])∧w'=w):=fun w=>by
  have:=parts_any s hs (a:Int) 64 w
  rwa [hp.out] at this
 clear hp
 have hbt:bt s k=(s[k].toNat:Int):=dif_pos hk2
 have hwr:wrap64 (s[k].toNat:Int)=(s[k].toNat:Int):=by have:=s[k].toNat_lt;unfold wrap64;omega
 rw [hbt] at hf
 have hf2:(((s[k].toNat:Int) / 2) != 0)=true:=by simpa using hf
 have e1:(k:Int) - (a:Int)=9:=by omega
 clear hbt hf he
 go_enter Tryz.func12,Tryz.ntmps12
 go_wp2_with (go_at_call 25;refine (hpp.out _).mono ?_;rintro e w' ⟨rfl,hw⟩;obtain rfl:w=w':=hw.symm)
 go_ret3
 exact⟨rfl,rfl⟩
theorem unleb_ok64 (s:ByteArray) (hs:s.size<9223372036854775000) (a k:Nat) (hp:Hid (ptR s (a:Int) 64=((k:Int),0))) (hk:a≤k) (hk2:k<s.size) (hk3:k<a+10) (he:¬(k=a+9∧¬bt s k / 2=0)) (w:World) :
    Calls Tryz.prog 12 #[.string s,.int .i64 (a:Int),.int .i64 64] w fun e w'=>e=.returned (.tuple #[.int .i64 (ac s a (k+1 - a) 0),.int .i64 ((k:Int)+1),.int .i64 0])∧w'=w:=by
 have hpp:Hid (∀w:World,Calls Tryz.prog 25 #[.string s,.int .i64 (a:Int),.int .i64 64] w fun e w'=>e=.returned (.tuple #[.int .i64 (k:Int),.int .i64 0])∧w'=w):=fun w=>by
  have:=parts_any s hs (a:Int) 64 w
  rwa [hp.out] at this
 clear hp
 have hbt:bt s k=(s[k].toNat:Int):=dif_pos hk2
 have hwr:wrap64 (s[k].toNat:Int)=(s[k].toNat:Int):=by have:=s[k].toNat_lt;unfold wrap64;omega
 rw [hbt] at he
 replace he:((k:Int) - (a:Int)==9)=false∨((k:Int) - (a:Int)=9∧(((s[k].toNat:Int) / 2) != 0)=false):=by
  by_cases h1:k=a+9
  · right
    refine⟨by omega,?_⟩
    by_cases h2:(s[k].toNat:Int) / 2=0
    · simpa using h2
    · exact absurd ⟨h1,h2⟩ he
  · left
    simp
    omega
 clear hbt
 obtain⟨R,hR⟩:∃R,ac s a (k+1 - a) 0=R:=⟨_,rfl⟩
 rw [hR]
 replace hR:Hid _:=hR
 rcases he with he|⟨he,hf⟩
 all_goals
  go_enter Tryz.func12,Tryz.ntmps12
  go_wp2_with (go_at_call 25;refine (hpp.out _).mono ?_;rintro e w' ⟨rfl,hw⟩;obtain rfl:w=w':=hw.symm)
  go_loopw [11,12] (fun v i wr=>∃(j:Nat) (x:Int),v=.int .i64 x∧i=.int .i64 ((a:Int)+(j:Int) - 1)∧j≤k+1 - a∧wr=w∧ac s a j x=R) (fun v i _=>(intOf i+1 - (a:Int)).toNat)
  case atStart=>exact⟨k+1 - a,0,rfl,by congr 1;omega,Nat.le_refl _,rfl,hR.out⟩
  case round =>
   clear hR he hwr
   try clear hf
   obtain⟨j,x,rfl,rfl,hj,hw,hac⟩:=hrel
   obtain rfl:w=wr:=hw.symm
   by_cases h0:j=0
   · subst h0
     simp only [ac] at hac
     subst hac
     obtain⟨z,hz⟩:∃z,(a:Int)+((0:Nat):Int) - 1=z:=⟨_,rfl⟩
     rw [hz]
     have h1:z<(a:Int):=by omega
     clear hz hj hw hpp hk hk3
     go_wp2
     go_ret3
     exact⟨rfl,rfl⟩
   · obtain⟨j,rfl⟩:∃j',j=j'+1:=⟨j - 1,by omega⟩
     have e1:(a:Int)+((j+1:Nat):Int) - 1=(a:Int)+(j:Int):=by omega
     have hlt:a+j<s.size:=by omega
     have h1:(a:Int)≤(a:Int)+(j:Int):=by omega
     have h2:(a:Int)+(j:Int)<(s.size:Int):=by omega
     have hb2:bt s (a+j)=(s[a+j].toNat:Int):=dif_pos hlt
     have hbb:=bt_lt s (a+j)
     rw [hb2] at hbb
     have q1:=and_127 _ hbb
     have q2:=wrap_part _ hbb
     have q3:=or_part x ((s[a+j].toNat:Int) % 128) (Int.emod_nonneg _ (by decide)) (Int.emod_lt_of_pos _ (by decide))
     simp only [ac,hb2] at hac
     rw [e1]
     replace hac:Hid _:=hac
     have hj2:Hid (j≤k+1 - a):=(by show j≤k+1 - a;exact Nat.le_of_succ_le hj)
     clear hb2 hbb e1 hj hw h0 hpp hk hk3
     go_wp2
     go_roundw
     case rel=>exact⟨j,_,rfl,rfl,hj2.out,trivial,hac.out⟩
     case measure=>simp [intOf];omega
end Go.Proofs.YtngciahmoenkiaaGreat
namespace Go.Proofs.YtngciahmoenkiaaGreat
open Go.RowKit
theorem unleb_any (s:ByteArray) (hs:s.size<9223372036854775000) (at_ bits_:Int) (w:World) :
    Calls Tryz.prog 12 #[.string s,.int .i64 at_,.int .i64 bits_] w fun e w'=>e=.returned (.tuple #[.int .i64 (ulR s at_ bits_).1,.int .i64 (ulR s at_ bits_).2.1,.int .i64 (ulR s at_ bits_).2.2])∧w'=w:=by
 by_cases h:(ptR s at_ bits_).2=0
 · obtain⟨a,k,m,rfl,hb,h1,h2,h3,h4,h5⟩:=ptR_in h
   have hp:ptR s (a:Int) bits_=((k:Int),0):=Prod.ext h1 h
   rcases hb with ⟨rfl,rfl⟩|⟨rfl,rfl⟩
   · by_cases hc:k=a+4∧¬bt s k / 16=0
     · have e:ulR s (a:Int) 32=(0,0,1200):=by
        unfold ulR
        rw [hp,if_pos rfl,if_pos]
        exact⟨by omega,hc.2⟩
       rw [e]
       exact unleb_form32 s hs a k hp h2 h3 h4 hc.1 hc.2 w
     · have e:ulR s (a:Int) 32=(ac s a (k+1 - a) 0,(k:Int)+1,0):=by
        unfold ulR
        rw [hp,if_pos rfl,if_neg]
        · rfl
        · rintro ⟨x1,x2⟩
          exact hc ⟨by omega,x2⟩
       rw [e]
       exact unleb_ok32 s hs a k hp h2 h3 h4 hc w
   · by_cases hc:k=a+9∧¬bt s k / 2=0
     · have e:ulR s (a:Int) 64=(0,0,1200):=by
        unfold ulR
        rw [hp,if_pos rfl,if_pos]
        exact⟨by omega,hc.2⟩
       rw [e]
       exact unleb_form64 s hs a k hp h2 h3 h4 hc.1 hc.2 w
     · have e:ulR s (a:Int) 64=(ac s a (k+1 - a) 0,(k:Int)+1,0):=by
        unfold ulR
        rw [hp,if_pos rfl,if_neg]
        · rfl
        · rintro ⟨x1,x2⟩
          exact hc ⟨by omega,x2⟩
       rw [e]
       exact unleb_ok64 s hs a k hp h2 h3 h4 hc w
 · have e:ulR s at_ bits_=(0,0,(ptR s at_ bits_).2):=by unfold ulR;exact if_neg h
   rw [e]
   exact unleb_err s hs at_ bits_ h w
end Go.Proofs.YtngciahmoenkiaaGreat
namespace Go.Proofs.YtngciahmoenkiaaGreat
open Go.RowKit
def sg3 (x:Int):Int:=if x % 4294967296<2147483648 then x % 4294967296 else x % 4294967296 - 4294967296
theorem rlow_any (x:Int) (w:World) :
    Calls Tryz.prog 99 #[.int .i64 x] w fun e w'=>e=.returned (.int .i64 (x % 4294967296))∧w'=w:=by
 have ha:bits .and .i64 x 4294967295=x % 4294967296:=by rw [show (4294967295:Int)=((2 ^ 32:Nat) - 1:Int) by decide,BM.and_mask x 32 (by decide)];rfl
 go_enter Tryz.func99,Tryz.ntmps99
 go_wp2
 go_ret
 exact⟨rfl,rfl⟩
theorem rsign_any (x:Int) (w:World) :
    Calls Tryz.prog 112 #[.int .i64 x] w fun e w'=>e=.returned (.int .i64 (sg3 x))∧w'=w:=by
 unfold sg3
 have hb:0≤x % 4294967296∧x % 4294967296<4294967296:=by omega
 have hl:Hid (∀w:World,Calls Tryz.prog 99 #[.int .i64 x] w fun e w'=>e=.returned (.int .i64 (x % 4294967296))∧w'=w):=rlow_any x
 generalize x % 4294967296=y at *
 by_cases h:y<2147483648
 · rw [if_pos h]
   go_enter Tryz.func112,Tryz.ntmps112
   go_wp2_with (go_at_call 99;refine (hl.out _).mono ?_;rintro e w' ⟨rfl,rfl⟩)
   go_ret
   exact⟨rfl,rfl⟩
 · rw [if_neg h]
   go_enter Tryz.func112,Tryz.ntmps112
   go_wp2_with (go_at_call 99;refine (hl.out _).mono ?_;rintro e w' ⟨rfl,rfl⟩)
   go_ret
   exact⟨rfl,rfl⟩
theorem and_64 (b:Int) (h:0≤b∧b<256):bits .and .i64 b 64=if b % 128<64 then 0 else 64:=by
 have hh:∀n:Nat,n<256→bits .and .i64 (n:Int) 64=if (n:Int) % 128<64 then 0 else 64:=by decide +kernel
 have:=hh b.toNat (by omega)
 rwa [Int.toNat_of_nonneg h.1] at this
theorem unsleb_form32 (s:ByteArray) (hs:s.size<9223372036854775000) (a k:Nat) (hp:Hid (ptR s (a:Int) 32=((k:Int),0))) (hk:a≤k) (hk2:k<s.size) (hk3:k<a+5) (he:k=a+4) (hf:¬bt s k / 8=0) (hf2:¬bt s k / 8=15) (w:World) :
    Calls Tryz.prog 105 #[.string s,.int .i64 (a:Int),.int .i64 32] w fun e w'=>e=.returned (.tuple #[.int .i64 0,.int .i64 0,.int .i64 1200])∧w'=w:=by
 have hpp:Hid (∀w:World,Calls Tryz.prog 25 #[.string s,.int .i64 (a:Int),.int .i64 32] w fun e w'=>e=.returned (.tuple #[.int .i64 (k:Int),.int .i64 0])∧w'=w):=fun w=>by
  have:=parts_any s hs (a:Int) 32 w
  rwa [hp.out] at this
 clear hp
 have hbt:bt s k=(s[k].toNat:Int):=dif_pos hk2
 have hwr:wrap64 (s[k].toNat:Int)=(s[k].toNat:Int):=by have:=s[k].toNat_lt;unfold wrap64;omega
 have hbb:=bt_lt s k
 rw [hbt] at hf hf2
 skip
 have hf3:(((s[k].toNat:Int) / 8) != 0)=true:=by simpa using hf
 have hf4:(((s[k].toNat:Int) / 8) != 15)=true:=by simpa using hf2
 have e1:(k:Int) - (a:Int)=4:=by omega
 clear hbt hf hf2 he hbb
 go_enter Tryz.func105,Tryz.ntmps105
 go_wp2_with (go_at_call 25;refine (hpp.out _).mono ?_;rintro e w' ⟨rfl,hw⟩;obtain rfl:w=w':=hw.symm)
 go_ret3
 exact⟨rfl,rfl⟩
theorem unsleb_ok32 (s:ByteArray) (hs:s.size<9223372036854775000) (a k:Nat) (hp:Hid (ptR s (a:Int) 32=((k:Int),0))) (hk:a≤k) (hk2:k<s.size) (hk3:k<a+5) (he:¬(k=a+4∧¬bt s k / 8=0∧¬bt s k / 8=15)) (w:World) :
    Calls Tryz.prog 105 #[.string s,.int .i64 (a:Int),.int .i64 32] w fun e w'=>e=.returned (.tuple #[.int .i64 (sg3 (ac s a (k+1 - a) (if bt s k % 128<64 then 0 else -1))),.int .i64 ((k:Int)+1),.int .i64 0])∧w'=w:=by
 have hpp:Hid (∀w:World,Calls Tryz.prog 25 #[.string s,.int .i64 (a:Int),.int .i64 32] w fun e w'=>e=.returned (.tuple #[.int .i64 (k:Int),.int .i64 0])∧w'=w):=fun w=>by
  have:=parts_any s hs (a:Int) 32 w
  rwa [hp.out] at this
 clear hp
 have hbt:bt s k=(s[k].toNat:Int):=dif_pos hk2
 have hwr:wrap64 (s[k].toNat:Int)=(s[k].toNat:Int):=by have:=s[k].toNat_lt;unfold wrap64;omega
 have hbb:=bt_lt s k
 rw [hbt] at he hbb
 skip
 replace he:((k:Int) - (a:Int)==4)=false∨((k:Int) - (a:Int)=4∧(((s[k].toNat:Int) / 8) != 0)=false)∨((k:Int) - (a:Int)=4∧(((s[k].toNat:Int) / 8) != 0)=true∧(((s[k].toNat:Int) / 8) != 15)=false):=by
  by_cases h1:k=a+4
  · by_cases h2:((s[k].toNat:Int) / 8)=0
    · exact Or.inr (Or.inl ⟨by omega,by simpa using h2⟩)
    · by_cases h3:((s[k].toNat:Int) / 8)=15
      · exact Or.inr (Or.inr ⟨by omega,by simpa using h2,by simpa using h3⟩)
      · exact absurd ⟨h1,h2,h3⟩ he
  · left
    simp
    omega
 have h64:=and_64 _ hbb
 rw [hbt]
 obtain⟨X,hX⟩:∃X:Int,(if (s[k].toNat:Int) % 128<64 then 0 else -1)=X:=⟨_,rfl⟩
 rw [hX]
 obtain⟨R,hR⟩:∃R,ac s a (k+1 - a) X=R:=⟨_,rfl⟩
 rw [hR]
 replace hR:Hid (ac s a (k+1 - a) X=R):=hR
 have hs3:(bits .and .i64 (s[k].toNat:Int) 64=0∧X=0)∨(bits .and .i64 (s[k].toNat:Int) 64=64∧X=-1):=by
  rw [h64,←hX]
  by_cases hq:(s[k].toNat:Int) % 128<64
  · rw [if_pos hq,if_pos hq];exact Or.inl ⟨rfl,rfl⟩
  · rw [if_neg hq,if_neg hq];exact Or.inr ⟨rfl,rfl⟩
 clear hbt hbb h64 hX
 rcases hs3 with ⟨hs3,rfl⟩|⟨hs3,rfl⟩ <;> rcases he with he|⟨he,hf⟩|⟨he,hf,hf2⟩
 all_goals
  go_enter Tryz.func105,Tryz.ntmps105
  go_wp2_with (go_at_call 25;refine (hpp.out _).mono ?_;rintro e w' ⟨rfl,hw⟩;obtain rfl:w=w':=hw.symm)
  go_loopw [13,14] (fun v i wr=>∃(j:Nat) (x:Int),v=.int .i64 x∧i=.int .i64 ((a:Int)+(j:Int) - 1)∧j≤k+1 - a∧wr=w∧ac s a j x=R) (fun v i _=>(intOf i+1 - (a:Int)).toNat)
  case atStart =>
   clear hwr hs3 he
   try clear hf
   try clear hf2
   exact⟨k+1 - a,_,rfl,by congr 1;omega,Nat.le_refl _,rfl,hR.out⟩
  case round =>
   clear hR he hwr hs3
   try clear hf
   try clear hf2
   obtain⟨j,x,rfl,rfl,hj,hw,hac⟩:=hrel
   obtain rfl:w=wr:=hw.symm
   by_cases h0:j=0
   · subst h0
     simp only [ac] at hac
     subst hac
     obtain⟨z,hz⟩:∃z,(a:Int)+((0:Nat):Int) - 1=z:=⟨_,rfl⟩
     rw [hz]
     have h1:z<(a:Int):=by omega
     clear hz hj hw hpp hk hk3
     go_wp2_with (go_at_call 112;refine (rsign_any _ _).mono ?_;rintro e w' ⟨rfl,hw⟩;obtain rfl:w=w':=hw.symm)
     go_ret3
     exact⟨rfl,rfl⟩
   · obtain⟨j,rfl⟩:∃j',j=j'+1:=⟨j - 1,by omega⟩
     have e1:(a:Int)+((j+1:Nat):Int) - 1=(a:Int)+(j:Int):=by omega
     have hlt:a+j<s.size:=by omega
     have h1:(a:Int)≤(a:Int)+(j:Int):=by omega
     have h2:(a:Int)+(j:Int)<(s.size:Int):=by omega
     have hb2:bt s (a+j)=(s[a+j].toNat:Int):=dif_pos hlt
     have hbb:=bt_lt s (a+j)
     rw [hb2] at hbb
     have q1:=and_127 _ hbb
     have q2:=wrap_part _ hbb
     have q3:=or_part x ((s[a+j].toNat:Int) % 128) (Int.emod_nonneg _ (by decide)) (Int.emod_lt_of_pos _ (by decide))
     simp only [ac,hb2] at hac
     rw [e1]
     replace hac:Hid _:=hac
     have hj2:Hid (j≤k+1 - a):=(by show j≤k+1 - a;exact Nat.le_of_succ_le hj)
     clear hb2 hbb e1 hj hw h0 hpp hk hk3
     go_wp2
     go_roundw
     case rel=>exact⟨j,_,rfl,rfl,hj2.out,trivial,hac.out⟩
     case measure=>simp [intOf];omega
theorem unsleb_form64 (s:ByteArray) (hs:s.size<9223372036854775000) (a k:Nat) (hp:Hid (ptR s (a:Int) 64=((k:Int),0))) (hk:a≤k) (hk2:k<s.size) (hk3:k<a+10) (he:k=a+9) (hf:¬bt s k / 1=0) (hf2:¬bt s k / 1=127) (w:World) :
    Calls Tryz.prog 105 #[.string s,.int .i64 (a:Int),.int .i64 64] w fun e w'=>e=.returned (.tuple #[.int .i64 0,.int .i64 0,.int .i64 1200])∧w'=w:=by
 have hpp:Hid (∀w:World,Calls Tryz.prog 25 #[.string s,.int .i64 (a:Int),.int .i64 64] w fun e w'=>e=.returned (.tuple #[.int .i64 (k:Int),.int .i64 0])∧w'=w):=fun w=>by
  have:=parts_any s hs (a:Int) 64 w
  rwa [hp.out] at this
 clear hp
 have hbt:bt s k=(s[k].toNat:Int):=dif_pos hk2
 have hwr:wrap64 (s[k].toNat:Int)=(s[k].toNat:Int):=by have:=s[k].toNat_lt;unfold wrap64;omega
 have hbb:=bt_lt s k
 rw [hbt] at hf hf2
 rw [Int.ediv_one] at hf hf2
 have hf3:((s[k].toNat:Int) != 0)=true:=by simpa using hf
 have hf4:((s[k].toNat:Int) != 127)=true:=by simpa using hf2
 have e1:(k:Int) - (a:Int)=9:=by omega
 clear hbt hf hf2 he hbb
 go_enter Tryz.func105,Tryz.ntmps105
 go_wp2_with (go_at_call 25;refine (hpp.out _).mono ?_;rintro e w' ⟨rfl,hw⟩;obtain rfl:w=w':=hw.symm)
 go_ret3
 exact⟨rfl,rfl⟩
theorem unsleb_ok64 (s:ByteArray) (hs:s.size<9223372036854775000) (a k:Nat) (hp:Hid (ptR s (a:Int) 64=((k:Int),0))) (hk:a≤k) (hk2:k<s.size) (hk3:k<a+10) (he:¬(k=a+9∧¬bt s k / 1=0∧¬bt s k / 1=127)) (w:World) :
    Calls Tryz.prog 105 #[.string s,.int .i64 (a:Int),.int .i64 64] w fun e w'=>e=.returned (.tuple #[.int .i64 (ac s a (k+1 - a) (if bt s k % 128<64 then 0 else -1)),.int .i64 ((k:Int)+1),.int .i64 0])∧w'=w:=by
 have hpp:Hid (∀w:World,Calls Tryz.prog 25 #[.string s,.int .i64 (a:Int),.int .i64 64] w fun e w'=>e=.returned (.tuple #[.int .i64 (k:Int),.int .i64 0])∧w'=w):=fun w=>by
  have:=parts_any s hs (a:Int) 64 w
  rwa [hp.out] at this
 clear hp
 have hbt:bt s k=(s[k].toNat:Int):=dif_pos hk2
 have hwr:wrap64 (s[k].toNat:Int)=(s[k].toNat:Int):=by have:=s[k].toNat_lt;unfold wrap64;omega
 have hbb:=bt_lt s k
 rw [hbt] at he hbb
 rw [Int.ediv_one] at he
 replace he:((k:Int) - (a:Int)==9)=false∨((k:Int) - (a:Int)=9∧((s[k].toNat:Int) != 0)=false)∨((k:Int) - (a:Int)=9∧((s[k].toNat:Int) != 0)=true∧((s[k].toNat:Int) != 127)=false):=by
  by_cases h1:k=a+9
  · by_cases h2:(s[k].toNat:Int)=0
    · exact Or.inr (Or.inl ⟨by omega,by simpa using h2⟩)
    · by_cases h3:(s[k].toNat:Int)=127
      · exact Or.inr (Or.inr ⟨by omega,by simpa using h2,by simpa using h3⟩)
      · exact absurd ⟨h1,h2,h3⟩ he
  · left
    simp
    omega
 have h64:=and_64 _ hbb
 rw [hbt]
 obtain⟨X,hX⟩:∃X:Int,(if (s[k].toNat:Int) % 128<64 then 0 else -1)=X:=⟨_,rfl⟩
 rw [hX]
 obtain⟨R,hR⟩:∃R,ac s a (k+1 - a) X=R:=⟨_,rfl⟩
 rw [hR]
 replace hR:Hid (ac s a (k+1 - a) X=R):=hR
 have hs3:(bits .and .i64 (s[k].toNat:Int) 64=0∧X=0)∨(bits .and .i64 (s[k].toNat:Int) 64=64∧X=-1):=by
  rw [h64,←hX]
  by_cases hq:(s[k].toNat:Int) % 128<64
  · rw [if_pos hq,if_pos hq];exact Or.inl ⟨rfl,rfl⟩
  · rw [if_neg hq,if_neg hq];exact Or.inr ⟨rfl,rfl⟩
 clear hbt hbb h64 hX
 rcases hs3 with ⟨hs3,rfl⟩|⟨hs3,rfl⟩ <;> rcases he with he|⟨he,hf⟩|⟨he,hf,hf2⟩
 all_goals
  go_enter Tryz.func105,Tryz.ntmps105
  go_wp2_with (go_at_call 25;refine (hpp.out _).mono ?_;rintro e w' ⟨rfl,hw⟩;obtain rfl:w=w':=hw.symm)
  go_loopw [13,14] (fun v i wr=>∃(j:Nat) (x:Int),v=.int .i64 x∧i=.int .i64 ((a:Int)+(j:Int) - 1)∧j≤k+1 - a∧wr=w∧ac s a j x=R) (fun v i _=>(intOf i+1 - (a:Int)).toNat)
  case atStart =>
   clear hwr hs3 he
   try clear hf
   try clear hf2
   exact⟨k+1 - a,_,rfl,by congr 1;omega,Nat.le_refl _,rfl,hR.out⟩
  case round =>
   clear hR he hwr hs3
   try clear hf
   try clear hf2
   obtain⟨j,x,rfl,rfl,hj,hw,hac⟩:=hrel
   obtain rfl:w=wr:=hw.symm
   by_cases h0:j=0
   · subst h0
     simp only [ac] at hac
     subst hac
     obtain⟨z,hz⟩:∃z,(a:Int)+((0:Nat):Int) - 1=z:=⟨_,rfl⟩
     rw [hz]
     have h1:z<(a:Int):=by omega
     clear hz hj hw hpp hk hk3
     go_wp2
     go_ret3
     exact⟨rfl,rfl⟩
   · obtain⟨j,rfl⟩:∃j',j=j'+1:=⟨j - 1,by omega⟩
     have e1:(a:Int)+((j+1:Nat):Int) - 1=(a:Int)+(j:Int):=by omega
     have hlt:a+j<s.size:=by omega
     have h1:(a:Int)≤(a:Int)+(j:Int):=by omega
     have h2:(a:Int)+(j:Int)<(s.size:Int):=by omega
     have hb2:bt s (a+j)=(s[a+j].toNat:Int):=dif_pos hlt
     have hbb:=bt_lt s (a+j)
     rw [hb2] at hbb
     have q1:=and_127 _ hbb
     have q2:=wrap_part _ hbb
     have q3:=or_part x ((s[a+j].toNat:Int) % 128) (Int.emod_nonneg _ (by decide)) (Int.emod_lt_of_pos _ (by decide))
     simp only [ac,hb2] at hac
     rw [e1]
     replace hac:Hid _:=hac
     have hj2:Hid (j≤k+1 - a):=(by show j≤k+1 - a;exact Nat.le_of_succ_le hj)
     clear hb2 hbb e1 hj hw h0 hpp hk hk3
     go_wp2
     go_roundw
     case rel=>exact⟨j,_,rfl,rfl,hj2.out,trivial,hac.out⟩
     case measure=>simp [intOf];omega
end Go.Proofs.YtngciahmoenkiaaGreat
namespace Go.Proofs.YtngciahmoenkiaaGreat
open Go.RowKit
def usR (s:ByteArray) (at_ bits_:Int):Int×Int×Int :=
 if (ptR s at_ bits_).2=0 then
  if (ptR s at_ bits_).1 - at_=(bits_+6) / 7 - 1∧¬bt s (ptR s at_ bits_).1.toNat / 2 ^ (bits_ % 7 - 1).toNat=0∧¬bt s (ptR s at_ bits_).1.toNat / 2 ^ (bits_ % 7 - 1).toNat=127 / 2 ^ (bits_ % 7 - 1).toNat then (0,0,1200)
  else (if bits_=32 then sg3 (ac s at_.toNat ((ptR s at_ bits_).1.toNat+1 - at_.toNat) (if bt s (ptR s at_ bits_).1.toNat % 128<64 then 0 else -1)) else ac s at_.toNat ((ptR s at_ bits_).1.toNat+1 - at_.toNat) (if bt s (ptR s at_ bits_).1.toNat % 128<64 then 0 else -1),(ptR s at_ bits_).1+1,0)
 else (0,0,(ptR s at_ bits_).2)
theorem unsleb_err (s:ByteArray) (hs:s.size<9223372036854775000) (at_ bits_:Int) (h:¬(ptR s at_ bits_).2=0) (w:World) :
    Calls Tryz.prog 105 #[.string s,.int .i64 at_,.int .i64 bits_] w fun e w'=>e=.returned (.tuple #[.int .i64 0,.int .i64 0,.int .i64 (ptR s at_ bits_).2])∧w'=w:=by
 have hp:=parts_any s hs at_ bits_
 replace hp:Hid (∀w:World,Calls Tryz.prog 25 #[.string s,.int .i64 at_,.int .i64 bits_] w fun e w'=>e=.returned (.tuple #[.int .i64 (ptR s at_ bits_).1,.int .i64 (ptR s at_ bits_).2])∧w'=w):=hp
 generalize (ptR s at_ bits_).1=K at *
 generalize (ptR s at_ bits_).2=E at *
 have h2:(E != 0)=true:=by simpa using h
 go_enter Tryz.func105,Tryz.ntmps105
 go_wp2_with (go_at_call 25;refine (hp.out _).mono ?_;rintro e w' ⟨rfl,rfl⟩)
 go_ret3
 exact⟨rfl,rfl⟩
theorem unsleb_any (s:ByteArray) (hs:s.size<9223372036854775000) (at_ bits_:Int) (w:World) :
    Calls Tryz.prog 105 #[.string s,.int .i64 at_,.int .i64 bits_] w fun e w'=>e=.returned (.tuple #[.int .i64 (usR s at_ bits_).1,.int .i64 (usR s at_ bits_).2.1,.int .i64 (usR s at_ bits_).2.2])∧w'=w:=by
 by_cases h:(ptR s at_ bits_).2=0
 · obtain⟨a,k,m,rfl,hb,h1,h2,h3,h4,h5⟩:=ptR_in h
   have hp:ptR s (a:Int) bits_=((k:Int),0):=Prod.ext h1 h
   rcases hb with ⟨rfl,rfl⟩|⟨rfl,rfl⟩
   · by_cases hc:k=a+4∧¬bt s k / 8=0∧¬bt s k / 8=15
     · have e:usR s (a:Int) 32=(0,0,1200):=by
        unfold usR
        rw [hp,if_pos rfl,if_pos]
        exact⟨by omega,hc.2⟩
       rw [e]
       exact unsleb_form32 s hs a k hp h2 h3 h4 hc.1 hc.2.1 hc.2.2 w
     · have e:usR s (a:Int) 32=(sg3 (ac s a (k+1 - a) (if bt s k % 128<64 then 0 else -1)),(k:Int)+1,0):=by
        unfold usR
        rw [hp,if_pos rfl,if_neg]
        · rfl
        · rintro ⟨x1,x2⟩
          exact hc ⟨by omega,x2⟩
       rw [e]
       exact unsleb_ok32 s hs a k hp h2 h3 h4 hc w
   · by_cases hc:k=a+9∧¬bt s k / 1=0∧¬bt s k / 1=127
     · have e:usR s (a:Int) 64=(0,0,1200):=by
        unfold usR
        rw [hp,if_pos rfl,if_pos]
        exact⟨by omega,hc.2⟩
       rw [e]
       exact unsleb_form64 s hs a k hp h2 h3 h4 hc.1 hc.2.1 hc.2.2 w
     · have e:usR s (a:Int) 64=(ac s a (k+1 - a) (if bt s k % 128<64 then 0 else -1),(k:Int)+1,0):=by
        unfold usR
        rw [hp,if_pos rfl,if_neg]
        · rfl
        · rintro ⟨x1,x2⟩
          exact hc ⟨by omega,x2⟩
       rw [e]
       exact unsleb_ok64 s hs a k hp h2 h3 h4 hc w
 · have e:usR s at_ bits_=(0,0,(ptR s at_ bits_).2):=by unfold usR;exact if_neg h
   rw [e]
   exact unsleb_err s hs at_ bits_ h w
