import Derived.Test.YtngciahmoenkiaaGreatXB
set_option linter.unusedVariables false
set_option linter.unusedSimpArgs false
set_option maxRecDepth 100000
set_option maxHeartbeats 4000000
namespace Go.Proofs.YtngciahmoenkiaaGreat
open Go.RowKit
def bl (s:ByteArray) (a:Nat):List Int→Prop
 | []=>a≤s.size
 | b :: d=>a<s.size∧bt s a=b∧bl s (a+1) d
def un:List Int→Int→Int
 | [],x=>x
 | b :: d,x=>un d x*128+b % 128
def la:List Int→Int
 | []=>0
 | b :: d=>if d=[] then b else la d
theorem bl_len {s:ByteArray}:∀{d:List Int} {a:Nat},bl s a d→a+d.length≤s.size
 | [],a,h=>by simpa [bl] using h
 | b :: d,a,h=>by
  have:=bl_len h.2.2
  simp only [List.length_cons]
  omega
theorem bl_app {s:ByteArray}:∀{d e:List Int} {a:Nat},bl s a (d++e)↔bl s a d∧bl s (a+d.length) e
 | [],e,a=>by
  simp only [List.nil_append,List.length_nil,Nat.add_zero,bl]
  constructor
  · intro h
    refine⟨?_,h⟩
    have:=bl_len h
    omega
  · exact fun h=>h.2
 | b :: d,e,a=>by
  simp only [List.cons_append,bl,List.length_cons]
  rw [bl_app (d:=d) (e:=e) (a:=a+1),show a+1+d.length=a+(d.length+1) by omega]
  constructor
  · rintro ⟨h1,h2,h3,h4⟩
    exact⟨⟨h1,h2,h3⟩,h4⟩
  · rintro ⟨⟨h1,h2,h3⟩,h4⟩
    exact⟨h1,h2,h3,h4⟩
theorem un_app:∀(d e:List Int) (x:Int),un (d++e) x=un d (un e x)
 | [],e,x=>rfl
 | b :: d,e,x=>by simp only [List.cons_append,un];rw [un_app d e x]
theorem un_lin:∀(d:List Int) (x:Int),∃P:Int,∀y:Int,un d y=un d x+(y - x)*P
 | [],x=>⟨1,fun y=>by simp only [un];omega⟩
 | b :: d,x=>by
  obtain⟨P,h⟩:=un_lin d x
  refine⟨P*128,fun y=>?_⟩
  simp only [un]
  rw [h y,Int.add_mul,←Int.mul_assoc]
  omega
theorem wrap_of {x y:Int} (k:Int) (h:x=y+18446744073709551616*k):wrap64 x=wrap64 y:=by
 subst h
 unfold wrap64
 omega
theorem un_wrap (d:List Int) (x:Int):wrap64 (un d (wrap64 x))=wrap64 (un d x):=by
 obtain⟨P,h⟩:=un_lin d x
 have e:∃q:Int,wrap64 x - x=18446744073709551616*q:=⟨-((x+9223372036854775808) / 18446744073709551616),by unfold wrap64;omega⟩
 obtain⟨q,hq⟩:=e
 refine wrap_of (q*P) ?_
 rw [h (wrap64 x),hq,Int.mul_assoc]
theorem ac_of (s:ByteArray) (a:Nat):∀(j:Nat) (d:List Int) (x:Int),d.length=j→bl s a d→wrap64 x=x→ac s a j x=wrap64 (un d x)
 | 0,d,x,hj,h,hx=>by
  obtain rfl:d=[]:=List.eq_nil_of_length_eq_zero hj
  exact hx.symm
 | j+1,d,x,hj,h,hx=>by
  obtain⟨e,b,rfl⟩:∃e b,d=e++[b]:=⟨d.dropLast,d.getLast (by intro h;rw [h] at hj;simp at hj),(List.dropLast_concat_getLast _).symm⟩
  have hje:e.length=j:=by simpa using hj
  obtain⟨h1,h2⟩:=bl_app.1 h
  have h3:bt s (a+j)=b:=by rw [←hje];exact h2.2.1
  unfold ac
  rw [ac_of s a j e _ hje h1 (by unfold wrap64;omega),un_wrap,un_app,h3]
  rfl
end Go.Proofs.YtngciahmoenkiaaGreat
namespace Go.Proofs.YtngciahmoenkiaaGreat
open Go.RowKit
end Go.Proofs.YtngciahmoenkiaaGreat
namespace Go.Proofs.YtngciahmoenkiaaGreat
open Go.RowKit
def bts (s:ByteArray) (a:Nat):Nat→List Int
 | 0=>[]
 | j+1=>bt s a :: bts s (a+1) j
theorem bts_len (s:ByteArray):∀(j a:Nat),(bts s a j).length=j
 | 0,a=>rfl
 | j+1,a=>by simp [bts,bts_len s j]
theorem bl_bts (s:ByteArray):∀(j a:Nat),a+j≤s.size→bl s a (bts s a j)
 | 0,a,h=>h
 | j+1,a,h=>⟨by omega,rfl,bl_bts s j (a+1) (by omega)⟩
theorem un_rng:∀(d:List Int),0≤un d 0∧un d 0<128 ^ d.length
 | []=>by simp [un]
 | b :: d=>by
  obtain⟨h1,h2⟩:=un_rng d
  simp only [un,List.length_cons]
  rw [Int.pow_succ]
  omega
theorem ul_rng (s:ByteArray) (at_:Int) (h:(ulR s at_ 32).2.2=0):0≤(ulR s at_ 32).1∧(ulR s at_ 32).1<34359738368∧0≤(ulR s at_ 32).2.1∧(ulR s at_ 32).2.1≤(s.size:Int):=by
 by_cases hp:(ptR s at_ 32).2=0
 · obtain⟨a,k,m,rfl,hb,h1,h2,h3,h4,h5⟩:=ptR_in hp
   obtain rfl:m=5:=by omega
   have hp2:ptR s (a:Int) 32=((k:Int),0):=Prod.ext h1 hp
   by_cases hc:k=a+4∧¬bt s k / 16=0
   · have e:ulR s (a:Int) 32=(0,0,1200):=by
      unfold ulR
      rw [hp2,if_pos rfl,if_pos]
      exact⟨by omega,hc.2⟩
     rw [e] at h
     exact absurd h (by decide)
   · have e:ulR s (a:Int) 32=(ac s a (k+1 - a) 0,(k:Int)+1,0):=by
      unfold ulR
      rw [hp2,if_pos rfl,if_neg]
      · rfl
      · rintro ⟨x1,x2⟩
        exact hc ⟨by omega,x2⟩
     rw [e,ac_of s a (k+1 - a) (bts s a (k+1 - a)) 0 (bts_len s _ _) (bl_bts s _ _ (by omega)) (by unfold wrap64;omega)]
     obtain⟨u1,u2⟩:=un_rng (bts s a (k+1 - a))
     rw [bts_len] at u2
     have u3:(128:Int) ^ (k+1 - a)≤128 ^ 5:=by
      have:k+1 - a≤5:=by omega
      exact_mod_cast Nat.pow_le_pow_right (show 0<128 by decide) this
     generalize un (bts s a (k+1 - a)) 0=z at *
     have hz:wrap64 z=z:=by unfold wrap64;omega
     refine⟨?_,?_,?_,?_⟩
     · show 0≤wrap64 z;rw [hz];exact u1
     · show wrap64 z<34359738368;rw [hz];omega
     · show 0≤(k:Int)+1;omega
     · show (k:Int)+1≤(s.size:Int);omega
 · have e:ulR s at_ 32=(0,0,(ptR s at_ 32).2):=by unfold ulR;exact if_neg hp
   rw [e] at h
   exact absurd h hp
