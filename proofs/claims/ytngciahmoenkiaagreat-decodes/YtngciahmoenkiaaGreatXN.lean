import Derived.Test.YtngciahmoenkiaaGreatIU
import Derived.Test.YtngciahmoenkiaaGreatXM
import Derived.Test.YtngciahmoenkiaaGreatXC
set_option linter.unusedVariables false
set_option linter.unusedSimpArgs false
set_option maxRecDepth 100000
set_option maxHeartbeats 4000000
namespace Go.Proofs.YtngciahmoenkiaaGreat
open Go.RowKit
variable {s:ByteArray} {st st' st'':Rst}
def Rge (s:ByteArray) (st st':Rst):Prop:=Rin s st'∧st.at_≤st'.at_
theorem Rge.trans (h:Rge s st st') (h2:Rge s st' st''):Rge s st st'':=⟨h2.1,Int.le_trans h.2 h2.2⟩
theorem Rge.refl (h:Rin s st):Rge s st st:=⟨h,Int.le_refl _⟩
theorem rfail_at (st:Rst) (e:Int):(rfail st e).at_=st.at_:=by unfold rfail;split <;> rfl
theorem rfail_ge (h:Rin s st) (e:Int):Rge s st (rfail st e):=⟨rfail_in h e,by rw [rfail_at];exact Int.le_refl _⟩
theorem rbyte_ge (h:Rin s st):Rge s st (rbyte s st).2:=by
 refine⟨rbyte_in h,?_⟩
 unfold rbyte
 split
 · show st.at_≤st.at_+1;omega
 · rw [show ((0:Int),rfail st 1401).2=rfail st 1401 from rfl,rfail_at];exact Int.le_refl _
theorem rfail_ne (st:Rst) (e:Int) (he:¬e=0):¬(rfail st e).code=0:=by
 unfold rfail
 split
 · exact he
 · assumption
theorem rbyte_lt (h:(rbyte s st).2.code=0):st.at_<(rbyte s st).2.at_∧st.code=0∧st.at_<s.size:=by
 unfold rbyte at h ⊢
 split
 · rename_i h1;exact⟨by show st.at_<st.at_+1;omega,h1.1,h1.2⟩
 · rename_i h1
   rw [if_neg h1] at h
   exact absurd h (rfail_ne st 1401 (by decide))
theorem rmoved_ge (h:Rin s st) (x:Int×Int×Int) (hx:x.2.2=0→st.at_≤x.2.1∧x.2.1≤s.size):Rge s st (rmoved st x).2:=by
 unfold rmoved
 split
 · exact Rge.refl h
 · split
   · rename_i h1;have:=hx h1;have h0:=h.1;exact⟨⟨by show 0≤x.2.1;omega,this.2⟩,this.1⟩
   · split
     · exact rfail_ge h _
     · exact rfail_ge h _
theorem ul_ge (s:ByteArray) (a b:Int) (h:(ulR s a b).2.2=0):a≤(ulR s a b).2.1∧(ulR s a b).2.1≤s.size:=by
 by_cases hp:(ptR s a b).2=0
 · obtain⟨a',k,m,rfl,hb,h1,h2,h3,h4,h5⟩:=ptR_in hp
   unfold ulR at h ⊢
   rw [if_pos hp] at h ⊢
   split at h
   · exact absurd h (by decide)
   · rename_i hc
     rw [if_neg hc,h1]
     show (a':Int)≤(k:Int)+1∧(k:Int)+1≤(s.size:Int)
     omega
 · unfold ulR at h
   rw [if_neg hp] at h
   exact absurd h hp
theorem us_ge (s:ByteArray) (a b:Int) (h:(usR s a b).2.2=0):a≤(usR s a b).2.1∧(usR s a b).2.1≤s.size:=by
 by_cases hp:(ptR s a b).2=0
 · obtain⟨a',k,m,rfl,hb,h1,h2,h3,h4,h5⟩:=ptR_in hp
   unfold usR at h ⊢
   rw [if_pos hp] at h ⊢
   split at h
   · exact absurd h (by decide)
   · rename_i hc
     rw [if_neg hc,h1]
     show (a':Int)≤(k:Int)+1∧(k:Int)+1≤(s.size:Int)
     omega
 · unfold usR at h
   rw [if_neg hp] at h
   exact absurd h hp
theorem rnum_ge (h:Rin s st):Rge s st (rnum s st).2:=rmoved_ge h _ (ul_ge s st.at_ 32)
theorem rsgn_ge (h:Rin s st) (b:Int):Rge s st (rsgn s st b).2:=rmoved_ge h _ (us_ge s st.at_ b)
theorem rbF_ge:∀(r i:Nat) (x:Int) (st:Rst),Rin s st→Rge s st (rbF s r i x st).2
 | 0,i,x,st,h=>Rge.refl h
 | r+1,i,x,st,h=>(rbyte_ge h).trans (rbF_ge r (i+1) _ _ (rbyte_in h))
theorem rlit_ge (h:Rin s st) (op:Int):Rge s st (rlit s op st).2:=by
 unfold rlit
 split
 · exact rsgn_ge h 32
 · split
   · exact rsgn_ge h 64
   · split
     · exact rbF_ge 4 0 0 st h
     · exact rbF_ge 8 0 0 st h
theorem rnought_ge (h:Rin s st):Rge s st (rnought s st):=by
 unfold rnought
 split
 · exact rbyte_ge h
 · exact (rbyte_ge h).trans (rfail_ge (rbyte_in h) _)
theorem rlab_ge:∀(n:Nat) (st:Rst),Rin s st→Rge s st (rlab s n st).2
 | 0,st,h=>Rge.refl h
 | n+1,st,h=>by
  unfold rlab
  split
  · exact (rnum_ge h).trans (rlab_ge n _ (rnum_ge h).1)
  · exact Rge.refl h
theorem rtyp_ge (h:Rin s st):Rge s st (rtyp s st):=by
 unfold rtyp
 split
 · exact (rbyte_ge h).trans (rfail_ge (rbyte_in h) _)
 · exact rbyte_ge h
theorem rcap_ge (h:Rin s st) (x:Int):Rge s st (rcap x st):=by
 unfold rcap
 split
 · exact rfail_ge h _
 · exact Rge.refl h
def Lgr (s:ByteArray) (L:Int→Bool→Rst→Fs×Bool×Rst):Prop:=∀(d:Int) (o:Bool) (st:Rst),Rin s st→Rge s st (L d o st).2.2∧(o=false→(L d o st).2.1=false)
theorem ro_ge {L:Int→Bool→Rst→Fs×Bool×Rst} (hL:Lgr s L) (op deep:Int) (h:Rin s st):Rge s st (ro L s op deep st).2:=by
 unfold ro
 split
 · split
   · exact rfail_ge h _
   · have t:=rtyp_ge h
     have l:=(hL (deep+1) (decide (op=4)) (rtyp s st) t.1).1
     split
     · exact (t.trans l).trans (hL (deep+1) false _ l.1).1
     · exact t.trans l
 · split
   · exact rnum_ge h
   · split
     · have c:=rcap_ge (rnum_ge h).1 (rnum s st).1
       exact ((rnum_ge h).trans c).trans (rlab_ge _ _ c.1)
     · split
       · exact (rnum_ge h).trans (rnought_ge (rnum_ge h).1)
       · split
         · exact (rnum_ge h).trans (rnum_ge (rnum_ge h).1)
         · split
           · exact rnought_ge h
           · split
             · exact rlit_ge h op
             · exact Rge.refl h
theorem met_ge (h:Rin s st):Rge s st (met st):=⟨h,Int.le_refl _⟩
theorem rl_ge:∀n:Nat,Lgr s (rl s n)
 | 0,d,o,st,h=>⟨Rge.refl h,fun _=>rfl⟩
 | n+1,d,o,st,h=>by
  have hb:=rbyte_ge h
  have hm:=hb.trans (met_ge hb.1)
  have hr:=ro_ge (rl_ge n) (rbyte s st).1 d (st:=met (rbyte s st).2) hm.1
  have hl:=rl_ge n d o (ro (rl s n) s (rbyte s st).1 d (met (rbyte s st).2)).2 hr.1
  unfold rl
  by_cases h0:st.code=0
  · rw [if_pos h0]
    by_cases h1:¬(rbyte s st).2.code=0∨(rbyte s st).1=11
    · rw [if_pos h1];exact⟨hb,fun _=>rfl⟩
    · rw [if_neg h1]
      by_cases h2:(rbyte s st).1=5∧o=true
      · rw [if_pos h2];exact⟨hb,fun e=>by rw [h2.2] at e;exact absurd e (by decide)⟩
      · rw [if_neg h2]
        by_cases h3:fo (rbyte s st).1=9
        · rw [if_pos h3];exact⟨hb.trans (rfail_ge hb.1 _),fun _=>rfl⟩
        · rw [if_neg h3]
          by_cases h4:(rbyte s st).2.count+1 > 8192
          · rw [if_pos h4];exact⟨hm.trans (rfail_ge hm.1 _),fun _=>rfl⟩
          · rw [if_neg h4]
            exact⟨(hm.trans hr).trans hl.1,hl.2⟩
  · rw [if_neg h0];exact⟨Rge.refl h,fun _=>rfl⟩
theorem rfail_c0 {e:Int} (h:(rfail st e).code=0):st.code=0:=by
 unfold rfail at h
 split at h
 · assumption
 · assumption
theorem rbyte_c0 (h:(rbyte s st).2.code=0):st.code=0:=(rbyte_lt h).2.1
theorem rmoved_c0 {x:Int×Int×Int} (h:(rmoved st x).2.code=0):st.code=0:=by
 unfold rmoved at h
 split at h
 · exact h
 · rename_i h1;exact Decidable.not_not.1 h1
theorem rbF_c0:∀(r i:Nat) (x:Int) (st:Rst),(rbF s r i x st).2.code=0→st.code=0
 | 0,i,x,st,h=>h
 | r+1,i,x,st,h=>rbyte_c0 (rbF_c0 r (i+1) _ _ h)
theorem rlit_c0 {op:Int} (h:(rlit s op st).2.code=0):st.code=0:=by
 unfold rlit at h
 split at h
 · exact rmoved_c0 h
 · split at h
   · exact rmoved_c0 h
   · split at h
     · exact rbF_c0 4 0 0 st h
     · exact rbF_c0 8 0 0 st h
theorem rnought_c0 (h:(rnought s st).code=0):st.code=0:=by
 unfold rnought at h
 split at h
 · exact rbyte_c0 h
 · exact rbyte_c0 (rfail_c0 h)
theorem rlab_c0:∀(n:Nat) (st:Rst),(rlab s n st).2.code=0→st.code=0
 | 0,st,h=>h
 | n+1,st,h=>by
  unfold rlab at h
  split at h
  · assumption
  · exact h
theorem rtyp_c0 (h:(rtyp s st).code=0):st.code=0:=by
 unfold rtyp at h
 split at h
 · exact rbyte_c0 (rfail_c0 h)
 · exact rbyte_c0 h
theorem rcap_c0 {x:Int} (h:(rcap x st).code=0):st.code=0:=by
 unfold rcap at h
 split at h
 · exact rfail_c0 h
 · exact h
def Lc0 (L:Int→Bool→Rst→Fs×Bool×Rst):Prop:=∀d o st,(L d o st).2.2.code=0→st.code=0
theorem ro_c0 {L:Int→Bool→Rst→Fs×Bool×Rst} (hL:Lc0 L) {op deep:Int} (h:(ro L s op deep st).2.code=0):st.code=0:=by
 unfold ro at h
 split at h
 · split at h
   · exact rfail_c0 h
   · split at h
     · exact rtyp_c0 (hL _ _ _ (hL _ _ _ h))
     · exact rtyp_c0 (hL _ _ _ h)
 · split at h
   · exact rmoved_c0 h
   · split at h
     · exact rmoved_c0 (rcap_c0 (rlab_c0 _ _ h))
     · split at h
       · exact rmoved_c0 (rnought_c0 h)
       · split at h
         · exact rmoved_c0 (rmoved_c0 h)
         · split at h
           · exact rnought_c0 h
           · split at h
             · exact rlit_c0 h
             · exact h
theorem rl_c0:∀n:Nat,Lc0 (rl s n)
 | 0,d,o,st,h=>h
 | n+1,d,o,st,h=>by
  by_cases h0:st.code=0
  · exact h0
  · unfold rl at h
    rw [if_neg h0] at h
    exact h
theorem rfail_ct (st:Rst) (e:Int):(rfail st e).count=st.count:=by unfold rfail;split <;> rfl
theorem rbyte_ct (s:ByteArray) (st:Rst):(rbyte s st).2.count=st.count:=by
 unfold rbyte
 split
 · rfl
 · exact rfail_ct st 1401
theorem rmoved_ct (st:Rst) (x:Int×Int×Int):(rmoved st x).2.count=st.count:=by
 unfold rmoved
 split
 · rfl
 · split
   · rfl
   · split
     · exact rfail_ct st 1401
     · exact rfail_ct st 1400
theorem rbF_ct:∀(r i:Nat) (x:Int) (st:Rst),(rbF s r i x st).2.count=st.count
 | 0,i,x,st=>rfl
 | r+1,i,x,st=>(rbF_ct r (i+1) _ _).trans (rbyte_ct s st)
theorem rlit_ct (op:Int) (st:Rst):(rlit s op st).2.count=st.count:=by
 unfold rlit
 split
 · exact rmoved_ct st _
 · split
   · exact rmoved_ct st _
   · split
     · exact rbF_ct 4 0 0 st
     · exact rbF_ct 8 0 0 st
theorem rnought_ct (st:Rst):(rnought s st).count=st.count:=by
 unfold rnought
 split
 · exact rbyte_ct s st
 · exact (rfail_ct _ _).trans (rbyte_ct s st)
theorem rlab_ct:∀(n:Nat) (st:Rst),(rlab s n st).2.count=st.count
 | 0,st=>rfl
 | n+1,st=>by
  unfold rlab
  split
  · exact (rlab_ct n _).trans (rmoved_ct st _)
  · rfl
theorem rtyp_ct (st:Rst):(rtyp s st).count=st.count:=by
 unfold rtyp
 split
 · exact (rfail_ct _ _).trans (rbyte_ct s st)
 · exact rbyte_ct s st
theorem rcap_ct (x:Int) (st:Rst):(rcap x st).count=st.count:=by
 unfold rcap
 split
 · exact rfail_ct st _
 · rfl
def Cge (st st':Rst):Prop:=st.count≤st'.count∧(st'.code=0→st.count≤8192→st'.count≤8192)
theorem Cge.of (h:st'.count=st.count):Cge st st':=⟨by omega,fun _ h2=>by omega⟩
def Lct (L:Int→Bool→Rst→Fs×Bool×Rst):Prop:=∀d o st,Cge st (L d o st).2.2
theorem ro_ct {L:Int→Bool→Rst→Fs×Bool×Rst} (hL:Lct L) (hK:Lc0 L) (op deep:Int) (st:Rst):Cge st (ro L s op deep st).2:=by
 unfold ro
 split
 · split
   · exact Cge.of (rfail_ct st _)
   · have t:=rtyp_ct (s:=s) st
     have l:=hL (deep+1) (decide (op=4)) (rtyp s st)
     split
     · have l2:=hL (deep+1) false (L (deep+1) (decide (op=4)) (rtyp s st)).2.2
       have hh:st.count≤(L (deep+1) false (L (deep+1) (decide (op=4)) (rtyp s st)).2.2).2.2.count:=by have:=l.1;have:=l2.1;omega
       exact⟨hh,fun hc hn=>l2.2 hc (l.2 (hK _ _ _ hc) (by omega))⟩
     · have hh:st.count≤(L (deep+1) (decide (op=4)) (rtyp s st)).2.2.count:=by have:=l.1;omega
       exact⟨hh,fun hc hn=>l.2 hc (by omega)⟩
 · split
   · exact Cge.of (rmoved_ct st _)
   · split
     · exact Cge.of (((rlab_ct _ _).trans (rcap_ct _ _)).trans (rmoved_ct st _))
     · split
       · exact Cge.of ((rnought_ct _).trans (rmoved_ct st _))
       · split
         · exact Cge.of ((rmoved_ct _ _).trans (rmoved_ct st _))
         · split
           · exact Cge.of (rnought_ct st)
           · split
             · exact Cge.of (rlit_ct op st)
             · exact Cge.of rfl
theorem rl_ct:∀n:Nat,Lct (rl s n)
 | 0,d,o,st=>Cge.of rfl
 | n+1,d,o,st=>by
  have hb:=rbyte_ct s st
  unfold rl
  by_cases h0:st.code=0
  · rw [if_pos h0]
    by_cases h1:¬(rbyte s st).2.code=0∨(rbyte s st).1=11
    · rw [if_pos h1];exact Cge.of hb
    · rw [if_neg h1]
      by_cases h2:(rbyte s st).1=5∧o=true
      · rw [if_pos h2];exact Cge.of hb
      · rw [if_neg h2]
        by_cases h3:fo (rbyte s st).1=9
        · rw [if_pos h3];exact Cge.of ((rfail_ct _ _).trans hb)
        · rw [if_neg h3]
          by_cases h4:(rbyte s st).2.count+1 > 8192
          · rw [if_pos h4]
            refine⟨?_,fun hc=>absurd hc (rfail_ne _ _ (by decide))⟩
            show st.count≤(rfail (met (rbyte s st).2) 1400).count
            rw [rfail_ct]
            show st.count≤(rbyte s st).2.count+1
            omega
          · rw [if_neg h4]
            have hr:=ro_ct (s:=s) (rl_ct n) (rl_c0 n) (rbyte s st).1 d (met (rbyte s st).2)
            have hl:=rl_ct n d o (ro (rl s n) s (rbyte s st).1 d (met (rbyte s st).2)).2
            have hm:(met (rbyte s st).2).count=(rbyte s st).2.count+1:=rfl
            have hh:st.count≤(rl s n d o (ro (rl s n) s (rbyte s st).1 d (met (rbyte s st).2)).2).2.2.count:=by have:=hr.1;have:=hl.1;omega
            exact⟨hh,fun hc hn=>hl.2 hc (hr.2 (rl_c0 n _ _ _ hc) (by omega))⟩
  · rw [if_neg h0];exact Cge.of rfl
def Rok (s:ByteArray) (st:Rst):Prop:=Rin s st∧0≤st.count∧(st.code=0→st.count≤8192)
end Go.Proofs.YtngciahmoenkiaaGreat
namespace Go.Proofs.YtngciahmoenkiaaGreat
open Go.RowKit
variable {q:Nat} {s:ByteArray} {st:Rst}
def LRD (s:ByteArray) (L:Int→Bool→Rst→Fs×Bool×Rst) (n:Nat) (deep:Int):Prop:=∀(other:Bool) (st:Rst),Rok s st→(st.code=0→(s.size:Int) - st.at_<n)→∀(w:World) (q:Nat),w.rowIs q 122 4 (rF s st) →
 Calls Tryz.prog 69 #[.pointer (some ⟨q,0,none⟩),.int .i64 deep,.bool other] w fun e w'=>∃A c,e=.returned (.tuple #[.slice A (L deep other st).1.len c,.bool (L deep other st).2.1])∧Hid (Tr (w.heap.size≤·) w' A (L deep other st).1)∧Hid (Rs q w w' s (L deep other st).2.2)
def ORC (s:ByteArray) (L:Int→Bool→Rst→Fs×Bool×Rst) (op deep:Int) (st:Rst):Prop:=∀(w:World) (q:Nat),w.rowIs q 122 4 (rF s st) →
 Calls Tryz.prog 85 #[.pointer (some ⟨q,0,none⟩),.int .i64 op,.int .i64 deep] w fun e w'=>∃LA lc A c E ec,e=.returned (.agg #[.int .i64 op,.int .i64 (ro L s op deep st).1.a,.int .i64 (ro L s op deep st).1.b,.int .i64 (ro L s op deep st).1.bi,.int .i64 (ro L s op deep st).1.ty,.slice LA (ro L s op deep st).1.ls.length lc,.slice A (ro L s op deep st).1.bo.len c,.slice E (ro L s op deep st).1.el.len ec])∧Hid (Lq (w.heap.size≤·) w' LA (ro L s op deep st).1.ls)∧Hid (Tr (w.heap.size≤·) w' A (ro L s op deep st).1.bo)∧Hid (Tr (w.heap.size≤·) w' E (ro L s op deep st).1.el)∧Hid (Rs q w w' s (ro L s op deep st).2)
theorem lq_nil (Z:Nat→Prop) (w:World) (A:Option Addr):Lq Z w A []:=⟨Or.inl rfl,fun x=>absurd rfl x⟩
theorem tr_nil (Z:Nat→Prop) (w:World) (A:Option Addr):Tr Z w A .nil:=Or.inl rfl
theorem fo_1 (op:Int) (h:fo op=1):(op==4)=false∧decide (op=4)=false:=by
 have:¬op=4:=fun e=>by subst e;exact absurd h (by decide)
 exact⟨beq_false this,decide_eq_false this⟩
theorem fo_2 (op:Int) (h:fo op=2):op=4:=by
 unfold fo at h
 repeat' split at h
 all_goals first|assumption|omega
theorem rlab_stop (n:Nat) (h:¬st.code=0):rlab s n st=([],st):=by
 cases n with
 | zero=>rfl
 | succ n=>unfold rlab;rw [if_neg h]
theorem rnum_pos (s:ByteArray) (st:Rst):0≤(rnum s st).1:=by
 unfold rnum rmoved
 split
 · exact Int.le_refl _
 · split
   · rename_i h;exact (ul_rng s st.at_ h).1
   · split <;> exact Int.le_refl _
variable {L:Int→Bool→Rst→Fs×Bool×Rst}
theorem rtyp_of {t:Int} {st1:Rst} (hb:rbyte s st=(t,st1)):rtyp s st=if st1.code=0∧¬t=64∧¬(124≤t∧t≤127) then rfail st1 1400 else st1:=by unfold rtyp;rw [hb]
theorem one_blk (hs:s.size<9223372036854775000) (n:Nat) (op deep:Int) (hL:LRD s L n (deep+1)) (hG:Lgr s L) (hK:Lc0 L) (hC:Lct L) (hok:Rok s st) (hd0:0≤deep) (hn:st.code=0→(s.size:Int) - st.at_<n) (hd:¬32≤deep) (hf:fo op=1∨fo op=2):ORC s L op deep st:=by
 intro w q h
 have hin:=hok.1
 have hby:Hid (∀W,W.rowIs q 122 4 (rF s st)→Calls Tryz.prog 82 #[.pointer (some ⟨q,0,none⟩)] W fun e' w'=>e'=.returned (.int .i64 (rbyte s st).1)∧Hid (Rs q W w' s (rbyte s st).2)):=fun W hW=>byte_any hs hin W hW
 have hbg:=rbyte_ge hin
 have hbl:=fun hc=>rbyte_lt (s:=s) (st:=st) hc
 rcases hb:rbyte s st with ⟨t,a1,cd,ct⟩
 have ht:=rtyp_of hb
 rw [hb] at hby hbg hbl
 simp only at hby hbg hbl ht
 have hro:ro L s op deep st=if (L (deep+1) (decide (op=4)) (rtyp s st)).2.1=true then
     ({ ty:=t,bo:=(L (deep+1) (decide (op=4)) (rtyp s st)).1,el:=(L (deep+1) false (L (deep+1) (decide (op=4)) (rtyp s st)).2.2).1 },(L (deep+1) false (L (deep+1) (decide (op=4)) (rtyp s st)).2.2).2.2)
  else ({ ty:=t,bo:=(L (deep+1) (decide (op=4)) (rtyp s st)).1 },(L (deep+1) (decide (op=4)) (rtyp s st)).2.2):=by
  unfold ro
  rw [if_pos hf,if_neg (by omega),hb]
 have htg:Rok s (rtyp s st)∧((rtyp s st).code=0→(s.size:Int) - (rtyp s st).at_<n):=by
  refine⟨⟨(rtyp_ge hin).1,by rw [rtyp_ct];exact hok.2.1,fun hc=>by rw [rtyp_ct];exact hok.2.2 (rtyp_c0 hc)⟩,fun hc=>?_⟩
  rw [ht] at hc ⊢
  split at hc
  · exact absurd hc (rfail_ne _ _ (by decide))
  · rename_i hx
    rw [if_neg hx]
    have:=hbl hc
    have:=hn this.2.1
    show (s.size:Int) - a1<n
    have h3:st.at_<a1:=(hbl hc).1
    omega
 rw [hro]
 clear hro hb
 rw [ht] at htg ⊢
 clear ht
 generalize hX:(if cd=0∧¬t=64∧¬(124≤t∧t≤127) then rfail ⟨a1,cd,ct⟩ 1400 else ⟨a1,cd,ct⟩:Rst)=st2 at htg ⊢
 have hl1:Hid (∀W,W.rowIs q 122 4 (rF s st2)→Calls Tryz.prog 69 #[.pointer (some ⟨q,0,none⟩),.int .i64 (deep+1),.bool (decide (op=4))] W fun e w'=>∃A c,e=.returned (.tuple #[.slice A (L (deep+1) (decide (op=4)) st2).1.len c,.bool (L (deep+1) (decide (op=4)) st2).2.1])∧Hid (Tr (W.heap.size≤·) w' A (L (deep+1) (decide (op=4)) st2).1)∧Hid (Rs q W w' s (L (deep+1) (decide (op=4)) st2).2.2)):=fun W hW=>hL (decide (op=4)) st2 htg.1 htg.2 W q hW
 have hlg:=hG (deep+1) (decide (op=4)) st2 htg.1.1
 have hlc:=hC (deep+1) (decide (op=4)) st2
 have hcs:(cd=0∧(t != 64)=true∧¬(124≤t∧t≤127)∧st2=rfail ⟨a1,cd,ct⟩ 1400)∨((cd==0)=false∧st2=⟨a1,cd,ct⟩)∨(cd=0∧t=64∧st2=⟨a1,cd,ct⟩)∨(cd=0∧(t != 64)=true∧(124≤t∧t≤127)∧st2=⟨a1,cd,ct⟩):=by
  by_cases h1:cd=0
  · by_cases h2:t=64
    · rw [if_neg (fun x=>x.2.1 h2)] at hX
      exact Or.inr (Or.inr (Or.inl ⟨h1,h2,hX.symm⟩))
    · have h22:(t != 64)=true:=by simpa using h2
      by_cases h3:124≤t∧t≤127
      · rw [if_neg (fun x=>x.2.2 h3)] at hX
        exact Or.inr (Or.inr (Or.inr ⟨h1,h22,h3,hX.symm⟩))
      · rw [if_pos ⟨h1,h2,h3⟩] at hX
        exact Or.inl ⟨h1,h22,h3,hX.symm⟩
  · rw [if_neg (fun x=>h1 x.1)] at hX
    exact Or.inr (Or.inl ⟨beq_false h1,hX.symm⟩)
 clear hX hbl hbg
 have hl2:Hid (∀st3,st3=(L (deep+1) (decide (op=4)) st2).2.2→∀W,W.rowIs q 122 4 (rF s st3)→Calls Tryz.prog 69 #[.pointer (some ⟨q,0,none⟩),.int .i64 (deep+1),.bool false] W fun e w'=>∃A c,e=.returned (.tuple #[.slice A (L (deep+1) false st3).1.len c,.bool false])∧Hid (Tr (W.heap.size≤·) w' A (L (deep+1) false st3).1)∧Hid (Rs q W w' s (L (deep+1) false st3).2.2)):=by
  intro st3 h3 W hW
  subst h3
  have hg3:=hG (deep+1) false (L (deep+1) (decide (op=4)) st2).2.2 hlg.1.1
  have:=hL false (L (deep+1) (decide (op=4)) st2).2.2 ⟨hlg.1.1,Int.le_trans htg.1.2.1 hlc.1,fun hc=>hlc.2 hc (htg.1.2.2 (hK _ _ _ hc))⟩ (fun hc=>by
   have h1:=hlg.1.2
   have h2:=htg.2 (hK _ _ _ hc)
   omega) W q hW
  rw [hg3.2 rfl] at this
  exact this
 rcases hf with hf|hf
 · obtain⟨ho1,ho2⟩:=fo_1 op hf
   clear hlc
   rw [ho2] at hl1 hl2 hlg ⊢
   have hfl:=hlg.2 rfl
   rw [hfl] at hl1
   rw [if_neg (by rw [hfl];decide)]
   generalize L (deep+1) false st2=r1 at *
   obtain⟨f,more,st3⟩:=r1
   simp only at hl1 ⊢
   clear hl2
   rcases hcs with ⟨c1,c2,c3,rfl⟩|⟨c1,rfl⟩|⟨c1,rfl,rfl⟩|⟨c1,c2,c3,rfl⟩
   · refine (one_1An hs op deep hf ho1 hd hd0 a1 cd ct t c1 c2 c3 f st3 w h hby hl1).mono ?_
     rintro e w' ⟨A,c,rfl,hT,hR⟩
     exact⟨none,0,A,c,none,0,rfl,lq_nil _ _ _,hT,tr_nil _ _ _,hR⟩
   · refine (one_1B1n hs op deep hf ho1 hd hd0 a1 cd ct t c1 f st3 w h hby hl1).mono ?_
     rintro e w' ⟨A,c,rfl,hT,hR⟩
     exact⟨none,0,A,c,none,0,rfl,lq_nil _ _ _,hT,tr_nil _ _ _,hR⟩
   · refine (one_1B2n hs op deep hf ho1 hd hd0 a1 cd ct 64 c1 rfl f st3 w h hby hl1).mono ?_
     rintro e w' ⟨A,c,rfl,hT,hR⟩
     exact⟨none,0,A,c,none,0,rfl,lq_nil _ _ _,hT,tr_nil _ _ _,hR⟩
   · refine (one_1B3n hs op deep hf ho1 hd hd0 a1 cd ct t c1 c2 c3 f st3 w h hby hl1).mono ?_
     rintro e w' ⟨A,c,rfl,hT,hR⟩
     exact⟨none,0,A,c,none,0,rfl,lq_nil _ _ _,hT,tr_nil _ _ _,hR⟩
 · obtain rfl:=fo_2 op hf
   clear hlc
   rw [show decide ((4:Int)=4)=true from rfl] at hl1 hl2 hlg ⊢
   rcases hr1:L (deep+1) true st2 with ⟨f,more,st3⟩
   rw [hr1] at hl1 hl2 hlg
   simp only at hl1 hl2 hlg ⊢
   cases more with
   | false =>
    clear hl2
    rw [if_neg (by decide)]
    rcases hcs with ⟨c1,c2,c3,rfl⟩|⟨c1,rfl⟩|⟨c1,rfl,rfl⟩|⟨c1,c2,c3,rfl⟩
    · refine (one_2An hs deep hd hd0 a1 cd ct t c1 c2 c3 f st3 w h hby hl1).mono ?_
      rintro e w' ⟨A,c,rfl,hT,hR⟩
      exact⟨none,0,A,c,none,0,rfl,lq_nil _ _ _,hT,tr_nil _ _ _,hR⟩
    · refine (one_2B1n hs deep hd hd0 a1 cd ct t c1 f st3 w h hby hl1).mono ?_
      rintro e w' ⟨A,c,rfl,hT,hR⟩
      exact⟨none,0,A,c,none,0,rfl,lq_nil _ _ _,hT,tr_nil _ _ _,hR⟩
    · refine (one_2B2n hs deep hd hd0 a1 cd ct 64 c1 rfl f st3 w h hby hl1).mono ?_
      rintro e w' ⟨A,c,rfl,hT,hR⟩
      exact⟨none,0,A,c,none,0,rfl,lq_nil _ _ _,hT,tr_nil _ _ _,hR⟩
    · refine (one_2B3n hs deep hd hd0 a1 cd ct t c1 c2 c3 f st3 w h hby hl1).mono ?_
      rintro e w' ⟨A,c,rfl,hT,hR⟩
      exact⟨none,0,A,c,none,0,rfl,lq_nil _ _ _,hT,tr_nil _ _ _,hR⟩
   | true =>
    rw [if_pos rfl]
    have hl3:=hl2.out st3 rfl
    replace hl3:Hid _:=hl3
    clear hl2
    generalize L (deep+1) false st3=r2 at *
    obtain⟨f2,more2,st4⟩:=r2
    simp only at hl3 ⊢
    rcases hcs with ⟨c1,c2,c3,rfl⟩|⟨c1,rfl⟩|⟨c1,rfl,rfl⟩|⟨c1,c2,c3,rfl⟩
    · refine (one_2Ay hs deep hd hd0 a1 cd ct t c1 c2 c3 f st3 f2 st4 w h hby hl1 hl3).mono ?_
      rintro e w' ⟨A,c,E,ec,rfl,hT,hE,hR⟩
      exact⟨none,0,A,c,E,ec,rfl,lq_nil _ _ _,hT,hE,hR⟩
    · refine (one_2B1y hs deep hd hd0 a1 cd ct t c1 f st3 f2 st4 w h hby hl1 hl3).mono ?_
      rintro e w' ⟨A,c,E,ec,rfl,hT,hE,hR⟩
      exact⟨none,0,A,c,E,ec,rfl,lq_nil _ _ _,hT,hE,hR⟩
    · refine (one_2B2y hs deep hd hd0 a1 cd ct 64 c1 rfl f st3 f2 st4 w h hby hl1 hl3).mono ?_
      rintro e w' ⟨A,c,E,ec,rfl,hT,hE,hR⟩
      exact⟨none,0,A,c,E,ec,rfl,lq_nil _ _ _,hT,hE,hR⟩
    · refine (one_2B3y hs deep hd hd0 a1 cd ct t c1 c2 c3 f st3 f2 st4 w h hby hl1 hl3).mono ?_
      rintro e w' ⟨A,c,E,ec,rfl,hT,hE,hR⟩
      exact⟨none,0,A,c,E,ec,rfl,lq_nil _ _ _,hT,hE,hR⟩
theorem one_any (hs:s.size<9223372036854775000) (n:Nat) (op deep:Int) (hL:LRD s L n (deep+1)) (hG:Lgr s L) (hK:Lc0 L) (hC:Lct L) (hok:Rok s st) (hd0:0≤deep) (hn:st.code=0→(s.size:Int) - st.at_<n):ORC s L op deep st:=by
 by_cases hf:fo op=1∨fo op=2
 · by_cases hd:32≤deep
   · intro w q h
     have hro:ro L s op deep st=({},rfail st 1402):=by unfold ro;rw [if_pos hf,if_pos hd]
     rw [hro]
     rcases hf with hf|hf
     · exact (one_1n hs op deep hf hd w h).mono fun e w' ⟨he,hR⟩=>⟨none,0,none,0,none,0,he,lq_nil _ _ _,tr_nil _ _ _,tr_nil _ _ _,hR⟩
     · exact (one_2n hs op deep hf hd w h).mono fun e w' ⟨he,hR⟩=>⟨none,0,none,0,none,0,he,lq_nil _ _ _,tr_nil _ _ _,tr_nil _ _ _,hR⟩
   · exact one_blk hs n op deep hL hG hK hC hok hd0 hn hd hf
 · intro w q h
   have hin:=hok.1
   have hr:=fo_rng op
   obtain h0|h0|h0|h0|h0|h0|h0|h0:fo op=0∨fo op=3∨fo op=4∨fo op=5∨fo op=6∨fo op=7∨fo op=8∨fo op=9:=by omega
   · have hro:ro L s op deep st=({},st):=by unfold ro;simp [h0]
     rw [hro]
     exact (one_0 hs hin op deep h0 w h).mono fun e w' ⟨he,hR⟩=>⟨none,0,none,0,none,0,he,lq_nil _ _ _,tr_nil _ _ _,tr_nil _ _ _,hR⟩
   · have hro:ro L s op deep st=({ a:=(rnum s st).1 },(rnum s st).2):=by unfold ro;simp [h0]
     rw [hro]
     exact (one_3 hs hin op deep h0 w h).mono fun e w' ⟨he,hR⟩=>⟨none,0,none,0,none,0,he,lq_nil _ _ _,tr_nil _ _ _,tr_nil _ _ _,hR⟩
   · have hro:ro L s op deep st=({ ls:=(rlab s ((rnum s st).1.toNat+1) (rcap (rnum s st).1 (rnum s st).2)).1 },(rlab s ((rnum s st).1.toNat+1) (rcap (rnum s st).1 (rnum s st).2)).2):=by unfold ro;simp [h0]
     rw [hro]
     have hx0:=rnum_pos s st
     have hi1:=(rnum_ge hin).1
     have hnum:Hid (∀W,W.rowIs q 122 4 (rF s st)→Calls Tryz.prog 92 #[.pointer (some ⟨q,0,none⟩)] W fun e' w'=>e'=.returned (.int .i64 (rnum s st).1)∧Hid (Rs q W w' s (rnum s st).2)):=fun W hW=>num_rd hs W hW
     generalize rnum s st=p at *
     obtain⟨x,st1⟩:=p
     simp only at hx0 hi1 hnum ⊢
     unfold rcap
     by_cases hx:1024≤x
     · rw [if_pos hx,rlab_stop _ (rfail_ne st1 1400 (by decide))]
       exact (one_4b hs op deep h0 x st1 w h hnum hx).mono fun e w' ⟨he,hR⟩=>⟨none,0,none,0,none,0,he,lq_nil _ _ _,tr_nil _ _ _,tr_nil _ _ _,hR⟩
     · rw [if_neg hx]
       refine (one_4 hs op deep h0 x st1 hx0 hi1 w h hnum hx).mono ?_
       rintro e w' ⟨LA,lc,rfl,hQ,hR⟩
       exact⟨LA,lc,none,0,none,0,rfl,hQ,tr_nil _ _ _,tr_nil _ _ _,hR⟩
   · have hro:ro L s op deep st=({ a:=(rnum s st).1 },rnought s (rnum s st).2):=by unfold ro;simp [h0]
     rw [hro]
     exact (one_5 hs hin op deep h0 w h).mono fun e w' ⟨he,hR⟩=>⟨none,0,none,0,none,0,he,lq_nil _ _ _,tr_nil _ _ _,tr_nil _ _ _,hR⟩
   · have hro:ro L s op deep st=({ a:=(rnum s st).1,b:=(rnum s (rnum s st).2).1 },(rnum s (rnum s st).2).2):=by unfold ro;simp [h0]
     rw [hro]
     exact (one_6 hs hin op deep h0 w h).mono fun e w' ⟨he,hR⟩=>⟨none,0,none,0,none,0,he,lq_nil _ _ _,tr_nil _ _ _,tr_nil _ _ _,hR⟩
   · have hro:ro L s op deep st=({},rnought s st):=by unfold ro;simp [h0]
     rw [hro]
     exact (one_7 hs hin op deep h0 w h).mono fun e w' ⟨he,hR⟩=>⟨none,0,none,0,none,0,he,lq_nil _ _ _,tr_nil _ _ _,tr_nil _ _ _,hR⟩
   · have hro:ro L s op deep st=({ bi:=(rlit s op st).1 },(rlit s op st).2):=by unfold ro;simp [h0]
     rw [hro]
     exact (one_8 hs hin op deep h0 w h).mono fun e w' ⟨he,hR⟩=>⟨none,0,none,0,none,0,he,lq_nil _ _ _,tr_nil _ _ _,tr_nil _ _ _,hR⟩
   · have hro:ro L s op deep st=({},st):=by unfold ro;simp [h0]
     rw [hro]
     exact (one_9 hs hin op deep h0 w h).mono fun e w' ⟨he,hR⟩=>⟨none,0,none,0,none,0,he,lq_nil _ _ _,tr_nil _ _ _,tr_nil _ _ _,hR⟩
end Go.Proofs.YtngciahmoenkiaaGreat
namespace Go.Proofs.YtngciahmoenkiaaGreat
open Go.RowKit
variable {q:Nat} {s:ByteArray} {st st':Rst} {w wr wr':World} {lab lab':Nat→Nat} {v:Value} {d:Fs}
def Ls (q:Nat) (w:World) (lab:Nat→Nat) (wr:World) (s:ByteArray) (st:Rst) (v:Value) (d:Fs):Prop:=(∃cs,Cs (w.setRow q cs) lab wr v d)∧Rs q w wr s st∧∀k,k<w.heap.size→lab k=99
theorem setRow_sz (w:World) (q:Nat) (cs:Array Value):(w.setRow q cs).heap.size=w.heap.size:=by simp
theorem Ls.start (h:w.rowIs q 122 4 (rF s st)):Ls q w (fun _=>99) w s st (.slice none 0 0) .nil:=by
 have R:=Rs.start h
 obtain⟨⟨cs,bs,n,e⟩,h2,h3⟩:=R
 refine⟨⟨cs,[],⟨bs,n,e⟩,⟨World.ownsRow_nil _ _ _ _,fun g hg=>by cases hg⟩,rfl⟩,Rs.start h,fun _ _=>rfl⟩
theorem Ls.form (h:Ls q w lab wr s st v d):∃A cap,v=.slice A d.len cap:=by
 obtain⟨⟨cs,h1⟩,_⟩:=h
 exact h1.form
theorem Ls.tr {A:Option Addr} {cap:Nat} (h:Ls q w lab wr s st (.slice A d.len cap) d):Tr (w.heap.size≤·) wr A d:=by
 obtain⟨⟨cs,h1⟩,_⟩:=h
 have:=h1.tr
 rwa [setRow_sz] at this
theorem Ls.rs (h:Ls q w lab wr s st v d) (hr:Rs q wr wr' s st'):∃lab',Ls q w lab' wr' s st' v d∧(∀k,k<wr.heap.size→lab' k=lab k)∧∀k,wr.heap.size≤k→Z5 w.heap.size lab' k:=by
 obtain⟨⟨cs,L,c1,c2,c3⟩,R,hl⟩:=h
 have R2:=R.trans hr
 have hq:q<w.heap.size:=by obtain⟨_,_,F0,h3⟩:=R;exact h3.lt
 have hsz:=R.size
 have C:Chg lab (·=99) wr wr' (fun k=>if k<wr.heap.size then lab k else 5):=⟨hr.size,fun k hk hs=>⟨if_pos hk,hr.block (fun e=>hs (by rw [e];exact hl q hq)) hk⟩⟩
 rw [setRow_sz] at c2 c3
 obtain⟨⟨cs',bs,n,e⟩,_,_⟩:=id R2
 refine⟨fun k=>if k<wr.heap.size then lab k else 5,⟨⟨cs',L,⟨bs,n,e⟩,?_,?_⟩,R2,fun k hk=>?_⟩,fun k hk=>if_pos hk,fun k hk=>⟨by omega,if_neg (by omega)⟩⟩
 · rw [setRow_sz];exact c2.chg C (by decide)
 · rw [setRow_sz];exact c3.move (z5_chg C (by decide))
 · show (if k<wr.heap.size then lab k else 5)=99
   rw [if_pos (by omega)];exact hl k hk
theorem Ls.later (h:Ls q w lab wr s st v d) (hl:Later wr wr'):∃lab',Ls q w lab' wr' s st v d∧(∀k,k<wr.heap.size→lab' k=lab k)∧∀k,wr.heap.size≤k→Z5 w.heap.size lab' k:=h.rs ((Rs.start h.2.1.2.1).later hl)
theorem Ls.row (h:Ls q w lab wr s st v d):wr.rowIs q 122 4 (rF s st):=h.2.1.2.1
theorem Ls.more (h:Ls q w lab wr s st v d) (op a b bi ty:Int) (ls:List Int) (bo el:Fs) (LA B E:Option Addr) (lc bc ec:Nat) (h1:Lq (Z5 w.heap.size lab) wr LA ls) (h2:Tr (Z5 w.heap.size lab) wr B bo) (h3:Tr (Z5 w.heap.size lab) wr E el) (hn:(d.len+1)*112≤140737488355328) :
    ∃g cap w' lab',(Builtin.append_ #[53,53] 53 #[v,.slice (some ⟨wr.heap.size,0,none⟩) 1 1]).run Tryz.prog (wr.alloc (.cells #[.int .i64 op,.int .i64 a,.int .i64 b,.int .i64 bi,.int .i64 ty,.slice LA ls.length lc,.slice B bo.len bc,.slice E el.len ec] 89))=.ok (.slice (some ⟨g,0,none⟩) (d.len+1) cap) w'∧Ls q w lab' w' s st (.slice (some ⟨g,0,none⟩) (d.len+1) cap) (d.app (.cons op a b bi ty ls bo el .nil)):=by
 obtain⟨⟨cs,c⟩,R,hl⟩:=h
 have hq:q<w.heap.size:=by obtain⟨_,_,F0,h3⟩:=R;exact h3.lt
 have hsz:=R.size
 obtain⟨g,cap,w',lab',r,c2,C⟩:=c.more op a b bi ty ls bo el LA B E lc bc ec (by rw [setRow_sz];exact h1) (by rw [setRow_sz];exact h2) (by rw [setRow_sz];exact h3) hn
 have hkq:=C.2 q (by omega) (by rw [hl q hq];decide)
 refine⟨g,cap,w',lab',r,⟨cs,c2⟩,?_,fun k hk=>(C.2 k (by omega) (by rw [hl k hk];decide)).1.trans (hl k hk)⟩
 obtain⟨L,⟨bs,n,e⟩,_,_⟩:=c2
 obtain⟨h1',h2',F0,h3'⟩:=R
 exact⟨⟨cs,bs,n,e⟩,h2'.of_block hkq.2,F0,h3'⟩
theorem Ls.fail {W:World} (L:Ls q w lab W s st v d) (code:Int):Calls Tryz.prog 84 #[.pointer (some ⟨q,0,none⟩),.int .i64 code] W fun e' w9=>e'=.returned (.tuple #[])∧∃lab9,Hid (Ls q w lab9 w9 s (rfail st code) v d):=by
 refine (fail_any code W L.row).mono ?_
 rintro e w9 ⟨rfl,R9⟩
 obtain⟨lab9,L9,_⟩:=L.rs R9.out
 exact⟨rfl,lab9,L9⟩
theorem set3 {a b c c':Int}:∀j,j<4→(if j=3 then Value.int .i64 c' else rF s ⟨a,b,c⟩ j)=rF s ⟨a,b,c'⟩ j:=fun j hj=>by
 match j,hj with
 | 0,_=>rfl
 | 1,_=>rfl
 | 2,_=>rfl
 | 3,_=>rfl
def mz (s:ByteArray) (q:Nat) (W:World):Nat :=
 match W.cell? ⟨q,1,none⟩,W.cell? ⟨q,2,none⟩ with
 | some (.int _ a),some (.int _ c)=>if c=0 then ((s.size:Int) - a+1).toNat else 0
 | _,_=>0
theorem mz_of {W:World} (h:W.rowIs q 122 4 (rF s st)):mz s q W=if st.code=0 then ((s.size:Int) - st.at_+1).toNat else 0:=by
 have c1:W.cell? ⟨q,1,none⟩=some (.int .i64 st.at_):=h.cell (i:=1) (by decide)
 have c2:W.cell? ⟨q,2,none⟩=some (.int .i64 st.code):=h.cell (i:=2) (by decide)
 unfold mz
 rw [c1,c2]
theorem rl_stop (k:Nat) (deep:Int) (other:Bool) (h:¬st.code=0):rl s k deep other st=(.nil,false,st):=by
 cases k with
 | zero=>rfl
 | succ k=>unfold rl;rw [if_neg h]
theorem one_more (hs:s.size<9223372036854775000) (k:Nat) (op deep:Int) (hL:LRD s (rl s k) k (deep+1)) (hok:Rok s st) (hd0:0≤deep) (hn:st.code=0→(s.size:Int) - st.at_<k) (hlen:(d.len:Int)≤8192) {W:World} (h:Ls q w lab W s st v d) :
    Calls Tryz.prog 85 #[.pointer (some ⟨q,0,none⟩),.int .i64 op,.int .i64 deep] W fun e w2=>∃(O:On) (LA A E:Option Addr) (lc c ec:Nat) (g cap:Nat) (w3:World) (lab3:Nat→Nat),O=(ro (rl s k) s op deep st).1∧e=.returned (.agg #[.int .i64 op,.int .i64 O.a,.int .i64 O.b,.int .i64 O.bi,.int .i64 O.ty,.slice LA O.ls.length lc,.slice A O.bo.len c,.slice E O.el.len ec]) ∧
     Hid ((Builtin.append_ #[53,53] 53 #[v,.slice (some ⟨w2.heap.size,0,none⟩) 1 1]).run Tryz.prog (w2.alloc (.cells #[.int .i64 op,.int .i64 O.a,.int .i64 O.b,.int .i64 O.bi,.int .i64 O.ty,.slice LA O.ls.length lc,.slice A O.bo.len c,.slice E O.el.len ec] 89))=.ok (.slice (some ⟨g,0,none⟩) (d.len+1) cap) w3)∧Hid (Ls q w lab3 w3 s (ro (rl s k) s op deep st).2 (.slice (some ⟨g,0,none⟩) (d.len+1) cap) (d.app (.cons op O.a O.b O.bi O.ty O.ls O.bo O.el .nil))):=by
 refine (one_any hs k op deep hL (rl_ge k) (rl_c0 k) (rl_ct k) hok hd0 hn W q h.row).mono ?_
 rintro e w2 ⟨LA,lc,A,c,E,ec,he,hQ,hB,hE,hR⟩
 obtain⟨lab2,L2,_,hz⟩:=h.rs hR.out
 have hsz:=h.2.1.size
 obtain⟨g,cap,w3,lab3,r3,L3⟩:=L2.more op (ro (rl s k) s op deep st).1.a (ro (rl s k) s op deep st).1.b (ro (rl s k) s op deep st).1.bi (ro (rl s k) s op deep st).1.ty (ro (rl s k) s op deep st).1.ls (ro (rl s k) s op deep st).1.bo (ro (rl s k) s op deep st).1.el LA A E lc c ec (hQ.out.mono hz) (hB.out.mono hz) (hE.out.mono hz) (by omega)
 exact⟨_,LA,A,E,lc,c,ec,g,cap,w3,lab3,rfl,he,r3,L3⟩
theorem list_step (hs:s.size<9223372036854775000) (n:Nat) (deep:Int) (hd0:0≤deep) (IH:∀k,0<k→k≤n→LRD s (rl s k) k (deep+1)):LRD s (rl s (n+1)) (n+1) deep:=by
 intro other st hok hn w q h
 have L0:=Ls.start h
 replace IH:Hid (∀k,0<k→k≤n→LRD s (rl s k) k (deep+1)):=IH
 obtain⟨R,hR⟩:∃R,R=rl s (n+1) deep other st:=⟨_,rfl⟩
 rw [←hR]
 replace hR:Hid (R=rl s (n+1) deep other st):=hR
 replace L0:Hid (Ls q w (fun _=>99) w s st (.slice none 0 0) .nil):=L0
 replace hok:Hid (Rok s st):=hok
 replace hn:Hid (st.code=0→(s.size:Int) - st.at_<((n+1:Nat):Int)):=hn
 clear h
 go_enter Tryz.func69,Tryz.ntmps69
 go_wp2_with fail
 go_loopw [8] (fun v wr=>∃(lab:Nat→Nat) (d:Fs) (st':Rst) (k:Nat),Ls q w lab wr s st' v d∧Rok s st'∧k≤n+1∧(st'.code=0→(s.size:Int) - st'.at_<(k:Int))∧(d.len:Int)≤st'.count∧R=(d.app (rl s k deep other st').1,(rl s k deep other st').2.1,(rl s k deep other st').2.2)) (fun v wr=>mz s q wr)
 case atStart=>exact⟨fun _=>99,.nil,st,n+1,L0.out,hok.out,Nat.le_refl _,hn.out,hok.out.2.1,hR.out⟩
 case round =>
  clear hR hok hn L0
  obtain⟨lab,d,st',k,hL,hok,hkn,hnk,hlen,hR⟩:=hrel
  obtain⟨A,cap,rfl⟩:=hL.form
  have hrow:=hL.row
  obtain⟨a0,cd,ct⟩:=st'
  have c2:wr.cell? ⟨q,2,none⟩=some (.int .i64 cd):=hrow.cell (i:=2) (by decide)
  have hlt:=cell_lt c2
  by_cases h0:cd=0
  · subst h0
    have hin:=hok.1
    have hk0:0<k:=by have h1:=hnk rfl;have h2:=hin.2;simp only at h1 h2;omega
    obtain⟨k',rfl⟩:∃k',k=k'+1:=⟨k - 1,by omega⟩
    have hcn:ct≤8192:=hok.2.2 rfl
    have hc0:0≤ct:=hok.2.1
    have hbyte:Hid (Calls Tryz.prog 82 #[.pointer (some ⟨q,0,none⟩)] wr fun e' w1=>e'=.returned (.int .i64 (rbyte s ⟨a0,0,ct⟩).1)∧∃lab1,Hid (Ls q w lab1 w1 s (rbyte s ⟨a0,0,ct⟩).2 (.slice A d.len cap) d)):=by
     refine (byte_any hs hin wr hrow).mono ?_
     rintro e w1 ⟨rfl,R1⟩
     obtain⟨lab1,L1,_⟩:=hL.rs R1.out
     exact⟨rfl,lab1,L1⟩
    have hct1:=rbyte_ct s ⟨a0,0,ct⟩
    have hin1:=rbyte_in (s:=s) (st:=⟨a0,0,ct⟩) hin
    have hlt1:=fun hc=>rbyte_lt (s:=s) (st:=⟨a0,0,ct⟩) hc
    have hmz:=mz_of hrow
    unfold rl at hR
    rw [if_pos rfl] at hR
    generalize rbyte s ⟨a0,0,ct⟩=B at *
    obtain⟨op,a1,cd1,ct1⟩:=B
    simp only at hbyte hct1 hin1 hlt1 hR
    obtain rfl:ct1=ct:=hct1
    by_cases h1:cd1=0
    · subst h1
      by_cases h2:op=11
      · subst h2
        rw [if_pos (Or.inr rfl)] at hR
        have hR1:Hid (R=(d,false,⟨a1,0,ct1⟩)):=by show R=_;rw [hR,Fs.app_nil]
        clear hL hok hnk hlen hrow hR IH hin hin1 hlt1 hmz
        go_wp2_with (go_at_call 82;refine hbyte.out.mono ?_;clear hbyte;rintro e w1 ⟨rfl,lab1,L1⟩;have e2:w1.cell? ⟨q,2,none⟩=some (.int .i64 0):=L1.out.row.cell (i:=2) (by decide);have hl1:=cell_lt e2)
        go_ret2
        rw [hR1.out]
        exact⟨A,cap,rfl,L1.out.tr,L1.out.2.1⟩
      · have h22:(op==11)=false:=beq_false h2
        rw [if_neg (by rintro (x|x);exact x rfl;exact h2 x)] at hR
        by_cases h5:op=5
        · subst h5
          cases other with
          | true =>
           rw [if_pos ⟨rfl,rfl⟩] at hR
           have hR1:Hid (R=(d,true,⟨a1,0,ct1⟩)):=by show R=_;rw [hR,Fs.app_nil]
           clear hL hok hnk hlen hrow hR IH hin hin1 hlt1 hmz h2
           go_wp2_with (go_at_call 82;refine hbyte.out.mono ?_;clear hbyte;rintro e w1 ⟨rfl,lab1,L1⟩;have e2:w1.cell? ⟨q,2,none⟩=some (.int .i64 0):=L1.out.row.cell (i:=2) (by decide);have hl1:=cell_lt e2)
           go_ret2
           rw [hR1.out]
           exact⟨A,cap,rfl,L1.out.tr,L1.out.2.1⟩
          | false =>
           rw [if_neg (fun x=>absurd x.2 (by decide)),if_pos (by decide)] at hR
           have hR1:Hid (R=(d,false,rfail ⟨a1,0,ct1⟩ 1403)):=by show R=_;rw [hR,Fs.app_nil]
           have hform:Hid (∀w:World,Calls Tryz.prog 83 #[.int .i64 5] w fun e w'=>e=.returned (.int .i64 9)∧w'=w):=fun w=>form_any 5 w
           have hfail:Hid (∀W lab,Ls q w lab W s ⟨a1,0,ct1⟩ (.slice A d.len cap) d→Calls Tryz.prog 84 #[.pointer (some ⟨q,0,none⟩),.int .i64 1403] W fun e' w9=>e'=.returned (.tuple #[])∧∃lab9,Hid (Ls q w lab9 w9 s (rfail ⟨a1,0,ct1⟩ 1403) (.slice A d.len cap) d)):=fun W lab0 L=>Ls.fail L 1403
           clear hL hok hnk hlen hrow hR IH hin hin1 hlt1 hmz h2
           go_wp2_with (first|(go_at_call 82;refine hbyte.out.mono ?_;clear hbyte;rintro e w1 ⟨rfl,lab1,L1⟩;have e2:w1.cell? ⟨q,2,none⟩=some (.int .i64 0):=L1.out.row.cell (i:=2) (by decide);have hl1:=cell_lt e2)|(go_at_call 83;refine (hform.out _).mono ?_;clear hform;rintro e w' ⟨rfl,hw⟩;obtain rfl:w1=w':=hw.symm)|(go_at_call 84;refine (hfail.out _ _ L1.out).mono ?_;clear hfail;rintro e w9 ⟨rfl,lab9,L9⟩))
           go_ret2
           rw [hR1.out]
           exact⟨A,cap,rfl,L9.out.tr,L9.out.2.1⟩
        · have h55:(op==5)=false:=beq_false h5
          rw [if_neg (fun x=>h5 x.1)] at hR
          by_cases h9:fo op=9
          · rw [if_pos h9] at hR
            have hR1:Hid (R=(d,false,rfail ⟨a1,0,ct1⟩ 1403)):=by show R=_;rw [hR,Fs.app_nil]
            have hform:Hid (∀w:World,Calls Tryz.prog 83 #[.int .i64 op] w fun e w'=>e=.returned (.int .i64 9)∧w'=w):=fun w=>by
             have:=form_any op w
             rwa [h9] at this
            have hfail:Hid (∀W lab,Ls q w lab W s ⟨a1,0,ct1⟩ (.slice A d.len cap) d→Calls Tryz.prog 84 #[.pointer (some ⟨q,0,none⟩),.int .i64 1403] W fun e' w9=>e'=.returned (.tuple #[])∧∃lab9,Hid (Ls q w lab9 w9 s (rfail ⟨a1,0,ct1⟩ 1403) (.slice A d.len cap) d)):=fun W lab0 L=>Ls.fail L 1403
            clear hL hok hnk hlen hrow hR IH hin hin1 hlt1 hmz h2 h9 h5
            go_wp2_with (first|(go_at_call 82;refine hbyte.out.mono ?_;clear hbyte;rintro e w1 ⟨rfl,lab1,L1⟩;have e2:w1.cell? ⟨q,2,none⟩=some (.int .i64 0):=L1.out.row.cell (i:=2) (by decide);have hl1:=cell_lt e2)|(go_at_call 83;refine (hform.out _).mono ?_;clear hform;rintro e w' ⟨rfl,hw⟩;obtain rfl:w1=w':=hw.symm)|(go_at_call 84;refine (hfail.out _ _ L1.out).mono ?_;clear hfail;rintro e w9 ⟨rfl,lab9,L9⟩))
            go_ret2
            rw [hR1.out]
            exact⟨A,cap,rfl,L9.out.tr,L9.out.2.1⟩
          · rw [if_neg h9] at hR
            have h99:(fo op==9)=false:=beq_false h9
            have hform:Hid (∀w:World,Calls Tryz.prog 83 #[.int .i64 op] w fun e w'=>e=.returned (.int .i64 (fo op))∧w'=w):=fun w=>form_any op w
            have hcw1:-9223372036854775808≤ct1+1:=by omega
            have hcw2:ct1+1≤9223372036854775807:=by omega
            have hset:Hid (∀W lab,Ls q w lab W s ⟨a1,0,ct1⟩ (.slice A d.len cap) d→∃lab2,Ls q w lab2 (W.setCell ⟨q,3,none⟩ (.int .i64 (ct1+1))) s ⟨a1,0,ct1+1⟩ (.slice A d.len cap) d):=by
             intro W lab0 L
             obtain⟨lab2,L2,_⟩:=L.rs ((Rs.start L.row).set (st':=⟨a1,0,ct1+1⟩) 3 (.int .i64 (ct1+1)) set3)
             exact⟨lab2,L2⟩
            have hset2:Hid (∀W lab,Ls q w lab W s ⟨a1,0,ct1⟩ (.slice A d.len cap) d→W.cell? ⟨q,3,none⟩=some (.int .i64 ct1)∧W.frozen? ⟨q,3,none⟩=false):=fun W lab0 L=>⟨L.row.cell (i:=3) (by decide),L.row.frozen 3⟩
            by_cases h8:ct1+1 > 8192
            · rw [if_pos h8] at hR
              have hR1:Hid (R=(d,false,rfail ⟨a1,0,ct1+1⟩ 1400)):=by show R=_;rw [hR,Fs.app_nil];rfl
              have hfail:Hid (∀W lab,Ls q w lab W s ⟨a1,0,ct1+1⟩ (.slice A d.len cap) d→Calls Tryz.prog 84 #[.pointer (some ⟨q,0,none⟩),.int .i64 1400] W fun e' w9=>e'=.returned (.tuple #[])∧∃lab9,Hid (Ls q w lab9 w9 s (rfail ⟨a1,0,ct1+1⟩ 1400) (.slice A d.len cap) d)):=fun W lab0 L=>Ls.fail L 1400
              have h88:8192<ct1+1:=h8
              clear hL hok hnk hlen hrow hR IH hin hin1 hlt1 hmz h2 h9 h5 h8
              go_wp2_with (first|(go_at_call 82;refine hbyte.out.mono ?_;clear hbyte;rintro e w1 ⟨rfl,lab1,L1⟩;have e2:w1.cell? ⟨q,2,none⟩=some (.int .i64 0):=L1.out.row.cell (i:=2) (by decide);have hl1:=cell_lt e2;have e3:w1.cell? ⟨q,3,none⟩=some (.int .i64 ct1):=(hset2.out _ _ L1.out).1;have f3:w1.frozen? ⟨q,3,none⟩=false:=(hset2.out _ _ L1.out).2;obtain⟨lab2,L2'⟩:=hset.out _ _ L1.out;have L2:Hid (Ls q w lab2 (w1.setCell ⟨q,3,none⟩ (.int .i64 (ct1+1))) s ⟨a1,0,ct1+1⟩ (.slice A d.len cap) d):=L2';clear L2' hset hset2)|(go_at_call 83;refine (hform.out _).mono ?_;clear hform;rintro e w' ⟨rfl,hw⟩;obtain rfl:w1=w':=hw.symm)|(go_at_call 84;refine (hfail.out _ _ L2.out).mono ?_;clear hfail;rintro e w9 ⟨rfl,lab9,L9⟩))
              go_ret2
              rw [hR1.out]
              exact⟨A,cap,rfl,L9.out.tr,L9.out.2.1⟩
            · rw [if_neg h8] at hR
              have h88:¬8192<ct1+1:=h8
              have hok1:Rok s ⟨a1,0,ct1+1⟩:=⟨hin1,by show 0≤ct1+1;omega,fun _=>by show ct1+1≤8192;omega⟩
              have hl1':=hlt1 rfl
              have hn1:(s.size:Int) - a1<(k':Int):=by have h1:=hnk rfl;simp only at h1;omega
              have hlen2:(d.len:Int)≤ct1:=hlen
              have hk1:0<k':=by have:=hin1.2;simp only at this;omega
              have hone:Hid (∀W lab,Ls q w lab W s ⟨a1,0,ct1+1⟩ (.slice A d.len cap) d→Calls Tryz.prog 85 #[.pointer (some ⟨q,0,none⟩),.int .i64 op,.int .i64 deep] W fun e w2=>∃(O:On) (LA A' E:Option Addr) (lc c ec:Nat) (g cap':Nat) (w3:World) (lab3:Nat→Nat),O=(ro (rl s k') s op deep ⟨a1,0,ct1+1⟩).1∧e=.returned (.agg #[.int .i64 op,.int .i64 O.a,.int .i64 O.b,.int .i64 O.bi,.int .i64 O.ty,.slice LA O.ls.length lc,.slice A' O.bo.len c,.slice E O.el.len ec])∧Hid ((Builtin.append_ #[53,53] 53 #[.slice A d.len cap,.slice (some ⟨w2.heap.size,0,none⟩) 1 1]).run Tryz.prog (w2.alloc (.cells #[.int .i64 op,.int .i64 O.a,.int .i64 O.b,.int .i64 O.bi,.int .i64 O.ty,.slice LA O.ls.length lc,.slice A' O.bo.len c,.slice E O.el.len ec] 89))=.ok (.slice (some ⟨g,0,none⟩) (d.len+1) cap') w3)∧Hid (Ls q w lab3 w3 s (ro (rl s k') s op deep ⟨a1,0,ct1+1⟩).2 (.slice (some ⟨g,0,none⟩) (d.len+1) cap') (d.app (.cons op O.a O.b O.bi O.ty O.ls O.bo O.el .nil)))):=fun W lab0 L=>one_more hs k' op deep (IH.out k' hk1 (by omega)) hok1 hd0 (fun _=>hn1) (by omega) L
              have hro1:=ro_ge (s:=s) (rl_ge k') op deep (st:=⟨a1,0,ct1+1⟩) hok1.1
              have hro2:=ro_ct (s:=s) (rl_ct (s:=s) k') (rl_c0 (s:=s) k') op deep ⟨a1,0,ct1+1⟩
              have hro3:=fun hc=>ro_c0 (s:=s) (rl_c0 (s:=s) k') (op:=op) (deep:=deep) (st:=⟨a1,0,ct1+1⟩) hc
              rw [show met ⟨a1,0,ct1⟩=⟨a1,0,ct1+1⟩ from rfl] at hR
              generalize ro (rl s k') s op deep ⟨a1,0,ct1+1⟩=OS at *
              obtain⟨O,st2⟩:=OS
              simp only at hone hro1 hro2 hro3 hR
              have hfin:Hid (∀(g cap':Nat) (w3:World) (lab3:Nat→Nat),Ls q w lab3 w3 s st2 (.slice (some ⟨g,0,none⟩) (d.len+1) cap') (d.app (.cons op O.a O.b O.bi O.ty O.ls O.bo O.el .nil))→(∃(lab:Nat→Nat) (d':Fs) (st':Rst) (k:Nat),Ls q w lab w3 s st' (.slice (some ⟨g,0,none⟩) (d.len+1) cap') d'∧Rok s st'∧k≤n+1∧(st'.code=0→(s.size:Int) - st'.at_<(k:Int))∧(d'.len:Int)≤st'.count∧R=(d'.app (rl s k deep other st').1,(rl s k deep other st').2.1,(rl s k deep other st').2.2))∧mz s q w3<mz s q wr):=by
               intro g cap' w3 lab3 L3
               have h1:=hro1.2
               have h2':=hro2.1
               simp only at h1 h2'
               refine⟨⟨lab3,_,st2,k',L3,⟨hro1.1,by omega,fun hc=>hro2.2 hc (by show ct1+1≤8192;omega)⟩,by omega,fun hc=>by omega,?_,?_⟩,?_⟩
               · rw [Fs.len_app]
                 show ((d.len+1:Nat):Int)≤st2.count
                 omega
               · rw [hR,Fs.app_app]
                 rfl
               · rw [hmz,mz_of L3.row,if_pos rfl]
                 have hi:=hin.2
                 simp only at hi
                 split
                 · show ((s.size:Int) - st2.at_+1).toNat<((s.size:Int) - a0+1).toNat
                   omega
                 · show 0<((s.size:Int) - a0+1).toNat
                   omega
              clear hL hok hnk hlen hrow hR IH hin hin1 hlt1 hmz h2 h9 h5 h8 hro1 hro2 hro3 hok1 hl1' hn1 hlen2
              go_wp2_with (first|(go_at_call 82;refine hbyte.out.mono ?_;clear hbyte;rintro e w1 ⟨rfl,lab1,L1⟩;have e2:w1.cell? ⟨q,2,none⟩=some (.int .i64 0):=L1.out.row.cell (i:=2) (by decide);have hl1:=cell_lt e2;have e3:w1.cell? ⟨q,3,none⟩=some (.int .i64 ct1):=(hset2.out _ _ L1.out).1;have f3:w1.frozen? ⟨q,3,none⟩=false:=(hset2.out _ _ L1.out).2;obtain⟨lab2,L2'⟩:=hset.out _ _ L1.out;have L2:Hid (Ls q w lab2 (w1.setCell ⟨q,3,none⟩ (.int .i64 (ct1+1))) s ⟨a1,0,ct1+1⟩ (.slice A d.len cap) d):=L2';clear L2' hset hset2)|(go_at_call 83;refine (hform.out _).mono ?_;clear hform;rintro e w' ⟨rfl,hw⟩;obtain rfl:w1=w':=hw.symm)|(go_at_call 85;refine (hone.out _ _ L2.out).mono ?_;clear hone;rintro e w2 ⟨O',LA,A',E,lc,c,ec,g,cap',w3,lab3,rfl,rfl,r3,L3⟩)|(at_builtin;refine wpList_app rfl _ _ 53 rfl _ _ _ rfl rfl r3.out ?_))
              exact hfin.out _ _ _ _ L3.out
    · rw [if_pos (Or.inl h1)] at hR
      have h11:(cd1 != 0)=true:=by simpa using h1
      have hR1:Hid (R=(d,false,⟨a1,cd1,ct1⟩)):=by show R=_;rw [hR,Fs.app_nil]
      clear hL hok hnk hlen hrow hR IH hin hin1 hlt1 hmz h1
      go_wp2_with (go_at_call 82;refine hbyte.out.mono ?_;clear hbyte;rintro e w1 ⟨rfl,lab1,L1⟩;have e2:w1.cell? ⟨q,2,none⟩=some (.int .i64 cd1):=L1.out.row.cell (i:=2) (by decide);have hl1:=cell_lt e2)
      go_ret2
      rw [hR1.out]
      exact⟨A,cap,rfl,L1.out.tr,L1.out.2.1⟩
  · have h1:(cd==0)=false:=beq_false h0
    rw [rl_stop k deep other h0] at hR
    have hR1:Hid (R=(d,false,⟨a0,cd,ct⟩)):=by show R=_;rw [hR,Fs.app_nil]
    have hT:=hL.tr
    have hRs:=hL.2.1
    replace hT:Hid (Tr (w.heap.size≤·) wr A d):=hT
    replace hRs:Hid (Rs q w wr s ⟨a0,cd,ct⟩):=hRs
    clear hL hok hnk hlen hrow hR IH
    go_wp2_with fail
    go_ret2
    rw [hR1.out]
    exact⟨A,cap,rfl,hT,hRs⟩
theorem rlist_all (hs:s.size<9223372036854775000):∀(n m:Nat) (deep:Int),m≤n→0≤deep→LRD s (rl s (m+1)) (m+1) deep
 | 0,m,deep,hm,hd=>list_step hs m deep hd (fun k h1 h2=>by omega)
 | n+1,m,deep,hm,hd=>list_step hs m deep hd (fun k h1 h2=>by
     obtain⟨k',rfl⟩:∃k',k=k'+1:=⟨k - 1,by omega⟩
     exact rlist_all hs n k' (deep+1) (by omega) (by omega))
theorem rlist_any (hs:s.size<9223372036854775000) (n:Nat) (deep:Int) (hd:0≤deep):LRD s (rl s (n+1)) (n+1) deep:=rlist_all hs n n deep (Nat.le_refl _) hd
end Go.Proofs.YtngciahmoenkiaaGreat
namespace Go.Proofs.YtngciahmoenkiaaGreat
open Go.RowKit
def unI (s:ByteArray) (at_:Int):Fs×Int×Int :=
 if 0≤at_∧at_≤s.size then
  if (rl s (s.size+1) 0 false ⟨at_,0,0⟩).2.2.code=0 then ((rl s (s.size+1) 0 false ⟨at_,0,0⟩).1,(rl s (s.size+1) 0 false ⟨at_,0,0⟩).2.2.at_,0)
  else (.nil,0,(rl s (s.size+1) 0 false ⟨at_,0,0⟩).2.2.code)
 else (.nil,0,1400)
theorem rd_new (w:World) (s:ByteArray) (a b c:Int):(w.alloc (.cells #[.string s,.int .i64 a,.int .i64 b,.int .i64 c] 122)).rowIs w.heap.size 122 4 (rF s ⟨a,b,c⟩):=⟨_,heap_alloc_new w _,rfl,fun i hi=>by
    match i,hi with
    | 0,_=>rfl
    | 1,_=>rfl
    | 2,_=>rfl
    | 3,_=>rfl⟩
theorem Rs.fresh {w W w':World} {q:Nat} {s:ByteArray} {st:Rst} (hl:Later w W) (hq:w.heap.size≤q) (h:Rs q W w' s st):Later w w':=by
 obtain⟨h1,h2,F0,h3⟩:=h
 exact hl.turned h3 hq h1
theorem uninstrs_any (s:ByteArray) (hs:s.size<9223372036854775000) (at_:Int) (w:World) :
    Calls Tryz.prog 45 #[.string s,.int .i64 at_] w fun e w'=>∃A c,e=.returned (.tuple #[.slice A (unI s at_).1.len c,.int .i64 (unI s at_).2.1,.int .i64 (unI s at_).2.2])∧Hid (Tr (w.heap.size≤·) w' A (unI s at_).1)∧Hid (Later w w'):=by
 unfold unI
 by_cases h:0≤at_∧at_≤s.size
 · rw [if_pos h]
   have hlist:Hid (∀W,Later w W→W.rowIs w.heap.size 122 4 (rF s ⟨at_,0,0⟩)→Calls Tryz.prog 69 #[.pointer (some ⟨w.heap.size,0,none⟩),.int .i64 0,.bool false] W fun e w'=>∃A c,e=.returned (.tuple #[.slice A (rl s (s.size+1) 0 false ⟨at_,0,0⟩).1.len c,.bool (rl s (s.size+1) 0 false ⟨at_,0,0⟩).2.1])∧Hid (Tr (w.heap.size≤·) w' A (rl s (s.size+1) 0 false ⟨at_,0,0⟩).1)∧Hid (Rs w.heap.size W w' s (rl s (s.size+1) 0 false ⟨at_,0,0⟩).2.2)):=fun W hl hW=>by
    refine (rlist_any hs s.size 0 (by decide) false ⟨at_,0,0⟩ ⟨h,by show (0:Int)≤0;decide,fun _=>by show (0:Int)≤8192;decide⟩ (fun _=>?_) W w.heap.size hW).mono ?_
    · show (s.size:Int) - at_<((s.size+1:Nat):Int)
      omega
    · rintro e w' ⟨A,c,he,hT,hR⟩
      exact⟨A,c,he,hT.out.mono (fun k hk=>Nat.le_trans hl.size hk),hR⟩
   have hnew:=rd_new w s at_ 0 0
   replace hnew:Hid _:=hnew
   have h1:¬at_<0:=by omega
   have h2:¬(s.size:Int)<at_:=by omega
   generalize rl s (s.size+1) 0 false ⟨at_,0,0⟩=r at *
   obtain⟨f,b,a1,cd,ct⟩:=r
   simp only at hlist ⊢
   by_cases hc:cd=0
   · subst hc
     rw [if_pos rfl]
     clear h
     go_enter Tryz.func45,Tryz.ntmps45
     go_wp2_with (go_at_call 69;refine (hlist.out _ (by repeat first|exact Lz _|apply La|apply Lv|apply Ld|apply Ln) hnew.out).mono ?_;clear hlist;rintro e w2 ⟨A,c,rfl,hT,hR⟩;have e2:w2.cell? ⟨w.heap.size,2,none⟩=some (.int .i64 0):=hR.out.2.1.cell (i:=2) (by decide);have e1:w2.cell? ⟨w.heap.size,1,none⟩=some (.int .i64 a1):=hR.out.2.1.cell (i:=1) (by decide);have hl:=cell_lt e2)
     go_quiet (fail)
     go_wp2_with fail
     go_ret3
     exact⟨A,c,rfl,hT.out.later (by repeat first|exact Lz _|apply Ld|apply Ln|apply Lv),(Rs.fresh (La (Lz _)) (Nat.le_refl _) hR.out).trans (by repeat first|exact Lz _|apply Ld|apply Ln|apply Lv)⟩
   · rw [if_neg hc]
     have hc2:(cd != 0)=true:=by simpa using hc
     clear h hc
     go_enter Tryz.func45,Tryz.ntmps45
     go_wp2_with (go_at_call 69;refine (hlist.out _ (by repeat first|exact Lz _|apply La|apply Lv|apply Ld|apply Ln) hnew.out).mono ?_;clear hlist;rintro e w2 ⟨A,c,rfl,hT,hR⟩;have e2:w2.cell? ⟨w.heap.size,2,none⟩=some (.int .i64 cd):=hR.out.2.1.cell (i:=2) (by decide);have hl:=cell_lt e2)
     first|go_quiet (fail)|skip
     go_wp2_with fail
     go_ret3
     first|exact⟨none,0,rfl,Or.inl rfl,(Rs.fresh (La (Lz _)) (Nat.le_refl _) hR.out).trans (by repeat first|exact Lz _|apply Ld|apply Ln|apply Lv)⟩|exact⟨none,⟨0,rfl⟩,Or.inl rfl,(Rs.fresh (La (Lz _)) (Nat.le_refl _) hR.out).trans (by repeat first|exact Lz _|apply Ld|apply Ln|apply Lv)⟩
 · rw [if_neg h]
   by_cases h1:at_<0
   · clear h
     go_enter Tryz.func45,Tryz.ntmps45
     go_wp2_with fail
     go_ret3
     first|exact⟨none,0,rfl,Or.inl rfl,Lz _⟩|exact⟨none,⟨0,rfl⟩,Or.inl rfl,Lz _⟩
   · have h2:(s.size:Int)<at_:=by omega
     clear h
     go_enter Tryz.func45,Tryz.ntmps45
     go_wp2_with fail
     go_ret3
     first|exact⟨none,0,rfl,Or.inl rfl,Lz _⟩|exact⟨none,⟨0,rfl⟩,Or.inl rfl,Lz _⟩
end Go.Proofs.YtngciahmoenkiaaGreat
namespace Go.Proofs.YtngciahmoenkiaaGreat
open Go.RowKit
variable {s:ByteArray} {st:Rst}
theorem i64_wrap (x:Int):i64 (wrap64 x):=by unfold i64 wrap64;omega
theorem i64_0:i64 0:=by unfold i64;omega
theorem ac_i64 (s:ByteArray) (a:Nat):∀(j:Nat) (x:Int),i64 x→i64 (ac s a j x)
 | 0,x,h=>h
 | j+1,x,h=>ac_i64 s a j _ (i64_wrap _)
theorem us_i64 (s:ByteArray) (a b:Int):i64 (usR s a b).1:=by
 unfold usR
 split
 · split
   · exact i64_0
   · show i64 (if b=32 then sg3 _ else ac _ _ _ _)
     split
     · unfold i64 sg3
       split <;> omega
     · refine ac_i64 _ _ _ _ ?_
       split
       · exact i64_0
       · unfold i64;omega
 · exact i64_0
theorem rmoved_i64 (st:Rst) (x:Int×Int×Int) (h:i64 x.1):i64 (rmoved st x).1:=by
 unfold rmoved
 split
 · exact i64_0
 · split
   · exact h
   · split <;> exact i64_0
theorem rnum_i64 (s:ByteArray) (st:Rst):i64 (rnum s st).1:=by
 unfold rnum rmoved
 split
 · exact i64_0
 · split
   · rename_i h
     have:=ul_rng s st.at_ h
     unfold i64
     show -9223372036854775808≤(ulR s st.at_ 32).1∧(ulR s st.at_ 32).1≤9223372036854775807
     omega
   · split <;> exact i64_0
theorem rbyte_i64 (s:ByteArray) (st:Rst):i64 (rbyte s st).1:=by
 unfold rbyte
 split
 · have:=bt_lt s st.at_.toNat
   unfold i64
   show -9223372036854775808≤bt s st.at_.toNat∧bt s st.at_.toNat≤9223372036854775807
   omega
 · exact i64_0
theorem or_i64' (a b:Int):i64 (bits .or .i64 a b):=by rw [BM.or_i64];exact i64_wrap _
theorem rbF_i64:∀(r i:Nat) (x:Int) (st:Rst),i64 x→i64 (rbF s r i x st).1
 | 0,i,x,st,h=>h
 | r+1,i,x,st,h=>rbF_i64 r (i+1) _ _ (or_i64' _ _)
theorem rlit_i64 (op:Int) (st:Rst):i64 (rlit s op st).1:=by
 unfold rlit
 split
 · unfold i64;show -9223372036854775808≤(rsgn s st 32).1 % 4294967296∧(rsgn s st 32).1 % 4294967296≤9223372036854775807;omega
 · split
   · exact rmoved_i64 st _ (us_i64 s st.at_ 64)
   · split
     · exact rbF_i64 4 0 0 st i64_0
     · exact rbF_i64 8 0 0 st i64_0
theorem rlab_i64:∀(n:Nat) (st:Rst),(∀x∈(rlab s n st).1,i64 x)∧(rlab s n st).1.length≤n
 | 0,st=>⟨fun x h=>by simp [rlab] at h,Nat.le_refl _⟩
 | n+1,st=>by
  unfold rlab
  split
  · have ih:=rlab_i64 n (rnum s st).2
    refine⟨fun x h=>?_,by simp;exact ih.2⟩
    rcases List.mem_cons.1 h with rfl|h
    · exact rnum_i64 s st
    · exact ih.1 x h
  · exact⟨fun x h=>by simp at h,by simp⟩
def Cok (st:Rst):Prop:=0≤st.count∧st.count≤8193∧(st.code=0→st.count≤8192)
theorem Cok.of {st st':Rst} (h:Cok st) (hc:st'.count=st.count) (h0:st'.code=0→st.code=0):Cok st':=⟨by rw [hc];exact h.1,by rw [hc];exact h.2.1,fun x=>by rw [hc];exact h.2.2 (h0 x)⟩
def Lok (L:Int→Bool→Rst→Fs×Bool×Rst):Prop:=∀d o st,Cok st→Cok (L d o st).2.2∧(L d o st).1.Ok∧((L d o st).1.len:Int)≤(L d o st).2.2.count - st.count
theorem ro_ok {L:Int→Bool→Rst→Fs×Bool×Rst} (hL:Lok L) (op deep:Int) (h:Cok st):Cok (ro L s op deep st).2∧st.count≤(ro L s op deep st).2.count∧i64 (ro L s op deep st).1.a∧i64 (ro L s op deep st).1.b∧i64 (ro L s op deep st).1.bi∧i64 (ro L s op deep st).1.ty∧(∀x∈(ro L s op deep st).1.ls,i64 x)∧(ro L s op deep st).1.ls.length*8≤140737488351232∧(ro L s op deep st).1.bo.len*112≤140737488351232∧(ro L s op deep st).1.el.len*112≤140737488351232∧(ro L s op deep st).1.bo.Ok∧(ro L s op deep st).1.el.Ok:=by
 have z:=i64_0
 have nl:∀x∈([]:List Int),i64 x:=fun x h=>by simp at h
 have k0:(0:Nat)*8≤140737488351232:=by decide
 have k1:(0:Nat)*112≤140737488351232:=by decide
 unfold ro
 split
 · split
   · exact⟨h.of (rfail_ct st _) (fun x=>rfail_c0 x),by rw [show (({}:On),rfail st 1402).2=rfail st 1402 from rfl,rfail_ct];exact Int.le_refl _,z,z,z,z,nl,k0,k1,k1,trivial,trivial⟩
   · have ct:=h.of (rtyp_ct (s:=s) st) (fun x=>rtyp_c0 x)
     have ht:=rtyp_ct (s:=s) st
     have l1:=hL (deep+1) (decide (op=4)) (rtyp s st) ct
     have hb1:(L (deep+1) (decide (op=4)) (rtyp s st)).1.len*112≤140737488351232:=by have:=l1.1.2.1;have:=l1.2.2;have:=ct.1;omega
     split
     · have l2:=hL (deep+1) false (L (deep+1) (decide (op=4)) (rtyp s st)).2.2 l1.1
       have hb2:(L (deep+1) false (L (deep+1) (decide (op=4)) (rtyp s st)).2.2).1.len*112≤140737488351232:=by have:=l2.1.2.1;have:=l2.2.2;have:=l1.1.1;omega
       have hc:st.count≤(L (deep+1) false (L (deep+1) (decide (op=4)) (rtyp s st)).2.2).2.2.count:=by have:=l2.2.2;have:=l1.2.2;omega
       exact⟨l2.1,hc,z,z,z,rbyte_i64 s st,nl,k0,hb1,hb2,l1.2.1,l2.2.1⟩
     · have hc:st.count≤(L (deep+1) (decide (op=4)) (rtyp s st)).2.2.count:=by have:=l1.2.2;omega
       exact⟨l1.1,hc,z,z,z,rbyte_i64 s st,nl,k0,hb1,k1,l1.2.1,trivial⟩
 · split
   · exact⟨h.of (rmoved_ct st _) (fun x=>rmoved_c0 x),by show st.count≤(rnum s st).2.count;rw [show (rnum s st).2.count=st.count from rmoved_ct st _];exact Int.le_refl _,rnum_i64 s st,z,z,z,nl,k0,k1,k1,trivial,trivial⟩
   · split
     · have e:(rlab s ((rnum s st).1.toNat+1) (rcap (rnum s st).1 (rnum s st).2)).2.count=st.count:=((rlab_ct _ _).trans (rcap_ct _ _)).trans (rmoved_ct st _)
       have hl:(rlab s ((rnum s st).1.toNat+1) (rcap (rnum s st).1 (rnum s st).2)).1.length*8≤140737488351232:=by
        by_cases hx:(rnum s st).1≥1024
        · have:¬(rcap (rnum s st).1 (rnum s st).2).code=0:=by unfold rcap;rw [if_pos hx];exact rfail_ne _ _ (by decide)
          rw [rlab_stop _ this]
          exact k0
        · have:=(rlab_i64 (s:=s) ((rnum s st).1.toNat+1) (rcap (rnum s st).1 (rnum s st).2)).2
          omega
       exact⟨h.of e (fun x=>rmoved_c0 (rcap_c0 (rlab_c0 _ _ x))),by show st.count≤(rlab s ((rnum s st).1.toNat+1) (rcap (rnum s st).1 (rnum s st).2)).2.count;rw [e];exact Int.le_refl _,z,z,z,z,(rlab_i64 _ _).1,hl,k1,k1,trivial,trivial⟩
     · split
       · have e:(rnought s (rnum s st).2).count=st.count:=(rnought_ct _).trans (rmoved_ct st _)
         exact⟨h.of e (fun x=>rmoved_c0 (rnought_c0 x)),by show st.count≤(rnought s (rnum s st).2).count;rw [e];exact Int.le_refl _,rnum_i64 s st,z,z,z,nl,k0,k1,k1,trivial,trivial⟩
       · split
         · have e:(rnum s (rnum s st).2).2.count=st.count:=(rmoved_ct _ _).trans (rmoved_ct st _)
           exact⟨h.of e (fun x=>rmoved_c0 (rmoved_c0 x)),by show st.count≤(rnum s (rnum s st).2).2.count;rw [e];exact Int.le_refl _,rnum_i64 s st,rnum_i64 s _,z,z,nl,k0,k1,k1,trivial,trivial⟩
         · split
           · exact⟨h.of (rnought_ct st) (fun x=>rnought_c0 x),by show st.count≤(rnought s st).count;rw [rnought_ct];exact Int.le_refl _,z,z,z,z,nl,k0,k1,k1,trivial,trivial⟩
           · split
             · exact⟨h.of (rlit_ct op st) (fun x=>rlit_c0 x),by show st.count≤(rlit s op st).2.count;rw [rlit_ct];exact Int.le_refl _,z,z,rlit_i64 op st,z,nl,k0,k1,k1,trivial,trivial⟩
             · exact⟨h,Int.le_refl _,z,z,z,z,nl,k0,k1,k1,trivial,trivial⟩
theorem rl_ok:∀n:Nat,Lok (rl s n)
 | 0,d,o,st,h=>⟨h,trivial,by show (0:Int)≤st.count - st.count;omega⟩
 | n+1,d,o,st,h=>by
  have hb:=rbyte_ct s st
  have hB:=h.of hb (fun x=>rbyte_c0 x)
  unfold rl
  by_cases h0:st.code=0
  · rw [if_pos h0]
    by_cases h1:¬(rbyte s st).2.code=0∨(rbyte s st).1=11
    · rw [if_pos h1];exact⟨hB,trivial,by show (0:Int)≤(rbyte s st).2.count - st.count;omega⟩
    · rw [if_neg h1]
      by_cases h2:(rbyte s st).1=5∧o=true
      · rw [if_pos h2];exact⟨hB,trivial,by show (0:Int)≤(rbyte s st).2.count - st.count;omega⟩
      · rw [if_neg h2]
        by_cases h3:fo (rbyte s st).1=9
        · rw [if_pos h3]
          have e:=rfail_ct (rbyte s st).2 1403
          exact⟨hB.of e (fun x=>rfail_c0 x),trivial,by show (0:Int)≤(rfail (rbyte s st).2 1403).count - st.count;omega⟩
        · rw [if_neg h3]
          have hm:(met (rbyte s st).2).count=(rbyte s st).2.count+1:=rfl
          have hcb:=hB.1
          have hc8:=h.2.2 h0
          by_cases h4:(rbyte s st).2.count+1 > 8192
          · rw [if_pos h4]
            have e:=rfail_ct (met (rbyte s st).2) 1400
            refine⟨⟨?_,?_,fun hc=>absurd hc (rfail_ne _ _ (by decide))⟩,trivial,?_⟩
            · show 0≤(rfail (met (rbyte s st).2) 1400).count;omega
            · show (rfail (met (rbyte s st).2) 1400).count≤8193;omega
            · show (0:Int)≤(rfail (met (rbyte s st).2) 1400).count - st.count;omega
          · rw [if_neg h4]
            have hM:Cok (met (rbyte s st).2):=⟨by omega,by omega,fun _=>by omega⟩
            obtain⟨q1,q2,q3,q4,q5,q6,q7,q8,q9,q10,q11,q12⟩:=ro_ok (s:=s) (rl_ok n) (rbyte s st).1 d hM
            obtain⟨r1,r2,r3⟩:=rl_ok n d o (ro (rl s n) s (rbyte s st).1 d (met (rbyte s st).2)).2 q1
            refine⟨r1,⟨⟨rbyte_i64 s st,q3,q4,q5,q6,q7⟩,q8,q9,q10,q11,q12,r2⟩,?_⟩
            show (((rl s n d o (ro (rl s n) s (rbyte s st).1 d (met (rbyte s st).2)).2).1.len+1:Nat):Int)≤(rl s n d o (ro (rl s n) s (rbyte s st).1 d (met (rbyte s st).2)).2).2.2.count - st.count
            omega
  · rw [if_neg h0];exact⟨h,trivial,by show (0:Int)≤st.count - st.count;omega⟩
theorem unI_ok (s:ByteArray) (at_:Int):(unI s at_).1.Ok∧(unI s at_).1.len*112≤140737488351232:=by
 unfold unI
 split
 · split
   · have h:=rl_ok (s:=s) (s.size+1) 0 false ⟨at_,0,0⟩ ⟨Int.le_refl _,by show (0:Int)≤8193;decide,fun _=>by show (0:Int)≤8192;decide⟩
     have h1:=h.1.2.1
     have h2:=h.2.2
     refine⟨h.2.1,?_⟩
     show (rl s (s.size+1) 0 false ⟨at_,0,0⟩).1.len*112≤140737488351232
     simp only at h2
     omega
   · exact⟨trivial,by show (0:Nat)*112≤140737488351232;decide⟩
 · exact⟨trivial,by decide⟩
