import Derived.Test.YtngciahmoenkiaaGreatXL
import Derived.Deep.RegionHeldLaw
set_option linter.unusedVariables false
set_option linter.unusedSimpArgs false
set_option maxRecDepth 100000
set_option maxHeartbeats 4000000
namespace Go.Proofs.YtngciahmoenkiaaGreat
open Go.RowKit
variable {q:Nat} {s:ByteArray} {st st':Rst} {w W W':World} {F:Nat→Value} {lab:Nat→Nat} {l:List Int}
def ints (l:List Int):List Value:=l.map fun x=>Value.int .i64 x
def Ol (q:Nat) (w W:World) (s:ByteArray) (st:Rst) (F:Nat→Value) (lab:Nat→Nat) (l:List Int):Prop:=Oz q w W s st F∧Fld lab 0 W w.heap.size 3 1 (F 5) l.length (ints l)∧∀k,k<w.heap.size+2→lab k=99
theorem Oz.congr {G:Nat→Value} (h:Oz q w W s st F) (hg:∀j,j<8→F j=G j):Oz q w W s st G:=by
 obtain⟨h1,h2,c,e1,e2,e3⟩:=h
 exact⟨h1,h2,c,e1,e2,fun i hi=>by rw [e3 i hi,hg i hi]⟩
theorem Ol.congr {G:Nat→Value} (h:Ol q w W s st F lab l) (hg:∀j,j<8→F j=G j):Ol q w W s st G lab l:=⟨h.1.congr hg,by rw [←hg 5 (by decide)];exact h.2.1,h.2.2⟩
theorem Ol.lq {A:Option Addr} {cap:Nat} (h:Ol q w W s st F lab l) (h5:F 5=.slice A l.length cap):Lq (fun k=>w.heap.size≤k∧lab k=0) W A l:=by
 have h2:=h.2.1
 rw [h5] at h2
 by_cases hl:l=[]
 · subst hl
   exact⟨Or.inl rfl,fun x=>absurd rfl x⟩
 · obtain⟨g,rfl,hb,hlt,hlab,hcap,_,hc⟩:=h2.at_ (List.length_pos_iff.2 hl)
   refine⟨Or.inr ⟨g,0,rfl,fun j hj=>?_⟩,fun _ a ha=>?_⟩
   · rw [Nat.zero_add]
     refine hc j _ ?_
     simp [ints,hj]
   · cases ha
     exact⟨hb,hlab⟩
theorem Ol.start (h:Oz q w W s st F) (h5:F 5=.slice none 0 0):Ol q w W s st F (fun _=>99) []:=⟨h,⟨by rw [h5];exact World.ownsRow_nil _ _ _ _,fun g hg=>by rw [h5] at hg;cases hg⟩,fun _ _=>rfl⟩
theorem Ol.form (h:Ol q w W s st F lab l):∃A cap,F 5=.slice A l.length cap:=by
 rcases h.2.1.1.2 with ⟨e,h0⟩|⟨g,cap',cur,e,_⟩
 · rw [h0];exact⟨none,0,e⟩
 · exact⟨_,_,e⟩
theorem Oz.qlt (h:Oz q w W s st F):q<w.heap.size:=by obtain⟨F0,h3⟩:=h.1.2.2;exact h3.lt
theorem Ol.rs (h:Ol q w W s st F lab l) (hr:Rs q W W' s st'):Ol q w W' s st' F lab l:=by
 obtain⟨h1,h2,h3⟩:=h
 have hq:=Oz.qlt h1
 refine⟨h1.rs hr,h2.chg (S:=(·=99)) (lab':=lab) ⟨hr.size,fun k hk hs=>⟨rfl,hr.block (fun e=>hs (h3 k (by omega))) hk⟩⟩ (by decide),h3⟩
theorem Ol.later (h:Ol q w W s st F lab l) (hl:Later W W'):Ol q w W' s st F lab l:=⟨h.1.later hl,h.2.1.chg (S:=fun _=>False) (Chg.of_later hl) (fun x=>x),h.2.2⟩
theorem Ol.more (h:Ol q w W s st F lab l) (x:Int) (hn:l.length≤2000):∃g cap w' lab',(Builtin.append_ #[24,24] 24 #[F 5,.slice (some ⟨W.heap.size,0,none⟩) 1 1]).run Tryz.prog (W.alloc (.cells #[.int .i64 x] 3))=.ok (.slice (some ⟨g,0,none⟩) (l.length+1) cap) w'∧w'.cell? ⟨w.heap.size+1,5,none⟩=some (F 5)∧w'.frozen? ⟨w.heap.size+1,5,none⟩=false∧w.heap.size+1<w'.heap.size∧Ol q w (w'.setCell ⟨w.heap.size+1,5,none⟩ (.slice (some ⟨g,0,none⟩) (l.length+1) cap)) s st (fun j=>if j=5 then .slice (some ⟨g,0,none⟩) (l.length+1) cap else F j) lab' (l++[x]):=by
 obtain⟨h1,h2,h3⟩:=h
 have hq:=Oz.qlt h1
 obtain⟨i0,hi,hz0,hz1,hz2⟩:=int_parts
 obtain⟨⟨⟨cs,bs,n,e⟩,rq,F0,r0⟩,rr,rp⟩:=id h1
 have hL:Later (w.setRow q cs) W:=⟨bs,n,e⟩
 have hs:(w.setRow q cs).heap.size=w.heap.size:=by simp
 have hone:∀u∈[Value.int .i64 x],u.oneCell'=true:=by
  intro u hu
  simp only [List.mem_cons,List.not_mem_nil,or_false] at hu
  subst hu
  rfl
 obtain⟨g,cap,w',lab',r,G,l2,C⟩:=fld_more (P:=Tryz.prog) hL 24 24 3 i0 (.int .i64 0) 1 8 Tryz.underlying24 hi hz0 hz1 hz2 rfl (by decide) (by rw [hs];exact h2) [.int .i64 x] rfl hone (by unfold maxLen;omega) (by omega)
 have kp:∀k,k<w.heap.size+2→k<W.heap.size→lab' k=99∧w'.heap[k]?=W.heap[k]?:=fun k hk hl=>by
  have:=C.2 k hl (by rw [h3 k hk];decide)
  exact⟨this.1.trans (h3 k hk),this.2⟩
 have hpl:w.heap.size+1<W.heap.size:=rp.lt
 have O1:Oz q w w' s st F:=by
  obtain⟨bs',n',e'⟩:=l2
  exact⟨⟨⟨cs,bs',n',e'⟩,rq.of_block (kp q (by omega) rq.lt).2,F0,r0⟩,rr.of_block (kp _ (by omega) rr.lt).2,rp.of_block (kp _ (by omega) rp.lt).2⟩
 refine⟨g,cap,w',lab',r,O1.cell 5 (by decide),O1.frozen 5,by have:=O1.2.2.lt;omega,O1.set 5 _,?_,fun k hk=>(kp k hk (by omega)).1⟩
 have hc:Chg lab' (·=99) w' (w'.setCell ⟨w.heap.size+1,5,none⟩ (.slice (some ⟨g,0,none⟩) (l.length+1) cap)) lab':=by
  have ht:Turned (w.heap.size+1) w' (w'.setCell ⟨w.heap.size+1,5,none⟩ (.slice (some ⟨g,0,none⟩) (l.length+1) cap)):=(Turned.refl O1.2.2).set O1.2.2 5 _
  exact⟨ht.size,fun k hk hs'=>⟨rfl,ht.block (fun e=>hs' (by rw [e];exact (kp _ (by omega) hpl).1)) hk⟩⟩
 have G2:=G.chg hc (by decide)
 rw [hs] at G2
 show Fld lab' 0 _ w.heap.size 3 1 (.slice (some ⟨g,0,none⟩) (l.length+1) cap) (l++[x]).length (ints (l++[x]))
 rw [List.length_append,List.length_singleton,show ints (l++[x])=ints l++[.int .i64 x] by simp [ints]]
 exact G2
theorem bk_res {V:World} {r:Nat} {T:TypeId} {n:Nat} (h:(∀k,k≠r→k<V.heap.size→W.heap[k]?=V.heap[k]?)∧V.heap.size≤W.heap.size∧∃G,W.rowIs r T n G) (i:Nat) (u:Value):(∀k,k≠r→k<V.heap.size→(W.setCell ⟨r,i,none⟩ u).heap[k]?=V.heap[k]?)∧V.heap.size≤(W.setCell ⟨r,i,none⟩ u).heap.size∧∃G,(W.setCell ⟨r,i,none⟩ u).rowIs r T n G:=by
 obtain⟨h1,h2,G,h3⟩:=h
 have ht:Turned r W (W.setCell ⟨r,i,none⟩ u):=(Turned.refl h3).set h3 i u
 exact⟨fun k hk hl=>(ht.block hk (by omega)).trans (h1 k hk hl),Nat.le_trans h2 ht.size,_,h3.set i u⟩
theorem Oz.blocks (hO:Oz q w W s st F) (x0 x1 x2 x3 x4 x5 x6 x7:Value):∀k,k≠w.heap.size→k<W.heap.size→((((((((W.setCell ⟨w.heap.size,0,none⟩ x0).setCell ⟨w.heap.size,1,none⟩ x1).setCell ⟨w.heap.size,2,none⟩ x2).setCell ⟨w.heap.size,3,none⟩ x3).setCell ⟨w.heap.size,4,none⟩ x4).setCell ⟨w.heap.size,5,none⟩ x5).setCell ⟨w.heap.size,6,none⟩ x6).setCell ⟨w.heap.size,7,none⟩ x7).heap[k]?=W.heap[k]?:=(bk_res (bk_res (bk_res (bk_res (bk_res (bk_res (bk_res (bk_res (⟨fun k _ _=>rfl,Nat.le_refl _,_,hO.2.1⟩) 0 x0) 1 x1) 2 x2) 3 x3) 4 x4) 5 x5) 6 x6) 7 x7).1
end Go.Proofs.YtngciahmoenkiaaGreat
set_option maxHeartbeats 40000000
namespace Go.Proofs.YtngciahmoenkiaaGreat
open Go.RowKit
variable {q:Nat} {s:ByteArray} {st:Rst}
theorem five {op:Int}:∀j,j<8→(fun j=>[.int .i64 op,.int .i64 0,.int .i64 0,.int .i64 0,.int .i64 0,.slice none 0 0,.slice none 0 0,.slice none 0 0].getD j undef) j=(fun j=>if j=5 then .slice none 0 0 else (fun j=>[.int .i64 op,.int .i64 0,.int .i64 0,.int .i64 0,.int .i64 0,.slice none 0 0,.slice none 0 0,.slice none 0 0].getD j undef) j) j:=fun j hj=>by
 match j,hj with
 | 0,_=>rfl
 | 1,_=>rfl
 | 2,_=>rfl
 | 3,_=>rfl
 | 4,_=>rfl
 | 5,_=>rfl
 | 6,_=>rfl
 | 7,_=>rfl
theorem one_4 (hs:s.size<9223372036854775000) (op deep:Int) (hf:Hid (fo op=4)) (x:Int) (st1:Rst) (hx0:0≤x) (hin1:Rin s st1) (w:World) (h:w.rowIs q 122 4 (rF s st))
    (hnum:Hid (∀W,W.rowIs q 122 4 (rF s st)→Calls Tryz.prog 92 #[.pointer (some ⟨q,0,none⟩)] W fun e' w'=>e'=.returned (.int .i64 x)∧Hid (Rs q W w' s st1))) (hx:¬1024≤x) :
    Calls Tryz.prog 85 #[.pointer (some ⟨q,0,none⟩),.int .i64 op,.int .i64 deep] w fun e w'=>∃LA lc,e=.returned (.agg #[.int .i64 op,.int .i64 0,.int .i64 0,.int .i64 0,.int .i64 0,.slice LA (rlab s (x.toNat+1) st1).1.length lc,.slice none 0 0,.slice none 0 0])∧Hid (Lq (w.heap.size≤·) w' LA (rlab s (x.toNat+1) st1).1)∧Hid (Rs q w w' s (rlab s (x.toNat+1) st1).2):=by
 have hform:Hid (∀w:World,Calls Tryz.prog 83 #[.int .i64 op] w fun e w'=>e=.returned (.int .i64 4)∧w'=w):=fun w=>by
  have:=form_any op w
  rwa [hf.out] at this
 have O0:=Oz.start h op
 have hc0:Hid (Calls Tryz.prog 92 #[.pointer (some ⟨q,0,none⟩)] ((w.alloc (.cells #[.int .i64 0,.int .i64 0,.int .i64 0,.int .i64 0,.int .i64 0,.slice none 0 0,.slice none 0 0,.slice none 0 0] 89)).alloc (.cells #[.int .i64 op,.int .i64 0,.int .i64 0,.int .i64 0,.int .i64 0,.slice none 0 0,.slice none 0 0,.slice none 0 0] 89)) fun e' w1=>e'=.returned (.int .i64 x)∧Hid (Oz q w w1 s st1 (fun j=>[.int .i64 op,.int .i64 0,.int .i64 0,.int .i64 0,.int .i64 0,.slice none 0 0,.slice none 0 0,.slice none 0 0].getD j undef))):=by
  refine (hnum.out _ O0.row).mono ?_
  rintro e w1 ⟨rfl,R1⟩
  exact⟨rfl,O0.rs R1.out⟩
 clear O0 h hnum
 replace hin1:Hid (Rin s st1):=hin1
 go_enter Tryz.func85,Tryz.ntmps85
 go_wp2_with (first|(go_at_call 83;refine (hform.out _).mono ?_;rintro e w' ⟨rfl,rfl⟩)|(go_at_call 92;refine hc0.out.mono ?_;clear hc0;rintro e w1 ⟨rfl,O1⟩))
 go_loopw [13] (fun i wr=>∃(lab:Nat→Nat) (l:List Int) (st2:Rst) (v:Value),i=.int .i64 (l.length:Nat)∧(l.length:Int)≤x+1∧Rin s st2∧Ol q w wr s st2 (fun j=>if j=5 then v else (fun j=>[.int .i64 op,.int .i64 0,.int .i64 0,.int .i64 0,.int .i64 0,.slice none 0 0,.slice none 0 0,.slice none 0 0].getD j undef) j) lab l∧rlab s (x.toNat+1) st1=(l++(rlab s (x.toNat+1 - l.length) st2).1,(rlab s (x.toNat+1 - l.length) st2).2)) (fun i _=>2000 - (intOf i).toNat)
 case atStart=>exact⟨fun _=>99,[],st1,.slice none 0 0,rfl,by simp;omega,hin1.out,Ol.start (O1.out.congr five) rfl,rfl⟩
 case round =>
  obtain⟨lab,l,st2,v,rfl,hj,hin2,OL,hr⟩:=hrel
  obtain⟨A,cap,hv⟩:=OL.form
  have hv2:v=.slice A l.length cap:=hv
  subst hv2
  obtain⟨a2,cd,ct⟩:=st2
  have k2:wr.cell? ⟨q,2,none⟩=some (.int .i64 cd):=Rs.cell OL.1.1 2 (by decide)
  have kl:=cell_lt k2
  have z5:wr.cell? ⟨w.heap.size+1,5,none⟩=some (.slice A l.length cap):=OL.1.cell 5 (by decide)
  have zl:=cell_lt z5
  by_cases hgo:(l.length:Int)≤x∧cd=0
  · obtain⟨hg1,rfl⟩:=hgo
    have hnum2:Hid (∀W,Later wr W→Calls Tryz.prog 92 #[.pointer (some ⟨q,0,none⟩)] W fun e' w'=>e'=.returned (.int .i64 (rnum s ⟨a2,0,ct⟩).1)∧Hid (Ol q w w' s (rnum s ⟨a2,0,ct⟩).2 (fun j=>if j=5 then .slice A l.length cap else (fun j=>[.int .i64 op,.int .i64 0,.int .i64 0,.int .i64 0,.int .i64 0,.slice none 0 0,.slice none 0 0,.slice none 0 0].getD j undef) j) lab l)):=fun W hW=>by
     refine (num_rd hs W (OL.later hW).1.row).mono ?_
     rintro e w3 ⟨rfl,R3⟩
     exact⟨rfl,(OL.later hW).rs R3.out⟩
    have hmore:Hid (∀w3,Ol q w w3 s (rnum s ⟨a2,0,ct⟩).2 (fun j=>if j=5 then .slice A l.length cap else (fun j=>[.int .i64 op,.int .i64 0,.int .i64 0,.int .i64 0,.int .i64 0,.slice none 0 0,.slice none 0 0,.slice none 0 0].getD j undef) j) lab l→w3.cell? ⟨w.heap.size+1,5,none⟩=some (.slice A l.length cap)∧∃g cap2 w4 lab4,Hid ((Builtin.append_ #[24,24] 24 #[.slice A l.length cap,.slice (some ⟨w3.heap.size,0,none⟩) 1 1]).run Tryz.prog (w3.alloc (.cells #[.int .i64 (rnum s ⟨a2,0,ct⟩).1] 3))=.ok (.slice (some ⟨g,0,none⟩) (l.length+1) cap2) w4)∧w4.cell? ⟨w.heap.size+1,5,none⟩=some (.slice A l.length cap)∧w4.frozen? ⟨w.heap.size+1,5,none⟩=false∧w.heap.size+1<w4.heap.size∧Hid (Ol q w (w4.setCell ⟨w.heap.size+1,5,none⟩ (.slice (some ⟨g,0,none⟩) (l.length+1) cap2)) s (rnum s ⟨a2,0,ct⟩).2 (fun j=>if j=5 then .slice (some ⟨g,0,none⟩) (l.length+1) cap2 else (fun j=>[.int .i64 op,.int .i64 0,.int .i64 0,.int .i64 0,.int .i64 0,.slice none 0 0,.slice none 0 0,.slice none 0 0].getD j undef) j) lab4 (l++[(rnum s ⟨a2,0,ct⟩).1]))):=fun w3 O3=>by
     refine⟨O3.1.cell 5 (by decide),?_⟩
     obtain⟨g,cap2,w4,lab4,r4,c4,f4,hl4,O4⟩:=O3.more (rnum s ⟨a2,0,ct⟩).1 (by omega)
     refine⟨g,cap2,w4,lab4,r4,c4,f4,hl4,O4.congr fun j hj=>?_⟩
     by_cases e:j=5
     · simp only [if_pos e]
     · simp only [if_neg e]
    have hr2:Hid (rlab s (x.toNat+1) st1=((l++[(rnum s ⟨a2,0,ct⟩).1])++(rlab s (x.toNat+1 - (l.length+1)) (rnum s ⟨a2,0,ct⟩).2).1,(rlab s (x.toNat+1 - (l.length+1)) (rnum s ⟨a2,0,ct⟩).2).2)):=by
     show _=_
     rw [hr,show x.toNat+1 - l.length=(x.toNat+1 - (l.length+1))+1 by omega]
     conv=>lhs;unfold rlab
     simp
    have hin3:Hid (Rin s (rnum s ⟨a2,0,ct⟩).2):=rnum_in hin2
    clear hr OL
    replace hin2:Hid True:=trivial
    generalize (rnum s ⟨a2,0,ct⟩).2=st3 at *
    generalize (rnum s ⟨a2,0,ct⟩).1=y at *
    go_wp2_with fail
    go_region_law (first|(refine step_app (by rfl) _ _ 24 (by rfl) _ _ _ (by rfl) (by rfl) r4.out ?_)|(go_simp;go_at_call 92;refine (hnum2.out _ (Ld (Lz _))).mono ?_;rintro e w3 ⟨rfl,O3⟩;obtain⟨v5,g,cap2,w4,lab4,r4,c4,f4,hl4,O4⟩:=hmore.out w3 O3.out;have hl3:=cell_lt v5))
    all_goals
     go_wp2_with fail
     refine⟨⟨lab4,l++[y],st3,.slice (some ⟨g,0,none⟩) (l.length+1) cap2,by simp,by simp;omega,hin3.out,O4.out,by simpa using hr2.out⟩,?_⟩
     simp [intOf]
     omega
  · have hfin:Hid (rlab s (x.toNat+1) st1=(l,⟨a2,cd,ct⟩)):=by
     show _=_
     rw [hr]
     by_cases hg1:(l.length:Int)≤x
     · have hcd:¬cd=0:=fun e=>hgo ⟨hg1,e⟩
       rw [show x.toNat+1 - l.length=(x.toNat+1 - (l.length+1))+1 by omega]
       unfold rlab
       simp [hcd]
     · rw [show x.toNat+1 - l.length=0 by omega]
       simp [rlab]
    have hlq:Hid (Lq (fun k=>w.heap.size≤k∧lab k=0) wr A l):=OL.lq rfl
    have hlb:Hid (∀k,k<w.heap.size+2→lab k=99):=OL.2.2
    have O3:Hid (Oz q w wr s ⟨a2,cd,ct⟩ (fun j=>if j=5 then .slice A l.length cap else (fun j=>[.int .i64 op,.int .i64 0,.int .i64 0,.int .i64 0,.int .i64 0,.slice none 0 0,.slice none 0 0,.slice none 0 0].getD j undef) j)):=OL.1
    clear hr OL hin2 k2 z5
    have z0:wr.cell? ⟨w.heap.size+1,0,none⟩=some (.int .i64 op):=Oz.cell O3.out 0 (by decide)
    have z1:wr.cell? ⟨w.heap.size+1,1,none⟩=some (.int .i64 0):=Oz.cell O3.out 1 (by decide)
    have z2:wr.cell? ⟨w.heap.size+1,2,none⟩=some (.int .i64 0):=Oz.cell O3.out 2 (by decide)
    have z3:wr.cell? ⟨w.heap.size+1,3,none⟩=some (.int .i64 0):=Oz.cell O3.out 3 (by decide)
    have z4:wr.cell? ⟨w.heap.size+1,4,none⟩=some (.int .i64 0):=Oz.cell O3.out 4 (by decide)
    have z5:wr.cell? ⟨w.heap.size+1,5,none⟩=some (.slice A l.length cap):=Oz.cell O3.out 5 (by decide)
    have z6:wr.cell? ⟨w.heap.size+1,6,none⟩=some (.slice none 0 0):=Oz.cell O3.out 6 (by decide)
    have z7:wr.cell? ⟨w.heap.size+1,7,none⟩=some (.slice none 0 0):=Oz.cell O3.out 7 (by decide)
    have zf1:=Oz.frozen O3.out 1
    have zf2:=Oz.frozen O3.out 2
    have zf3:=Oz.frozen O3.out 3
    have zf4:=Oz.frozen O3.out 4
    have zf5:=Oz.frozen O3.out 5
    have zf6:=Oz.frozen O3.out 6
    have zf7:=Oz.frozen O3.out 7
    have y0:wr.cell? ⟨w.heap.size,0,none⟩=some (.int .i64 0):=Oz.ry O3.out 0 (by decide)
    have y1:wr.cell? ⟨w.heap.size,1,none⟩=some (.int .i64 0):=Oz.ry O3.out 1 (by decide)
    have y2:wr.cell? ⟨w.heap.size,2,none⟩=some (.int .i64 0):=Oz.ry O3.out 2 (by decide)
    have y3:wr.cell? ⟨w.heap.size,3,none⟩=some (.int .i64 0):=Oz.ry O3.out 3 (by decide)
    have y4:wr.cell? ⟨w.heap.size,4,none⟩=some (.int .i64 0):=Oz.ry O3.out 4 (by decide)
    have y5:wr.cell? ⟨w.heap.size,5,none⟩=some (.slice none 0 0):=Oz.ry O3.out 5 (by decide)
    have y6:wr.cell? ⟨w.heap.size,6,none⟩=some (.slice none 0 0):=Oz.ry O3.out 6 (by decide)
    have y7:wr.cell? ⟨w.heap.size,7,none⟩=some (.slice none 0 0):=Oz.ry O3.out 7 (by decide)
    have g0:=Oz.rz O3.out 0
    have g1:=Oz.rz O3.out 1
    have g2:=Oz.rz O3.out 2
    have g3:=Oz.rz O3.out 3
    have g4:=Oz.rz O3.out 4
    have g5:=Oz.rz O3.out 5
    have g6:=Oz.rz O3.out 6
    have g7:=Oz.rz O3.out 7
    have hp1:=cell_lt z0
    have hp0:=cell_lt y0
    have k2:wr.cell? ⟨q,2,none⟩=some (.int .i64 cd):=Rs.cell (Oz.out_rs O3.out) 2 (by decide)
    have hgo2:(¬(l.length:Int)≤x)∨((l.length:Int)≤x∧(cd==0)=false):=by
     by_cases hg1:(l.length:Int)≤x
     · exact Or.inr ⟨hg1,beq_false (fun e=>hgo ⟨hg1,e⟩)⟩
     · exact Or.inl hg1
    clear hgo
    rcases hgo2 with h9|⟨h9,h8⟩
    all_goals
     go_wp2_with fail
     refine bodyPost_ret (v:=.agg #[.int .i64 op,.int .i64 0,.int .i64 0,.int .i64 0,.int .i64 0,.slice A l.length cap,.slice none 0 0,.slice none 0 0]) (by simp [results,Tryz.results85,go_sem,y0,y1,y2,y3,y4,y5,y6,y7,hp0]) rfl ?_
     rw [hfin.out]
     exact⟨A,⟨cap,rfl⟩,hlq.out.move (fun k hk hl=>⟨hk.1,Oz.blocks O3.out _ _ _ _ _ _ _ _ k (fun e=>by have h1:=hk.2;rw [e,hlb.out _ (by omega)] at h1;exact absurd h1 (by decide)) hl⟩),Oz.done O3.out _ _ _ _ _ _ _ _⟩
theorem rfail_code (st:Rst) (e:Int) (he:¬e=0):¬(rfail st e).code=0:=by
 unfold rfail
 split
 · exact he
 · assumption
theorem one_4b (hs:s.size<9223372036854775000) (op deep:Int) (hf:Hid (fo op=4)) (x:Int) (st1:Rst) (w:World) (h:w.rowIs q 122 4 (rF s st))
    (hnum:Hid (∀W,W.rowIs q 122 4 (rF s st)→Calls Tryz.prog 92 #[.pointer (some ⟨q,0,none⟩)] W fun e' w'=>e'=.returned (.int .i64 x)∧Hid (Rs q W w' s st1))) (hx:1024≤x) :
    Calls Tryz.prog 85 #[.pointer (some ⟨q,0,none⟩),.int .i64 op,.int .i64 deep] w fun e w'=>e=.returned (.agg #[.int .i64 op,.int .i64 0,.int .i64 0,.int .i64 0,.int .i64 0,.slice none 0 0,.slice none 0 0,.slice none 0 0])∧Hid (Rs q w w' s (rfail st1 1400)):=by
 have hform:Hid (∀w:World,Calls Tryz.prog 83 #[.int .i64 op] w fun e w'=>e=.returned (.int .i64 4)∧w'=w):=fun w=>by
  have:=form_any op w
  rwa [hf.out] at this
 have O0:=Oz.start h op
 have hc0:Hid (Calls Tryz.prog 92 #[.pointer (some ⟨q,0,none⟩)] ((w.alloc (.cells #[.int .i64 0,.int .i64 0,.int .i64 0,.int .i64 0,.int .i64 0,.slice none 0 0,.slice none 0 0,.slice none 0 0] 89)).alloc (.cells #[.int .i64 op,.int .i64 0,.int .i64 0,.int .i64 0,.int .i64 0,.slice none 0 0,.slice none 0 0,.slice none 0 0] 89)) fun e' w1=>e'=.returned (.int .i64 x)∧Hid (Oz q w w1 s st1 (fun j=>[.int .i64 op,.int .i64 0,.int .i64 0,.int .i64 0,.int .i64 0,.slice none 0 0,.slice none 0 0,.slice none 0 0].getD j undef))):=by
  refine (hnum.out _ O0.row).mono ?_
  rintro e w1 ⟨rfl,R1⟩
  exact⟨rfl,O0.rs R1.out⟩
 have hfl:Hid (∀W,Oz q w W s st1 (fun j=>[.int .i64 op,.int .i64 0,.int .i64 0,.int .i64 0,.int .i64 0,.slice none 0 0,.slice none 0 0,.slice none 0 0].getD j undef)→Calls Tryz.prog 84 #[.pointer (some ⟨q,0,none⟩),.int .i64 1400] W fun e' w'=>e'=.returned (.tuple #[])∧Hid (Oz q w w' s (rfail st1 1400) (fun j=>[.int .i64 op,.int .i64 0,.int .i64 0,.int .i64 0,.int .i64 0,.slice none 0 0,.slice none 0 0,.slice none 0 0].getD j undef))):=fun W O=>by
  refine (fail_any 1400 _ O.row).mono ?_
  rintro e w3 ⟨rfl,R1⟩
  exact⟨rfl,O.rs R1.out⟩
 have hcd:=rfail_code st1 1400 (by decide)
 clear O0 h hnum
 generalize rfail st1 1400=st2 at *
 obtain⟨a2,cd,ct⟩:=st2
 have hcd2:(cd==0)=false:=beq_false hcd
 go_enter Tryz.func85,Tryz.ntmps85
 go_wp2_with (first|(go_at_call 83;refine (hform.out _).mono ?_;rintro e w' ⟨rfl,rfl⟩)|(go_at_call 92;refine hc0.out.mono ?_;clear hc0;rintro e w1 ⟨rfl,O1⟩)|(go_at_call 84;refine (hfl.out _ O1.out).mono ?_;clear hfl;rintro e w2 ⟨rfl,O3⟩))
 go_loopw [13] (fun i wr=>i=.int .i64 0∧wr=w2) (fun i _=>0)
 case atStart=>exact⟨rfl,rfl⟩
 case round =>
  obtain⟨rfl,hw⟩:=hrel
  subst hw
  have z0:wr.cell? ⟨w.heap.size+1,0,none⟩=some (.int .i64 op):=Oz.cell O3.out 0 (by decide)
  have z1:wr.cell? ⟨w.heap.size+1,1,none⟩=some (.int .i64 0):=Oz.cell O3.out 1 (by decide)
  have z2:wr.cell? ⟨w.heap.size+1,2,none⟩=some (.int .i64 0):=Oz.cell O3.out 2 (by decide)
  have z3:wr.cell? ⟨w.heap.size+1,3,none⟩=some (.int .i64 0):=Oz.cell O3.out 3 (by decide)
  have z4:wr.cell? ⟨w.heap.size+1,4,none⟩=some (.int .i64 0):=Oz.cell O3.out 4 (by decide)
  have z5:wr.cell? ⟨w.heap.size+1,5,none⟩=some (.slice none 0 0):=Oz.cell O3.out 5 (by decide)
  have z6:wr.cell? ⟨w.heap.size+1,6,none⟩=some (.slice none 0 0):=Oz.cell O3.out 6 (by decide)
  have z7:wr.cell? ⟨w.heap.size+1,7,none⟩=some (.slice none 0 0):=Oz.cell O3.out 7 (by decide)
  have zf1:=Oz.frozen O3.out 1
  have zf2:=Oz.frozen O3.out 2
  have zf3:=Oz.frozen O3.out 3
  have zf4:=Oz.frozen O3.out 4
  have zf5:=Oz.frozen O3.out 5
  have zf6:=Oz.frozen O3.out 6
  have zf7:=Oz.frozen O3.out 7
  have y0:wr.cell? ⟨w.heap.size,0,none⟩=some (.int .i64 0):=Oz.ry O3.out 0 (by decide)
  have y1:wr.cell? ⟨w.heap.size,1,none⟩=some (.int .i64 0):=Oz.ry O3.out 1 (by decide)
  have y2:wr.cell? ⟨w.heap.size,2,none⟩=some (.int .i64 0):=Oz.ry O3.out 2 (by decide)
  have y3:wr.cell? ⟨w.heap.size,3,none⟩=some (.int .i64 0):=Oz.ry O3.out 3 (by decide)
  have y4:wr.cell? ⟨w.heap.size,4,none⟩=some (.int .i64 0):=Oz.ry O3.out 4 (by decide)
  have y5:wr.cell? ⟨w.heap.size,5,none⟩=some (.slice none 0 0):=Oz.ry O3.out 5 (by decide)
  have y6:wr.cell? ⟨w.heap.size,6,none⟩=some (.slice none 0 0):=Oz.ry O3.out 6 (by decide)
  have y7:wr.cell? ⟨w.heap.size,7,none⟩=some (.slice none 0 0):=Oz.ry O3.out 7 (by decide)
  have g0:=Oz.rz O3.out 0
  have g1:=Oz.rz O3.out 1
  have g2:=Oz.rz O3.out 2
  have g3:=Oz.rz O3.out 3
  have g4:=Oz.rz O3.out 4
  have g5:=Oz.rz O3.out 5
  have g6:=Oz.rz O3.out 6
  have g7:=Oz.rz O3.out 7
  have hp1:=cell_lt z0
  have hp0:=cell_lt y0
  have k2:wr.cell? ⟨q,2,none⟩=some (.int .i64 cd):=Rs.cell (Oz.out_rs O3.out) 2 (by decide)
  have kl:=cell_lt k2
  have hx9:0≤x:=by omega
  go_wp2_with fail
  refine bodyPost_ret (v:=.agg #[.int .i64 op,.int .i64 0,.int .i64 0,.int .i64 0,.int .i64 0,.slice none 0 0,.slice none 0 0,.slice none 0 0]) (by simp [results,Tryz.results85,go_sem,y0,y1,y2,y3,y4,y5,y6,y7,hp0]) rfl ⟨rfl,Oz.done O3.out _ _ _ _ _ _ _ _⟩
