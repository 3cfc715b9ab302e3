import Derived.Test.YtngciahmoenkiaaGreatFM
import Derived.Test.YtngciahmoenkiaaGreatFS
import Derived.Test.YtngciahmoenkiaaGreatXP
import Derived.LoopTactic
set_option linter.unusedVariables false
set_option linter.unusedSimpArgs false
set_option maxRecDepth 100000
set_option maxHeartbeats 8000000
namespace Go.Proofs.YtngciahmoenkiaaGreat
open Go.RowKit
theorem spt_wr {Z:Nat→Prop} {w w':World} (h:Spt Z w w'):Wr Z w w':=⟨h.os,h.tape,h.output,h.size,h.drawn,h.block⟩
theorem Spt.sl {Z:Nat→Prop} {w w':World} (h:Spt Z w w') {k i n c:Nat} {A:Option Addr} (hc:w.cell? ⟨k,i,none⟩=some (.slice A n c)):w'.cell? ⟨k,i,none⟩=some (.slice A n c):=h.other hc (fun x e=>by cases e)
theorem spm_any {Z:Nat→Prop} {m:Md} (hm:MdOk m) {w:World} (hu:Unf Z w) (hz:∀k,Z k→k<w.heap.size) {LA:List Value} (hA:ModC Z w m LA) :
    Calls Tryz.prog 8 #[.agg LA.toArray] w fun e w'=>e=.returned (.tuple #[])∧Hid (Wr Z w w'):=by
 obtain⟨v0,v1,v2,v3,v4,v5,v6,v8,v9,v10,eA,⟨A0,a0,rfl,r0⟩,⟨A1,a1,rfl,r1⟩,⟨A2,a2,rfl,r2⟩,⟨A3,a3,rfl,r3⟩,⟨A4,a4,rfl,r4⟩,⟨A5,a5,rfl,r5⟩,⟨A6,a6,rfl,r6⟩,⟨A8,a8,rfl,r8⟩,⟨A9,a9,rfl,r9⟩,⟨A10,a10,rfl,r10⟩⟩:=hA
 subst eA
 have R0:Hid (Rt fTy Z w A0 m.ty):=r0
 have R1:Hid (Rt fIm Z w A1 m.im):=r1
 have R2:Hid (Rt f1 Z w A2 m.fu):=r2
 have R3:Hid (Rt fLi Z w A3 m.ta):=r3
 have R4:Hid (Rt fLi Z w A4 m.me):=r4
 have R5:Hid (Rt fGl Z w A5 m.gl):=r5
 have R6:Hid (Rt fEx Z w A6 m.ex):=r6
 have R8:Hid (Rt fEl Z w A8 m.el):=r8
 have R9:Hid (Rt fCo Z w A9 m.co):=r9
 have R10:Hid (Rt fDa Z w A10 m.da):=r10
 clear r0 r1 r2 r3 r4 r5 r6 r8 r9 r10
 replace hu:Hid (Unf Z w):=hu
 replace hz:Hid (∀k,Z k→k<w.heap.size):=hz
 go_enter Tryz.func8,Tryz.ntmps8
 go_wp2_with fail
 refine at_world fun W0 hW0=>?_
 have L0:Hid (Later w W0):=by rw [hW0];exact La (Lz _)
 have K0:Hid (W0.cell? ⟨w.heap.size,0,none⟩=some (.slice A0 m.ty.length a0)):=by show _=_;rw [hW0];simp [go_sem]
 have K2:Hid (W0.cell? ⟨w.heap.size,2,none⟩=some (.slice A2 m.fu.length a2)):=by show _=_;rw [hW0];simp [go_sem]
 have K5:Hid (W0.cell? ⟨w.heap.size,5,none⟩=some (.slice A5 m.gl.length a5)):=by show _=_;rw [hW0];simp [go_sem]
 have K8:Hid (W0.cell? ⟨w.heap.size,8,none⟩=some (.slice A8 m.el.length a8)):=by show _=_;rw [hW0];simp [go_sem]
 have K9:Hid (W0.cell? ⟨w.heap.size,9,none⟩=some (.slice A9 m.co.length a9)):=by show _=_;rw [hW0];simp [go_sem]
 clear hW0
 have u0:Hid (Unf Z W0):=fun k i hk _=>(World.frozen?_of_block (w:=w) (a:=⟨k,i,none⟩) (L0.out.block (hz.out k hk))).trans (hu.out k i hk (hz.out k hk))
 have z0:Hid (∀k,Z k→k<W0.heap.size):=fun k hk=>Nat.lt_of_lt_of_le (hz.out k hk) L0.out.size
 have S0:Hid (Spt Z W0 W0):=Spt.refl _ _
 have sI:Hid (∀(A:Option Addr) (n c:Nat),n≤1024→Nq Z W0 A n→∀W,Spt Z W0 W→Calls Tryz.prog 20 #[.slice A n c] W fun e w'=>e=.returned (.tuple #[])∧Hid (Spt Z W w')):=fun A n c hn hq W h=>spI_any A n c (by omega) W (Unf.spt h u0.out z0.out) (fun k hk=>Nat.lt_of_lt_of_le (z0.out k hk) h.size) (Nq.spt h hq)
 have sF:Hid (∀(A:Option Addr) (f:Fs) (c:Nat),Fok f→Sq Z W0 A f→∀W,Spt Z W0 W→Calls Tryz.prog 21 #[.slice A f.len c] W fun e w'=>e=.returned (.tuple #[])∧Hid (Spt Z W w')):=fun A f c hf hq W h=>spoilI_any _ f (Nat.le_refl _) hf.1 hf.2 Z W A c (Unf.spt h u0.out z0.out) (fun k hk=>Nat.lt_of_lt_of_le (z0.out k hk) h.size) (Sq.spt h hq)
 obtain⟨n0,hn0⟩:∃n,n=m.ty.length:=⟨_,rfl⟩
 have hb0:n0≤1024:=by rw [hn0];exact hm.ty.1
 rw [←hn0] at K0
 try rw [←hn0]
 replace hn0:Hid (n0=m.ty.length):=hn0
 go_loopw [2] (fun i wr=>∃d:Nat,d≤n0∧i=.int .i64 (d:Int)∧Spt Z W0 wr) (fun i _=>n0 - (intOf i).toNat)
 case atStart=>exact⟨0,Nat.zero_le _,rfl,S0.out⟩
 case round =>
  obtain⟨d,hd,rfl,hS⟩:=hrel
  have k0:=hS.sl K0.out
  have lt0:=cell_lt k0
  by_cases hlt:d<n0
  · have hl1:(d:Int)<(n0:Int):=by omega
    have hdm:d<m.ty.length:=by rw [←hn0.out];exact hlt
    obtain⟨g,o,c,rfl,hzg,hc,hi⟩:=Rt.at (f:=fTy) 2 (fun _=>rfl) (Rt.later (f:=fTy) (fun _=>Nat.succ_pos _) L0.out R0.out) d hdm
    have hx:=hm.ty.2 _ (List.getElem_mem hdm)
    generalize m.ty[d]=x at *
    obtain⟨x0,x1⟩:=x
    obtain⟨v0,d0,rfl,⟨P0,pp0,f0,hP0⟩,v1,d1,rfl,⟨P1,pp1,f1,hP1⟩,f9⟩:=hi
    subst f0 f1
    have P0c:Hid (W0.cell? _=_):=hc 0 _ rfl
    have s0:Hid _:=sI.out P0 x0.length pp0 hx.1 (Lq.nq hP0)
    have P1c:Hid (W0.cell? _=_):=hc 1 _ rfl
    have s1:Hid _:=sI.out P1 x1.length pp1 hx.2 (Lq.nq hP1)
    clear f9 hc hzg hdm hx hP0 hP1
    replace hS:Hid (Spt Z W0 wr):=hS
    have p0:=Spt.sl hS.out P0c.out
    try simp only [Nat.add_zero] at p0
    go_wp2_with fail
    refine (s0.out _ (hS.out)).mono ?_
    clear s0
    rintro e y0 ⟨rfl,h0⟩
    have S01:Hid (Spt Z W0 y0):=(hS.out).trans h0.out
    have p1:=Spt.sl S01.out P1c.out
    try simp only [Nat.add_zero] at p1
    have kk1:=Spt.sl S01.out K0.out
    have ll1:=cell_lt kk1
    go_wp2_with fail
    refine (s1.out _ (S01.out)).mono ?_
    clear s1
    rintro e y1 ⟨rfl,h1⟩
    have S11:Hid (Spt Z W0 y1):=(S01.out).trans h1.out
    go_wp2_with fail
    refine⟨⟨d+1,by omega,by simp,S11.out⟩,?_⟩
    simp [intOf]
    omega
  · have hde:d=n0:=by omega
    subst hde
    clear hn0 hb0 hd hlt R0
    rename World=>w1
    have S0n:Hid (Spt Z W0 w1):=hS
    clear hS
    have k2:=Spt.sl S0n.out K2.out
    have lt2:=cell_lt k2
    go_wp2_with fail
    have f0:Hid _:=sI.out A2 m.fu.length a2 hm.fu (Lq.nq (Lq.later (Rt.lq R2.out) L0.out))
    refine (f0.out _ S0n.out).mono ?_
    clear f0
    rintro e w2 ⟨rfl,h2⟩
    have S1:Hid (Spt Z W0 w2):=S0n.out.trans h2.out
    clear h2 k2
    have q5:=Spt.sl S1.out K5.out
    have lq5:=cell_lt q5
    go_wp2_with fail
    obtain⟨n5,hn5⟩:∃n,n=m.gl.length:=⟨_,rfl⟩
    have hb5:n5≤1024:=by rw [hn5];exact hm.gl.1
    rw [←hn5] at K5
    try rw [←hn5]
    replace hn5:Hid (n5=m.gl.length):=hn5
    go_loopw [3] (fun i wr=>∃d:Nat,d≤n5∧i=.int .i64 (d:Int)∧Spt Z W0 wr) (fun i _=>n5 - (intOf i).toNat)
    case atStart=>exact⟨0,Nat.zero_le _,rfl,S1.out⟩
    case round =>
     obtain⟨d,hd,rfl,hS⟩:=hrel
     have k5:=hS.sl K5.out
     have lt0:=cell_lt k5
     by_cases hlt:d<n5
     · have hl1:(d:Int)<(n5:Int):=by omega
       have hdm:d<m.gl.length:=by rw [←hn5.out];exact hlt
       obtain⟨g,o,c,rfl,hzg,hc,hi⟩:=Rt.at (f:=fGl) 3 (fun _=>rfl) (Rt.later (f:=fGl) (fun _=>Nat.succ_pos _) L0.out R5.out) d hdm
       have hx:=hm.gl.2 _ (List.getElem_mem hdm)
       generalize m.gl[d]=x at *
       obtain⟨x0,x1,x2⟩:=x
       obtain⟨v0,d0,rfl,f0,v1,d1,rfl,f1,v2,d2,rfl,⟨P2,pp2,f2,hP2⟩,f9⟩:=hi
       have f0:v0=.int .i64 x0:=f0
       have f1:v1=.bool x1:=f1
       subst f0 f1 f2
       have P2c:Hid (W0.cell? _=_):=hc 2 _ rfl
       have s2:Hid _:=sF.out P2 x2 pp2 hx (Tr.sq hP2)
       clear f9 hc hzg hdm hx hP2
       replace hS:Hid (Spt Z W0 wr):=hS
       have p2:=Spt.sl hS.out P2c.out
       try simp only [Nat.add_zero] at p2
       go_wp2_with fail
       refine (s2.out _ (hS.out)).mono ?_
       clear s2
       rintro e y0 ⟨rfl,h0⟩
       have S01:Hid (Spt Z W0 y0):=(hS.out).trans h0.out
       go_wp2_with fail
       refine⟨⟨d+1,by omega,by simp,S01.out⟩,?_⟩
       simp [intOf]
       omega
     · have hde:d=n5:=by omega
       subst hde
       clear hn5 hb5 hd hlt R5
       rename World=>w3
       have S1n:Hid (Spt Z W0 w3):=hS
       clear hS
       have q8:=Spt.sl S1n.out K8.out
       have lq8:=cell_lt q8
       go_wp2_with fail
       obtain⟨n8,hn8⟩:∃n,n=m.el.length:=⟨_,rfl⟩
       have hb8:n8≤1024:=by rw [hn8];exact hm.el.1
       rw [←hn8] at K8
       try rw [←hn8]
       replace hn8:Hid (n8=m.el.length):=hn8
       go_loopw [4] (fun i wr=>∃d:Nat,d≤n8∧i=.int .i64 (d:Int)∧Spt Z W0 wr) (fun i _=>n8 - (intOf i).toNat)
       case atStart=>exact⟨0,Nat.zero_le _,rfl,S1n.out⟩
       case round =>
        obtain⟨d,hd,rfl,hS⟩:=hrel
        have k8:=hS.sl K8.out
        have lt0:=cell_lt k8
        by_cases hlt:d<n8
        · have hl1:(d:Int)<(n8:Int):=by omega
          have hdm:d<m.el.length:=by rw [←hn8.out];exact hlt
          obtain⟨g,o,c,rfl,hzg,hc,hi⟩:=Rt.at (f:=fEl) 2 (fun _=>rfl) (Rt.later (f:=fEl) (fun _=>Nat.succ_pos _) L0.out R8.out) d hdm
          have hx:=hm.el.2 _ (List.getElem_mem hdm)
          generalize m.el[d]=x at *
          obtain⟨x0,x1⟩:=x
          obtain⟨v0,d0,rfl,⟨P0,pp0,f0,hP0⟩,v1,d1,rfl,⟨P1,pp1,f1,hP1⟩,f9⟩:=hi
          subst f0 f1
          have P0c:Hid (W0.cell? _=_):=hc 0 _ rfl
          have s0:Hid _:=sF.out P0 x0 pp0 hx.1 (Tr.sq hP0)
          have P1c:Hid (W0.cell? _=_):=hc 1 _ rfl
          have s1:Hid _:=sI.out P1 x1.length pp1 hx.2 (Lq.nq hP1)
          clear f9 hc hzg hdm hx hP0 hP1
          replace hS:Hid (Spt Z W0 wr):=hS
          have p0:=Spt.sl hS.out P0c.out
          try simp only [Nat.add_zero] at p0
          go_wp2_with fail
          refine (s0.out _ (hS.out)).mono ?_
          clear s0
          rintro e y0 ⟨rfl,h0⟩
          have S01:Hid (Spt Z W0 y0):=(hS.out).trans h0.out
          have p1:=Spt.sl S01.out P1c.out
          try simp only [Nat.add_zero] at p1
          have kk1:=Spt.sl S01.out K8.out
          have ll1:=cell_lt kk1
          go_wp2_with fail
          refine (s1.out _ (S01.out)).mono ?_
          clear s1
          rintro e y1 ⟨rfl,h1⟩
          have S11:Hid (Spt Z W0 y1):=(S01.out).trans h1.out
          go_wp2_with fail
          refine⟨⟨d+1,by omega,by simp,S11.out⟩,?_⟩
          simp [intOf]
          omega
        · have hde:d=n8:=by omega
          subst hde
          clear hn8 hb8 hd hlt R8
          rename World=>w4
          have S1nn:Hid (Spt Z W0 w4):=hS
          clear hS
          have q9:=Spt.sl S1nn.out K9.out
          have lq9:=cell_lt q9
          go_wp2_with fail
          obtain⟨n9,hn9⟩:∃n,n=m.co.length:=⟨_,rfl⟩
          have hb9:n9≤1024:=by rw [hn9];exact hm.co.1
          rw [←hn9] at K9
          try rw [←hn9]
          replace hn9:Hid (n9=m.co.length):=hn9
          go_loopw [5] (fun i wr=>∃d:Nat,d≤n9∧i=.int .i64 (d:Int)∧Spt Z W0 wr) (fun i _=>n9 - (intOf i).toNat)
          case atStart=>exact⟨0,Nat.zero_le _,rfl,S1nn.out⟩
          case round =>
           obtain⟨d,hd,rfl,hS⟩:=hrel
           have k9:=hS.sl K9.out
           have lt0:=cell_lt k9
           by_cases hlt:d<n9
           · have hl1:(d:Int)<(n9:Int):=by omega
             have hdm:d<m.co.length:=by rw [←hn9.out];exact hlt
             obtain⟨g,o,c,rfl,hzg,hc,hi⟩:=Rt.at (f:=fCo) 2 (fun _=>rfl) (Rt.later (f:=fCo) (fun _=>Nat.succ_pos _) L0.out R9.out) d hdm
             have hx:=hm.co.2 _ (List.getElem_mem hdm)
             generalize m.co[d]=x at *
             obtain⟨x0,x1⟩:=x
             obtain⟨v0,d0,rfl,⟨P0,pp0,f0,hP0⟩,v1,d1,rfl,⟨P1,pp1,f1,hP1⟩,f9⟩:=hi
             subst f0 f1
             have P0c:Hid (W0.cell? _=_):=hc 0 _ rfl
             have s0:Hid _:=sI.out P0 x0.length pp0 hx.1 (Lq.nq hP0)
             have P1c:Hid (W0.cell? _=_):=hc 1 _ rfl
             have s1:Hid _:=sF.out P1 x1 pp1 hx.2 (Tr.sq hP1)
             clear f9 hc hzg hdm hx hP0 hP1
             replace hS:Hid (Spt Z W0 wr):=hS
             have p0:=Spt.sl hS.out P0c.out
             try simp only [Nat.add_zero] at p0
             go_wp2_with fail
             refine (s0.out _ (hS.out)).mono ?_
             clear s0
             rintro e y0 ⟨rfl,h0⟩
             have S01:Hid (Spt Z W0 y0):=(hS.out).trans h0.out
             have p1:=Spt.sl S01.out P1c.out
             try simp only [Nat.add_zero] at p1
             have kk1:=Spt.sl S01.out K9.out
             have ll1:=cell_lt kk1
             go_wp2_with fail
             refine (s1.out _ (S01.out)).mono ?_
             clear s1
             rintro e y1 ⟨rfl,h1⟩
             have S11:Hid (Spt Z W0 y1):=(S01.out).trans h1.out
             go_wp2_with fail
             refine⟨⟨d+1,by omega,by simp,S11.out⟩,?_⟩
             simp [intOf]
             omega
           · have hde:d=n9:=by omega
             subst hde
             clear hn9 hb9 hd hlt R9
             rename World=>w5
             have S1nnn:Hid (Spt Z W0 w5):=hS
             clear hS
             go_wp2_with fail
             go_end0
             exact⟨rfl,(Wr.of_later L0.out).trans (spt_wr S1nnn.out)⟩
