import Derived.Test.YtngciahmoenkiaaGreatXW
set_option linter.unusedVariables false
set_option linter.unusedSimpArgs false
set_option maxRecDepth 100000
set_option maxHeartbeats 4000000
namespace Go.Proofs.YtngciahmoenkiaaGreat
open Go.RowKit
variable {q p:Nat} {w wr wr':World} {s:ByteArray} {st st':Sst} {L:List Value}
def snil (x:Int) (st:Sst):Sst:=if x=0 then st else sfail st 1506
theorem snil_in {x:Int} (h:Sin s st):Sin s (snil x st):=by
 unfold snil
 split
 · exact h
 · exact sfail_in h _
def snums (s:ByteArray) (st:Sst):List Int×Sst:=srep (snum s) (smany s 1024 st).1.toNat (smany s 1024 st).2
theorem snums_in (h:Sin s st):Sin s (snums s st).2:=srep_in (snum s) (fun _ h=>snum_in h) _ _ (smany_in h _)
def selm (s:ByteArray) (st:Sst):(Fs×List Int)×Sst:=(((sinstrs s (snil (snum s st).1 (snum s st).2)).1,(snums s (sinstrs s (snil (snum s st).1 (snum s st).2)).2).1),(snums s (sinstrs s (snil (snum s st).1 (snum s st).2)).2).2)
theorem selm_in (h:Sin s st):Sin s (selm s st).2:=snums_in (sinstrs_in (snil_in (snum_in h)))
def selms (s:ByteArray) (st:Sst):List (Fs×List Int)×Sst:=srep (selm s) (smany s 1024 st).1.toNat (smany s 1024 st).2
theorem selms_in (h:Sin s st):Sin s (selms s st).2:=srep_in (selm s) (fun _ h=>selm_in h) _ _ (smany_in h _)
theorem slast9 (hs:s.size<9223372036854775000) (hin:Sin s st) (hp:p<w.heap.size) (hpq:p≠q) (hlen:L.length=11) (hj:L[8]?=some (.slice none 0 0)) (h:w.rowIs q 48 3 (sF s st)) (hR:Rl w p 32 L) :
    Calls Tryz.prog 15 #[.pointer (some ⟨q,0,none⟩),.int .i64 9,.pointer (some ⟨p,0,none⟩)] w fun e' w'=>e'=.returned (.tuple #[])∧Hid (Sd fEl q p 8 w w' s L (selms s st)):=by
 have hq:=h.lt
 have hm:Hid (Calls Tryz.prog 27 #[.pointer (some ⟨q,0,none⟩),.int .i64 1024] w fun e' w'=>e'=.returned (.int .i64 (smany s 1024 st).1)∧Hid (Ss q w w' s (smany s 1024 st).2)):=smany_any hs 1024 w h
 have hr:=smany_rng (s:=s) (st:=st) (m:=1024) (by decide)
 have hi1:=smany_in hin 1024
 have M0:Ms q p w w s st L:=⟨Wr.refl _ _,h,hR⟩
 unfold selms
 generalize smany s 1024 st=K at *
 obtain⟨k0,st1⟩:=K
 simp only [] at hm hr hi1 ⊢
 obtain⟨k,rfl⟩:=Int.eq_ofNat_of_zero_le hr.1
 rw [Int.toNat_natCast]
 have hk:k≤1024:=by omega
 have hj2:8<L.length:=by omega
 replace hi1:Hid (Sin s st1):=hi1
 replace M0:Hid (Ms q p w w s st L):=M0
 replace hj:Hid (L[8]?=some (.slice none 0 0)):=hj
 clear hin h hr hR
 go_enter Tryz.func15,Tryz.ntmps15
 go_wp2_with (go_at_call 27;refine hm.out.mono ?_;rintro e1 w1 ⟨rfl,R1⟩)
 go_loopw [13] (fun i wr=>∃(d:List (Fs×List Int)) (st2:Sst) (A:Option Addr) (cap:Nat),i=.int .i64 (d.length:Nat)∧d.length≤k∧Lo fEl 60 2 q p 8 w wr s st2 L (.slice A d.length cap) d∧Sin s st2∧srep (selm s) k st1=(d++(srep (selm s) (k - d.length) st2).1,(srep (selm s) (k - d.length) st2).2)) (fun i _=>k - (intOf i).toNat)
 case atStart=>exact⟨[],st1,none,0,rfl,Nat.zero_le _,Lo.start (M0.out.ss R1.out hpq) hj.out,hi1.out,rfl⟩
 case round =>
  obtain⟨d,⟨a2,cd⟩,A,cap,rfl,hd,hM,hi2,htot⟩:=hrel
  have c2:wr.cell? ⟨q,2,none⟩=some (.int .i64 cd):=hM.1.2.1.cell (i:=2) (by decide)
  have hl:=cell_lt c2
  have c3:wr.cell? ⟨p,8,none⟩=some (.slice A d.length cap):=hM.cell hj2
  have hl3:=cell_lt c3
  clear M0 hj hm hi1 R1
  by_cases hlt:d.length<k
  · have hl1:(d.length:Int)<(k:Int):=by omega
    by_cases hc:cd=0
    · subst hc
      obtain⟨m,hm2⟩:∃m,k - d.length=m+1:=⟨k - d.length - 1,by omega⟩
      rw [hm2,srep_ok _ _ _ rfl] at htot
      simp only [selm] at htot
      obtain⟨wo,hwo⟩:∃wo,wo=wr:=⟨wr,rfl⟩
      subst hwo
      have hS0:Hid (Ss q wo wo s ⟨a2,0⟩):=⟨Wr.refl _ _,hM.1.2.1⟩
      have h1:Hid (∀W,W.rowIs q 48 3 (sF s ⟨a2,0⟩)→Calls Tryz.prog 31 #[.pointer (some ⟨q,0,none⟩)] W fun e' w'=>e'=.returned (.int .i64 (snum s ⟨a2,0⟩).1)∧Hid (Ss q W w' s (snum s ⟨a2,0⟩).2)):=fun W hW=>snum_any hs W hW
      have j1:=snum_in hi2
      generalize snum s ⟨a2,0⟩=Kst4 at *
      obtain⟨x,st4⟩:=Kst4
      simp only [] at h1 j1 htot
      have hf:Hid (∀W,W.rowIs q 48 3 (sF s st4)→Calls Tryz.prog 16 #[.pointer (some ⟨q,0,none⟩),.int .i64 1506] W fun e' w'=>e'=.returned (.tuple #[])∧Hid (Ss q W w' s (sfail st4 1506))):=fun W hW=>sfail_any 1506 W hW
      have j2:Sin s (snil x st4):=snil_in j1
      obtain⟨st5,hst5⟩:∃S,S=snil x st4:=⟨_,rfl⟩
      rw [←hst5] at htot j2
      have h3:Hid (∀W,W.rowIs q 48 3 (sF s st5)→Calls Tryz.prog 35 #[.pointer (some ⟨q,0,none⟩)] W fun e' w'=>∃A c,e'=.returned (.slice A (sinstrs s st5).1.len c)∧Hid (Tr (W.heap.size≤·) w' A (sinstrs s st5).1)∧Hid (Ss q W w' s (sinstrs s st5).2)):=fun W hW=>sinstrs_any hs W hW
      have j3:=sinstrs_in j2
      generalize sinstrs s st5=Kst6 at *
      obtain⟨fb,st6⟩:=Kst6
      simp only [] at h3 j3 htot
      have hi3:=snums_in j3
      obtain⟨⟨l2,st3⟩,htt⟩:∃X,snums s st6=X:=⟨_,rfl⟩
      rw [htt] at htot hi3
      simp only [] at htot hi3
      unfold snums at htt
      have h4:Hid (∀W,W.rowIs q 48 3 (sF s st6)→Calls Tryz.prog 27 #[.pointer (some ⟨q,0,none⟩),.int .i64 1024] W fun e' w'=>e'=.returned (.int .i64 (smany s 1024 st6).1)∧Hid (Ss q W w' s (smany s 1024 st6).2)):=fun W hW=>smany_any hs 1024 W hW
      have hr4:=smany_rng (s:=s) (st:=st6) (m:=1024) (by decide)
      have j4:=smany_in j3 1024
      generalize smany s 1024 st6=K7 at *
      obtain⟨k7,st7⟩:=K7
      simp only [] at h4 hr4 j4 htt
      obtain⟨mn,rfl⟩:=Int.eq_ofNat_of_zero_le hr4.1
      rw [Int.toNat_natCast] at htt
      have hmn:mn≤1024:=by omega
      have hst:Hid (∀w3 A1 n1 A2 n2,Tr (wo.heap.size≤·) w3 A1 fb→Lq (wo.heap.size≤·) w3 A2 l2→Ss q wo w3 s st3→∃g cap' w',(Builtin.append_ #[28,28] 28 #[.slice A d.length cap,.slice (some ⟨w3.heap.size,0,none⟩) 1 1]).run Tryz.prog (w3.alloc (.cells #[.slice A1 fb.len n1,.slice A2 l2.length n2] 60))=.ok (.slice (some ⟨g,0,none⟩) (d.length+1) cap') w'∧(w3.cell? ⟨p,8,none⟩=some (.slice A d.length cap)∧p<w3.heap.size)∧(w'.cell? ⟨p,8,none⟩=some (.slice A d.length cap)∧w'.frozen? ⟨p,8,none⟩=false∧p<w'.heap.size)∧Lo fEl 60 2 q p 8 w (w'.setCell ⟨p,8,none⟩ (.slice (some ⟨g,0,none⟩) (d.length+1) cap')) s st3 L (.slice (some ⟨g,0,none⟩) (d.length+1) cap') (d++[(fb,l2)])) :=
       fun w3 A1 n1 A2 n2 q1 q2 R3=>hM.more hq hp hpq hj2 ti_elm 28 ((fb,l2)) rfl [.slice A1 fb.len n1,.slice A2 l2.length n2] (by omega) (by omega) R3 ⟨_,_,rfl,⟨A1,n1,rfl,q1⟩,_,_,rfl,⟨A2,n2,rfl,q2⟩,rfl⟩
      have hfin:Hid (d.length+1≤k∧Sin s st3∧srep (selm s) k st1=((d++[(fb,l2)])++(srep (selm s) (k - (d++[(fb,l2)]).length) st3).1,(srep (selm s) (k - (d++[(fb,l2)]).length) st3).2)):=by
       refine⟨hlt,hi3,?_⟩
       rw [show k - (d++[(fb,l2)]).length=m by rw [List.length_append,List.length_singleton];omega,htot,List.append_assoc]
       rfl
      replace j4:Hid (Sin s st7):=j4
      replace htt:Hid (srep (snum s) mn st7=(l2,st3)):=htt
      clear htot hM hi2 hi3 hm2 hd j1 j2 j3 hr4
      by_cases hov:x=0
      · subst hov
        have hst6:st5=st4:=hst5.trans (if_pos rfl)
        subst hst6
        clear hf hst5
        go_wp2_with fail
        refine (h1.out _ hS0.out.2).mono ?_
        rintro e1 w1 ⟨rfl,R1⟩
        have C1:Hid (Ss q wo w1 s st5):=hS0.out.trans R1.out
        have z1:wo.heap.size≤w1.heap.size:=R1.out.size
        clear R1
        go_wp2_with fail
        refine (h3.out _ C1.out.2).mono ?_
        rintro e2 w2 ⟨A1,n1,rfl,q1,R2⟩
        have C2:Hid (Ss q wo w2 s st6):=C1.out.trans R2.out
        have z2:w1.heap.size≤w2.heap.size:=R2.out.size
        have hpt:wo.heap.size≤w2.heap.size:=by omega
        clear R2
        have V0:Hid (Wr (·=q) w2 w2):=Wr.refl _ _
        go_wp2_with fail
        have D1:Hid (Ss q wo (w2.alloc (.cells #[.slice A1 fb.len n1,.slice none 0 0] 60)) s st6):=C2.out.later (La (Lz _))
        have Et1:Hid (Rl (w2.alloc (.cells #[.slice A1 fb.len n1,.slice none 0 0] 60)) w2.heap.size 60 [.slice A1 fb.len n1,.slice none 0 0]):=row_new w2 60 [.slice A1 fb.len n1,.slice none 0 0]
        have V_2:Hid (Wr (·=q) w2 (w2.alloc (.cells #[.slice A1 fb.len n1,.slice none 0 0] 60))):=V0.out.ltr (La (Lz _))
        refine (h4.out _ D1.out.2).mono ?_
        rintro e3 w3 ⟨rfl,R3⟩
        have C3:Hid (Ss q wo w3 s st7):=D1.out.trans R3.out
        have Bt3:Hid (Rl w3 w2.heap.size 60 [.slice A1 fb.len n1,.slice none 0 0]):=Et1.out.wr R3.out.1 (fun e=>by have e:w2.heap.size=q:=e;have:=hpt;omega)
        have V_3:Hid (Wr (·=q) w2 w3):=V_2.out.trans R3.out.1
        have z3:w2.heap.size+1≤w3.heap.size:=by have:=R3.out.size;simpa using this
        clear R3
        have c5:wo.cell? ⟨p,8,none⟩=some (.slice A d.length cap):=c3
        clear c2 c3 hl3 h1 h3 h4
        go_wp2_with fail
        go_loopw [16] (fun j wi=>∃(d2:List Int) (st8:Sst) (A2:Option Addr) (n2:Nat),j=.int .i64 (d2.length:Nat)∧d2.length≤mn∧Mk f1 (w2.heap.size+1) 3 1 wi (.slice A2 d2.length n2) d2∧Rl wi w2.heap.size 60 [.slice A1 fb.len n1,.slice A2 d2.length n2]∧Ss q wo wi s st8∧Wr (fun k=>k=q∨w2.heap.size≤k) w2 wi∧w2.heap.size+1≤wi.heap.size∧Sin s st8∧srep (snum s) mn st7=(d2++(srep (snum s) (mn - d2.length) st8).1,(srep (snum s) (mn - d2.length) st8).2)) (fun j _=>mn - (intOf j).toNat)
        case atStart=>exact⟨[],st7,none,0,rfl,Nat.zero_le _,Mk.start _,Bt3.out,C3.out,(V_3.out.mono (fun j _ e=>Or.inl e)),z3,j4.out,rfl⟩
        case round =>
         obtain⟨d2,⟨a8,cd8⟩,A2,n2,rfl,hd2,hM2,hX2,R8,V8,hB8,hi8,ht8⟩:=hrel
         have k2:wr.cell? ⟨q,2,none⟩=some (.int .i64 cd8):=R8.cell 2 (by decide)
         have k3:=cell_lt k2
         have x1:wr.cell? ⟨w2.heap.size,1,none⟩=some (.slice A2 d2.length n2):=hX2.cell 1 rfl
         have x2:=cell_lt x1
         replace c5:Hid (wo.cell? ⟨p,8,none⟩=some (.slice A d.length cap)):=c5
         clear j4 Bt3 C3 V_3
         by_cases hlt2:d2.length<mn
         · have hm1:(d2.length:Int)<(mn:Int):=by omega
           by_cases hc8:cd8=0
           · subst hc8
             have hx:Hid (∀W,W.rowIs q 48 3 (sF s ⟨a8,0⟩)→Calls Tryz.prog 31 #[.pointer (some ⟨q,0,none⟩)] W fun e' w'=>e'=.returned (.int .i64 (snum s ⟨a8,0⟩).1)∧Hid (Ss q W w' s (snum s ⟨a8,0⟩).2)):=fun W hW=>snum_any hs W hW
             obtain⟨m2,hm2⟩:∃m2,mn - d2.length=m2+1:=⟨mn - d2.length - 1,by omega⟩
             rw [hm2,srep_ok _ _ _ rfl] at ht8
             have hi9:=snum_in hi8
             generalize snum s ⟨a8,0⟩=K9 at *
             obtain⟨y,st9⟩:=K9
             simp only [] at hx ht8 hi9
             have hS8:Hid (Ss q wr wr s ⟨a8,0⟩):=⟨Wr.refl _ _,R8.2⟩
             have hgr:Hid (∀wx,Ss q wr wx s st9→∃g cap' w',(Builtin.append_ #[24,24] 24 #[.slice A2 d2.length n2,.slice (some ⟨wx.heap.size,0,none⟩) 1 1]).run Tryz.prog (wx.alloc (.cells #[.int .i64 y] 3))=.ok (.slice (some ⟨g,0,none⟩) (d2.length+1) cap') w'∧(wx.cell? ⟨w2.heap.size,1,none⟩=some (.slice A2 d2.length n2)∧w2.heap.size<wx.heap.size)∧(w'.cell? ⟨w2.heap.size,1,none⟩=some (.slice A2 d2.length n2)∧w'.frozen? ⟨w2.heap.size,1,none⟩=false∧w2.heap.size<w'.heap.size)∧(Mk f1 (w2.heap.size+1) 3 1 (w'.setCell ⟨w2.heap.size,1,none⟩ (.slice (some ⟨g,0,none⟩) (d2.length+1) cap')) (.slice (some ⟨g,0,none⟩) (d2.length+1) cap') (d2++[y])∧Rl (w'.setCell ⟨w2.heap.size,1,none⟩ (.slice (some ⟨g,0,none⟩) (d2.length+1) cap')) w2.heap.size 60 [.slice A1 fb.len n1,.slice (some ⟨g,0,none⟩) (d2.length+1) cap']∧Ss q wo (w'.setCell ⟨w2.heap.size,1,none⟩ (.slice (some ⟨g,0,none⟩) (d2.length+1) cap')) s st9∧Wr (fun k=>k=q∨w2.heap.size≤k) w2 (w'.setCell ⟨w2.heap.size,1,none⟩ (.slice (some ⟨g,0,none⟩) (d2.length+1) cap'))∧w2.heap.size+1≤(w'.setCell ⟨w2.heap.size,1,none⟩ (.slice (some ⟨g,0,none⟩) (d2.length+1) cap')).heap.size)):=by
              intro wx R9
              obtain⟨g,cap',w',r,M',W'⟩:=hM2.grow hB8 ti_int 24 y rfl [.int .i64 y] (by omega) (by omega) R9.1 (fun j e=>by have e:j=q:=e;omega) ⟨_,[],rfl,rfl,rfl⟩
              have X3:=hX2.wr R9.1 (fun e=>by have e:w2.heap.size=q:=e;omega)
              have X4:=X3.wr W' (fun e=>by have e:w2.heap.size+1≤w2.heap.size:=e;omega)
              refine⟨g,cap',w',r,⟨X3.cell 1 rfl,X3.lt⟩,⟨X4.cell 1 rfl,X4.frozen 1,X4.lt⟩,M'.wr ((Wr.refl (fun i=>i<w2.heap.size+1) w').low 1 _ (Nat.lt_succ_self _)) (fun _ e=>e),X4.set 1 _,((R8.trans R9).above W' (by omega) (by omega)).put hpt hl 1 _,?_,?_⟩
              · refine Wr.set ?_ 1 _ (Or.inl (Or.inr (Nat.le_refl _)))
                exact (V8.trans (R9.1.mono (fun j _ e=>Or.inl e))).trans (W'.mono (fun j _ e=>Or.inr (by have e:w2.heap.size+1≤j:=e;omega)))
              · have:=W'.size
                have:=R9.size
                simp [World.setCell]
                omega
             have hf2:Hid (d2.length+1≤mn∧Sin s st9∧srep (snum s) mn st7=((d2++[y])++(srep (snum s) (mn - (d2++[y]).length) st9).1,(srep (snum s) (mn - (d2++[y]).length) st9).2)):=by
              refine⟨hlt2,hi9,?_⟩
              rw [show mn - (d2++[y]).length=m2 by rw [List.length_append,List.length_singleton];omega,ht8,List.append_assoc]
              rfl
             clear ht8 hM2 hX2 R8 V8 hi8 hi9 hm2 hst hfin htt q1 c5 hd2
             go_wp2_with fail
             go_region_law (first|(refine step_app (by rfl) _ _ 24 (by rfl) _ _ _ (by rfl) (by rfl) r2.out ?_)|(go_simp;go_at_call 31;refine (hx.out _ (hS8.out.later (Ld (Lz _))).2).mono ?_;rintro e wx ⟨rfl,R3⟩;obtain⟨g,cap',w',r2,⟨t0,t1⟩,⟨t2,t3,t4⟩,hnx⟩:=hgr.out wx ((hS8.out.later (Ld (Lz _))).trans R3.out);replace r2:Hid _:=r2;replace hnx:Hid (Mk f1 (w2.heap.size+1) 3 1 (w'.setCell ⟨w2.heap.size,1,none⟩ (.slice (some ⟨g,0,none⟩) (d2.length+1) cap')) (.slice (some ⟨g,0,none⟩) (d2.length+1) cap') (d2++[y])∧Rl (w'.setCell ⟨w2.heap.size,1,none⟩ (.slice (some ⟨g,0,none⟩) (d2.length+1) cap')) w2.heap.size 60 [.slice A1 fb.len n1,.slice (some ⟨g,0,none⟩) (d2.length+1) cap']∧Ss q wo (w'.setCell ⟨w2.heap.size,1,none⟩ (.slice (some ⟨g,0,none⟩) (d2.length+1) cap')) s st9∧Wr (fun k=>k=q∨w2.heap.size≤k) w2 (w'.setCell ⟨w2.heap.size,1,none⟩ (.slice (some ⟨g,0,none⟩) (d2.length+1) cap'))∧w2.heap.size+1≤(w'.setCell ⟨w2.heap.size,1,none⟩ (.slice (some ⟨g,0,none⟩) (d2.length+1) cap')).heap.size):=hnx))
             all_goals
              clear hgr hx hS8
              go_wp2_with fail
              go_roundw
              case rel=>exact⟨d2++[y],st9,some ⟨g,0,none⟩,cap',by rw [List.length_append];go_num,by rw [List.length_append];exact hf2.out.1,by rw [List.length_append];exact hnx.out.1,by rw [List.length_append];exact hnx.out.2.1,hnx.out.2.2.1,hnx.out.2.2.2.1,hnx.out.2.2.2.2,hf2.out.2⟩
              case measure=>simp [intOf];omega
           · have hc9:(cd8==0)=false:=beq_false hc8
             rw [srep_bad (snum s) (mn - d2.length) ⟨a8,cd8⟩ hc8,List.append_nil] at ht8
             have hE:(d2,(⟨a8,cd8⟩:Sst))=(l2,st3):=ht8.symm.trans htt.out
             have e1:d2=l2:=congrArg Prod.fst hE
             have e2:(⟨a8,cd8⟩:Sst)=st3:=congrArg Prod.snd hE
             rw [e1] at hM2 hX2 x1
             rw [e2] at R8
             have x0:wr.cell? ⟨w2.heap.size,0,none⟩=some (.slice A1 fb.len n1):=hX2.cell 0 rfl
             have c6:wr.cell? ⟨p,8,none⟩=some (.slice A d.length cap):=R8.keep hpq c5.out
             have c7:=cell_lt c6
             have y1:p≠w2.heap.size:=by have:=cell_lt c5.out;omega
             have q3:Tr (wo.heap.size≤·) (World.drew wr) A1 fb:=((q1.out.keep (fun j hj hl=>V8.block j hl (fun e=>by have hj:w1.heap.size≤j:=hj;rcases e with e|e <;> omega))).mono (fun j hj=>by have hj:w1.heap.size≤j:=hj;show wo.heap.size≤j;omega)).later (Ld (Lz _))
             have q4:Lq (wo.heap.size≤·) (World.drew wr) A2 l2:=(hM2.rt.lq.mono (fun j hj=>by have hj:w2.heap.size+1≤j:=hj;show wo.heap.size≤j;omega)).later (Ld (Lz _))
             obtain⟨g,cap',w',r2,⟨t0,t1⟩,⟨t2,t3,t4⟩,hnx⟩:=hst.out (World.drew wr) A1 n1 A2 n2 q3 q4 (R8.later (Ld (Lz _)))
             rw [show (World.drew wr).heap.size=wr.heap.size from rfl] at r2
             replace r2:Hid _:=r2
             replace hnx:Hid (Lo fEl 60 2 q p 8 w (w'.setCell ⟨p,8,none⟩ (.slice (some ⟨g,0,none⟩) (d.length+1) cap')) s st3 L (.slice (some ⟨g,0,none⟩) (d.length+1) cap') (d++[(fb,l2)])):=hnx
             clear hM2 hX2 R8 V8 q3 q4 ht8 hE e1 e2 hi8 htt hst
             go_wp2_with fail
             go_region_law (refine step_app (by rfl) _ _ 28 (by rfl) _ _ _ (by rfl) (by rfl) r2.out ?_)
             all_goals
              go_wp2_with fail
              go_roundw
              case rel=>exact⟨d++[(fb,l2)],st3,some ⟨g,0,none⟩,cap',by rw [List.length_append];go_num,by rw [List.length_append];exact hfin.out.1,by rw [List.length_append];exact hnx.out,hfin.out.2⟩
              case measure=>simp [intOf];omega
         · have hm1:¬(d2.length:Int)<(mn:Int):=by omega
           rw [show mn - d2.length=0 by omega] at ht8
           simp only [srep,List.append_nil] at ht8
           have hE:(d2,(⟨a8,cd8⟩:Sst))=(l2,st3):=ht8.symm.trans htt.out
           have e1:d2=l2:=congrArg Prod.fst hE
           have e2:(⟨a8,cd8⟩:Sst)=st3:=congrArg Prod.snd hE
           rw [e1] at hM2 hX2 x1
           rw [e2] at R8
           have x0:wr.cell? ⟨w2.heap.size,0,none⟩=some (.slice A1 fb.len n1):=hX2.cell 0 rfl
           have c6:wr.cell? ⟨p,8,none⟩=some (.slice A d.length cap):=R8.keep hpq c5.out
           have c7:=cell_lt c6
           have y1:p≠w2.heap.size:=by have:=cell_lt c5.out;omega
           have q3:Tr (wo.heap.size≤·) (World.drew wr) A1 fb:=((q1.out.keep (fun j hj hl=>V8.block j hl (fun e=>by have hj:w1.heap.size≤j:=hj;rcases e with e|e <;> omega))).mono (fun j hj=>by have hj:w1.heap.size≤j:=hj;show wo.heap.size≤j;omega)).later (Ld (Lz _))
           have q4:Lq (wo.heap.size≤·) (World.drew wr) A2 l2:=(hM2.rt.lq.mono (fun j hj=>by have hj:w2.heap.size+1≤j:=hj;show wo.heap.size≤j;omega)).later (Ld (Lz _))
           obtain⟨g,cap',w',r2,⟨t0,t1⟩,⟨t2,t3,t4⟩,hnx⟩:=hst.out (World.drew wr) A1 n1 A2 n2 q3 q4 (R8.later (Ld (Lz _)))
           rw [show (World.drew wr).heap.size=wr.heap.size from rfl] at r2
           replace r2:Hid _:=r2
           replace hnx:Hid (Lo fEl 60 2 q p 8 w (w'.setCell ⟨p,8,none⟩ (.slice (some ⟨g,0,none⟩) (d.length+1) cap')) s st3 L (.slice (some ⟨g,0,none⟩) (d.length+1) cap') (d++[(fb,l2)])):=hnx
           clear hM2 hX2 R8 V8 q3 q4 ht8 hE e1 e2 hi8 htt hst
           go_wp2_with fail
           go_region_law (refine step_app (by rfl) _ _ 28 (by rfl) _ _ _ (by rfl) (by rfl) r2.out ?_)
           all_goals
            go_wp2_with fail
            go_roundw
            case rel=>exact⟨d++[(fb,l2)],st3,some ⟨g,0,none⟩,cap',by rw [List.length_append];go_num,by rw [List.length_append];exact hfin.out.1,by rw [List.length_append];exact hnx.out,hfin.out.2⟩
            case measure=>simp [intOf];omega
      · have hst6:st5=sfail st4 1506:=hst5.trans (if_neg hov)
        rw [←hst6] at hf
        have hov2:(x != 0)=true:=by simpa using hov
        clear hst5 hst6 hov
        go_wp2_with fail
        refine (h1.out _ hS0.out.2).mono ?_
        rintro e1 w1 ⟨rfl,R1⟩
        have C1:Hid (Ss q wo w1 s st4):=hS0.out.trans R1.out
        have z1:wo.heap.size≤w1.heap.size:=R1.out.size
        clear R1
        go_wp2_with fail
        refine (hf.out _ C1.out.2).mono ?_
        rintro e2 w2 ⟨rfl,R2⟩
        have C2:Hid (Ss q wo w2 s st5):=C1.out.trans R2.out
        have z2:w1.heap.size≤w2.heap.size:=R2.out.size
        clear R2
        go_wp2_with fail
        refine (h3.out _ C2.out.2).mono ?_
        rintro e3 w3 ⟨A1,n1,rfl,q1,R3⟩
        have C3:Hid (Ss q wo w3 s st6):=C2.out.trans R3.out
        have z3:w2.heap.size≤w3.heap.size:=R3.out.size
        have hpt:wo.heap.size≤w3.heap.size:=by omega
        clear R3
        have V0:Hid (Wr (·=q) w3 w3):=Wr.refl _ _
        go_wp2_with fail
        have D1:Hid (Ss q wo (w3.alloc (.cells #[.slice A1 fb.len n1,.slice none 0 0] 60)) s st6):=C3.out.later (La (Lz _))
        have Et1:Hid (Rl (w3.alloc (.cells #[.slice A1 fb.len n1,.slice none 0 0] 60)) w3.heap.size 60 [.slice A1 fb.len n1,.slice none 0 0]):=row_new w3 60 [.slice A1 fb.len n1,.slice none 0 0]
        have V_2:Hid (Wr (·=q) w3 (w3.alloc (.cells #[.slice A1 fb.len n1,.slice none 0 0] 60))):=V0.out.ltr (La (Lz _))
        refine (h4.out _ D1.out.2).mono ?_
        rintro e4 w4 ⟨rfl,R4⟩
        have C4:Hid (Ss q wo w4 s st7):=D1.out.trans R4.out
        have Bt4:Hid (Rl w4 w3.heap.size 60 [.slice A1 fb.len n1,.slice none 0 0]):=Et1.out.wr R4.out.1 (fun e=>by have e:w3.heap.size=q:=e;have:=hpt;omega)
        have V_3:Hid (Wr (·=q) w3 w4):=V_2.out.trans R4.out.1
        have z4:w3.heap.size+1≤w4.heap.size:=by have:=R4.out.size;simpa using this
        clear R4
        have c5:wo.cell? ⟨p,8,none⟩=some (.slice A d.length cap):=c3
        clear c2 c3 hl3 h1 h3 h4 hf
        go_wp2_with fail
        go_loopw [16] (fun j wi=>∃(d2:List Int) (st8:Sst) (A2:Option Addr) (n2:Nat),j=.int .i64 (d2.length:Nat)∧d2.length≤mn∧Mk f1 (w3.heap.size+1) 3 1 wi (.slice A2 d2.length n2) d2∧Rl wi w3.heap.size 60 [.slice A1 fb.len n1,.slice A2 d2.length n2]∧Ss q wo wi s st8∧Wr (fun k=>k=q∨w3.heap.size≤k) w3 wi∧w3.heap.size+1≤wi.heap.size∧Sin s st8∧srep (snum s) mn st7=(d2++(srep (snum s) (mn - d2.length) st8).1,(srep (snum s) (mn - d2.length) st8).2)) (fun j _=>mn - (intOf j).toNat)
        case atStart=>exact⟨[],st7,none,0,rfl,Nat.zero_le _,Mk.start _,Bt4.out,C4.out,(V_3.out.mono (fun j _ e=>Or.inl e)),z4,j4.out,rfl⟩
        case round =>
         obtain⟨d2,⟨a8,cd8⟩,A2,n2,rfl,hd2,hM2,hX2,R8,V8,hB8,hi8,ht8⟩:=hrel
         have k2:wr.cell? ⟨q,2,none⟩=some (.int .i64 cd8):=R8.cell 2 (by decide)
         have k3:=cell_lt k2
         have x1:wr.cell? ⟨w3.heap.size,1,none⟩=some (.slice A2 d2.length n2):=hX2.cell 1 rfl
         have x2:=cell_lt x1
         replace c5:Hid (wo.cell? ⟨p,8,none⟩=some (.slice A d.length cap)):=c5
         clear j4 Bt4 C4 V_3
         by_cases hlt2:d2.length<mn
         · have hm1:(d2.length:Int)<(mn:Int):=by omega
           by_cases hc8:cd8=0
           · subst hc8
             have hx:Hid (∀W,W.rowIs q 48 3 (sF s ⟨a8,0⟩)→Calls Tryz.prog 31 #[.pointer (some ⟨q,0,none⟩)] W fun e' w'=>e'=.returned (.int .i64 (snum s ⟨a8,0⟩).1)∧Hid (Ss q W w' s (snum s ⟨a8,0⟩).2)):=fun W hW=>snum_any hs W hW
             obtain⟨m2,hm2⟩:∃m2,mn - d2.length=m2+1:=⟨mn - d2.length - 1,by omega⟩
             rw [hm2,srep_ok _ _ _ rfl] at ht8
             have hi9:=snum_in hi8
             generalize snum s ⟨a8,0⟩=K9 at *
             obtain⟨y,st9⟩:=K9
             simp only [] at hx ht8 hi9
             have hS8:Hid (Ss q wr wr s ⟨a8,0⟩):=⟨Wr.refl _ _,R8.2⟩
             have hgr:Hid (∀wx,Ss q wr wx s st9→∃g cap' w',(Builtin.append_ #[24,24] 24 #[.slice A2 d2.length n2,.slice (some ⟨wx.heap.size,0,none⟩) 1 1]).run Tryz.prog (wx.alloc (.cells #[.int .i64 y] 3))=.ok (.slice (some ⟨g,0,none⟩) (d2.length+1) cap') w'∧(wx.cell? ⟨w3.heap.size,1,none⟩=some (.slice A2 d2.length n2)∧w3.heap.size<wx.heap.size)∧(w'.cell? ⟨w3.heap.size,1,none⟩=some (.slice A2 d2.length n2)∧w'.frozen? ⟨w3.heap.size,1,none⟩=false∧w3.heap.size<w'.heap.size)∧(Mk f1 (w3.heap.size+1) 3 1 (w'.setCell ⟨w3.heap.size,1,none⟩ (.slice (some ⟨g,0,none⟩) (d2.length+1) cap')) (.slice (some ⟨g,0,none⟩) (d2.length+1) cap') (d2++[y])∧Rl (w'.setCell ⟨w3.heap.size,1,none⟩ (.slice (some ⟨g,0,none⟩) (d2.length+1) cap')) w3.heap.size 60 [.slice A1 fb.len n1,.slice (some ⟨g,0,none⟩) (d2.length+1) cap']∧Ss q wo (w'.setCell ⟨w3.heap.size,1,none⟩ (.slice (some ⟨g,0,none⟩) (d2.length+1) cap')) s st9∧Wr (fun k=>k=q∨w3.heap.size≤k) w3 (w'.setCell ⟨w3.heap.size,1,none⟩ (.slice (some ⟨g,0,none⟩) (d2.length+1) cap'))∧w3.heap.size+1≤(w'.setCell ⟨w3.heap.size,1,none⟩ (.slice (some ⟨g,0,none⟩) (d2.length+1) cap')).heap.size)):=by
              intro wx R9
              obtain⟨g,cap',w',r,M',W'⟩:=hM2.grow hB8 ti_int 24 y rfl [.int .i64 y] (by omega) (by omega) R9.1 (fun j e=>by have e:j=q:=e;omega) ⟨_,[],rfl,rfl,rfl⟩
              have X3:=hX2.wr R9.1 (fun e=>by have e:w3.heap.size=q:=e;omega)
              have X4:=X3.wr W' (fun e=>by have e:w3.heap.size+1≤w3.heap.size:=e;omega)
              refine⟨g,cap',w',r,⟨X3.cell 1 rfl,X3.lt⟩,⟨X4.cell 1 rfl,X4.frozen 1,X4.lt⟩,M'.wr ((Wr.refl (fun i=>i<w3.heap.size+1) w').low 1 _ (Nat.lt_succ_self _)) (fun _ e=>e),X4.set 1 _,((R8.trans R9).above W' (by omega) (by omega)).put hpt hl 1 _,?_,?_⟩
              · refine Wr.set ?_ 1 _ (Or.inl (Or.inr (Nat.le_refl _)))
                exact (V8.trans (R9.1.mono (fun j _ e=>Or.inl e))).trans (W'.mono (fun j _ e=>Or.inr (by have e:w3.heap.size+1≤j:=e;omega)))
              · have:=W'.size
                have:=R9.size
                simp [World.setCell]
                omega
             have hf2:Hid (d2.length+1≤mn∧Sin s st9∧srep (snum s) mn st7=((d2++[y])++(srep (snum s) (mn - (d2++[y]).length) st9).1,(srep (snum s) (mn - (d2++[y]).length) st9).2)):=by
              refine⟨hlt2,hi9,?_⟩
              rw [show mn - (d2++[y]).length=m2 by rw [List.length_append,List.length_singleton];omega,ht8,List.append_assoc]
              rfl
             clear ht8 hM2 hX2 R8 V8 hi8 hi9 hm2 hst hfin htt q1 c5 hd2
             go_wp2_with fail
             go_region_law (first|(refine step_app (by rfl) _ _ 24 (by rfl) _ _ _ (by rfl) (by rfl) r2.out ?_)|(go_simp;go_at_call 31;refine (hx.out _ (hS8.out.later (Ld (Lz _))).2).mono ?_;rintro e wx ⟨rfl,R3⟩;obtain⟨g,cap',w',r2,⟨t0,t1⟩,⟨t2,t3,t4⟩,hnx⟩:=hgr.out wx ((hS8.out.later (Ld (Lz _))).trans R3.out);replace r2:Hid _:=r2;replace hnx:Hid (Mk f1 (w3.heap.size+1) 3 1 (w'.setCell ⟨w3.heap.size,1,none⟩ (.slice (some ⟨g,0,none⟩) (d2.length+1) cap')) (.slice (some ⟨g,0,none⟩) (d2.length+1) cap') (d2++[y])∧Rl (w'.setCell ⟨w3.heap.size,1,none⟩ (.slice (some ⟨g,0,none⟩) (d2.length+1) cap')) w3.heap.size 60 [.slice A1 fb.len n1,.slice (some ⟨g,0,none⟩) (d2.length+1) cap']∧Ss q wo (w'.setCell ⟨w3.heap.size,1,none⟩ (.slice (some ⟨g,0,none⟩) (d2.length+1) cap')) s st9∧Wr (fun k=>k=q∨w3.heap.size≤k) w3 (w'.setCell ⟨w3.heap.size,1,none⟩ (.slice (some ⟨g,0,none⟩) (d2.length+1) cap'))∧w3.heap.size+1≤(w'.setCell ⟨w3.heap.size,1,none⟩ (.slice (some ⟨g,0,none⟩) (d2.length+1) cap')).heap.size):=hnx))
             all_goals
              clear hgr hx hS8
              go_wp2_with fail
              go_roundw
              case rel=>exact⟨d2++[y],st9,some ⟨g,0,none⟩,cap',by rw [List.length_append];go_num,by rw [List.length_append];exact hf2.out.1,by rw [List.length_append];exact hnx.out.1,by rw [List.length_append];exact hnx.out.2.1,hnx.out.2.2.1,hnx.out.2.2.2.1,hnx.out.2.2.2.2,hf2.out.2⟩
              case measure=>simp [intOf];omega
           · have hc9:(cd8==0)=false:=beq_false hc8
             rw [srep_bad (snum s) (mn - d2.length) ⟨a8,cd8⟩ hc8,List.append_nil] at ht8
             have hE:(d2,(⟨a8,cd8⟩:Sst))=(l2,st3):=ht8.symm.trans htt.out
             have e1:d2=l2:=congrArg Prod.fst hE
             have e2:(⟨a8,cd8⟩:Sst)=st3:=congrArg Prod.snd hE
             rw [e1] at hM2 hX2 x1
             rw [e2] at R8
             have x0:wr.cell? ⟨w3.heap.size,0,none⟩=some (.slice A1 fb.len n1):=hX2.cell 0 rfl
             have c6:wr.cell? ⟨p,8,none⟩=some (.slice A d.length cap):=R8.keep hpq c5.out
             have c7:=cell_lt c6
             have y1:p≠w3.heap.size:=by have:=cell_lt c5.out;omega
             have q3:Tr (wo.heap.size≤·) (World.drew wr) A1 fb:=((q1.out.keep (fun j hj hl=>V8.block j hl (fun e=>by have hj:w2.heap.size≤j:=hj;rcases e with e|e <;> omega))).mono (fun j hj=>by have hj:w2.heap.size≤j:=hj;show wo.heap.size≤j;omega)).later (Ld (Lz _))
             have q4:Lq (wo.heap.size≤·) (World.drew wr) A2 l2:=(hM2.rt.lq.mono (fun j hj=>by have hj:w3.heap.size+1≤j:=hj;show wo.heap.size≤j;omega)).later (Ld (Lz _))
             obtain⟨g,cap',w',r2,⟨t0,t1⟩,⟨t2,t3,t4⟩,hnx⟩:=hst.out (World.drew wr) A1 n1 A2 n2 q3 q4 (R8.later (Ld (Lz _)))
             rw [show (World.drew wr).heap.size=wr.heap.size from rfl] at r2
             replace r2:Hid _:=r2
             replace hnx:Hid (Lo fEl 60 2 q p 8 w (w'.setCell ⟨p,8,none⟩ (.slice (some ⟨g,0,none⟩) (d.length+1) cap')) s st3 L (.slice (some ⟨g,0,none⟩) (d.length+1) cap') (d++[(fb,l2)])):=hnx
             clear hM2 hX2 R8 V8 q3 q4 ht8 hE e1 e2 hi8 htt hst
             go_wp2_with fail
             go_region_law (refine step_app (by rfl) _ _ 28 (by rfl) _ _ _ (by rfl) (by rfl) r2.out ?_)
             all_goals
              go_wp2_with fail
              go_roundw
              case rel=>exact⟨d++[(fb,l2)],st3,some ⟨g,0,none⟩,cap',by rw [List.length_append];go_num,by rw [List.length_append];exact hfin.out.1,by rw [List.length_append];exact hnx.out,hfin.out.2⟩
              case measure=>simp [intOf];omega
         · have hm1:¬(d2.length:Int)<(mn:Int):=by omega
           rw [show mn - d2.length=0 by omega] at ht8
           simp only [srep,List.append_nil] at ht8
           have hE:(d2,(⟨a8,cd8⟩:Sst))=(l2,st3):=ht8.symm.trans htt.out
           have e1:d2=l2:=congrArg Prod.fst hE
           have e2:(⟨a8,cd8⟩:Sst)=st3:=congrArg Prod.snd hE
           rw [e1] at hM2 hX2 x1
           rw [e2] at R8
           have x0:wr.cell? ⟨w3.heap.size,0,none⟩=some (.slice A1 fb.len n1):=hX2.cell 0 rfl
           have c6:wr.cell? ⟨p,8,none⟩=some (.slice A d.length cap):=R8.keep hpq c5.out
           have c7:=cell_lt c6
           have y1:p≠w3.heap.size:=by have:=cell_lt c5.out;omega
           have q3:Tr (wo.heap.size≤·) (World.drew wr) A1 fb:=((q1.out.keep (fun j hj hl=>V8.block j hl (fun e=>by have hj:w2.heap.size≤j:=hj;rcases e with e|e <;> omega))).mono (fun j hj=>by have hj:w2.heap.size≤j:=hj;show wo.heap.size≤j;omega)).later (Ld (Lz _))
           have q4:Lq (wo.heap.size≤·) (World.drew wr) A2 l2:=(hM2.rt.lq.mono (fun j hj=>by have hj:w3.heap.size+1≤j:=hj;show wo.heap.size≤j;omega)).later (Ld (Lz _))
           obtain⟨g,cap',w',r2,⟨t0,t1⟩,⟨t2,t3,t4⟩,hnx⟩:=hst.out (World.drew wr) A1 n1 A2 n2 q3 q4 (R8.later (Ld (Lz _)))
           rw [show (World.drew wr).heap.size=wr.heap.size from rfl] at r2
           replace r2:Hid _:=r2
           replace hnx:Hid (Lo fEl 60 2 q p 8 w (w'.setCell ⟨p,8,none⟩ (.slice (some ⟨g,0,none⟩) (d.length+1) cap')) s st3 L (.slice (some ⟨g,0,none⟩) (d.length+1) cap') (d++[(fb,l2)])):=hnx
           clear hM2 hX2 R8 V8 q3 q4 ht8 hE e1 e2 hi8 htt hst
           go_wp2_with fail
           go_region_law (refine step_app (by rfl) _ _ 28 (by rfl) _ _ _ (by rfl) (by rfl) r2.out ?_)
           all_goals
            go_wp2_with fail
            go_roundw
            case rel=>exact⟨d++[(fb,l2)],st3,some ⟨g,0,none⟩,cap',by rw [List.length_append];go_num,by rw [List.length_append];exact hfin.out.1,by rw [List.length_append];exact hnx.out,hfin.out.2⟩
            case measure=>simp [intOf];omega
    · have hc2:(cd==0)=false:=beq_false hc
      rw [srep_bad (selm s) (k - d.length) ⟨a2,cd⟩ hc,List.append_nil] at htot
      replace htot:Hid (srep (selm s) k st1=(d,⟨a2,cd⟩)):=htot
      have hfin:Hid (Rt fEl (w.heap.size≤·) wr A d∧Ms q p w wr s ⟨a2,cd⟩ (L.set 8 (.slice A d.length cap))):=⟨hM.2.rt,hM.1⟩
      clear hM hi2
      go_wp2_with fail
      go_end0
      rw [htot.out]
      exact⟨rfl,A,cap,hfin.out.1,hfin.out.2⟩
  · have hl1:¬(d.length:Int)<(k:Int):=by omega
    rw [show k - d.length=0 by omega] at htot
    simp only [srep,List.append_nil] at htot
    replace htot:Hid (srep (selm s) k st1=(d,⟨a2,cd⟩)):=htot
    have hfin:Hid (Rt fEl (w.heap.size≤·) wr A d∧Ms q p w wr s ⟨a2,cd⟩ (L.set 8 (.slice A d.length cap))):=⟨hM.2.rt,hM.1⟩
    clear hM hi2
    go_wp2_with fail
    go_end0
    rw [htot.out]
    exact⟨rfl,A,cap,hfin.out.1,hfin.out.2⟩
