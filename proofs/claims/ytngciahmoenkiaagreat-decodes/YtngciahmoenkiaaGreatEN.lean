import Derived.Test.YtngciahmoenkiaaGreatEM
set_option linter.unusedVariables false
set_option linter.unusedSimpArgs false
set_option maxRecDepth 100000
set_option maxHeartbeats 4000000
namespace Go.Proofs.YtngciahmoenkiaaGreat
open Go.RowKit
variable {q p:Nat} {w wr wr':World} {s:ByteArray} {st st':Sst} {L:List Value}
theorem at_world {F:Act→World→Prop} {a:Act} {W0:World} (h:∀W,W=W0→F a W):F a W0:=h W0 rfl
def sbytes (s:ByteArray) (many:Int) (st:Sst):ByteArray×Sst:=if st.code=0 then (if (s.size:Int) - st.at_<many then (⟨#[]⟩,sfail st 1506) else (s.extract st.at_.toNat (st.at_.toNat+many.toNat),{ st with at_:=st.at_+many })) else (⟨#[]⟩,st)
theorem sbytes_in {x:Int} (hx:0≤x) (h:Sin s st):Sin s (sbytes s x st).2:=by
 unfold sbytes
 split
 · split
   · exact sfail_in h _
   · have:=h.1
     have:=h.2
     exact⟨by show 0≤st.at_+x;omega,by show st.at_+x≤_;omega⟩
 · exact h
def sdat (s:ByteArray) (st:Sst):(Fs×ByteArray)×Sst:=(((sinstrs s (snil (snum s st).1 (snum s st).2)).1,(sbytes s (snum s (sinstrs s (snil (snum s st).1 (snum s st).2)).2).1 (snum s (sinstrs s (snil (snum s st).1 (snum s st).2)).2).2).1),(sbytes s (snum s (sinstrs s (snil (snum s st).1 (snum s st).2)).2).1 (snum s (sinstrs s (snil (snum s st).1 (snum s st).2)).2).2).2)
theorem sdat_in (h:Sin s st):Sin s (sdat s st).2:=sbytes_in snum_rng.1 (snum_in (sinstrs_in (snil_in (snum_in h))))
def sdats (s:ByteArray) (st:Sst):List (Fs×ByteArray)×Sst:=srep (sdat s) (smany s 1024 st).1.toNat (smany s 1024 st).2
theorem sdats_in (h:Sin s st):Sin s (sdats s st).2:=srep_in (sdat s) (fun _ h=>sdat_in h) _ _ (smany_in h _)
theorem slast11 (hs:s.size<9223372036854775000) (hin:Sin s st) (hp:p<w.heap.size) (hpq:p≠q) (hlen:L.length=11) (hj:L[10]?=some (.slice none 0 0)) (h:w.rowIs q 48 3 (sF s st)) (hR:Rl w p 32 L) :
    Calls Tryz.prog 15 #[.pointer (some ⟨q,0,none⟩),.int .i64 11,.pointer (some ⟨p,0,none⟩)] w fun e' w'=>e'=.returned (.tuple #[])∧Hid (Sd fDa q p 10 w w' s L (sdats s st)):=by
 have hq:=h.lt
 have hm:Hid (Calls Tryz.prog 27 #[.pointer (some ⟨q,0,none⟩),.int .i64 1024] w fun e' w'=>e'=.returned (.int .i64 (smany s 1024 st).1)∧Hid (Ss q w w' s (smany s 1024 st).2)):=smany_any hs 1024 w h
 have hr:=smany_rng (s:=s) (st:=st) (m:=1024) (by decide)
 have hi1:=smany_in hin 1024
 have M0:Ms q p w w s st L:=⟨Wr.refl _ _,h,hR⟩
 unfold sdats
 generalize smany s 1024 st=K at *
 obtain⟨k0,st1⟩:=K
 simp only [] at hm hr hi1 ⊢
 obtain⟨k,rfl⟩:=Int.eq_ofNat_of_zero_le hr.1
 rw [Int.toNat_natCast]
 have hk:k≤1024:=by omega
 have hj2:10<L.length:=by omega
 replace hi1:Hid (Sin s st1):=hi1
 replace M0:Hid (Ms q p w w s st L):=M0
 replace hj:Hid (L[10]?=some (.slice none 0 0)):=hj
 clear hin h hr hR
 go_enter Tryz.func15,Tryz.ntmps15
 go_wp2_with (go_at_call 27;refine hm.out.mono ?_;rintro e1 w1 ⟨rfl,R1⟩)
 go_loopw [20] (fun i wr=>∃(d:List (Fs×ByteArray)) (st2:Sst) (A:Option Addr) (cap:Nat),i=.int .i64 (d.length:Nat)∧d.length≤k∧Lo fDa 65 2 q p 10 w wr s st2 L (.slice A d.length cap) d∧Sin s st2∧srep (sdat s) k st1=(d++(srep (sdat s) (k - d.length) st2).1,(srep (sdat s) (k - d.length) st2).2)) (fun i _=>k - (intOf i).toNat)
 case atStart=>exact⟨[],st1,none,0,rfl,Nat.zero_le _,Lo.start (M0.out.ss R1.out hpq) hj.out,hi1.out,rfl⟩
 case round =>
  obtain⟨d,⟨a2,cd⟩,A,cap,rfl,hd,hM,hi2,htot⟩:=hrel
  have c2:wr.cell? ⟨q,2,none⟩=some (.int .i64 cd):=hM.1.2.1.cell (i:=2) (by decide)
  have hl:=cell_lt c2
  have c3:wr.cell? ⟨p,10,none⟩=some (.slice A d.length cap):=hM.cell hj2
  have hl3:=cell_lt c3
  clear M0 hj hm hi1 R1
  by_cases hlt:d.length<k
  · have hl1:(d.length:Int)<(k:Int):=by omega
    by_cases hc:cd=0
    · subst hc
      obtain⟨m,hm2⟩:∃m,k - d.length=m+1:=⟨k - d.length - 1,by omega⟩
      rw [hm2,srep_ok _ _ _ rfl] at htot
      simp only [sdat] at htot
      have hS0:Hid (Ss q wr wr s ⟨a2,0⟩):=⟨Wr.refl _ _,hM.1.2.1⟩
      have h1:Hid (∀W,W.rowIs q 48 3 (sF s ⟨a2,0⟩)→Calls Tryz.prog 31 #[.pointer (some ⟨q,0,none⟩)] W fun e' w'=>e'=.returned (.int .i64 (snum s ⟨a2,0⟩).1)∧Hid (Ss q W w' s (snum s ⟨a2,0⟩).2)):=fun W hW=>snum_any hs W hW
      have j1:=snum_in hi2
      generalize snum s ⟨a2,0⟩=Kst4 at *
      obtain⟨x,st4⟩:=Kst4
      simp only [] at h1 j1 htot
      have hf:Hid (∀W,W.rowIs q 48 3 (sF s st4)→Calls Tryz.prog 16 #[.pointer (some ⟨q,0,none⟩),.int .i64 1506] W fun e' w'=>e'=.returned (.tuple #[])∧Hid (Ss q W w' s (sfail st4 1506))):=fun W hW=>sfail_any 1506 W hW
      have j2:Sin s (snil x st4):=snil_in j1
      obtain⟨st5,hst5⟩:∃S,S=snil x st4:=⟨_,rfl⟩
      rw [←hst5] at htot j2
      have h3:Hid (∀W,W.rowIs q 48 3 (sF s st5)→Calls Tryz.prog 35 #[.pointer (some ⟨q,0,none⟩)] W fun e' w'=>∃A c,e'=.returned (.slice A (sinstrs s st5).1.len c)∧Hid (Tr (W.heap.size≤·) w' A (sinstrs s st5).1)∧Hid (Ss q W w' s (sinstrs s st5).2)):=fun W hW=>sinstrs_any hs W hW
      have j3:=sinstrs_in j2
      generalize sinstrs s st5=Kst6 at *
      obtain⟨fb,st6⟩:=Kst6
      simp only [] at h3 j3 htot
      have h4:Hid (∀W,W.rowIs q 48 3 (sF s st6)→Calls Tryz.prog 31 #[.pointer (some ⟨q,0,none⟩)] W fun e' w'=>e'=.returned (.int .i64 (snum s st6).1)∧Hid (Ss q W w' s (snum s st6).2)):=fun W hW=>snum_any hs W hW
      have hr4:=snum_rng (s:=s) (st:=st6)
      have j4:=snum_in j3
      generalize snum s st6=K7 at *
      obtain⟨k7,a70,c7⟩:=K7
      simp only [] at h4 hr4 j4 htot
      obtain⟨mn,rfl⟩:=Int.eq_ofNat_of_zero_le hr4.1
      obtain⟨a7,ha7⟩:=Int.eq_ofNat_of_zero_le j4.1
      have ha8:a70=(a7:Int):=ha7
      subst ha8
      have ha9:a7≤s.size:=by have:=j4.2;simp only [] at this;omega
      have hi3:=sbytes_in hr4.1 j4
      have hmn:mn<34359738368:=by omega
      obtain⟨⟨bs,st3⟩,hE⟩:∃X,sbytes s (mn:Int) ⟨(a7:Int),c7⟩=X:=⟨_,rfl⟩
      rw [hE] at htot hi3
      simp only [] at htot hi3
      replace hE:Hid (sbytes s (mn:Int) ⟨(a7:Int),c7⟩=(bs,st3)):=hE
      have hst:Hid (∀w3 A1 n1,Tr (wr.heap.size≤·) w3 A1 fb→Ss q wr w3 s st3→∃g cap' w',(Builtin.append_ #[30,30] 30 #[.slice A d.length cap,.slice (some ⟨w3.heap.size,0,none⟩) 1 1]).run Tryz.prog (w3.alloc (.cells #[.slice A1 fb.len n1,.string bs] 65))=.ok (.slice (some ⟨g,0,none⟩) (d.length+1) cap') w'∧(w3.cell? ⟨p,10,none⟩=some (.slice A d.length cap)∧p<w3.heap.size)∧(w'.cell? ⟨p,10,none⟩=some (.slice A d.length cap)∧w'.frozen? ⟨p,10,none⟩=false∧p<w'.heap.size)∧Lo fDa 65 2 q p 10 w (w'.setCell ⟨p,10,none⟩ (.slice (some ⟨g,0,none⟩) (d.length+1) cap')) s st3 L (.slice (some ⟨g,0,none⟩) (d.length+1) cap') (d++[(fb,bs)])) :=
       fun w3 A1 n1 q1 R3=>hM.more hq hp hpq hj2 ti_dat 30 ((fb,bs)) rfl [.slice A1 fb.len n1,.string bs] (by omega) (by omega) R3 ⟨_,_,rfl,⟨A1,n1,rfl,q1⟩,_,_,rfl,rfl,rfl⟩
      have hfin:Hid (d.length+1≤k∧Sin s st3∧srep (sdat s) k st1=((d++[(fb,bs)])++(srep (sdat s) (k - (d++[(fb,bs)]).length) st3).1,(srep (sdat s) (k - (d++[(fb,bs)]).length) st3).2)):=by
       refine⟨hlt,hi3,?_⟩
       rw [show k - (d++[(fb,bs)]).length=m by rw [List.length_append,List.length_singleton];omega,htot,List.append_assoc]
       rfl
      clear htot hM hi2 hi3 hm2 hd j1 j2 j3 j4 hr4 ha7
      by_cases hov:x=0
      · subst hov
        have hst6:st5=st4:=hst5.trans (if_pos rfl)
        subst hst6
        clear hf hst5
        go_wp2_with fail
        refine (h1.out _ hS0.out.2).mono ?_
        rintro e1 w1 ⟨rfl,R1⟩
        have C1:Hid (Ss q wr w1 s st5):=hS0.out.trans R1.out
        have z1:wr.heap.size≤w1.heap.size:=R1.out.size
        clear R1
        go_wp2_with fail
        refine (h3.out _ C1.out.2).mono ?_
        rintro e2 w2 ⟨A1,n1,rfl,q1,R2⟩
        have C2:Hid (Ss q wr w2 s st6):=C1.out.trans R2.out
        have z2:w1.heap.size≤w2.heap.size:=R2.out.size
        have hpt:wr.heap.size≤w2.heap.size:=by omega
        clear R2
        have V0:Hid (Wr (·=q) w2 w2):=Wr.refl _ _
        go_wp2_with fail
        have D1:Hid (Ss q wr (w2.alloc (.cells #[.slice A1 fb.len n1,.string ⟨#[]⟩] 65)) s st6):=C2.out.later (La (Lz _))
        have Et1:Hid (Rl (w2.alloc (.cells #[.slice A1 fb.len n1,.string ⟨#[]⟩] 65)) w2.heap.size 65 [.slice A1 fb.len n1,.string ⟨#[]⟩]):=row_new w2 65 [.slice A1 fb.len n1,.string ⟨#[]⟩]
        have V_2:Hid (Wr (·=q) w2 (w2.alloc (.cells #[.slice A1 fb.len n1,.string ⟨#[]⟩] 65))):=V0.out.ltr (La (Lz _))
        refine (h4.out _ D1.out.2).mono ?_
        rintro e3 w3 ⟨rfl,R3⟩
        have C3:Hid (Ss q wr w3 s ⟨(a7:Int),c7⟩):=D1.out.trans R3.out
        have Bt3:Hid (Rl w3 w2.heap.size 65 [.slice A1 fb.len n1,.string ⟨#[]⟩]):=Et1.out.wr R3.out.1 (fun e=>by have e:w2.heap.size=q:=e;have:=hpt;omega)
        have V_3:Hid (Wr (·=q) w2 w3):=V_2.out.trans R3.out.1
        have z3:w2.heap.size+1≤w3.heap.size:=by have:=R3.out.size;simpa using this
        have a4:w3.cell? ⟨w2.heap.size,0,none⟩=some (.slice A1 fb.len n1):=Bt3.out.cell 0 rfl
        have b4:w3.frozen? ⟨w2.heap.size,0,none⟩=false:=Bt3.out.frozen 0
        have a5:w3.cell? ⟨w2.heap.size,1,none⟩=some (.string ⟨#[]⟩):=Bt3.out.cell 1 rfl
        have b5:w3.frozen? ⟨w2.heap.size,1,none⟩=false:=Bt3.out.frozen 1
        have l6:=Bt3.out.lt
        clear R3
        have k0:w3.cell? ⟨q,0,none⟩=some (.string s):=C3.out.cell 0 (by decide)
        have k1:w3.cell? ⟨q,1,none⟩=some (.int .i64 (a7:Int)):=C3.out.cell 1 (by decide)
        have k2:w3.cell? ⟨q,2,none⟩=some (.int .i64 c7):=C3.out.cell 2 (by decide)
        have k3:w3.frozen? ⟨q,1,none⟩=false:=C3.out.frozen 1
        have k4:=cell_lt k0
        have y1:q≠w2.heap.size:=by omega
        replace c3:Hid (wr.cell? ⟨p,10,none⟩=some (.slice A d.length cap)):=c3
        have hp3:p<wr.heap.size:=cell_lt c3.out
        clear c2 hl3 h1 h3 h4
        by_cases hc7:c7=0
        · subst hc7
          have hw2:(s.size:Int) - (a7:Int)≤9223372036854775807:=by omega
          have hw1:-9223372036854775808≤(s.size:Int) - (a7:Int):=by omega
          by_cases hgt:(s.size:Int) - (a7:Int)<(mn:Int)
          · have hE2:(bs,st3)=(⟨#[]⟩,(⟨(a7:Int),1506⟩:Sst)):=by
             rw [←hE.out,sbytes,if_pos rfl,if_pos hgt]
             rfl
            obtain⟨e1,e2⟩:=Prod.mk.inj hE2
            have hfl:Hid (∀W,Later w3 W→Calls Tryz.prog 16 #[.pointer (some ⟨q,0,none⟩),.int .i64 1506] W fun e' w'=>e'=.returned (.tuple #[])∧Hid (Ss q W w' s ⟨(a7:Int),1506⟩)):=fun W hW=>sfail_any 1506 W (C3.out.later hW).2
            clear hE2
            go_wp2_with fail
            go_quiet (fail)
            go_wp2_with (go_at_call 16;refine (hfl.out _ (Ln (Lz _))).mono ?_;rintro e9 w9 ⟨rfl,R9⟩;have k5:w9.cell? ⟨q,2,none⟩=some (.int .i64 1506):=R9.out.cell 2 (by decide);have k6:=cell_lt k5)
            have SW:Ss q wr w9 s st3:=by rw [e2];exact (C3.out.later (Ln (Lz _))).trans R9.out
            have XW:Rl w9 w2.heap.size 65 [.slice A1 fb.len n1,.string bs]:=by rw [e1];exact (Bt3.out.later (Ln (Lz _))).wr R9.out.1 (fun e=>y1 (e:w2.heap.size=q).symm)
            have VW:Wr (fun k=>k=q∨w2.heap.size≤k) w2 w9:=((V_3.out.mono (fun j _ e=>Or.inl e)).ltr (Ln (Lz _))).trans (R9.out.1.mono (fun j _ e=>Or.inl e))
            clear e1 e2 a4 b4 a5 b5 l6 k0 k1 k2 k3 k4 k5 k6 R9 hfl hgt hw1 hw2
            obtain⟨W,hW⟩:∃W,W=w9:=⟨w9,rfl⟩
            subst hW
            have hW:True:=trivial
            have x0:W.cell? ⟨w2.heap.size,0,none⟩=some (.slice A1 fb.len n1):=XW.cell 0 rfl
            have x1:W.cell? ⟨w2.heap.size,1,none⟩=some (.string bs):=XW.cell 1 rfl
            have x2:=cell_lt x1
            have c6:W.cell? ⟨p,10,none⟩=some (.slice A d.length cap):=SW.keep hpq c3.out
            have c7':=cell_lt c6
            have y2:p≠w2.heap.size:=by omega
            have q3:Tr (wr.heap.size≤·) (World.drew W) A1 fb:=((q1.out.keep (fun j hj hl=>VW.block j hl (fun e=>by have hj:w1.heap.size≤j:=hj;rcases e with e|e <;> omega))).mono (fun j hj=>by have hj:w1.heap.size≤j:=hj;show wr.heap.size≤j;omega)).later (Ld (Lz _))
            obtain⟨g,cap',w',r2,⟨t0,t1⟩,⟨t2,t3,t4⟩,hnx⟩:=hst.out (World.drew W) A1 n1 q3 (SW.later (Ld (Lz _)))
            rw [show (World.drew W).heap.size=W.heap.size from rfl] at r2
            replace r2:Hid _:=r2
            replace hnx:Hid (Lo fDa 65 2 q p 10 w (w'.setCell ⟨p,10,none⟩ (.slice (some ⟨g,0,none⟩) (d.length+1) cap')) s st3 L (.slice (some ⟨g,0,none⟩) (d.length+1) cap') (d++[(fb,bs)])):=hnx
            clear XW SW VW q3 hst hE q1 c3 hW
            go_region_law (refine step_app (by rfl) _ _ 30 (by rfl) _ _ _ (by rfl) (by rfl) r2.out ?_)
            all_goals
             go_wp2_with fail
             go_roundw
             case rel=>exact⟨d++[(fb,bs)],st3,some ⟨g,0,none⟩,cap',by rw [List.length_append];go_num,by rw [List.length_append];exact hfin.out.1,by rw [List.length_append];exact hnx.out,hfin.out.2⟩
             case measure=>simp [intOf];omega
          · have hE2:(bs,st3)=(s.extract a7 (a7+mn),(⟨(a7:Int)+(mn:Int),0⟩:Sst)):=by
             rw [←hE.out,sbytes,if_pos rfl,if_neg hgt]
             rfl
            obtain⟨e1,e2⟩:=Prod.mk.inj hE2
            have hle:decide ((s.size:Int) - (a7:Int)<(mn:Int))=false:=decide_eq_false hgt
            have hsl:=sl_eq s a7 mn (by omega)
            have hwk:wrap64 ((a7:Int)+(mn:Int))=(a7:Int)+(mn:Int):=by unfold wrap64;omega
            clear hgt
            clear hE2
            go_wp2_with fail
            go_quiet (fail)
            go_wp2_with fail
            go_region
            all_goals
             go_wp2_with fail
             refine at_world ?_
             intro W hW
             have SW:Ss q wr W s st3:=by rw [hW,e2];exact ((C3.out.later (by repeat first|exact Lz _|apply Ld|apply Ln)).put hpt hl 1 _).set (st':=⟨(a7:Int)+(mn:Int),0⟩) 1 _ sset1
             have XW:Rl W w2.heap.size 65 [.slice A1 fb.len n1,.string bs]:=by rw [hW,e1];exact ((Bt3.out.later (by repeat first|exact Lz _|apply Ld|apply Ln)).set 1 _).off 1 _ (fun e=>y1 e.symm)
             have VW:Wr (fun k=>k=q∨w2.heap.size≤k) w2 W:=by rw [hW];exact (((V_3.out.mono (fun j _ e=>Or.inl e)).ltr (by repeat first|exact Lz _|apply Ld|apply Ln)).set 1 _ (Or.inl (Or.inr (Nat.le_refl _)))).set 1 _ (Or.inl (Or.inl rfl))
             clear e1 e2 a4 b4 a5 b5 l6 k0 k1 k2 k3 k4 hsl hwk hle hw1 hw2
             have x0:W.cell? ⟨w2.heap.size,0,none⟩=some (.slice A1 fb.len n1):=XW.cell 0 rfl
             have x1:W.cell? ⟨w2.heap.size,1,none⟩=some (.string bs):=XW.cell 1 rfl
             have x2:=cell_lt x1
             have c6:W.cell? ⟨p,10,none⟩=some (.slice A d.length cap):=SW.keep hpq c3.out
             have c7':=cell_lt c6
             have y2:p≠w2.heap.size:=by omega
             have q3:Tr (wr.heap.size≤·) (World.drew W) A1 fb:=((q1.out.keep (fun j hj hl=>VW.block j hl (fun e=>by have hj:w1.heap.size≤j:=hj;rcases e with e|e <;> omega))).mono (fun j hj=>by have hj:w1.heap.size≤j:=hj;show wr.heap.size≤j;omega)).later (Ld (Lz _))
             obtain⟨g,cap',w',r2,⟨t0,t1⟩,⟨t2,t3,t4⟩,hnx⟩:=hst.out (World.drew W) A1 n1 q3 (SW.later (Ld (Lz _)))
             rw [show (World.drew W).heap.size=W.heap.size from rfl] at r2
             replace r2:Hid _:=r2
             replace hnx:Hid (Lo fDa 65 2 q p 10 w (w'.setCell ⟨p,10,none⟩ (.slice (some ⟨g,0,none⟩) (d.length+1) cap')) s st3 L (.slice (some ⟨g,0,none⟩) (d.length+1) cap') (d++[(fb,bs)])):=hnx
             clear XW SW VW q3 hst hE q1 c3 hW
             go_region_law (refine step_app (by rfl) _ _ 30 (by rfl) _ _ _ (by rfl) (by rfl) r2.out ?_)
             all_goals
              go_wp2_with fail
              go_roundw
              case rel=>exact⟨d++[(fb,bs)],st3,some ⟨g,0,none⟩,cap',by rw [List.length_append];go_num,by rw [List.length_append];exact hfin.out.1,by rw [List.length_append];exact hnx.out,hfin.out.2⟩
              case measure=>simp [intOf];omega
        · have hc8:(c7==0)=false:=beq_false hc7
          have hE2:(bs,st3)=(⟨#[]⟩,(⟨(a7:Int),c7⟩:Sst)):=by
           rw [←hE.out,sbytes,if_neg hc7]
          obtain⟨e1,e2⟩:=Prod.mk.inj hE2
          clear hE2
          go_wp2_with fail
          go_quiet (fail)
          go_wp2_with fail
          refine at_world ?_
          intro W hW
          have lW:Later w3 W:=by rw [hW];exact Ln (Lz _)
          have SW:Ss q wr W s st3:=by rw [e2];exact C3.out.later lW
          have XW:Rl W w2.heap.size 65 [.slice A1 fb.len n1,.string bs]:=by rw [e1];exact Bt3.out.later lW
          have VW:Wr (fun k=>k=q∨w2.heap.size≤k) w2 W:=(V_3.out.mono (fun j _ e=>Or.inl e)).ltr lW
          clear lW e1 e2 a4 b4 a5 b5 l6 k0 k1 k2 k3 k4
          have x0:W.cell? ⟨w2.heap.size,0,none⟩=some (.slice A1 fb.len n1):=XW.cell 0 rfl
          have x1:W.cell? ⟨w2.heap.size,1,none⟩=some (.string bs):=XW.cell 1 rfl
          have x2:=cell_lt x1
          have c6:W.cell? ⟨p,10,none⟩=some (.slice A d.length cap):=SW.keep hpq c3.out
          have c7':=cell_lt c6
          have y2:p≠w2.heap.size:=by omega
          have q3:Tr (wr.heap.size≤·) (World.drew W) A1 fb:=((q1.out.keep (fun j hj hl=>VW.block j hl (fun e=>by have hj:w1.heap.size≤j:=hj;rcases e with e|e <;> omega))).mono (fun j hj=>by have hj:w1.heap.size≤j:=hj;show wr.heap.size≤j;omega)).later (Ld (Lz _))
          obtain⟨g,cap',w',r2,⟨t0,t1⟩,⟨t2,t3,t4⟩,hnx⟩:=hst.out (World.drew W) A1 n1 q3 (SW.later (Ld (Lz _)))
          rw [show (World.drew W).heap.size=W.heap.size from rfl] at r2
          replace r2:Hid _:=r2
          replace hnx:Hid (Lo fDa 65 2 q p 10 w (w'.setCell ⟨p,10,none⟩ (.slice (some ⟨g,0,none⟩) (d.length+1) cap')) s st3 L (.slice (some ⟨g,0,none⟩) (d.length+1) cap') (d++[(fb,bs)])):=hnx
          clear XW SW VW q3 hst hE q1 c3 hW
          go_region_law (refine step_app (by rfl) _ _ 30 (by rfl) _ _ _ (by rfl) (by rfl) r2.out ?_)
          all_goals
           go_wp2_with fail
           go_roundw
           case rel=>exact⟨d++[(fb,bs)],st3,some ⟨g,0,none⟩,cap',by rw [List.length_append];go_num,by rw [List.length_append];exact hfin.out.1,by rw [List.length_append];exact hnx.out,hfin.out.2⟩
           case measure=>simp [intOf];omega
      · have hst6:st5=sfail st4 1506:=hst5.trans (if_neg hov)
        rw [←hst6] at hf
        have hov2:(x != 0)=true:=by simpa using hov
        clear hst5 hst6 hov
        go_wp2_with fail
        refine (h1.out _ hS0.out.2).mono ?_
        rintro e1 w1 ⟨rfl,R1⟩
        have C1:Hid (Ss q wr w1 s st4):=hS0.out.trans R1.out
        have z1:wr.heap.size≤w1.heap.size:=R1.out.size
        clear R1
        go_wp2_with fail
        refine (hf.out _ C1.out.2).mono ?_
        rintro e2 w2 ⟨rfl,R2⟩
        have C2:Hid (Ss q wr w2 s st5):=C1.out.trans R2.out
        have z2:w1.heap.size≤w2.heap.size:=R2.out.size
        clear R2
        go_wp2_with fail
        refine (h3.out _ C2.out.2).mono ?_
        rintro e3 w3 ⟨A1,n1,rfl,q1,R3⟩
        have C3:Hid (Ss q wr w3 s st6):=C2.out.trans R3.out
        have z3:w2.heap.size≤w3.heap.size:=R3.out.size
        have hpt:wr.heap.size≤w3.heap.size:=by omega
        clear R3
        have V0:Hid (Wr (·=q) w3 w3):=Wr.refl _ _
        go_wp2_with fail
        have D1:Hid (Ss q wr (w3.alloc (.cells #[.slice A1 fb.len n1,.string ⟨#[]⟩] 65)) s st6):=C3.out.later (La (Lz _))
        have Et1:Hid (Rl (w3.alloc (.cells #[.slice A1 fb.len n1,.string ⟨#[]⟩] 65)) w3.heap.size 65 [.slice A1 fb.len n1,.string ⟨#[]⟩]):=row_new w3 65 [.slice A1 fb.len n1,.string ⟨#[]⟩]
        have V_2:Hid (Wr (·=q) w3 (w3.alloc (.cells #[.slice A1 fb.len n1,.string ⟨#[]⟩] 65))):=V0.out.ltr (La (Lz _))
        refine (h4.out _ D1.out.2).mono ?_
        rintro e4 w4 ⟨rfl,R4⟩
        have C4:Hid (Ss q wr w4 s ⟨(a7:Int),c7⟩):=D1.out.trans R4.out
        have Bt4:Hid (Rl w4 w3.heap.size 65 [.slice A1 fb.len n1,.string ⟨#[]⟩]):=Et1.out.wr R4.out.1 (fun e=>by have e:w3.heap.size=q:=e;have:=hpt;omega)
        have V_3:Hid (Wr (·=q) w3 w4):=V_2.out.trans R4.out.1
        have z4:w3.heap.size+1≤w4.heap.size:=by have:=R4.out.size;simpa using this
        have a4:w4.cell? ⟨w3.heap.size,0,none⟩=some (.slice A1 fb.len n1):=Bt4.out.cell 0 rfl
        have b4:w4.frozen? ⟨w3.heap.size,0,none⟩=false:=Bt4.out.frozen 0
        have a5:w4.cell? ⟨w3.heap.size,1,none⟩=some (.string ⟨#[]⟩):=Bt4.out.cell 1 rfl
        have b5:w4.frozen? ⟨w3.heap.size,1,none⟩=false:=Bt4.out.frozen 1
        have l6:=Bt4.out.lt
        clear R4
        have k0:w4.cell? ⟨q,0,none⟩=some (.string s):=C4.out.cell 0 (by decide)
        have k1:w4.cell? ⟨q,1,none⟩=some (.int .i64 (a7:Int)):=C4.out.cell 1 (by decide)
        have k2:w4.cell? ⟨q,2,none⟩=some (.int .i64 c7):=C4.out.cell 2 (by decide)
        have k3:w4.frozen? ⟨q,1,none⟩=false:=C4.out.frozen 1
        have k4:=cell_lt k0
        have y1:q≠w3.heap.size:=by omega
        replace c3:Hid (wr.cell? ⟨p,10,none⟩=some (.slice A d.length cap)):=c3
        have hp3:p<wr.heap.size:=cell_lt c3.out
        clear c2 hl3 h1 h3 h4 hf
        by_cases hc7:c7=0
        · subst hc7
          have hw2:(s.size:Int) - (a7:Int)≤9223372036854775807:=by omega
          have hw1:-9223372036854775808≤(s.size:Int) - (a7:Int):=by omega
          by_cases hgt:(s.size:Int) - (a7:Int)<(mn:Int)
          · have hE2:(bs,st3)=(⟨#[]⟩,(⟨(a7:Int),1506⟩:Sst)):=by
             rw [←hE.out,sbytes,if_pos rfl,if_pos hgt]
             rfl
            obtain⟨e1,e2⟩:=Prod.mk.inj hE2
            have hfl:Hid (∀W,Later w4 W→Calls Tryz.prog 16 #[.pointer (some ⟨q,0,none⟩),.int .i64 1506] W fun e' w'=>e'=.returned (.tuple #[])∧Hid (Ss q W w' s ⟨(a7:Int),1506⟩)):=fun W hW=>sfail_any 1506 W (C4.out.later hW).2
            clear hE2
            go_wp2_with fail
            go_quiet (fail)
            go_wp2_with (go_at_call 16;refine (hfl.out _ (Ln (Lz _))).mono ?_;rintro e9 w9 ⟨rfl,R9⟩;have k5:w9.cell? ⟨q,2,none⟩=some (.int .i64 1506):=R9.out.cell 2 (by decide);have k6:=cell_lt k5)
            have SW:Ss q wr w9 s st3:=by rw [e2];exact (C4.out.later (Ln (Lz _))).trans R9.out
            have XW:Rl w9 w3.heap.size 65 [.slice A1 fb.len n1,.string bs]:=by rw [e1];exact (Bt4.out.later (Ln (Lz _))).wr R9.out.1 (fun e=>y1 (e:w3.heap.size=q).symm)
            have VW:Wr (fun k=>k=q∨w3.heap.size≤k) w3 w9:=((V_3.out.mono (fun j _ e=>Or.inl e)).ltr (Ln (Lz _))).trans (R9.out.1.mono (fun j _ e=>Or.inl e))
            clear e1 e2 a4 b4 a5 b5 l6 k0 k1 k2 k3 k4 k5 k6 R9 hfl hgt hw1 hw2
            obtain⟨W,hW⟩:∃W,W=w9:=⟨w9,rfl⟩
            subst hW
            have hW:True:=trivial
            have x0:W.cell? ⟨w3.heap.size,0,none⟩=some (.slice A1 fb.len n1):=XW.cell 0 rfl
            have x1:W.cell? ⟨w3.heap.size,1,none⟩=some (.string bs):=XW.cell 1 rfl
            have x2:=cell_lt x1
            have c6:W.cell? ⟨p,10,none⟩=some (.slice A d.length cap):=SW.keep hpq c3.out
            have c7':=cell_lt c6
            have y2:p≠w3.heap.size:=by omega
            have q3:Tr (wr.heap.size≤·) (World.drew W) A1 fb:=((q1.out.keep (fun j hj hl=>VW.block j hl (fun e=>by have hj:w2.heap.size≤j:=hj;rcases e with e|e <;> omega))).mono (fun j hj=>by have hj:w2.heap.size≤j:=hj;show wr.heap.size≤j;omega)).later (Ld (Lz _))
            obtain⟨g,cap',w',r2,⟨t0,t1⟩,⟨t2,t3,t4⟩,hnx⟩:=hst.out (World.drew W) A1 n1 q3 (SW.later (Ld (Lz _)))
            rw [show (World.drew W).heap.size=W.heap.size from rfl] at r2
            replace r2:Hid _:=r2
            replace hnx:Hid (Lo fDa 65 2 q p 10 w (w'.setCell ⟨p,10,none⟩ (.slice (some ⟨g,0,none⟩) (d.length+1) cap')) s st3 L (.slice (some ⟨g,0,none⟩) (d.length+1) cap') (d++[(fb,bs)])):=hnx
            clear XW SW VW q3 hst hE q1 c3 hW
            go_region_law (refine step_app (by rfl) _ _ 30 (by rfl) _ _ _ (by rfl) (by rfl) r2.out ?_)
            all_goals
             go_wp2_with fail
             go_roundw
             case rel=>exact⟨d++[(fb,bs)],st3,some ⟨g,0,none⟩,cap',by rw [List.length_append];go_num,by rw [List.length_append];exact hfin.out.1,by rw [List.length_append];exact hnx.out,hfin.out.2⟩
             case measure=>simp [intOf];omega
          · have hE2:(bs,st3)=(s.extract a7 (a7+mn),(⟨(a7:Int)+(mn:Int),0⟩:Sst)):=by
             rw [←hE.out,sbytes,if_pos rfl,if_neg hgt]
             rfl
            obtain⟨e1,e2⟩:=Prod.mk.inj hE2
            have hle:decide ((s.size:Int) - (a7:Int)<(mn:Int))=false:=decide_eq_false hgt
            have hsl:=sl_eq s a7 mn (by omega)
            have hwk:wrap64 ((a7:Int)+(mn:Int))=(a7:Int)+(mn:Int):=by unfold wrap64;omega
            clear hgt
            clear hE2
            go_wp2_with fail
            go_quiet (fail)
            go_wp2_with fail
            go_region
            all_goals
             go_wp2_with fail
             refine at_world ?_
             intro W hW
             have SW:Ss q wr W s st3:=by rw [hW,e2];exact ((C4.out.later (by repeat first|exact Lz _|apply Ld|apply Ln)).put hpt hl 1 _).set (st':=⟨(a7:Int)+(mn:Int),0⟩) 1 _ sset1
             have XW:Rl W w3.heap.size 65 [.slice A1 fb.len n1,.string bs]:=by rw [hW,e1];exact ((Bt4.out.later (by repeat first|exact Lz _|apply Ld|apply Ln)).set 1 _).off 1 _ (fun e=>y1 e.symm)
             have VW:Wr (fun k=>k=q∨w3.heap.size≤k) w3 W:=by rw [hW];exact (((V_3.out.mono (fun j _ e=>Or.inl e)).ltr (by repeat first|exact Lz _|apply Ld|apply Ln)).set 1 _ (Or.inl (Or.inr (Nat.le_refl _)))).set 1 _ (Or.inl (Or.inl rfl))
             clear e1 e2 a4 b4 a5 b5 l6 k0 k1 k2 k3 k4 hsl hwk hle hw1 hw2
             have x0:W.cell? ⟨w3.heap.size,0,none⟩=some (.slice A1 fb.len n1):=XW.cell 0 rfl
             have x1:W.cell? ⟨w3.heap.size,1,none⟩=some (.string bs):=XW.cell 1 rfl
             have x2:=cell_lt x1
             have c6:W.cell? ⟨p,10,none⟩=some (.slice A d.length cap):=SW.keep hpq c3.out
             have c7':=cell_lt c6
             have y2:p≠w3.heap.size:=by omega
             have q3:Tr (wr.heap.size≤·) (World.drew W) A1 fb:=((q1.out.keep (fun j hj hl=>VW.block j hl (fun e=>by have hj:w2.heap.size≤j:=hj;rcases e with e|e <;> omega))).mono (fun j hj=>by have hj:w2.heap.size≤j:=hj;show wr.heap.size≤j;omega)).later (Ld (Lz _))
             obtain⟨g,cap',w',r2,⟨t0,t1⟩,⟨t2,t3,t4⟩,hnx⟩:=hst.out (World.drew W) A1 n1 q3 (SW.later (Ld (Lz _)))
             rw [show (World.drew W).heap.size=W.heap.size from rfl] at r2
             replace r2:Hid _:=r2
             replace hnx:Hid (Lo fDa 65 2 q p 10 w (w'.setCell ⟨p,10,none⟩ (.slice (some ⟨g,0,none⟩) (d.length+1) cap')) s st3 L (.slice (some ⟨g,0,none⟩) (d.length+1) cap') (d++[(fb,bs)])):=hnx
             clear XW SW VW q3 hst hE q1 c3 hW
             go_region_law (refine step_app (by rfl) _ _ 30 (by rfl) _ _ _ (by rfl) (by rfl) r2.out ?_)
             all_goals
              go_wp2_with fail
              go_roundw
              case rel=>exact⟨d++[(fb,bs)],st3,some ⟨g,0,none⟩,cap',by rw [List.length_append];go_num,by rw [List.length_append];exact hfin.out.1,by rw [List.length_append];exact hnx.out,hfin.out.2⟩
              case measure=>simp [intOf];omega
        · have hc8:(c7==0)=false:=beq_false hc7
          have hE2:(bs,st3)=(⟨#[]⟩,(⟨(a7:Int),c7⟩:Sst)):=by
           rw [←hE.out,sbytes,if_neg hc7]
          obtain⟨e1,e2⟩:=Prod.mk.inj hE2
          clear hE2
          go_wp2_with fail
          go_quiet (fail)
          go_wp2_with fail
          refine at_world ?_
          intro W hW
          have lW:Later w4 W:=by rw [hW];exact Ln (Lz _)
          have SW:Ss q wr W s st3:=by rw [e2];exact C4.out.later lW
          have XW:Rl W w3.heap.size 65 [.slice A1 fb.len n1,.string bs]:=by rw [e1];exact Bt4.out.later lW
          have VW:Wr (fun k=>k=q∨w3.heap.size≤k) w3 W:=(V_3.out.mono (fun j _ e=>Or.inl e)).ltr lW
          clear lW e1 e2 a4 b4 a5 b5 l6 k0 k1 k2 k3 k4
          have x0:W.cell? ⟨w3.heap.size,0,none⟩=some (.slice A1 fb.len n1):=XW.cell 0 rfl
          have x1:W.cell? ⟨w3.heap.size,1,none⟩=some (.string bs):=XW.cell 1 rfl
          have x2:=cell_lt x1
          have c6:W.cell? ⟨p,10,none⟩=some (.slice A d.length cap):=SW.keep hpq c3.out
          have c7':=cell_lt c6
          have y2:p≠w3.heap.size:=by omega
          have q3:Tr (wr.heap.size≤·) (World.drew W) A1 fb:=((q1.out.keep (fun j hj hl=>VW.block j hl (fun e=>by have hj:w2.heap.size≤j:=hj;rcases e with e|e <;> omega))).mono (fun j hj=>by have hj:w2.heap.size≤j:=hj;show wr.heap.size≤j;omega)).later (Ld (Lz _))
          obtain⟨g,cap',w',r2,⟨t0,t1⟩,⟨t2,t3,t4⟩,hnx⟩:=hst.out (World.drew W) A1 n1 q3 (SW.later (Ld (Lz _)))
          rw [show (World.drew W).heap.size=W.heap.size from rfl] at r2
          replace r2:Hid _:=r2
          replace hnx:Hid (Lo fDa 65 2 q p 10 w (w'.setCell ⟨p,10,none⟩ (.slice (some ⟨g,0,none⟩) (d.length+1) cap')) s st3 L (.slice (some ⟨g,0,none⟩) (d.length+1) cap') (d++[(fb,bs)])):=hnx
          clear XW SW VW q3 hst hE q1 c3 hW
          go_region_law (refine step_app (by rfl) _ _ 30 (by rfl) _ _ _ (by rfl) (by rfl) r2.out ?_)
          all_goals
           go_wp2_with fail
           go_roundw
           case rel=>exact⟨d++[(fb,bs)],st3,some ⟨g,0,none⟩,cap',by rw [List.length_append];go_num,by rw [List.length_append];exact hfin.out.1,by rw [List.length_append];exact hnx.out,hfin.out.2⟩
           case measure=>simp [intOf];omega
    · have hc2:(cd==0)=false:=beq_false hc
      rw [srep_bad (sdat s) (k - d.length) ⟨a2,cd⟩ hc,List.append_nil] at htot
      replace htot:Hid (srep (sdat s) k st1=(d,⟨a2,cd⟩)):=htot
      have hfin:Hid (Rt fDa (w.heap.size≤·) wr A d∧Ms q p w wr s ⟨a2,cd⟩ (L.set 10 (.slice A d.length cap))):=⟨hM.2.rt,hM.1⟩
      clear hM hi2
      go_wp2_with fail
      go_end0
      rw [htot.out]
      exact⟨rfl,A,cap,hfin.out.1,hfin.out.2⟩
  · have hl1:¬(d.length:Int)<(k:Int):=by omega
    rw [show k - d.length=0 by omega] at htot
    simp only [srep,List.append_nil] at htot
    replace htot:Hid (srep (sdat s) k st1=(d,⟨a2,cd⟩)):=htot
    have hfin:Hid (Rt fDa (w.heap.size≤·) wr A d∧Ms q p w wr s ⟨a2,cd⟩ (L.set 10 (.slice A d.length cap))):=⟨hM.2.rt,hM.1⟩
    clear hM hi2
    go_wp2_with fail
    go_end0
    rw [htot.out]
    exact⟨rfl,A,cap,hfin.out.1,hfin.out.2⟩
