import Derived.Test.YtngciahmoenkiaaGreatXW
set_option linter.unusedVariables false
set_option linter.unusedSimpArgs false
set_option maxRecDepth 100000
set_option maxHeartbeats 4000000
namespace Go.Proofs.YtngciahmoenkiaaGreat
open Go.RowKit
variable {q p:Nat} {w wr wr':World} {s:ByteArray} {st st':Sst} {L:List Value}
def sover (x:Int) (st:Sst):Sst:=if 3<x then sfail st 1506 else st
theorem sover_in {x:Int} (h:Sin s st):Sin s (sover x st):=by
 unfold sover
 split
 · exact sfail_in h _
 · exact h
def sexp (s:ByteArray) (st:Sst):(ByteArray×Int×Int)×Sst:=(((sname s st).1,(sbyte s (sname s st).2).1,(snum s (sover (sbyte s (sname s st).2).1 (sbyte s (sname s st).2).2)).1),(snum s (sover (sbyte s (sname s st).2).1 (sbyte s (sname s st).2).2)).2)
theorem sexp_in (h:Sin s st):Sin s (sexp s st).2:=snum_in (sover_in (sbyte_in (sname_in h)))
def sexps (s:ByteArray) (st:Sst):List (ByteArray×Int×Int)×Sst:=srep (sexp s) (smany s 1024 st).1.toNat (smany s 1024 st).2
theorem sexps_in (h:Sin s st):Sin s (sexps s st).2:=srep_in (sexp s) (fun _ h=>sexp_in h) _ _ (smany_in h _)
theorem slast7 (hs:s.size<9223372036854775000) (hin:Sin s st) (hp:p<w.heap.size) (hpq:p≠q) (hlen:L.length=11) (hj:L[6]?=some (.slice none 0 0)) (h:w.rowIs q 48 3 (sF s st)) (hR:Rl w p 32 L) :
    Calls Tryz.prog 15 #[.pointer (some ⟨q,0,none⟩),.int .i64 7,.pointer (some ⟨p,0,none⟩)] w fun e' w'=>e'=.returned (.tuple #[])∧Hid (Sd fEx q p 6 w w' s L (sexps s st)):=by
 have hq:=h.lt
 have hm:Hid (Calls Tryz.prog 27 #[.pointer (some ⟨q,0,none⟩),.int .i64 1024] w fun e' w'=>e'=.returned (.int .i64 (smany s 1024 st).1)∧Hid (Ss q w w' s (smany s 1024 st).2)):=smany_any hs 1024 w h
 have hr:=smany_rng (s:=s) (st:=st) (m:=1024) (by decide)
 have hi1:=smany_in hin 1024
 have M0:Ms q p w w s st L:=⟨Wr.refl _ _,h,hR⟩
 unfold sexps
 generalize smany s 1024 st=K at *
 obtain⟨k0,st1⟩:=K
 simp only [] at hm hr hi1 ⊢
 obtain⟨k,rfl⟩:=Int.eq_ofNat_of_zero_le hr.1
 rw [Int.toNat_natCast]
 have hk:k≤1024:=by omega
 have hj2:6<L.length:=by omega
 replace hi1:Hid (Sin s st1):=hi1
 replace M0:Hid (Ms q p w w s st L):=M0
 replace hj:Hid (L[6]?=some (.slice none 0 0)):=hj
 clear hin h hr hR
 go_enter Tryz.func15,Tryz.ntmps15
 go_wp2_with (go_at_call 27;refine hm.out.mono ?_;rintro e1 w1 ⟨rfl,R1⟩)
 go_loopw [10] (fun i wr=>∃(d:List (ByteArray×Int×Int)) (st2:Sst) (A:Option Addr) (cap:Nat),i=.int .i64 (d.length:Nat)∧d.length≤k∧Lo fEx 58 3 q p 6 w wr s st2 L (.slice A d.length cap) d∧Sin s st2∧srep (sexp s) k st1=(d++(srep (sexp s) (k - d.length) st2).1,(srep (sexp s) (k - d.length) st2).2)) (fun i _=>k - (intOf i).toNat)
 case atStart=>exact⟨[],st1,none,0,rfl,Nat.zero_le _,Lo.start (M0.out.ss R1.out hpq) hj.out,hi1.out,rfl⟩
 case round =>
  obtain⟨d,⟨a2,cd⟩,A,cap,rfl,hd,hM,hi2,htot⟩:=hrel
  have c2:wr.cell? ⟨q,2,none⟩=some (.int .i64 cd):=hM.1.2.1.cell (i:=2) (by decide)
  have hl:=cell_lt c2
  have c3:wr.cell? ⟨p,6,none⟩=some (.slice A d.length cap):=hM.cell hj2
  have hl3:=cell_lt c3
  clear M0 hj hm hi1 R1
  by_cases hlt:d.length<k
  · have hl1:(d.length:Int)<(k:Int):=by omega
    by_cases hc:cd=0
    · subst hc
      obtain⟨m,hm2⟩:∃m,k - d.length=m+1:=⟨k - d.length - 1,by omega⟩
      rw [hm2,srep_ok _ _ _ rfl] at htot
      simp only [sexp] at htot
      have hS0:Hid (Ss q wr wr s ⟨a2,0⟩):=⟨Wr.refl _ _,hM.1.2.1⟩
      have h1:Hid (∀W,W.rowIs q 48 3 (sF s ⟨a2,0⟩)→Calls Tryz.prog 13 #[.pointer (some ⟨q,0,none⟩)] W fun e' w'=>e'=.returned (.string (sname s ⟨a2,0⟩).1)∧Hid (Ss q W w' s (sname s ⟨a2,0⟩).2)):=fun W hW=>sname_any hs W hW
      have j1:=sname_in hi2
      generalize sname s ⟨a2,0⟩=Kst4 at *
      obtain⟨nm,st4⟩:=Kst4
      simp only [] at h1 j1 htot
      have h2:Hid (∀W,W.rowIs q 48 3 (sF s st4)→Calls Tryz.prog 36 #[.pointer (some ⟨q,0,none⟩)] W fun e' w'=>e'=.returned (.int .i64 (sbyte s st4).1)∧Hid (Ss q W w' s (sbyte s st4).2)):=fun W hW=>sbyte_any hs j1 W hW
      have j2:=sbyte_in j1
      generalize sbyte s st4=Kst5 at *
      obtain⟨x,st5⟩:=Kst5
      simp only [] at h2 j2 htot
      have hf:Hid (∀W,W.rowIs q 48 3 (sF s st5)→Calls Tryz.prog 16 #[.pointer (some ⟨q,0,none⟩),.int .i64 1506] W fun e' w'=>e'=.returned (.tuple #[])∧Hid (Ss q W w' s (sfail st5 1506))):=fun W hW=>sfail_any 1506 W hW
      have j3:Sin s (sover x st5):=sover_in j2
      have h3:Hid (∀W,W.rowIs q 48 3 (sF s (sover x st5))→Calls Tryz.prog 31 #[.pointer (some ⟨q,0,none⟩)] W fun e' w'=>e'=.returned (.int .i64 (snum s (sover x st5)).1)∧Hid (Ss q W w' s (snum s (sover x st5)).2)):=fun W hW=>snum_any hs W hW
      have hi3:=snum_in j3
      generalize snum s (sover x st5)=Kst3 at *
      obtain⟨y,st3⟩:=Kst3
      simp only [] at h3 hi3 htot
      have hst:Hid (∀w3,Ss q wr w3 s st3→∃g cap' w',(Builtin.append_ #[27,27] 27 #[.slice A d.length cap,.slice (some ⟨w3.heap.size,0,none⟩) 1 1]).run Tryz.prog (w3.alloc (.cells #[.string nm,.int .i64 x,.int .i64 y] 58))=.ok (.slice (some ⟨g,0,none⟩) (d.length+1) cap') w'∧(w3.cell? ⟨p,6,none⟩=some (.slice A d.length cap)∧p<w3.heap.size)∧(w'.cell? ⟨p,6,none⟩=some (.slice A d.length cap)∧w'.frozen? ⟨p,6,none⟩=false∧p<w'.heap.size)∧Lo fEx 58 3 q p 6 w (w'.setCell ⟨p,6,none⟩ (.slice (some ⟨g,0,none⟩) (d.length+1) cap')) s st3 L (.slice (some ⟨g,0,none⟩) (d.length+1) cap') (d++[(nm,x,y)])) :=
       fun w3 R3=>hM.more hq hp hpq hj2 ti_exp 27 ((nm,x,y)) rfl [.string nm,.int .i64 x,.int .i64 y] (by omega) (by omega) R3 ⟨_,_,rfl,rfl,_,_,rfl,rfl,_,_,rfl,rfl,rfl⟩
      have hfin:Hid (d.length+1≤k∧Sin s st3∧srep (sexp s) k st1=((d++[(nm,x,y)])++(srep (sexp s) (k - (d++[(nm,x,y)]).length) st3).1,(srep (sexp s) (k - (d++[(nm,x,y)]).length) st3).2)):=by
       refine⟨hlt,hi3,?_⟩
       rw [show k - (d++[(nm,x,y)]).length=m by rw [List.length_append,List.length_singleton];omega,htot,List.append_assoc]
       rfl
      clear htot hM hi2 hi3 hm2 hd j1 j2 j3
      by_cases hov:3<x
      · rw [show sover x st5=sfail st5 1506 from if_pos hov] at h3
        generalize sfail st5 1506=st6 at *
        go_wp2_with fail
        refine (h1.out _ hS0.out.2).mono ?_
        rintro e1 w1 ⟨rfl,R1⟩
        have C1:Hid (Ss q wr w1 s st4):=hS0.out.trans R1.out
        have z1:wr.heap.size≤w1.heap.size:=R1.out.size
        clear R1
        go_wp2_with fail
        have D1:Hid (Ss q wr (w1.alloc (.cells #[.string nm,.int .i64 0,.int .i64 0] 58)) s st4):=C1.out.later (La (Lz _))
        have Et1:Hid (Rl (w1.alloc (.cells #[.string nm,.int .i64 0,.int .i64 0] 58)) w1.heap.size 58 [.string nm,.int .i64 0,.int .i64 0]):=row_new w1 58 [.string nm,.int .i64 0,.int .i64 0]
        refine (h2.out _ D1.out.2).mono ?_
        rintro e2 w2 ⟨rfl,R2⟩
        have C2:Hid (Ss q wr w2 s st5):=D1.out.trans R2.out
        have Bt2:Hid (Rl w2 w1.heap.size 58 [.string nm,.int .i64 0,.int .i64 0]):=Et1.out.wr R2.out.1 (fun e=>by have e:w1.heap.size=q:=e;have:=z1;omega)
        have z2:w1.heap.size+1≤w2.heap.size:=by have:=R2.out.size;simpa using this
        have a2:w2.cell? ⟨w1.heap.size,1,none⟩=some (.int .i64 0):=Bt2.out.cell 1 rfl
        have b2:w2.frozen? ⟨w1.heap.size,1,none⟩=false:=Bt2.out.frozen 1
        have l3:=Bt2.out.lt
        clear R2
        go_wp2_with fail
        have D4:Hid (Ss q wr (w2.setCell ⟨w1.heap.size,1,none⟩ (.int .i64 x)) s st5):=C2.out.put z1 hl 1 _
        have Et4:Hid (Rl (w2.setCell ⟨w1.heap.size,1,none⟩ (.int .i64 x)) w1.heap.size 58 [.string nm,.int .i64 x,.int .i64 0]):=Bt2.out.set 1 _
        refine (hf.out _ D4.out.2).mono ?_
        rintro e3 w3 ⟨rfl,R3⟩
        have C3:Hid (Ss q wr w3 s st6):=D4.out.trans R3.out
        have Bt3:Hid (Rl w3 w1.heap.size 58 [.string nm,.int .i64 x,.int .i64 0]):=Et4.out.wr R3.out.1 (fun e=>by have e:w1.heap.size=q:=e;have:=z1;omega)
        have z3:w2.heap.size≤w3.heap.size:=by have:=R3.out.size;simpa [World.setCell] using this
        clear R3
        go_wp2_with fail
        refine (h3.out _ C3.out.2).mono ?_
        rintro e4 w4 ⟨rfl,R4⟩
        have C4:Hid (Ss q wr w4 s st3):=C3.out.trans R4.out
        have Bt4:Hid (Rl w4 w1.heap.size 58 [.string nm,.int .i64 x,.int .i64 0]):=Bt3.out.wr R4.out.1 (fun e=>by have e:w1.heap.size=q:=e;have:=z1;omega)
        have z4:w3.heap.size≤w4.heap.size:=by have:=R4.out.size;simpa [World.setCell] using this
        have b3:w4.cell? ⟨p,6,none⟩=some (.slice A d.length cap):=C4.out.keep hpq c3
        have b4:=cell_lt b3
        have y1:p≠w1.heap.size:=by omega
        have a5:w4.cell? ⟨w1.heap.size,0,none⟩=some (.string nm):=Bt4.out.cell 0 rfl
        have b5:w4.frozen? ⟨w1.heap.size,0,none⟩=false:=Bt4.out.frozen 0
        have a6:w4.cell? ⟨w1.heap.size,1,none⟩=some (.int .i64 x):=Bt4.out.cell 1 rfl
        have b6:w4.frozen? ⟨w1.heap.size,1,none⟩=false:=Bt4.out.frozen 1
        have a7:w4.cell? ⟨w1.heap.size,2,none⟩=some (.int .i64 0):=Bt4.out.cell 2 rfl
        have b7:w4.frozen? ⟨w1.heap.size,2,none⟩=false:=Bt4.out.frozen 2
        have l8:=Bt4.out.lt
        clear R4
        go_wp2_with fail
        have D9:Hid (Ss q wr (w4.setCell ⟨w1.heap.size,2,none⟩ (.int .i64 y)) s st3):=C4.out.put z1 hl 2 _
        have Et9:Hid (Rl (w4.setCell ⟨w1.heap.size,2,none⟩ (.int .i64 y)) w1.heap.size 58 [.string nm,.int .i64 x,.int .i64 y]):=Bt4.out.set 2 _
        clear c2 c3 hl3
        obtain⟨g,cap',w',r2,⟨t0,t1⟩,⟨t2,t3,t4⟩,hnx⟩:=hst.out (World.drew (w4.setCell ⟨w1.heap.size,2,none⟩ (.int .i64 y)))  (D9.out.later (Ld (Lz _)))
        rw [show (World.drew (w4.setCell ⟨w1.heap.size,2,none⟩ (.int .i64 y))).heap.size=w4.heap.size by simp [World.drew,World.setCell]] at r2
        replace r2:Hid _:=r2
        replace hnx:Hid (Lo fEx 58 3 q p 6 w (w'.setCell ⟨p,6,none⟩ (.slice (some ⟨g,0,none⟩) (d.length+1) cap')) s st3 L (.slice (some ⟨g,0,none⟩) (d.length+1) cap') (d++[(nm,x,y)])):=hnx
        go_region_law (refine step_app (by rfl) _ _ 27 (by rfl) _ _ _ (by rfl) (by rfl) r2.out ?_)
        all_goals
         clear hst
         go_wp2_with fail
         go_roundw
         case rel=>exact⟨d++[(nm,x,y)],st3,some ⟨g,0,none⟩,cap',by rw [List.length_append];go_num,by rw [List.length_append];exact hfin.out.1,by rw [List.length_append];exact hnx.out,hfin.out.2⟩
         case measure=>simp [intOf];omega
      · rw [show sover x st5=st5 from if_neg hov] at h3
        clear hf
        go_wp2_with fail
        refine (h1.out _ hS0.out.2).mono ?_
        rintro e1 w1 ⟨rfl,R1⟩
        have C1:Hid (Ss q wr w1 s st4):=hS0.out.trans R1.out
        have z1:wr.heap.size≤w1.heap.size:=R1.out.size
        clear R1
        go_wp2_with fail
        have D1:Hid (Ss q wr (w1.alloc (.cells #[.string nm,.int .i64 0,.int .i64 0] 58)) s st4):=C1.out.later (La (Lz _))
        have Et1:Hid (Rl (w1.alloc (.cells #[.string nm,.int .i64 0,.int .i64 0] 58)) w1.heap.size 58 [.string nm,.int .i64 0,.int .i64 0]):=row_new w1 58 [.string nm,.int .i64 0,.int .i64 0]
        refine (h2.out _ D1.out.2).mono ?_
        rintro e2 w2 ⟨rfl,R2⟩
        have C2:Hid (Ss q wr w2 s st5):=D1.out.trans R2.out
        have Bt2:Hid (Rl w2 w1.heap.size 58 [.string nm,.int .i64 0,.int .i64 0]):=Et1.out.wr R2.out.1 (fun e=>by have e:w1.heap.size=q:=e;have:=z1;omega)
        have z2:w1.heap.size+1≤w2.heap.size:=by have:=R2.out.size;simpa using this
        have a2:w2.cell? ⟨w1.heap.size,1,none⟩=some (.int .i64 0):=Bt2.out.cell 1 rfl
        have b2:w2.frozen? ⟨w1.heap.size,1,none⟩=false:=Bt2.out.frozen 1
        have l3:=Bt2.out.lt
        clear R2
        go_wp2_with fail
        have D4:Hid (Ss q wr (w2.setCell ⟨w1.heap.size,1,none⟩ (.int .i64 x)) s st5):=C2.out.put z1 hl 1 _
        have Et4:Hid (Rl (w2.setCell ⟨w1.heap.size,1,none⟩ (.int .i64 x)) w1.heap.size 58 [.string nm,.int .i64 x,.int .i64 0]):=Bt2.out.set 1 _
        refine (h3.out _ D4.out.2).mono ?_
        rintro e3 w3 ⟨rfl,R3⟩
        have C3:Hid (Ss q wr w3 s st3):=D4.out.trans R3.out
        have Bt3:Hid (Rl w3 w1.heap.size 58 [.string nm,.int .i64 x,.int .i64 0]):=Et4.out.wr R3.out.1 (fun e=>by have e:w1.heap.size=q:=e;have:=z1;omega)
        have z3:w2.heap.size≤w3.heap.size:=by have:=R3.out.size;simpa [World.setCell] using this
        have b3:w3.cell? ⟨p,6,none⟩=some (.slice A d.length cap):=C3.out.keep hpq c3
        have b4:=cell_lt b3
        have y1:p≠w1.heap.size:=by omega
        have a5:w3.cell? ⟨w1.heap.size,0,none⟩=some (.string nm):=Bt3.out.cell 0 rfl
        have b5:w3.frozen? ⟨w1.heap.size,0,none⟩=false:=Bt3.out.frozen 0
        have a6:w3.cell? ⟨w1.heap.size,1,none⟩=some (.int .i64 x):=Bt3.out.cell 1 rfl
        have b6:w3.frozen? ⟨w1.heap.size,1,none⟩=false:=Bt3.out.frozen 1
        have a7:w3.cell? ⟨w1.heap.size,2,none⟩=some (.int .i64 0):=Bt3.out.cell 2 rfl
        have b7:w3.frozen? ⟨w1.heap.size,2,none⟩=false:=Bt3.out.frozen 2
        have l8:=Bt3.out.lt
        clear R3
        go_wp2_with fail
        have D9:Hid (Ss q wr (w3.setCell ⟨w1.heap.size,2,none⟩ (.int .i64 y)) s st3):=C3.out.put z1 hl 2 _
        have Et9:Hid (Rl (w3.setCell ⟨w1.heap.size,2,none⟩ (.int .i64 y)) w1.heap.size 58 [.string nm,.int .i64 x,.int .i64 y]):=Bt3.out.set 2 _
        clear c2 c3 hl3
        obtain⟨g,cap',w',r2,⟨t0,t1⟩,⟨t2,t3,t4⟩,hnx⟩:=hst.out (World.drew (w3.setCell ⟨w1.heap.size,2,none⟩ (.int .i64 y)))  (D9.out.later (Ld (Lz _)))
        rw [show (World.drew (w3.setCell ⟨w1.heap.size,2,none⟩ (.int .i64 y))).heap.size=w3.heap.size by simp [World.drew,World.setCell]] at r2
        replace r2:Hid _:=r2
        replace hnx:Hid (Lo fEx 58 3 q p 6 w (w'.setCell ⟨p,6,none⟩ (.slice (some ⟨g,0,none⟩) (d.length+1) cap')) s st3 L (.slice (some ⟨g,0,none⟩) (d.length+1) cap') (d++[(nm,x,y)])):=hnx
        go_region_law (refine step_app (by rfl) _ _ 27 (by rfl) _ _ _ (by rfl) (by rfl) r2.out ?_)
        all_goals
         clear hst
         go_wp2_with fail
         go_roundw
         case rel=>exact⟨d++[(nm,x,y)],st3,some ⟨g,0,none⟩,cap',by rw [List.length_append];go_num,by rw [List.length_append];exact hfin.out.1,by rw [List.length_append];exact hnx.out,hfin.out.2⟩
         case measure=>simp [intOf];omega
    · have hc2:(cd==0)=false:=beq_false hc
      rw [srep_bad (sexp s) (k - d.length) ⟨a2,cd⟩ hc,List.append_nil] at htot
      replace htot:Hid (srep (sexp s) k st1=(d,⟨a2,cd⟩)):=htot
      have hfin:Hid (Rt fEx (w.heap.size≤·) wr A d∧Ms q p w wr s ⟨a2,cd⟩ (L.set 6 (.slice A d.length cap))):=⟨hM.2.rt,hM.1⟩
      clear hM hi2
      go_wp2_with fail
      go_end0
      rw [htot.out]
      exact⟨rfl,A,cap,hfin.out.1,hfin.out.2⟩
  · have hl1:¬(d.length:Int)<(k:Int):=by omega
    rw [show k - d.length=0 by omega] at htot
    simp only [srep,List.append_nil] at htot
    replace htot:Hid (srep (sexp s) k st1=(d,⟨a2,cd⟩)):=htot
    have hfin:Hid (Rt fEx (w.heap.size≤·) wr A d∧Ms q p w wr s ⟨a2,cd⟩ (L.set 6 (.slice A d.length cap))):=⟨hM.2.rt,hM.1⟩
    clear hM hi2
    go_wp2_with fail
    go_end0
    rw [htot.out]
    exact⟨rfl,A,cap,hfin.out.1,hfin.out.2⟩
theorem slast8 (hs:s.size<9223372036854775000) (hp:p<w.heap.size) (hpq:p≠q) (x0:Value) (hj:L[7]?=some x0) (h:w.rowIs q 48 3 (sF s st)) (hR:Rl w p 32 L) :
    Calls Tryz.prog 15 #[.pointer (some ⟨q,0,none⟩),.int .i64 8,.pointer (some ⟨p,0,none⟩)] w fun e' w'=>e'=.returned (.tuple #[])∧Hid (Ms q p w w' s (snum s st).2 (L.set 7 (.int .i64 (snum s st).1))):=by
 have hq:=h.lt
 have hx:Hid (∀W,Later w W→Calls Tryz.prog 31 #[.pointer (some ⟨q,0,none⟩)] W fun e' w'=>e'=.returned (.int .i64 (snum s st).1)∧Hid (Ss q W w' s (snum s st).2)):=fun W hW=>snum_any hs W (rowIs_later hW h)
 have M0:Hid (Ms q p w w s st L):=⟨Wr.refl _ _,h,hR⟩
 have c3:w.cell? ⟨p,7,none⟩=some x0:=hR.cell 7 hj
 generalize snum s st=K at *
 obtain⟨x,st1⟩:=K
 simp only [] at hx ⊢
 clear h hR
 go_enter Tryz.func15,Tryz.ntmps15
 go_wp2_with (go_at_call 31;refine (hx.out _ (Lz _)).mono ?_;rintro e1 w1 ⟨rfl,R1⟩;have b3:=R1.out.keep hpq c3;have b4:=cell_lt b3;have b5:=((M0.out.ss R1.out hpq).2.2).frozen 7)
 go_end0
 have M1:=M0.out.ss R1.out hpq
 refine⟨rfl,M1.1.set 7 _ (Or.inl (Or.inr rfl)),M1.2.1.of_block (Below.heap_setCell w1 ⟨p,7,none⟩ _ q (fun e=>hpq (e:q=p).symm)),M1.2.2.set 7 _⟩
