import Derived.Test.YtngciahmoenkiaaGreatEO
set_option linter.unusedVariables false
set_option linter.unusedSimpArgs false
set_option maxRecDepth 100000
set_option maxHeartbeats 4000000
namespace Go.Proofs.YtngciahmoenkiaaGreat
open Go.RowKit
def ssec0 (u:ByteArray) (id:Int) (m:Md) (x:Nat):Md×Sst:=if id=0 then (m,⟨(x:Int),(sname u ⟨0,0⟩).2.code⟩) else ((ssec u id m).1,sclose (x:Int) 0 (ssec u id m).2)
def unL (s:ByteArray):Nat→Nat→Nat→Md→Md×Int
 | 0,_,_,m=>(m,0)
 | n+1,a,b,m =>
  if a<s.size then
   if 11<bt s a then (mdZ 0,1502)
   else if ¬bt s a=0∧bt s a≤(b:Int) then (mdZ 0,1503)
   else if ¬((ulR s ((a:Int)+1) 32).2.2=0∧(ulR s ((a:Int)+1) 32).1≤(s.size:Int) - (ulR s ((a:Int)+1) 32).2.1) then (mdZ 0,1501)
   else if (ssec0 (s.extract (ulR s ((a:Int)+1) 32).2.1.toNat ((ulR s ((a:Int)+1) 32).2.1.toNat+(ulR s ((a:Int)+1) 32).1.toNat)) (bt s a) m (ulR s ((a:Int)+1) 32).1.toNat).2.code=0 then
    unL s n ((ulR s ((a:Int)+1) 32).2.1.toNat+(ulR s ((a:Int)+1) 32).1.toNat) (if bt s a=0 then b else (bt s a).toNat) (ssec0 (s.extract (ulR s ((a:Int)+1) 32).2.1.toNat ((ulR s ((a:Int)+1) 32).2.1.toNat+(ulR s ((a:Int)+1) 32).1.toNat)) (bt s a) m (ulR s ((a:Int)+1) 32).1.toNat).1
   else (mdZ 0,(ssec0 (s.extract (ulR s ((a:Int)+1) 32).2.1.toNat ((ulR s ((a:Int)+1) 32).2.1.toNat+(ulR s ((a:Int)+1) 32).1.toNat)) (bt s a) m (ulR s ((a:Int)+1) 32).1.toNat).2.code)
  else if m.fu.length=m.co.length then (m,0) else (mdZ 0,1505)
def unM (s:ByteArray):Md×Int:=if 65536<s.size then (mdZ 0,1508) else if s.size<8∨¬(s.extract 0 8).toList=[0,97,115,109,1,0,0,0] then (mdZ 0,1500) else unL s s.size 8 0 (mdZ (-1))
def UnP (w:World) (r:Md×Int) (e:Ending) (w':World):Prop:=∃L:List Value,e=.returned (.tuple #[.agg L.toArray,.int .i64 r.2])∧ModC (w.heap.size≤·) w' r.1 L∧Later w w'
theorem wrap_add (a b c:Nat) (h:a+b≤c) (hc:c≤65536):wrap64 ((a:Int)+(b:Int))=(a:Int)+(b:Int):=by unfold wrap64;omega
theorem ul_gt (s:ByteArray) (at_:Int) (h:(ulR s at_ 32).2.2=0):at_<(ulR s at_ 32).2.1:=by
 by_cases hp:(ptR s at_ 32).2=0
 · obtain⟨a,k,m,rfl,hb,h1,h2,h3,h4,h5⟩:=ptR_in hp
   have hp2:ptR s (a:Int) 32=((k:Int),0):=Prod.ext h1 hp
   unfold ulR at h ⊢
   rw [hp2,if_pos rfl] at h ⊢
   split at h
   · simp at h
   · rename_i hc
     rw [if_neg hc]
     show (a:Int)<(k:Int)+1
     omega
 · unfold ulR at h
   rw [if_neg hp] at h
   exact absurd h hp
theorem unmodule_any (s:ByteArray) (hs:s.size<9223372036854775000) (w:World):Calls Tryz.prog 5 #[.string s] w fun e w'=>Hid (UnP w (unM s) e w'):=by
 have Y0:Hid (Rl ((w.alloc (.cells #[.slice none 0 0,.slice none 0 0,.slice none 0 0,.slice none 0 0,.slice none 0 0,.slice none 0 0,.slice none 0 0,.int .i64 0,.slice none 0 0,.slice none 0 0,.slice none 0 0] 32)).alloc (.cells #[.slice none 0 0,.slice none 0 0,.slice none 0 0,.slice none 0 0,.slice none 0 0,.slice none 0 0,.slice none 0 0,.int .i64 (-1),.slice none 0 0,.slice none 0 0,.slice none 0 0] 32)) w.heap.size 32 [.slice none 0 0,.slice none 0 0,.slice none 0 0,.slice none 0 0,.slice none 0 0,.slice none 0 0,.slice none 0 0,.int .i64 0,.slice none 0 0,.slice none 0 0,.slice none 0 0]):=Rl.later (row_new w 32 [.slice none 0 0,.slice none 0 0,.slice none 0 0,.slice none 0 0,.slice none 0 0,.slice none 0 0,.slice none 0 0,.int .i64 0,.slice none 0 0,.slice none 0 0,.slice none 0 0]) (La (Lz _))
 have X0:Hid (Rl ((w.alloc (.cells #[.slice none 0 0,.slice none 0 0,.slice none 0 0,.slice none 0 0,.slice none 0 0,.slice none 0 0,.slice none 0 0,.int .i64 0,.slice none 0 0,.slice none 0 0,.slice none 0 0] 32)).alloc (.cells #[.slice none 0 0,.slice none 0 0,.slice none 0 0,.slice none 0 0,.slice none 0 0,.slice none 0 0,.slice none 0 0,.int .i64 (-1),.slice none 0 0,.slice none 0 0,.slice none 0 0] 32)) (w.heap.size+1) 32 [.slice none 0 0,.slice none 0 0,.slice none 0 0,.slice none 0 0,.slice none 0 0,.slice none 0 0,.slice none 0 0,.int .i64 (-1),.slice none 0 0,.slice none 0 0,.slice none 0 0]):=by
  have:=row_new (w.alloc (.cells #[.slice none 0 0,.slice none 0 0,.slice none 0 0,.slice none 0 0,.slice none 0 0,.slice none 0 0,.slice none 0 0,.int .i64 0,.slice none 0 0,.slice none 0 0,.slice none 0 0] 32)) 32 [.slice none 0 0,.slice none 0 0,.slice none 0 0,.slice none 0 0,.slice none 0 0,.slice none 0 0,.slice none 0 0,.int .i64 (-1),.slice none 0 0,.slice none 0 0,.slice none 0 0]
  rwa [show (w.alloc (.cells #[.slice none 0 0,.slice none 0 0,.slice none 0 0,.slice none 0 0,.slice none 0 0,.slice none 0 0,.slice none 0 0,.int .i64 0,.slice none 0 0,.slice none 0 0,.slice none 0 0] 32)).heap.size=w.heap.size+1 by simp] at this
 have L0:Hid (Later w ((w.alloc (.cells #[.slice none 0 0,.slice none 0 0,.slice none 0 0,.slice none 0 0,.slice none 0 0,.slice none 0 0,.slice none 0 0,.int .i64 0,.slice none 0 0,.slice none 0 0,.slice none 0 0] 32)).alloc (.cells #[.slice none 0 0,.slice none 0 0,.slice none 0 0,.slice none 0 0,.slice none 0 0,.slice none 0 0,.slice none 0 0,.int .i64 (-1),.slice none 0 0,.slice none 0 0,.slice none 0 0] 32))):=La (La (Lz _))
 have hz0:Hid (w.heap.size+2≤((w.alloc (.cells #[.slice none 0 0,.slice none 0 0,.slice none 0 0,.slice none 0 0,.slice none 0 0,.slice none 0 0,.slice none 0 0,.int .i64 0,.slice none 0 0,.slice none 0 0,.slice none 0 0] 32)).alloc (.cells #[.slice none 0 0,.slice none 0 0,.slice none 0 0,.slice none 0 0,.slice none 0 0,.slice none 0 0,.slice none 0 0,.int .i64 (-1),.slice none 0 0,.slice none 0 0,.slice none 0 0] 32)).heap.size):=by show _≤_;simp
 unfold unM
 by_cases h1:65536<s.size
 · rw [if_pos h1]
   have h2:(65536:Int)<(s.size:Int):=by omega
   clear h1
   go_enter Tryz.func5,Tryz.ntmps5
   go_wp2_with fail
   refine bodyPost_ret (v:=.tuple #[.agg #[.slice none 0 0,.slice none 0 0,.slice none 0 0,.slice none 0 0,.slice none 0 0,.slice none 0 0,.slice none 0 0,.int .i64 0,.slice none 0 0,.slice none 0 0,.slice none 0 0],.int .i64 1508]) (by simp [results,Tryz.results5,go_sem]) rfl ?_
   exact⟨[.slice none 0 0,.slice none 0 0,.slice none 0 0,.slice none 0 0,.slice none 0 0,.slice none 0 0,.slice none 0 0,.int .i64 0,.slice none 0 0,.slice none 0 0,.slice none 0 0],rfl,ModC.zero _ _ 0,L0.out⟩
 rw [if_neg h1]
 by_cases h8:s.size<8
 · rw [if_pos (Or.inl h8)]
   have h2:¬(65536:Int)<(s.size:Int):=by omega
   have h3:(s.size:Int)<8:=by omega
   clear h1 h8
   go_enter Tryz.func5,Tryz.ntmps5
   go_wp2_with fail
   refine bodyPost_ret (v:=.tuple #[.agg #[.slice none 0 0,.slice none 0 0,.slice none 0 0,.slice none 0 0,.slice none 0 0,.slice none 0 0,.slice none 0 0,.int .i64 0,.slice none 0 0,.slice none 0 0,.slice none 0 0],.int .i64 1500]) (by simp [results,Tryz.results5,go_sem]) rfl ?_
   exact⟨[.slice none 0 0,.slice none 0 0,.slice none 0 0,.slice none 0 0,.slice none 0 0,.slice none 0 0,.slice none 0 0,.int .i64 0,.slice none 0 0,.slice none 0 0,.slice none 0 0],rfl,ModC.zero _ _ 0,L0.out⟩
 by_cases hh:(s.extract 0 8).toList=[0,97,115,109,1,0,0,0]
 · rw [if_neg (fun x=>x.elim h8 (fun y=>y hh))]
   have h2:¬(65536:Int)<(s.size:Int):=by omega
   have h3:¬(s.size:Int)<8:=by omega
   have h4:(8:Int)≤(s.size:Int):=by omega
   have hsz:s.size≤65536:=by omega
   clear h1 h8
   go_enter Tryz.func5,Tryz.ntmps5
   go_wp2_with fail
   have hLL:Wr (w.heap.size≤·) w ((w.alloc (.cells #[.slice none 0 0,.slice none 0 0,.slice none 0 0,.slice none 0 0,.slice none 0 0,.slice none 0 0,.slice none 0 0,.int .i64 0,.slice none 0 0,.slice none 0 0,.slice none 0 0] 32)).alloc (.cells #[.slice none 0 0,.slice none 0 0,.slice none 0 0,.slice none 0 0,.slice none 0 0,.slice none 0 0,.slice none 0 0,.int .i64 (-1),.slice none 0 0,.slice none 0 0,.slice none 0 0] 32)):=Wr.of_later L0.out
   clear h2 h3 hh
   go_loopw [5,6] (fun bv av wr=>∃(n a b:Nat) (m:Md) (L:List Value),bv=.int .i64 (b:Nat)∧av=.int .i64 (a:Nat)∧a≤s.size∧b≤11∧s.size<a+n∧Rl wr w.heap.size 32 [.slice none 0 0,.slice none 0 0,.slice none 0 0,.slice none 0 0,.slice none 0 0,.slice none 0 0,.slice none 0 0,.int .i64 0,.slice none 0 0,.slice none 0 0,.slice none 0 0]∧Rl wr (w.heap.size+1) 32 L∧ModC (w.heap.size+2≤·) wr m L∧Wr (w.heap.size≤·) w wr∧w.heap.size+2≤wr.heap.size∧(∀i,b<i→i≤11→i≠8→L[i - 1]?=some (.slice none 0 0))∧unL s s.size 8 0 (mdZ (-1))=unL s n a b m) (fun _ av _=>s.size - (intOf av).toNat)
   case atStart =>
    refine⟨s.size,8,0,mdZ (-1),_,rfl,rfl,by omega,by omega,by omega,Y0.out,X0.out,ModC.zero _ _ (-1),hLL,hz0.out,fun i h1 h2 h3=>?_,rfl⟩
    have:i=1∨i=2∨i=3∨i=4∨i=5∨i=6∨i=7∨i=9∨i=10∨i=11:=by omega
    rcases this with rfl|rfl|rfl|rfl|rfl|rfl|rfl|rfl|rfl|rfl <;> rfl
   case round =>
    obtain⟨n,a,b,m,L,rfl,rfl,ha,hb,hn,hY,hX,hC,hW,hB,hE,htot⟩:=hrel
    clear Y0 X0 L0 hz0 hLL
    by_cases hlt:a<s.size
    · have hl1:(a:Int)<(s.size:Int):=by omega
      obtain⟨n',rfl⟩:∃n',n=n'+1:=⟨n - 1,by omega⟩
      rw [unL,if_pos hlt] at htot
      have hbt:bt s a=(s[a].toNat:Int):=dif_pos hlt
      have hwr:wrap64 (s[a].toNat:Int)=(s[a].toNat:Int):=by have:=s[a].toNat_lt;unfold wrap64;omega
      rw [hbt] at htot
      have hidl:s[a].toNat<256:=s[a].toNat_lt
      obtain⟨idn,hidn⟩:∃i,i=s[a].toNat:=⟨_,rfl⟩
      rw [←hidn] at htot hidl
      rw [←hidn] at hwr
      have hidn2:s[a].toNat=idn:=hidn.symm
      clear hidn hbt
      have y0:wr.cell? ⟨w.heap.size,0,none⟩=some (.slice none 0 0):=hY.cell 0 rfl
      have yf0:wr.frozen? ⟨w.heap.size,0,none⟩=false:=hY.frozen 0
      have y1:wr.cell? ⟨w.heap.size,1,none⟩=some (.slice none 0 0):=hY.cell 1 rfl
      have yf1:wr.frozen? ⟨w.heap.size,1,none⟩=false:=hY.frozen 1
      have y2:wr.cell? ⟨w.heap.size,2,none⟩=some (.slice none 0 0):=hY.cell 2 rfl
      have yf2:wr.frozen? ⟨w.heap.size,2,none⟩=false:=hY.frozen 2
      have y3:wr.cell? ⟨w.heap.size,3,none⟩=some (.slice none 0 0):=hY.cell 3 rfl
      have yf3:wr.frozen? ⟨w.heap.size,3,none⟩=false:=hY.frozen 3
      have y4:wr.cell? ⟨w.heap.size,4,none⟩=some (.slice none 0 0):=hY.cell 4 rfl
      have yf4:wr.frozen? ⟨w.heap.size,4,none⟩=false:=hY.frozen 4
      have y5:wr.cell? ⟨w.heap.size,5,none⟩=some (.slice none 0 0):=hY.cell 5 rfl
      have yf5:wr.frozen? ⟨w.heap.size,5,none⟩=false:=hY.frozen 5
      have y6:wr.cell? ⟨w.heap.size,6,none⟩=some (.slice none 0 0):=hY.cell 6 rfl
      have yf6:wr.frozen? ⟨w.heap.size,6,none⟩=false:=hY.frozen 6
      have y7:wr.cell? ⟨w.heap.size,7,none⟩=some (.int .i64 0):=hY.cell 7 rfl
      have yf7:wr.frozen? ⟨w.heap.size,7,none⟩=false:=hY.frozen 7
      have y8:wr.cell? ⟨w.heap.size,8,none⟩=some (.slice none 0 0):=hY.cell 8 rfl
      have yf8:wr.frozen? ⟨w.heap.size,8,none⟩=false:=hY.frozen 8
      have y9:wr.cell? ⟨w.heap.size,9,none⟩=some (.slice none 0 0):=hY.cell 9 rfl
      have yf9:wr.frozen? ⟨w.heap.size,9,none⟩=false:=hY.frozen 9
      have y10:wr.cell? ⟨w.heap.size,10,none⟩=some (.slice none 0 0):=hY.cell 10 rfl
      have yf10:wr.frozen? ⟨w.heap.size,10,none⟩=false:=hY.frozen 10
      have yl:=cell_lt y0
      by_cases h11:(11:Int)<(idn:Int)
      · rw [if_pos h11] at htot
        replace htot:Hid (unL s s.size 8 0 (mdZ (-1))=(mdZ 0,1502)):=htot
        replace hW:Hid (Wr (w.heap.size≤·) w wr):=hW
        clear hX hY hC hE hn
        go_wp2_with fail
        refine bodyPost_ret (v:=.tuple #[.agg #[.slice none 0 0,.slice none 0 0,.slice none 0 0,.slice none 0 0,.slice none 0 0,.slice none 0 0,.slice none 0 0,.int .i64 0,.slice none 0 0,.slice none 0 0,.slice none 0 0],.int .i64 1502]) (by simp [results,Tryz.results5,go_sem,y0,y1,y2,y3,y4,y5,y6,y7,y8,y9,y10,yl]) rfl ?_
        rw [htot.out]
        exact⟨[.slice none 0 0,.slice none 0 0,.slice none 0 0,.slice none 0 0,.slice none 0 0,.slice none 0 0,.slice none 0 0,.int .i64 0,.slice none 0 0,.slice none 0 0,.slice none 0 0],rfl,ModC.zero _ _ 0,Wr.later (S:=(w.heap.size≤·)) (by (repeat refine Wr.set ?_ _ _ (Or.inl (Nat.le_refl _)));first|exact hW.out|exact Wr.ltr hW.out (Ld (Lz _))) (fun k hk=>hk)⟩
      rw [if_neg h11] at htot
      have h12:idn≤11:=by omega
      by_cases hord:¬(idn:Int)=0∧(idn:Int)≤(b:Int)
      · rw [if_pos hord] at htot
        replace htot:Hid (unL s s.size 8 0 (mdZ (-1))=(mdZ 0,1503)):=htot
        replace hW:Hid (Wr (w.heap.size≤·) w wr):=hW
        have ho1:((idn:Int) != 0)=true:=by simpa using hord.1
        have ho2:(idn:Int)≤(b:Int):=hord.2
        clear hX hY hC hE hn hord
        go_wp2_with fail
        refine bodyPost_ret (v:=.tuple #[.agg #[.slice none 0 0,.slice none 0 0,.slice none 0 0,.slice none 0 0,.slice none 0 0,.slice none 0 0,.slice none 0 0,.int .i64 0,.slice none 0 0,.slice none 0 0,.slice none 0 0],.int .i64 1503]) (by simp [results,Tryz.results5,go_sem,y0,y1,y2,y3,y4,y5,y6,y7,y8,y9,y10,yl]) rfl ?_
        rw [htot.out]
        exact⟨[.slice none 0 0,.slice none 0 0,.slice none 0 0,.slice none 0 0,.slice none 0 0,.slice none 0 0,.slice none 0 0,.int .i64 0,.slice none 0 0,.slice none 0 0,.slice none 0 0],rfl,ModC.zero _ _ 0,Wr.later (S:=(w.heap.size≤·)) (by (repeat refine Wr.set ?_ _ _ (Or.inl (Nat.le_refl _)));first|exact hW.out|exact Wr.ltr hW.out (Ld (Lz _))) (fun k hk=>hk)⟩
      rw [if_neg hord] at htot
      have hu:Hid (∀W,Calls Tryz.prog 12 #[.string s,.int .i64 ((a:Int)+1),.int .i64 32] W fun e w'=>e=.returned (.tuple #[.int .i64 (ulR s ((a:Int)+1) 32).1,.int .i64 (ulR s ((a:Int)+1) 32).2.1,.int .i64 (ulR s ((a:Int)+1) 32).2.2])∧w'=W):=unleb_any s hs ((a:Int)+1) 32
      have hur:=ul_rng s ((a:Int)+1)
      have hug:=ul_gt s ((a:Int)+1)
      generalize ulR s ((a:Int)+1) 32=X at *
      obtain⟨x,to,e⟩:=X
      simp only [] at hu hur hug htot
      replace hwr:Hid (wrap64 (idn:Int)=(idn:Int)):=hwr
      have hord1:idn=0∨b<idn:=by omega
      have hguard:(((idn:Int) != 0)=false)∨(((idn:Int) != 0)=true∧¬(idn:Int)≤(b:Int)):=by
       rcases hord1 with h0|h0
       · left;rw [h0];rfl
       · right;exact⟨by simp;omega,by omega⟩
      clear hord
      have hL:(idn=0∧((idn:Int) != 0)=false)∨(b<idn∧((idn:Int) != 0)=true∧¬(idn:Int)≤(b:Int)):=by
       rcases hord1 with h0|h0
       · left;exact⟨h0,by rw [h0];rfl⟩
       · right;exact⟨h0,by simp;omega,by omega⟩
      clear hguard hord1
      replace hwr:=hwr.out
      by_cases he:¬(e=0∧x≤(s.size:Int) - to)
      · rw [if_pos he] at htot
        replace htot:Hid (unL s s.size 8 0 (mdZ (-1))=(mdZ 0,1501)):=htot
        replace hW:Hid (Wr (w.heap.size≤·) w wr):=hW
        clear hX hY hC hE hn
        have hcase:((e != 0)=true)∨((e != 0)=false∧0≤to∧to≤(s.size:Int)∧(s.size:Int) - to<x):=by
         by_cases e0:e=0
         · right
           have:=hur e0
           exact⟨by rw [e0];rfl,this.2.2.1,this.2.2.2,by omega⟩
         · left;simpa using e0
        clear he hur hug
        rcases hL with ⟨_,g1⟩|⟨_,g1,g2⟩ <;> rcases hcase with k1|⟨k1,k2,k3,k4⟩
        all_goals
         go_wp2_with (go_at_call 12;refine (hu.out _).mono ?_;rintro e9 w' ⟨rfl,hw⟩;obtain rfl:wr=w':=hw.symm)
         refine bodyPost_ret (v:=.tuple #[.agg #[.slice none 0 0,.slice none 0 0,.slice none 0 0,.slice none 0 0,.slice none 0 0,.slice none 0 0,.slice none 0 0,.int .i64 0,.slice none 0 0,.slice none 0 0,.slice none 0 0],.int .i64 1501]) (by simp [results,Tryz.results5,go_sem,y0,y1,y2,y3,y4,y5,y6,y7,y8,y9,y10,yl]) rfl ?_
         rw [htot.out]
         exact⟨[.slice none 0 0,.slice none 0 0,.slice none 0 0,.slice none 0 0,.slice none 0 0,.slice none 0 0,.slice none 0 0,.int .i64 0,.slice none 0 0,.slice none 0 0,.slice none 0 0],rfl,ModC.zero _ _ 0,Wr.later (S:=(w.heap.size≤·)) (by (repeat refine Wr.set ?_ _ _ (Or.inl (Nat.le_refl _)));first|exact hW.out|exact Wr.ltr hW.out (Ld (Lz _))) (fun k hk=>hk)⟩
      rw [if_neg he] at htot
      replace hwr:Hid (wrap64 (idn:Int)=(idn:Int)):=hwr
      obtain⟨rfl,hxt⟩:e=0∧x≤(s.size:Int) - to:=Classical.not_not.1 he
      obtain⟨r1,r2,r3,r4⟩:=hur rfl
      have hgt:=hug rfl
      clear he hur hug
      obtain⟨xn,rfl⟩:=Int.eq_ofNat_of_zero_le r1
      obtain⟨tn,rfl⟩:=Int.eq_ofNat_of_zero_le r3
      simp only [Int.toNat_natCast] at htot
      have hsl:=sl_eq s tn xn (by omega)
      have hxt1:¬(s.size:Int) - (tn:Int)<(xn:Int):=by omega
      have hgt2:a+1<tn:=by omega
      have htx:tn+xn≤s.size:=by omega
      have hu9:(s.extract tn (tn+xn)).size<9223372036854775000:=by rw [ByteArray.size_extract];omega
      have hwk:wrap64 ((tn:Int)+(xn:Int))=(tn:Int)+(xn:Int):=wrap_add tn xn s.size htx hsz
      replace hwr:=hwr.out
      have hq0:Hid ((wr.alloc (.cells #[.string (s.extract tn (tn+xn)),.int .i64 0,.int .i64 0] 48)).rowIs wr.heap.size 48 3 (sF (s.extract tn (tn+xn)) ⟨0,0⟩)):=row_new wr 48 [.string (s.extract tn (tn+xn)),.int .i64 0,.int .i64 0]
      have X1:Hid (Rl (wr.alloc (.cells #[.string (s.extract tn (tn+xn)),.int .i64 0,.int .i64 0] 48)) (w.heap.size+1) 32 L):=hX.later (La (Lz _))
      have Y1:Hid (Rl (wr.alloc (.cells #[.string (s.extract tn (tn+xn)),.int .i64 0,.int .i64 0] 48)) w.heap.size 32 [.slice none 0 0,.slice none 0 0,.slice none 0 0,.slice none 0 0,.slice none 0 0,.slice none 0 0,.slice none 0 0,.int .i64 0,.slice none 0 0,.slice none 0 0,.slice none 0 0]):=hY.later (La (Lz _))
      have V1:Hid (Wr (w.heap.size≤·) w (wr.alloc (.cells #[.string (s.extract tn (tn+xn)),.int .i64 0,.int .i64 0] 48))):=hW.ltr (La (Lz _))
      have C1:Hid (ModC (fun k=>w.heap.size+2≤k∧k<wr.heap.size) (wr.alloc (.cells #[.string (s.extract tn (tn+xn)),.int .i64 0,.int .i64 0] 48)) m L):=hC.move (fun k hk hl=>⟨⟨hk,hl⟩,(La (Lz _):Later wr (wr.alloc (.cells #[.string (s.extract tn (tn+xn)),.int .i64 0,.int .i64 0] 48))).block hl⟩)
      clear hX hY hC hW r1 r2 r3 r4 hxt hgt
      rcases hL with ⟨hid0,g1⟩|⟨hid1,g1,g2⟩
      · subst hid0
        clear y0 yf0 y1 yf1 y2 yf2 y3 yf3 y4 yf4 y5 yf5 y6 yf6 y7 yf7 y8 yf8 y9 yf9 y10 yf10 yl
        have nq1:wr.heap.size≠w.heap.size:=by clear hwr hwk hsl;omega
        have nq2:wr.heap.size≠w.heap.size+1:=by clear hwr hwk hsl;omega
        have hqw:w.heap.size≤wr.heap.size:=by clear hwr hwk hsl;omega
        have hs1:wr.heap.size+1=(wr.alloc (.cells #[.string (s.extract tn (tn+xn)),.int .i64 0,.int .i64 0] 48)).heap.size:=by simp
        have hnm:Hid (Calls Tryz.prog 13 #[.pointer (some ⟨wr.heap.size,0,none⟩)] (wr.alloc (.cells #[.string (s.extract tn (tn+xn)),.int .i64 0,.int .i64 0] 48)) fun e' w'=>e'=.returned (.string (sname (s.extract tn (tn+xn)) ⟨0,0⟩).1)∧Hid (Ss wr.heap.size (wr.alloc (.cells #[.string (s.extract tn (tn+xn)),.int .i64 0,.int .i64 0] 48)) w' (s.extract tn (tn+xn)) (sname (s.extract tn (tn+xn)) ⟨0,0⟩).2)):=sname_any hu9 (wr.alloc (.cells #[.string (s.extract tn (tn+xn)),.int .i64 0,.int .i64 0] 48)) hq0.out
        rw [show ssec0 (s.extract tn (tn+xn)) ((0:Nat):Int) m xn=(m,⟨(xn:Int),(sname (s.extract tn (tn+xn)) ⟨0,0⟩).2.code⟩) from if_pos rfl] at htot
        simp only [] at htot
        rw [if_pos (show ((0:Nat):Int)=0 from rfl)] at htot
        obtain⟨⟨nm,a3,c3⟩,hK⟩:∃K,sname (s.extract tn (tn+xn)) ⟨0,0⟩=K:=⟨_,rfl⟩
        rw [hK] at hnm htot
        simp only [] at hnm htot
        have hnx:Hid (∀w2,Ss wr.heap.size (wr.alloc (.cells #[.string (s.extract tn (tn+xn)),.int .i64 0,.int .i64 0] 48)) w2 (s.extract tn (tn+xn)) ⟨a3,c3⟩→Rl w2 w.heap.size 32 [.slice none 0 0,.slice none 0 0,.slice none 0 0,.slice none 0 0,.slice none 0 0,.slice none 0 0,.slice none 0 0,.int .i64 0,.slice none 0 0,.slice none 0 0,.slice none 0 0]∧(Rl (w2.setCell ⟨wr.heap.size,1,none⟩ (.int .i64 (xn:Int))) w.heap.size 32 [.slice none 0 0,.slice none 0 0,.slice none 0 0,.slice none 0 0,.slice none 0 0,.slice none 0 0,.slice none 0 0,.int .i64 0,.slice none 0 0,.slice none 0 0,.slice none 0 0]∧Rl (w2.setCell ⟨wr.heap.size,1,none⟩ (.int .i64 (xn:Int))) (w.heap.size+1) 32 L∧ModC (w.heap.size+2≤·) (w2.setCell ⟨wr.heap.size,1,none⟩ (.int .i64 (xn:Int))) m L∧Wr (w.heap.size≤·) w (w2.setCell ⟨wr.heap.size,1,none⟩ (.int .i64 (xn:Int)))∧w.heap.size+2≤(w2.setCell ⟨wr.heap.size,1,none⟩ (.int .i64 (xn:Int))).heap.size)):=by
         clear hwr hwk hsl hidn2 htot hnm
         intro w2 R2
         have Y2:=Y1.out.wr R2.1 (fun e=>nq1 (e:w.heap.size=wr.heap.size).symm)
         have X2:=X1.out.wr R2.1 (fun e=>nq2 (e:w.heap.size+1=wr.heap.size).symm)
         refine⟨Y2,Y2.off 1 _ (fun e=>nq1 e.symm),X2.off 1 _ (fun e=>nq2 e.symm),?_,?_,?_⟩
         · refine C1.out.move (fun k hk hl=>⟨hk.1,?_⟩)
           have hkq:k≠wr.heap.size:=fun e=>by have:=hk.2;omega
           exact (Below.heap_setCell w2 ⟨wr.heap.size,1,none⟩ _ k (fun e=>hkq e)).trans (R2.1.block k hl hkq)
         · exact (V1.out.trans (R2.1.mono (fun k _ e=>by have e:k=wr.heap.size:=e;show w.heap.size≤k;omega))).set 1 _ (Or.inl hqw)
         · have:=R2.size
           simp [World.setCell]
           omega
        clear C1 X1 Y1 V1 hq0 hK hs1 hqw hu9 h12 hidl h11
        replace hn:Hid (s.size<a+(n'+1)):=hn
        replace hgt2:Hid (a+1<tn):=hgt2
        replace htx:Hid (tn+xn≤s.size):=htx
        by_cases hc3:c3=0
        · subst hc3
          rw [if_pos rfl] at htot
          replace htot:Hid (unL s s.size 8 0 (mdZ (-1))=unL s n' (tn+xn) b m):=htot
          replace hE:Hid (∀i,b<i→i≤11→i≠8→L[i - 1]?=some (.slice none 0 0)):=hE
          replace hsl:Hid _:=hsl
          replace hwk:Hid (wrap64 ((tn:Int)+(xn:Int))=(tn:Int)+(xn:Int)):=hwk
          replace hxt1:Hid (¬(s.size:Int) - (tn:Int)<(xn:Int)):=hxt1
          replace nq1:Hid (wr.heap.size≠w.heap.size):=nq1
          replace nq2:Hid (wr.heap.size≠w.heap.size+1):=nq2
          go_wp2_with fail
          refine (hu.out _).mono ?_
          rintro e8 w' ⟨rfl,hw⟩
          obtain rfl:wr=w':=hw.symm
          clear hu hwr hidn2
          replace hsl:=hsl.out
          replace hwk:=hwk.out
          replace hxt1:=hxt1.out
          replace nq1:=nq1.out
          replace nq2:=nq2.out
          go_wp2_with fail
          refine hnm.out.mono ?_
          rintro e9 w2 ⟨rfl,R2⟩
          have k1:w2.cell? ⟨wr.heap.size,1,none⟩=some (.int .i64 a3):=R2.out.cell 1 (by decide)
          have k2:w2.cell? ⟨wr.heap.size,2,none⟩=some (.int .i64 0):=R2.out.cell 2 (by decide)
          have k3:=R2.out.frozen 1
          have k4:=cell_lt k1
          go_wp2_with fail
          have hnx2:=(hnx.out w2 R2.out).2
          go_roundw
          case rel=>exact⟨n',tn+xn,b,m,L,rfl,by push_cast;rfl,htx.out,hb,by have q1:=hn.out;have q2:=hgt2.out;clear hwk hsl;omega,hnx2.1,hnx2.2.1,hnx2.2.2.1,hnx2.2.2.2.1,hnx2.2.2.2.2,hE.out,htot.out⟩
          case measure =>
           have q2:=hgt2.out
           have q3:=htx.out
           clear hwk hsl
           simp [intOf]
           omega
        · rw [if_neg hc3] at htot
          replace htot:Hid (unL s s.size 8 0 (mdZ (-1))=(mdZ 0,c3)):=htot
          have hc4:(c3==0)=false:=beq_false hc3
          have hc5:(c3 != 0)=true:=by simpa using hc3
          clear hE hc3
          replace hsl:Hid _:=hsl
          replace hwk:Hid (wrap64 ((tn:Int)+(xn:Int))=(tn:Int)+(xn:Int)):=hwk
          replace hxt1:Hid (¬(s.size:Int) - (tn:Int)<(xn:Int)):=hxt1
          replace nq1:Hid (wr.heap.size≠w.heap.size):=nq1
          replace nq2:Hid (wr.heap.size≠w.heap.size+1):=nq2
          go_wp2_with fail
          refine (hu.out _).mono ?_
          rintro e8 w' ⟨rfl,hw⟩
          obtain rfl:wr=w':=hw.symm
          clear hu hwr hidn2
          replace hsl:=hsl.out
          replace hwk:=hwk.out
          replace hxt1:=hxt1.out
          replace nq1:=nq1.out
          replace nq2:=nq2.out
          go_wp2_with fail
          refine hnm.out.mono ?_
          rintro e9 w2 ⟨rfl,R2⟩
          have k1:w2.cell? ⟨wr.heap.size,1,none⟩=some (.int .i64 a3):=R2.out.cell 1 (by decide)
          have k2:w2.cell? ⟨wr.heap.size,2,none⟩=some (.int .i64 c3):=R2.out.cell 2 (by decide)
          have k3:=R2.out.frozen 1
          have k4:=cell_lt k1
          skip
          go_wp2_with fail
          refine at_world ?_
          intro W hW
          have YW:Rl W w.heap.size 32 [.slice none 0 0,.slice none 0 0,.slice none 0 0,.slice none 0 0,.slice none 0 0,.slice none 0 0,.slice none 0 0,.int .i64 0,.slice none 0 0,.slice none 0 0,.slice none 0 0]:=by rw [hW];exact (hnx.out w2 R2.out).2.1
          have VW:Hid (Wr (w.heap.size≤·) w W):=by rw [hW];exact (hnx.out w2 R2.out).2.2.2.2.1
          have kW:W.cell? ⟨wr.heap.size,2,none⟩=some (.int .i64 c3):=by rw [hW];exact ((R2.out.set (st':=⟨(xn:Int),c3⟩) 1 _ sset1).cell 2 (by decide))
          clear hW
          clear hwk hsl
          have z0:W.cell? ⟨w.heap.size,0,none⟩=some (.slice none 0 0):=YW.cell 0 rfl
          have zf0:W.frozen? ⟨w.heap.size,0,none⟩=false:=YW.frozen 0
          have z1:W.cell? ⟨w.heap.size,1,none⟩=some (.slice none 0 0):=YW.cell 1 rfl
          have zf1:W.frozen? ⟨w.heap.size,1,none⟩=false:=YW.frozen 1
          have z2:W.cell? ⟨w.heap.size,2,none⟩=some (.slice none 0 0):=YW.cell 2 rfl
          have zf2:W.frozen? ⟨w.heap.size,2,none⟩=false:=YW.frozen 2
          have z3:W.cell? ⟨w.heap.size,3,none⟩=some (.slice none 0 0):=YW.cell 3 rfl
          have zf3:W.frozen? ⟨w.heap.size,3,none⟩=false:=YW.frozen 3
          have z4:W.cell? ⟨w.heap.size,4,none⟩=some (.slice none 0 0):=YW.cell 4 rfl
          have zf4:W.frozen? ⟨w.heap.size,4,none⟩=false:=YW.frozen 4
          have z5:W.cell? ⟨w.heap.size,5,none⟩=some (.slice none 0 0):=YW.cell 5 rfl
          have zf5:W.frozen? ⟨w.heap.size,5,none⟩=false:=YW.frozen 5
          have z6:W.cell? ⟨w.heap.size,6,none⟩=some (.slice none 0 0):=YW.cell 6 rfl
          have zf6:W.frozen? ⟨w.heap.size,6,none⟩=false:=YW.frozen 6
          have z7:W.cell? ⟨w.heap.size,7,none⟩=some (.int .i64 0):=YW.cell 7 rfl
          have zf7:W.frozen? ⟨w.heap.size,7,none⟩=false:=YW.frozen 7
          have z8:W.cell? ⟨w.heap.size,8,none⟩=some (.slice none 0 0):=YW.cell 8 rfl
          have zf8:W.frozen? ⟨w.heap.size,8,none⟩=false:=YW.frozen 8
          have z9:W.cell? ⟨w.heap.size,9,none⟩=some (.slice none 0 0):=YW.cell 9 rfl
          have zf9:W.frozen? ⟨w.heap.size,9,none⟩=false:=YW.frozen 9
          have z10:W.cell? ⟨w.heap.size,10,none⟩=some (.slice none 0 0):=YW.cell 10 rfl
          have zf10:W.frozen? ⟨w.heap.size,10,none⟩=false:=YW.frozen 10
          have zl:=cell_lt z0
          clear YW
          have zq:=cell_lt kW
          go_region_law (fail)
          all_goals
           go_wp2_with fail
           go_simp
           refine bodyPost_ret (v:=.tuple #[.agg #[.slice none 0 0,.slice none 0 0,.slice none 0 0,.slice none 0 0,.slice none 0 0,.slice none 0 0,.slice none 0 0,.int .i64 0,.slice none 0 0,.slice none 0 0,.slice none 0 0],.int .i64 c3]) (by simp [results,Tryz.results5,go_sem,z0,z1,z2,z3,z4,z5,z6,z7,z8,z9,z10,zl]) rfl ?_
           rw [htot.out]
           exact⟨[.slice none 0 0,.slice none 0 0,.slice none 0 0,.slice none 0 0,.slice none 0 0,.slice none 0 0,.slice none 0 0,.int .i64 0,.slice none 0 0,.slice none 0 0,.slice none 0 0],rfl,ModC.zero _ _ 0,Wr.later (S:=(w.heap.size≤·)) (Wr.ltr (by (repeat refine Wr.set ?_ _ _ (Or.inl (Nat.le_refl _)));exact VW.out) (Ld (Lz _))) (fun k hk=>hk)⟩
      · have hid0:¬(idn:Int)=0:=by clear hwr hwk hsl;omega
        have hid9:((idn:Int)==0)=false:=beq_false hid0
        by_cases h5:(idn:Int)≤5
        · have h6:1≤idn∧idn≤5:=by clear hwr hwk hsl;omega
          clear y0 yf0 y1 yf1 y2 yf2 y3 yf3 y4 yf4 y5 yf5 y6 yf6 y7 yf7 y8 yf8 y9 yf9 y10 yf10 yl
          have nq1:wr.heap.size≠w.heap.size:=by clear hwr hwk hsl;omega
          have nq2:wr.heap.size≠w.heap.size+1:=by clear hwr hwk hsl;omega
          have hqw:w.heap.size≤wr.heap.size:=by clear hwr hwk hsl;omega
          have hs1:wr.heap.size+1=(wr.alloc (.cells #[.string (s.extract tn (tn+xn)),.int .i64 0,.int .i64 0] 48)).heap.size:=by simp
          have hsc:Hid (Calls Tryz.prog 14 #[.pointer (some ⟨wr.heap.size,0,none⟩),.int .i64 (idn:Int),.pointer (some ⟨w.heap.size+1,0,none⟩)] (wr.alloc (.cells #[.string (s.extract tn (tn+xn)),.int .i64 0,.int .i64 0] 48)) fun e' w'=>e'=.returned (.tuple #[])∧Hid (Sdm (fun k=>w.heap.size+2≤k∧k<wr.heap.size) wr.heap.size (w.heap.size+1) (wr.alloc (.cells #[.string (s.extract tn (tn+xn)),.int .i64 0,.int .i64 0] 48)) w' (s.extract tn (tn+xn)) L (idn - 1) (ssec (s.extract tn (tn+xn)) (idn:Int) m))):=sfirst_all hu9 (by rw [←hs1];clear hwr hwk hsl;omega) (fun e=>nq2 e.symm) (fun k hk=>⟨fun e=>by have:=hk.2;omega,fun e=>by have:=hk.1;omega⟩) C1.out idn (by clear hwr hwk hsl;omega) (fun h8=>hE idn hid1 h12 h8) hq0.out X1.out
          rw [show ssec0 (s.extract tn (tn+xn)) (idn:Int) m xn=((ssec (s.extract tn (tn+xn)) (idn:Int) m).1,sclose (xn:Int) 0 (ssec (s.extract tn (tn+xn)) (idn:Int) m).2) from if_neg hid0] at htot
          simp only [] at htot
          rw [if_neg hid0] at htot
          generalize ssec (s.extract tn (tn+xn)) (idn:Int) m=K at *
          obtain⟨m',a3,c3⟩:=K
          simp only [] at hsc htot
          have hnx:Hid (∀w2,Sdm (fun k=>w.heap.size+2≤k∧k<wr.heap.size) wr.heap.size (w.heap.size+1) (wr.alloc (.cells #[.string (s.extract tn (tn+xn)),.int .i64 0,.int .i64 0] 48)) w2 (s.extract tn (tn+xn)) L (idn - 1) (m',⟨a3,c3⟩)→w2.rowIs wr.heap.size 48 3 (sF (s.extract tn (tn+xn)) ⟨a3,c3⟩)∧Rl w2 w.heap.size 32 [.slice none 0 0,.slice none 0 0,.slice none 0 0,.slice none 0 0,.slice none 0 0,.slice none 0 0,.slice none 0 0,.int .i64 0,.slice none 0 0,.slice none 0 0,.slice none 0 0]∧Wr (w.heap.size≤·) w w2∧w.heap.size+2≤w2.heap.size∧∃L',Rl w2 (w.heap.size+1) 32 L'∧ModC (w.heap.size+2≤·) w2 m' L'∧∀i,idn<i→i≤11→i≠8→L'[i - 1]?=some (.slice none 0 0)):=by
           clear hwr hwk hsl hidn2 htot hsc
           rintro w2 ⟨L',M2,C2,hL2⟩
           refine⟨M2.2.1,Y1.out.wr M2.1 (fun e=>by rcases e with e|e;exact nq1 e.symm;omega),V1.out.trans (M2.1.mono (fun k _ e=>by show w.heap.size≤k;rcases e with e|e;omega;omega)),?_,L',M2.2.2,?_,fun i i1 i2 i3=>?_⟩
           · have:=M2.1.size
             omega
           · refine C2.move (fun k hk hl=>⟨?_,rfl⟩)
             show w.heap.size+2≤k
             rcases hk with hk|hk
             · exact hk.1
             · omega
           · rw [hL2 (i - 1) (by omega)]
             exact hE i (by omega) i2 i3
          clear C1 X1 Y1 V1 hq0 hE hs1 hqw hu9 hidl
          replace hn:Hid (s.size<a+(n'+1)):=hn
          replace hgt2:Hid (a+1<tn):=hgt2
          replace htx:Hid (tn+xn≤s.size):=htx
          by_cases hc3:c3=0
          · subst hc3
            by_cases ha3:a3=(xn:Int)
            · subst ha3
              rw [show sclose (xn:Int) 0 ⟨(xn:Int),0⟩=⟨(xn:Int),0⟩ from if_neg (fun x=>x.2 (Int.sub_zero _))] at htot
              rw [if_pos rfl] at htot
              replace htot:Hid (unL s s.size 8 0 (mdZ (-1))=unL s n' (tn+xn) idn m'):=htot
              replace hsl:Hid _:=hsl
              replace hwk:Hid (wrap64 ((tn:Int)+(xn:Int))=(tn:Int)+(xn:Int)):=hwk
              replace hxt1:Hid (¬(s.size:Int) - (tn:Int)<(xn:Int)):=hxt1
              replace nq1:Hid (wr.heap.size≠w.heap.size):=nq1
              replace nq2:Hid (wr.heap.size≠w.heap.size+1):=nq2
              go_wp2_with fail
              refine (hu.out _).mono ?_
              rintro e8 w' ⟨rfl,hw⟩
              obtain rfl:wr=w':=hw.symm
              clear hu hwr hidn2
              replace hsl:=hsl.out
              replace hwk:=hwk.out
              replace hxt1:=hxt1.out
              replace nq1:=nq1.out
              replace nq2:=nq2.out
              go_wp2_with fail
              refine hsc.out.mono ?_
              rintro e9 w2 ⟨rfl,S2⟩
              have k0:=(hnx.out w2 S2.out).1
              have k1:w2.cell? ⟨wr.heap.size,1,none⟩=some (.int .i64 (xn:Int)):=k0.cell (i:=1) (by decide)
              have k2:w2.cell? ⟨wr.heap.size,2,none⟩=some (.int .i64 0):=k0.cell (i:=2) (by decide)
              have k4:=cell_lt k1
              clear k0
              go_wp2_with fail
              obtain⟨_,Y2,V2,B2,L',X2,C2,E2⟩:=hnx.out w2 S2.out
              go_roundw
              case rel=>exact⟨n',tn+xn,idn,m',L',rfl,by push_cast;rfl,htx.out,h12,by have q1:=hn.out;have q2:=hgt2.out;clear hwk hsl;omega,Y2,X2,C2,V2,B2,E2,htot.out⟩
              case measure =>
               have q2:=hgt2.out
               have q3:=htx.out
               clear hwk hsl
               simp [intOf]
               omega
            · rw [show sclose (xn:Int) 0 ⟨a3,0⟩=⟨a3,1504⟩ from if_pos ⟨rfl,fun x=>ha3 (by rw [←x];exact (Int.sub_zero _).symm)⟩] at htot
              rw [if_neg (show ¬(1504:Int)=0 by decide)] at htot
              replace htot:Hid (unL s s.size 8 0 (mdZ (-1))=(mdZ 0,1504)):=htot
              have ha4:(a3 != (xn:Int))=true:=by simpa using ha3
              clear ha3
              replace hsl:Hid _:=hsl
              replace hwk:Hid (wrap64 ((tn:Int)+(xn:Int))=(tn:Int)+(xn:Int)):=hwk
              replace hxt1:Hid (¬(s.size:Int) - (tn:Int)<(xn:Int)):=hxt1
              replace nq1:Hid (wr.heap.size≠w.heap.size):=nq1
              replace nq2:Hid (wr.heap.size≠w.heap.size+1):=nq2
              go_wp2_with fail
              refine (hu.out _).mono ?_
              rintro e8 w' ⟨rfl,hw⟩
              obtain rfl:wr=w':=hw.symm
              clear hu hwr hidn2
              replace hsl:=hsl.out
              replace hwk:=hwk.out
              replace hxt1:=hxt1.out
              replace nq1:=nq1.out
              replace nq2:=nq2.out
              go_wp2_with fail
              refine hsc.out.mono ?_
              rintro e9 w2 ⟨rfl,S2⟩
              have k0:=(hnx.out w2 S2.out).1
              have k1:w2.cell? ⟨wr.heap.size,1,none⟩=some (.int .i64 a3):=k0.cell (i:=1) (by decide)
              have k2:w2.cell? ⟨wr.heap.size,2,none⟩=some (.int .i64 0):=k0.cell (i:=2) (by decide)
              have k4:=cell_lt k1
              replace k0:Hid (w2.rowIs wr.heap.size 48 3 (sF (s.extract tn (tn+xn)) ⟨a3,0⟩)):=k0
              go_wp2_with fail
              refine (sfail_any 1504 w2 k0.out).mono ?_
              rintro e8 w3 ⟨rfl,R3⟩
              have k5:w3.cell? ⟨wr.heap.size,2,none⟩=some (.int .i64 1504):=R3.out.cell 2 (by decide)
              have k6:=cell_lt k5
              have Y3:=(hnx.out w2 S2.out).2.1.wr R3.out.1 (fun e=>nq1 (e:w.heap.size=wr.heap.size).symm)
              have V3:Hid (Wr (w.heap.size≤·) w w3):=(hnx.out w2 S2.out).2.2.1.trans (R3.out.1.mono (fun k _ e=>by have e:k=wr.heap.size:=e;show w.heap.size≤k;omega))
              replace Y3:Hid (Rl w3 w.heap.size 32 [.slice none 0 0,.slice none 0 0,.slice none 0 0,.slice none 0 0,.slice none 0 0,.slice none 0 0,.slice none 0 0,.int .i64 0,.slice none 0 0,.slice none 0 0,.slice none 0 0]):=Y3
              go_wp2_with fail
              refine at_world ?_
              intro W hW
              have YW:Rl W w.heap.size 32 [.slice none 0 0,.slice none 0 0,.slice none 0 0,.slice none 0 0,.slice none 0 0,.slice none 0 0,.slice none 0 0,.int .i64 0,.slice none 0 0,.slice none 0 0,.slice none 0 0]:=by rw [hW];exact Y3.out
              have VW:Hid (Wr (w.heap.size≤·) w W):=by rw [hW];exact V3.out
              have kW:W.cell? ⟨wr.heap.size,2,none⟩=some (.int .i64 1504):=by rw [hW];exact k5
              clear hW
              clear hwk hsl
              have z0:W.cell? ⟨w.heap.size,0,none⟩=some (.slice none 0 0):=YW.cell 0 rfl
              have zf0:W.frozen? ⟨w.heap.size,0,none⟩=false:=YW.frozen 0
              have z1:W.cell? ⟨w.heap.size,1,none⟩=some (.slice none 0 0):=YW.cell 1 rfl
              have zf1:W.frozen? ⟨w.heap.size,1,none⟩=false:=YW.frozen 1
              have z2:W.cell? ⟨w.heap.size,2,none⟩=some (.slice none 0 0):=YW.cell 2 rfl
              have zf2:W.frozen? ⟨w.heap.size,2,none⟩=false:=YW.frozen 2
              have z3:W.cell? ⟨w.heap.size,3,none⟩=some (.slice none 0 0):=YW.cell 3 rfl
              have zf3:W.frozen? ⟨w.heap.size,3,none⟩=false:=YW.frozen 3
              have z4:W.cell? ⟨w.heap.size,4,none⟩=some (.slice none 0 0):=YW.cell 4 rfl
              have zf4:W.frozen? ⟨w.heap.size,4,none⟩=false:=YW.frozen 4
              have z5:W.cell? ⟨w.heap.size,5,none⟩=some (.slice none 0 0):=YW.cell 5 rfl
              have zf5:W.frozen? ⟨w.heap.size,5,none⟩=false:=YW.frozen 5
              have z6:W.cell? ⟨w.heap.size,6,none⟩=some (.slice none 0 0):=YW.cell 6 rfl
              have zf6:W.frozen? ⟨w.heap.size,6,none⟩=false:=YW.frozen 6
              have z7:W.cell? ⟨w.heap.size,7,none⟩=some (.int .i64 0):=YW.cell 7 rfl
              have zf7:W.frozen? ⟨w.heap.size,7,none⟩=false:=YW.frozen 7
              have z8:W.cell? ⟨w.heap.size,8,none⟩=some (.slice none 0 0):=YW.cell 8 rfl
              have zf8:W.frozen? ⟨w.heap.size,8,none⟩=false:=YW.frozen 8
              have z9:W.cell? ⟨w.heap.size,9,none⟩=some (.slice none 0 0):=YW.cell 9 rfl
              have zf9:W.frozen? ⟨w.heap.size,9,none⟩=false:=YW.frozen 9
              have z10:W.cell? ⟨w.heap.size,10,none⟩=some (.slice none 0 0):=YW.cell 10 rfl
              have zf10:W.frozen? ⟨w.heap.size,10,none⟩=false:=YW.frozen 10
              have zl:=cell_lt z0
              clear YW
              have zq:=cell_lt kW
              go_region_law (fail)
              all_goals
               go_wp2_with fail
               go_simp
               refine bodyPost_ret (v:=.tuple #[.agg #[.slice none 0 0,.slice none 0 0,.slice none 0 0,.slice none 0 0,.slice none 0 0,.slice none 0 0,.slice none 0 0,.int .i64 0,.slice none 0 0,.slice none 0 0,.slice none 0 0],.int .i64 1504]) (by simp [results,Tryz.results5,go_sem,z0,z1,z2,z3,z4,z5,z6,z7,z8,z9,z10,zl]) rfl ?_
               rw [htot.out]
               exact⟨[.slice none 0 0,.slice none 0 0,.slice none 0 0,.slice none 0 0,.slice none 0 0,.slice none 0 0,.slice none 0 0,.int .i64 0,.slice none 0 0,.slice none 0 0,.slice none 0 0],rfl,ModC.zero _ _ 0,Wr.later (S:=(w.heap.size≤·)) (Wr.ltr (by (repeat refine Wr.set ?_ _ _ (Or.inl (Nat.le_refl _)));exact VW.out) (Ld (Lz _))) (fun k hk=>hk)⟩
          · have hc4:(c3==0)=false:=beq_false hc3
            have hc5:(c3 != 0)=true:=by simpa using hc3
            rw [show sclose (xn:Int) 0 ⟨a3,c3⟩=⟨a3,c3⟩ from if_neg (fun x=>hc3 x.1)] at htot
            rw [if_neg hc3] at htot
            replace htot:Hid (unL s s.size 8 0 (mdZ (-1))=(mdZ 0,c3)):=htot
            clear hc3
            replace hsl:Hid _:=hsl
            replace hwk:Hid (wrap64 ((tn:Int)+(xn:Int))=(tn:Int)+(xn:Int)):=hwk
            replace hxt1:Hid (¬(s.size:Int) - (tn:Int)<(xn:Int)):=hxt1
            replace nq1:Hid (wr.heap.size≠w.heap.size):=nq1
            replace nq2:Hid (wr.heap.size≠w.heap.size+1):=nq2
            go_wp2_with fail
            refine (hu.out _).mono ?_
            rintro e8 w' ⟨rfl,hw⟩
            obtain rfl:wr=w':=hw.symm
            clear hu hwr hidn2
            replace hsl:=hsl.out
            replace hwk:=hwk.out
            replace hxt1:=hxt1.out
            replace nq1:=nq1.out
            replace nq2:=nq2.out
            go_wp2_with fail
            refine hsc.out.mono ?_
            rintro e9 w2 ⟨rfl,S2⟩
            have k0:=(hnx.out w2 S2.out).1
            have k1:w2.cell? ⟨wr.heap.size,1,none⟩=some (.int .i64 a3):=k0.cell (i:=1) (by decide)
            have k2:w2.cell? ⟨wr.heap.size,2,none⟩=some (.int .i64 c3):=k0.cell (i:=2) (by decide)
            have k4:=cell_lt k1
            clear k0
            have Y2:=(hnx.out w2 S2.out).2.1
            have V2:Hid (Wr (w.heap.size≤·) w w2):=(hnx.out w2 S2.out).2.2.1
            replace Y2:Hid (Rl w2 w.heap.size 32 [.slice none 0 0,.slice none 0 0,.slice none 0 0,.slice none 0 0,.slice none 0 0,.slice none 0 0,.slice none 0 0,.int .i64 0,.slice none 0 0,.slice none 0 0,.slice none 0 0]):=Y2
            go_wp2_with fail
            refine at_world ?_
            intro W hW
            have YW:Rl W w.heap.size 32 [.slice none 0 0,.slice none 0 0,.slice none 0 0,.slice none 0 0,.slice none 0 0,.slice none 0 0,.slice none 0 0,.int .i64 0,.slice none 0 0,.slice none 0 0,.slice none 0 0]:=by rw [hW];exact Y2.out
            have VW:Hid (Wr (w.heap.size≤·) w W):=by rw [hW];exact V2.out
            have kW:W.cell? ⟨wr.heap.size,2,none⟩=some (.int .i64 c3):=by rw [hW];exact k2
            clear hW
            clear hwk hsl
            have z0:W.cell? ⟨w.heap.size,0,none⟩=some (.slice none 0 0):=YW.cell 0 rfl
            have zf0:W.frozen? ⟨w.heap.size,0,none⟩=false:=YW.frozen 0
            have z1:W.cell? ⟨w.heap.size,1,none⟩=some (.slice none 0 0):=YW.cell 1 rfl
            have zf1:W.frozen? ⟨w.heap.size,1,none⟩=false:=YW.frozen 1
            have z2:W.cell? ⟨w.heap.size,2,none⟩=some (.slice none 0 0):=YW.cell 2 rfl
            have zf2:W.frozen? ⟨w.heap.size,2,none⟩=false:=YW.frozen 2
            have z3:W.cell? ⟨w.heap.size,3,none⟩=some (.slice none 0 0):=YW.cell 3 rfl
            have zf3:W.frozen? ⟨w.heap.size,3,none⟩=false:=YW.frozen 3
            have z4:W.cell? ⟨w.heap.size,4,none⟩=some (.slice none 0 0):=YW.cell 4 rfl
            have zf4:W.frozen? ⟨w.heap.size,4,none⟩=false:=YW.frozen 4
            have z5:W.cell? ⟨w.heap.size,5,none⟩=some (.slice none 0 0):=YW.cell 5 rfl
            have zf5:W.frozen? ⟨w.heap.size,5,none⟩=false:=YW.frozen 5
            have z6:W.cell? ⟨w.heap.size,6,none⟩=some (.slice none 0 0):=YW.cell 6 rfl
            have zf6:W.frozen? ⟨w.heap.size,6,none⟩=false:=YW.frozen 6
            have z7:W.cell? ⟨w.heap.size,7,none⟩=some (.int .i64 0):=YW.cell 7 rfl
            have zf7:W.frozen? ⟨w.heap.size,7,none⟩=false:=YW.frozen 7
            have z8:W.cell? ⟨w.heap.size,8,none⟩=some (.slice none 0 0):=YW.cell 8 rfl
            have zf8:W.frozen? ⟨w.heap.size,8,none⟩=false:=YW.frozen 8
            have z9:W.cell? ⟨w.heap.size,9,none⟩=some (.slice none 0 0):=YW.cell 9 rfl
            have zf9:W.frozen? ⟨w.heap.size,9,none⟩=false:=YW.frozen 9
            have z10:W.cell? ⟨w.heap.size,10,none⟩=some (.slice none 0 0):=YW.cell 10 rfl
            have zf10:W.frozen? ⟨w.heap.size,10,none⟩=false:=YW.frozen 10
            have zl:=cell_lt z0
            clear YW
            have zq:=cell_lt kW
            go_region_law (fail)
            all_goals
             go_wp2_with fail
             go_simp
             refine bodyPost_ret (v:=.tuple #[.agg #[.slice none 0 0,.slice none 0 0,.slice none 0 0,.slice none 0 0,.slice none 0 0,.slice none 0 0,.slice none 0 0,.int .i64 0,.slice none 0 0,.slice none 0 0,.slice none 0 0],.int .i64 c3]) (by simp [results,Tryz.results5,go_sem,z0,z1,z2,z3,z4,z5,z6,z7,z8,z9,z10,zl]) rfl ?_
             rw [htot.out]
             exact⟨[.slice none 0 0,.slice none 0 0,.slice none 0 0,.slice none 0 0,.slice none 0 0,.slice none 0 0,.slice none 0 0,.int .i64 0,.slice none 0 0,.slice none 0 0,.slice none 0 0],rfl,ModC.zero _ _ 0,Wr.later (S:=(w.heap.size≤·)) (Wr.ltr (by (repeat refine Wr.set ?_ _ _ (Or.inl (Nat.le_refl _)));exact VW.out) (Ld (Lz _))) (fun k hk=>hk)⟩
        · have h6:6≤idn∧idn≤11:=by clear hwr hwk hsl;omega
          clear y0 yf0 y1 yf1 y2 yf2 y3 yf3 y4 yf4 y5 yf5 y6 yf6 y7 yf7 y8 yf8 y9 yf9 y10 yf10 yl
          have nq1:wr.heap.size≠w.heap.size:=by clear hwr hwk hsl;omega
          have nq2:wr.heap.size≠w.heap.size+1:=by clear hwr hwk hsl;omega
          have hqw:w.heap.size≤wr.heap.size:=by clear hwr hwk hsl;omega
          have hs1:wr.heap.size+1=(wr.alloc (.cells #[.string (s.extract tn (tn+xn)),.int .i64 0,.int .i64 0] 48)).heap.size:=by simp
          have hsc:Hid (Calls Tryz.prog 15 #[.pointer (some ⟨wr.heap.size,0,none⟩),.int .i64 (idn:Int),.pointer (some ⟨w.heap.size+1,0,none⟩)] (wr.alloc (.cells #[.string (s.extract tn (tn+xn)),.int .i64 0,.int .i64 0] 48)) fun e' w'=>e'=.returned (.tuple #[])∧Hid (Sdm (fun k=>w.heap.size+2≤k∧k<wr.heap.size) wr.heap.size (w.heap.size+1) (wr.alloc (.cells #[.string (s.extract tn (tn+xn)),.int .i64 0,.int .i64 0] 48)) w' (s.extract tn (tn+xn)) L (idn - 1) (ssec (s.extract tn (tn+xn)) (idn:Int) m))):=slast_all hu9 (by rw [←hs1];clear hwr hwk hsl;omega) (fun e=>nq2 e.symm) (fun k hk=>⟨fun e=>by have:=hk.2;omega,fun e=>by have:=hk.1;omega⟩) C1.out idn (by clear hwr hwk hsl;omega) (fun h8=>hE idn hid1 h12 h8) hq0.out X1.out
          rw [show ssec0 (s.extract tn (tn+xn)) (idn:Int) m xn=((ssec (s.extract tn (tn+xn)) (idn:Int) m).1,sclose (xn:Int) 0 (ssec (s.extract tn (tn+xn)) (idn:Int) m).2) from if_neg hid0] at htot
          simp only [] at htot
          rw [if_neg hid0] at htot
          generalize ssec (s.extract tn (tn+xn)) (idn:Int) m=K at *
          obtain⟨m',a3,c3⟩:=K
          simp only [] at hsc htot
          have hnx:Hid (∀w2,Sdm (fun k=>w.heap.size+2≤k∧k<wr.heap.size) wr.heap.size (w.heap.size+1) (wr.alloc (.cells #[.string (s.extract tn (tn+xn)),.int .i64 0,.int .i64 0] 48)) w2 (s.extract tn (tn+xn)) L (idn - 1) (m',⟨a3,c3⟩)→w2.rowIs wr.heap.size 48 3 (sF (s.extract tn (tn+xn)) ⟨a3,c3⟩)∧Rl w2 w.heap.size 32 [.slice none 0 0,.slice none 0 0,.slice none 0 0,.slice none 0 0,.slice none 0 0,.slice none 0 0,.slice none 0 0,.int .i64 0,.slice none 0 0,.slice none 0 0,.slice none 0 0]∧Wr (w.heap.size≤·) w w2∧w.heap.size+2≤w2.heap.size∧∃L',Rl w2 (w.heap.size+1) 32 L'∧ModC (w.heap.size+2≤·) w2 m' L'∧∀i,idn<i→i≤11→i≠8→L'[i - 1]?=some (.slice none 0 0)):=by
           clear hwr hwk hsl hidn2 htot hsc
           rintro w2 ⟨L',M2,C2,hL2⟩
           refine⟨M2.2.1,Y1.out.wr M2.1 (fun e=>by rcases e with e|e;exact nq1 e.symm;omega),V1.out.trans (M2.1.mono (fun k _ e=>by show w.heap.size≤k;rcases e with e|e;omega;omega)),?_,L',M2.2.2,?_,fun i i1 i2 i3=>?_⟩
           · have:=M2.1.size
             omega
           · refine C2.move (fun k hk hl=>⟨?_,rfl⟩)
             show w.heap.size+2≤k
             rcases hk with hk|hk
             · exact hk.1
             · omega
           · rw [hL2 (i - 1) (by omega)]
             exact hE i (by omega) i2 i3
          clear C1 X1 Y1 V1 hq0 hE hs1 hqw hu9 hidl
          replace hn:Hid (s.size<a+(n'+1)):=hn
          replace hgt2:Hid (a+1<tn):=hgt2
          replace htx:Hid (tn+xn≤s.size):=htx
          by_cases hc3:c3=0
          · subst hc3
            by_cases ha3:a3=(xn:Int)
            · subst ha3
              rw [show sclose (xn:Int) 0 ⟨(xn:Int),0⟩=⟨(xn:Int),0⟩ from if_neg (fun x=>x.2 (Int.sub_zero _))] at htot
              rw [if_pos rfl] at htot
              replace htot:Hid (unL s s.size 8 0 (mdZ (-1))=unL s n' (tn+xn) idn m'):=htot
              replace hsl:Hid _:=hsl
              replace hwk:Hid (wrap64 ((tn:Int)+(xn:Int))=(tn:Int)+(xn:Int)):=hwk
              replace hxt1:Hid (¬(s.size:Int) - (tn:Int)<(xn:Int)):=hxt1
              replace nq1:Hid (wr.heap.size≠w.heap.size):=nq1
              replace nq2:Hid (wr.heap.size≠w.heap.size+1):=nq2
              go_wp2_with fail
              refine (hu.out _).mono ?_
              rintro e8 w' ⟨rfl,hw⟩
              obtain rfl:wr=w':=hw.symm
              clear hu hwr hidn2
              replace hsl:=hsl.out
              replace hwk:=hwk.out
              replace hxt1:=hxt1.out
              replace nq1:=nq1.out
              replace nq2:=nq2.out
              go_wp2_with fail
              refine hsc.out.mono ?_
              rintro e9 w2 ⟨rfl,S2⟩
              have k0:=(hnx.out w2 S2.out).1
              have k1:w2.cell? ⟨wr.heap.size,1,none⟩=some (.int .i64 (xn:Int)):=k0.cell (i:=1) (by decide)
              have k2:w2.cell? ⟨wr.heap.size,2,none⟩=some (.int .i64 0):=k0.cell (i:=2) (by decide)
              have k4:=cell_lt k1
              clear k0
              go_wp2_with fail
              obtain⟨_,Y2,V2,B2,L',X2,C2,E2⟩:=hnx.out w2 S2.out
              go_roundw
              case rel=>exact⟨n',tn+xn,idn,m',L',rfl,by push_cast;rfl,htx.out,h12,by have q1:=hn.out;have q2:=hgt2.out;clear hwk hsl;omega,Y2,X2,C2,V2,B2,E2,htot.out⟩
              case measure =>
               have q2:=hgt2.out
               have q3:=htx.out
               clear hwk hsl
               simp [intOf]
               omega
            · rw [show sclose (xn:Int) 0 ⟨a3,0⟩=⟨a3,1504⟩ from if_pos ⟨rfl,fun x=>ha3 (by rw [←x];exact (Int.sub_zero _).symm)⟩] at htot
              rw [if_neg (show ¬(1504:Int)=0 by decide)] at htot
              replace htot:Hid (unL s s.size 8 0 (mdZ (-1))=(mdZ 0,1504)):=htot
              have ha4:(a3 != (xn:Int))=true:=by simpa using ha3
              clear ha3
              replace hsl:Hid _:=hsl
              replace hwk:Hid (wrap64 ((tn:Int)+(xn:Int))=(tn:Int)+(xn:Int)):=hwk
              replace hxt1:Hid (¬(s.size:Int) - (tn:Int)<(xn:Int)):=hxt1
              replace nq1:Hid (wr.heap.size≠w.heap.size):=nq1
              replace nq2:Hid (wr.heap.size≠w.heap.size+1):=nq2
              go_wp2_with fail
              refine (hu.out _).mono ?_
              rintro e8 w' ⟨rfl,hw⟩
              obtain rfl:wr=w':=hw.symm
              clear hu hwr hidn2
              replace hsl:=hsl.out
              replace hwk:=hwk.out
              replace hxt1:=hxt1.out
              replace nq1:=nq1.out
              replace nq2:=nq2.out
              go_wp2_with fail
              refine hsc.out.mono ?_
              rintro e9 w2 ⟨rfl,S2⟩
              have k0:=(hnx.out w2 S2.out).1
              have k1:w2.cell? ⟨wr.heap.size,1,none⟩=some (.int .i64 a3):=k0.cell (i:=1) (by decide)
              have k2:w2.cell? ⟨wr.heap.size,2,none⟩=some (.int .i64 0):=k0.cell (i:=2) (by decide)
              have k4:=cell_lt k1
              replace k0:Hid (w2.rowIs wr.heap.size 48 3 (sF (s.extract tn (tn+xn)) ⟨a3,0⟩)):=k0
              go_wp2_with fail
              refine (sfail_any 1504 w2 k0.out).mono ?_
              rintro e8 w3 ⟨rfl,R3⟩
              have k5:w3.cell? ⟨wr.heap.size,2,none⟩=some (.int .i64 1504):=R3.out.cell 2 (by decide)
              have k6:=cell_lt k5
              have Y3:=(hnx.out w2 S2.out).2.1.wr R3.out.1 (fun e=>nq1 (e:w.heap.size=wr.heap.size).symm)
              have V3:Hid (Wr (w.heap.size≤·) w w3):=(hnx.out w2 S2.out).2.2.1.trans (R3.out.1.mono (fun k _ e=>by have e:k=wr.heap.size:=e;show w.heap.size≤k;omega))
              replace Y3:Hid (Rl w3 w.heap.size 32 [.slice none 0 0,.slice none 0 0,.slice none 0 0,.slice none 0 0,.slice none 0 0,.slice none 0 0,.slice none 0 0,.int .i64 0,.slice none 0 0,.slice none 0 0,.slice none 0 0]):=Y3
              go_wp2_with fail
              refine at_world ?_
              intro W hW
              have YW:Rl W w.heap.size 32 [.slice none 0 0,.slice none 0 0,.slice none 0 0,.slice none 0 0,.slice none 0 0,.slice none 0 0,.slice none 0 0,.int .i64 0,.slice none 0 0,.slice none 0 0,.slice none 0 0]:=by rw [hW];exact Y3.out
              have VW:Hid (Wr (w.heap.size≤·) w W):=by rw [hW];exact V3.out
              have kW:W.cell? ⟨wr.heap.size,2,none⟩=some (.int .i64 1504):=by rw [hW];exact k5
              clear hW
              clear hwk hsl
              have z0:W.cell? ⟨w.heap.size,0,none⟩=some (.slice none 0 0):=YW.cell 0 rfl
              have zf0:W.frozen? ⟨w.heap.size,0,none⟩=false:=YW.frozen 0
              have z1:W.cell? ⟨w.heap.size,1,none⟩=some (.slice none 0 0):=YW.cell 1 rfl
              have zf1:W.frozen? ⟨w.heap.size,1,none⟩=false:=YW.frozen 1
              have z2:W.cell? ⟨w.heap.size,2,none⟩=some (.slice none 0 0):=YW.cell 2 rfl
              have zf2:W.frozen? ⟨w.heap.size,2,none⟩=false:=YW.frozen 2
              have z3:W.cell? ⟨w.heap.size,3,none⟩=some (.slice none 0 0):=YW.cell 3 rfl
              have zf3:W.frozen? ⟨w.heap.size,3,none⟩=false:=YW.frozen 3
              have z4:W.cell? ⟨w.heap.size,4,none⟩=some (.slice none 0 0):=YW.cell 4 rfl
              have zf4:W.frozen? ⟨w.heap.size,4,none⟩=false:=YW.frozen 4
              have z5:W.cell? ⟨w.heap.size,5,none⟩=some (.slice none 0 0):=YW.cell 5 rfl
              have zf5:W.frozen? ⟨w.heap.size,5,none⟩=false:=YW.frozen 5
              have z6:W.cell? ⟨w.heap.size,6,none⟩=some (.slice none 0 0):=YW.cell 6 rfl
              have zf6:W.frozen? ⟨w.heap.size,6,none⟩=false:=YW.frozen 6
              have z7:W.cell? ⟨w.heap.size,7,none⟩=some (.int .i64 0):=YW.cell 7 rfl
              have zf7:W.frozen? ⟨w.heap.size,7,none⟩=false:=YW.frozen 7
              have z8:W.cell? ⟨w.heap.size,8,none⟩=some (.slice none 0 0):=YW.cell 8 rfl
              have zf8:W.frozen? ⟨w.heap.size,8,none⟩=false:=YW.frozen 8
              have z9:W.cell? ⟨w.heap.size,9,none⟩=some (.slice none 0 0):=YW.cell 9 rfl
              have zf9:W.frozen? ⟨w.heap.size,9,none⟩=false:=YW.frozen 9
              have z10:W.cell? ⟨w.heap.size,10,none⟩=some (.slice none 0 0):=YW.cell 10 rfl
              have zf10:W.frozen? ⟨w.heap.size,10,none⟩=false:=YW.frozen 10
              have zl:=cell_lt z0
              clear YW
              have zq:=cell_lt kW
              go_region_law (fail)
              all_goals
               go_wp2_with fail
               go_simp
               refine bodyPost_ret (v:=.tuple #[.agg #[.slice none 0 0,.slice none 0 0,.slice none 0 0,.slice none 0 0,.slice none 0 0,.slice none 0 0,.slice none 0 0,.int .i64 0,.slice none 0 0,.slice none 0 0,.slice none 0 0],.int .i64 1504]) (by simp [results,Tryz.results5,go_sem,z0,z1,z2,z3,z4,z5,z6,z7,z8,z9,z10,zl]) rfl ?_
               rw [htot.out]
               exact⟨[.slice none 0 0,.slice none 0 0,.slice none 0 0,.slice none 0 0,.slice none 0 0,.slice none 0 0,.slice none 0 0,.int .i64 0,.slice none 0 0,.slice none 0 0,.slice none 0 0],rfl,ModC.zero _ _ 0,Wr.later (S:=(w.heap.size≤·)) (Wr.ltr (by (repeat refine Wr.set ?_ _ _ (Or.inl (Nat.le_refl _)));exact VW.out) (Ld (Lz _))) (fun k hk=>hk)⟩
          · have hc4:(c3==0)=false:=beq_false hc3
            have hc5:(c3 != 0)=true:=by simpa using hc3
            rw [show sclose (xn:Int) 0 ⟨a3,c3⟩=⟨a3,c3⟩ from if_neg (fun x=>hc3 x.1)] at htot
            rw [if_neg hc3] at htot
            replace htot:Hid (unL s s.size 8 0 (mdZ (-1))=(mdZ 0,c3)):=htot
            clear hc3
            replace hsl:Hid _:=hsl
            replace hwk:Hid (wrap64 ((tn:Int)+(xn:Int))=(tn:Int)+(xn:Int)):=hwk
            replace hxt1:Hid (¬(s.size:Int) - (tn:Int)<(xn:Int)):=hxt1
            replace nq1:Hid (wr.heap.size≠w.heap.size):=nq1
            replace nq2:Hid (wr.heap.size≠w.heap.size+1):=nq2
            go_wp2_with fail
            refine (hu.out _).mono ?_
            rintro e8 w' ⟨rfl,hw⟩
            obtain rfl:wr=w':=hw.symm
            clear hu hwr hidn2
            replace hsl:=hsl.out
            replace hwk:=hwk.out
            replace hxt1:=hxt1.out
            replace nq1:=nq1.out
            replace nq2:=nq2.out
            go_wp2_with fail
            refine hsc.out.mono ?_
            rintro e9 w2 ⟨rfl,S2⟩
            have k0:=(hnx.out w2 S2.out).1
            have k1:w2.cell? ⟨wr.heap.size,1,none⟩=some (.int .i64 a3):=k0.cell (i:=1) (by decide)
            have k2:w2.cell? ⟨wr.heap.size,2,none⟩=some (.int .i64 c3):=k0.cell (i:=2) (by decide)
            have k4:=cell_lt k1
            clear k0
            have Y2:=(hnx.out w2 S2.out).2.1
            have V2:Hid (Wr (w.heap.size≤·) w w2):=(hnx.out w2 S2.out).2.2.1
            replace Y2:Hid (Rl w2 w.heap.size 32 [.slice none 0 0,.slice none 0 0,.slice none 0 0,.slice none 0 0,.slice none 0 0,.slice none 0 0,.slice none 0 0,.int .i64 0,.slice none 0 0,.slice none 0 0,.slice none 0 0]):=Y2
            go_wp2_with fail
            refine at_world ?_
            intro W hW
            have YW:Rl W w.heap.size 32 [.slice none 0 0,.slice none 0 0,.slice none 0 0,.slice none 0 0,.slice none 0 0,.slice none 0 0,.slice none 0 0,.int .i64 0,.slice none 0 0,.slice none 0 0,.slice none 0 0]:=by rw [hW];exact Y2.out
            have VW:Hid (Wr (w.heap.size≤·) w W):=by rw [hW];exact V2.out
            have kW:W.cell? ⟨wr.heap.size,2,none⟩=some (.int .i64 c3):=by rw [hW];exact k2
            clear hW
            clear hwk hsl
            have z0:W.cell? ⟨w.heap.size,0,none⟩=some (.slice none 0 0):=YW.cell 0 rfl
            have zf0:W.frozen? ⟨w.heap.size,0,none⟩=false:=YW.frozen 0
            have z1:W.cell? ⟨w.heap.size,1,none⟩=some (.slice none 0 0):=YW.cell 1 rfl
            have zf1:W.frozen? ⟨w.heap.size,1,none⟩=false:=YW.frozen 1
            have z2:W.cell? ⟨w.heap.size,2,none⟩=some (.slice none 0 0):=YW.cell 2 rfl
            have zf2:W.frozen? ⟨w.heap.size,2,none⟩=false:=YW.frozen 2
            have z3:W.cell? ⟨w.heap.size,3,none⟩=some (.slice none 0 0):=YW.cell 3 rfl
            have zf3:W.frozen? ⟨w.heap.size,3,none⟩=false:=YW.frozen 3
            have z4:W.cell? ⟨w.heap.size,4,none⟩=some (.slice none 0 0):=YW.cell 4 rfl
            have zf4:W.frozen? ⟨w.heap.size,4,none⟩=false:=YW.frozen 4
            have z5:W.cell? ⟨w.heap.size,5,none⟩=some (.slice none 0 0):=YW.cell 5 rfl
            have zf5:W.frozen? ⟨w.heap.size,5,none⟩=false:=YW.frozen 5
            have z6:W.cell? ⟨w.heap.size,6,none⟩=some (.slice none 0 0):=YW.cell 6 rfl
            have zf6:W.frozen? ⟨w.heap.size,6,none⟩=false:=YW.frozen 6
            have z7:W.cell? ⟨w.heap.size,7,none⟩=some (.int .i64 0):=YW.cell 7 rfl
            have zf7:W.frozen? ⟨w.heap.size,7,none⟩=false:=YW.frozen 7
            have z8:W.cell? ⟨w.heap.size,8,none⟩=some (.slice none 0 0):=YW.cell 8 rfl
            have zf8:W.frozen? ⟨w.heap.size,8,none⟩=false:=YW.frozen 8
            have z9:W.cell? ⟨w.heap.size,9,none⟩=some (.slice none 0 0):=YW.cell 9 rfl
            have zf9:W.frozen? ⟨w.heap.size,9,none⟩=false:=YW.frozen 9
            have z10:W.cell? ⟨w.heap.size,10,none⟩=some (.slice none 0 0):=YW.cell 10 rfl
            have zf10:W.frozen? ⟨w.heap.size,10,none⟩=false:=YW.frozen 10
            have zl:=cell_lt z0
            clear YW
            have zq:=cell_lt kW
            go_region_law (fail)
            all_goals
             go_wp2_with fail
             go_simp
             refine bodyPost_ret (v:=.tuple #[.agg #[.slice none 0 0,.slice none 0 0,.slice none 0 0,.slice none 0 0,.slice none 0 0,.slice none 0 0,.slice none 0 0,.int .i64 0,.slice none 0 0,.slice none 0 0,.slice none 0 0],.int .i64 c3]) (by simp [results,Tryz.results5,go_sem,z0,z1,z2,z3,z4,z5,z6,z7,z8,z9,z10,zl]) rfl ?_
             rw [htot.out]
             exact⟨[.slice none 0 0,.slice none 0 0,.slice none 0 0,.slice none 0 0,.slice none 0 0,.slice none 0 0,.slice none 0 0,.int .i64 0,.slice none 0 0,.slice none 0 0,.slice none 0 0],rfl,ModC.zero _ _ 0,Wr.later (S:=(w.heap.size≤·)) (Wr.ltr (by (repeat refine Wr.set ?_ _ _ (Or.inl (Nat.le_refl _)));exact VW.out) (Ld (Lz _))) (fun k hk=>hk)⟩
    · have hl1:¬(a:Int)<(s.size:Int):=by omega
      obtain⟨n',rfl⟩:∃n',n=n'+1:=⟨n - 1,by omega⟩
      rw [unL,if_neg hlt] at htot
      obtain⟨v0,v1,v2,v3,v4,v5,v6,v8,v9,v10,rfl,⟨A0,c0,rfl,g0⟩,⟨A1,c1,rfl,g1⟩,⟨A2,c2,rfl,g2⟩,⟨A3,c3,rfl,g3⟩,⟨A4,c4,rfl,g4⟩,⟨A5,c5,rfl,g5⟩,⟨A6,c6,rfl,g6⟩,⟨A8,c8,rfl,g8⟩,⟨A9,c9,rfl,g9⟩,⟨A10,c10,rfl,g10⟩⟩:=hC
      have x0:wr.cell? ⟨w.heap.size+1,0,none⟩=some (.slice A0 m.ty.length c0):=hX.cell 0 rfl
      have x1:wr.cell? ⟨w.heap.size+1,1,none⟩=some (.slice A1 m.im.length c1):=hX.cell 1 rfl
      have x2:wr.cell? ⟨w.heap.size+1,2,none⟩=some (.slice A2 m.fu.length c2):=hX.cell 2 rfl
      have x3:wr.cell? ⟨w.heap.size+1,3,none⟩=some (.slice A3 m.ta.length c3):=hX.cell 3 rfl
      have x4:wr.cell? ⟨w.heap.size+1,4,none⟩=some (.slice A4 m.me.length c4):=hX.cell 4 rfl
      have x5:wr.cell? ⟨w.heap.size+1,5,none⟩=some (.slice A5 m.gl.length c5):=hX.cell 5 rfl
      have x6:wr.cell? ⟨w.heap.size+1,6,none⟩=some (.slice A6 m.ex.length c6):=hX.cell 6 rfl
      have x7:wr.cell? ⟨w.heap.size+1,7,none⟩=some (.int .i64 m.st):=hX.cell 7 rfl
      have x8:wr.cell? ⟨w.heap.size+1,8,none⟩=some (.slice A8 m.el.length c8):=hX.cell 8 rfl
      have x9:wr.cell? ⟨w.heap.size+1,9,none⟩=some (.slice A9 m.co.length c9):=hX.cell 9 rfl
      have x10:wr.cell? ⟨w.heap.size+1,10,none⟩=some (.slice A10 m.da.length c10):=hX.cell 10 rfl
      have xl:=cell_lt x0
      have y0:wr.cell? ⟨w.heap.size,0,none⟩=some (.slice none 0 0):=hY.cell 0 rfl
      have yf0:wr.frozen? ⟨w.heap.size,0,none⟩=false:=hY.frozen 0
      have y1:wr.cell? ⟨w.heap.size,1,none⟩=some (.slice none 0 0):=hY.cell 1 rfl
      have yf1:wr.frozen? ⟨w.heap.size,1,none⟩=false:=hY.frozen 1
      have y2:wr.cell? ⟨w.heap.size,2,none⟩=some (.slice none 0 0):=hY.cell 2 rfl
      have yf2:wr.frozen? ⟨w.heap.size,2,none⟩=false:=hY.frozen 2
      have y3:wr.cell? ⟨w.heap.size,3,none⟩=some (.slice none 0 0):=hY.cell 3 rfl
      have yf3:wr.frozen? ⟨w.heap.size,3,none⟩=false:=hY.frozen 3
      have y4:wr.cell? ⟨w.heap.size,4,none⟩=some (.slice none 0 0):=hY.cell 4 rfl
      have yf4:wr.frozen? ⟨w.heap.size,4,none⟩=false:=hY.frozen 4
      have y5:wr.cell? ⟨w.heap.size,5,none⟩=some (.slice none 0 0):=hY.cell 5 rfl
      have yf5:wr.frozen? ⟨w.heap.size,5,none⟩=false:=hY.frozen 5
      have y6:wr.cell? ⟨w.heap.size,6,none⟩=some (.slice none 0 0):=hY.cell 6 rfl
      have yf6:wr.frozen? ⟨w.heap.size,6,none⟩=false:=hY.frozen 6
      have y7:wr.cell? ⟨w.heap.size,7,none⟩=some (.int .i64 0):=hY.cell 7 rfl
      have yf7:wr.frozen? ⟨w.heap.size,7,none⟩=false:=hY.frozen 7
      have y8:wr.cell? ⟨w.heap.size,8,none⟩=some (.slice none 0 0):=hY.cell 8 rfl
      have yf8:wr.frozen? ⟨w.heap.size,8,none⟩=false:=hY.frozen 8
      have y9:wr.cell? ⟨w.heap.size,9,none⟩=some (.slice none 0 0):=hY.cell 9 rfl
      have yf9:wr.frozen? ⟨w.heap.size,9,none⟩=false:=hY.frozen 9
      have y10:wr.cell? ⟨w.heap.size,10,none⟩=some (.slice none 0 0):=hY.cell 10 rfl
      have yf10:wr.frozen? ⟨w.heap.size,10,none⟩=false:=hY.frozen 10
      have yl:=cell_lt y0
      replace hW:Hid (Wr (w.heap.size≤·) w wr):=hW
      by_cases hcn:m.fu.length=m.co.length
      · rw [if_pos hcn] at htot
        replace htot:Hid (unL s s.size 8 0 (mdZ (-1))=(m,0)):=htot
        have hcn2:((m.fu.length:Int) != (m.co.length:Int))=false:=by rw [hcn];simp
        have hG:Hid (ModC (w.heap.size+2≤·) wr m [.slice A0 m.ty.length c0,.slice A1 m.im.length c1,.slice A2 m.fu.length c2,.slice A3 m.ta.length c3,.slice A4 m.me.length c4,.slice A5 m.gl.length c5,.slice A6 m.ex.length c6,.int .i64 m.st,.slice A8 m.el.length c8,.slice A9 m.co.length c9,.slice A10 m.da.length c10]):=⟨_,_,_,_,_,_,_,_,_,_,rfl,⟨A0,c0,rfl,g0⟩,⟨A1,c1,rfl,g1⟩,⟨A2,c2,rfl,g2⟩,⟨A3,c3,rfl,g3⟩,⟨A4,c4,rfl,g4⟩,⟨A5,c5,rfl,g5⟩,⟨A6,c6,rfl,g6⟩,⟨A8,c8,rfl,g8⟩,⟨A9,c9,rfl,g9⟩,⟨A10,c10,rfl,g10⟩⟩
        clear g0 g1 g2 g3 g4 g5 g6 g8 g9 g10 hX hY hE
        generalize m.fu.length=nf at *
        generalize m.co.length=nc at *
        subst hcn
        go_wp2_with fail
        refine bodyPost_ret (v:=.tuple #[.agg #[.slice A0 m.ty.length c0,.slice A1 m.im.length c1,.slice A2 nf c2,.slice A3 m.ta.length c3,.slice A4 m.me.length c4,.slice A5 m.gl.length c5,.slice A6 m.ex.length c6,.int .i64 m.st,.slice A8 m.el.length c8,.slice A9 nf c9,.slice A10 m.da.length c10],.int .i64 0]) (by simp [results,Tryz.results5,go_sem,x0,x1,x2,x3,x4,x5,x6,x7,x8,x9,x10,xl,y0,y1,y2,y3,y4,y5,y6,y7,y8,y9,y10,yl]) rfl ?_
        rw [htot.out]
        have hWf:∀W:World,Wr (fun k=>k=w.heap.size) wr W→Hid (UnP w (m,0) (.returned (.tuple #[.agg #[.slice A0 m.ty.length c0,.slice A1 m.im.length c1,.slice A2 nf c2,.slice A3 m.ta.length c3,.slice A4 m.me.length c4,.slice A5 m.gl.length c5,.slice A6 m.ex.length c6,.int .i64 m.st,.slice A8 m.el.length c8,.slice A9 nf c9,.slice A10 m.da.length c10],.int .i64 0])) W):=fun W hW2=>⟨[.slice A0 m.ty.length c0,.slice A1 m.im.length c1,.slice A2 nf c2,.slice A3 m.ta.length c3,.slice A4 m.me.length c4,.slice A5 m.gl.length c5,.slice A6 m.ex.length c6,.int .i64 m.st,.slice A8 m.el.length c8,.slice A9 nf c9,.slice A10 m.da.length c10],rfl,hG.out.move (fun k hk hl=>⟨by have hk:w.heap.size+2≤k:=hk;show w.heap.size≤k;omega,hW2.block k hl (fun e=>by have e:k=w.heap.size:=e;have hk:w.heap.size+2≤k:=hk;omega)⟩),Wr.later (S:=(w.heap.size≤·)) (hW.out.trans (hW2.mono (fun k _ e=>by have e:k=w.heap.size:=e;show w.heap.size≤k;omega))) (fun k hk=>hk)⟩
        exact hWf _ (by (repeat refine Wr.set ?_ _ _ (Or.inl rfl));exact Wr.refl _ _)
      · rw [if_neg hcn] at htot
        replace htot:Hid (unL s s.size 8 0 (mdZ (-1))=(mdZ 0,1505)):=htot
        have hcn2:((m.fu.length:Int) != (m.co.length:Int))=true:=by simp;omega
        clear g0 g1 g2 g3 g4 g5 g6 g8 g9 g10 hX hY hE hcn
        go_wp2_with fail
        refine bodyPost_ret (v:=.tuple #[.agg #[.slice none 0 0,.slice none 0 0,.slice none 0 0,.slice none 0 0,.slice none 0 0,.slice none 0 0,.slice none 0 0,.int .i64 0,.slice none 0 0,.slice none 0 0,.slice none 0 0],.int .i64 1505]) (by simp [results,Tryz.results5,go_sem,y0,y1,y2,y3,y4,y5,y6,y7,y8,y9,y10,yl]) rfl ?_
        rw [htot.out]
        exact⟨[.slice none 0 0,.slice none 0 0,.slice none 0 0,.slice none 0 0,.slice none 0 0,.slice none 0 0,.slice none 0 0,.int .i64 0,.slice none 0 0,.slice none 0 0,.slice none 0 0],rfl,ModC.zero _ _ 0,Wr.later (S:=(w.heap.size≤·)) (by (repeat refine Wr.set ?_ _ _ (Or.inl (Nat.le_refl _)));first|exact hW.out|exact Wr.ltr hW.out (Ld (Lz _))) (fun k hk=>hk)⟩
 · rw [if_pos (Or.inr hh)]
   have hh2:((s.extract 0 8).toList==[0,97,115,109,1,0,0,0])=false:=by rw [beq_eq_false_iff_ne];exact hh
   clear hh
   have h2:¬(65536:Int)<(s.size:Int):=by omega
   have h3:¬(s.size:Int)<8:=by omega
   have h4:(8:Int)≤(s.size:Int):=by omega
   clear h1 h8
   go_enter Tryz.func5,Tryz.ntmps5
   go_wp2_with fail
   refine bodyPost_ret (v:=.tuple #[.agg #[.slice none 0 0,.slice none 0 0,.slice none 0 0,.slice none 0 0,.slice none 0 0,.slice none 0 0,.slice none 0 0,.int .i64 0,.slice none 0 0,.slice none 0 0,.slice none 0 0],.int .i64 1500]) (by simp [results,Tryz.results5,go_sem]) rfl ?_
   exact⟨[.slice none 0 0,.slice none 0 0,.slice none 0 0,.slice none 0 0,.slice none 0 0,.slice none 0 0,.slice none 0 0,.int .i64 0,.slice none 0 0,.slice none 0 0,.slice none 0 0],rfl,ModC.zero _ _ 0,L0.out⟩
