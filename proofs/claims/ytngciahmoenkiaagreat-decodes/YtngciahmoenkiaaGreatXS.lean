import Derived.Test.YtngciahmoenkiaaGreatOB
import Derived.Test.YtngciahmoenkiaaGreatXR
import Derived.Test.YtngciahmoenkiaaGreatXB
import Derived.Below
import Derived.ArgAppend
import Derived.Laws.IdiomCopy
import Derived.Laws.IdiomStrings
import Derived.ChangeSame
import Derived.Lib.UnsafeStr
import Derived.Lib.BufferWrite
import Derived.Laws.MakeOwn
set_option linter.unusedVariables false
set_option linter.unusedSimpArgs false
set_option maxRecDepth 100000
set_option maxHeartbeats 4000000
namespace Go.Proofs.YtngciahmoenkiaaGreat
open Go.RowKit
def due3 (m l h:Int):Value:=.agg #[.int .i64 m,.int .u8 l,.int .u8 h]
def fst3 (c:Int):Int×Int×Int×Bool :=
 match lead c with
 | none=>(0,0,0,false)
 | some (0,_,_)=>(0,0,0,true)
 | some (m+1,l,h)=>(((m+1:Nat):Int),l,h,true)
theorem first_any (c:Int) (h0:0≤c∧c<256) (w:World) :
    Calls Tryz.prog 113 #[.int .u8 c] w fun e w'=>e=.returned (.tuple #[due3 (fst3 c).1 (fst3 c).2.1 (fst3 c).2.2.1,.bool (fst3 c).2.2.2])∧Later w w':=by
 have hh:(c<128∧fst3 c=(0,0,0,true))∨(¬c<128∧c<194∧fst3 c=(0,0,0,false))∨(¬c<128∧¬c<194∧244<c∧fst3 c=(0,0,0,false))
     ∨ (¬c<128∧¬c<194∧¬244<c∧c<224∧fst3 c=(1,128,191,true))∨(c=224∧fst3 c=(2,160,191,true))∨(c=237∧fst3 c=(2,128,159,true))
     ∨ (¬c<128∧¬c<194∧¬244<c∧¬c<224∧(c==224)=false∧(c==237)=false∧c<240∧fst3 c=(2,128,191,true))∨(c=240∧fst3 c=(3,144,191,true))∨(c=244∧fst3 c=(3,128,143,true))
     ∨ (¬c<128∧¬c<194∧¬244<c∧¬c<224∧(c==224)=false∧(c==237)=false∧¬c<240∧(c==240)=false∧(c==244)=false∧fst3 c=(3,128,191,true)):=by
  simp only [beq_eq_false_iff_ne,ne_eq]
  rcases lead_cases c h0.1 with ⟨h,e⟩|⟨h,e⟩|⟨h,e⟩|⟨h,e⟩|⟨h,e⟩|⟨h,e⟩|⟨h,e⟩|⟨h,e⟩|⟨h,e⟩|⟨h,e⟩ 
  · simp only [fst3,e]
    exact Or.inl ⟨h,trivial⟩
  · simp only [fst3,e]
    exact Or.inr (Or.inl ⟨by omega,by omega,trivial⟩)
  · simp only [fst3,e]
    exact Or.inr (Or.inr (Or.inr (Or.inl ⟨by omega,by omega,by omega,by omega,rfl⟩)))
  · simp only [fst3,e]
    exact Or.inr (Or.inr (Or.inr (Or.inr (Or.inl ⟨h,rfl⟩))))
  · simp only [fst3,e]
    exact Or.inr (Or.inr (Or.inr (Or.inr (Or.inr (Or.inl ⟨h,rfl⟩)))))
  · simp only [fst3,e]
    exact Or.inr (Or.inr (Or.inr (Or.inr (Or.inr (Or.inr (Or.inl ⟨by omega,by omega,by omega,by omega,by omega,by omega,by omega,rfl⟩))))))
  · simp only [fst3,e]
    exact Or.inr (Or.inr (Or.inr (Or.inr (Or.inr (Or.inr (Or.inr (Or.inl ⟨h,rfl⟩)))))))
  · simp only [fst3,e]
    exact Or.inr (Or.inr (Or.inr (Or.inr (Or.inr (Or.inr (Or.inr (Or.inr (Or.inl ⟨h,rfl⟩))))))))
  · simp only [fst3,e]
    exact Or.inr (Or.inr (Or.inr (Or.inr (Or.inr (Or.inr (Or.inr (Or.inr (Or.inr ⟨by omega,by omega,by omega,by omega,by omega,by omega,by omega,by omega,by omega,rfl⟩))))))))
  · simp only [fst3,e]
    exact Or.inr (Or.inr (Or.inl ⟨by omega,by omega,by omega,trivial⟩))
 clear h0
 rcases hh with ⟨h1,he⟩|⟨h1,h2,he⟩|⟨h1,h2,h3,he⟩|⟨h1,h2,h3,h4,he⟩|⟨rfl,he⟩|⟨rfl,he⟩|⟨h1,h2,h3,h4,h5,h6,h7,he⟩|⟨rfl,he⟩|⟨rfl,he⟩|⟨h1,h2,h3,h4,h5,h6,h7,h8,h9,he⟩
 all_goals
  rw [he]
  clear he
  go_enter Tryz.func113,Tryz.ntmps113
  go_wp2
  refine bodyPost_ret (v:=.tuple #[_,.bool _]) (by simp [results,Tryz.results113,go_sem,due3]) rfl ⟨rfl,(by repeat first|exact Lz _|apply La|apply Lv|apply Ld|apply Ln)⟩
def nxt3 (m l h c:Int):Int×Int×Int×Bool:=if m=0 then fst3 c else if c<l∨h<c then (0,0,0,false) else (m - 1,128,191,true)
theorem behind_any (m l h c:Int) (hm:0≤m∧m≤100) (hc:0≤c∧c<256) (w:World) :
    Calls Tryz.prog 106 #[due3 m l h,.int .u8 c] w fun e w'=>e=.returned (.tuple #[due3 (nxt3 m l h c).1 (nxt3 m l h c).2.1 (nxt3 m l h c).2.2.1,.bool (nxt3 m l h c).2.2.2])∧Later w w':=by
 unfold nxt3
 by_cases h0:m=0
 · subst h0
   rw [if_pos rfl]
   have hf:Hid (∀w:World,Calls Tryz.prog 113 #[.int .u8 c] w fun e w'=>e=.returned (.tuple #[due3 (fst3 c).1 (fst3 c).2.1 (fst3 c).2.2.1,.bool (fst3 c).2.2.2])∧Later w w'):=fun w=>first_any c hc w
   generalize fst3 c=p at *
   obtain⟨x,y,z,ok⟩:=p
   simp only at hf ⊢
   unfold due3 at *
   go_enter Tryz.func106,Tryz.ntmps106
   go_wp2_with (go_at_call 113;refine (hf.out _).mono ?_;rintro e w2 ⟨rfl,bs,n,rfl⟩)
   refine bodyPost_ret (v:=.tuple #[.agg #[.int .i64 x,.int .u8 y,.int .u8 z],.bool ok]) (by simp [results,Tryz.results106,go_sem]) rfl ⟨rfl,(by repeat first|exact Lz _|apply La|apply Lv|apply Ld|apply Ln)⟩
 · rw [if_neg h0]
   have h1:(m==0)=false:=beq_eq_false_iff_ne.2 h0
   have hw:m - 1≤9223372036854775807:=by omega
   have hw2:-9223372036854775808≤m - 1:=by omega
   clear h0 hm hc
   by_cases h2:c<l
   · rw [if_pos (Or.inl h2)]
     unfold due3
     go_enter Tryz.func106,Tryz.ntmps106
     go_wp2
     refine bodyPost_ret (v:=.tuple #[_,.bool _]) (by simp [results,Tryz.results106,go_sem]) rfl ⟨rfl,(by repeat first|exact Lz _|apply La|apply Lv|apply Ld|apply Ln)⟩
   · by_cases h3:h<c
     · rw [if_pos (Or.inr h3)]
       unfold due3
       go_enter Tryz.func106,Tryz.ntmps106
       go_wp2
       refine bodyPost_ret (v:=.tuple #[_,.bool _]) (by simp [results,Tryz.results106,go_sem]) rfl ⟨rfl,(by repeat first|exact Lz _|apply La|apply Lv|apply Ld|apply Ln)⟩
     · rw [if_neg (fun h=>h.elim h2 h3)]
       unfold due3
       go_enter Tryz.func106,Tryz.ntmps106
       go_wp2
       refine bodyPost_ret (v:=.tuple #[_,.bool _]) (by simp [results,Tryz.results106,go_sem]) rfl ⟨rfl,(by repeat first|exact Lz _|apply La|apply Lv|apply Ld|apply Ln)⟩
end Go.Proofs.YtngciahmoenkiaaGreat
namespace Go.Proofs.YtngciahmoenkiaaGreat
open Go.RowKit
def st3 (s:ByteArray) (k:Nat) (m l h:Int):Bool:=if m=0 then utf s (s.size - k) k else tls s k m.toNat l h && utf s (s.size - (k+m.toNat)) (k+m.toNat)
theorem st_end (s:ByteArray) (m l h:Int) (hm:0≤m):st3 s s.size m l h=(m==0):=by
 unfold st3
 by_cases h0:m=0
 · rw [if_pos h0,utf_end s _ _ (Nat.le_refl _),h0]
   rfl
 · rw [if_neg h0,beq_eq_false_iff_ne.2 h0]
   obtain⟨j,hj⟩:∃j,m.toNat=j+1:=⟨m.toNat - 1,by omega⟩
   rw [hj,tls_succ]
   unfold tl
   rw [decide_eq_false (by omega)]
   rfl
theorem st_none (s:ByteArray) (k:Nat) (m l h:Int) (hm:0≤m) (hk:k<s.size) (hn:(nxt3 m l h (bt s k)).2.2.2=false):st3 s k m l h=false:=by
 unfold st3
 unfold nxt3 at hn
 by_cases h0:m=0
 · rw [if_pos h0] at hn ⊢
   refine utf_none s k hk ?_
   unfold fst3 at hn
   split at hn
   · assumption
   · exact absurd hn (by simp)
   · exact absurd hn (by simp)
 · rw [if_neg h0] at hn ⊢
   by_cases h1:bt s k<l∨h<bt s k
   · obtain⟨j,hj⟩:∃j,m.toNat=j+1:=⟨m.toNat - 1,by omega⟩
     rw [hj,tls_succ]
     unfold tl
     rw [decide_eq_false (by omega)]
     rfl
   · rw [if_neg h1] at hn
     exact absurd hn (by simp)
theorem st_step (s:ByteArray) (k:Nat) (m l h:Int) (hm:0≤m) (hk:k<s.size) (hn:(nxt3 m l h (bt s k)).2.2.2=true) :
    st3 s k m l h=st3 s (k+1) (nxt3 m l h (bt s k)).1 (nxt3 m l h (bt s k)).2.1 (nxt3 m l h (bt s k)).2.2.1∧0≤(nxt3 m l h (bt s k)).1∧((nxt3 m l h (bt s k)).1≤3∨(nxt3 m l h (bt s k)).1≤m):=by
 unfold nxt3 at hn ⊢
 by_cases h0:m=0
 · rw [if_pos h0] at hn ⊢
   rcases hl:lead (bt s k) with _|⟨mm,l',h'⟩
   · simp only [fst3,hl] at hn
     exact absurd hn (by decide)
   · have hst:st3 s k m l h=(tls s (k+1) mm l' h' && utf s (s.size - (k+1+mm)) (k+1+mm)):=by
      unfold st3
      rw [if_pos h0]
      exact utf_step s k mm l' h' hk hl
     rw [hst]
     cases mm with
     | zero =>
      simp only [fst3,hl]
      refine⟨?_,by decide,Or.inl (by decide)⟩
      unfold st3
      rw [if_pos rfl]
      rfl
     | succ j =>
      simp only [fst3,hl]
      have hj:j+1≤3:=by
       rcases lead_cases (bt s k) (bt_lt s k).1 with ⟨_,e⟩|⟨_,e⟩|⟨_,e⟩|⟨_,e⟩|⟨_,e⟩|⟨_,e⟩|⟨_,e⟩|⟨_,e⟩|⟨_,e⟩|⟨_,e⟩ <;> rw [e] at hl <;> simp at hl <;> omega
      refine⟨?_,by omega,Or.inl (by omega)⟩
      unfold st3
      rw [if_neg (by omega),Int.toNat_natCast]
 · rw [if_neg h0] at hn ⊢
   by_cases h1:bt s k<l∨h<bt s k
   · rw [if_pos h1] at hn
     exact absurd hn (by decide)
   · rw [if_neg h1]
     refine⟨?_,by show 0≤m - 1;omega,Or.inr (by show m - 1≤m;omega)⟩
     obtain⟨j,hj⟩:∃j,m.toNat=j+1:=⟨m.toNat - 1,by omega⟩
     have hj2:(m - 1).toNat=j:=by omega
     show st3 s k m l h=st3 s (k+1) (m - 1) 128 191
     unfold st3
     rw [if_neg h0,hj,tls_succ,hj2]
     have ht:tl s k l h=true:=by unfold tl;exact decide_eq_true (by omega)
     rw [ht,Bool.true_and,show k+(j+1)=k+1+j by omega]
     by_cases h2:m - 1=0
     · rw [if_pos h2]
       obtain rfl:j=0:=by omega
       rfl
     · rw [if_neg h2]
def due_ (m l h:Int) (j:Nat):Value:=if j=0 then .int .i64 m else if j=1 then .int .u8 l else .int .u8 h
theorem q_at {V W:World} {x y z:Value} {t:TypeId} (h:Later (V.alloc (.cells #[x,y,z] t)) W):V.heap.size<W.heap.size∧W.cell? ⟨V.heap.size,0,none⟩=some x∧W.cell? ⟨V.heap.size,1,none⟩=some y∧W.cell? ⟨V.heap.size,2,none⟩=some z:=by
 have hs:=h.size
 refine⟨by simp at hs;omega,h.cell_of (by simp [go_sem]),h.cell_of (by simp [go_sem]),h.cell_of (by simp [go_sem])⟩
theorem at_world {F:Act→World→Prop} {a:Act} {W0:World} (h:∀W,W=W0→F a W):F a W0:=h W0 rfl
theorem isutf_any (s:ByteArray) (hs:s.size<9223372036854775000) (w:World) :
    Calls Tryz.prog 102 #[.string s] w fun e w'=>e=.returned (.bool (utfR s))∧Later w w':=by
 have hR:Hid (st3 s 0 0 0 0=utfR s):=by
  show st3 s 0 0 0 0=utfR s
  unfold st3 utfR
  rw [if_pos rfl]
  rfl
 generalize utfR s=R at *
 have hp:w.heap.size<w.heap.size+1:=by omega
 go_enter Tryz.func102,Tryz.ntmps102
 go_wp2_with fail
 go_loopw [9] (fun i wr=>∃(k:Nat) (m l h:Int),k≤s.size∧i=.int .i64 (k:Nat)∧(0≤m∧m≤3)∧st3 s k m l h=R∧Later w wr∧wr.rowIs w.heap.size 147 3 (due_ m l h)) (fun i _=>s.size - (intOf i).toNat)
 case atStart=>exact⟨0,0,0,0,Nat.zero_le _,rfl,by decide,hR.out,La (Lz _),World.rowIs_alloc w _ _ _ (fun i hi=>by have hi2:i<3:=hi;obtain rfl|rfl|rfl:i=0∨i=1∨i=2:=(by omega) <;> rfl)⟩
 case round =>
  obtain⟨k,m,l,h,hk,rfl,hm,hst,hL,hr⟩:=hrel
  have c0:wr.cell? ⟨w.heap.size,0,none⟩=some (.int .i64 m):=hr.cell (i:=0) (by decide)
  have c1:wr.cell? ⟨w.heap.size,1,none⟩=some (.int .u8 l):=hr.cell (i:=1) (by decide)
  have c2:wr.cell? ⟨w.heap.size,2,none⟩=some (.int .u8 h):=hr.cell (i:=2) (by decide)
  have hlt:=cell_lt c0
  by_cases hlk:k<s.size
  · have hl1:(k:Int)<(s.size:Int):=by omega
    have hb:bt s k=(s[k].toNat:Int):=dif_pos hlk
    have hbb:=bt_lt s k
    have hcall:Hid (∀W:World,Calls Tryz.prog 106 #[due3 m l h,.int .u8 (bt s k)] W fun e w'=>e=.returned (.tuple #[due3 (nxt3 m l h (bt s k)).1 (nxt3 m l h (bt s k)).2.1 (nxt3 m l h (bt s k)).2.2.1,.bool (nxt3 m l h (bt s k)).2.2.2])∧Later W w'):=fun W=>behind_any m l h (bt s k) (by omega) hbb W
    have hno:Hid ((nxt3 m l h (bt s k)).2.2.2=false→R=false):=fun hn=>by rw [←hst];exact st_none s k m l h hm.1 hlk hn
    have hyes:Hid ((nxt3 m l h (bt s k)).2.2.2=true→R=st3 s (k+1) (nxt3 m l h (bt s k)).1 (nxt3 m l h (bt s k)).2.1 (nxt3 m l h (bt s k)).2.2.1∧0≤(nxt3 m l h (bt s k)).1∧(nxt3 m l h (bt s k)).1≤3):=fun hn=>by
     obtain⟨h1,h2,h3⟩:=st_step s k m l h hm.1 hlk hn
     exact⟨by rw [←hst];exact h1,h2,by omega⟩
    rw [hb] at hcall hno hyes
    unfold due3 at hcall
    generalize nxt3 m l h (s[k].toNat:Int)=q at *
    obtain⟨x,y,z,ok⟩:=q
    simp only at hcall hno hyes
    replace hL:Hid (Later w wr):=hL
    replace hr:Hid (wr.rowIs w.heap.size 147 3 (due_ m l h)):=hr
    clear hb hbb hst hm hR
    go_wp2_with fail
    go_region_law (go_simp;go_at_call 106;refine (hcall.out _).mono ?_;rintro e w4 ⟨rfl,bs,n,rfl⟩)
    all_goals
     refine at_world ?_
     intro W hW
     have LW:Hid (Later wr W):=by subst hW;exact (by repeat first|exact Lz _|apply La|apply Lv|apply Ld|apply Ln)
     first
      | (have hq:∃q:Nat,q=(wr.drew.far bs n).heap.size∧w.heap.size≠q∧q<W.heap.size∧W.cell? ⟨q,0,none⟩=some (.int .i64 x)∧W.cell? ⟨q,1,none⟩=some (.int .u8 y)∧W.cell? ⟨q,2,none⟩=some (.int .u8 z):=by
          subst hW
          exact⟨(wr.drew.far bs n).heap.size,rfl,by have:=World.far_size wr.drew bs n;have:wr.drew.heap.size=wr.heap.size:=rfl;omega,q_at (V:=wr.drew.far bs n) (by repeat first|exact Lz _|apply La|apply Lv|apply Ld|apply Ln)⟩)
      | (have hq:∃q:Nat,q=wr.heap.size∧w.heap.size≠q∧q<W.heap.size∧W.cell? ⟨q,0,none⟩=some (.int .i64 x)∧W.cell? ⟨q,1,none⟩=some (.int .u8 y)∧W.cell? ⟨q,2,none⟩=some (.int .u8 z):=by
          subst hW
          exact⟨wr.heap.size,rfl,by omega,q_at (V:=wr.drew) (by repeat first|exact Lz _|apply La|apply Lv|apply Ld|apply Ln)⟩)
      | (have hq:∃q:Nat,q=wr.heap.size∧w.heap.size≠q∧q<W.heap.size∧W.cell? ⟨q,0,none⟩=some (.int .i64 x)∧W.cell? ⟨q,1,none⟩=some (.int .u8 y)∧W.cell? ⟨q,2,none⟩=some (.int .u8 z):=by
          subst hW
          exact⟨wr.heap.size,rfl,by omega,q_at (V:=wr) (by repeat first|exact Lz _|apply La|apply Lv|apply Ld|apply Ln)⟩)
     have R1:W.rowIs w.heap.size 147 3 (due_ m l h):=rowIs_later LW.out hr.out
     have f0:=R1.frozen 0
     have f1:=R1.frozen 1
     have f2:=R1.frozen 2
     have d0:W.cell? ⟨w.heap.size,0,none⟩=some (.int .i64 m):=R1.cell (i:=0) (by decide)
     have d1:W.cell? ⟨w.heap.size,1,none⟩=some (.int .u8 l):=R1.cell (i:=1) (by decide)
     have d2:W.cell? ⟨w.heap.size,2,none⟩=some (.int .u8 h):=R1.cell (i:=2) (by decide)
     have R2:Hid (((((W.setCell ⟨w.heap.size,0,none⟩ (.int .i64 x)).setCell ⟨w.heap.size,1,none⟩ (.int .u8 y)).setCell ⟨w.heap.size,2,none⟩ (.int .u8 z))).rowIs w.heap.size 147 3 (due_ x y z)):=by
      refine (((R1.set 0 (.int .i64 x)).set 1 (.int .u8 y)).set 2 (.int .u8 z)).congr (fun j hj=>?_)
      obtain rfl|rfl|rfl:j=0∨j=1∨j=2:=(by omega) <;> rfl
     have T2:Turned w.heap.size W (((W.setCell ⟨w.heap.size,0,none⟩ (.int .i64 x)).setCell ⟨w.heap.size,1,none⟩ (.int .u8 y)).setCell ⟨w.heap.size,2,none⟩ (.int .u8 z)):=(((Turned.refl R1).set R1 0 _).set R1 1 _).set R1 2 _
     have L2:Hid (Later w (((W.setCell ⟨w.heap.size,0,none⟩ (.int .i64 x)).setCell ⟨w.heap.size,1,none⟩ (.int .u8 y)).setCell ⟨w.heap.size,2,none⟩ (.int .u8 z))):=(hL.out.trans LW.out).turned R1 (Nat.le_refl _) T2
     have L3:Hid (Later w W):=hL.out.trans LW.out
     obtain⟨q,hq',hne,hql,q0,q1,q2⟩:=hq
     have hlW:=cell_lt d0
     clear T2 R1 hW c0 c1 c2 hlt hL hr LW hp
     rw [←hq']
     clear hq'
     cases ok with
     | false =>
      obtain rfl:=hno.out rfl
      clear hyes hno hcall hk hs L2 R2
      go_wp2_with fail
      go_ret
      exact⟨rfl,L3.out⟩
     | true =>
      obtain⟨e1,e2,e3⟩:=hyes.out rfl
      replace e1:Hid _:=e1
      clear hno hcall hyes L3
      go_wp2_with fail
      go_roundw
      case rel=>exact⟨k+1,x,y,z,by omega,by go_num,⟨e2,e3⟩,e1.out.symm,L2.out,R2.out⟩
      case measure=>simp [intOf];omega
  · obtain rfl:k=s.size:=by omega
    rw [st_end s m l h hm.1] at hst
    have hl1:¬((s.size:Int)<(s.size:Int)):=by omega
    replace hL:Hid (Later w wr):=hL
    replace hst:Hid ((m==0)=R):=hst
    clear hk hlk hR hr hp hs
    go_wp2_with fail
    go_ret
    exact⟨by rw [hst.out];rfl,hL.out⟩
end Go.Proofs.YtngciahmoenkiaaGreat
namespace Go.Proofs.YtngciahmoenkiaaGreat
open Go.RowKit
theorem post_none {H:Type} {enc:TypeId×Value→H} {P:Program} {f:Func} {s:ChangeSpec} {apart fresh handsOn again:Bool} {W W':World} {args:Array Value} {v:Value} {ds gs:List (DataW H)}
    (hW:DataW.Whole enc P f.params.toList s.vars apart W args.toList ds gs [])
    (hres:∀(b:Nat) (sp:Nat→Bool) (hd:Bool),DataW.TrodAll enc P W' b sp hd f.resultTypes.toList (v.resultList f.resultTypes.size) (s.fn H (ds++gs)).results [])
    (hargs:∀sp:Nat→Bool,DataW.TrodAll enc P W' 0 sp true f.params.toList args.toList (s.fn H (ds++gs)).args [])
    (hvars:∀sp:Nat→Bool,DataW.TrodVars enc P W' sp s.vars (s.fn H (ds++gs)).vars [])
    (hk:W.keptBut W' (·∈([]:List MemPlace)))
    (hok:∀(j:Nat) (t:TypeId) (r:Value),f.resultTypes[j]?=some t→(v.resultList f.resultTypes.size)[j]?=some r→Value.okWide P W' .any 0 t r) :
    s.post enc P f apart fresh handsOn again W args v W':=by
 refine⟨ds,gs,[],[],[],[],hW,hres _ _ _,hargs _,hvars _,World.keptBut_mono (fun p hp=>absurd hp List.not_mem_nil) hk,fun _=>⟨hok,_,_,[],⟨[],[],ChangeShapes.trodAll_append (hargs _) (hres _ _ _),hvars _,rfl,fun b off hp=>?_,fun _=>List.nodup_nil⟩,fun p hp _=>hp⟩⟩
 simp at hp
end Go.Proofs.YtngciahmoenkiaaGreat
namespace Go.Proofs.YtngciahmoenkiaaGreat
open Go.RowKit
theorem later_below {w w':World} (n:Nat) (h:Below w.heap.size w w') (hd:w'.drawn=w.drawn+n):Later w w':=by
 refine⟨w'.heap.extract w.heap.size w'.heap.size,n,?_⟩
 obtain⟨h1,h2,h3,h4,h5⟩:=h
 have hh:w'.heap=w.heap++w'.heap.extract w.heap.size w'.heap.size:=by
  apply Array.ext_getElem?
  intro k
  rcases Nat.lt_or_ge k w.heap.size with hk|hk
  · rw [Array.getElem?_append_left hk,h5 k hk]
  · rw [Array.getElem?_append_right hk,Array.getElem?_extract]
    by_cases hk2:k<w'.heap.size
    · rw [if_pos (by omega)]
      congr 1
      omega
    · rw [if_neg (by omega),Array.getElem?_eq_none (by omega)]
 cases w'
 simp only at h1 h2 h3 hd hh
 subst h1 h2 h3 hd
 unfold World.far
 rw [←hh]
theorem sclone_any (s:ByteArray) (hlim:s.size≤65536) (w:World) :
    Calls Tryz.prog 97 #[.string s] w fun e w'=>e=.returned (.string s)∧Later w w':=by
 by_cases h0:s.size=0
 · have hs:s=⟨#[]⟩:=by
    apply ByteArray.ext
    exact Array.eq_empty_of_size_eq_zero h0
   subst hs
   go_enter Tryz.func97,Tryz.ntmps97
   go_wp2
   go_ret
   exact⟨rfl,Lz _⟩
 · obtain⟨i0,hi,hz0,hz1,hz2⟩:=byte_parts
   have hinfo:(Tryz.prog.info? 5).map (·.size)=some 1:=by rw [hi];simp [hz1]
   have hco:Tryz.prog.cellsOf 5=1:=by simp [Program.cellsOf,hi,hz1]
   obtain⟨M,hM⟩:∃M,M=madeCells (Value.int .u8 0).cells (((s.size:Nat):Int).toNat*i0.size):=⟨_,rfl⟩
   have hMs:M.size=s.size:=by rw [hM,size_madeCells,hz1];simp
   have hmk:∀W:World,(Instr.makeSlice 144 (.int .i64 (s.size:Int)) (.int .i64 (s.size:Int))).run Tryz.prog W=.ok (.slice (some ⟨W.heap.size,0,none⟩) s.size s.size) (W.alloc (.cells M 5)):=fun W=>by
    have h:=run_make (P:=Tryz.prog) W 144 5 i0 (.int .u8 0) Tryz.underlying144 hi hz0 .i64 .i64 (s.size:Int) (s.size:Int) (by omega) (by omega) (by rw [hz2];omega) (by omega)
    rw [←hM] at h
    simpa using h
   clear hM
   have hcp:=Lib.run_copy_row_string (P:=Tryz.prog) (w.alloc (.cells M 5)) 144 9 3 5 w.heap.size 0 s.size s.size s M 5 Tryz.underlying144 hinfo (heap_alloc_new w _) (Nat.le_refl _) (by omega)
   obtain⟨Y,hY⟩:∃Y,Y=(M.toList.take 0++Lib.byteCells s.data.toList++M.toList.drop (0+s.size)).toArray:=⟨_,rfl⟩
   rw [←hY] at hcp
   have hYl:Y.toList=Lib.byteCells s.data.toList:=by
    rw [hY,List.toList_toArray,List.take_zero,List.nil_append,List.drop_of_length_le (by rw [Array.length_toList];omega),List.append_nil]
   have hYs:Y.size=s.size:=by rw [←Array.length_toList,hYl,Lib.byteCells_length,←Lib.size_eq]
   have hgY:((w.alloc (.cells M 5)).setRow w.heap.size Y).heap[w.heap.size]?=some (.cells Y 5 (0,0)):=setRow_heap _ _ M _ 5 (0,0) (heap_alloc_new w _)
   have hne:s.data.toList≠[]:=fun e=>h0 (by rw [Lib.size_eq,e];rfl)
   have hUS:=Lib.run_unsafeString_row (P:=Tryz.prog) ((w.alloc (.cells M 5)).setRow w.heap.size Y) 145 3 9 5 Tryz.underlying145 hco w.heap.size Y.size (by unfold World.shape?;rw [hgY]) s.data.toList hne (by rw [←Lib.size_eq];omega) (by rw [←Lib.size_eq];omega)
    (fun j x hx=>Lib.cells_of_row hgY Y.size j _ (by rw [List.take_of_length_le (by rw [Array.length_toList];exact Nat.le_refl _),hYl];simp [Lib.byteCells,hx]))
   rw [←Lib.size_eq] at hUS
   clear hY
   have hb1:Below w.heap.size w (w.alloc (.cells M 5)):=(Below.refl _ w).alloc (Nat.le_refl _) _
   have hb2:Below w.heap.size (w.alloc (.cells M 5)) ((w.alloc (.cells M 5)).setRow w.heap.size Y):=⟨rfl,rfl,rfl,by simp,fun k hk=>setRow_other _ _ _ _ (by omega)⟩
   have hL:Hid (Later w (((w.alloc (.cells M 5)).setRow w.heap.size Y).freeze ⟨w.heap.size,0,none⟩ s.size)):=later_below 0 (Lib.below_freeze (hb1.trans hb2) (p:=⟨w.heap.size,0,none⟩) (Nat.le_refl _) _) (by unfold World.freeze;rw [if_neg h0];rfl)
   clear hb1 hb2
   go_enter Tryz.func97,Tryz.ntmps97
   go_wp2
   go_ret
   exact⟨rfl,hL.out⟩
theorem clone_any (s:ByteArray) (hlim:s.size≤65536) (w:World) :
    Calls Tryz.prog 91 #[.string s] w fun e w'=>e=.returned (.string s)∧Later w w':=by
 go_enter Tryz.func91,Tryz.ntmps91
 go_wp2_with (go_at_call 97;refine (sclone_any s hlim _).mono ?_;rintro e w' ⟨rfl,h⟩;replace h:Hid _:=h)
 go_ret
 exact⟨rfl,h.out⟩
def flt (s:ByteArray):Int:=if 64<s.size then 1301 else if utfR s=true then 0 else 1300
theorem fault_any (s:ByteArray) (hs:s.size<9223372036854775000) (w:World) :
    Calls Tryz.prog 95 #[.string s] w fun e w'=>e=.returned (.int .i64 (flt s))∧Later w w':=by
 unfold flt
 by_cases h:64<s.size
 · have h1:(64:Int)<(s.size:Int):=by omega
   rw [if_pos h]
   go_enter Tryz.func95,Tryz.ntmps95
   go_wp2
   go_ret
   exact⟨rfl,Lz _⟩
 · have h1:¬(64:Int)<(s.size:Int):=by omega
   rw [if_neg h]
   have hu:Hid (∀w:World,Calls Tryz.prog 102 #[.string s] w fun e w'=>e=.returned (.bool (utfR s))∧Later w w'):=fun w=>isutf_any s hs w
   generalize utfR s=b at *
   cases b
   all_goals
    go_enter Tryz.func95,Tryz.ntmps95
    go_wp2_with (go_at_call 102;refine (hu.out _).mono ?_;rintro e w2 ⟨rfl,l2⟩;replace l2:Hid (Later w w2):=l2)
    go_ret
    exact⟨rfl,l2.out⟩
end Go.Proofs.YtngciahmoenkiaaGreat
namespace Go.Proofs.YtngciahmoenkiaaGreat
open Go.RowKit
theorem nget_any (s:ByteArray) (hs:s.size<9223372036854775000) (at_:Int) (ha:-9223372036854775808≤at_∧at_≤9223372036854775807) (w:World) :
    Calls Tryz.prog 87 #[.string s,.int .i64 at_] w fun e w'=>e=.returned (.tuple #[.string (unR s at_).1,.int .i64 (unR s at_).2.1,.int .i64 (unR s at_).2.2])∧Later w w':=by
 have hul:Hid (∀w:World,Calls Tryz.prog 47 #[.string s,.int .i64 at_,.int .i64 32] w fun e w'=>e=.returned (.tuple #[.int .i64 (ulR s at_ 32).1,.int .i64 (ulR s at_ 32).2.1,.int .i64 (ulR s at_ 32).2.2])∧Later w w'):=fun w=>get_any s hs at_ 32 ha (by decide) w
 unfold unR
 have hr:=ul_rng s at_
 obtain⟨⟨k,to,e⟩,hq⟩:∃q,ulR s at_ 32=q:=⟨_,rfl⟩
 rw [hq] at hul hr ⊢
 simp only at hul hr ⊢
 by_cases he:e=0
 · subst he
   obtain⟨r1,r2,r3,r4⟩:=hr rfl
   obtain⟨K,rfl⟩:=Int.eq_ofNat_of_zero_le r1
   obtain⟨A,rfl⟩:=Int.eq_ofNat_of_zero_le r3
   simp only [Int.toNat_natCast,true_and]
   clear hr hq
   have hw1:-9223372036854775808≤(s.size:Int) - (A:Int):=by omega
   have hw2:(s.size:Int) - (A:Int)≤9223372036854775807:=by omega
   by_cases hk:(K:Int)≤(s.size:Int) - (A:Int)
   · rw [if_pos hk]
     have hk1:¬((s.size:Int) - (A:Int)<(K:Int)):=by omega
     have hsl:=sl_eq s A K (by omega)
     have hw3:-9223372036854775808≤(A:Int)+(K:Int):=by omega
     have hw4:(A:Int)+(K:Int)≤9223372036854775807:=by omega
     have hz:(s.extract A (A+K)).size=K:=by rw [ByteArray.size_extract];omega
     have hf:Hid (∀w:World,Calls Tryz.prog 95 #[.string (s.extract A (A+K))] w fun e w'=>e=.returned (.int .i64 (flt (s.extract A (A+K))))∧Later w w'):=fun w=>fault_any _ (by omega) w
     have hfl:flt (s.extract A (A+K))=if (64:Int)<(K:Int) then 1301 else if utfR (s.extract A (A+K))=true then 0 else 1300:=by
      unfold flt
      rw [hz]
      by_cases h64:64<K
      · rw [if_pos h64,if_pos (show (64:Int)<(K:Int) by omega)]
      · rw [if_neg h64,if_neg (show ¬(64:Int)<(K:Int) by omega)]
     by_cases hc:¬(64:Int)<(K:Int)∧utfR (s.extract A (A+K))=true
     · rw [if_neg hc.1,if_pos hc.2] at hfl ⊢
       rw [hfl] at hf
       have hcl:Hid (∀w:World,Calls Tryz.prog 91 #[.string (s.extract A (A+K))] w fun e w'=>e=.returned (.string (s.extract A (A+K)))∧Later w w'):=fun w=>clone_any _ (by rw [hz];omega) w
       clear hfl hc hz r1 r2 r3 r4 hk ha
       go_enter Tryz.func87,Tryz.ntmps87
       go_wp2_with (first|(go_at_call 47;refine (hul.out _).mono ?_;rintro e w2 ⟨rfl,l2⟩;replace l2:Hid (Later w w2):=l2;clear hul)|(go_at_call 95;refine (hf.out _).mono ?_;rintro e w3 ⟨rfl,l3⟩;replace l3:Hid (Later w2 w3):=l3;clear hf)|(go_at_call 91;refine (hcl.out _).mono ?_;rintro e w4 ⟨rfl,l4⟩;replace l4:Hid (Later w3 w4):=l4;clear hcl))
       go_ret3
       exact⟨rfl,(l2.out.trans l3.out).trans l4.out⟩
     · obtain⟨E,hE,hE0,hE2⟩:∃E:Int,flt (s.extract A (A+K))=E∧¬E=0∧(if (64:Int)<(K:Int) then ((⟨#[]⟩:ByteArray),(0:Int),(1301:Int)) else if utfR (s.extract A (A+K))=true then (s.extract A (A+K),(A:Int)+(K:Int),0) else (⟨#[]⟩,0,1300))=(⟨#[]⟩,0,E):=by
        by_cases h64:(64:Int)<(K:Int)
        · rw [if_pos h64] at hfl ⊢;exact⟨1301,hfl,by decide,rfl⟩
        · have hu:¬utfR (s.extract A (A+K))=true:=fun h=>hc ⟨h64,h⟩
          rw [if_neg h64,if_neg hu] at hfl ⊢
          exact⟨1300,hfl,by decide,rfl⟩
       rw [hE2]
       rw [hE] at hf
       have hE3:(E != 0)=true:=by simpa using hE0
       clear hfl hc hz r1 r2 r3 r4 hk ha hE hE0 hE2
       go_enter Tryz.func87,Tryz.ntmps87
       go_wp2_with (first|(go_at_call 47;refine (hul.out _).mono ?_;rintro e w2 ⟨rfl,l2⟩;replace l2:Hid (Later w w2):=l2;clear hul)|(go_at_call 95;refine (hf.out _).mono ?_;rintro e w3 ⟨rfl,l3⟩;replace l3:Hid (Later w2 w3):=l3;clear hf))
       go_ret3
       exact⟨rfl,l2.out.trans l3.out⟩
   · rw [if_neg hk]
     have hk1:(s.size:Int) - (A:Int)<(K:Int):=by omega
     clear hk
     go_enter Tryz.func87,Tryz.ntmps87
     go_wp2_with (go_at_call 47;refine (hul.out _).mono ?_;rintro e w2 ⟨rfl,l2⟩;replace l2:Hid (Later w w2):=l2;clear hul)
     go_ret3
     exact⟨rfl,l2.out⟩
 · rw [if_neg (fun h=>he h.1)]
   have he2:(e != 0)=true:=by simpa using he
   clear hr hq he
   go_enter Tryz.func87,Tryz.ntmps87
   go_wp2_with (go_at_call 47;refine (hul.out _).mono ?_;rintro e w2 ⟨rfl,l2⟩;replace l2:Hid (Later w w2):=l2;clear hul)
   go_ret3
   exact⟨rfl,l2.out⟩
