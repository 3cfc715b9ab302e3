import Derived.Test.YtngciahmoenkiaaGreatEA
import Derived.Test.YtngciahmoenkiaaGreatOB
import Derived.Test.YtngciahmoenkiaaGreatXE
import Derived.Test.YtngciahmoenkiaaGreatXN
set_option linter.unusedVariables false
set_option linter.unusedSimpArgs false
set_option maxRecDepth 100000
set_option maxHeartbeats 4000000
namespace Go.Proofs.YtngciahmoenkiaaGreat
open Go.RowKit
structure Sst where
 at_:Int
 code:Int
def sF (s:ByteArray) (st:Sst) (j:Nat):Value:=[Value.string s,.int .i64 st.at_,.int .i64 st.code].getD j undef
def sfail (st:Sst) (e:Int):Sst:=if st.code=0 then { st with code:=e } else st
def sbyte (s:ByteArray) (st:Sst):Int×Sst:=if st.code=0∧st.at_<s.size then (bt s st.at_.toNat,{ st with at_:=st.at_+1 }) else (0,sfail st 1506)
def snum (s:ByteArray) (st:Sst):Int×Sst:=if ¬st.code=0 then (0,st) else if (ulR s st.at_ 32).2.2=0 then ((ulR s st.at_ 32).1,{ st with at_:=(ulR s st.at_ 32).2.1 }) else (0,sfail st 1506)
def smany (s:ByteArray) (most:Int) (st:Sst):Int×Sst:=if most<(snum s st).1 then (0,sfail (snum s st).2 1508) else snum s st
def sname (s:ByteArray) (st:Sst):ByteArray×Sst:=if ¬st.code=0 then (⟨#[]⟩,st) else if (unR s st.at_).2.2=0 then ((unR s st.at_).1,{ st with at_:=(unR s st.at_).2.1 }) else if (unR s st.at_).2.2=1301 then (⟨#[]⟩,sfail st 1508) else (⟨#[]⟩,sfail st 1506)
def smust (s:ByteArray) (b:Int) (st:Sst):Sst:=if (sbyte s st).1=b then (sbyte s st).2 else sfail (sbyte s st).2 1506
def skind (s:ByteArray) (st:Sst):Int×Sst:=((sbyte s st).1,if (sbyte s st).2.code=0∧¬(124≤(sbyte s st).1∧(sbyte s st).1≤127) then sfail (sbyte s st).2 1506 else (sbyte s st).2)
def sflag (s:ByteArray) (st:Sst):Bool×Sst:=(decide ((sbyte s st).1=1),if 1<(sbyte s st).1 then sfail (sbyte s st).2 1506 else (sbyte s st).2)
def slim (s:ByteArray) (st:Sst):(Int×Int)×Sst :=
 if (sflag s st).1=false then (((snum s (sflag s st).2).1,-1),(snum s (sflag s st).2).2)
 else (((snum s (sflag s st).2).1,(snum s (snum s (sflag s st).2).2).1),(snum s (snum s (sflag s st).2).2).2)
def Sin (s:ByteArray) (st:Sst):Prop:=0≤st.at_∧st.at_≤s.size
theorem sfail_in {s:ByteArray} {st:Sst} (h:Sin s st) (e:Int):Sin s (sfail st e):=by
 unfold sfail
 split <;> exact h
theorem sbyte_in {s:ByteArray} {st:Sst} (h:Sin s st):Sin s (sbyte s st).2:=by
 unfold sbyte
 split
 · rename_i h1
   exact⟨by have:=h.1;show 0≤st.at_+1;omega,by have:=h1.2;show st.at_+1≤_;omega⟩
 · exact sfail_in h _
theorem snum_in {s:ByteArray} {st:Sst} (h:Sin s st):Sin s (snum s st).2:=by
 unfold snum
 split
 · exact h
 · split
   · rename_i h1
     have:=ul_rng s st.at_ h1
     exact⟨by show 0≤(ulR s st.at_ 32).2.1;omega,by show (ulR s st.at_ 32).2.1≤_;omega⟩
   · exact sfail_in h _
theorem smany_in {s:ByteArray} {st:Sst} (h:Sin s st) (m:Int):Sin s (smany s m st).2:=by
 unfold smany
 split
 · exact sfail_in (snum_in h) _
 · exact snum_in h
def Ss (q:Nat) (w wr:World) (s:ByteArray) (st:Sst):Prop:=Wr (·=q) w wr∧wr.rowIs q 48 3 (sF s st)
variable {q:Nat} {w wr wr':World} {s:ByteArray} {st st':Sst}
theorem Ss.start (h:w.rowIs q 48 3 (sF s st)):Ss q w w s st:=⟨Wr.refl _ _,h⟩
theorem Ss.later (h:Ss q w wr s st) (hl:Later wr wr'):Ss q w wr' s st:=⟨h.1.ltr hl,rowIs_later hl h.2⟩
theorem Ss.trans (h:Ss q w wr s st) (h2:Ss q wr wr' s st'):Ss q w wr' s st':=⟨h.1.trans h2.1,h2.2⟩
theorem Ss.set (h:Ss q w wr s st) (i:Nat) (v:Value) (h2:∀j,j<3→(if j=i then v else sF s st j)=sF s st' j):Ss q w (wr.setCell ⟨q,i,none⟩ v) s st':=by
 refine⟨h.1.set i v (Or.inl rfl),?_⟩
 obtain⟨cs,e1,e2,e3⟩:=h.2.set i v
 exact⟨cs,e1,e2,fun j hj=>by rw [e3 j hj];exact congrArg some (h2 j hj)⟩
theorem Ss.cell (h:Ss q w wr s st) (i:Nat) (hi:i<3):wr.cell? ⟨q,i,none⟩=some (sF s st i):=h.2.cell hi
theorem Ss.frozen (h:Ss q w wr s st) (i:Nat):wr.frozen? ⟨q,i,none⟩=false:=h.2.frozen i
theorem Ss.size (h:Ss q w wr s st):w.heap.size≤wr.heap.size:=h.1.size
theorem Ss.keep (h:Ss q w wr s st) {k i:Nat} {v:Value} (hk:k≠q) (hc:w.cell? ⟨k,i,none⟩=some v):wr.cell? ⟨k,i,none⟩=some v:=h.1.cell hk hc
theorem Ss.put (h:Ss q w wr s st) {p:Nat} (hp:w.heap.size≤p) (hq:q<w.heap.size) (i:Nat) (v:Value):Ss q w (wr.setCell ⟨p,i,none⟩ v) s st:=⟨h.1.set i v (Or.inr hp),h.2.of_block (Below.heap_setCell wr ⟨p,i,none⟩ v q (fun e=>by have e:q=p:=e;omega))⟩
theorem Ss.above {B:Nat} (h:Ss q w wr s st) (h2:Wr (B≤·) wr wr') (hB:w.heap.size≤B) (hq:q<B):Ss q w wr' s st:=⟨h.1.above h2 hB,h.2.of_block (h2.block q h.2.lt (by show ¬B≤q;omega))⟩
theorem Mk.read {α:Type} {f:α→List Fd} {e t:TypeId} {k by_:Nat} {v:Value} {xs:List α} (hM:Mk f w.heap.size e k wr v xs) (R:Ss q w wr s st) (hq:q<w.heap.size) (hT:Ti t e k by_) (ty:TypeId) (x:α) (hf:(f x).length=k) (c:List Value) (hn:(xs.length+1)*by_≤140737488355328) (h63:xs.length+1≤1000000000) {w2:World} (R2:Ss q wr w2 s st') (hc:itc (wr.heap.size≤·) w2 (f x) c) :
    ∃g cap w',(Builtin.append_ #[t,t] ty #[v,.slice (some ⟨w2.heap.size,0,none⟩) 1 1]).run Tryz.prog (w2.alloc (.cells c.toArray e))=.ok (.slice (some ⟨g,0,none⟩) (xs.length+1) cap) w'∧Mk f w.heap.size e k w' (.slice (some ⟨g,0,none⟩) (xs.length+1) cap) (xs++[x])∧Ss q w w' s st':=by
 obtain⟨g,cap',w',r,M',W'⟩:=hM.more (w:=w2) hT ty R.size R2.size (fun j hj hl=>R2.1.block j hl (fun e=>by have e:j=q:=e;omega)) x hf c hc hn h63
 exact⟨g,cap',w',r,M',(R.trans R2).above W' (Nat.le_refl _) hq⟩
theorem row_new (w:World) (T:TypeId) (L:List Value):(w.alloc (.cells L.toArray T)).rowIs w.heap.size T L.length (fun j=>L.getD j undef):=⟨_,heap_alloc_new w _,by simp,fun i hi=>by simp [List.getD,hi]⟩
theorem sset1 {a b a':Int}:∀j,j<3→(if j=1 then Value.int .i64 a' else sF s ⟨a,b⟩ j)=sF s ⟨a',b⟩ j:=fun j hj=>by
 match j,hj with
 | 0,_=>rfl
 | 1,_=>rfl
 | 2,_=>rfl
theorem sset2 {a b b':Int}:∀j,j<3→(if j=2 then Value.int .i64 b' else sF s ⟨a,b⟩ j)=sF s ⟨a,b'⟩ j:=fun j hj=>by
 match j,hj with
 | 0,_=>rfl
 | 1,_=>rfl
 | 2,_=>rfl
theorem sfail_any (e:Int) (w:World) (h:w.rowIs q 48 3 (sF s st)) :
    Calls Tryz.prog 16 #[.pointer (some ⟨q,0,none⟩),.int .i64 e] w fun e' w'=>e'=.returned (.tuple #[])∧Hid (Ss q w w' s (sfail st e)):=by
 have R:=Ss.start h
 obtain⟨a0,cd⟩:=st
 have c2:w.cell? ⟨q,2,none⟩=some (.int .i64 cd):=R.cell 2 (by decide)
 have f2:=R.frozen 2
 have hl:=cell_lt c2
 unfold sfail
 simp only []
 by_cases h0:cd=0
 · rw [if_pos h0]
   have R2:Hid (Ss q w (w.setCell ⟨q,2,none⟩ (.int .i64 e)) s ⟨a0,e⟩):=R.set 2 _ sset2
   clear R h
   go_enter Tryz.func16,Tryz.ntmps16
   go_wp2_with fail
   go_end0
   exact⟨rfl,R2⟩
 · rw [if_neg h0]
   have h1:(cd==0)=false:=beq_false h0
   replace R:Hid (Ss q w w s ⟨a0,cd⟩):=R
   clear h
   go_enter Tryz.func16,Tryz.ntmps16
   go_wp2_with fail
   go_end0
   exact⟨rfl,R⟩
theorem sbyte_any (hs:s.size<9223372036854775000) (hin:Sin s st) (w:World) (h:w.rowIs q 48 3 (sF s st)) :
    Calls Tryz.prog 36 #[.pointer (some ⟨q,0,none⟩)] w fun e' w'=>e'=.returned (.int .i64 (sbyte s st).1)∧Hid (Ss q w w' s (sbyte s st).2):=by
 have R:=Ss.start h
 obtain⟨a0,cd⟩:=st
 have c0:w.cell? ⟨q,0,none⟩=some (.string s):=R.cell 0 (by decide)
 have c1:w.cell? ⟨q,1,none⟩=some (.int .i64 a0):=R.cell 1 (by decide)
 have c2:w.cell? ⟨q,2,none⟩=some (.int .i64 cd):=R.cell 2 (by decide)
 have f1:=R.frozen 1
 have hl:=cell_lt c2
 obtain⟨a,ha⟩:=Int.eq_ofNat_of_zero_le hin.1
 have ha':a0=(a:Int):=ha
 subst ha'
 have ha2:a≤s.size:=by have:=hin.2;simp only [] at this;omega
 unfold sbyte
 simp only []
 by_cases h0:cd=0
 · subst h0
   by_cases h1:(a:Int)<s.size
   · rw [if_pos ⟨rfl,h1⟩]
     have hasz:a<s.size:=by omega
     have hb:bt s (a:Int).toNat=(s[a].toNat:Int):=by rw [Int.toNat_natCast];exact dif_pos hasz
     rw [hb]
     have h3:¬(s.size:Int)≤(a:Int):=by omega
     have hwr:wrap64 (s[a].toNat:Int)=(s[a].toNat:Int):=by have:=s[a].toNat_lt;unfold wrap64;omega
     replace R:Hid (Ss q w w s ⟨(a:Int),0⟩):=R
     clear h hb hin ha
     go_enter Tryz.func36,Tryz.ntmps36
     go_wp2_with fail
     go_quiet (fail)
     go_wp2_with fail
     go_quiet (fail)
     go_wp2_with fail
     go_ret
     exact⟨by show Ending.returned (.int .i64 (wrap64 _))=_;rw [hwr],((R.out.later (Ln (Lz _))).set (st':=⟨(a:Int)+1,0⟩) 1 _ sset1).later (Ln (Lz _))⟩
   · rw [if_neg (fun x=>h1 x.2)]
     have h3:(s.size:Int)≤(a:Int):=by omega
     replace R:Hid (Ss q w w s ⟨(a:Int),0⟩):=R
     have hfail:Hid (∀W,Later w W→Calls Tryz.prog 16 #[.pointer (some ⟨q,0,none⟩),.int .i64 1506] W fun e' w'=>e'=.returned (.tuple #[])∧Hid (Ss q W w' s (sfail ⟨(a:Int),0⟩ 1506))):=fun W hW=>sfail_any 1506 W (R.out.later hW).2
     clear h hin ha
     go_enter Tryz.func36,Tryz.ntmps36
     go_wp2_with fail
     go_quiet (fail)
     go_wp2_with (go_at_call 16;refine (hfail.out _ (Ln (Lz _))).mono ?_;rintro e w2 ⟨rfl,R2⟩)
     go_ret
     exact⟨rfl,(R.out.later (Ln (Lz _))).trans R2.out⟩
 · rw [if_neg (fun x=>h0 x.1)]
   have h3:(cd != 0)=true:=by simpa using h0
   replace R:Hid (Ss q w w s ⟨(a:Int),cd⟩):=R
   have hfail:Hid (∀W,Later w W→Calls Tryz.prog 16 #[.pointer (some ⟨q,0,none⟩),.int .i64 1506] W fun e' w'=>e'=.returned (.tuple #[])∧Hid (Ss q W w' s (sfail ⟨(a:Int),cd⟩ 1506))):=fun W hW=>sfail_any 1506 W (R.out.later hW).2
   clear h hin ha
   go_enter Tryz.func36,Tryz.ntmps36
   go_wp2_with fail
   go_quiet (fail)
   go_wp2_with (go_at_call 16;refine (hfail.out _ (Ln (Lz _))).mono ?_;rintro e w2 ⟨rfl,R2⟩)
   go_ret
   exact⟨rfl,(R.out.later (Ln (Lz _))).trans R2.out⟩
theorem snum_any (hs:s.size<9223372036854775000) (w:World) (h:w.rowIs q 48 3 (sF s st)) :
    Calls Tryz.prog 31 #[.pointer (some ⟨q,0,none⟩)] w fun e' w'=>e'=.returned (.int .i64 (snum s st).1)∧Hid (Ss q w w' s (snum s st).2):=by
 have R:=Ss.start h
 obtain⟨a0,cd⟩:=st
 have c0:w.cell? ⟨q,0,none⟩=some (.string s):=R.cell 0 (by decide)
 have c1:w.cell? ⟨q,1,none⟩=some (.int .i64 a0):=R.cell 1 (by decide)
 have c2:w.cell? ⟨q,2,none⟩=some (.int .i64 cd):=R.cell 2 (by decide)
 have f1:=R.frozen 1
 have hl:=cell_lt c2
 unfold snum
 simp only []
 have hu:Hid (∀W,Calls Tryz.prog 12 #[.string s,.int .i64 a0,.int .i64 32] W fun e w'=>e=.returned (.tuple #[.int .i64 (ulR s a0 32).1,.int .i64 (ulR s a0 32).2.1,.int .i64 (ulR s a0 32).2.2])∧w'=W):=unleb_any s hs a0 32
 generalize ulR s a0 32=X at *
 obtain⟨x,to,e⟩:=X
 simp only [] at hu ⊢
 have hfail:Hid (∀W,Later w W→Calls Tryz.prog 16 #[.pointer (some ⟨q,0,none⟩),.int .i64 1506] W fun e' w'=>e'=.returned (.tuple #[])∧Hid (Ss q W w' s (sfail ⟨a0,cd⟩ 1506))):=fun W hW=>sfail_any 1506 W (R.later hW).2
 replace R:Hid (Ss q w w s ⟨a0,cd⟩):=R
 clear h
 by_cases h0:cd=0
 · subst h0
   rw [if_neg (fun x=>x rfl)]
   by_cases h1:e=0
   · subst h1
     rw [if_pos rfl]
     go_enter Tryz.func31,Tryz.ntmps31
     go_wp2_with fail
     go_quiet (first|(go_at_call 12;exact Calls.quiet_of_same (hu.out _)))
     go_wp2_with fail
     go_ret
     exact⟨rfl,(R.out.later (Ln (Lz _))).set (st':=⟨to,0⟩) 1 _ sset1⟩
   · rw [if_neg h1]
     have n1:(e != 0)=true:=by simpa using h1
     go_enter Tryz.func31,Tryz.ntmps31
     go_wp2_with fail
     go_quiet (first|(go_at_call 12;exact Calls.quiet_of_same (hu.out _)))
     go_wp2_with (go_at_call 16;refine (hfail.out _ (Ln (Lz _))).mono ?_;rintro e1 w2 ⟨rfl,R2⟩)
     go_ret
     exact⟨rfl,(R.out.later (Ln (Lz _))).trans R2.out⟩
 · rw [if_pos h0]
   have h3:(cd != 0)=true:=by simpa using h0
   go_enter Tryz.func31,Tryz.ntmps31
   go_wp2_with fail
   go_ret
   exact⟨rfl,R⟩
theorem smany_any (hs:s.size<9223372036854775000) (m:Int) (w:World) (h:w.rowIs q 48 3 (sF s st)) :
    Calls Tryz.prog 27 #[.pointer (some ⟨q,0,none⟩),.int .i64 m] w fun e' w'=>e'=.returned (.int .i64 (smany s m st).1)∧Hid (Ss q w w' s (smany s m st).2):=by
 have hb:Hid (Calls Tryz.prog 31 #[.pointer (some ⟨q,0,none⟩)] w fun e' w'=>e'=.returned (.int .i64 (snum s st).1)∧Hid (Ss q w w' s (snum s st).2)):=snum_any hs w h
 have hf:Hid (∀W,Ss q w W s (snum s st).2→Calls Tryz.prog 16 #[.pointer (some ⟨q,0,none⟩),.int .i64 1508] W fun e' w'=>e'=.returned (.tuple #[])∧Hid (Ss q W w' s (sfail (snum s st).2 1508))):=fun W hW=>sfail_any 1508 W hW.2
 unfold smany
 generalize snum s st=K at *
 obtain⟨b,st1⟩:=K
 simp only [] at hb hf ⊢
 clear h
 by_cases h0:m<b
 · rw [if_pos h0]
   go_enter Tryz.func27,Tryz.ntmps27
   go_wp2_with (first|(go_at_call 31;refine hb.out.mono ?_;rintro e1 w1 ⟨rfl,R1⟩)|(go_at_call 16;refine (hf.out _ R1.out).mono ?_;rintro e1 w2 ⟨rfl,R2⟩))
   go_ret
   exact⟨rfl,R1.out.trans R2.out⟩
 · rw [if_neg h0]
   go_enter Tryz.func27,Tryz.ntmps27
   go_wp2_with (go_at_call 31;refine hb.out.mono ?_;rintro e1 w1 ⟨rfl,R1⟩)
   go_ret
   exact⟨rfl,R1⟩
theorem smust_any (hs:s.size<9223372036854775000) (hin:Sin s st) (b:Int) (w:World) (h:w.rowIs q 48 3 (sF s st)) :
    Calls Tryz.prog 28 #[.pointer (some ⟨q,0,none⟩),.int .i64 b] w fun e' w'=>e'=.returned (.tuple #[])∧Hid (Ss q w w' s (smust s b st)):=by
 have hb:Hid (Calls Tryz.prog 36 #[.pointer (some ⟨q,0,none⟩)] w fun e' w'=>e'=.returned (.int .i64 (sbyte s st).1)∧Hid (Ss q w w' s (sbyte s st).2)):=sbyte_any hs hin w h
 have hf:Hid (∀W,Ss q w W s (sbyte s st).2→Calls Tryz.prog 16 #[.pointer (some ⟨q,0,none⟩),.int .i64 1506] W fun e' w'=>e'=.returned (.tuple #[])∧Hid (Ss q W w' s (sfail (sbyte s st).2 1506))):=fun W hW=>sfail_any 1506 W hW.2
 unfold smust
 generalize sbyte s st=K at *
 obtain⟨x,st1⟩:=K
 simp only [] at hb hf ⊢
 clear h
 by_cases h0:x=b
 · subst h0
   rw [if_pos rfl]
   go_enter Tryz.func28,Tryz.ntmps28
   go_wp2_with (go_at_call 36;refine hb.out.mono ?_;rintro e1 w1 ⟨rfl,R1⟩)
   go_end0
   exact⟨rfl,R1⟩
 · rw [if_neg h0]
   have h1:(x != b)=true:=by simpa using h0
   go_enter Tryz.func28,Tryz.ntmps28
   go_wp2_with (first|(go_at_call 36;refine hb.out.mono ?_;rintro e1 w1 ⟨rfl,R1⟩)|(go_at_call 16;refine (hf.out _ R1.out).mono ?_;rintro e1 w2 ⟨rfl,R2⟩))
   go_end0
   exact⟨rfl,R1.out.trans R2.out⟩
theorem sbyte_pos (hin:Sin s st):0≤(sbyte s st).1∧(sbyte s st).1<256:=by
 unfold sbyte
 split
 · exact bt_lt _ _
 · exact⟨Int.le_refl _,by show (0:Int)<256;decide⟩
end Go.Proofs.YtngciahmoenkiaaGreat
namespace Go.Proofs.YtngciahmoenkiaaGreat
open Go.RowKit
variable {q:Nat} {w wr wr':World} {s:ByteArray} {st st':Sst}
theorem sname_any (hs:s.size<9223372036854775000) (w:World) (h:w.rowIs q 48 3 (sF s st)) :
    Calls Tryz.prog 13 #[.pointer (some ⟨q,0,none⟩)] w fun e' w'=>e'=.returned (.string (sname s st).1)∧Hid (Ss q w w' s (sname s st).2):=by
 have R:=Ss.start h
 obtain⟨a0,cd⟩:=st
 have c0:w.cell? ⟨q,0,none⟩=some (.string s):=R.cell 0 (by decide)
 have c1:w.cell? ⟨q,1,none⟩=some (.int .i64 a0):=R.cell 1 (by decide)
 have c2:w.cell? ⟨q,2,none⟩=some (.int .i64 cd):=R.cell 2 (by decide)
 have f1:=R.frozen 1
 have hl:=cell_lt c2
 unfold sname
 simp only []
 have hu:Hid (∀W,Calls Tryz.prog 26 #[.string s,.int .i64 a0] W fun e w'=>e=.returned (.tuple #[.string (unR s a0).1,.int .i64 (unR s a0).2.1,.int .i64 (unR s a0).2.2])∧w'=W):=unname_any s hs a0
 generalize unR s a0=X at *
 obtain⟨x,to,e⟩:=X
 simp only [] at hu ⊢
 have hfail:Hid (∀(er:Int) W,Later w W→Calls Tryz.prog 16 #[.pointer (some ⟨q,0,none⟩),.int .i64 er] W fun e' w'=>e'=.returned (.tuple #[])∧Hid (Ss q W w' s (sfail ⟨a0,cd⟩ er))):=fun er W hW=>sfail_any er W (R.later hW).2
 replace R:Hid (Ss q w w s ⟨a0,cd⟩):=R
 clear h
 by_cases h0:cd=0
 · subst h0
   rw [if_neg (fun x=>x rfl)]
   by_cases h1:e=0
   · subst h1
     rw [if_pos rfl]
     go_enter Tryz.func13,Tryz.ntmps13
     go_wp2_with fail
     go_quiet (first|(go_at_call 26;exact Calls.quiet_of_same (hu.out _)))
     go_wp2_with fail
     go_ret
     exact⟨rfl,(R.out.later (Ln (Lz _))).set (st':=⟨to,0⟩) 1 _ sset1⟩
   · rw [if_neg h1]
     have n1:=beq_false h1
     by_cases h2:e=1301
     · subst h2
       rw [if_pos rfl]
       go_enter Tryz.func13,Tryz.ntmps13
       go_wp2_with fail
       go_quiet (first|(go_at_call 26;exact Calls.quiet_of_same (hu.out _)))
       go_wp2_with (go_at_call 16;refine (hfail.out 1508 _ (Ln (Lz _))).mono ?_;rintro e1 w2 ⟨rfl,R2⟩)
       go_ret
       exact⟨rfl,(R.out.later (Ln (Lz _))).trans R2.out⟩
     · rw [if_neg h2]
       have n2:=beq_false h2
       go_enter Tryz.func13,Tryz.ntmps13
       go_wp2_with fail
       go_quiet (first|(go_at_call 26;exact Calls.quiet_of_same (hu.out _)))
       go_wp2_with (go_at_call 16;refine (hfail.out 1506 _ (Ln (Lz _))).mono ?_;rintro e1 w2 ⟨rfl,R2⟩)
       go_ret
       exact⟨rfl,(R.out.later (Ln (Lz _))).trans R2.out⟩
 · rw [if_pos h0]
   have h3:(cd != 0)=true:=by simpa using h0
   go_enter Tryz.func13,Tryz.ntmps13
   go_wp2_with fail
   go_ret
   exact⟨rfl,R⟩
theorem skind_any (hs:s.size<9223372036854775000) (hin:Sin s st) (w:World) (h:w.rowIs q 48 3 (sF s st)) :
    Calls Tryz.prog 33 #[.pointer (some ⟨q,0,none⟩)] w fun e' w'=>e'=.returned (.int .i64 (skind s st).1)∧Hid (Ss q w w' s (skind s st).2):=by
 have hb:Hid (Calls Tryz.prog 36 #[.pointer (some ⟨q,0,none⟩)] w fun e' w'=>e'=.returned (.int .i64 (sbyte s st).1)∧Hid (Ss q w w' s (sbyte s st).2)):=sbyte_any hs hin w h
 have hf:Hid (∀W,Ss q w W s (sbyte s st).2→Calls Tryz.prog 16 #[.pointer (some ⟨q,0,none⟩),.int .i64 1506] W fun e' w'=>e'=.returned (.tuple #[])∧Hid (Ss q W w' s (sfail (sbyte s st).2 1506))):=fun W hW=>sfail_any 1506 W hW.2
 unfold skind
 generalize sbyte s st=K at *
 obtain⟨x,a1,cd⟩:=K
 simp only [] at hb hf ⊢
 clear h
 have htm:Hid (∀W:World,Calls Tryz.prog 44 #[.int .i64 x] W fun e w'=>e=.returned (.bool (decide (124≤x∧x≤127)))∧w'=W):=typeMay_any x
 by_cases h0:cd=0
 · subst h0
   by_cases h1:124≤x∧x≤127
   · rw [if_neg (fun y=>y.2 h1)]
     rw [decide_eq_true h1] at htm
     clear h1
     go_enter Tryz.func33,Tryz.ntmps33
     go_wp2_with (first|(go_at_call 36;refine hb.out.mono ?_;rintro e1 w1 ⟨rfl,R1⟩;have c2:w1.cell? ⟨q,2,none⟩=some (.int .i64 0):=R1.out.cell 2 (by decide);have hl:=cell_lt c2)|(go_at_call 44;refine (htm.out _).mono ?_;rintro e1 w' ⟨rfl,hw⟩;have hw:=hw.symm;subst hw)|(go_at_call 16;refine (hf.out _ R1.out).mono ?_;rintro e1 w2 ⟨rfl,R2⟩))
     go_ret
     exact⟨rfl,R1⟩
   · rw [if_pos ⟨rfl,h1⟩]
     rw [decide_eq_false h1] at htm
     clear h1
     go_enter Tryz.func33,Tryz.ntmps33
     go_wp2_with (first|(go_at_call 36;refine hb.out.mono ?_;rintro e1 w1 ⟨rfl,R1⟩;have c2:w1.cell? ⟨q,2,none⟩=some (.int .i64 0):=R1.out.cell 2 (by decide);have hl:=cell_lt c2)|(go_at_call 44;refine (htm.out _).mono ?_;rintro e1 w' ⟨rfl,hw⟩;have hw:=hw.symm;subst hw)|(go_at_call 16;refine (hf.out _ R1.out).mono ?_;rintro e1 w2 ⟨rfl,R2⟩))
     go_ret
     exact⟨rfl,R1.out.trans R2.out⟩
 · rw [if_neg (fun y=>h0 y.1)]
   have h3:(cd==0)=false:=beq_false h0
   go_enter Tryz.func33,Tryz.ntmps33
   go_wp2_with (first|(go_at_call 36;refine hb.out.mono ?_;rintro e1 w1 ⟨rfl,R1⟩;have c2:w1.cell? ⟨q,2,none⟩=some (.int .i64 cd):=R1.out.cell 2 (by decide);have hl:=cell_lt c2)|(go_at_call 44;refine (htm.out _).mono ?_;rintro e1 w' ⟨rfl,hw⟩;have hw:=hw.symm;subst hw)|(go_at_call 16;refine (hf.out _ R1.out).mono ?_;rintro e1 w2 ⟨rfl,R2⟩))
   go_ret
   exact⟨rfl,R1⟩
theorem sflag_any (hs:s.size<9223372036854775000) (hin:Sin s st) (w:World) (h:w.rowIs q 48 3 (sF s st)) :
    Calls Tryz.prog 34 #[.pointer (some ⟨q,0,none⟩)] w fun e' w'=>e'=.returned (.bool (sflag s st).1)∧Hid (Ss q w w' s (sflag s st).2):=by
 have hb:Hid (Calls Tryz.prog 36 #[.pointer (some ⟨q,0,none⟩)] w fun e' w'=>e'=.returned (.int .i64 (sbyte s st).1)∧Hid (Ss q w w' s (sbyte s st).2)):=sbyte_any hs hin w h
 have hf:Hid (∀W,Ss q w W s (sbyte s st).2→Calls Tryz.prog 16 #[.pointer (some ⟨q,0,none⟩),.int .i64 1506] W fun e' w'=>e'=.returned (.tuple #[])∧Hid (Ss q W w' s (sfail (sbyte s st).2 1506))):=fun W hW=>sfail_any 1506 W hW.2
 unfold sflag
 generalize sbyte s st=K at *
 obtain⟨x,st1⟩:=K
 simp only [] at hb hf ⊢
 clear h
 by_cases h0:1<x
 · rw [if_pos h0,decide_eq_false (by omega:¬x=1)]
   have h1:(x==1)=false:=beq_false (by omega)
   go_enter Tryz.func34,Tryz.ntmps34
   go_wp2_with (first|(go_at_call 36;refine hb.out.mono ?_;rintro e1 w1 ⟨rfl,R1⟩)|(go_at_call 16;refine (hf.out _ R1.out).mono ?_;rintro e1 w2 ⟨rfl,R2⟩))
   go_ret
   exact⟨rfl,R1.out.trans R2.out⟩
 · rw [if_neg h0]
   go_enter Tryz.func34,Tryz.ntmps34
   go_wp2_with (go_at_call 36;refine hb.out.mono ?_;rintro e1 w1 ⟨rfl,R1⟩)
   go_ret
   exact⟨by by_cases hx:x=1 <;> simp [hx],R1⟩
theorem slim_any (hs:s.size<9223372036854775000) (hin:Sin s st) (w:World) (h:w.rowIs q 48 3 (sF s st)) :
    Calls Tryz.prog 32 #[.pointer (some ⟨q,0,none⟩)] w fun e' w'=>e'=.returned (.agg #[.int .i64 (slim s st).1.1,.int .i64 (slim s st).1.2])∧Hid (Ss q w w' s (slim s st).2):=by
 have hq:=h.lt
 have hb:Hid (∀W,Later w W→Calls Tryz.prog 34 #[.pointer (some ⟨q,0,none⟩)] W fun e' w'=>e'=.returned (.bool (sflag s st).1)∧Hid (Ss q W w' s (sflag s st).2)):=fun W hW=>sflag_any hs hin W (rowIs_later hW h)
 have hn:Hid (∀(st1:Sst) (W:World),W.rowIs q 48 3 (sF s st1)→Calls Tryz.prog 31 #[.pointer (some ⟨q,0,none⟩)] W fun e' w'=>e'=.returned (.int .i64 (snum s st1).1)∧Hid (Ss q W w' s (snum s st1).2)):=fun st1 W hW=>snum_any hs W hW
 unfold slim
 generalize sflag s st=K at *
 obtain⟨b,st1⟩:=K
 simp only [] at hb ⊢
 cases b with
 | false =>
  rw [if_pos rfl]
  have h1:=hn.out st1
  generalize snum s st1=K2 at *
  obtain⟨x,st2⟩:=K2
  simp only [] at h1 ⊢
  replace h1:Hid _:=h1
  have hp:=row_new w 79 [.int .i64 0,.int .i64 0]
  have R0:Hid (Ss q w (w.alloc (.cells #[.int .i64 0,.int .i64 0] 79)) s st):=(Ss.start h).later (La (Lz _))
  replace hp:Hid ((w.alloc (.cells #[.int .i64 0,.int .i64 0] 79)).rowIs w.heap.size 79 2 (fun j=>[.int .i64 0,.int .i64 0].getD j undef)):=hp
  clear h
  go_enter Tryz.func32,Tryz.ntmps32
  go_wp2_with (first|(go_at_call 34;refine (hb.out _ (by repeat first|exact Lz _|apply La)).mono ?_;rintro e1 w1 ⟨rfl,R1⟩)|(go_at_call 31;refine (h1.out _ R1.out.2).mono ?_;rintro e1 w2 ⟨rfl,R2⟩;have r2:=(R1.out.trans R2.out).1.row (by omega) hp.out;have k0:w2.cell? ⟨w.heap.size,0,none⟩=some (.int .i64 0):=r2.cell (i:=0) (by decide);have k1:w2.cell? ⟨w.heap.size,1,none⟩=some (.int .i64 0):=r2.cell (i:=1) (by decide);have g0:=r2.frozen 0;have g1:=r2.frozen 1;have hlt:=cell_lt k0))
  refine bodyPost_ret (v:=.agg #[.int .i64 x,.int .i64 (-1)]) (by simp [results,Tryz.results32,go_sem,k0,k1,hlt]) rfl ⟨rfl,(((R0.out.trans R1.out).trans R2.out).put (Nat.le_refl _) hq 0 _).put (Nat.le_refl _) hq 1 _⟩
 | true =>
  rw [if_neg (by decide)]
  have h1:=hn.out st1
  generalize snum s st1=K2 at *
  obtain⟨x,st2⟩:=K2
  simp only [] at h1 ⊢
  have h2:=hn.out st2
  generalize snum s st2=K3 at *
  obtain⟨y,st3⟩:=K3
  simp only [] at h2 ⊢
  replace h1:Hid _:=h1
  replace h2:Hid _:=h2
  clear hn
  have hp:Hid ((w.alloc (.cells #[.int .i64 0,.int .i64 0] 79)).rowIs w.heap.size 79 2 (fun j=>[.int .i64 0,.int .i64 0].getD j undef)):=row_new w 79 [.int .i64 0,.int .i64 0]
  have R0:Hid (Ss q w (w.alloc (.cells #[.int .i64 0,.int .i64 0] 79)) s st):=(Ss.start h).later (La (Lz _))
  clear h
  go_enter Tryz.func32,Tryz.ntmps32
  go_wp2_with fail
  refine (hb.out _ (by repeat first|exact Lz _|apply La)).mono ?_
  rintro e1 w1 ⟨rfl,R1⟩
  go_wp2_with fail
  refine (h1.out _ R1.out.2).mono ?_
  rintro e1 w2 ⟨rfl,R2⟩
  clear h1 hb
  go_wp2_with fail
  refine (h2.out _ R2.out.2).mono ?_
  rintro e1 w3 ⟨rfl,R3⟩
  clear h2
  have r2:=((R1.out.trans R2.out).trans R3.out).1.row (by omega) hp.out
  have k0:w3.cell? ⟨w.heap.size,0,none⟩=some (.int .i64 0):=r2.cell (i:=0) (by decide)
  have k1:w3.cell? ⟨w.heap.size,1,none⟩=some (.int .i64 0):=r2.cell (i:=1) (by decide)
  have g0:=r2.frozen 0
  have g1:=r2.frozen 1
  have hlt:=cell_lt k0
  clear r2
  go_wp2_with fail
  refine bodyPost_ret (v:=.agg #[.int .i64 x,.int .i64 y]) (by simp [results,Tryz.results32,go_sem,k0,k1,hlt]) rfl ⟨rfl,((((R0.out.trans R1.out).trans R2.out).trans R3.out).put (Nat.le_refl _) hq 0 _).put (Nat.le_refl _) hq 1 _⟩
end Go.Proofs.YtngciahmoenkiaaGreat
namespace Go.Proofs.YtngciahmoenkiaaGreat
open Go.RowKit
def sinstrs (s:ByteArray) (st:Sst):Fs×Sst:=if ¬st.code=0 then (.nil,st) else if (unI s st.at_).2.2=0 then ((unI s st.at_).1,{ st with at_:=(unI s st.at_).2.1 }) else if (unI s st.at_).2.2=1402 then (.nil,sfail st 1507) else (.nil,sfail st 1506)
variable {q:Nat} {w wr wr':World} {s:ByteArray} {st st':Sst}
theorem sinstrs_any (hs:s.size<9223372036854775000) (w:World) (h:w.rowIs q 48 3 (sF s st)) :
    Calls Tryz.prog 35 #[.pointer (some ⟨q,0,none⟩)] w fun e' w'=>∃A c,e'=.returned (.slice A (sinstrs s st).1.len c)∧Hid (Tr (w.heap.size≤·) w' A (sinstrs s st).1)∧Hid (Ss q w w' s (sinstrs s st).2):=by
 have R:=Ss.start h
 obtain⟨a0,cd⟩:=st
 have c0:w.cell? ⟨q,0,none⟩=some (.string s):=R.cell 0 (by decide)
 have c1:w.cell? ⟨q,1,none⟩=some (.int .i64 a0):=R.cell 1 (by decide)
 have c2:w.cell? ⟨q,2,none⟩=some (.int .i64 cd):=R.cell 2 (by decide)
 have f1:=R.frozen 1
 have hl:=cell_lt c2
 unfold sinstrs
 simp only []
 have hu:Hid (∀W:World,Calls Tryz.prog 45 #[.string s,.int .i64 a0] W fun e w'=>∃A c,e=.returned (.tuple #[.slice A (unI s a0).1.len c,.int .i64 (unI s a0).2.1,.int .i64 (unI s a0).2.2])∧Hid (Tr (W.heap.size≤·) w' A (unI s a0).1)∧Hid (Later W w')):=fun W=>uninstrs_any s hs a0 W
 generalize unI s a0=X at *
 obtain⟨f,to,e⟩:=X
 simp only [] at hu ⊢
 have hfail:Hid (∀(er:Int) W,Later w W→Calls Tryz.prog 16 #[.pointer (some ⟨q,0,none⟩),.int .i64 er] W fun e' w'=>e'=.returned (.tuple #[])∧Hid (Ss q W w' s (sfail ⟨a0,cd⟩ er))):=fun er W hW=>sfail_any er W (R.later hW).2
 replace R:Hid (Ss q w w s ⟨a0,cd⟩):=R
 clear h
 by_cases h0:cd=0
 · subst h0
   rw [if_neg (fun x=>x rfl)]
   by_cases h1:e=0
   · subst h1
     rw [if_pos rfl]
     go_enter Tryz.func35,Tryz.ntmps35
     go_wp2_with fail
     go_region_law (go_simp;go_at_call 45;refine (hu.out _).mono ?_;rintro e1 w1 ⟨A,c,rfl,T1,l1⟩;have L1:Hid (Later w w1):=(Ld (Lz _)).trans l1.out;have k1:=L1.out.cell_of c1;have g1:=(R.out.later L1.out).frozen 1;have hl1:=cell_lt k1;clear l1)
     all_goals
      go_wp2_with fail
      go_ret
      exact⟨A,c,rfl,T1.out.keep (fun k hk _=>Below.heap_setCell w1 ⟨q,1,none⟩ _ k (fun e=>by have e:k=q:=e;have hk:w.heap.size≤k:=hk;omega)),(R.out.later L1.out).set (st':=⟨to,0⟩) 1 _ sset1⟩
   · rw [if_neg h1]
     have n1:=beq_false h1
     by_cases h2:e=1402
     · subst h2
       rw [if_pos rfl]
       go_enter Tryz.func35,Tryz.ntmps35
       go_wp2_with fail
       go_region_law (go_simp;go_at_call 45;refine (hu.out _).mono ?_;rintro e1 w1 ⟨A,c,rfl,T1,l1⟩;have L1:Hid (Later w w1):=(Ld (Lz _)).trans l1.out;clear l1)
       all_goals
        go_wp2_with (go_at_call 16;refine (hfail.out 1507 _ L1.out).mono ?_;rintro e1 w2 ⟨rfl,R2⟩)
        go_ret
        exact⟨none,0,rfl,Or.inl rfl,(R.out.later L1.out).trans R2.out⟩
     · rw [if_neg h2]
       have n2:=beq_false h2
       go_enter Tryz.func35,Tryz.ntmps35
       go_wp2_with fail
       go_region_law (go_simp;go_at_call 45;refine (hu.out _).mono ?_;rintro e1 w1 ⟨A,c,rfl,T1,l1⟩;have L1:Hid (Later w w1):=(Ld (Lz _)).trans l1.out;clear l1)
       all_goals
        go_wp2_with (go_at_call 16;refine (hfail.out 1506 _ L1.out).mono ?_;rintro e1 w2 ⟨rfl,R2⟩)
        go_ret
        exact⟨none,0,rfl,Or.inl rfl,(R.out.later L1.out).trans R2.out⟩
 · rw [if_pos h0]
   have h3:(cd != 0)=true:=by simpa using h0
   go_enter Tryz.func35,Tryz.ntmps35
   go_wp2_with fail
   go_ret
   exact⟨none,0,rfl,Or.inl rfl,R⟩
end Go.Proofs.YtngciahmoenkiaaGreat
namespace Go.Proofs.YtngciahmoenkiaaGreat
open Go.RowKit
def srep {α:Type} (f:Sst→α×Sst):Nat→Sst→List α×Sst
 | 0,st=>([],st)
 | k+1,st=>if st.code=0 then ((f st).1 :: (srep f k (f st).2).1,(srep f k (f st).2).2) else ([],st)
theorem srep_bad {α:Type} (f:Sst→α×Sst) (k:Nat) (st:Sst) (h:¬st.code=0):srep f k st=([],st):=by
 cases k with
 | zero=>rfl
 | succ k=>rw [srep,if_neg h]
theorem srep_ok {α:Type} (f:Sst→α×Sst) (k:Nat) (st:Sst) (h:st.code=0):srep f (k+1) st=((f st).1 :: (srep f k (f st).2).1,(srep f k (f st).2).2):=by rw [srep,if_pos h]
theorem srep_len {α:Type} (f:Sst→α×Sst):∀(k:Nat) (st:Sst),(srep f k st).1.length≤k
 | 0,st=>Nat.le_refl _
 | k+1,st=>by
  rw [srep]
  split
  · simp only [List.length_cons];have:=srep_len f k (f st).2;omega
  · exact Nat.zero_le _
theorem srep_in {α:Type} {s:ByteArray} (f:Sst→α×Sst) (hf:∀st,Sin s st→Sin s (f st).2):∀(k:Nat) (st:Sst),Sin s st→Sin s (srep f k st).2
 | 0,st,h=>h
 | k+1,st,h=>by
  rw [srep]
  split
  · exact srep_in f hf k _ (hf st h)
  · exact h
theorem skind_in {s:ByteArray} {st:Sst} (h:Sin s st):Sin s (skind s st).2:=by
 unfold skind
 simp only []
 split
 · exact sfail_in (sbyte_in h) _
 · exact sbyte_in h
theorem sflag_in {s:ByteArray} {st:Sst} (h:Sin s st):Sin s (sflag s st).2:=by
 unfold sflag
 simp only []
 split
 · exact sfail_in (sbyte_in h) _
 · exact sbyte_in h
theorem smust_in {s:ByteArray} {st:Sst} (h:Sin s st) (b:Int):Sin s (smust s b st):=by
 unfold smust
 split
 · exact sbyte_in h
 · exact sfail_in (sbyte_in h) _
theorem slim_in {s:ByteArray} {st:Sst} (h:Sin s st):Sin s (slim s st).2:=by
 unfold slim
 split
 · exact snum_in (sflag_in h)
 · exact snum_in (snum_in (sflag_in h))
abbrev f1 (x:Int):List Fd:=[fN x]
theorem flat1 (xs:List Int) (j:Nat) (hj:j<xs.length):(xs.flatMap f1)[j]?=some (fN (xs.getD j 0)):=by
 have:=flat_get f1 1 (fun _=>rfl) xs j 0 (by decide)
 rw [Nat.mul_one,Nat.add_zero] at this
 rw [this,List.getElem?_eq_getElem hj]
 simp [List.getD,hj]
theorem Rt.lq {Z:Nat→Prop} {w:World} {A:Option Addr} {xs:List Int} (h:Rt f1 Z w A xs):Lq Z w A xs:=by
 rcases h with h|⟨g,o,L,e,hz,hc,hi⟩
 · subst h
   exact⟨Or.inl rfl,fun x=>absurd rfl x⟩
 · subst e
   refine⟨Or.inr ⟨g,o,rfl,fun j hj=>?_⟩,fun _ a ha=>by cases ha;exact hz⟩
   obtain⟨v,h1,h2⟩:=hi.get (flat1 xs j hj)
   rw [hc j v h1]
   exact congrArg some h2
theorem ti_int:Ti 24 3 1 8:=ti_of Tryz.underlying24 (by kernel_rfl) (by decide)
def skinds (s:ByteArray) (st:Sst):List Int×Sst:=srep (skind s) (smany s 1024 st).1.toNat (smany s 1024 st).2
theorem skinds_in {s:ByteArray} {st:Sst} (h:Sin s st):Sin s (skinds s st).2:=srep_in _ (fun _ h=>skind_in h) _ _ (smany_in h _)
theorem snum_rng {s:ByteArray} {st:Sst}:0≤(snum s st).1∧(snum s st).1<34359738368:=by
 unfold snum
 split
 · exact⟨Int.le_refl _,by show (0:Int)<_;decide⟩
 · split
   · rename_i h
     have:=ul_rng s st.at_ h
     exact⟨this.1,this.2.1⟩
   · exact⟨Int.le_refl _,by show (0:Int)<_;decide⟩
theorem smany_rng {s:ByteArray} {st:Sst} {m:Int} (hm:0≤m):0≤(smany s m st).1∧(smany s m st).1≤m:=by
 unfold smany
 split
 · exact⟨Int.le_refl _,hm⟩
 · exact⟨snum_rng.1,by omega⟩
variable {q:Nat} {w wr wr':World} {s:ByteArray} {st st':Sst}
theorem skinds_any (hs:s.size<9223372036854775000) (hin:Sin s st) (w:World) (h:w.rowIs q 48 3 (sF s st)) :
    Calls Tryz.prog 29 #[.pointer (some ⟨q,0,none⟩)] w fun e' w'=>∃A c,e'=.returned (.slice A (skinds s st).1.length c)∧Hid (Lq (w.heap.size≤·) w' A (skinds s st).1)∧Hid (Ss q w w' s (skinds s st).2):=by
 have hq:=h.lt
 have hm:Hid (Calls Tryz.prog 27 #[.pointer (some ⟨q,0,none⟩),.int .i64 1024] w fun e' w'=>e'=.returned (.int .i64 (smany s 1024 st).1)∧Hid (Ss q w w' s (smany s 1024 st).2)):=smany_any hs 1024 w h
 have hr:=smany_rng (s:=s) (st:=st) (m:=1024) (by decide)
 have hi1:=smany_in hin 1024
 unfold skinds
 generalize smany s 1024 st=K at *
 obtain⟨k0,st1⟩:=K
 simp only [] at hm hr hi1 ⊢
 obtain⟨k,rfl⟩:=Int.eq_ofNat_of_zero_le hr.1
 rw [Int.toNat_natCast]
 have hk:k≤1024:=by omega
 replace hi1:Hid (Sin s st1):=hi1
 clear hin h hr
 go_enter Tryz.func29,Tryz.ntmps29
 go_wp2_with (go_at_call 27;refine hm.out.mono ?_;rintro e1 w1 ⟨rfl,R1⟩)
 go_loopw [3,5] (fun v i wr=>∃(d:List Int) (st2:Sst),i=.int .i64 (d.length:Nat)∧d.length≤k∧Mk f1 w.heap.size 3 1 wr v d∧Ss q w wr s st2∧Sin s st2∧srep (skind s) k st1=(d++(srep (skind s) (k - d.length) st2).1,(srep (skind s) (k - d.length) st2).2)) (fun v i _=>k - (intOf i).toNat)
 case atStart=>exact⟨[],st1,rfl,Nat.zero_le _,Mk.start _,R1.out,hi1.out,rfl⟩
 case round =>
  obtain⟨d,st2,rfl,hd,hM,R2,hi2,htot⟩:=hrel
  obtain⟨A,cap,rfl⟩:=hM.form
  obtain⟨a2,cd⟩:=st2
  have c2:wr.cell? ⟨q,2,none⟩=some (.int .i64 cd):=R2.cell 2 (by decide)
  have hl:=cell_lt c2
  by_cases hlt:d.length<k
  · have hl1:(d.length:Int)<(k:Int):=by omega
    by_cases hc:cd=0
    · subst hc
      have hkd:Hid (Calls Tryz.prog 33 #[.pointer (some ⟨q,0,none⟩)] wr fun e' w'=>e'=.returned (.int .i64 (skind s ⟨a2,0⟩).1)∧Hid (Ss q wr w' s (skind s ⟨a2,0⟩).2)):=skind_any hs hi2 wr R2.2
      obtain⟨m,hm2⟩:∃m,k - d.length=m+1:=⟨k - d.length - 1,by omega⟩
      rw [hm2,srep_ok _ _ _ rfl] at htot
      have hi3:=skind_in hi2
      generalize skind s ⟨a2,0⟩=K3 at *
      obtain⟨x,st3⟩:=K3
      simp only [] at hkd htot hi3
      have hmore:Hid (∀w2,Ss q wr w2 s st3→∃g cap' w',(Builtin.append_ #[24,24] 24 #[.slice A d.length cap,.slice (some ⟨w2.heap.size,0,none⟩) 1 1]).run Tryz.prog (w2.alloc (.cells #[.int .i64 x] 3))=.ok (.slice (some ⟨g,0,none⟩) (d.length+1) cap') w'∧Mk f1 w.heap.size 3 1 w' (.slice (some ⟨g,0,none⟩) (d.length+1) cap') (d++[x])∧Ss q w w' s st3):=fun w2 R3=>hM.read R2 hq ti_int 24 x rfl [.int .i64 x] (by omega) (by omega) R3 ⟨_,[],rfl,rfl,rfl⟩
      have hfin:Hid (d.length+1≤k∧Sin s st3∧srep (skind s) k st1=((d++[x])++(srep (skind s) (k - (d++[x]).length) st3).1,(srep (skind s) (k - (d++[x]).length) st3).2)):=by
       refine⟨hlt,hi3,?_⟩
       rw [show k - (d++[x]).length=m by rw [List.length_append,List.length_singleton];omega,htot,List.append_assoc]
       rfl
      clear htot hM R2 hi2 hi3 hm2 hd
      go_wp2_with (first|(go_at_call 33;refine hkd.out.mono ?_;clear hkd;rintro e1 w2 ⟨rfl,R3⟩;obtain⟨g,cap',w',r2,M',R4⟩:=hmore.out w2 R3.out;clear hmore;replace r2:Hid _:=r2;replace M':Hid _:=M';replace R4:Hid _:=R4)|(at_builtin;refine wpList_app rfl _ _ 24 rfl _ _ _ rfl rfl r2.out ?_;clear r2))
      go_roundw
      case rel=>exact⟨d++[x],st3,by rw [List.length_append];go_num,by rw [List.length_append];exact hfin.out.1,M'.out,R4.out,hfin.out.2⟩
      case measure=>simp [intOf];omega
    · have hc2:(cd==0)=false:=beq_false hc
      rw [srep_bad (skind s) (k - d.length) ⟨a2,cd⟩ hc,List.append_nil] at htot
      replace htot:Hid (srep (skind s) k st1=(d,⟨a2,cd⟩)):=htot
      have hfin:Hid (Lq (w.heap.size≤·) wr A d∧Ss q w wr s ⟨a2,cd⟩):=⟨hM.rt.lq,R2⟩
      clear hM R2 hi2
      go_wp2_with fail
      go_ret
      rw [htot.out]
      first|exact⟨A,cap,rfl,hfin.out.1,hfin.out.2⟩|exact⟨A,⟨cap,rfl⟩,hfin.out.1,hfin.out.2⟩
  · have hl1:¬(d.length:Int)<(k:Int):=by omega
    rw [show k - d.length=0 by omega] at htot
    simp only [srep,List.append_nil] at htot
    replace htot:Hid (srep (skind s) k st1=(d,⟨a2,cd⟩)):=htot
    have hfin:Hid (Lq (w.heap.size≤·) wr A d∧Ss q w wr s ⟨a2,cd⟩):=⟨hM.rt.lq,R2⟩
    clear hM R2 hi2
    go_wp2_with fail
    go_ret
    rw [htot.out]
    first|exact⟨A,cap,rfl,hfin.out.1,hfin.out.2⟩|exact⟨A,⟨cap,rfl⟩,hfin.out.1,hfin.out.2⟩
